/-
  Package maps: firstRefs, indexes: the index of a class's first ClassRef, by its name.
  Package class: firstTexts: of each text of a pool its first index.
-/
import Derived.Test.YtgihfcjddkpkaaaTy
import Derived.Test.YtgihfcjddkpkaaaMgApp
import Derived.Test.YtgihfcjddkpkaaaXa
import Derived.Maps.OwnSet
import Derived.StringKeys
namespace Go.Proofs.Ytgihfcjddkpkaaa
open Go.RowKit Go.Maps
set_option maxHeartbeats 1000000 in
theorem Class2_any (v : Value) (P : List K) (i : Int) (w : World) (h : KIn w v P) (hP : P.length ≤ 1048576) :
    Calls Try.prog 93 #[v, .int .i64 i] w fun e w' => e = .returned (.tuple #[.string ⟨(M.cls P i).toArray⟩, .bool (M.cok P i)]) ∧ Below w.heap.size w w' := by
  have hb0 := (Below.refl w.heap.size w).alloc (Nat.le_refl _) (.cells #[.int .u8 7] 5)
  have HH := hide (Has_any v _ P [7] i (w.alloc (.cells #[.int .u8 7] 5)) (h.below hb0) hP (UIn.made w 7) (by simp))
  rw [contains_one] at HH
  have HA := hide (fun (w1 : World) (hb : Below w.heap.size w w1) => KAt_any v P i w1 (h.below hb) hP)
  have HT := hide (fun (j : Int) (w1 : World) (hb : Below w.heap.size w w1) => Text_any v P j w1 (h.below hb) hP)
  have hca := (h.at_fit i).2.1
  obtain ⟨ad, cap, ev, _⟩ := h.ex
  subst ev
  unfold M.cls M.cok
  by_cases ht : M.tag P i = 7
  · rw [if_pos ht, decide_eq_true ht, Bool.true_and]
    rw [decide_eq_true ht] at HH
    generalize M.kAt P i = c at *
    clear ht
    go_enter Try.func93, Try.ntmps93
    go_wp2_with fail
    refine (unhide HH).mono ?_
    rintro e w1 ⟨rfl, hb1⟩
    have hb2 := hb0.trans (hb1.mono hb0.size)
    clear HH hb0 hb1
    go_wp2_with fail
    refine (unhide HA _ hb2).mono ?_
    rintro e w2 ⟨rfl, hb3⟩
    have hb4 := hb2.trans (hb3.mono hb2.size)
    have hfd := fldA c
    clear HA hb2 hb3
    unfold K.val K.cells
    go_wp2_with fail
    refine (unhide HT _ _ hb4).mono ?_
    rintro e w3 ⟨rfl, hb5⟩
    have hb6 := hb4.trans (hb5.mono hb4.size)
    clear HT hb4 hb5
    go_wp2
    go_ret2
    exact ⟨rfl, hb6⟩
  · rw [if_neg ht, decide_eq_false ht, Bool.false_and]
    rw [decide_eq_false ht] at HH
    clear ht HA HT
    go_enter Try.func93, Try.ntmps93
    go_wp2_with fail
    refine (unhide HH).mono ?_
    rintro e w1 ⟨rfl, hb1⟩
    have hb2 := hb0.trans (hb1.mono hb0.size)
    clear HH hb0 hb1
    go_wp2
    go_ret2
    exact ⟨rfl, hb2⟩
theorem law9 : Keyed Try.prog 9 := string_keyed Try.underlying9
theorem zero3 (w : World) : (zeroValue 3).run Try.prog w = .ok (.int .i64 0) w := by kernel_rfl
/-- A map that holds of each name the first of the indexes below m. -/
structure Ix (D : DataW Unit) (P : List K) (m : Nat) : Prop where
  map : IsMap D
  has : ∀ name : List UInt8, Maps.has D (.string name) = (M.idx P name m).isSome
  at_ : ∀ (name : List UInt8) (k : Nat), M.idx P name m = some k → D.atKey (.string name) (.lit (.int .i64 0)) = .lit (.int .i64 (k : Int))
theorem Ix.zero (P : List K) : Ix (.map []) P 0 := ⟨⟨[], rfl⟩, fun _ => rfl, fun _ _ h => by cases h⟩
theorem M.idx_step {P : List K} {m : Nat} {name : List UInt8} (h : ¬ (M.cok P (m : Int) = true ∧ M.cls P (m : Int) = name)) : M.idx P name (m + 1) = M.idx P name m := by
  rw [M.idx]
  cases M.idx P name m with
  | some k => rfl
  | none => simp only; rw [if_neg h]
theorem Ix.skip {D : DataW Unit} {P : List K} {m : Nat} (h : Ix D P m) (hc : M.cok P (m : Int) = false) : Ix D P (m + 1) :=
  ⟨h.map, fun n => by rw [M.idx_step (by rw [hc]; simp)]; exact h.has n, fun n k e => by rw [M.idx_step (by rw [hc]; simp)] at e; exact h.at_ n k e⟩
theorem Ix.had {D : DataW Unit} {P : List K} {m : Nat} (h : Ix D P m) (hh : Maps.has D (.string (M.cls P (m : Int))) = true) : Ix D P (m + 1) := by
  have key : ∀ n, M.idx P n (m + 1) = M.idx P n m := fun n => by
    by_cases e : M.cls P (m : Int) = n
    · rw [e] at hh
      rw [h.has n] at hh
      obtain ⟨k, hk⟩ := Option.isSome_iff_exists.1 hh
      rw [M.idx, hk]
    · exact M.idx_step (fun g => e g.2)
  exact ⟨h.map, fun n => by rw [key]; exact h.has n, fun n k e => by rw [key] at e; exact h.at_ n k e⟩
theorem Ix.put {D : DataW Unit} {P : List K} {m : Nat} (h : Ix D P m) (hc : M.cok P (m : Int) = true) (hh : Maps.has D (.string (M.cls P (m : Int))) = false) : Ix (D.put (.string (M.cls P (m : Int))) (.lit (.int .i64 (m : Int)))) P (m + 1) := by
  obtain ⟨es, rfl⟩ := h.map
  have hmap : IsMap ((DataW.map es).put (.string (M.cls P (m : Int))) (.lit (.int .i64 (m : Int)))) := ⟨_, rfl⟩
  have hn0 : M.idx P (M.cls P (m : Int)) m = none := by
    have := h.has (M.cls P (m : Int))
    rw [hh] at this
    simpa using this.symm
  have hself : M.idx P (M.cls P (m : Int)) (m + 1) = some m := by rw [M.idx, hn0]; simp [hc]
  refine ⟨hmap, fun n => ?_, fun n k e => ?_⟩
  · by_cases e : n = M.cls P (m : Int)
    · subst e
      rw [has_put_same (k := .string (M.cls P (m : Int))) ⟨es, rfl⟩ (show WideAt.IsKeyLit (.string (M.cls P (m : Int))) from trivial), hself]; rfl
    · rw [has_put_other (fun g => e (by cases g; rfl)), M.idx_step (fun g => e g.2.symm)]
      exact h.has n
  · by_cases e1 : n = M.cls P (m : Int)
    · subst e1
      rw [hself] at e
      cases e
      exact atKey_put_same (k := .string (M.cls P (m : Int))) ⟨es, rfl⟩ (show WideAt.IsKeyLit (.string (M.cls P (m : Int))) from trivial) _ _
    · rw [M.idx_step (fun g => e1 g.2.symm)] at e
      rw [atKey_put_other (fun g => e1 (by cases g; rfl))]
      exact h.at_ n k e
/-- The texts of a pool are no longer than a text can be. -/
def Txt (P : List K) : Prop := ∀ c ∈ P, c.text.length ≤ maxLen
theorem Txt.cls {P : List K} (h : Txt P) (i : Int) : (M.cls P i).length ≤ maxLen := by
  have ha : ∀ i, (M.kAt P i).text.length ≤ maxLen := fun i => by
    unfold M.kAt
    split
    · rename_i hi
      rw [getD_at _ _ (by omega)]
      exact h _ (List.getElem_mem _)
    · simp [K.zero]
  unfold M.cls M.text
  split
  · split
    · exact ha _
    · simp
  · simp
theorem key_of (s : List UInt8) (h : s.length ≤ maxLen) : keyOf Try.prog 9 (.string ⟨s.toArray⟩) = some (.string s) := by
  have := Go.WideMaps.keyOf_string_mk (P := Try.prog) Try.underlying9 (s := ⟨s.toArray⟩) (by show s.toArray.size ≤ _; simpa using h)
  simpa using this
/-- What firstRefs leaves. -/
def RefsR (P : List K) (w : World) (e : Ending) (w' : World) : Prop :=
  ∃ (m : Nat) (D : DataW Unit) (n : Nat), e = .returned (.map (some m)) ∧ w.heap.size ≤ m ∧ w'.ownsMap Try.prog 9 (plainElem Try.prog 3) m n D ∧ Ix D P (M.lim P) ∧ Below w.heap.size w w'
set_option maxRecDepth 100000 in
set_option maxHeartbeats 2000000 in
theorem firstRefs_any (v : Value) (P : List K) (w : World) (h : KIn w v P) (hP : P.length ≤ 1048576) (ht : Txt P) :
    Calls Try.prog 61 #[v] w fun e w' => RefsR P w e w' := by
  have HC := hide (fun (i : Int) (w1 : World) (hb : Below w.heap.size w w1) => Class2_any v P i w1 (h.below hb) hP)
  have HTx := hide ht
  obtain ⟨ad, cap, ev, _⟩ := h.ex
  subst ev
  obtain ⟨N, hN⟩ : ∃ N, N = M.lim P := ⟨_, rfl⟩
  have hNi : min (P.length : Int) 65536 = (N : Int) := by rw [hN]; unfold M.lim; omega
  have hN6 : N ≤ 65536 := by rw [hN]; unfold M.lim; omega
  have HN := hide hN
  clear hN h ht
  have hmm := @run_makeMap Try.prog
  go_enter Try.func61, Try.ntmps61
  go_wp2_with fail
  go_loopw [13] (fun i wr => ∃ (k : Nat) (D : DataW Unit), k ≤ N ∧ i = .int .i64 k ∧ Hid (wr.ownsMap Try.prog 9 (plainElem Try.prog 3) w.heap.size k D) ∧ Hid (Ix D P k) ∧ Hid (Below w.heap.size w wr)) (fun i _ => N - (intOf i).toNat)
  case atStart => exact ⟨0, .map [], Nat.zero_le _, rfl, World.ownsMap_made _ _ _ _, Ix.zero P, (Below.refl _ _).alloc (Nat.le_refl _) _⟩
  case round =>
    obtain ⟨k, D, hk, rfl, Ho, HI, HB⟩ := hrel
    by_cases hlt : k < N
    · have ki : (k : Int) < (N : Int) := by omega
      have HCk := hide (unhide HC (k : Int) wr (unhide HB))
      go_wp2_with fail
      refine (unhide HCk).mono ?_
      rintro e w1 ⟨rfl, hb1⟩
      clear HCk
      have hown1 := (unhide Ho).kept (grown_of_below hb1 none) (by simp)
      have hbw1 := (unhide HB).trans (hb1.mono (unhide HB).size)
      have hws := (unhide HB).size
      have hws1 := hbw1.size
      cases hc : M.cok P (k : Int) with
      | false =>
        have HI2 := hide ((unhide HI).skip hc)
        have Ho2 := hide (hown1.mono (Nat.le_succ k))
        have HB2 := hide hbw1
        clear hc hown1 hbw1
        go_wp2
        go_roundw
        case rel => exact ⟨k + 1, D, by omega, by go_num, Ho2, HI2, HB2⟩
        case measure => simp [intOf]; omega
      | true =>
        have hkey := key_of (M.cls P (k : Int)) ((unhide HTx).cls (k : Int))
        have Hkey := hide hkey
        have Hc := hide hc
        cases hh : Maps.has D (.string (M.cls P (k : Int))) with
        | true =>
          have HI2 := hide ((unhide HI).had hh)
          have Ho2 := hide (hown1.mono (Nat.le_succ k))
          have HB2 := hide hbw1
          have Hh := hide hh
          generalize M.cls P (k : Int) = nm at *
          clear hc hkey hbw1 hh
          go_wp2_with (at_lookup; refine wpList_lookup_own_ok_int _ rfl _ _ 109 rfl 9 3 .i64 law9 Try.underlying109 Try.underlying3 (zero3 _) w.heap.size k D rfl hown1 _ (.string nm) rfl (unhide Hkey) ?_; intro c0 _ _; rw [unhide Hh])
          go_roundw
          case rel => exact ⟨k + 1, D, by omega, by go_num, Ho2, HI2, HB2⟩
          case measure => simp [intOf]; omega
        | false =>
          have HI2 := hide ((unhide HI).put hc hh)
          have Hh := hide hh
          generalize M.cls P (k : Int) = nm at *
          clear hc hkey hh
          go_wp2_with (first
            | (at_lookup; refine wpList_lookup_own_ok_int _ rfl _ _ 109 rfl 9 3 .i64 law9 Try.underlying109 Try.underlying3 (zero3 _) w.heap.size k D rfl hown1 _ (.string nm) rfl (unhide Hkey) ?_; intro c0 _ _; rw [unhide Hh])
            | (at_mapUpdate; refine wpList_mapUpdate_own _ rfl _ _ _ 109 rfl 9 3 law9 Try.underlying109 _ w.heap.size k D rfl hown1 (by unfold maxLen; omega) _ _ (.string nm) rfl rfl (unhide Hkey) _ [] (plainElem_int Try.underlying3 (WalkArith.wf_i64 (by omega))) ?_; intro w2 hown2 hgrow2))
          have hbw2 := hbw1.grown hgrow2 hws1 (fun j hj => by cases hj; exact Nat.le_refl _)
          go_roundw
          case rel => exact ⟨k + 1, _, by omega, by go_num, hown2, HI2, hbw2⟩
          case measure => simp [intOf]; omega
    · have hkl : k = N := by omega
      subst hkl
      have ki : ¬ (k : Int) < (k : Int) := by omega
      go_wp2
      go_ret
      exact ⟨w.heap.size, D, k, rfl, Nat.le_refl _, unhide Ho, by rw [← unhide HN]; exact unhide HI, unhide HB⟩
/-- What is known of the pool's classes: nothing yet, or all. -/
def Kst (w : World) (Kb B : Nat) (P : List K) : Prop :=
  Bk w Kb #[.map none] 109 ∨ ∃ (m : Nat) (D : DataW Unit) (n : Nat), Bk w Kb #[.map (some m)] 109 ∧ B ≤ m ∧ w.ownsMap Try.prog 9 (plainElem Try.prog 3) m n D ∧ Ix D P (M.lim P)
theorem Kst.lt {w : World} {Kb B : Nat} {P : List K} (h : Kst w Kb B P) : Kb < w.heap.size := by
  rcases h with h | ⟨m, D, n, h, _⟩
  · exact h.lt
  · exact h.lt
/-- What the closure leaves. -/
def IxR (Kb B : Nat) (P : List K) (name : List UInt8) (w : World) (e : Ending) (w' : World) : Prop :=
  ∃ c : Int, e = .returned (.tuple #[.int .i64 c, .bool (M.idx P name (M.lim P)).isSome]) ∧ (∀ k : Nat, M.idx P name (M.lim P) = some k → c = (k : Int)) ∧ Kst w' Kb B P ∧ w.grownBy w' (some Kb)
theorem Ix.look {D : DataW Unit} {P : List K} {m : Nat} (h : Ix D P m) {name : List UInt8} {c : Int} (hc : D.atKey (.string name) (.lit (.int .i64 0)) = .lit (.int .i64 c)) : ∀ k : Nat, M.idx P name m = some k → c = (k : Int) := fun k hk => by
  have := h.at_ name k hk
  rw [hc] at this
  cases this
  rfl
theorem map_nil (w : World) : Sem.run Try.prog (binOp .eql 109 (.map none) (.map none)) w = .ok (.bool true) w := by kernel_rfl
theorem map_some (m : Nat) (w : World) : Sem.run Try.prog (binOp .eql 109 (.map (some m)) (.map none)) w = .ok (.bool false) w := by kernel_rfl
set_option maxRecDepth 100000 in
set_option maxHeartbeats 2000000 in
theorem closure_any (Kb Pb B : Nat) (pv : Value) (P : List K) (name : List UInt8) (w : World) (hk : Kst w Kb B P) (hp : Bk w Pb #[pv] 58) (hK : KIn w pv P) (hB : B ≤ w.heap.size) (hn : name.length ≤ maxLen) (hP : P.length ≤ 1048576) (ht : Txt P) :
    Calls Try.prog 60 #[.string ⟨name.toArray⟩, .pointer (some ⟨Kb, 0, none⟩), .pointer (some ⟨Pb, 0, none⟩)] w fun e w' => IxR Kb B P name w e w' := by
  have Hkey := hide (key_of name hn)
  have HF := hide (firstRefs_any pv P w hK hP ht)
  have p0 : w.cell? ⟨Pb, 0, none⟩ = some pv := hp.cell 0
  obtain ⟨ad, cap, ev, _⟩ := hK.ex
  subst ev
  rcases hk with hk | ⟨m, D, n, hk, hm, ho, hI⟩
  · have k0 : w.cell? ⟨Kb, 0, none⟩ = some (.map none) := hk.cell 0
    have hmn := map_nil
    clear hn ht hK hp
    go_enter Try.func60, Try.ntmps60
    go_wp2_with fail
    refine (unhide HF).mono ?_
    rintro e w1 ⟨m, D, n, rfl, hm, ho, hI, hb1⟩
    have hk1 := hk.below hb1
    have hkl := hk.lt
    have c0 : w1.cell? ⟨Kb, 0, none⟩ = some (.map none) := hk1.cell 0
    have cf := hk1.frozen 0
    have hk2 := hk1.set 0 (.map (some m))
    have ho2 := ho.setCell (a := ⟨Kb, 0, none⟩) (by simp only; omega) (.map (some m))
    have hg2 : w.grownBy (w1.setCell ⟨Kb, 0, none⟩ (.map (some m))) (some Kb) := grown_trans (grown_of_below hb1 _) (grown_set w1 Kb 0 _)
    have HI := hide hI
    clear HF p0 k0 hb1 hk hk1 ho hI
    go_wp2_with (at_lookup; refine wpList_lookup_own_ok_int _ rfl _ _ 109 rfl 9 3 .i64 law9 Try.underlying109 Try.underlying3 (zero3 _) m n D rfl ho2 _ (.string name) rfl (unhide Hkey) ?_; intro c hc _; rw [(unhide HI).has name])
    go_ret2
    exact ⟨c, rfl, (unhide HI).look hc, .inr ⟨m, D, n, hk2, by omega, ho2, unhide HI⟩, hg2⟩
  · have k0 : w.cell? ⟨Kb, 0, none⟩ = some (.map (some m)) := hk.cell 0
    have HI := hide hI
    have hmn := map_some m
    clear HF hn ht hK hp hI
    go_enter Try.func60, Try.ntmps60
    go_wp2_with (at_lookup; refine wpList_lookup_own_ok_int _ rfl _ _ 109 rfl 9 3 .i64 law9 Try.underlying109 Try.underlying3 (zero3 _) m n D rfl ho _ (.string name) rfl (unhide Hkey) ?_; intro c hc _; rw [(unhide HI).has name])
    go_ret2
    exact ⟨c, rfl, (unhide HI).look hc, .inr ⟨m, D, n, hk, hm, ho, unhide HI⟩, grown_refl _ _⟩
end Go.Proofs.Ytgihfcjddkpkaaa
namespace Go.Proofs.Ytgihfcjddkpkaaa.Cl
set_option linter.unusedVariables false
open Go.RowKit Go.Maps
namespace M
/-- The first index below m of a text. -/
def idxT (P : List K) (name : List UInt8) : Nat → Option Nat
  | 0 => none
  | m + 1 => match idxT P name m with
    | some k => some k
    | none => if (P.getD m K.zero).tag = 1 ∧ (P.getD m K.zero).text = name then some m else none
theorem idxT_step {P : List K} {m : Nat} {name : List UInt8} (h : ¬ ((P.getD m K.zero).tag = 1 ∧ (P.getD m K.zero).text = name)) : idxT P name (m + 1) = idxT P name m := by
  rw [idxT]
  cases idxT P name m with
  | some k => rfl
  | none => simp only; rw [if_neg h]
end M
/-- A map that holds of each text the first of the indexes below m. -/
structure It (D : DataW Unit) (P : List K) (m : Nat) : Prop where
  map : IsMap D
  has : ∀ name : List UInt8, Maps.has D (.string name) = (M.idxT P name m).isSome
  at_ : ∀ (name : List UInt8) (k : Nat), M.idxT P name m = some k → D.atKey (.string name) (.lit (.int .i64 0)) = .lit (.int .i64 (k : Int))
theorem It.zero (P : List K) : It (.map []) P 0 := ⟨⟨[], rfl⟩, fun _ => rfl, fun _ _ h => by cases h⟩
theorem It.skip {D : DataW Unit} {P : List K} {m : Nat} (h : It D P m) (hc : (P.getD m K.zero).tag ≠ 1) : It D P (m + 1) :=
  ⟨h.map, fun n => by rw [M.idxT_step (fun g => hc g.1)]; exact h.has n, fun n k e => by rw [M.idxT_step (fun g => hc g.1)] at e; exact h.at_ n k e⟩
theorem It.had {D : DataW Unit} {P : List K} {m : Nat} (h : It D P m) (hh : Maps.has D (.string (P.getD m K.zero).text) = true) : It D P (m + 1) := by
  have key : ∀ n, M.idxT P n (m + 1) = M.idxT P n m := fun n => by
    by_cases e : (P.getD m K.zero).text = n
    · rw [e] at hh
      rw [h.has n] at hh
      obtain ⟨k, hk⟩ := Option.isSome_iff_exists.1 hh
      rw [M.idxT, hk]
    · exact M.idxT_step (fun g => e g.2)
  exact ⟨h.map, fun n => by rw [key]; exact h.has n, fun n k e => by rw [key] at e; exact h.at_ n k e⟩
theorem It.put {D : DataW Unit} {P : List K} {m : Nat} (h : It D P m) (hc : (P.getD m K.zero).tag = 1) (hh : Maps.has D (.string (P.getD m K.zero).text) = false) : It (D.put (.string (P.getD m K.zero).text) (.lit (.int .i64 (m : Int)))) P (m + 1) := by
  obtain ⟨es, rfl⟩ := h.map
  have hmap : IsMap ((DataW.map es).put (.string (P.getD m K.zero).text) (.lit (.int .i64 (m : Int)))) := ⟨_, rfl⟩
  have hn0 : M.idxT P (P.getD m K.zero).text m = none := by
    have := h.has (P.getD m K.zero).text
    rw [hh] at this
    simpa using this.symm
  have hself : M.idxT P (P.getD m K.zero).text (m + 1) = some m := by rw [M.idxT, hn0]; exact if_pos ⟨hc, rfl⟩
  refine ⟨hmap, fun n => ?_, fun n k e => ?_⟩
  · by_cases e : n = (P.getD m K.zero).text
    · subst e
      rw [has_put_same (k := .string (P.getD m K.zero).text) ⟨es, rfl⟩ (show WideAt.IsKeyLit (.string (P.getD m K.zero).text) from trivial), hself]; rfl
    · rw [has_put_other (fun g => e (by cases g; rfl)), M.idxT_step (fun g => e g.2.symm)]
      exact h.has n
  · by_cases e1 : n = (P.getD m K.zero).text
    · subst e1
      rw [hself] at e
      cases e
      exact atKey_put_same (k := .string (P.getD m K.zero).text) ⟨es, rfl⟩ (show WideAt.IsKeyLit (.string (P.getD m K.zero).text) from trivial) _ _
    · rw [M.idxT_step (fun g => e1 g.2.symm)] at e
      rw [atKey_put_other (fun g => e1 (by cases g; rfl))]
      exact h.at_ n k e
/-- What firstTexts leaves. -/
def TextsR (P : List K) (w : World) (e : Ending) (w' : World) : Prop :=
  ∃ (m : Nat) (D : DataW Unit) (n : Nat), e = .returned (.map (some m)) ∧ w.heap.size ≤ m ∧ w'.ownsMap Try.prog 9 (plainElem Try.prog 3) m n D ∧ It D P P.length ∧ Below w.heap.size w w'
set_option maxRecDepth 100000 in
set_option maxHeartbeats 2000000 in
theorem firstTexts_any (v : Value) (P : List K) (w : World) (h : KIn w v P) (hP : P.length ≤ 1048576) (ht : Txt P) :
    Calls Try.prog 48 #[v] w fun e w' => TextsR P w e w' := by
  have H := hide h
  have HTx := hide ht
  obtain ⟨ad, cap, ev, _⟩ := h.ex
  subst ev
  clear h ht
  have hmm := @run_makeMap Try.prog
  go_enter Try.func48, Try.ntmps48
  go_wp2_with fail
  go_loopw [11] (fun i wr => ∃ (k : Nat) (D : DataW Unit), k ≤ P.length ∧ i = .int .i64 k ∧ Hid (wr.ownsMap Try.prog 9 (plainElem Try.prog 3) w.heap.size k D) ∧ Hid (It D P k) ∧ Hid (Below w.heap.size w wr)) (fun i _ => P.length - (intOf i).toNat)
  case atStart => exact ⟨0, .map [], Nat.zero_le _, rfl, World.ownsMap_made _ _ _ _, It.zero P, (Below.refl _ _).alloc (Nat.le_refl _) _⟩
  case round =>
    obtain ⟨k, D, hk, rfl, Ho, HI, HB⟩ := hrel
    by_cases hlt : k < P.length
    · have ki : (k : Int) < (P.length : Int) := by omega
      have hkn := (unhide H).below (unhide HB)
      obtain ⟨b, o, cap2, ev⟩ := hkn.form (by intro e; subst e; simp at hlt)
      cases ev
      obtain ⟨c0, c1, c2, c3, c4⟩ := hkn.at hlt
      have htx : (P.getD k K.zero).text.length ≤ maxLen := by
        have hm : P.getD k K.zero ∈ P := by simp [List.getD, List.getElem?_eq_getElem hlt]
        exact unhide HTx _ hm
      have HIk := HI
      obtain ⟨x, hx⟩ : ∃ x, x = P.getD k K.zero := ⟨_, rfl⟩
      have Hskip := hide (fun hc => (unhide HI).skip (m := k) hc)
      have Hhad := hide (fun hh => (unhide HI).had (m := k) hh)
      have Hput := hide (fun hc hh => (unhide HI).put (m := k) hc hh)
      rw [← hx] at c0 c1 c2 c3 c4 htx Hskip Hhad Hput
      have hkey := key_of x.text htx
      have Hkey := hide hkey
      obtain ⟨w1, hw1⟩ : ∃ w1, w1 = wr.alloc (.cells #[.int .u8 (x.tag : Int), .string ⟨x.text.toArray⟩, .int .u64 (x.bits : Int), .int .u16 (x.a : Int), .int .u16 (x.b : Int)] 78) := ⟨_, rfl⟩
      have hb1 : Below wr.heap.size wr w1 := by rw [hw1]; exact (Below.refl _ _).alloc (Nat.le_refl _) _
      have hown1 : w1.ownsMap Try.prog 9 (plainElem Try.prog 3) w.heap.size k D := (unhide Ho).kept (grown_of_below hb1 none) (by simp)
      have hbw1 := (unhide HB).trans (hb1.mono (unhide HB).size)
      have hws1 := hbw1.size
      have A1 : Bk w1 wr.heap.size #[.int .u8 (x.tag : Int), .string ⟨x.text.toArray⟩, .int .u64 (x.bits : Int), .int .u16 (x.a : Int), .int .u16 (x.b : Int)] 78 := by rw [hw1]; exact Bk.new _ _ _
      have HW1 := hide hw1
      have HA1 := hide A1
      have hbl := cell_lt c0
      simp only at hbl
      clear hx hkey hw1 hb1 A1 hkn
      go_upto_region 5 with fail
      rw [← unhide HW1]
      clear HW1 c0 c1 c2 c3 c4
      have a0 := (unhide HA1).cell 0
      have a1 := (unhide HA1).cell 1
      simp at a0 a1
      by_cases hc : x.tag = 1
      · have d0 : (((x.tag : Int) != 1) : Bool) = false := by rw [hc]; rfl
        cases hh : Maps.has D (.string x.text) with
        | true =>
          have HI2 := hide (unhide Hhad hh)
          have Ho2 := hide (hown1.mono (Nat.le_succ k))
          have HB2 := hide hbw1
          have Hh := hide hh
          generalize x.text = nm at *
          clear hc hbw1 hh Hskip Hhad Hput HA1
          go_wp2_with (at_lookup; refine wpList_lookup_own_ok_int _ rfl _ _ 109 rfl 9 3 .i64 law9 Try.underlying109 Try.underlying3 (zero3 _) w.heap.size k D rfl hown1 _ (.string nm) rfl (unhide Hkey) ?_; intro c0 _ _; rw [unhide Hh])
          go_roundw
          case rel => exact ⟨k + 1, D, by omega, by go_num, Ho2, HI2, HB2⟩
          case measure => simp [intOf]; omega
        | false =>
          have HI2 := hide (unhide Hput hc hh)
          have Hh := hide hh
          generalize x.text = nm at *
          clear hc hh Hskip Hhad Hput HA1
          go_wp2_with (first
            | (at_lookup; refine wpList_lookup_own_ok_int _ rfl _ _ 109 rfl 9 3 .i64 law9 Try.underlying109 Try.underlying3 (zero3 _) w.heap.size k D rfl hown1 _ (.string nm) rfl (unhide Hkey) ?_; intro c0 _ _; rw [unhide Hh])
            | (at_mapUpdate; refine wpList_mapUpdate_own _ rfl _ _ _ 109 rfl 9 3 law9 Try.underlying109 _ w.heap.size k D rfl hown1 (by unfold maxLen; omega) _ _ (.string nm) rfl rfl (unhide Hkey) _ [] (plainElem_int Try.underlying3 (WalkArith.wf_i64 (by omega))) ?_; intro w2 hown2 hgrow2))
          have hbw2 := hbw1.grown hgrow2 hws1 (fun j hj => by cases hj; exact Nat.le_refl _)
          go_roundw
          case rel => exact ⟨k + 1, _, by omega, by go_num, hown2, HI2, hbw2⟩
          case measure => simp [intOf]; omega
      · have d0 : (((x.tag : Int) != 1) : Bool) = true := by rw [bne_iff_ne]; omega
        have HI2 := hide (unhide Hskip hc)
        have Ho2 := hide (hown1.mono (Nat.le_succ k))
        have HB2 := hide hbw1
        clear hc hown1 hbw1 Hskip Hhad Hput HA1
        go_wp2
        go_roundw
        case rel => exact ⟨k + 1, D, by omega, by go_num, Ho2, HI2, HB2⟩
        case measure => simp [intOf]; omega
    · have hkl : k = P.length := by omega
      subst hkl
      have ki : ¬ ((P.length : Nat) : Int) < ((P.length : Nat) : Int) := by omega
      go_wp2
      go_ret
      exact ⟨w.heap.size, D, P.length, rfl, Nat.le_refl _, unhide Ho, unhide HI, unhide HB⟩
end Go.Proofs.Ytgihfcjddkpkaaa.Cl
