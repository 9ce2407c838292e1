/-
  Pools of constants: package consts, and jvmcoreref1 Is, String, ClassOf (carried from 4ce69e9).
-/
import Derived.Test.YtddhlphbbiihjaaGreatDoorMgCw
set_option linter.unusedVariables false
set_option linter.unusedSimpArgs false
namespace Go.Proofs.YtddhlphbbiihjaaGreatDoor.Kn
open Go.RowKit
/-- A constant. -/
structure K where
  tag : Nat
  text : List UInt8
  bits : Nat
  a : Nat
  b : Nat
def K.zero : K := ⟨0, [], 0, 0, 0⟩
namespace M
/-- The constant of an index. -/
def kAt (p : List K) (i : Int) : K := if 0 < i ∧ i < (p.length : Int) then p.getD i.toNat K.zero else K.zero
end M
namespace M
def tag (p : List K) (i : Int) : Nat := (kAt p i).tag
end M
namespace M
def text (p : List K) (i : Int) : List UInt8 := if tag p i = 1 then (kAt p i).text else []
end M
namespace M
def cls (p : List K) (i : Int) : List UInt8 := if tag p i = 7 then text p ((kAt p i).a : Int) else []
end M
theorem getD_at {α : Type} (l : List α) (d : α) {k : Nat} (h : k < l.length) : l.getD k d = l[k] := by simp [List.getD, h]
def K.cells (c : K) : List Value := [.int .u8 (c.tag : Int), .string ⟨c.text.toArray⟩, .int .u64 (c.bits : Int), .int .u16 (c.a : Int), .int .u16 (c.b : Int)]
def K.val (c : K) : Value := .agg c.cells.toArray
/-- A pool that can be read. -/
structure KIn (w : World) (v : Value) (P : List K) : Prop where
  fit : ∀ c ∈ P, c.tag < 256 ∧ c.a < 65536 ∧ c.b < 65536
  ex : ∃ ad cap, v = .slice ad P.length cap ∧ (P ≠ [] → ∃ b o, ad = some ⟨b, o, none⟩ ∧ ∀ k, k < P.length → ∀ i, i < 5 → w.cell? ⟨b, o + k * 5 + i, none⟩ = (P.getD k K.zero).cells[i]?)
theorem KIn.below {w w' : World} {v : Value} {P : List K} (h : KIn w v P) (hb : Below w.heap.size w w') : KIn w' v P := by
  obtain ⟨ad, cap, e, h1⟩ := h.ex
  refine ⟨h.fit, ad, cap, e, fun hne => ?_⟩
  obtain ⟨b, o, e1, h2⟩ := h1 hne
  refine ⟨b, o, e1, fun k hk i hi => ?_⟩
  have h3 := h2 k hk i hi
  have h4 : ∃ u, (P.getD k K.zero).cells[i]? = some u := ⟨_, List.getElem?_eq_getElem (by simpa [K.cells] using hi)⟩
  obtain ⟨u, h4⟩ := h4
  rw [h4] at h3 ⊢
  rw [hb.cell (cell_lt h3)]; exact h3
theorem KIn.at {w : World} {b o cap : Nat} {P : List K} (h : KIn w (.slice (some ⟨b, o, none⟩) P.length cap) P) {k : Nat} (hk : k < P.length) :
    w.cell? ⟨b, o + k * 5, none⟩ = some (.int .u8 ((P.getD k K.zero).tag : Int)) ∧ w.cell? ⟨b, o + k * 5 + 1, none⟩ = some (.string ⟨(P.getD k K.zero).text.toArray⟩) ∧ w.cell? ⟨b, o + k * 5 + 2, none⟩ = some (.int .u64 ((P.getD k K.zero).bits : Int)) ∧
    w.cell? ⟨b, o + k * 5 + 3, none⟩ = some (.int .u16 ((P.getD k K.zero).a : Int)) ∧ w.cell? ⟨b, o + k * 5 + 4, none⟩ = some (.int .u16 ((P.getD k K.zero).b : Int)) := by
  obtain ⟨ad, cap', e, h1⟩ := h.ex
  obtain ⟨b', o', e1, h2⟩ := h1 (by intro e; subst e; simp at hk)
  cases e
  cases e1
  exact ⟨h2 k hk 0 (by omega), h2 k hk 1 (by omega), h2 k hk 2 (by omega), h2 k hk 3 (by omega), h2 k hk 4 (by omega)⟩
theorem KIn.form {w : World} {v : Value} {P : List K} (h : KIn w v P) (hne : P ≠ []) : ∃ b o cap, v = .slice (some ⟨b, o, none⟩) P.length cap := by
  obtain ⟨ad, cap, e, h1⟩ := h.ex
  obtain ⟨b, o, e1, _⟩ := h1 hne
  exact ⟨b, o, cap, by rw [e, e1]⟩
theorem KIn.at_fit {w : World} {v : Value} {P : List K} (h : KIn w v P) (i : Int) : (M.kAt P i).tag < 256 ∧ (M.kAt P i).a < 65536 ∧ (M.kAt P i).b < 65536 := by
  unfold M.kAt
  split
  · rename_i hi
    rw [getD_at _ _ (by omega)]
    exact h.fit _ (List.getElem_mem _)
  · decide
theorem kAt_in {P : List K} {k : Nat} (h0 : 0 < k) (h : k < P.length) : M.kAt P (k : Int) = P.getD k K.zero := by unfold M.kAt; rw [if_pos (by omega)]; simp
theorem kAt_out {P : List K} {i : Int} (h : ¬ (0 < i ∧ i < (P.length : Int))) : M.kAt P i = K.zero := by unfold M.kAt; rw [if_neg h]
set_option maxRecDepth 100000 in
set_option maxHeartbeats 1000000 in
theorem KAt_any (v : Value) (P : List K) (i : Int) (w : World) (h : KIn w v P) (hP : P.length ≤ 1048576) :
    Calls Tryz.prog 53 #[v, .int .i64 i] w fun e w' => e = .returned (M.kAt P i).val ∧ Below w.heap.size w w' := by
  by_cases hi : 0 < i ∧ i < (P.length : Int)
  · obtain ⟨k, rfl⟩ : ∃ k : Nat, i = (k : Int) := ⟨i.toNat, by omega⟩
    have hk0 : 0 < k := by omega
    have hk : k < P.length := by omega
    obtain ⟨b, o, cap, rfl⟩ := h.form (by intro e; subst e; simp at hk)
    obtain ⟨c0, c1, c2, c3, c4⟩ := h.at hk
    rw [kAt_in hk0 hk]
    generalize P.getD k K.zero = c at *
    have f1 : ¬ ((k : Int) < 1) := by omega
    have hbl : b < w.heap.size := cell_lt c0
    clear h hi
    go_enter Tryz.func53, Tryz.ntmps53
    go_wp2
    refine bodyPost_ret (results_cell_row Tryz.results53 _ _ w.heap.size 38 _ (0, 0) _ rfl (heap_alloc_new _ _) Tryz.underlying38 rfl (by kernel_rfl)) rfl ?_
    exact ⟨rfl, (Below.refl _ _).alloc (Nat.le_refl _) _⟩
  · rw [kAt_out hi]
    obtain ⟨ad, cap, rfl, _⟩ := h.ex
    by_cases h1 : i < 1
    · clear hi
      go_enter Tryz.func53, Tryz.ntmps53
      go_wp2
      refine bodyPost_ret (results_cell_row Tryz.results53 _ _ w.heap.size 38 _ (0, 0) _ rfl (heap_alloc_new _ _) Tryz.underlying38 rfl (by kernel_rfl)) rfl ?_
      exact ⟨rfl, (Below.refl _ _).alloc (Nat.le_refl _) _⟩
    · have h2 : (P.length : Int) ≤ i := by omega
      clear hi
      go_enter Tryz.func53, Tryz.ntmps53
      go_wp2
      refine bodyPost_ret (results_cell_row Tryz.results53 _ _ w.heap.size 38 _ (0, 0) _ rfl (heap_alloc_new _ _) Tryz.underlying38 rfl (by kernel_rfl)) rfl ?_
      exact ⟨rfl, (Below.refl _ _).alloc (Nat.le_refl _) _⟩
theorem fldTag (c : K) (W : World) : (Instr.field 38 (.agg #[.int .u8 (c.tag : Int), .string ⟨c.text.toArray⟩, .int .u64 (c.bits : Int), .int .u16 (c.a : Int), .int .u16 (c.b : Int)]) 0).run Tryz.prog W = .ok (.int .u8 (c.tag : Int)) W := by kernel_rfl
theorem fldText (c : K) (W : World) : (Instr.field 38 (.agg #[.int .u8 (c.tag : Int), .string ⟨c.text.toArray⟩, .int .u64 (c.bits : Int), .int .u16 (c.a : Int), .int .u16 (c.b : Int)]) 1).run Tryz.prog W = .ok (.string ⟨c.text.toArray⟩) W := by kernel_rfl
theorem fldA (c : K) (W : World) : (Instr.field 38 (.agg #[.int .u8 (c.tag : Int), .string ⟨c.text.toArray⟩, .int .u64 (c.bits : Int), .int .u16 (c.a : Int), .int .u16 (c.b : Int)]) 3).run Tryz.prog W = .ok (.int .u16 (c.a : Int)) W := by kernel_rfl
theorem fldB (c : K) (W : World) : (Instr.field 38 (.agg #[.int .u8 (c.tag : Int), .string ⟨c.text.toArray⟩, .int .u64 (c.bits : Int), .int .u16 (c.a : Int), .int .u16 (c.b : Int)]) 4).run Tryz.prog W = .ok (.int .u16 (c.b : Int)) W := by kernel_rfl
/-- A list of tags that can be read. -/
def UIn (w : World) (v : Value) (ts : List Nat) : Prop := ∃ b o cap, v = .slice (some ⟨b, o, none⟩) ts.length cap ∧ ∀ k, k < ts.length → w.cell? ⟨b, o + k, none⟩ = some (.int .u8 ((ts.getD k 0 : Nat) : Int))
theorem UIn.below {w w' : World} {v : Value} {ts : List Nat} (h : UIn w v ts) (hb : Below w.heap.size w w') : UIn w' v ts := by
  obtain ⟨b, o, cap, e, h1⟩ := h
  exact ⟨b, o, cap, e, fun k hk => by rw [hb.cell (cell_lt (h1 k hk))]; exact h1 k hk⟩
set_option maxHeartbeats 1000000 in
theorem SIndex_any (v : Value) (ts : List Nat) (t : Nat) (w : World) (h : UIn w v ts) (hl : ts.length ≤ 1000) :
    Calls Tryz.prog 79 #[v, .int .u8 (t : Int)] w fun e w' => (∃ z : Int, e = .returned (.int .i64 z) ∧ decide (0 ≤ z) = ts.contains t) ∧ w' = w := by
  obtain ⟨b, o, cap, rfl, hc⟩ := h
  have Hc := hide hc
  clear hc
  go_enter Tryz.func79, Tryz.ntmps79
  go_wp2_with fail
  go_loopw [8] (fun i wr => ∃ k : Nat, k ≤ ts.length ∧ i = .int .i64 k ∧ Hid (∀ m, m < k → ts.getD m 0 ≠ t) ∧ wr = w) (fun i _ => ts.length - (intOf i).toNat)
  case atStart => exact ⟨0, Nat.zero_le _, rfl, fun m hm => absurd hm (Nat.not_lt_zero _), rfl⟩
  case round =>
    obtain ⟨k, hk, rfl, Hno, rfl⟩ := hrel
    by_cases hlt : k < ts.length
    · have hck := unhide Hc k hlt
      have hg : ts.getD k 0 = ts[k] := getD_at _ _ hlt
      obtain ⟨x, hx⟩ : ∃ x, x = ts.getD k 0 := ⟨_, rfl⟩
      rw [← hx] at hck hg
      by_cases heq : t = x
      · subst heq
        have hin : ts.contains t = true := by rw [hg, List.contains_iff_mem]; exact List.getElem_mem _
        have Hin := hide hin
        clear hin hg hx
        go_wp2
        go_ret
        exact ⟨⟨_, rfl, by rw [unhide Hin]; simp⟩, rfl⟩
      · have f1 : ((t : Int) == (x : Int)) = false := by rw [beq_eq_false_iff_ne]; omega
        have hno2 : ∀ m, m < k + 1 → ts.getD m 0 ≠ t := fun m hm => by
          by_cases e : m = k
          · rw [e, ← hx]; exact fun e => heq e.symm
          · exact unhide Hno m (by omega)
        have Hno2 := hide hno2
        clear hno2 hx hg heq
        go_wp2
        go_roundw
        case rel => exact ⟨k + 1, by omega, by go_num, Hno2, trivial⟩
        case measure => simp [intOf]; omega
    · have hkl : k = ts.length := by omega
      have hno : ts.contains t = false := by
        rw [Bool.eq_false_iff]
        intro hm
        rw [List.contains_iff_mem] at hm
        obtain ⟨j, hj, e⟩ := List.mem_iff_getElem.1 hm
        exact unhide Hno j (by omega) (by rw [getD_at _ _ hj]; exact e)
      have Hn := hide hno
      subst hkl
      clear hno Hno
      go_wp2
      go_ret
      exact ⟨⟨_, rfl, by rw [unhide Hn]; simp⟩, rfl⟩
set_option maxHeartbeats 1000000 in
theorem SContains_any (v : Value) (ts : List Nat) (t : Nat) (w : World) (h : UIn w v ts) (hl : ts.length ≤ 1000) :
    Calls Tryz.prog 57 #[v, .int .u8 (t : Int)] w fun e w' => e = .returned (.bool (ts.contains t)) ∧ w' = w := by
  have HI := hide (SIndex_any v ts t w h hl)
  clear h
  go_enter Tryz.func57, Tryz.ntmps57
  go_wp2_with fail
  refine (unhide HI).mono ?_
  rintro e w1 ⟨⟨z, rfl, hz⟩, hw⟩
  subst w1
  have Hz := hide hz
  clear HI hz
  by_cases h0 : 0 ≤ z
  · go_wp2
    go_ret
    exact ⟨by rw [← unhide Hz, decide_eq_true h0]; rfl, rfl⟩
  · go_wp2
    go_ret
    exact ⟨by rw [← unhide Hz]; rfl, rfl⟩
set_option maxHeartbeats 1000000 in
theorem Has_any (v tv : Value) (P : List K) (ts : List Nat) (i : Int) (w : World) (h : KIn w v P) (hP : P.length ≤ 1048576) (ht : UIn w tv ts) (hl : ts.length ≤ 1000) :
    Calls Tryz.prog 21 #[v, .int .i64 i, tv] w fun e w' => e = .returned (.bool (ts.contains (M.tag P i))) ∧ Below w.heap.size w w' := by
  have HA := hide (KAt_any v P i w h hP)
  unfold M.tag
  generalize M.kAt P i = c at *
  have HC := hide (fun (w1 : World) (hb : Below w.heap.size w w1) => SContains_any tv ts c.tag w1 (ht.below hb) hl)
  generalize ts.contains c.tag = B at HC ⊢
  obtain ⟨b, o, cap, e1, _⟩ := ht
  subst e1
  clear h
  go_enter Tryz.func21, Tryz.ntmps21
  go_wp2_with fail
  refine (unhide HA).mono ?_
  rintro e w1 ⟨rfl, hb1⟩
  clear HA
  unfold K.val K.cells
  have hfd := fldTag c
  go_wp2_with fail
  refine (unhide HC _ hb1).mono ?_
  rintro e w2 ⟨rfl, hw⟩
  subst w2
  go_wp2
  go_ret
  exact ⟨rfl, hb1⟩
theorem UIn.made (w : World) (t : Nat) : UIn (w.alloc (.cells #[.int .u8 (t : Int)] 5)) (.slice (some ⟨w.heap.size, 0, none⟩) 1 1) [t] :=
  ⟨w.heap.size, 0, 1, rfl, fun k hk => by
    have : k = 0 := by simpa using hk
    subst this
    simp⟩
theorem contains_one (t x : Nat) : [t].contains x = decide (x = t) := by rw [Bool.eq_iff_iff]; simp
set_option maxHeartbeats 1000000 in
theorem Text_any (v : Value) (P : List K) (i : Int) (w : World) (h : KIn w v P) (hP : P.length ≤ 1048576) :
    Calls Tryz.prog 19 #[v, .int .i64 i] w fun e w' => e = .returned (.tuple #[.string ⟨(M.text P i).toArray⟩, .bool (decide (M.tag P i = 1))]) ∧ Below w.heap.size w w' := by
  have hb0 := (Below.refl w.heap.size w).alloc (Nat.le_refl _) (.cells #[.int .u8 1] 5)
  have HH := hide (Has_any v _ P [1] i (w.alloc (.cells #[.int .u8 1] 5)) (h.below hb0) hP (UIn.made w 1) (by simp))
  rw [contains_one] at HH
  have HA := hide (fun (w1 : World) (hb : Below w.heap.size w w1) => KAt_any v P i w1 (h.below hb) hP)
  obtain ⟨ad, cap, ev, _⟩ := h.ex
  subst ev
  unfold M.text
  by_cases ht : M.tag P i = 1
  · rw [if_pos ht, decide_eq_true ht]
    rw [decide_eq_true ht] at HH
    generalize M.kAt P i = c at *
    clear ht
    go_enter Tryz.func19, Tryz.ntmps19
    go_wp2_with fail
    refine (unhide HH).mono ?_
    rintro e w1 ⟨rfl, hb1⟩
    have hb2 := hb0.trans (hb1.mono hb0.size)
    clear HH hb0 hb1
    go_wp2_with fail
    refine (unhide HA _ hb2).mono ?_
    rintro e w2 ⟨rfl, hb3⟩
    have hb4 := hb2.trans (hb3.mono hb2.size)
    have hfd := fldText c
    clear HA hb2 hb3
    unfold K.val K.cells
    go_wp2
    go_ret2
    exact ⟨rfl, hb4⟩
  · rw [if_neg ht, decide_eq_false ht]
    rw [decide_eq_false ht] at HH
    clear ht HA
    go_enter Tryz.func19, Tryz.ntmps19
    go_wp2_with fail
    refine (unhide HH).mono ?_
    rintro e w1 ⟨rfl, hb1⟩
    have hb2 := hb0.trans (hb1.mono hb0.size)
    clear HH hb0 hb1
    go_wp2
    go_ret2
    exact ⟨rfl, hb2⟩
set_option maxHeartbeats 1000000 in
theorem Class_any (v : Value) (P : List K) (i : Int) (w : World) (h : KIn w v P) (hP : P.length ≤ 1048576) :
    Calls Tryz.prog 60 #[v, .int .i64 i] w fun e w' => (∃ x, e = .returned (.tuple #[.string ⟨(M.cls P i).toArray⟩, .bool x])) ∧ Below w.heap.size w w' := by
  have hb0 := (Below.refl w.heap.size w).alloc (Nat.le_refl _) (.cells #[.int .u8 7] 5)
  have HH := hide (Has_any v _ P [7] i (w.alloc (.cells #[.int .u8 7] 5)) (h.below hb0) hP (UIn.made w 7) (by simp))
  rw [contains_one] at HH
  have HA := hide (fun (w1 : World) (hb : Below w.heap.size w w1) => KAt_any v P i w1 (h.below hb) hP)
  have HT := hide (fun (j : Int) (w1 : World) (hb : Below w.heap.size w w1) => Text_any v P j w1 (h.below hb) hP)
  have hca := (h.at_fit i).2.1
  obtain ⟨ad, cap, ev, _⟩ := h.ex
  subst ev
  unfold M.cls
  by_cases ht : M.tag P i = 7
  · rw [if_pos ht]
    rw [decide_eq_true ht] at HH
    generalize M.kAt P i = c at *
    clear ht
    go_enter Tryz.func60, Tryz.ntmps60
    go_wp2_with fail
    refine (unhide HH).mono ?_
    rintro e w1 ⟨rfl, hb1⟩
    have hb2 := hb0.trans (hb1.mono hb0.size)
    clear HH hb0 hb1
    go_wp2_with fail
    refine (unhide HA _ hb2).mono ?_
    rintro e w2 ⟨rfl, hb3⟩
    have hb4 := hb2.trans (hb3.mono hb2.size)
    have hfd := fldA c
    clear HA hb2 hb3
    unfold K.val K.cells
    go_wp2_with fail
    refine (unhide HT _ _ hb4).mono ?_
    rintro e w3 ⟨rfl, hb5⟩
    have hb6 := hb4.trans (hb5.mono hb4.size)
    clear HT hb4 hb5
    go_wp2
    go_ret2
    exact ⟨⟨_, rfl⟩, hb6⟩
  · rw [if_neg ht]
    rw [decide_eq_false ht] at HH
    clear ht HA HT
    go_enter Tryz.func60, Tryz.ntmps60
    go_wp2_with fail
    refine (unhide HH).mono ?_
    rintro e w1 ⟨rfl, hb1⟩
    have hb2 := hb0.trans (hb1.mono hb0.size)
    clear HH hb0 hb1
    go_wp2
    go_ret2
    exact ⟨⟨_, rfl⟩, hb2⟩
set_option maxHeartbeats 1000000 in
theorem Is_any (v : Value) (P : List K) (i : Int) (t : Nat) (w : World) (h : KIn w v P) (hP : P.length ≤ 1048576) (ht : t ≠ 0) :
    Calls Tryz.prog 44 #[v, .int .i64 i, .int .u8 (t : Int)] w fun e w' => e = .returned (.bool (decide (M.tag P i = t))) ∧ w' = w := by
  by_cases hi : 0 < i ∧ i < (P.length : Int)
  · obtain ⟨k, rfl⟩ : ∃ k : Nat, i = (k : Int) := ⟨i.toNat, by omega⟩
    have hk0 : 0 < k := by omega
    have hk : k < P.length := by omega
    obtain ⟨b, o, cap, rfl⟩ := h.form (by intro e; subst e; simp at hk)
    obtain ⟨c0, c1, c2, c3, c4⟩ := h.at hk
    have hbl : b < w.heap.size := cell_lt c0
    unfold M.tag
    rw [kAt_in hk0 hk]
    generalize P.getD k K.zero = c at *
    have f1 : (0 : Int) < (k : Int) := by omega
    clear h hi c1 c2 c3 c4
    have hd : (((c.tag : Int) == (t : Int)) : Bool) = decide (c.tag = t) := by rw [Bool.eq_iff_iff]; simp; omega
    go_enter Tryz.func44, Tryz.ntmps44
    go_wp2
    go_ret
    exact ⟨rfl, rfl⟩
  · have hr : decide (M.tag P i = t) = false := by
      unfold M.tag; rw [kAt_out hi]; exact decide_eq_false (fun e => ht e.symm)
    rw [hr]
    obtain ⟨ad, cap, rfl, _⟩ := h.ex
    by_cases h1 : 0 < i
    · have h2 : ¬ i < (P.length : Int) := by omega
      clear hi hr
      go_enter Tryz.func44, Tryz.ntmps44
      go_wp2
      go_ret
      exact ⟨rfl, rfl⟩
    · clear hi hr
      go_enter Tryz.func44, Tryz.ntmps44
      go_wp2
      go_ret
      exact ⟨rfl, rfl⟩
theorem tag_in {P : List K} {i : Int} {t : Nat} (h : M.tag P i = t) (ht : t ≠ 0) : ∃ k : Nat, i = (k : Int) ∧ 0 < k ∧ k < P.length := by
  by_cases hi : 0 < i ∧ i < (P.length : Int)
  · exact ⟨i.toNat, by omega, by omega, by omega⟩
  · unfold M.tag at h; rw [kAt_out hi] at h; exact absurd h.symm ht
set_option maxHeartbeats 1000000 in
theorem RString_any (v : Value) (P : List K) (i : Int) (w : World) (h : KIn w v P) (hP : P.length ≤ 1048576) :
    Calls Tryz.prog 70 #[v, .int .i64 i] w fun e w' => (∃ x, e = .returned (.tuple #[.string ⟨(M.text P i).toArray⟩, .bool x])) ∧ w' = w := by
  have HI := hide (Is_any v P i 1 w h hP (by decide))
  unfold M.text
  by_cases ht : M.tag P i = 1
  · rw [if_pos ht]
    rw [decide_eq_true ht] at HI
    obtain ⟨k, rfl, hk0, hk⟩ := tag_in ht (by decide)
    obtain ⟨b, o, cap, rfl⟩ := h.form (by intro e; subst e; simp at hk)
    obtain ⟨c0, c1, c2, c3, c4⟩ := h.at hk
    rw [kAt_in hk0 hk]
    generalize P.getD k K.zero = c at *
    clear h ht c0 c2 c3 c4
    go_enter Tryz.func70, Tryz.ntmps70
    go_wp2_with fail
    refine (unhide HI).mono ?_
    rintro e w1 ⟨rfl, hw⟩
    subst w1
    go_wp2
    go_ret2
    exact ⟨⟨_, rfl⟩, rfl⟩
  · rw [if_neg ht]
    rw [decide_eq_false ht] at HI
    obtain ⟨ad, cap, rfl, _⟩ := h.ex
    clear ht
    go_enter Tryz.func70, Tryz.ntmps70
    go_wp2_with fail
    refine (unhide HI).mono ?_
    rintro e w1 ⟨rfl, hw⟩
    subst w1
    go_wp2
    go_ret2
    exact ⟨⟨_, rfl⟩, rfl⟩
set_option maxHeartbeats 1000000 in
theorem ClassOf_any (v : Value) (P : List K) (i : Int) (w : World) (h : KIn w v P) (hP : P.length ≤ 1048576) :
    Calls Tryz.prog 74 #[v, .int .i64 i] w fun e w' => (∃ x, e = .returned (.tuple #[.string ⟨(M.cls P i).toArray⟩, .bool x])) ∧ w' = w := by
  have HI := hide (Is_any v P i 7 w h hP (by decide))
  have HS := hide (fun j : Int => RString_any v P j w h hP)
  have hca := (h.at_fit i).2.1
  unfold M.cls
  by_cases ht : M.tag P i = 7
  · rw [if_pos ht]
    rw [decide_eq_true ht] at HI
    obtain ⟨k, rfl, hk0, hk⟩ := tag_in ht (by decide)
    obtain ⟨b, o, cap, rfl⟩ := h.form (by intro e; subst e; simp at hk)
    obtain ⟨c0, c1, c2, c3, c4⟩ := h.at hk
    rw [kAt_in hk0 hk] at hca ⊢
    generalize P.getD k K.zero = c at *
    clear h ht c0 c2 c1 c4
    go_enter Tryz.func74, Tryz.ntmps74
    go_wp2_with fail
    refine (unhide HI).mono ?_
    rintro e w1 ⟨rfl, hw⟩
    subst w1
    go_wp2_with fail
    refine (unhide HS _).mono ?_
    rintro e w1 ⟨⟨x, rfl⟩, hw⟩
    subst w1
    go_wp2
    go_ret2
    exact ⟨⟨_, rfl⟩, rfl⟩
  · rw [if_neg ht]
    rw [decide_eq_false ht] at HI
    obtain ⟨ad, cap, rfl, _⟩ := h.ex
    clear ht HS
    go_enter Tryz.func74, Tryz.ntmps74
    go_wp2_with fail
    refine (unhide HI).mono ?_
    rintro e w1 ⟨rfl, hw⟩
    subst w1
    go_wp2
    go_ret2
    exact ⟨⟨_, rfl⟩, rfl⟩

end Go.Proofs.YtddhlphbbiihjaaGreatDoor.Kn
