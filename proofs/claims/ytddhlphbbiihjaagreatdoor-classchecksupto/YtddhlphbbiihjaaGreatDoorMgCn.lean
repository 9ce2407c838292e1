/-
  CodeChecks: the reference's dims and called.
  CodeChecks: the program's map of methods.
  CodeChecks: the program's method.
  CodeChecks: the program's called.
-/
import Derived.Test.YtddhlphbbiihjaaGreatDoorCc
import Derived.MapKept
set_option linter.unusedVariables false
set_option linter.unusedSimpArgs false
namespace Go.Proofs.YtddhlphbbiihjaaGreatDoor.Ck
open Go.RowKit Kn

theorem dims_at {l : List UInt8} {i : Nat} (h : ∀ j, j < i → l[j]? = some 91) (hi : i ≤ l.length) : dims l = i + dims (l.drop i) := by
  induction i with
  | zero => simp
  | succ k ih =>
    have h1 := ih (fun j hj => h j (by omega)) (by omega)
    have h2 := h k (by omega)
    have hk := (List.getElem?_eq_some_iff.1 h2).1
    have hv := (List.getElem?_eq_some_iff.1 h2).2
    rw [h1, List.drop_eq_getElem_cons hk, hv, dims_cons]
    omega

set_option maxRecDepth 100000 in
set_option maxHeartbeats 1000000 in
theorem rdims_any (s : ByteArray) (w : World) (hs : s.size ≤ 1048576) :
    Calls Tryz.prog 120 #[.string s] w fun e w' => e = .returned (.int .i64 (dims s.data.toList : Nat)) ∧ Below w.heap.size w w' := by
  have hl : s.data.toList.length = s.size := by simp
  go_enter Tryz.func120, Tryz.ntmps120
  go_wp2_with fail
  go_loopw [3] (fun x wx => ∃ i : Nat, i ≤ s.size ∧ x = .int .i64 (i : Int) ∧ Hid (∀ j, j < i → s.data.toList[j]? = some 91) ∧ Below w.heap.size w wx) (fun x _ => s.size - (intOf x).toNat)
  case atStart => exact ⟨0, Nat.zero_le _, rfl, fun j hj => absurd hj (Nat.not_lt_zero _), Below.refl _ _⟩
  case round =>
    obtain ⟨i, hi, rfl, HN, hbe⟩ := hrel
    by_cases hlt : i < s.size
    · obtain ⟨b, eb⟩ : ∃ b, b = s[i]'hlt := ⟨_, rfl⟩
      have hb0 : s.data.toList[i]? = some b := by rw [eb]; exact W.data_at s i hlt
      have hxi : ∀ h : i < s.size, s[i]'h = b := fun _ => eb.symm
      clear eb
      by_cases h91 : b = 91
      · subst h91
        have HN2 : Hid (∀ j, j < i + 1 → s.data.toList[j]? = some 91) := fun j hj => by
          by_cases e : j = i
          · rw [e]; exact hb0
          · exact unhide HN j (by omega)
        clear HN hb0
        go_wp2
        all_goals go_roundw
        case rel => exact ⟨i + 1, by omega, by simp, HN2, hbe⟩
        case measure => simp [intOf]; omega
      · have hd : dims s.data.toList = i := by
          rw [dims_at (unhide HN) (by omega), List.drop_eq_getElem_cons (by omega), (List.getElem?_eq_some_iff.1 hb0).2, dims_other h91]
          rfl
        have hne : ((b.toNat : Int) == 91) = false := W.byte_ne2 (b := 91) h91
        have Hd := hide hd
        clear hd hb0 HN
        go_wp2
        go_ret
        exact ⟨by rw [unhide Hd]; rfl, hbe⟩
    · obtain rfl : i = s.size := by omega
      have hd : dims s.data.toList = s.size := by
        rw [dims_at (unhide HN) (by omega), List.drop_eq_nil_of_le (by omega)]
        rfl
      have Hd := hide hd
      clear hd HN
      go_wp2
      go_ret
      exact ⟨by rw [unhide Hd]; rfl, hbe⟩

/-- May the method be called so? -/
def calB (P : List K) (op : Nat) (i b : Int) : Bool :=
  (fmt P i).right && !(decide ((fmt P i).name = clinitB) || (decide ((fmt P i).name = initB) && !decide (op = 183))) && (!decide (op = 185) || decide (b = 1 + ((fmt P i).slots : Int)))

set_option maxRecDepth 100000 in
set_option maxHeartbeats 2000000 in
theorem rcalled_any (c : Cw.V) (v : Value) (P : List K) (w : World) (ho : c.g.op < 256) (h : KIn w v P) (hP : P.length ≤ 1048576) (hS : Small P) (ha : M.tag P c.g.a ≠ 0) :
    Calls Tryz.prog 119 #[.agg c.arr, v] w fun e w' => e = .returned (.bool (calB P c.g.op c.g.a c.g.b)) ∧ Below w.heap.size w w' := by
  obtain ⟨ka, hka, ka0, kal⟩ := tag_in rfl ha
  obtain ⟨bb, oo, cap, rfl⟩ := h.form (by intro e; subst e; simp at kal)
  have hbx := (Below.refl w.heap.size w).alloc (Nat.le_refl _) (.cells c.arr 112)
  have hX := Bk.new w c.arr 112
  have hk0 := h.below hbx
  obtain ⟨r, hr⟩ : ∃ r, r = calB P c.g.op c.g.a c.g.b := ⟨_, rfl⟩
  rw [← hr]
  unfold calB at hr
  have hfm : fmt P c.g.a = if M.tag P ((M.kAt P c.g.a).b : Int) = 12 then
    match W.meth (M.text P ((M.kAt P ((M.kAt P c.g.a).b : Int)).b : Int)) with
    | none => ⟨M.text P ((M.kAt P ((M.kAt P c.g.a).b : Int)).a : Int), 0, false⟩
    | some (L, _) => ⟨M.text P ((M.kAt P ((M.kAt P c.g.a).b : Int)).a : Int), W.slotsN L, true⟩
    else ⟨[], 0, false⟩ := rfl
  obtain ⟨⟨at_, op, wide, a, b, low, keys, tgts⟩, kv, tv⟩ := c
  unfold Cw.V.arr at hbx hX hk0 ⊢
  simp only at hbx hX hk0 hr hfm ho ha hka ⊢
  subst hka
  obtain ⟨c0, c1', c2, c3, c4⟩ := hk0.at kal
  have hfit := h.at_fit (ka : Int)
  rw [kAt_in ka0 kal] at hfm hfit
  generalize P.getD ka K.zero = c1 at *
  obtain ⟨f1, f2, f3⟩ := hfit
  generalize fmt P (ka : Int) = ft at *
  have HI := hide (fun w h => Kn.Is_any (.slice (some ⟨bb, oo, none⟩) P.length cap) P (c1.b : Int) 12 w h hP (by decide))
  have Hr := hide hr
  clear hr c0 c1' c2 c3
  go_enter Tryz.func119, Tryz.ntmps119
  go_wp2_with fail
  generalize w.alloc (.cells #[.int .i64 at_, .int .u8 (op : Int), .bool wide, .int .i64 (ka : Int), .int .i64 b, .int .i64 low, kv, tv] 112) = w1 at *
  refine (unhide HI _ hk0).mono ?_
  rintro e w2 ⟨rfl, hw⟩
  subst hw
  clear HI c4
  by_cases ht : M.tag P (c1.b : Int) = 12
  · rw [decide_eq_true ht]
    rw [if_pos ht] at hfm
    obtain ⟨kb, hkb, kb0, kbl⟩ := tag_in ht (by decide)
    have hkb2 : c1.b = kb := by omega
    rw [hkb2] at ht hfm ⊢
    obtain ⟨d0, d1, d2, d3, d4⟩ := hk0.at kbl
    have hfit := h.at_fit (kb : Int)
    rw [kAt_in kb0 kbl] at hfm hfit
    generalize P.getD kb K.zero = c2 at *
    obtain ⟨g1, g2, g3⟩ := hfit
    have HS := hide (fun q w h => Kn.RString_any (.slice (some ⟨bb, oo, none⟩) P.length cap) P q w h hP)
    have hds := hS.text (c2.b : Int)
    obtain ⟨nm, hnm⟩ : ∃ nm, nm = M.text P (c2.a : Int) := ⟨_, rfl⟩
    obtain ⟨dt, hdt⟩ : ∃ dt, dt = M.text P (c2.b : Int) := ⟨_, rfl⟩
    rw [← hnm, ← hdt] at hfm
    rw [← hdt] at hds
    have Hnm := hide hnm
    have Hdt := hide hdt
    clear hnm hdt hkb hkb2 f3 d0 d1 d2
    go_wp2_with fail
    refine (unhide HS _ _ hk0).mono ?_
    rintro e w3 ⟨⟨x1, rfl⟩, hw⟩
    subst hw
    rw [← unhide Hnm]
    go_wp2_with fail
    refine (unhide HS _ _ hk0).mono ?_
    rintro e w3 ⟨⟨x2, rfl⟩, hw⟩
    subst hw
    rw [← unhide Hdt]
    have HM := hide (W.RMethod_any ⟨dt.toArray⟩ w3 (by rw [size_of]; exact hds))
    rw [data_of] at HM
    clear HS Hnm Hdt d3 d4 g1 g2 g3
    go_wp2_with fail
    refine (unhide HM).mono ?_
    rintro e w4 ⟨hb4, hres⟩
    have hX4 := hX.below hb4
    have hb04 := hbx.trans (hb4.mono hbx.size)
    obtain ⟨nb, hnb⟩ : ∃ nb : ByteArray, nb = ⟨nm.toArray⟩ := ⟨_, rfl⟩
    rw [← hnb]
    obtain ⟨Q1, hQ1⟩ : ∃ q, q = decide (nm = clinitB) := ⟨_, rfl⟩
    obtain ⟨Q2, hQ2⟩ : ∃ q, q = decide (nm = initB) := ⟨_, rfl⟩
    obtain ⟨O3, hO3⟩ : ∃ q, q = decide (op = 183) := ⟨_, rfl⟩
    obtain ⟨O5, hO5⟩ : ∃ q, q = decide (op = 185) := ⟨_, rfl⟩
    have q1 : (nb.toList == [60, 99, 108, 105, 110, 105, 116, 62]) = Q1 := by rw [hnb, hQ1, Lib.toList_data, data_of]; unfold clinitB; rw [Bool.eq_iff_iff, beq_iff_eq, decide_eq_true_iff]
    have q2 : (nb.toList == [60, 105, 110, 105, 116, 62]) = Q2 := by rw [hnb, hQ2, Lib.toList_data, data_of]; unfold initB; rw [Bool.eq_iff_iff, beq_iff_eq, decide_eq_true_iff]
    have q3 : ((op : Int) == 183) = O3 := by rw [hO3, Bool.eq_iff_iff]; simp; omega
    have q5 : ((op : Int) == 185) = O5 := by rw [hO5, Bool.eq_iff_iff]; simp; omega
    have q4 : ((op : Int) != 183) = !O3 := by rw [bne, q3]
    have q6 : ((op : Int) != 185) = !O5 := by rw [bne, q5]
    have o1 : w4.cell? ⟨w.heap.size, 1, none⟩ = some (.int .u8 (op : Int)) := hX4.cell 1
    have o4 : w4.cell? ⟨w.heap.size, 4, none⟩ = some (.int .i64 b) := hX4.cell 4
    clear hnb
    rcases hres with ⟨hn, rfl⟩ | ⟨L, g, tv, hn, rfl, hown⟩
    · rw [hn] at hfm
      simp only at hfm
      have e : r = false := by rw [unhide Hr, hfm]; rfl
      subst e
      clear hfm Hr hn hQ1 hQ2 hO3 hO5 HM hb4
      go_wp2_with fail
      refine wp_loop_rounds 1 ?_
      rw [rounds_succ]
      cases Q1 <;> cases Q2 <;> cases O3
      all_goals
        go_wp2
        go_ret
        exact ⟨rfl, hb04⟩
    · rw [hn] at hfm
      simp only at hfm
      have hLl : L.length ≤ 1048576 := Nat.le_trans (meth_len hn) hds
      have hsL := W.slots_le L
      have hHas : W.Has w4 tv L := W.Has.of_own hown
      have e : r = (!(Q1 || (Q2 && !O3)) && (!O5 || decide (b = 1 + (W.slotsN L : Int)))) := by rw [unhide Hr, hfm, hQ1, hQ2, hO3, hO5]; simp
      have He := hide e
      clear hfm Hr hn hQ1 hQ2 hO3 hO5 HM hb4 e hown
      rcases hHas with ⟨ta, tc, rfl, rfl⟩ | ⟨tg, tof, tc, rfl, htc⟩
      · go_wp2_with fail
        refine wp_loop_rounds 1 ?_
        rw [rounds_succ]
        by_cases hb1 : b = 1
        all_goals
          cases Q1 <;> cases Q2 <;> cases O3 <;> cases O5
          all_goals
            go_wp2
            go_ret
            exact ⟨by rw [unhide He]; simp [hb1, W.slotsN] <;> first | rfl | omega, hb04⟩
      · have Hcell := hide htc
        clear htc
        go_wp2_with fail
        go_loopw [13, 57] (fun x y wx => ∃ k : Nat, k ≤ L.length ∧ x = .int .i64 (1 + ((W.slotsN (L.take k) : Nat) : Int)) ∧ y = .int .i64 (k : Int) ∧ wx = w4) (fun _ y _ => L.length - (intOf y).toNat)
        case atStart => exact ⟨0, Nat.zero_le _, rfl, rfl, rfl⟩
        case round =>
          obtain ⟨k, hk, rfl, rfl, hww⟩ := hrel
          subst wr
          have hsl := W.slots_le (L.take k)
          rw [List.length_take] at hsl
          by_cases hlt : k < L.length
          · obtain ⟨l, hl1, hl2⟩ := W.SV_at hlt
            have hcell : w4.cell? ⟨tg, tof + k, none⟩ = some (.string ⟨l.toArray⟩) := (unhide Hcell k hlt).trans hl2
            have hst := W.slots_take hl1
            have hln := W.slotN_le l
            have HS := hide (fun w => W.RSlots_any ⟨l.toArray⟩ w)
            rw [data_of] at HS
            have Hst := hide hst
            generalize W.slotsN (L.take k) = A at *
            generalize W.slotN l = D at *
            have hki : (k : Int) < (L.length : Int) := by omega
            have hA : A ≤ 2097152 := by omega
            clear hl1 hl2 hst hsl
            go_wp2_with fail
            refine (unhide HS _).mono ?_
            rintro e w' ⟨rfl, hww⟩
            subst w'
            go_wp2
            go_roundw
            case rel => exact ⟨k + 1, by omega, by rw [unhide Hst]; simp; try omega, by simp, trivial⟩
            case measure => simp [intOf]; omega
          · obtain rfl : k = L.length := by omega
            rw [List.take_length] at hsl ⊢
            generalize W.slotsN L = S at *
            clear hsl
            by_cases hb1 : b = 1 + (S : Int)
            · have hbq : ((1 + (S : Int)) == b) = true := by simp; omega
              cases Q1 <;> cases Q2 <;> cases O3 <;> cases O5
              all_goals
                go_wp2
                go_ret
                exact ⟨by rw [unhide He]; simp [hb1] <;> first | rfl | omega, hb04⟩
            · have hbq : ((1 + (S : Int)) == b) = false := by rw [beq_eq_false_iff_ne]; omega
              cases Q1 <;> cases Q2 <;> cases O3 <;> cases O5
              all_goals
                go_wp2
                go_ret
                exact ⟨by rw [unhide He]; simp [hb1] <;> first | rfl | omega, hb04⟩
  · rw [decide_eq_false ht]
    rw [if_neg ht] at hfm
    have e : r = false := by rw [unhide Hr, hfm]; rfl
    subst e
    go_wp2
    go_ret
    exact ⟨rfl, hbx⟩
end Go.Proofs.YtddhlphbbiihjaaGreatDoor.Ck
namespace Go.Proofs.YtddhlphbbiihjaaGreatDoor.Ck
open Go.RowKit Kn

/-- The map of methods that were found. -/
def Mp (P : List K) (w : World) (mb : Nat) : Prop := ∃ es clock, w.heap[mb]? = some (.map es clock) ∧ ∀ x ∈ es.toList, ∃ i : Int, x.key = .int .i64 i ∧ x.val = (fmt P i).val
/-- A world in which nothing old has turned but one block. -/
structure Bx (mb : Nat) (w w' : World) : Prop where
  os : w'.os = w.os
  tape : w'.tape = w.tape
  output : w'.output = w.output
  size : w.heap.size ≤ w'.heap.size
  block : ∀ k, k < w.heap.size → k ≠ mb → w'.heap[k]? = w.heap[k]?
theorem Bx.of {mb : Nat} {w w' : World} (h : Below w.heap.size w w') : Bx mb w w' := ⟨h.os, h.tape, h.output, h.size, fun k hk _ => h.block k hk⟩
theorem Bx.trans {mb : Nat} {a b c : World} (h1 : Bx mb a b) (h2 : Bx mb b c) : Bx mb a c :=
  ⟨h2.os.trans h1.os, h2.tape.trans h1.tape, h2.output.trans h1.output, Nat.le_trans h1.size h2.size, fun k hk hne => (h2.block k (Nat.lt_of_lt_of_le hk h1.size) hne).trans (h1.block k hk hne)⟩
theorem Mp.ne {P : List K} {w : World} {mb : Nat} (h : Mp P w mb) {a : Addr} {v : Value} (hc : w.cell? a = some v) : a.block ≠ mb := by
  intro e
  obtain ⟨es, c, hb, _⟩ := h
  unfold World.cell? at hc
  rw [e, hb] at hc
  cases hc
theorem Bx.cell {P : List K} {mb : Nat} {w w' : World} (h : Bx mb w w') (hM : Mp P w mb) {a : Addr} {v : Value} (hc : w.cell? a = some v) : w'.cell? a = some v := by
  have hb := h.block a.block (cell_lt hc) (hM.ne hc)
  unfold World.cell? at hc ⊢
  rw [hb]; exact hc
theorem Mp.below {P : List K} {w w' : World} {mb : Nat} (h : Mp P w mb) (hb : Below w.heap.size w w') : Mp P w' mb := by
  obtain ⟨es, c, h1, h2⟩ := h
  exact ⟨es, c, by rw [hb.block mb (Array.getElem?_eq_some_iff.1 h1).1]; exact h1, h2⟩
theorem KIn.bx {P : List K} {v : Value} {mb : Nat} {w w' : World} (h : KIn w v P) (hM : Mp P w mb) (hb : Bx mb w w') : KIn w' v P := by
  obtain ⟨ad, cap, e, h1⟩ := h.ex
  refine ⟨h.fit, ad, cap, e, fun hne => ?_⟩
  obtain ⟨b, o, e1, h2⟩ := h1 hne
  refine ⟨b, o, e1, fun k hk i hi => ?_⟩
  have h3 := h2 k hk i hi
  obtain ⟨u, h4⟩ : ∃ u, (P.getD k K.zero).cells[i]? = some u := ⟨_, List.getElem?_eq_getElem (by simpa [K.cells] using hi)⟩
  rw [h4] at h3 ⊢
  exact hb.cell hM h3
theorem Mx.bx {P : List K} {mb : Nat} {w w' : World} (h : Mx w) (hM : Mp P w mb) (hb : Bx mb w w') : Mx w' := by
  obtain ⟨m, hm⟩ := h
  exact ⟨m, hb.cell hM hm⟩

theorem zero166 (w : World) : (zeroValue 166).run Tryz.prog w = .ok (.agg #[.string ⟨#[]⟩, .int .i64 0, .bool false]) w := by kernel_rfl
theorem key_int (i : Int) : MapKept.IsKey (.int .i64) (.int .i64 i) := by simp [MapKept.IsKey]

/-- What a look into the map tells; and, if nothing is there, what a store leaves. -/
theorem Mp.look {P : List K} {w : World} {mb : Nat} (h : Mp P w mb) (i : Int) :
    ((Instr.lookup 133 (.map (some mb)) (.int .i64 i) true).run Tryz.prog w = .ok (.tuple #[(fmt P i).val, .bool true]) w) ∨
    ((Instr.lookup 133 (.map (some mb)) (.int .i64 i) true).run Tryz.prog w = .ok (.tuple #[.agg #[.string ⟨#[]⟩, .int .i64 0, .bool false], .bool false]) w ∧
      ∀ W : World, W.heap[mb]? = w.heap[mb]? → ∃ W', (Instr.mapUpdate 133 (.map (some mb)) (.int .i64 i) (fmt P i).val).run Tryz.prog W = .ok () W' ∧ Mp P W' mb ∧ Bx mb W W' ∧ W'.heap.size = W.heap.size) := by
  obtain ⟨es, clock, hb, he⟩ := h
  have hkeys : ∀ x ∈ es.toList, MapKept.IsKey (.int .i64) x.key := fun x hx => by
    obtain ⟨j, hj, _⟩ := he x hx
    rw [hj]; exact key_int j
  rcases MapKept.findNow_spec (key_int i) es.toList 0 hkeys with ⟨h1, h2⟩ | ⟨j, e, h1, h2, h3⟩
  · right
    refine ⟨?_, fun W hW => ?_⟩
    · simp [Instr.lookup, run_underlying Tryz.underlying133, MapKept.run_getObj_map hb, MapKept.run_checkKey Tryz.underlying3 (key_int i), MapKept.run_findKey Tryz.underlying3 h1, zero166, Result.andThen]
    · have hbW : W.heap[mb]? = some (.map es clock) := hW.trans hb
      have hs := MapKept.heap_set (o' := .map (es.push { key := .int .i64 i, val := (fmt P i).val, born := clock }) (clock + 1)) hbW
      refine ⟨{ W with heap := W.heap.setIfInBounds mb (.map (es.push { key := .int .i64 i, val := (fmt P i).val, born := clock }) (clock + 1)) }, ?_, ⟨_, _, hs.1, fun x hx => ?_⟩, ⟨rfl, rfl, rfl, by simp, fun k hk hne => hs.2 k hne⟩, by simp⟩
      · simp [Instr.mapUpdate, run_underlying Tryz.underlying133, MapKept.run_getObj_map hbW, MapKept.run_checkKey Tryz.underlying3 (key_int i), MapKept.run_findKey Tryz.underlying3 h1, MapKept.run_setObj_map _ hbW, Result.andThen]
      · simp only [Array.toList_push, List.mem_append, List.mem_singleton] at hx
        rcases hx with hx | hx
        · exact he x hx
        · rw [hx]; exact ⟨i, rfl, rfl⟩
  · left
    have hm : e ∈ es.toList := List.mem_of_getElem? h2
    obtain ⟨q, hq, hv⟩ := he e hm
    have : q = i := by rw [h3] at hq; cases hq; rfl
    subst this
    rw [hv] at h1
    simp [Instr.lookup, run_underlying Tryz.underlying133, MapKept.run_getObj_map hb, MapKept.run_checkKey Tryz.underlying3 (key_int q), MapKept.run_findKey Tryz.underlying3 h1, Result.andThen]
end Go.Proofs.YtddhlphbbiihjaaGreatDoor.Ck
namespace Go.Proofs.YtddhlphbbiihjaaGreatDoor.Ck
open Go.RowKit Kn

/-- The checker, its pool and its map. -/
structure Ch (w : World) (cb mb : Nat) (pv : Value) (P : List K) : Prop where
  c0 : w.cell? ⟨cb, 0, none⟩ = some pv
  c2 : w.cell? ⟨cb, 2, none⟩ = some (.map (some mb))
  mp : Mp P w mb
  k : KIn w pv P
  mx : Mx w
theorem Ch.below {w w' : World} {cb mb : Nat} {pv : Value} {P : List K} (h : Ch w cb mb pv P) (hb : Below w.heap.size w w') : Ch w' cb mb pv P :=
  ⟨by rw [hb.cell (cell_lt h.c0)]; exact h.c0, by rw [hb.cell (cell_lt h.c2)]; exact h.c2, h.mp.below hb, h.k.below hb, h.mx.below hb⟩
theorem Ch.bx {w w' : World} {cb mb : Nat} {pv : Value} {P : List K} (h : Ch w cb mb pv P) (hb : Bx mb w w') (hM : Mp P w' mb) : Ch w' cb mb pv P :=
  ⟨hb.cell h.mp h.c0, hb.cell h.mp h.c2, hM, KIn.bx h.k h.mp hb, Mx.bx h.mx h.mp hb⟩

set_option maxRecDepth 100000 in
set_option maxHeartbeats 2000000 in
theorem method_any (cb mb : Nat) (pv : Value) (P : List K) (i : Int) (w : World) (h : Ch w cb mb pv P) (hP : P.length ≤ 1048576) (hS : Small P) :
    Calls Tryz.prog 112 #[.pointer (some ⟨cb, 0, none⟩), .int .i64 i] w fun e w' => e = .returned (fmt P i).val ∧ Bx mb w w' ∧ Ch w' cb mb pv P := by
  have hb0 := (Below.refl w.heap.size w).alloc (Nat.le_refl _) (.cells #[.string ⟨#[]⟩, .int .i64 0, .bool false] 166)
  have hB0 := Bk.new w #[.string ⟨#[]⟩, .int .i64 0, .bool false] 166
  have h0 := h.below hb0
  have c2 := h0.c2
  have hF := fun (W : World) (hW : Ch W cb mb pv P) => findMethod_any cb pv P i W hW.mx hW.c0 hW.k hP hS
  have hlk := h0.mp.look i
  obtain ⟨m, hm⟩ : ∃ m, m = fmt P i := ⟨_, rfl⟩
  rw [← hm] at hlk hF ⊢
  obtain ⟨nm, sl, rt⟩ := m
  unfold Mt.val at *
  simp only at *
  have HF := hide hF
  clear hm hF
  rcases hlk with hl | ⟨hl, hu⟩
  · have hR := (Bk.new w #[.string ⟨nm.toArray⟩, .int .i64 (sl : Int), .bool rt] 166).alloc #[.string ⟨nm.toArray⟩, .int .i64 (sl : Int), .bool rt] 166
    have hbe := ((Below.refl w.heap.size w).alloc (Nat.le_refl _) (.cells #[.string ⟨nm.toArray⟩, .int .i64 (sl : Int), .bool rt] 166)).alloc (by simp) (.cells #[.string ⟨nm.toArray⟩, .int .i64 (sl : Int), .bool rt] 166)
    have hC := h.below hbe
    have HR := hide (And.intro hR (And.intro hbe hC))
    clear hR hbe hC HF hB0 hb0
    go_enter Tryz.func112, Tryz.ntmps112
    go_wp2
    refine bodyPost_ret (results_cell_row Tryz.results112 _ _ w.heap.size 166 _ (0, 0) _ rfl (unhide HR).1 Tryz.underlying166 rfl (by kernel_rfl)) rfl ?_
    exact ⟨rfl, Bx.of (unhide HR).2.1, (unhide HR).2.2⟩
  · have Hu := hide hu
    have hb1 := hb0.alloc (by simp) (.cells #[.string ⟨#[]⟩, .int .i64 0, .bool false] 166)
    have hC1 := h.below hb1
    have hR1 := hB0.alloc #[.string ⟨#[]⟩, .int .i64 0, .bool false] 166
    have hmb : ((w.alloc (.cells #[.string ⟨#[]⟩, .int .i64 0, .bool false] 166)).alloc (.cells #[.string ⟨#[]⟩, .int .i64 0, .bool false] 166)).heap[mb]? = (w.alloc (.cells #[.string ⟨#[]⟩, .int .i64 0, .bool false] 166)).heap[mb]? := by
      obtain ⟨es, ck, hm1, _⟩ := h0.mp
      obtain ⟨es2, ck2, hm2, _⟩ := h.mp
      have hlt := (Array.getElem?_eq_some_iff.1 hm2).1
      rw [hb1.block mb hlt, hb0.block mb hlt]
    have Hmb := hide hmb
    clear hu hmb
    go_enter Tryz.func112, Tryz.ntmps112
    go_wp2_with fail
    generalize hw2 : (w.alloc (.cells #[.string ⟨#[]⟩, .int .i64 0, .bool false] 166)).alloc (.cells #[.string ⟨#[]⟩, .int .i64 0, .bool false] 166) = w2 at *
    generalize w.alloc (.cells #[.string ⟨#[]⟩, .int .i64 0, .bool false] 166) = wA at *
    refine (unhide HF _ hC1).mono ?_
    rintro e w3 ⟨rfl, hb3⟩
    have hbx := (Below.refl w3.heap.size w3).alloc (Nat.le_refl _) (.cells #[.string ⟨nm.toArray⟩, .int .i64 (sl : Int), .bool rt] 166)
    have hb23 := hb3.trans (hbx.mono hb3.size)
    have hC3 := hC1.below hb23
    have hR3 := hR1.below hb23
    have hT3 := Bk.new w3 #[.string ⟨nm.toArray⟩, .int .i64 (sl : Int), .bool rt] 166
    have hmb3 : (w3.alloc (.cells #[.string ⟨nm.toArray⟩, .int .i64 (sl : Int), .bool rt] 166)).heap[mb]? = wA.heap[mb]? := by
      obtain ⟨es2, ck2, hm2, _⟩ := hC1.mp
      rw [hb23.block mb (Array.getElem?_eq_some_iff.1 hm2).1]; exact unhide Hmb
    obtain ⟨W', hrun, hM', hbW, hsz⟩ := unhide Hu (w3.alloc (.cells #[.string ⟨nm.toArray⟩, .int .i64 (sl : Int), .bool rt] 166)).drew hmb3
    replace hbW : Bx mb (w3.alloc (.cells #[.string ⟨nm.toArray⟩, .int .i64 (sl : Int), .bool rt] 166)) W' := ⟨hbW.os, hbW.tape, hbW.output, hbW.size, hbW.block⟩
    have hb03 := hb1.trans (hb23.mono hb1.size)
    have cc2 := hC3.c2
    have hne1 := hC3.mp.ne (hT3.cell 0)
    have hne2 := hC3.mp.ne (hR3.cell 0)
    have hTW : Bk W' w3.heap.size #[.string ⟨nm.toArray⟩, .int .i64 (sl : Int), .bool rt] 166 := by unfold Bk at hT3 ⊢; rw [hbW.block _ (Array.getElem?_eq_some_iff.1 hT3).1 hne1]; exact hT3
    have hRW : Bk W' w.heap.size #[.string ⟨#[]⟩, .int .i64 0, .bool false] 166 := by unfold Bk at hR3 ⊢; rw [hbW.block _ (Array.getElem?_eq_some_iff.1 hR3).1 hne2]; exact hR3
    have hCW := hC3.bx hbW hM'
    have hx := (Bx.of (mb := mb) hb03).trans hbW
    clear hb0 hB0 h0 c2 hl hb1 hC1 hR1 Hmb Hu hw2 hb3 hbx hb23 hmb3 HF hR3 hbW hb03
    have t0 : W'.cell? ⟨w3.heap.size, 0, none⟩ = some (.string ⟨nm.toArray⟩) := hTW.cell 0
    have t1 : W'.cell? ⟨w3.heap.size, 1, none⟩ = some (.int .i64 (sl : Int)) := hTW.cell 1
    have t2 : W'.cell? ⟨w3.heap.size, 2, none⟩ = some (.bool rt) := hTW.cell 2
    have s0 : W'.cell? ⟨w.heap.size, 0, none⟩ = some (.string ⟨#[]⟩) := hRW.cell 0
    have s1 : W'.cell? ⟨w.heap.size, 1, none⟩ = some (.int .i64 0) := hRW.cell 1
    have s2 : W'.cell? ⟨w.heap.size, 2, none⟩ = some (.bool false) := hRW.cell 2
    have z0 := hRW.frozen 0
    have z1 := hRW.frozen 1
    have z2 := hRW.frozen 2
    have b3 := hRW.set 0 (.string ⟨nm.toArray⟩)
    have b4 := b3.set 1 (.int .i64 (sl : Int))
    have b5 := b4.set 2 (.bool rt)
    have hbs : Below w.heap.size W' (((W'.setCell ⟨w.heap.size, 0, none⟩ (.string ⟨nm.toArray⟩)).setCell ⟨w.heap.size, 1, none⟩ (.int .i64 (sl : Int))).setCell ⟨w.heap.size, 2, none⟩ (.bool rt)) :=
      (((Below.refl _ _).setCell (p := ⟨w.heap.size, 0, none⟩) (Nat.le_refl _) _).setCell (p := ⟨w.heap.size, 1, none⟩) (Nat.le_refl _) _).setCell (p := ⟨w.heap.size, 2, none⟩) (Nat.le_refl _) _
    have B5 := hide b5
    have Hx := hide hx
    have Hbs := hide hbs
    have HCW := hide hCW
    clear b3 b4 b5 hx hbs hCW hTW hRW hne1 hne2 hC3 hT3 hM' hsz
    go_wp2
    go_region
    all_goals
      go_wp2
      refine bodyPost_ret (results_cell_row Tryz.results112 _ _ w.heap.size 166 _ (0, 0) _ rfl (unhide B5) Tryz.underlying166 rfl (by kernel_rfl)) rfl ?_
      have hxs : Bx mb w (((W'.setCell ⟨w.heap.size, 0, none⟩ (.string ⟨nm.toArray⟩)).setCell ⟨w.heap.size, 1, none⟩ (.int .i64 (sl : Int))).setCell ⟨w.heap.size, 2, none⟩ (.bool rt)) :=
        ⟨(unhide Hbs).os.trans (unhide Hx).os, (unhide Hbs).tape.trans (unhide Hx).tape, (unhide Hbs).output.trans (unhide Hx).output, Nat.le_trans (unhide Hx).size (unhide Hbs).size, fun k hk hne => ((unhide Hbs).block k hk).trans ((unhide Hx).block k hk hne)⟩
      have hmps : Mp P (((W'.setCell ⟨w.heap.size, 0, none⟩ (.string ⟨nm.toArray⟩)).setCell ⟨w.heap.size, 1, none⟩ (.int .i64 (sl : Int))).setCell ⟨w.heap.size, 2, none⟩ (.bool rt)) mb := by
        obtain ⟨es, ck, hm2, he⟩ := (unhide HCW).mp
        obtain ⟨es2, ck2, hm3, _⟩ := h.mp
        exact ⟨es, ck, by rw [(unhide Hbs).block mb (Array.getElem?_eq_some_iff.1 hm3).1]; exact hm2, he⟩
      exact ⟨rfl, hxs, h.bx hxs hmps⟩
end Go.Proofs.YtddhlphbbiihjaaGreatDoor.Ck
namespace Go.Proofs.YtddhlphbbiihjaaGreatDoor.Ck
open Go.RowKit Kn

def calP (P : List K) (op : Nat) (i : Int) : Bool := (fmt P i).right && !decide ((fmt P i).name = clinitB) && (!decide ((fmt P i).name = initB) || decide (op = 183))

set_option maxRecDepth 100000 in
set_option maxHeartbeats 2000000 in
theorem called_any (c : Cw.V) (cb mb : Nat) (pv : Value) (P : List K) (w : World) (ho : c.g.op < 256) (h : Ch w cb mb pv P) (hP : P.length ≤ 1048576) (hS : Small P) :
    Calls Tryz.prog 111 #[.pointer (some ⟨cb, 0, none⟩), .agg c.arr] w fun e w' => e = .returned (.bool (calP P c.g.op c.g.a)) ∧ Bx mb w w' ∧ Ch w' cb mb pv P := by
  have hbx := (Below.refl w.heap.size w).alloc (Nat.le_refl _) (.cells c.arr 112)
  have hX := Bk.new w c.arr 112
  have hC0 := h.below hbx
  have HM := hide (fun (W : World) (hW : Ch W cb mb pv P) => method_any cb mb pv P c.g.a W hW hP hS)
  obtain ⟨r, hr⟩ : ∃ r, r = calP P c.g.op c.g.a := ⟨_, rfl⟩
  rw [← hr]
  unfold calP at hr
  obtain ⟨⟨at_, op, wide, a, b, low, keys, tgts⟩, kv, tv⟩ := c
  unfold Cw.V.arr at *
  simp only at *
  obtain ⟨m, hm⟩ : ∃ m, m = fmt P a := ⟨_, rfl⟩
  rw [← hm] at hr HM
  obtain ⟨nm, sl, rt⟩ := m
  unfold Mt.val at HM
  simp only at hr HM
  clear hm
  obtain ⟨nb, hnb⟩ : ∃ nb : ByteArray, nb = ⟨nm.toArray⟩ := ⟨_, rfl⟩
  obtain ⟨Q1, hQ1⟩ : ∃ q, q = decide (nm = clinitB) := ⟨_, rfl⟩
  obtain ⟨Q2, hQ2⟩ : ∃ q, q = decide (nm = initB) := ⟨_, rfl⟩
  obtain ⟨O3, hO3⟩ : ∃ q, q = decide (op = 183) := ⟨_, rfl⟩
  have q1 : (nb.toList == [60, 99, 108, 105, 110, 105, 116, 62]) = Q1 := by rw [hnb, hQ1, Lib.toList_data, data_of]; unfold clinitB; rw [Bool.eq_iff_iff, beq_iff_eq, decide_eq_true_iff]
  have q2 : (nb.toList == [60, 105, 110, 105, 116, 62]) = Q2 := by rw [hnb, hQ2, Lib.toList_data, data_of]; unfold initB; rw [Bool.eq_iff_iff, beq_iff_eq, decide_eq_true_iff]
  have q3 : ((op : Int) == 183) = O3 := by rw [hO3, Bool.eq_iff_iff]; simp; omega
  rw [← hnb] at HM
  rw [← hQ1, ← hQ2, ← hO3] at hr
  have Hr := hide hr
  clear hr hQ1 hQ2 hO3 hnb
  go_enter Tryz.func111, Tryz.ntmps111
  go_wp2_with fail
  generalize w.alloc (.cells #[.int .i64 at_, .int .u8 (op : Int), .bool wide, .int .i64 a, .int .i64 b, .int .i64 low, kv, tv] 112) = w1 at *
  refine (unhide HM _ hC0).mono ?_
  rintro e w2 ⟨rfl, hb2, hC2⟩
  have hne := hC0.mp.ne (hX.cell 0)
  have hX2 : Bk w2 w.heap.size #[.int .i64 at_, .int .u8 (op : Int), .bool wide, .int .i64 a, .int .i64 b, .int .i64 low, kv, tv] 112 := by unfold Bk at hX ⊢; rw [hb2.block _ (Array.getElem?_eq_some_iff.1 hX).1 hne]; exact hX
  have hbm := (Below.refl w2.heap.size w2).alloc (Nat.le_refl _) (.cells #[.string nb, .int .i64 (sl : Int), .bool rt] 166)
  have hX3 := hX2.below hbm
  have hT3 := Bk.new w2 #[.string nb, .int .i64 (sl : Int), .bool rt] 166
  have hC3 := hC2.below hbm
  have hx3 := ((Bx.of (mb := mb) hbx).trans hb2).trans (Bx.of hbm)
  have o1 := hX3.cell 1
  have HC3 := hide hC3
  have Hx3 := hide hx3
  clear hC0 hC2 hbx hb2 hne hX hX2 hbm hC3 hx3 HM
  cases rt <;> cases Q1 <;> cases Q2 <;> cases O3
  all_goals
    have e : r = _ := unhide Hr
    have He := hide e
    clear e Hr
    go_wp2
    first
    | (go_ret
       exact ⟨by rw [unhide He]; rfl, unhide Hx3, unhide HC3⟩)
    | (go_region
       all_goals
         go_wp2
         go_ret
         exact ⟨by rw [unhide He]; rfl, unhide Hx3, unhide HC3⟩)
end Go.Proofs.YtddhlphbbiihjaaGreatDoor.Ck
