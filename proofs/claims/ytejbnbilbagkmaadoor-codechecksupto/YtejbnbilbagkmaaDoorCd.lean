/-
  CodeChecks: the reference's dims and called.
-/
import Derived.Test.YtejbnbilbagkmaaDoorCc
namespace Go.Proofs.YtejbnbilbagkmaaDoor.Ck
open Go.RowKit Kn
set_option linter.unusedVariables false
set_option linter.unusedSimpArgs false

theorem dims_at {l : List UInt8} {i : Nat} (h : ∀ j, j < i → l[j]? = some 91) (hi : i ≤ l.length) : dims l = i + dims (l.drop i) := by
  induction i with
  | zero => simp
  | succ k ih =>
    have h1 := ih (fun j hj => h j (by omega)) (by omega)
    have h2 := h k (by omega)
    have hk := (List.getElem?_eq_some_iff.1 h2).1
    have hv := (List.getElem?_eq_some_iff.1 h2).2
    rw [h1, List.drop_eq_getElem_cons hk, hv, dims_cons]
    omega

set_option maxRecDepth 100000 in
set_option maxHeartbeats 1000000 in
theorem rdims_any (s : ByteArray) (w : World) (hs : s.size ≤ 1048576) :
    Calls Tryd.prog 51 #[.string s] w fun e w' => e = .returned (.int .i64 (dims s.data.toList : Nat)) ∧ Below w.heap.size w w' := by
  have hl : s.data.toList.length = s.size := by simp
  go_enter Tryd.func51, Tryd.ntmps51
  go_wp2_with fail
  go_loopw [3] (fun x wx => ∃ i : Nat, i ≤ s.size ∧ x = .int .i64 (i : Int) ∧ Hid (∀ j, j < i → s.data.toList[j]? = some 91) ∧ Below w.heap.size w wx) (fun x _ => s.size - (intOf x).toNat)
  case atStart => exact ⟨0, Nat.zero_le _, rfl, fun j hj => absurd hj (Nat.not_lt_zero _), Below.refl _ _⟩
  case round =>
    obtain ⟨i, hi, rfl, HN, hbe⟩ := hrel
    by_cases hlt : i < s.size
    · obtain ⟨b, eb⟩ : ∃ b, b = s[i]'hlt := ⟨_, rfl⟩
      have hb0 : s.data.toList[i]? = some b := by rw [eb]; exact W.data_at s i hlt
      have hxi : ∀ h : i < s.size, s[i]'h = b := fun _ => eb.symm
      clear eb
      by_cases h91 : b = 91
      · subst h91
        have HN2 : Hid (∀ j, j < i + 1 → s.data.toList[j]? = some 91) := fun j hj => by
          by_cases e : j = i
          · rw [e]; exact hb0
          · exact unhide HN j (by omega)
        clear HN hb0
        go_wp2
        all_goals go_roundw
        case rel => exact ⟨i + 1, by omega, by simp, HN2, hbe⟩
        case measure => simp [intOf]; omega
      · have hd : dims s.data.toList = i := by
          rw [dims_at (unhide HN) (by omega), List.drop_eq_getElem_cons (by omega), (List.getElem?_eq_some_iff.1 hb0).2, dims_other h91]
          rfl
        have hne : ((b.toNat : Int) == 91) = false := W.byte_ne2 (b := 91) h91
        have Hd := hide hd
        clear hd hb0 HN
        go_wp2
        go_ret
        exact ⟨by rw [unhide Hd]; rfl, hbe⟩
    · obtain rfl : i = s.size := by omega
      have hd : dims s.data.toList = s.size := by
        rw [dims_at (unhide HN) (by omega), List.drop_eq_nil_of_le (by omega)]
        rfl
      have Hd := hide hd
      clear hd HN
      go_wp2
      go_ret
      exact ⟨by rw [unhide Hd]; rfl, hbe⟩

/-- May the method be called so? -/
def calB (P : List K) (op : Nat) (i b : Int) : Bool :=
  (fmt P i).right && !(decide ((fmt P i).name = clinitB) || (decide ((fmt P i).name = initB) && !decide (op = 183))) && (!decide (op = 185) || decide (b = 1 + ((fmt P i).slots : Int)))

set_option maxRecDepth 100000 in
set_option maxHeartbeats 2000000 in
theorem rcalled_any (c : Cw.V) (v : Value) (P : List K) (w : World) (ho : c.g.op < 256) (h : KIn w v P) (hP : P.length ≤ 1048576) (hS : Small P) (ha : M.tag P c.g.a ≠ 0) :
    Calls Tryd.prog 50 #[.agg c.arr, v] w fun e w' => e = .returned (.bool (calB P c.g.op c.g.a c.g.b)) ∧ Below w.heap.size w w' := by
  obtain ⟨ka, hka, ka0, kal⟩ := tag_in rfl ha
  obtain ⟨bb, oo, cap, rfl⟩ := h.form (by intro e; subst e; simp at kal)
  have hbx := (Below.refl w.heap.size w).alloc (Nat.le_refl _) (.cells c.arr 50)
  have hX := Bk.new w c.arr 50
  have hk0 := h.below hbx
  obtain ⟨r, hr⟩ : ∃ r, r = calB P c.g.op c.g.a c.g.b := ⟨_, rfl⟩
  rw [← hr]
  unfold calB at hr
  have hfm : fmt P c.g.a = if M.tag P ((M.kAt P c.g.a).b : Int) = 12 then
    match W.meth (M.text P ((M.kAt P ((M.kAt P c.g.a).b : Int)).b : Int)) with
    | none => ⟨M.text P ((M.kAt P ((M.kAt P c.g.a).b : Int)).a : Int), 0, false⟩
    | some (L, _) => ⟨M.text P ((M.kAt P ((M.kAt P c.g.a).b : Int)).a : Int), W.slotsN L, true⟩
    else ⟨[], 0, false⟩ := rfl
  obtain ⟨⟨at_, op, wide, a, b, low, keys, tgts⟩, kv, tv⟩ := c
  unfold Cw.V.arr at hbx hX hk0 ⊢
  simp only at hbx hX hk0 hr hfm ho ha hka ⊢
  subst hka
  obtain ⟨c0, c1', c2, c3, c4⟩ := hk0.at kal
  have hfit := h.at_fit (ka : Int)
  rw [kAt_in ka0 kal] at hfm hfit
  generalize P.getD ka K.zero = c1 at *
  obtain ⟨f1, f2, f3⟩ := hfit
  generalize fmt P (ka : Int) = ft at *
  have HI := hide (fun w h => Kn.Is_any (.slice (some ⟨bb, oo, none⟩) P.length cap) P (c1.b : Int) 12 w h hP (by decide))
  have Hr := hide hr
  clear hr c0 c1' c2 c3
  go_enter Tryd.func50, Tryd.ntmps50
  go_wp2_with fail
  generalize w.alloc (.cells #[.int .i64 at_, .int .u8 (op : Int), .bool wide, .int .i64 (ka : Int), .int .i64 b, .int .i64 low, kv, tv] 50) = w1 at *
  refine (unhide HI _ hk0).mono ?_
  rintro e w2 ⟨rfl, hw⟩
  subst hw
  clear HI c4
  by_cases ht : M.tag P (c1.b : Int) = 12
  · rw [decide_eq_true ht]
    rw [if_pos ht] at hfm
    obtain ⟨kb, hkb, kb0, kbl⟩ := tag_in ht (by decide)
    have hkb2 : c1.b = kb := by omega
    rw [hkb2] at ht hfm ⊢
    obtain ⟨d0, d1, d2, d3, d4⟩ := hk0.at kbl
    have hfit := h.at_fit (kb : Int)
    rw [kAt_in kb0 kbl] at hfm hfit
    generalize P.getD kb K.zero = c2 at *
    obtain ⟨g1, g2, g3⟩ := hfit
    have HS := hide (fun q w h => Kn.RString_any (.slice (some ⟨bb, oo, none⟩) P.length cap) P q w h hP)
    have hds := hS.text (c2.b : Int)
    obtain ⟨nm, hnm⟩ : ∃ nm, nm = M.text P (c2.a : Int) := ⟨_, rfl⟩
    obtain ⟨dt, hdt⟩ : ∃ dt, dt = M.text P (c2.b : Int) := ⟨_, rfl⟩
    rw [← hnm, ← hdt] at hfm
    rw [← hdt] at hds
    have Hnm := hide hnm
    have Hdt := hide hdt
    clear hnm hdt hkb hkb2 f3 d0 d1 d2
    go_wp2_with fail
    refine (unhide HS _ _ hk0).mono ?_
    rintro e w3 ⟨⟨x1, rfl⟩, hw⟩
    subst hw
    rw [← unhide Hnm]
    go_wp2_with fail
    refine (unhide HS _ _ hk0).mono ?_
    rintro e w3 ⟨⟨x2, rfl⟩, hw⟩
    subst hw
    rw [← unhide Hdt]
    have HM := hide (W.RMethod_any ⟨dt.toArray⟩ w3 (by rw [size_of]; exact hds))
    rw [data_of] at HM
    clear HS Hnm Hdt d3 d4 g1 g2 g3
    go_wp2_with fail
    refine (unhide HM).mono ?_
    rintro e w4 ⟨hb4, hres⟩
    have hX4 := hX.below hb4
    have hb04 := hbx.trans (hb4.mono hbx.size)
    obtain ⟨nb, hnb⟩ : ∃ nb : ByteArray, nb = ⟨nm.toArray⟩ := ⟨_, rfl⟩
    rw [← hnb]
    obtain ⟨Q1, hQ1⟩ : ∃ q, q = decide (nm = clinitB) := ⟨_, rfl⟩
    obtain ⟨Q2, hQ2⟩ : ∃ q, q = decide (nm = initB) := ⟨_, rfl⟩
    obtain ⟨O3, hO3⟩ : ∃ q, q = decide (op = 183) := ⟨_, rfl⟩
    obtain ⟨O5, hO5⟩ : ∃ q, q = decide (op = 185) := ⟨_, rfl⟩
    have q1 : (nb.toList == [60, 99, 108, 105, 110, 105, 116, 62]) = Q1 := by rw [hnb, hQ1, Lib.toList_data, data_of]; unfold clinitB; rw [Bool.eq_iff_iff, beq_iff_eq, decide_eq_true_iff]
    have q2 : (nb.toList == [60, 105, 110, 105, 116, 62]) = Q2 := by rw [hnb, hQ2, Lib.toList_data, data_of]; unfold initB; rw [Bool.eq_iff_iff, beq_iff_eq, decide_eq_true_iff]
    have q3 : ((op : Int) == 183) = O3 := by rw [hO3, Bool.eq_iff_iff]; simp; omega
    have q5 : ((op : Int) == 185) = O5 := by rw [hO5, Bool.eq_iff_iff]; simp; omega
    have q4 : ((op : Int) != 183) = !O3 := by rw [bne, q3]
    have q6 : ((op : Int) != 185) = !O5 := by rw [bne, q5]
    have o1 : w4.cell? ⟨w.heap.size, 1, none⟩ = some (.int .u8 (op : Int)) := hX4.cell 1
    have o4 : w4.cell? ⟨w.heap.size, 4, none⟩ = some (.int .i64 b) := hX4.cell 4
    clear hnb
    rcases hres with ⟨hn, rfl⟩ | ⟨L, g, tv, hn, rfl, hown⟩
    · rw [hn] at hfm
      simp only at hfm
      have e : r = false := by rw [unhide Hr, hfm]; rfl
      subst e
      clear hfm Hr hn hQ1 hQ2 hO3 hO5 HM hb4
      go_wp2_with fail
      refine wp_loop_rounds 1 ?_
      rw [rounds_succ]
      cases Q1 <;> cases Q2 <;> cases O3
      all_goals
        go_wp2
        go_ret
        exact ⟨rfl, hb04⟩
    · rw [hn] at hfm
      simp only at hfm
      have hLl : L.length ≤ 1048576 := Nat.le_trans (meth_len hn) hds
      have hsL := W.slots_le L
      have hHas : W.Has w4 tv L := W.Has.of_own hown
      have e : r = (!(Q1 || (Q2 && !O3)) && (!O5 || decide (b = 1 + (W.slotsN L : Int)))) := by rw [unhide Hr, hfm, hQ1, hQ2, hO3, hO5]; simp
      have He := hide e
      clear hfm Hr hn hQ1 hQ2 hO3 hO5 HM hb4 e hown
      rcases hHas with ⟨ta, tc, rfl, rfl⟩ | ⟨tg, tof, tc, rfl, htc⟩
      · go_wp2_with fail
        refine wp_loop_rounds 1 ?_
        rw [rounds_succ]
        by_cases hb1 : b = 1
        all_goals
          cases Q1 <;> cases Q2 <;> cases O3 <;> cases O5
          all_goals
            go_wp2
            go_ret
            exact ⟨by rw [unhide He]; simp [hb1, W.slotsN] <;> first | rfl | omega, hb04⟩
      · have Hcell := hide htc
        clear htc
        go_wp2_with fail
        go_loopw [13, 57] (fun x y wx => ∃ k : Nat, k ≤ L.length ∧ x = .int .i64 (1 + ((W.slotsN (L.take k) : Nat) : Int)) ∧ y = .int .i64 (k : Int) ∧ wx = w4) (fun _ y _ => L.length - (intOf y).toNat)
        case atStart => exact ⟨0, Nat.zero_le _, rfl, rfl, rfl⟩
        case round =>
          obtain ⟨k, hk, rfl, rfl, hww⟩ := hrel
          subst wr
          have hsl := W.slots_le (L.take k)
          rw [List.length_take] at hsl
          by_cases hlt : k < L.length
          · obtain ⟨l, hl1, hl2⟩ := W.SV_at hlt
            have hcell : w4.cell? ⟨tg, tof + k, none⟩ = some (.string ⟨l.toArray⟩) := (unhide Hcell k hlt).trans hl2
            have hst := W.slots_take hl1
            have hln := W.slotN_le l
            have HS := hide (fun w => W.RSlots_any ⟨l.toArray⟩ w)
            rw [data_of] at HS
            have Hst := hide hst
            generalize W.slotsN (L.take k) = A at *
            generalize W.slotN l = D at *
            have hki : (k : Int) < (L.length : Int) := by omega
            have hA : A ≤ 2097152 := by omega
            clear hl1 hl2 hst hsl
            go_wp2_with fail
            refine (unhide HS _).mono ?_
            rintro e w' ⟨rfl, hww⟩
            subst w'
            go_wp2
            go_roundw
            case rel => exact ⟨k + 1, by omega, by rw [unhide Hst]; simp; try omega, by simp, trivial⟩
            case measure => simp [intOf]; omega
          · obtain rfl : k = L.length := by omega
            rw [List.take_length] at hsl ⊢
            generalize W.slotsN L = S at *
            clear hsl
            by_cases hb1 : b = 1 + (S : Int)
            · have hbq : ((1 + (S : Int)) == b) = true := by simp; omega
              cases Q1 <;> cases Q2 <;> cases O3 <;> cases O5
              all_goals
                go_wp2
                go_ret
                exact ⟨by rw [unhide He]; simp [hb1] <;> first | rfl | omega, hb04⟩
            · have hbq : ((1 + (S : Int)) == b) = false := by rw [beq_eq_false_iff_ne]; omega
              cases Q1 <;> cases Q2 <;> cases O3 <;> cases O5
              all_goals
                go_wp2
                go_ret
                exact ⟨by rw [unhide He]; simp [hb1] <;> first | rfl | omega, hb04⟩
  · rw [decide_eq_false ht]
    rw [if_neg ht] at hfm
    have e : r = false := by rw [unhide Hr, hfm]; rfl
    subst e
    go_wp2
    go_ret
    exact ⟨rfl, hbx⟩
end Go.Proofs.YtejbnbilbagkmaaDoor.Ck
