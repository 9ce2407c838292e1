/-
  ClassChecks: the program's names: wrongField, wrongMethod, valueTags.
-/
import Derived.Test.YtddhlphbbiihjaaGreatDoorMgEd
set_option linter.unusedVariables false
set_option linter.unusedSimpArgs false
namespace Go.Proofs.YtddhlphbbiihjaaGreatDoor.Cl
open Go.RowKit Go.Maps Kn
theorem sz_of (l : List UInt8) : (⟨l.toArray⟩ : ByteArray).size = l.length := by show l.toArray.size = _; simp
theorem dt_of (l : List UInt8) : (⟨l.toArray⟩ : ByteArray).data.toList = l := by simp
theorem lst_eq (a l : List UInt8) : (a == l) = decide (a = l) := by rw [Bool.eq_iff_iff]; simp
theorem nat_zero (m : Nat) : (((m : Nat) : Int) == 0) = decide (m = 0) := by rw [Bool.eq_iff_iff]; simp
/-- What is wrong with the name and the descriptor of a field. -/
def wfE (a b : List UInt8) : Nat := if memB a false = 0 then 8 else if fieldB b then 0 else 9
set_option maxHeartbeats 2000000 in
theorem wrongField_any (a b : List UInt8) (w : World) (hm : Mx w) (ha : a.length ≤ 32768) (hb : b.length ≤ 32768) :
    Calls Tryz.prog 29 #[sgv a b] w fun e w' => e = .returned (.int .i64 (wfE a b : Nat)) ∧ Below w.heap.size w w' := by
  obtain ⟨w0, hw0⟩ : ∃ w0, w0 = w.alloc (.cells #[.string ⟨a.toArray⟩, .string ⟨b.toArray⟩] 75) := ⟨_, rfl⟩
  have hb0 : Below w.heap.size w w0 := by rw [hw0]; exact (Below.refl _ _).alloc (Nat.le_refl _) _
  have hk : Bk w0 w.heap.size #[.string ⟨a.toArray⟩, .string ⟨b.toArray⟩] 75 := by rw [hw0]; exact Bk.new _ _ _
  have c0 := hk.cell 0
  have hm1 := Member_any ⟨a.toArray⟩ false w0 (hm.below hb0) (by rw [sz_of]; exact ha)
  rw [dt_of] at hm1
  have HM := hide hm1
  have hf1 := fun (w1 : World) (h1 : Below w.heap.size w w1) => Field_any ⟨b.toArray⟩ w1 (hm.below h1) (by rw [sz_of]; exact hb)
  rw [dt_of] at hf1
  have HF := hide hf1
  have HK := hide hk
  have HB := hide hb0
  simp at c0
  clear hm1 hf1 hk hb0 hm ha hb
  have n0 := nat_zero (memB a false)
  unfold sgv wfE
  by_cases h0 : memB a false = 0
  · rw [decide_eq_true h0] at n0
    rw [if_pos h0]
    clear h0 HF
    go_enter Tryz.func29, Tryz.ntmps29
    go_upto_region 1 with fail
    rw [← hw0]
    clear hw0
    go_wp2_with fail
    refine (unhide HM).mono ?_
    rintro e w1 ⟨rfl, hb1⟩
    have HB1 := hide ((unhide HB).trans (hb1.mono (unhide HB).size))
    clear HM hb1
    go_wp2
    go_ret
    exact ⟨rfl, unhide HB1⟩
  · rw [decide_eq_false h0] at n0
    rw [if_neg h0]
    clear h0
    generalize fieldB b = f at *
    cases f
    all_goals
      go_enter Tryz.func29, Tryz.ntmps29
      go_upto_region 1 with fail
      rw [← hw0]
      clear hw0
      go_wp2_with fail
      refine (unhide HM).mono ?_
      rintro e w1 ⟨rfl, hb1⟩
      have HB1 := hide ((unhide HB).trans (hb1.mono (unhide HB).size))
      have c1 := ((unhide HK).below hb1).cell 1
      simp at c1
      clear HM hb1 c0
      go_wp2_with fail
      refine (unhide HF _ (unhide HB1)).mono ?_
      rintro e w2 ⟨rfl, hb2⟩
      have HB2 := hide ((unhide HB1).trans (hb2.mono (unhide HB1).size))
      clear HF hb2 c1
      go_wp2
      go_ret
      exact ⟨rfl, unhide HB2⟩
/-- What is wrong with the name and the descriptor of a method. -/
def wmE (a b : List UInt8) : Nat := if memB a true = 0 then 8 else match W.meth b with
  | none => 9
  | some (_, g) => if a = initB ∧ g ≠ [86] then 9 else if a = clinitB ∧ b ≠ [40, 41, 86] then 9 else 0
set_option maxHeartbeats 4000000 in
theorem wrongMethod_any (a b : List UInt8) (w : World) (hm : Mx w) (ha : a.length ≤ 32768) (hb : b.length ≤ 32768) :
    Calls Tryz.prog 33 #[sgv a b] w fun e w' => e = .returned (.int .i64 (wmE a b : Nat)) ∧ Below w.heap.size w w' := by
  obtain ⟨w0, hw0⟩ : ∃ w0, w0 = w.alloc (.cells #[.string ⟨a.toArray⟩, .string ⟨b.toArray⟩] 75) := ⟨_, rfl⟩
  have hb0 : Below w.heap.size w w0 := by rw [hw0]; exact (Below.refl _ _).alloc (Nat.le_refl _) _
  have hk : Bk w0 w.heap.size #[.string ⟨a.toArray⟩, .string ⟨b.toArray⟩] 75 := by rw [hw0]; exact Bk.new _ _ _
  have c0 := hk.cell 0
  have hm1 := Member_any ⟨a.toArray⟩ true w0 (hm.below hb0) (by rw [sz_of]; exact ha)
  rw [dt_of] at hm1
  have HM := hide hm1
  have hf1 := fun (w1 : World) (h1 : Below w.heap.size w w1) => W.Method_any ⟨b.toArray⟩ w1 (hm.below h1) (by rw [sz_of]; omega)
  rw [dt_of] at hf1
  have HF := hide hf1
  have HK := hide hk
  have HB := hide hb0
  simp at c0
  clear hm1 hf1 hk hb0 hm ha hb
  have n0 := nat_zero (memB a true)
  generalize hr : wmE a b = r
  have Hr := hide hr
  clear hr
  unfold sgv
  by_cases h0 : memB a true = 0
  · rw [decide_eq_true h0] at n0
    have hE : r = 8 := by rw [← unhide Hr]; unfold wmE; rw [if_pos h0]
    subst hE
    clear h0 HF Hr
    go_enter Tryz.func33, Tryz.ntmps33
    go_upto_region 1 with fail
    rw [← hw0]
    clear hw0
    go_wp2_with fail
    refine (unhide HM).mono ?_
    rintro e w1 ⟨rfl, hb1⟩
    have HB1 := hide ((unhide HB).trans (hb1.mono (unhide HB).size))
    clear HM hb1
    go_wp2
    go_ret
    exact ⟨rfl, unhide HB1⟩
  · rw [decide_eq_false h0] at n0
    have H0 := hide h0
    clear h0
    go_enter Tryz.func33, Tryz.ntmps33
    go_upto_region 1 with fail
    rw [← hw0]
    clear hw0
    go_wp2_with fail
    refine (unhide HM).mono ?_
    rintro e w1 ⟨rfl, hb1⟩
    have HB1 := hide ((unhide HB).trans (hb1.mono (unhide HB).size))
    have HK1 := hide ((unhide HK).below hb1)
    have c1 := ((unhide HK).below hb1).cell 1
    simp at c1
    clear HM hb1 c0 HK
    go_wp2_with fail
    refine (unhide HF _ (unhide HB1)).mono ?_
    rintro e w2 ⟨hb2, hR⟩
    have HB2 := hide ((unhide HB1).trans (hb2.mono (unhide HB1).size))
    have c2 := ((unhide HK1).below hb2).cell 0
    have c3 := ((unhide HK1).below hb2).cell 1
    simp at c2 c3
    clear HF hb2 c1 HK1
    rcases hR with ⟨hn, rfl⟩ | ⟨L, g, v, hn, rfl, ho⟩
    · have Hn := hide hn
      clear hn c2 c3
      go_wp2
      go_ret
      refine ⟨?_, unhide HB2⟩
      rw [← unhide Hr]; unfold wmE; rw [if_neg (unhide H0), unhide Hn]; rfl
    · obtain ⟨ad, cp, rfl⟩ := own_slice ho
      have Hn := hide hn
      clear hn ho
      have n1 : (a == [60, 105, 110, 105, 116, 62]) = decide (a = initB) := lst_eq _ _
      have n2 : (a == [60, 99, 108, 105, 110, 105, 116, 62]) = decide (a = clinitB) := lst_eq _ _
      have n3 : (g == [86]) = decide (g = [86]) := lst_eq _ _
      have n4 : (b == [40, 41, 86]) = decide (b = [40, 41, 86]) := lst_eq _ _
      by_cases h1 : a = initB
      · rw [decide_eq_true h1] at n1
        have h2 : ¬ a = clinitB := by rw [h1]; decide
        rw [decide_eq_false h2] at n2
        by_cases h3 : g = [86]
        · rw [decide_eq_true h3] at n3
          have H1 := hide h1
          have H2 := hide h2
          have H3 := hide h3
          clear h1 h2 h3 n4
          go_wp2
          go_ret
          refine ⟨?_, unhide HB2⟩
          rw [← unhide Hr]; unfold wmE; rw [if_neg (unhide H0), unhide Hn]; dsimp only; rw [if_neg (fun h => h.2 (unhide H3)), if_neg (fun h => unhide H2 h.1)]; rfl
        · rw [decide_eq_false h3] at n3
          have H1 := hide h1
          have H3 := hide h3
          clear h1 h2 h3 n4
          go_wp2
          go_ret
          refine ⟨?_, unhide HB2⟩
          rw [← unhide Hr]; unfold wmE; rw [if_neg (unhide H0), unhide Hn]; dsimp only; rw [if_pos ⟨unhide H1, unhide H3⟩]; rfl
      · rw [decide_eq_false h1] at n1
        have H1 := hide h1
        clear n3
        by_cases h2 : a = clinitB
        · rw [decide_eq_true h2] at n2
          have H2 := hide h2
          by_cases h3 : b = [40, 41, 86]
          · rw [decide_eq_true h3] at n4
            have H3 := hide h3
            clear h1 h2 h3
            go_wp2
            go_ret
            refine ⟨?_, unhide HB2⟩
            rw [← unhide Hr]; unfold wmE; rw [if_neg (unhide H0), unhide Hn]; dsimp only; rw [if_neg (fun h => unhide H1 h.1), if_neg (fun h => h.2 (unhide H3))]; rfl
          · rw [decide_eq_false h3] at n4
            have H3 := hide h3
            clear h1 h2 h3
            go_wp2
            go_ret
            refine ⟨?_, unhide HB2⟩
            rw [← unhide Hr]; unfold wmE; rw [if_neg (unhide H0), unhide Hn]; dsimp only; rw [if_neg (fun h => unhide H1 h.1), if_pos ⟨unhide H2, unhide H3⟩]; rfl
        · rw [decide_eq_false h2] at n2
          have H2 := hide h2
          clear h1 h2 n4
          go_wp2
          go_ret
          refine ⟨?_, unhide HB2⟩
          rw [← unhide Hr]; unfold wmE; rw [if_neg (unhide H0), unhide Hn]; dsimp only; rw [if_neg (fun h => unhide H1 h.1), if_neg (fun h => unhide H2 h.1)]; rfl
def strB : List UInt8 := [76, 106, 97, 118, 97, 47, 108, 97, 110, 103, 47, 83, 116, 114, 105, 110, 103, 59]
/-- The tag of what may be the value of a field; 0: nothing. -/
def vtag (b : List UInt8) : Nat := if b = [73] then 3 else if b = [83] then 3 else if b = [67] then 3 else if b = [66] then 3 else if b = [90] then 3 else if b = [74] then 5 else if b = [70] then 4 else if b = [68] then 6 else if b = strB then 8 else 0
set_option maxHeartbeats 4000000 in
theorem valueTags_any (a b : List UInt8) (w : World) :
    Calls Tryz.prog 32 #[sgv a b] w fun e w' => (∃ v, e = .returned v ∧ ((vtag b = 0 ∧ v = .slice none 0 0) ∨ (vtag b ≠ 0 ∧ UIn w' v [vtag b]))) ∧ Below w.heap.size w w' := by
  obtain ⟨w0, hw0⟩ : ∃ w0, w0 = w.alloc (.cells #[.string ⟨a.toArray⟩, .string ⟨b.toArray⟩] 75) := ⟨_, rfl⟩
  have hb0 : Below w.heap.size w w0 := by rw [hw0]; exact (Below.refl _ _).alloc (Nat.le_refl _) _
  have hk : Bk w0 w.heap.size #[.string ⟨a.toArray⟩, .string ⟨b.toArray⟩] 75 := by rw [hw0]; exact Bk.new _ _ _
  have c1 := hk.cell 1
  simp at c1
  have hs0 : w.heap.size ≤ w0.heap.size := hb0.size
  have HU := hide (fun t : Nat => UIn.made w0 t)
  have HB := hide hb0
  have HS := hide hs0
  clear hk hb0 hs0
  generalize hr : vtag b = r
  have Hr := hide hr
  clear hr
  unfold sgv
  have n0 : (b == [73]) = decide (b = [73]) := lst_eq _ _
  by_cases h0 : b = [73]
  · rw [decide_eq_true h0] at n0
    have hE : r = 3 := by rw [← unhide Hr]; unfold vtag; simp only [if_pos h0]
    subst hE
    clear Hr h0
    go_enter Tryz.func32, Tryz.ntmps32
    go_upto_region 1 with fail
    rw [← hw0]
    clear hw0
    go_wp2
    go_ret
    exact ⟨⟨_, rfl, .inr ⟨by decide, unhide HU 3⟩⟩, (unhide HB).alloc (unhide HS) _⟩
  rw [decide_eq_false h0] at n0
  have n1 : (b == [83]) = decide (b = [83]) := lst_eq _ _
  by_cases h1 : b = [83]
  · rw [decide_eq_true h1] at n1
    have hE : r = 3 := by rw [← unhide Hr]; unfold vtag; simp only [if_pos h1, if_neg h0]
    subst hE
    clear Hr h0 h1
    go_enter Tryz.func32, Tryz.ntmps32
    go_upto_region 1 with fail
    rw [← hw0]
    clear hw0
    go_wp2
    go_ret
    exact ⟨⟨_, rfl, .inr ⟨by decide, unhide HU 3⟩⟩, (unhide HB).alloc (unhide HS) _⟩
  rw [decide_eq_false h1] at n1
  have n2 : (b == [67]) = decide (b = [67]) := lst_eq _ _
  by_cases h2 : b = [67]
  · rw [decide_eq_true h2] at n2
    have hE : r = 3 := by rw [← unhide Hr]; unfold vtag; simp only [if_pos h2, if_neg h0, if_neg h1]
    subst hE
    clear Hr h0 h1 h2
    go_enter Tryz.func32, Tryz.ntmps32
    go_upto_region 1 with fail
    rw [← hw0]
    clear hw0
    go_wp2
    go_ret
    exact ⟨⟨_, rfl, .inr ⟨by decide, unhide HU 3⟩⟩, (unhide HB).alloc (unhide HS) _⟩
  rw [decide_eq_false h2] at n2
  have n3 : (b == [66]) = decide (b = [66]) := lst_eq _ _
  by_cases h3 : b = [66]
  · rw [decide_eq_true h3] at n3
    have hE : r = 3 := by rw [← unhide Hr]; unfold vtag; simp only [if_pos h3, if_neg h0, if_neg h1, if_neg h2]
    subst hE
    clear Hr h0 h1 h2 h3
    go_enter Tryz.func32, Tryz.ntmps32
    go_upto_region 1 with fail
    rw [← hw0]
    clear hw0
    go_wp2
    go_ret
    exact ⟨⟨_, rfl, .inr ⟨by decide, unhide HU 3⟩⟩, (unhide HB).alloc (unhide HS) _⟩
  rw [decide_eq_false h3] at n3
  have n4 : (b == [90]) = decide (b = [90]) := lst_eq _ _
  by_cases h4 : b = [90]
  · rw [decide_eq_true h4] at n4
    have hE : r = 3 := by rw [← unhide Hr]; unfold vtag; simp only [if_pos h4, if_neg h0, if_neg h1, if_neg h2, if_neg h3]
    subst hE
    clear Hr h0 h1 h2 h3 h4
    go_enter Tryz.func32, Tryz.ntmps32
    go_upto_region 1 with fail
    rw [← hw0]
    clear hw0
    go_wp2
    go_ret
    exact ⟨⟨_, rfl, .inr ⟨by decide, unhide HU 3⟩⟩, (unhide HB).alloc (unhide HS) _⟩
  rw [decide_eq_false h4] at n4
  have n5 : (b == [74]) = decide (b = [74]) := lst_eq _ _
  by_cases h5 : b = [74]
  · rw [decide_eq_true h5] at n5
    have hE : r = 5 := by rw [← unhide Hr]; unfold vtag; simp only [if_pos h5, if_neg h0, if_neg h1, if_neg h2, if_neg h3, if_neg h4]
    subst hE
    clear Hr h0 h1 h2 h3 h4 h5
    go_enter Tryz.func32, Tryz.ntmps32
    go_upto_region 1 with fail
    rw [← hw0]
    clear hw0
    go_wp2
    go_ret
    exact ⟨⟨_, rfl, .inr ⟨by decide, unhide HU 5⟩⟩, (unhide HB).alloc (unhide HS) _⟩
  rw [decide_eq_false h5] at n5
  have n6 : (b == [70]) = decide (b = [70]) := lst_eq _ _
  by_cases h6 : b = [70]
  · rw [decide_eq_true h6] at n6
    have hE : r = 4 := by rw [← unhide Hr]; unfold vtag; simp only [if_pos h6, if_neg h0, if_neg h1, if_neg h2, if_neg h3, if_neg h4, if_neg h5]
    subst hE
    clear Hr h0 h1 h2 h3 h4 h5 h6
    go_enter Tryz.func32, Tryz.ntmps32
    go_upto_region 1 with fail
    rw [← hw0]
    clear hw0
    go_wp2
    go_ret
    exact ⟨⟨_, rfl, .inr ⟨by decide, unhide HU 4⟩⟩, (unhide HB).alloc (unhide HS) _⟩
  rw [decide_eq_false h6] at n6
  have n7 : (b == [68]) = decide (b = [68]) := lst_eq _ _
  by_cases h7 : b = [68]
  · rw [decide_eq_true h7] at n7
    have hE : r = 6 := by rw [← unhide Hr]; unfold vtag; simp only [if_pos h7, if_neg h0, if_neg h1, if_neg h2, if_neg h3, if_neg h4, if_neg h5, if_neg h6]
    subst hE
    clear Hr h0 h1 h2 h3 h4 h5 h6 h7
    go_enter Tryz.func32, Tryz.ntmps32
    go_upto_region 1 with fail
    rw [← hw0]
    clear hw0
    go_wp2
    go_ret
    exact ⟨⟨_, rfl, .inr ⟨by decide, unhide HU 6⟩⟩, (unhide HB).alloc (unhide HS) _⟩
  rw [decide_eq_false h7] at n7
  have n8 : (b == [76, 106, 97, 118, 97, 47, 108, 97, 110, 103, 47, 83, 116, 114, 105, 110, 103, 59]) = decide (b = strB) := lst_eq _ _
  by_cases h8 : b = strB
  · rw [decide_eq_true h8] at n8
    have hE : r = 8 := by rw [← unhide Hr]; unfold vtag; simp only [if_pos h8, if_neg h0, if_neg h1, if_neg h2, if_neg h3, if_neg h4, if_neg h5, if_neg h6, if_neg h7]
    subst hE
    clear Hr h0 h1 h2 h3 h4 h5 h6 h7 h8
    go_enter Tryz.func32, Tryz.ntmps32
    go_upto_region 1 with fail
    rw [← hw0]
    clear hw0
    go_wp2
    go_ret
    exact ⟨⟨_, rfl, .inr ⟨by decide, unhide HU 8⟩⟩, (unhide HB).alloc (unhide HS) _⟩
  rw [decide_eq_false h8] at n8
  have hE : r = 0 := by rw [← unhide Hr]; unfold vtag; simp only [if_neg h0, if_neg h1, if_neg h2, if_neg h3, if_neg h4, if_neg h5, if_neg h6, if_neg h7, if_neg h8]
  subst hE
  clear Hr h0 h1 h2 h3 h4 h5 h6 h7 h8
  go_enter Tryz.func32, Tryz.ntmps32
  go_upto_region 1 with fail
  rw [← hw0]
  clear hw0
  go_wp2
  go_ret
  exact ⟨⟨_, rfl, .inl ⟨by trivial, rfl⟩⟩, unhide HB⟩
end Go.Proofs.YtddhlphbbiihjaaGreatDoor.Cl
