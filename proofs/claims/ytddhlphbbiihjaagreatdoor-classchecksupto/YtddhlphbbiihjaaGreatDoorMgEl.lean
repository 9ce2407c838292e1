/-
  ClassChecks: the reference: member, of a method.
  ClassChecks: the reference looks at a constant.
-/
import Derived.Test.YtddhlphbbiihjaaGreatDoorEj
set_option linter.unusedVariables false
set_option linter.unusedSimpArgs false
namespace Go.Proofs.YtddhlphbbiihjaaGreatDoor.Cl
open Go.RowKit Go.Maps Kn
set_option maxRecDepth 100000 in
set_option maxHeartbeats 4000000 in
theorem member_method (nm of : List UInt8) (ini : Bool) (w : World) (hn : nm.length ≤ 32768) (ho : of.length ≤ 32768) :
    Calls Tryz.prog 45 #[.string ⟨nm.toArray⟩, .string ⟨of.toArray⟩, .bool false, .bool ini] w fun e w' => e = .returned (.int .i64 (mkE nm of ini : Nat)) ∧ Below w.heap.size w w' := by
  have h1 := RMember_any ⟨nm.toArray⟩ true w (by rw [sz_of]; exact hn)
  have h2 := fun w1 : World => W.RMethod_any ⟨of.toArray⟩ w1 (by rw [sz_of]; omega)
  rw [dt_of] at h1 h2
  have H1 := hide h1
  have H2 := hide h2
  clear h1 h2
  have HO := hide (fun (w1 : World) (a b : Nat) => one38_any _ [a, b] (w1.alloc (.cells #[.int .i64 (a : Int), .int .i64 (b : Int)] 31)) (EIn.made w1 [a, b] #[.int .i64 (a : Int), .int .i64 (b : Int)] rfl 31) (by simp))
  generalize hr : mkE nm of ini = r
  unfold mkE at hr
  have Hr := hide hr
  clear hr
  have hm := mem_le nm
  generalize memB nm true = m at *
  rcases hm with rfl | rfl | rfl | rfl
  · go_enter Tryz.func45, Tryz.ntmps45
    go_wp2_with fail
    refine (unhide H1).mono ?_
    rintro e w1 ⟨rfl, hb1⟩
    have HB1 := hide hb1
    clear H1 hb1
    go_wp2_with fail
    refine (unhide H2 _).mono ?_
    rintro e w2 ⟨hb2, hR⟩
    have HB2 := hide ((unhide HB1).trans (hb2.mono (unhide HB1).size))
    clear H2 hb2 HB1
    rcases hR with ⟨hn, rfl⟩ | ⟨L, g, v, hn, rfl, ho⟩
    · have hE := unhide Hr
      rw [hn] at hE
      clear hn Hr
      cases ini
      all_goals
        simp [fst1] at hE
        subst hE
        go_wp2_with (first | (go_at_call 38; refine (unhide HO _ _ _).mono ?_; rintro e w3 ⟨rfl, hw3⟩; subst w3) | go_in)
        go_wp2
        go_ret
        exact ⟨rfl, (unhide HB2).alloc (unhide HB2).size _⟩
    · obtain ⟨ad, cp, rfl⟩ := own_slice ho
      have hE := unhide Hr
      rw [hn] at hE
      clear hn Hr ho
      have n3 : (g == [86]) = decide (g = [86]) := lst_eq _ _
      by_cases hg : g = [86]
      · rw [decide_eq_true hg] at n3
        simp only [hg] at hE
        have hg' := hide hg
        clear hg
        cases ini
        all_goals
          simp [fst1] at hE
          subst hE
          go_wp2_with (first | (go_at_call 38; refine (unhide HO _ _ _).mono ?_; rintro e w3 ⟨rfl, hw3⟩; subst w3) | go_in)
          go_wp2
          go_ret
          exact ⟨rfl, (unhide HB2).alloc (unhide HB2).size _⟩
      · rw [decide_eq_false hg] at n3
        cases ini
        all_goals
          simp [fst1, hg] at hE
          clear hg
          subst hE
          go_wp2_with (first | (go_at_call 38; refine (unhide HO _ _ _).mono ?_; rintro e w3 ⟨rfl, hw3⟩; subst w3) | go_in)
          go_wp2
          go_ret
          exact ⟨rfl, (unhide HB2).alloc (unhide HB2).size _⟩
  · go_enter Tryz.func45, Tryz.ntmps45
    go_wp2_with fail
    refine (unhide H1).mono ?_
    rintro e w1 ⟨rfl, hb1⟩
    have HB1 := hide hb1
    clear H1 hb1
    go_wp2_with fail
    refine (unhide H2 _).mono ?_
    rintro e w2 ⟨hb2, hR⟩
    have HB2 := hide ((unhide HB1).trans (hb2.mono (unhide HB1).size))
    clear H2 hb2 HB1
    rcases hR with ⟨hn, rfl⟩ | ⟨L, g, v, hn, rfl, ho⟩
    · have hE := unhide Hr
      rw [hn] at hE
      clear hn Hr
      cases ini
      all_goals
        simp [fst1] at hE
        subst hE
        go_wp2_with (first | (go_at_call 38; refine (unhide HO _ _ _).mono ?_; rintro e w3 ⟨rfl, hw3⟩; subst w3) | go_in)
        go_wp2
        go_ret
        exact ⟨rfl, (unhide HB2).alloc (unhide HB2).size _⟩
    · obtain ⟨ad, cp, rfl⟩ := own_slice ho
      have hE := unhide Hr
      rw [hn] at hE
      clear hn Hr ho
      have n3 : (g == [86]) = decide (g = [86]) := lst_eq _ _
      by_cases hg : g = [86]
      · rw [decide_eq_true hg] at n3
        simp only [hg] at hE
        have hg' := hide hg
        clear hg
        cases ini
        all_goals
          simp [fst1] at hE
          subst hE
          go_wp2_with (first | (go_at_call 38; refine (unhide HO _ _ _).mono ?_; rintro e w3 ⟨rfl, hw3⟩; subst w3) | go_in)
          go_wp2
          go_ret
          exact ⟨rfl, (unhide HB2).alloc (unhide HB2).size _⟩
      · rw [decide_eq_false hg] at n3
        cases ini
        all_goals
          simp [fst1, hg] at hE
          clear hg
          subst hE
          go_wp2_with (first | (go_at_call 38; refine (unhide HO _ _ _).mono ?_; rintro e w3 ⟨rfl, hw3⟩; subst w3) | go_in)
          go_wp2
          go_ret
          exact ⟨rfl, (unhide HB2).alloc (unhide HB2).size _⟩
  · go_enter Tryz.func45, Tryz.ntmps45
    go_wp2_with fail
    refine (unhide H1).mono ?_
    rintro e w1 ⟨rfl, hb1⟩
    have HB1 := hide hb1
    clear H1 hb1
    go_wp2_with fail
    refine (unhide H2 _).mono ?_
    rintro e w2 ⟨hb2, hR⟩
    have HB2 := hide ((unhide HB1).trans (hb2.mono (unhide HB1).size))
    clear H2 hb2 HB1
    rcases hR with ⟨hn, rfl⟩ | ⟨L, g, v, hn, rfl, ho⟩
    · have hE := unhide Hr
      rw [hn] at hE
      clear hn Hr
      cases ini
      all_goals
        simp [fst1] at hE
        subst hE
        go_wp2_with (first | (go_at_call 38; refine (unhide HO _ _ _).mono ?_; rintro e w3 ⟨rfl, hw3⟩; subst w3) | go_in)
        go_wp2
        go_ret
        exact ⟨rfl, (unhide HB2).alloc (unhide HB2).size _⟩
    · obtain ⟨ad, cp, rfl⟩ := own_slice ho
      have hE := unhide Hr
      rw [hn] at hE
      clear hn Hr ho
      have n3 : (g == [86]) = decide (g = [86]) := lst_eq _ _
      by_cases hg : g = [86]
      · rw [decide_eq_true hg] at n3
        simp only [hg] at hE
        have hg' := hide hg
        clear hg
        cases ini
        all_goals
          simp [fst1] at hE
          subst hE
          go_wp2_with (first | (go_at_call 38; refine (unhide HO _ _ _).mono ?_; rintro e w3 ⟨rfl, hw3⟩; subst w3) | go_in)
          go_wp2
          go_ret
          exact ⟨rfl, (unhide HB2).alloc (unhide HB2).size _⟩
      · rw [decide_eq_false hg] at n3
        cases ini
        all_goals
          simp [fst1, hg] at hE
          clear hg
          subst hE
          go_wp2_with (first | (go_at_call 38; refine (unhide HO _ _ _).mono ?_; rintro e w3 ⟨rfl, hw3⟩; subst w3) | go_in)
          go_wp2
          go_ret
          exact ⟨rfl, (unhide HB2).alloc (unhide HB2).size _⟩
  · go_enter Tryz.func45, Tryz.ntmps45
    go_wp2_with fail
    refine (unhide H1).mono ?_
    rintro e w1 ⟨rfl, hb1⟩
    have HB1 := hide hb1
    clear H1 hb1
    go_wp2_with fail
    refine (unhide H2 _).mono ?_
    rintro e w2 ⟨hb2, hR⟩
    have HB2 := hide ((unhide HB1).trans (hb2.mono (unhide HB1).size))
    clear H2 hb2 HB1
    rcases hR with ⟨hn, rfl⟩ | ⟨L, g, v, hn, rfl, ho⟩
    · have hE := unhide Hr
      rw [hn] at hE
      clear hn Hr
      cases ini
      all_goals
        simp [fst1] at hE
        subst hE
        go_wp2_with (first | (go_at_call 38; refine (unhide HO _ _ _).mono ?_; rintro e w3 ⟨rfl, hw3⟩; subst w3) | go_in)
        go_wp2
        go_ret
        exact ⟨rfl, (unhide HB2).alloc (unhide HB2).size _⟩
    · obtain ⟨ad, cp, rfl⟩ := own_slice ho
      have hE := unhide Hr
      rw [hn] at hE
      clear hn Hr ho
      have n3 : (g == [86]) = decide (g = [86]) := lst_eq _ _
      by_cases hg : g = [86]
      · rw [decide_eq_true hg] at n3
        simp only [hg] at hE
        have hg' := hide hg
        clear hg
        cases ini
        all_goals
          simp [fst1] at hE
          subst hE
          go_wp2_with (first | (go_at_call 38; refine (unhide HO _ _ _).mono ?_; rintro e w3 ⟨rfl, hw3⟩; subst w3) | go_in)
          go_wp2
          go_ret
          exact ⟨rfl, (unhide HB2).alloc (unhide HB2).size _⟩
      · rw [decide_eq_false hg] at n3
        cases ini
        all_goals
          simp [fst1, hg] at hE
          clear hg
          subst hE
          go_wp2_with (first | (go_at_call 38; refine (unhide HO _ _ _).mono ?_; rintro e w3 ⟨rfl, hw3⟩; subst w3) | go_in)
          go_wp2
          go_ret
          exact ⟨rfl, (unhide HB2).alloc (unhide HB2).size _⟩
/-- What the reference says of a constant's reference to a method is what the program says. -/
theorem mkE_ref (nm of : List UInt8) (ini : Bool) : mkE nm of ini = if nm = clinitB then 8 else if ini = false ∧ nm = initB then 8 else wmE nm of := by
  unfold mkE wmE
  have hi : memB initB true = 2 := by decide
  have hc : memB clinitB true = 3 := by decide
  by_cases h1 : nm = clinitB
  · rw [if_pos h1, h1, hc]; simp [fst1]
  rw [if_neg h1]
  by_cases h2 : nm = initB
  · rw [h2, hi]
    cases ini
    · simp [fst1]
    · cases W.meth of with
      | none => simp [fst1]
      | some x =>
        obtain ⟨L, g⟩ := x
        by_cases hg : g = [86]
        · simp [fst1, hg, show ¬ initB = clinitB by decide]
        · simp [fst1, hg, show ¬ initB = clinitB by decide]
  · have hm : memB nm true = 0 ∨ memB nm true = 1 := by
      unfold memB
      rw [if_neg h2, if_neg h1]
      repeat (first | split | simp)
    rcases hm with hm | hm
    · rw [hm]; simp [fst1, h2]
    · rw [hm]
      cases W.meth of with
      | none => simp [fst1, h2]
      | some x =>
        obtain ⟨L, g⟩ := x
        simp [fst1, h1, h2]
end Go.Proofs.YtddhlphbbiihjaaGreatDoor.Cl
namespace Go.Proofs.YtddhlphbbiihjaaGreatDoor.Cl
open Go.RowKit Go.Maps Kn
theorem tag_beq (t n : Nat) : (((t : Nat) : Int) == (n : Int)) = decide (t = n) := nat_beq t n
theorem mem_pos (l : List UInt8) : (decide (0 < memB l true) || decide (0 < memB l false)) = !decide (memB l false = 0) := by
  unfold memB
  by_cases h : partM l = false
  · simp [h]
  · simp [h]
set_option maxRecDepth 100000 in
set_option maxHeartbeats 8000000 in
theorem rconstant_lo (kb : Nat) (x : K) (c : Csi) (vp vi vf vm : Value) (L : List Mv) (w : World) (h : Qk w kb c vp vi vf vm L) (hP : c.pool.length ≤ 1048576) (hS : Sml c.pool) (hc : x.tag < 256) (e3 : ¬ (x.tag = 9 ∨ x.tag = 10 ∨ x.tag = 11)) (ha : x.a < 65536) (hb : x.b < 65536) :
    Calls Tryz.prog 13 #[.pointer (some ⟨kb, 0, none⟩), x.val] w fun e w' => e = .returned (.int .i64 (conE c.pool x : Nat)) ∧ Below w.heap.size w w' := by
  have hta := fun (w1 : World) (hb1 : Below w.heap.size w w1) => text37_any kb x.a c vp vi vf vm L w1 (h.below hb1) hP ha
  have htb := fun (w1 : World) (hb1 : Below w.heap.size w w1) => text37_any kb x.b c vp vi vf vm L w1 (h.below hb1) hP hb
  have hcl := fun (w1 : World) => RClass_any ⟨(M.text c.pool x.a).toArray⟩ w1 (by rw [sz_of]; exact hS.text _)
  have hm1 := fun (w1 : World) (b : Bool) => RMember_any ⟨(M.text c.pool x.a).toArray⟩ b w1 (by rw [sz_of]; exact hS.text _)
  have hmt := fun (w1 : World) => W.RMethod_any ⟨(M.text c.pool x.b).toArray⟩ w1 (by rw [sz_of]; exact Nat.le_trans (hS.text _) (by omega))
  have hfi := fun (w1 : World) => RField_any ⟨(M.text c.pool x.b).toArray⟩ w1 (by rw [sz_of]; exact hS.text _)
  rw [dt_of] at hcl hmt hfi
  simp only [dt_of] at hm1
  have HTA := hide hta
  have HTB := hide htb
  have HCL := hide hcl
  have HM1 := hide hm1
  have HMT := hide hmt
  have HFI := hide hfi
  have HO2 := hide (fun (w1 : World) (a b : Nat) => one38_any _ [a, b] (w1.alloc (.cells #[.int .i64 (a : Int), .int .i64 (b : Int)] 31)) (EIn.made w1 [a, b] #[.int .i64 (a : Int), .int .i64 (b : Int)] rfl 31) (by simp))
  have HO3 := hide (fun (w1 : World) (a b d : Nat) => one38_any _ [a, b, d] (w1.alloc (.cells #[.int .i64 (a : Int), .int .i64 (b : Int), .int .i64 (d : Int)] 31)) (EIn.made w1 [a, b, d] #[.int .i64 (a : Int), .int .i64 (b : Int), .int .i64 (d : Int)] rfl 31) (by simp))
  have HQ := hide h
  clear hta htb hcl hm1 hmt hfi h
  obtain ⟨w0, hw0⟩ : ∃ w0, w0 = w.alloc (.cells #[.int .u8 (x.tag : Int), .string ⟨x.text.toArray⟩, .int .u64 (x.bits : Int), .int .u16 (x.a : Int), .int .u16 (x.b : Int)] 38) := ⟨_, rfl⟩
  have hb0 : Below w.heap.size w w0 := by rw [hw0]; exact (Below.refl _ _).alloc (Nat.le_refl _) _
  have hk : Bk w0 w.heap.size #[.int .u8 (x.tag : Int), .string ⟨x.text.toArray⟩, .int .u64 (x.bits : Int), .int .u16 (x.a : Int), .int .u16 (x.b : Int)] 38 := by rw [hw0]; exact Bk.new _ _ _
  have c0 := hk.cell 0
  have c3 := hk.cell 3
  have c4 := hk.cell 4
  simp at c0 c3 c4
  have HB := hide hb0
  have HK := hide hk
  clear hk hb0
  have t7 : ((x.tag : Int) == 7) = decide (x.tag = 7) := tag_beq x.tag 7
  have t8 : ((x.tag : Int) == 8) = decide (x.tag = 8) := tag_beq x.tag 8
  have t9 : ((x.tag : Int) == 9) = decide (x.tag = 9) := tag_beq x.tag 9
  have t10 : ((x.tag : Int) == 10) = decide (x.tag = 10) := tag_beq x.tag 10
  have t11 : ((x.tag : Int) == 11) = decide (x.tag = 11) := tag_beq x.tag 11
  have t12 : ((x.tag : Int) == 12) = decide (x.tag = 12) := tag_beq x.tag 12
  generalize hr : conE c.pool x = r
  unfold conE at hr
  have Hr := hide hr
  clear hr
  unfold K.val K.cells
  by_cases e7 : x.tag = 7
  · rw [decide_eq_true e7] at t7
    have hE := unhide Hr
    rw [if_pos e7] at hE
    clear Hr t8 t9 t10 t11 t12 e7 HM1 HMT HFI HO3
    generalize hia : isT c.pool x.a = ia at *
    generalize hib : isT c.pool x.b = ib at *
    generalize M.text c.pool x.a = ta at *
    generalize M.text c.pool x.b = tb at *
    generalize hcb : classB ta = cl at *
    clear hia hib hcb HQ
    cases ia <;> cases cl
    all_goals
      simp at hE
      subst hE
      go_enter Tryz.func13, Tryz.ntmps13
      go_upto_region 1 with fail
      rw [← hw0]
      clear hw0
      go_wp2_with fail
      refine (unhide HTA _ (unhide HB)).mono ?_
      rintro e w1 ⟨rfl, rfl⟩
      go_wp2_with fail
      refine (unhide HTB _ (unhide HB)).mono ?_
      rintro e w1 ⟨rfl, rfl⟩
      clear HTA HTB
      go_wp2_with (first | (go_at_call 40; refine (unhide HCL _).mono ?_; rintro e w2 ⟨rfl, hb2⟩) | (go_at_call 38; refine (unhide HO2 _ _ _).mono ?_; rintro e w3 ⟨rfl, hw3⟩; subst w3) | go_in)
      go_wp2
      go_ret
      exact ⟨rfl, ((unhide HB).trans (hb2.mono (unhide HB).size)).alloc ((unhide HB).trans (hb2.mono (unhide HB).size)).size _⟩
  rw [decide_eq_false e7] at t7
  by_cases e8 : x.tag = 8
  · rw [decide_eq_true e8] at t8
    have hE := unhide Hr
    rw [if_neg e7, if_pos e8] at hE
    clear Hr t9 t10 t11 t12 e7 e8 HM1 HMT HFI HO3 HO2 HCL
    generalize hia : isT c.pool x.a = ia at *
    generalize hib : isT c.pool x.b = ib at *
    generalize M.text c.pool x.a = ta at *
    generalize M.text c.pool x.b = tb at *
    clear hia hib HQ
    cases ia
    all_goals
      simp at hE
      subst hE
      go_enter Tryz.func13, Tryz.ntmps13
      go_upto_region 1 with fail
      rw [← hw0]
      clear hw0
      go_wp2_with fail
      refine (unhide HTA _ (unhide HB)).mono ?_
      rintro e w1 ⟨rfl, rfl⟩
      go_wp2_with fail
      refine (unhide HTB _ (unhide HB)).mono ?_
      rintro e w1 ⟨rfl, rfl⟩
      clear HTA HTB
      go_wp2
      go_ret
      exact ⟨rfl, unhide HB⟩
  rw [decide_eq_false e8] at t8
  by_cases e12 : x.tag = 12
  · rw [decide_eq_true e12] at t12
    have hE := unhide Hr
    rw [if_neg e7, if_neg e8, if_pos e12] at hE
    unfold ntE at hE
    clear Hr t9 t10 t11 e7 e8 e12 HO2 HCL
    have hmp := mem_pos (M.text c.pool x.a)
    generalize hia : isT c.pool x.a = ia at *
    generalize hib : isT c.pool x.b = ib at *
    generalize M.text c.pool x.a = ta at *
    generalize M.text c.pool x.b = tb at *
    generalize hf : fieldB tb = fb at *
    clear hia hib hf HQ
    have hmt2 := mem_le ta
    have hmf : memB ta false = 0 ∨ memB ta false = 1 := by unfold memB; split <;> simp
    have HP := hide hmp
    have HE := hide hE
    have HMf := hide hmf
    have HMt := hide hmt2
    clear hmp hE hmf hmt2
    go_enter Tryz.func13, Tryz.ntmps13
    go_upto_region 1 with fail
    rw [← hw0]
    clear hw0
    go_wp2_with fail
    refine (unhide HTA _ (unhide HB)).mono ?_
    rintro e w1 ⟨rfl, rfl⟩
    go_wp2_with fail
    refine (unhide HTB _ (unhide HB)).mono ?_
    rintro e w1 ⟨rfl, rfl⟩
    clear HTA HTB
    go_wp2_with fail
    refine (unhide HMT _).mono ?_
    rintro e w2 ⟨hb2, hR⟩
    have HB2 := hide ((unhide HB).trans (hb2.mono (unhide HB).size))
    clear hb2 HMT c0 c3 c4 HK HB
    obtain ⟨v, g, o, rfl, hmeth, hv⟩ : ∃ (v : Value) (g : List UInt8) (o : Bool), e = .returned (.tuple #[v, .string ⟨g.toArray⟩, .bool o]) ∧ (W.meth tb).isSome = o ∧ ∃ ad n cp, v = .slice ad n cp := by
      rcases hR with ⟨hn, he⟩ | ⟨L, g, v, hn, he, ho⟩
      · exact ⟨_, [], false, he, by rw [hn]; rfl, _, _, _, rfl⟩
      · obtain ⟨ad, cp, hv⟩ := own_slice ho
        exact ⟨v, g, true, he, by rw [hn]; rfl, ad, _, cp, hv⟩
    obtain ⟨ad, n, cp, rfl⟩ := hv
    have hE := unhide HE
    rw [hmeth] at hE
    clear hR hmeth HE
    have hmf := unhide HMf
    have hmt2 := unhide HMt
    have hmp := unhide HP
    clear HMf HMt HP
    have h1 := hide (unhide HM1)
    generalize hm0 : memB ta false = m0 at *
    generalize hmm : memB ta true = mt at *
    have HN := hide (fun w1 => unhide HM1 w1 true)
    have HN2 := hide (fun w1 => unhide HM1 w1 false)
    rw [hmm] at HN
    rw [hm0] at HN2
    clear hmm hm0 h1 HM1
    have hpos : 0 < mt → m0 = 1 := by
      intro h
      rcases hmf with rfl | rfl
      · simp at hmp; omega
      · rfl
    rcases hmf with rfl | rfl <;> rcases hmt2 with rfl | rfl | rfl | rfl <;> cases ia <;> cases ib <;> cases o <;> cases fb
    all_goals first
      | (exfalso; have := hpos (by omega); omega)
      | (simp at hE
         subst hE
         clear hpos hmp
         go_wp2_with (first | (go_at_call 42; first | (refine (unhide HN _).mono ?_; rintro e w3 ⟨rfl, hb3⟩; have HB3 := hide ((unhide HB2).trans (hb3.mono (unhide HB2).size)); clear hb3 HN) | (refine (unhide HN2 _).mono ?_; rintro e w4 ⟨rfl, hb4⟩; have HB4 := hide ((unhide HB3).trans (hb4.mono (unhide HB3).size)); clear hb4 HN2)) | (go_at_call 43; refine (unhide HFI _).mono ?_; rintro e w5 ⟨rfl, hb5⟩) | (go_at_call 38; refine (unhide HO3 _ _ _ _).mono ?_; rintro e w6 ⟨rfl, hw6⟩; subst w6) | go_in)
         go_wp2
         go_ret
         refine ⟨rfl, ?_⟩
         first
           | exact ((unhide HB4).trans (hb5.mono (unhide HB4).size)).alloc ((unhide HB4).trans (hb5.mono (unhide HB4).size)).size _
           | exact (unhide HB4).alloc (unhide HB4).size _
           | exact ((unhide HB3).trans (hb5.mono (unhide HB3).size)).alloc ((unhide HB3).trans (hb5.mono (unhide HB3).size)).size _
           | exact (unhide HB3).alloc (unhide HB3).size _)
  rw [decide_eq_false e12] at t12
  clear HCL HM1 HMT HFI HO2 HO3
  · have hE := unhide Hr
    rw [if_neg e7, if_neg e8, if_neg e12, if_neg e3] at hE
    have e9 : ¬ x.tag = 9 := fun e => e3 (.inl e)
    have e10 : ¬ x.tag = 10 := fun e => e3 (.inr (.inl e))
    have e11 : ¬ x.tag = 11 := fun e => e3 (.inr (.inr e))
    rw [decide_eq_false e9] at t9
    rw [decide_eq_false e10] at t10
    rw [decide_eq_false e11] at t11
    clear Hr e7 e8 e12 e3 e9 e10 e11 HQ
    subst hE
    go_enter Tryz.func13, Tryz.ntmps13
    go_upto_region 1 with fail
    rw [← hw0]
    clear hw0
    go_wp2_with fail
    refine (unhide HTA _ (unhide HB)).mono ?_
    rintro e w1 ⟨rfl, rfl⟩
    go_wp2_with fail
    refine (unhide HTB _ (unhide HB)).mono ?_
    rintro e w1 ⟨rfl, rfl⟩
    clear HTA HTB
    go_wp2
    go_ret
    exact ⟨rfl, unhide HB⟩
end Go.Proofs.YtddhlphbbiihjaaGreatDoor.Cl
