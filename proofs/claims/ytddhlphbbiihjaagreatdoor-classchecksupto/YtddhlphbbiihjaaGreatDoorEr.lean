/-
  ClassChecks: the reference looks at a constant.
-/
import Derived.Test.YtddhlphbbiihjaaGreatDoorMgEl
set_option linter.unusedVariables false
set_option linter.unusedSimpArgs false
namespace Go.Proofs.YtddhlphbbiihjaaGreatDoor.Cl
open Go.RowKit Go.Maps Kn
theorem bl_more {B : Nat} {a w : World} (h : Below B a w) (n : Nat) : Below B a (w.drewN n) := ⟨h.os, h.tape, h.output, h.size, h.block⟩
set_option maxRecDepth 100000 in
set_option maxHeartbeats 8000000 in
theorem rconstant_ref (kb : Nat) (x : K) (c : Csi) (vp vi vf vm : Value) (L : List Mv) (w : World) (h : Qk w kb c vp vi vf vm L) (hP : c.pool.length ≤ 1048576) (hS : Sml c.pool) (hc : x.tag < 256) (e3 : x.tag = 9 ∨ x.tag = 10 ∨ x.tag = 11) (ha : x.a < 65536) (hb : x.b < 65536) :
    Calls Tryz.prog 13 #[.pointer (some ⟨kb, 0, none⟩), x.val] w fun e w' => e = .returned (.int .i64 (refE c.pool x : Nat)) ∧ Below w.heap.size w w' := by
  have hta := fun (w1 : World) (hb1 : Below w.heap.size w w1) => text37_any kb x.a c vp vi vf vm L w1 (h.below hb1) hP ha
  have htb := fun (w1 : World) (hb1 : Below w.heap.size w w1) => text37_any kb x.b c vp vi vf vm L w1 (h.below hb1) hP hb
  have HTA := hide hta
  have HTB := hide htb
  have HQ := hide h
  clear hta htb h
  obtain ⟨w0, hw0⟩ : ∃ w0, w0 = w.alloc (.cells #[.int .u8 (x.tag : Int), .string ⟨x.text.toArray⟩, .int .u64 (x.bits : Int), .int .u16 (x.a : Int), .int .u16 (x.b : Int)] 38) := ⟨_, rfl⟩
  have hb0 : Below w.heap.size w w0 := by rw [hw0]; exact (Below.refl _ _).alloc (Nat.le_refl _) _
  have hk : Bk w0 w.heap.size #[.int .u8 (x.tag : Int), .string ⟨x.text.toArray⟩, .int .u64 (x.bits : Int), .int .u16 (x.a : Int), .int .u16 (x.b : Int)] 38 := by rw [hw0]; exact Bk.new _ _ _
  have c0 := hk.cell 0
  have c3 := hk.cell 3
  have c4 := hk.cell 4
  simp at c0 c3 c4
  have HB := hide hb0
  have HK := hide hk
  clear hk hb0
  have t7 : ((x.tag : Int) == 7) = decide (x.tag = 7) := tag_beq x.tag 7
  have t8 : ((x.tag : Int) == 8) = decide (x.tag = 8) := tag_beq x.tag 8
  have t9 : ((x.tag : Int) == 9) = decide (x.tag = 9) := tag_beq x.tag 9
  have t10 : ((x.tag : Int) == 10) = decide (x.tag = 10) := tag_beq x.tag 10
  have t11 : ((x.tag : Int) == 11) = decide (x.tag = 11) := tag_beq x.tag 11
  have t12 : ((x.tag : Int) == 12) = decide (x.tag = 12) := tag_beq x.tag 12
  generalize hr : refE c.pool x = r
  unfold refE at hr
  have Hr := hide hr
  clear hr
  unfold K.val K.cells
  rw [show decide (x.tag = 7) = false from by rcases e3 with e | e | e <;> simp [e]] at t7
  rw [show decide (x.tag = 8) = false from by rcases e3 with e | e | e <;> simp [e]] at t8
  rw [show decide (x.tag = 12) = false from by rcases e3 with e | e | e <;> simp [e]] at t12
  have hQ := unhide HQ
  have hia := fun (w1 : World) (hb1 : Below w.heap.size w w1) => Is_any vp c.pool x.a 7 w1 ((hQ.below hb1).c.p) hP (by decide)
  have hib := fun (w1 : World) (hb1 : Below w.heap.size w w1) => Is_any vp c.pool x.b 12 w1 ((hQ.below hb1).c.p) hP (by decide)
  have HIA := hide hia
  have HIB := hide hib
  have k5 := ((hQ.below (unhide HB)).b).cell 5
  simp at k5
  have ew1 : IntKind.i64.wrap (x.a : Int) = (x.a : Int) := by rw [IntKind.wrap_i64]; omega
  have ew2 : IntKind.i64.wrap (x.b : Int) = (x.b : Int) := by rw [IntKind.wrap_i64]; omega
  have hE := unhide Hr
  clear hia hib Hr
  by_cases h7 : M.tag c.pool x.a = 7
  · rw [decide_eq_true h7] at HIA
    by_cases h12 : M.tag c.pool x.b = 12
    · rw [decide_eq_true h12] at HIB
      obtain ⟨kk, hkk, hk0, hkl⟩ := tag_in h12 (by decide)
      obtain rfl : kk = x.b := by omega
      obtain ⟨bp, op, cap, rfl⟩ := hQ.c.p.form (by intro e; rw [e] at hkl; simp at hkl)
      obtain ⟨_, _, _, d3, d4⟩ := (hQ.below (unhide HB)).c.p.at hkl
      have hpe := kAt_in hk0 hkl
      have hft := hQ.c.p.at_fit x.b
      rw [hpe] at hE hft
      generalize hp : c.pool.getD x.b K.zero = p at *
      simp only [h7, h12, true_and] at hE
      have htp := fun (w1 : World) (hb1 : Below w.heap.size w w1) => text37_any kb p.a c _ vi vf vm L w1 (hQ.below hb1) hP hft.2.1
      have htq := fun (w1 : World) (hb1 : Below w.heap.size w w1) => text37_any kb p.b c _ vi vf vm L w1 (hQ.below hb1) hP hft.2.2
      have hmf := fun (w1 : World) (ini : Bool) => member_field (M.text c.pool p.a) (M.text c.pool p.b) ini w1 (hS.text _) (hS.text _)
      have hmm := fun (w1 : World) (ini : Bool) => member_method (M.text c.pool p.a) (M.text c.pool p.b) ini w1 (hS.text _) (hS.text _)
      simp only [mkE_ref] at hmm
      have HTP := hide htp
      have HTQ := hide htq
      have HMF := hide hmf
      have HMM := hide hmm
      have hlt : (x.b : Int) < (c.pool.length : Int) := by omega
      have hge : (0 : Int) ≤ (x.b : Int) := by omega
      clear htp htq hmf hmm hQ HQ h7 h12 hpe hp hk0 hkl hft hkk
      generalize isT c.pool p.a = oa at *
      generalize isT c.pool p.b = ob at *
      generalize M.text c.pool p.a = nm at *
      generalize M.text c.pool p.b = of at *
      have HE := hide hE
      clear hE
      rcases e3 with e | e | e
      · have he := hide e
        rw [show decide (x.tag = 9) = true from by simp [e]] at t9
        rw [show decide (x.tag = 10) = false from by simp [e]] at t10
        rw [show decide (x.tag = 11) = false from by simp [e]] at t11
        clear e
        go_enter Tryz.func13, Tryz.ntmps13
        go_upto_region 1 with fail
        rw [← hw0]
        clear hw0
        go_wp2_with fail
        refine (unhide HTA _ (unhide HB)).mono ?_
        rintro e w1 ⟨rfl, hw1⟩
        subst w1
        go_wp2_with fail
        refine (unhide HTB _ (unhide HB)).mono ?_
        rintro e w1 ⟨rfl, hw1⟩
        subst w1
        clear HTA HTB
        go_wp2_with fail
        go_quiet (first | (go_at_call_of 44 (Value.int IntKind.u8 7); exact Calls.quiet_of_same (unhide HIA _ ((unhide HB).trans ((bl_drewN w0 _).mono (unhide HB).size)))) | (go_at_call_of 44 (Value.int IntKind.u8 12); exact Calls.quiet_of_same (unhide HIB _ ((unhide HB).trans ((bl_drewN w0 _).mono (unhide HB).size)))))
        go_wp2_with fail
        generalize hwa : w0.drewN nq = wa
        have HBa : Hid (Below w.heap.size w wa) := hide (by rw [← hwa]; exact (unhide HB).trans ((bl_drewN w0 _).mono (unhide HB).size))
        have k5 : wa.cell? ⟨kb, 5, none⟩ = some (.slice (some ⟨bp, op, none⟩) c.pool.length cap) := by rw [← hwa]; exact k5
        have c0 : wa.cell? ⟨w.heap.size, 0, none⟩ = some (.int .u8 (x.tag : Int)) := by rw [← hwa]; exact c0
        have c4 : wa.cell? ⟨w.heap.size, 4, none⟩ = some (.int .u16 (x.b : Int)) := by rw [← hwa]; exact c4
        have d3 : wa.cell? ⟨bp, op + x.b * 5 + 3, none⟩ = some (.int .u16 (p.a : Int)) := by rw [← hwa]; exact d3
        have d4 : wa.cell? ⟨bp, op + x.b * 5 + 4, none⟩ = some (.int .u16 (p.b : Int)) := by rw [← hwa]; exact d4
        clear hwa
        go_quiet (first | (go_at_call 37; exact Calls.quiet_of_same (unhide HTP _ ((unhide HBa).trans ((bl_drewN wa _).mono (unhide HBa).size)))))
        go_wp2_with fail
        generalize hwb : wa.drewN nq = wb
        have HBb : Hid (Below w.heap.size w wb) := hide (by rw [← hwb]; exact bl_more (unhide HBa) _)
        have k5b : wb.cell? ⟨kb, 5, none⟩ = some (.slice (some ⟨bp, op, none⟩) c.pool.length cap) := by rw [← hwb]; exact k5
        have c0b : wb.cell? ⟨w.heap.size, 0, none⟩ = some (.int .u8 (x.tag : Int)) := by rw [← hwb]; exact c0
        have c4b : wb.cell? ⟨w.heap.size, 4, none⟩ = some (.int .u16 (x.b : Int)) := by rw [← hwb]; exact c4
        have d4b : wb.cell? ⟨bp, op + x.b * 5 + 4, none⟩ = some (.int .u16 (p.b : Int)) := by rw [← hwb]; exact d4
        clear hwb k5 c0 c4 d3 d4
        go_quiet (first | (go_at_call 37; exact Calls.quiet_of_same (unhide HTQ _ (bl_more (unhide HBb) _))))
        have hE := unhide HE
        clear HE
        cases oa <;> cases ob
        case true.true =>
          simp [unhide he] at hE
          go_wp2_with fail
          refine (unhide HMF _ _).mono ?_
          rintro e w2 ⟨rfl, hb2⟩
          go_wp2
          go_ret
          exact ⟨by rw [← hE]; simp, (bl_more (unhide HBb) _).trans (hb2.mono (unhide HBb).size)⟩
        all_goals
          simp at hE
          subst hE
          go_wp2
          go_ret
          exact ⟨rfl, bl_more (unhide HBb) _⟩
      · have he := hide e
        rw [show decide (x.tag = 9) = false from by simp [e]] at t9
        rw [show decide (x.tag = 10) = true from by simp [e]] at t10
        rw [show decide (x.tag = 11) = false from by simp [e]] at t11
        clear e
        go_enter Tryz.func13, Tryz.ntmps13
        go_upto_region 1 with fail
        rw [← hw0]
        clear hw0
        go_wp2_with fail
        refine (unhide HTA _ (unhide HB)).mono ?_
        rintro e w1 ⟨rfl, hw1⟩
        subst w1
        go_wp2_with fail
        refine (unhide HTB _ (unhide HB)).mono ?_
        rintro e w1 ⟨rfl, hw1⟩
        subst w1
        clear HTA HTB
        go_wp2_with fail
        go_quiet (first | (go_at_call_of 44 (Value.int IntKind.u8 7); exact Calls.quiet_of_same (unhide HIA _ ((unhide HB).trans ((bl_drewN w0 _).mono (unhide HB).size)))) | (go_at_call_of 44 (Value.int IntKind.u8 12); exact Calls.quiet_of_same (unhide HIB _ ((unhide HB).trans ((bl_drewN w0 _).mono (unhide HB).size)))))
        go_wp2_with fail
        generalize hwa : w0.drewN nq = wa
        have HBa : Hid (Below w.heap.size w wa) := hide (by rw [← hwa]; exact (unhide HB).trans ((bl_drewN w0 _).mono (unhide HB).size))
        have k5 : wa.cell? ⟨kb, 5, none⟩ = some (.slice (some ⟨bp, op, none⟩) c.pool.length cap) := by rw [← hwa]; exact k5
        have c0 : wa.cell? ⟨w.heap.size, 0, none⟩ = some (.int .u8 (x.tag : Int)) := by rw [← hwa]; exact c0
        have c4 : wa.cell? ⟨w.heap.size, 4, none⟩ = some (.int .u16 (x.b : Int)) := by rw [← hwa]; exact c4
        have d3 : wa.cell? ⟨bp, op + x.b * 5 + 3, none⟩ = some (.int .u16 (p.a : Int)) := by rw [← hwa]; exact d3
        have d4 : wa.cell? ⟨bp, op + x.b * 5 + 4, none⟩ = some (.int .u16 (p.b : Int)) := by rw [← hwa]; exact d4
        clear hwa
        go_quiet (first | (go_at_call 37; exact Calls.quiet_of_same (unhide HTP _ ((unhide HBa).trans ((bl_drewN wa _).mono (unhide HBa).size)))))
        go_wp2_with fail
        generalize hwb : wa.drewN nq = wb
        have HBb : Hid (Below w.heap.size w wb) := hide (by rw [← hwb]; exact bl_more (unhide HBa) _)
        have k5b : wb.cell? ⟨kb, 5, none⟩ = some (.slice (some ⟨bp, op, none⟩) c.pool.length cap) := by rw [← hwb]; exact k5
        have c0b : wb.cell? ⟨w.heap.size, 0, none⟩ = some (.int .u8 (x.tag : Int)) := by rw [← hwb]; exact c0
        have c4b : wb.cell? ⟨w.heap.size, 4, none⟩ = some (.int .u16 (x.b : Int)) := by rw [← hwb]; exact c4
        have d4b : wb.cell? ⟨bp, op + x.b * 5 + 4, none⟩ = some (.int .u16 (p.b : Int)) := by rw [← hwb]; exact d4
        clear hwb k5 c0 c4 d3 d4
        go_quiet (first | (go_at_call 37; exact Calls.quiet_of_same (unhide HTQ _ (bl_more (unhide HBb) _))))
        have hE := unhide HE
        clear HE
        cases oa <;> cases ob
        case true.true =>
          simp [unhide he] at hE
          go_wp2_with fail
          refine (unhide HMM _ _).mono ?_
          rintro e w2 ⟨rfl, hb2⟩
          go_wp2
          go_ret
          exact ⟨by rw [← hE]; simp, (bl_more (unhide HBb) _).trans (hb2.mono (unhide HBb).size)⟩
        all_goals
          simp at hE
          subst hE
          go_wp2
          go_ret
          exact ⟨rfl, bl_more (unhide HBb) _⟩
      · have he := hide e
        rw [show decide (x.tag = 9) = false from by simp [e]] at t9
        rw [show decide (x.tag = 10) = false from by simp [e]] at t10
        rw [show decide (x.tag = 11) = true from by simp [e]] at t11
        clear e
        go_enter Tryz.func13, Tryz.ntmps13
        go_upto_region 1 with fail
        rw [← hw0]
        clear hw0
        go_wp2_with fail
        refine (unhide HTA _ (unhide HB)).mono ?_
        rintro e w1 ⟨rfl, hw1⟩
        subst w1
        go_wp2_with fail
        refine (unhide HTB _ (unhide HB)).mono ?_
        rintro e w1 ⟨rfl, hw1⟩
        subst w1
        clear HTA HTB
        go_wp2_with fail
        go_quiet (first | (go_at_call_of 44 (Value.int IntKind.u8 7); exact Calls.quiet_of_same (unhide HIA _ ((unhide HB).trans ((bl_drewN w0 _).mono (unhide HB).size)))) | (go_at_call_of 44 (Value.int IntKind.u8 12); exact Calls.quiet_of_same (unhide HIB _ ((unhide HB).trans ((bl_drewN w0 _).mono (unhide HB).size)))))
        go_wp2_with fail
        generalize hwa : w0.drewN nq = wa
        have HBa : Hid (Below w.heap.size w wa) := hide (by rw [← hwa]; exact (unhide HB).trans ((bl_drewN w0 _).mono (unhide HB).size))
        have k5 : wa.cell? ⟨kb, 5, none⟩ = some (.slice (some ⟨bp, op, none⟩) c.pool.length cap) := by rw [← hwa]; exact k5
        have c0 : wa.cell? ⟨w.heap.size, 0, none⟩ = some (.int .u8 (x.tag : Int)) := by rw [← hwa]; exact c0
        have c4 : wa.cell? ⟨w.heap.size, 4, none⟩ = some (.int .u16 (x.b : Int)) := by rw [← hwa]; exact c4
        have d3 : wa.cell? ⟨bp, op + x.b * 5 + 3, none⟩ = some (.int .u16 (p.a : Int)) := by rw [← hwa]; exact d3
        have d4 : wa.cell? ⟨bp, op + x.b * 5 + 4, none⟩ = some (.int .u16 (p.b : Int)) := by rw [← hwa]; exact d4
        clear hwa
        go_quiet (first | (go_at_call 37; exact Calls.quiet_of_same (unhide HTP _ ((unhide HBa).trans ((bl_drewN wa _).mono (unhide HBa).size)))))
        go_wp2_with fail
        generalize hwb : wa.drewN nq = wb
        have HBb : Hid (Below w.heap.size w wb) := hide (by rw [← hwb]; exact bl_more (unhide HBa) _)
        have k5b : wb.cell? ⟨kb, 5, none⟩ = some (.slice (some ⟨bp, op, none⟩) c.pool.length cap) := by rw [← hwb]; exact k5
        have c0b : wb.cell? ⟨w.heap.size, 0, none⟩ = some (.int .u8 (x.tag : Int)) := by rw [← hwb]; exact c0
        have c4b : wb.cell? ⟨w.heap.size, 4, none⟩ = some (.int .u16 (x.b : Int)) := by rw [← hwb]; exact c4
        have d4b : wb.cell? ⟨bp, op + x.b * 5 + 4, none⟩ = some (.int .u16 (p.b : Int)) := by rw [← hwb]; exact d4
        clear hwb k5 c0 c4 d3 d4
        go_quiet (first | (go_at_call 37; exact Calls.quiet_of_same (unhide HTQ _ (bl_more (unhide HBb) _))))
        have hE := unhide HE
        clear HE
        cases oa <;> cases ob
        case true.true =>
          simp [unhide he] at hE
          go_wp2_with fail
          refine (unhide HMM _ _).mono ?_
          rintro e w2 ⟨rfl, hb2⟩
          go_wp2
          go_ret
          exact ⟨by rw [← hE]; simp, (bl_more (unhide HBb) _).trans (hb2.mono (unhide HBb).size)⟩
        all_goals
          simp at hE
          subst hE
          go_wp2
          go_ret
          exact ⟨rfl, bl_more (unhide HBb) _⟩
    · rw [if_neg (fun h => h12 h.2.1)] at hE
      subst hE
      rw [decide_eq_false h12] at HIB
      clear h7 h12 hQ HQ
      rcases e3 with e | e | e
      · have he := hide e
        rw [show decide (x.tag = 9) = true from by simp [e]] at t9
        rw [show decide (x.tag = 10) = false from by simp [e]] at t10
        rw [show decide (x.tag = 11) = false from by simp [e]] at t11
        clear e
        clear he
        go_enter Tryz.func13, Tryz.ntmps13
        go_upto_region 1 with fail
        rw [← hw0]
        clear hw0
        go_wp2_with fail
        refine (unhide HTA _ (unhide HB)).mono ?_
        rintro e w1 ⟨rfl, hw1⟩
        subst w1
        go_wp2_with fail
        refine (unhide HTB _ (unhide HB)).mono ?_
        rintro e w1 ⟨rfl, hw1⟩
        subst w1
        clear HTA HTB
        go_wp2_with fail
        go_quiet (first | (go_at_call_of 44 (Value.int IntKind.u8 7); exact Calls.quiet_of_same (unhide HIA _ ((unhide HB).trans ((bl_drewN w0 _).mono (unhide HB).size)))) | (go_at_call_of 44 (Value.int IntKind.u8 12); exact Calls.quiet_of_same (unhide HIB _ ((unhide HB).trans ((bl_drewN w0 _).mono (unhide HB).size)))))
        go_wp2
        go_ret
        exact ⟨rfl, (unhide HB).trans ((bl_drewN w0 _).mono (unhide HB).size)⟩
      · have he := hide e
        rw [show decide (x.tag = 9) = false from by simp [e]] at t9
        rw [show decide (x.tag = 10) = true from by simp [e]] at t10
        rw [show decide (x.tag = 11) = false from by simp [e]] at t11
        clear e
        clear he
        go_enter Tryz.func13, Tryz.ntmps13
        go_upto_region 1 with fail
        rw [← hw0]
        clear hw0
        go_wp2_with fail
        refine (unhide HTA _ (unhide HB)).mono ?_
        rintro e w1 ⟨rfl, hw1⟩
        subst w1
        go_wp2_with fail
        refine (unhide HTB _ (unhide HB)).mono ?_
        rintro e w1 ⟨rfl, hw1⟩
        subst w1
        clear HTA HTB
        go_wp2_with fail
        go_quiet (first | (go_at_call_of 44 (Value.int IntKind.u8 7); exact Calls.quiet_of_same (unhide HIA _ ((unhide HB).trans ((bl_drewN w0 _).mono (unhide HB).size)))) | (go_at_call_of 44 (Value.int IntKind.u8 12); exact Calls.quiet_of_same (unhide HIB _ ((unhide HB).trans ((bl_drewN w0 _).mono (unhide HB).size)))))
        go_wp2
        go_ret
        exact ⟨rfl, (unhide HB).trans ((bl_drewN w0 _).mono (unhide HB).size)⟩
      · have he := hide e
        rw [show decide (x.tag = 9) = false from by simp [e]] at t9
        rw [show decide (x.tag = 10) = false from by simp [e]] at t10
        rw [show decide (x.tag = 11) = true from by simp [e]] at t11
        clear e
        clear he
        go_enter Tryz.func13, Tryz.ntmps13
        go_upto_region 1 with fail
        rw [← hw0]
        clear hw0
        go_wp2_with fail
        refine (unhide HTA _ (unhide HB)).mono ?_
        rintro e w1 ⟨rfl, hw1⟩
        subst w1
        go_wp2_with fail
        refine (unhide HTB _ (unhide HB)).mono ?_
        rintro e w1 ⟨rfl, hw1⟩
        subst w1
        clear HTA HTB
        go_wp2_with fail
        go_quiet (first | (go_at_call_of 44 (Value.int IntKind.u8 7); exact Calls.quiet_of_same (unhide HIA _ ((unhide HB).trans ((bl_drewN w0 _).mono (unhide HB).size)))) | (go_at_call_of 44 (Value.int IntKind.u8 12); exact Calls.quiet_of_same (unhide HIB _ ((unhide HB).trans ((bl_drewN w0 _).mono (unhide HB).size)))))
        go_wp2
        go_ret
        exact ⟨rfl, (unhide HB).trans ((bl_drewN w0 _).mono (unhide HB).size)⟩
  · rw [if_neg (fun h => h7 h.1)] at hE
    subst hE
    rw [decide_eq_false h7] at HIA
    clear h7 HIB hQ HQ
    rcases e3 with e | e | e
    · have he := hide e
      rw [show decide (x.tag = 9) = true from by simp [e]] at t9
      rw [show decide (x.tag = 10) = false from by simp [e]] at t10
      rw [show decide (x.tag = 11) = false from by simp [e]] at t11
      clear e
      clear he
      go_enter Tryz.func13, Tryz.ntmps13
      go_upto_region 1 with fail
      rw [← hw0]
      clear hw0
      go_wp2_with fail
      refine (unhide HTA _ (unhide HB)).mono ?_
      rintro e w1 ⟨rfl, hw1⟩
      subst w1
      go_wp2_with fail
      refine (unhide HTB _ (unhide HB)).mono ?_
      rintro e w1 ⟨rfl, hw1⟩
      subst w1
      clear HTA HTB
      go_wp2_with fail
      go_quiet (first | (go_at_call_of 44 (Value.int IntKind.u8 7); exact Calls.quiet_of_same (unhide HIA _ ((unhide HB).trans ((bl_drewN w0 _).mono (unhide HB).size)))))
      go_wp2
      go_ret
      exact ⟨rfl, (unhide HB).trans ((bl_drewN w0 _).mono (unhide HB).size)⟩
    · have he := hide e
      rw [show decide (x.tag = 9) = false from by simp [e]] at t9
      rw [show decide (x.tag = 10) = true from by simp [e]] at t10
      rw [show decide (x.tag = 11) = false from by simp [e]] at t11
      clear e
      clear he
      go_enter Tryz.func13, Tryz.ntmps13
      go_upto_region 1 with fail
      rw [← hw0]
      clear hw0
      go_wp2_with fail
      refine (unhide HTA _ (unhide HB)).mono ?_
      rintro e w1 ⟨rfl, hw1⟩
      subst w1
      go_wp2_with fail
      refine (unhide HTB _ (unhide HB)).mono ?_
      rintro e w1 ⟨rfl, hw1⟩
      subst w1
      clear HTA HTB
      go_wp2_with fail
      go_quiet (first | (go_at_call_of 44 (Value.int IntKind.u8 7); exact Calls.quiet_of_same (unhide HIA _ ((unhide HB).trans ((bl_drewN w0 _).mono (unhide HB).size)))))
      go_wp2
      go_ret
      exact ⟨rfl, (unhide HB).trans ((bl_drewN w0 _).mono (unhide HB).size)⟩
    · have he := hide e
      rw [show decide (x.tag = 9) = false from by simp [e]] at t9
      rw [show decide (x.tag = 10) = false from by simp [e]] at t10
      rw [show decide (x.tag = 11) = true from by simp [e]] at t11
      clear e
      clear he
      go_enter Tryz.func13, Tryz.ntmps13
      go_upto_region 1 with fail
      rw [← hw0]
      clear hw0
      go_wp2_with fail
      refine (unhide HTA _ (unhide HB)).mono ?_
      rintro e w1 ⟨rfl, hw1⟩
      subst w1
      go_wp2_with fail
      refine (unhide HTB _ (unhide HB)).mono ?_
      rintro e w1 ⟨rfl, hw1⟩
      subst w1
      clear HTA HTB
      go_wp2_with fail
      go_quiet (first | (go_at_call_of 44 (Value.int IntKind.u8 7); exact Calls.quiet_of_same (unhide HIA _ ((unhide HB).trans ((bl_drewN w0 _).mono (unhide HB).size)))))
      go_wp2
      go_ret
      exact ⟨rfl, (unhide HB).trans ((bl_drewN w0 _).mono (unhide HB).size)⟩
end Go.Proofs.YtddhlphbbiihjaaGreatDoor.Cl
