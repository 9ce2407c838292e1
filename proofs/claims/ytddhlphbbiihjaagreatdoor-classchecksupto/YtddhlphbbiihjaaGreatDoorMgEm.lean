/-
  ClassChecks: the program looks at a constant: reference.
  ClassChecks: the program looks at a constant.
-/
import Derived.Test.YtddhlphbbiihjaaGreatDoorMgEg
set_option linter.unusedVariables false
set_option linter.unusedSimpArgs false
namespace Go.Proofs.YtddhlphbbiihjaaGreatDoor.Cl
open Go.RowKit Go.Maps Kn
set_option maxHeartbeats 4000000 in
set_option maxRecDepth 100000 in
theorem reference_any (cb fl : Nat) (pv : Value) (P : List K) (c : K) (w : World) (h : Kc w cb pv P fl) (hP : P.length ≤ 1048576) (hS : Sml P) (hc : c.tag < 256) (ha : c.a < 65536) (hb : c.b < 65536) :
    Calls Tryz.prog 23 #[.pointer (some ⟨cb, 0, none⟩), c.val] w fun e w' => e = .returned (.int .i64 (refE P c : Nat)) ∧ Below w.heap.size w w' := by
  have hka : ∀ w1 : World, Below w.heap.size w w1 → Calls Tryz.prog 53 #[pv, .int .i64 (c.b : Int)] w1 fun e w' => e = .returned (.agg #[.int .u8 ((M.kAt P c.b).tag : Int), .string ⟨(M.kAt P c.b).text.toArray⟩, .int .u64 ((M.kAt P c.b).bits : Int), .int .u16 ((M.kAt P c.b).a : Int), .int .u16 ((M.kAt P c.b).b : Int)]) ∧ Below w1.heap.size w1 w' := fun (w1 : World) (hb1 : Below w.heap.size w w1) => KAt_any pv P c.b w1 (h.below hb1).k hP
  have hft := h.k.at_fit c.b
  have hsg := fun (w1 : World) (hb1 : Below w.heap.size w w1) => signature_any cb fl (M.kAt P c.b).a (M.kAt P c.b).b pv P w1 (h.below hb1) hP hft.2.1 hft.2.2
  have hha := fun (w1 : World) (tv : Value) (hb1 : Below w.heap.size w w1) (hu : UIn w1 tv [7]) => Has_any pv tv P [7] c.a w1 (h.below hb1).k hP hu (by simp)
  simp only [contains_one] at hha
  have hwf := fun (w1 : World) (hb1 : Below w.heap.size w w1) => wrongField_any (M.text P (M.kAt P c.b).a) (M.text P (M.kAt P c.b).b) w1 (h.below hb1).mx (hS.text _) (hS.text _)
  have hwm := fun (w1 : World) (hb1 : Below w.heap.size w w1) => wrongMethod_any (M.text P (M.kAt P c.b).a) (M.text P (M.kAt P c.b).b) w1 (h.below hb1).mx (hS.text _) (hS.text _)
  have hpc := fun (w1 : World) (hb1 : Below w.heap.size w w1) => (h.below hb1).p
  generalize hr : refE P c = r
  unfold refE M.tag at hr
  unfold M.tag at hha
  generalize M.kAt P (c.b : Int) = p at *
  generalize M.text P (p.a : Int) = nm at *
  generalize M.text P (p.b : Int) = of at *
  generalize (isT P (p.a : Int) && isT P (p.b : Int)) = ok at *
  generalize hT : decide ((M.kAt P (c.a : Int)).tag = 7) = t7 at *
  have HT := hide hT
  have Hr := hide hr
  have HA := hide hka
  have HS := hide hsg
  have HH := hide hha
  have HF := hide hwf
  have HM := hide hwm
  have HP := hide hpc
  have hp0 := h.p
  clear hka hsg hha hwf hwm hr hT hpc h hS
  obtain ⟨w0, hw0⟩ : ∃ w0, w0 = w.alloc (.cells #[.int .u8 (c.tag : Int), .string ⟨c.text.toArray⟩, .int .u64 (c.bits : Int), .int .u16 (c.a : Int), .int .u16 (c.b : Int)] 38) := ⟨_, rfl⟩
  have hb0 : Below w.heap.size w w0 := by rw [hw0]; exact (Below.refl _ _).alloc (Nat.le_refl _) _
  have hk : Bk w0 w.heap.size #[.int .u8 (c.tag : Int), .string ⟨c.text.toArray⟩, .int .u64 (c.bits : Int), .int .u16 (c.a : Int), .int .u16 (c.b : Int)] 38 := by rw [hw0]; exact Bk.new _ _ _
  have c4 := hk.cell 4
  simp at c4
  have hp1 := unhide HP w0 hb0
  have HB := hide hb0
  have HK := hide hk
  clear hk hb0 hp0
  have hz : ∀ W : World, (zeroValue 75).run Tryz.prog W = .ok (.agg #[.string ⟨#[]⟩, .string ⟨#[]⟩]) W := fun W => by kernel_rfl
  have hz2 : ∀ W : World, (zeroValue 38).run Tryz.prog W = .ok (.agg #[.int .u8 0, .string ⟨#[]⟩, .int .u64 0, .int .u16 0, .int .u16 0]) W := fun W => by kernel_rfl
  have ew1 : IntKind.i64.wrap (c.b : Int) = (c.b : Int) := by rw [IntKind.wrap_i64]; omega
  have ew2 : IntKind.i64.wrap (c.a : Int) = (c.a : Int) := by rw [IntKind.wrap_i64]; omega
  unfold K.val K.cells
  go_enter Tryz.func23, Tryz.ntmps23
  go_upto_region 1 with fail
  rw [← hw0]
  clear hw0
  have HD := hide ((unhide HB).drew)
  have HE := hide ((unhide HB).drew.alloc (unhide HB).drew.size (.cells #[.int .u8 0, .string ⟨#[]⟩, .int .u64 0, .int .u16 0, .int .u16 0] 38))
  have q1 : w.heap.size < w0.heap.size := (unhide HK).lt
  have q2 : cb < w0.heap.size := cell_lt hp1
  have q3 : w.heap.size ≠ w0.heap.size := by omega
  have q4 : cb ≠ w0.heap.size := by omega
  have x4 : (w0.drew.alloc (.cells #[.int .u8 0, .string ⟨#[]⟩, .int .u64 0, .int .u16 0, .int .u16 0] 38)).cell? ⟨w.heap.size, 4, none⟩ = some (.int .u16 (c.b : Int)) := ((unhide HK).alloc (.cells #[.int .u8 0, .string ⟨#[]⟩, .int .u64 0, .int .u16 0, .int .u16 0] 38)).cell 4
  have xp : (w0.drew.alloc (.cells #[.int .u8 0, .string ⟨#[]⟩, .int .u64 0, .int .u16 0, .int .u16 0] 38)).cell? ⟨cb, 0, none⟩ = some pv := unhide HP _ (unhide HE)
  go_cut [5] from 8 to 15 (fun p5 wx => ∃ g, p5 = .pointer (some ⟨g, 0, none⟩) ∧ Bk wx g #[.int .u8 (p.tag : Int), .string ⟨p.text.toArray⟩, .int .u64 (p.bits : Int), .int .u16 (p.a : Int), .int .u16 (p.b : Int)] 38 ∧ Below w0.heap.size w0 wx)
  case first =>
    go_region_with (go_at_call 53; first
      | (refine (unhide HA (w0.drew.alloc (.cells #[.int .u8 0, .string ⟨#[]⟩, .int .u64 0, .int .u16 0, .int .u16 0] 38)) (unhide HE)).mono ?_; rintro e w1 ⟨rfl, hb1⟩; have kk : Bk w1 w0.heap.size #[.int .u8 0, .string ⟨#[]⟩, .int .u64 0, .int .u16 0, .int .u16 0] 38 := (Bk.new w0.drew #[.int .u8 0, .string ⟨#[]⟩, .int .u64 0, .int .u16 0, .int .u16 0] 38).below hb1; have k0 := kk.cell 0; have k1 := kk.cell 1; have k2 := kk.cell 2; have k3 := kk.cell 3; have k4 := kk.cell 4; have f0 := kk.frozen 0; have f1 := kk.frozen 1; have f2 := kk.frozen 2; have f3 := kk.frozen 3; have f4 := kk.frozen 4; have HZ := hide (show Bk (((((w1.setCell ⟨w0.heap.size, 0, none⟩ (.int .u8 (p.tag : Int))).setCell ⟨w0.heap.size, 1, none⟩ (.string ⟨p.text.toArray⟩)).setCell ⟨w0.heap.size, 2, none⟩ (.int .u64 (p.bits : Int))).setCell ⟨w0.heap.size, 3, none⟩ (.int .u16 (p.a : Int))).setCell ⟨w0.heap.size, 4, none⟩ (.int .u16 (p.b : Int))) w0.heap.size #[.int .u8 (p.tag : Int), .string ⟨p.text.toArray⟩, .int .u64 (p.bits : Int), .int .u16 (p.a : Int), .int .u16 (p.b : Int)] 38 ∧ Below w0.heap.size w0 (((((w1.setCell ⟨w0.heap.size, 0, none⟩ (.int .u8 (p.tag : Int))).setCell ⟨w0.heap.size, 1, none⟩ (.string ⟨p.text.toArray⟩)).setCell ⟨w0.heap.size, 2, none⟩ (.int .u64 (p.bits : Int))).setCell ⟨w0.heap.size, 3, none⟩ (.int .u16 (p.a : Int))).setCell ⟨w0.heap.size, 4, none⟩ (.int .u16 (p.b : Int))) from ⟨((((kk.set 0 _).set 1 _).set 2 _).set 3 _).set 4 _, (((((((Below.refl w0.heap.size w0).drew.alloc (Nat.le_refl _) (.cells #[.int .u8 0, .string ⟨#[]⟩, .int .u64 0, .int .u16 0, .int .u16 0] 38)).trans (hb1.mono (by simp))).setCell (p := ⟨w0.heap.size, 0, none⟩) (Nat.le_refl _) _).setCell (p := ⟨w0.heap.size, 1, none⟩) (Nat.le_refl _) _).setCell (p := ⟨w0.heap.size, 2, none⟩) (Nat.le_refl _) _).setCell (p := ⟨w0.heap.size, 3, none⟩) (Nat.le_refl _) _).setCell (p := ⟨w0.heap.size, 4, none⟩) (Nat.le_refl _) _⟩); clear kk hb1; simp at k0 k1 k2 k3 k4)
      | (refine (unhide HA w0.drew (unhide HD)).mono ?_; rintro e w1 ⟨rfl, hb1⟩; have HZ := hide (show Bk (w1.alloc (.cells #[.int .u8 (p.tag : Int), .string ⟨p.text.toArray⟩, .int .u64 (p.bits : Int), .int .u16 (p.a : Int), .int .u16 (p.b : Int)] 38)) w1.heap.size #[.int .u8 (p.tag : Int), .string ⟨p.text.toArray⟩, .int .u64 (p.bits : Int), .int .u16 (p.a : Int), .int .u16 (p.b : Int)] 38 ∧ Below w0.heap.size w0 (w1.alloc (.cells #[.int .u8 (p.tag : Int), .string ⟨p.text.toArray⟩, .int .u64 (p.bits : Int), .int .u16 (p.a : Int), .int .u16 (p.b : Int)] 38)) from ⟨Bk.new _ _ _, ((Below.refl w0.heap.size w0).drew.trans hb1).alloc ((Below.refl w0.heap.size w0).drew.trans hb1).size _⟩); clear hb1))
    all_goals
      go_wp2_with fail
      go_meet
      exact ⟨_, rfl, (unhide HZ).1, (unhide HZ).2⟩
  case rest =>
    obtain ⟨g, rfl, hg, hbx⟩ := hcut
    have hB1 := (unhide HB).trans (hbx.mono (unhide HB).size)
    have g3 := hg.cell 3
    have g4 := hg.cell 4
    simp at g3 g4
    have HG := hide hg
    have HK1 := hide ((unhide HK).below hbx)
    have HB1 := hide hB1
    clear hg hbx hB1 x4 xp q1 q2 q3 q4 c4 hp1 HD HE HA HK HB
    go_wp2_with fail
    refine (unhide HS _ (unhide HB1)).mono ?_
    rintro e w2 ⟨rfl, hb2⟩
    have HB2 := hide ((unhide HB1).trans (hb2.mono (unhide HB1).size))
    have HG2 := hide ((unhide HG).below hb2)
    have HK2 := hide ((unhide HK1).below hb2)
    clear HS hb2 HB1 HG HK1 g3 g4
    unfold sgv
    go_wp2_with fail
    obtain ⟨w3, hw3⟩ : ∃ w3, w3 = w2.alloc (.cells #[.string ⟨nm.toArray⟩, .string ⟨of.toArray⟩] 75) := ⟨_, rfl⟩
    rw [← hw3]
    have hb23 : Below w2.heap.size w2 w3 := by rw [hw3]; exact (Below.refl _ _).alloc (Nat.le_refl _) _
    have hs3 : Bk w3 w2.heap.size #[.string ⟨nm.toArray⟩, .string ⟨of.toArray⟩] 75 := by rw [hw3]; exact Bk.new _ _ _
    have hB3 := (unhide HB2).trans (hb23.mono (unhide HB2).size)
    have hG3 := (unhide HG2).below hb23
    have hK3 := (unhide HK2).below hb23
    clear hw3
    have a0 := hK3.cell 0
    have a3 := hK3.cell 3
    have b0 := hG3.cell 0
    simp at a0 a3 b0
    have p3 := unhide HP w3 hB3
    have q1 : w.heap.size < w3.heap.size := hK3.lt
    have q2 : cb < w3.heap.size := cell_lt p3
    have q3 : w.heap.size ≠ w3.heap.size := by omega
    have q4 : cb ≠ w3.heap.size := by omega
    have HX1 := hide (hB3.drew.alloc hB3.drew.size (.cells #[.int .u8 7] 5))
    have HX2 := hide (UIn.made w3.drew 7)
    have HS3 := hide hs3
    have HB3 := hide hB3
    have HG3 := hide hG3
    have HK3 := hide hK3
    clear hb23 hs3 hB3 hG3 hK3 HB2 HG2 HK2
    go_cut [25] from 26 to 35 (fun v25 wx => v25 = .bool (!t7) ∧ Below w3.heap.size w3 wx)
    case first =>
      go_region_with (go_at_call 21; refine (unhide HH (w3.drew.alloc (.cells #[.int .u8 7] 5)) (.slice (some ⟨w3.heap.size, 0, none⟩) 1 1) (unhide HX1) (unhide HX2)).mono ?_; rintro e w4 ⟨rfl, hb4⟩)
      all_goals
        go_wp2_with fail
        go_meet
        exact ⟨rfl, ((Below.refl w3.heap.size w3).drew.alloc (Nat.le_refl _) (.cells #[.int .u8 7] 5)).trans (hb4.mono (by simp))⟩
    case rest =>
      obtain ⟨rfl, hbx⟩ := hcut
      have hB5 := (unhide HB3).trans (hbx.mono (unhide HB3).size)
      have a0 := ((unhide HK3).below hbx).cell 0
      have b0 := ((unhide HG3).below hbx).cell 0
      have d0 := ((unhide HS3).below hbx).cell 0
      have d1 := ((unhide HS3).below hbx).cell 1
      simp at a0 b0 d0 d1
      have HB5 := hide hB5
      clear hbx hB5 HK3 HG3 HS3 HB3 HX1 HX2 HH q1 q2 q3 q4 p3 HP
      have m12 : ((p.tag : Int) != 12) = decide (p.tag ≠ 12) := nat_bne _ 12
      have m9 : ((c.tag : Int) == 9) = decide (c.tag = 9) := nat_beq _ 9
      have m11 : ((c.tag : Int) == 11) = decide (c.tag = 11) := nat_beq _ 11
      have n1 : (nm == [60, 99, 108, 105, 110, 105, 116, 62]) = decide (nm = clinitB) := lst_eq _ _
      have n2 : (nm == [60, 105, 110, 105, 116, 62]) = decide (nm = initB) := lst_eq _ _
      have hE := unhide Hr
      have hT := unhide HT
      clear Hr HT
      cases t7
      · rw [if_neg (fun h => by simp [h.1] at hT)] at hE
        subst hE
        clear hT HF HM m12 m9 m11 n1 n2
        go_wp2
        go_ret
        exact ⟨rfl, unhide HB5⟩
      have hT' : (M.kAt P c.a).tag = 7 := of_decide_eq_true hT
      by_cases h12 : p.tag = 12
      · rw [decide_eq_false (fun h => h h12)] at m12
        cases ok
        · rw [if_neg (fun h => by simp at h)] at hE
          subst hE
          clear hT hT' h12 HF HM m9 m11 n1 n2
          go_wp2
          go_ret
          exact ⟨rfl, unhide HB5⟩
        rw [if_pos ⟨hT', h12, rfl⟩] at hE
        clear hT hT' h12
        by_cases h9 : c.tag = 9
        · rw [decide_eq_true h9] at m9
          rw [if_pos h9] at hE
          clear h9 HM m11 n1 n2
          subst hE
          go_wp2_with fail
          refine (unhide HF _ (unhide HB5)).mono ?_
          rintro e w6 ⟨rfl, hb6⟩
          have HB6 := hide ((unhide HB5).trans (hb6.mono (unhide HB5).size))
          clear hb6
          go_wp2
          go_ret
          exact ⟨rfl, unhide HB6⟩
        rw [decide_eq_false h9] at m9
        rw [if_neg h9] at hE
        clear h9 HF
        by_cases hc1 : nm = clinitB
        · rw [decide_eq_true hc1] at n1
          rw [if_pos hc1] at hE
          clear hc1 HM m11 n2
          subst hE
          go_wp2
          go_ret
          exact ⟨rfl, unhide HB5⟩
        rw [decide_eq_false hc1] at n1
        rw [if_neg hc1] at hE
        clear hc1
        by_cases h11 : c.tag = 11
        · rw [decide_eq_true h11] at m11
          by_cases hi1 : nm = initB
          · rw [decide_eq_true hi1] at n2
            rw [if_pos ⟨h11, hi1⟩] at hE
            clear hi1 h11 HM
            subst hE
            go_wp2
            go_ret
            exact ⟨rfl, unhide HB5⟩
          · rw [decide_eq_false hi1] at n2
            rw [if_neg (fun h => hi1 h.2)] at hE
            clear hi1 h11
            subst hE
            go_wp2_with fail
            refine (unhide HM _ (unhide HB5)).mono ?_
            rintro e w6 ⟨rfl, hb6⟩
            have HB6 := hide ((unhide HB5).trans (hb6.mono (unhide HB5).size))
            clear hb6
            go_wp2
            go_ret
            exact ⟨rfl, unhide HB6⟩
        · rw [decide_eq_false h11] at m11
          rw [if_neg (fun h => h11 h.1)] at hE
          clear h11 n2
          subst hE
          go_wp2_with fail
          refine (unhide HM _ (unhide HB5)).mono ?_
          rintro e w6 ⟨rfl, hb6⟩
          have HB6 := hide ((unhide HB5).trans (hb6.mono (unhide HB5).size))
          clear hb6
          go_wp2
          go_ret
          exact ⟨rfl, unhide HB6⟩
      · rw [decide_eq_true h12] at m12
        rw [if_neg (fun h => h12 h.2.1)] at hE
        subst hE
        clear hT hT' h12 HF HM m9 m11 n1 n2
        go_wp2
        go_ret
        exact ⟨rfl, unhide HB5⟩
end Go.Proofs.YtddhlphbbiihjaaGreatDoor.Cl
namespace Go.Proofs.YtddhlphbbiihjaaGreatDoor.Cl
open Go.RowKit Go.Maps Kn
set_option maxRecDepth 100000 in
set_option maxHeartbeats 8000000 in
theorem constant_any (cb fl : Nat) (pv : Value) (P : List K) (c : K) (w : World) (h : Kc w cb pv P fl) (hP : P.length ≤ 1048576) (hS : Sml P) (hc : c.tag < 256) (ha : c.a < 65536) (hb : c.b < 65536) :
    Calls Tryz.prog 9 #[.pointer (some ⟨cb, 0, none⟩), .agg #[.int .u8 (c.tag : Int), .string ⟨c.text.toArray⟩, .int .u64 (c.bits : Int), .int .u16 (c.a : Int), .int .u16 (c.b : Int)]] w fun e w' => e = .returned (.int .i64 (conE P c : Nat)) ∧ Below w.heap.size w w' := by
  have hnt : ∀ w1 : World, Below w.heap.size w w1 → Calls Tryz.prog 22 #[.pointer (some ⟨cb, 0, none⟩), .agg #[.int .u8 (c.tag : Int), .string ⟨c.text.toArray⟩, .int .u64 (c.bits : Int), .int .u16 (c.a : Int), .int .u16 (c.b : Int)]] w1 fun e w' => e = .returned (.int .i64 (ntE P c : Nat)) ∧ Below w1.heap.size w1 w' := fun w1 hb1 => nameType_any cb fl pv P c w1 (h.below hb1) hP hS ha hb
  have hrf : ∀ w1 : World, Below w.heap.size w w1 → Calls Tryz.prog 23 #[.pointer (some ⟨cb, 0, none⟩), .agg #[.int .u8 (c.tag : Int), .string ⟨c.text.toArray⟩, .int .u64 (c.bits : Int), .int .u16 (c.a : Int), .int .u16 (c.b : Int)]] w1 fun e w' => e = .returned (.int .i64 (refE P c : Nat)) ∧ Below w1.heap.size w1 w' := fun w1 hb1 => reference_any cb fl pv P c w1 (h.below hb1) hP hS hc ha hb
  have htx := fun (w1 : World) (hb1 : Below w.heap.size w w1) => Text_any pv P c.a w1 (h.below hb1).k hP
  have hcl := fun (w1 : World) (hb1 : Below w.heap.size w w1) => Class_any ⟨(M.text P c.a).toArray⟩ w1 (h.below hb1).mx (by rw [sz_of]; exact hS.text _)
  rw [dt_of] at hcl
  have hha := fun (w1 : World) (tv : Value) (hb1 : Below w.heap.size w w1) (hu : UIn w1 tv [1]) => Has_any pv tv P [1] c.a w1 (h.below hb1).k hP hu (by simp)
  simp only [contains_one] at hha
  generalize hr : conE P c = r
  unfold conE at hr
  have Hr := hide hr
  have HN := hide hnt
  have HR := hide hrf
  have HT := hide htx
  have HC := hide hcl
  have HH := hide hha
  obtain ⟨w0, hw0⟩ : ∃ w0, w0 = w.alloc (.cells #[.int .u8 (c.tag : Int), .string ⟨c.text.toArray⟩, .int .u64 (c.bits : Int), .int .u16 (c.a : Int), .int .u16 (c.b : Int)] 38) := ⟨_, rfl⟩
  have hb0 : Below w.heap.size w w0 := by rw [hw0]; exact (Below.refl _ _).alloc (Nat.le_refl _) _
  have hk : Bk w0 w.heap.size #[.int .u8 (c.tag : Int), .string ⟨c.text.toArray⟩, .int .u64 (c.bits : Int), .int .u16 (c.a : Int), .int .u16 (c.b : Int)] 38 := by rw [hw0]; exact Bk.new _ _ _
  have c0 := hk.cell 0
  have c1 := hk.cell 1
  have c2 := hk.cell 2
  have c3 := hk.cell 3
  have c4 := hk.cell 4
  simp at c0 c1 c2 c3 c4
  have hp1 := (h.below hb0).p
  have q1 : w.heap.size < w0.heap.size := hk.lt
  have q2 : cb < w0.heap.size := cell_lt hp1
  have q3 : w.heap.size ≠ w0.heap.size := by omega
  have q4 : cb ≠ w0.heap.size := by omega
  have HB := hide hb0
  clear hnt hrf htx hcl hha hr hk hb0 h hS
  have ew2 : IntKind.i64.wrap (c.a : Int) = (c.a : Int) := by rw [IntKind.wrap_i64]; omega
  have t7 : ((c.tag : Int) == 7) = decide (c.tag = 7) := nat_beq _ 7
  have t8 : ((c.tag : Int) == 8) = decide (c.tag = 8) := nat_beq _ 8
  have t9 : ((c.tag : Int) == 9) = decide (c.tag = 9) := nat_beq _ 9
  have t10 : ((c.tag : Int) == 10) = decide (c.tag = 10) := nat_beq _ 10
  have t11 : ((c.tag : Int) == 11) = decide (c.tag = 11) := nat_beq _ 11
  have t12 : ((c.tag : Int) == 12) = decide (c.tag = 12) := nat_beq _ 12
  by_cases e7 : c.tag = 7
  · rw [decide_eq_true e7] at t7
    have hE := unhide Hr
    rw [if_pos e7] at hE
    clear Hr t8 t9 t10 t11 t12 e7 HN HR HH c1 c2 c4
    unfold isT at hE
    generalize decide (M.tag P (c.a : Int) = 1) = ia at *
    generalize M.text P (c.a : Int) = ta at *
    generalize classB ta = cl at *
    cases ia
    · simp at hE
      subst hE
      go_enter Tryz.func9, Tryz.ntmps9
      go_upto_region 1 with fail
      rw [← hw0]
      clear hw0
      go_wp2_with fail
      go_region_with (go_at_call 19; refine (unhide HT w0.drew (unhide HB).drew).mono ?_; rintro e w1 ⟨rfl, hb1⟩)
      all_goals
        go_wp2
        go_ret
        exact ⟨rfl, (unhide HB).drew.trans (hb1.mono (unhide HB).drew.size)⟩
    · cases cl
      all_goals
        simp at hE
        subst hE
        go_enter Tryz.func9, Tryz.ntmps9
        go_upto_region 1 with fail
        rw [← hw0]
        clear hw0
        go_wp2_with fail
        go_region_with (go_at_call 19; refine (unhide HT w0.drew (unhide HB).drew).mono ?_; rintro e w1 ⟨rfl, hb1⟩; have HB1 := hide ((unhide HB).drew.trans (hb1.mono (unhide HB).drew.size)); clear hb1)
        all_goals
          go_wp2_with fail
          refine (unhide HC _ (unhide HB1)).mono ?_
          rintro e w2 ⟨rfl, hb2⟩
          have HB2 := hide ((unhide HB1).trans (hb2.mono (unhide HB1).size))
          clear hb2
          go_wp2
          go_ret
          exact ⟨rfl, unhide HB2⟩
  rw [decide_eq_false e7] at t7
  by_cases e8 : c.tag = 8
  · rw [decide_eq_true e8] at t8
    have hE := unhide Hr
    rw [if_neg e7, if_pos e8] at hE
    clear Hr t9 t10 t11 t12 e7 e8 HN HR HT HC c1 c2 c4
    unfold isT at hE
    generalize decide (M.tag P (c.a : Int) = 1) = ia at *
    have HX1 := hide ((unhide HB).drew.alloc (unhide HB).drew.size (.cells #[.int .u8 1] 5))
    have HX2 := hide (UIn.made w0.drew 1)
    cases ia
    all_goals
      simp at hE
      subst hE
      go_enter Tryz.func9, Tryz.ntmps9
      go_upto_region 1 with fail
      rw [← hw0]
      clear hw0
      go_wp2_with fail
      go_region_with (go_at_call 21; refine (unhide HH (w0.drew.alloc (.cells #[.int .u8 1] 5)) (.slice (some ⟨w0.heap.size, 0, none⟩) 1 1) (unhide HX1) (unhide HX2)).mono ?_; rintro e w1 ⟨rfl, hb1⟩)
      all_goals
        go_wp2
        go_ret
        exact ⟨rfl, (unhide HX1).trans (hb1.mono (unhide HX1).size)⟩
  rw [decide_eq_false e8] at t8
  by_cases e12 : c.tag = 12
  · rw [decide_eq_true e12] at t12
    have hE := unhide Hr
    rw [if_neg e7, if_neg e8, if_pos e12] at hE
    clear Hr t9 t10 t11 e7 e8 e12 HR HT HC HH
    subst hE
    go_enter Tryz.func9, Tryz.ntmps9
    go_upto_region 1 with fail
    rw [← hw0]
    clear hw0
    go_wp2_with fail
    refine (unhide HN _ (unhide HB)).mono ?_
    rintro e w2 ⟨rfl, hb2⟩
    have HB2 := hide ((unhide HB).trans (hb2.mono (unhide HB).size))
    clear hb2
    go_wp2
    go_ret
    exact ⟨rfl, unhide HB2⟩
  rw [decide_eq_false e12] at t12
  by_cases e3 : c.tag = 9 ∨ c.tag = 10 ∨ c.tag = 11
  · have hE := unhide Hr
    rw [if_neg e7, if_neg e8, if_neg e12, if_pos e3] at hE
    clear Hr e7 e8 e12 HN HT HC HH
    subst hE
    rcases e3 with e | e | e
    · rw [show decide (c.tag = 9) = true from by simp [e]] at t9
      rw [show decide (c.tag = 10) = false from by simp [e]] at t10
      rw [show decide (c.tag = 11) = false from by simp [e]] at t11
      clear e
      go_enter Tryz.func9, Tryz.ntmps9
      go_upto_region 1 with fail
      rw [← hw0]
      clear hw0
      go_wp2_with fail
      refine (unhide HR _ (unhide HB)).mono ?_
      rintro e w2 ⟨rfl, hb2⟩
      have HB2 := hide ((unhide HB).trans (hb2.mono (unhide HB).size))
      clear hb2
      go_wp2
      go_ret
      exact ⟨rfl, unhide HB2⟩
    · rw [show decide (c.tag = 9) = false from by simp [e]] at t9
      rw [show decide (c.tag = 10) = true from by simp [e]] at t10
      rw [show decide (c.tag = 11) = false from by simp [e]] at t11
      clear e
      go_enter Tryz.func9, Tryz.ntmps9
      go_upto_region 1 with fail
      rw [← hw0]
      clear hw0
      go_wp2_with fail
      refine (unhide HR _ (unhide HB)).mono ?_
      rintro e w2 ⟨rfl, hb2⟩
      have HB2 := hide ((unhide HB).trans (hb2.mono (unhide HB).size))
      clear hb2
      go_wp2
      go_ret
      exact ⟨rfl, unhide HB2⟩
    · rw [show decide (c.tag = 9) = false from by simp [e]] at t9
      rw [show decide (c.tag = 10) = false from by simp [e]] at t10
      rw [show decide (c.tag = 11) = true from by simp [e]] at t11
      clear e
      go_enter Tryz.func9, Tryz.ntmps9
      go_upto_region 1 with fail
      rw [← hw0]
      clear hw0
      go_wp2_with fail
      refine (unhide HR _ (unhide HB)).mono ?_
      rintro e w2 ⟨rfl, hb2⟩
      have HB2 := hide ((unhide HB).trans (hb2.mono (unhide HB).size))
      clear hb2
      go_wp2
      go_ret
      exact ⟨rfl, unhide HB2⟩
  · have hE := unhide Hr
    rw [if_neg e7, if_neg e8, if_neg e12, if_neg e3] at hE
    have e9 : ¬ c.tag = 9 := fun e => e3 (.inl e)
    have e10 : ¬ c.tag = 10 := fun e => e3 (.inr (.inl e))
    have e11 : ¬ c.tag = 11 := fun e => e3 (.inr (.inr e))
    rw [decide_eq_false e9] at t9
    rw [decide_eq_false e10] at t10
    rw [decide_eq_false e11] at t11
    clear Hr e7 e8 e12 e3 e9 e10 e11 HN HT HC HH HR
    subst hE
    go_enter Tryz.func9, Tryz.ntmps9
    go_upto_region 1 with fail
    rw [← hw0]
    clear hw0
    go_wp2
    go_ret
    exact ⟨rfl, unhide HB⟩
end Go.Proofs.YtddhlphbbiihjaaGreatDoor.Cl
