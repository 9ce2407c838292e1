import Derived.Test.YtjnelkpgdjphmaaPh
namespace Go.Proofs.Ytjnelkpgdjphmaa
open Go.RowKit
set_option linter.unusedVariables false
set_option linter.unusedSimpArgs false

set_option maxHeartbeats 2000000 in
set_option maxRecDepth 20000 in
theorem close32 (neg : Bool) (m : Nat) (e : Int) (more : Bool) (w : World) (hm : m < 18446744073709551616) (he0 : -5000 ≤ e) (he1 : e ≤ 5000) :
    Calls Try.prog 54 #[.agg #[.int .i64 23, .int .i64 8], .bool neg, .int .u64 (m : Int), .int .i64 e, .bool more] w fun r w' => r = .returned (.int .u64 (Nm.close Ieee.single neg m e more : Nat)) ∧ Grown w w' := by
  have HN := hide (fun W => length_any m W hm)
  have HL := hide least32
  have HS := hide (sign32 neg)
  have HI := hide (inf32 neg)
  have hll := len_le m hm
  obtain ⟨L, hL⟩ : ∃ L : Int, lw Ieee.single m e = L := ⟨_, rfl⟩
  have hL2 : L = max (e + (len m : Nat) - 24) (-149) := by rw [← hL]; unfold lw; rw [Nm.s_least]; rfl
  generalize len m = n at *
  have hLr : max (IntKind.i64.wrap (IntKind.i64.wrap (IntKind.i64.wrap (e + ↑n) - 23) - 1)) (-149) = L := by simp only [IntKind.wrap_i64]; omega
  have hL0 : -149 ≤ L := by omega
  have hL1 : L ≤ 5064 := by omega
  have HLr := hide hLr
  obtain ⟨kp, hkp⟩ : ∃ kp, kpt Ieee.single m e more = kp := ⟨_, rfl⟩
  have hkl : kp ≤ 16777216 := by rw [← hkp]; exact kpt_le _ m e more
  obtain ⟨s, hs⟩ : ∃ s : Int, L - e = s := ⟨_, rfl⟩
  have HL3 := hide hL
  have Hkp := hide hkp
  clear hLr hL2 hL hkp
  have hk0 := Bk.new w #[.int .i64 23, .int .i64 8] 33
  have hg0 : Grown w (w.alloc (.cells #[.int .i64 23, .int .i64 8] 33)) := (Grown.refl w).alloc _ _
  go_enter Try.func54, Try.ntmps54
  go_wp2_with fail
  generalize w.alloc (.cells #[.int .i64 23, .int .i64 8] 33) = wA at *
  have k1 : wA.cell? ⟨w.heap.size, 0, none⟩ = some (.int .i64 23) := hk0.cell 0
  have k2 : wA.cell? ⟨w.heap.size, 1, none⟩ = some (.int .i64 8) := hk0.cell 1
  go_region_held3 (fun w' => w'.cell? ⟨w.heap.size, 0, none⟩ = some (.int .i64 23) ∧ w'.cell? ⟨w.heap.size, 1, none⟩ = some (.int .i64 8)) (go_keep)
    ((first
      | (go_at_call 55; refine (unhide HN _).mono ?_; rintro r w1 ⟨rfl, rfl⟩)
      | (go_at_call 62; refine (unhide HL _).mono ?_; rintro r w1 ⟨rfl, hg⟩; have hk1 := Bk.grown (w := wA.drew) hk0 hg; have k1 := hk1.cell 0; have k2 := hk1.cell 1; simp at k1 k2)
      | fail))
  rw [unhide HLr]
  have hg1 : Grown w w1 := gtrans hg0 hg
  clear hg hg0 hk0 HN HLr
  go_upto_block 0 with fail
  go_cut [13, 14] (fun q u w' => ∃ (Q : Nat) (U : Bool), q = .int .u64 (Q : Int) ∧ u = .bool U ∧ w' = w1 ∧ Hid (kp = Q + U.toNat))
  case first =>
    by_cases hA : s ≤ 0
    · obtain ⟨d, hd⟩ : ∃ d : Nat, s = -(d : Int) := ⟨(-s).toNat, by omega⟩
      subst hd
      have hw := way_neg Ieee.single m e more d (by rw [unhide HL3]; exact hs) (by decide) hm
      rw [unhide Hkp] at hw
      go_wp2
      all_goals first | omega | skip
      go_meet
      exact ⟨kp, false, rfl, rfl, rfl, hide (by simp)⟩
    by_cases hB : s < 64
    · obtain ⟨t, ht⟩ : ∃ t : Nat, s = (t : Int) + 1 := ⟨(s - 1).toNat, by omega⟩
      subst ht
      have ht63 : t < 63 := by omega
      have hw := way_pos Ieee.single m e more t (by rw [unhide HL3]; exact hs)
      rw [unhide Hkp] at hw
      have hdm := Nat.div_add_mod m (2 ^ (t + 1))
      have hml := Nat.mod_lt m (Nat.two_pow_pos (t + 1))
      have hpt : 2 ^ t ≤ 2 ^ 62 := Nat.pow_le_pow_right (by omega) (by omega)
      have hqi : (m : Int) / 2 ^ (t + 1) = ((m / 2 ^ (t + 1) : Nat) : Int) := by rw [Int.natCast_ediv, Int.natCast_pow]; rfl
      have hti : (((m / 2 ^ (t + 1) : Nat) : Int) * 2 ^ (t + 1)) = ((2 ^ (t + 1) * (m / 2 ^ (t + 1)) : Nat) : Int) := by rw [Int.natCast_mul, Int.natCast_pow, Int.mul_comm]; rfl
      have hhi : ((2 : Int) ^ t) = ((2 ^ t : Nat) : Int) := by rw [Int.natCast_pow]; rfl
      generalize m / 2 ^ (t + 1) = Q at *
      generalize m % 2 ^ (t + 1) = R at *
      generalize 2 ^ (t + 1) * Q = T at *
      generalize 2 ^ t = H at *
      have hwT : IntKind.u64.wrap (T : Int) = (T : Int) := by rw [IntKind.wrap_u64]; omega
      have hwR : IntKind.u64.wrap ((m : Int) - (T : Int)) = (R : Int) := by rw [IntKind.wrap_u64]; omega
      have hwR2 : ((m : Int) - (T : Int)) = (R : Int) := by omega
      have hwH : IntKind.u64.wrap (H : Int) = (H : Int) := by rw [IntKind.wrap_u64]; omega
      have Hw := hide hw
      clear hw hdm hml hpt
      by_cases c1 : H < R
      · go_wp2
        all_goals first | omega | skip
        go_meet
        exact ⟨Q, true, rfl, rfl, rfl, hide (by rw [unhide Hw, if_pos (.inl c1)]; rfl)⟩
      · by_cases c2 : R = H
        · subst c2
          cases more
          · by_cases c3 : Q % 2 = 1
            · have c4 : ((Q : Int) % 2) = 1 := by omega
              go_wp2
              all_goals first | omega | skip
              go_meet
              exact ⟨Q, true, rfl, rfl, rfl, hide (by rw [unhide Hw, if_pos (by simp [c3])]; rfl)⟩
            · have c4 : ((Q : Int) % 2) = 0 := by omega
              go_wp2
              all_goals first | omega | skip
              go_meet
              exact ⟨Q, false, rfl, rfl, rfl, hide (by rw [unhide Hw, if_neg (by simp [c3])]; rfl)⟩
          · go_wp2
            all_goals first | omega | skip
            go_meet
            exact ⟨Q, true, rfl, rfl, rfl, hide (by rw [unhide Hw, if_pos (by simp)]; rfl)⟩
        · go_wp2
          all_goals first | omega | skip
          go_meet
          exact ⟨Q, false, rfl, rfl, rfl, hide (by rw [unhide Hw, if_neg (by omega)]; rfl)⟩
    by_cases hC : s = 64
    · subst hC
      have hw := way_64 Ieee.single m e more (by rw [unhide HL3]; exact hs) hm
      rw [unhide Hkp] at hw
      have Hw := hide hw
      clear hw
      by_cases c1 : 9223372036854775808 < m
      · go_wp2
        all_goals first | omega | skip
        go_meet
        exact ⟨0, true, rfl, rfl, rfl, hide (by rw [unhide Hw, if_pos (.inl c1)]; rfl)⟩
      · by_cases c2 : m = 9223372036854775808
        · subst c2
          cases more
          · go_wp2
            all_goals first | omega | skip
            go_meet
            exact ⟨0, false, rfl, rfl, rfl, hide (by rw [unhide Hw, if_neg (by simp)]; rfl)⟩
          · go_wp2
            all_goals first | omega | skip
            go_meet
            exact ⟨0, true, rfl, rfl, rfl, hide (by rw [unhide Hw, if_pos (by simp)]; rfl)⟩
        · go_wp2
          all_goals first | omega | skip
          go_meet
          exact ⟨0, false, rfl, by simp; omega, rfl, hide (by rw [unhide Hw, if_neg (by omega)]; rfl)⟩
    · have hw := way_far Ieee.single m e more (by rw [unhide HL3, hs]; omega) hm
      rw [unhide Hkp] at hw
      have Hw := hide hw
      clear hw
      go_wp2
      all_goals first | omega | skip
      go_meet
      exact ⟨0, false, rfl, rfl, rfl, hide (by rw [unhide Hw]; rfl)⟩
  case rest =>
    obtain ⟨Q, U, rfl, rfl, hwc, hQ⟩ := hcut
    subst hwc
    have a1 : IntKind.i64.wrap 24 = 24 := by decide
    have a2 : IntKind.u64.wrap 16777216 = 16777216 := by decide
    have a3 : IntKind.u64.wrap 8388608 = 8388608 := by decide
    have a4 : IntKind.i64.wrap 256 = 256 := by decide
    have a5 : IntKind.i64.wrap 255 = 255 := by decide
    go_upto_if 81 with fail
    go_cut [13] (fun q w' => q = .int .u64 (kp : Int) ∧ w' = wc)
    case first =>
      have hQ' := unhide hQ
      clear hQ
      cases U
      · simp at hQ'
        subst hQ'
        go_wp2
        go_meet
        exact ⟨rfl, rfl⟩
      · simp at hQ'
        subst hQ'
        go_wp2
        go_meet
        exact ⟨by simp, rfl⟩
    case rest =>
      obtain ⟨rfl, hwc⟩ := hcut
      rename_i wd
      subst hwc
      clear hQ
      go_upto_if 89 with fail
      go_cut [11, 13] (fun l q w' => ∃ (l2 : Int) (q2 : Nat), l = .int .i64 l2 ∧ q = .int .u64 (q2 : Int) ∧ w' = wc ∧ -149 ≤ l2 ∧ l2 ≤ 5065 ∧ q2 < 16777216 ∧ Hid ((kp < 16777216 ∧ l2 = L ∧ q2 = kp) ∨ (kp = 16777216 ∧ l2 = L + 1 ∧ q2 = 8388608)))
      case first =>
        by_cases c1 : kp = 16777216
        · subst c1
          go_wp2
          go_meet
          exact ⟨L + 1, 8388608, rfl, rfl, rfl, by omega, by omega, by omega, hide (by simp)⟩
        · go_wp2
          all_goals first | omega | skip
          go_meet
          exact ⟨L, kp, rfl, rfl, rfl, by omega, by omega, by omega, hide (.inl ⟨by omega, rfl, rfl⟩)⟩
      case rest =>
        obtain ⟨l2, q2, rfl, rfl, hwc, hl0, hl1, hq2, hF⟩ := hcut
        subst hwc
        clear hL0 hL1 hkl hs
        by_cases c2 : q2 < 8388608
        · have hfin : Nm.close Ieee.single neg m e more = Ieee.single.word neg q2 := by
            rcases unhide hF with ⟨h1, h2, h3⟩ | ⟨h1, h2, h3⟩
            · rw [h3]; exact fin_small32 neg m e more kp (unhide Hkp) (by omega)
            · omega
          have Hfin := hide hfin
          have d1 : decide ((q2 : Int) < 8388608) = true := by simp; omega
          have Hc2 := hide c2
          clear hfin hF c2 hq2 Hkp HL3 hm he0 he1
          go_wp2_with fail
          refine (unhide HS _).mono ?_
          rintro r w2 ⟨rfl, hg2⟩
          have hwd : (((if neg = true then 2147483648 else 0) + (q2 : Int)) : Int) = ((Ieee.single.word neg q2 : Nat) : Int) := by unfold Ieee.Format.word; rw [Nm.s_sign]; cases neg <;> simp
          have hq2 := unhide Hc2
          cases neg
          · simp only [Bool.false_eq_true, if_false] at hwd ⊢
            clear hwd
            go_wp2
            go_ret
            exact ⟨by rw [unhide Hfin]; rfl, gtrans hg1 hg2⟩
          · simp only [if_true] at hwd ⊢
            have hwd2 : IntKind.u64.wrap (2147483648 + (q2 : Int)) = (2147483648 + (q2 : Int)) := by rw [IntKind.wrap_u64]; omega
            clear hq2
            go_wp2
            go_ret
            exact ⟨by rw [unhide Hfin, ← hwd]; exact congrArg (fun v => Ending.returned (Value.int .u64 v)) hwd2, gtrans hg1 hg2⟩
        · by_cases c3 : 255 ≤ l2 - (-149) + 1
          · have hfin : Nm.close Ieee.single neg m e more = Ieee.single.word neg 2139095040 := by
              rcases unhide hF with ⟨h1, h2, h3⟩ | ⟨h1, h2, h3⟩
              · exact fin_inf32 neg m e more kp L (unhide Hkp) (unhide HL3) (by omega) (by omega)
              · exact fin_inf32' neg m e more L ((unhide Hkp).trans h1) (unhide HL3) (by omega)
            have Hfin := hide hfin
            have d1 : decide ((q2 : Int) < 8388608) = false := by simp; omega
            clear hfin hF c2 hq2 Hkp HL3 hm he0 he1
            go_wp2_with fail
            refine (unhide HL _).mono ?_
            rintro r w2 ⟨rfl, hg2⟩
            have hk2 := hk1.grown hg2
            clear k1 k2
            have k1 := hk2.cell 0
            have k2 := hk2.cell 1
            simp at k1 k2
            have d2 : decide (255 ≤ l2 + 149 + 1) = true := by simp; omega
            have Hc3 := hide c3
            clear c3
            go_wp2_with fail
            refine (unhide HI _).mono ?_
            rintro r w3 ⟨rfl, hg3⟩
            go_wp2
            go_ret
            exact ⟨by rw [unhide Hfin]; rfl, gtrans hg1 (gtrans hg2 hg3)⟩
          · have hfin : Nm.close Ieee.single neg m e more = Ieee.single.word neg ((l2 - (-149)).toNat * 8388608 + q2) := by
              rcases unhide hF with ⟨h1, h2, h3⟩ | ⟨h1, h2, h3⟩
              · rw [h2, h3]; exact fin_mid32 neg m e more kp L (unhide Hkp) (unhide HL3) (by omega) (by omega) (by omega)
              · rw [h2, h3]; exact fin_mid32' neg m e more L ((unhide Hkp).trans h1) (unhide HL3) (by omega)
            have Hfin := hide hfin
            have d1 : decide ((q2 : Int) < 8388608) = false := by simp; omega
            have hq1 : 8388608 ≤ q2 := by omega
            have Hq := hide (And.intro hq1 hq2)
            clear hfin hF c2 hq1 hq2 Hkp HL3 hm he0 he1
            go_wp2_with fail
            refine (unhide HL _).mono ?_
            rintro r w2 ⟨rfl, hg2⟩
            have hk2 := hk1.grown hg2
            clear k1 k2
            have k1 := hk2.cell 0
            have k2 := hk2.cell 1
            simp at k1 k2
            have d2 : decide (255 ≤ l2 + 149 + 1) = false := by simp; omega
            have Hc3 := hide c3
            clear c3
            go_wp2_with fail
            clear d1 d2
            have c3 := unhide Hc3
            obtain ⟨F, hF⟩ : ∃ F : Nat, l2 + 149 + 1 = (F : Int) := ⟨(l2 + 149 + 1).toNat, by omega⟩
            rw [hF]
            have hFl : F < 255 := by omega
            have hF2 : (l2 - (-149)).toNat + 1 = F := by omega
            have HF2 := hide (And.intro hFl hF2)
            clear c3 hFl hF2 hF
            cases neg
            · simp only [Bool.false_eq_true, if_false, if_true] at HS
              go_region_held3 (fun w' => w'.cell? ⟨w.heap.size, 0, none⟩ = some (.int .i64 23) ∧ w'.cell? ⟨w.heap.size, 1, none⟩ = some (.int .i64 8)) (go_keep)
                ((go_at_call 53; refine (unhide HS _).mono ?_; rintro r w3 ⟨rfl, hg3⟩; have hk3 := Bk.grown (w := w2.drew) hk2 hg3; have k3 := hk3.cell 0; have k4 := hk3.cell 1; simp at k3 k4))
              have hX : IntKind.u64.wrap (IntKind.u64.wrap (IntKind.u64.wrap (IntKind.u64.wrap (IntKind.u64.wrap (F : Int) * 8388608)) + (q2 : Int)) - 8388608) = ((Nm.close Ieee.single false m e more : Nat) : Int) := by
                rw [unhide Hfin]; exact mid_sum32_false l2 F q2 (unhide HF2).2 (unhide HF2).1 (unhide Hq).1 (unhide Hq).2
              rw [hX]
              have HX := hide hX
              clear hX
              generalize IntKind.u64.wrap (IntKind.u64.wrap (IntKind.u64.wrap (IntKind.u64.wrap (F : Int) * 8388608)) + (q2 : Int)) = Y3
              generalize IntKind.u64.wrap (IntKind.u64.wrap (IntKind.u64.wrap (F : Int) * 8388608)) = Y2
              generalize IntKind.u64.wrap (IntKind.u64.wrap (F : Int) * 8388608) = Y1
              generalize IntKind.u64.wrap (F : Int) = Y0
              go_wp2
              go_ret
              exact ⟨rfl, gtrans hg1 (gtrans (show Grown wc w2.drew from hg2) hg3)⟩
            · simp only [Bool.false_eq_true, if_false, if_true] at HS
              go_region_held3 (fun w' => w'.cell? ⟨w.heap.size, 0, none⟩ = some (.int .i64 23) ∧ w'.cell? ⟨w.heap.size, 1, none⟩ = some (.int .i64 8)) (go_keep)
                ((go_at_call 53; refine (unhide HS _).mono ?_; rintro r w3 ⟨rfl, hg3⟩; have hk3 := Bk.grown (w := w2.drew) hk2 hg3; have k3 := hk3.cell 0; have k4 := hk3.cell 1; simp at k3 k4))
              have hX : IntKind.u64.wrap (IntKind.u64.wrap (IntKind.u64.wrap (2147483648 + IntKind.u64.wrap (IntKind.u64.wrap (F : Int) * 8388608)) + (q2 : Int)) - 8388608) = ((Nm.close Ieee.single true m e more : Nat) : Int) := by
                rw [unhide Hfin]; exact mid_sum32_true l2 F q2 (unhide HF2).2 (unhide HF2).1 (unhide Hq).1 (unhide Hq).2
              rw [hX]
              have HX := hide hX
              clear hX
              generalize IntKind.u64.wrap (IntKind.u64.wrap (2147483648 + IntKind.u64.wrap (IntKind.u64.wrap (F : Int) * 8388608)) + (q2 : Int)) = Y3
              generalize IntKind.u64.wrap (2147483648 + IntKind.u64.wrap (IntKind.u64.wrap (F : Int) * 8388608)) = Y2
              generalize IntKind.u64.wrap (IntKind.u64.wrap (F : Int) * 8388608) = Y1
              generalize IntKind.u64.wrap (F : Int) = Y0
              go_wp2
              go_ret
              exact ⟨rfl, gtrans hg1 (gtrans (show Grown wc w2.drew from hg2) hg3)⟩

set_option maxHeartbeats 2000000 in
set_option maxRecDepth 20000 in
theorem close64 (neg : Bool) (m : Nat) (e : Int) (more : Bool) (w : World) (hm : m < 18446744073709551616) (he0 : -5000 ≤ e) (he1 : e ≤ 5000) :
    Calls Try.prog 54 #[.agg #[.int .i64 52, .int .i64 11], .bool neg, .int .u64 (m : Int), .int .i64 e, .bool more] w fun r w' => r = .returned (.int .u64 (Nm.close Ieee.double neg m e more : Nat)) ∧ Grown w w' := by
  have HN := hide (fun W => length_any m W hm)
  have HL := hide least64
  have HS := hide (sign64 neg)
  have HI := hide (inf64 neg)
  have hll := len_le m hm
  obtain ⟨L, hL⟩ : ∃ L : Int, lw Ieee.double m e = L := ⟨_, rfl⟩
  have hL2 : L = max (e + (len m : Nat) - 53) (-1074) := by rw [← hL]; unfold lw; rw [Nm.d_least]; rfl
  generalize len m = n at *
  have hLr : max (IntKind.i64.wrap (IntKind.i64.wrap (IntKind.i64.wrap (e + ↑n) - 52) - 1)) (-1074) = L := by simp only [IntKind.wrap_i64]; omega
  have hL0 : -1074 ≤ L := by omega
  have hL1 : L ≤ 5064 := by omega
  have HLr := hide hLr
  obtain ⟨kp, hkp⟩ : ∃ kp, kpt Ieee.double m e more = kp := ⟨_, rfl⟩
  have hkl : kp ≤ 9007199254740992 := by rw [← hkp]; exact kpt_le _ m e more
  obtain ⟨s, hs⟩ : ∃ s : Int, L - e = s := ⟨_, rfl⟩
  have HL3 := hide hL
  have Hkp := hide hkp
  clear hLr hL2 hL hkp
  have hk0 := Bk.new w #[.int .i64 52, .int .i64 11] 33
  have hg0 : Grown w (w.alloc (.cells #[.int .i64 52, .int .i64 11] 33)) := (Grown.refl w).alloc _ _
  go_enter Try.func54, Try.ntmps54
  go_wp2_with fail
  generalize w.alloc (.cells #[.int .i64 52, .int .i64 11] 33) = wA at *
  have k1 : wA.cell? ⟨w.heap.size, 0, none⟩ = some (.int .i64 52) := hk0.cell 0
  have k2 : wA.cell? ⟨w.heap.size, 1, none⟩ = some (.int .i64 11) := hk0.cell 1
  go_region_held3 (fun w' => w'.cell? ⟨w.heap.size, 0, none⟩ = some (.int .i64 52) ∧ w'.cell? ⟨w.heap.size, 1, none⟩ = some (.int .i64 11)) (go_keep)
    ((first
      | (go_at_call 55; refine (unhide HN _).mono ?_; rintro r w1 ⟨rfl, rfl⟩)
      | (go_at_call 62; refine (unhide HL _).mono ?_; rintro r w1 ⟨rfl, hg⟩; have hk1 := Bk.grown (w := wA.drew) hk0 hg; have k1 := hk1.cell 0; have k2 := hk1.cell 1; simp at k1 k2)
      | fail))
  rw [unhide HLr]
  have hg1 : Grown w w1 := gtrans hg0 hg
  clear hg hg0 hk0 HN HLr
  go_upto_block 0 with fail
  go_cut [13, 14] (fun q u w' => ∃ (Q : Nat) (U : Bool), q = .int .u64 (Q : Int) ∧ u = .bool U ∧ w' = w1 ∧ Hid (kp = Q + U.toNat))
  case first =>
    by_cases hA : s ≤ 0
    · obtain ⟨d, hd⟩ : ∃ d : Nat, s = -(d : Int) := ⟨(-s).toNat, by omega⟩
      subst hd
      have hw := way_neg Ieee.double m e more d (by rw [unhide HL3]; exact hs) (by decide) hm
      rw [unhide Hkp] at hw
      go_wp2
      all_goals first | omega | skip
      go_meet
      exact ⟨kp, false, rfl, rfl, rfl, hide (by simp)⟩
    by_cases hB : s < 64
    · obtain ⟨t, ht⟩ : ∃ t : Nat, s = (t : Int) + 1 := ⟨(s - 1).toNat, by omega⟩
      subst ht
      have ht63 : t < 63 := by omega
      have hw := way_pos Ieee.double m e more t (by rw [unhide HL3]; exact hs)
      rw [unhide Hkp] at hw
      have hdm := Nat.div_add_mod m (2 ^ (t + 1))
      have hml := Nat.mod_lt m (Nat.two_pow_pos (t + 1))
      have hpt : 2 ^ t ≤ 2 ^ 62 := Nat.pow_le_pow_right (by omega) (by omega)
      have hqi : (m : Int) / 2 ^ (t + 1) = ((m / 2 ^ (t + 1) : Nat) : Int) := by rw [Int.natCast_ediv, Int.natCast_pow]; rfl
      have hti : (((m / 2 ^ (t + 1) : Nat) : Int) * 2 ^ (t + 1)) = ((2 ^ (t + 1) * (m / 2 ^ (t + 1)) : Nat) : Int) := by rw [Int.natCast_mul, Int.natCast_pow, Int.mul_comm]; rfl
      have hhi : ((2 : Int) ^ t) = ((2 ^ t : Nat) : Int) := by rw [Int.natCast_pow]; rfl
      generalize m / 2 ^ (t + 1) = Q at *
      generalize m % 2 ^ (t + 1) = R at *
      generalize 2 ^ (t + 1) * Q = T at *
      generalize 2 ^ t = H at *
      have hwT : IntKind.u64.wrap (T : Int) = (T : Int) := by rw [IntKind.wrap_u64]; omega
      have hwR : IntKind.u64.wrap ((m : Int) - (T : Int)) = (R : Int) := by rw [IntKind.wrap_u64]; omega
      have hwR2 : ((m : Int) - (T : Int)) = (R : Int) := by omega
      have hwH : IntKind.u64.wrap (H : Int) = (H : Int) := by rw [IntKind.wrap_u64]; omega
      have Hw := hide hw
      clear hw hdm hml hpt
      by_cases c1 : H < R
      · go_wp2
        all_goals first | omega | skip
        go_meet
        exact ⟨Q, true, rfl, rfl, rfl, hide (by rw [unhide Hw, if_pos (.inl c1)]; rfl)⟩
      · by_cases c2 : R = H
        · subst c2
          cases more
          · by_cases c3 : Q % 2 = 1
            · have c4 : ((Q : Int) % 2) = 1 := by omega
              go_wp2
              all_goals first | omega | skip
              go_meet
              exact ⟨Q, true, rfl, rfl, rfl, hide (by rw [unhide Hw, if_pos (by simp [c3])]; rfl)⟩
            · have c4 : ((Q : Int) % 2) = 0 := by omega
              go_wp2
              all_goals first | omega | skip
              go_meet
              exact ⟨Q, false, rfl, rfl, rfl, hide (by rw [unhide Hw, if_neg (by simp [c3])]; rfl)⟩
          · go_wp2
            all_goals first | omega | skip
            go_meet
            exact ⟨Q, true, rfl, rfl, rfl, hide (by rw [unhide Hw, if_pos (by simp)]; rfl)⟩
        · go_wp2
          all_goals first | omega | skip
          go_meet
          exact ⟨Q, false, rfl, rfl, rfl, hide (by rw [unhide Hw, if_neg (by omega)]; rfl)⟩
    by_cases hC : s = 64
    · subst hC
      have hw := way_64 Ieee.double m e more (by rw [unhide HL3]; exact hs) hm
      rw [unhide Hkp] at hw
      have Hw := hide hw
      clear hw
      by_cases c1 : 9223372036854775808 < m
      · go_wp2
        all_goals first | omega | skip
        go_meet
        exact ⟨0, true, rfl, rfl, rfl, hide (by rw [unhide Hw, if_pos (.inl c1)]; rfl)⟩
      · by_cases c2 : m = 9223372036854775808
        · subst c2
          cases more
          · go_wp2
            all_goals first | omega | skip
            go_meet
            exact ⟨0, false, rfl, rfl, rfl, hide (by rw [unhide Hw, if_neg (by simp)]; rfl)⟩
          · go_wp2
            all_goals first | omega | skip
            go_meet
            exact ⟨0, true, rfl, rfl, rfl, hide (by rw [unhide Hw, if_pos (by simp)]; rfl)⟩
        · go_wp2
          all_goals first | omega | skip
          go_meet
          exact ⟨0, false, rfl, by simp; omega, rfl, hide (by rw [unhide Hw, if_neg (by omega)]; rfl)⟩
    · have hw := way_far Ieee.double m e more (by rw [unhide HL3, hs]; omega) hm
      rw [unhide Hkp] at hw
      have Hw := hide hw
      clear hw
      go_wp2
      all_goals first | omega | skip
      go_meet
      exact ⟨0, false, rfl, rfl, rfl, hide (by rw [unhide Hw]; rfl)⟩
  case rest =>
    obtain ⟨Q, U, rfl, rfl, hwc, hQ⟩ := hcut
    subst hwc
    have a1 : IntKind.i64.wrap 53 = 53 := by decide
    have a2 : IntKind.u64.wrap 9007199254740992 = 9007199254740992 := by decide
    have a3 : IntKind.u64.wrap 4503599627370496 = 4503599627370496 := by decide
    have a4 : IntKind.i64.wrap 2048 = 2048 := by decide
    have a5 : IntKind.i64.wrap 2047 = 2047 := by decide
    go_upto_if 81 with fail
    go_cut [13] (fun q w' => q = .int .u64 (kp : Int) ∧ w' = wc)
    case first =>
      have hQ' := unhide hQ
      clear hQ
      cases U
      · simp at hQ'
        subst hQ'
        go_wp2
        go_meet
        exact ⟨rfl, rfl⟩
      · simp at hQ'
        subst hQ'
        go_wp2
        go_meet
        exact ⟨by simp, rfl⟩
    case rest =>
      obtain ⟨rfl, hwc⟩ := hcut
      rename_i wd
      subst hwc
      clear hQ
      go_upto_if 89 with fail
      go_cut [11, 13] (fun l q w' => ∃ (l2 : Int) (q2 : Nat), l = .int .i64 l2 ∧ q = .int .u64 (q2 : Int) ∧ w' = wc ∧ -1074 ≤ l2 ∧ l2 ≤ 5065 ∧ q2 < 9007199254740992 ∧ Hid ((kp < 9007199254740992 ∧ l2 = L ∧ q2 = kp) ∨ (kp = 9007199254740992 ∧ l2 = L + 1 ∧ q2 = 4503599627370496)))
      case first =>
        by_cases c1 : kp = 9007199254740992
        · subst c1
          go_wp2
          go_meet
          exact ⟨L + 1, 4503599627370496, rfl, rfl, rfl, by omega, by omega, by omega, hide (by simp)⟩
        · go_wp2
          all_goals first | omega | skip
          go_meet
          exact ⟨L, kp, rfl, rfl, rfl, by omega, by omega, by omega, hide (.inl ⟨by omega, rfl, rfl⟩)⟩
      case rest =>
        obtain ⟨l2, q2, rfl, rfl, hwc, hl0, hl1, hq2, hF⟩ := hcut
        subst hwc
        clear hL0 hL1 hkl hs
        by_cases c2 : q2 < 4503599627370496
        · have hfin : Nm.close Ieee.double neg m e more = Ieee.double.word neg q2 := by
            rcases unhide hF with ⟨h1, h2, h3⟩ | ⟨h1, h2, h3⟩
            · rw [h3]; exact fin_small64 neg m e more kp (unhide Hkp) (by omega)
            · omega
          have Hfin := hide hfin
          have d1 : decide ((q2 : Int) < 4503599627370496) = true := by simp; omega
          have Hc2 := hide c2
          clear hfin hF c2 hq2 Hkp HL3 hm he0 he1
          go_wp2_with fail
          refine (unhide HS _).mono ?_
          rintro r w2 ⟨rfl, hg2⟩
          have hwd : (((if neg = true then 9223372036854775808 else 0) + (q2 : Int)) : Int) = ((Ieee.double.word neg q2 : Nat) : Int) := by unfold Ieee.Format.word; rw [Nm.d_sign]; cases neg <;> simp
          have hq2 := unhide Hc2
          cases neg
          · simp only [Bool.false_eq_true, if_false] at hwd ⊢
            clear hwd
            go_wp2
            go_ret
            exact ⟨by rw [unhide Hfin]; rfl, gtrans hg1 hg2⟩
          · simp only [if_true] at hwd ⊢
            have hwd2 : IntKind.u64.wrap (9223372036854775808 + (q2 : Int)) = (9223372036854775808 + (q2 : Int)) := by rw [IntKind.wrap_u64]; omega
            clear hq2
            go_wp2
            go_ret
            exact ⟨by rw [unhide Hfin, ← hwd]; exact congrArg (fun v => Ending.returned (Value.int .u64 v)) hwd2, gtrans hg1 hg2⟩
        · by_cases c3 : 2047 ≤ l2 - (-1074) + 1
          · have hfin : Nm.close Ieee.double neg m e more = Ieee.double.word neg 9218868437227405312 := by
              rcases unhide hF with ⟨h1, h2, h3⟩ | ⟨h1, h2, h3⟩
              · exact fin_inf64 neg m e more kp L (unhide Hkp) (unhide HL3) (by omega) (by omega)
              · exact fin_inf64' neg m e more L ((unhide Hkp).trans h1) (unhide HL3) (by omega)
            have Hfin := hide hfin
            have d1 : decide ((q2 : Int) < 4503599627370496) = false := by simp; omega
            clear hfin hF c2 hq2 Hkp HL3 hm he0 he1
            go_wp2_with fail
            refine (unhide HL _).mono ?_
            rintro r w2 ⟨rfl, hg2⟩
            have hk2 := hk1.grown hg2
            clear k1 k2
            have k1 := hk2.cell 0
            have k2 := hk2.cell 1
            simp at k1 k2
            have d2 : decide (2047 ≤ l2 + 1074 + 1) = true := by simp; omega
            have Hc3 := hide c3
            clear c3
            go_wp2_with fail
            refine (unhide HI _).mono ?_
            rintro r w3 ⟨rfl, hg3⟩
            go_wp2
            go_ret
            exact ⟨by rw [unhide Hfin]; rfl, gtrans hg1 (gtrans hg2 hg3)⟩
          · have hfin : Nm.close Ieee.double neg m e more = Ieee.double.word neg ((l2 - (-1074)).toNat * 4503599627370496 + q2) := by
              rcases unhide hF with ⟨h1, h2, h3⟩ | ⟨h1, h2, h3⟩
              · rw [h2, h3]; exact fin_mid64 neg m e more kp L (unhide Hkp) (unhide HL3) (by omega) (by omega) (by omega)
              · rw [h2, h3]; exact fin_mid64' neg m e more L ((unhide Hkp).trans h1) (unhide HL3) (by omega)
            have Hfin := hide hfin
            have d1 : decide ((q2 : Int) < 4503599627370496) = false := by simp; omega
            have hq1 : 4503599627370496 ≤ q2 := by omega
            have Hq := hide (And.intro hq1 hq2)
            clear hfin hF c2 hq1 hq2 Hkp HL3 hm he0 he1
            go_wp2_with fail
            refine (unhide HL _).mono ?_
            rintro r w2 ⟨rfl, hg2⟩
            have hk2 := hk1.grown hg2
            clear k1 k2
            have k1 := hk2.cell 0
            have k2 := hk2.cell 1
            simp at k1 k2
            have d2 : decide (2047 ≤ l2 + 1074 + 1) = false := by simp; omega
            have Hc3 := hide c3
            clear c3
            go_wp2_with fail
            clear d1 d2
            have c3 := unhide Hc3
            obtain ⟨F, hF⟩ : ∃ F : Nat, l2 + 1074 + 1 = (F : Int) := ⟨(l2 + 1074 + 1).toNat, by omega⟩
            rw [hF]
            have hFl : F < 2047 := by omega
            have hF2 : (l2 - (-1074)).toNat + 1 = F := by omega
            have HF2 := hide (And.intro hFl hF2)
            clear c3 hFl hF2 hF
            cases neg
            · simp only [Bool.false_eq_true, if_false, if_true] at HS
              go_region_held3 (fun w' => w'.cell? ⟨w.heap.size, 0, none⟩ = some (.int .i64 52) ∧ w'.cell? ⟨w.heap.size, 1, none⟩ = some (.int .i64 11)) (go_keep)
                ((go_at_call 53; refine (unhide HS _).mono ?_; rintro r w3 ⟨rfl, hg3⟩; have hk3 := Bk.grown (w := w2.drew) hk2 hg3; have k3 := hk3.cell 0; have k4 := hk3.cell 1; simp at k3 k4))
              have hX : IntKind.u64.wrap (IntKind.u64.wrap (IntKind.u64.wrap (IntKind.u64.wrap (IntKind.u64.wrap (F : Int) * 4503599627370496)) + (q2 : Int)) - 4503599627370496) = ((Nm.close Ieee.double false m e more : Nat) : Int) := by
                rw [unhide Hfin]; exact mid_sum64_false l2 F q2 (unhide HF2).2 (unhide HF2).1 (unhide Hq).1 (unhide Hq).2
              rw [hX]
              have HX := hide hX
              clear hX
              generalize IntKind.u64.wrap (IntKind.u64.wrap (IntKind.u64.wrap (IntKind.u64.wrap (F : Int) * 4503599627370496)) + (q2 : Int)) = Y3
              generalize IntKind.u64.wrap (IntKind.u64.wrap (IntKind.u64.wrap (F : Int) * 4503599627370496)) = Y2
              generalize IntKind.u64.wrap (IntKind.u64.wrap (F : Int) * 4503599627370496) = Y1
              generalize IntKind.u64.wrap (F : Int) = Y0
              go_wp2
              go_ret
              exact ⟨rfl, gtrans hg1 (gtrans (show Grown wc w2.drew from hg2) hg3)⟩
            · simp only [Bool.false_eq_true, if_false, if_true] at HS
              go_region_held3 (fun w' => w'.cell? ⟨w.heap.size, 0, none⟩ = some (.int .i64 52) ∧ w'.cell? ⟨w.heap.size, 1, none⟩ = some (.int .i64 11)) (go_keep)
                ((go_at_call 53; refine (unhide HS _).mono ?_; rintro r w3 ⟨rfl, hg3⟩; have hk3 := Bk.grown (w := w2.drew) hk2 hg3; have k3 := hk3.cell 0; have k4 := hk3.cell 1; simp at k3 k4))
              have hX : IntKind.u64.wrap (IntKind.u64.wrap (IntKind.u64.wrap (9223372036854775808 + IntKind.u64.wrap (IntKind.u64.wrap (F : Int) * 4503599627370496)) + (q2 : Int)) - 4503599627370496) = ((Nm.close Ieee.double true m e more : Nat) : Int) := by
                rw [unhide Hfin]; exact mid_sum64_true l2 F q2 (unhide HF2).2 (unhide HF2).1 (unhide Hq).1 (unhide Hq).2
              rw [hX]
              have HX := hide hX
              clear hX
              generalize IntKind.u64.wrap (IntKind.u64.wrap (9223372036854775808 + IntKind.u64.wrap (IntKind.u64.wrap (F : Int) * 4503599627370496)) + (q2 : Int)) = Y3
              generalize IntKind.u64.wrap (9223372036854775808 + IntKind.u64.wrap (IntKind.u64.wrap (F : Int) * 4503599627370496)) = Y2
              generalize IntKind.u64.wrap (IntKind.u64.wrap (F : Int) * 4503599627370496) = Y1
              generalize IntKind.u64.wrap (F : Int) = Y0
              go_wp2
              go_ret
              exact ⟨rfl, gtrans hg1 (gtrans (show Grown wc w2.drew from hg2) hg3)⟩
end Go.Proofs.Ytjnelkpgdjphmaa
