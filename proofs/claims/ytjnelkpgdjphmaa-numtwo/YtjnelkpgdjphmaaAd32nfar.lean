import Derived.Test.YtjnelkpgdjphmaaPi
import Derived.Test.YtjnelkpgdjphmaaNN
namespace Go.Proofs.Ytjnelkpgdjphmaa
open Go.RowKit
set_option linter.unusedVariables false
set_option linter.unusedSimpArgs false

set_option maxHeartbeats 2000000 in
set_option maxRecDepth 20000 in
theorem add32_n_far_samem (s t : Bool) (A B : Nat) (i j : Int) (w : World) (hA : A < 16777216) (hB : B < 16777216) (hi0 : -149 ≤ i) (hi1 : i ≤ 1000) (hj0 : -149 ≤ j) (hAn : j < i → 8388608 ≤ A) (hij : j < i - 10) (hf : i - 10 - j < 64) (hst : s = t) (hm : B % 2 ^ (i - 10 - j).toNat ≠ 0) :
    Calls Try.prog 43 #[.agg #[.int .i64 23, .int .i64 8], .agg #[.bool false, .bool false, .bool s, .int .u64 (A : Int), .int .i64 i], .agg #[.bool false, .bool false, .bool t, .int .u64 (B : Int), .int .i64 j]] w fun r w' =>
      (∃ v, ((Ieee.Datum.number s A i).sum (.number t B j)).map Ieee.single.write = some v ∧ r = .returned (.int .u64 (v : Nat))) ∧ Grown w w' := by
  subst hst
  obtain ⟨S, hS⟩ : ∃ S : Nat, i - 10 - j = (S : Int) := ⟨(i - 10 - j).toNat, by omega⟩
  have hSt : (i - 10 - j).toNat = S := by omega
  rw [hSt] at hm
  have hS64 : S < 64 := by omega
  obtain ⟨Y, hY⟩ : ∃ Y : Nat, Y = B / 2 ^ S := ⟨_, rfl⟩
  have hYd : Nm.Yd B i j Y true := .inr ⟨hij, by rw [hY, hSt], by rw [hSt]; simp [hm]⟩
  have hYl : Y ≤ B := by rw [hY]; exact Nat.div_le_self _ _
  have hYi : (B : Int) / 2 ^ S = (Y : Int) := by rw [hY, Int.natCast_ediv, Int.natCast_pow]; rfl
  obtain ⟨T, hT⟩ : ∃ T : Nat, T = 2 ^ S * Y := ⟨_, rfl⟩
  have hTi : (Y : Int) * 2 ^ S = (T : Int) := by rw [hT, Int.natCast_mul, Int.natCast_pow, Int.mul_comm]; rfl
  have hdm := Nat.div_add_mod B (2 ^ S)
  rw [← hY, ← hT] at hdm
  have hTB : T ≤ B := by omega
  have g1 : decide ((64 : Int) ≤ (S : Int)) = false := by simp; omega
  have g5 : decide (64 ≤ S) = false := by simp; omega
  have g6 : decide (S < 64) = true := by simp; omega
  have g2 : decide ((S : Int) < 64) = true := by simp; omega
  have g3 : IntKind.u64.wrap (T : Int) = (T : Int) := by rw [IntKind.wrap_u64]; omega
  have hAl := hAn (by omega)
  have hXY : Y < A * 2 ^ 10 := by omega
  have hne : ((T : Int) == (B : Int)) = false := by rw [beq_eq_false_iff_ne]; omega
  have hne2 : ((T : Int) != (B : Int)) = true := by rw [bne_iff_ne]; omega
  obtain ⟨Z, hZ⟩ : ∃ Z : Nat, Z = A * 2 ^ 10 + Y := ⟨_, rfl⟩
  have hfin := Nm.add_same Ieee.single s A B i j Y true (by omega) (fun h => hAn h) hYd
  rw [← hZ] at hfin
  have hZi : (A : Int) * 1024 + (Y : Int) = (Z : Int) := by omega
  have Hfin := hide hfin
  have HC := hide (fun w => close32 s Z (i - 10) true w (by omega) (by omega) (by omega))
  clear hfin hYd hAn
  clear hY hdm hSt hT hm
  clear hZ
  go_enter Try.func43, Try.ntmps43
  go_wp2_with fail
  go_region
  all_goals go_simp
  go_wp2_with fail
  refine (unhide HC _).mono ?_
  rintro r w1 ⟨rfl, hg⟩
  go_wp2
  go_ret
  exact ⟨⟨_, unhide Hfin, rfl⟩, gtrans (by repeat (first | exact Grown.refl _ | apply Grown.drew | apply Grown.alloc)) hg⟩

set_option maxHeartbeats 2000000 in
set_option maxRecDepth 20000 in
theorem add32_n_far_samez (s t : Bool) (A B : Nat) (i j : Int) (w : World) (hA : A < 16777216) (hB : B < 16777216) (hi0 : -149 ≤ i) (hi1 : i ≤ 1000) (hj0 : -149 ≤ j) (hAn : j < i → 8388608 ≤ A) (hij : j < i - 10) (hf : i - 10 - j < 64) (hst : s = t) (hm : B % 2 ^ (i - 10 - j).toNat = 0) :
    Calls Try.prog 43 #[.agg #[.int .i64 23, .int .i64 8], .agg #[.bool false, .bool false, .bool s, .int .u64 (A : Int), .int .i64 i], .agg #[.bool false, .bool false, .bool t, .int .u64 (B : Int), .int .i64 j]] w fun r w' =>
      (∃ v, ((Ieee.Datum.number s A i).sum (.number t B j)).map Ieee.single.write = some v ∧ r = .returned (.int .u64 (v : Nat))) ∧ Grown w w' := by
  subst hst
  obtain ⟨S, hS⟩ : ∃ S : Nat, i - 10 - j = (S : Int) := ⟨(i - 10 - j).toNat, by omega⟩
  have hSt : (i - 10 - j).toNat = S := by omega
  rw [hSt] at hm
  have hS64 : S < 64 := by omega
  obtain ⟨Y, hY⟩ : ∃ Y : Nat, Y = B / 2 ^ S := ⟨_, rfl⟩
  have hYd : Nm.Yd B i j Y false := .inr ⟨hij, by rw [hY, hSt], by rw [hSt]; simp [hm]⟩
  have hYl : Y ≤ B := by rw [hY]; exact Nat.div_le_self _ _
  have hYi : (B : Int) / 2 ^ S = (Y : Int) := by rw [hY, Int.natCast_ediv, Int.natCast_pow]; rfl
  obtain ⟨T, hT⟩ : ∃ T : Nat, T = 2 ^ S * Y := ⟨_, rfl⟩
  have hTi : (Y : Int) * 2 ^ S = (T : Int) := by rw [hT, Int.natCast_mul, Int.natCast_pow, Int.mul_comm]; rfl
  have hdm := Nat.div_add_mod B (2 ^ S)
  rw [← hY, ← hT] at hdm
  have hTB : T ≤ B := by omega
  have g1 : decide ((64 : Int) ≤ (S : Int)) = false := by simp; omega
  have g5 : decide (64 ≤ S) = false := by simp; omega
  have g6 : decide (S < 64) = true := by simp; omega
  have g2 : decide ((S : Int) < 64) = true := by simp; omega
  have g3 : IntKind.u64.wrap (T : Int) = (T : Int) := by rw [IntKind.wrap_u64]; omega
  have hAl := hAn (by omega)
  have hXY : Y < A * 2 ^ 10 := by omega
  have hTB2 : B = T := by omega
  subst hTB2
  obtain ⟨Z, hZ⟩ : ∃ Z : Nat, Z = A * 2 ^ 10 + Y := ⟨_, rfl⟩
  have hfin := Nm.add_same Ieee.single s A B i j Y false (by omega) (fun h => hAn h) hYd
  rw [← hZ] at hfin
  have hZi : (A : Int) * 1024 + (Y : Int) = (Z : Int) := by omega
  have Hfin := hide hfin
  have HC := hide (fun w => close32 s Z (i - 10) false w (by omega) (by omega) (by omega))
  clear hfin hYd hAn
  clear hY hdm hSt hT hm
  clear hZ
  go_enter Try.func43, Try.ntmps43
  go_wp2_with fail
  go_region
  all_goals go_simp
  go_wp2_with fail
  refine (unhide HC _).mono ?_
  rintro r w1 ⟨rfl, hg⟩
  go_wp2
  go_ret
  exact ⟨⟨_, unhide Hfin, rfl⟩, gtrans (by repeat (first | exact Grown.refl _ | apply Grown.drew | apply Grown.alloc)) hg⟩

set_option maxHeartbeats 2000000 in
set_option maxRecDepth 20000 in
theorem add32_n_far_diffm (s t : Bool) (A B : Nat) (i j : Int) (w : World) (hA : A < 16777216) (hB : B < 16777216) (hi0 : -149 ≤ i) (hi1 : i ≤ 1000) (hj0 : -149 ≤ j) (hAn : j < i → 8388608 ≤ A) (hij : j < i - 10) (hf : i - 10 - j < 64) (hst : s ≠ t) (hm : B % 2 ^ (i - 10 - j).toNat ≠ 0) :
    Calls Try.prog 43 #[.agg #[.int .i64 23, .int .i64 8], .agg #[.bool false, .bool false, .bool s, .int .u64 (A : Int), .int .i64 i], .agg #[.bool false, .bool false, .bool t, .int .u64 (B : Int), .int .i64 j]] w fun r w' =>
      (∃ v, ((Ieee.Datum.number s A i).sum (.number t B j)).map Ieee.single.write = some v ∧ r = .returned (.int .u64 (v : Nat))) ∧ Grown w w' := by
  obtain ⟨S, hS⟩ : ∃ S : Nat, i - 10 - j = (S : Int) := ⟨(i - 10 - j).toNat, by omega⟩
  have hSt : (i - 10 - j).toNat = S := by omega
  rw [hSt] at hm
  have hS64 : S < 64 := by omega
  obtain ⟨Y, hY⟩ : ∃ Y : Nat, Y = B / 2 ^ S := ⟨_, rfl⟩
  have hYd : Nm.Yd B i j Y true := .inr ⟨hij, by rw [hY, hSt], by rw [hSt]; simp [hm]⟩
  have hYl : Y ≤ B := by rw [hY]; exact Nat.div_le_self _ _
  have hYi : (B : Int) / 2 ^ S = (Y : Int) := by rw [hY, Int.natCast_ediv, Int.natCast_pow]; rfl
  obtain ⟨T, hT⟩ : ∃ T : Nat, T = 2 ^ S * Y := ⟨_, rfl⟩
  have hTi : (Y : Int) * 2 ^ S = (T : Int) := by rw [hT, Int.natCast_mul, Int.natCast_pow, Int.mul_comm]; rfl
  have hdm := Nat.div_add_mod B (2 ^ S)
  rw [← hY, ← hT] at hdm
  have hTB : T ≤ B := by omega
  have g1 : decide ((64 : Int) ≤ (S : Int)) = false := by simp; omega
  have g5 : decide (64 ≤ S) = false := by simp; omega
  have g6 : decide (S < 64) = true := by simp; omega
  have g2 : decide ((S : Int) < 64) = true := by simp; omega
  have g3 : IntKind.u64.wrap (T : Int) = (T : Int) := by rw [IntKind.wrap_u64]; omega
  have hAl := hAn (by omega)
  have hXY : Y < A * 2 ^ 10 := by omega
  have hne : ((T : Int) == (B : Int)) = false := by rw [beq_eq_false_iff_ne]; omega
  have hne2 : ((T : Int) != (B : Int)) = true := by rw [bne_iff_ne]; omega
  obtain ⟨Z, hZ⟩ : ∃ Z : Nat, Z = A * 2 ^ 10 - Y - true.toNat := ⟨_, rfl⟩
  have hfin := Nm.add_more Ieee.single s t A B i j Y true hst (by omega) (fun h => hAn h) hB hYd hXY
  rw [← hZ] at hfin
  simp only [Bool.toNat_true, Bool.toNat_false] at hZ
  have hZi : (A : Int) * 1024 - (Y : Int) - 1 = (Z : Int) := by omega
  have hZ0 : Z ≠ 0 := by omega
  have Hfin := hide hfin
  have HC := hide (fun w => close32 s Z (i - 10) true w (by omega) (by omega) (by omega))
  clear hfin hYd hAn
  clear hY hdm hSt hT hm
  clear hZ
  cases s <;> cases t <;> simp only [ne_eq, not_true_eq_false, Bool.true_eq_false, Bool.false_eq_true, not_false_eq_true] at hst
  all_goals
    go_enter Try.func43, Try.ntmps43
    go_wp2_with fail
    go_region
    all_goals go_simp
    go_wp2_with fail
    refine (unhide HC _).mono ?_
    rintro r w1 ⟨rfl, hg⟩
    go_wp2
    go_ret
    exact ⟨⟨_, unhide Hfin, rfl⟩, gtrans (by repeat (first | exact Grown.refl _ | apply Grown.drew | apply Grown.alloc)) hg⟩

set_option maxHeartbeats 2000000 in
set_option maxRecDepth 20000 in
theorem add32_n_far_diffz (s t : Bool) (A B : Nat) (i j : Int) (w : World) (hA : A < 16777216) (hB : B < 16777216) (hi0 : -149 ≤ i) (hi1 : i ≤ 1000) (hj0 : -149 ≤ j) (hAn : j < i → 8388608 ≤ A) (hij : j < i - 10) (hf : i - 10 - j < 64) (hst : s ≠ t) (hm : B % 2 ^ (i - 10 - j).toNat = 0) :
    Calls Try.prog 43 #[.agg #[.int .i64 23, .int .i64 8], .agg #[.bool false, .bool false, .bool s, .int .u64 (A : Int), .int .i64 i], .agg #[.bool false, .bool false, .bool t, .int .u64 (B : Int), .int .i64 j]] w fun r w' =>
      (∃ v, ((Ieee.Datum.number s A i).sum (.number t B j)).map Ieee.single.write = some v ∧ r = .returned (.int .u64 (v : Nat))) ∧ Grown w w' := by
  obtain ⟨S, hS⟩ : ∃ S : Nat, i - 10 - j = (S : Int) := ⟨(i - 10 - j).toNat, by omega⟩
  have hSt : (i - 10 - j).toNat = S := by omega
  rw [hSt] at hm
  have hS64 : S < 64 := by omega
  obtain ⟨Y, hY⟩ : ∃ Y : Nat, Y = B / 2 ^ S := ⟨_, rfl⟩
  have hYd : Nm.Yd B i j Y false := .inr ⟨hij, by rw [hY, hSt], by rw [hSt]; simp [hm]⟩
  have hYl : Y ≤ B := by rw [hY]; exact Nat.div_le_self _ _
  have hYi : (B : Int) / 2 ^ S = (Y : Int) := by rw [hY, Int.natCast_ediv, Int.natCast_pow]; rfl
  obtain ⟨T, hT⟩ : ∃ T : Nat, T = 2 ^ S * Y := ⟨_, rfl⟩
  have hTi : (Y : Int) * 2 ^ S = (T : Int) := by rw [hT, Int.natCast_mul, Int.natCast_pow, Int.mul_comm]; rfl
  have hdm := Nat.div_add_mod B (2 ^ S)
  rw [← hY, ← hT] at hdm
  have hTB : T ≤ B := by omega
  have g1 : decide ((64 : Int) ≤ (S : Int)) = false := by simp; omega
  have g5 : decide (64 ≤ S) = false := by simp; omega
  have g6 : decide (S < 64) = true := by simp; omega
  have g2 : decide ((S : Int) < 64) = true := by simp; omega
  have g3 : IntKind.u64.wrap (T : Int) = (T : Int) := by rw [IntKind.wrap_u64]; omega
  have hAl := hAn (by omega)
  have hXY : Y < A * 2 ^ 10 := by omega
  have hTB2 : B = T := by omega
  subst hTB2
  obtain ⟨Z, hZ⟩ : ∃ Z : Nat, Z = A * 2 ^ 10 - Y - false.toNat := ⟨_, rfl⟩
  have hfin := Nm.add_more Ieee.single s t A B i j Y false hst (by omega) (fun h => hAn h) hB hYd hXY
  rw [← hZ] at hfin
  simp only [Bool.toNat_true, Bool.toNat_false] at hZ
  have hZi : (A : Int) * 1024 - (Y : Int) = (Z : Int) := by omega
  have hZ0 : Z ≠ 0 := by omega
  have Hfin := hide hfin
  have HC := hide (fun w => close32 s Z (i - 10) false w (by omega) (by omega) (by omega))
  clear hfin hYd hAn
  clear hY hdm hSt hT hm
  clear hZ
  cases s <;> cases t <;> simp only [ne_eq, not_true_eq_false, Bool.true_eq_false, Bool.false_eq_true, not_false_eq_true] at hst
  all_goals
    go_enter Try.func43, Try.ntmps43
    go_wp2_with fail
    go_region
    all_goals go_simp
    go_wp2_with fail
    refine (unhide HC _).mono ?_
    rintro r w1 ⟨rfl, hg⟩
    go_wp2
    go_ret
    exact ⟨⟨_, unhide Hfin, rfl⟩, gtrans (by repeat (first | exact Grown.refl _ | apply Grown.drew | apply Grown.alloc)) hg⟩
end Go.Proofs.Ytjnelkpgdjphmaa
