import Derived.Test.YtjnelkpgdjphmaaPi
import Derived.Test.YtjnelkpgdjphmaaNN
namespace Go.Proofs.Ytjnelkpgdjphmaa
open Go.RowKit
set_option linter.unusedVariables false
set_option linter.unusedSimpArgs false

set_option maxHeartbeats 2000000 in
set_option maxRecDepth 20000 in
theorem add64_s_out_samem (s t : Bool) (A B : Nat) (i j : Int) (w : World) (hA : A < 9007199254740992) (hB : B < 9007199254740992) (hi0 : -1074 ≤ i) (hi1 : i ≤ 1000) (hj0 : -1074 ≤ j) (hAn : j < i → 4503599627370496 ≤ A) (hij : j < i - 10) (hf : 64 ≤ i - 10 - j) (hst : s = t) (hm : B ≠ 0) :
    Calls Try.prog 43 #[.agg #[.int .i64 52, .int .i64 11], .agg #[.bool false, .bool false, .bool t, .int .u64 (B : Int), .int .i64 j], .agg #[.bool false, .bool false, .bool s, .int .u64 (A : Int), .int .i64 i]] w fun r w' =>
      (∃ v, ((Ieee.Datum.number s A i).sum (.number t B j)).map Ieee.double.write = some v ∧ r = .returned (.int .u64 (v : Nat))) ∧ Grown w w' := by
  subst hst
  obtain ⟨S, hS⟩ : ∃ S : Nat, i - 10 - j = (S : Int) := ⟨(i - 10 - j).toNat, by omega⟩
  have hSt : (i - 10 - j).toNat = S := by omega
  have hS64 : 64 ≤ S := by omega
  have hpS : 2 ^ 64 ≤ 2 ^ S := Nat.pow_le_pow_right (by omega) hS64
  have hYd : Nm.Yd B i j 0 true := .inr ⟨hij, by rw [hSt, Nat.div_eq_of_lt (by omega)], by rw [hSt, Nat.mod_eq_of_lt (by omega)]; simp [hm]⟩
  have hAl := hAn (by omega)
  have hXY : 0 < A * 2 ^ 10 := by omega
  have g1 : decide ((64 : Int) ≤ (S : Int)) = true := by simp; omega
  have g5 : decide (64 ≤ S) = true := by simp; omega
  have g6 : decide (S < 64) = false := by simp; omega
  have g2 : decide ((S : Int) < 64) = false := by simp; omega
  have g3 : decide ((0 : Int) < (B : Int)) = true := by simp; omega
  have g4 : decide (0 < B) = true := by simp; omega
  obtain ⟨Z, hZ⟩ : ∃ Z : Nat, Z = A * 2 ^ 10 + 0 := ⟨_, rfl⟩
  have hfin := Nm.add_same Ieee.double s A B i j 0 true (by omega) (fun h => hAn h) hYd
  rw [← hZ] at hfin
  have hZi : (A : Int) * 1024 = (Z : Int) := by omega
  have Hfin := hide hfin
  have HC := hide (fun w => close64 s Z (i - 10) true w (by omega) (by omega) (by omega))
  clear hfin hYd hAn
  clear hpS hSt hXY hf hm
  clear hZ
  go_enter Try.func43, Try.ntmps43
  go_wp2_with fail
  go_region
  all_goals go_simp
  go_wp2_with fail
  refine (unhide HC _).mono ?_
  rintro r w1 ⟨rfl, hg⟩
  go_wp2
  go_ret
  exact ⟨⟨_, unhide Hfin, rfl⟩, gtrans (by repeat (first | exact Grown.refl _ | apply Grown.drew | apply Grown.alloc)) hg⟩

set_option maxHeartbeats 2000000 in
set_option maxRecDepth 20000 in
theorem add64_s_out_samez (s t : Bool) (A B : Nat) (i j : Int) (w : World) (hA : A < 9007199254740992) (hB : B < 9007199254740992) (hi0 : -1074 ≤ i) (hi1 : i ≤ 1000) (hj0 : -1074 ≤ j) (hAn : j < i → 4503599627370496 ≤ A) (hij : j < i - 10) (hf : 64 ≤ i - 10 - j) (hst : s = t) (hm : B = 0) :
    Calls Try.prog 43 #[.agg #[.int .i64 52, .int .i64 11], .agg #[.bool false, .bool false, .bool t, .int .u64 (B : Int), .int .i64 j], .agg #[.bool false, .bool false, .bool s, .int .u64 (A : Int), .int .i64 i]] w fun r w' =>
      (∃ v, ((Ieee.Datum.number s A i).sum (.number t B j)).map Ieee.double.write = some v ∧ r = .returned (.int .u64 (v : Nat))) ∧ Grown w w' := by
  subst hst
  obtain ⟨S, hS⟩ : ∃ S : Nat, i - 10 - j = (S : Int) := ⟨(i - 10 - j).toNat, by omega⟩
  have hSt : (i - 10 - j).toNat = S := by omega
  have hS64 : 64 ≤ S := by omega
  have hpS : 2 ^ 64 ≤ 2 ^ S := Nat.pow_le_pow_right (by omega) hS64
  have hYd : Nm.Yd B i j 0 false := .inr ⟨hij, by rw [hSt, Nat.div_eq_of_lt (by omega)], by rw [hSt, Nat.mod_eq_of_lt (by omega)]; simp [hm]⟩
  have hAl := hAn (by omega)
  have hXY : 0 < A * 2 ^ 10 := by omega
  have g1 : decide ((64 : Int) ≤ (S : Int)) = true := by simp; omega
  have g5 : decide (64 ≤ S) = true := by simp; omega
  have g6 : decide (S < 64) = false := by simp; omega
  have g2 : decide ((S : Int) < 64) = false := by simp; omega
  have g3 : decide ((0 : Int) < (B : Int)) = false := by simp; omega
  have g4 : decide (0 < B) = false := by simp; omega
  obtain ⟨Z, hZ⟩ : ∃ Z : Nat, Z = A * 2 ^ 10 + 0 := ⟨_, rfl⟩
  have hfin := Nm.add_same Ieee.double s A B i j 0 false (by omega) (fun h => hAn h) hYd
  rw [← hZ] at hfin
  have hZi : (A : Int) * 1024 = (Z : Int) := by omega
  have Hfin := hide hfin
  have HC := hide (fun w => close64 s Z (i - 10) false w (by omega) (by omega) (by omega))
  clear hfin hYd hAn
  clear hpS hSt hXY hf hm
  clear hZ
  go_enter Try.func43, Try.ntmps43
  go_wp2_with fail
  go_region
  all_goals go_simp
  go_wp2_with fail
  refine (unhide HC _).mono ?_
  rintro r w1 ⟨rfl, hg⟩
  go_wp2
  go_ret
  exact ⟨⟨_, unhide Hfin, rfl⟩, gtrans (by repeat (first | exact Grown.refl _ | apply Grown.drew | apply Grown.alloc)) hg⟩

set_option maxHeartbeats 2000000 in
set_option maxRecDepth 20000 in
theorem add64_s_out_diffm (s t : Bool) (A B : Nat) (i j : Int) (w : World) (hA : A < 9007199254740992) (hB : B < 9007199254740992) (hi0 : -1074 ≤ i) (hi1 : i ≤ 1000) (hj0 : -1074 ≤ j) (hAn : j < i → 4503599627370496 ≤ A) (hij : j < i - 10) (hf : 64 ≤ i - 10 - j) (hst : s ≠ t) (hm : B ≠ 0) :
    Calls Try.prog 43 #[.agg #[.int .i64 52, .int .i64 11], .agg #[.bool false, .bool false, .bool t, .int .u64 (B : Int), .int .i64 j], .agg #[.bool false, .bool false, .bool s, .int .u64 (A : Int), .int .i64 i]] w fun r w' =>
      (∃ v, ((Ieee.Datum.number s A i).sum (.number t B j)).map Ieee.double.write = some v ∧ r = .returned (.int .u64 (v : Nat))) ∧ Grown w w' := by
  obtain ⟨S, hS⟩ : ∃ S : Nat, i - 10 - j = (S : Int) := ⟨(i - 10 - j).toNat, by omega⟩
  have hSt : (i - 10 - j).toNat = S := by omega
  have hS64 : 64 ≤ S := by omega
  have hpS : 2 ^ 64 ≤ 2 ^ S := Nat.pow_le_pow_right (by omega) hS64
  have hYd : Nm.Yd B i j 0 true := .inr ⟨hij, by rw [hSt, Nat.div_eq_of_lt (by omega)], by rw [hSt, Nat.mod_eq_of_lt (by omega)]; simp [hm]⟩
  have hAl := hAn (by omega)
  have hXY : 0 < A * 2 ^ 10 := by omega
  have g1 : decide ((64 : Int) ≤ (S : Int)) = true := by simp; omega
  have g5 : decide (64 ≤ S) = true := by simp; omega
  have g6 : decide (S < 64) = false := by simp; omega
  have g2 : decide ((S : Int) < 64) = false := by simp; omega
  have g3 : decide ((0 : Int) < (B : Int)) = true := by simp; omega
  have g4 : decide (0 < B) = true := by simp; omega
  obtain ⟨Z, hZ⟩ : ∃ Z : Nat, Z = A * 2 ^ 10 - 0 - true.toNat := ⟨_, rfl⟩
  have hfin := Nm.add_more Ieee.double s t A B i j 0 true hst (by omega) (fun h => hAn h) hB hYd hXY
  rw [← hZ] at hfin
  simp only [Bool.toNat_true, Bool.toNat_false] at hZ
  have hZi : (A : Int) * 1024 - 1 = (Z : Int) := by omega
  have hZ0 : Z ≠ 0 := by omega
  have Hfin := hide hfin
  have HC := hide (fun w => close64 s Z (i - 10) true w (by omega) (by omega) (by omega))
  clear hfin hYd hAn
  clear hpS hSt hXY hf hm
  clear hZ
  cases s <;> cases t <;> simp only [ne_eq, not_true_eq_false, Bool.true_eq_false, Bool.false_eq_true, not_false_eq_true] at hst
  all_goals
    go_enter Try.func43, Try.ntmps43
    go_wp2_with fail
    go_region
    all_goals go_simp
    go_wp2_with fail
    refine (unhide HC _).mono ?_
    rintro r w1 ⟨rfl, hg⟩
    go_wp2
    go_ret
    exact ⟨⟨_, unhide Hfin, rfl⟩, gtrans (by repeat (first | exact Grown.refl _ | apply Grown.drew | apply Grown.alloc)) hg⟩

set_option maxHeartbeats 2000000 in
set_option maxRecDepth 20000 in
theorem add64_s_out_diffz (s t : Bool) (A B : Nat) (i j : Int) (w : World) (hA : A < 9007199254740992) (hB : B < 9007199254740992) (hi0 : -1074 ≤ i) (hi1 : i ≤ 1000) (hj0 : -1074 ≤ j) (hAn : j < i → 4503599627370496 ≤ A) (hij : j < i - 10) (hf : 64 ≤ i - 10 - j) (hst : s ≠ t) (hm : B = 0) :
    Calls Try.prog 43 #[.agg #[.int .i64 52, .int .i64 11], .agg #[.bool false, .bool false, .bool t, .int .u64 (B : Int), .int .i64 j], .agg #[.bool false, .bool false, .bool s, .int .u64 (A : Int), .int .i64 i]] w fun r w' =>
      (∃ v, ((Ieee.Datum.number s A i).sum (.number t B j)).map Ieee.double.write = some v ∧ r = .returned (.int .u64 (v : Nat))) ∧ Grown w w' := by
  obtain ⟨S, hS⟩ : ∃ S : Nat, i - 10 - j = (S : Int) := ⟨(i - 10 - j).toNat, by omega⟩
  have hSt : (i - 10 - j).toNat = S := by omega
  have hS64 : 64 ≤ S := by omega
  have hpS : 2 ^ 64 ≤ 2 ^ S := Nat.pow_le_pow_right (by omega) hS64
  have hYd : Nm.Yd B i j 0 false := .inr ⟨hij, by rw [hSt, Nat.div_eq_of_lt (by omega)], by rw [hSt, Nat.mod_eq_of_lt (by omega)]; simp [hm]⟩
  have hAl := hAn (by omega)
  have hXY : 0 < A * 2 ^ 10 := by omega
  have g1 : decide ((64 : Int) ≤ (S : Int)) = true := by simp; omega
  have g5 : decide (64 ≤ S) = true := by simp; omega
  have g6 : decide (S < 64) = false := by simp; omega
  have g2 : decide ((S : Int) < 64) = false := by simp; omega
  have g3 : decide ((0 : Int) < (B : Int)) = false := by simp; omega
  have g4 : decide (0 < B) = false := by simp; omega
  obtain ⟨Z, hZ⟩ : ∃ Z : Nat, Z = A * 2 ^ 10 - 0 - false.toNat := ⟨_, rfl⟩
  have hfin := Nm.add_more Ieee.double s t A B i j 0 false hst (by omega) (fun h => hAn h) hB hYd hXY
  rw [← hZ] at hfin
  simp only [Bool.toNat_true, Bool.toNat_false] at hZ
  have hZi : (A : Int) * 1024 = (Z : Int) := by omega
  have hZ0 : Z ≠ 0 := by omega
  have Hfin := hide hfin
  have HC := hide (fun w => close64 s Z (i - 10) false w (by omega) (by omega) (by omega))
  clear hfin hYd hAn
  clear hpS hSt hXY hf hm
  clear hZ
  cases s <;> cases t <;> simp only [ne_eq, not_true_eq_false, Bool.true_eq_false, Bool.false_eq_true, not_false_eq_true] at hst
  all_goals
    go_enter Try.func43, Try.ntmps43
    go_wp2_with fail
    go_region
    all_goals go_simp
    go_wp2_with fail
    refine (unhide HC _).mono ?_
    rintro r w1 ⟨rfl, hg⟩
    go_wp2
    go_ret
    exact ⟨⟨_, unhide Hfin, rfl⟩, gtrans (by repeat (first | exact Grown.refl _ | apply Grown.drew | apply Grown.alloc)) hg⟩
end Go.Proofs.Ytjnelkpgdjphmaa
