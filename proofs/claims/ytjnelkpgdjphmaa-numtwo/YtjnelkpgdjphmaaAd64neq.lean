import Derived.Test.YtjnelkpgdjphmaaPi
import Derived.Test.YtjnelkpgdjphmaaNN
namespace Go.Proofs.Ytjnelkpgdjphmaa
open Go.RowKit
set_option linter.unusedVariables false
set_option linter.unusedSimpArgs false

set_option maxHeartbeats 2000000 in
set_option maxRecDepth 20000 in
theorem add64_n_eq_same (s t : Bool) (A B : Nat) (i j : Int) (w : World) (hA : A < 9007199254740992) (hB : B < 9007199254740992) (hi0 : -1074 ≤ i) (hi1 : i ≤ 1000) (hj0 : -1074 ≤ j) (hAn : j < i → 4503599627370496 ≤ A) (hij : i = j) (hle : B ≤ A) (hst : s = t) :
    Calls Try.prog 43 #[.agg #[.int .i64 52, .int .i64 11], .agg #[.bool false, .bool false, .bool s, .int .u64 (A : Int), .int .i64 i], .agg #[.bool false, .bool false, .bool t, .int .u64 (B : Int), .int .i64 j]] w fun r w' =>
      (∃ v, ((Ieee.Datum.number s A i).sum (.number t B j)).map Ieee.double.write = some v ∧ r = .returned (.int .u64 (v : Nat))) ∧ Grown w w' := by
  subst hij
  subst hst
  obtain ⟨Y, hY⟩ : ∃ Y : Nat, Y = B * 1024 := ⟨_, rfl⟩
  have hYd : Nm.Yd B i i Y false := .inl ⟨by omega, by rw [hY, show (i - (i - 10)).toNat = 10 by omega], rfl⟩
  have hd : i - (i - 10) = ((10 : Nat) : Int) := by omega
  have hYi : (B : Int) * 1024 = (Y : Int) := by omega
  obtain ⟨Z, hZ⟩ : ∃ Z : Nat, Z = A * 2 ^ 10 + Y := ⟨_, rfl⟩
  have hfin := Nm.add_same Ieee.double s A B i i Y false (by omega) (fun h => hAn h) hYd
  rw [← hZ] at hfin
  have hZi : (A : Int) * 1024 + (Y : Int) = (Z : Int) := by omega
  have Hfin := hide hfin
  have HC := hide (fun w => close64 s Z (i - 10) false w (by omega) (by omega) (by omega))
  clear hfin hYd hAn
  clear hY
  clear hZ
  go_enter Try.func43, Try.ntmps43
  go_wp2_with fail
  refine (unhide HC _).mono ?_
  rintro r w1 ⟨rfl, hg⟩
  go_wp2
  go_ret
  exact ⟨⟨_, unhide Hfin, rfl⟩, gtrans (by repeat (first | exact Grown.refl _ | apply Grown.drew | apply Grown.alloc)) hg⟩

set_option maxHeartbeats 2000000 in
set_option maxRecDepth 20000 in
theorem add64_n_eq_diffgt (s t : Bool) (A B : Nat) (i j : Int) (w : World) (hA : A < 9007199254740992) (hB : B < 9007199254740992) (hi0 : -1074 ≤ i) (hi1 : i ≤ 1000) (hj0 : -1074 ≤ j) (hAn : j < i → 4503599627370496 ≤ A) (hij : i = j) (hle : B ≤ A) (hst : s ≠ t) (hlt : B < A) :
    Calls Try.prog 43 #[.agg #[.int .i64 52, .int .i64 11], .agg #[.bool false, .bool false, .bool s, .int .u64 (A : Int), .int .i64 i], .agg #[.bool false, .bool false, .bool t, .int .u64 (B : Int), .int .i64 j]] w fun r w' =>
      (∃ v, ((Ieee.Datum.number s A i).sum (.number t B j)).map Ieee.double.write = some v ∧ r = .returned (.int .u64 (v : Nat))) ∧ Grown w w' := by
  subst hij
  obtain ⟨Y, hY⟩ : ∃ Y : Nat, Y = B * 1024 := ⟨_, rfl⟩
  have hYd : Nm.Yd B i i Y false := .inl ⟨by omega, by rw [hY, show (i - (i - 10)).toNat = 10 by omega], rfl⟩
  have hd : i - (i - 10) = ((10 : Nat) : Int) := by omega
  have hYi : (B : Int) * 1024 = (Y : Int) := by omega
  have hXY : Y < A * 2 ^ 10 := by omega
  obtain ⟨Z, hZ⟩ : ∃ Z : Nat, Z = A * 2 ^ 10 - Y - false.toNat := ⟨_, rfl⟩
  have hfin := Nm.add_more Ieee.double s t A B i i Y false hst (by omega) (fun h => hAn h) hB hYd hXY
  rw [← hZ] at hfin
  simp only [Bool.toNat_true, Bool.toNat_false] at hZ
  have hZi : (A : Int) * 1024 - (Y : Int) = (Z : Int) := by omega
  have hZ0 : Z ≠ 0 := by omega
  have Hfin := hide hfin
  have HC := hide (fun w => close64 s Z (i - 10) false w (by omega) (by omega) (by omega))
  clear hfin hYd hAn
  clear hY
  clear hZ
  cases s <;> cases t <;> simp only [ne_eq, not_true_eq_false, Bool.true_eq_false, Bool.false_eq_true, not_false_eq_true] at hst
  all_goals
    go_enter Try.func43, Try.ntmps43
    go_wp2_with fail
    refine (unhide HC _).mono ?_
    rintro r w1 ⟨rfl, hg⟩
    go_wp2
    go_ret
    exact ⟨⟨_, unhide Hfin, rfl⟩, gtrans (by repeat (first | exact Grown.refl _ | apply Grown.drew | apply Grown.alloc)) hg⟩

set_option maxHeartbeats 2000000 in
set_option maxRecDepth 20000 in
theorem add64_n_eq_diffnil (s t : Bool) (A B : Nat) (i j : Int) (w : World) (hA : A < 9007199254740992) (hB : B < 9007199254740992) (hi0 : -1074 ≤ i) (hi1 : i ≤ 1000) (hj0 : -1074 ≤ j) (hAn : j < i → 4503599627370496 ≤ A) (hij : i = j) (hle : B ≤ A) (hst : s ≠ t) (hlt : B = A) :
    Calls Try.prog 43 #[.agg #[.int .i64 52, .int .i64 11], .agg #[.bool false, .bool false, .bool s, .int .u64 (A : Int), .int .i64 i], .agg #[.bool false, .bool false, .bool t, .int .u64 (B : Int), .int .i64 j]] w fun r w' =>
      (∃ v, ((Ieee.Datum.number s A i).sum (.number t B j)).map Ieee.double.write = some v ∧ r = .returned (.int .u64 (v : Nat))) ∧ Grown w w' := by
  subst hij
  obtain ⟨Y, hY⟩ : ∃ Y : Nat, Y = B * 1024 := ⟨_, rfl⟩
  have hYd : Nm.Yd B i i Y false := .inl ⟨by omega, by rw [hY, show (i - (i - 10)).toNat = 10 by omega], rfl⟩
  have hd : i - (i - 10) = ((10 : Nat) : Int) := by omega
  have hYi : (B : Int) * 1024 = (Y : Int) := by omega
  have hfin := Nm.add_none Ieee.double s t A B i i Y hst (by omega) hYd (fun h => hAn h) hB (by omega)
  have Hfin := hide hfin
  clear hfin hYd hAn
  cases s <;> cases t <;> simp only [ne_eq, not_true_eq_false, Bool.true_eq_false, Bool.false_eq_true, not_false_eq_true] at hst
  all_goals
    go_enter Try.func43, Try.ntmps43
    go_wp2
    go_ret
    exact ⟨⟨_, unhide Hfin, rfl⟩, by repeat (first | exact Grown.refl _ | apply Grown.drew | apply Grown.alloc)⟩
end Go.Proofs.Ytjnelkpgdjphmaa
