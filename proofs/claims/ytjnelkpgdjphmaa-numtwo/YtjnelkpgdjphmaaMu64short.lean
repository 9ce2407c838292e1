import Derived.Test.YtjnelkpgdjphmaaPi
import Derived.Test.YtjnelkpgdjphmaaNN
namespace Go.Proofs.Ytjnelkpgdjphmaa
open Go.RowKit
set_option linter.unusedVariables false
set_option linter.unusedSimpArgs false

set_option maxHeartbeats 2000000 in
set_option maxRecDepth 20000 in
theorem mul64_short (s t : Bool) (A B : Nat) (i j : Int) (w : World) (hA : A < 9007199254740992) (hB : B < 9007199254740992) (hi0 : -1074 ≤ i) (hi1 : i ≤ 1000) (hj0 : -1074 ≤ j) (hj1 : j ≤ 1000) (hH : A * B < 18446744073709551616) :
    Calls Try.prog 44 #[.agg #[.int .i64 52, .int .i64 11], .agg #[.bool false, .bool false, .bool s, .int .u64 (A : Int), .int .i64 i], .agg #[.bool false, .bool false, .bool t, .int .u64 (B : Int), .int .i64 j]] w fun r w' =>
      (∃ v, ((Ieee.Datum.number s A i).product (.number t B j)).map Ieee.double.write = some v ∧ r = .returned (.int .u64 (v : Nat))) ∧ Grown w w' := by
  obtain ⟨ng, hng⟩ : ∃ ng : Bool, (s != t) = ng := ⟨_, rfl⟩
  have hng2 : (s ^^ t) = ng := by rw [← hng]
  have hng3 : (!(s == t)) = ng := by rw [← hng]; rfl
  have hfin := Nm.product_eq Ieee.double s t A B i j
  rw [hng2] at hfin
  obtain ⟨a0, ha0⟩ : ∃ a0, a0 = A % 4294967296 := ⟨_, rfl⟩
  obtain ⟨a1, ha1⟩ : ∃ a1, a1 = A / 4294967296 := ⟨_, rfl⟩
  obtain ⟨b0, hb0⟩ : ∃ b0, b0 = B % 4294967296 := ⟨_, rfl⟩
  obtain ⟨b1, hb1⟩ : ∃ b1, b1 = B / 4294967296 := ⟨_, rfl⟩
  have ra0 : (A : Int) % 4294967296 = (a0 : Int) := by omega
  have ra1 : (A : Int) / 4294967296 = (a1 : Int) := by omega
  have rb0 : (B : Int) % 4294967296 = (b0 : Int) := by omega
  have rb1 : (B : Int) / 4294967296 = (b1 : Int) := by omega
  have hpp := Nm.mul_parts a1 a0 b1 b0
  rw [show a1 * 4294967296 + a0 = A by omega, show b1 * 4294967296 + b0 = B by omega] at hpp
  have l00 : a0 * b0 ≤ 4294967295 * 4294967295 := Nat.mul_le_mul (by omega) (by omega)
  have l10 : a1 * b0 ≤ 2097152 * 4294967295 := Nat.mul_le_mul (by omega) (by omega)
  have l01 : b1 * a0 ≤ 2097152 * 4294967295 := Nat.mul_le_mul (by omega) (by omega)
  have l11 : a1 * b1 ≤ 2097152 * 2097152 := Nat.mul_le_mul (by omega) (by omega)
  have r00 : (a0 : Int) * (b0 : Int) = ((a0 * b0 : Nat) : Int) := by rw [Int.natCast_mul]
  have r10 : (a1 : Int) * (b0 : Int) = ((a1 * b0 : Nat) : Int) := by rw [Int.natCast_mul]
  have r01 : (b1 : Int) * (a0 : Int) = ((b1 * a0 : Nat) : Int) := by rw [Int.natCast_mul]
  have r11 : (a1 : Int) * (b1 : Int) = ((a1 * b1 : Nat) : Int) := by rw [Int.natCast_mul]
  generalize a0 * b0 = P00 at *
  generalize a1 * b0 = P10 at *
  generalize b1 * a0 = P01 at *
  generalize a1 * b1 = P11 at *
  obtain ⟨M, hM⟩ : ∃ M, P10 + P01 + P00 / 4294967296 = M := ⟨_, rfl⟩
  rw [hM] at hpp
  obtain ⟨Hh, hHh⟩ : ∃ Hh, P11 + M / 4294967296 = Hh := ⟨_, rfl⟩
  rw [hHh] at hpp
  obtain ⟨Rr, hRr⟩ : ∃ Rr, M % 4294967296 * 4294967296 + P00 % 4294967296 = Rr := ⟨_, rfl⟩
  rw [hRr] at hpp
  have hRl : Rr < 18446744073709551616 := by omega
  have rM : (P10 : Int) + (P01 : Int) + (P00 : Int) / 4294967296 = (M : Int) := by omega
  have rH : (P11 : Int) + (M : Int) / 4294967296 = (Hh : Int) := by omega
  have rR : (M : Int) % 4294967296 * 4294967296 + (P00 : Int) % 4294967296 = (Rr : Int) := by omega
  have hMl : M < 18446744073709551616 := by omega
  have hHl : Hh < 4398046511104 * 2 := by omega
  have hH0 : Hh = 0 := by omega
  subst hH0
  rw [hpp, Nat.zero_mul, Nat.zero_add] at hfin
  have Hfin := hide hfin
  have HC := hide (fun w => close64 ng Rr (i + j) false w (by omega) (by omega) (by omega))
  have HN := hide (fun w => length_any 0 w (by omega))
  rw [show len 0 = 0 from rfl] at HN
  clear hfin hpp hRr hM hHh hH ha0 ha1 hb0 hb1 hng2
  go_enter Try.func44, Try.ntmps44
  go_wp2_with fail
  refine (unhide HN _).mono ?_
  rintro r w0 ⟨rfl, hw0⟩
  subst hw0
  go_wp2_with fail
  refine (unhide HC _).mono ?_
  rintro r w1 ⟨rfl, hg⟩
  go_wp2
  go_ret
  exact ⟨⟨_, unhide Hfin, rfl⟩, gtrans (by repeat (first | exact Grown.refl _ | apply Grown.drew | apply Grown.alloc)) hg⟩
end Go.Proofs.Ytjnelkpgdjphmaa
