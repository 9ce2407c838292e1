import Derived.Test.YtjnelkpgdjphmaaPi
import Derived.Test.YtjnelkpgdjphmaaNN
namespace Go.Proofs.Ytjnelkpgdjphmaa
open Go.RowKit
set_option linter.unusedVariables false
set_option linter.unusedSimpArgs false

set_option maxHeartbeats 2000000 in
set_option maxRecDepth 20000 in
theorem mul64_longz (s t : Bool) (A B : Nat) (i j : Int) (w : World) (hA : A < 9007199254740992) (hB : B < 9007199254740992) (hi0 : -1074 ≤ i) (hi1 : i ≤ 1000) (hj0 : -1074 ≤ j) (hj1 : j ≤ 1000) (hH : 18446744073709551616 ≤ A * B) (hz : (A * B % 18446744073709551616) % 2 ^ (len (A * B / 18446744073709551616)) = 0) :
    Calls Try.prog 44 #[.agg #[.int .i64 52, .int .i64 11], .agg #[.bool false, .bool false, .bool s, .int .u64 (A : Int), .int .i64 i], .agg #[.bool false, .bool false, .bool t, .int .u64 (B : Int), .int .i64 j]] w fun r w' =>
      (∃ v, ((Ieee.Datum.number s A i).product (.number t B j)).map Ieee.double.write = some v ∧ r = .returned (.int .u64 (v : Nat))) ∧ Grown w w' := by
  obtain ⟨ng, hng⟩ : ∃ ng : Bool, (s != t) = ng := ⟨_, rfl⟩
  have hng2 : (s ^^ t) = ng := by rw [← hng]
  have hng3 : (!(s == t)) = ng := by rw [← hng]; rfl
  have hfin := Nm.product_eq Ieee.double s t A B i j
  rw [hng2] at hfin
  obtain ⟨a0, ha0⟩ : ∃ a0, a0 = A % 4294967296 := ⟨_, rfl⟩
  obtain ⟨a1, ha1⟩ : ∃ a1, a1 = A / 4294967296 := ⟨_, rfl⟩
  obtain ⟨b0, hb0⟩ : ∃ b0, b0 = B % 4294967296 := ⟨_, rfl⟩
  obtain ⟨b1, hb1⟩ : ∃ b1, b1 = B / 4294967296 := ⟨_, rfl⟩
  have ra0 : (A : Int) % 4294967296 = (a0 : Int) := by omega
  have ra1 : (A : Int) / 4294967296 = (a1 : Int) := by omega
  have rb0 : (B : Int) % 4294967296 = (b0 : Int) := by omega
  have rb1 : (B : Int) / 4294967296 = (b1 : Int) := by omega
  have hpp := Nm.mul_parts a1 a0 b1 b0
  rw [show a1 * 4294967296 + a0 = A by omega, show b1 * 4294967296 + b0 = B by omega] at hpp
  have l00 : a0 * b0 ≤ 4294967295 * 4294967295 := Nat.mul_le_mul (by omega) (by omega)
  have l10 : a1 * b0 ≤ 2097152 * 4294967295 := Nat.mul_le_mul (by omega) (by omega)
  have l01 : b1 * a0 ≤ 2097152 * 4294967295 := Nat.mul_le_mul (by omega) (by omega)
  have l11 : a1 * b1 ≤ 2097152 * 2097152 := Nat.mul_le_mul (by omega) (by omega)
  have r00 : (a0 : Int) * (b0 : Int) = ((a0 * b0 : Nat) : Int) := by rw [Int.natCast_mul]
  have r10 : (a1 : Int) * (b0 : Int) = ((a1 * b0 : Nat) : Int) := by rw [Int.natCast_mul]
  have r01 : (b1 : Int) * (a0 : Int) = ((b1 * a0 : Nat) : Int) := by rw [Int.natCast_mul]
  have r11 : (a1 : Int) * (b1 : Int) = ((a1 * b1 : Nat) : Int) := by rw [Int.natCast_mul]
  generalize a0 * b0 = P00 at *
  generalize a1 * b0 = P10 at *
  generalize b1 * a0 = P01 at *
  generalize a1 * b1 = P11 at *
  obtain ⟨M, hM⟩ : ∃ M, P10 + P01 + P00 / 4294967296 = M := ⟨_, rfl⟩
  rw [hM] at hpp
  obtain ⟨Hh, hHh⟩ : ∃ Hh, P11 + M / 4294967296 = Hh := ⟨_, rfl⟩
  rw [hHh] at hpp
  obtain ⟨Rr, hRr⟩ : ∃ Rr, M % 4294967296 * 4294967296 + P00 % 4294967296 = Rr := ⟨_, rfl⟩
  rw [hRr] at hpp
  have hRl : Rr < 18446744073709551616 := by omega
  have rM : (P10 : Int) + (P01 : Int) + (P00 : Int) / 4294967296 = (M : Int) := by omega
  have rH : (P11 : Int) + (M : Int) / 4294967296 = (Hh : Int) := by omega
  have rR : (M : Int) % 4294967296 * 4294967296 + (P00 : Int) % 4294967296 = (Rr : Int) := by omega
  have hMl : M < 18446744073709551616 := by omega
  have hHl : Hh < 4398046511104 * 2 := by omega
  have hAB1 : A * B / 18446744073709551616 = Hh := by omega
  have hAB2 : A * B % 18446744073709551616 = Rr := by omega
  rw [hAB1, hAB2] at hz
  have hH1 : Hh ≠ 0 := by omega
  have HN := hide (fun w => length_any Hh w (by omega))
  have hlen : len Hh = Hh.log2 + 1 := by unfold len; rw [if_neg hH1]
  have hl1 := Nat.log2_self_le hH1
  have hl2 := @Nat.lt_log2_self Hh
  have hl3 := (Nat.log2_lt hH1).2 (show Hh < 2 ^ 43 by omega)
  rw [hlen] at hz HN
  generalize Hh.log2 = n0 at *
  obtain ⟨n, hn⟩ : ∃ n, n = n0 + 1 := ⟨_, rfl⟩
  rw [← hn] at hz HN hl2
  have hlong := Nm.mul_long Ieee.double ng (A * B) Hh Rr n (i + j) (by decide) hpp hRl (by omega) (by omega) (by rw [hn]; exact hl1) hl2
  have hmark := Nm.mul_mark Rr n (by omega) (by omega)
  have hn43 : n ≤ 43 := by omega
  have hn1 : 1 ≤ n := by omega
  clear hn hl1 hl3 hlen hl2
  obtain ⟨d, hd⟩ : ∃ d : Nat, 64 - n = d := ⟨_, rfl⟩
  rw [hd] at hlong hmark
  have hdi : (64 : Int) - (n : Int) = (d : Int) := by omega
  have rU : (Hh : Int) * 2 ^ d = ((Hh * 2 ^ d : Nat) : Int) := by rw [Int.natCast_mul, Int.natCast_pow]; rfl
  have rV : (Rr : Int) / 2 ^ n = ((Rr / 2 ^ n : Nat) : Int) := by rw [Int.natCast_ediv, Int.natCast_pow]; rfl
  have rT : (Rr : Int) * 2 ^ d = ((Rr * 2 ^ d : Nat) : Int) := by rw [Int.natCast_mul, Int.natCast_pow]; rfl
  generalize Hh * 2 ^ d = U at *
  generalize Rr / 2 ^ n = V at *
  generalize Rr * 2 ^ d = T at *
  obtain ⟨Q, hQ⟩ : ∃ Q, U + V = Q := ⟨_, rfl⟩
  rw [hQ] at hlong
  obtain ⟨hc, hQl, hUl⟩ := hlong
  rw [hc, show decide (Rr % 2 ^ n ≠ 0) = false by simp [hz]] at hfin
  have rUw : IntKind.u64.wrap (U : Int) = (U : Int) := by rw [IntKind.wrap_u64]; omega
  have rQ : (U : Int) + (V : Int) = (Q : Int) := by omega
  have rTw : IntKind.u64.wrap (T : Int) = ((T % 18446744073709551616 : Nat) : Int) := by rw [IntKind.wrap_u64]; omega
  generalize T % 18446744073709551616 = T' at *
  have hT' : T' = 0 := hmark.2 hz
  subst hT'
  have hn8 : decide ((n : Int) = 0) = false := by simp; omega
  have hn9 : ((n : Int) == 0) = false := by rw [beq_eq_false_iff_ne]; omega
  have wd : IntKind.i64.wrap (64 - (n : Int)) = (d : Int) := by rw [IntKind.wrap_i64]; omega
  have wd2 : IntKind.i64.wrap (d : Int) = (d : Int) := by rw [IntKind.wrap_i64]; omega
  have we1 : IntKind.i64.wrap (i + j) = i + j := by rw [IntKind.wrap_i64]; omega
  have we2 : IntKind.i64.wrap (i + j + (n : Int)) = i + j + (n : Int) := by rw [IntKind.wrap_i64]; omega
  have wQ : IntKind.u64.wrap (Q : Int) = (Q : Int) := by rw [IntKind.wrap_u64]; omega
  have md : min d 64 = d := by omega
  have mn : min n 64 = n := by omega
  have Hfin := hide hfin
  have HC := hide (fun w => close64 ng Q (i + j + (n : Nat)) false w (by omega) (by omega) (by omega))
  clear hfin hpp hRr hM hHh hH ha0 ha1 hb0 hb1 hng2 hz hmark hc hQ hAB1 hAB2 hd
  go_enter Try.func44, Try.ntmps44
  go_wp2_with fail
  refine (unhide HN _).mono ?_
  rintro r w0 ⟨rfl, hw0⟩
  subst hw0
  go_wp2_with fail
  go_region_with (go_at_call 54; refine (unhide HC _).mono ?_; rintro r w1 ⟨rfl, hg⟩)
  all_goals go_wp2
  all_goals go_ret
  all_goals exact ⟨⟨_, unhide Hfin, rfl⟩, gtrans (by repeat (first | exact Grown.refl _ | apply Grown.drew | apply Grown.alloc)) hg⟩
end Go.Proofs.Ytjnelkpgdjphmaa
