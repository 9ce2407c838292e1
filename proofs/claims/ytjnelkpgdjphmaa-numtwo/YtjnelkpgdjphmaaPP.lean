import Derived.Test.YtjnelkpgdjphmaaPb
import Derived.Laws.Externs
import Derived.Deep.RegionHeld3
import Derived.Deep.DeepCutAuto
import Derived.Deep.CutBlock
import Derived.Laws.Rows
namespace Go.Proofs.Ytjnelkpgdjphmaa
open Go.RowKit
set_option linter.unusedVariables false

/-- To the left; to the right with the sign; to the right. -/
def sh0 (W x k : Nat) : Nat := x * 2 ^ k % W
def sh1 (W x k : Nat) : Nat := if 2 * x < W then x / 2 ^ k else W - 1 - (W - 1 - x) / 2 ^ k
def sh2 (W x k : Nat) : Nat := x / 2 ^ k

theorem sh0_step (W x k : Nat) : sh0 W x (k + 1) = 2 * sh0 W x k % W := by
  unfold sh0
  conv => rhs; rw [Nat.mul_mod, Nat.mod_mod, ← Nat.mul_mod]
  congr 1
  rw [Nat.pow_succ]
  ac_rfl

theorem sh2_step (W x k : Nat) : sh2 W x (k + 1) = sh2 W x k / 2 := by
  unfold sh2
  rw [Nat.pow_succ, Nat.div_div_eq_div_mul]

theorem sh1_pos (W x k : Nat) (h : 2 * x < W) : sh1 W x (k + 1) = sh1 W x k / 2 := by
  unfold sh1
  rw [if_pos h, if_pos h, Nat.pow_succ, Nat.div_div_eq_div_mul]

theorem sh1_neg (V x k : Nat) (h : V ≤ x) (hx : x < 2 * V) : sh1 (2 * V) x (k + 1) = sh1 (2 * V) x k / 2 + V := by
  unfold sh1
  rw [if_neg (by omega), if_neg (by omega), Nat.pow_succ, ← Nat.div_div_eq_div_mul]
  have h1 := Nat.div_le_self (2 * V - 1 - x) (2 ^ k)
  generalize (2 * V - 1 - x) / 2 ^ k = q at *
  omega

theorem sh0_lt (W x k : Nat) (hW : 0 < W) : sh0 W x k < W := Nat.mod_lt _ hW
theorem sh1_lt (W x k : Nat) (hW : 0 < W) (hx : x < W) : sh1 W x k < W := by
  unfold sh1
  have := Nat.div_le_self x (2 ^ k)
  generalize x / 2 ^ k = a at *
  generalize (W - 1 - x) / 2 ^ k = b at *
  split <;> omega
theorem sh2_lt (W x k : Nat) (hx : x < W) : sh2 W x k < W := by
  unfold sh2
  have := Nat.div_le_self x (2 ^ k)
  omega
theorem sh0_zero (W x : Nat) (hx : x < W) : sh0 W x 0 = x := by unfold sh0; rw [Nat.pow_zero, Nat.mul_one, Nat.mod_eq_of_lt hx]
theorem sh1_zero (W x : Nat) (hx : x < W) : sh1 W x 0 = x := by
  unfold sh1
  rw [Nat.pow_zero, Nat.div_one, Nat.div_one]
  split <;> omega
theorem sh2_zero (W x : Nat) : sh2 W x 0 = x := by unfold sh2; rw [Nat.pow_zero, Nat.div_one]

theorem mask1 (n : Int) (h0 : 0 ≤ n) (h1 : n < 18446744073709551616) : bits .and .u64 n 1 = n % 2 := by
  go_bits2

set_option maxRecDepth 20000 in
theorem shift32_0 (x c : Nat) (w : World) (hx : x < 4294967296) (hc : c ≤ 31) :
    Calls Try.prog 18 #[.int .i64 0, .int .u64 (x : Int), .int .i64 (c : Int), .int .i64 32] w fun e w' => e = .returned (.int .u64 (sh0 4294967296 x c : Nat)) ∧ w' = w := by
  have hsg : bits .and .u64 ((x : Int) / 2147483648) 1 = ((x : Int) / 2147483648 % 2) := by rw [mask1 _ (by omega) (by omega)]
  go_enter Try.func18, Try.ntmps18
  go_wp2_with fail
  go_loop [1, 2] (fun y i => ∃ k : Nat, k ≤ c ∧ i = .int .i64 ((c : Int) - (k : Int)) ∧ y = .int .u64 (sh0 4294967296 x k : Nat)) (fun _ i => (intOf i).toNat)
  case atStart => exact ⟨0, Nat.zero_le _, by simp, by rw [sh0_zero _ _ hx]⟩
  case round =>
    obtain ⟨k, hk, rfl, rfl⟩ := hrel
    have Hp := hide (sh0_step 4294967296 x k)
    have hlt := sh0_lt 4294967296 x k (by omega)
    obtain ⟨y, hy⟩ : ∃ y, y = sh0 4294967296 x k := ⟨_, rfl⟩
    rw [← hy] at hlt Hp ⊢
    have Hy := hide hy
    clear hy
    by_cases hkc : k < c
    · have hb : bits .and .u64 (2 * (y : Int)) 4294967295 = ((2 * y % 4294967296 : Nat) : Int) := by rw [mask32 _ (by omega) (by omega)]; omega
      go_wp2
      go_round
      case rel => exact ⟨k + 1, by omega, by go_num, by rw [unhide Hp]; simp⟩
      case measure => simp [intOf]; omega
    · have hkl : k = c := by omega
      subst hkl
      go_wp2
      go_ret
      exact ⟨by rw [← unhide Hy]; rfl, rfl⟩

set_option maxRecDepth 20000 in
theorem shift32_1p (x c : Nat) (w : World) (hx : x < 4294967296) (hc : c ≤ 31) (hs : x < 2147483648) :
    Calls Try.prog 18 #[.int .i64 1, .int .u64 (x : Int), .int .i64 (c : Int), .int .i64 32] w fun e w' => e = .returned (.int .u64 (sh1 4294967296 x c : Nat)) ∧ w' = w := by
  have hsg : bits .and .u64 ((x : Int) / 2147483648) 1 = 0 := by rw [mask1 _ (by omega) (by omega)]; omega
  go_enter Try.func18, Try.ntmps18
  go_wp2_with fail
  go_loop [1, 2] (fun y i => ∃ k : Nat, k ≤ c ∧ i = .int .i64 ((c : Int) - (k : Int)) ∧ y = .int .u64 (sh1 4294967296 x k : Nat)) (fun _ i => (intOf i).toNat)
  case atStart => exact ⟨0, Nat.zero_le _, by simp, by rw [sh1_zero _ _ hx]⟩
  case round =>
    obtain ⟨k, hk, rfl, rfl⟩ := hrel
    have Hp := hide (sh1_pos 4294967296 x k (by omega))
    have hlt := sh1_lt 4294967296 x k (by omega) hx
    obtain ⟨y, hy⟩ : ∃ y, y = sh1 4294967296 x k := ⟨_, rfl⟩
    rw [← hy] at hlt Hp ⊢
    have Hy := hide hy
    clear hy
    by_cases hkc : k < c
    · skip
      go_wp2
      go_round
      case rel => exact ⟨k + 1, by omega, by go_num, by rw [unhide Hp]; simp⟩
      case measure => simp [intOf]; omega
    · have hkl : k = c := by omega
      subst hkl
      go_wp2
      go_ret
      exact ⟨by rw [← unhide Hy]; rfl, rfl⟩

set_option maxRecDepth 20000 in
theorem shift32_1n (x c : Nat) (w : World) (hx : x < 4294967296) (hc : c ≤ 31) (hs : 2147483648 ≤ x) :
    Calls Try.prog 18 #[.int .i64 1, .int .u64 (x : Int), .int .i64 (c : Int), .int .i64 32] w fun e w' => e = .returned (.int .u64 (sh1 4294967296 x c : Nat)) ∧ w' = w := by
  have hsg : bits .and .u64 ((x : Int) / 2147483648) 1 = 1 := by rw [mask1 _ (by omega) (by omega)]; omega
  go_enter Try.func18, Try.ntmps18
  go_wp2_with fail
  go_loop [1, 2] (fun y i => ∃ k : Nat, k ≤ c ∧ i = .int .i64 ((c : Int) - (k : Int)) ∧ y = .int .u64 (sh1 4294967296 x k : Nat)) (fun _ i => (intOf i).toNat)
  case atStart => exact ⟨0, Nat.zero_le _, by simp, by rw [sh1_zero _ _ hx]⟩
  case round =>
    obtain ⟨k, hk, rfl, rfl⟩ := hrel
    have Hp := hide (sh1_neg 2147483648 x k hs hx)
    have hlt := sh1_lt 4294967296 x k (by omega) hx
    obtain ⟨y, hy⟩ : ∃ y, y = sh1 4294967296 x k := ⟨_, rfl⟩
    rw [← hy] at hlt Hp ⊢
    have Hy := hide hy
    clear hy
    by_cases hkc : k < c
    · skip
      go_wp2
      go_round
      case rel => exact ⟨k + 1, by omega, by go_num, by rw [unhide Hp]; simp⟩
      case measure => simp [intOf]; omega
    · have hkl : k = c := by omega
      subst hkl
      go_wp2
      go_ret
      exact ⟨by rw [← unhide Hy]; rfl, rfl⟩

set_option maxRecDepth 20000 in
theorem shift32_2 (x c : Nat) (w : World) (hx : x < 4294967296) (hc : c ≤ 31) :
    Calls Try.prog 18 #[.int .i64 2, .int .u64 (x : Int), .int .i64 (c : Int), .int .i64 32] w fun e w' => e = .returned (.int .u64 (sh2 4294967296 x c : Nat)) ∧ w' = w := by
  have hsg : bits .and .u64 ((x : Int) / 2147483648) 1 = ((x : Int) / 2147483648 % 2) := by rw [mask1 _ (by omega) (by omega)]
  go_enter Try.func18, Try.ntmps18
  go_wp2_with fail
  go_loop [1, 2] (fun y i => ∃ k : Nat, k ≤ c ∧ i = .int .i64 ((c : Int) - (k : Int)) ∧ y = .int .u64 (sh2 4294967296 x k : Nat)) (fun _ i => (intOf i).toNat)
  case atStart => exact ⟨0, Nat.zero_le _, by simp, by rw [sh2_zero _ _]⟩
  case round =>
    obtain ⟨k, hk, rfl, rfl⟩ := hrel
    have Hp := hide (sh2_step 4294967296 x k)
    have hlt := sh2_lt 4294967296 x k hx
    obtain ⟨y, hy⟩ : ∃ y, y = sh2 4294967296 x k := ⟨_, rfl⟩
    rw [← hy] at hlt Hp ⊢
    have Hy := hide hy
    clear hy
    by_cases hkc : k < c
    · skip
      go_wp2
      go_round
      case rel => exact ⟨k + 1, by omega, by go_num, by rw [unhide Hp]; simp⟩
      case measure => simp [intOf]; omega
    · have hkl : k = c := by omega
      subst hkl
      go_wp2
      go_ret
      exact ⟨by rw [← unhide Hy]; rfl, rfl⟩

set_option maxRecDepth 20000 in
theorem shift64_0 (x c : Nat) (w : World) (hx : x < 18446744073709551616) (hc : c ≤ 63) :
    Calls Try.prog 18 #[.int .i64 0, .int .u64 (x : Int), .int .i64 (c : Int), .int .i64 64] w fun e w' => e = .returned (.int .u64 (sh0 18446744073709551616 x c : Nat)) ∧ w' = w := by
  have hsg : bits .and .u64 ((x : Int) / 9223372036854775808) 1 = ((x : Int) / 9223372036854775808 % 2) := by rw [mask1 _ (by omega) (by omega)]
  have m0 : IntKind.u64.wrap 18446744073709551616 = 0 := by decide
  have m1 : IntKind.u64.wrap (-1) = 18446744073709551615 := by decide
  have m2 : IntKind.u64.wrap (0 - 1) = 18446744073709551615 := by decide
  go_enter Try.func18, Try.ntmps18
  go_wp2_with fail
  go_loop [1, 2] (fun y i => ∃ k : Nat, k ≤ c ∧ i = .int .i64 ((c : Int) - (k : Int)) ∧ y = .int .u64 (sh0 18446744073709551616 x k : Nat)) (fun _ i => (intOf i).toNat)
  case atStart => exact ⟨0, Nat.zero_le _, by simp, by rw [sh0_zero _ _ hx]⟩
  case round =>
    obtain ⟨k, hk, rfl, rfl⟩ := hrel
    have Hp := hide (sh0_step 18446744073709551616 x k)
    have hlt := sh0_lt 18446744073709551616 x k (by omega)
    obtain ⟨y, hy⟩ : ∃ y, y = sh0 18446744073709551616 x k := ⟨_, rfl⟩
    rw [← hy] at hlt Hp ⊢
    have Hy := hide hy
    clear hy
    by_cases hkc : k < c
    · have hb : bits .and .u64 (IntKind.u64.wrap (2 * (y : Int))) 18446744073709551615 = ((2 * y % 18446744073709551616 : Nat) : Int) := by rw [mask64']; omega
      go_wp2
      go_round
      case rel => exact ⟨k + 1, by omega, by go_num, by rw [unhide Hp]; simp⟩
      case measure => simp [intOf]; omega
    · have hkl : k = c := by omega
      subst hkl
      go_wp2
      go_ret
      exact ⟨by rw [← unhide Hy]; rfl, rfl⟩

set_option maxRecDepth 20000 in
theorem shift64_1p (x c : Nat) (w : World) (hx : x < 18446744073709551616) (hc : c ≤ 63) (hs : x < 9223372036854775808) :
    Calls Try.prog 18 #[.int .i64 1, .int .u64 (x : Int), .int .i64 (c : Int), .int .i64 64] w fun e w' => e = .returned (.int .u64 (sh1 18446744073709551616 x c : Nat)) ∧ w' = w := by
  have hsg : bits .and .u64 ((x : Int) / 9223372036854775808) 1 = 0 := by rw [mask1 _ (by omega) (by omega)]; omega
  have m0 : IntKind.u64.wrap 18446744073709551616 = 0 := by decide
  have m1 : IntKind.u64.wrap (-1) = 18446744073709551615 := by decide
  have m2 : IntKind.u64.wrap (0 - 1) = 18446744073709551615 := by decide
  go_enter Try.func18, Try.ntmps18
  go_wp2_with fail
  go_loop [1, 2] (fun y i => ∃ k : Nat, k ≤ c ∧ i = .int .i64 ((c : Int) - (k : Int)) ∧ y = .int .u64 (sh1 18446744073709551616 x k : Nat)) (fun _ i => (intOf i).toNat)
  case atStart => exact ⟨0, Nat.zero_le _, by simp, by rw [sh1_zero _ _ hx]⟩
  case round =>
    obtain ⟨k, hk, rfl, rfl⟩ := hrel
    have Hp := hide (sh1_pos 18446744073709551616 x k (by omega))
    have hlt := sh1_lt 18446744073709551616 x k (by omega) hx
    obtain ⟨y, hy⟩ : ∃ y, y = sh1 18446744073709551616 x k := ⟨_, rfl⟩
    rw [← hy] at hlt Hp ⊢
    have Hy := hide hy
    clear hy
    by_cases hkc : k < c
    · skip
      go_wp2
      go_round
      case rel => exact ⟨k + 1, by omega, by go_num, by rw [unhide Hp]; simp⟩
      case measure => simp [intOf]; omega
    · have hkl : k = c := by omega
      subst hkl
      go_wp2
      go_ret
      exact ⟨by rw [← unhide Hy]; rfl, rfl⟩

set_option maxRecDepth 20000 in
theorem shift64_1n (x c : Nat) (w : World) (hx : x < 18446744073709551616) (hc : c ≤ 63) (hs : 9223372036854775808 ≤ x) :
    Calls Try.prog 18 #[.int .i64 1, .int .u64 (x : Int), .int .i64 (c : Int), .int .i64 64] w fun e w' => e = .returned (.int .u64 (sh1 18446744073709551616 x c : Nat)) ∧ w' = w := by
  have hsg : bits .and .u64 ((x : Int) / 9223372036854775808) 1 = 1 := by rw [mask1 _ (by omega) (by omega)]; omega
  have m0 : IntKind.u64.wrap 18446744073709551616 = 0 := by decide
  have m1 : IntKind.u64.wrap (-1) = 18446744073709551615 := by decide
  have m2 : IntKind.u64.wrap (0 - 1) = 18446744073709551615 := by decide
  go_enter Try.func18, Try.ntmps18
  go_wp2_with fail
  go_loop [1, 2] (fun y i => ∃ k : Nat, k ≤ c ∧ i = .int .i64 ((c : Int) - (k : Int)) ∧ y = .int .u64 (sh1 18446744073709551616 x k : Nat)) (fun _ i => (intOf i).toNat)
  case atStart => exact ⟨0, Nat.zero_le _, by simp, by rw [sh1_zero _ _ hx]⟩
  case round =>
    obtain ⟨k, hk, rfl, rfl⟩ := hrel
    have Hp := hide (sh1_neg 9223372036854775808 x k hs hx)
    have hlt := sh1_lt 18446744073709551616 x k (by omega) hx
    obtain ⟨y, hy⟩ : ∃ y, y = sh1 18446744073709551616 x k := ⟨_, rfl⟩
    rw [← hy] at hlt Hp ⊢
    have Hy := hide hy
    clear hy
    by_cases hkc : k < c
    · skip
      go_wp2
      go_round
      case rel => exact ⟨k + 1, by omega, by go_num, by rw [unhide Hp]; simp⟩
      case measure => simp [intOf]; omega
    · have hkl : k = c := by omega
      subst hkl
      go_wp2
      go_ret
      exact ⟨by rw [← unhide Hy]; rfl, rfl⟩

set_option maxRecDepth 20000 in
theorem shift64_2 (x c : Nat) (w : World) (hx : x < 18446744073709551616) (hc : c ≤ 63) :
    Calls Try.prog 18 #[.int .i64 2, .int .u64 (x : Int), .int .i64 (c : Int), .int .i64 64] w fun e w' => e = .returned (.int .u64 (sh2 18446744073709551616 x c : Nat)) ∧ w' = w := by
  have hsg : bits .and .u64 ((x : Int) / 9223372036854775808) 1 = ((x : Int) / 9223372036854775808 % 2) := by rw [mask1 _ (by omega) (by omega)]
  have m0 : IntKind.u64.wrap 18446744073709551616 = 0 := by decide
  have m1 : IntKind.u64.wrap (-1) = 18446744073709551615 := by decide
  have m2 : IntKind.u64.wrap (0 - 1) = 18446744073709551615 := by decide
  go_enter Try.func18, Try.ntmps18
  go_wp2_with fail
  go_loop [1, 2] (fun y i => ∃ k : Nat, k ≤ c ∧ i = .int .i64 ((c : Int) - (k : Int)) ∧ y = .int .u64 (sh2 18446744073709551616 x k : Nat)) (fun _ i => (intOf i).toNat)
  case atStart => exact ⟨0, Nat.zero_le _, by simp, by rw [sh2_zero _ _]⟩
  case round =>
    obtain ⟨k, hk, rfl, rfl⟩ := hrel
    have Hp := hide (sh2_step 18446744073709551616 x k)
    have hlt := sh2_lt 18446744073709551616 x k hx
    obtain ⟨y, hy⟩ : ∃ y, y = sh2 18446744073709551616 x k := ⟨_, rfl⟩
    rw [← hy] at hlt Hp ⊢
    have Hy := hide hy
    clear hy
    by_cases hkc : k < c
    · skip
      go_wp2
      go_round
      case rel => exact ⟨k + 1, by omega, by go_num, by rw [unhide Hp]; simp⟩
      case measure => simp [intOf]; omega
    · have hkl : k = c := by omega
      subst hkl
      go_wp2
      go_ret
      exact ⟨by rw [← unhide Hy]; rfl, rfl⟩
end Go.Proofs.Ytjnelkpgdjphmaa

namespace Go.Proofs.Ytjnelkpgdjphmaa
open Go.RowKit
set_option linter.unusedVariables false

theorem mask5 (n : Int) (h0 : 0 ≤ n) (h1 : n < 18446744073709551616) : bits .and .u64 n 31 = n % 32 := by
  go_bits2
theorem mask6 (n : Int) (h0 : 0 ≤ n) (h1 : n < 18446744073709551616) : bits .and .u64 n 63 = n % 64 := by
  go_bits2

theorem neg_div (z c : Nat) : (-((z : Int) + 1)) / ((2 ^ c : Nat) : Int) = -(((z / 2 ^ c : Nat) : Int) + 1) := by
  have h : (0 : Int) < ((2 ^ c : Nat) : Int) := by exact_mod_cast Nat.two_pow_pos c
  have := Int.negSucc_ediv z h
  rw [Int.negSucc_eq] at this
  rw [this]
  rfl

theorem sar32 (s : Int) (x c : Nat) (hx : x < 4294967296) (hs : s = if x < 2147483648 then (x : Int) else (x : Int) - 4294967296) : s / ((2 ^ c : Nat) : Int) % 4294967296 = ((sh1 4294967296 x c : Nat) : Int) := by
  unfold sh1
  by_cases h : x < 2147483648
  · rw [if_pos h] at hs
    rw [if_pos (by omega), hs, ← Int.natCast_ediv]
    have := Nat.div_le_self x (2 ^ c)
    generalize x / 2 ^ c = q at *
    omega
  · rw [if_neg h] at hs
    rw [if_neg (by omega), hs]
    have e : (x : Int) - 4294967296 = -(((4294967296 - 1 - x : Nat) : Int) + 1) := by omega
    rw [e, neg_div]
    have := Nat.div_le_self (4294967296 - 1 - x) (2 ^ c)
    generalize (4294967296 - 1 - x) / 2 ^ c = q at *
    omega

theorem sar64 (s : Int) (x c : Nat) (hx : x < 18446744073709551616) (hs : s = if x < 9223372036854775808 then (x : Int) else (x : Int) - 18446744073709551616) : s / ((2 ^ c : Nat) : Int) % 18446744073709551616 = ((sh1 18446744073709551616 x c : Nat) : Int) := by
  unfold sh1
  by_cases h : x < 9223372036854775808
  · rw [if_pos h] at hs
    rw [if_pos (by omega), hs, ← Int.natCast_ediv]
    have := Nat.div_le_self x (2 ^ c)
    generalize x / 2 ^ c = q at *
    omega
  · rw [if_neg h] at hs
    rw [if_neg (by omega), hs]
    have e : (x : Int) - 18446744073709551616 = -(((18446744073709551616 - 1 - x : Nat) : Int) + 1) := by omega
    rw [e, neg_div]
    have := Nat.div_le_self (18446744073709551616 - 1 - x) (2 ^ c)
    generalize (18446744073709551616 - 1 - x) / 2 ^ c = q at *
    omega

theorem e120 (a c : Nat) (hc : c < 32) : ((a : Int) % 4294967296 * 2 ^ min c 32 % 4294967296 : Int) = ((sh0 4294967296 (a % 4294967296) c : Nat) : Int) := by
  rw [Nat.min_eq_left (by omega)]
  unfold sh0
  rw [Int.natCast_emod, Int.natCast_mul, Int.natCast_emod, Int.natCast_pow]
  rfl
theorem e121 (a c : Nat) (hc : c < 64) (ha : a < 18446744073709551616) : IntKind.u64.wrap ((a : Int) * 2 ^ min c 64) = ((sh0 18446744073709551616 (a % 18446744073709551616) c : Nat) : Int) := by
  rw [Nat.min_eq_left (by omega), IntKind.wrap_u64, Nat.mod_eq_of_lt ha]
  unfold sh0
  rw [Int.natCast_emod, Int.natCast_mul, Int.natCast_pow]
  rfl
theorem e122 (a c : Nat) (hc : c < 32) : (wrap32 (a : Int) / 2 ^ min c 32 % 4294967296 : Int) = ((sh1 4294967296 (a % 4294967296) c : Nat) : Int) := by
  rw [Nat.min_eq_left (by omega)]
  have := sar32 (wrap32 (a : Int)) (a % 4294967296) c (by omega) (by unfold wrap32; split <;> omega)
  rw [← this]
  push_cast
  rfl
theorem e123 (a c : Nat) (hc : c < 64) (ha : a < 18446744073709551616) : IntKind.u64.wrap (wrap64 (a : Int) / 2 ^ min c 64) = ((sh1 18446744073709551616 (a % 18446744073709551616) c : Nat) : Int) := by
  rw [Nat.min_eq_left (by omega), IntKind.wrap_u64]
  have := sar64 (wrap64 (a : Int)) (a % 18446744073709551616) c (by omega) (by unfold wrap64; split <;> omega)
  rw [← this]
  push_cast
  rfl
theorem e124 (a c : Nat) (hc : c < 32) : IntKind.u64.wrap ((a : Int) % 4294967296 / 2 ^ min c 32) = ((sh2 4294967296 (a % 4294967296) c : Nat) : Int) := by
  rw [Nat.min_eq_left (by omega), IntKind.wrap_u64]
  unfold sh2
  have h : ((a : Int) % 4294967296 / 2 ^ c) = ((a % 4294967296 / 2 ^ c : Nat) : Int) := by rw [Int.natCast_ediv, Int.natCast_emod, Int.natCast_pow]; rfl
  rw [h]
  have := Nat.div_le_self (a % 4294967296) (2 ^ c)
  generalize a % 4294967296 / 2 ^ c = q at *
  omega
theorem e125 (a c : Nat) (hc : c < 64) (ha : a < 18446744073709551616) : (a : Int) / 2 ^ min c 64 = ((sh2 18446744073709551616 (a % 18446744073709551616) c : Nat) : Int) := by
  rw [Nat.min_eq_left (by omega), Nat.mod_eq_of_lt ha]
  unfold sh2
  push_cast
  rfl

set_option maxRecDepth 20000 in
theorem moved_120 (a b : Nat) (w : World) (ha : a < 18446744073709551616) (hb : b < 18446744073709551616) :
    Calls Try.prog 11 #[.int .u8 120, .int .u64 (a : Int), .int .u64 (b : Int)] w fun e w' => e = .returned (.int .u64 (sh0 4294967296 (a % 4294967296) (b % 32) : Nat)) ∧ w' = w := by
  obtain ⟨c, hc⟩ : ∃ c, c = b % 32 := ⟨_, rfl⟩
  have hm : bits .and .u64 (b : Int) 31 = (c : Int) := by rw [mask5 _ (by omega) (by omega)]; omega
  rw [← hc]
  have hc' : c < 32 := by omega
  clear hc hb
  have He := hide (e120 a c hc')
  clear hc'
  generalize sh0 4294967296 (a % 4294967296) c = res at *
  go_enter Try.func11, Try.ntmps11
  go_wp2_with fail
  skip
  go_ret
  exact ⟨congrArg (fun v => Ending.returned (Value.int .u64 v)) (unhide He), rfl⟩

set_option maxRecDepth 20000 in
theorem moved_121 (a b : Nat) (w : World) (ha : a < 18446744073709551616) (hb : b < 18446744073709551616) :
    Calls Try.prog 11 #[.int .u8 121, .int .u64 (a : Int), .int .u64 (b : Int)] w fun e w' => e = .returned (.int .u64 (sh0 18446744073709551616 (a % 18446744073709551616) (b % 64) : Nat)) ∧ w' = w := by
  obtain ⟨c, hc⟩ : ∃ c, c = b % 64 := ⟨_, rfl⟩
  have hm : bits .and .u64 (b : Int) 63 = (c : Int) := by rw [mask6 _ (by omega) (by omega)]; omega
  rw [← hc]
  have hc' : c < 64 := by omega
  clear hc hb
  have He := hide (e121 a c hc' ha)
  clear hc'
  generalize sh0 18446744073709551616 (a % 18446744073709551616) c = res at *
  go_enter Try.func11, Try.ntmps11
  go_wp2_with fail
  skip
  go_ret
  exact ⟨congrArg (fun v => Ending.returned (Value.int .u64 v)) (unhide He), rfl⟩

set_option maxRecDepth 20000 in
theorem moved_122 (a b : Nat) (w : World) (ha : a < 18446744073709551616) (hb : b < 18446744073709551616) :
    Calls Try.prog 11 #[.int .u8 122, .int .u64 (a : Int), .int .u64 (b : Int)] w fun e w' => e = .returned (.int .u64 (sh1 4294967296 (a % 4294967296) (b % 32) : Nat)) ∧ w' = w := by
  obtain ⟨c, hc⟩ : ∃ c, c = b % 32 := ⟨_, rfl⟩
  have hm : bits .and .u64 (b : Int) 31 = (c : Int) := by rw [mask5 _ (by omega) (by omega)]; omega
  rw [← hc]
  have hc' : c < 32 := by omega
  clear hc hb
  have He := hide (e122 a c hc')
  clear hc'
  generalize sh1 4294967296 (a % 4294967296) c = res at *
  go_enter Try.func11, Try.ntmps11
  go_wp2_with fail
  go_at_call 31; refine (ofInt_any _ _).mono ?_; rintro e w1 ⟨rfl, rfl⟩; go_wp2
  go_ret
  exact ⟨congrArg (fun v => Ending.returned (Value.int .u64 v)) (unhide He), rfl⟩

set_option maxRecDepth 20000 in
theorem moved_123 (a b : Nat) (w : World) (ha : a < 18446744073709551616) (hb : b < 18446744073709551616) :
    Calls Try.prog 11 #[.int .u8 123, .int .u64 (a : Int), .int .u64 (b : Int)] w fun e w' => e = .returned (.int .u64 (sh1 18446744073709551616 (a % 18446744073709551616) (b % 64) : Nat)) ∧ w' = w := by
  obtain ⟨c, hc⟩ : ∃ c, c = b % 64 := ⟨_, rfl⟩
  have hm : bits .and .u64 (b : Int) 63 = (c : Int) := by rw [mask6 _ (by omega) (by omega)]; omega
  rw [← hc]
  have hc' : c < 64 := by omega
  clear hc hb
  have He := hide (e123 a c hc' ha)
  clear hc'
  generalize sh1 18446744073709551616 (a % 18446744073709551616) c = res at *
  go_enter Try.func11, Try.ntmps11
  go_wp2_with fail
  skip
  go_ret
  exact ⟨congrArg (fun v => Ending.returned (Value.int .u64 v)) (unhide He), rfl⟩

set_option maxRecDepth 20000 in
theorem moved_124 (a b : Nat) (w : World) (ha : a < 18446744073709551616) (hb : b < 18446744073709551616) :
    Calls Try.prog 11 #[.int .u8 124, .int .u64 (a : Int), .int .u64 (b : Int)] w fun e w' => e = .returned (.int .u64 (sh2 4294967296 (a % 4294967296) (b % 32) : Nat)) ∧ w' = w := by
  obtain ⟨c, hc⟩ : ∃ c, c = b % 32 := ⟨_, rfl⟩
  have hm : bits .and .u64 (b : Int) 31 = (c : Int) := by rw [mask5 _ (by omega) (by omega)]; omega
  rw [← hc]
  have hc' : c < 32 := by omega
  clear hc hb
  have He := hide (e124 a c hc')
  clear hc'
  generalize sh2 4294967296 (a % 4294967296) c = res at *
  go_enter Try.func11, Try.ntmps11
  go_wp2_with fail
  skip
  go_ret
  exact ⟨congrArg (fun v => Ending.returned (Value.int .u64 v)) (unhide He), rfl⟩

set_option maxRecDepth 20000 in
theorem moved_125 (a b : Nat) (w : World) (ha : a < 18446744073709551616) (hb : b < 18446744073709551616) :
    Calls Try.prog 11 #[.int .u8 125, .int .u64 (a : Int), .int .u64 (b : Int)] w fun e w' => e = .returned (.int .u64 (sh2 18446744073709551616 (a % 18446744073709551616) (b % 64) : Nat)) ∧ w' = w := by
  obtain ⟨c, hc⟩ : ∃ c, c = b % 64 := ⟨_, rfl⟩
  have hm : bits .and .u64 (b : Int) 63 = (c : Int) := by rw [mask6 _ (by omega) (by omega)]; omega
  rw [← hc]
  have hc' : c < 64 := by omega
  clear hc hb
  have He := hide (e125 a c hc' ha)
  clear hc'
  generalize sh2 18446744073709551616 (a % 18446744073709551616) c = res at *
  go_enter Try.func11, Try.ntmps11
  go_wp2_with fail
  skip
  go_ret
  exact ⟨congrArg (fun v => Ending.returned (Value.int .u64 v)) (unhide He), rfl⟩

/-- Bit by bit. -/
def jn (op a b : Nat) : Int := if op = 126 ∨ op = 127 then bits .and .u64 (a : Int) (b : Int) else if op = 128 ∨ op = 129 then bits .or .u64 (a : Int) (b : Int) else bits .xor .u64 (a : Int) (b : Int)

theorem joined_any (op a b : Nat) (w : World) (hop : 126 ≤ op ∧ op ≤ 131) :
    Calls Try.prog 12 #[.int .u8 (op : Int), .int .u64 (a : Int), .int .u64 (b : Int)] w fun e w' => e = .returned (.int .u64 (jn op a b)) ∧ w' = w := by
  rcases (show op = 126 ∨ op = 127 ∨ op = 128 ∨ op = 129 ∨ op = 130 ∨ op = 131 by omega) with rfl | rfl | rfl | rfl | rfl | rfl
  all_goals
    go_enter Try.func12, Try.ntmps12
    go_wp2
    go_ret
    exact ⟨rfl, rfl⟩

/-- Which comes first: -1 (as an int's bits), 0, 1. -/
def ordV (o : Ordering) : Int := match o with | .lt => 4294967295 | .eq => 0 | .gt => 1

theorem order39_any (x y : Int) (w : World) :
    Calls Try.prog 39 #[.int .i64 x, .int .i64 y, .int .i32 0] w fun e w' => ∃ v, e = .returned (.int .i32 v) ∧ v % 4294967296 = ordV (compare x y) ∧ w' = w := by
  rcases Int.lt_trichotomy x y with h | h | h
  · have hc : compare x y = .lt := by simp [compare, compareOfLessAndEq, h]
    rw [hc]
    clear hc
    go_enter Try.func39, Try.ntmps39
    go_wp2
    go_ret
    exact ⟨_, rfl, rfl, rfl⟩
  · subst h
    have hc : compare x x = .eq := by simp [compare, compareOfLessAndEq]
    rw [hc]
    clear hc
    go_enter Try.func39, Try.ntmps39
    go_wp2
    go_ret
    exact ⟨_, rfl, rfl, rfl⟩
  · have hc : compare x y = .gt := by simp [compare, compareOfLessAndEq, Int.not_lt.2 (Int.le_of_lt h), show ¬ x = y by omega]
    rw [hc]
    clear hc
    go_enter Try.func39, Try.ntmps39
    go_wp2
    all_goals first | omega | skip
    go_ret
    exact ⟨_, rfl, rfl, rfl⟩

theorem rorder_any (l s : Bool) (w : World) :
    Calls Try.prog 19 #[.bool l, .bool s] w fun e w' => e = .returned (.int .u64 (if s then 0 else if l then 4294967295 else 1)) ∧ w' = w := by
  cases l <;> cases s
  all_goals
    go_enter Try.func19, Try.ntmps19
    go_wp2
    go_ret
    exact ⟨rfl, rfl⟩
end Go.Proofs.Ytjnelkpgdjphmaa

namespace Go.Proofs.Ytjnelkpgdjphmaa
open Go.RowKit
set_option linter.unusedVariables false

theorem f32from (n : Int) (w : World) : (callFunc 59 #[.int .u32 n]).run Try.prog w = .ok (.value (.float .f32 n.toNat)) w := by
  rw [run_callFunc_extern (e := Extern.MathFloatBits.float32frombits) Try.func59 (by kernel_rfl) (by kernel_rfl) (by kernel_rfl) (by kernel_rfl)]; rfl
theorem f64from (n : Int) (w : World) : (callFunc 61 #[.int .u64 n]).run Try.prog w = .ok (.value (.float .f64 n.toNat)) w := by
  rw [run_callFunc_extern (e := Extern.MathFloatBits.float64frombits) Try.func61 (by kernel_rfl) (by kernel_rfl) (by kernel_rfl) (by kernel_rfl)]; rfl
theorem f32bits (b : Nat) (w : World) : (callFunc 57 #[.float .f32 b]).run Try.prog w = .ok (.value (.int .u32 b)) w := by
  rw [run_callFunc_extern (e := Extern.MathFloatBits.float32bits) Try.func57 (by kernel_rfl) (by kernel_rfl) (by kernel_rfl) (by kernel_rfl)]; rfl
theorem f64bits (b : Nat) (w : World) : (callFunc 60 #[.float .f64 b]).run Try.prog w = .ok (.value (.int .u64 b)) w := by
  rw [run_callFunc_extern (e := Extern.MathFloatBits.float64bits) Try.func60 (by kernel_rfl) (by kernel_rfl) (by kernel_rfl) (by kernel_rfl)]; rfl

theorem toFloat_any (a : Nat) (w : World) :
    Calls Try.prog 35 #[.int .u64 (a : Int)] w fun e w' => e = .returned (.float .f32 (a % 4294967296)) ∧ w' = w := by
  have h := f32from ((a : Int) % 4294967296)
  have ht : ((a : Int) % 4294967296).toNat = a % 4294967296 := by omega
  rw [ht] at h
  clear ht
  go_enter Try.func35, Try.ntmps35
  go_wp2
  go_ret
  exact ⟨rfl, rfl⟩

theorem toDouble_any (a : Nat) (w : World) :
    Calls Try.prog 38 #[.int .u64 (a : Int)] w fun e w' => e = .returned (.float .f64 a) ∧ w' = w := by
  have h := f64from (a : Int)
  rw [Int.toNat_natCast] at h
  go_enter Try.func38, Try.ntmps38
  go_wp2
  go_ret
  exact ⟨rfl, rfl⟩

theorem f32fmt : FloatKind.f32.format = Ieee.single := rfl
theorem f64fmt : FloatKind.f64.format = Ieee.double := rfl

theorem ofFloat_nan (a : Nat) (w : World) (h : Ieee.single.order a a = none) :
    Calls Try.prog 33 #[.float .f32 a] w fun e w' => e = .returned (.int .u64 2143289344) ∧ w' = w := by
  rw [← f32fmt] at h
  go_enter Try.func33, Try.ntmps33
  go_wp2
  go_ret
  exact ⟨rfl, rfl⟩
theorem ofFloat_num (a : Nat) (w : World) (h : Ieee.single.order a a = some .eq) (ha : a < 4294967296) :
    Calls Try.prog 33 #[.float .f32 a] w fun e w' => e = .returned (.int .u64 (a : Int)) ∧ w' = w := by
  rw [← f32fmt] at h
  have h2 := f32bits a
  go_enter Try.func33, Try.ntmps33
  go_wp2
  go_ret
  exact ⟨rfl, rfl⟩
theorem ofDouble_nan (a : Nat) (w : World) (h : Ieee.double.order a a = none) :
    Calls Try.prog 36 #[.float .f64 a] w fun e w' => e = .returned (.int .u64 9221120237041090560) ∧ w' = w := by
  rw [← f64fmt] at h
  go_enter Try.func36, Try.ntmps36
  go_wp2
  go_ret
  exact ⟨rfl, rfl⟩
theorem ofDouble_num (a : Nat) (w : World) (h : Ieee.double.order a a = some .eq) :
    Calls Try.prog 36 #[.float .f64 a] w fun e w' => e = .returned (.int .u64 (a : Int)) ∧ w' = w := by
  rw [← f64fmt] at h
  have h2 := f64bits a
  go_enter Try.func36, Try.ntmps36
  go_wp2
  go_ret
  exact ⟨rfl, rfl⟩

/-- The two kinds. -/
def ks : Value := .agg #[.int .i64 23, .int .i64 8]
def kd : Value := .agg #[.int .i64 52, .int .i64 11]

theorem single_any (w : World) :
    Calls Try.prog 15 #[] w fun e w' => e = .returned (.agg #[.int .i64 23, .int .i64 8]) ∧ Grown w w' := by
  go_enter Try.func15, Try.ntmps15
  go_wp2
  refine bodyPost_ret (v := .agg #[.int .i64 23, .int .i64 8]) (by simp [results, Try.results15, go_sem]) rfl ?_
  exact ⟨rfl, by repeat (first | exact Grown.refl _ | apply Grown.drew | apply Grown.alloc)⟩
theorem double_any (w : World) :
    Calls Try.prog 17 #[] w fun e w' => e = .returned (.agg #[.int .i64 52, .int .i64 11]) ∧ Grown w w' := by
  go_enter Try.func17, Try.ntmps17
  go_wp2
  refine bodyPost_ret (v := .agg #[.int .i64 52, .int .i64 11]) (by simp [results, Try.results17, go_sem]) rfl ?_
  exact ⟨rfl, by repeat (first | exact Grown.refl _ | apply Grown.drew | apply Grown.alloc)⟩

set_option maxRecDepth 20000 in
theorem least32 (w : World) :
    Calls Try.prog 62 #[.agg #[.int .i64 23, .int .i64 8]] w fun e w' => e = .returned (.int .i64 (-149)) ∧ Grown w w' := by
  have a1 : IntKind.i64.wrap 7 = 7 := by decide
  have a2 : IntKind.i64.wrap 128 = 128 := by decide
  have a3 : IntKind.i64.wrap (-126) = -126 := by decide
  have a4 : IntKind.i64.wrap (-149) = -149 := by decide
  go_enter Try.func62, Try.ntmps62
  go_wp2
  go_region
  go_simp
  go_wp2
  go_ret
  exact ⟨rfl, by repeat (first | exact Grown.refl _ | apply Grown.drew | apply Grown.alloc)⟩

set_option maxRecDepth 20000 in
theorem nan32 (w : World) :
    Calls Try.prog 52 #[.agg #[.int .i64 23, .int .i64 8]] w fun e w' => e = .returned (.int .u64 2143289344) ∧ Grown w w' := by
  have a1 : IntKind.i64.wrap 9 = 9 := by decide
  have a2 : IntKind.i64.wrap 22 = 22 := by decide
  have a3 : IntKind.u64.wrap 512 = 512 := by decide
  have a4 : IntKind.u64.wrap 511 = 511 := by decide
  have a5 : IntKind.u64.wrap 2143289344 = 2143289344 := by decide
  go_enter Try.func52, Try.ntmps52
  go_wp2
  go_region
  go_simp
  go_wp2
  go_ret
  exact ⟨rfl, by repeat (first | exact Grown.refl _ | apply Grown.drew | apply Grown.alloc)⟩

set_option maxRecDepth 20000 in
theorem sign32 (neg : Bool) (w : World) :
    Calls Try.prog 53 #[.agg #[.int .i64 23, .int .i64 8], .bool neg] w fun e w' => e = .returned (.int .u64 (if neg then 2147483648 else 0)) ∧ Grown w w' := by
  have a1 : IntKind.i64.wrap 31 = 31 := by decide
  have a2 : IntKind.u64.wrap 2147483648 = 2147483648 := by decide
  cases neg
  · go_enter Try.func53, Try.ntmps53
    go_wp2
    go_ret
    exact ⟨rfl, by repeat (first | exact Grown.refl _ | apply Grown.drew | apply Grown.alloc)⟩
  · go_enter Try.func53, Try.ntmps53
    go_wp2
    go_ret
    exact ⟨rfl, by repeat (first | exact Grown.refl _ | apply Grown.drew | apply Grown.alloc)⟩

set_option maxRecDepth 20000 in
theorem least64 (w : World) :
    Calls Try.prog 62 #[.agg #[.int .i64 52, .int .i64 11]] w fun e w' => e = .returned (.int .i64 (-1074)) ∧ Grown w w' := by
  have a1 : IntKind.i64.wrap 10 = 10 := by decide
  have a2 : IntKind.i64.wrap 1024 = 1024 := by decide
  have a3 : IntKind.i64.wrap (-1022) = -1022 := by decide
  have a4 : IntKind.i64.wrap (-1074) = -1074 := by decide
  go_enter Try.func62, Try.ntmps62
  go_wp2
  go_region
  go_simp
  go_wp2
  go_ret
  exact ⟨rfl, by repeat (first | exact Grown.refl _ | apply Grown.drew | apply Grown.alloc)⟩

set_option maxRecDepth 20000 in
theorem nan64 (w : World) :
    Calls Try.prog 52 #[.agg #[.int .i64 52, .int .i64 11]] w fun e w' => e = .returned (.int .u64 9221120237041090560) ∧ Grown w w' := by
  have a1 : IntKind.i64.wrap 12 = 12 := by decide
  have a2 : IntKind.i64.wrap 51 = 51 := by decide
  have a3 : IntKind.u64.wrap 4096 = 4096 := by decide
  have a4 : IntKind.u64.wrap 4095 = 4095 := by decide
  have a5 : IntKind.u64.wrap 9221120237041090560 = 9221120237041090560 := by decide
  go_enter Try.func52, Try.ntmps52
  go_wp2
  go_region
  go_simp
  go_wp2
  go_ret
  exact ⟨rfl, by repeat (first | exact Grown.refl _ | apply Grown.drew | apply Grown.alloc)⟩

set_option maxRecDepth 20000 in
theorem sign64 (neg : Bool) (w : World) :
    Calls Try.prog 53 #[.agg #[.int .i64 52, .int .i64 11], .bool neg] w fun e w' => e = .returned (.int .u64 (if neg then 9223372036854775808 else 0)) ∧ Grown w w' := by
  have a1 : IntKind.i64.wrap 63 = 63 := by decide
  have a2 : IntKind.u64.wrap 9223372036854775808 = 9223372036854775808 := by decide
  cases neg
  · go_enter Try.func53, Try.ntmps53
    go_wp2
    go_ret
    exact ⟨rfl, by repeat (first | exact Grown.refl _ | apply Grown.drew | apply Grown.alloc)⟩
  · go_enter Try.func53, Try.ntmps53
    go_wp2
    go_ret
    exact ⟨rfl, by repeat (first | exact Grown.refl _ | apply Grown.drew | apply Grown.alloc)⟩
end Go.Proofs.Ytjnelkpgdjphmaa

namespace Go.Proofs.Ytjnelkpgdjphmaa
open Go.RowKit
set_option linter.unusedVariables false

theorem gtrans {a b c : World} (h1 : Grown a b) (h2 : Grown b c) : Grown a c :=
  ⟨World.keptBut_trans h1.1 h2.1, fun x => by rw [h2.2.1, h1.2.1], Nat.le_trans h1.2.2 h2.2.2⟩

/-- A block of cells. -/
def Bk (w : World) (g : Nat) (cs : Array Value) (t : TypeId) : Prop := w.heap[g]? = some (.cells cs t (0, 0))
section
variable {w w' : World} {g : Nat} {cs : Array Value} {t : TypeId}
theorem Bk.lt (h : Bk w g cs t) : g < w.heap.size := (Array.getElem?_eq_some_iff.1 h).1
theorem Bk.cell (h : Bk w g cs t) (i : Nat) : w.cell? ⟨g, i, none⟩ = cs[i]? := cell_of_row w g i _ t (0, 0) h
theorem Bk.frozen (h : Bk w g cs t) (i : Nat) : w.frozen? ⟨g, i, none⟩ = false := by
  unfold World.frozen?; unfold Bk at h; simp only [h]; simp
theorem Bk.grown (h : Bk w g cs t) (hg : Grown w w') : Bk w' g cs t := by
  have h2 := hg.1.2.2 g h.lt
  unfold Bk at h ⊢
  rw [h] at h2
  cases he : w'.heap[g]? with
  | none => rw [he] at h2; cases h2
  | some o =>
    rw [he] at h2
    cases o with
    | cells c t' fr =>
      obtain ⟨rfl, rfl, hs, hc⟩ := h2
      have : c = cs := Array.ext_getElem? (fun i => hc i (fun f => f))
      rw [this]
    | _ => cases h2
theorem Bk.new (w : World) (cs : Array Value) (t : TypeId) : Bk (w.alloc (.cells cs t)) w.heap.size cs t := heap_alloc_new _ _
theorem Bk.alloc (h : Bk w g cs t) (c : Array Value) (u : TypeId) : Bk (w.alloc (.cells c u)) g cs t := h.grown ((Grown.refl _).alloc c u)
theorem Bk.drew (h : Bk w g cs t) : Bk w.drew g cs t := h
theorem Bk.set (h : Bk w g cs t) (i : Nat) (v : Value) : Bk (w.setCell ⟨g, i, none⟩ v) g (cs.setIfInBounds i v) t := by
  unfold Bk; rw [heap_setCell_same w g i _ t _ h]
theorem size_setCell (w : World) (a : Addr) (v : Value) : (w.setCell a v).heap.size = w.heap.size := by simp
theorem Bk.other (h : Bk w g cs t) {b : Nat} (i : Nat) (v : Value) (hne : g ≠ b) : Bk (w.setCell ⟨b, i, none⟩ v) g cs t := by
  unfold Bk at h ⊢
  rw [Below.heap_setCell w ⟨b, i, none⟩ v g hne, h]
end
end Go.Proofs.Ytjnelkpgdjphmaa
