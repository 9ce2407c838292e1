/-
  The leaves: unitSize, tailByte, leadByte of package pool.
-/
import Derived.Test.YtlihhfijigoklaaRows
import Derived.Test.YtlihhfijigoklaaMath
import Derived.WalkKit
import Derived.WalkSpells
import Derived.WalkLawsBesides
namespace Go.Proofs.Ytlihhfijigoklaa
open Go.RowKit

theorem and128 (n : Int) (h0 : 0 ≤ n) (h1 : n ≤ 255) : (bits BinOp.and IntKind.u8 n 128 == 0) = decide (n < 128) := by
  have h : ∀ k : Fin 256, (bits BinOp.and IntKind.u8 (k.val : Int) 128 == 0) = decide ((k.val : Int) < 128) := by decide +kernel
  have := h ⟨n.toNat, by omega⟩; rwa [show ((n.toNat : Nat) : Int) = n by omega] at this
theorem and224 (n : Int) (h0 : 0 ≤ n) (h1 : n ≤ 255) : (bits BinOp.and IntKind.u8 n 224 == 192) = decide (192 ≤ n ∧ n < 224) := by
  have h : ∀ k : Fin 256, (bits BinOp.and IntKind.u8 (k.val : Int) 224 == 192) = decide (192 ≤ (k.val : Int) ∧ (k.val : Int) < 224) := by decide +kernel
  have := h ⟨n.toNat, by omega⟩; rwa [show ((n.toNat : Nat) : Int) = n by omega] at this
theorem and240 (n : Int) (h0 : 0 ≤ n) (h1 : n ≤ 255) : (bits BinOp.and IntKind.u8 n 240 == 224) = decide (224 ≤ n ∧ n < 240) := by
  have h : ∀ k : Fin 256, (bits BinOp.and IntKind.u8 (k.val : Int) 240 == 224) = decide (224 ≤ (k.val : Int) ∧ (k.val : Int) < 240) := by decide +kernel
  have := h ⟨n.toNat, by omega⟩; rwa [show ((n.toNat : Nat) : Int) = n by omega] at this
theorem and192 (n : Int) (h0 : 0 ≤ n) (h1 : n ≤ 255) : (bits BinOp.and IntKind.u8 n 192 != 128) = !decide (128 ≤ n ∧ n < 192) := by
  have h : ∀ k : Fin 256, (bits BinOp.and IntKind.u8 (k.val : Int) 192 != 128) = !decide (128 ≤ (k.val : Int) ∧ (k.val : Int) < 192) := by decide +kernel
  have := h ⟨n.toNat, by omega⟩; rwa [show ((n.toNat : Nat) : Int) = n by omega] at this
theorem or128 (n : Int) (h0 : 0 ≤ n) (h1 : n < 64) : bits BinOp.or IntKind.u8 128 n = 128 + n := by
  have h : ∀ k : Fin 64, bits BinOp.or IntKind.u8 128 (k.val : Int) = 128 + (k.val : Int) := by decide +kernel
  have := h ⟨n.toNat, by omega⟩; rwa [show ((n.toNat : Nat) : Int) = n by omega] at this
theorem or192 (n : Int) (h0 : 0 ≤ n) (h1 : n < 32) : bits BinOp.or IntKind.u8 192 n = 192 + n := by
  have h : ∀ k : Fin 32, bits BinOp.or IntKind.u8 192 (k.val : Int) = 192 + (k.val : Int) := by decide +kernel
  have := h ⟨n.toNat, by omega⟩; rwa [show ((n.toNat : Nat) : Int) = n by omega] at this
theorem or224 (n : Int) (h0 : 0 ≤ n) (h1 : n < 16) : bits BinOp.or IntKind.u8 224 n = 224 + n := by
  have h : ∀ k : Fin 16, bits BinOp.or IntKind.u8 224 (k.val : Int) = 224 + (k.val : Int) := by decide +kernel
  have := h ⟨n.toNat, by omega⟩; rwa [show ((n.toNat : Nat) : Int) = n by omega] at this
theorem and63 (n : Int) (h0 : 0 ≤ n) (h1 : n ≤ 65535) : bits BinOp.and IntKind.u16 n 63 = n % 64 := by
  rw [u16_and n 63 h0 (by omega) (by omega) (by omega)]
  have := Nat.and_two_pow_sub_one_eq_mod n.toNat 6
  simp only [Nat.reducePow, Nat.reduceSub] at this
  rw [show (63 : Int).toNat = 63 from rfl, this]; omega
theorem or16 (a b : Int) (h0 : 0 ≤ a) (h1 : a ≤ 1023) (h2 : 0 ≤ b) (h3 : b < 64) : bits BinOp.or IntKind.u16 (a * 64) b = a * 64 + b := by
  rw [u16_or (a * 64) b (by omega) (by omega) (by omega) (by omega)]
  have := Nat.two_pow_add_eq_or_of_lt (i := 6) (b := b.toNat) (by omega) a.toNat
  simp only [Nat.reducePow] at this
  rw [show (a * 64).toNat = 64 * a.toNat by omega, ← this]; omega

set_option maxHeartbeats 400000 in
theorem unitSize_any (n : Nat) (w : World) (h1 : n < 65536) :
    Calls Try.prog 21 #[.int .u16 n] w fun e w' => e = .returned (.int .i64 (M.size n)) ∧ w' = w := by
  have hs : ((M.size n : Nat) : Int) = if 1 ≤ (n : Int) ∧ (n : Int) ≤ 127 then 1 else if (n : Int) ≤ 2047 then 2 else 3 := by
    unfold M.size; split <;> split <;> (try split) <;> (try split) <;> omega
  rw [hs]; clear hs
  go_enter Try.func21, Try.ntmps21
  go_wp2
  all_goals go_ret
  all_goals exact ⟨rfl, rfl⟩
set_option maxHeartbeats 400000 in
theorem tailByte_any (n : Int) (w : World) (h0 : 0 ≤ n) (h1 : n ≤ 65535) :
    Calls Try.prog 22 #[.int .u16 n] w fun e w' => e = .returned (.int .u8 (128 + n % 64)) ∧ w' = w := by
  have e1 := or128 (n % 64) (by omega) (by omega)
  have e2 := and63 n h0 h1
  have e3 : n % 64 % 256 = n % 64 := by omega
  go_enter Try.func22, Try.ntmps22
  go_wp2
  go_ret
  exact ⟨rfl, rfl⟩
/-- The first byte of a unit: its bits, and how many bytes the unit has by it. -/
def lead (n : Int) : Int × Int := if n < 128 then (n, 1) else if 192 ≤ n ∧ n < 224 then (n % 32, 2) else if 224 ≤ n ∧ n < 240 then (n % 16, 3) else (0, 0)
set_option maxHeartbeats 400000 in
theorem leadByte_any (n : Int) (w : World) (h0 : 0 ≤ n) (h1 : n ≤ 255) :
    Calls Try.prog 40 #[.int .u8 n] w fun e w' => e = .returned (.tuple #[.int .u16 (lead n).1, .int .i64 (lead n).2]) ∧ w' = w := by
  have e1 := and128 n h0 h1
  have e2 := and224 n h0 h1
  have e3 := and240 n h0 h1
  unfold lead
  by_cases a : n < 128
  · rw [if_pos a]; simp only [a, decide_true] at e1
    go_enter Try.func40, Try.ntmps40
    go_wp2
    go_ret2
    exact ⟨rfl, rfl⟩
  · rw [if_neg a]; simp only [a, decide_false] at e1
    by_cases b : 192 ≤ n ∧ n < 224
    · rw [if_pos b]; simp only [b, and_self, decide_true] at e2
      go_enter Try.func40, Try.ntmps40
      go_wp2
      go_ret2
      exact ⟨rfl, rfl⟩
    · rw [if_neg b]; rw [decide_eq_false b] at e2
      by_cases c : 224 ≤ n ∧ n < 240
      · rw [if_pos c]; simp only [c, and_self, decide_true] at e3
        clear b
        go_enter Try.func40, Try.ntmps40
        go_wp2
        go_ret2
        exact ⟨rfl, rfl⟩
      · rw [if_neg c]; rw [decide_eq_false c] at e3
        clear b c
        go_enter Try.func40, Try.ntmps40
        go_wp2
        go_ret2
        exact ⟨rfl, rfl⟩
end Go.Proofs.Ytlihhfijigoklaa
