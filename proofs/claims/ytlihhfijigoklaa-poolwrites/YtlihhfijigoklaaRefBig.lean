/-
  jvmcoreref1's Big.
-/
import Derived.Test.YtlihhfijigoklaaWrite
namespace Go.Proofs.Ytlihhfijigoklaa
open Go.RowKit
theorem big_back (x n k : Nat) (hk : k < n) : (M.big x n).drop (n - (k + 1)) = UInt8.ofNat (x / 256 ^ k % 256) :: (M.big x n).drop (n - k) := by
  induction n generalizing x k with
  | zero => omega
  | succ n ih =>
    show (M.big (x / 256) n ++ [UInt8.ofNat (x % 256)]).drop _ = _ :: (M.big (x / 256) n ++ [UInt8.ofNat (x % 256)]).drop _
    have hl := M.big_len (x / 256) n
    cases k with
    | zero =>
      rw [show n + 1 - (0 + 1) = n by omega, Nat.sub_zero, List.drop_append_of_le_length (by omega), List.drop_of_length_le (by omega), List.drop_of_length_le (by simp; omega)]
      simp
    | succ k =>
      rw [show n + 1 - (k + 1 + 1) = n - (k + 1) by omega, show n + 1 - (k + 1) = n - k by omega, List.drop_append_of_le_length (by omega), List.drop_append_of_le_length (by omega), ih (x / 256) k (by omega), Nat.div_div_eq_div_mul, ← Nat.pow_succ']
      rfl
set_option maxRecDepth 100000 in
set_option maxHeartbeats 1000000 in
theorem Big_any (x n : Nat) (w : World) (hn : n ≤ 8) (hx : x < 2 ^ 64) :
    Calls Try.prog 32 #[.int .u64 (x : Int), .int .i64 (n : Int)] w fun e w' => e = .returned (.string ⟨(M.big x n).toArray⟩) ∧ Below w.heap.size w w' := by
  have hx2 : x ≤ 18446744073709551615 := by omega
  have Hx := hide hx
  clear hx
  go_enter Try.func32, Try.ntmps32
  go_wp2_with fail
  go_loopw [0, 1, 5] (fun y i v wr => ∃ k : Nat, k ≤ n ∧ i = .int .i64 ((n : Int) - (k : Int)) ∧ y = .int .u64 ((x / 256 ^ k : Nat) : Int) ∧ v = .string ⟨((M.big x n).drop (n - k)).toArray⟩ ∧ Below w.heap.size w wr) (fun _ i _ _ => (intOf i).toNat)
  case atStart => exact ⟨0, Nat.zero_le _, by simp, by simp, by rw [Nat.sub_zero, List.drop_of_length_le (by rw [M.big_len]; omega)], Below.refl _ _⟩
  case round =>
    obtain ⟨k, hk, rfl, rfl, rfl, hbe⟩ := hrel
    have hyx : x / 256 ^ k ≤ 18446744073709551615 := Nat.le_trans (Nat.div_le_self _ _) hx2
    by_cases hlt : k < n
    · have hbb := big_back x n k hlt
      have hdv : x / 256 ^ (k + 1) = x / 256 ^ k / 256 := by rw [Nat.pow_succ, Nat.div_div_eq_div_mul]
      have hbl : ((M.big x n).drop (n - k)).length ≤ 8 := by rw [List.length_drop, M.big_len]; omega
      obtain ⟨y, ey⟩ : ∃ y, y = x / 256 ^ k := ⟨_, rfl⟩
      obtain ⟨D, eD⟩ : ∃ D, D = (M.big x n).drop (n - k) := ⟨_, rfl⟩
      rw [← ey] at hyx hbb hdv ⊢
      rw [← eD] at hbb hbl ⊢
      have hcv := bytes_new wr [UInt8.ofNat (y % 256)] #[.int .u8 ((y : Int) % 256)] 1 (by simp only [List.map_cons, List.map_nil]; rw [of_lt (show y % 256 < 256 by omega)]; rfl) rfl
      have hcat := cat_text [UInt8.ofNat (y % 256)] D
      have Hbb := hide hbb
      have Hdv := hide hdv
      have Hcat := hide hcat
      clear ey eD hbb hdv hcat
      have hsz := hbe.size
      go_wp2
      go_roundw
      case rel => exact ⟨k + 1, by omega, by simp; omega, by rw [unhide Hdv]; rfl, by rw [unhide Hcat, unhide Hbb]; rfl, hbe.alloc hsz _⟩
      case measure => simp [intOf]; omega
    · have hkn : k = n := by omega
      subst hkn
      rw [Nat.sub_self, List.drop_zero]
      go_wp2
      go_ret
      exact ⟨rfl, hbe⟩
end Go.Proofs.Ytlihhfijigoklaa
