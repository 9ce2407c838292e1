import Derived.Test.YtjnelkpgdjphmaaPg
namespace Go.Proofs.Ytjnelkpgdjphmaa
open Go.RowKit
set_option linter.unusedVariables false
set_option linter.unusedSimpArgs false

/-- How many bits a number has. -/
def len (x : Nat) : Nat := if x = 0 then 0 else x.log2 + 1

theorem len_of (x k : Nat) (h0 : x / 2 ^ k = 0) (h1 : k = 0 ∨ x / 2 ^ (k - 1) ≠ 0) : k = len x := by
  unfold len
  have hk : x < 2 ^ k := by
    rcases Nat.div_eq_zero_iff.1 h0 with h | h
    · have := Nat.two_pow_pos k; omega
    · exact h
  rcases h1 with rfl | h1
  · rw [Nat.pow_zero] at hk
    rw [if_pos (by omega)]
  · have hx : x ≠ 0 := by
      intro h
      rw [h] at h1
      simp at h1
    rw [if_neg hx]
    have h2 : 2 ^ (k - 1) ≤ x := by
      apply Decidable.byContradiction
      intro hc
      exact h1 (Nat.div_eq_of_lt (by omega))
    have a := (Nat.le_log2 hx).2 h2
    have b := (Nat.log2_lt hx).2 hk
    omega

theorem len_le (x : Nat) (hx : x < 18446744073709551616) : len x ≤ 64 := by
  unfold len
  split
  · omega
  · rename_i h
    have := (Nat.log2_lt h).2 (show x < 2 ^ 64 by omega)
    omega

set_option maxRecDepth 20000 in
theorem length_any (x : Nat) (w : World) (hx : x < 18446744073709551616) :
    Calls Try.prog 55 #[.int .u64 (x : Int)] w fun e w' => e = .returned (.int .i64 (len x : Nat)) ∧ w' = w := by
  have hll := len_le x hx
  go_enter Try.func55, Try.ntmps55
  go_wp2_with fail
  go_loop [0, 3] (fun y i => ∃ k : Nat, i = .int .i64 (k : Nat) ∧ y = .int .u64 (x / 2 ^ k : Nat) ∧ k ≤ 64 ∧ (k = 0 ∨ x / 2 ^ (k - 1) ≠ 0)) (fun y _ => (intOf y).toNat)
  case atStart => exact ⟨0, rfl, by simp, by omega, .inl rfl⟩
  case round =>
    obtain ⟨k, rfl, rfl, hk, hr⟩ := hrel
    have Hr := hide hr
    clear hr
    obtain ⟨y, hy⟩ : ∃ y, y = x / 2 ^ k := ⟨_, rfl⟩
    have hstep : x / 2 ^ (k + 1) = y / 2 := by rw [hy, Nat.pow_succ, Nat.div_div_eq_div_mul]
    have hylt : y < 18446744073709551616 := by
      have := Nat.div_le_self x (2 ^ k)
      omega
    rw [← hy]
    have Hy := hide hy
    have Hs := hide hstep
    clear hy hstep
    by_cases hy0 : y = 0
    · subst hy0
      go_wp2
      go_ret
      exact ⟨by rw [← len_of x k (unhide Hy).symm (unhide Hr)]; rfl, rfl⟩
    · have hk64 : k < 64 := by
        have hy := unhide Hy
        apply Decidable.byContradiction
        intro hc
        have h64 : k = 64 := by omega
        subst h64
        have : x / 2 ^ 64 = 0 := Nat.div_eq_of_lt (by omega)
        omega
      go_wp2
      go_round
      case rel =>
        refine ⟨k + 1, by go_num, ?_, by omega, .inr ?_⟩
        · rw [unhide Hs]; simp
        · rw [Nat.add_sub_cancel, ← unhide Hy]; exact hy0
      case measure => simp [intOf]; omega

set_option maxRecDepth 20000 in
theorem inf32 (neg : Bool) (w : World) :
    Calls Try.prog 56 #[.agg #[.int .i64 23, .int .i64 8], .bool neg] w fun e w' => e = .returned (.int .u64 (Ieee.single.word neg 2139095040 : Nat)) ∧ Grown w w' := by
  have a1 : IntKind.u64.wrap 256 = 256 := by decide
  have a2 : IntKind.u64.wrap 255 = 255 := by decide
  have a3 : IntKind.u64.wrap 2139095040 = 2139095040 := by decide
  have a4 : IntKind.u64.wrap 4286578688 = 4286578688 := by decide
  have HS := hide (sign32 neg)
  have hk0 := Bk.new w #[.int .i64 23, .int .i64 8] 33
  have hg0 : Grown w (w.alloc (.cells #[.int .i64 23, .int .i64 8] 33)) := (Grown.refl w).alloc _ _
  cases neg
  · go_enter Try.func56, Try.ntmps56
    go_wp2_with fail
    go_region_held3 (fun w' => w'.cell? ⟨w.heap.size, 0, none⟩ = some (.int .i64 23) ∧ w'.cell? ⟨w.heap.size, 1, none⟩ = some (.int .i64 8)) (go_keep)
      ((go_at_call 53; refine (unhide HS _).mono ?_; rintro e w1 ⟨rfl, hg⟩; have hk1 := hk0.grown hg; have k1 := hk1.cell 0; have k2 := hk1.cell 1; simp at k1 k2; try simp only [Bool.false_eq_true, if_false, if_true]))
    go_wp2
    go_ret
    exact ⟨rfl, gtrans hg0 hg⟩
  · go_enter Try.func56, Try.ntmps56
    go_wp2_with fail
    go_region_held3 (fun w' => w'.cell? ⟨w.heap.size, 0, none⟩ = some (.int .i64 23) ∧ w'.cell? ⟨w.heap.size, 1, none⟩ = some (.int .i64 8)) (go_keep)
      ((go_at_call 53; refine (unhide HS _).mono ?_; rintro e w1 ⟨rfl, hg⟩; have hk1 := hk0.grown hg; have k1 := hk1.cell 0; have k2 := hk1.cell 1; simp at k1 k2; try simp only [Bool.false_eq_true, if_false, if_true]))
    go_wp2
    go_ret
    exact ⟨rfl, gtrans hg0 hg⟩

set_option maxRecDepth 20000 in
theorem inf64 (neg : Bool) (w : World) :
    Calls Try.prog 56 #[.agg #[.int .i64 52, .int .i64 11], .bool neg] w fun e w' => e = .returned (.int .u64 (Ieee.double.word neg 9218868437227405312 : Nat)) ∧ Grown w w' := by
  have a1 : IntKind.u64.wrap 2048 = 2048 := by decide
  have a2 : IntKind.u64.wrap 2047 = 2047 := by decide
  have a3 : IntKind.u64.wrap 9218868437227405312 = 9218868437227405312 := by decide
  have a4 : IntKind.u64.wrap 18442240474082181120 = 18442240474082181120 := by decide
  have HS := hide (sign64 neg)
  have hk0 := Bk.new w #[.int .i64 52, .int .i64 11] 33
  have hg0 : Grown w (w.alloc (.cells #[.int .i64 52, .int .i64 11] 33)) := (Grown.refl w).alloc _ _
  cases neg
  · go_enter Try.func56, Try.ntmps56
    go_wp2_with fail
    go_region_held3 (fun w' => w'.cell? ⟨w.heap.size, 0, none⟩ = some (.int .i64 52) ∧ w'.cell? ⟨w.heap.size, 1, none⟩ = some (.int .i64 11)) (go_keep)
      ((go_at_call 53; refine (unhide HS _).mono ?_; rintro e w1 ⟨rfl, hg⟩; have hk1 := hk0.grown hg; have k1 := hk1.cell 0; have k2 := hk1.cell 1; simp at k1 k2; try simp only [Bool.false_eq_true, if_false, if_true]))
    go_wp2
    go_ret
    exact ⟨rfl, gtrans hg0 hg⟩
  · go_enter Try.func56, Try.ntmps56
    go_wp2_with fail
    go_region_held3 (fun w' => w'.cell? ⟨w.heap.size, 0, none⟩ = some (.int .i64 52) ∧ w'.cell? ⟨w.heap.size, 1, none⟩ = some (.int .i64 11)) (go_keep)
      ((go_at_call 53; refine (unhide HS _).mono ?_; rintro e w1 ⟨rfl, hg⟩; have hk1 := hk0.grown hg; have k1 := hk1.cell 0; have k2 := hk1.cell 1; simp at k1 k2; try simp only [Bool.false_eq_true, if_false, if_true]))
    go_wp2
    go_ret
    exact ⟨rfl, gtrans hg0 hg⟩
end Go.Proofs.Ytjnelkpgdjphmaa
