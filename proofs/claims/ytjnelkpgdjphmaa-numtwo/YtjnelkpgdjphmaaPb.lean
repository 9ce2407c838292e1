import Derived.Test.YtjnelkpgdjphmaaPa
namespace Go.Proofs.Ytjnelkpgdjphmaa
open Go.RowKit
set_option linter.unusedVariables false

theorem mask32 (n : Int) (h0 : 0 ≤ n) (h1 : n < 18446744073709551616) : bits .and .u64 n 4294967295 = n % 4294967296 := by
  go_bits2

theorem mask32' (n : Int) : bits .and .u64 (IntKind.u64.wrap n) 4294967295 = n % 4294967296 := by
  rw [mask32 _ (by rw [IntKind.wrap_u64]; omega) (by rw [IntKind.wrap_u64]; omega), IntKind.wrap_u64]
  omega

theorem mask64 (n : Int) (h0 : 0 ≤ n) (h1 : n < 18446744073709551616) : bits .and .u64 n 18446744073709551615 = n := by
  obtain ⟨m, rfl⟩ := Int.eq_ofNat_of_zero_le h0
  rw [u64_and _ _ h0 h1 (by omega) (by omega)]
  have e : (18446744073709551615 : Int).toNat = 2 ^ 64 - 1 := by decide
  rw [e, Int.toNat_natCast, Nat.and_two_pow_sub_one_eq_mod, Nat.mod_eq_of_lt (by omega)]

theorem mask64' (n : Int) : bits .and .u64 (IntKind.u64.wrap n) 18446744073709551615 = n % 18446744073709551616 := by
  rw [mask64 _ (by rw [IntKind.wrap_u64]; omega) (by rw [IntKind.wrap_u64]; omega), IntKind.wrap_u64]

theorem whole32_a (k : Nat) (i j : Int) (w : World) (hk : k ≤ 2) (i0 : 0 ≤ i) (i1 : i < 4294967296) (j0 : 0 ≤ j) (j1 : j < 4294967296) :
    Calls Try.prog 14 #[.int .i64 (k : Int), .int .u64 i, .int .u64 j, .int .i64 32] w fun e w' => e = .returned (.int .u64 (wop k i j % 4294967296)) ∧ w' = w := by
  rcases (show k = 0 ∨ k = 1 ∨ k = 2 by omega) with rfl | rfl | rfl
  · go_enter Try.func14, Try.ntmps14
    go_wp2
    go_ret
    exact ⟨by rw [← mask32 _ (by show 0 ≤ i + j; omega) (by show i + j < _; omega)]; rfl, rfl⟩
  · go_enter Try.func14, Try.ntmps14
    go_wp2
    go_ret
    exact ⟨by rw [← mask32']; rfl, rfl⟩
  · go_enter Try.func14, Try.ntmps14
    go_wp2
    go_ret
    exact ⟨by rw [← mask32']; rfl, rfl⟩

theorem whole64_a (k : Nat) (i j : Int) (w : World) (hk : k ≤ 2) (i0 : 0 ≤ i) (i1 : i < 18446744073709551616) (j0 : 0 ≤ j) (j1 : j < 18446744073709551616) :
    Calls Try.prog 14 #[.int .i64 (k : Int), .int .u64 i, .int .u64 j, .int .i64 64] w fun e w' => e = .returned (.int .u64 (wop k i j % 18446744073709551616)) ∧ w' = w := by
  rcases (show k = 0 ∨ k = 1 ∨ k = 2 by omega) with rfl | rfl | rfl
  all_goals
    go_enter Try.func14, Try.ntmps14
    go_wp2
    go_ret
    exact ⟨by rw [← mask64']; rfl, rfl⟩

/-- A whole number as its size, with a sign. -/
theorem sized32 (i : Int) (i0 : 0 ≤ i) (i1 : i < 4294967296) : ∃ (X : Nat) (s : Bool), wrap32 i = (if s then -(X : Int) else (X : Int)) ∧ i / 2147483648 = (if s then 1 else 0) ∧ (s = true → bits .and .u64 (IntKind.u64.wrap (-i)) 4294967295 = (X : Int)) ∧ (s = false → i = (X : Int)) ∧ X < 4294967296 ∧ (i ≠ 0 → X ≠ 0) := by
  by_cases h : 2147483648 ≤ i
  · refine ⟨(4294967296 - i).toNat, true, ?_, ?_, ?_, ?_, ?_, ?_⟩
    · rw [if_pos rfl]; unfold wrap32; omega
    · rw [if_pos rfl]; omega
    · intro _; rw [mask32']; omega
    · intro h; cases h
    · omega
    · omega
  · refine ⟨i.toNat, false, ?_, ?_, ?_, ?_, ?_, ?_⟩
    · rw [if_neg (by simp)]; unfold wrap32; omega
    · rw [if_neg (by simp)]; omega
    · intro h; cases h
    · intro _; omega
    · omega
    · omega

theorem sized64 (i : Int) (i0 : 0 ≤ i) (i1 : i < 18446744073709551616) : ∃ (X : Nat) (s : Bool), wrap64 i = (if s then -(X : Int) else (X : Int)) ∧ i / 9223372036854775808 = (if s then 1 else 0) ∧ (s = true → bits .and .u64 (IntKind.u64.wrap (-i)) 18446744073709551615 = (X : Int)) ∧ (s = false → i = (X : Int)) ∧ X < 18446744073709551616 ∧ (i ≠ 0 → X ≠ 0) := by
  by_cases h : 9223372036854775808 ≤ i
  · refine ⟨(18446744073709551616 - i).toNat, true, ?_, ?_, ?_, ?_, ?_, ?_⟩
    · rw [if_pos rfl]; unfold wrap64; omega
    · rw [if_pos rfl]; omega
    · intro _; rw [mask64']; omega
    · intro h; cases h
    · omega
    · omega
  · refine ⟨i.toNat, false, ?_, ?_, ?_, ?_, ?_, ?_⟩
    · rw [if_neg (by simp)]; unfold wrap64; omega
    · rw [if_neg (by simp)]; omega
    · intro h; cases h
    · intro _; omega
    · omega
    · omega


theorem fin_a32 (X Y : Nat) : bits .and .u64 (IntKind.u64.wrap ((X : Int) / (Y : Int))) 4294967295 = ((X / Y : Nat) : Int) % 4294967296 := by
  rw [mask32', Int.natCast_ediv]
theorem fin_b32 (X Y : Nat) : bits .and .u64 (IntKind.u64.wrap (-(IntKind.u64.wrap ((X : Int) / (Y : Int))))) 4294967295 = (-((X / Y : Nat) : Int)) % 4294967296 := by
  rw [mask32', Int.natCast_ediv, IntKind.wrap_u64]
  omega
theorem fin_c32 (X Y : Nat) (h : X < 4294967296) : bits .and .u64 ((X : Int) % (Y : Int)) 4294967295 = ((X % Y : Nat) : Int) % 4294967296 := by
  have := Nat.mod_le X Y
  rw [← Int.natCast_emod, mask32 _ (by omega) (by omega)]
  try omega
theorem fin_d32 (X Y : Nat) : bits .and .u64 (IntKind.u64.wrap (-((X : Int) % (Y : Int)))) 4294967295 = (-((X % Y : Nat) : Int)) % 4294967296 := by
  rw [mask32', Int.natCast_emod]

set_option maxHeartbeats 1000000 in
set_option maxRecDepth 20000 in
theorem whole32_b (k : Nat) (i j : Int) (w : World) (hk : k = 3 ∨ k = 4) (i0 : 0 ≤ i) (i1 : i < 4294967296) (j0 : 0 < j) (j1 : j < 4294967296) :
    Calls Try.prog 14 #[.int .i64 (k : Int), .int .u64 i, .int .u64 j, .int .i64 32] w fun e w' => e = .returned (.int .u64 (wop k (wrap32 i) (wrap32 j) % 4294967296)) ∧ Grown w w' := by
  obtain ⟨X, s, hx, hs, bx, ex, lx, nx⟩ := sized32 i i0 i1
  obtain ⟨Y, t, hy, ht, byy, ey, ly, ny⟩ := sized32 j (by omega) j1
  have hY0 := ny (by omega)
  have hw3 : wop 3 (wrap32 i) (wrap32 j) = if (s ^^ t) then -((X / Y : Nat) : Int) else ((X / Y : Nat) : Int) := by
    rw [hx, hy]; exact Nm.tdiv_sgn X Y s t
  have hw4 : wop 4 (wrap32 i) (wrap32 j) = if s then -((X % Y : Nat) : Int) else ((X % Y : Nat) : Int) := by
    rw [hx, hy]; exact Nm.tmod_sgn X Y s t
  clear hx hy nx ny
  have H3 := hide hw3
  have H4 := hide hw4
  clear hw3 hw4
  have w31 : IntKind.i64.wrap 31 = 31 := by decide
  cases s <;> cases t <;> simp only [Bool.true_eq_false, Bool.false_eq_true, false_implies, forall_const, if_true, if_false] at bx ex byy ey hs ht
  all_goals rcases hk with rfl | rfl
  · subst ex ey
    go_enter Try.func14, Try.ntmps14
    go_wp2
    go_region
    go_simp
    go_wp2
    go_ret
    refine ⟨?_, by repeat (first | exact Grown.refl _ | apply Grown.drew | apply Grown.alloc)⟩
    rw [unhide H3]
    exact congrArg (fun v => Ending.returned (Value.int .u64 v)) (fin_a32 X Y)
  · subst ex ey
    go_enter Try.func14, Try.ntmps14
    go_wp2
    go_ret
    refine ⟨?_, by repeat (first | exact Grown.refl _ | apply Grown.drew | apply Grown.alloc)⟩
    rw [unhide H4]
    exact congrArg (fun v => Ending.returned (Value.int .u64 v)) (fin_c32 X Y lx)
  · subst ex
    go_enter Try.func14, Try.ntmps14
    go_wp2
    go_region
    go_simp
    go_wp2
    go_ret
    refine ⟨?_, by repeat (first | exact Grown.refl _ | apply Grown.drew | apply Grown.alloc)⟩
    rw [unhide H3]
    exact congrArg (fun v => Ending.returned (Value.int .u64 v)) (fin_b32 X Y)
  · subst ex
    go_enter Try.func14, Try.ntmps14
    go_wp2
    go_ret
    refine ⟨?_, by repeat (first | exact Grown.refl _ | apply Grown.drew | apply Grown.alloc)⟩
    rw [unhide H4]
    exact congrArg (fun v => Ending.returned (Value.int .u64 v)) (fin_c32 X Y lx)
  · subst ey
    go_enter Try.func14, Try.ntmps14
    go_wp2
    go_region
    go_simp
    go_wp2
    go_ret
    refine ⟨?_, by repeat (first | exact Grown.refl _ | apply Grown.drew | apply Grown.alloc)⟩
    rw [unhide H3]
    exact congrArg (fun v => Ending.returned (Value.int .u64 v)) (fin_b32 X Y)
  · subst ey
    go_enter Try.func14, Try.ntmps14
    go_wp2
    go_ret
    refine ⟨?_, by repeat (first | exact Grown.refl _ | apply Grown.drew | apply Grown.alloc)⟩
    rw [unhide H4]
    exact congrArg (fun v => Ending.returned (Value.int .u64 v)) (fin_d32 X Y)
  · skip
    go_enter Try.func14, Try.ntmps14
    go_wp2
    go_region
    go_simp
    go_wp2
    go_ret
    refine ⟨?_, by repeat (first | exact Grown.refl _ | apply Grown.drew | apply Grown.alloc)⟩
    rw [unhide H3]
    exact congrArg (fun v => Ending.returned (Value.int .u64 v)) (fin_a32 X Y)
  · skip
    go_enter Try.func14, Try.ntmps14
    go_wp2
    go_ret
    refine ⟨?_, by repeat (first | exact Grown.refl _ | apply Grown.drew | apply Grown.alloc)⟩
    rw [unhide H4]
    exact congrArg (fun v => Ending.returned (Value.int .u64 v)) (fin_d32 X Y)

theorem fin_a64 (X Y : Nat) : bits .and .u64 (IntKind.u64.wrap ((X : Int) / (Y : Int))) 18446744073709551615 = ((X / Y : Nat) : Int) % 18446744073709551616 := by
  rw [mask64', Int.natCast_ediv]
theorem fin_b64 (X Y : Nat) : bits .and .u64 (IntKind.u64.wrap (-(IntKind.u64.wrap ((X : Int) / (Y : Int))))) 18446744073709551615 = (-((X / Y : Nat) : Int)) % 18446744073709551616 := by
  rw [mask64', Int.natCast_ediv, IntKind.wrap_u64]
  omega
theorem fin_c64 (X Y : Nat) (h : X < 18446744073709551616) : bits .and .u64 ((X : Int) % (Y : Int)) 18446744073709551615 = ((X % Y : Nat) : Int) % 18446744073709551616 := by
  have := Nat.mod_le X Y
  rw [← Int.natCast_emod, mask64 _ (by omega) (by omega)]
  try omega
theorem fin_d64 (X Y : Nat) : bits .and .u64 (IntKind.u64.wrap (-((X : Int) % (Y : Int)))) 18446744073709551615 = (-((X % Y : Nat) : Int)) % 18446744073709551616 := by
  rw [mask64', Int.natCast_emod]

set_option maxHeartbeats 1000000 in
set_option maxRecDepth 20000 in
theorem whole64_b (k : Nat) (i j : Int) (w : World) (hk : k = 3 ∨ k = 4) (i0 : 0 ≤ i) (i1 : i < 18446744073709551616) (j0 : 0 < j) (j1 : j < 18446744073709551616) :
    Calls Try.prog 14 #[.int .i64 (k : Int), .int .u64 i, .int .u64 j, .int .i64 64] w fun e w' => e = .returned (.int .u64 (wop k (wrap64 i) (wrap64 j) % 18446744073709551616)) ∧ Grown w w' := by
  obtain ⟨X, s, hx, hs, bx, ex, lx, nx⟩ := sized64 i i0 i1
  obtain ⟨Y, t, hy, ht, byy, ey, ly, ny⟩ := sized64 j (by omega) j1
  have hY0 := ny (by omega)
  have hw3 : wop 3 (wrap64 i) (wrap64 j) = if (s ^^ t) then -((X / Y : Nat) : Int) else ((X / Y : Nat) : Int) := by
    rw [hx, hy]; exact Nm.tdiv_sgn X Y s t
  have hw4 : wop 4 (wrap64 i) (wrap64 j) = if s then -((X % Y : Nat) : Int) else ((X % Y : Nat) : Int) := by
    rw [hx, hy]; exact Nm.tmod_sgn X Y s t
  clear hx hy nx ny
  have H3 := hide hw3
  have H4 := hide hw4
  clear hw3 hw4
  have w31 : IntKind.i64.wrap 63 = 63 := by decide
  have m0 : IntKind.u64.wrap 18446744073709551616 = 0 := by decide
  have m1 : IntKind.u64.wrap (-1) = 18446744073709551615 := by decide
  have m2 : IntKind.u64.wrap (0 - 1) = 18446744073709551615 := by decide
  cases s <;> cases t <;> simp only [Bool.true_eq_false, Bool.false_eq_true, false_implies, forall_const, if_true, if_false] at bx ex byy ey hs ht
  all_goals rcases hk with rfl | rfl
  · subst ex ey
    go_enter Try.func14, Try.ntmps14
    go_wp2
    go_region
    go_simp
    go_wp2
    go_ret
    refine ⟨?_, by repeat (first | exact Grown.refl _ | apply Grown.drew | apply Grown.alloc)⟩
    rw [unhide H3]
    exact congrArg (fun v => Ending.returned (Value.int .u64 v)) (fin_a64 X Y)
  · subst ex ey
    go_enter Try.func14, Try.ntmps14
    go_wp2
    go_ret
    refine ⟨?_, by repeat (first | exact Grown.refl _ | apply Grown.drew | apply Grown.alloc)⟩
    rw [unhide H4]
    exact congrArg (fun v => Ending.returned (Value.int .u64 v)) (fin_c64 X Y lx)
  · subst ex
    go_enter Try.func14, Try.ntmps14
    go_wp2
    go_region
    go_simp
    go_wp2
    go_ret
    refine ⟨?_, by repeat (first | exact Grown.refl _ | apply Grown.drew | apply Grown.alloc)⟩
    rw [unhide H3]
    exact congrArg (fun v => Ending.returned (Value.int .u64 v)) (fin_b64 X Y)
  · subst ex
    go_enter Try.func14, Try.ntmps14
    go_wp2
    go_ret
    refine ⟨?_, by repeat (first | exact Grown.refl _ | apply Grown.drew | apply Grown.alloc)⟩
    rw [unhide H4]
    exact congrArg (fun v => Ending.returned (Value.int .u64 v)) (fin_c64 X Y lx)
  · subst ey
    go_enter Try.func14, Try.ntmps14
    go_wp2
    go_region
    go_simp
    go_wp2
    go_ret
    refine ⟨?_, by repeat (first | exact Grown.refl _ | apply Grown.drew | apply Grown.alloc)⟩
    rw [unhide H3]
    exact congrArg (fun v => Ending.returned (Value.int .u64 v)) (fin_b64 X Y)
  · subst ey
    go_enter Try.func14, Try.ntmps14
    go_wp2
    go_ret
    refine ⟨?_, by repeat (first | exact Grown.refl _ | apply Grown.drew | apply Grown.alloc)⟩
    rw [unhide H4]
    exact congrArg (fun v => Ending.returned (Value.int .u64 v)) (fin_d64 X Y)
  · skip
    go_enter Try.func14, Try.ntmps14
    go_wp2
    go_region
    go_simp
    go_wp2
    go_ret
    refine ⟨?_, by repeat (first | exact Grown.refl _ | apply Grown.drew | apply Grown.alloc)⟩
    rw [unhide H3]
    exact congrArg (fun v => Ending.returned (Value.int .u64 v)) (fin_a64 X Y)
  · skip
    go_enter Try.func14, Try.ntmps14
    go_wp2
    go_ret
    refine ⟨?_, by repeat (first | exact Grown.refl _ | apply Grown.drew | apply Grown.alloc)⟩
    rw [unhide H4]
    exact congrArg (fun v => Ending.returned (Value.int .u64 v)) (fin_d64 X Y)
end Go.Proofs.Ytjnelkpgdjphmaa
