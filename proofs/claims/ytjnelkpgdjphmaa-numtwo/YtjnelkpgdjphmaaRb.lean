import Derived.Test.YtjnelkpgdjphmaaRA
namespace Go.Proofs.Ytjnelkpgdjphmaa
open Go.RowKit
set_option linter.unusedVariables false
set_option linter.unusedSimpArgs false


theorem wop_wrap32 (k : Nat) (i j : Int) (hk : k ≤ 2) : wop k (wrap32 i) (wrap32 j) % 4294967296 = wop k i j % 4294967296 := by
  have h1 := u_wrap32 i
  have h2 := u_wrap32 j
  generalize wrap32 i = x at *
  generalize wrap32 j = y at *
  rcases (show k = 0 ∨ k = 1 ∨ k = 2 by omega) with rfl | rfl | rfl
  · show (x + y) % _ = (i + j) % _
    omega
  · show (x - y) % _ = (i - j) % _
    omega
  · show (x * y) % _ = (i * j) % _
    exact Nm.mul_mod_of _ _ _ _ _ h1 h2
theorem whole32_all (k : Nat) (i j : Int) (w : World) (hk : k ≤ 4) (i0 : 0 ≤ i) (i1 : i < 4294967296) (j0 : 0 ≤ j) (j1 : j < 4294967296) (h : 3 ≤ k → j ≠ 0) :
    Calls Try.prog 14 #[.int .i64 (k : Int), .int .u64 i, .int .u64 j, .int .i64 32] w fun e w' => e = .returned (.int .u64 (wop k (wrap32 i) (wrap32 j) % 4294967296)) ∧ Grown w w' := by
  by_cases hk2 : k ≤ 2
  · rw [wop_wrap32 k i j hk2]
    refine (whole32_a k i j w hk2 i0 i1 j0 j1).mono ?_
    rintro e w' ⟨rfl, rfl⟩
    exact ⟨rfl, Grown.refl _⟩
  · exact whole32_b k i j w (by omega) i0 i1 (by have := h (by omega); omega) j1
theorem wrap32_mod (i : Int) : wrap32 (i % 4294967296) = wrap32 i := by unfold wrap32; omega
theorem wrap32_zero (i : Int) (h0 : 0 ≤ i) (h1 : i < 4294967296) : wrap32 i = 0 ↔ i = 0 := by unfold wrap32; omega

theorem wop_wrap64 (k : Nat) (i j : Int) (hk : k ≤ 2) : wop k (wrap64 i) (wrap64 j) % 18446744073709551616 = wop k i j % 18446744073709551616 := by
  have h1 := u_wrap64 i
  have h2 := u_wrap64 j
  generalize wrap64 i = x at *
  generalize wrap64 j = y at *
  rcases (show k = 0 ∨ k = 1 ∨ k = 2 by omega) with rfl | rfl | rfl
  · show (x + y) % _ = (i + j) % _
    omega
  · show (x - y) % _ = (i - j) % _
    omega
  · show (x * y) % _ = (i * j) % _
    exact Nm.mul_mod_of _ _ _ _ _ h1 h2
theorem whole64_all (k : Nat) (i j : Int) (w : World) (hk : k ≤ 4) (i0 : 0 ≤ i) (i1 : i < 18446744073709551616) (j0 : 0 ≤ j) (j1 : j < 18446744073709551616) (h : 3 ≤ k → j ≠ 0) :
    Calls Try.prog 14 #[.int .i64 (k : Int), .int .u64 i, .int .u64 j, .int .i64 64] w fun e w' => e = .returned (.int .u64 (wop k (wrap64 i) (wrap64 j) % 18446744073709551616)) ∧ Grown w w' := by
  by_cases hk2 : k ≤ 2
  · rw [wop_wrap64 k i j hk2]
    refine (whole64_a k i j w hk2 i0 i1 j0 j1).mono ?_
    rintro e w' ⟨rfl, rfl⟩
    exact ⟨rfl, Grown.refl _⟩
  · exact whole64_b k i j w (by omega) i0 i1 (by have := h (by omega); omega) j1
theorem wrap64_mod (i : Int) : wrap64 (i % 18446744073709551616) = wrap64 i := by unfold wrap64; omega
theorem wrap64_zero (i : Int) (h0 : 0 ≤ i) (h1 : i < 18446744073709551616) : wrap64 i = 0 ↔ i = 0 := by unfold wrap64; omega

set_option maxRecDepth 20000 in
set_option maxHeartbeats 1000000 in
theorem rtwo_96 (a b : Nat) (w : World) (ha : a < 18446744073709551616) (hb : b < 18446744073709551616) :
    Calls Try.prog 6 #[.int .u8 96, .int .u64 (a : Int), .int .u64 (b : Int)] w fun e w' => e = .returned (.tuple #[.int .u64 (Wv 4294967296 0 (wrap32 a) (wrap32 b)), .int .i64 (We 0 (wrap32 b))]) ∧ Grown w w' := by
  obtain ⟨i, hi⟩ : ∃ i : Int, (a : Int) % 4294967296 = i := ⟨_, rfl⟩
  obtain ⟨j, hj⟩ : ∃ j : Int, (b : Int) % 4294967296 = j := ⟨_, rfl⟩
  rw [← wrap32_mod (a : Int), ← wrap32_mod (b : Int), hi, hj]
  have i0 : 0 ≤ i ∧ i < 4294967296 := by omega
  have j0 : 0 ≤ j ∧ j < 4294967296 := by omega
  rw [show Wv 4294967296 0 (wrap32 i) (wrap32 j) = wop 0 (wrap32 i) (wrap32 j) % 4294967296 by unfold Wv; rw [if_neg (by omega)], show We 0 (wrap32 j) = 0 by unfold We; rw [if_neg (by omega)]]
  have H := hide (fun w => whole32_all 0 i j w (by omega) i0.1 i0.2 j0.1 j0.2 (by omega))
  clear i0 j0
  go_enter Try.func6, Try.ntmps6
  go_wp2_with fail
  refine (unhide H _).mono ?_
  rintro e w1 ⟨rfl, hg⟩
  go_wp2
  go_ret2
  exact ⟨rfl, hg⟩

set_option maxRecDepth 20000 in
set_option maxHeartbeats 1000000 in
theorem rtwo_97 (a b : Nat) (w : World) (ha : a < 18446744073709551616) (hb : b < 18446744073709551616) :
    Calls Try.prog 6 #[.int .u8 97, .int .u64 (a : Int), .int .u64 (b : Int)] w fun e w' => e = .returned (.tuple #[.int .u64 (Wv 18446744073709551616 0 (wrap64 a) (wrap64 b)), .int .i64 (We 0 (wrap64 b))]) ∧ Grown w w' := by
  obtain ⟨i, hi⟩ : ∃ i : Int, (a : Int) % 4294967296 = i := ⟨_, rfl⟩
  obtain ⟨j, hj⟩ : ∃ j : Int, (b : Int) % 4294967296 = j := ⟨_, rfl⟩
  have i0 : (0 : Int) ≤ a ∧ (a : Int) < 18446744073709551616 := by omega
  have j0 : (0 : Int) ≤ b ∧ (b : Int) < 18446744073709551616 := by omega
  rw [show Wv 18446744073709551616 0 (wrap64 (a : Int)) (wrap64 (b : Int)) = wop 0 (wrap64 (a : Int)) (wrap64 (b : Int)) % 18446744073709551616 by unfold Wv; rw [if_neg (by omega)], show We 0 (wrap64 (b : Int)) = 0 by unfold We; rw [if_neg (by omega)]]
  have H := hide (fun w => whole64_all 0 (a : Int) (b : Int) w (by omega) i0.1 i0.2 j0.1 j0.2 (by omega))
  clear i0 j0
  go_enter Try.func6, Try.ntmps6
  go_wp2_with fail
  refine (unhide H _).mono ?_
  rintro e w1 ⟨rfl, hg⟩
  go_wp2
  go_ret2
  exact ⟨rfl, hg⟩

set_option maxRecDepth 20000 in
set_option maxHeartbeats 1000000 in
theorem rtwo_100 (a b : Nat) (w : World) (ha : a < 18446744073709551616) (hb : b < 18446744073709551616) :
    Calls Try.prog 6 #[.int .u8 100, .int .u64 (a : Int), .int .u64 (b : Int)] w fun e w' => e = .returned (.tuple #[.int .u64 (Wv 4294967296 1 (wrap32 a) (wrap32 b)), .int .i64 (We 1 (wrap32 b))]) ∧ Grown w w' := by
  obtain ⟨i, hi⟩ : ∃ i : Int, (a : Int) % 4294967296 = i := ⟨_, rfl⟩
  obtain ⟨j, hj⟩ : ∃ j : Int, (b : Int) % 4294967296 = j := ⟨_, rfl⟩
  rw [← wrap32_mod (a : Int), ← wrap32_mod (b : Int), hi, hj]
  have i0 : 0 ≤ i ∧ i < 4294967296 := by omega
  have j0 : 0 ≤ j ∧ j < 4294967296 := by omega
  rw [show Wv 4294967296 1 (wrap32 i) (wrap32 j) = wop 1 (wrap32 i) (wrap32 j) % 4294967296 by unfold Wv; rw [if_neg (by omega)], show We 1 (wrap32 j) = 0 by unfold We; rw [if_neg (by omega)]]
  have H := hide (fun w => whole32_all 1 i j w (by omega) i0.1 i0.2 j0.1 j0.2 (by omega))
  clear i0 j0
  go_enter Try.func6, Try.ntmps6
  go_wp2_with fail
  refine (unhide H _).mono ?_
  rintro e w1 ⟨rfl, hg⟩
  go_wp2
  go_ret2
  exact ⟨rfl, hg⟩

set_option maxRecDepth 20000 in
set_option maxHeartbeats 1000000 in
theorem rtwo_101 (a b : Nat) (w : World) (ha : a < 18446744073709551616) (hb : b < 18446744073709551616) :
    Calls Try.prog 6 #[.int .u8 101, .int .u64 (a : Int), .int .u64 (b : Int)] w fun e w' => e = .returned (.tuple #[.int .u64 (Wv 18446744073709551616 1 (wrap64 a) (wrap64 b)), .int .i64 (We 1 (wrap64 b))]) ∧ Grown w w' := by
  obtain ⟨i, hi⟩ : ∃ i : Int, (a : Int) % 4294967296 = i := ⟨_, rfl⟩
  obtain ⟨j, hj⟩ : ∃ j : Int, (b : Int) % 4294967296 = j := ⟨_, rfl⟩
  have i0 : (0 : Int) ≤ a ∧ (a : Int) < 18446744073709551616 := by omega
  have j0 : (0 : Int) ≤ b ∧ (b : Int) < 18446744073709551616 := by omega
  rw [show Wv 18446744073709551616 1 (wrap64 (a : Int)) (wrap64 (b : Int)) = wop 1 (wrap64 (a : Int)) (wrap64 (b : Int)) % 18446744073709551616 by unfold Wv; rw [if_neg (by omega)], show We 1 (wrap64 (b : Int)) = 0 by unfold We; rw [if_neg (by omega)]]
  have H := hide (fun w => whole64_all 1 (a : Int) (b : Int) w (by omega) i0.1 i0.2 j0.1 j0.2 (by omega))
  clear i0 j0
  go_enter Try.func6, Try.ntmps6
  go_wp2_with fail
  refine (unhide H _).mono ?_
  rintro e w1 ⟨rfl, hg⟩
  go_wp2
  go_ret2
  exact ⟨rfl, hg⟩

set_option maxRecDepth 20000 in
set_option maxHeartbeats 1000000 in
theorem rtwo_104 (a b : Nat) (w : World) (ha : a < 18446744073709551616) (hb : b < 18446744073709551616) :
    Calls Try.prog 6 #[.int .u8 104, .int .u64 (a : Int), .int .u64 (b : Int)] w fun e w' => e = .returned (.tuple #[.int .u64 (Wv 4294967296 2 (wrap32 a) (wrap32 b)), .int .i64 (We 2 (wrap32 b))]) ∧ Grown w w' := by
  obtain ⟨i, hi⟩ : ∃ i : Int, (a : Int) % 4294967296 = i := ⟨_, rfl⟩
  obtain ⟨j, hj⟩ : ∃ j : Int, (b : Int) % 4294967296 = j := ⟨_, rfl⟩
  rw [← wrap32_mod (a : Int), ← wrap32_mod (b : Int), hi, hj]
  have i0 : 0 ≤ i ∧ i < 4294967296 := by omega
  have j0 : 0 ≤ j ∧ j < 4294967296 := by omega
  rw [show Wv 4294967296 2 (wrap32 i) (wrap32 j) = wop 2 (wrap32 i) (wrap32 j) % 4294967296 by unfold Wv; rw [if_neg (by omega)], show We 2 (wrap32 j) = 0 by unfold We; rw [if_neg (by omega)]]
  have H := hide (fun w => whole32_all 2 i j w (by omega) i0.1 i0.2 j0.1 j0.2 (by omega))
  clear i0 j0
  go_enter Try.func6, Try.ntmps6
  go_wp2_with fail
  refine (unhide H _).mono ?_
  rintro e w1 ⟨rfl, hg⟩
  go_wp2
  go_ret2
  exact ⟨rfl, hg⟩

set_option maxRecDepth 20000 in
set_option maxHeartbeats 1000000 in
theorem rtwo_105 (a b : Nat) (w : World) (ha : a < 18446744073709551616) (hb : b < 18446744073709551616) :
    Calls Try.prog 6 #[.int .u8 105, .int .u64 (a : Int), .int .u64 (b : Int)] w fun e w' => e = .returned (.tuple #[.int .u64 (Wv 18446744073709551616 2 (wrap64 a) (wrap64 b)), .int .i64 (We 2 (wrap64 b))]) ∧ Grown w w' := by
  obtain ⟨i, hi⟩ : ∃ i : Int, (a : Int) % 4294967296 = i := ⟨_, rfl⟩
  obtain ⟨j, hj⟩ : ∃ j : Int, (b : Int) % 4294967296 = j := ⟨_, rfl⟩
  have i0 : (0 : Int) ≤ a ∧ (a : Int) < 18446744073709551616 := by omega
  have j0 : (0 : Int) ≤ b ∧ (b : Int) < 18446744073709551616 := by omega
  rw [show Wv 18446744073709551616 2 (wrap64 (a : Int)) (wrap64 (b : Int)) = wop 2 (wrap64 (a : Int)) (wrap64 (b : Int)) % 18446744073709551616 by unfold Wv; rw [if_neg (by omega)], show We 2 (wrap64 (b : Int)) = 0 by unfold We; rw [if_neg (by omega)]]
  have H := hide (fun w => whole64_all 2 (a : Int) (b : Int) w (by omega) i0.1 i0.2 j0.1 j0.2 (by omega))
  clear i0 j0
  go_enter Try.func6, Try.ntmps6
  go_wp2_with fail
  refine (unhide H _).mono ?_
  rintro e w1 ⟨rfl, hg⟩
  go_wp2
  go_ret2
  exact ⟨rfl, hg⟩

set_option maxRecDepth 20000 in
set_option maxHeartbeats 1000000 in
theorem rtwo_108 (a b : Nat) (w : World) (ha : a < 18446744073709551616) (hb : b < 18446744073709551616) :
    Calls Try.prog 6 #[.int .u8 108, .int .u64 (a : Int), .int .u64 (b : Int)] w fun e w' => e = .returned (.tuple #[.int .u64 (Wv 4294967296 3 (wrap32 a) (wrap32 b)), .int .i64 (We 3 (wrap32 b))]) ∧ Grown w w' := by
  obtain ⟨i, hi⟩ : ∃ i : Int, (a : Int) % 4294967296 = i := ⟨_, rfl⟩
  obtain ⟨j, hj⟩ : ∃ j : Int, (b : Int) % 4294967296 = j := ⟨_, rfl⟩
  rw [← wrap32_mod (a : Int), ← wrap32_mod (b : Int), hi, hj]
  have i0 : 0 ≤ i ∧ i < 4294967296 := by omega
  have j0 : 0 ≤ j ∧ j < 4294967296 := by omega
  by_cases hz : j = 0
  · have hwz : wrap32 j = 0 := (wrap32_zero _ j0.1 j0.2).2 hz
    rw [show Wv 4294967296 3 (wrap32 i) (wrap32 j) = 0 by unfold Wv; rw [if_pos ⟨by omega, hwz⟩], show We 3 (wrap32 j) = 27 by unfold We; rw [if_pos ⟨by omega, hwz⟩]]
    clear i0 j0 hwz
    rw [hz] at hj
    clear hz
    go_enter Try.func6, Try.ntmps6
    go_wp2
    go_ret2
    exact ⟨rfl, Grown.refl _⟩
  · have hwz : ¬ wrap32 j = 0 := fun h => hz ((wrap32_zero _ j0.1 j0.2).1 h)
    rw [show Wv 4294967296 3 (wrap32 i) (wrap32 j) = wop 3 (wrap32 i) (wrap32 j) % 4294967296 by unfold Wv; rw [if_neg (fun h => hwz h.2)], show We 3 (wrap32 j) = 0 by unfold We; rw [if_neg (fun h => hwz h.2)]]
    have H := hide (fun w => whole32_all 3 i j w (by omega) i0.1 i0.2 j0.1 j0.2 (fun _ => hz))
    clear i0 j0 hwz
    go_enter Try.func6, Try.ntmps6
    go_wp2_with fail
    refine (unhide H _).mono ?_
    rintro e w1 ⟨rfl, hg⟩
    go_wp2
    go_ret2
    exact ⟨rfl, hg⟩

set_option maxRecDepth 20000 in
set_option maxHeartbeats 1000000 in
theorem rtwo_109 (a b : Nat) (w : World) (ha : a < 18446744073709551616) (hb : b < 18446744073709551616) :
    Calls Try.prog 6 #[.int .u8 109, .int .u64 (a : Int), .int .u64 (b : Int)] w fun e w' => e = .returned (.tuple #[.int .u64 (Wv 18446744073709551616 3 (wrap64 a) (wrap64 b)), .int .i64 (We 3 (wrap64 b))]) ∧ Grown w w' := by
  obtain ⟨i, hi⟩ : ∃ i : Int, (a : Int) % 4294967296 = i := ⟨_, rfl⟩
  obtain ⟨j, hj⟩ : ∃ j : Int, (b : Int) % 4294967296 = j := ⟨_, rfl⟩
  have i0 : (0 : Int) ≤ a ∧ (a : Int) < 18446744073709551616 := by omega
  have j0 : (0 : Int) ≤ b ∧ (b : Int) < 18446744073709551616 := by omega
  by_cases hz : (b : Int) = 0
  · have hwz : wrap64 (b : Int) = 0 := (wrap64_zero _ j0.1 j0.2).2 hz
    rw [show Wv 18446744073709551616 3 (wrap64 (a : Int)) (wrap64 (b : Int)) = 0 by unfold Wv; rw [if_pos ⟨by omega, hwz⟩], show We 3 (wrap64 (b : Int)) = 27 by unfold We; rw [if_pos ⟨by omega, hwz⟩]]
    clear i0 j0 hwz
    go_enter Try.func6, Try.ntmps6
    go_wp2
    go_ret2
    exact ⟨rfl, Grown.refl _⟩
  · have hwz : ¬ wrap64 (b : Int) = 0 := fun h => hz ((wrap64_zero _ j0.1 j0.2).1 h)
    rw [show Wv 18446744073709551616 3 (wrap64 (a : Int)) (wrap64 (b : Int)) = wop 3 (wrap64 (a : Int)) (wrap64 (b : Int)) % 18446744073709551616 by unfold Wv; rw [if_neg (fun h => hwz h.2)], show We 3 (wrap64 (b : Int)) = 0 by unfold We; rw [if_neg (fun h => hwz h.2)]]
    have H := hide (fun w => whole64_all 3 (a : Int) (b : Int) w (by omega) i0.1 i0.2 j0.1 j0.2 (fun _ => hz))
    clear i0 j0 hwz
    go_enter Try.func6, Try.ntmps6
    go_wp2_with fail
    refine (unhide H _).mono ?_
    rintro e w1 ⟨rfl, hg⟩
    go_wp2
    go_ret2
    exact ⟨rfl, hg⟩

set_option maxRecDepth 20000 in
set_option maxHeartbeats 1000000 in
theorem rtwo_112 (a b : Nat) (w : World) (ha : a < 18446744073709551616) (hb : b < 18446744073709551616) :
    Calls Try.prog 6 #[.int .u8 112, .int .u64 (a : Int), .int .u64 (b : Int)] w fun e w' => e = .returned (.tuple #[.int .u64 (Wv 4294967296 4 (wrap32 a) (wrap32 b)), .int .i64 (We 4 (wrap32 b))]) ∧ Grown w w' := by
  obtain ⟨i, hi⟩ : ∃ i : Int, (a : Int) % 4294967296 = i := ⟨_, rfl⟩
  obtain ⟨j, hj⟩ : ∃ j : Int, (b : Int) % 4294967296 = j := ⟨_, rfl⟩
  rw [← wrap32_mod (a : Int), ← wrap32_mod (b : Int), hi, hj]
  have i0 : 0 ≤ i ∧ i < 4294967296 := by omega
  have j0 : 0 ≤ j ∧ j < 4294967296 := by omega
  by_cases hz : j = 0
  · have hwz : wrap32 j = 0 := (wrap32_zero _ j0.1 j0.2).2 hz
    rw [show Wv 4294967296 4 (wrap32 i) (wrap32 j) = 0 by unfold Wv; rw [if_pos ⟨by omega, hwz⟩], show We 4 (wrap32 j) = 27 by unfold We; rw [if_pos ⟨by omega, hwz⟩]]
    clear i0 j0 hwz
    rw [hz] at hj
    clear hz
    go_enter Try.func6, Try.ntmps6
    go_wp2
    go_ret2
    exact ⟨rfl, Grown.refl _⟩
  · have hwz : ¬ wrap32 j = 0 := fun h => hz ((wrap32_zero _ j0.1 j0.2).1 h)
    rw [show Wv 4294967296 4 (wrap32 i) (wrap32 j) = wop 4 (wrap32 i) (wrap32 j) % 4294967296 by unfold Wv; rw [if_neg (fun h => hwz h.2)], show We 4 (wrap32 j) = 0 by unfold We; rw [if_neg (fun h => hwz h.2)]]
    have H := hide (fun w => whole32_all 4 i j w (by omega) i0.1 i0.2 j0.1 j0.2 (fun _ => hz))
    clear i0 j0 hwz
    go_enter Try.func6, Try.ntmps6
    go_wp2_with fail
    refine (unhide H _).mono ?_
    rintro e w1 ⟨rfl, hg⟩
    go_wp2
    go_ret2
    exact ⟨rfl, hg⟩

set_option maxRecDepth 20000 in
set_option maxHeartbeats 1000000 in
theorem rtwo_113 (a b : Nat) (w : World) (ha : a < 18446744073709551616) (hb : b < 18446744073709551616) :
    Calls Try.prog 6 #[.int .u8 113, .int .u64 (a : Int), .int .u64 (b : Int)] w fun e w' => e = .returned (.tuple #[.int .u64 (Wv 18446744073709551616 4 (wrap64 a) (wrap64 b)), .int .i64 (We 4 (wrap64 b))]) ∧ Grown w w' := by
  obtain ⟨i, hi⟩ : ∃ i : Int, (a : Int) % 4294967296 = i := ⟨_, rfl⟩
  obtain ⟨j, hj⟩ : ∃ j : Int, (b : Int) % 4294967296 = j := ⟨_, rfl⟩
  have i0 : (0 : Int) ≤ a ∧ (a : Int) < 18446744073709551616 := by omega
  have j0 : (0 : Int) ≤ b ∧ (b : Int) < 18446744073709551616 := by omega
  by_cases hz : (b : Int) = 0
  · have hwz : wrap64 (b : Int) = 0 := (wrap64_zero _ j0.1 j0.2).2 hz
    rw [show Wv 18446744073709551616 4 (wrap64 (a : Int)) (wrap64 (b : Int)) = 0 by unfold Wv; rw [if_pos ⟨by omega, hwz⟩], show We 4 (wrap64 (b : Int)) = 27 by unfold We; rw [if_pos ⟨by omega, hwz⟩]]
    clear i0 j0 hwz
    go_enter Try.func6, Try.ntmps6
    go_wp2
    go_ret2
    exact ⟨rfl, Grown.refl _⟩
  · have hwz : ¬ wrap64 (b : Int) = 0 := fun h => hz ((wrap64_zero _ j0.1 j0.2).1 h)
    rw [show Wv 18446744073709551616 4 (wrap64 (a : Int)) (wrap64 (b : Int)) = wop 4 (wrap64 (a : Int)) (wrap64 (b : Int)) % 18446744073709551616 by unfold Wv; rw [if_neg (fun h => hwz h.2)], show We 4 (wrap64 (b : Int)) = 0 by unfold We; rw [if_neg (fun h => hwz h.2)]]
    have H := hide (fun w => whole64_all 4 (a : Int) (b : Int) w (by omega) i0.1 i0.2 j0.1 j0.2 (fun _ => hz))
    clear i0 j0 hwz
    go_enter Try.func6, Try.ntmps6
    go_wp2_with fail
    refine (unhide H _).mono ?_
    rintro e w1 ⟨rfl, hg⟩
    go_wp2
    go_ret2
    exact ⟨rfl, hg⟩

set_option maxRecDepth 20000 in
set_option maxHeartbeats 1000000 in
theorem rtwo_120 (a b : Nat) (w : World) (ha : a < 18446744073709551616) (hb : b < 18446744073709551616) :
    Calls Try.prog 6 #[.int .u8 120, .int .u64 (a : Int), .int .u64 (b : Int)] w fun e w' => e = .returned (.tuple #[.int .u64 (sh0 4294967296 (a % 4294967296) (b % 32) : Nat), .int .i64 0]) ∧ Grown w w' := by
  obtain ⟨i, hi⟩ : ∃ i : Nat, i = a % 4294967296 := ⟨_, rfl⟩
  obtain ⟨j, hj⟩ : ∃ j : Nat, j = b % 4294967296 := ⟨_, rfl⟩
  obtain ⟨c, hc⟩ : ∃ c : Nat, c = b % 32 := ⟨_, rfl⟩
  have hi2 : (a : Int) % 4294967296 = (i : Int) := by omega
  have hj2 : (b : Int) % 4294967296 = (j : Int) := by omega
  have hc2 : (b : Int) % 32 = (c : Int) := by omega
  rw [← hi, ← hc]
  have H := hide (fun w => shift32_0 i c w (by omega) (by omega))
  have hcw : IntKind.i64.wrap (c : Int) = (c : Int) := by rw [IntKind.wrap_i64]; omega
  obtain ⟨v, hv⟩ : ∃ v, v = sh0 4294967296 i c := ⟨_, rfl⟩
  rw [← hv] at H ⊢
  clear hi hj hc hv
  go_enter Try.func6, Try.ntmps6
  go_wp2_with fail
  refine (unhide H _).mono ?_
  rintro e w1 ⟨rfl, hw⟩
  subst hw
  go_wp2
  go_ret2
  exact ⟨rfl, Grown.refl _⟩

set_option maxRecDepth 20000 in
set_option maxHeartbeats 1000000 in
theorem rtwo_121 (a b : Nat) (w : World) (ha : a < 18446744073709551616) (hb : b < 18446744073709551616) :
    Calls Try.prog 6 #[.int .u8 121, .int .u64 (a : Int), .int .u64 (b : Int)] w fun e w' => e = .returned (.tuple #[.int .u64 (sh0 18446744073709551616 (a % 18446744073709551616) (b % 64) : Nat), .int .i64 0]) ∧ Grown w w' := by
  obtain ⟨i, hi⟩ : ∃ i : Nat, i = a % 4294967296 := ⟨_, rfl⟩
  obtain ⟨j, hj⟩ : ∃ j : Nat, j = b % 4294967296 := ⟨_, rfl⟩
  obtain ⟨c, hc⟩ : ∃ c : Nat, c = b % 64 := ⟨_, rfl⟩
  have hi2 : (a : Int) % 4294967296 = (i : Int) := by omega
  have hj2 : (b : Int) % 4294967296 = (j : Int) := by omega
  have hc2 : (b : Int) % 64 = (c : Int) := by omega
  rw [Nat.mod_eq_of_lt ha, ← hc]
  have H := hide (fun w => shift64_0 a c w (by omega) (by omega))
  have hcw : IntKind.i64.wrap (c : Int) = (c : Int) := by rw [IntKind.wrap_i64]; omega
  obtain ⟨v, hv⟩ : ∃ v, v = sh0 18446744073709551616 a c := ⟨_, rfl⟩
  rw [← hv] at H ⊢
  clear hi hj hc hv
  go_enter Try.func6, Try.ntmps6
  go_wp2_with fail
  refine (unhide H _).mono ?_
  rintro e w1 ⟨rfl, hw⟩
  subst hw
  go_wp2
  go_ret2
  exact ⟨rfl, Grown.refl _⟩

set_option maxRecDepth 20000 in
set_option maxHeartbeats 1000000 in
theorem rtwo_122 (a b : Nat) (w : World) (ha : a < 18446744073709551616) (hb : b < 18446744073709551616) :
    Calls Try.prog 6 #[.int .u8 122, .int .u64 (a : Int), .int .u64 (b : Int)] w fun e w' => e = .returned (.tuple #[.int .u64 (sh1 4294967296 (a % 4294967296) (b % 32) : Nat), .int .i64 0]) ∧ Grown w w' := by
  obtain ⟨i, hi⟩ : ∃ i : Nat, i = a % 4294967296 := ⟨_, rfl⟩
  obtain ⟨j, hj⟩ : ∃ j : Nat, j = b % 4294967296 := ⟨_, rfl⟩
  obtain ⟨c, hc⟩ : ∃ c : Nat, c = b % 32 := ⟨_, rfl⟩
  have hi2 : (a : Int) % 4294967296 = (i : Int) := by omega
  have hj2 : (b : Int) % 4294967296 = (j : Int) := by omega
  have hc2 : (b : Int) % 32 = (c : Int) := by omega
  rw [← hi, ← hc]
  have H := hide (fun w => show Calls Try.prog 18 #[.int .i64 1, .int .u64 (i : Int), .int .i64 (c : Int), .int .i64 32] w fun e w' => e = .returned (.int .u64 (sh1 4294967296 i c : Nat)) ∧ w' = w from by
    by_cases h : i < 2147483648
    · exact shift32_1p i c w (by omega) (by omega) h
    · exact shift32_1n i c w (by omega) (by omega) (by omega))
  have hcw : IntKind.i64.wrap (c : Int) = (c : Int) := by rw [IntKind.wrap_i64]; omega
  obtain ⟨v, hv⟩ : ∃ v, v = sh1 4294967296 i c := ⟨_, rfl⟩
  rw [← hv] at H ⊢
  clear hi hj hc hv
  go_enter Try.func6, Try.ntmps6
  go_wp2_with fail
  refine (unhide H _).mono ?_
  rintro e w1 ⟨rfl, hw⟩
  subst hw
  go_wp2
  go_ret2
  exact ⟨rfl, Grown.refl _⟩

set_option maxRecDepth 20000 in
set_option maxHeartbeats 1000000 in
theorem rtwo_123 (a b : Nat) (w : World) (ha : a < 18446744073709551616) (hb : b < 18446744073709551616) :
    Calls Try.prog 6 #[.int .u8 123, .int .u64 (a : Int), .int .u64 (b : Int)] w fun e w' => e = .returned (.tuple #[.int .u64 (sh1 18446744073709551616 (a % 18446744073709551616) (b % 64) : Nat), .int .i64 0]) ∧ Grown w w' := by
  obtain ⟨i, hi⟩ : ∃ i : Nat, i = a % 4294967296 := ⟨_, rfl⟩
  obtain ⟨j, hj⟩ : ∃ j : Nat, j = b % 4294967296 := ⟨_, rfl⟩
  obtain ⟨c, hc⟩ : ∃ c : Nat, c = b % 64 := ⟨_, rfl⟩
  have hi2 : (a : Int) % 4294967296 = (i : Int) := by omega
  have hj2 : (b : Int) % 4294967296 = (j : Int) := by omega
  have hc2 : (b : Int) % 64 = (c : Int) := by omega
  rw [Nat.mod_eq_of_lt ha, ← hc]
  have H := hide (fun w => show Calls Try.prog 18 #[.int .i64 1, .int .u64 (a : Int), .int .i64 (c : Int), .int .i64 64] w fun e w' => e = .returned (.int .u64 (sh1 18446744073709551616 a c : Nat)) ∧ w' = w from by
    by_cases h : a < 9223372036854775808
    · exact shift64_1p a c w (by omega) (by omega) h
    · exact shift64_1n a c w (by omega) (by omega) (by omega))
  have hcw : IntKind.i64.wrap (c : Int) = (c : Int) := by rw [IntKind.wrap_i64]; omega
  obtain ⟨v, hv⟩ : ∃ v, v = sh1 18446744073709551616 a c := ⟨_, rfl⟩
  rw [← hv] at H ⊢
  clear hi hj hc hv
  go_enter Try.func6, Try.ntmps6
  go_wp2_with fail
  refine (unhide H _).mono ?_
  rintro e w1 ⟨rfl, hw⟩
  subst hw
  go_wp2
  go_ret2
  exact ⟨rfl, Grown.refl _⟩

set_option maxRecDepth 20000 in
set_option maxHeartbeats 1000000 in
theorem rtwo_124 (a b : Nat) (w : World) (ha : a < 18446744073709551616) (hb : b < 18446744073709551616) :
    Calls Try.prog 6 #[.int .u8 124, .int .u64 (a : Int), .int .u64 (b : Int)] w fun e w' => e = .returned (.tuple #[.int .u64 (sh2 4294967296 (a % 4294967296) (b % 32) : Nat), .int .i64 0]) ∧ Grown w w' := by
  obtain ⟨i, hi⟩ : ∃ i : Nat, i = a % 4294967296 := ⟨_, rfl⟩
  obtain ⟨j, hj⟩ : ∃ j : Nat, j = b % 4294967296 := ⟨_, rfl⟩
  obtain ⟨c, hc⟩ : ∃ c : Nat, c = b % 32 := ⟨_, rfl⟩
  have hi2 : (a : Int) % 4294967296 = (i : Int) := by omega
  have hj2 : (b : Int) % 4294967296 = (j : Int) := by omega
  have hc2 : (b : Int) % 32 = (c : Int) := by omega
  rw [← hi, ← hc]
  have H := hide (fun w => shift32_2 i c w (by omega) (by omega))
  have hcw : IntKind.i64.wrap (c : Int) = (c : Int) := by rw [IntKind.wrap_i64]; omega
  obtain ⟨v, hv⟩ : ∃ v, v = sh2 4294967296 i c := ⟨_, rfl⟩
  rw [← hv] at H ⊢
  clear hi hj hc hv
  go_enter Try.func6, Try.ntmps6
  go_wp2_with fail
  refine (unhide H _).mono ?_
  rintro e w1 ⟨rfl, hw⟩
  subst hw
  go_wp2
  go_ret2
  exact ⟨rfl, Grown.refl _⟩

set_option maxRecDepth 20000 in
set_option maxHeartbeats 1000000 in
theorem rtwo_125 (a b : Nat) (w : World) (ha : a < 18446744073709551616) (hb : b < 18446744073709551616) :
    Calls Try.prog 6 #[.int .u8 125, .int .u64 (a : Int), .int .u64 (b : Int)] w fun e w' => e = .returned (.tuple #[.int .u64 (sh2 18446744073709551616 (a % 18446744073709551616) (b % 64) : Nat), .int .i64 0]) ∧ Grown w w' := by
  obtain ⟨i, hi⟩ : ∃ i : Nat, i = a % 4294967296 := ⟨_, rfl⟩
  obtain ⟨j, hj⟩ : ∃ j : Nat, j = b % 4294967296 := ⟨_, rfl⟩
  obtain ⟨c, hc⟩ : ∃ c : Nat, c = b % 64 := ⟨_, rfl⟩
  have hi2 : (a : Int) % 4294967296 = (i : Int) := by omega
  have hj2 : (b : Int) % 4294967296 = (j : Int) := by omega
  have hc2 : (b : Int) % 64 = (c : Int) := by omega
  rw [Nat.mod_eq_of_lt ha, ← hc]
  have H := hide (fun w => shift64_2 a c w (by omega) (by omega))
  have hcw : IntKind.i64.wrap (c : Int) = (c : Int) := by rw [IntKind.wrap_i64]; omega
  obtain ⟨v, hv⟩ : ∃ v, v = sh2 18446744073709551616 a c := ⟨_, rfl⟩
  rw [← hv] at H ⊢
  clear hi hj hc hv
  go_enter Try.func6, Try.ntmps6
  go_wp2_with fail
  refine (unhide H _).mono ?_
  rintro e w1 ⟨rfl, hw⟩
  subst hw
  go_wp2
  go_ret2
  exact ⟨rfl, Grown.refl _⟩

set_option maxRecDepth 20000 in
set_option maxHeartbeats 1000000 in
theorem rtwo_126 (a b : Nat) (w : World) (ha : a < 18446744073709551616) (hb : b < 18446744073709551616) :
    Calls Try.prog 6 #[.int .u8 126, .int .u64 (a : Int), .int .u64 (b : Int)] w fun e w' => e = .returned (.tuple #[.int .u64 (jn 126 a b), .int .i64 0]) ∧ Grown w w' := by
  clear ha hb
  go_enter Try.func6, Try.ntmps6
  go_wp2
  go_ret2
  exact ⟨rfl, Grown.refl _⟩

set_option maxRecDepth 20000 in
set_option maxHeartbeats 1000000 in
theorem rtwo_127 (a b : Nat) (w : World) (ha : a < 18446744073709551616) (hb : b < 18446744073709551616) :
    Calls Try.prog 6 #[.int .u8 127, .int .u64 (a : Int), .int .u64 (b : Int)] w fun e w' => e = .returned (.tuple #[.int .u64 (jn 127 a b), .int .i64 0]) ∧ Grown w w' := by
  clear ha hb
  go_enter Try.func6, Try.ntmps6
  go_wp2
  go_ret2
  exact ⟨rfl, Grown.refl _⟩

set_option maxRecDepth 20000 in
set_option maxHeartbeats 1000000 in
theorem rtwo_128 (a b : Nat) (w : World) (ha : a < 18446744073709551616) (hb : b < 18446744073709551616) :
    Calls Try.prog 6 #[.int .u8 128, .int .u64 (a : Int), .int .u64 (b : Int)] w fun e w' => e = .returned (.tuple #[.int .u64 (jn 128 a b), .int .i64 0]) ∧ Grown w w' := by
  clear ha hb
  go_enter Try.func6, Try.ntmps6
  go_wp2
  go_ret2
  exact ⟨rfl, Grown.refl _⟩

set_option maxRecDepth 20000 in
set_option maxHeartbeats 1000000 in
theorem rtwo_129 (a b : Nat) (w : World) (ha : a < 18446744073709551616) (hb : b < 18446744073709551616) :
    Calls Try.prog 6 #[.int .u8 129, .int .u64 (a : Int), .int .u64 (b : Int)] w fun e w' => e = .returned (.tuple #[.int .u64 (jn 129 a b), .int .i64 0]) ∧ Grown w w' := by
  clear ha hb
  go_enter Try.func6, Try.ntmps6
  go_wp2
  go_ret2
  exact ⟨rfl, Grown.refl _⟩

set_option maxRecDepth 20000 in
set_option maxHeartbeats 1000000 in
theorem rtwo_130 (a b : Nat) (w : World) (ha : a < 18446744073709551616) (hb : b < 18446744073709551616) :
    Calls Try.prog 6 #[.int .u8 130, .int .u64 (a : Int), .int .u64 (b : Int)] w fun e w' => e = .returned (.tuple #[.int .u64 (jn 130 a b), .int .i64 0]) ∧ Grown w w' := by
  clear ha hb
  go_enter Try.func6, Try.ntmps6
  go_wp2
  go_ret2
  exact ⟨rfl, Grown.refl _⟩

set_option maxRecDepth 20000 in
set_option maxHeartbeats 1000000 in
theorem rtwo_131 (a b : Nat) (w : World) (ha : a < 18446744073709551616) (hb : b < 18446744073709551616) :
    Calls Try.prog 6 #[.int .u8 131, .int .u64 (a : Int), .int .u64 (b : Int)] w fun e w' => e = .returned (.tuple #[.int .u64 (jn 131 a b), .int .i64 0]) ∧ Grown w w' := by
  clear ha hb
  go_enter Try.func6, Try.ntmps6
  go_wp2
  go_ret2
  exact ⟨rfl, Grown.refl _⟩

end Go.Proofs.Ytjnelkpgdjphmaa
