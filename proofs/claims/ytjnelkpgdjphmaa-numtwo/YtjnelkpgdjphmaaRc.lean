import Derived.Test.YtjnelkpgdjphmaaRb
import Derived.Test.YtjnelkpgdjphmaaBa32
import Derived.Test.YtjnelkpgdjphmaaBa64
namespace Go.Proofs.Ytjnelkpgdjphmaa
open Go.RowKit
set_option linter.unusedVariables false
set_option linter.unusedSimpArgs false


set_option maxRecDepth 20000 in
set_option maxHeartbeats 1000000 in
theorem rtwo_98 (a b : Nat) (w : World) (ha : a < 18446744073709551616) (hb : b < 18446744073709551616) :
    Calls Try.prog 6 #[.int .u8 98, .int .u64 (a : Int), .int .u64 (b : Int)] w fun e w' => e = .returned (.tuple #[.int .u64 (Fb32 0 (a % 4294967296) (b % 4294967296) : Nat), .int .i64 0]) ∧ Grown w w' := by
  obtain ⟨i, hi⟩ : ∃ i : Nat, i = a % 4294967296 := ⟨_, rfl⟩
  obtain ⟨j, hj⟩ : ∃ j : Nat, j = b % 4294967296 := ⟨_, rfl⟩
  have hi2 : (a : Int) % 4294967296 = (i : Int) := by omega
  have hj2 : (b : Int) % 4294967296 = (j : Int) := by omega
  rw [← hi, ← hj]
  have H0 := hide single_any
  have H := hide (fun w => basic32 0 i j w (by omega) (by omega) (by omega))
  obtain ⟨v, hv⟩ : ∃ v, v = Fb32 0 i j := ⟨_, rfl⟩
  rw [← hv] at H ⊢
  clear hi hj hv ha hb
  go_enter Try.func6, Try.ntmps6
  go_wp2_with fail
  refine (unhide H0 _).mono ?_
  rintro e w1 ⟨rfl, hg0⟩
  go_wp2_with fail
  refine (unhide H _).mono ?_
  rintro e w2 ⟨rfl, hg⟩
  go_wp2
  go_ret2
  exact ⟨rfl, gtrans hg0 hg⟩

set_option maxRecDepth 20000 in
set_option maxHeartbeats 1000000 in
theorem rtwo_99 (a b : Nat) (w : World) (ha : a < 18446744073709551616) (hb : b < 18446744073709551616) :
    Calls Try.prog 6 #[.int .u8 99, .int .u64 (a : Int), .int .u64 (b : Int)] w fun e w' => e = .returned (.tuple #[.int .u64 (Fb64 0 a b : Nat), .int .i64 0]) ∧ Grown w w' := by
  obtain ⟨i, hi⟩ : ∃ i : Nat, i = a % 4294967296 := ⟨_, rfl⟩
  obtain ⟨j, hj⟩ : ∃ j : Nat, j = b % 4294967296 := ⟨_, rfl⟩
  have hi2 : (a : Int) % 4294967296 = (i : Int) := by omega
  have hj2 : (b : Int) % 4294967296 = (j : Int) := by omega
  have H0 := hide double_any
  have H := hide (fun w => basic64 0 a b w (by omega) (by omega) (by omega))
  obtain ⟨v, hv⟩ : ∃ v, v = Fb64 0 a b := ⟨_, rfl⟩
  rw [← hv] at H ⊢
  clear hi hj hv ha hb
  go_enter Try.func6, Try.ntmps6
  go_wp2_with fail
  refine (unhide H0 _).mono ?_
  rintro e w1 ⟨rfl, hg0⟩
  go_wp2_with fail
  refine (unhide H _).mono ?_
  rintro e w2 ⟨rfl, hg⟩
  go_wp2
  go_ret2
  exact ⟨rfl, gtrans hg0 hg⟩

set_option maxRecDepth 20000 in
set_option maxHeartbeats 1000000 in
theorem rtwo_102 (a b : Nat) (w : World) (ha : a < 18446744073709551616) (hb : b < 18446744073709551616) :
    Calls Try.prog 6 #[.int .u8 102, .int .u64 (a : Int), .int .u64 (b : Int)] w fun e w' => e = .returned (.tuple #[.int .u64 (Fb32 1 (a % 4294967296) (b % 4294967296) : Nat), .int .i64 0]) ∧ Grown w w' := by
  obtain ⟨i, hi⟩ : ∃ i : Nat, i = a % 4294967296 := ⟨_, rfl⟩
  obtain ⟨j, hj⟩ : ∃ j : Nat, j = b % 4294967296 := ⟨_, rfl⟩
  have hi2 : (a : Int) % 4294967296 = (i : Int) := by omega
  have hj2 : (b : Int) % 4294967296 = (j : Int) := by omega
  rw [← hi, ← hj]
  have H0 := hide single_any
  have H := hide (fun w => basic32 1 i j w (by omega) (by omega) (by omega))
  obtain ⟨v, hv⟩ : ∃ v, v = Fb32 1 i j := ⟨_, rfl⟩
  rw [← hv] at H ⊢
  clear hi hj hv ha hb
  go_enter Try.func6, Try.ntmps6
  go_wp2_with fail
  refine (unhide H0 _).mono ?_
  rintro e w1 ⟨rfl, hg0⟩
  go_wp2_with fail
  refine (unhide H _).mono ?_
  rintro e w2 ⟨rfl, hg⟩
  go_wp2
  go_ret2
  exact ⟨rfl, gtrans hg0 hg⟩

set_option maxRecDepth 20000 in
set_option maxHeartbeats 1000000 in
theorem rtwo_103 (a b : Nat) (w : World) (ha : a < 18446744073709551616) (hb : b < 18446744073709551616) :
    Calls Try.prog 6 #[.int .u8 103, .int .u64 (a : Int), .int .u64 (b : Int)] w fun e w' => e = .returned (.tuple #[.int .u64 (Fb64 1 a b : Nat), .int .i64 0]) ∧ Grown w w' := by
  obtain ⟨i, hi⟩ : ∃ i : Nat, i = a % 4294967296 := ⟨_, rfl⟩
  obtain ⟨j, hj⟩ : ∃ j : Nat, j = b % 4294967296 := ⟨_, rfl⟩
  have hi2 : (a : Int) % 4294967296 = (i : Int) := by omega
  have hj2 : (b : Int) % 4294967296 = (j : Int) := by omega
  have H0 := hide double_any
  have H := hide (fun w => basic64 1 a b w (by omega) (by omega) (by omega))
  obtain ⟨v, hv⟩ : ∃ v, v = Fb64 1 a b := ⟨_, rfl⟩
  rw [← hv] at H ⊢
  clear hi hj hv ha hb
  go_enter Try.func6, Try.ntmps6
  go_wp2_with fail
  refine (unhide H0 _).mono ?_
  rintro e w1 ⟨rfl, hg0⟩
  go_wp2_with fail
  refine (unhide H _).mono ?_
  rintro e w2 ⟨rfl, hg⟩
  go_wp2
  go_ret2
  exact ⟨rfl, gtrans hg0 hg⟩

set_option maxRecDepth 20000 in
set_option maxHeartbeats 1000000 in
theorem rtwo_106 (a b : Nat) (w : World) (ha : a < 18446744073709551616) (hb : b < 18446744073709551616) :
    Calls Try.prog 6 #[.int .u8 106, .int .u64 (a : Int), .int .u64 (b : Int)] w fun e w' => e = .returned (.tuple #[.int .u64 (Fb32 2 (a % 4294967296) (b % 4294967296) : Nat), .int .i64 0]) ∧ Grown w w' := by
  obtain ⟨i, hi⟩ : ∃ i : Nat, i = a % 4294967296 := ⟨_, rfl⟩
  obtain ⟨j, hj⟩ : ∃ j : Nat, j = b % 4294967296 := ⟨_, rfl⟩
  have hi2 : (a : Int) % 4294967296 = (i : Int) := by omega
  have hj2 : (b : Int) % 4294967296 = (j : Int) := by omega
  rw [← hi, ← hj]
  have H0 := hide single_any
  have H := hide (fun w => basic32 2 i j w (by omega) (by omega) (by omega))
  obtain ⟨v, hv⟩ : ∃ v, v = Fb32 2 i j := ⟨_, rfl⟩
  rw [← hv] at H ⊢
  clear hi hj hv ha hb
  go_enter Try.func6, Try.ntmps6
  go_wp2_with fail
  refine (unhide H0 _).mono ?_
  rintro e w1 ⟨rfl, hg0⟩
  go_wp2_with fail
  refine (unhide H _).mono ?_
  rintro e w2 ⟨rfl, hg⟩
  go_wp2
  go_ret2
  exact ⟨rfl, gtrans hg0 hg⟩

set_option maxRecDepth 20000 in
set_option maxHeartbeats 1000000 in
theorem rtwo_107 (a b : Nat) (w : World) (ha : a < 18446744073709551616) (hb : b < 18446744073709551616) :
    Calls Try.prog 6 #[.int .u8 107, .int .u64 (a : Int), .int .u64 (b : Int)] w fun e w' => e = .returned (.tuple #[.int .u64 (Fb64 2 a b : Nat), .int .i64 0]) ∧ Grown w w' := by
  obtain ⟨i, hi⟩ : ∃ i : Nat, i = a % 4294967296 := ⟨_, rfl⟩
  obtain ⟨j, hj⟩ : ∃ j : Nat, j = b % 4294967296 := ⟨_, rfl⟩
  have hi2 : (a : Int) % 4294967296 = (i : Int) := by omega
  have hj2 : (b : Int) % 4294967296 = (j : Int) := by omega
  have H0 := hide double_any
  have H := hide (fun w => basic64 2 a b w (by omega) (by omega) (by omega))
  obtain ⟨v, hv⟩ : ∃ v, v = Fb64 2 a b := ⟨_, rfl⟩
  rw [← hv] at H ⊢
  clear hi hj hv ha hb
  go_enter Try.func6, Try.ntmps6
  go_wp2_with fail
  refine (unhide H0 _).mono ?_
  rintro e w1 ⟨rfl, hg0⟩
  go_wp2_with fail
  refine (unhide H _).mono ?_
  rintro e w2 ⟨rfl, hg⟩
  go_wp2
  go_ret2
  exact ⟨rfl, gtrans hg0 hg⟩

set_option maxRecDepth 20000 in
set_option maxHeartbeats 1000000 in
theorem rtwo_110 (a b : Nat) (w : World) (ha : a < 18446744073709551616) (hb : b < 18446744073709551616) :
    Calls Try.prog 6 #[.int .u8 110, .int .u64 (a : Int), .int .u64 (b : Int)] w fun e w' => e = .returned (.tuple #[.int .u64 (Fb32 3 (a % 4294967296) (b % 4294967296) : Nat), .int .i64 0]) ∧ Grown w w' := by
  obtain ⟨i, hi⟩ : ∃ i : Nat, i = a % 4294967296 := ⟨_, rfl⟩
  obtain ⟨j, hj⟩ : ∃ j : Nat, j = b % 4294967296 := ⟨_, rfl⟩
  have hi2 : (a : Int) % 4294967296 = (i : Int) := by omega
  have hj2 : (b : Int) % 4294967296 = (j : Int) := by omega
  rw [← hi, ← hj]
  have H0 := hide single_any
  have H := hide (fun w => basic32 3 i j w (by omega) (by omega) (by omega))
  obtain ⟨v, hv⟩ : ∃ v, v = Fb32 3 i j := ⟨_, rfl⟩
  rw [← hv] at H ⊢
  clear hi hj hv ha hb
  go_enter Try.func6, Try.ntmps6
  go_wp2_with fail
  refine (unhide H0 _).mono ?_
  rintro e w1 ⟨rfl, hg0⟩
  go_wp2_with fail
  refine (unhide H _).mono ?_
  rintro e w2 ⟨rfl, hg⟩
  go_wp2
  go_ret2
  exact ⟨rfl, gtrans hg0 hg⟩

set_option maxRecDepth 20000 in
set_option maxHeartbeats 1000000 in
theorem rtwo_111 (a b : Nat) (w : World) (ha : a < 18446744073709551616) (hb : b < 18446744073709551616) :
    Calls Try.prog 6 #[.int .u8 111, .int .u64 (a : Int), .int .u64 (b : Int)] w fun e w' => e = .returned (.tuple #[.int .u64 (Fb64 3 a b : Nat), .int .i64 0]) ∧ Grown w w' := by
  obtain ⟨i, hi⟩ : ∃ i : Nat, i = a % 4294967296 := ⟨_, rfl⟩
  obtain ⟨j, hj⟩ : ∃ j : Nat, j = b % 4294967296 := ⟨_, rfl⟩
  have hi2 : (a : Int) % 4294967296 = (i : Int) := by omega
  have hj2 : (b : Int) % 4294967296 = (j : Int) := by omega
  have H0 := hide double_any
  have H := hide (fun w => basic64 3 a b w (by omega) (by omega) (by omega))
  obtain ⟨v, hv⟩ : ∃ v, v = Fb64 3 a b := ⟨_, rfl⟩
  rw [← hv] at H ⊢
  clear hi hj hv ha hb
  go_enter Try.func6, Try.ntmps6
  go_wp2_with fail
  refine (unhide H0 _).mono ?_
  rintro e w1 ⟨rfl, hg0⟩
  go_wp2_with fail
  refine (unhide H _).mono ?_
  rintro e w2 ⟨rfl, hg⟩
  go_wp2
  go_ret2
  exact ⟨rfl, gtrans hg0 hg⟩

set_option maxRecDepth 20000 in
set_option maxHeartbeats 1000000 in
theorem rtwo_114 (a b : Nat) (w : World) (ha : a < 18446744073709551616) (hb : b < 18446744073709551616) :
    Calls Try.prog 6 #[.int .u8 114, .int .u64 (a : Int), .int .u64 (b : Int)] w fun e w' => e = .returned (.tuple #[.int .u64 (Fb32 4 (a % 4294967296) (b % 4294967296) : Nat), .int .i64 0]) ∧ Grown w w' := by
  obtain ⟨i, hi⟩ : ∃ i : Nat, i = a % 4294967296 := ⟨_, rfl⟩
  obtain ⟨j, hj⟩ : ∃ j : Nat, j = b % 4294967296 := ⟨_, rfl⟩
  have hi2 : (a : Int) % 4294967296 = (i : Int) := by omega
  have hj2 : (b : Int) % 4294967296 = (j : Int) := by omega
  rw [← hi, ← hj]
  have H0 := hide single_any
  have H := hide (fun w => basic32 4 i j w (by omega) (by omega) (by omega))
  obtain ⟨v, hv⟩ : ∃ v, v = Fb32 4 i j := ⟨_, rfl⟩
  rw [← hv] at H ⊢
  clear hi hj hv ha hb
  go_enter Try.func6, Try.ntmps6
  go_wp2_with fail
  refine (unhide H0 _).mono ?_
  rintro e w1 ⟨rfl, hg0⟩
  go_wp2_with fail
  refine (unhide H _).mono ?_
  rintro e w2 ⟨rfl, hg⟩
  go_wp2
  go_ret2
  exact ⟨rfl, gtrans hg0 hg⟩

set_option maxRecDepth 20000 in
set_option maxHeartbeats 1000000 in
theorem rtwo_115 (a b : Nat) (w : World) (ha : a < 18446744073709551616) (hb : b < 18446744073709551616) :
    Calls Try.prog 6 #[.int .u8 115, .int .u64 (a : Int), .int .u64 (b : Int)] w fun e w' => e = .returned (.tuple #[.int .u64 (Fb64 4 a b : Nat), .int .i64 0]) ∧ Grown w w' := by
  obtain ⟨i, hi⟩ : ∃ i : Nat, i = a % 4294967296 := ⟨_, rfl⟩
  obtain ⟨j, hj⟩ : ∃ j : Nat, j = b % 4294967296 := ⟨_, rfl⟩
  have hi2 : (a : Int) % 4294967296 = (i : Int) := by omega
  have hj2 : (b : Int) % 4294967296 = (j : Int) := by omega
  have H0 := hide double_any
  have H := hide (fun w => basic64 4 a b w (by omega) (by omega) (by omega))
  obtain ⟨v, hv⟩ : ∃ v, v = Fb64 4 a b := ⟨_, rfl⟩
  rw [← hv] at H ⊢
  clear hi hj hv ha hb
  go_enter Try.func6, Try.ntmps6
  go_wp2_with fail
  refine (unhide H0 _).mono ?_
  rintro e w1 ⟨rfl, hg0⟩
  go_wp2_with fail
  refine (unhide H _).mono ?_
  rintro e w2 ⟨rfl, hg⟩
  go_wp2
  go_ret2
  exact ⟨rfl, gtrans hg0 hg⟩

set_option maxRecDepth 20000 in
set_option maxHeartbeats 1000000 in
theorem rtwo_149 (a b : Nat) (w : World) (ha : a < 18446744073709551616) (hb : b < 18446744073709551616) :
    Calls Try.prog 6 #[.int .u8 149, .int .u64 (a : Int), .int .u64 (b : Int)] w fun e w' => e = .returned (.tuple #[.int .u64 (ordN (Ieee.single.order (a % 4294967296) (b % 4294967296)) (-1)), .int .i64 0]) ∧ Grown w w' := by
  obtain ⟨i, hi⟩ : ∃ i : Nat, i = a % 4294967296 := ⟨_, rfl⟩
  obtain ⟨j, hj⟩ : ∃ j : Nat, j = b % 4294967296 := ⟨_, rfl⟩
  have hi2 : (a : Int) % 4294967296 = (i : Int) := by omega
  have hj2 : (b : Int) % 4294967296 = (j : Int) := by omega
  rw [← hi, ← hj]
  have H0 := hide single_any
  have H := hide (fun w => show Calls Try.prog 20 _ w fun r w' => r = .returned (.int .u64 (ordN (Ieee.single.order i j) (-1))) ∧ Grown w w' from ordered32 i j false w (by omega) (by omega))
  obtain ⟨v, hv⟩ : ∃ v, v = ordN (Ieee.single.order i j) (-1) := ⟨_, rfl⟩
  rw [← hv] at H ⊢
  clear hi hj hv ha hb
  go_enter Try.func6, Try.ntmps6
  go_wp2_with fail
  refine (unhide H0 _).mono ?_
  rintro e w1 ⟨rfl, hg0⟩
  go_wp2_with fail
  refine (unhide H _).mono ?_
  rintro e w2 ⟨rfl, hg⟩
  go_wp2
  go_ret2
  exact ⟨rfl, gtrans hg0 hg⟩

set_option maxRecDepth 20000 in
set_option maxHeartbeats 1000000 in
theorem rtwo_150 (a b : Nat) (w : World) (ha : a < 18446744073709551616) (hb : b < 18446744073709551616) :
    Calls Try.prog 6 #[.int .u8 150, .int .u64 (a : Int), .int .u64 (b : Int)] w fun e w' => e = .returned (.tuple #[.int .u64 (ordN (Ieee.single.order (a % 4294967296) (b % 4294967296)) (1)), .int .i64 0]) ∧ Grown w w' := by
  obtain ⟨i, hi⟩ : ∃ i : Nat, i = a % 4294967296 := ⟨_, rfl⟩
  obtain ⟨j, hj⟩ : ∃ j : Nat, j = b % 4294967296 := ⟨_, rfl⟩
  have hi2 : (a : Int) % 4294967296 = (i : Int) := by omega
  have hj2 : (b : Int) % 4294967296 = (j : Int) := by omega
  rw [← hi, ← hj]
  have H0 := hide single_any
  have H := hide (fun w => show Calls Try.prog 20 _ w fun r w' => r = .returned (.int .u64 (ordN (Ieee.single.order i j) (1))) ∧ Grown w w' from ordered32 i j true w (by omega) (by omega))
  obtain ⟨v, hv⟩ : ∃ v, v = ordN (Ieee.single.order i j) (1) := ⟨_, rfl⟩
  rw [← hv] at H ⊢
  clear hi hj hv ha hb
  go_enter Try.func6, Try.ntmps6
  go_wp2_with fail
  refine (unhide H0 _).mono ?_
  rintro e w1 ⟨rfl, hg0⟩
  go_wp2_with fail
  refine (unhide H _).mono ?_
  rintro e w2 ⟨rfl, hg⟩
  go_wp2
  go_ret2
  exact ⟨rfl, gtrans hg0 hg⟩

set_option maxRecDepth 20000 in
set_option maxHeartbeats 1000000 in
theorem rtwo_151 (a b : Nat) (w : World) (ha : a < 18446744073709551616) (hb : b < 18446744073709551616) :
    Calls Try.prog 6 #[.int .u8 151, .int .u64 (a : Int), .int .u64 (b : Int)] w fun e w' => e = .returned (.tuple #[.int .u64 (ordN (Ieee.double.order a b) (-1)), .int .i64 0]) ∧ Grown w w' := by
  obtain ⟨i, hi⟩ : ∃ i : Nat, i = a % 4294967296 := ⟨_, rfl⟩
  obtain ⟨j, hj⟩ : ∃ j : Nat, j = b % 4294967296 := ⟨_, rfl⟩
  have hi2 : (a : Int) % 4294967296 = (i : Int) := by omega
  have hj2 : (b : Int) % 4294967296 = (j : Int) := by omega
  have H0 := hide double_any
  have H := hide (fun w => show Calls Try.prog 20 _ w fun r w' => r = .returned (.int .u64 (ordN (Ieee.double.order a b) (-1))) ∧ Grown w w' from ordered64 a b false w (by omega) (by omega))
  obtain ⟨v, hv⟩ : ∃ v, v = ordN (Ieee.double.order a b) (-1) := ⟨_, rfl⟩
  rw [← hv] at H ⊢
  clear hi hj hv ha hb
  go_enter Try.func6, Try.ntmps6
  go_wp2_with fail
  refine (unhide H0 _).mono ?_
  rintro e w1 ⟨rfl, hg0⟩
  go_wp2_with fail
  refine (unhide H _).mono ?_
  rintro e w2 ⟨rfl, hg⟩
  go_wp2
  go_ret2
  exact ⟨rfl, gtrans hg0 hg⟩

set_option maxRecDepth 20000 in
set_option maxHeartbeats 1000000 in
theorem rtwo_152 (a b : Nat) (w : World) (ha : a < 18446744073709551616) (hb : b < 18446744073709551616) :
    Calls Try.prog 6 #[.int .u8 152, .int .u64 (a : Int), .int .u64 (b : Int)] w fun e w' => e = .returned (.tuple #[.int .u64 (ordN (Ieee.double.order a b) (1)), .int .i64 0]) ∧ Grown w w' := by
  obtain ⟨i, hi⟩ : ∃ i : Nat, i = a % 4294967296 := ⟨_, rfl⟩
  obtain ⟨j, hj⟩ : ∃ j : Nat, j = b % 4294967296 := ⟨_, rfl⟩
  have hi2 : (a : Int) % 4294967296 = (i : Int) := by omega
  have hj2 : (b : Int) % 4294967296 = (j : Int) := by omega
  have H0 := hide double_any
  have H := hide (fun w => show Calls Try.prog 20 _ w fun r w' => r = .returned (.int .u64 (ordN (Ieee.double.order a b) (1))) ∧ Grown w w' from ordered64 a b true w (by omega) (by omega))
  obtain ⟨v, hv⟩ : ∃ v, v = ordN (Ieee.double.order a b) (1) := ⟨_, rfl⟩
  rw [← hv] at H ⊢
  clear hi hj hv ha hb
  go_enter Try.func6, Try.ntmps6
  go_wp2_with fail
  refine (unhide H0 _).mono ?_
  rintro e w1 ⟨rfl, hg0⟩
  go_wp2_with fail
  refine (unhide H _).mono ?_
  rintro e w2 ⟨rfl, hg⟩
  go_wp2
  go_ret2
  exact ⟨rfl, gtrans hg0 hg⟩

theorem xor63 (x : Nat) (h : x < 18446744073709551616) : bits .xor .u64 (x : Int) 9223372036854775808 = wrap64 x + 9223372036854775808 := by
  have hw : wrap64 (x : Int) = if x < 9223372036854775808 then (x : Int) else (x : Int) - 18446744073709551616 := by unfold wrap64; split <;> omega
  have e : bits .xor .u64 (x : Int) 9223372036854775808 = ((x ^^^ 9223372036854775808 : Nat) : Int) := by
    rw [u64_xor _ _ (by omega) (by omega) (by omega) (by omega)]
    rfl
  rw [e, hw]
  have h1 : (x ^^^ 9223372036854775808) % 2 ^ 63 = (x % 2 ^ 63) ^^^ (9223372036854775808 % 2 ^ 63) := Nat.xor_mod_two_pow
  have h2 : (x ^^^ 9223372036854775808) / 2 ^ 63 = (x / 2 ^ 63) ^^^ (9223372036854775808 / 2 ^ 63) := Nat.xor_div_two_pow
  have h3 := Nat.div_add_mod (x ^^^ 9223372036854775808) (2 ^ 63)
  rw [h1, h2, show 9223372036854775808 % 2 ^ 63 = 0 from by decide, show 9223372036854775808 / 2 ^ 63 = 1 from by decide, Nat.xor_zero] at h3
  by_cases hx : x < 9223372036854775808
  · rw [if_pos hx]
    rw [Nat.div_eq_of_lt (show x < 2 ^ 63 by omega), Nat.mod_eq_of_lt (show x < 2 ^ 63 by omega), Nat.zero_xor] at h3
    omega
  · rw [if_neg hx]
    rw [show x / 2 ^ 63 = 1 by omega, Nat.xor_self] at h3
    omega

set_option maxRecDepth 20000 in
set_option maxHeartbeats 1000000 in
theorem rtwo_148 (a b : Nat) (w : World) (ha : a < 18446744073709551616) (hb : b < 18446744073709551616) :
    Calls Try.prog 6 #[.int .u8 148, .int .u64 (a : Int), .int .u64 (b : Int)] w fun e w' => e = .returned (.tuple #[.int .u64 (ordV (compare (wrap64 a) (wrap64 b))), .int .i64 0]) ∧ Grown w w' := by
  obtain ⟨i, hi⟩ : ∃ i : Nat, i = a % 4294967296 := ⟨_, rfl⟩
  obtain ⟨j, hj⟩ : ∃ j : Nat, j = b % 4294967296 := ⟨_, rfl⟩
  have hi2 : (a : Int) % 4294967296 = (i : Int) := by omega
  have hj2 : (b : Int) % 4294967296 = (j : Int) := by omega
  have xa := xor63 a ha
  have xb := xor63 b hb
  obtain ⟨x, hx⟩ : ∃ x, x = wrap64 (a : Int) := ⟨_, rfl⟩
  obtain ⟨y, hy⟩ : ∃ y, y = wrap64 (b : Int) := ⟨_, rfl⟩
  rw [← hx] at xa ⊢
  rw [← hy] at xb ⊢
  have hxy : (a : Int) = b ↔ x = y := by rw [hx, hy]; unfold wrap64; omega
  have HR := hide rorder_any
  have hab := Int.lt_trichotomy x y
  clear hi hj hx hy ha hb
  rcases hab with h | h | h
  · have hc : compare x y = .lt := by simp [compare, compareOfLessAndEq, h]
    rw [hc]
    have h2 : ¬ (a : Int) = (b : Int) := by rw [hxy]; omega
    have h3 : ¬ a = b := by omega
    clear hc hxy
    go_enter Try.func6, Try.ntmps6
    go_wp2_with fail
    refine (unhide HR _ _ _).mono ?_
    rintro e w1 ⟨rfl, hw⟩
    subst hw
    go_wp2
    go_ret2
    exact ⟨rfl, Grown.refl _⟩
  · have hc : compare x y = .eq := by rw [h]; simp [compare, compareOfLessAndEq]
    rw [hc]
    have h0 : a = b := by have := hxy.2 h; omega
    subst h0
    subst h
    clear hc hxy
    go_enter Try.func6, Try.ntmps6
    go_wp2_with fail
    refine (unhide HR _ _ _).mono ?_
    rintro e w1 ⟨rfl, hw⟩
    subst hw
    go_wp2
    go_ret2
    exact ⟨by simp; rfl, Grown.refl _⟩
  · have hc : compare x y = .gt := by simp [compare, compareOfLessAndEq, Int.not_lt.2 (Int.le_of_lt h), show ¬ x = y by omega]
    rw [hc]
    have h1 : ¬ x < y := by omega
    have h2 : ¬ (a : Int) = (b : Int) := by rw [hxy]; omega
    have h3 : ¬ a = b := by omega
    clear hc hxy
    go_enter Try.func6, Try.ntmps6
    go_wp2_with fail
    refine (unhide HR _ _ _).mono ?_
    rintro e w1 ⟨rfl, hw⟩
    subst hw
    go_wp2
    go_ret2
    exact ⟨rfl, Grown.refl _⟩

set_option maxRecDepth 20000 in
set_option maxHeartbeats 1000000 in
theorem rtwo_no (op : Int) (a b : Nat) (w : World) (h1 : ¬ (96 ≤ op ∧ op ≤ 115)) (h2 : ¬ (120 ≤ op ∧ op ≤ 131)) (h3 : ¬ (148 ≤ op ∧ op ≤ 152)) :
    Calls Try.prog 6 #[.int .u8 op, .int .u64 (a : Int), .int .u64 (b : Int)] w fun e w' => e = .returned (.tuple #[.int .u64 0, .int .i64 14]) ∧ Grown w w' := by
  have n0 : (op == 126) = false := by rw [beq_eq_false_iff_ne]; omega
  have n1 : (op == 127) = false := by rw [beq_eq_false_iff_ne]; omega
  have n2 : (op == 128) = false := by rw [beq_eq_false_iff_ne]; omega
  have n3 : (op == 129) = false := by rw [beq_eq_false_iff_ne]; omega
  have n4 : (op == 130) = false := by rw [beq_eq_false_iff_ne]; omega
  have n5 : (op == 131) = false := by rw [beq_eq_false_iff_ne]; omega
  have n6 : (op == 148) = false := by rw [beq_eq_false_iff_ne]; omega
  have n7 : (op == 149) = false := by rw [beq_eq_false_iff_ne]; omega
  have n8 : (op == 150) = false := by rw [beq_eq_false_iff_ne]; omega
  have n9 : (op == 151) = false := by rw [beq_eq_false_iff_ne]; omega
  have n10 : (op == 152) = false := by rw [beq_eq_false_iff_ne]; omega
  by_cases c1 : 96 ≤ op
  · have c3 : ¬ op ≤ 115 := by omega
    by_cases c2 : 120 ≤ op
    · have c4 : ¬ op ≤ 125 := by omega
      clear h1 h2 h3
      go_enter Try.func6, Try.ntmps6
      go_wp2
      all_goals first
      | (exfalso; omega)
      | (go_ret2; exact ⟨rfl, Grown.refl _⟩)
    · clear h1 h2 h3
      go_enter Try.func6, Try.ntmps6
      go_wp2
      all_goals first
      | (exfalso; omega)
      | (go_ret2; exact ⟨rfl, Grown.refl _⟩)
  · have c2 : ¬ 120 ≤ op := by omega
    clear h1 h2 h3
    go_enter Try.func6, Try.ntmps6
    go_wp2
    all_goals first
    | (exfalso; omega)
    | (go_ret2; exact ⟨rfl, Grown.refl _⟩)

end Go.Proofs.Ytjnelkpgdjphmaa
