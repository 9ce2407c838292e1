import Derived.Test.YtjnelkpgdjphmaaME
import Derived.Test.YtjnelkpgdjphmaaRA
import Derived.Test.YtjnelkpgdjphmaaRc
namespace Go.Proofs.Ytjnelkpgdjphmaa
open Go.RowKit
set_option linter.unusedVariables false
set_option linter.unusedSimpArgs false

theorem mod32_lt (a : Nat) : a % 4294967296 < 4294967296 := Nat.mod_lt _ (by omega)

set_option maxRecDepth 20000 in
theorem reckoned_98 (a b : Nat) (w : World) (ha : a < 18446744073709551616) (hb : b < 18446744073709551616) :
    Calls Try.prog 10 #[.int .u8 98, .int .u64 (a : Int), .int .u64 (b : Int)] w fun e w' => e = .returned (.tuple #[.int .u64 (Fb32 0 (a % 4294967296) (b % 4294967296) : Nat), .int .i64 0]) ∧ Grown w w' := by
  have H0 := hide toFloat_any
  have H1 := hide (fun w => ofParts32_any 0 (a % 4294967296) (b % 4294967296) w (by omega) (mod32_lt a) (mod32_lt b))
  have H2 := hide ofFloat_fl
  obtain ⟨v, hv⟩ : ∃ v, v = Fb32 0 (a % 4294967296) (b % 4294967296) := ⟨_, rfl⟩
  unfold Gf32 at H1
  rw [← hv] at H1 ⊢
  clear hv ha hb
  go_enter Try.func10, Try.ntmps10
  go_wp2_with fail
  refine (unhide H0 _ _).mono ?_
  rintro e w1 ⟨rfl, hw⟩
  subst hw
  go_wp2_with fail
  refine (unhide H0 _ _).mono ?_
  rintro e w1 ⟨rfl, hw⟩
  subst hw
  go_wp2_with fail
  refine (unhide H1 _).mono ?_
  rintro e w2 ⟨⟨r, rfl, hr⟩, hg⟩
  have Hr := hide hr
  clear hr
  go_wp2_with fail
  refine (unhide H2 _ _ _ (unhide Hr)).mono ?_
  rintro e w3 ⟨rfl, hw⟩
  subst hw
  go_wp2
  go_ret2
  exact ⟨rfl, hg⟩

set_option maxRecDepth 20000 in
theorem reckoned_99 (a b : Nat) (w : World) (ha : a < 18446744073709551616) (hb : b < 18446744073709551616) :
    Calls Try.prog 10 #[.int .u8 99, .int .u64 (a : Int), .int .u64 (b : Int)] w fun e w' => e = .returned (.tuple #[.int .u64 (Fb64 0 a b : Nat), .int .i64 0]) ∧ Grown w w' := by
  have H0 := hide toDouble_any
  have H1 := hide (fun w => ofParts64_any 0 a b w (by omega) ha hb)
  have H2 := hide ofDouble_fl
  obtain ⟨v, hv⟩ : ∃ v, v = Fb64 0 a b := ⟨_, rfl⟩
  unfold Gf64 at H1
  rw [← hv] at H1 ⊢
  clear hv ha hb
  go_enter Try.func10, Try.ntmps10
  go_wp2_with fail
  refine (unhide H0 _ _).mono ?_
  rintro e w1 ⟨rfl, hw⟩
  subst hw
  go_wp2_with fail
  refine (unhide H0 _ _).mono ?_
  rintro e w1 ⟨rfl, hw⟩
  subst hw
  go_wp2_with fail
  refine (unhide H1 _).mono ?_
  rintro e w2 ⟨⟨r, rfl, hr⟩, hg⟩
  have Hr := hide hr
  clear hr
  go_wp2_with fail
  refine (unhide H2 _ _ _ (unhide Hr)).mono ?_
  rintro e w3 ⟨rfl, hw⟩
  subst hw
  go_wp2
  go_ret2
  exact ⟨rfl, hg⟩

set_option maxRecDepth 20000 in
theorem reckoned_102 (a b : Nat) (w : World) (ha : a < 18446744073709551616) (hb : b < 18446744073709551616) :
    Calls Try.prog 10 #[.int .u8 102, .int .u64 (a : Int), .int .u64 (b : Int)] w fun e w' => e = .returned (.tuple #[.int .u64 (Fb32 1 (a % 4294967296) (b % 4294967296) : Nat), .int .i64 0]) ∧ Grown w w' := by
  have H0 := hide toFloat_any
  have H1 := hide (fun w => ofParts32_any 1 (a % 4294967296) (b % 4294967296) w (by omega) (mod32_lt a) (mod32_lt b))
  have H2 := hide ofFloat_fl
  obtain ⟨v, hv⟩ : ∃ v, v = Fb32 1 (a % 4294967296) (b % 4294967296) := ⟨_, rfl⟩
  unfold Gf32 at H1
  rw [← hv] at H1 ⊢
  clear hv ha hb
  go_enter Try.func10, Try.ntmps10
  go_wp2_with fail
  refine (unhide H0 _ _).mono ?_
  rintro e w1 ⟨rfl, hw⟩
  subst hw
  go_wp2_with fail
  refine (unhide H0 _ _).mono ?_
  rintro e w1 ⟨rfl, hw⟩
  subst hw
  go_wp2_with fail
  refine (unhide H1 _).mono ?_
  rintro e w2 ⟨⟨r, rfl, hr⟩, hg⟩
  have Hr := hide hr
  clear hr
  go_wp2_with fail
  refine (unhide H2 _ _ _ (unhide Hr)).mono ?_
  rintro e w3 ⟨rfl, hw⟩
  subst hw
  go_wp2
  go_ret2
  exact ⟨rfl, hg⟩

set_option maxRecDepth 20000 in
theorem reckoned_103 (a b : Nat) (w : World) (ha : a < 18446744073709551616) (hb : b < 18446744073709551616) :
    Calls Try.prog 10 #[.int .u8 103, .int .u64 (a : Int), .int .u64 (b : Int)] w fun e w' => e = .returned (.tuple #[.int .u64 (Fb64 1 a b : Nat), .int .i64 0]) ∧ Grown w w' := by
  have H0 := hide toDouble_any
  have H1 := hide (fun w => ofParts64_any 1 a b w (by omega) ha hb)
  have H2 := hide ofDouble_fl
  obtain ⟨v, hv⟩ : ∃ v, v = Fb64 1 a b := ⟨_, rfl⟩
  unfold Gf64 at H1
  rw [← hv] at H1 ⊢
  clear hv ha hb
  go_enter Try.func10, Try.ntmps10
  go_wp2_with fail
  refine (unhide H0 _ _).mono ?_
  rintro e w1 ⟨rfl, hw⟩
  subst hw
  go_wp2_with fail
  refine (unhide H0 _ _).mono ?_
  rintro e w1 ⟨rfl, hw⟩
  subst hw
  go_wp2_with fail
  refine (unhide H1 _).mono ?_
  rintro e w2 ⟨⟨r, rfl, hr⟩, hg⟩
  have Hr := hide hr
  clear hr
  go_wp2_with fail
  refine (unhide H2 _ _ _ (unhide Hr)).mono ?_
  rintro e w3 ⟨rfl, hw⟩
  subst hw
  go_wp2
  go_ret2
  exact ⟨rfl, hg⟩

set_option maxRecDepth 20000 in
theorem reckoned_106 (a b : Nat) (w : World) (ha : a < 18446744073709551616) (hb : b < 18446744073709551616) :
    Calls Try.prog 10 #[.int .u8 106, .int .u64 (a : Int), .int .u64 (b : Int)] w fun e w' => e = .returned (.tuple #[.int .u64 (Fb32 2 (a % 4294967296) (b % 4294967296) : Nat), .int .i64 0]) ∧ Grown w w' := by
  have H0 := hide toFloat_any
  have H1 := hide (fun w => ofParts32_any 2 (a % 4294967296) (b % 4294967296) w (by omega) (mod32_lt a) (mod32_lt b))
  have H2 := hide ofFloat_fl
  obtain ⟨v, hv⟩ : ∃ v, v = Fb32 2 (a % 4294967296) (b % 4294967296) := ⟨_, rfl⟩
  unfold Gf32 at H1
  rw [← hv] at H1 ⊢
  clear hv ha hb
  go_enter Try.func10, Try.ntmps10
  go_wp2_with fail
  refine (unhide H0 _ _).mono ?_
  rintro e w1 ⟨rfl, hw⟩
  subst hw
  go_wp2_with fail
  refine (unhide H0 _ _).mono ?_
  rintro e w1 ⟨rfl, hw⟩
  subst hw
  go_wp2_with fail
  refine (unhide H1 _).mono ?_
  rintro e w2 ⟨⟨r, rfl, hr⟩, hg⟩
  have Hr := hide hr
  clear hr
  go_wp2_with fail
  refine (unhide H2 _ _ _ (unhide Hr)).mono ?_
  rintro e w3 ⟨rfl, hw⟩
  subst hw
  go_wp2
  go_ret2
  exact ⟨rfl, hg⟩

set_option maxRecDepth 20000 in
theorem reckoned_107 (a b : Nat) (w : World) (ha : a < 18446744073709551616) (hb : b < 18446744073709551616) :
    Calls Try.prog 10 #[.int .u8 107, .int .u64 (a : Int), .int .u64 (b : Int)] w fun e w' => e = .returned (.tuple #[.int .u64 (Fb64 2 a b : Nat), .int .i64 0]) ∧ Grown w w' := by
  have H0 := hide toDouble_any
  have H1 := hide (fun w => ofParts64_any 2 a b w (by omega) ha hb)
  have H2 := hide ofDouble_fl
  obtain ⟨v, hv⟩ : ∃ v, v = Fb64 2 a b := ⟨_, rfl⟩
  unfold Gf64 at H1
  rw [← hv] at H1 ⊢
  clear hv ha hb
  go_enter Try.func10, Try.ntmps10
  go_wp2_with fail
  refine (unhide H0 _ _).mono ?_
  rintro e w1 ⟨rfl, hw⟩
  subst hw
  go_wp2_with fail
  refine (unhide H0 _ _).mono ?_
  rintro e w1 ⟨rfl, hw⟩
  subst hw
  go_wp2_with fail
  refine (unhide H1 _).mono ?_
  rintro e w2 ⟨⟨r, rfl, hr⟩, hg⟩
  have Hr := hide hr
  clear hr
  go_wp2_with fail
  refine (unhide H2 _ _ _ (unhide Hr)).mono ?_
  rintro e w3 ⟨rfl, hw⟩
  subst hw
  go_wp2
  go_ret2
  exact ⟨rfl, hg⟩

set_option maxRecDepth 20000 in
theorem reckoned_110 (a b : Nat) (w : World) (ha : a < 18446744073709551616) (hb : b < 18446744073709551616) :
    Calls Try.prog 10 #[.int .u8 110, .int .u64 (a : Int), .int .u64 (b : Int)] w fun e w' => e = .returned (.tuple #[.int .u64 (Fb32 3 (a % 4294967296) (b % 4294967296) : Nat), .int .i64 0]) ∧ Grown w w' := by
  have H0 := hide toFloat_any
  have H1 := hide (fun w => ofParts32_any 3 (a % 4294967296) (b % 4294967296) w (by omega) (mod32_lt a) (mod32_lt b))
  have H2 := hide ofFloat_fl
  obtain ⟨v, hv⟩ : ∃ v, v = Fb32 3 (a % 4294967296) (b % 4294967296) := ⟨_, rfl⟩
  unfold Gf32 at H1
  rw [← hv] at H1 ⊢
  clear hv ha hb
  go_enter Try.func10, Try.ntmps10
  go_wp2_with fail
  refine (unhide H0 _ _).mono ?_
  rintro e w1 ⟨rfl, hw⟩
  subst hw
  go_wp2_with fail
  refine (unhide H0 _ _).mono ?_
  rintro e w1 ⟨rfl, hw⟩
  subst hw
  go_wp2_with fail
  refine (unhide H1 _).mono ?_
  rintro e w2 ⟨⟨r, rfl, hr⟩, hg⟩
  have Hr := hide hr
  clear hr
  go_wp2_with fail
  refine (unhide H2 _ _ _ (unhide Hr)).mono ?_
  rintro e w3 ⟨rfl, hw⟩
  subst hw
  go_wp2
  go_ret2
  exact ⟨rfl, hg⟩

set_option maxRecDepth 20000 in
theorem reckoned_111 (a b : Nat) (w : World) (ha : a < 18446744073709551616) (hb : b < 18446744073709551616) :
    Calls Try.prog 10 #[.int .u8 111, .int .u64 (a : Int), .int .u64 (b : Int)] w fun e w' => e = .returned (.tuple #[.int .u64 (Fb64 3 a b : Nat), .int .i64 0]) ∧ Grown w w' := by
  have H0 := hide toDouble_any
  have H1 := hide (fun w => ofParts64_any 3 a b w (by omega) ha hb)
  have H2 := hide ofDouble_fl
  obtain ⟨v, hv⟩ : ∃ v, v = Fb64 3 a b := ⟨_, rfl⟩
  unfold Gf64 at H1
  rw [← hv] at H1 ⊢
  clear hv ha hb
  go_enter Try.func10, Try.ntmps10
  go_wp2_with fail
  refine (unhide H0 _ _).mono ?_
  rintro e w1 ⟨rfl, hw⟩
  subst hw
  go_wp2_with fail
  refine (unhide H0 _ _).mono ?_
  rintro e w1 ⟨rfl, hw⟩
  subst hw
  go_wp2_with fail
  refine (unhide H1 _).mono ?_
  rintro e w2 ⟨⟨r, rfl, hr⟩, hg⟩
  have Hr := hide hr
  clear hr
  go_wp2_with fail
  refine (unhide H2 _ _ _ (unhide Hr)).mono ?_
  rintro e w3 ⟨rfl, hw⟩
  subst hw
  go_wp2
  go_ret2
  exact ⟨rfl, hg⟩

set_option maxRecDepth 20000 in
theorem reckoned_114 (a b : Nat) (w : World) (ha : a < 18446744073709551616) (hb : b < 18446744073709551616) :
    Calls Try.prog 10 #[.int .u8 114, .int .u64 (a : Int), .int .u64 (b : Int)] w fun e w' => e = .returned (.tuple #[.int .u64 (Fb32 4 (a % 4294967296) (b % 4294967296) : Nat), .int .i64 0]) ∧ Grown w w' := by
  have H0 := hide toFloat_any
  have H1 := hide (fun w => ofParts32_any 4 (a % 4294967296) (b % 4294967296) w (by omega) (mod32_lt a) (mod32_lt b))
  have H2 := hide ofFloat_fl
  obtain ⟨v, hv⟩ : ∃ v, v = Fb32 4 (a % 4294967296) (b % 4294967296) := ⟨_, rfl⟩
  unfold Gf32 at H1
  rw [← hv] at H1 ⊢
  clear hv ha hb
  go_enter Try.func10, Try.ntmps10
  go_wp2_with fail
  refine (unhide H0 _ _).mono ?_
  rintro e w1 ⟨rfl, hw⟩
  subst hw
  go_wp2_with fail
  refine (unhide H0 _ _).mono ?_
  rintro e w1 ⟨rfl, hw⟩
  subst hw
  go_wp2_with fail
  refine (unhide H1 _).mono ?_
  rintro e w2 ⟨⟨r, rfl, hr⟩, hg⟩
  have Hr := hide hr
  clear hr
  go_wp2_with fail
  refine (unhide H2 _ _ _ (unhide Hr)).mono ?_
  rintro e w3 ⟨rfl, hw⟩
  subst hw
  go_wp2
  go_ret2
  exact ⟨rfl, hg⟩

set_option maxRecDepth 20000 in
theorem reckoned_115 (a b : Nat) (w : World) (ha : a < 18446744073709551616) (hb : b < 18446744073709551616) :
    Calls Try.prog 10 #[.int .u8 115, .int .u64 (a : Int), .int .u64 (b : Int)] w fun e w' => e = .returned (.tuple #[.int .u64 (Fb64 4 a b : Nat), .int .i64 0]) ∧ Grown w w' := by
  have H0 := hide toDouble_any
  have H1 := hide (fun w => ofParts64_any 4 a b w (by omega) ha hb)
  have H2 := hide ofDouble_fl
  obtain ⟨v, hv⟩ : ∃ v, v = Fb64 4 a b := ⟨_, rfl⟩
  unfold Gf64 at H1
  rw [← hv] at H1 ⊢
  clear hv ha hb
  go_enter Try.func10, Try.ntmps10
  go_wp2_with fail
  refine (unhide H0 _ _).mono ?_
  rintro e w1 ⟨rfl, hw⟩
  subst hw
  go_wp2_with fail
  refine (unhide H0 _ _).mono ?_
  rintro e w1 ⟨rfl, hw⟩
  subst hw
  go_wp2_with fail
  refine (unhide H1 _).mono ?_
  rintro e w2 ⟨⟨r, rfl, hr⟩, hg⟩
  have Hr := hide hr
  clear hr
  go_wp2_with fail
  refine (unhide H2 _ _ _ (unhide Hr)).mono ?_
  rintro e w3 ⟨rfl, hw⟩
  subst hw
  go_wp2
  go_ret2
  exact ⟨rfl, hg⟩

end Go.Proofs.Ytjnelkpgdjphmaa

namespace Go.Proofs.Ytjnelkpgdjphmaa
open Go.RowKit
set_option linter.unusedVariables false
set_option linter.unusedSimpArgs false

abbrev Tw (f : Nat) (op a b : Nat) (v e : Int) : Prop :=
  ∀ w : World, Calls Try.prog f #[.int .u8 (op : Int), .int .u64 (a : Int), .int .u64 (b : Int)] w fun r w' => r = .returned (.tuple #[.int .u64 v, .int .i64 e]) ∧ Grown w w'
abbrev On (f : Nat) (op a b : Nat) (v : Int) : Prop :=
  ∀ w : World, Calls Try.prog f #[.int .u8 (op : Int), .int .u64 (a : Int), .int .u64 (b : Int)] w fun r w' => r = .returned (.int .u64 v) ∧ Grown w w'

set_option maxRecDepth 20000 in
theorem two_reckoned (op a b : Nat) (v e : Int) (h1 : 96 ≤ op ∧ op ≤ 115) (h : Tw 10 op a b v e) : Tw 5 op a b v e := by
  intro w
  have d1 := decide_eq_true h1
  have HW := hide within_any
  have H := hide h
  clear h h1
  go_enter Try.func5, Try.ntmps5
  go_wp2_with fail
  refine (unhide HW op 96 115 _).mono ?_
  rintro r w1 ⟨rfl, hw⟩
  subst hw
  rw [d1]
  go_wp2_with fail
  refine (unhide H _).mono ?_
  rintro r w2 ⟨rfl, hg⟩
  go_wp2
  go_ret2
  exact ⟨rfl, hg⟩

set_option maxRecDepth 20000 in
theorem two_moved (op a b : Nat) (v : Int) (h1 : 120 ≤ op ∧ op ≤ 125) (h : On 11 op a b v) : Tw 5 op a b v 0 := by
  intro w
  have d1 : decide (96 ≤ op ∧ op ≤ 115) = false := decide_eq_false (by omega)
  have d2 := decide_eq_true h1
  have HW := hide within_any
  have H := hide h
  clear h h1
  go_enter Try.func5, Try.ntmps5
  go_wp2_with fail
  refine (unhide HW op 96 115 _).mono ?_
  rintro r w1 ⟨rfl, hw⟩
  subst hw
  rw [d1]
  go_wp2_with fail
  refine (unhide HW op 120 125 _).mono ?_
  rintro r w1 ⟨rfl, hw⟩
  subst hw
  rw [d2]
  go_wp2_with fail
  refine (unhide H _).mono ?_
  rintro r w2 ⟨rfl, hg⟩
  go_wp2
  go_ret2
  exact ⟨rfl, hg⟩

set_option maxRecDepth 20000 in
theorem two_joined (op a b : Nat) (v : Int) (h1 : 126 ≤ op ∧ op ≤ 131) (h : On 12 op a b v) : Tw 5 op a b v 0 := by
  intro w
  have d1 : decide (96 ≤ op ∧ op ≤ 115) = false := decide_eq_false (by omega)
  have d2 : decide (120 ≤ op ∧ op ≤ 125) = false := decide_eq_false (by omega)
  have d3 := decide_eq_true h1
  have HW := hide within_any
  have H := hide h
  clear h h1
  go_enter Try.func5, Try.ntmps5
  go_wp2_with fail
  refine (unhide HW op 96 115 _).mono ?_
  rintro r w1 ⟨rfl, hw⟩
  subst hw
  rw [d1]
  go_wp2_with fail
  refine (unhide HW op 120 125 _).mono ?_
  rintro r w1 ⟨rfl, hw⟩
  subst hw
  rw [d2]
  go_wp2_with fail
  refine (unhide HW op 126 131 _).mono ?_
  rintro r w1 ⟨rfl, hw⟩
  subst hw
  rw [d3]
  go_wp2_with fail
  refine (unhide H _).mono ?_
  rintro r w2 ⟨rfl, hg⟩
  go_wp2
  go_ret2
  exact ⟨rfl, hg⟩

set_option maxRecDepth 20000 in
theorem two_compared (op a b : Nat) (v : Int) (h1 : 148 ≤ op ∧ op ≤ 152) (h : On 13 op a b v) : Tw 5 op a b v 0 := by
  intro w
  have d1 : decide (96 ≤ op ∧ op ≤ 115) = false := decide_eq_false (by omega)
  have d2 : decide (120 ≤ op ∧ op ≤ 125) = false := decide_eq_false (by omega)
  have d3 : decide (126 ≤ op ∧ op ≤ 131) = false := decide_eq_false (by omega)
  have d4 := decide_eq_true h1
  have HW := hide within_any
  have H := hide h
  clear h h1
  go_enter Try.func5, Try.ntmps5
  go_wp2_with fail
  refine (unhide HW op 96 115 _).mono ?_
  rintro r w1 ⟨rfl, hw⟩
  subst hw
  rw [d1]
  go_wp2_with fail
  refine (unhide HW op 120 125 _).mono ?_
  rintro r w1 ⟨rfl, hw⟩
  subst hw
  rw [d2]
  go_wp2_with fail
  refine (unhide HW op 126 131 _).mono ?_
  rintro r w1 ⟨rfl, hw⟩
  subst hw
  rw [d3]
  go_wp2_with fail
  refine (unhide HW op 148 152 _).mono ?_
  rintro r w1 ⟨rfl, hw⟩
  subst hw
  rw [d4]
  go_wp2_with fail
  refine (unhide H _).mono ?_
  rintro r w2 ⟨rfl, hg⟩
  go_wp2
  go_ret2
  exact ⟨rfl, hg⟩

set_option maxRecDepth 20000 in
theorem two_no (op a b : Nat) (h1 : ¬ (96 ≤ op ∧ op ≤ 115)) (h2 : ¬ (120 ≤ op ∧ op ≤ 131)) (h3 : ¬ (148 ≤ op ∧ op ≤ 152)) : Tw 5 op a b 0 14 := by
  intro w
  have d1 : decide (96 ≤ op ∧ op ≤ 115) = false := decide_eq_false (by omega)
  have d2 : decide (120 ≤ op ∧ op ≤ 125) = false := decide_eq_false (by omega)
  have d3 : decide (126 ≤ op ∧ op ≤ 131) = false := decide_eq_false (by omega)
  have d4 : decide (148 ≤ op ∧ op ≤ 152) = false := decide_eq_false (by omega)
  have HW := hide within_any
  clear h1 h2 h3
  go_enter Try.func5, Try.ntmps5
  go_wp2_with fail
  refine (unhide HW op 96 115 _).mono ?_
  rintro r w1 ⟨rfl, hw⟩
  subst hw
  rw [d1]
  go_wp2_with fail
  refine (unhide HW op 120 125 _).mono ?_
  rintro r w1 ⟨rfl, hw⟩
  subst hw
  rw [d2]
  go_wp2_with fail
  refine (unhide HW op 126 131 _).mono ?_
  rintro r w1 ⟨rfl, hw⟩
  subst hw
  rw [d3]
  go_wp2_with fail
  refine (unhide HW op 148 152 _).mono ?_
  rintro r w1 ⟨rfl, hw⟩
  subst hw
  rw [d4]
  go_wp2
  go_ret2
  exact ⟨rfl, Grown.refl _⟩
end Go.Proofs.Ytjnelkpgdjphmaa

namespace Go.Proofs.Ytjnelkpgdjphmaa
open Go.RowKit
set_option linter.unusedVariables false
set_option linter.unusedSimpArgs false

abbrev Same2 (op a b : Nat) : Prop := ∃ v e : Int, Tw 5 op a b v e ∧ Tw 6 op a b v e
theorem still {f : Nat} {args : Array Value} {w : World} {x : Ending} (h : Calls Try.prog f args w fun r w' => r = x ∧ w' = w) : Calls Try.prog f args w fun r w' => r = x ∧ Grown w w' := by
  refine h.mono ?_
  rintro r w' ⟨rfl, rfl⟩
  exact ⟨rfl, Grown.refl _⟩

theorem same2_96 (a b : Nat) (ha : a < 18446744073709551616) (hb : b < 18446744073709551616) : Same2 96 a b :=
  ⟨_, _, two_reckoned 96 a b _ _ (by omega) (fun w => still (reckoned_96 a b w)), fun w => rtwo_96 a b w ha hb⟩
theorem same2_97 (a b : Nat) (ha : a < 18446744073709551616) (hb : b < 18446744073709551616) : Same2 97 a b :=
  ⟨_, _, two_reckoned 97 a b _ _ (by omega) (fun w => still (reckoned_97 a b w)), fun w => rtwo_97 a b w ha hb⟩
theorem same2_98 (a b : Nat) (ha : a < 18446744073709551616) (hb : b < 18446744073709551616) : Same2 98 a b :=
  ⟨_, _, two_reckoned 98 a b _ _ (by omega) (fun w => reckoned_98 a b w ha hb), fun w => rtwo_98 a b w ha hb⟩
theorem same2_99 (a b : Nat) (ha : a < 18446744073709551616) (hb : b < 18446744073709551616) : Same2 99 a b :=
  ⟨_, _, two_reckoned 99 a b _ _ (by omega) (fun w => reckoned_99 a b w ha hb), fun w => rtwo_99 a b w ha hb⟩
theorem same2_100 (a b : Nat) (ha : a < 18446744073709551616) (hb : b < 18446744073709551616) : Same2 100 a b :=
  ⟨_, _, two_reckoned 100 a b _ _ (by omega) (fun w => still (reckoned_100 a b w)), fun w => rtwo_100 a b w ha hb⟩
theorem same2_101 (a b : Nat) (ha : a < 18446744073709551616) (hb : b < 18446744073709551616) : Same2 101 a b :=
  ⟨_, _, two_reckoned 101 a b _ _ (by omega) (fun w => still (reckoned_101 a b w)), fun w => rtwo_101 a b w ha hb⟩
theorem same2_102 (a b : Nat) (ha : a < 18446744073709551616) (hb : b < 18446744073709551616) : Same2 102 a b :=
  ⟨_, _, two_reckoned 102 a b _ _ (by omega) (fun w => reckoned_102 a b w ha hb), fun w => rtwo_102 a b w ha hb⟩
theorem same2_103 (a b : Nat) (ha : a < 18446744073709551616) (hb : b < 18446744073709551616) : Same2 103 a b :=
  ⟨_, _, two_reckoned 103 a b _ _ (by omega) (fun w => reckoned_103 a b w ha hb), fun w => rtwo_103 a b w ha hb⟩
theorem same2_104 (a b : Nat) (ha : a < 18446744073709551616) (hb : b < 18446744073709551616) : Same2 104 a b :=
  ⟨_, _, two_reckoned 104 a b _ _ (by omega) (fun w => still (reckoned_104 a b w)), fun w => rtwo_104 a b w ha hb⟩
theorem same2_105 (a b : Nat) (ha : a < 18446744073709551616) (hb : b < 18446744073709551616) : Same2 105 a b :=
  ⟨_, _, two_reckoned 105 a b _ _ (by omega) (fun w => still (reckoned_105 a b w)), fun w => rtwo_105 a b w ha hb⟩
theorem same2_106 (a b : Nat) (ha : a < 18446744073709551616) (hb : b < 18446744073709551616) : Same2 106 a b :=
  ⟨_, _, two_reckoned 106 a b _ _ (by omega) (fun w => reckoned_106 a b w ha hb), fun w => rtwo_106 a b w ha hb⟩
theorem same2_107 (a b : Nat) (ha : a < 18446744073709551616) (hb : b < 18446744073709551616) : Same2 107 a b :=
  ⟨_, _, two_reckoned 107 a b _ _ (by omega) (fun w => reckoned_107 a b w ha hb), fun w => rtwo_107 a b w ha hb⟩
theorem same2_108 (a b : Nat) (ha : a < 18446744073709551616) (hb : b < 18446744073709551616) : Same2 108 a b :=
  ⟨_, _, two_reckoned 108 a b _ _ (by omega) (fun w => still (reckoned_108 a b w)), fun w => rtwo_108 a b w ha hb⟩
theorem same2_109 (a b : Nat) (ha : a < 18446744073709551616) (hb : b < 18446744073709551616) : Same2 109 a b :=
  ⟨_, _, two_reckoned 109 a b _ _ (by omega) (fun w => still (reckoned_109 a b w)), fun w => rtwo_109 a b w ha hb⟩
theorem same2_110 (a b : Nat) (ha : a < 18446744073709551616) (hb : b < 18446744073709551616) : Same2 110 a b :=
  ⟨_, _, two_reckoned 110 a b _ _ (by omega) (fun w => reckoned_110 a b w ha hb), fun w => rtwo_110 a b w ha hb⟩
theorem same2_111 (a b : Nat) (ha : a < 18446744073709551616) (hb : b < 18446744073709551616) : Same2 111 a b :=
  ⟨_, _, two_reckoned 111 a b _ _ (by omega) (fun w => reckoned_111 a b w ha hb), fun w => rtwo_111 a b w ha hb⟩
theorem same2_112 (a b : Nat) (ha : a < 18446744073709551616) (hb : b < 18446744073709551616) : Same2 112 a b :=
  ⟨_, _, two_reckoned 112 a b _ _ (by omega) (fun w => still (reckoned_112 a b w)), fun w => rtwo_112 a b w ha hb⟩
theorem same2_113 (a b : Nat) (ha : a < 18446744073709551616) (hb : b < 18446744073709551616) : Same2 113 a b :=
  ⟨_, _, two_reckoned 113 a b _ _ (by omega) (fun w => still (reckoned_113 a b w)), fun w => rtwo_113 a b w ha hb⟩
theorem same2_114 (a b : Nat) (ha : a < 18446744073709551616) (hb : b < 18446744073709551616) : Same2 114 a b :=
  ⟨_, _, two_reckoned 114 a b _ _ (by omega) (fun w => reckoned_114 a b w ha hb), fun w => rtwo_114 a b w ha hb⟩
theorem same2_115 (a b : Nat) (ha : a < 18446744073709551616) (hb : b < 18446744073709551616) : Same2 115 a b :=
  ⟨_, _, two_reckoned 115 a b _ _ (by omega) (fun w => reckoned_115 a b w ha hb), fun w => rtwo_115 a b w ha hb⟩
theorem same2_120 (a b : Nat) (ha : a < 18446744073709551616) (hb : b < 18446744073709551616) : Same2 120 a b :=
  ⟨_, _, two_moved 120 a b _ (by omega) (fun w => still (moved_120 a b w ha hb)), fun w => rtwo_120 a b w ha hb⟩
theorem same2_121 (a b : Nat) (ha : a < 18446744073709551616) (hb : b < 18446744073709551616) : Same2 121 a b :=
  ⟨_, _, two_moved 121 a b _ (by omega) (fun w => still (moved_121 a b w ha hb)), fun w => rtwo_121 a b w ha hb⟩
theorem same2_122 (a b : Nat) (ha : a < 18446744073709551616) (hb : b < 18446744073709551616) : Same2 122 a b :=
  ⟨_, _, two_moved 122 a b _ (by omega) (fun w => still (moved_122 a b w ha hb)), fun w => rtwo_122 a b w ha hb⟩
theorem same2_123 (a b : Nat) (ha : a < 18446744073709551616) (hb : b < 18446744073709551616) : Same2 123 a b :=
  ⟨_, _, two_moved 123 a b _ (by omega) (fun w => still (moved_123 a b w ha hb)), fun w => rtwo_123 a b w ha hb⟩
theorem same2_124 (a b : Nat) (ha : a < 18446744073709551616) (hb : b < 18446744073709551616) : Same2 124 a b :=
  ⟨_, _, two_moved 124 a b _ (by omega) (fun w => still (moved_124 a b w ha hb)), fun w => rtwo_124 a b w ha hb⟩
theorem same2_125 (a b : Nat) (ha : a < 18446744073709551616) (hb : b < 18446744073709551616) : Same2 125 a b :=
  ⟨_, _, two_moved 125 a b _ (by omega) (fun w => still (moved_125 a b w ha hb)), fun w => rtwo_125 a b w ha hb⟩
theorem same2_126 (a b : Nat) (ha : a < 18446744073709551616) (hb : b < 18446744073709551616) : Same2 126 a b :=
  ⟨_, _, two_joined 126 a b _ (by omega) (fun w => still (joined_any 126 a b w (by omega))), fun w => rtwo_126 a b w ha hb⟩
theorem same2_127 (a b : Nat) (ha : a < 18446744073709551616) (hb : b < 18446744073709551616) : Same2 127 a b :=
  ⟨_, _, two_joined 127 a b _ (by omega) (fun w => still (joined_any 127 a b w (by omega))), fun w => rtwo_127 a b w ha hb⟩
theorem same2_128 (a b : Nat) (ha : a < 18446744073709551616) (hb : b < 18446744073709551616) : Same2 128 a b :=
  ⟨_, _, two_joined 128 a b _ (by omega) (fun w => still (joined_any 128 a b w (by omega))), fun w => rtwo_128 a b w ha hb⟩
theorem same2_129 (a b : Nat) (ha : a < 18446744073709551616) (hb : b < 18446744073709551616) : Same2 129 a b :=
  ⟨_, _, two_joined 129 a b _ (by omega) (fun w => still (joined_any 129 a b w (by omega))), fun w => rtwo_129 a b w ha hb⟩
theorem same2_130 (a b : Nat) (ha : a < 18446744073709551616) (hb : b < 18446744073709551616) : Same2 130 a b :=
  ⟨_, _, two_joined 130 a b _ (by omega) (fun w => still (joined_any 130 a b w (by omega))), fun w => rtwo_130 a b w ha hb⟩
theorem same2_131 (a b : Nat) (ha : a < 18446744073709551616) (hb : b < 18446744073709551616) : Same2 131 a b :=
  ⟨_, _, two_joined 131 a b _ (by omega) (fun w => still (joined_any 131 a b w (by omega))), fun w => rtwo_131 a b w ha hb⟩
theorem same2_148 (a b : Nat) (ha : a < 18446744073709551616) (hb : b < 18446744073709551616) : Same2 148 a b :=
  ⟨_, _, two_compared 148 a b _ (by omega) (fun w => still (compared_148 a b w)), fun w => rtwo_148 a b w ha hb⟩
theorem same2_149 (a b : Nat) (ha : a < 18446744073709551616) (hb : b < 18446744073709551616) : Same2 149 a b :=
  ⟨_, _, two_compared 149 a b _ (by omega) (fun w => still (compared_149 a b w)), fun w => rtwo_149 a b w ha hb⟩
theorem same2_150 (a b : Nat) (ha : a < 18446744073709551616) (hb : b < 18446744073709551616) : Same2 150 a b :=
  ⟨_, _, two_compared 150 a b _ (by omega) (fun w => still (compared_150 a b w)), fun w => rtwo_150 a b w ha hb⟩
theorem same2_151 (a b : Nat) (ha : a < 18446744073709551616) (hb : b < 18446744073709551616) : Same2 151 a b :=
  ⟨_, _, two_compared 151 a b _ (by omega) (fun w => still (compared_151 a b w)), fun w => rtwo_151 a b w ha hb⟩
theorem same2_152 (a b : Nat) (ha : a < 18446744073709551616) (hb : b < 18446744073709551616) : Same2 152 a b :=
  ⟨_, _, two_compared 152 a b _ (by omega) (fun w => still (compared_152 a b w)), fun w => rtwo_152 a b w ha hb⟩
theorem same2_any (op a b : Nat) (ha : a < 18446744073709551616) (hb : b < 18446744073709551616) : Same2 op a b := by
  by_cases h1 : 96 ≤ op ∧ op ≤ 115
  · rcases (show op = 96 ∨ op = 97 ∨ op = 98 ∨ op = 99 ∨ op = 100 ∨ op = 101 ∨ op = 102 ∨ op = 103 ∨ op = 104 ∨ op = 105 ∨ op = 106 ∨ op = 107 ∨ op = 108 ∨ op = 109 ∨ op = 110 ∨ op = 111 ∨ op = 112 ∨ op = 113 ∨ op = 114 ∨ op = 115 by omega) with rfl | rfl | rfl | rfl | rfl | rfl | rfl | rfl | rfl | rfl | rfl | rfl | rfl | rfl | rfl | rfl | rfl | rfl | rfl | rfl
    · exact same2_96 a b ha hb
    · exact same2_97 a b ha hb
    · exact same2_98 a b ha hb
    · exact same2_99 a b ha hb
    · exact same2_100 a b ha hb
    · exact same2_101 a b ha hb
    · exact same2_102 a b ha hb
    · exact same2_103 a b ha hb
    · exact same2_104 a b ha hb
    · exact same2_105 a b ha hb
    · exact same2_106 a b ha hb
    · exact same2_107 a b ha hb
    · exact same2_108 a b ha hb
    · exact same2_109 a b ha hb
    · exact same2_110 a b ha hb
    · exact same2_111 a b ha hb
    · exact same2_112 a b ha hb
    · exact same2_113 a b ha hb
    · exact same2_114 a b ha hb
    · exact same2_115 a b ha hb
  by_cases h2 : 120 ≤ op ∧ op ≤ 131
  · rcases (show op = 120 ∨ op = 121 ∨ op = 122 ∨ op = 123 ∨ op = 124 ∨ op = 125 ∨ op = 126 ∨ op = 127 ∨ op = 128 ∨ op = 129 ∨ op = 130 ∨ op = 131 by omega) with rfl | rfl | rfl | rfl | rfl | rfl | rfl | rfl | rfl | rfl | rfl | rfl
    · exact same2_120 a b ha hb
    · exact same2_121 a b ha hb
    · exact same2_122 a b ha hb
    · exact same2_123 a b ha hb
    · exact same2_124 a b ha hb
    · exact same2_125 a b ha hb
    · exact same2_126 a b ha hb
    · exact same2_127 a b ha hb
    · exact same2_128 a b ha hb
    · exact same2_129 a b ha hb
    · exact same2_130 a b ha hb
    · exact same2_131 a b ha hb
  by_cases h3 : 148 ≤ op ∧ op ≤ 152
  · rcases (show op = 148 ∨ op = 149 ∨ op = 150 ∨ op = 151 ∨ op = 152 by omega) with rfl | rfl | rfl | rfl | rfl
    · exact same2_148 a b ha hb
    · exact same2_149 a b ha hb
    · exact same2_150 a b ha hb
    · exact same2_151 a b ha hb
    · exact same2_152 a b ha hb
  exact ⟨0, 14, two_no op a b h1 h2 h3, fun w => rtwo_no (op : Int) a b w (by omega) (by omega) (by omega)⟩

end Go.Proofs.Ytjnelkpgdjphmaa
