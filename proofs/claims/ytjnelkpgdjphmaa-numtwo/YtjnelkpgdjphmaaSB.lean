import Derived.Test.YtjnelkpgdjphmaaPi
namespace Go.Proofs.Ytjnelkpgdjphmaa
open Go.RowKit
set_option linter.unusedVariables false
set_option linter.unusedSimpArgs false

set_option maxHeartbeats 2000000 in
set_option maxRecDepth 20000 in
theorem add32_n1 (s t : Bool) (A B : Nat) (i j : Int) (w : World) (x0 x1 x2 : Bool) (y z : Int) :
    Calls Try.prog 43 #[.agg #[.int .i64 23, .int .i64 8], .agg #[.bool true, .bool false, .bool s, .int .u64 (A : Int), .int .i64 (-149)], .agg #[.bool x0, .bool x1, .bool x2, .int .u64 y, .int .i64 z]] w fun r w' => r = .returned (.int .u64 2143289344) ∧ Grown w w' := by
  go_enter Try.func43, Try.ntmps43
  go_wp2_with fail
  refine (nan32 _).mono ?_
  rintro r w1 ⟨rfl, hg⟩
  go_wp2
  go_ret
  exact ⟨rfl, gtrans (by repeat (first | exact Grown.refl _ | apply Grown.drew | apply Grown.alloc)) hg⟩

set_option maxHeartbeats 2000000 in
set_option maxRecDepth 20000 in
theorem add32_n2 (s t : Bool) (A B : Nat) (i j : Int) (w : World) (x1 : Bool) :
    Calls Try.prog 43 #[.agg #[.int .i64 23, .int .i64 8], .agg #[.bool false, .bool x1, .bool s, .int .u64 (A : Int), .int .i64 i], .agg #[.bool true, .bool false, .bool t, .int .u64 (B : Int), .int .i64 (-149)]] w fun r w' => r = .returned (.int .u64 2143289344) ∧ Grown w w' := by
  cases x1
  all_goals
    go_enter Try.func43, Try.ntmps43
    go_wp2_with fail
    refine (nan32 _).mono ?_
    rintro r w1 ⟨rfl, hg⟩
    go_wp2
    go_ret
    exact ⟨rfl, gtrans (by repeat (first | exact Grown.refl _ | apply Grown.drew | apply Grown.alloc)) hg⟩

set_option maxHeartbeats 2000000 in
set_option maxRecDepth 20000 in
theorem add32_ii (s t : Bool) (A B : Nat) (i j : Int) (w : World) (hst : s = t) :
    Calls Try.prog 43 #[.agg #[.int .i64 23, .int .i64 8], .agg #[.bool false, .bool true, .bool s, .int .u64 0, .int .i64 (-149)], .agg #[.bool false, .bool true, .bool t, .int .u64 0, .int .i64 (-149)]] w fun r w' => r = .returned (.int .u64 (Ieee.single.word s 2139095040 : Nat)) ∧ Grown w w' := by
  subst hst; cases s
  all_goals
    go_enter Try.func43, Try.ntmps43
    go_wp2_with fail
    refine (inf32 _ _).mono ?_
    rintro r w1 ⟨rfl, hg⟩
    go_wp2
    go_ret
    exact ⟨rfl, gtrans (by repeat (first | exact Grown.refl _ | apply Grown.drew | apply Grown.alloc)) hg⟩

set_option maxHeartbeats 2000000 in
set_option maxRecDepth 20000 in
theorem add32_iin (s t : Bool) (A B : Nat) (i j : Int) (w : World) (hst : s ≠ t) :
    Calls Try.prog 43 #[.agg #[.int .i64 23, .int .i64 8], .agg #[.bool false, .bool true, .bool s, .int .u64 0, .int .i64 (-149)], .agg #[.bool false, .bool true, .bool t, .int .u64 0, .int .i64 (-149)]] w fun r w' => r = .returned (.int .u64 2143289344) ∧ Grown w w' := by
  cases s <;> cases t <;> simp only [ne_eq, not_true_eq_false, Bool.true_eq_false, Bool.false_eq_true, not_false_eq_true] at hst
  all_goals
    go_enter Try.func43, Try.ntmps43
    go_wp2_with fail
    refine (nan32 _).mono ?_
    rintro r w1 ⟨rfl, hg⟩
    go_wp2
    go_ret
    exact ⟨rfl, gtrans (by repeat (first | exact Grown.refl _ | apply Grown.drew | apply Grown.alloc)) hg⟩

set_option maxHeartbeats 2000000 in
set_option maxRecDepth 20000 in
theorem add32_if (s t : Bool) (A B : Nat) (i j : Int) (w : World)  :
    Calls Try.prog 43 #[.agg #[.int .i64 23, .int .i64 8], .agg #[.bool false, .bool true, .bool s, .int .u64 0, .int .i64 (-149)], .agg #[.bool false, .bool false, .bool t, .int .u64 (B : Int), .int .i64 j]] w fun r w' => r = .returned (.int .u64 (Ieee.single.word s 2139095040 : Nat)) ∧ Grown w w' := by
  cases s <;> cases t
  all_goals
    go_enter Try.func43, Try.ntmps43
    go_wp2_with fail
    refine (inf32 _ _).mono ?_
    rintro r w1 ⟨rfl, hg⟩
    go_wp2
    go_ret
    exact ⟨rfl, gtrans (by repeat (first | exact Grown.refl _ | apply Grown.drew | apply Grown.alloc)) hg⟩

set_option maxHeartbeats 2000000 in
set_option maxRecDepth 20000 in
theorem add32_fi (s t : Bool) (A B : Nat) (i j : Int) (w : World)  :
    Calls Try.prog 43 #[.agg #[.int .i64 23, .int .i64 8], .agg #[.bool false, .bool false, .bool s, .int .u64 (A : Int), .int .i64 i], .agg #[.bool false, .bool true, .bool t, .int .u64 0, .int .i64 (-149)]] w fun r w' => r = .returned (.int .u64 (Ieee.single.word t 2139095040 : Nat)) ∧ Grown w w' := by
  cases s <;> cases t
  all_goals
    go_enter Try.func43, Try.ntmps43
    go_wp2_with fail
    refine (inf32 _ _).mono ?_
    rintro r w1 ⟨rfl, hg⟩
    go_wp2
    go_ret
    exact ⟨rfl, gtrans (by repeat (first | exact Grown.refl _ | apply Grown.drew | apply Grown.alloc)) hg⟩
end Go.Proofs.Ytjnelkpgdjphmaa

namespace Go.Proofs.Ytjnelkpgdjphmaa
open Go.RowKit
set_option linter.unusedVariables false
set_option linter.unusedSimpArgs false

set_option maxHeartbeats 2000000 in
set_option maxRecDepth 20000 in
theorem rem32_n1 (s t : Bool) (A B : Nat) (i j : Int) (w : World) (x0 x1 x2 : Bool) (y z : Int) :
    Calls Try.prog 46 #[.agg #[.int .i64 23, .int .i64 8], .agg #[.bool true, .bool false, .bool s, .int .u64 (A : Int), .int .i64 (-149)], .agg #[.bool x0, .bool x1, .bool x2, .int .u64 y, .int .i64 z]] w fun r w' => r = .returned (.int .u64 2143289344) ∧ Grown w w' := by
  go_enter Try.func46, Try.ntmps46
  go_wp2_with fail
  refine (nan32 _).mono ?_
  rintro r w1 ⟨rfl, hg⟩
  go_wp2
  go_ret
  exact ⟨rfl, gtrans (by repeat (first | exact Grown.refl _ | apply Grown.drew | apply Grown.alloc)) hg⟩

set_option maxHeartbeats 2000000 in
set_option maxRecDepth 20000 in
theorem rem32_n2 (s t : Bool) (A B : Nat) (i j : Int) (w : World) (x1 : Bool) :
    Calls Try.prog 46 #[.agg #[.int .i64 23, .int .i64 8], .agg #[.bool false, .bool x1, .bool s, .int .u64 (A : Int), .int .i64 i], .agg #[.bool true, .bool false, .bool t, .int .u64 (B : Int), .int .i64 (-149)]] w fun r w' => r = .returned (.int .u64 2143289344) ∧ Grown w w' := by
  cases x1
  all_goals
    go_enter Try.func46, Try.ntmps46
    go_wp2_with fail
    refine (nan32 _).mono ?_
    rintro r w1 ⟨rfl, hg⟩
    go_wp2
    go_ret
    exact ⟨rfl, gtrans (by repeat (first | exact Grown.refl _ | apply Grown.drew | apply Grown.alloc)) hg⟩

set_option maxHeartbeats 2000000 in
set_option maxRecDepth 20000 in
theorem rem32_ii (s t : Bool) (A B : Nat) (i j : Int) (w : World)  :
    Calls Try.prog 46 #[.agg #[.int .i64 23, .int .i64 8], .agg #[.bool false, .bool true, .bool s, .int .u64 0, .int .i64 (-149)], .agg #[.bool false, .bool true, .bool t, .int .u64 0, .int .i64 (-149)]] w fun r w' => r = .returned (.int .u64 2143289344) ∧ Grown w w' := by
  cases s <;> cases t
  all_goals
    go_enter Try.func46, Try.ntmps46
    go_wp2_with fail
    refine (nan32 _).mono ?_
    rintro r w1 ⟨rfl, hg⟩
    go_wp2
    go_ret
    exact ⟨rfl, gtrans (by repeat (first | exact Grown.refl _ | apply Grown.drew | apply Grown.alloc)) hg⟩

set_option maxHeartbeats 2000000 in
set_option maxRecDepth 20000 in
theorem rem32_iz (s t : Bool) (A B : Nat) (i j : Int) (w : World)  :
    Calls Try.prog 46 #[.agg #[.int .i64 23, .int .i64 8], .agg #[.bool false, .bool true, .bool s, .int .u64 0, .int .i64 (-149)], .agg #[.bool false, .bool false, .bool t, .int .u64 0, .int .i64 j]] w fun r w' => r = .returned (.int .u64 2143289344) ∧ Grown w w' := by
  cases s <;> cases t
  all_goals
    go_enter Try.func46, Try.ntmps46
    go_wp2_with fail
    refine (nan32 _).mono ?_
    rintro r w1 ⟨rfl, hg⟩
    go_wp2
    go_ret
    exact ⟨rfl, gtrans (by repeat (first | exact Grown.refl _ | apply Grown.drew | apply Grown.alloc)) hg⟩

set_option maxHeartbeats 2000000 in
set_option maxRecDepth 20000 in
theorem rem32_if (s t : Bool) (A B : Nat) (i j : Int) (w : World) (hB0 : ((B : Int) == 0) = false) :
    Calls Try.prog 46 #[.agg #[.int .i64 23, .int .i64 8], .agg #[.bool false, .bool true, .bool s, .int .u64 0, .int .i64 (-149)], .agg #[.bool false, .bool false, .bool t, .int .u64 (B : Int), .int .i64 j]] w fun r w' => r = .returned (.int .u64 2143289344) ∧ Grown w w' := by
  cases s <;> cases t
  all_goals
    go_enter Try.func46, Try.ntmps46
    go_wp2_with fail
    refine (nan32 _).mono ?_
    rintro r w1 ⟨rfl, hg⟩
    go_wp2
    go_ret
    exact ⟨rfl, gtrans (by repeat (first | exact Grown.refl _ | apply Grown.drew | apply Grown.alloc)) hg⟩

set_option maxHeartbeats 2000000 in
set_option maxRecDepth 20000 in
theorem rem32_zz (s t : Bool) (A B : Nat) (i j : Int) (w : World)  :
    Calls Try.prog 46 #[.agg #[.int .i64 23, .int .i64 8], .agg #[.bool false, .bool false, .bool s, .int .u64 0, .int .i64 i], .agg #[.bool false, .bool false, .bool t, .int .u64 0, .int .i64 j]] w fun r w' => r = .returned (.int .u64 2143289344) ∧ Grown w w' := by
  cases s <;> cases t
  all_goals
    go_enter Try.func46, Try.ntmps46
    go_wp2_with fail
    refine (nan32 _).mono ?_
    rintro r w1 ⟨rfl, hg⟩
    go_wp2
    go_ret
    exact ⟨rfl, gtrans (by repeat (first | exact Grown.refl _ | apply Grown.drew | apply Grown.alloc)) hg⟩

set_option maxHeartbeats 2000000 in
set_option maxRecDepth 20000 in
theorem rem32_fz (s t : Bool) (A B : Nat) (i j : Int) (w : World) (hA0 : ((A : Int) == 0) = false) :
    Calls Try.prog 46 #[.agg #[.int .i64 23, .int .i64 8], .agg #[.bool false, .bool false, .bool s, .int .u64 (A : Int), .int .i64 i], .agg #[.bool false, .bool false, .bool t, .int .u64 0, .int .i64 j]] w fun r w' => r = .returned (.int .u64 2143289344) ∧ Grown w w' := by
  cases s <;> cases t
  all_goals
    go_enter Try.func46, Try.ntmps46
    go_wp2_with fail
    refine (nan32 _).mono ?_
    rintro r w1 ⟨rfl, hg⟩
    go_wp2
    go_ret
    exact ⟨rfl, gtrans (by repeat (first | exact Grown.refl _ | apply Grown.drew | apply Grown.alloc)) hg⟩

set_option maxHeartbeats 2000000 in
set_option maxRecDepth 20000 in
theorem rem32_fi (s t : Bool) (A B : Nat) (i j : Int) (w : World) (hA : A < 16777216) (hi0 : -149 ≤ i) (hi1 : i ≤ 1000) :
    Calls Try.prog 46 #[.agg #[.int .i64 23, .int .i64 8], .agg #[.bool false, .bool false, .bool s, .int .u64 (A : Int), .int .i64 i], .agg #[.bool false, .bool true, .bool t, .int .u64 0, .int .i64 (-149)]] w fun r w' => r = .returned (.int .u64 (Nm.close Ieee.single s A i false : Nat)) ∧ Grown w w' := by
  go_enter Try.func46, Try.ntmps46
  go_wp2_with fail
  refine (close32 s A i false _ (by omega) (by omega) (by omega)).mono ?_
  rintro r w1 ⟨rfl, hg⟩
  go_wp2
  go_ret
  exact ⟨rfl, gtrans (by repeat (first | exact Grown.refl _ | apply Grown.drew | apply Grown.alloc)) hg⟩

set_option maxHeartbeats 2000000 in
set_option maxRecDepth 20000 in
theorem rem32_zf (s t : Bool) (A B : Nat) (i j : Int) (w : World) (hB0 : ((B : Int) == 0) = false) (hi0 : -149 ≤ i) (hi1 : i ≤ 1000) :
    Calls Try.prog 46 #[.agg #[.int .i64 23, .int .i64 8], .agg #[.bool false, .bool false, .bool s, .int .u64 0, .int .i64 i], .agg #[.bool false, .bool false, .bool t, .int .u64 (B : Int), .int .i64 j]] w fun r w' => r = .returned (.int .u64 (Nm.close Ieee.single s 0 i false : Nat)) ∧ Grown w w' := by
  go_enter Try.func46, Try.ntmps46
  go_wp2_with fail
  refine (close32 s 0 i false _ (by omega) (by omega) (by omega)).mono ?_
  rintro r w1 ⟨rfl, hg⟩
  go_wp2
  go_ret
  exact ⟨rfl, gtrans (by repeat (first | exact Grown.refl _ | apply Grown.drew | apply Grown.alloc)) hg⟩

set_option maxHeartbeats 2000000 in
set_option maxRecDepth 20000 in
theorem rem32_lt (s t : Bool) (A B : Nat) (i j : Int) (w : World) (hA0 : ((A : Int) == 0) = false) (hB0 : ((B : Int) == 0) = false) (hA : A < 16777216) (hi0 : -149 ≤ i) (hi1 : i ≤ 1000) (hij : i < j) :
    Calls Try.prog 46 #[.agg #[.int .i64 23, .int .i64 8], .agg #[.bool false, .bool false, .bool s, .int .u64 (A : Int), .int .i64 i], .agg #[.bool false, .bool false, .bool t, .int .u64 (B : Int), .int .i64 j]] w fun r w' => r = .returned (.int .u64 (Nm.close Ieee.single s A i false : Nat)) ∧ Grown w w' := by
  go_enter Try.func46, Try.ntmps46
  go_wp2_with fail
  refine (close32 s A i false _ (by omega) (by omega) (by omega)).mono ?_
  rintro r w1 ⟨rfl, hg⟩
  go_wp2
  go_ret
  exact ⟨rfl, gtrans (by repeat (first | exact Grown.refl _ | apply Grown.drew | apply Grown.alloc)) hg⟩
end Go.Proofs.Ytjnelkpgdjphmaa
