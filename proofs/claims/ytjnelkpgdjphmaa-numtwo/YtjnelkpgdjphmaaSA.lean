import Derived.Test.YtjnelkpgdjphmaaPi
namespace Go.Proofs.Ytjnelkpgdjphmaa
open Go.RowKit
set_option linter.unusedVariables false
set_option linter.unusedSimpArgs false

set_option maxHeartbeats 2000000 in
set_option maxRecDepth 20000 in
theorem mul32_n1 (s t : Bool) (A B : Nat) (i j : Int) (w : World) (x0 x1 x2 : Bool) (y z : Int) :
    Calls Try.prog 44 #[.agg #[.int .i64 23, .int .i64 8], .agg #[.bool true, .bool false, .bool s, .int .u64 (A : Int), .int .i64 (-149)], .agg #[.bool x0, .bool x1, .bool x2, .int .u64 y, .int .i64 z]] w fun r w' => r = .returned (.int .u64 2143289344) ∧ Grown w w' := by
  go_enter Try.func44, Try.ntmps44
  go_wp2_with fail
  refine (nan32 _).mono ?_
  rintro r w1 ⟨rfl, hg⟩
  go_wp2
  go_ret
  exact ⟨rfl, gtrans (by repeat (first | exact Grown.refl _ | apply Grown.drew | apply Grown.alloc)) hg⟩

set_option maxHeartbeats 2000000 in
set_option maxRecDepth 20000 in
theorem mul32_n2 (s t : Bool) (A B : Nat) (i j : Int) (w : World) (x1 : Bool) :
    Calls Try.prog 44 #[.agg #[.int .i64 23, .int .i64 8], .agg #[.bool false, .bool x1, .bool s, .int .u64 (A : Int), .int .i64 i], .agg #[.bool true, .bool false, .bool t, .int .u64 (B : Int), .int .i64 (-149)]] w fun r w' => r = .returned (.int .u64 2143289344) ∧ Grown w w' := by
  cases x1
  all_goals
    go_enter Try.func44, Try.ntmps44
    go_wp2_with fail
    refine (nan32 _).mono ?_
    rintro r w1 ⟨rfl, hg⟩
    go_wp2
    go_ret
    exact ⟨rfl, gtrans (by repeat (first | exact Grown.refl _ | apply Grown.drew | apply Grown.alloc)) hg⟩

set_option maxHeartbeats 2000000 in
set_option maxRecDepth 20000 in
theorem mul32_iz (s t : Bool) (A B : Nat) (i j : Int) (w : World)  :
    Calls Try.prog 44 #[.agg #[.int .i64 23, .int .i64 8], .agg #[.bool false, .bool true, .bool s, .int .u64 0, .int .i64 (-149)], .agg #[.bool false, .bool false, .bool t, .int .u64 0, .int .i64 j]] w fun r w' => r = .returned (.int .u64 2143289344) ∧ Grown w w' := by
  cases s <;> cases t
  all_goals
    go_enter Try.func44, Try.ntmps44
    go_wp2_with fail
    refine (nan32 _).mono ?_
    rintro r w1 ⟨rfl, hg⟩
    go_wp2
    go_ret
    exact ⟨rfl, gtrans (by repeat (first | exact Grown.refl _ | apply Grown.drew | apply Grown.alloc)) hg⟩

set_option maxHeartbeats 2000000 in
set_option maxRecDepth 20000 in
theorem mul32_zi (s t : Bool) (A B : Nat) (i j : Int) (w : World)  :
    Calls Try.prog 44 #[.agg #[.int .i64 23, .int .i64 8], .agg #[.bool false, .bool false, .bool s, .int .u64 0, .int .i64 i], .agg #[.bool false, .bool true, .bool t, .int .u64 0, .int .i64 (-149)]] w fun r w' => r = .returned (.int .u64 2143289344) ∧ Grown w w' := by
  cases s <;> cases t
  all_goals
    go_enter Try.func44, Try.ntmps44
    go_wp2_with fail
    refine (nan32 _).mono ?_
    rintro r w1 ⟨rfl, hg⟩
    go_wp2
    go_ret
    exact ⟨rfl, gtrans (by repeat (first | exact Grown.refl _ | apply Grown.drew | apply Grown.alloc)) hg⟩

set_option maxHeartbeats 2000000 in
set_option maxRecDepth 20000 in
theorem mul32_ii (s t : Bool) (A B : Nat) (i j : Int) (w : World)  :
    Calls Try.prog 44 #[.agg #[.int .i64 23, .int .i64 8], .agg #[.bool false, .bool true, .bool s, .int .u64 0, .int .i64 (-149)], .agg #[.bool false, .bool true, .bool t, .int .u64 0, .int .i64 (-149)]] w fun r w' => r = .returned (.int .u64 (Ieee.single.word (s ^^ t) 2139095040 : Nat)) ∧ Grown w w' := by
  cases s <;> cases t
  all_goals
    go_enter Try.func44, Try.ntmps44
    go_wp2_with fail
    refine (inf32 _ _).mono ?_
    rintro r w1 ⟨rfl, hg⟩
    go_wp2
    go_ret
    exact ⟨rfl, gtrans (by repeat (first | exact Grown.refl _ | apply Grown.drew | apply Grown.alloc)) hg⟩

set_option maxHeartbeats 2000000 in
set_option maxRecDepth 20000 in
theorem mul32_if (s t : Bool) (A B : Nat) (i j : Int) (w : World) (hB0 : ((B : Int) == 0) = false) :
    Calls Try.prog 44 #[.agg #[.int .i64 23, .int .i64 8], .agg #[.bool false, .bool true, .bool s, .int .u64 0, .int .i64 (-149)], .agg #[.bool false, .bool false, .bool t, .int .u64 (B : Int), .int .i64 j]] w fun r w' => r = .returned (.int .u64 (Ieee.single.word (s ^^ t) 2139095040 : Nat)) ∧ Grown w w' := by
  cases s <;> cases t
  all_goals
    go_enter Try.func44, Try.ntmps44
    go_wp2_with fail
    refine (inf32 _ _).mono ?_
    rintro r w1 ⟨rfl, hg⟩
    go_wp2
    go_ret
    exact ⟨rfl, gtrans (by repeat (first | exact Grown.refl _ | apply Grown.drew | apply Grown.alloc)) hg⟩

set_option maxHeartbeats 2000000 in
set_option maxRecDepth 20000 in
theorem mul32_fi (s t : Bool) (A B : Nat) (i j : Int) (w : World) (hA0 : ((A : Int) == 0) = false) :
    Calls Try.prog 44 #[.agg #[.int .i64 23, .int .i64 8], .agg #[.bool false, .bool false, .bool s, .int .u64 (A : Int), .int .i64 i], .agg #[.bool false, .bool true, .bool t, .int .u64 0, .int .i64 (-149)]] w fun r w' => r = .returned (.int .u64 (Ieee.single.word (s ^^ t) 2139095040 : Nat)) ∧ Grown w w' := by
  cases s <;> cases t
  all_goals
    go_enter Try.func44, Try.ntmps44
    go_wp2_with fail
    refine (inf32 _ _).mono ?_
    rintro r w1 ⟨rfl, hg⟩
    go_wp2
    go_ret
    exact ⟨rfl, gtrans (by repeat (first | exact Grown.refl _ | apply Grown.drew | apply Grown.alloc)) hg⟩
end Go.Proofs.Ytjnelkpgdjphmaa

namespace Go.Proofs.Ytjnelkpgdjphmaa
open Go.RowKit
set_option linter.unusedVariables false
set_option linter.unusedSimpArgs false

set_option maxHeartbeats 2000000 in
set_option maxRecDepth 20000 in
theorem div32_n1 (s t : Bool) (A B : Nat) (i j : Int) (w : World) (x0 x1 x2 : Bool) (y z : Int) :
    Calls Try.prog 45 #[.agg #[.int .i64 23, .int .i64 8], .agg #[.bool true, .bool false, .bool s, .int .u64 (A : Int), .int .i64 (-149)], .agg #[.bool x0, .bool x1, .bool x2, .int .u64 y, .int .i64 z]] w fun r w' => r = .returned (.int .u64 2143289344) ∧ Grown w w' := by
  cases x1
  all_goals
    go_enter Try.func45, Try.ntmps45
    go_wp2_with fail
    refine (nan32 _).mono ?_
    rintro r w1 ⟨rfl, hg⟩
    go_wp2
    go_ret
    exact ⟨rfl, gtrans (by repeat (first | exact Grown.refl _ | apply Grown.drew | apply Grown.alloc)) hg⟩

set_option maxHeartbeats 2000000 in
set_option maxRecDepth 20000 in
theorem div32_n2 (s t : Bool) (A B : Nat) (i j : Int) (w : World) (x1 : Bool) :
    Calls Try.prog 45 #[.agg #[.int .i64 23, .int .i64 8], .agg #[.bool false, .bool x1, .bool s, .int .u64 (A : Int), .int .i64 i], .agg #[.bool true, .bool false, .bool t, .int .u64 (B : Int), .int .i64 (-149)]] w fun r w' => r = .returned (.int .u64 2143289344) ∧ Grown w w' := by
  cases x1
  all_goals
    go_enter Try.func45, Try.ntmps45
    go_wp2_with fail
    refine (nan32 _).mono ?_
    rintro r w1 ⟨rfl, hg⟩
    go_wp2
    go_ret
    exact ⟨rfl, gtrans (by repeat (first | exact Grown.refl _ | apply Grown.drew | apply Grown.alloc)) hg⟩

set_option maxHeartbeats 2000000 in
set_option maxRecDepth 20000 in
theorem div32_ii (s t : Bool) (A B : Nat) (i j : Int) (w : World)  :
    Calls Try.prog 45 #[.agg #[.int .i64 23, .int .i64 8], .agg #[.bool false, .bool true, .bool s, .int .u64 0, .int .i64 (-149)], .agg #[.bool false, .bool true, .bool t, .int .u64 0, .int .i64 (-149)]] w fun r w' => r = .returned (.int .u64 2143289344) ∧ Grown w w' := by
  cases s <;> cases t
  all_goals
    go_enter Try.func45, Try.ntmps45
    go_wp2_with fail
    refine (nan32 _).mono ?_
    rintro r w1 ⟨rfl, hg⟩
    go_wp2
    go_ret
    exact ⟨rfl, gtrans (by repeat (first | exact Grown.refl _ | apply Grown.drew | apply Grown.alloc)) hg⟩

set_option maxHeartbeats 2000000 in
set_option maxRecDepth 20000 in
theorem div32_zz (s t : Bool) (A B : Nat) (i j : Int) (w : World)  :
    Calls Try.prog 45 #[.agg #[.int .i64 23, .int .i64 8], .agg #[.bool false, .bool false, .bool s, .int .u64 0, .int .i64 i], .agg #[.bool false, .bool false, .bool t, .int .u64 0, .int .i64 j]] w fun r w' => r = .returned (.int .u64 2143289344) ∧ Grown w w' := by
  cases s <;> cases t
  all_goals
    go_enter Try.func45, Try.ntmps45
    go_wp2_with fail
    refine (nan32 _).mono ?_
    rintro r w1 ⟨rfl, hg⟩
    go_wp2
    go_ret
    exact ⟨rfl, gtrans (by repeat (first | exact Grown.refl _ | apply Grown.drew | apply Grown.alloc)) hg⟩

set_option maxHeartbeats 2000000 in
set_option maxRecDepth 20000 in
theorem div32_iz (s t : Bool) (A B : Nat) (i j : Int) (w : World)  :
    Calls Try.prog 45 #[.agg #[.int .i64 23, .int .i64 8], .agg #[.bool false, .bool true, .bool s, .int .u64 0, .int .i64 (-149)], .agg #[.bool false, .bool false, .bool t, .int .u64 0, .int .i64 j]] w fun r w' => r = .returned (.int .u64 (Ieee.single.word (s ^^ t) 2139095040 : Nat)) ∧ Grown w w' := by
  cases s <;> cases t
  all_goals
    go_enter Try.func45, Try.ntmps45
    go_wp2_with fail
    refine (inf32 _ _).mono ?_
    rintro r w1 ⟨rfl, hg⟩
    go_wp2
    go_ret
    exact ⟨rfl, gtrans (by repeat (first | exact Grown.refl _ | apply Grown.drew | apply Grown.alloc)) hg⟩

set_option maxHeartbeats 2000000 in
set_option maxRecDepth 20000 in
theorem div32_if (s t : Bool) (A B : Nat) (i j : Int) (w : World) (hB0 : ((B : Int) == 0) = false) :
    Calls Try.prog 45 #[.agg #[.int .i64 23, .int .i64 8], .agg #[.bool false, .bool true, .bool s, .int .u64 0, .int .i64 (-149)], .agg #[.bool false, .bool false, .bool t, .int .u64 (B : Int), .int .i64 j]] w fun r w' => r = .returned (.int .u64 (Ieee.single.word (s ^^ t) 2139095040 : Nat)) ∧ Grown w w' := by
  cases s <;> cases t
  all_goals
    go_enter Try.func45, Try.ntmps45
    go_wp2_with fail
    refine (inf32 _ _).mono ?_
    rintro r w1 ⟨rfl, hg⟩
    go_wp2
    go_ret
    exact ⟨rfl, gtrans (by repeat (first | exact Grown.refl _ | apply Grown.drew | apply Grown.alloc)) hg⟩

set_option maxHeartbeats 2000000 in
set_option maxRecDepth 20000 in
theorem div32_fz (s t : Bool) (A B : Nat) (i j : Int) (w : World) (hA0 : ((A : Int) == 0) = false) :
    Calls Try.prog 45 #[.agg #[.int .i64 23, .int .i64 8], .agg #[.bool false, .bool false, .bool s, .int .u64 (A : Int), .int .i64 i], .agg #[.bool false, .bool false, .bool t, .int .u64 0, .int .i64 j]] w fun r w' => r = .returned (.int .u64 (Ieee.single.word (s ^^ t) 2139095040 : Nat)) ∧ Grown w w' := by
  cases s <;> cases t
  all_goals
    go_enter Try.func45, Try.ntmps45
    go_wp2_with fail
    refine (inf32 _ _).mono ?_
    rintro r w1 ⟨rfl, hg⟩
    go_wp2
    go_ret
    exact ⟨rfl, gtrans (by repeat (first | exact Grown.refl _ | apply Grown.drew | apply Grown.alloc)) hg⟩

set_option maxHeartbeats 2000000 in
set_option maxRecDepth 20000 in
theorem div32_zi (s t : Bool) (A B : Nat) (i j : Int) (w : World)  :
    Calls Try.prog 45 #[.agg #[.int .i64 23, .int .i64 8], .agg #[.bool false, .bool false, .bool s, .int .u64 0, .int .i64 i], .agg #[.bool false, .bool true, .bool t, .int .u64 0, .int .i64 (-149)]] w fun r w' => r = .returned (.int .u64 (Ieee.single.word (s ^^ t) 0 : Nat)) ∧ Grown w w' := by
  cases s <;> cases t
  all_goals
    go_enter Try.func45, Try.ntmps45
    go_wp2_with fail
    refine (sign32 _ _).mono ?_
    rintro r w1 ⟨rfl, hg⟩
    go_wp2
    go_ret
    exact ⟨rfl, gtrans (by repeat (first | exact Grown.refl _ | apply Grown.drew | apply Grown.alloc)) hg⟩

set_option maxHeartbeats 2000000 in
set_option maxRecDepth 20000 in
theorem div32_fi (s t : Bool) (A B : Nat) (i j : Int) (w : World) (hA0 : ((A : Int) == 0) = false) :
    Calls Try.prog 45 #[.agg #[.int .i64 23, .int .i64 8], .agg #[.bool false, .bool false, .bool s, .int .u64 (A : Int), .int .i64 i], .agg #[.bool false, .bool true, .bool t, .int .u64 0, .int .i64 (-149)]] w fun r w' => r = .returned (.int .u64 (Ieee.single.word (s ^^ t) 0 : Nat)) ∧ Grown w w' := by
  cases s <;> cases t
  all_goals
    go_enter Try.func45, Try.ntmps45
    go_wp2_with fail
    refine (sign32 _ _).mono ?_
    rintro r w1 ⟨rfl, hg⟩
    go_wp2
    go_ret
    exact ⟨rfl, gtrans (by repeat (first | exact Grown.refl _ | apply Grown.drew | apply Grown.alloc)) hg⟩

set_option maxHeartbeats 2000000 in
set_option maxRecDepth 20000 in
theorem div32_zf (s t : Bool) (A B : Nat) (i j : Int) (w : World) (hB0 : ((B : Int) == 0) = false) :
    Calls Try.prog 45 #[.agg #[.int .i64 23, .int .i64 8], .agg #[.bool false, .bool false, .bool s, .int .u64 0, .int .i64 i], .agg #[.bool false, .bool false, .bool t, .int .u64 (B : Int), .int .i64 j]] w fun r w' => r = .returned (.int .u64 (Ieee.single.word (s ^^ t) 0 : Nat)) ∧ Grown w w' := by
  cases s <;> cases t
  all_goals
    go_enter Try.func45, Try.ntmps45
    go_wp2_with fail
    refine (sign32 _ _).mono ?_
    rintro r w1 ⟨rfl, hg⟩
    go_wp2
    go_ret
    exact ⟨rfl, gtrans (by repeat (first | exact Grown.refl _ | apply Grown.drew | apply Grown.alloc)) hg⟩
end Go.Proofs.Ytjnelkpgdjphmaa
