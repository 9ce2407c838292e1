import Derived.Test.YtjnelkpgdjphmaaOr
namespace Go.Proofs.Ytjnelkpgdjphmaa
open Go.RowKit
set_option linter.unusedVariables false
set_option linter.unusedSimpArgs false

/-- Which of two floats comes first, or none. -/
def ordN (o : Option Ordering) (none : Int) : Int := match o with | some o => ordV o | .none => none % 4294967296

set_option maxRecDepth 20000 in
theorem order40_any (x y : Nat) (n : Int) (w : World) :
    Calls Try.prog 40 #[.float .f32 x, .float .f32 y, .int .i32 n] w fun e w' => ∃ v, e = .returned (.int .i32 v) ∧ v % 4294967296 = ordN (Ieee.single.order x y) n ∧ w' = w := by
  have hf := f32fmt
  cases h : Ieee.single.order x y with
  | none =>
    rw [← hf] at h
    clear hf
    go_enter Try.func40, Try.ntmps40
    go_wp2
    go_ret
    exact ⟨_, rfl, rfl, rfl⟩
  | some o =>
    rw [← hf] at h
    clear hf
    cases o
    all_goals
      go_enter Try.func40, Try.ntmps40
      go_wp2
      go_ret
      exact ⟨_, rfl, rfl, rfl⟩

set_option maxRecDepth 20000 in
theorem order41_any (x y : Nat) (n : Int) (w : World) :
    Calls Try.prog 41 #[.float .f64 x, .float .f64 y, .int .i32 n] w fun e w' => ∃ v, e = .returned (.int .i32 v) ∧ v % 4294967296 = ordN (Ieee.double.order x y) n ∧ w' = w := by
  have hf := f64fmt
  cases h : Ieee.double.order x y with
  | none =>
    rw [← hf] at h
    clear hf
    go_enter Try.func41, Try.ntmps41
    go_wp2
    go_ret
    exact ⟨_, rfl, rfl, rfl⟩
  | some o =>
    rw [← hf] at h
    clear hf
    cases o
    all_goals
      go_enter Try.func41, Try.ntmps41
      go_wp2
      go_ret
      exact ⟨_, rfl, rfl, rfl⟩

/-- The reference's order of two floats. -/
theorem ordered32 (x y : Nat) (more : Bool) (w : World) (hx : x < 4294967296) (hy : y < 4294967296) :
    Calls Try.prog 20 #[.agg #[.int .i64 23, .int .i64 8], .int .u64 (x : Int), .int .u64 (y : Int), .bool more] w fun r w' => r = .returned (.int .u64 (ordN (Ieee.single.order x y) (if more then 1 else -1))) ∧ Grown w w' := by
  by_cases h1 : 2139095040 < x % 2147483648
  · have ho : Ieee.single.order x y = none := Nm.order_nan Ieee.single x y (by decide) (by rw [Nm.s_sign, Nm.s_inf]; exact .inl h1)
    refine (ord32_n1 x y more w hx hy h1).mono ?_
    rintro r w' ⟨rfl, hg⟩
    refine ⟨?_, hg⟩
    rw [ho]
    cases more <;> rfl
  by_cases h2 : 2139095040 < y % 2147483648
  · have ho : Ieee.single.order x y = none := Nm.order_nan Ieee.single x y (by decide) (by rw [Nm.s_sign, Nm.s_inf]; exact .inr h2)
    refine (ord32_n2 x y more w hx hy (by omega) h2).mono ?_
    rintro r w' ⟨rfl, hg⟩
    refine ⟨?_, hg⟩
    rw [ho]
    cases more <;> rfl
  · refine (ord32_nn x y more w hx hy (by omega) (by omega)).mono ?_
    rintro r w' ⟨rfl, hg⟩
    refine ⟨?_, hg⟩
    rw [Nm.order_any Ieee.single x y (by decide) (by rw [Nm.s_sign]; omega) (by rw [Nm.s_sign]; omega) (by rw [Nm.s_sign, Nm.s_inf]; omega) (by rw [Nm.s_sign, Nm.s_inf]; omega)]
    rfl
theorem ordered64 (x y : Nat) (more : Bool) (w : World) (hx : x < 18446744073709551616) (hy : y < 18446744073709551616) :
    Calls Try.prog 20 #[.agg #[.int .i64 52, .int .i64 11], .int .u64 (x : Int), .int .u64 (y : Int), .bool more] w fun r w' => r = .returned (.int .u64 (ordN (Ieee.double.order x y) (if more then 1 else -1))) ∧ Grown w w' := by
  by_cases h1 : 9218868437227405312 < x % 9223372036854775808
  · have ho : Ieee.double.order x y = none := Nm.order_nan Ieee.double x y (by decide) (by rw [Nm.d_sign, Nm.d_inf]; exact .inl h1)
    refine (ord64_n1 x y more w hx hy h1).mono ?_
    rintro r w' ⟨rfl, hg⟩
    refine ⟨?_, hg⟩
    rw [ho]
    cases more <;> rfl
  by_cases h2 : 9218868437227405312 < y % 9223372036854775808
  · have ho : Ieee.double.order x y = none := Nm.order_nan Ieee.double x y (by decide) (by rw [Nm.d_sign, Nm.d_inf]; exact .inr h2)
    refine (ord64_n2 x y more w hx hy (by omega) h2).mono ?_
    rintro r w' ⟨rfl, hg⟩
    refine ⟨?_, hg⟩
    rw [ho]
    cases more <;> rfl
  · refine (ord64_nn x y more w hx hy (by omega) (by omega)).mono ?_
    rintro r w' ⟨rfl, hg⟩
    refine ⟨?_, hg⟩
    rw [Nm.order_any Ieee.double x y (by decide) (by rw [Nm.d_sign]; omega) (by rw [Nm.d_sign]; omega) (by rw [Nm.d_sign, Nm.d_inf]; omega) (by rw [Nm.d_sign, Nm.d_inf]; omega)]
    rfl
end Go.Proofs.Ytjnelkpgdjphmaa

namespace Go.Proofs.Ytjnelkpgdjphmaa
open Go.RowKit
set_option linter.unusedVariables false
set_option linter.unusedSimpArgs false

set_option maxRecDepth 20000 in
theorem compared_148 (a b : Nat) (w : World) :
    Calls Try.prog 13 #[.int .u8 148, .int .u64 (a : Int), .int .u64 (b : Int)] w fun e w' => e = .returned (.int .u64 (ordV (compare (wrap64 a) (wrap64 b)))) ∧ w' = w := by
  have H1 := hide order39_any
  have H2 := hide ofInt_any
  go_enter Try.func13, Try.ntmps13
  go_wp2_with fail
  refine (unhide H1 _ _ _).mono ?_
  rintro e w1 ⟨v, rfl, hv, hw⟩
  subst hw
  have Hv := hide hv
  clear hv
  go_wp2_with fail
  refine (unhide H2 _ _).mono ?_
  rintro e w1 ⟨rfl, hw⟩
  subst hw
  go_wp2
  go_ret
  refine ⟨?_, rfl⟩
  rw [unhide Hv]
  rfl

set_option maxRecDepth 20000 in
theorem compared_149 (a b : Nat) (w : World) :
    Calls Try.prog 13 #[.int .u8 149, .int .u64 (a : Int), .int .u64 (b : Int)] w fun e w' => e = .returned (.int .u64 (ordN (Ieee.single.order (a % 4294967296) (b % 4294967296)) (-1))) ∧ w' = w := by
  have H0 := hide toFloat_any
  have H1 := hide order40_any
  have H2 := hide ofInt_any
  go_enter Try.func13, Try.ntmps13
  go_wp2_with fail
  refine (unhide H0 _ _).mono ?_
  rintro e w1 ⟨rfl, hw⟩
  subst hw
  go_wp2_with fail
  refine (unhide H0 _ _).mono ?_
  rintro e w1 ⟨rfl, hw⟩
  subst hw
  go_wp2_with fail
  refine (unhide H1 _ _ _ _).mono ?_
  rintro e w1 ⟨v, rfl, hv, hw⟩
  subst hw
  have Hv := hide hv
  clear hv
  go_wp2_with fail
  refine (unhide H2 _ _).mono ?_
  rintro e w1 ⟨rfl, hw⟩
  subst hw
  go_wp2
  go_ret
  refine ⟨?_, rfl⟩
  rw [unhide Hv]
  rfl

set_option maxRecDepth 20000 in
theorem compared_150 (a b : Nat) (w : World) :
    Calls Try.prog 13 #[.int .u8 150, .int .u64 (a : Int), .int .u64 (b : Int)] w fun e w' => e = .returned (.int .u64 (ordN (Ieee.single.order (a % 4294967296) (b % 4294967296)) (1))) ∧ w' = w := by
  have H0 := hide toFloat_any
  have H1 := hide order40_any
  have H2 := hide ofInt_any
  go_enter Try.func13, Try.ntmps13
  go_wp2_with fail
  refine (unhide H0 _ _).mono ?_
  rintro e w1 ⟨rfl, hw⟩
  subst hw
  go_wp2_with fail
  refine (unhide H0 _ _).mono ?_
  rintro e w1 ⟨rfl, hw⟩
  subst hw
  go_wp2_with fail
  refine (unhide H1 _ _ _ _).mono ?_
  rintro e w1 ⟨v, rfl, hv, hw⟩
  subst hw
  have Hv := hide hv
  clear hv
  go_wp2_with fail
  refine (unhide H2 _ _).mono ?_
  rintro e w1 ⟨rfl, hw⟩
  subst hw
  go_wp2
  go_ret
  refine ⟨?_, rfl⟩
  rw [unhide Hv]
  rfl

set_option maxRecDepth 20000 in
theorem compared_151 (a b : Nat) (w : World) :
    Calls Try.prog 13 #[.int .u8 151, .int .u64 (a : Int), .int .u64 (b : Int)] w fun e w' => e = .returned (.int .u64 (ordN (Ieee.double.order a b) (-1))) ∧ w' = w := by
  have H0 := hide toDouble_any
  have H1 := hide order41_any
  have H2 := hide ofInt_any
  go_enter Try.func13, Try.ntmps13
  go_wp2_with fail
  refine (unhide H0 _ _).mono ?_
  rintro e w1 ⟨rfl, hw⟩
  subst hw
  go_wp2_with fail
  refine (unhide H0 _ _).mono ?_
  rintro e w1 ⟨rfl, hw⟩
  subst hw
  go_wp2_with fail
  refine (unhide H1 _ _ _ _).mono ?_
  rintro e w1 ⟨v, rfl, hv, hw⟩
  subst hw
  have Hv := hide hv
  clear hv
  go_wp2_with fail
  refine (unhide H2 _ _).mono ?_
  rintro e w1 ⟨rfl, hw⟩
  subst hw
  go_wp2
  go_ret
  refine ⟨?_, rfl⟩
  rw [unhide Hv]
  rfl

set_option maxRecDepth 20000 in
theorem compared_152 (a b : Nat) (w : World) :
    Calls Try.prog 13 #[.int .u8 152, .int .u64 (a : Int), .int .u64 (b : Int)] w fun e w' => e = .returned (.int .u64 (ordN (Ieee.double.order a b) (1))) ∧ w' = w := by
  have H0 := hide toDouble_any
  have H1 := hide order41_any
  have H2 := hide ofInt_any
  go_enter Try.func13, Try.ntmps13
  go_wp2_with fail
  refine (unhide H0 _ _).mono ?_
  rintro e w1 ⟨rfl, hw⟩
  subst hw
  go_wp2_with fail
  refine (unhide H0 _ _).mono ?_
  rintro e w1 ⟨rfl, hw⟩
  subst hw
  go_wp2_with fail
  refine (unhide H1 _ _ _ _).mono ?_
  rintro e w1 ⟨v, rfl, hv, hw⟩
  subst hw
  have Hv := hide hv
  clear hv
  go_wp2_with fail
  refine (unhide H2 _ _).mono ?_
  rintro e w1 ⟨rfl, hw⟩
  subst hw
  go_wp2
  go_ret
  refine ⟨?_, rfl⟩
  rw [unhide Hv]
  rfl

/-- What two whole numbers give: none, if they are divided by nought. -/
def Wv (M : Int) (k : Nat) (x y : Int) : Int := if 3 ≤ k ∧ y = 0 then 0 else wop k x y % M
def We (k : Nat) (y : Int) : Int := if 3 ≤ k ∧ y = 0 then 27 else 0

theorem ofWhole32_all (k : Nat) (x y : Int) (w : World) (hk : k ≤ 4) :
    Calls Try.prog 30 #[.int .u8 (k : Int), .int .i32 x, .int .i32 y] w fun e w' =>
      ∃ v, e = .returned (.tuple #[.int .i32 v, .int .i64 (We k y)]) ∧ v % 4294967296 = Wv 4294967296 k x y ∧ w' = w := by
  by_cases h : 3 ≤ k ∧ y = 0
  · rw [show We k y = 27 by unfold We; rw [if_pos h], show Wv 4294967296 k x y = 0 by unfold Wv; rw [if_pos h], h.2]
    refine (ofWhole32_zero k x w (by omega)).mono ?_
    rintro e w' ⟨rfl, rfl⟩
    exact ⟨0, rfl, rfl, rfl⟩
  · rw [show We k y = 0 by unfold We; rw [if_neg h], show Wv 4294967296 k x y = wop k x y % 4294967296 by unfold Wv; rw [if_neg h]]
    exact ofWhole32_any k x y w hk (fun h1 h2 => h ⟨h1, h2⟩)
theorem ofWhole64_all (k : Nat) (x y : Int) (w : World) (hk : k ≤ 4) :
    Calls Try.prog 32 #[.int .u8 (k : Int), .int .i64 x, .int .i64 y] w fun e w' =>
      ∃ v, e = .returned (.tuple #[.int .i64 v, .int .i64 (We k y)]) ∧ v % 18446744073709551616 = Wv 18446744073709551616 k x y ∧ w' = w := by
  by_cases h : 3 ≤ k ∧ y = 0
  · rw [show We k y = 27 by unfold We; rw [if_pos h], show Wv 18446744073709551616 k x y = 0 by unfold Wv; rw [if_pos h], h.2]
    refine (ofWhole64_zero k x w (by omega)).mono ?_
    rintro e w' ⟨rfl, rfl⟩
    exact ⟨0, rfl, rfl, rfl⟩
  · rw [show We k y = 0 by unfold We; rw [if_neg h], show Wv 18446744073709551616 k x y = wop k x y % 18446744073709551616 by unfold Wv; rw [if_neg h]]
    exact ofWhole64_any k x y w hk (fun h1 h2 => h ⟨h1, h2⟩)

set_option maxRecDepth 20000 in
theorem reckoned_96 (a b : Nat) (w : World) :
    Calls Try.prog 10 #[.int .u8 96, .int .u64 (a : Int), .int .u64 (b : Int)] w fun e w' => e = .returned (.tuple #[.int .u64 (Wv 4294967296 0 (wrap32 a) (wrap32 b)), .int .i64 (We 0 (wrap32 b))]) ∧ w' = w := by
  have H1 := hide (fun x y w => ofWhole32_all 0 x y w (by omega))
  have H2 := hide ofInt_any
  go_enter Try.func10, Try.ntmps10
  go_wp2_with fail
  refine (unhide H1 _ _ _).mono ?_
  rintro e w1 ⟨v, rfl, hv, hw⟩
  subst hw
  have Hv := hide hv
  clear hv
  obtain ⟨er, her⟩ : ∃ er, er = We 0 (wrap32 b) := ⟨_, rfl⟩
  rw [← her]
  have Her := hide her
  clear her
  go_wp2_with fail
  refine (unhide H2 _ _).mono ?_
  rintro e w1 ⟨rfl, hw⟩
  subst hw
  go_wp2
  go_ret2
  refine ⟨?_, rfl⟩
  rw [← unhide Her, ← unhide Hv]
  rfl
set_option maxRecDepth 20000 in
theorem reckoned_97 (a b : Nat) (w : World) :
    Calls Try.prog 10 #[.int .u8 97, .int .u64 (a : Int), .int .u64 (b : Int)] w fun e w' => e = .returned (.tuple #[.int .u64 (Wv 18446744073709551616 0 (wrap64 a) (wrap64 b)), .int .i64 (We 0 (wrap64 b))]) ∧ w' = w := by
  have H1 := hide (fun x y w => ofWhole64_all 0 x y w (by omega))
  go_enter Try.func10, Try.ntmps10
  go_wp2_with fail
  refine (unhide H1 _ _ _).mono ?_
  rintro e w1 ⟨v, rfl, hv, hw⟩
  subst hw
  have Hv := hide hv
  clear hv
  obtain ⟨er, her⟩ : ∃ er, er = We 0 (wrap64 b) := ⟨_, rfl⟩
  rw [← her]
  have Her := hide her
  clear her
  go_wp2
  go_ret2
  refine ⟨?_, rfl⟩
  show Ending.returned (Value.tuple #[.int .u64 (IntKind.u64.wrap v), .int .i64 er]) = _
  rw [IntKind.wrap_u64, unhide Hv, unhide Her]

set_option maxRecDepth 20000 in
theorem reckoned_100 (a b : Nat) (w : World) :
    Calls Try.prog 10 #[.int .u8 100, .int .u64 (a : Int), .int .u64 (b : Int)] w fun e w' => e = .returned (.tuple #[.int .u64 (Wv 4294967296 1 (wrap32 a) (wrap32 b)), .int .i64 (We 1 (wrap32 b))]) ∧ w' = w := by
  have H1 := hide (fun x y w => ofWhole32_all 1 x y w (by omega))
  have H2 := hide ofInt_any
  go_enter Try.func10, Try.ntmps10
  go_wp2_with fail
  refine (unhide H1 _ _ _).mono ?_
  rintro e w1 ⟨v, rfl, hv, hw⟩
  subst hw
  have Hv := hide hv
  clear hv
  obtain ⟨er, her⟩ : ∃ er, er = We 1 (wrap32 b) := ⟨_, rfl⟩
  rw [← her]
  have Her := hide her
  clear her
  go_wp2_with fail
  refine (unhide H2 _ _).mono ?_
  rintro e w1 ⟨rfl, hw⟩
  subst hw
  go_wp2
  go_ret2
  refine ⟨?_, rfl⟩
  rw [← unhide Her, ← unhide Hv]
  rfl
set_option maxRecDepth 20000 in
theorem reckoned_101 (a b : Nat) (w : World) :
    Calls Try.prog 10 #[.int .u8 101, .int .u64 (a : Int), .int .u64 (b : Int)] w fun e w' => e = .returned (.tuple #[.int .u64 (Wv 18446744073709551616 1 (wrap64 a) (wrap64 b)), .int .i64 (We 1 (wrap64 b))]) ∧ w' = w := by
  have H1 := hide (fun x y w => ofWhole64_all 1 x y w (by omega))
  go_enter Try.func10, Try.ntmps10
  go_wp2_with fail
  refine (unhide H1 _ _ _).mono ?_
  rintro e w1 ⟨v, rfl, hv, hw⟩
  subst hw
  have Hv := hide hv
  clear hv
  obtain ⟨er, her⟩ : ∃ er, er = We 1 (wrap64 b) := ⟨_, rfl⟩
  rw [← her]
  have Her := hide her
  clear her
  go_wp2
  go_ret2
  refine ⟨?_, rfl⟩
  show Ending.returned (Value.tuple #[.int .u64 (IntKind.u64.wrap v), .int .i64 er]) = _
  rw [IntKind.wrap_u64, unhide Hv, unhide Her]

set_option maxRecDepth 20000 in
theorem reckoned_104 (a b : Nat) (w : World) :
    Calls Try.prog 10 #[.int .u8 104, .int .u64 (a : Int), .int .u64 (b : Int)] w fun e w' => e = .returned (.tuple #[.int .u64 (Wv 4294967296 2 (wrap32 a) (wrap32 b)), .int .i64 (We 2 (wrap32 b))]) ∧ w' = w := by
  have H1 := hide (fun x y w => ofWhole32_all 2 x y w (by omega))
  have H2 := hide ofInt_any
  go_enter Try.func10, Try.ntmps10
  go_wp2_with fail
  refine (unhide H1 _ _ _).mono ?_
  rintro e w1 ⟨v, rfl, hv, hw⟩
  subst hw
  have Hv := hide hv
  clear hv
  obtain ⟨er, her⟩ : ∃ er, er = We 2 (wrap32 b) := ⟨_, rfl⟩
  rw [← her]
  have Her := hide her
  clear her
  go_wp2_with fail
  refine (unhide H2 _ _).mono ?_
  rintro e w1 ⟨rfl, hw⟩
  subst hw
  go_wp2
  go_ret2
  refine ⟨?_, rfl⟩
  rw [← unhide Her, ← unhide Hv]
  rfl
set_option maxRecDepth 20000 in
theorem reckoned_105 (a b : Nat) (w : World) :
    Calls Try.prog 10 #[.int .u8 105, .int .u64 (a : Int), .int .u64 (b : Int)] w fun e w' => e = .returned (.tuple #[.int .u64 (Wv 18446744073709551616 2 (wrap64 a) (wrap64 b)), .int .i64 (We 2 (wrap64 b))]) ∧ w' = w := by
  have H1 := hide (fun x y w => ofWhole64_all 2 x y w (by omega))
  go_enter Try.func10, Try.ntmps10
  go_wp2_with fail
  refine (unhide H1 _ _ _).mono ?_
  rintro e w1 ⟨v, rfl, hv, hw⟩
  subst hw
  have Hv := hide hv
  clear hv
  obtain ⟨er, her⟩ : ∃ er, er = We 2 (wrap64 b) := ⟨_, rfl⟩
  rw [← her]
  have Her := hide her
  clear her
  go_wp2
  go_ret2
  refine ⟨?_, rfl⟩
  show Ending.returned (Value.tuple #[.int .u64 (IntKind.u64.wrap v), .int .i64 er]) = _
  rw [IntKind.wrap_u64, unhide Hv, unhide Her]

set_option maxRecDepth 20000 in
theorem reckoned_108 (a b : Nat) (w : World) :
    Calls Try.prog 10 #[.int .u8 108, .int .u64 (a : Int), .int .u64 (b : Int)] w fun e w' => e = .returned (.tuple #[.int .u64 (Wv 4294967296 3 (wrap32 a) (wrap32 b)), .int .i64 (We 3 (wrap32 b))]) ∧ w' = w := by
  have H1 := hide (fun x y w => ofWhole32_all 3 x y w (by omega))
  have H2 := hide ofInt_any
  go_enter Try.func10, Try.ntmps10
  go_wp2_with fail
  refine (unhide H1 _ _ _).mono ?_
  rintro e w1 ⟨v, rfl, hv, hw⟩
  subst hw
  have Hv := hide hv
  clear hv
  obtain ⟨er, her⟩ : ∃ er, er = We 3 (wrap32 b) := ⟨_, rfl⟩
  rw [← her]
  have Her := hide her
  clear her
  go_wp2_with fail
  refine (unhide H2 _ _).mono ?_
  rintro e w1 ⟨rfl, hw⟩
  subst hw
  go_wp2
  go_ret2
  refine ⟨?_, rfl⟩
  rw [← unhide Her, ← unhide Hv]
  rfl
set_option maxRecDepth 20000 in
theorem reckoned_109 (a b : Nat) (w : World) :
    Calls Try.prog 10 #[.int .u8 109, .int .u64 (a : Int), .int .u64 (b : Int)] w fun e w' => e = .returned (.tuple #[.int .u64 (Wv 18446744073709551616 3 (wrap64 a) (wrap64 b)), .int .i64 (We 3 (wrap64 b))]) ∧ w' = w := by
  have H1 := hide (fun x y w => ofWhole64_all 3 x y w (by omega))
  go_enter Try.func10, Try.ntmps10
  go_wp2_with fail
  refine (unhide H1 _ _ _).mono ?_
  rintro e w1 ⟨v, rfl, hv, hw⟩
  subst hw
  have Hv := hide hv
  clear hv
  obtain ⟨er, her⟩ : ∃ er, er = We 3 (wrap64 b) := ⟨_, rfl⟩
  rw [← her]
  have Her := hide her
  clear her
  go_wp2
  go_ret2
  refine ⟨?_, rfl⟩
  show Ending.returned (Value.tuple #[.int .u64 (IntKind.u64.wrap v), .int .i64 er]) = _
  rw [IntKind.wrap_u64, unhide Hv, unhide Her]

set_option maxRecDepth 20000 in
theorem reckoned_112 (a b : Nat) (w : World) :
    Calls Try.prog 10 #[.int .u8 112, .int .u64 (a : Int), .int .u64 (b : Int)] w fun e w' => e = .returned (.tuple #[.int .u64 (Wv 4294967296 4 (wrap32 a) (wrap32 b)), .int .i64 (We 4 (wrap32 b))]) ∧ w' = w := by
  have H1 := hide (fun x y w => ofWhole32_all 4 x y w (by omega))
  have H2 := hide ofInt_any
  go_enter Try.func10, Try.ntmps10
  go_wp2_with fail
  refine (unhide H1 _ _ _).mono ?_
  rintro e w1 ⟨v, rfl, hv, hw⟩
  subst hw
  have Hv := hide hv
  clear hv
  obtain ⟨er, her⟩ : ∃ er, er = We 4 (wrap32 b) := ⟨_, rfl⟩
  rw [← her]
  have Her := hide her
  clear her
  go_wp2_with fail
  refine (unhide H2 _ _).mono ?_
  rintro e w1 ⟨rfl, hw⟩
  subst hw
  go_wp2
  go_ret2
  refine ⟨?_, rfl⟩
  rw [← unhide Her, ← unhide Hv]
  rfl
set_option maxRecDepth 20000 in
theorem reckoned_113 (a b : Nat) (w : World) :
    Calls Try.prog 10 #[.int .u8 113, .int .u64 (a : Int), .int .u64 (b : Int)] w fun e w' => e = .returned (.tuple #[.int .u64 (Wv 18446744073709551616 4 (wrap64 a) (wrap64 b)), .int .i64 (We 4 (wrap64 b))]) ∧ w' = w := by
  have H1 := hide (fun x y w => ofWhole64_all 4 x y w (by omega))
  go_enter Try.func10, Try.ntmps10
  go_wp2_with fail
  refine (unhide H1 _ _ _).mono ?_
  rintro e w1 ⟨v, rfl, hv, hw⟩
  subst hw
  have Hv := hide hv
  clear hv
  obtain ⟨er, her⟩ : ∃ er, er = We 4 (wrap64 b) := ⟨_, rfl⟩
  rw [← her]
  have Her := hide her
  clear her
  go_wp2
  go_ret2
  refine ⟨?_, rfl⟩
  show Ending.returned (Value.tuple #[.int .u64 (IntKind.u64.wrap v), .int .i64 er]) = _
  rw [IntKind.wrap_u64, unhide Hv, unhide Her]

end Go.Proofs.Ytjnelkpgdjphmaa
