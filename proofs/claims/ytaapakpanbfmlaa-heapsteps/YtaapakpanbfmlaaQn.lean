/-
  The law's answer: one step of one space.
-/
import Derived.Test.YtaapakpanbfmlaaMgQm
namespace Go.Proofs.Ytaapakpanbfmlaa
namespace Rs
open Go.RowKit Hp
set_option linter.unusedVariables false
set_option linter.unusedSimpArgs false
/-- A step as a value, and its block. -/
def opv (k a b cc : Int) (x : Nat) : Array Value := #[.int .i64 k, .int .i64 a, .int .i64 b, .int .i64 cc, .int .u64 (x : Int)]
def AnsE (R : Int → World → Prop) (e : Ending) (w' : World) : Prop := ∃ v, e = .returned (.tuple #[.int .u64 0, .int .i64 v]) ∧ R v w'
def AnsW (R : Int → Int → World → Prop) (e : Ending) (w' : World) : Prop := ∃ u v, e = .returned (.tuple #[.int .u64 u, .int .i64 v]) ∧ R u v w'
def AnsS (R : Bool → Int → World → Prop) (e : Ending) (w' : World) : Prop := ∃ u v, e = .returned (.tuple #[.int .u64 (if u = true then 1 else 0), .int .i64 v]) ∧ R u v w'
set_option maxRecDepth 100000 in
set_option maxHeartbeats 2000000 in
theorem ans15_1 (sb : Nat) (a b cc : Int) (x : Nat) (w : World) {R : Int → World → Prop} (HC : Hid (Calls Try.prog 10 #[.pointer (some ⟨sb, 0, none⟩), .int .i64 a, .int .i64 b, .int .i64 cc] (w.alloc (.cells #[.int .i64 1, .int .i64 a, .int .i64 b, .int .i64 cc, .int .u64 (x : Int)] 32)) fun e w' => ∃ v, e = .returned (.int .i64 v) ∧ R v w')) :
    Calls Try.prog 15 #[.pointer (some ⟨sb, 0, none⟩), .agg #[.int .i64 1, .int .i64 a, .int .i64 b, .int .i64 cc, .int .u64 (x : Int)]] w (AnsE R) := by
  go_enter Try.func15, Try.ntmps15
  go_wp2_with fail
  refine (unhide HC).mono ?_
  rintro e w1 ⟨v, rfl, hr⟩
  have HR := hide hr
  clear hr HC
  go_wp2
  go_ret2
  exact ⟨v, rfl, unhide HR⟩
set_option maxRecDepth 100000 in
set_option maxHeartbeats 2000000 in
theorem ans15_2 (sb : Nat) (a b cc : Int) (x : Nat) (w : World) {R : Int → World → Prop} (HC : Hid (Calls Try.prog 18 #[.pointer (some ⟨sb, 0, none⟩), .int .i64 a, .int .i64 b] (w.alloc (.cells #[.int .i64 2, .int .i64 a, .int .i64 b, .int .i64 cc, .int .u64 (x : Int)] 32)) fun e w' => ∃ v, e = .returned (.int .i64 v) ∧ R v w')) :
    Calls Try.prog 15 #[.pointer (some ⟨sb, 0, none⟩), .agg #[.int .i64 2, .int .i64 a, .int .i64 b, .int .i64 cc, .int .u64 (x : Int)]] w (AnsE R) := by
  go_enter Try.func15, Try.ntmps15
  go_wp2_with fail
  refine (unhide HC).mono ?_
  rintro e w1 ⟨v, rfl, hr⟩
  have HR := hide hr
  clear hr HC
  go_wp2
  go_ret2
  exact ⟨v, rfl, unhide HR⟩
set_option maxRecDepth 100000 in
set_option maxHeartbeats 2000000 in
theorem ans15_3 (sb : Nat) (a b cc : Int) (x : Nat) (w : World) {R : Int → World → Prop} (HC : Hid (Calls Try.prog 20 #[.pointer (some ⟨sb, 0, none⟩), .int .i64 a] (w.alloc (.cells #[.int .i64 3, .int .i64 a, .int .i64 b, .int .i64 cc, .int .u64 (x : Int)] 32)) fun e w' => ∃ v, e = .returned (.int .i64 v) ∧ R v w')) :
    Calls Try.prog 15 #[.pointer (some ⟨sb, 0, none⟩), .agg #[.int .i64 3, .int .i64 a, .int .i64 b, .int .i64 cc, .int .u64 (x : Int)]] w (AnsE R) := by
  go_enter Try.func15, Try.ntmps15
  go_wp2_with fail
  refine (unhide HC).mono ?_
  rintro e w1 ⟨v, rfl, hr⟩
  have HR := hide hr
  clear hr HC
  go_wp2
  go_ret2
  exact ⟨v, rfl, unhide HR⟩
set_option maxRecDepth 100000 in
set_option maxHeartbeats 2000000 in
theorem ans15_4 (sb : Nat) (a b cc : Int) (x : Nat) (w : World) {R : Int → World → Prop} (HC : Hid (Calls Try.prog 14 #[.pointer (some ⟨sb, 0, none⟩), .int .i64 a, .int .i64 b, .int .i64 cc] (w.alloc (.cells #[.int .i64 4, .int .i64 a, .int .i64 b, .int .i64 cc, .int .u64 (x : Int)] 32)) fun e w' => ∃ v, e = .returned (.int .i64 v) ∧ R v w')) :
    Calls Try.prog 15 #[.pointer (some ⟨sb, 0, none⟩), .agg #[.int .i64 4, .int .i64 a, .int .i64 b, .int .i64 cc, .int .u64 (x : Int)]] w (AnsE R) := by
  go_enter Try.func15, Try.ntmps15
  go_wp2_with fail
  refine (unhide HC).mono ?_
  rintro e w1 ⟨v, rfl, hr⟩
  have HR := hide hr
  clear hr HC
  go_wp2
  go_ret2
  exact ⟨v, rfl, unhide HR⟩
set_option maxRecDepth 100000 in
set_option maxHeartbeats 2000000 in
theorem ans15_5 (sb : Nat) (a b cc : Int) (x : Nat) (w : World) {R : Int → World → Prop} (HC : Hid (Calls Try.prog 23 #[.pointer (some ⟨sb, 0, none⟩), .int .i64 a, .int .i64 b, .int .i64 cc] (w.alloc (.cells #[.int .i64 5, .int .i64 a, .int .i64 b, .int .i64 cc, .int .u64 (x : Int)] 32)) fun e w' => ∃ v, e = .returned (.int .i64 v) ∧ R v w')) :
    Calls Try.prog 15 #[.pointer (some ⟨sb, 0, none⟩), .agg #[.int .i64 5, .int .i64 a, .int .i64 b, .int .i64 cc, .int .u64 (x : Int)]] w (AnsE R) := by
  go_enter Try.func15, Try.ntmps15
  go_wp2_with fail
  refine (unhide HC).mono ?_
  rintro e w1 ⟨v, rfl, hr⟩
  have HR := hide hr
  clear hr HC
  go_wp2
  go_ret2
  exact ⟨v, rfl, unhide HR⟩
set_option maxRecDepth 100000 in
set_option maxHeartbeats 2000000 in
theorem ans15_6 (sb : Nat) (a b cc : Int) (x : Nat) (w : World) {R : Int → World → Prop} (HC : Hid (Calls Try.prog 11 #[.pointer (some ⟨sb, 0, none⟩), .int .i64 a, .int .i64 b, .int .u64 (x : Int)] (w.alloc (.cells #[.int .i64 6, .int .i64 a, .int .i64 b, .int .i64 cc, .int .u64 (x : Int)] 32)) fun e w' => ∃ v, e = .returned (.int .i64 v) ∧ R v w')) :
    Calls Try.prog 15 #[.pointer (some ⟨sb, 0, none⟩), .agg #[.int .i64 6, .int .i64 a, .int .i64 b, .int .i64 cc, .int .u64 (x : Int)]] w (AnsE R) := by
  go_enter Try.func15, Try.ntmps15
  go_wp2_with fail
  refine (unhide HC).mono ?_
  rintro e w1 ⟨v, rfl, hr⟩
  have HR := hide hr
  clear hr HC
  go_wp2
  go_ret2
  exact ⟨v, rfl, unhide HR⟩
set_option maxRecDepth 100000 in
set_option maxHeartbeats 2000000 in
theorem ans15_7 (sb : Nat) (a b cc : Int) (x : Nat) (w : World) {R : Int → Int → World → Prop} (HC : Hid (Calls Try.prog 12 #[.pointer (some ⟨sb, 0, none⟩), .int .i64 a, .int .i64 b] (w.alloc (.cells #[.int .i64 7, .int .i64 a, .int .i64 b, .int .i64 cc, .int .u64 (x : Int)] 32)) fun e w' => ∃ u v, e = .returned (.tuple #[.int .u64 u, .int .i64 v]) ∧ R u v w')) :
    Calls Try.prog 15 #[.pointer (some ⟨sb, 0, none⟩), .agg #[.int .i64 7, .int .i64 a, .int .i64 b, .int .i64 cc, .int .u64 (x : Int)]] w (AnsW R) := by
  go_enter Try.func15, Try.ntmps15
  go_wp2_with fail
  refine (unhide HC).mono ?_
  rintro e w1 ⟨u, v, rfl, hr⟩
  have HR := hide hr
  clear hr HC
  go_wp2
  go_ret2
  exact ⟨u, v, rfl, unhide HR⟩
set_option maxRecDepth 100000 in
set_option maxHeartbeats 2000000 in
theorem ans15_8 (sb : Nat) (a b cc : Int) (x : Nat) (w : World) {R : Bool → Int → World → Prop} (HC : Hid (Calls Try.prog 13 #[.pointer (some ⟨sb, 0, none⟩), .int .i64 a, .int .i64 b] (w.alloc (.cells #[.int .i64 8, .int .i64 a, .int .i64 b, .int .i64 cc, .int .u64 (x : Int)] 32)) fun e w' => ∃ u v, e = .returned (.tuple #[.bool u, .int .i64 v]) ∧ R u v w')) :
    Calls Try.prog 15 #[.pointer (some ⟨sb, 0, none⟩), .agg #[.int .i64 8, .int .i64 a, .int .i64 b, .int .i64 cc, .int .u64 (x : Int)]] w (AnsS R) := by
  go_enter Try.func15, Try.ntmps15
  go_wp2_with fail
  refine (unhide HC).mono ?_
  rintro e w1 ⟨u, v, rfl, hr⟩
  have HR := hide hr
  clear hr HC
  cases u
  · go_wp2
    go_ret2
    exact ⟨false, v, rfl, unhide HR⟩
  · go_wp2
    go_ret2
    exact ⟨true, v, rfl, unhide HR⟩
set_option maxRecDepth 100000 in
set_option maxHeartbeats 2000000 in
theorem ans15_no (sb : Nat) (k a b cc : Int) (x : Nat) (w : World) (e1 : (k == 1) = false) (e2 : (k == 2) = false) (e3 : (k == 3) = false) (e4 : (k == 4) = false) (e5 : (k == 5) = false) (e6 : (k == 6) = false) (e7 : (k == 7) = false) (e8 : (k == 8) = false) :
    Calls Try.prog 15 #[.pointer (some ⟨sb, 0, none⟩), .agg #[.int .i64 k, .int .i64 a, .int .i64 b, .int .i64 cc, .int .u64 (x : Int)]] w fun e w' => e = .returned (.tuple #[.int .u64 0, .int .i64 0]) ∧ Fr [] w w' := by
  go_enter Try.func15, Try.ntmps15
  go_wp2
  go_ret2
  exact ⟨rfl, fr_alloc _ _ _⟩
end Rs
end Go.Proofs.Ytaapakpanbfmlaa
