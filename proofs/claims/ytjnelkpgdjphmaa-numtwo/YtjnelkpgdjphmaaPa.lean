import Derived.Test.YtjnelkpgdjphmaaRows
import Derived.Test.YtjnelkpgdjphmaaNN
import Derived.WalkKit
import Derived.Lib.Walk
import Derived.WalkLawsBesides
import Derived.Laws.ShiftsVar
namespace Go.Proofs.Ytjnelkpgdjphmaa
open Go.RowKit
set_option linter.unusedVariables false

/-- What the walk shall not look at. -/
def Hid (p : Prop) : Prop := p
theorem hide {p : Prop} (h : p) : Hid p := h
theorem unhide {p : Prop} (h : Hid p) : p := h

theorem within_any (op x y : Nat) (w : World) :
    Calls Try.prog 9 #[.int .u8 (op : Int), .int .u8 (x : Int), .int .u8 (y : Int)] w fun e w' => e = .returned (.bool (decide (x ≤ op ∧ op ≤ y))) ∧ w' = w := by
  go_enter Try.func9, Try.ntmps9
  go_wp2
  · rename_i h
    go_ret
    exact ⟨by simp [h], rfl⟩
  · rename_i h
    go_ret
    exact ⟨by simp [h], rfl⟩

theorem ofInt_any (x : Int) (w : World) :
    Calls Try.prog 31 #[.int .i32 x] w fun e w' => e = .returned (.int .u64 (x % 4294967296)) ∧ w' = w := by
  go_enter Try.func31, Try.ntmps31
  go_wp2
  go_ret
  exact ⟨rfl, rfl⟩

/-- What is reckoned of whole numbers: sum, difference, product, quotient, rest. -/
def wop (k : Nat) (x y : Int) : Int := if k = 0 then x + y else if k = 1 then x - y else if k = 2 then x * y else if k = 3 then x.tdiv y else x.tmod y

theorem u_wrap32 (n : Int) : wrap32 n % 4294967296 = n % 4294967296 := by
  unfold wrap32
  omega

theorem u_wrap64 (n : Int) : wrap64 n % 18446744073709551616 = n % 18446744073709551616 := by
  unfold wrap64
  omega

theorem ofWhole32_zero (k : Nat) (x : Int) (w : World) (hk : k = 3 ∨ k = 4) :
    Calls Try.prog 30 #[.int .u8 (k : Int), .int .i32 x, .int .i32 0] w fun e w' => e = .returned (.tuple #[.int .i32 0, .int .i64 27]) ∧ w' = w := by
  rcases hk with rfl | rfl
  all_goals
    go_enter Try.func30, Try.ntmps30
    go_wp2
    go_ret2
    exact ⟨rfl, rfl⟩

theorem ofWhole32_any (k : Nat) (x y : Int) (w : World) (hk : k ≤ 4) (hy : 3 ≤ k → y ≠ 0) :
    Calls Try.prog 30 #[.int .u8 (k : Int), .int .i32 x, .int .i32 y] w fun e w' =>
      ∃ v, e = .returned (.tuple #[.int .i32 v, .int .i64 0]) ∧ v % 4294967296 = wop k x y % 4294967296 ∧ w' = w := by
  rcases (show k = 0 ∨ k = 1 ∨ k = 2 ∨ k = 3 ∨ k = 4 by omega) with rfl | rfl | rfl | rfl | rfl
  iterate 3
    · go_enter Try.func30, Try.ntmps30
      go_wp2
      go_ret2
      exact ⟨_, rfl, u_wrap32 _, rfl⟩
  · have hy' := hy (by omega)
    clear hy
    go_enter Try.func30, Try.ntmps30
    go_wp2
    go_ret2
    exact ⟨_, rfl, by first | rfl | exact u_wrap32 _, rfl⟩
  · have hy' := hy (by omega)
    clear hy
    go_enter Try.func30, Try.ntmps30
    go_wp2
    go_ret2
    exact ⟨_, rfl, by first | rfl | exact u_wrap32 _, rfl⟩

theorem ofWhole64_zero (k : Nat) (x : Int) (w : World) (hk : k = 3 ∨ k = 4) :
    Calls Try.prog 32 #[.int .u8 (k : Int), .int .i64 x, .int .i64 0] w fun e w' => e = .returned (.tuple #[.int .i64 0, .int .i64 27]) ∧ w' = w := by
  rcases hk with rfl | rfl
  all_goals
    go_enter Try.func32, Try.ntmps32
    go_wp2
    go_ret2
    exact ⟨rfl, rfl⟩

theorem ofWhole64_any (k : Nat) (x y : Int) (w : World) (hk : k ≤ 4) (hy : 3 ≤ k → y ≠ 0) :
    Calls Try.prog 32 #[.int .u8 (k : Int), .int .i64 x, .int .i64 y] w fun e w' =>
      ∃ v, e = .returned (.tuple #[.int .i64 v, .int .i64 0]) ∧ v % 18446744073709551616 = wop k x y % 18446744073709551616 ∧ w' = w := by
  rcases (show k = 0 ∨ k = 1 ∨ k = 2 ∨ k = 3 ∨ k = 4 by omega) with rfl | rfl | rfl | rfl | rfl
  iterate 3
    · go_enter Try.func32, Try.ntmps32
      go_wp2
      go_ret2
      exact ⟨_, rfl, u_wrap64 _, rfl⟩
  · have hy' := hy (by omega)
    clear hy
    go_enter Try.func32, Try.ntmps32
    go_wp2
    go_ret2
    exact ⟨_, rfl, by first | rfl | exact u_wrap64 _, rfl⟩
  · have hy' := hy (by omega)
    clear hy
    go_enter Try.func32, Try.ntmps32
    go_wp2
    go_ret2
    exact ⟨_, rfl, by first | rfl | exact u_wrap64 _, rfl⟩
end Go.Proofs.Ytjnelkpgdjphmaa
