import Derived.Test.YtjnelkpgdjphmaaMod
import Derived.Test.YtjnelkpgdjphmaaPp
import Derived.Test.YtjnelkpgdjphmaaNN
namespace Go.Proofs.Ytjnelkpgdjphmaa
open Go.RowKit
set_option linter.unusedVariables false
set_option linter.unusedSimpArgs false

/-- What math.Mod gives: the bits, or something that is no number. -/
def Md (x y : Nat) (r : Nat) : Prop := (Ieee.double.order r r = none ∧ Rm64 (Ieee.double.read x) (Ieee.double.read y) = 9221120237041090560) ∨
  (r = Rm64 (Ieee.double.read x) (Ieee.double.read y) ∧ r % 9223372036854775808 ≤ 9218868437227405312 ∧ r < 18446744073709551616)

theorem read_n (x : Nat) (h : 9218868437227405312 < x % 9223372036854775808) : ∃ s n, Ieee.double.read x = .nan s n :=
  ⟨_, _, Nm.read_nan Ieee.double x (by rw [Nm.d_sign, Nm.d_inf]; exact h) (by decide)⟩
theorem read_i (x : Nat) (h : x % 9223372036854775808 = 9218868437227405312) : Ieee.double.read x = .infinity (x / 9223372036854775808 % 2 == 1) := by
  have := Nm.read_inf Ieee.double x (by rw [Nm.d_sign, Nm.d_inf]; exact h) (by decide)
  rw [this, Nm.d_sign]
theorem read_f (x : Nat) (h : x % 9223372036854775808 < 9218868437227405312) : Ieee.double.read x = .number (x / 9223372036854775808 % 2 == 1) (Nm.mag Ieee.double (x % 9223372036854775808)) (-1074 + (Nm.up Ieee.double (x % 9223372036854775808) : Nat)) := by
  have := Nm.read_fin Ieee.double x (by rw [Nm.d_sign, Nm.d_inf]; exact h)
  rw [this, Nm.d_sign, Nm.d_least]

theorem mag_zero (g : Nat) : Nm.mag Ieee.double g = 0 ↔ g = 0 := by
  unfold Nm.mag
  rw [Nm.d_binade]
  split
  · exact Iff.rfl
  · constructor <;> intro h <;> omega

/-- A number is its own nearest. -/
theorem close_self (x : Nat) (s : Bool) (h : x < 9218868437227405312) : Nm.close Ieee.double s (Nm.mag Ieee.double x) (-1074 + (Nm.up Ieee.double x : Nat)) false = Ieee.double.word s x := by
  have h1 := Nm.close_V Ieee.double s x (by rw [Nm.d_inf]; omega)
  rw [← h1]
  have := Nm.close_scale Ieee.double s (Nm.mag Ieee.double x) (Nm.up Ieee.double x) (-1074 + (Nm.up Ieee.double x : Nat))
  rw [← this, Nm.d_least, show (-1074 + (Nm.up Ieee.double x : Nat) - (Nm.up Ieee.double x : Nat) : Int) = -1074 by omega]
  rfl

theorem word_x (x : Nat) (hx : x < 18446744073709551616) : Ieee.double.word (x / 9223372036854775808 % 2 == 1) (x % 9223372036854775808) = x := by
  unfold Ieee.Format.word
  rw [Nm.d_sign]
  by_cases h : x / 9223372036854775808 % 2 = 1
  · simp only [h, beq_self_eq_true, if_true]; omega
  · have : (x / 9223372036854775808 % 2 == 1) = false := by rw [beq_eq_false_iff_ne]; exact h
    simp only [this, Bool.false_eq_true, if_false]; omega

/-- What is left, by the values. -/
theorem rm_eq (x y g : Nat) (hx : x < 18446744073709551616) (hfx : x % 9223372036854775808 < 9218868437227405312) (hfy : y % 9223372036854775808 < 9218868437227405312) (hy0 : y % 9223372036854775808 ≠ 0)
    (hg : g < 9218868437227405312) (hv : Nm.V Ieee.double g = Nm.V Ieee.double (x % 9223372036854775808) % Nm.V Ieee.double (y % 9223372036854775808)) :
    Rm64 (Ieee.double.read x) (Ieee.double.read y) = Ieee.double.word (x / 9223372036854775808 % 2 == 1) g := by
  rw [read_f x hfx, read_f y hfy]
  generalize (x / 9223372036854775808 % 2 == 1) = s
  generalize (y / 9223372036854775808 % 2 == 1) = t
  generalize x % 9223372036854775808 = X at *
  generalize y % 9223372036854775808 = Y at *
  have hB : ¬ Nm.mag Ieee.double Y = 0 := fun h => hy0 ((mag_zero Y).1 h)
  simp only [Rm64, if_neg hB]
  have vX : Nm.V Ieee.double X = Nm.mag Ieee.double X * 2 ^ Nm.up Ieee.double X := rfl
  have vY : Nm.V Ieee.double Y = Nm.mag Ieee.double Y * 2 ^ Nm.up Ieee.double Y := rfl
  split
  · rename_i hlt
    have hu : Nm.up Ieee.double X < Nm.up Ieee.double Y := by omega
    have hXY : X < Y := by
      apply Decidable.byContradiction
      intro hc
      have := Nm.up_mono Ieee.double (show Y ≤ X by omega)
      omega
    rw [Nat.mod_eq_of_lt (Nm.V_mono _ hXY)] at hv
    have : g = X := (Nm.V_eq_iff Ieee.double g X).1 hv
    rw [this]
    exact close_self X s hfx
  · rename_i hge
    have hu : Nm.up Ieee.double Y ≤ Nm.up Ieee.double X := by omega
    have hd : (-1074 + (Nm.up Ieee.double X : Nat) - (-1074 + (Nm.up Ieee.double Y : Nat)) : Int).toNat = Nm.up Ieee.double X - Nm.up Ieee.double Y := by omega
    rw [hd]
    have e1 : Nm.V Ieee.double X = Nm.mag Ieee.double X * 2 ^ (Nm.up Ieee.double X - Nm.up Ieee.double Y) * 2 ^ Nm.up Ieee.double Y := by
      rw [vX, Nat.mul_assoc, ← Nat.pow_add]
      congr 2
      omega
    rw [e1, vY, Nat.mul_mod_mul_right] at hv
    have h1 := Nm.close_V Ieee.double s g (by rw [Nm.d_inf]; omega)
    rw [← h1, hv]
    have := Nm.close_scale Ieee.double s (Nm.mag Ieee.double X * 2 ^ (Nm.up Ieee.double X - Nm.up Ieee.double Y) % Nm.mag Ieee.double Y) (Nm.up Ieee.double Y) (-1074 + (Nm.up Ieee.double Y : Nat))
    rw [← this, Nm.d_least, show (-1074 + (Nm.up Ieee.double Y : Nat) - (Nm.up Ieee.double Y : Nat) : Int) = -1074 by omega]

end Go.Proofs.Ytjnelkpgdjphmaa

namespace Go.Proofs.Ytjnelkpgdjphmaa
open Go.RowKit
set_option linter.unusedVariables false
set_option linter.unusedSimpArgs false

theorem ord_n (x y : Nat) (h : 9218868437227405312 < x % 9223372036854775808 ∨ 9218868437227405312 < y % 9223372036854775808) : Ieee.double.order x y = none :=
  Nm.order_nan Ieee.double x y (by decide) (by rw [Nm.d_sign, Nm.d_inf]; exact h)
theorem ord_a (x y : Nat) (hx : x < 18446744073709551616) (hy : y < 18446744073709551616) (fx : x % 9223372036854775808 ≤ 9218868437227405312) (fy : y % 9223372036854775808 ≤ 9218868437227405312) :
    Ieee.double.order x y = some (compare (Nm.rank Ieee.double x) (Nm.rank Ieee.double y)) :=
  Nm.order_any Ieee.double x y (by decide) (by rw [Nm.d_sign]; omega) (by rw [Nm.d_sign]; omega) (by rw [Nm.d_sign, Nm.d_inf]; exact fx) (by rw [Nm.d_sign, Nm.d_inf]; exact fy)
theorem rank_d (x : Nat) (hx : x < 18446744073709551616) : Nm.rank Ieee.double x = if 9223372036854775808 ≤ x then -((x % 9223372036854775808 : Nat) : Int) else ((x % 9223372036854775808 : Nat) : Int) := by
  unfold Nm.rank
  rw [Nm.d_sign]
  split <;> omega
theorem inf_false (x : Nat) (w : World) (hx : x < 18446744073709551616) (h : x % 9223372036854775808 ≠ 9218868437227405312) :
    Calls Try.prog 66 #[.float .f64 x, .int .i64 0] w fun e w' => e = .returned (.bool false) ∧ w' = w := by
  apply isInf_any x false w hx
  by_cases hn : 9218868437227405312 < x % 9223372036854775808
  · rw [ord_n _ _ (.inl (by rw [Nat.mod_mod]; exact hn))]; rfl
  · rw [ord_pos _ _ (by omega) (by omega)]
    rcases Nat.lt_or_ge (x % 9223372036854775808) 9218868437227405311 with h2 | h2
    · rw [cmp_lt (by omega)]; rfl
    · have : x % 9223372036854775808 = 9218868437227405311 := by omega
      rw [this, cmp_eq]; rfl
theorem inf_true (x : Nat) (w : World) (hx : x < 18446744073709551616) (h : x % 9223372036854775808 = 9218868437227405312) :
    Calls Try.prog 66 #[.float .f64 x, .int .i64 0] w fun e w' => e = .returned (.bool true) ∧ w' = w := by
  apply isInf_any x true w hx
  rw [h, ord_pos _ _ (by omega) (by omega), cmp_gt (by omega)]; rfl
theorem nan_false (x : Nat) (w : World) (hx : x < 18446744073709551616) (h : x % 9223372036854775808 ≤ 9218868437227405312) :
    Calls Try.prog 67 #[.float .f64 x] w fun e w' => e = .returned (.bool false) ∧ w' = w := by
  have := isNaN_any x w
  rw [ord_a x x hx hx h h, cmp_eq] at this
  exact this
theorem nan_true (x : Nat) (w : World) (h : 9218868437227405312 < x % 9223372036854775808) :
    Calls Try.prog 67 #[.float .f64 x] w fun e w' => e = .returned (.bool true) ∧ w' = w := by
  have := isNaN_any x w
  rw [ord_n x x (.inl h)] at this
  exact this
theorem zero_cmp (y : Nat) (hy : y < 18446744073709551616) (h : y % 9223372036854775808 ≠ 0) : (FloatKind.f64.format.order y 0 == some Ordering.eq) = false := by
  rw [f64fmt]
  by_cases hn : 9218868437227405312 < y % 9223372036854775808
  · rw [ord_n _ _ (.inl hn)]; rfl
  · rw [ord_a y 0 hy (by omega) (by omega) (by omega), rank_d y hy, rank_d 0 (by omega), if_neg (show ¬ 9223372036854775808 ≤ 0 by omega)]
    split
    · rw [cmp_lt (by omega)]; rfl
    · rw [cmp_gt (by omega)]; rfl

set_option maxRecDepth 20000 in
theorem mod_y0 (x y : Nat) (w : World) (hx : x < 18446744073709551616) (hy : y < 18446744073709551616) (h : y % 9223372036854775808 = 0) :
    Calls Try.prog 65 #[.float .f64 x, .float .f64 y] w fun e w' => e = .returned (.float .f64 9221120237041090561) ∧ Grown w w' := by
  have hz : (FloatKind.f64.format.order y 0 == some Ordering.eq) = true := by
    rw [f64fmt, ord_a y 0 hy (by omega) (by omega) (by omega), rank_d y hy, rank_d 0 (by omega), if_neg (show ¬ 9223372036854775808 ≤ 0 by omega), h]
    split <;> rfl
  clear h hx hy
  go_enter Try.func65, Try.ntmps65
  go_wp2_with fail
  refine (nanc_any _).mono ?_
  rintro e w1 ⟨rfl, hw⟩
  subst hw
  go_wp2
  go_ret
  exact ⟨rfl, Grown.refl _⟩

set_option maxRecDepth 20000 in
theorem mod_xi (x y : Nat) (w : World) (hx : x < 18446744073709551616) (hy : y < 18446744073709551616) (h : y % 9223372036854775808 ≠ 0) (h2 : x % 9223372036854775808 = 9218868437227405312) :
    Calls Try.prog 65 #[.float .f64 x, .float .f64 y] w fun e w' => e = .returned (.float .f64 9221120237041090561) ∧ Grown w w' := by
  have hz := zero_cmp y hy h
  have H1 := hide (fun w => inf_true x w hx h2)
  clear h h2 hx hy
  go_enter Try.func65, Try.ntmps65
  go_wp2_with fail
  refine (unhide H1 _).mono ?_
  rintro e w1 ⟨rfl, hw⟩
  subst hw
  go_wp2_with fail
  refine (nanc_any _).mono ?_
  rintro e w1 ⟨rfl, hw⟩
  subst hw
  go_wp2
  go_ret
  exact ⟨rfl, Grown.refl _⟩

set_option maxRecDepth 20000 in
theorem mod_xn (x y : Nat) (w : World) (hx : x < 18446744073709551616) (hy : y < 18446744073709551616) (h : y % 9223372036854775808 ≠ 0) (h2 : 9218868437227405312 < x % 9223372036854775808) :
    Calls Try.prog 65 #[.float .f64 x, .float .f64 y] w fun e w' => e = .returned (.float .f64 9221120237041090561) ∧ Grown w w' := by
  have hz := zero_cmp y hy h
  have H1 := hide (fun w => inf_false x w hx (by omega))
  have H2 := hide (fun w => nan_true x w h2)
  clear h h2 hx hy
  go_enter Try.func65, Try.ntmps65
  go_wp2_with fail
  refine (unhide H1 _).mono ?_
  rintro e w1 ⟨rfl, hw⟩
  subst hw
  go_wp2_with fail
  refine (unhide H2 _).mono ?_
  rintro e w1 ⟨rfl, hw⟩
  subst hw
  go_wp2_with fail
  refine (nanc_any _).mono ?_
  rintro e w1 ⟨rfl, hw⟩
  subst hw
  go_wp2
  go_ret
  exact ⟨rfl, Grown.refl _⟩

set_option maxRecDepth 20000 in
theorem mod_yn (x y : Nat) (w : World) (hx : x < 18446744073709551616) (hy : y < 18446744073709551616) (h2 : x % 9223372036854775808 < 9218868437227405312) (h3 : 9218868437227405312 < y % 9223372036854775808) :
    Calls Try.prog 65 #[.float .f64 x, .float .f64 y] w fun e w' => e = .returned (.float .f64 9221120237041090561) ∧ Grown w w' := by
  have hz := zero_cmp y hy (by omega)
  have H1 := hide (fun w => inf_false x w hx (by omega))
  have H2 := hide (fun w => nan_false x w hx (by omega))
  have H3 := hide (fun w => nan_true y w h3)
  clear h2 h3 hx hy
  go_enter Try.func65, Try.ntmps65
  go_wp2_with fail
  refine (unhide H1 _).mono ?_
  rintro e w1 ⟨rfl, hw⟩
  subst hw
  go_wp2_with fail
  refine (unhide H2 _).mono ?_
  rintro e w1 ⟨rfl, hw⟩
  subst hw
  go_wp2_with fail
  refine (unhide H3 _).mono ?_
  rintro e w1 ⟨rfl, hw⟩
  subst hw
  go_wp2_with fail
  refine (nanc_any _).mono ?_
  rintro e w1 ⟨rfl, hw⟩
  subst hw
  go_wp2
  go_ret
  exact ⟨rfl, Grown.refl _⟩

set_option maxRecDepth 20000 in
theorem frexp_inf (w : World) :
    Calls Try.prog 73 #[.float .f64 9218868437227405312] w fun e w' => e = .returned (.tuple #[.float .f64 9218868437227405312, .int .i64 0]) ∧ w' = w := by
  have hz := zero_cmp 9218868437227405312 (by omega) (by omega)
  have H1 := hide (fun w => inf_true 9218868437227405312 w (by omega) (by omega))
  go_enter Try.func73, Try.ntmps73
  go_wp2_with fail
  refine (unhide H1 _).mono ?_
  rintro e w1 ⟨rfl, hw⟩
  subst hw
  go_wp2
  go_ret2
  exact ⟨rfl, rfl⟩
theorem Frexp_inf (w : World) :
    Calls Try.prog 70 #[.float .f64 9218868437227405312] w fun e w' => e = .returned (.tuple #[.float .f64 9218868437227405312, .int .i64 0]) ∧ w' = w := by
  have H1 := hide frexp_inf
  go_enter Try.func70, Try.ntmps70
  go_wp2_with fail
  refine (unhide H1 _).mono ?_
  rintro e w1 ⟨rfl, hw⟩
  subst hw
  go_wp2
  go_ret2
  exact ⟨rfl, rfl⟩

end Go.Proofs.Ytjnelkpgdjphmaa

namespace Go.Proofs.Ytjnelkpgdjphmaa
open Go.RowKit
set_option linter.unusedVariables false
set_option linter.unusedSimpArgs false

theorem Frexp_all (Y : Nat) (w : World) (hY : Y ≤ 9218868437227405312) (h0 : Y ≠ 0) :
    Calls Try.prog 70 #[.float .f64 Y] w fun e w' => (∃ a b, e = .returned (.tuple #[.float .f64 a, .int .i64 b])) ∧ Grown w w' := by
  by_cases h : Y < 9218868437227405312
  · refine (Frexp_any Y w (by omega) h).mono ?_
    rintro e w2 ⟨⟨ny, cy, hny, rfl⟩, hg1⟩
    exact ⟨⟨_, _, rfl⟩, hg1⟩
  · have : Y = 9218868437227405312 := by omega
    rw [this]
    refine (Frexp_inf w).mono ?_
    rintro e w2 ⟨rfl, rfl⟩
    exact ⟨⟨_, _, rfl⟩, Grown.refl _⟩

set_option maxHeartbeats 1000000 in
set_option maxRecDepth 20000 in
theorem mod_lt (x y r : Nat) (neg : Bool) (w : World) (hx : x < 18446744073709551616) (hy : y < 18446744073709551616) (h2 : x % 9223372036854775808 < 9218868437227405312) (h3 : y % 9223372036854775808 ≤ 9218868437227405312) (h0 : y % 9223372036854775808 ≠ 0)
    (hlt : (FloatKind.f64.format.order x 0 == some Ordering.lt) = neg) (hr : if neg then x ^^^ 9223372036854775808 = r ∧ r ^^^ 9223372036854775808 = x else r = x) (ho : FloatKind.f64.format.order r (y % 9223372036854775808) = some .lt) :
    Calls Try.prog 65 #[.float .f64 x, .float .f64 y] w fun e w' => e = .returned (.float .f64 x) ∧ Grown w w' := by
  have hz := zero_cmp y hy h0
  have H1 := hide (fun w => inf_false x w hx (by omega))
  have H2 := hide (fun w => nan_false x w hx (by omega))
  have H3 := hide (fun w => nan_false y w hy h3)
  have H4 := hide (fun w => abs_any y w hy)
  have H5 := hide (fun w => Frexp_all (y % 9223372036854775808) w h3 h0)
  generalize y % 9223372036854775808 = Y at *
  have hnr := neg_run
  clear h2 h3 hx hy h0
  cases neg
  · simp only [Bool.false_eq_true, if_false] at hr
    subst hr
    go_enter Try.func65, Try.ntmps65
    go_wp2_with fail
    refine (unhide H1 _).mono ?_
    rintro e w1 ⟨rfl, hw⟩
    subst hw
    go_wp2_with fail
    refine (unhide H2 _).mono ?_
    rintro e w1 ⟨rfl, hw⟩
    subst hw
    go_wp2_with fail
    refine (unhide H3 _).mono ?_
    rintro e w1 ⟨rfl, hw⟩
    subst hw
    go_wp2_with fail
    refine (unhide H4 _).mono ?_
    rintro e w1 ⟨rfl, hw⟩
    subst hw
    go_wp2_with fail
    refine (unhide H5 _).mono ?_
    rintro e w2 ⟨⟨a, b, rfl⟩, hg⟩
    go_wp2_with fail
    go_loopw [7] (fun q wr => q = .float .f64 r ∧ Grown w1 wr) (fun _ _ => 0)
    case atStart => exact ⟨rfl, hg⟩
    case round =>
      obtain ⟨rfl, hgr⟩ := hrel
      go_wp2
      go_ret
      exact ⟨rfl, hgr⟩
  · simp only [if_true] at hr
    obtain ⟨hr1, hr2⟩ := hr
    go_enter Try.func65, Try.ntmps65
    go_wp2_with fail
    refine (unhide H1 _).mono ?_
    rintro e w1 ⟨rfl, hw⟩
    subst hw
    go_wp2_with fail
    refine (unhide H2 _).mono ?_
    rintro e w1 ⟨rfl, hw⟩
    subst hw
    go_wp2_with fail
    refine (unhide H3 _).mono ?_
    rintro e w1 ⟨rfl, hw⟩
    subst hw
    go_wp2_with fail
    refine (unhide H4 _).mono ?_
    rintro e w1 ⟨rfl, hw⟩
    subst hw
    go_wp2_with fail
    refine (unhide H5 _).mono ?_
    rintro e w2 ⟨⟨a, b, rfl⟩, hg⟩
    go_wp2_with fail
    go_loopw [7] (fun q wr => q = .float .f64 r ∧ Grown w1 wr) (fun _ _ => 0)
    case atStart => exact ⟨rfl, hg⟩
    case round =>
      obtain ⟨rfl, hgr⟩ := hrel
      go_wp2
      go_ret
      exact ⟨rfl, hgr⟩

theorem lt_zero (x : Nat) (hx : x < 18446744073709551616) (h : x % 9223372036854775808 ≤ 9218868437227405312) :
    (FloatKind.f64.format.order x 0 == some Ordering.lt) = decide (9223372036854775808 < x) := by
  rw [f64fmt, ord_a x 0 hx (by omega) h (by omega), rank_d x hx, rank_d 0 (by omega), if_neg (show ¬ 9223372036854775808 ≤ 0 by omega)]
  by_cases h1 : 9223372036854775808 < x
  · rw [if_pos (by omega), cmp_lt (by omega), decide_eq_true h1]
    rfl
  · rw [decide_eq_false h1]
    by_cases h2 : 9223372036854775808 ≤ x
    · have : x = 9223372036854775808 := by omega
      subst this
      rfl
    · rw [if_neg h2]
      rcases Nat.eq_zero_or_pos x with h3 | h3
      · subst h3; rfl
      · rw [cmp_gt (by omega)]; rfl

/-- y has no end: x is left. -/
theorem mod_yi (x y : Nat) (w : World) (hx : x < 18446744073709551616) (hy : y < 18446744073709551616) (h2 : x % 9223372036854775808 < 9218868437227405312) (h3 : y % 9223372036854775808 = 9218868437227405312) :
    Calls Try.prog 65 #[.float .f64 x, .float .f64 y] w fun e w' => e = .returned (.float .f64 x) ∧ Grown w w' := by
  have hox : ∀ r, r < 18446744073709551616 → r % 9223372036854775808 < 9218868437227405312 → FloatKind.f64.format.order r (y % 9223372036854775808) = some .lt := by
    intro r hr hr2
    rw [h3, f64fmt, ord_a r 9218868437227405312 hr (by omega) (by omega) (by omega), rank_d r hr, rank_d 9218868437227405312 (by omega), if_neg (show ¬ 9223372036854775808 ≤ 9218868437227405312 by omega)]
    split <;> rw [cmp_lt (by omega)]
  have hl := lt_zero x hx (by omega)
  by_cases hn : 9223372036854775808 < x
  · rw [decide_eq_true hn] at hl
    obtain ⟨X, hX⟩ : ∃ X, x = 9223372036854775808 + X := ⟨x - 9223372036854775808, by omega⟩
    exact mod_lt x y X true w hx hy h2 (by omega) (by omega) hl (by simp only [if_true]; exact ⟨by rw [hX]; exact xor_back X (by omega), by rw [hX]; exact xor_hi X (by omega)⟩) (hox X (by omega) (by omega))
  · rw [decide_eq_false hn] at hl
    exact mod_lt x y x false w hx hy h2 (by omega) (by omega) hl (by simp) (hox x hx h2)

/-- x is the nought below. -/
theorem mod_z (y : Nat) (w : World) (hy : y < 18446744073709551616) (h3 : y % 9223372036854775808 ≤ 9218868437227405312) (h0 : y % 9223372036854775808 ≠ 0) :
    Calls Try.prog 65 #[.float .f64 9223372036854775808, .float .f64 y] w fun e w' => e = .returned (.float .f64 9223372036854775808) ∧ Grown w w' := by
  have hl := lt_zero 9223372036854775808 (by omega) (by omega)
  rw [decide_eq_false (by omega)] at hl
  refine mod_lt 9223372036854775808 y 9223372036854775808 false w (by omega) hy (by omega) h3 h0 hl (by simp) ?_
  rw [f64fmt, ord_a 9223372036854775808 _ (by omega) (by omega) (by omega) (by omega), rank_d 9223372036854775808 (by omega), rank_d _ (by omega), if_pos (by omega), if_neg (by omega), cmp_lt (by omega)]

theorem Md_nan (x y r : Nat) (h1 : Ieee.double.order r r = none) (h2 : Rm64 (Ieee.double.read x) (Ieee.double.read y) = 9221120237041090560) : Md x y r := .inl ⟨h1, h2⟩
theorem no_order : Ieee.double.order 9221120237041090561 9221120237041090561 = none := ord_n _ _ (.inl (by omega))

theorem mod_any (x y : Nat) (w : World) (hx : x < 18446744073709551616) (hy : y < 18446744073709551616) :
    Calls Try.prog 65 #[.float .f64 x, .float .f64 y] w fun e w' => (∃ r, e = .returned (.float .f64 r) ∧ Md x y r) ∧ Grown w w' := by
  by_cases y0 : y % 9223372036854775808 = 0
  · refine (mod_y0 x y w hx hy y0).mono ?_
    rintro e w' ⟨rfl, hg⟩
    refine ⟨⟨_, rfl, Md_nan _ _ _ no_order ?_⟩, hg⟩
    rw [read_f y (by omega), y0]
    cases Ieee.double.read x <;> rfl
  by_cases xn : 9218868437227405312 < x % 9223372036854775808
  · refine (mod_xn x y w hx hy y0 xn).mono ?_
    rintro e w' ⟨rfl, hg⟩
    refine ⟨⟨_, rfl, Md_nan _ _ _ no_order ?_⟩, hg⟩
    obtain ⟨s, n, h⟩ := read_n x xn
    rw [h]
    cases Ieee.double.read y <;> rfl
  by_cases xi : x % 9223372036854775808 = 9218868437227405312
  · refine (mod_xi x y w hx hy y0 xi).mono ?_
    rintro e w' ⟨rfl, hg⟩
    refine ⟨⟨_, rfl, Md_nan _ _ _ no_order ?_⟩, hg⟩
    rw [read_i x xi]
    cases Ieee.double.read y <;> rfl
  have xf : x % 9223372036854775808 < 9218868437227405312 := by omega
  by_cases yn : 9218868437227405312 < y % 9223372036854775808
  · refine (mod_yn x y w hx hy xf yn).mono ?_
    rintro e w' ⟨rfl, hg⟩
    refine ⟨⟨_, rfl, Md_nan _ _ _ no_order ?_⟩, hg⟩
    obtain ⟨s, n, h⟩ := read_n y yn
    rw [h]
    cases Ieee.double.read x <;> rfl
  by_cases yi : y % 9223372036854775808 = 9218868437227405312
  · refine (mod_yi x y w hx hy xf yi).mono ?_
    rintro e w' ⟨rfl, hg⟩
    refine ⟨⟨_, rfl, .inr ⟨?_, by omega, hx⟩⟩, hg⟩
    rw [read_f x xf, read_i y yi]
    show x = Nm.close Ieee.double _ _ _ false
    rw [close_self _ _ xf, word_x x hx]
  have yf : y % 9223372036854775808 < 9218868437227405312 := by omega
  by_cases xz : x = 9223372036854775808
  · subst xz
    refine (mod_z y w hy (by omega) y0).mono ?_
    rintro e w' ⟨rfl, hg⟩
    refine ⟨⟨_, rfl, .inr ⟨?_, by omega, hx⟩⟩, hg⟩
    rw [rm_eq 9223372036854775808 y 0 hx xf yf y0 (by omega) (by
      rw [show 9223372036854775808 % 9223372036854775808 = 0 from rfl, Nm.V_zero, Nat.zero_mod])]
    rfl
  by_cases hn : 9223372036854775808 ≤ x
  · refine (mod_core x y (x % 9223372036854775808) true w xf yf y0 hy (by simp; omega) (by intro _; omega)).mono ?_
    rintro e w' ⟨⟨g, hg1, hg2, rfl⟩, hg⟩
    simp only [if_true]
    refine ⟨⟨_, rfl, .inr ⟨?_, ?_, ?_⟩⟩, hg⟩
    · rw [rm_eq x y g hx xf yf y0 hg1 hg2, show x / 9223372036854775808 % 2 = 1 by omega, xor_hi g (by omega)]
      unfold Ieee.Format.word
      rw [Nm.d_sign]
      rfl
    · rw [xor_hi g (by omega)]; omega
    · rw [xor_hi g (by omega)]; omega
  · refine (mod_core x y (x % 9223372036854775808) false w xf yf y0 hy (by simp; omega) (by intro h; cases h)).mono ?_
    rintro e w' ⟨⟨g, hg1, hg2, rfl⟩, hg⟩
    simp only [Bool.false_eq_true, if_false]
    refine ⟨⟨_, rfl, .inr ⟨?_, by omega, by omega⟩⟩, hg⟩
    rw [rm_eq x y g hx xf yf y0 hg1 hg2, show x / 9223372036854775808 % 2 = 0 by omega]
    rfl

set_option maxRecDepth 20000 in
theorem Mod_any (x y : Nat) (w : World) (hx : x < 18446744073709551616) (hy : y < 18446744073709551616) :
    Calls Try.prog 58 #[.float .f64 x, .float .f64 y] w fun e w' => (∃ r, e = .returned (.float .f64 r) ∧ Md x y r) ∧ Grown w w' := by
  have H := hide (fun w => mod_any x y w hx hy)
  clear hx hy
  go_enter Try.func58, Try.ntmps58
  go_wp2_with fail
  refine (unhide H _).mono ?_
  rintro e w1 ⟨⟨r, rfl, hr⟩, hg⟩
  have Hr := hide hr
  clear hr
  go_wp2
  go_ret
  exact ⟨⟨r, rfl, unhide Hr⟩, hg⟩
end Go.Proofs.Ytjnelkpgdjphmaa

namespace Go.Proofs.Ytjnelkpgdjphmaa
open Go.RowKit
set_option linter.unusedVariables false
set_option linter.unusedSimpArgs false

theorem reads_n (x : Nat) (h : 2139095040 < x % 2147483648) : ∃ s n, Ieee.single.read x = .nan s n :=
  ⟨_, _, Nm.read_nan Ieee.single x (by rw [Nm.s_sign, Nm.s_inf]; exact h) (by decide)⟩
theorem reads_i (x : Nat) (h : x % 2147483648 = 2139095040) : Ieee.single.read x = .infinity (x / 2147483648 % 2 == 1) := by
  have := Nm.read_inf Ieee.single x (by rw [Nm.s_sign, Nm.s_inf]; exact h) (by decide)
  rw [this, Nm.s_sign]
theorem reads_f (x : Nat) (h : x % 2147483648 < 2139095040) : Ieee.single.read x = .number (x / 2147483648 % 2 == 1) (Nm.mag Ieee.single (x % 2147483648)) (-149 + (Nm.up Ieee.single (x % 2147483648) : Nat)) := by
  have := Nm.read_fin Ieee.single x (by rw [Nm.s_sign, Nm.s_inf]; exact h)
  rw [this, Nm.s_sign, Nm.s_least]

theorem mags_zero (g : Nat) : Nm.mag Ieee.single g = 0 ↔ g = 0 := by
  unfold Nm.mag
  rw [Nm.s_binade]
  split
  · exact Iff.rfl
  · constructor <;> intro h <;> omega

/-- A number is its own nearest. -/
theorem closes_self (x : Nat) (s : Bool) (h : x < 2139095040) : Nm.close Ieee.single s (Nm.mag Ieee.single x) (-149 + (Nm.up Ieee.single x : Nat)) false = Ieee.single.word s x := by
  have h1 := Nm.close_V Ieee.single s x (by rw [Nm.s_inf]; omega)
  rw [← h1]
  have := Nm.close_scale Ieee.single s (Nm.mag Ieee.single x) (Nm.up Ieee.single x) (-149 + (Nm.up Ieee.single x : Nat))
  rw [← this, Nm.s_least, show (-149 + (Nm.up Ieee.single x : Nat) - (Nm.up Ieee.single x : Nat) : Int) = -149 by omega]
  rfl

theorem words_x (x : Nat) (hx : x < 4294967296) : Ieee.single.word (x / 2147483648 % 2 == 1) (x % 2147483648) = x := by
  unfold Ieee.Format.word
  rw [Nm.s_sign]
  by_cases h : x / 2147483648 % 2 = 1
  · simp only [h, beq_self_eq_true, if_true]; omega
  · have : (x / 2147483648 % 2 == 1) = false := by rw [beq_eq_false_iff_ne]; exact h
    simp only [this, Bool.false_eq_true, if_false]; omega

/-- What is left, by the values. -/
theorem rms_eq (x y g : Nat) (hx : x < 4294967296) (hfx : x % 2147483648 < 2139095040) (hfy : y % 2147483648 < 2139095040) (hy0 : y % 2147483648 ≠ 0)
    (hg : g < 2139095040) (hv : Nm.V Ieee.single g = Nm.V Ieee.single (x % 2147483648) % Nm.V Ieee.single (y % 2147483648)) :
    Rm32 (Ieee.single.read x) (Ieee.single.read y) = Ieee.single.word (x / 2147483648 % 2 == 1) g := by
  rw [reads_f x hfx, reads_f y hfy]
  generalize (x / 2147483648 % 2 == 1) = s
  generalize (y / 2147483648 % 2 == 1) = t
  generalize x % 2147483648 = X at *
  generalize y % 2147483648 = Y at *
  have hB : ¬ Nm.mag Ieee.single Y = 0 := fun h => hy0 ((mags_zero Y).1 h)
  simp only [Rm32, if_neg hB]
  have vX : Nm.V Ieee.single X = Nm.mag Ieee.single X * 2 ^ Nm.up Ieee.single X := rfl
  have vY : Nm.V Ieee.single Y = Nm.mag Ieee.single Y * 2 ^ Nm.up Ieee.single Y := rfl
  split
  · rename_i hlt
    have hu : Nm.up Ieee.single X < Nm.up Ieee.single Y := by omega
    have hXY : X < Y := by
      apply Decidable.byContradiction
      intro hc
      have := Nm.up_mono Ieee.single (show Y ≤ X by omega)
      omega
    rw [Nat.mod_eq_of_lt (Nm.V_mono _ hXY)] at hv
    have : g = X := (Nm.V_eq_iff Ieee.single g X).1 hv
    rw [this]
    exact closes_self X s hfx
  · rename_i hge
    have hu : Nm.up Ieee.single Y ≤ Nm.up Ieee.single X := by omega
    have hd : (-149 + (Nm.up Ieee.single X : Nat) - (-149 + (Nm.up Ieee.single Y : Nat)) : Int).toNat = Nm.up Ieee.single X - Nm.up Ieee.single Y := by omega
    rw [hd]
    have e1 : Nm.V Ieee.single X = Nm.mag Ieee.single X * 2 ^ (Nm.up Ieee.single X - Nm.up Ieee.single Y) * 2 ^ Nm.up Ieee.single Y := by
      rw [vX, Nat.mul_assoc, ← Nat.pow_add]
      congr 2
      omega
    rw [e1, vY, Nat.mul_mod_mul_right] at hv
    have h1 := Nm.close_V Ieee.single s g (by rw [Nm.s_inf]; omega)
    rw [← h1, hv]
    have := Nm.close_scale Ieee.single s (Nm.mag Ieee.single X * 2 ^ (Nm.up Ieee.single X - Nm.up Ieee.single Y) % Nm.mag Ieee.single Y) (Nm.up Ieee.single Y) (-149 + (Nm.up Ieee.single Y : Nat))
    rw [← this, Nm.s_least, show (-149 + (Nm.up Ieee.single Y : Nat) - (Nm.up Ieee.single Y : Nat) : Int) = -149 by omega]


/-- A float as a double. -/
def Wd (x X : Nat) : Prop := X < 18446744073709551616 ∧
  ((2139095040 < x % 2147483648 ∧ 9218868437227405312 < X % 9223372036854775808) ∨
   (x % 2147483648 = 2139095040 ∧ X % 9223372036854775808 = 9218868437227405312) ∨
   (x % 2147483648 < 2139095040 ∧ ∃ g, g < 9218868437227405312 ∧ Nm.V Ieee.double g = Nm.V Ieee.single (x % 2147483648) * 2 ^ 925 ∧ X = Ieee.double.word (x / 2147483648 % 2 == 1) g))

theorem dword (s : Bool) (g : Nat) (h : g < 9223372036854775808) : Ieee.double.word s g % 9223372036854775808 = g ∧ Ieee.double.word s g < 18446744073709551616 ∧ (Ieee.double.word s g / 9223372036854775808 % 2 == 1) = s := by
  unfold Ieee.Format.word
  rw [Nm.d_sign]
  cases s
  · simp only [Bool.false_eq_true, if_false]
    refine ⟨by omega, by omega, ?_⟩
    rw [show g / 9223372036854775808 = 0 by omega]
    rfl
  · simp only [if_true]
    refine ⟨by omega, by omega, ?_⟩
    rw [show (9223372036854775808 + g) / 9223372036854775808 = 1 by omega]
    rfl

theorem order_no (r : Nat) (h : Ieee.double.order r r = none) : ∃ s n, Ieee.double.read r = .nan s n := by
  unfold Ieee.Format.order at h
  cases hd : Ieee.double.read r with
  | nan s n => exact ⟨s, n, rfl⟩
  | infinity s => rw [hd] at h; cases h
  | number s m i => rw [hd] at h; cases h

/-- What is left of two floats, as doubles. -/
def Left (x y r : Nat) : Prop := (Ieee.double.order r r = none ∧ Rm32 (Ieee.single.read x) (Ieee.single.read y) = 2143289344) ∨
  (∃ s g h, h < 2139095040 ∧ g < 9218868437227405312 ∧ Nm.V Ieee.double g = Nm.V Ieee.single h * 2 ^ 925 ∧ r = Ieee.double.word s g ∧ Rm32 (Ieee.single.read x) (Ieee.single.read y) = Ieee.single.word s h)

theorem md_no {X Y r : Nat} (h : Md X Y r) (hn : Rm64 (Ieee.double.read X) (Ieee.double.read Y) = 9221120237041090560) : Ieee.double.order r r = none := by
  rcases h with h | ⟨h1, h2, h3⟩
  · exact h.1
  · rw [hn] at h1; omega

theorem md_is {X Y r s g : Nat} (h : Md X Y r) (b : Bool) (hg : g < 9218868437227405312) (hn : Rm64 (Ieee.double.read X) (Ieee.double.read Y) = Ieee.double.word b g) : r = Ieee.double.word b g := by
  rcases h with h | ⟨h1, h2, h3⟩
  · have := dword b g (by omega)
    rw [← hn, h.2] at this
    omega
  · rw [h1, hn]

theorem left_of {x y X Y r : Nat} (hx : x < 4294967296) (hy : y < 4294967296) (hX : Wd x X) (hY : Wd y Y) (h : Md X Y r) : Left x y r := by
  obtain ⟨lX, hX⟩ := hX
  obtain ⟨lY, hY⟩ := hY
  rcases hX with ⟨x1, X1⟩ | ⟨x1, X1⟩ | ⟨x1, gx, gx1, gx2, X1⟩
  · left
    obtain ⟨s, n, e⟩ := reads_n x x1
    obtain ⟨s', n', e'⟩ := read_n X X1
    refine ⟨md_no h ?_, ?_⟩
    · rw [e']; cases Ieee.double.read Y <;> rfl
    · rw [e]; cases Ieee.single.read y <;> rfl
  · left
    refine ⟨md_no h ?_, ?_⟩
    · rw [read_i X X1]; cases Ieee.double.read Y <;> rfl
    · rw [reads_i x x1]; cases Ieee.single.read y <;> rfl
  · have dX := dword (x / 2147483648 % 2 == 1) gx (by omega)
    rw [← X1] at dX
    obtain ⟨dX1, dX2, dX3⟩ := dX
    have fX : X % 9223372036854775808 < 9218868437227405312 := by omega
    rcases hY with ⟨y1, Y1⟩ | ⟨y1, Y1⟩ | ⟨y1, gy, gy1, gy2, Y1⟩
    · left
      obtain ⟨s, n, e⟩ := reads_n y y1
      obtain ⟨s', n', e'⟩ := read_n Y Y1
      refine ⟨md_no h ?_, ?_⟩
      · rw [e']; cases Ieee.double.read X <;> rfl
      · rw [e]; cases Ieee.single.read x <;> rfl
    · right
      refine ⟨(x / 2147483648 % 2 == 1), gx, x % 2147483648, x1, gx1, gx2, md_is (s := 0) h _ gx1 ?_, ?_⟩
      · rw [read_f X fX, read_i Y Y1, dX3, dX1]
        exact close_self gx _ gx1
      · rw [reads_f x x1, reads_i y y1]
        exact closes_self _ _ x1
    · have dY := dword (y / 2147483648 % 2 == 1) gy (by omega)
      rw [← Y1] at dY
      obtain ⟨dY1, dY2, dY3⟩ := dY
      have fY : Y % 9223372036854775808 < 9218868437227405312 := by omega
      by_cases y0 : y % 2147483648 = 0
      · left
        have g0 : gy = 0 := by
          rw [y0, Nm.V_none, ← Nm.V_zero Ieee.double] at gy2
          exact (Nm.V_eq_iff _ _ _).1 gy2
        refine ⟨md_no h ?_, ?_⟩
        · rw [read_f X fX, read_f Y fY, dY1, g0]; rfl
        · rw [reads_f x x1, reads_f y y1, y0]; rfl
      · right
        have hV0 := Nm.V_pos Ieee.single _ y0
        have hW0 : gy ≠ 0 := by
          intro h0
          rw [h0, Nm.V_zero] at gy2
          have := Nat.mul_pos (Nat.pos_of_ne_zero hV0) (Nat.two_pow_pos 925)
          omega
        obtain ⟨hh, hh1, hh2⟩ := Nm.left_rep Ieee.single (x % 2147483648) (y % 2147483648) (by rw [Nm.s_inf]; exact x1) (by rw [Nm.s_inf]; exact y1) hV0
        obtain ⟨gg, gg1, gg2⟩ := Nm.left_rep Ieee.double gx gy (by rw [Nm.d_inf]; exact gx1) (by rw [Nm.d_inf]; exact gy1) (Nm.V_pos _ _ hW0)
        rw [Nm.s_inf] at hh1
        rw [Nm.d_inf] at gg1
        refine ⟨(x / 2147483648 % 2 == 1), gg, hh, hh1, gg1, ?_, md_is (s := 0) h _ gg1 ?_, ?_⟩
        · rw [gg2, hh2, gx2, gy2, Nat.mul_mod_mul_right]
        · rw [rm_eq X Y gg lX fX fY (by omega) gg1 (by rw [dX1, dY1]; exact gg2), dX3]
        · exact rms_eq x y hh hx x1 y1 y0 hh1 hh2

theorem sword (s : Bool) (h : Nat) (hh : h < 2139095040) : Ieee.single.word s h % 2147483648 = h ∧ Ieee.single.word s h < 4294967296 := by
  unfold Ieee.Format.word
  rw [Nm.s_sign]
  cases s
  · simp only [Bool.false_eq_true, if_false]; omega
  · simp only [if_true]; omega

/-- The bits of something that is no number, turned. -/
def nanCv (k : FloatKind) (x : Nat) (w : World) : Nat := (Question.nanConv k x).cut (w.tape w.drawn (Question.nanConv k x))

theorem nanCv32 (x : Nat) (w : World) : Ieee.single.order (nanCv .f32 x w) (nanCv .f32 x w) = none := by
  apply Nm.order_nan _ _ _ (by decide)
  left
  rw [Nm.s_sign, Nm.s_inf]
  exact nan_cut32 _
theorem nanCv64 (x : Nat) (w : World) : 9218868437227405312 < nanCv .f64 x w % 9223372036854775808 := nan_cut64 _
theorem nanCv64_lt (x : Nat) (w : World) : nanCv .f64 x w < 18446744073709551616 := by
  show (w.tape w.drawn (Question.nanConv .f64 x)) % 2 * 9223372036854775808 + 9218868437227405312 + 1 + (w.tape w.drawn (Question.nanConv .f64 x)) / 2 % 4503599627370495 < _
  generalize w.tape w.drawn (Question.nanConv .f64 x) = t
  have h2 : t / 2 % 4503599627370495 < 4503599627370495 := Nat.mod_lt _ (by omega)
  generalize t / 2 % 4503599627370495 = b at *
  rcases (show t % 2 = 0 ∨ t % 2 = 1 by omega) with h | h <;> rw [h] <;> omega

theorem und49 : Try.prog.underlying 49 = some (.float .f32) := rfl
theorem und53 : Try.prog.underlying 53 = some (.float .f64) := rfl

theorem conv_nan64 (x s n : Nat) (b : Bool) (h : Ieee.single.read x = .nan b n) (w : World) : (convert 49 53 (.float .f32 x)).run Try.prog w = .ok (.float .f64 (nanCv .f64 x w)) w.drew := by
  have hd : FloatKind.f32.decode x = .nan b n := h
  simp [convert, run_underlying und49, run_underlying und53, Conv.floatToFloat, hd, Question.forced, nanCv]
theorem conv_nan32 (x s n : Nat) (b : Bool) (h : Ieee.double.read x = .nan b n) (w : World) : (convert 53 49 (.float .f64 x)).run Try.prog w = .ok (.float .f32 (nanCv .f32 x w)) w.drew := by
  have hd : FloatKind.f64.decode x = .nan b n := h
  simp [convert, run_underlying und49, run_underlying und53, Conv.floatToFloat, hd, Question.forced, nanCv]
end Go.Proofs.Ytjnelkpgdjphmaa

namespace Go.Proofs.Ytjnelkpgdjphmaa
open Go.RowKit
set_option linter.unusedVariables false
set_option linter.unusedSimpArgs false

theorem md_fl {x y r : Nat} (h : Md x y r) : Fl64 r (Fb64 4 x y) := by
  have e : Fb64 4 x y = Rm64 (Ieee.double.read x) (Ieee.double.read y) := rfl
  rw [e]
  rcases h with h | ⟨h1, h2, h3⟩
  · exact .inl h
  · exact .inr ⟨order_self64 r h2 h3, h1.symm, h3⟩

set_option maxRecDepth 20000 in
theorem ofParts64_rem (x y : Nat) (w : World) (hx : x < 18446744073709551616) (hy : y < 18446744073709551616) : Gf64 4 x y w := by
  have H := hide (fun w => Mod_any x y w hx hy)
  clear hx hy
  show Calls Try.prog 37 #[.int .u8 4, .float .f64 x, .float .f64 y] w _
  go_enter Try.func37, Try.ntmps37
  go_wp2_with fail
  refine (unhide H _).mono ?_
  rintro e w1 ⟨⟨r, rfl, hr⟩, hg⟩
  have Hr := hide hr
  clear hr
  go_wp2
  go_ret
  exact ⟨⟨r, rfl, md_fl (unhide Hr)⟩, hg⟩

/-- A float turned into a double: its bits, or some that are no number. -/
theorem conv_wide (x : Nat) (hx : x < 4294967296) : (∃ X, Wd x X ∧ ∀ w, (convert 49 53 (.float .f32 x)).run Try.prog w = .ok (.float .f64 X) w) ∨
    ((∀ w, Wd x (nanCv .f64 x w)) ∧ ∀ w, (convert 49 53 (.float .f32 x)).run Try.prog w = .ok (.float .f64 (nanCv .f64 x w)) w.drew) := by
  by_cases h1 : 2139095040 < x % 2147483648
  · right
    obtain ⟨s, n, e⟩ := reads_n x h1
    exact ⟨fun w => ⟨nanCv64_lt x w, .inl ⟨h1, nanCv64 x w⟩⟩, conv_nan64 x 0 n s e⟩
  left
  by_cases h2 : x % 2147483648 = 2139095040
  · have e := reads_i x h2
    refine ⟨Ieee.double.word (x / 2147483648 % 2 == 1) 9218868437227405312, ⟨(dword _ _ (by omega)).2.1, .inr (.inl ⟨h2, (dword _ _ (by omega)).1⟩)⟩, fun w => ?_⟩
    refine run_convert_float_float w 49 53 .f32 .f64 x _ rfl und53 ?_
    have hd : FloatKind.f32.decode x = .infinity (x / 2147483648 % 2 == 1) := e
    unfold floatToFloatBits
    rw [if_neg (by decide), hd]
    rfl
  · have h3 : x % 2147483648 < 2139095040 := by omega
    obtain ⟨g, g1, g2⟩ := Nm.wide _ h3
    have e := reads_f x h3
    have hc := Nm.wide_close _ g (x / 2147483648 % 2 == 1) g1 g2
    refine ⟨Ieee.double.word (x / 2147483648 % 2 == 1) g, ⟨(dword _ _ (by omega)).2.1, .inr (.inr ⟨h3, g, g1, g2, rfl⟩)⟩, fun w => ?_⟩
    refine run_convert_float_float w 49 53 .f32 .f64 x _ rfl und53 ?_
    have hd : FloatKind.f32.decode x = .number (x / 2147483648 % 2 == 1) (Nm.mag Ieee.single (x % 2147483648)) (-149 + (Nm.up Ieee.single (x % 2147483648) : Nat)) := e
    have he : FloatKind.f64.encode (.number (x / 2147483648 % 2 == 1) (Nm.mag Ieee.single (x % 2147483648)) (-149 + (Nm.up Ieee.single (x % 2147483648) : Nat))) = Ieee.double.word (x / 2147483648 % 2 == 1) g := by
      rw [← hc]; exact Nm.write_number _ _ _ _
    have hf : (FloatKind.f64.decode (Ieee.double.word (x / 2147483648 % 2 == 1) g)).isInfinity = false := by
      have : FloatKind.f64.decode (Ieee.double.word (x / 2147483648 % 2 == 1) g) = _ := read_f _ (by rw [(dword _ g (by omega)).1]; exact g1)
      rw [this]; rfl
    unfold floatToFloatBits
    rw [if_neg (by decide), hd]
    simp only []
    rw [he, hf]
    rfl

/-- What is left, turned into a float. -/
theorem conv_thin (x y r : Nat) (h : Left x y r) : (∃ R, Fl32 R (Rm32 (Ieee.single.read x) (Ieee.single.read y)) ∧ ∀ w, (convert 53 49 (.float .f64 r)).run Try.prog w = .ok (.float .f32 R) w) ∨
    ((∀ w, Fl32 (nanCv .f32 r w) (Rm32 (Ieee.single.read x) (Ieee.single.read y))) ∧ ∀ w, (convert 53 49 (.float .f64 r)).run Try.prog w = .ok (.float .f32 (nanCv .f32 r w)) w.drew) := by
  rcases h with ⟨h1, h2⟩ | ⟨s, g, h, h1, g1, hv, hr, hR⟩
  · right
    obtain ⟨s, n, e⟩ := order_no r h1
    rw [h2]
    exact ⟨fun w => .inl ⟨nanCv32 r w, rfl⟩, conv_nan32 r 0 n s e⟩
  · left
    have hw := sword s h h1
    refine ⟨Ieee.single.word s h, .inr ⟨order_self32 _ (by omega) hw.2, hR, hw.2⟩, fun w => ?_⟩
    refine run_convert_float_float w 53 49 .f64 .f32 r _ rfl und49 ?_
    have hrm := dword s g (by omega)
    rw [← hr] at hrm
    have hd : FloatKind.f64.decode r = .number s (Nm.mag Ieee.double g) (-1074 + (Nm.up Ieee.double g : Nat)) := by
      have := read_f r (by rw [hrm.1]; exact g1)
      rw [hrm.1, hrm.2.2] at this
      exact this
    have hc := Nm.thin_close h g s h1 hv
    have he : FloatKind.f32.encode (.number s (Nm.mag Ieee.double g) (-1074 + (Nm.up Ieee.double g : Nat))) = Ieee.single.word s h := by
      rw [← hc]; exact Nm.write_number _ _ _ _
    have hf : (FloatKind.f32.decode (Ieee.single.word s h)).isInfinity = false := by
      have : FloatKind.f32.decode (Ieee.single.word s h) = _ := reads_f _ (by rw [hw.1]; exact h1)
      rw [this]; rfl
    unfold floatToFloatBits
    rw [if_neg (by decide), hd]
    simp only []
    rw [he, hf]
    rfl

set_option maxHeartbeats 1000000 in
set_option maxRecDepth 20000 in
theorem ofParts32_rem (x y : Nat) (w : World) (hx : x < 4294967296) (hy : y < 4294967296) : Gf32 4 x y w := by
  have eF : Fb32 4 x y = Rm32 (Ieee.single.read x) (Ieee.single.read y) := rfl
  rw [Gf32, eF]
  have HT := hide (fun r h => conv_thin x y r h)
  have HL := hide (fun X Y r hX hY h => left_of (x := x) (y := y) (X := X) (Y := Y) (r := r) hx hy hX hY h)
  have HM := hide (fun X Y w (hX : Wd x X) (hY : Wd y Y) => Mod_any X Y w hX.1 hY.1)
  have cx := conv_wide x hx
  have cy := conv_wide y hy
  clear hx hy eF
  show Calls Try.prog 34 #[.int .u8 4, .float .f32 x, .float .f32 y] w _
  rcases cx with ⟨X, wX, rX⟩ | ⟨wX, rX⟩ <;> rcases cy with ⟨Y, wY, rY⟩ | ⟨wY, rY⟩
  all_goals
    have WX := hide wX
    have WY := hide wY
    clear wX wY
    go_enter Try.func34, Try.ntmps34
    go_wp2_with fail
    refine (unhide HM _ _ _ (by first | exact unhide WX | exact unhide WX _) (by first | exact unhide WY | exact unhide WY _)).mono ?_
    rintro e w1 ⟨⟨r, rfl, hr⟩, hg⟩
    have hl := unhide HL _ _ r (by first | exact unhide WX | exact unhide WX _) (by first | exact unhide WY | exact unhide WY _) hr
    clear hr
    rcases unhide HT r hl with ⟨R, fR, rR⟩ | ⟨fR, rR⟩
    · have FR := hide fR
      clear fR hl
      go_wp2
      go_ret
      exact ⟨⟨R, rfl, unhide FR⟩, gtrans (by repeat (first | exact Grown.refl _ | apply Grown.drew)) hg⟩
    · have FR := hide fR
      clear fR hl
      go_wp2
      go_ret
      exact ⟨⟨_, rfl, unhide FR _⟩, (gtrans (by repeat (first | exact Grown.refl _ | apply Grown.drew)) hg).drew⟩

theorem ofParts32_any (k x y : Nat) (w : World) (hk : k ≤ 4) (hx : x < 4294967296) (hy : y < 4294967296) : Gf32 k x y w := by
  rcases (show k = 0 ∨ k = 1 ∨ k = 2 ∨ k = 3 ∨ k = 4 by omega) with rfl | rfl | rfl | rfl | rfl
  · exact ofParts32_add x y w
  · exact ofParts32_sub x y w
  · exact ofParts32_mul x y w
  · exact ofParts32_quo x y w
  · exact ofParts32_rem x y w hx hy
theorem ofParts64_any (k x y : Nat) (w : World) (hk : k ≤ 4) (hx : x < 18446744073709551616) (hy : y < 18446744073709551616) : Gf64 k x y w := by
  rcases (show k = 0 ∨ k = 1 ∨ k = 2 ∨ k = 3 ∨ k = 4 by omega) with rfl | rfl | rfl | rfl | rfl
  · exact ofParts64_add x y w
  · exact ofParts64_sub x y w
  · exact ofParts64_mul x y w
  · exact ofParts64_quo x y w
  · exact ofParts64_rem x y w hx hy

theorem ofFloat_fl (r v : Nat) (w : World) (h : Fl32 r v) : Calls Try.prog 33 #[.float .f32 r] w fun e w' => e = .returned (.int .u64 (v : Int)) ∧ w' = w := by
  rcases h with ⟨h1, h2⟩ | ⟨h1, h2, h3⟩
  · rw [h2]; exact ofFloat_nan r w h1
  · rw [h2]; exact ofFloat_num r w h1 h3
theorem ofDouble_fl (r v : Nat) (w : World) (h : Fl64 r v) : Calls Try.prog 36 #[.float .f64 r] w fun e w' => e = .returned (.int .u64 (v : Int)) ∧ w' = w := by
  rcases h with ⟨h1, h2⟩ | ⟨h1, h2, h3⟩
  · rw [h2]; exact ofDouble_nan r w h1
  · rw [h2]; exact ofDouble_num r w h1
end Go.Proofs.Ytjnelkpgdjphmaa
