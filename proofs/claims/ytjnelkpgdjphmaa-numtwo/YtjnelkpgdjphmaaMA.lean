import Derived.Test.YtjnelkpgdjphmaaPP
import Derived.Test.YtjnelkpgdjphmaaPg
import Derived.Laws.FloatArith
namespace Go.Proofs.Ytjnelkpgdjphmaa
open Go.RowKit
set_option linter.unusedVariables false

theorem abs_bits (x : Nat) (hx : x < 18446744073709551616) : bits .andNot .u64 (x : Int) 9223372036854775808 = ((x % 9223372036854775808 : Nat) : Int) := by
  rw [u64_andNot _ _ (by omega) (by omega) (by omega) (by omega)]
  congr 1
  rw [Int.toNat_natCast]
  have e : 18446744073709551615 - (9223372036854775808 : Int).toNat = 2 ^ 63 - 1 := by decide
  rw [e, Nat.and_two_pow_sub_one_eq_mod]
theorem low_bits (n : Nat) (hn : n < 9223372036854775808) : bits .andNot .u64 (n : Int) 9218868437227405312 = ((n % 4503599627370496 : Nat) : Int) := by
  rw [u64_andNot _ _ (by omega) (by omega) (by omega) (by omega)]
  congr 1
  rw [Int.toNat_natCast]
  have e : 18446744073709551615 - (9218868437227405312 : Int).toNat = 9227875636482146303 := by decide
  rw [e]
  have h1 : (n &&& 9227875636482146303) % 2 ^ 63 = (n % 2 ^ 63) &&& (9227875636482146303 % 2 ^ 63) := Nat.and_mod_two_pow
  have h2 : n &&& 9227875636482146303 ≤ n := Nat.and_le_left
  rw [Nat.mod_eq_of_lt (show n &&& 9227875636482146303 < 2 ^ 63 by omega), Nat.mod_eq_of_lt (show n < 2 ^ 63 by omega)] at h1
  rw [h1]
  have e2 : 9227875636482146303 % 2 ^ 63 = 2 ^ 52 - 1 := by decide
  rw [e2, Nat.and_two_pow_sub_one_eq_mod]
theorem or_bits (b e : Nat) (hb : b < 4503599627370496) (he : e < 4096) : bits .or .u64 (b : Int) ((e * 4503599627370496 : Nat) : Int) = ((e * 4503599627370496 + b : Nat) : Int) := by
  rw [u64_or _ _ (by omega) (by omega) (by omega) (by omega)]
  congr 1
  rw [Int.toNat_natCast, Int.toNat_natCast, Nat.or_comm]
  have := Nat.shiftLeft_add_eq_or_of_lt (show b < 2 ^ 52 from hb) e
  rw [Nat.shiftLeft_eq] at this
  exact this.symm

theorem abs_any (x : Nat) (w : World) (hx : x < 18446744073709551616) :
    Calls Try.prog 69 #[.float .f64 x] w fun e w' => e = .returned (.float .f64 (x % 9223372036854775808)) ∧ w' = w := by
  have h1 := f64bits x
  have h2 := abs_bits x hx
  have h3 := f64from ((x % 9223372036854775808 : Nat) : Int)
  rw [Int.toNat_natCast] at h3
  generalize x % 9223372036854775808 = z at *
  go_enter Try.func69, Try.ntmps69
  go_wp2
  go_ret
  exact ⟨rfl, rfl⟩
theorem isNaN_any (x : Nat) (w : World) :
    Calls Try.prog 67 #[.float .f64 x] w fun e w' => e = .returned (.bool (Ieee.double.order x x != some .eq)) ∧ w' = w := by
  go_enter Try.func67, Try.ntmps67
  go_wp2
  go_ret
  exact ⟨rfl, rfl⟩
theorem isInf_any (x : Nat) (b : Bool) (w : World) (hx : x < 18446744073709551616) (hb : (Ieee.double.order (x % 9223372036854775808) 9218868437227405311 == some .gt) = b) :
    Calls Try.prog 66 #[.float .f64 x, .int .i64 0] w fun e w' => e = .returned (.bool b) ∧ w' = w := by
  have H := hide (fun w => abs_any x w hx)
  generalize x % 9223372036854775808 = z at *
  rw [← f64fmt] at hb
  go_enter Try.func66, Try.ntmps66
  go_wp2_with fail
  refine (unhide H _).mono ?_
  rintro e w1 ⟨rfl, hw⟩
  subst hw
  go_wp2
  go_ret
  exact ⟨rfl, rfl⟩
theorem nanc_any (w : World) :
    Calls Try.prog 68 #[] w fun e w' => e = .returned (.float .f64 9221120237041090561) ∧ w' = w := by
  have h3 := f64from 9221120237041090561
  rw [show (9221120237041090561 : Int).toNat = 9221120237041090561 from rfl] at h3
  go_enter Try.func68, Try.ntmps68
  go_wp2
  go_ret
  exact ⟨rfl, rfl⟩
end Go.Proofs.Ytjnelkpgdjphmaa

namespace Go.Proofs.Ytjnelkpgdjphmaa
open Go.RowKit
set_option linter.unusedVariables false

/-- The order of two that are not below nought, and are numbers or have no end. -/
theorem ord_pos (x y : Nat) (hx : x ≤ 9218868437227405312) (hy : y ≤ 9218868437227405312) : Ieee.double.order x y = some (compare (x : Int) (y : Int)) := by
  have h1 : x % 9223372036854775808 = x := Nat.mod_eq_of_lt (by omega)
  have h2 : y % 9223372036854775808 = y := Nat.mod_eq_of_lt (by omega)
  rw [Nm.order_any Ieee.double x y (by decide) (by rw [Nm.d_sign]; omega) (by rw [Nm.d_sign]; omega) (by rw [Nm.d_sign, Nm.d_inf, h1]; exact hx) (by rw [Nm.d_sign, Nm.d_inf, h2]; exact hy)]
  unfold Nm.rank
  rw [Nm.d_sign, if_neg (by omega), if_neg (by omega)]
theorem cmp_lt {a b : Int} (h : a < b) : compare a b = .lt := by simp [compare, compareOfLessAndEq, h]
theorem cmp_gt {a b : Int} (h : b < a) : compare a b = .gt := by simp [compare, compareOfLessAndEq, Int.not_lt.2 (Int.le_of_lt h), show ¬ a = b by omega]
theorem cmp_eq (a : Int) : compare a a = .eq := by simp [compare, compareOfLessAndEq]

set_option maxRecDepth 20000 in
theorem normalize_any (g : Nat) (w : World) (h0 : 0 < g) (h1 : g < 9218868437227405312) :
    Calls Try.prog 76 #[.float .f64 g] w fun e w' => (∃ n c, Nm.Norm g n c ∧ e = .returned (.tuple #[.float .f64 n, .int .i64 (-(c : Int))])) ∧ w' = w := by
  have H := hide (fun w => abs_any g w (by omega))
  rw [Nat.mod_eq_of_lt (show g < 9223372036854775808 by omega)] at H
  have ho := ord_pos g 4503599627370496 (by omega) (by omega)
  by_cases hs : g < 4503599627370496
  · rw [cmp_lt (by omega)] at ho
    obtain ⟨n, hn, hm⟩ := Nm.norm_mul g h0 hs
    have hr := fun w => run_float_arith (P := Try.prog) w .mul 53 .f64 g 4841369599423283200 n hm
    have Hn := hide hn
    clear hn hm
    rw [← f64fmt] at ho
    have Hs := hide (And.intro h0 (And.intro h1 hs))
    clear h0 h1 hs
    go_enter Try.func76, Try.ntmps76
    go_wp2_with fail
    refine (unhide H _).mono ?_
    rintro e w1 ⟨rfl, hw⟩
    subst hw
    go_wp2
    go_ret2
    exact ⟨⟨n, 52, unhide Hn, rfl⟩, rfl⟩
  · have ho2 : Ieee.double.order g 4503599627370496 = some .gt ∨ Ieee.double.order g 4503599627370496 = some .eq := by
      rcases Nat.lt_or_ge 4503599627370496 g with h | h
      · rw [cmp_gt (by omega)] at ho; exact .inl ho
      · have : g = 4503599627370496 := by omega
        subst this
        rw [cmp_eq] at ho
        exact .inr ho
    have Hn := hide (Nm.norm_self g (by omega) h1)
    clear ho
    rw [← f64fmt] at ho2
    clear h0 h1 hs
    rcases ho2 with ho | ho
    all_goals
      go_enter Try.func76, Try.ntmps76
      go_wp2_with fail
      refine (unhide H _).mono ?_
      rintro e w1 ⟨rfl, hw⟩
      subst hw
      go_wp2
      go_ret2
      exact ⟨⟨g, 0, unhide Hn, rfl⟩, rfl⟩

set_option maxRecDepth 20000 in
theorem frexp_any (g : Nat) (w : World) (h0 : 0 < g) (h1 : g < 9218868437227405312) :
    Calls Try.prog 73 #[.float .f64 g] w fun e w' => (∃ n c, Nm.Norm g n c ∧ e = .returned (.tuple #[.float .f64 (1022 * 4503599627370496 + n % 4503599627370496), .int .i64 ((n / 4503599627370496 : Nat) - 1022 - (c : Int))])) ∧ Grown w w' := by
  have HN := hide (fun w => normalize_any g w h0 h1)
  have hz := ord_pos g 0 (by omega) (by omega)
  rw [cmp_gt (by omega), ← f64fmt] at hz
  have hi := ord_pos g 9218868437227405311 (by omega) (by omega)
  have HI := hide (fun w => isInf_any g false w (by omega) (by
    rw [Nat.mod_eq_of_lt (show g < 9223372036854775808 by omega), hi]
    rcases Nat.lt_or_ge g 9218868437227405311 with h | h
    · rw [cmp_lt (by omega)]; rfl
    · have : g = 9218868437227405311 := by omega
      subst this
      rw [cmp_eq]; rfl))
  have HA := hide (fun w => isNaN_any g w)
  have hs := ord_pos g g (by omega) (by omega)
  rw [cmp_eq] at hs
  rw [hs] at HA
  clear hi hs h0 h1
  go_enter Try.func73, Try.ntmps73
  go_wp2_with fail
  refine (unhide HI _).mono ?_
  rintro e w1 ⟨rfl, hw⟩
  subst hw
  go_wp2_with fail
  refine (unhide HA _).mono ?_
  rintro e w1 ⟨rfl, hw⟩
  subst hw
  rw [show (some Ordering.eq != some Ordering.eq) = false from rfl]
  go_wp2_with fail
  refine (unhide HN _).mono ?_
  rintro e w1 ⟨⟨n, c, hn, rfl⟩, hw⟩
  subst hw
  have Hn := hide hn
  have hc := hn.c0
  have hlo := hn.lo
  have hhi := hn.hi
  have hb := f64bits n
  obtain ⟨q, hq⟩ : ∃ q, q = n / 4503599627370496 := ⟨_, rfl⟩
  obtain ⟨m, hm⟩ : ∃ m, m = n % 4503599627370496 := ⟨_, rfl⟩
  have r1 : (n : Int) / 4503599627370496 = (q : Int) := by omega
  have hql : q < 2047 := by omega
  have r2 : bits .and .u64 (q : Int) 2047 = (q : Int) := by
    have := u64_mask q 11 (by omega) (by omega)
    rw [Nat.mod_eq_of_lt (show q < 2 ^ 11 by omega)] at this
    exact this
  have r3 := low_bits n (by omega)
  have r4 := or_bits m 1022 (by omega) (by omega)
  rw [← hm] at r3
  have h5 := f64from ((1022 * 4503599627370496 + m : Nat) : Int)
  rw [Int.toNat_natCast] at h5
  have e1022 : ((1022 * 4503599627370496 : Nat) : Int) = 4602678819172646912 := by decide
  rw [e1022] at r4
  obtain ⟨z, hz9⟩ : ∃ z, z = 1022 * 4503599627370496 + m := ⟨_, rfl⟩
  rw [← hz9] at r4 h5
  have Hq := hide (And.intro hq (And.intro hm hz9))
  clear hn hlo hhi hq hm hz9 e1022 HI HA HN
  rcases hc with rfl | rfl
  · go_wp2
    go_ret2
    obtain ⟨hq, hm, hz9⟩ := unhide Hq
    refine ⟨⟨n, 0, unhide Hn, ?_⟩, Grown.refl _⟩
    rw [← hq, ← hm, ← hz9]
    have he : (q : Int) - 1023 + 1 = (q : Int) - 1022 - ((0 : Nat) : Int) := by omega
    rw [← he]
    first | rfl | (congr 4; omega)
  · go_wp2
    go_ret2
    obtain ⟨hq, hm, hz9⟩ := unhide Hq
    refine ⟨⟨n, 52, unhide Hn, ?_⟩, Grown.refl _⟩
    rw [← hq, ← hm, ← hz9]
    have he : -52 + ((q : Int) - 1023 + 1) = (q : Int) - 1022 - ((52 : Nat) : Int) := by omega
    rw [← he]
    first | rfl | (congr 4; omega)

theorem Frexp_any (g : Nat) (w : World) (h0 : 0 < g) (h1 : g < 9218868437227405312) :
    Calls Try.prog 70 #[.float .f64 g] w fun e w' => (∃ n c, Nm.Norm g n c ∧ e = .returned (.tuple #[.float .f64 (1022 * 4503599627370496 + n % 4503599627370496), .int .i64 ((n / 4503599627370496 : Nat) - 1022 - (c : Int))])) ∧ Grown w w' := by
  have H := hide (fun w => frexp_any g w h0 h1)
  clear h0 h1
  go_enter Try.func70, Try.ntmps70
  go_wp2_with fail
  refine (unhide H _).mono ?_
  rintro e w1 ⟨⟨n, c, hn, rfl⟩, hg⟩
  have Hn := hide hn
  clear hn
  obtain ⟨z, hz⟩ : ∃ z, z = 1022 * 4503599627370496 + n % 4503599627370496 := ⟨_, rfl⟩
  obtain ⟨e9, he⟩ : ∃ e9 : Int, e9 = (n / 4503599627370496 : Nat) - 1022 - (c : Int) := ⟨_, rfl⟩
  rw [← hz, ← he]
  have Hz := hide (And.intro hz he)
  clear hz he
  go_wp2
  go_ret2
  exact ⟨⟨n, c, unhide Hn, by rw [← (unhide Hz).1, ← (unhide Hz).2]; rfl⟩, hg⟩
end Go.Proofs.Ytjnelkpgdjphmaa

namespace Go.Proofs.Ytjnelkpgdjphmaa
open Go.RowKit
set_option linter.unusedVariables false

theorem ld_bounds {g n c k : Nat} (H : Nm.Norm g n c) (hv : Nm.V Ieee.double g * 2 ^ k < 2 ^ 2098) :
    (-1074 : Int) ≤ (k : Int) - c + (n / 4503599627370496 : Nat) - 1023 ∧ (k : Int) - c + (n / 4503599627370496 : Nat) - 1023 ≤ 1023 := by
  have hl := H.log2
  have hp := H.pos
  have h1 := Nat.log2_self_le (show Nm.V Ieee.double g ≠ 0 by omega)
  have h2 : 2 ^ ((Nm.V Ieee.double g).log2 + k) < 2 ^ 2098 := by
    rw [Nat.pow_add]
    exact Nat.lt_of_le_of_lt (Nat.mul_le_mul_right _ h1) hv
  have h3 : (Nm.V Ieee.double g).log2 + k < 2098 := Nm.pow_down (n := 2098) h2
  generalize (Nm.V Ieee.double g).log2 = l at *
  generalize n / 4503599627370496 = q at *
  omega

set_option maxHeartbeats 1000000 in
set_option maxRecDepth 20000 in
theorem ldexp_any (g k : Nat) (w : World) (h0 : 0 < g) (h1 : g < 9218868437227405312) (hk : k ≤ 5000) (hv : Nm.V Ieee.double g * 2 ^ k < 2 ^ 2098) :
    Calls Try.prog 75 #[.float .f64 g, .int .i64 (k : Int)] w fun e w' => (∃ s, s < 9218868437227405312 ∧ Nm.V Ieee.double s = Nm.V Ieee.double g * 2 ^ k ∧ e = .returned (.float .f64 s)) ∧ Grown w w' := by
  have HN := hide (fun w => normalize_any g w h0 h1)
  have hz := ord_pos g 0 (by omega) (by omega)
  rw [cmp_gt (by omega), ← f64fmt] at hz
  have hi := ord_pos g 9218868437227405311 (by omega) (by omega)
  have HI := hide (fun w => isInf_any g false w (by omega) (by
    rw [Nat.mod_eq_of_lt (show g < 9223372036854775808 by omega), hi]
    rcases Nat.lt_or_ge g 9218868437227405311 with h | h
    · rw [cmp_lt (by omega)]; rfl
    · have : g = 9218868437227405311 := by omega
      subst this
      rw [cmp_eq]; rfl))
  have HA := hide (fun w => isNaN_any g w)
  have hs := ord_pos g g (by omega) (by omega)
  rw [cmp_eq] at hs
  rw [hs] at HA
  have HV := hide hv
  clear hi hs h0 h1 hv
  go_enter Try.func75, Try.ntmps75
  go_wp2_with fail
  refine (unhide HI _).mono ?_
  rintro e w1 ⟨rfl, hw⟩
  subst hw
  go_wp2_with fail
  refine (unhide HA _).mono ?_
  rintro e w1 ⟨rfl, hw⟩
  subst hw
  rw [show (some Ordering.eq != some Ordering.eq) = false from rfl]
  go_wp2_with fail
  refine (unhide HN _).mono ?_
  rintro e w1 ⟨⟨n, c, hn, rfl⟩, hw⟩
  subst hw
  have Hn := hide hn
  have hc := hn.c0
  have hlo := hn.lo
  have hhi := hn.hi
  obtain ⟨bl, bh⟩ := ld_bounds hn (unhide HV)
  have hb := f64bits n
  obtain ⟨q, hq⟩ : ∃ q, q = n / 4503599627370496 := ⟨_, rfl⟩
  obtain ⟨m, hm⟩ : ∃ m, m = n % 4503599627370496 := ⟨_, rfl⟩
  rw [← hq] at bl bh
  have r1 : (n : Int) / 4503599627370496 = (q : Int) := by omega
  have hql : q < 2047 := by omega
  have r2 : bits .and .i64 (q : Int) 2047 = (q : Int) := by
    have := i64_mask q 11 (by omega) (by omega)
    rw [Nat.mod_eq_of_lt (show q < 2 ^ 11 by omega)] at this
    exact this
  have r3 := low_bits n (by omega)
  rw [← hm] at r3
  by_cases hsm : (k : Int) - c + q - 1023 < -1022
  · obtain ⟨E, hE⟩ : ∃ E : Nat, (E : Int) = k - c + q + 53 := ⟨((k : Int) - c + q + 53).toNat, by omega⟩
    have hE1 : 1 ≤ E := by omega
    have hEl : E < 2047 := by omega
    have r4 := or_bits m E (by omega) (by omega)
    have h5 := f64from ((E * 4503599627370496 + m : Nat) : Int)
    rw [Int.toNat_natCast] at h5
    have hV0 := Nm.ld_small (k := k) hn E (by rw [hE, hq]) hE1
    rw [← hm] at hV0
    obtain ⟨s, hs1, hs2⟩ := Nm.rep_pow g k (unhide HV)
    have hml := Nm.tiny_mul_d (E * 4503599627370496 + m) s (by omega) hs1 (by rw [hV0, hs2])
    have hr := fun w => run_float_arith (P := Try.prog) w .mul 53 .f64 4368491638549381120 (E * 4503599627370496 + m) s hml
    have Hfin := hide (And.intro hs1 hs2)
    obtain ⟨z, hz9⟩ : ∃ z, z = E * 4503599627370496 + m := ⟨_, rfl⟩
    obtain ⟨y, hy9⟩ : ∃ y, y = E * 4503599627370496 := ⟨_, rfl⟩
    rw [← hz9, ← hy9] at r4
    rw [← hz9] at h5 hr
    have r5 : (E : Int) * 4503599627370496 = (y : Int) := by omega
    have hyl : y < 18446744073709551616 := by omega
    clear hn hlo hhi hq hm hz9 hy9 HI HA HN hV0 hs1 hs2 hml hE1 Hn HV
    rcases hc with rfl | rfl
    · have rE : ((k : Int) + ((q : Int) - 1023) + 53 + 1023) * 4503599627370496 = (y : Int) := by omega
      clear hE r5
      go_wp2
      all_goals first | omega | skip
      go_ret
      exact ⟨⟨s, (unhide Hfin).1, (unhide Hfin).2, rfl⟩, Grown.refl _⟩
    · have rE : ((k : Int) + -52 + ((q : Int) - 1023) + 53 + 1023) * 4503599627370496 = (y : Int) := by omega
      clear hE r5
      go_wp2
      all_goals first | omega | skip
      go_ret
      exact ⟨⟨s, (unhide Hfin).1, (unhide Hfin).2, rfl⟩, Grown.refl _⟩
  · obtain ⟨E, hE⟩ : ∃ E : Nat, (E : Int) = k - c + q := ⟨((k : Int) - c + q).toNat, by omega⟩
    have hE1 : 1 ≤ E := by omega
    have hEl : E < 2047 := by omega
    have r4 := or_bits m E (by omega) (by omega)
    have h5 := f64from ((E * 4503599627370496 + m : Nat) : Int)
    rw [Int.toNat_natCast] at h5
    have hV0 := Nm.ld_normal (k := k) hn E (by rw [hE, hq]) hE1
    rw [← hm] at hV0
    obtain ⟨s, hs⟩ : ∃ s, s = E * 4503599627370496 + m := ⟨_, rfl⟩
    rw [← hs] at h5 hV0 r4
    have hs1 : s < 9218868437227405312 := by omega
    have hml := Nm.one_mul_d s hs1
    have hr := fun w => run_float_arith (P := Try.prog) w .mul 53 .f64 4607182418800017408 s s hml
    have Hfin := hide (And.intro hs1 hV0)
    obtain ⟨y, hy9⟩ : ∃ y, y = E * 4503599627370496 := ⟨_, rfl⟩
    rw [← hy9] at r4
    have r5 : (E : Int) * 4503599627370496 = (y : Int) := by omega
    have hyl : y < 18446744073709551616 := by omega
    clear hn hlo hhi hq hm hs hy9 HI HA HN hV0 hs1 hml hE1 Hn HV
    rcases hc with rfl | rfl
    · have rE : ((k : Int) + ((q : Int) - 1023) + 1023) * 4503599627370496 = (y : Int) := by omega
      clear hE r5
      go_wp2
      all_goals first | omega | skip
      go_ret
      exact ⟨⟨s, (unhide Hfin).1, (unhide Hfin).2, rfl⟩, Grown.refl _⟩
    · have rE : ((k : Int) + -52 + ((q : Int) - 1023) + 1023) * 4503599627370496 = (y : Int) := by omega
      clear hE r5
      go_wp2
      all_goals first | omega | skip
      go_ret
      exact ⟨⟨s, (unhide Hfin).1, (unhide Hfin).2, rfl⟩, Grown.refl _⟩

set_option maxRecDepth 20000 in
theorem Ldexp_any (g k : Nat) (w : World) (h0 : 0 < g) (h1 : g < 9218868437227405312) (hk : k ≤ 5000) (hv : Nm.V Ieee.double g * 2 ^ k < 2 ^ 2098) :
    Calls Try.prog 71 #[.float .f64 g, .int .i64 (k : Int)] w fun e w' => (∃ s, s < 9218868437227405312 ∧ Nm.V Ieee.double s = Nm.V Ieee.double g * 2 ^ k ∧ e = .returned (.float .f64 s)) ∧ Grown w w' := by
  have H := hide (fun w => ldexp_any g k w h0 h1 hk hv)
  clear h0 h1 hk hv
  go_enter Try.func71, Try.ntmps71
  go_wp2_with fail
  refine (unhide H _).mono ?_
  rintro e w1 ⟨⟨s, hs1, hs2, rfl⟩, hg⟩
  have Hs := hide (And.intro hs1 hs2)
  clear hs1 hs2
  go_wp2
  go_ret
  exact ⟨⟨s, (unhide Hs).1, (unhide Hs).2, rfl⟩, hg⟩
end Go.Proofs.Ytjnelkpgdjphmaa
