import Derived.Test.YtjnelkpgdjphmaaPf
namespace Go.Proofs.Ytjnelkpgdjphmaa
open Go.RowKit
set_option linter.unusedVariables false
set_option linter.unusedSimpArgs false

/-- The digits that are kept; of nought none. -/
def kpt (f : Ieee.Format) (m : Nat) (e : Int) (more : Bool) : Nat := if m = 0 then 0 else Nm.kept f m e more
def lw (f : Ieee.Format) (m : Nat) (e : Int) : Int := max (e + (len m : Nat) - (f.fractionBits + 1)) f.leastPlace

theorem lw_low (f : Ieee.Format) (m : Nat) (e : Int) (hm : m ≠ 0) : lw f m e = Nm.low f m e := by
  unfold lw Nm.low len
  rw [if_neg hm]
  omega

/-- By how much is cut off: nothing. -/
theorem way_neg (f : Ieee.Format) (m : Nat) (e : Int) (more : Bool) (d : Nat) (h : lw f m e - e = -(d : Int)) (hf : f.fractionBits ≤ 52) (hm : m < 18446744073709551616) :
    IntKind.u64.wrap ((m : Int) * 2 ^ min d 64) = ((kpt f m e more : Nat) : Int) := by
  unfold kpt
  by_cases h0 : m = 0
  · rw [if_pos h0, h0]
    simp [IntKind.wrap_u64]
  · rw [if_neg h0]
    rw [lw_low f m e h0] at h
    rw [Nm.kept_neg f m e more (by omega)]
    have hd : (e - Nm.low f m e).toNat = d := by omega
    have hle := Nm.kept_le f m e more h0
    rw [Nm.kept_neg f m e more (by omega), hd] at hle
    have h2 : 2 ^ (f.fractionBits + 1) ≤ 2 ^ 53 := Nat.pow_le_pow_right (by omega) (by omega)
    have hd64 : d ≤ 64 := by
      apply Decidable.byContradiction
      intro hc
      have : 2 ^ 64 ≤ 2 ^ d := Nat.pow_le_pow_right (by omega) (by omega)
      have : 1 * 2 ^ d ≤ m * 2 ^ d := Nat.mul_le_mul_right _ (by omega)
      omega
    rw [hd, Nat.min_eq_left hd64, IntKind.wrap_u64]
    have e1 : (m : Int) * 2 ^ d = ((m * 2 ^ d : Nat) : Int) := by rw [Int.natCast_mul, Int.natCast_pow]; rfl
    rw [e1]
    generalize m * 2 ^ d = z at *
    omega

theorem way_pos (f : Ieee.Format) (m : Nat) (e : Int) (more : Bool) (t : Nat) (h : lw f m e - e = (t : Int) + 1) :
    kpt f m e more = m / 2 ^ (t + 1) + if (2 ^ t < m % 2 ^ (t + 1) ∨ (m % 2 ^ (t + 1) = 2 ^ t ∧ (more = true ∨ m / 2 ^ (t + 1) % 2 = 1))) then 1 else 0 := by
  unfold kpt
  by_cases h0 : m = 0
  · subst h0
    have := Nat.two_pow_pos t
    rw [if_pos rfl, Nat.zero_div, Nat.zero_mod, if_neg (by omega)]
  · rw [if_neg h0]
    rw [lw_low f m e h0] at h
    rw [Nm.kept_pos f m e more (t + 1) (by omega), Nm.canon_up m (t + 1) more (by omega), Nat.add_sub_cancel]

theorem way_64 (f : Ieee.Format) (m : Nat) (e : Int) (more : Bool) (h : lw f m e - e = 64) (hm : m < 18446744073709551616) :
    kpt f m e more = if (9223372036854775808 < m ∨ (m = 9223372036854775808 ∧ more = true)) then 1 else 0 := by
  unfold kpt
  by_cases h0 : m = 0
  · subst h0
    rw [if_pos rfl, if_neg (by omega)]
  · rw [if_neg h0]
    rw [lw_low f m e h0] at h
    rw [Nm.kept_pos f m e more 64 (by omega), Nm.canon_64 m more hm]

theorem way_far (f : Ieee.Format) (m : Nat) (e : Int) (more : Bool) (h : 64 < lw f m e - e) (hm : m < 18446744073709551616) : kpt f m e more = 0 := by
  unfold kpt
  by_cases h0 : m = 0
  · rw [if_pos h0]
  · rw [if_neg h0]
    rw [lw_low f m e h0] at h
    rw [Nm.kept_pos f m e more (Nm.low f m e - e).toNat (by omega), Nm.canon_great m _ more hm (by omega)]

theorem kpt_le (f : Ieee.Format) (m : Nat) (e : Int) (more : Bool) : kpt f m e more ≤ 2 ^ (f.fractionBits + 1) := by
  unfold kpt
  split
  · exact Nat.zero_le _
  · rename_i h
    exact Nm.kept_le f m e more h
theorem kpt_ne (f : Ieee.Format) (m : Nat) (e : Int) (more : Bool) (h : kpt f m e more ≠ 0) : m ≠ 0 := by
  intro h0
  unfold kpt at h
  rw [if_pos h0] at h
  exact h rfl

theorem fin_small32 (neg : Bool) (m : Nat) (e : Int) (more : Bool) (q : Nat) (hq : kpt Ieee.single m e more = q) (h : q < 8388608) : Nm.close Ieee.single neg m e more = Ieee.single.word neg q := by
  subst hq
  by_cases h0 : m = 0
  · unfold kpt Nm.close
    rw [if_pos h0, if_pos h0]
  · unfold kpt at h ⊢
    rw [if_neg h0] at h ⊢
    exact Nm.close_small _ neg m e more (by decide) h0 h
theorem fin_inf32 (neg : Bool) (m : Nat) (e : Int) (more : Bool) (q : Nat) (l : Int) (hq : kpt Ieee.single m e more = q) (hl : lw Ieee.single m e = l) (h : 8388608 ≤ q) (hf : 255 ≤ l - (-149) + 1) : Nm.close Ieee.single neg m e more = Ieee.single.word neg 2139095040 := by
  subst hq hl
  have h0 := kpt_ne Ieee.single m e more (by omega)
  have hl0 : (-149 : Int) ≤ lw Ieee.single m e := by unfold lw; rw [Nm.s_least]; omega
  have := Nm.close_great Ieee.single neg m e more (lw Ieee.single m e) (kpt Ieee.single m e more) h0 (by rw [Nm.s_least]; exact hl0) h (.inl ⟨lw_low _ m e h0, by unfold kpt; rw [if_neg h0]⟩) (by rw [Nm.s_least]; exact hf)
  rw [this, Nm.s_inf]
theorem fin_inf32' (neg : Bool) (m : Nat) (e : Int) (more : Bool) (l : Int) (hq : kpt Ieee.single m e more = 16777216) (hl : lw Ieee.single m e = l) (hf : 255 ≤ l + 1 - (-149) + 1) : Nm.close Ieee.single neg m e more = Ieee.single.word neg 2139095040 := by
  subst hl
  have h0 := kpt_ne Ieee.single m e more (by omega)
  have hl0 : (-149 : Int) ≤ lw Ieee.single m e := by unfold lw; rw [Nm.s_least]; omega
  have := Nm.close_great Ieee.single neg m e more (lw Ieee.single m e + 1) 8388608 h0 (by rw [Nm.s_least]; omega) (Nat.le_refl _) (.inr ⟨by rw [lw_low _ m e h0], by unfold kpt at hq; rw [if_neg h0] at hq; rw [hq], rfl⟩) (by rw [Nm.s_least]; exact hf)
  rw [this, Nm.s_inf]
theorem mid_sum32_false (l2 : Int) (F q2 : Nat) (hF : (l2 - (-149)).toNat + 1 = F) (hFl : F < 255) (h1 : 8388608 ≤ q2) (h2 : q2 < 16777216) :
    IntKind.u64.wrap (IntKind.u64.wrap (IntKind.u64.wrap (IntKind.u64.wrap (IntKind.u64.wrap (F : Int) * 8388608)) + (q2 : Int)) - 8388608) = ((Ieee.single.word false ((l2 - (-149)).toNat * 8388608 + q2) : Nat) : Int) := by
  have hz : (l2 - (-149)).toNat = F - 1 := by omega
  have h0 : 1 ≤ F := by omega
  rw [hz]
  clear hF hz
  unfold Ieee.Format.word
  rw [Nm.s_sign]
  simp only [IntKind.wrap_u64, Bool.false_eq_true, if_false, if_true]
  have e1 : (F : Int) % 18446744073709551616 = F := by omega
  rw [e1]
  have e2 : (F : Int) * 8388608 % 18446744073709551616 = F * 8388608 := by omega
  rw [e2]
  omega
theorem mid_sum32_true (l2 : Int) (F q2 : Nat) (hF : (l2 - (-149)).toNat + 1 = F) (hFl : F < 255) (h1 : 8388608 ≤ q2) (h2 : q2 < 16777216) :
    IntKind.u64.wrap (IntKind.u64.wrap (IntKind.u64.wrap (2147483648 + IntKind.u64.wrap (IntKind.u64.wrap (F : Int) * 8388608)) + (q2 : Int)) - 8388608) = ((Ieee.single.word true ((l2 - (-149)).toNat * 8388608 + q2) : Nat) : Int) := by
  have hz : (l2 - (-149)).toNat = F - 1 := by omega
  have h0 : 1 ≤ F := by omega
  rw [hz]
  clear hF hz
  unfold Ieee.Format.word
  rw [Nm.s_sign]
  simp only [IntKind.wrap_u64, Bool.false_eq_true, if_false, if_true]
  have e1 : (F : Int) % 18446744073709551616 = F := by omega
  rw [e1]
  have e2 : (F : Int) * 8388608 % 18446744073709551616 = F * 8388608 := by omega
  rw [e2]
  omega
theorem fin_mid32 (neg : Bool) (m : Nat) (e : Int) (more : Bool) (q : Nat) (l : Int) (hq : kpt Ieee.single m e more = q) (hl : lw Ieee.single m e = l) (h : 8388608 ≤ q) (h2 : q < 16777216) (hf : l - (-149) + 1 < 255) : Nm.close Ieee.single neg m e more = Ieee.single.word neg ((l - (-149)).toNat * 8388608 + q) := by
  subst hq hl
  have h0 := kpt_ne Ieee.single m e more (by omega)
  have hl0 : (-149 : Int) ≤ lw Ieee.single m e := by unfold lw; rw [Nm.s_least]; omega
  have := Nm.close_mid Ieee.single neg m e more (lw Ieee.single m e) (kpt Ieee.single m e more) h0 (by rw [Nm.s_least]; exact hl0) h h2 (.inl ⟨lw_low _ m e h0, by unfold kpt; rw [if_neg h0]⟩) (by rw [Nm.s_least]; exact hf)
  rw [this, Nm.s_least]
  rfl
theorem fin_mid32' (neg : Bool) (m : Nat) (e : Int) (more : Bool) (l : Int) (hq : kpt Ieee.single m e more = 16777216) (hl : lw Ieee.single m e = l) (hf : l + 1 - (-149) + 1 < 255) : Nm.close Ieee.single neg m e more = Ieee.single.word neg ((l + 1 - (-149)).toNat * 8388608 + 8388608) := by
  subst hl
  have h0 := kpt_ne Ieee.single m e more (by omega)
  have hl0 : (-149 : Int) ≤ lw Ieee.single m e := by unfold lw; rw [Nm.s_least]; omega
  have := Nm.close_mid Ieee.single neg m e more (lw Ieee.single m e + 1) 8388608 h0 (by rw [Nm.s_least]; omega) (Nat.le_refl _) (by decide) (.inr ⟨by rw [lw_low _ m e h0], by unfold kpt at hq; rw [if_neg h0] at hq; rw [hq], rfl⟩) (by rw [Nm.s_least]; exact hf)
  rw [this, Nm.s_least]
  rfl

theorem fin_small64 (neg : Bool) (m : Nat) (e : Int) (more : Bool) (q : Nat) (hq : kpt Ieee.double m e more = q) (h : q < 4503599627370496) : Nm.close Ieee.double neg m e more = Ieee.double.word neg q := by
  subst hq
  by_cases h0 : m = 0
  · unfold kpt Nm.close
    rw [if_pos h0, if_pos h0]
  · unfold kpt at h ⊢
    rw [if_neg h0] at h ⊢
    exact Nm.close_small _ neg m e more (by decide) h0 h
theorem fin_inf64 (neg : Bool) (m : Nat) (e : Int) (more : Bool) (q : Nat) (l : Int) (hq : kpt Ieee.double m e more = q) (hl : lw Ieee.double m e = l) (h : 4503599627370496 ≤ q) (hf : 2047 ≤ l - (-1074) + 1) : Nm.close Ieee.double neg m e more = Ieee.double.word neg 9218868437227405312 := by
  subst hq hl
  have h0 := kpt_ne Ieee.double m e more (by omega)
  have hl0 : (-1074 : Int) ≤ lw Ieee.double m e := by unfold lw; rw [Nm.d_least]; omega
  have := Nm.close_great Ieee.double neg m e more (lw Ieee.double m e) (kpt Ieee.double m e more) h0 (by rw [Nm.d_least]; exact hl0) h (.inl ⟨lw_low _ m e h0, by unfold kpt; rw [if_neg h0]⟩) (by rw [Nm.d_least]; exact hf)
  rw [this, Nm.d_inf]
theorem fin_inf64' (neg : Bool) (m : Nat) (e : Int) (more : Bool) (l : Int) (hq : kpt Ieee.double m e more = 9007199254740992) (hl : lw Ieee.double m e = l) (hf : 2047 ≤ l + 1 - (-1074) + 1) : Nm.close Ieee.double neg m e more = Ieee.double.word neg 9218868437227405312 := by
  subst hl
  have h0 := kpt_ne Ieee.double m e more (by omega)
  have hl0 : (-1074 : Int) ≤ lw Ieee.double m e := by unfold lw; rw [Nm.d_least]; omega
  have := Nm.close_great Ieee.double neg m e more (lw Ieee.double m e + 1) 4503599627370496 h0 (by rw [Nm.d_least]; omega) (Nat.le_refl _) (.inr ⟨by rw [lw_low _ m e h0], by unfold kpt at hq; rw [if_neg h0] at hq; rw [hq], rfl⟩) (by rw [Nm.d_least]; exact hf)
  rw [this, Nm.d_inf]
theorem mid_sum64_false (l2 : Int) (F q2 : Nat) (hF : (l2 - (-1074)).toNat + 1 = F) (hFl : F < 2047) (h1 : 4503599627370496 ≤ q2) (h2 : q2 < 9007199254740992) :
    IntKind.u64.wrap (IntKind.u64.wrap (IntKind.u64.wrap (IntKind.u64.wrap (IntKind.u64.wrap (F : Int) * 4503599627370496)) + (q2 : Int)) - 4503599627370496) = ((Ieee.double.word false ((l2 - (-1074)).toNat * 4503599627370496 + q2) : Nat) : Int) := by
  have hz : (l2 - (-1074)).toNat = F - 1 := by omega
  have h0 : 1 ≤ F := by omega
  rw [hz]
  clear hF hz
  unfold Ieee.Format.word
  rw [Nm.d_sign]
  simp only [IntKind.wrap_u64, Bool.false_eq_true, if_false, if_true]
  have e1 : (F : Int) % 18446744073709551616 = F := by omega
  rw [e1]
  have e2 : (F : Int) * 4503599627370496 % 18446744073709551616 = F * 4503599627370496 := by omega
  rw [e2]
  omega
theorem mid_sum64_true (l2 : Int) (F q2 : Nat) (hF : (l2 - (-1074)).toNat + 1 = F) (hFl : F < 2047) (h1 : 4503599627370496 ≤ q2) (h2 : q2 < 9007199254740992) :
    IntKind.u64.wrap (IntKind.u64.wrap (IntKind.u64.wrap (9223372036854775808 + IntKind.u64.wrap (IntKind.u64.wrap (F : Int) * 4503599627370496)) + (q2 : Int)) - 4503599627370496) = ((Ieee.double.word true ((l2 - (-1074)).toNat * 4503599627370496 + q2) : Nat) : Int) := by
  have hz : (l2 - (-1074)).toNat = F - 1 := by omega
  have h0 : 1 ≤ F := by omega
  rw [hz]
  clear hF hz
  unfold Ieee.Format.word
  rw [Nm.d_sign]
  simp only [IntKind.wrap_u64, Bool.false_eq_true, if_false, if_true]
  have e1 : (F : Int) % 18446744073709551616 = F := by omega
  rw [e1]
  have e2 : (F : Int) * 4503599627370496 % 18446744073709551616 = F * 4503599627370496 := by omega
  rw [e2]
  omega
theorem fin_mid64 (neg : Bool) (m : Nat) (e : Int) (more : Bool) (q : Nat) (l : Int) (hq : kpt Ieee.double m e more = q) (hl : lw Ieee.double m e = l) (h : 4503599627370496 ≤ q) (h2 : q < 9007199254740992) (hf : l - (-1074) + 1 < 2047) : Nm.close Ieee.double neg m e more = Ieee.double.word neg ((l - (-1074)).toNat * 4503599627370496 + q) := by
  subst hq hl
  have h0 := kpt_ne Ieee.double m e more (by omega)
  have hl0 : (-1074 : Int) ≤ lw Ieee.double m e := by unfold lw; rw [Nm.d_least]; omega
  have := Nm.close_mid Ieee.double neg m e more (lw Ieee.double m e) (kpt Ieee.double m e more) h0 (by rw [Nm.d_least]; exact hl0) h h2 (.inl ⟨lw_low _ m e h0, by unfold kpt; rw [if_neg h0]⟩) (by rw [Nm.d_least]; exact hf)
  rw [this, Nm.d_least]
  rfl
theorem fin_mid64' (neg : Bool) (m : Nat) (e : Int) (more : Bool) (l : Int) (hq : kpt Ieee.double m e more = 9007199254740992) (hl : lw Ieee.double m e = l) (hf : l + 1 - (-1074) + 1 < 2047) : Nm.close Ieee.double neg m e more = Ieee.double.word neg ((l + 1 - (-1074)).toNat * 4503599627370496 + 4503599627370496) := by
  subst hl
  have h0 := kpt_ne Ieee.double m e more (by omega)
  have hl0 : (-1074 : Int) ≤ lw Ieee.double m e := by unfold lw; rw [Nm.d_least]; omega
  have := Nm.close_mid Ieee.double neg m e more (lw Ieee.double m e + 1) 4503599627370496 h0 (by rw [Nm.d_least]; omega) (Nat.le_refl _) (by decide) (.inr ⟨by rw [lw_low _ m e h0], by unfold kpt at hq; rw [if_neg h0] at hq; rw [hq], rfl⟩) (by rw [Nm.d_least]; exact hf)
  rw [this, Nm.d_least]
  rfl
end Go.Proofs.Ytjnelkpgdjphmaa
