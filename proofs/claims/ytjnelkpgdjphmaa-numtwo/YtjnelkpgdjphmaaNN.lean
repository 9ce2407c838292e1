
import Ieee.Arith
namespace Go.Proofs.Ytjnelkpgdjphmaa.Nm
open Ieee

/-- m by 2 to the s, to the nearest; more: there is a little above it. -/
def canon (m s : Nat) (more : Bool) : Nat :=
  m / 2 ^ s + (decide (2 ^ s < 2 * (m % 2 ^ s)) || (decide (2 ^ s = 2 * (m % 2 ^ s)) && (more || m / 2 ^ s % 2 == 1))).toNat

theorem canon_zero (m : Nat) (more : Bool) : canon m 0 more = m := by
  simp [canon, Nat.mod_one]

theorem canon_mul (m d : Nat) : canon (m * 2 ^ d) d false = m := by
  have h : 0 < 2 ^ d := Nat.two_pow_pos d
  simp [canon, Nat.mul_mod_left, Nat.mul_div_cancel _ h]

theorem even_cut (neg : Bool) (n drop : Nat) : Toward.even.cut neg n drop = canon n drop false := by
  unfold Toward.cut canon
  simp only [Nat.one_shiftLeft, Bool.false_or]
  by_cases hn : n = 0
  · subst hn
    simp
  by_cases h : drop ≤ n.log2 + 2
  · rw [Nat.min_eq_left h]
    congr 2
  · have h' : n.log2 + 2 ≤ drop := by omega
    rw [Nat.min_eq_right h']
    have lt1 : n < 2 ^ (n.log2 + 1) := Nat.lt_log2_self
    have e2 : 2 ^ (n.log2 + 2) = 2 * 2 ^ (n.log2 + 1) := by rw [Nat.pow_succ]; omega
    have le : 2 ^ (n.log2 + 2) ≤ 2 ^ drop := Nat.pow_le_pow_right (by omega) h'
    have lt2 : n < 2 ^ (n.log2 + 2) := by omega
    have lt3 : n < 2 ^ drop := by omega
    rw [Nat.div_eq_of_lt lt2, Nat.mod_eq_of_lt lt2, Nat.div_eq_of_lt lt3, Nat.mod_eq_of_lt lt3]
    have f1 : ¬ 2 ^ (n.log2 + 2) < 2 * n := by omega
    have f2 : ¬ 2 ^ (n.log2 + 2) = 2 * n := by omega
    have f3 : ¬ 2 ^ drop < 2 * n := by omega
    have f4 : ¬ 2 ^ drop = 2 * n := by omega
    simp [f1, f3, f4]

/-- Digits that are cut off leave a mark. -/
theorem canon_shift (m d r s : Nat) (more : Bool) (hs : 1 ≤ s) (hr : r < 2 ^ d) :
    canon (m * 2 ^ d + r) (s + d) more = canon m s (decide (r ≠ 0) || more) := by
  have pd : 0 < 2 ^ d := Nat.two_pow_pos d
  obtain ⟨t, rfl⟩ : ∃ t, s = t + 1 := ⟨s - 1, by omega⟩
  have e1 : 2 ^ (t + 1 + d) = 2 ^ d * 2 ^ (t + 1) := by rw [Nat.pow_add, Nat.mul_comm]
  have q : (m * 2 ^ d + r) / 2 ^ (t + 1 + d) = m / 2 ^ (t + 1) := by
    rw [e1, ← Nat.div_div_eq_div_mul, Nat.mul_comm m, Nat.mul_add_div pd, Nat.div_eq_of_lt hr, Nat.add_zero]
  have mo : (m * 2 ^ d + r) % 2 ^ (t + 1 + d) = 2 ^ d * (m % 2 ^ (t + 1)) + r := by
    rw [e1, Nat.mod_mul, Nat.mul_comm m, Nat.mul_add_mod, Nat.mod_eq_of_lt hr, Nat.mul_add_div pd, Nat.div_eq_of_lt hr, Nat.add_zero, Nat.add_comm]
  unfold canon
  rw [q, mo]
  congr 2
  generalize hx : m % 2 ^ (t + 1) = x
  generalize (m / 2 ^ (t + 1) % 2 == 1) = odd
  have e2 : 2 ^ (t + 1 + d) = 2 ^ d * (2 * 2 ^ t) := by rw [e1, Nat.pow_succ]; congr 1; omega
  have e3 : 2 ^ (t + 1) = 2 * 2 ^ t := by rw [Nat.pow_succ]; omega
  rw [e2, e3]
  generalize 2 ^ t = h
  generalize 2 ^ d = D at *
  have key : ∀ a b : Nat, a < b → D * a + D ≤ D * b := by
    intro a b hab
    calc D * a + D = D * (a + 1) := by rw [Nat.mul_succ]
      _ ≤ D * b := Nat.mul_le_mul_left D hab
  have em : D * (2 * h) = 2 * (D * h) := by rw [Nat.mul_left_comm]
  rw [em]
  rcases Nat.lt_trichotomy x h with lt | eq | gt
  · have k := key x h lt
    have f1 : ¬ 2 * (D * h) < 2 * (D * x + r) := by omega
    have f2 : ¬ 2 * (D * h) = 2 * (D * x + r) := by omega
    have f3 : ¬ 2 * h < 2 * x := by omega
    have f4 : ¬ 2 * h = 2 * x := by omega
    simp only [f1, f2, f3, f4, decide_false, Bool.false_and, Bool.or_false]
  · subst eq
    by_cases r0 : r = 0
    · subst r0
      simp
    · have f1 : 2 * (D * x) < 2 * (D * x + r) := by omega
      have f3 : ¬ 2 * x < 2 * x := by omega
      simp [f1, f3, r0]
  · have k := key h x gt
    have f1 : 2 * (D * h) < 2 * (D * x + r) := by omega
    have f3 : 2 * h < 2 * x := by omega
    simp only [f1, f3, decide_true, Bool.true_or]

/-- The place of the last digit that is kept. -/
def low (f : Format) (m : Nat) (e : Int) : Int := max (e + m.log2 - f.fractionBits) f.leastPlace

/-- The nearest of m times 2 to the e (and a little, if more). -/
def close (f : Format) (neg : Bool) (m : Nat) (e : Int) (more : Bool) : Nat :=
  if m = 0 then f.word neg 0 else
  f.word neg (min ((low f m e - f.leastPlace).toNat * f.binade +
    canon (m * 2 ^ (e - low f m e).toNat) (low f m e - e).toNat more) f.infRung)

theorem near_close (f : Format) (neg : Bool) (m : Nat) (e : Int) : f.nearest neg m e = close f neg m e false := by
  unfold Format.nearest close
  split
  · rfl
  · simp only [even_cut, Nat.shiftLeft_eq]
    rfl

theorem log2_shift (m d r : Nat) (hm : m ≠ 0) (hr : r < 2 ^ d) : (m * 2 ^ d + r).log2 = m.log2 + d := by
  have pd : 0 < 2 ^ d := Nat.two_pow_pos d
  have h0 : m * 2 ^ d + r ≠ 0 := by
    have := Nat.mul_pos (Nat.pos_of_ne_zero hm) pd
    omega
  rw [Nat.log2_eq_iff h0]
  have a1 : 2 ^ m.log2 ≤ m := Nat.log2_self_le hm
  have a2 : m < 2 ^ (m.log2 + 1) := Nat.lt_log2_self
  constructor
  · rw [Nat.pow_add]
    have := Nat.mul_le_mul_right (2 ^ d) a1
    omega
  · have : (m + 1) * 2 ^ d ≤ 2 ^ (m.log2 + 1) * 2 ^ d := Nat.mul_le_mul_right _ a2
    rw [show m.log2 + d + 1 = m.log2 + 1 + d by omega, Nat.pow_add 2 (m.log2 + 1) d]
    rw [Nat.succ_mul] at this
    omega

theorem close_shift (f : Format) (neg : Bool) (m d r : Nat) (e : Int) (more : Bool) (hr : r < 2 ^ d)
    (h0 : m = 0 → r = 0) (hm : (decide (r ≠ 0) || more) = true → e < low f m e) :
    close f neg (m * 2 ^ d + r) (e - d) more = close f neg m e (decide (r ≠ 0) || more) := by
  by_cases hz : m = 0
  · have := h0 hz
    subst hz this
    simp [close]
  have pd : 0 < 2 ^ d := Nat.two_pow_pos d
  have hz' : m * 2 ^ d + r ≠ 0 := by
    have := Nat.mul_pos (Nat.pos_of_ne_zero hz) pd
    omega
  have el : low f (m * 2 ^ d + r) (e - d) = low f m e := by
    unfold low
    rw [log2_shift m d r hz hr]
    congr 1
    omega
  unfold close
  rw [if_neg hz, if_neg hz', el]
  congr 3
  generalize hl : low f m e = l at *
  by_cases hle : e < l
  · have x1 : (e - d - l).toNat = 0 := by omega
    have x2 : (e - l).toNat = 0 := by omega
    have x3 : (l - (e - d)).toNat = (l - e).toNat + d := by omega
    rw [x1, x2, x3, Nat.pow_zero, Nat.mul_one, Nat.mul_one]
    exact canon_shift m d r _ more (by omega) hr
  · have hb : (decide (r ≠ 0) || more) = false := by
      cases hx : (decide (r ≠ 0) || more) with
      | false => rfl
      | true => exact absurd (hm hx) hle
    rw [hb]
    have hr0 : r = 0 := by simpa using (Bool.or_eq_false_iff.1 hb).1
    have hmo : more = false := (Bool.or_eq_false_iff.1 hb).2
    subst hr0 hmo
    have x4 : (l - e).toNat = 0 := by omega
    rw [x4, canon_zero, Nat.add_zero]
    by_cases hd : l ≤ e - d
    · have x5 : (l - (e - d)).toNat = 0 := by omega
      rw [x5, canon_zero, Nat.mul_assoc, ← Nat.pow_add]
      congr 2
      omega
    · have x6 : (e - d - l).toNat = 0 := by omega
      rw [x6, Nat.pow_zero, Nat.mul_one]
      have x7 : d = (e - l).toNat + (l - (e - d)).toNat := by omega
      rw [x7, Nat.pow_add, ← Nat.mul_assoc, ← x7]
      exact canon_mul _ _

end Go.Proofs.Ytjnelkpgdjphmaa.Nm

namespace Go.Proofs.Ytjnelkpgdjphmaa.Nm
open Ieee

theorem signed_eq (s : Bool) (m u : Nat) : signed s m u = if s then -((m * 2 ^ u : Nat) : Int) else ((m * 2 ^ u : Nat) : Int) := by
  unfold signed
  rw [Nat.shiftLeft_eq]

theorem sum_comm (s t : Bool) (m n : Nat) (i j : Int) :
    Datum.sum (.number s m i) (.number t n j) = Datum.sum (.number t n j) (.number s m i) := by
  simp only [Datum.sum]
  rw [Int.min_comm i j, Int.add_comm, Bool.and_comm]

theorem sum_base (s t : Bool) (A B : Nat) (i j : Int) (h : j ≤ i) :
    Datum.sum (.number s A i) (.number t B j) =
      some (.number (if (signed s A (i - j).toNat + signed t B 0) = 0 then s && t else decide (signed s A (i - j).toNat + signed t B 0 < 0))
        (signed s A (i - j).toNat + signed t B 0).natAbs j) := by
  simp only [Datum.sum]
  rw [Int.min_eq_right h, Int.sub_self]
  rfl

theorem sum_same (s : Bool) (A B : Nat) (i j : Int) (h : j ≤ i) :
    Datum.sum (.number s A i) (.number s B j) = some (.number s (A * 2 ^ (i - j).toNat + B) j) := by
  rw [sum_base s s A B i j h]
  simp only [signed_eq, Nat.pow_zero, Nat.mul_one, Bool.and_self]
  generalize A * 2 ^ (i - j).toNat = X
  cases s
  · simp only [Bool.false_eq_true, if_false]
    have e1 : ((X : Int) + (B : Int)).natAbs = X + B := by omega
    have e2 : ¬ ((X : Int) + (B : Int)) < 0 := by omega
    rw [e1]
    simp [e2]
  · simp only [if_true]
    have e1 : (-(X : Int) + -(B : Int)).natAbs = X + B := by omega
    rw [e1]
    by_cases h0 : (-(X : Int) + -(B : Int)) = 0
    · simp [h0]
    · have e2 : (-(X : Int) + -(B : Int)) < 0 := by omega
      simp [e2]

theorem sum_gt (s t : Bool) (A B : Nat) (i j : Int) (h : j ≤ i) (hs : s ≠ t) (hg : B < A * 2 ^ (i - j).toNat) :
    Datum.sum (.number s A i) (.number t B j) = some (.number s (A * 2 ^ (i - j).toNat - B) j) := by
  rw [sum_base s t A B i j h]
  simp only [signed_eq, Nat.pow_zero, Nat.mul_one]
  generalize A * 2 ^ (i - j).toNat = X at *
  cases s <;> cases t <;> simp only [ne_eq, not_true_eq_false, not_false_eq_true, Bool.true_eq_false, Bool.false_eq_true] at hs
  · have e1 : ((X : Int) + -(B : Int)).natAbs = X - B := by omega
    have e2 : ¬ ((X : Int) + -(B : Int)) < 0 := by omega
    have e3 : ¬ ((X : Int) + -(B : Int)) = 0 := by omega
    simp [e1, e2, e3]
  · have e1 : (-(X : Int) + (B : Int)).natAbs = X - B := by omega
    have e2 : (-(X : Int) + (B : Int)) < 0 := by omega
    have e3 : ¬ (-(X : Int) + (B : Int)) = 0 := by omega
    simp [e1, e2, e3]

theorem sum_lt (s t : Bool) (A B : Nat) (i j : Int) (h : j ≤ i) (hs : s ≠ t) (hg : A * 2 ^ (i - j).toNat < B) :
    Datum.sum (.number s A i) (.number t B j) = some (.number t (B - A * 2 ^ (i - j).toNat) j) := by
  rw [sum_base s t A B i j h]
  simp only [signed_eq, Nat.pow_zero, Nat.mul_one]
  generalize A * 2 ^ (i - j).toNat = X at *
  cases s <;> cases t <;> simp only [ne_eq, not_true_eq_false, not_false_eq_true, Bool.true_eq_false, Bool.false_eq_true] at hs
  · have e1 : ((X : Int) + -(B : Int)).natAbs = B - X := by omega
    have e2 : ((X : Int) + -(B : Int)) < 0 := by omega
    have e3 : ¬ ((X : Int) + -(B : Int)) = 0 := by omega
    simp [e1, e2, e3]
  · have e1 : (-(X : Int) + (B : Int)).natAbs = B - X := by omega
    have e2 : ¬ (-(X : Int) + (B : Int)) < 0 := by omega
    have e3 : ¬ (-(X : Int) + (B : Int)) = 0 := by omega
    simp [e1, e2, e3]

theorem sum_eq (s t : Bool) (A B : Nat) (i j : Int) (h : j ≤ i) (hs : s ≠ t) (hg : A * 2 ^ (i - j).toNat = B) :
    Datum.sum (.number s A i) (.number t B j) = some (.number false 0 j) := by
  rw [sum_base s t A B i j h]
  simp only [signed_eq, Nat.pow_zero, Nat.mul_one]
  generalize A * 2 ^ (i - j).toNat = X at *
  subst hg
  cases s <;> cases t <;> simp only [ne_eq, not_true_eq_false, not_false_eq_true, Bool.true_eq_false, Bool.false_eq_true] at hs
  · have e3 : ((X : Int) + -(X : Int)) = 0 := by omega
    simp [e3]
  · have e3 : (-(X : Int) + (X : Int)) = 0 := by omega
    simp [e3]

theorem write_number (f : Format) (s : Bool) (m : Nat) (e : Int) : f.write (.number s m e) = close f s m e false := near_close f s m e

/-- Scaled by a power of two. -/
theorem close_scale (f : Format) (neg : Bool) (m d : Nat) (e : Int) : close f neg (m * 2 ^ d) (e - d) false = close f neg m e false := by
  have := close_shift f neg m d 0 e false (Nat.two_pow_pos d) (fun _ => rfl) (by simp)
  simpa using this

theorem close_scale' (f : Format) (neg : Bool) (m M d : Nat) (e E : Int) (hM : M = m * 2 ^ d) (hE : E = e - d) :
    close f neg M E false = close f neg m e false := by
  subst hM hE
  exact close_scale f neg m d e

theorem low_gt (f : Format) (m : Nat) (e : Int) (h : 2 ^ (f.fractionBits + 1) ≤ m) : e < low f m e := by
  have h0 : m ≠ 0 := by
    have := Nat.two_pow_pos (f.fractionBits + 1)
    omega
  have := (Nat.le_log2 h0).2 h
  unfold low
  omega

/-- The rest leaves a mark. -/
theorem close_rest (f : Format) (neg : Bool) (m d r M : Nat) (e E : Int) (more : Bool) (hM : M = m * 2 ^ d + r) (hE : E = e - d) (hr : r < 2 ^ d)
    (hmo : more = decide (r ≠ 0)) (hm : 2 ^ (f.fractionBits + 1) ≤ m) : close f neg m e more = close f neg M E false := by
  subst hM hE hmo
  have h0 : m = 0 → r = 0 := by
    intro h
    have := Nat.two_pow_pos (f.fractionBits + 1)
    omega
  have := close_shift f neg m d r e false hr h0 (fun _ => low_gt f m e hm)
  rw [this, Bool.or_false]

/-- A quotient to so many digits, and a mark. -/
theorem close_div (f : Format) (neg : Bool) (X B d : Nat) (e : Int) (hB : 0 < B) (hm : 2 ^ (f.fractionBits + 1) ≤ X / B) :
    close f neg (X * 2 ^ d / B) (e - d) (decide (X * 2 ^ d % B ≠ 0)) = close f neg (X / B) e (decide (X % B ≠ 0)) := by
  have pd : 0 < 2 ^ d := Nat.two_pow_pos d
  have hX : X * 2 ^ d = B * (X / B * 2 ^ d) + X % B * 2 ^ d := by
    have h1 := Nat.div_add_mod X B
    have h2 : X * 2 ^ d = (B * (X / B) + X % B) * 2 ^ d := by rw [h1]
    rw [h2, Nat.add_mul, Nat.mul_assoc]
  have hq : X * 2 ^ d / B = X / B * 2 ^ d + X % B * 2 ^ d / B := by
    rw [hX, Nat.mul_add_div hB]
  have hr : X * 2 ^ d % B = X % B * 2 ^ d % B := by
    rw [hX, Nat.mul_add_mod]
  have hlt : X % B * 2 ^ d / B < 2 ^ d := by
    rw [Nat.div_lt_iff_lt_mul hB, Nat.mul_comm (2 ^ d) B]
    exact Nat.mul_lt_mul_of_pos_right (Nat.mod_lt _ hB) pd
  have h0 : X / B = 0 → X % B * 2 ^ d / B = 0 := by
    intro h
    have := Nat.two_pow_pos (f.fractionBits + 1)
    omega
  have := close_shift f neg (X / B) d (X % B * 2 ^ d / B) e (decide (X % B * 2 ^ d % B ≠ 0)) hlt h0 (fun _ => low_gt f _ e hm)
  rw [hq, hr, this]
  congr 1
  have hd := Nat.div_add_mod (X % B * 2 ^ d) B
  by_cases hz : X % B = 0
  · simp [hz]
  · have hp : 0 < X % B * 2 ^ d := Nat.mul_pos (by omega) pd
    by_cases h1 : X % B * 2 ^ d / B = 0
    · rw [h1, Nat.mul_zero, Nat.zero_add] at hd
      have h2 : X % B * 2 ^ d % B ≠ 0 := by omega
      rw [decide_eq_true hz, decide_eq_true h2, Bool.or_true]
    · rw [decide_eq_true hz, decide_eq_true h1, Bool.true_or]

theorem close_div2 (f : Format) (neg : Bool) (A B s t : Nat) (e : Int) (hB : 0 < B) (h1 : 2 ^ (f.fractionBits + 1) ≤ A * 2 ^ s / B) (h2 : 2 ^ (f.fractionBits + 1) ≤ A * 2 ^ t / B) :
    close f neg (A * 2 ^ s / B) (e - s) (decide (A * 2 ^ s % B ≠ 0)) = close f neg (A * 2 ^ t / B) (e - t) (decide (A * 2 ^ t % B ≠ 0)) := by
  rcases Nat.le_total s t with h | h
  · obtain ⟨d, rfl⟩ := Nat.le.dest h
    have := close_div f neg (A * 2 ^ s) B d (e - s) hB h1
    rw [Nat.mul_assoc, ← Nat.pow_add] at this
    rw [← this]
    congr 1
    omega
  · obtain ⟨d, rfl⟩ := Nat.le.dest h
    have := close_div f neg (A * 2 ^ t) B d (e - t) hB h2
    rw [Nat.mul_assoc, ← Nat.pow_add] at this
    rw [← this]
    congr 1
    omega

/-- What IEEE's quotient is, by the digits of another. -/
theorem quotient_eq (f : Format) (s u : Bool) (A B t : Nat) (i j : Int) (hA : 0 < A) (hB : 0 < B) (ht : 2 ^ (f.fractionBits + 1) ≤ A * 2 ^ t / B) :
    ((Datum.number s A i).quotient (f.fractionBits + 2) (.number u B j)).map f.write =
      some (close f (s ^^ u) (A * 2 ^ t / B) (i - j - t) (decide (A * 2 ^ t % B ≠ 0))) := by
  have hB0 : ¬ B = 0 := by omega
  simp only [Datum.quotient, if_neg hB0, Option.map_some, Nat.shiftLeft_eq]
  generalize hmore : f.fractionBits + 2 + B.log2 - A.log2 = more
  have big : 2 ^ (f.fractionBits + 1) ≤ A * 2 ^ more / B := by
    rw [Nat.le_div_iff_mul_le hB]
    have a1 : 2 ^ A.log2 ≤ A := Nat.log2_self_le (by omega)
    have b1 : B < 2 ^ (B.log2 + 1) := Nat.lt_log2_self
    have x1 : 2 ^ (f.fractionBits + 1) * B ≤ 2 ^ (f.fractionBits + 1) * 2 ^ (B.log2 + 1) := Nat.mul_le_mul_left _ (by omega)
    have x2 : 2 ^ A.log2 * 2 ^ more ≤ A * 2 ^ more := Nat.mul_le_mul_right _ a1
    rw [← Nat.pow_add] at x1 x2
    have x3 : 2 ^ (f.fractionBits + 1 + (B.log2 + 1)) ≤ 2 ^ (A.log2 + more) := Nat.pow_le_pow_right (by omega) (by omega)
    omega
  rw [write_number]
  congr 1
  have c := close_rest f (s ^^ u) (A * 2 ^ more / B) 1 ((A * 2 ^ more % B != 0).toNat) (2 * (A * 2 ^ more / B) + (A * 2 ^ more % B != 0).toNat)
    (i - j - more) (i - j - more - 1) (decide (A * 2 ^ more % B ≠ 0)) (by omega) (by omega)
    (by cases (A * 2 ^ more % B != 0) <;> simp) (by by_cases h : A * 2 ^ more % B = 0 <;> simp [h]) big
  rw [← c]
  exact close_div2 f _ A B more t (i - j) hB big ht

end Go.Proofs.Ytjnelkpgdjphmaa.Nm

namespace Go.Proofs.Ytjnelkpgdjphmaa.Nm
open Ieee

theorem compare_congr {a b c d : Int} (h1 : a < b ↔ c < d) (h2 : a = b ↔ c = d) : compare a b = compare c d := by
  simp only [compare, compareOfLessAndEq, h1, h2]

def mag (f : Format) (g : Nat) : Nat := if g < f.binade then g else f.binade + g % f.binade
def up (f : Format) (g : Nat) : Nat := if g < f.binade then 0 else g / f.binade - 1
/-- What a rung stands for, in units of the least there is. -/
def V (f : Format) (g : Nat) : Nat := mag f g * 2 ^ up f g

theorem binade_pos (f : Format) : 0 < f.binade := Nat.two_pow_pos _

theorem mag_lt (f : Format) (g : Nat) : mag f g < 2 ^ (f.fractionBits + 1) := by
  have hp := binade_pos f
  have e : 2 ^ (f.fractionBits + 1) = 2 * f.binade := by rw [Nat.pow_succ, Nat.mul_comm]; rfl
  rw [e]
  unfold mag
  split
  · omega
  · have := Nat.mod_lt g hp
    omega

theorem read_fin (f : Format) (w : Nat) (h : w % f.signWeight < f.infRung) :
    f.read w = .number (w / f.signWeight % 2 == 1) (mag f (w % f.signWeight)) (f.leastPlace + (up f (w % f.signWeight) : Nat)) := by
  unfold Format.read mag up
  dsimp only
  split
  · simp
  · rfl

theorem read_inf (f : Format) (w : Nat) (h : w % f.signWeight = f.infRung) (hb : f.binade ≤ f.infRung) :
    f.read w = .infinity (w / f.signWeight % 2 == 1) := by
  unfold Format.read
  dsimp only
  rw [h, if_neg (by omega), if_neg (by omega), if_pos rfl]

theorem read_nan (f : Format) (w : Nat) (h : f.infRung < w % f.signWeight) (hb : f.binade ≤ f.infRung) :
    f.read w = .nan (w / f.signWeight % 2 == 1) (w % f.signWeight - f.infRung) := by
  unfold Format.read
  dsimp only
  rw [if_neg (by omega), if_neg (by omega), if_neg (by omega)]

theorem V_lt (f : Format) (g : Nat) : V f g < 2 ^ (f.fractionBits + g / f.binade) := by
  have hp := binade_pos f
  unfold V mag up
  by_cases h : g < f.binade
  · rw [if_pos h, if_pos h, Nat.div_eq_of_lt h, Nat.pow_zero, Nat.mul_one, Nat.add_zero]
    exact h
  · rw [if_neg h, if_neg h]
    have hk : 1 ≤ g / f.binade := (Nat.one_le_div_iff hp).2 (by omega)
    have hm := Nat.mod_lt g hp
    have e : f.fractionBits + g / f.binade = f.fractionBits + 1 + (g / f.binade - 1) := by omega
    rw [e, Nat.pow_add]
    apply Nat.mul_lt_mul_of_pos_right _ (Nat.two_pow_pos _)
    have e : 2 ^ (f.fractionBits + 1) = 2 * f.binade := by rw [Nat.pow_succ, Nat.mul_comm]; rfl
    rw [e]
    omega

theorem le_V (f : Format) (g : Nat) (h : f.binade ≤ g) : 2 ^ (f.fractionBits + (g / f.binade - 1)) ≤ V f g := by
  unfold V mag up
  rw [if_neg (by omega), if_neg (by omega), Nat.pow_add]
  apply Nat.mul_le_mul_right
  have : 2 ^ f.fractionBits = f.binade := rfl
  omega

theorem V_mono (f : Format) {g h : Nat} (hl : g < h) : V f g < V f h := by
  have hp := binade_pos f
  by_cases hk : g / f.binade = h / f.binade
  · have hm : g % f.binade < h % f.binade := by
      have h1 := Nat.div_add_mod g f.binade
      have h2 := Nat.div_add_mod h f.binade
      rw [hk] at h1
      omega
    by_cases hs : h < f.binade
    · unfold V mag up
      rw [if_pos hs, if_pos hs, if_pos (by omega), if_pos (by omega)]
      omega
    · have hg : ¬ g < f.binade := by
        intro hc
        rw [Nat.div_eq_of_lt hc] at hk
        have := (Nat.one_le_div_iff hp).2 (by omega : f.binade ≤ h)
        omega
      unfold V mag up
      rw [if_neg hs, if_neg hs, if_neg hg, if_neg hg, hk]
      apply Nat.mul_lt_mul_of_pos_right _ (Nat.two_pow_pos _)
      omega
  · have hkl : g / f.binade < h / f.binade := by
      have := Nat.div_le_div_right (c := f.binade) (Nat.le_of_lt hl)
      omega
    have hh : f.binade ≤ h := by
      apply Decidable.byContradiction
      intro hc
      rw [Nat.div_eq_of_lt (by omega : h < f.binade)] at hkl
      exact absurd hkl (Nat.not_lt_zero _)
    have a := V_lt f g
    have b := le_V f h hh
    have c : 2 ^ (f.fractionBits + g / f.binade) ≤ 2 ^ (f.fractionBits + (h / f.binade - 1)) := Nat.pow_le_pow_right (by omega) (by omega)
    omega

theorem V_zero (f : Format) : V f 0 = 0 := by
  unfold V mag
  rw [if_pos (binade_pos f)]
  simp

theorem V_lt_iff (f : Format) (g h : Nat) : V f g < V f h ↔ g < h := by
  constructor
  · intro hv
    rcases Nat.lt_trichotomy g h with a | a | a
    · exact a
    · subst a; omega
    · have := V_mono f a; omega
  · exact V_mono f

theorem V_eq_iff (f : Format) (g h : Nat) : V f g = V f h ↔ g = h := by
  constructor
  · intro hv
    rcases Nat.lt_trichotomy g h with a | a | a
    · have := V_mono f a; omega
    · exact a
    · have := V_mono f a; omega
  · intro a; rw [a]

/-- Whole numbers in the order of the numbers. -/
def rank (f : Format) (w : Nat) : Int := if f.signWeight ≤ w then -((w - f.signWeight : Nat) : Int) else (w : Int)

theorem signed_V (f : Format) (s : Bool) (g : Nat) (base : Int) (h1 : f.leastPlace ≤ base) (h2 : base ≤ f.leastPlace + (up f g : Nat)) :
    signed s (mag f g) (f.leastPlace + (up f g : Nat) - base).toNat * ((2 ^ (base - f.leastPlace).toNat : Nat) : Int) = if s then -((V f g : Nat) : Int) else ((V f g : Nat) : Int) := by
  rw [signed_eq]
  have e : up f g = (f.leastPlace + (up f g : Nat) - base).toNat + (base - f.leastPlace).toNat := by omega
  have : V f g = mag f g * 2 ^ (f.leastPlace + (up f g : Nat) - base).toNat * 2 ^ (base - f.leastPlace).toNat := by
    unfold V
    rw [Nat.mul_assoc, ← Nat.pow_add, ← e]
  rw [this]
  cases s
  · simp only [Bool.false_eq_true, if_false]
    push_cast
    rfl
  · simp only [if_true]
    push_cast
    rw [Int.neg_mul]

theorem rank_of (f : Format) (w : Nat) (hw : w < 2 * f.signWeight) :
    rank f w = if (w / f.signWeight % 2 == 1) then -((w % f.signWeight : Nat) : Int) else ((w % f.signWeight : Nat) : Int) := by
  have hp : 0 < f.signWeight := Nat.two_pow_pos _
  unfold rank
  by_cases h : f.signWeight ≤ w
  · have hd : w / f.signWeight = 1 := by
      apply Nat.div_eq_of_lt_le <;> omega
    have hm : w % f.signWeight = w - f.signWeight := by
      rw [Nat.mod_eq_sub_mod h, Nat.mod_eq_of_lt (by omega)]
    rw [hd, hm, if_pos h]
    rfl
  · rw [Nat.div_eq_of_lt (by omega), Nat.mod_eq_of_lt (show w < f.signWeight by omega), if_neg h]
    rfl

theorem order_fin (f : Format) (x y : Nat) (hx : x < 2 * f.signWeight) (hy : y < 2 * f.signWeight) (fx : x % f.signWeight < f.infRung) (fy : y % f.signWeight < f.infRung) :
    f.order x y = some (compare (rank f x) (rank f y)) := by
  unfold Format.order
  rw [read_fin f x fx, read_fin f y fy, rank_of f x hx, rank_of f y hy]
  simp only [Datum.order]
  congr 1
  generalize x % f.signWeight = g at *
  generalize y % f.signWeight = h at *
  generalize (x / f.signWeight % 2 == 1) = s
  generalize (y / f.signWeight % 2 == 1) = t
  generalize hb : min (f.leastPlace + (up f g : Nat)) (f.leastPlace + (up f h : Nat)) = base
  have b1 : f.leastPlace ≤ base := by omega
  have sg := signed_V f s g base b1 (by omega)
  have sh := signed_V f t h base b1 (by omega)
  have hpos : (0 : Int) < ((2 ^ (base - f.leastPlace).toNat : Nat) : Int) := by exact_mod_cast Nat.two_pow_pos _
  generalize ((2 ^ (base - f.leastPlace).toNat : Nat) : Int) = c at *
  generalize signed s (mag f g) (f.leastPlace + (up f g : Nat) - base).toNat = a at *
  generalize signed t (mag f h) (f.leastPlace + (up f h : Nat) - base).toNat = b at *
  have k1 : a < b ↔ a * c < b * c := (Int.mul_lt_mul_right hpos).symm
  have k2 : a = b ↔ a * c = b * c := by
    constructor
    · intro h; rw [h]
    · intro h; exact Int.eq_of_mul_eq_mul_right (by omega) h
  have m1 := V_lt_iff f g h
  have m2 := V_lt_iff f h g
  have m3 := V_eq_iff f g h
  have z1 := V_lt_iff f 0 g
  have z2 := V_lt_iff f 0 h
  rw [V_zero] at z1 z2
  apply compare_congr
  · rw [k1, sg, sh]
    cases s <;> cases t <;> simp only [Bool.false_eq_true, if_false, if_true] <;> omega
  · rw [k2, sg, sh]
    cases s <;> cases t <;> simp only [Bool.false_eq_true, if_false, if_true] <;> omega

theorem order_nan (f : Format) (x y : Nat) (hb : f.binade ≤ f.infRung) (h : f.infRung < x % f.signWeight ∨ f.infRung < y % f.signWeight) :
    f.order x y = none := by
  unfold Format.order
  rcases h with h | h
  · rw [read_nan f x h hb]
    rfl
  · rw [read_nan f y h hb]
    cases f.read x <;> rfl

theorem order_any (f : Format) (x y : Nat) (hb : f.binade ≤ f.infRung) (hx : x < 2 * f.signWeight) (hy : y < 2 * f.signWeight)
    (fx : x % f.signWeight ≤ f.infRung) (fy : y % f.signWeight ≤ f.infRung) :
    f.order x y = some (compare (rank f x) (rank f y)) := by
  have hp := binade_pos f
  by_cases hx1 : x % f.signWeight < f.infRung
  · by_cases hy1 : y % f.signWeight < f.infRung
    · exact order_fin f x y hx hy hx1 hy1
    · have hy2 : y % f.signWeight = f.infRung := by omega
      unfold Format.order
      rw [read_fin f x hx1, read_inf f y hy2 hb, rank_of f x hx, rank_of f y hy, hy2]
      simp only [Datum.order]
      congr 1
      generalize x % f.signWeight = g at *
      generalize (x / f.signWeight % 2 == 1) = s
      generalize (y / f.signWeight % 2 == 1) = t
      cases t
      · have : (if s = true then -(g : Int) else (g : Int)) < (f.infRung : Int) := by split <;> omega
        simp [compare, compareOfLessAndEq, this]
      · have h1 : ¬ (if s = true then -(g : Int) else (g : Int)) < -(f.infRung : Int) := by split <;> omega
        have h2 : ¬ (if s = true then -(g : Int) else (g : Int)) = -(f.infRung : Int) := by split <;> omega
        simp [compare, compareOfLessAndEq, h1, h2]
  · have hx2 : x % f.signWeight = f.infRung := by omega
    by_cases hy1 : y % f.signWeight < f.infRung
    · unfold Format.order
      rw [read_fin f y hy1, read_inf f x hx2 hb, rank_of f x hx, rank_of f y hy, hx2]
      simp only [Datum.order]
      congr 1
      generalize y % f.signWeight = g at *
      generalize (x / f.signWeight % 2 == 1) = s
      generalize (y / f.signWeight % 2 == 1) = t
      cases s
      · have h1 : ¬ (f.infRung : Int) < (if t = true then -(g : Int) else (g : Int)) := by split <;> omega
        have h2 : ¬ (f.infRung : Int) = (if t = true then -(g : Int) else (g : Int)) := by split <;> omega
        simp [compare, compareOfLessAndEq, h1, h2]
      · have : -(f.infRung : Int) < (if t = true then -(g : Int) else (g : Int)) := by split <;> omega
        simp [compare, compareOfLessAndEq, this]
    · have hy2 : y % f.signWeight = f.infRung := by omega
      unfold Format.order
      rw [read_inf f y hy2 hb, read_inf f x hx2 hb, rank_of f x hx, rank_of f y hy, hx2, hy2]
      simp only [Datum.order]
      congr 1
      generalize (x / f.signWeight % 2 == 1) = s
      generalize (y / f.signWeight % 2 == 1) = t
      have hi : 0 < f.infRung := by omega
      clear hx2 hy2 hx1 hy1 fx fy
      generalize f.infRung = I at *
      have n1 : ¬ (I : Int) < -(I : Int) := by omega
      have n2 : ¬ (I : Int) = -(I : Int) := by omega
      have n3 : -(I : Int) < (I : Int) := by omega
      cases s <;> cases t <;> simp only [compare, compareOfLessAndEq, Bool.false_eq_true, if_false, if_true, n1, n2, n3, Int.lt_irrefl] <;> rfl

theorem log2_mag (f : Format) (g : Nat) (h : f.binade ≤ g) : (mag f g).log2 = f.fractionBits := by
  have hp := binade_pos f
  have hm := Nat.mod_lt g hp
  have h0 : mag f g ≠ 0 := by
    unfold mag
    rw [if_neg (by omega)]
    omega
  rw [Nat.log2_eq_iff h0]
  have := mag_lt f g
  refine ⟨?_, this⟩
  unfold mag
  rw [if_neg (by omega)]
  have : 2 ^ f.fractionBits = f.binade := rfl
  omega

/-- What there is, is its own nearest. -/
theorem close_V (f : Format) (neg : Bool) (g : Nat) (h : g ≤ f.infRung) : close f neg (V f g) f.leastPlace false = f.word neg g := by
  have hp := binade_pos f
  unfold V
  have := close_scale f neg (mag f g) (up f g) (f.leastPlace + (up f g : Nat))
  rw [show f.leastPlace + (up f g : Nat) - (up f g : Nat) = f.leastPlace by omega] at this
  rw [this]
  by_cases hs : g < f.binade
  · have em : mag f g = g := by unfold mag; rw [if_pos hs]
    have eu : up f g = 0 := by unfold up; rw [if_pos hs]
    rw [em, eu]
    unfold close
    by_cases h0 : g = 0
    · rw [if_pos h0, h0]
    · rw [if_neg h0]
      have hl : g.log2 < f.fractionBits := (Nat.log2_lt h0).2 hs
      have el : low f g (f.leastPlace + ((0 : Nat) : Int)) = f.leastPlace := by
        unfold low
        omega
      rw [el]
      simp only [Int.natCast_zero, Int.add_zero, Int.sub_self, Int.toNat_zero, Nat.zero_mul, Nat.zero_add, Nat.pow_zero, Nat.mul_one, canon_zero]
      rw [Nat.min_eq_left h]
  · have hm := Nat.mod_lt g hp
    have h0 : mag f g ≠ 0 := by
      unfold mag
      rw [if_neg hs]
      omega
    have el : low f (mag f g) (f.leastPlace + (up f g : Nat)) = f.leastPlace + (up f g : Nat) := by
      unfold low
      rw [log2_mag f g (by omega)]
      omega
    unfold close
    rw [if_neg h0, el]
    have e1 : (f.leastPlace + (up f g : Nat) - f.leastPlace).toNat = up f g := by omega
    rw [e1, Int.sub_self, Int.toNat_zero, canon_zero, Nat.pow_zero, Nat.mul_one]
    have e2 : up f g * f.binade + mag f g = g := by
      unfold up mag
      rw [if_neg hs, if_neg hs]
      have hk : 1 ≤ g / f.binade := (Nat.one_le_div_iff hp).2 (by omega)
      obtain ⟨k, ek⟩ : ∃ k, g / f.binade = k + 1 := ⟨g / f.binade - 1, by omega⟩
      have hd := Nat.div_add_mod g f.binade
      rw [ek, Nat.mul_succ, Nat.mul_comm] at hd
      rw [ek, Nat.add_sub_cancel]
      omega
    rw [e2, Nat.min_eq_left h]

end Go.Proofs.Ytjnelkpgdjphmaa.Nm

namespace Go.Proofs.Ytjnelkpgdjphmaa.Nm
open Ieee

theorem binade_eq (f : Format) : f.binade = 2 ^ f.fractionBits := rfl

theorem up_mono (f : Format) {g h : Nat} (hl : g ≤ h) : up f g ≤ up f h := by
  unfold up
  by_cases h1 : g < f.binade
  · rw [if_pos h1]; omega
  · rw [if_neg h1, if_neg (by omega)]
    have := Nat.div_le_div_right (c := f.binade) hl
    omega

/-- What can be written with so many digits has a rung. -/
theorem rep_of (f : Format) (M k : Nat) (hM : M < 2 ^ (f.fractionBits + 1)) (hI : M * 2 ^ k < V f f.infRung) : ∃ g, g < f.infRung ∧ V f g = M * 2 ^ k := by
  have hp := binade_pos f
  have hb := binade_eq f
  suffices h : ∃ g, V f g = M * 2 ^ k by
    obtain ⟨g, e⟩ := h
    exact ⟨g, (V_lt_iff f g f.infRung).1 (by omega), e⟩
  by_cases hs : M * 2 ^ k < f.binade
  · refine ⟨M * 2 ^ k, ?_⟩
    unfold V mag up
    rw [if_pos hs, if_pos hs, Nat.pow_zero, Nat.mul_one]
  have hM0 : M ≠ 0 := by
    intro h
    rw [h, Nat.zero_mul] at hs
    omega
  have hN0 : M * 2 ^ k ≠ 0 := by omega
  have l1 : (M * 2 ^ k).log2 = M.log2 + k := by
    have := log2_shift M k 0 hM0 (Nat.two_pow_pos k)
    simpa using this
  have l2 : f.fractionBits ≤ (M * 2 ^ k).log2 := (Nat.le_log2 hN0).2 (by omega)
  have l3 : M.log2 < f.fractionBits + 1 := (Nat.log2_lt hM0).2 hM
  obtain ⟨u, eu⟩ : ∃ u, M.log2 + k = f.fractionBits + u := ⟨M.log2 + k - f.fractionBits, by omega⟩
  have hu : u ≤ k := by omega
  obtain ⟨d, rfl⟩ := Nat.le.dest hu
  have eN : M * 2 ^ (u + d) = M * 2 ^ d * 2 ^ u := by rw [Nat.mul_assoc, ← Nat.pow_add, Nat.add_comm d u]
  have hm0 : M * 2 ^ d ≠ 0 := by
    intro h
    rw [eN, h, Nat.zero_mul] at hN0
    exact hN0 rfl
  have lm : (M * 2 ^ d).log2 = f.fractionBits := by
    have := log2_shift M d 0 hM0 (Nat.two_pow_pos d)
    rw [Nat.add_zero] at this
    omega
  obtain ⟨b1, b2⟩ := (Nat.log2_eq_iff hm0).1 lm
  have b3 : 2 ^ (f.fractionBits + 1) = 2 * 2 ^ f.fractionBits := by rw [Nat.pow_succ, Nat.mul_comm]
  refine ⟨(u + 1) * f.binade + (M * 2 ^ d - f.binade), ?_⟩
  have hlt : M * 2 ^ d - f.binade < f.binade := by omega
  have hge : ¬ (u + 1) * f.binade + (M * 2 ^ d - f.binade) < f.binade := by
    rw [Nat.succ_mul]
    omega
  have e1 : ((u + 1) * f.binade + (M * 2 ^ d - f.binade)) / f.binade = u + 1 := by
    rw [Nat.mul_comm, Nat.mul_add_div hp, Nat.div_eq_of_lt hlt, Nat.add_zero]
  have e2 : ((u + 1) * f.binade + (M * 2 ^ d - f.binade)) % f.binade = M * 2 ^ d - f.binade := by
    rw [Nat.mul_comm, Nat.mul_add_mod, Nat.mod_eq_of_lt hlt]
  unfold V mag up
  rw [if_neg hge, if_neg hge, e1, e2, eN, Nat.add_sub_cancel]
  congr 1
  omega

/-- How often one goes into another: by their lengths. -/
theorem step_k (r y : Nat) (hy : 0 < y) (hr : y ≤ r) :
    (if r * 2 ^ y.log2 < y * 2 ^ r.log2 then 1 else 0) + y.log2 ≤ r.log2 ∧
    y * 2 ^ (r.log2 - y.log2 - (if r * 2 ^ y.log2 < y * 2 ^ r.log2 then 1 else 0)) ≤ r ∧
    r < 2 * (y * 2 ^ (r.log2 - y.log2 - (if r * 2 ^ y.log2 < y * 2 ^ r.log2 then 1 else 0))) := by
  have hr0 : r ≠ 0 := by omega
  have hy0 : y ≠ 0 := by omega
  have a1 := Nat.log2_self_le hr0
  have a2 := @Nat.lt_log2_self r
  have b1 := Nat.log2_self_le hy0
  have b2 := @Nat.lt_log2_self y
  have hab : y.log2 ≤ r.log2 := (Nat.le_log2 hr0).2 (by omega)
  generalize r.log2 = a at *
  generalize y.log2 = b at *
  obtain ⟨d, rfl⟩ := Nat.le.dest hab
  have pb : 0 < 2 ^ b := Nat.two_pow_pos b
  have ec : (r * 2 ^ b < y * 2 ^ (b + d)) ↔ r < y * 2 ^ d := by
    rw [Nat.add_comm b d, Nat.pow_add, ← Nat.mul_assoc]
    exact Nat.mul_lt_mul_right pb
  simp only [ec]
  have pd : 0 < 2 ^ d := Nat.two_pow_pos d
  have m1 : 2 ^ b * 2 ^ d ≤ y * 2 ^ d := Nat.mul_le_mul_right _ b1
  have m2 : y * 2 ^ d < 2 ^ (b + 1) * 2 ^ d := Nat.mul_lt_mul_of_pos_right b2 pd
  have p1 : 2 ^ (b + d) = 2 ^ b * 2 ^ d := Nat.pow_add ..
  have p2 : 2 ^ (b + d + 1) = 2 * (2 ^ b * 2 ^ d) := by rw [Nat.pow_succ, p1, Nat.mul_comm]
  by_cases h : r < y * 2 ^ d
  · simp only [if_pos h]
    have hd : d ≠ 0 := by
      intro h0
      subst h0
      simp at h
      omega
    obtain ⟨c, rfl⟩ : ∃ c, d = c + 1 := ⟨d - 1, by omega⟩
    have e : b + (c + 1) - b - 1 = c := by omega
    rw [e]
    have p3 : y * 2 ^ (c + 1) = 2 * (y * 2 ^ c) := by rw [Nat.pow_succ, ← Nat.mul_assoc, Nat.mul_comm _ 2]
    have p4 : 2 ^ (b + 1) * 2 ^ (c + 1) = 2 * (2 ^ b * 2 ^ (c + 1)) := by rw [Nat.pow_succ 2 b, Nat.mul_comm _ 2, Nat.mul_assoc]
    refine ⟨by omega, ?_, ?_⟩ <;> omega
  · simp only [if_neg h]
    have e : b + d - b - 0 = d := by omega
    rw [e]
    refine ⟨by omega, by omega, by omega⟩

theorem word_false (f : Format) (g : Nat) : f.word false g = g := rfl

theorem read_pos (f : Format) (g : Nat) (h : g < f.infRung) (hi : f.infRung < f.signWeight) :
    f.read g = .number false (mag f g) (f.leastPlace + (up f g : Nat)) := by
  have h1 : g % f.signWeight = g := Nat.mod_eq_of_lt (by omega)
  have h2 : g / f.signWeight = 0 := Nat.div_eq_of_lt (by omega)
  have := read_fin f g (by omega)
  rw [this, h1, h2]
  rfl

/-- A difference of two that lie near each other is exact. -/
theorem sub_exact (f : Format) (g h d : Nat) (hi : f.infRung < f.signWeight) (hg : g < f.infRung) (hh : h < f.infRung) (hd : d < f.infRung)
    (hle : V f h ≤ V f g) (e : V f d = V f g - V f h) : f.sub g h = some d := by
  unfold Format.sub
  rw [read_pos f g hg hi, read_pos f h hh hi]
  simp only [Datum.opposite, Datum.sum, Bool.not_false, Bool.and_true]
  have hb : h ≤ g := by
    apply Decidable.byContradiction
    intro hc
    have := V_mono f (show g < h by omega)
    omega
  have hu := up_mono f hb
  have emin : min (f.leastPlace + (up f g : Nat)) (f.leastPlace + (up f h : Nat)) = f.leastPlace + (up f h : Nat) := by omega
  rw [emin, Int.sub_self]
  have e1 : (f.leastPlace + (up f g : Nat) - (f.leastPlace + (up f h : Nat))).toNat = up f g - up f h := by omega
  rw [e1]
  simp only [signed_eq, Bool.false_eq_true, if_false, if_true, Int.toNat_zero, Nat.pow_zero, Nat.mul_one]
  have vg : V f g = mag f g * 2 ^ (up f g - up f h) * 2 ^ up f h := by
    unfold V
    rw [Nat.mul_assoc, ← Nat.pow_add]
    congr 2
    omega
  have vh : V f h = mag f h * 2 ^ up f h := rfl
  generalize mag f g * 2 ^ (up f g - up f h) = P at *
  generalize mag f h = Q at *
  have pq : Q ≤ P := by
    rw [vg, vh] at hle
    exact Nat.le_of_mul_le_mul_right hle (Nat.two_pow_pos _)
  have na : ((P : Int) + -(Q : Int)).natAbs = P - Q := by omega
  have sg : (if ((P : Int) + -(Q : Int)) = 0 then false else decide (((P : Int) + -(Q : Int)) < 0)) = false := by
    split
    · rfl
    · simp; omega
  rw [na]
  simp only [sg, Option.map_some, write_number]
  have := close_scale f false (P - Q) (up f h) (f.leastPlace + (up f h : Nat))
  rw [show f.leastPlace + (up f h : Nat) - (up f h : Nat) = f.leastPlace by omega] at this
  rw [← this, Nat.sub_mul, ← vg, ← vh, ← e, close_V f false d (by omega), word_false]

/-- A product with a power of two that can be written is exact. -/
theorem mul_pow (f : Format) (x h0 h a b : Nat) (q : Int) (hi : f.infRung < f.signWeight) (hx : f.read x = .number false (2 ^ f.fractionBits) q)
    (hh0 : h0 < f.infRung) (hh : h < f.infRung) (ep : (a : Int) - b = q + f.fractionBits) (e : V f h0 * 2 ^ a = V f h * 2 ^ b) :
    f.mul x h0 = some h ∧ f.mul h0 x = some h := by
  have key : f.write (.number false (2 ^ f.fractionBits * mag f h0) (q + (f.leastPlace + (up f h0 : Nat)))) = h := by
    rw [write_number]
    have c1 := close_scale f false (mag f h0) f.fractionBits (q + f.fractionBits + (f.leastPlace + (up f h0 : Nat)))
    rw [show q + f.fractionBits + (f.leastPlace + (up f h0 : Nat)) - (f.fractionBits : Int) = q + (f.leastPlace + (up f h0 : Nat)) by omega] at c1
    rw [Nat.mul_comm, c1, ← ep]
    have c2 := close_scale f false (mag f h0) (up f h0 + a) ((a : Int) - b + (f.leastPlace + (up f h0 : Nat)))
    rw [show (a : Int) - b + (f.leastPlace + (up f h0 : Nat)) - ((up f h0 + a : Nat) : Int) = f.leastPlace - b by omega] at c2
    rw [← c2, Nat.pow_add, ← Nat.mul_assoc]
    have : mag f h0 * 2 ^ up f h0 = V f h0 := rfl
    rw [this, e, close_scale, close_V f false h (by omega), word_false]
  unfold Format.mul
  rw [hx, read_pos f h0 hh0 hi]
  simp only [Datum.product, Bool.xor_false, Option.map_some]
  refine ⟨congrArg some key, ?_⟩
  rw [Nat.mul_comm (mag f h0), Int.add_comm _ q]
  exact congrArg some key

/-- One step of what is left. -/
theorem diff_rep (f : Format) (g s : Nat) (hg : g < f.infRung) (hle : V f s ≤ V f g) (hlt : V f g < 2 * V f s) :
    ∃ d, d < f.infRung ∧ V f d = V f g - V f s := by
  have hb : s ≤ g := by
    apply Decidable.byContradiction
    intro hc
    have := V_mono f (show g < s by omega)
    omega
  have hu := up_mono f hb
  have vg : V f g = mag f g * 2 ^ (up f g - up f s) * 2 ^ up f s := by
    unfold V
    rw [Nat.mul_assoc, ← Nat.pow_add]
    congr 2
    omega
  have vh : V f s = mag f s * 2 ^ up f s := rfl
  have hI := V_mono f hg
  have hm := mag_lt f s
  have e : V f g - V f s = (mag f g * 2 ^ (up f g - up f s) - mag f s) * 2 ^ up f s := by
    rw [Nat.sub_mul, ← vg, ← vh]
  have hs : mag f g * 2 ^ (up f g - up f s) - mag f s < mag f s := by
    have : (mag f g * 2 ^ (up f g - up f s) - mag f s) * 2 ^ up f s < mag f s * 2 ^ up f s := by
      rw [← e, ← vh]
      omega
    exact Nat.lt_of_mul_lt_mul_right this
  obtain ⟨d, h1, h2⟩ := rep_of f (mag f g * 2 ^ (up f g - up f s) - mag f s) (up f s) (by omega) (by rw [← e]; omega)
  exact ⟨d, h1, by rw [h2, e]⟩

end Go.Proofs.Ytjnelkpgdjphmaa.Nm

namespace Go.Proofs.Ytjnelkpgdjphmaa.Nm
open Ieee
set_option linter.unusedVariables false
set_option linter.unusedSimpArgs false

/-- The digits that are kept. -/
def kept (f : Format) (m : Nat) (e : Int) (more : Bool) : Nat :=
  canon (m * 2 ^ (e - low f m e).toNat) (low f m e - e).toNat more

theorem kept_le (f : Format) (m : Nat) (e : Int) (more : Bool) (hm : m ≠ 0) : kept f m e more ≤ 2 ^ (f.fractionBits + 1) := by
  unfold kept
  have hL := @Nat.lt_log2_self m
  have hl : low f m e = max (e + m.log2 - f.fractionBits) f.leastPlace := rfl
  generalize low f m e = l at *
  by_cases h : e < l
  · have x1 : (e - l).toNat = 0 := by omega
    rw [x1, Nat.pow_zero, Nat.mul_one]
    have : m / 2 ^ (l - e).toNat < 2 ^ (f.fractionBits + 1) := by
      rw [Nat.div_lt_iff_lt_mul (Nat.two_pow_pos _), ← Nat.pow_add]
      exact Nat.lt_of_lt_of_le hL (Nat.pow_le_pow_right (by omega) (by omega))
    unfold canon
    have hb : ∀ b : Bool, b.toNat ≤ 1 := by intro b; cases b <;> simp
    have := hb (decide (2 ^ (l - e).toNat < 2 * (m % 2 ^ (l - e).toNat)) || (decide (2 ^ (l - e).toNat = 2 * (m % 2 ^ (l - e).toNat)) && (more || m / 2 ^ (l - e).toNat % 2 == 1)))
    omega
  · have x1 : (l - e).toNat = 0 := by omega
    rw [x1, canon_zero]
    have : m * 2 ^ (e - l).toNat < 2 ^ (m.log2 + 1) * 2 ^ (e - l).toNat := Nat.mul_lt_mul_of_pos_right hL (Nat.two_pow_pos _)
    rw [← Nat.pow_add] at this
    have h2 : 2 ^ (m.log2 + 1 + (e - l).toNat) ≤ 2 ^ (f.fractionBits + 1) := Nat.pow_le_pow_right (by omega) (by omega)
    omega

theorem le_kept (f : Format) (m : Nat) (e : Int) (more : Bool) (hm : m ≠ 0) (hl : f.leastPlace < low f m e) : 2 ^ f.fractionBits ≤ kept f m e more := by
  unfold kept
  have hL := Nat.log2_self_le hm
  have hl' : low f m e = max (e + m.log2 - f.fractionBits) f.leastPlace := rfl
  generalize low f m e = l at *
  by_cases h : e < l
  · have x1 : (e - l).toNat = 0 := by omega
    rw [x1, Nat.pow_zero, Nat.mul_one]
    have : 2 ^ f.fractionBits ≤ m / 2 ^ (l - e).toNat := by
      rw [Nat.le_div_iff_mul_le (Nat.two_pow_pos _), ← Nat.pow_add]
      exact Nat.le_trans (Nat.pow_le_pow_right (by omega) (by omega)) hL
    unfold canon
    omega
  · have x1 : (l - e).toNat = 0 := by omega
    rw [x1, canon_zero]
    have : 2 ^ m.log2 * 2 ^ (e - l).toNat ≤ m * 2 ^ (e - l).toNat := Nat.mul_le_mul_right _ hL
    rw [← Nat.pow_add] at this
    have h2 : 2 ^ f.fractionBits ≤ 2 ^ (m.log2 + (e - l).toNat) := Nat.pow_le_pow_right (by omega) (by omega)
    omega

theorem low_ge (f : Format) (m : Nat) (e : Int) : f.leastPlace ≤ low f m e := by
  unfold low
  omega

theorem close_kept (f : Format) (neg : Bool) (m : Nat) (e : Int) (more : Bool) (hm : m ≠ 0) :
    close f neg m e more = f.word neg (min ((low f m e - f.leastPlace).toNat * f.binade + kept f m e more) f.infRung) := by
  unfold close
  rw [if_neg hm]
  rfl

/-- How it is put together: l: the place of the last digit, q: the digits. -/
theorem close_small (f : Format) (neg : Bool) (m : Nat) (e : Int) (more : Bool) (hi : f.binade ≤ f.infRung) (hm : m ≠ 0) (h : kept f m e more < 2 ^ f.fractionBits) :
    close f neg m e more = f.word neg (kept f m e more) := by
  have hl : low f m e = f.leastPlace := by
    have := low_ge f m e
    apply Decidable.byContradiction
    intro hc
    have := le_kept f m e more hm (by omega)
    omega
  have hb := binade_eq f
  rw [close_kept f neg m e more hm, hl, Int.sub_self, Int.toNat_zero, Nat.zero_mul, Nat.zero_add, Nat.min_eq_left (by omega)]

theorem close_great (f : Format) (neg : Bool) (m : Nat) (e : Int) (more : Bool) (l : Int) (q : Nat) (hm : m ≠ 0) (hl : f.leastPlace ≤ l)
    (hq : 2 ^ f.fractionBits ≤ q) (hlq : (l = low f m e ∧ q = kept f m e more) ∨ (l = low f m e + 1 ∧ kept f m e more = 2 * q ∧ q = 2 ^ f.fractionBits))
    (hf : ((2 : Nat) ^ f.exponentBits - 1 : Nat) ≤ (l - f.leastPlace + 1)) :
    close f neg m e more = f.word neg f.infRung := by
  have hb := binade_eq f
  rw [close_kept f neg m e more hm]
  congr 1
  apply Nat.min_eq_right
  have hlow := low_ge f m e
  have hp := binade_pos f
  unfold Format.infRung
  have hx : ((2 : Nat) ^ f.exponentBits - 1 : Nat) ≤ (l - f.leastPlace).toNat + 1 := by omega
  have h1 : (2 ^ f.exponentBits - 1) * f.binade ≤ ((l - f.leastPlace).toNat + 1) * f.binade := Nat.mul_le_mul_right _ hx
  rw [Nat.succ_mul] at h1
  rcases hlq with ⟨rfl, rfl⟩ | ⟨rfl, h2, h3⟩
  · omega
  · have : (low f m e + 1 - f.leastPlace).toNat = (low f m e - f.leastPlace).toNat + 1 := by omega
    rw [this, Nat.succ_mul] at h1
    omega

theorem close_mid (f : Format) (neg : Bool) (m : Nat) (e : Int) (more : Bool) (l : Int) (q : Nat) (hm : m ≠ 0) (hl : f.leastPlace ≤ l)
    (hq : 2 ^ f.fractionBits ≤ q) (hq2 : q < 2 ^ (f.fractionBits + 1)) (hlq : (l = low f m e ∧ q = kept f m e more) ∨ (l = low f m e + 1 ∧ kept f m e more = 2 * q ∧ q = 2 ^ f.fractionBits))
    (hf : (l - f.leastPlace + 1) < ((2 : Nat) ^ f.exponentBits - 1 : Nat)) :
    close f neg m e more = f.word neg ((l - f.leastPlace).toNat * 2 ^ f.fractionBits + q) := by
  have hb := binade_eq f
  have hlow := low_ge f m e
  have hp := binade_pos f
  have e2 : 2 ^ (f.fractionBits + 1) = 2 * 2 ^ f.fractionBits := by rw [Nat.pow_succ, Nat.mul_comm]
  have hx : (l - f.leastPlace).toNat + 2 ≤ ((2 : Nat) ^ f.exponentBits - 1 : Nat) := by omega
  have h1 : ((l - f.leastPlace).toNat + 2) * f.binade ≤ (2 ^ f.exponentBits - 1) * f.binade := Nat.mul_le_mul_right _ hx
  rw [Nat.add_mul] at h1
  rw [close_kept f neg m e more hm]
  congr 1
  rw [← hb]
  unfold Format.infRung
  rcases hlq with ⟨rfl, rfl⟩ | ⟨rfl, h2, h3⟩
  · apply Nat.min_eq_left
    omega
  · have : (low f m e + 1 - f.leastPlace).toNat = (low f m e - f.leastPlace).toNat + 1 := by omega
    rw [this] at h1 ⊢
    rw [Nat.succ_mul] at h1 ⊢
    rw [Nat.min_eq_left (by omega)]
    omega

/-- The digits, by how many are cut off. -/
theorem kept_neg (f : Format) (m : Nat) (e : Int) (more : Bool) (h : low f m e ≤ e) : kept f m e more = m * 2 ^ (e - low f m e).toNat := by
  unfold kept
  rw [show (low f m e - e).toNat = 0 by omega, canon_zero]

theorem kept_pos (f : Format) (m : Nat) (e : Int) (more : Bool) (s : Nat) (hs : low f m e - e = s) : kept f m e more = canon m s more := by
  unfold kept
  rw [show (low f m e - e).toNat = s by omega, show (e - low f m e).toNat = 0 by omega, Nat.pow_zero, Nat.mul_one]

theorem canon_up (m s : Nat) (more : Bool) (hs : 1 ≤ s) :
    canon m s more = m / 2 ^ s + if (2 ^ (s - 1) < m % 2 ^ s ∨ (m % 2 ^ s = 2 ^ (s - 1) ∧ (more = true ∨ m / 2 ^ s % 2 = 1))) then 1 else 0 := by
  obtain ⟨t, rfl⟩ : ∃ t, s = t + 1 := ⟨s - 1, by omega⟩
  unfold canon
  congr 1
  have e : 2 ^ (t + 1) = 2 * 2 ^ t := by rw [Nat.pow_succ, Nat.mul_comm]
  rw [Nat.add_sub_cancel]
  generalize m % 2 ^ (t + 1) = r
  generalize m / 2 ^ (t + 1) = q
  rw [e]
  by_cases h1 : 2 ^ t < r
  · have : 2 * 2 ^ t < 2 * r := by omega
    simp [h1, this]
  · have n1 : ¬ 2 * 2 ^ t < 2 * r := by omega
    by_cases h2 : r = 2 ^ t
    · subst h2
      cases more <;> by_cases ho : q % 2 = 1 <;> simp [ho]
    · have n2 : ¬ 2 * 2 ^ t = 2 * r := by omega
      simp [h1, h2, n1, n2]

theorem canon_64 (m : Nat) (more : Bool) (hm : m < 2 ^ 64) : canon m 64 more = if (2 ^ 63 < m ∨ (m = 2 ^ 63 ∧ more = true)) then 1 else 0 := by
  rw [canon_up m 64 more (by omega), Nat.div_eq_of_lt hm, Nat.mod_eq_of_lt hm]
  simp

theorem canon_great (m s : Nat) (more : Bool) (hm : m < 2 ^ 64) (hs : 64 < s) : canon m s more = 0 := by
  have h1 : 2 ^ 64 ≤ 2 ^ (s - 1) := Nat.pow_le_pow_right (by omega) (by omega)
  have h2 : 2 ^ (s - 1) ≤ 2 ^ s := Nat.pow_le_pow_right (by omega) (by omega)
  rw [canon_up m s more (by omega), Nat.div_eq_of_lt (by omega), Nat.mod_eq_of_lt (by omega), if_neg (by omega)]

end Go.Proofs.Ytjnelkpgdjphmaa.Nm

namespace Go.Proofs.Ytjnelkpgdjphmaa.Nm
open Ieee
set_option linter.unusedVariables false
set_option linter.unusedSimpArgs false

theorem tdiv_sgn (X Y : Nat) (s t : Bool) :
    (if s then -(X : Int) else (X : Int)).tdiv (if t then -(Y : Int) else (Y : Int)) = if (s ^^ t) then -((X / Y : Nat) : Int) else ((X / Y : Nat) : Int) := by
  have h := Int.ofNat_tdiv X Y
  cases s <;> cases t <;> simp only [Bool.false_eq_true, if_false, if_true, Bool.xor_false, Bool.xor_true, Bool.false_xor, Bool.true_xor, Bool.not_true, Bool.not_false, Bool.xor_self, Int.neg_tdiv, Int.tdiv_neg, Int.neg_neg, h]

theorem tmod_sgn (X Y : Nat) (s t : Bool) :
    (if s then -(X : Int) else (X : Int)).tmod (if t then -(Y : Int) else (Y : Int)) = if s then -((X % Y : Nat) : Int) else ((X % Y : Nat) : Int) := by
  have h := Int.ofNat_tmod X Y
  cases s <;> cases t <;> simp only [Bool.false_eq_true, if_false, if_true, Int.neg_tmod, Int.tmod_neg, h]

theorem mul_mod_of (W a b c d : Int) (h1 : a % W = c % W) (h2 : b % W = d % W) : (a * b) % W = (c * d) % W := by
  rw [Int.mul_emod, h1, h2, ← Int.mul_emod]

end Go.Proofs.Ytjnelkpgdjphmaa.Nm

namespace Go.Proofs.Ytjnelkpgdjphmaa.Nm
open Ieee

theorem d_frac : double.fractionBits = 52 := rfl
theorem d_exp : double.exponentBits = 11 := rfl
theorem d_binade : double.binade = 4503599627370496 := by decide
theorem d_inf : double.infRung = 9218868437227405312 := by decide
theorem d_sign : double.signWeight = 9223372036854775808 := by decide
theorem d_least : double.leastPlace = -1074 := by decide
theorem s_binade : single.binade = 8388608 := by decide
theorem s_inf : single.infRung = 2139095040 := by decide
theorem s_sign : single.signWeight = 2147483648 := by decide
theorem s_least : single.leastPlace = -149 := by decide

theorem V_d (g : Nat) (h : 4503599627370496 ≤ g) : V double g = (4503599627370496 + g % 4503599627370496) * 2 ^ (g / 4503599627370496 - 1) := by
  unfold V mag up
  rw [d_binade, if_neg (by omega), if_neg (by omega)]

theorem pow_key (a b c : Nat) (h : a + b = c) : 2 ^ a * 2 ^ b = 2 ^ c := by rw [← h, Nat.pow_add]
theorem pow_up {m n : Nat} (h : m < n) : 2 ^ m < 2 ^ n := Nat.pow_lt_pow_right (by decide) h
theorem pow_down {m n : Nat} (h : 2 ^ m < 2 ^ n) : m < n := (Nat.pow_lt_pow_iff_right (by decide)).1 h
theorem V_inf : V double 9218868437227405312 = 2 ^ 2098 := by
  rw [V_d _ (by omega)]
  have : (9218868437227405312 / 4503599627370496 - 1) = 2046 := by decide
  rw [this]
  have h2 : 4503599627370496 + 9218868437227405312 % 4503599627370496 = 2 ^ 52 := by decide
  rw [h2]
  exact pow_key 52 2046 2098 rfl

/-- n: what g is when it is made normal: c: by how many places. -/
structure Norm (g n c : Nat) : Prop where
  lo : 4503599627370496 ≤ n
  hi : n < 9218868437227405312
  c0 : c = 0 ∨ c = 52
  eq : V double n = V double g * 2 ^ c

theorem norm_self (g : Nat) (h1 : 4503599627370496 ≤ g) (h2 : g < 9218868437227405312) : Norm g g 0 :=
  ⟨h1, h2, .inl rfl, by rw [Nat.pow_zero, Nat.mul_one]⟩

theorem V_small (g : Nat) (h : g < 4503599627370496) : V double g = g := by
  unfold V mag up
  rw [d_binade, if_pos h, if_pos h, Nat.pow_zero, Nat.mul_one]

theorem read_d (g : Nat) (h : g < 9218868437227405312) : double.read g = .number false (mag double g) (-1074 + (up double g : Nat)) := by
  have := read_pos double g (by rw [d_inf]; exact h) (by rw [d_inf, d_sign]; omega)
  rw [this, d_least]

theorem norm_mul (g : Nat) (h0 : 0 < g) (h1 : g < 4503599627370496) : ∃ n, Norm g n 52 ∧ double.mul g 4841369599423283200 = some n := by
  have hv := V_small g h1
  have hlt : g * 2 ^ 52 < V double double.infRung := by
    rw [d_inf, V_inf]
    have h5 : g * 2 ^ 52 < 2 ^ 52 * 2 ^ 52 := Nat.mul_lt_mul_of_pos_right (by omega) (Nat.two_pow_pos _)
    rw [pow_key 52 52 104 rfl] at h5
    exact Nat.lt_trans h5 (pow_up (m := 104) (n := 2098) (by decide))
  obtain ⟨n, hn, en⟩ := rep_of double g 52 (by rw [d_frac]; omega) hlt
  rw [d_inf] at hn
  have hlo : 4503599627370496 ≤ n := by
    apply Decidable.byContradiction
    intro hc
    rw [V_small n (by omega)] at en
    omega
  refine ⟨n, ⟨hlo, hn, .inr rfl, by rw [en, hv]⟩, ?_⟩
  have hr : double.read 4841369599423283200 = .number false (2 ^ double.fractionBits) 0 := by decide
  have := mul_pow double 4841369599423283200 g n 52 0 0 (by rw [d_inf, d_sign]; omega) hr (by rw [d_inf]; omega) (by rw [d_inf]; exact hn) (by rw [d_frac]; rfl) (by rw [en, hv, Nat.pow_zero, Nat.mul_one])
  exact this.2

theorem Norm.pos {g n c : Nat} (H : Norm g n c) : 0 < V double g := by
  have h := H.eq
  rw [V_d n H.lo] at h
  apply Decidable.byContradiction
  intro hc
  have : V double g = 0 := by omega
  rw [this, Nat.zero_mul] at h
  have := Nat.mul_pos (show 0 < 4503599627370496 + n % 4503599627370496 by omega) (Nat.two_pow_pos (n / 4503599627370496 - 1))
  omega

theorem Norm.log2 {g n c : Nat} (H : Norm g n c) : (V double g).log2 + c = 51 + n / 4503599627370496 := by
  have h := H.eq
  have hl : (V double n).log2 = 51 + n / 4503599627370496 := by
    rw [V_d n H.lo]
    have hne : 4503599627370496 + n % 4503599627370496 ≠ 0 := by omega
    have := log2_shift (4503599627370496 + n % 4503599627370496) (n / 4503599627370496 - 1) 0 hne (Nat.two_pow_pos _)
    rw [Nat.add_zero] at this
    rw [this]
    have : (4503599627370496 + n % 4503599627370496).log2 = 52 := by
      rw [Nat.log2_eq_iff hne]
      omega
    rw [this]
    have := H.lo
    omega
  have hg : (V double g * 2 ^ c + 0).log2 = (V double g).log2 + c := log2_shift _ c 0 (by have := H.pos; omega) (Nat.two_pow_pos _)
  rw [Nat.add_zero] at hg
  rw [← hg, ← h, hl]

theorem Norm.form {g n c : Nat} (H : Norm g n c) : V double g * 2 ^ c = (4503599627370496 + n % 4503599627370496) * 2 ^ (n / 4503599627370496 - 1) := by
  rw [← H.eq, V_d n H.lo]

/-- The fractions of two: which is less. -/
theorem Norm.cmp {g n c g' n' c' : Nat} (H : Norm g n c) (H' : Norm g' n' c') :
    (n % 4503599627370496 < n' % 4503599627370496) ↔ V double g * 2 ^ (V double g').log2 < V double g' * 2 ^ (V double g).log2 := by
  have a := H.form
  have b := H'.form
  have la := H.log2
  have lb := H'.log2
  have lo := H.lo
  have lo' := H'.lo
  generalize hk : n / 4503599627370496 = k at *
  generalize hk' : n' / 4503599627370496 = k' at *
  have k1 : 1 ≤ k := by omega
  have k1' : 1 ≤ k' := by omega
  generalize V double g = v at *
  generalize V double g' = v' at *
  have e1 : v * 2 ^ v'.log2 * 2 ^ (c + c') = (4503599627370496 + n % 4503599627370496) * 2 ^ (k - 1 + (51 + k')) := by
    rw [← lb, Nat.pow_add 2 (k - 1), ← Nat.mul_assoc, ← a, Nat.pow_add 2 c, Nat.pow_add 2 v'.log2]
    ac_rfl
  have e2 : v' * 2 ^ v.log2 * 2 ^ (c + c') = (4503599627370496 + n' % 4503599627370496) * 2 ^ (k - 1 + (51 + k')) := by
    rw [show k - 1 + (51 + k') = (k' - 1) + (51 + k) by omega, ← la, Nat.pow_add 2 (k' - 1), ← Nat.mul_assoc, ← b, Nat.pow_add 2 c, Nat.pow_add 2 v.log2]
    ac_rfl
  have m1 : v * 2 ^ v'.log2 < v' * 2 ^ v.log2 ↔ v * 2 ^ v'.log2 * 2 ^ (c + c') < v' * 2 ^ v.log2 * 2 ^ (c + c') := (Nat.mul_lt_mul_right (Nat.two_pow_pos (c + c'))).symm
  rw [m1, e1, e2, Nat.mul_lt_mul_right (Nat.two_pow_pos _)]
  omega

/-- What ldexp reckons with, when what comes out is normal. -/
theorem ld_normal {g n c k : Nat} (H : Norm g n c) (x : Nat) (hx : (x : Int) = k - c + (n / 4503599627370496 : Nat)) (h1 : 1 ≤ x) :
    V double (x * 4503599627370496 + n % 4503599627370496) = V double g * 2 ^ k := by
  have hm := Nat.mod_lt n (show 0 < 4503599627370496 by omega)
  have hx1 : 4503599627370496 ≤ x * 4503599627370496 + n % 4503599627370496 := by omega
  rw [V_d _ hx1]
  have d1 : (x * 4503599627370496 + n % 4503599627370496) / 4503599627370496 = x := by omega
  have d2 : (x * 4503599627370496 + n % 4503599627370496) % 4503599627370496 = n % 4503599627370496 := by omega
  rw [d1, d2]
  have hf := H.form
  have lo := H.lo
  generalize hk : n / 4503599627370496 = q at *
  have q1 : 1 ≤ q := by omega
  apply Nat.eq_of_mul_eq_mul_right (Nat.two_pow_pos c)
  rw [Nat.mul_assoc, ← Nat.pow_add, show V double g * 2 ^ k * 2 ^ c = V double g * 2 ^ c * 2 ^ k by ac_rfl, hf, Nat.mul_assoc, ← Nat.pow_add]
  congr 2
  omega

/-- .. and when it is not. -/
theorem ld_small {g n c k : Nat} (H : Norm g n c) (x : Nat) (hx : (x : Int) = k - c + (n / 4503599627370496 : Nat) + 53) (h1 : 1 ≤ x) :
    V double (x * 4503599627370496 + n % 4503599627370496) = V double g * 2 ^ k * 2 ^ 53 := by
  have := ld_normal (k := k + 53) H x (by omega) h1
  rw [this, Nat.pow_add, Nat.mul_assoc]

/-- 1 times something. -/
theorem one_mul_d (h : Nat) (hh : h < 9218868437227405312) : double.mul 4607182418800017408 h = some h := by
  have hr : double.read 4607182418800017408 = .number false (2 ^ double.fractionBits) (-52) := by decide
  exact (mul_pow double 4607182418800017408 h h 0 0 (-52) (by rw [d_inf, d_sign]; omega) hr (by rw [d_inf]; exact hh) (by rw [d_inf]; exact hh) (by rw [d_frac]; rfl) rfl).1

theorem tiny_mul_d (h0 h : Nat) (hh0 : h0 < 9218868437227405312) (hh : h < 9218868437227405312) (e : V double h0 = V double h * 2 ^ 53) :
    double.mul 4368491638549381120 h0 = some h := by
  have hr : double.read 4368491638549381120 = .number false (2 ^ double.fractionBits) (-105) := by decide
  exact (mul_pow double 4368491638549381120 h0 h 0 53 (-105) (by rw [d_inf, d_sign]; omega) hr (by rw [d_inf]; exact hh0) (by rw [d_inf]; exact hh) (by rw [d_frac]; rfl) (by rw [e, Nat.pow_zero, Nat.mul_one])).1

/-- What is y times a power of two has a rung, if it is not beyond. -/
theorem rep_pow (g k : Nat) (h : V double g * 2 ^ k < 2 ^ 2098) : ∃ s, s < 9218868437227405312 ∧ V double s = V double g * 2 ^ k := by
  have e : V double g * 2 ^ k = mag double g * 2 ^ (up double g + k) := by
    unfold V
    rw [Nat.mul_assoc, ← Nat.pow_add]
  obtain ⟨s, h1, h2⟩ := rep_of double (mag double g) (up double g + k) (mag_lt double g) (by rw [← e, d_inf, V_inf]; exact h)
  rw [d_inf] at h1
  exact ⟨s, h1, by rw [h2, e]⟩

end Go.Proofs.Ytjnelkpgdjphmaa.Nm

namespace Go.Proofs.Ytjnelkpgdjphmaa.Nm
open Ieee

/-- The lesser number, made as great as the other: y, and whether there is more. -/
def Yd (B : Nat) (i j : Int) (Y : Nat) (Mo : Bool) : Prop :=
  (i - 10 ≤ j ∧ Y = B * 2 ^ (j - (i - 10)).toNat ∧ Mo = false) ∨ (j < i - 10 ∧ Y = B / 2 ^ (i - 10 - j).toNat ∧ Mo = decide (B % 2 ^ (i - 10 - j).toNat ≠ 0))

theorem pow_split (A : Nat) (a b c : Nat) (h : a + b = c) : A * 2 ^ a * 2 ^ b = A * 2 ^ c := by
  rw [Nat.mul_assoc, ← Nat.pow_add, h]

theorem add_same (f : Format) (s : Bool) (A B : Nat) (i j : Int) (Y : Nat) (Mo : Bool) (hji : j ≤ i) (hA : j < i → 2 ^ f.fractionBits ≤ A) (h : Yd B i j Y Mo) :
    ((Datum.number s A i).sum (.number s B j)).map f.write = some (close f s (A * 2 ^ 10 + Y) (i - 10) Mo) := by
  rw [sum_same s A B i j hji, Option.map_some, write_number]
  congr 1
  rcases h with ⟨h1, rfl, rfl⟩ | ⟨h1, rfl, rfl⟩
  · symm
    refine close_scale' f s _ _ (j - (i - 10)).toNat j (i - 10) ?_ (by omega)
    rw [Nat.add_mul, pow_split A _ _ 10 (by omega)]
  · symm
    refine close_rest f s _ (i - 10 - j).toNat (B % 2 ^ (i - 10 - j).toNat) _ (i - 10) j _ ?_ (by omega) (Nat.mod_lt _ (Nat.two_pow_pos _)) rfl ?_
    · rw [Nat.add_mul, pow_split A 10 _ (i - j).toNat (by omega), Nat.add_assoc, Nat.mul_comm (B / _), Nat.div_add_mod]
    · have hA' := hA (by omega)
      have : 2 ^ (f.fractionBits + 1) ≤ 2 ^ (f.fractionBits + 10) := Nat.pow_le_pow_right (by omega) (by omega)
      have h3 : 2 ^ f.fractionBits * 2 ^ 10 ≤ A * 2 ^ 10 := Nat.mul_le_mul_right _ hA'
      rw [← Nat.pow_add] at h3
      generalize B / 2 ^ (i - 10 - j).toNat = g
      omega

theorem add_less (f : Format) (s t : Bool) (A B : Nat) (i j : Int) (Y : Nat) (Mo : Bool) (hst : s ≠ t) (hji : j ≤ i) (hA : j < i → 2 ^ f.fractionBits ≤ A) (hB : B < 2 ^ (f.fractionBits + 1)) (h : Yd B i j Y Mo) (hxy : A * 2 ^ 10 < Y) :
    ((Datum.number s A i).sum (.number t B j)).map f.write = some (close f t (Y - A * 2 ^ 10) (i - 10) false) := by
  rcases h with ⟨h1, rfl, rfl⟩ | ⟨h1, rfl, rfl⟩
  · have hP : A * 2 ^ (i - j).toNat < B := by
      have e : A * 2 ^ (i - j).toNat * 2 ^ (j - (i - 10)).toNat = A * 2 ^ 10 := pow_split A _ _ 10 (by omega)
      rw [← e] at hxy
      exact Nat.lt_of_mul_lt_mul_right hxy
    rw [sum_lt s t A B i j hji hst hP, Option.map_some, write_number]
    congr 1
    symm
    refine close_scale' f t _ _ (j - (i - 10)).toNat j (i - 10) ?_ (by omega)
    rw [Nat.sub_mul, pow_split A _ _ 10 (by omega)]
  · have hA' := hA (by omega)
    have h3 : 2 ^ f.fractionBits * 2 ^ 10 ≤ A * 2 ^ 10 := Nat.mul_le_mul_right _ hA'
    have h4 := Nat.div_le_self B (2 ^ (i - 10 - j).toNat)
    have h5 : 2 ^ (f.fractionBits + 1) = 2 ^ f.fractionBits * 2 := Nat.pow_succ ..
    omega

theorem add_none (f : Format) (s t : Bool) (A B : Nat) (i j : Int) (Y : Nat) (hst : s ≠ t) (hji : j ≤ i) (h : Yd B i j Y false) (hA : j < i → 2 ^ f.fractionBits ≤ A) (hB : B < 2 ^ (f.fractionBits + 1)) (hxy : A * 2 ^ 10 = Y) :
    ((Datum.number s A i).sum (.number t B j)).map f.write = some 0 := by
  rcases h with ⟨h1, rfl, _⟩ | ⟨h1, rfl, _⟩
  · have hP : A * 2 ^ (i - j).toNat = B := by
      have e : A * 2 ^ (i - j).toNat * 2 ^ (j - (i - 10)).toNat = A * 2 ^ 10 := pow_split A _ _ 10 (by omega)
      rw [← e] at hxy
      exact Nat.eq_of_mul_eq_mul_right (Nat.two_pow_pos _) hxy
    rw [sum_eq s t A B i j hji hst hP, Option.map_some, write_number]
    simp [close, Format.word]
  · have hA' := hA (by omega)
    have h3 : 2 ^ f.fractionBits * 2 ^ 10 ≤ A * 2 ^ 10 := Nat.mul_le_mul_right _ hA'
    have h4 := Nat.div_le_self B (2 ^ (i - 10 - j).toNat)
    have h5 : 2 ^ (f.fractionBits + 1) = 2 ^ f.fractionBits * 2 := Nat.pow_succ ..
    have := Nat.two_pow_pos f.fractionBits
    omega

theorem add_more (f : Format) (s t : Bool) (A B : Nat) (i j : Int) (Y : Nat) (Mo : Bool) (hst : s ≠ t) (hji : j ≤ i) (hA : j < i → 2 ^ f.fractionBits ≤ A) (hB : B < 2 ^ (f.fractionBits + 1)) (h : Yd B i j Y Mo) (hxy : Y < A * 2 ^ 10) :
    ((Datum.number s A i).sum (.number t B j)).map f.write = some (close f s (A * 2 ^ 10 - Y - Mo.toNat) (i - 10) Mo) := by
  rcases h with ⟨h1, rfl, rfl⟩ | ⟨h1, rfl, rfl⟩
  · have hP : B < A * 2 ^ (i - j).toNat := by
      have e : A * 2 ^ (i - j).toNat * 2 ^ (j - (i - 10)).toNat = A * 2 ^ 10 := pow_split A _ _ 10 (by omega)
      rw [← e] at hxy
      exact Nat.lt_of_mul_lt_mul_right hxy
    rw [sum_gt s t A B i j hji hst hP, Option.map_some, write_number]
    congr 1
    symm
    refine close_scale' f s _ _ (j - (i - 10)).toNat j (i - 10) ?_ (by omega)
    rw [Nat.sub_mul, pow_split A _ _ 10 (by omega)]
    rfl
  · have hA' := hA (by omega)
    have h3 : 2 ^ f.fractionBits * 2 ^ 10 ≤ A * 2 ^ 10 := Nat.mul_le_mul_right _ hA'
    have h4 := Nat.div_le_self B (2 ^ (i - 10 - j).toNat)
    have h5 : 2 ^ (f.fractionBits + 1) = 2 ^ f.fractionBits * 2 := Nat.pow_succ ..
    have hp := Nat.two_pow_pos f.fractionBits
    have e : A * 2 ^ 10 * 2 ^ (i - 10 - j).toNat = A * 2 ^ (i - j).toNat := pow_split A 10 _ _ (by omega)
    have hdm := Nat.div_add_mod B (2 ^ (i - 10 - j).toNat)
    have hml := Nat.mod_lt B (Nat.two_pow_pos (i - 10 - j).toNat)
    have hpS := Nat.two_pow_pos (i - 10 - j).toNat
    have hP : B < A * 2 ^ (i - j).toNat := by
      rw [← e]
      have : A * 2 ^ 10 * 1 ≤ A * 2 ^ 10 * 2 ^ (i - 10 - j).toNat := Nat.mul_le_mul_left _ hpS
      omega
    rw [sum_gt s t A B i j hji hst hP, Option.map_some, write_number]
    congr 1
    symm
    generalize hS : 2 ^ (i - 10 - j).toNat = D at *
    have hmul : (A * 2 ^ 10 - B / D) * D = A * 2 ^ (i - j).toNat - D * (B / D) := by rw [Nat.sub_mul, e, Nat.mul_comm (B / D)]
    by_cases hr : B % D = 0
    · have : decide (B % D ≠ 0) = false := by simp [hr]
      rw [this]
      refine (close_scale' f s (A * 2 ^ 10 - B / D - false.toNat) (A * 2 ^ (i - j).toNat - B) (i - 10 - j).toNat (i - 10) j ?_ (by omega)).symm
      rw [hS]
      show A * 2 ^ (i - j).toNat - B = (A * 2 ^ 10 - B / D) * D
      rw [hmul]
      omega
    · have : decide (B % D ≠ 0) = true := by simp [hr]
      rw [this]
      refine close_rest f s _ (i - 10 - j).toNat (D - B % D) _ (i - 10) j _ ?_ (by omega) (by rw [hS]; omega) (by rw [eq_comm, decide_eq_true_iff]; omega) ?_
      · rw [hS]
        show A * 2 ^ (i - j).toNat - B = (A * 2 ^ 10 - B / D - 1) * D + (D - B % D)
        rw [Nat.sub_mul _ 1, hmul, Nat.one_mul]
        have h6 : D * (B / D) + D ≤ A * 2 ^ (i - j).toNat := by
          rw [← e]
          have : D * (B / D + 1) ≤ D * (A * 2 ^ 10) := Nat.mul_le_mul_left _ (by omega)
          rw [Nat.mul_succ, Nat.mul_comm D (A * 2 ^ 10)] at this
          exact this
        omega
      · show 2 ^ (f.fractionBits + 1) ≤ A * 2 ^ 10 - B / D - 1
        omega

end Go.Proofs.Ytjnelkpgdjphmaa.Nm

namespace Go.Proofs.Ytjnelkpgdjphmaa.Nm
open Ieee

/-- A product by halves. -/
theorem mul_parts (a1 a0 b1 b0 : Nat) :
    (a1 * 4294967296 + a0) * (b1 * 4294967296 + b0) =
      (a1 * b1 + (a1 * b0 + b1 * a0 + a0 * b0 / 4294967296) / 4294967296) * 18446744073709551616 +
        ((a1 * b0 + b1 * a0 + a0 * b0 / 4294967296) % 4294967296 * 4294967296 + a0 * b0 % 4294967296) := by
  have e : (a1 * 4294967296 + a0) * (b1 * 4294967296 + b0) = a1 * b1 * 18446744073709551616 + (a1 * b0 + b1 * a0) * 4294967296 + a0 * b0 := by
    rw [Nat.add_mul, Nat.mul_add, Nat.mul_add]
    have x1 : a1 * 4294967296 * (b1 * 4294967296) = a1 * b1 * 18446744073709551616 := by
      rw [Nat.mul_mul_mul_comm]
    have x2 : a1 * 4294967296 * b0 = a1 * b0 * 4294967296 := by rw [Nat.mul_right_comm]
    have x3 : a0 * (b1 * 4294967296) = b1 * a0 * 4294967296 := by rw [← Nat.mul_assoc, Nat.mul_comm a0 b1]
    rw [x1, x2, x3]
    omega
  rw [e]
  generalize a1 * b1 = p
  generalize a1 * b0 = q
  generalize b1 * a0 = r
  generalize a0 * b0 = z
  omega

theorem product_eq (f : Format) (s t : Bool) (A B : Nat) (i j : Int) : ((Datum.number s A i).product (.number t B j)).map f.write = some (close f (s ^^ t) (A * B) (i + j) false) := by
  simp only [Datum.product, Option.map_some, write_number]

theorem mul_long (f : Format) (neg : Bool) (P Hh Rr n : Nat) (e : Int) (hf : f.fractionBits ≤ 52) (hP : P = Hh * 18446744073709551616 + Rr) (hR : Rr < 18446744073709551616) (hn : 1 ≤ n) (hn2 : n ≤ 64)
    (h1 : 2 ^ (n - 1) ≤ Hh) (h2 : Hh < 2 ^ n) :
    close f neg P e false = close f neg (Hh * 2 ^ (64 - n) + Rr / 2 ^ n) (e + n) (decide (Rr % 2 ^ n ≠ 0)) ∧
    Hh * 2 ^ (64 - n) + Rr / 2 ^ n < 18446744073709551616 ∧ Hh * 2 ^ (64 - n) < 18446744073709551616 := by
  have hp := Nat.two_pow_pos n
  have e64 : 2 ^ (64 - n) * 2 ^ n = 18446744073709551616 := by rw [← Nat.pow_add, show 64 - n + n = 64 by omega]
  have hU : Hh * 2 ^ (64 - n) + 2 ^ (64 - n) ≤ 18446744073709551616 := by
    have : (Hh + 1) * 2 ^ (64 - n) ≤ 2 ^ n * 2 ^ (64 - n) := Nat.mul_le_mul_right _ h2
    rw [Nat.mul_comm (2 ^ n), e64, Nat.succ_mul] at this
    exact this
  have hV : Rr / 2 ^ n < 2 ^ (64 - n) := by
    rw [Nat.div_lt_iff_lt_mul hp, e64]
    exact hR
  refine ⟨?_, by omega, by have := Nat.two_pow_pos (64 - n); omega⟩
  symm
  refine close_rest f neg _ n (Rr % 2 ^ n) P (e + n) e _ ?_ (by omega) (Nat.mod_lt _ hp) rfl ?_
  · rw [Nat.add_mul, Nat.mul_assoc, e64, Nat.add_assoc, Nat.mul_comm (Rr / 2 ^ n), Nat.div_add_mod, hP]
  · have h3 : 2 ^ (n - 1) * 2 ^ (64 - n) ≤ Hh * 2 ^ (64 - n) := Nat.mul_le_mul_right _ h1
    rw [← Nat.pow_add, show n - 1 + (64 - n) = 63 by omega] at h3
    have h4 : 2 ^ (f.fractionBits + 1) ≤ 2 ^ 53 := Nat.pow_le_pow_right (by omega) (by omega)
    generalize Rr / 2 ^ n = g
    omega

theorem mul_mark (Rr n : Nat) (hn : 1 ≤ n) (hn2 : n ≤ 64) : (Rr * 2 ^ (64 - n) % 18446744073709551616 = 0) ↔ Rr % 2 ^ n = 0 := by
  have e64 : (18446744073709551616 : Nat) = 2 ^ n * 2 ^ (64 - n) := by rw [← Nat.pow_add, show n + (64 - n) = 64 by omega]
  rw [e64, Nat.mul_mod_mul_right]
  have := Nat.two_pow_pos (64 - n)
  constructor
  · intro h
    rcases Nat.mul_eq_zero.1 h with h | h
    · exact h
    · omega
  · intro h
    rw [h, Nat.zero_mul]

end Go.Proofs.Ytjnelkpgdjphmaa.Nm

namespace Go.Proofs.Ytjnelkpgdjphmaa.Nm
open Ieee

theorem V_infs : V single 2139095040 = 2 ^ 277 := by
  have h1 : mag single 2139095040 = 2 ^ 23 := by decide
  have h2 : up single 2139095040 = 254 := by decide
  unfold V
  rw [h1, h2]
  exact pow_key 23 254 277 rfl
theorem pow_move (m u d : Nat) : m * 2 ^ u * 2 ^ d = m * 2 ^ (u + d) := by rw [Nat.mul_assoc, ← Nat.pow_add]
theorem V_move (X : Nat) : V single X * 2 ^ 925 = mag single X * 2 ^ (up single X + 925) := pow_move (mag single X) (up single X) 925

theorem lt_shift {a b c d e : Nat} (h : a < 2 ^ b) (h1 : b + c = d) (h2 : d < e) : a * 2 ^ c < 2 ^ e := by
  have h3 : a * 2 ^ c < 2 ^ b * 2 ^ c := Nat.mul_lt_mul_of_pos_right h (Nat.two_pow_pos c)
  rw [pow_key b c d h1] at h3
  exact Nat.lt_trans h3 (pow_up h2)

/-- A float as a double: the same number. -/
theorem wide (X : Nat) (h : X < 2139095040) : ∃ g, g < 9218868437227405312 ∧ V double g = V single X * 2 ^ 925 := by
  have hv : V single X < 2 ^ 277 := by
    have := V_mono single h
    rwa [V_infs] at this
  have hm := mag_lt single X
  have e := V_move X
  obtain ⟨g, g1, g2⟩ := rep_of double (mag single X) (up single X + 925)
    (Nat.lt_of_lt_of_le hm (Nat.pow_le_pow_right (by decide) (by decide)))
    (by
      rw [← e, d_inf, V_inf]
      exact lt_shift (b := 277) (c := 925) (d := 1202) (e := 2098) hv rfl (by decide))
  rw [d_inf] at g1
  exact ⟨g, g1, by rw [g2, e]⟩

/-- The nearest double of a float is that number. -/
theorem wide_close (X g : Nat) (s : Bool) (hg : g < 9218868437227405312) (hv : V double g = V single X * 2 ^ 925) :
    close double s (mag single X) (-149 + (up single X : Nat)) false = double.word s g := by
  have h1 := close_V double s g (by rw [d_inf]; omega)
  rw [← h1, hv, d_least]
  have e := V_move X
  rw [e]
  exact (close_scale' double s (mag single X) _ (up single X + 925) (-149 + (up single X : Nat)) (-1074) rfl (by omega)).symm

/-- A double that is a float: its nearest float is that. -/
theorem thin_close (h g : Nat) (s : Bool) (hh : h < 2139095040) (hv : V double g = V single h * 2 ^ 925) :
    close single s (mag double g) (-1074 + (up double g : Nat)) false = single.word s h := by
  have h1 := close_V single s h (by rw [s_inf]; omega)
  rw [← h1, s_least]
  rw [← close_scale' single s (mag double g) (V double g) (up double g) (-1074 + (up double g : Nat)) (-1074) rfl (by omega)]
  exact close_scale' single s (V single h) _ 925 (-149) (-1074) hv (by omega)

/-- What is left of two floats is a float. -/
theorem left_rep (f : Format) (X Y : Nat) (hX : X < f.infRung) (hY : Y < f.infRung) (hY0 : V f Y ≠ 0) : ∃ g, g < f.infRung ∧ V f g = V f X % V f Y := by
  by_cases hu : up f X < up f Y
  · have hXY : X < Y := by
      apply Decidable.byContradiction
      intro hc
      have := up_mono f (show Y ≤ X by omega)
      omega
    exact ⟨X, hX, (Nat.mod_eq_of_lt (V_mono f hXY)).symm⟩
  · have e1 : V f X = mag f X * 2 ^ (up f X - up f Y) * 2 ^ up f Y := by
      unfold V
      rw [Nat.mul_assoc, ← Nat.pow_add]
      congr 2
      omega
    have e2 : V f X % V f Y = (mag f X * 2 ^ (up f X - up f Y) % mag f Y) * 2 ^ up f Y := by
      rw [e1]
      unfold V
      rw [Nat.mul_mod_mul_right]
    have hm : 0 < mag f Y := by
      apply Nat.pos_of_ne_zero
      intro h0
      apply hY0
      unfold V
      rw [h0, Nat.zero_mul]
    have hlt := Nat.mod_lt (mag f X * 2 ^ (up f X - up f Y)) hm
    have hmy := mag_lt f Y
    rw [e2]
    apply rep_of
    · omega
    · rw [← e2]
      exact Nat.lt_trans (Nat.mod_lt _ (Nat.pos_of_ne_zero hY0)) (V_mono f hY)

theorem V_none (n : Nat) : V single 0 * n = 0 := by rw [V_zero, Nat.zero_mul]
theorem V_pos (f : Format) (g : Nat) (h : g ≠ 0) : V f g ≠ 0 := by
  have := V_mono f (Nat.pos_of_ne_zero h)
  rw [V_zero] at this
  omega

end Go.Proofs.Ytjnelkpgdjphmaa.Nm
