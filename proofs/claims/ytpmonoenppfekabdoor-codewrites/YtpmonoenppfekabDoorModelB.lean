/-
  The reader's states against the plain answers.
-/
import Derived.Test.YtpmonoenppfekabDoorModel
namespace Go.Proofs.YtpmonoenppfekabDoor
namespace M
section
variable {s : List UInt8} {a : Nat}
theorem take_ok {k p : Nat} (h : a + k ≤ s.length) : take s k ⟨a, 0, p⟩ = (bs s a k, ⟨a + k, 0, p⟩) := by
  unfold take bs; rw [if_pos rfl, if_neg (by simp only; omega)]
theorem take_no {k p : Nat} (h : s.length - a < k) : take s k ⟨a, 0, p⟩ = ([], ⟨a, 1, s.length⟩) := by
  unfold take; rw [if_pos rfl, if_pos (by simp only; omega)]
theorem take_bad {k : Nat} {st : St} (h : st.e ≠ 0) : take s k st = ([], st) := by unfold take; rw [if_neg h]
theorem fail_bad {st : St} {e p : Nat} (h : st.e ≠ 0) : fail st e p = st := by unfold fail; rw [if_neg h]
theorem fail_ok {x y e p : Nat} : fail ⟨x, 0, y⟩ e p = ⟨x, e, p⟩ := rfl
end
/-- What becomes of the reader: the answer's place, or its error. -/
def Left {α : Type} (s : List UInt8) (st : St) (r : Except Er (α × Nat)) : Prop :=
  match r with
  | .ok (_, q) => st = ⟨q, 0, 0⟩
  | .error (e, p) => st.e = e ∧ st.p = p ∧ e ≠ 0 ∧ st.pos ≤ s.length
theorem take_zero {s : List UInt8} {st : St} (h : st.pos ≤ s.length) : take s 0 st = ([], st) := by
  unfold take; split
  · rw [if_neg (by omega)]; cases st; simp_all
  · rfl
theorem take_pos {s : List UInt8} {n : Nat} {st : St} (h : st.pos ≤ s.length) : (take s n st).2.pos ≤ s.length := by
  unfold take; split
  · split
    · exact h
    · simp only; omega
  · exact h
def after (s : List UInt8) (a : Nat) (L : Lay) (st : St) : St :=
  let r1 := take s L.a.size st
  let r2 := take s L.b.size r1.2
  let r3 := take s L.z.size r2.2
  let r4 := take s L.t.size r3.2
  if holds L.a (rd L.a r1.1) && holds L.b (rd L.b r2.1) && holds L.z (rd L.z r3.1) then r4.2 else fail r4.2 15 a
def made (s : List UInt8) (a op : Nat) (w : Bool) (L : Lay) (st : St) : I :=
  let r1 := take s L.a.size st
  let r2 := take s L.b.size r1.2
  let r3 := take s L.z.size r2.2
  let r4 := take s L.t.size r3.2
  ⟨a, op, w, rd L.a r1.1, rd L.b r2.1, 0, [], if L.t.size = 0 then [] else [(a : Int) + rd L.t r4.1]⟩
theorem after_no {s : List UInt8} {a : Nat} {L : Lay} {x y e p : Nat} (h : take s L.t.size (take s L.z.size (take s L.b.size (take s L.a.size ⟨x, 0, y⟩).2).2).2 = ([], ⟨e, 1, p⟩)) : after s a L ⟨x, 0, y⟩ = ⟨e, 1, p⟩ := by
  unfold after; simp only [h]; split
  · rfl
  · rfl
theorem plain_left {s : List UInt8} {a op b : Nat} {w : Bool} {L : Lay} (hb : b ≤ s.length) : Left s (after s a L ⟨b, 0, 0⟩) (plain s a op w b L) ∧ ∀ i q, plain s a op w b L = .ok (i, q) → i = made s a op w L ⟨b, 0, 0⟩ := by
  by_cases h1 : b + L.a.size ≤ s.length
  · by_cases h2 : b + L.a.size + L.b.size ≤ s.length
    · by_cases h3 : b + L.a.size + L.b.size + L.z.size ≤ s.length
      · by_cases h4 : b + L.a.size + L.b.size + L.z.size + L.t.size ≤ s.length
        · unfold after made plain
          simp only [take_ok h1, take_ok h2, take_ok h3, take_ok h4]
          have hlen : ¬ s.length < b + (L.a.size + L.b.size + L.z.size + L.t.size) := by omega
          simp only [if_neg hlen]
          by_cases hc : (holds L.a (rd L.a (bs s b L.a.size)) && holds L.b (rd L.b (bs s (b + L.a.size) L.b.size)) && holds L.z (rd L.z (bs s (b + L.a.size + L.b.size) L.z.size))) = true
          · simp only [if_pos hc]
            refine ⟨?_, fun i q h => ?_⟩
            · show (⟨_, 0, 0⟩ : St) = ⟨_, 0, 0⟩
              congr 1; omega
            · cases h; rfl
          · simp only [if_neg hc]
            refine ⟨⟨rfl, rfl, by omega, h4⟩, fun i q h => by cases h⟩
        · have : after s a L ⟨b, 0, 0⟩ = ⟨b + L.a.size + L.b.size + L.z.size, 1, s.length⟩ := after_no (by simp only [take_ok h1, take_ok h2, take_ok h3]; exact take_no (by omega))
          rw [this]; unfold plain; rw [if_pos (by omega)]
          exact ⟨⟨rfl, rfl, by omega, h3⟩, fun i q h => by cases h⟩
      · have : after s a L ⟨b, 0, 0⟩ = ⟨b + L.a.size + L.b.size, 1, s.length⟩ := after_no (by simp only [take_ok h1, take_ok h2]; rw [take_no (k := L.z.size) (by omega), take_bad (by simp)])
        rw [this]; unfold plain; rw [if_pos (by omega)]
        exact ⟨⟨rfl, rfl, by omega, h2⟩, fun i q h => by cases h⟩
    · have : after s a L ⟨b, 0, 0⟩ = ⟨b + L.a.size, 1, s.length⟩ := after_no (by simp only [take_ok h1]; rw [take_no (k := L.b.size) (by omega), take_bad (k := L.z.size) (by simp), take_bad (by simp)])
      rw [this]; unfold plain; rw [if_pos (by omega)]
      exact ⟨⟨rfl, rfl, by omega, h1⟩, fun i q h => by cases h⟩
  · have : after s a L ⟨b, 0, 0⟩ = ⟨b, 1, s.length⟩ := after_no (by rw [take_no (k := L.a.size) (by omega), take_bad (k := L.b.size) (by simp), take_bad (k := L.z.size) (by simp), take_bad (by simp)])
    rw [this]; unfold plain; rw [if_pos (by omega)]
    exact ⟨⟨rfl, rfl, by omega, hb⟩, fun i q h => by cases h⟩
theorem num_snoc (l : List UInt8) (b : UInt8) : num (l ++ [b]) = num l * 256 + b.toNat := by simp [num]
theorem num_take (l : List UInt8) (k : Nat) (hk : k < l.length) : num (l.take (k + 1)) = num (l.take k) * 256 + (l.getD k 0).toNat := by
  rw [List.take_add_one, List.getElem?_eq_getElem hk]; simp only [Option.toList_some, num_snoc, List.getD, List.getElem?_eq_getElem hk, Option.getD_some]
theorem num_lt (l : List UInt8) : num l < 256 ^ l.length := by
  suffices ∀ n, ∀ l : List UInt8, l.length = n → num l < 256 ^ n from this _ l rfl
  intro n
  induction n with
  | zero => intro l hl; rw [List.length_eq_zero_iff.1 hl]; simp [num]
  | succ n ih =>
    intro l hl
    have h1 := num_take l n (by omega)
    rw [List.take_of_length_le (by omega)] at h1
    have h2 := ih (l.take n) (by simp; omega)
    have h3 := (l.getD n 0).toNat_lt
    rw [h1, Nat.pow_succ]; omega
theorem take_len (s : List UInt8) (n : Nat) (st : St) : (take s n st).1.length ≤ n := by
  unfold take; split
  · split
    · simp
    · simp; omega
  · simp
theorem num_le {l : List UInt8} {n : Nat} (h : l.length ≤ n) : num l < 256 ^ n := Nat.lt_of_lt_of_le (num_lt l) (Nat.pow_le_pow_right (by omega) h)
theorem bs_len (s : List UInt8) (p n : Nat) : (bs s p n).length ≤ n := by unfold bs; exact List.length_take_le _ _
theorem sgn_bound {n x : Nat} (h : x < 256 ^ n) : -((256 ^ n : Nat) : Int) ≤ 2 * sgn n x ∧ 2 * sgn n x < ((256 ^ n : Nat) : Int) := by
  unfold sgn; split <;> omega
theorem w4_bound (s : List UInt8) (p : Nat) : -2147483648 ≤ w4 s p ∧ w4 s p ≤ 2147483647 := by
  have := sgn_bound (num_le (bs_len s p 4))
  have e : (256 ^ 4 : Nat) = 4294967296 := by decide
  rw [e] at this
  unfold w4; omega
theorem rd_bound (f : F) (l : List UInt8) (hl : l.length ≤ f.size) (hf : f.size ≤ 4) : -4294967296 ≤ rd f l ∧ rd f l ≤ 4294967295 := by
  have h1 := num_le hl
  have h2 : (256 ^ f.size : Nat) ≤ 256 ^ 4 := Nat.pow_le_pow_right (by omega) hf
  have e : (256 ^ 4 : Nat) = 4294967296 := by decide
  rw [e] at h2
  have := sgn_bound h1
  unfold rd; split <;> omega
end M
end Go.Proofs.YtpmonoenppfekabDoor
