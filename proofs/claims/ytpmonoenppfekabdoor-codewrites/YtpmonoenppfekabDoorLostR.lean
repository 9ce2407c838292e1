/-
  The reference's second pass: targets at which none begins.
-/
import Derived.Test.YtpmonoenppfekabDoorBegin
namespace Go.Proofs.YtpmonoenppfekabDoor
open Go.RowKit
namespace M
def hits (n : Nat) (bl : List Bool) (t : Int) : Bool := decide (t < 0) || (decide ((n : Int) ≤ t) || !(bl.getD t.toNat false))
def lostB (n : Nat) (bl : List Bool) (i : I) : Bool := i.tgts.any (hits n bl)
def step2 (n : Nat) (bl : List Bool) (st : St) (i : I) : St := if lostB n bl i then fail st 16 i.at_ else st
def after2 (n : Nat) (bl : List Bool) (st : St) (l : List I) : St := l.foldl (step2 n bl) st
theorem fail_twice (st : St) (e p : Nat) (he : e ≠ 0) : fail (fail st e p) e p = fail st e p := by
  by_cases h : st.e = 0
  · have : (fail st e p).e ≠ 0 := by unfold fail; rw [if_pos h]; exact he
    exact fail_bad this
  · rw [fail_bad h, fail_bad h]
theorem step2_bad {n : Nat} {bl : List Bool} {st : St} {i : I} (h : st.e ≠ 0) : step2 n bl st i = st := by
  unfold step2; split
  · exact fail_bad h
  · rfl
theorem after2_bad {n : Nat} {bl : List Bool} {st : St} (h : st.e ≠ 0) : ∀ l, after2 n bl st l = st
  | [] => rfl
  | i :: l => by
    show after2 n bl (step2 n bl st i) l = st
    rw [step2_bad h]; exact after2_bad h l
theorem after2_take {n : Nat} {bl : List Bool} {st : St} (l : List I) (k : Nat) (hk : k < l.length) : after2 n bl st (l.take (k + 1)) = step2 n bl (after2 n bl st (l.take k)) l[k] := by
  unfold after2
  rw [List.take_add_one, List.getElem?_eq_getElem hk, List.foldl_append]
  rfl
/-- What the first k targets have left. -/
def part2 (n : Nat) (bl : List Bool) (st : St) (i : I) (k : Nat) : St := if (i.tgts.take k).any (hits n bl) then fail st 16 i.at_ else st
theorem part2_zero (n : Nat) (bl : List Bool) (st : St) (i : I) : part2 n bl st i 0 = st := by simp [part2]
theorem part2_all (n : Nat) (bl : List Bool) (st : St) (i : I) : part2 n bl st i i.tgts.length = step2 n bl st i := by simp [part2, step2, lostB]
theorem part2_next (n : Nat) (bl : List Bool) (st : St) (i : I) (k : Nat) (hk : k < i.tgts.length) : part2 n bl st i (k + 1) = if hits n bl i.tgts[k] then fail (part2 n bl st i k) 16 i.at_ else part2 n bl st i k := by
  unfold part2
  rw [List.take_add_one, List.getElem?_eq_getElem hk]
  simp only [Option.toList_some, List.any_append, List.any_cons, List.any_nil, Bool.or_false]
  by_cases h1 : (i.tgts.take k).any (hits n bl) = true
  · rw [h1]
    simp only [Bool.true_or, if_true]
    split
    · rw [fail_twice _ _ _ (by decide)]
    · rfl
  · rw [Bool.not_eq_true] at h1
    rw [h1]
    simp
theorem hits_begins {n : Nat} {bl : List Bool} {l : List I} (h : Marks n bl l) (hl : ∀ i ∈ l, i.at_ < n) (t : Int) : hits n bl t = !begins l t := by
  unfold hits
  by_cases h1 : t < 0
  · rw [begins_out hl (.inl h1)]; simp [h1]
  · by_cases h2 : (n : Int) ≤ t
    · rw [begins_out hl (.inr h2)]; simp [h2]
    · have := h.2 t.toNat (by omega)
      rw [this, show ((t.toNat : Nat) : Int) = t by omega]
      simp [h1, h2]
theorem lostB_eq {n : Nat} {bl : List Bool} {l : List I} (h : Marks n bl l) (hl : ∀ i ∈ l, i.at_ < n) (i : I) : lostB n bl i = lost l i := by
  unfold lostB lost
  congr 1
  funext t
  exact hits_begins h hl t
theorem after2_find {n : Nat} {bl : List Bool} {p : Nat} : ∀ l, after2 n bl ⟨p, 0, 0⟩ l = match l.find? (lostB n bl) with
    | none => ⟨p, 0, 0⟩
    | some i => ⟨p, 16, i.at_⟩
  | [] => rfl
  | i :: l => by
    show after2 n bl (step2 n bl ⟨p, 0, 0⟩ i) l = _
    by_cases h : lostB n bl i = true
    · have e : step2 n bl ⟨p, 0, 0⟩ i = ⟨p, 16, i.at_⟩ := by unfold step2; rw [if_pos h]; rfl
      rw [e, after2_bad (by simp), List.find?_cons_of_pos h]
    · have e : step2 n bl ⟨p, 0, 0⟩ i = ⟨p, 0, 0⟩ := by unfold step2; rw [if_neg h]
      rw [e, after2_find l, List.find?_cons_of_neg h]
end M
end Go.Proofs.YtpmonoenppfekabDoor
