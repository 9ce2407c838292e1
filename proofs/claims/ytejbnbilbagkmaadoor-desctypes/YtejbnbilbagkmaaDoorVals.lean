/-
  Plain mathematics of a method's descriptor. Nothing of the program is named here.
-/
import Derived.Test.YtejbnbilbagkmaaDoorBase
namespace Go.Proofs.YtejbnbilbagkmaaDoor
open Go.RowKit
/-- The descriptors of values with which it begins, and what is behind. -/
def V (l : List UInt8) : List (List UInt8) × List UInt8 :=
  if _h : valLen l = 0 then ([], l) else (l.take (valLen l) :: (V (l.drop (valLen l))).1, (V (l.drop (valLen l))).2)
  termination_by l.length
  decreasing_by all_goals (simp only [List.length_drop]; have := val_le l; omega)
theorem V_none {l : List UInt8} (h : valLen l = 0) : V l = ([], l) := by rw [V, dif_pos h]
theorem V_some {l : List UInt8} (h : valLen l ≠ 0) : V l = (l.take (valLen l) :: (V (l.drop (valLen l))).1, (V (l.drop (valLen l))).2) := by rw [V, dif_neg h]
theorem V_flat (n : Nat) : ∀ l : List UInt8, l.length = n → (V l).1.flatten ++ (V l).2 = l := by
  induction n using Nat.strongRecOn with
  | ind n ih =>
    intro l hl
    by_cases h : valLen l = 0
    · rw [V_none h]; simp
    · have hv := val_le l
      rw [V_some h]
      simp only [List.flatten_cons, List.append_assoc]
      rw [ih _ (by rw [List.length_drop]; omega) (l.drop (valLen l)) rfl, List.take_append_drop]
def slotN (l : List UInt8) : Nat := if l = [74] ∨ l = [68] then 2 else if l = [86] then 0 else 1
def slotsN (L : List (List UInt8)) : Nat := (L.map slotN).sum
theorem slotN_le (l : List UInt8) : slotN l ≤ 2 := by unfold slotN; split <;> (try split) <;> omega
theorem slots_snoc (L : List (List UInt8)) (l : List UInt8) : slotsN (L ++ [l]) = slotsN L + slotN l := by simp [slotsN]
theorem slots_le (L : List (List UInt8)) : slotsN L ≤ 2 * L.length := by
  induction L with
  | nil => simp [slotsN]
  | cons l L ih => have := slotN_le l; simp only [slotsN, List.map_cons, List.sum_cons, List.length_cons] at ih ⊢; omega
theorem slots_take {L : List (List UInt8)} {k : Nat} {l : List UInt8} (h : L[k]? = some l) : slotsN (L.take (k + 1)) = slotsN (L.take k) + slotN l := by
  rw [List.take_add_one, h]; exact slots_snoc _ _
/-- What is left to be cut, and what is cut. -/
def Cut (l : List UInt8) (L : List (List UInt8)) (t : List UInt8) : Prop := V l = (L ++ (V t).1, (V t).2) ∧ L.length + t.length ≤ l.length
theorem Cut.zero (l : List UInt8) : Cut l [] l := ⟨by simp, by simp⟩
theorem Cut.step {l t : List UInt8} {L : List (List UInt8)} (h : Cut l L t) (hv : valLen t ≠ 0) : Cut l (L ++ [t.take (valLen t)]) (t.drop (valLen t)) := by
  refine ⟨?_, ?_⟩
  · rw [h.1, V_some hv]; simp
  · have := h.2
    have := val_le t
    simp only [List.length_append, List.length_singleton, List.length_drop]; omega
theorem Cut.done {l t : List UInt8} {L : List (List UInt8)} (h : Cut l L t) (hv : valLen t = 0) : V l = (L, t) := by
  rw [h.1, V_none hv]; simp
/-- The descriptor of a method. -/
def giveB (g : List UInt8) : Bool := (g == [86]) || fieldB g
def meth : List UInt8 → Option (List (List UInt8) × List UInt8)
  | [] => none
  | b :: t => if b = 40 then (match (V t).2 with
    | [] => none
    | c :: g => if c = 41 ∧ slotsN (V t).1 ≤ 254 ∧ giveB g = true then some ((V t).1, g) else none) else none
theorem meth_no {b : UInt8} {t : List UInt8} (h : b ≠ 40) : meth (b :: t) = none := by rw [meth, if_neg h]
theorem meth_end {t : List UInt8} {L : List (List UInt8)} (h : V t = (L, [])) : meth (40 :: t) = none := by rw [meth, if_pos rfl, h]
theorem meth_cons {t : List UInt8} {L : List (List UInt8)} {c : UInt8} {g : List UInt8} (h : V t = (L, c :: g)) : meth (40 :: t) = if c = 41 ∧ slotsN L ≤ 254 ∧ giveB g = true then some (L, g) else none := by rw [meth, if_pos rfl, h]
theorem meth_whole {l : List UInt8} {L : List (List UInt8)} {g : List UInt8} (h : meth l = some (L, g)) : 40 :: (L.flatten ++ 41 :: g) = l := by
  cases l with
  | nil => cases h
  | cons b t =>
    by_cases hb : b = 40
    · subst hb
      have hf := V_flat t.length t rfl
      cases hV : V t with
      | mk L' r =>
        rw [hV] at hf
        cases r with
        | nil => rw [meth_end hV] at h; cases h
        | cons c g' =>
          rw [meth_cons hV] at h
          split at h
          · rename_i hc
            cases h
            obtain ⟨rfl, _⟩ := hc
            rw [← hf]
          · cases h
    · rw [meth_no hb] at h; cases h
theorem meth_len {l : List UInt8} {L : List (List UInt8)} {g : List UInt8} (h : meth l = some (L, g)) : L.flatten.length + g.length + 2 = l.length := by
  rw [← meth_whole h]; simp; omega
theorem V_count (n : Nat) : ∀ l : List UInt8, l.length = n → (V l).1.length ≤ l.length := by
  induction n using Nat.strongRecOn with
  | ind n ih =>
    intro l hl
    by_cases h : valLen l = 0
    · rw [V_none h]; simp
    · have hv := val_le l
      rw [V_some h]
      have := ih _ (by rw [List.length_drop]; omega) (l.drop (valLen l)) rfl
      simp only [List.length_drop, List.length_cons] at this ⊢
      omega
theorem meth_count {l : List UInt8} {L : List (List UInt8)} {g : List UInt8} (h : meth l = some (L, g)) : L.length ≤ l.length := by
  cases l with
  | nil => cases h
  | cons b t =>
    by_cases hb : b = 40
    · subst hb
      have hf := V_count t.length t rfl
      cases hV : V t with
      | mk L' r =>
        rw [hV] at hf
        cases r with
        | nil => rw [meth_end hV] at h; cases h
        | cons c g' =>
          rw [meth_cons hV] at h
          split at h
          · cases h
            simp only [List.length_cons]; simp only at hf; omega
          · cases h
    · rw [meth_no hb] at h; cases h
/-- A list of texts, as cells hold it. -/
def SV (L : List (List UInt8)) : List Value := L.map fun l => Value.string ⟨l.toArray⟩
theorem SV_snoc (L : List (List UInt8)) (l : List UInt8) : SV (L ++ [l]) = SV L ++ [.string ⟨l.toArray⟩] := by simp [SV]
theorem own_below {w w' : World} {base size n : Nat} {e : TypeId} {v : Value} {xs : List Value} (h : w.ownsRow base e size v n xs) {B : Nat} (hB : w.heap.size ≤ B) (hb : Below B w w') : w'.ownsRow base e size v n xs := by
  refine ⟨h.1, ?_⟩
  rcases h.2 with h2 | ⟨g, cap, cur, hv, h3, h4, h5⟩
  · exact .inl h2
  · refine .inr ⟨g, cap, cur, hv, h3, ?_, h5⟩
    rw [hb.block g ?_]
    · exact h4
    · rcases Nat.lt_or_ge g w.heap.size with hg | hg
      · omega
      · rw [Array.getElem?_eq_none hg] at h4; cases h4
end Go.Proofs.YtejbnbilbagkmaaDoor
