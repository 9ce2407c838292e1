/-
  The reference's space: Major: what cannot be reached goes.
-/
import Derived.Test.YtaapakpanbfmlaaRg
namespace Go.Proofs.Ytaapakpanbfmlaa
namespace Rs
open Go.RowKit Hp
set_option linter.unusedVariables false
set_option linter.unusedSimpArgs false
/-- What is left of a thing that has gone. -/
def dead : Tv := ⟨⟨[], []⟩, .slice none 0 0, .slice none 0 0, true⟩
/-- The things, those before k that were not seen gone. -/
def sweep (seen : List Bool) (k : Nat) (L : List Tv) : List Tv := L.mapIdx fun i x => if i < k ∧ seen.getD i false = false then dead else x
theorem sweep_len (seen : List Bool) (k : Nat) (L : List Tv) : (sweep seen k L).length = L.length := by simp [sweep]
theorem sweep_get (seen : List Bool) (k : Nat) (L : List Tv) (i : Nat) : (sweep seen k L)[i]? = (L[i]?).map fun x => if i < k ∧ seen.getD i false = false then dead else x := by simp [sweep]
theorem sweep_zero (seen : List Bool) (L : List Tv) : sweep seen 0 L = L := by
  apply List.ext_getElem?
  intro i
  rw [sweep_get]; simp
theorem sweep_kept {seen : List Bool} {k : Nat} (L : List Tv) (h : seen.getD k false = true) : sweep seen (k + 1) L = sweep seen k L := by
  apply List.ext_getElem?
  intro i
  rw [sweep_get, sweep_get]
  congr 1
  funext x
  by_cases hi : i = k
  · subst hi; simp [List.getD_eq_getElem?_getD] at h ⊢; simp [h]
  · have : i < k + 1 ↔ i < k := by omega
    simp [this]
theorem sweep_gone {seen : List Bool} {k : Nat} (L : List Tv) (h : seen.getD k false = false) : sweep seen (k + 1) L = (sweep seen k L).set k dead := by
  apply List.ext_getElem?
  intro i
  rw [sweep_get, List.getElem?_set, sweep_get, sweep_len]
  by_cases hi : k = i
  · subst hi
    rw [if_pos rfl]
    by_cases hl : k < L.length
    · rw [if_pos hl, List.getElem?_eq_getElem hl]
      simp only [Option.map_some]
      rw [if_pos ⟨by omega, h⟩]
    · rw [if_neg hl, List.getElem?_eq_none (by omega)]; rfl
  · rw [if_neg hi]
    congr 1
    funext x
    have : i < k + 1 ↔ i < k := by omega
    simp [this]
theorem sweep_at {seen : List Bool} {k : Nat} {L : List Tv} (hk : k < L.length) : (sweep seen k L)[k]'(by rw [sweep_len]; exact hk) = L[k] := by
  have := sweep_get seen k L k
  rw [List.getElem?_eq_getElem (by rw [sweep_len]; exact hk), List.getElem?_eq_getElem hk] at this
  simpa using this
/-- The words of what was seen before k. -/
def usedTo (L : List Tv) (seen : List Bool) (k : Nat) : Nat := ((List.range k).map fun i => if seen.getD i false = true then (((L.map Tv.t)[i]?).map szT).getD 0 else 0).sum
theorem usedTo_all (L : List Tv) (seen : List Bool) : usedTo L seen L.length = used (L.map Tv.t) seen := by unfold usedTo used; rw [List.length_map]
theorem usedTo_kept {L : List Tv} {seen : List Bool} {k : Nat} (hk : k < L.length) (h : seen.getD k false = true) : usedTo L seen (k + 1) = usedTo L seen k + szT (L[k]).t := by
  unfold usedTo
  rw [List.range_succ, List.map_append, List.sum_append]
  simp only [List.map_cons, List.map_nil, List.sum_cons, List.sum_nil]
  rw [if_pos h, getD_t hk]; simp
theorem usedTo_gone {L : List Tv} {seen : List Bool} {k : Nat} (h : seen.getD k false = false) : usedTo L seen (k + 1) = usedTo L seen k := by
  unfold usedTo
  rw [List.range_succ, List.map_append, List.sum_append]
  simp only [List.map_cons, List.map_nil, List.sum_cons, List.sum_nil]
  rw [if_neg (by rw [h]; simp)]; simp
theorem usedTo_le (L : List Tv) (seen : List Bool) (k : Nat) (hk : k ≤ L.length) : usedTo L seen k ≤ ((L.take k).map fun x => szT x.t).sum := by
  induction k with
  | zero => simp [usedTo]
  | succ k ih =>
    have hk' : k < L.length := by omega
    have h0 := ih (by omega)
    have : ((L.take (k + 1)).map fun x => szT x.t).sum = ((L.take k).map fun x => szT x.t).sum + szT (L[k]).t := by
      rw [List.take_add_one, List.getElem?_eq_getElem hk', List.map_append, List.sum_append]; simp only [Option.toList_some, List.map_cons, List.map_nil, List.sum_cons, List.sum_nil, Nat.add_zero]
    rw [this]
    cases hs : seen.getD k false
    · rw [usedTo_gone hs]; omega
    · rw [usedTo_kept hk' hs]; omega
theorem sum_take_le (l : List Nat) (k : Nat) : (l.take k).sum ≤ l.sum := by
  have := congrArg List.sum (List.take_append_drop k l)
  rw [List.sum_append] at this
  omega
/-- How many words are taken is another number. -/
theorem Sp.setUsed {w : World} {B sb rb lim us : Nat} {lv : Value} {L : List Tv} {ro : List Nat} (h : Sp w B sb rb lv L ro lim us) (u : Nat) : Sp (w.setCell ⟨sb, 3, none⟩ (.int .i64 (u : Int))) B sb rb lv L ro lim u := by
  have hf : Fr [sb] w (w.setCell ⟨sb, 3, none⟩ (.int .i64 (u : Int))) := (Fr.refl [sb] w).set (by simp) _
  have hap := h.apart
  rw [List.nodup_cons] at hap
  have hn : ∀ b ∈ rb :: (lv.ownBlock.toList ++ tblocks L), b ∉ [sb] := fun b hb e => hap.1 (by rw [List.mem_singleton] at e; rw [← e]; exact hb)
  refine ⟨?_, ?_, h.rl, row_kept h.l hf (fun b hb => hn b (List.mem_cons_of_mem _ (List.mem_append_left _ hb))), fun y hy => ⟨(h.t y hy).1.kept hf (fun b hb => hn b (List.mem_cons_of_mem _ (List.mem_append_right _ (List.mem_flatMap.2 ⟨y, hy, List.mem_append_left _ hb⟩)))), (h.t y hy).2.kept hf (fun b hb => hn b (List.mem_cons_of_mem _ (List.mem_append_right _ (List.mem_flatMap.2 ⟨y, hy, List.mem_append_right _ hb⟩))))⟩, h.apart⟩
  · rw [heap_setCell_same w sb 3 _ 67 _ h.b]; rfl
  · rw [hf.block rb (Array.getElem?_eq_some_iff.1 h.r).1 (hn rb (by simp))]; exact h.r
theorem Sp.bcell {w : World} {B sb rb lim us : Nat} {lv : Value} {L : List Tv} {ro : List Nat} (h : Sp w B sb rb lv L ro lim us) : w.cell? ⟨sb, 2, none⟩ = some (.int .i64 (lim : Int)) ∧ w.cell? ⟨sb, 3, none⟩ = some (.int .i64 (us : Int)) ∧ w.frozen? ⟨sb, 3, none⟩ = false ∧ w.frozen? ⟨sb, 0, none⟩ = false := by
  refine ⟨?_, ?_, ?_, ?_⟩
  · rw [cell_of_row w sb 2 _ 67 (0, 0) h.b]; rfl
  · rw [cell_of_row w sb 3 _ 67 (0, 0) h.b]; rfl
  · unfold World.frozen?; rw [h.b]; simp
  · unfold World.frozen?; rw [h.b]; simp
end Rs
end Go.Proofs.Ytaapakpanbfmlaa
