/-
  The row in which the reference marks where an instruction begins.
-/
import Derived.Test.YtpmonoenppfekabDoorOne
import Derived.Test.YtpmonoenppfekabDoorDec
namespace Go.Proofs.YtpmonoenppfekabDoor
open Go.RowKit
def Bs (w : World) (B : Nat) (bl : List Bool) : Prop := w.heap[B]? = some (.cells (bl.map Value.bool).toArray 4 (0, 0))
section
variable {w w' : World} {B : Nat} {bl : List Bool}
theorem Bs.lt (h : Bs w B bl) : B < w.heap.size := (Array.getElem?_eq_some_iff.1 h).1
theorem Bs.cell (h : Bs w B bl) (k : Nat) (hk : k < bl.length) : w.cell? ⟨B, k, none⟩ = some (.bool (bl.getD k false)) := by
  rw [cell_of_row w B k _ 4 (0, 0) h]; simp [hk]
theorem Bs.frozen (h : Bs w B bl) (i : Nat) : w.frozen? ⟨B, i, none⟩ = false := by
  unfold World.frozen?; unfold Bs at h; simp only [h]; simp
theorem Bs.kept {row : Option Nat} (h : Bs w B bl) (hg : w.grownBy w' row) (hne : some B ≠ row) : Bs w' B bl := by
  unfold Bs; rw [hg.block B h.lt hne]; exact h
theorem Bs.set (h : Bs w B bl) (k : Nat) : Bs (w.setCell ⟨B, k, none⟩ (.bool true)) B (bl.set k true) := by
  unfold Bs; rw [heap_setCell_same w B k _ 4 _ h]; simp [List.map_set]
end
theorem Tryd.info4 : (Tryd.prog.info? 4).map (fun i => (i.zero, i.size, i.bytes)) = some (some (.bool false), 1, 1) := by kernel_rfl
theorem mk_bools (n : Nat) (hn : n ≤ 1048576) (w : World) : Sem.run Tryd.prog (Instr.makeSlice 66 (.int .i64 (n : Int)) (.int .i64 (n : Int))) w = .ok (.slice (some ⟨w.heap.size, 0, none⟩) n n) (w.alloc (.cells (madeCells #[.bool false] n) 4)) :=
  run_make_row' (P := Tryd.prog) 66 4 (.bool false) 1 Tryd.underlying66 Tryd.info4 rfl .i64 .i64 n (by omega) (by omega) w
theorem Bs.made (n : Nat) (w : World) : Bs (w.alloc (.cells (madeCells #[.bool false] n) 4)) w.heap.size (List.replicate n false) := by
  unfold Bs
  have e : ((List.replicate n false).map Value.bool).toArray = madeCells #[.bool false] n := by
    apply Array.toList_inj.1
    rw [toList_madeCells_one]; simp
  rw [e]
  exact heap_alloc_new w _
/-- The marks of a list. -/
def Marks (n : Nat) (bl : List Bool) (l : List I) : Prop := bl.length = n ∧ ∀ t, t < n → bl.getD t false = M.begins l (t : Int)
theorem Marks.nil (n : Nat) : Marks n (List.replicate n false) [] := ⟨by simp, fun t ht => by simp [M.begins, ht]⟩
theorem Marks.next {n : Nat} {bl : List Bool} {l : List I} {i : I} (h : Marks n bl l) (hi : i.at_ < n) : Marks n (bl.set i.at_ true) (l ++ [i]) := by
  refine ⟨by simpa using h.1, fun t ht => ?_⟩
  have h0 := h.2 t ht
  have hb : M.begins (l ++ [i]) (t : Int) = (M.begins l (t : Int) || decide ((i.at_ : Int) = (t : Int))) := by unfold M.begins; simp
  rw [hb, ← h0]
  by_cases e : i.at_ = t
  · subst e
    have : i.at_ < bl.length := by rw [h.1]; exact hi
    simp [List.getD_eq_getElem?_getD, this]
  · have e2 : ¬ ((i.at_ : Int) = (t : Int)) := by omega
    simp [List.getD_eq_getElem?_getD, e, e2]
theorem begins_out {n : Nat} {l : List I} (hl : ∀ i ∈ l, i.at_ < n) {t : Int} (ht : t < 0 ∨ (n : Int) ≤ t) : M.begins l t = false := by
  unfold M.begins
  rw [List.any_eq_false]
  intro i hi
  have := hl i hi
  simp; omega
end Go.Proofs.YtpmonoenppfekabDoor
