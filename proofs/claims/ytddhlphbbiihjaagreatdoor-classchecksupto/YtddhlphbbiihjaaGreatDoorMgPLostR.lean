/-
  The row in which the reference marks where an instruction begins.
  The reference's second pass: targets at which none begins.
-/
import Derived.Test.YtddhlphbbiihjaaGreatDoorPOne
namespace Go.Proofs.YtddhlphbbiihjaaGreatDoor.Dc
open Go.RowKit
def Bs (w : World) (B : Nat) (bl : List Bool) : Prop := w.heap[B]? = some (.cells (bl.map Value.bool).toArray 4 (0, 0))
section
variable {w w' : World} {B : Nat} {bl : List Bool}
theorem Bs.lt (h : Bs w B bl) : B < w.heap.size := (Array.getElem?_eq_some_iff.1 h).1
theorem Bs.cell (h : Bs w B bl) (k : Nat) (hk : k < bl.length) : w.cell? ⟨B, k, none⟩ = some (.bool (bl.getD k false)) := by
  rw [cell_of_row w B k _ 4 (0, 0) h]; simp [hk]
theorem Bs.frozen (h : Bs w B bl) (i : Nat) : w.frozen? ⟨B, i, none⟩ = false := by
  unfold World.frozen?; unfold Bs at h; simp only [h]; simp
theorem Bs.kept {row : Option Nat} (h : Bs w B bl) (hg : w.grownBy w' row) (hne : some B ≠ row) : Bs w' B bl := by
  unfold Bs; rw [hg.block B h.lt hne]; exact h
theorem Bs.set (h : Bs w B bl) (k : Nat) : Bs (w.setCell ⟨B, k, none⟩ (.bool true)) B (bl.set k true) := by
  unfold Bs; rw [heap_setCell_same w B k _ 4 _ h]; simp [List.map_set]
end
theorem Tryz.info4 : (Tryz.prog.info? 4).map (fun i => (i.zero, i.size, i.bytes)) = some (some (.bool false), 1, 1) := by kernel_rfl
theorem mk_bools (n : Nat) (hn : n ≤ 1048576) (w : World) : Sem.run Tryz.prog (Instr.makeSlice 119 (.int .i64 (n : Int)) (.int .i64 (n : Int))) w = .ok (.slice (some ⟨w.heap.size, 0, none⟩) n n) (w.alloc (.cells (madeCells #[.bool false] n) 4)) :=
  run_make_row' (P := Tryz.prog) 119 4 (.bool false) 1 Tryz.underlying119 Tryz.info4 rfl .i64 .i64 n (by omega) (by omega) w
theorem Bs.made (n : Nat) (w : World) : Bs (w.alloc (.cells (madeCells #[.bool false] n) 4)) w.heap.size (List.replicate n false) := by
  unfold Bs
  have e : ((List.replicate n false).map Value.bool).toArray = madeCells #[.bool false] n := by
    apply Array.toList_inj.1
    rw [toList_madeCells_one]; simp
  rw [e]
  exact heap_alloc_new w _
/-- The marks of a list. -/
def Marks (n : Nat) (bl : List Bool) (l : List I) : Prop := bl.length = n ∧ ∀ t, t < n → bl.getD t false = M.begins l (t : Int)
theorem Marks.nil (n : Nat) : Marks n (List.replicate n false) [] := ⟨by simp, fun t ht => by simp [M.begins, ht]⟩
theorem Marks.next {n : Nat} {bl : List Bool} {l : List I} {i : I} (h : Marks n bl l) (hi : i.at_ < n) : Marks n (bl.set i.at_ true) (l ++ [i]) := by
  refine ⟨by simpa using h.1, fun t ht => ?_⟩
  have h0 := h.2 t ht
  have hb : M.begins (l ++ [i]) (t : Int) = (M.begins l (t : Int) || decide ((i.at_ : Int) = (t : Int))) := by unfold M.begins; simp
  rw [hb, ← h0]
  by_cases e : i.at_ = t
  · subst e
    have : i.at_ < bl.length := by rw [h.1]; exact hi
    simp [List.getD_eq_getElem?_getD, this]
  · have e2 : ¬ ((i.at_ : Int) = (t : Int)) := by omega
    simp [List.getD_eq_getElem?_getD, e, e2]
theorem begins_out {n : Nat} {l : List I} (hl : ∀ i ∈ l, i.at_ < n) {t : Int} (ht : t < 0 ∨ (n : Int) ≤ t) : M.begins l t = false := by
  unfold M.begins
  rw [List.any_eq_false]
  intro i hi
  have := hl i hi
  simp; omega
end Go.Proofs.YtddhlphbbiihjaaGreatDoor.Dc
namespace Go.Proofs.YtddhlphbbiihjaaGreatDoor.Dc
open Go.RowKit
namespace M
def hits (n : Nat) (bl : List Bool) (t : Int) : Bool := decide (t < 0) || (decide ((n : Int) ≤ t) || !(bl.getD t.toNat false))
def lostB (n : Nat) (bl : List Bool) (i : I) : Bool := i.tgts.any (hits n bl)
def step2 (n : Nat) (bl : List Bool) (st : St) (i : I) : St := if lostB n bl i then fail st 16 i.at_ else st
def after2 (n : Nat) (bl : List Bool) (st : St) (l : List I) : St := l.foldl (step2 n bl) st
theorem fail_twice (st : St) (e p : Nat) (he : e ≠ 0) : fail (fail st e p) e p = fail st e p := by
  by_cases h : st.e = 0
  · have : (fail st e p).e ≠ 0 := by unfold fail; rw [if_pos h]; exact he
    exact fail_bad this
  · rw [fail_bad h, fail_bad h]
theorem step2_bad {n : Nat} {bl : List Bool} {st : St} {i : I} (h : st.e ≠ 0) : step2 n bl st i = st := by
  unfold step2; split
  · exact fail_bad h
  · rfl
theorem after2_bad {n : Nat} {bl : List Bool} {st : St} (h : st.e ≠ 0) : ∀ l, after2 n bl st l = st
  | [] => rfl
  | i :: l => by
    show after2 n bl (step2 n bl st i) l = st
    rw [step2_bad h]; exact after2_bad h l
theorem after2_take {n : Nat} {bl : List Bool} {st : St} (l : List I) (k : Nat) (hk : k < l.length) : after2 n bl st (l.take (k + 1)) = step2 n bl (after2 n bl st (l.take k)) l[k] := by
  unfold after2
  rw [List.take_add_one, List.getElem?_eq_getElem hk, List.foldl_append]
  rfl
/-- What the first k targets have left. -/
def part2 (n : Nat) (bl : List Bool) (st : St) (i : I) (k : Nat) : St := if (i.tgts.take k).any (hits n bl) then fail st 16 i.at_ else st
theorem part2_zero (n : Nat) (bl : List Bool) (st : St) (i : I) : part2 n bl st i 0 = st := by simp [part2]
theorem part2_all (n : Nat) (bl : List Bool) (st : St) (i : I) : part2 n bl st i i.tgts.length = step2 n bl st i := by simp [part2, step2, lostB]
theorem part2_next (n : Nat) (bl : List Bool) (st : St) (i : I) (k : Nat) (hk : k < i.tgts.length) : part2 n bl st i (k + 1) = if hits n bl i.tgts[k] then fail (part2 n bl st i k) 16 i.at_ else part2 n bl st i k := by
  unfold part2
  rw [List.take_add_one, List.getElem?_eq_getElem hk]
  simp only [Option.toList_some, List.any_append, List.any_cons, List.any_nil, Bool.or_false]
  by_cases h1 : (i.tgts.take k).any (hits n bl) = true
  · rw [h1]
    simp only [Bool.true_or, if_true]
    split
    · rw [fail_twice _ _ _ (by decide)]
    · rfl
  · rw [Bool.not_eq_true] at h1
    rw [h1]
    simp
theorem hits_begins {n : Nat} {bl : List Bool} {l : List I} (h : Marks n bl l) (hl : ∀ i ∈ l, i.at_ < n) (t : Int) : hits n bl t = !begins l t := by
  unfold hits
  by_cases h1 : t < 0
  · rw [begins_out hl (.inl h1)]; simp [h1]
  · by_cases h2 : (n : Int) ≤ t
    · rw [begins_out hl (.inr h2)]; simp [h2]
    · have := h.2 t.toNat (by omega)
      rw [this, show ((t.toNat : Nat) : Int) = t by omega]
      simp [h1, h2]
theorem lostB_eq {n : Nat} {bl : List Bool} {l : List I} (h : Marks n bl l) (hl : ∀ i ∈ l, i.at_ < n) (i : I) : lostB n bl i = lost l i := by
  unfold lostB lost
  congr 1
  funext t
  exact hits_begins h hl t
theorem after2_find {n : Nat} {bl : List Bool} {p : Nat} : ∀ l, after2 n bl ⟨p, 0, 0⟩ l = match l.find? (lostB n bl) with
    | none => ⟨p, 0, 0⟩
    | some i => ⟨p, 16, i.at_⟩
  | [] => rfl
  | i :: l => by
    show after2 n bl (step2 n bl ⟨p, 0, 0⟩ i) l = _
    by_cases h : lostB n bl i = true
    · have e : step2 n bl ⟨p, 0, 0⟩ i = ⟨p, 16, i.at_⟩ := by unfold step2; rw [if_pos h]; rfl
      rw [e, after2_bad (by simp), List.find?_cons_of_pos h]
    · have e : step2 n bl ⟨p, 0, 0⟩ i = ⟨p, 0, 0⟩ := by unfold step2; rw [if_neg h]
      rw [e, after2_find l, List.find?_cons_of_neg h]
end M
end Go.Proofs.YtddhlphbbiihjaaGreatDoor.Dc
