/-
  Lists of frames: of one's own, and such as can be read.
-/
import Derived.Test.YtbgpkkbejbidlacFr
namespace Go.Proofs.Ytbgpkkbejbidlac
open Go.RowKit
/-- A frame as it lies in a list: what it is, and where its lists lie. -/
structure J where
  f : Fm
  lv : Value
  sv : Value
def J.cells (j : J) : List Value := [.int .i64 j.f.at_, j.lv, j.sv]
def JC : List J → List Value
  | [] => []
  | j :: l => j.cells ++ JC l
theorem JC_append (a b : List J) : JC (a ++ b) = JC a ++ JC b := by
  induction a with
  | nil => rfl
  | cons c a ih => simp only [List.cons_append, JC, ih, List.append_assoc]
theorem JC_snoc (l : List J) (j : J) : JC (l ++ [j]) = JC l ++ j.cells := by rw [JC_append]; simp [JC]
theorem J.cells_length (j : J) : j.cells.length = 3 := rfl
theorem JC_length (l : List J) : (JC l).length = l.length * 3 := by
  induction l with
  | nil => rfl
  | cons c a ih => simp only [JC, List.length_append, ih, J.cells_length, List.length_cons]; omega
theorem JC_at (l : List J) (k : Nat) (hk : k < l.length) (i : Nat) (hi : i < 3) : (JC l)[k * 3 + i]? = (l[k]).cells[i]? := by
  induction l generalizing k with
  | nil => simp at hk
  | cons c a ih =>
    cases k with
    | zero => simp only [JC, Nat.zero_mul, Nat.zero_add, List.getElem_cons_zero]; rw [List.getElem?_append_left (by rw [J.cells_length]; omega)]
    | succ k =>
      simp only [JC, List.getElem_cons_succ]
      rw [List.getElem?_append_right (by rw [J.cells_length]; omega), J.cells_length, show (k + 1) * 3 + i - 3 = k * 3 + i by omega]
      exact ih k (by simpa using hk)
def J.blocks (j : J) : List Nat := j.lv.ownBlock.toList ++ j.sv.ownBlock.toList
def blocks (L : List J) : List Nat := L.flatMap J.blocks
/-- The lists of a frame: of their own, apart from each other. -/
structure Own2 (w : World) (B : Nat) (lv sv : Value) (ls ss : List T) : Prop where
  l : w.ownsRow B 76 3 lv ls.length (TC ls)
  s : w.ownsRow B 76 3 sv ss.length (TC ss)
  apart : ∀ b, lv.ownBlock = some b → sv.ownBlock ≠ some b
/-- A list of frames of one's own: no two of its lists lie in one row. -/
structure Lst (w : World) (B : Nat) (v : Value) (L : List J) : Prop where
  row : w.ownsRow B 29 3 v L.length (JC L)
  own : ∀ j ∈ L, Own2 w B j.lv j.sv j.f.locals j.f.stack
  apart : (v.ownBlock.toList ++ blocks L).Nodup
theorem ins_in {w : World} {B e k n : Nat} {v : Value} {xs : List Value} (h : w.ownsRow B e k v n xs) {b : Nat} (hb : v.ownBlock = some b) : B ≤ b ∧ b < w.heap.size := by
  rcases h.2 with ⟨rfl, _⟩ | ⟨g, cap, cur, rfl, h1, h2, _⟩
  · cases hb
  · cases hb; exact ⟨h1, (Array.getElem?_eq_some_iff.1 h2).1⟩
theorem ins_kept {w w' : World} {B e k n : Nat} {v : Value} {xs : List Value} {row : Option Nat} (h : w.ownsRow B e k v n xs) (hg : w.grownBy w' row) (hr : ∀ b, row = some b → v.ownBlock ≠ some b) : w'.ownsRow B e k v n xs := by
  refine ⟨h.1, ?_⟩
  rcases h.2 with h0 | ⟨g, cap, cur, rfl, h1, h2, h3⟩
  · exact .inl h0
  · refine .inr ⟨g, cap, cur, rfl, h1, ?_, h3⟩
    rw [hg.block g (Array.getElem?_eq_some_iff.1 h2).1 (fun e => hr g e.symm rfl)]; exact h2
theorem Own2.kept {w w' : World} {B : Nat} {lv sv : Value} {ls ss : List T} {row : Option Nat} (h : Own2 w B lv sv ls ss) (hg : w.grownBy w' row) (hr : ∀ b, row = some b → b < B) : Own2 w' B lv sv ls ss :=
  ⟨ins_kept h.l hg (fun b e e2 => by have := hr b e; have := (ins_in h.l e2).1; omega), ins_kept h.s hg (fun b e e2 => by have := hr b e; have := (ins_in h.s e2).1; omega), h.apart⟩
theorem Own2.keptX {w w' : World} {B : Nat} {lv sv : Value} {ls ss : List T} {row : Option Nat} (h : Own2 w B lv sv ls ss) (hg : w.grownBy w' row) (h1 : ∀ b, row = some b → lv.ownBlock ≠ some b) (h2 : ∀ b, row = some b → sv.ownBlock ≠ some b) : Own2 w' B lv sv ls ss :=
  ⟨ins_kept h.l hg h1, ins_kept h.s hg h2, h.apart⟩
theorem Own2.base {w : World} {B B' : Nat} {lv sv : Value} {ls ss : List T} (h : Own2 w B lv sv ls ss) (hB : B' ≤ B) : Own2 w B' lv sv ls ss := ⟨own_mono h.l hB, own_mono h.s hB, h.apart⟩
theorem Own2.nil (w : World) (B : Nat) : Own2 w B (.slice none 0 0) (.slice none 0 0) [] [] := ⟨World.ownsRow_nil _ _ _ _, World.ownsRow_nil _ _ _ _, fun _ e => by cases e⟩
theorem Lst.nil (w : World) (B : Nat) : Lst w B (.slice none 0 0) [] := ⟨World.ownsRow_nil _ _ _ _, (fun _ h => by cases h), by simp [Value.ownBlock, blocks]⟩
theorem mem_blocks {L : List J} {b : Nat} : b ∈ blocks L ↔ ∃ j ∈ L, j.lv.ownBlock = some b ∨ j.sv.ownBlock = some b := by
  unfold blocks J.blocks; simp [List.mem_flatMap, Option.mem_toList]
theorem Lst.blocks_in {w : World} {B : Nat} {v : Value} {L : List J} (h : Lst w B v L) {b : Nat} (hb : b ∈ v.ownBlock.toList ++ blocks L) : B ≤ b ∧ b < w.heap.size := by
  rw [List.mem_append] at hb
  rcases hb with hb | hb
  · exact ins_in h.row (by simpa using hb)
  · obtain ⟨j, hj, e | e⟩ := mem_blocks.1 hb
    · exact ins_in (h.own j hj).l e
    · exact ins_in (h.own j hj).s e
theorem Lst.kept {w w' : World} {B : Nat} {v : Value} {L : List J} {row : Option Nat} (h : Lst w B v L) (hg : w.grownBy w' row) (hr : ∀ b, row = some b → b < B) : Lst w' B v L :=
  ⟨ins_kept h.row hg (fun b e e2 => by have := hr b e; have := (ins_in h.row e2).1; omega), fun j hj => (h.own j hj).kept hg hr, h.apart⟩
/-- A step that turns a row that is not the list's own, nor one of its lists'. -/
theorem Lst.keptX {w w' : World} {B : Nat} {v : Value} {L : List J} {row : Option Nat} (h : Lst w B v L) (hg : w.grownBy w' row) (hr : ∀ b, row = some b → w.heap.size ≤ b ∨ b < B) : Lst w' B v L :=
  ⟨ins_kept h.row hg (fun b e e2 => by have := hr b e; have := ins_in h.row e2; omega), fun j hj => (h.own j hj).keptX hg (fun b e e2 => by have := hr b e; have := ins_in (h.own j hj).l e2; omega) (fun b e e2 => by have := hr b e; have := ins_in (h.own j hj).s e2; omega), h.apart⟩
/-- One more frame, its lists laid since. -/
theorem Lst.push {w w1 w3 : World} {B : Nat} {v v' : Value} {L : List J} {j : J} {row : Option Nat} {o : Obj} (h : Lst w B v L) (hB : B ≤ w.heap.size) (hg : w.grownBy w1 row) (hr : ∀ b, row = some b → b < B ∨ w.heap.size ≤ b)
    (hj : Own2 w1 w.heap.size j.lv j.sv j.f.locals j.f.stack) (hrow : w3.ownsRow B 29 3 v' (L.length + 1) (JC L ++ j.cells)) (hg3 : (w1.alloc o).grownBy w3 v.ownBlock) (hl : v'.ownBlock = v.ownBlock ∨ v'.ownBlock = some (w1.alloc o).heap.size) :
    Lst w3 B v' (L ++ [j]) := by
  have hnd := List.nodup_append.1 h.apart
  have hz : (w1.alloc o).heap.size = w1.heap.size + 1 := by simp
  have hold : ∀ b, v.ownBlock = some b → B ≤ b ∧ b < w.heap.size := fun b e => ins_in h.row e
  have hbl : blocks (L ++ [j]) = blocks L ++ J.blocks j := by simp [blocks]
  refine ⟨?_, ?_, ?_⟩
  · rw [JC_snoc, List.length_append, List.length_singleton]; exact hrow
  · intro k hk
    rw [List.mem_append, List.mem_singleton] at hk
    rcases hk with hk | rfl
    · have h1 := ((h.keptX hg (fun b e => (hr b e).symm)).own k hk).kept (World.grownBy_alloc w1 o none) (fun _ e => by cases e)
      refine h1.keptX hg3 (fun b e e2 => ?_) (fun b e e2 => ?_)
      · exact hnd.2.2 b (by simp [e]) b (mem_blocks.2 ⟨k, hk, .inl e2⟩) rfl
      · exact hnd.2.2 b (by simp [e]) b (mem_blocks.2 ⟨k, hk, .inr e2⟩) rfl
    · have h1 := hj.kept (World.grownBy_alloc w1 o none) (fun _ e => by cases e)
      refine (h1.keptX hg3 (fun b e e2 => ?_) (fun b e e2 => ?_)).base hB
      · have := (ins_in hj.l e2).1; have := hold b e; omega
      · have := (ins_in hj.s e2).1; have := hold b e; omega
  · have hnew : ∀ b, b ∈ J.blocks j → w.heap.size ≤ b ∧ b < w1.heap.size := fun b hb => by
      unfold J.blocks at hb
      rw [List.mem_append] at hb
      rcases hb with hb | hb
      · exact ins_in hj.l (by simpa using hb)
      · exact ins_in hj.s (by simpa using hb)
    have hj2 : (J.blocks j).Nodup := by
      unfold J.blocks
      rw [List.nodup_append]
      refine ⟨by cases j.lv.ownBlock <;> simp, by cases j.sv.ownBlock <;> simp, fun a ha b hb e => ?_⟩
      subst e
      exact hj.apart a (by simpa using ha) (by simpa using hb)
    rw [hbl, List.nodup_append]
    refine ⟨by cases v'.ownBlock <;> simp, ?_, ?_⟩
    · rw [List.nodup_append]
      refine ⟨hnd.2.1, hj2, fun a ha b hb e => ?_⟩
      subst e
      have := (h.blocks_in (List.mem_append_right _ ha)).2
      have := (hnew a hb).1
      omega
    · intro a ha b hb e
      subst e
      have ha' : v'.ownBlock = some a := by simpa using ha
      rw [List.mem_append] at hb
      rcases hl with hl | hl
      · rw [hl] at ha'
        rcases hb with hb | hb
        · exact hnd.2.2 a (by simp [ha']) a hb rfl
        · have := (hnew a hb).1; have := hold a ha'; omega
      · rw [hl, hz] at ha'
        cases ha'
        rcases hb with hb | hb
        · have := (h.blocks_in (List.mem_append_right _ hb)).2; have := hg.size; omega
        · have := (hnew _ hb).2; omega
theorem Lst.base {w : World} {B B' : Nat} {v : Value} {L : List J} (h : Lst w B v L) (hB : B' ≤ B) : Lst w B' v L :=
  ⟨⟨h.row.1, h.row.2.imp id fun ⟨g, cap, cur, h1, h2, h3⟩ => ⟨g, cap, cur, h1, Nat.le_trans hB h2, h3⟩⟩, fun j hj => (h.own j hj).base hB, h.apart⟩
/-- One more frame, its lists behind all that are there. -/
theorem Lst.push2 {w1 w3 : World} {B N : Nat} {v v' : Value} {L : List J} {j : J} {o : Obj} (h : Lst w1 B v L) (hN : B ≤ N) (hlt : ∀ b, b ∈ v.ownBlock.toList ++ blocks L → b < N)
    (hj : Own2 w1 N j.lv j.sv j.f.locals j.f.stack) (hrow : w3.ownsRow B 29 3 v' (L.length + 1) (JC L ++ j.cells)) (hg3 : (w1.alloc o).grownBy w3 v.ownBlock) (hl : v'.ownBlock = v.ownBlock ∨ v'.ownBlock = some (w1.alloc o).heap.size) :
    Lst w3 B v' (L ++ [j]) := by
  have hnd := List.nodup_append.1 h.apart
  have hz : (w1.alloc o).heap.size = w1.heap.size + 1 := by simp
  have hold : ∀ b, v.ownBlock = some b → b < N := fun b e => hlt b (List.mem_append_left _ (by simp [e]))
  have hbl : blocks (L ++ [j]) = blocks L ++ J.blocks j := by simp [blocks]
  refine ⟨?_, ?_, ?_⟩
  · rw [JC_snoc, List.length_append, List.length_singleton]; exact hrow
  · intro k hk
    rw [List.mem_append, List.mem_singleton] at hk
    rcases hk with hk | rfl
    · have h1 := (h.own k hk).kept (World.grownBy_alloc w1 o none) (fun _ e => by cases e)
      refine h1.keptX hg3 (fun b e e2 => ?_) (fun b e e2 => ?_)
      · exact hnd.2.2 b (by simp [e]) b (mem_blocks.2 ⟨k, hk, .inl e2⟩) rfl
      · exact hnd.2.2 b (by simp [e]) b (mem_blocks.2 ⟨k, hk, .inr e2⟩) rfl
    · have h1 := hj.kept (World.grownBy_alloc w1 o none) (fun _ e => by cases e)
      refine (h1.keptX hg3 (fun b e e2 => ?_) (fun b e e2 => ?_)).base hN
      · have := (ins_in hj.l e2).1; have := hold b e; omega
      · have := (ins_in hj.s e2).1; have := hold b e; omega
  · have hnew : ∀ b, b ∈ J.blocks j → N ≤ b ∧ b < w1.heap.size := fun b hb => by
      unfold J.blocks at hb
      rw [List.mem_append] at hb
      rcases hb with hb | hb
      · exact ins_in hj.l (by simpa using hb)
      · exact ins_in hj.s (by simpa using hb)
    have hj2 : (J.blocks j).Nodup := by
      unfold J.blocks
      rw [List.nodup_append]
      refine ⟨by cases j.lv.ownBlock <;> simp, by cases j.sv.ownBlock <;> simp, fun a ha b hb e => ?_⟩
      subst e
      exact hj.apart a (by simpa using ha) (by simpa using hb)
    rw [hbl, List.nodup_append]
    refine ⟨by cases v'.ownBlock <;> simp, ?_, ?_⟩
    · rw [List.nodup_append]
      refine ⟨hnd.2.1, hj2, fun a ha b hb e => ?_⟩
      subst e
      have := hlt a (List.mem_append_right _ ha)
      have := (hnew a hb).1
      omega
    · intro a ha b hb e
      subst e
      have ha' : v'.ownBlock = some a := by simpa using ha
      rw [List.mem_append] at hb
      rcases hl with hl | hl
      · rw [hl] at ha'
        rcases hb with hb | hb
        · exact hnd.2.2 a (by simp [ha']) a hb rfl
        · have := (hnew a hb).1; have := hold a ha'; omega
      · rw [hl, hz] at ha'
        cases ha'
        rcases hb with hb | hb
        · have := (h.blocks_in (List.mem_append_right _ hb)).2; omega
        · have := (hnew _ hb).2; omega
/-- A list of frames that can be read. -/
structure Has (w : World) (v : Value) (L : List J) : Prop where
  form : ∃ ad cap, v = .slice ad L.length cap ∧ (L ≠ [] → ∃ b o, ad = some ⟨b, o, none⟩ ∧ ∀ k (hk : k < L.length), ∀ i, i < 3 → w.cell? ⟨b, o + k * 3 + i, none⟩ = (L[k]).cells[i]?)
  own : ∀ j ∈ L, TIn w j.lv j.f.locals ∧ TIn w j.sv j.f.stack
theorem Has.of_lst {w : World} {B : Nat} {v : Value} {L : List J} (h : Lst w B v L) : Has w v L := by
  refine ⟨?_, fun j hj => ⟨TIn.of_own (h.own j hj).l, TIn.of_own (h.own j hj).s⟩⟩
  rcases h.row.2 with ⟨rfl, h0⟩ | ⟨g, cap, cur, rfl, h1⟩
  · exact ⟨none, 0, by rw [h0], fun hne => absurd (List.length_eq_zero_iff.1 h0) hne⟩
  · refine ⟨_, _, rfl, fun _ => ⟨g, 0, rfl, fun k hk i hi => ?_⟩⟩
    have e := JC_at L k hk i hi
    have hc : (L[k]).cells[i]? = some ((L[k]).cells[i]'(by rw [J.cells_length]; exact hi)) := List.getElem?_eq_getElem _
    rw [hc] at e ⊢
    have := h.row.cells (g := g) rfl (k * 3 + i) _ e
    rw [Addr.add_lit] at this
    rw [show 0 + k * 3 + i = 0 + (k * 3 + i) by omega]
    exact this
/-- The three cells of a frame. -/
def At3 (w : World) (b o : Nat) (j : J) : Prop := w.cell? ⟨b, o, none⟩ = some (.int .i64 j.f.at_) ∧ w.cell? ⟨b, o + 1, none⟩ = some j.lv ∧ w.cell? ⟨b, o + 2, none⟩ = some j.sv
theorem At3.of {w : World} {b o k : Nat} {j : J} (h : ∀ i, i < 3 → w.cell? ⟨b, o + k * 3 + i, none⟩ = j.cells[i]?) : At3 w b (o + k * 3) j :=
  ⟨h 0 (by omega), h 1 (by omega), h 2 (by omega)⟩
end Go.Proofs.Ytbgpkkbejbidlac
