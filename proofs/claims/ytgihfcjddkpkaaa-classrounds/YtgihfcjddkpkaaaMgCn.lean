/-
  Lists of frames: of one's own, and such as can be read.
  Class files in bytes, as package class reads them: plain mathematics, of lists of bytes. Nothing of the program is named here.
  Fields, code, methods, as package class reads them: plain mathematics.
-/
import Derived.Test.YtgihfcjddkpkaaaFr
import Derived.Test.YtgihfcjddkpkaaaMm
namespace Go.Proofs.Ytgihfcjddkpkaaa
open Go.RowKit
/-- A frame as it lies in a list: what it is, and where its lists lie. -/
structure J where
  f : Fm
  lv : Value
  sv : Value
def J.cells (j : J) : List Value := [.int .i64 j.f.at_, j.lv, j.sv]
def JC : List J → List Value
  | [] => []
  | j :: l => j.cells ++ JC l
theorem JC_append (a b : List J) : JC (a ++ b) = JC a ++ JC b := by
  induction a with
  | nil => rfl
  | cons c a ih => simp only [List.cons_append, JC, ih, List.append_assoc]
theorem JC_snoc (l : List J) (j : J) : JC (l ++ [j]) = JC l ++ j.cells := by rw [JC_append]; simp [JC]
theorem J.cells_length (j : J) : j.cells.length = 3 := rfl
theorem JC_length (l : List J) : (JC l).length = l.length * 3 := by
  induction l with
  | nil => rfl
  | cons c a ih => simp only [JC, List.length_append, ih, J.cells_length, List.length_cons]; omega
theorem JC_at (l : List J) (k : Nat) (hk : k < l.length) (i : Nat) (hi : i < 3) : (JC l)[k * 3 + i]? = (l[k]).cells[i]? := by
  induction l generalizing k with
  | nil => simp at hk
  | cons c a ih =>
    cases k with
    | zero => simp only [JC, Nat.zero_mul, Nat.zero_add, List.getElem_cons_zero]; rw [List.getElem?_append_left (by rw [J.cells_length]; omega)]
    | succ k =>
      simp only [JC, List.getElem_cons_succ]
      rw [List.getElem?_append_right (by rw [J.cells_length]; omega), J.cells_length, show (k + 1) * 3 + i - 3 = k * 3 + i by omega]
      exact ih k (by simpa using hk)
def J.blocks (j : J) : List Nat := j.lv.ownBlock.toList ++ j.sv.ownBlock.toList
def blocks (L : List J) : List Nat := L.flatMap J.blocks
/-- The lists of a frame: of their own, apart from each other. -/
structure Own2 (w : World) (B : Nat) (lv sv : Value) (ls ss : List T) : Prop where
  l : w.ownsRow B 76 3 lv ls.length (TC ls)
  s : w.ownsRow B 76 3 sv ss.length (TC ss)
  apart : ∀ b, lv.ownBlock = some b → sv.ownBlock ≠ some b
/-- A list of frames of one's own: no two of its lists lie in one row. -/
structure Lst (w : World) (B : Nat) (v : Value) (L : List J) : Prop where
  row : w.ownsRow B 29 3 v L.length (JC L)
  own : ∀ j ∈ L, Own2 w B j.lv j.sv j.f.locals j.f.stack
  apart : (v.ownBlock.toList ++ blocks L).Nodup
theorem ins_in {w : World} {B e k n : Nat} {v : Value} {xs : List Value} (h : w.ownsRow B e k v n xs) {b : Nat} (hb : v.ownBlock = some b) : B ≤ b ∧ b < w.heap.size := by
  rcases h.2 with ⟨rfl, _⟩ | ⟨g, cap, cur, rfl, h1, h2, _⟩
  · cases hb
  · cases hb; exact ⟨h1, (Array.getElem?_eq_some_iff.1 h2).1⟩
theorem ins_kept {w w' : World} {B e k n : Nat} {v : Value} {xs : List Value} {row : Option Nat} (h : w.ownsRow B e k v n xs) (hg : w.grownBy w' row) (hr : ∀ b, row = some b → v.ownBlock ≠ some b) : w'.ownsRow B e k v n xs := by
  refine ⟨h.1, ?_⟩
  rcases h.2 with h0 | ⟨g, cap, cur, rfl, h1, h2, h3⟩
  · exact .inl h0
  · refine .inr ⟨g, cap, cur, rfl, h1, ?_, h3⟩
    rw [hg.block g (Array.getElem?_eq_some_iff.1 h2).1 (fun e => hr g e.symm rfl)]; exact h2
theorem Own2.kept {w w' : World} {B : Nat} {lv sv : Value} {ls ss : List T} {row : Option Nat} (h : Own2 w B lv sv ls ss) (hg : w.grownBy w' row) (hr : ∀ b, row = some b → b < B) : Own2 w' B lv sv ls ss :=
  ⟨ins_kept h.l hg (fun b e e2 => by have := hr b e; have := (ins_in h.l e2).1; omega), ins_kept h.s hg (fun b e e2 => by have := hr b e; have := (ins_in h.s e2).1; omega), h.apart⟩
theorem Own2.keptX {w w' : World} {B : Nat} {lv sv : Value} {ls ss : List T} {row : Option Nat} (h : Own2 w B lv sv ls ss) (hg : w.grownBy w' row) (h1 : ∀ b, row = some b → lv.ownBlock ≠ some b) (h2 : ∀ b, row = some b → sv.ownBlock ≠ some b) : Own2 w' B lv sv ls ss :=
  ⟨ins_kept h.l hg h1, ins_kept h.s hg h2, h.apart⟩
theorem Own2.base {w : World} {B B' : Nat} {lv sv : Value} {ls ss : List T} (h : Own2 w B lv sv ls ss) (hB : B' ≤ B) : Own2 w B' lv sv ls ss := ⟨own_mono h.l hB, own_mono h.s hB, h.apart⟩
theorem Own2.nil (w : World) (B : Nat) : Own2 w B (.slice none 0 0) (.slice none 0 0) [] [] := ⟨World.ownsRow_nil _ _ _ _, World.ownsRow_nil _ _ _ _, fun _ e => by cases e⟩
theorem Lst.nil (w : World) (B : Nat) : Lst w B (.slice none 0 0) [] := ⟨World.ownsRow_nil _ _ _ _, (fun _ h => by cases h), by simp [Value.ownBlock, blocks]⟩
theorem mem_blocks {L : List J} {b : Nat} : b ∈ blocks L ↔ ∃ j ∈ L, j.lv.ownBlock = some b ∨ j.sv.ownBlock = some b := by
  unfold blocks J.blocks; simp [List.mem_flatMap, Option.mem_toList]
theorem Lst.blocks_in {w : World} {B : Nat} {v : Value} {L : List J} (h : Lst w B v L) {b : Nat} (hb : b ∈ v.ownBlock.toList ++ blocks L) : B ≤ b ∧ b < w.heap.size := by
  rw [List.mem_append] at hb
  rcases hb with hb | hb
  · exact ins_in h.row (by simpa using hb)
  · obtain ⟨j, hj, e | e⟩ := mem_blocks.1 hb
    · exact ins_in (h.own j hj).l e
    · exact ins_in (h.own j hj).s e
theorem Lst.kept {w w' : World} {B : Nat} {v : Value} {L : List J} {row : Option Nat} (h : Lst w B v L) (hg : w.grownBy w' row) (hr : ∀ b, row = some b → b < B) : Lst w' B v L :=
  ⟨ins_kept h.row hg (fun b e e2 => by have := hr b e; have := (ins_in h.row e2).1; omega), fun j hj => (h.own j hj).kept hg hr, h.apart⟩
/-- A step that turns a row that is not the list's own, nor one of its lists'. -/
theorem Lst.keptX {w w' : World} {B : Nat} {v : Value} {L : List J} {row : Option Nat} (h : Lst w B v L) (hg : w.grownBy w' row) (hr : ∀ b, row = some b → w.heap.size ≤ b ∨ b < B) : Lst w' B v L :=
  ⟨ins_kept h.row hg (fun b e e2 => by have := hr b e; have := ins_in h.row e2; omega), fun j hj => (h.own j hj).keptX hg (fun b e e2 => by have := hr b e; have := ins_in (h.own j hj).l e2; omega) (fun b e e2 => by have := hr b e; have := ins_in (h.own j hj).s e2; omega), h.apart⟩
/-- One more frame, its lists laid since. -/
theorem Lst.push {w w1 w3 : World} {B : Nat} {v v' : Value} {L : List J} {j : J} {row : Option Nat} {o : Obj} (h : Lst w B v L) (hB : B ≤ w.heap.size) (hg : w.grownBy w1 row) (hr : ∀ b, row = some b → b < B ∨ w.heap.size ≤ b)
    (hj : Own2 w1 w.heap.size j.lv j.sv j.f.locals j.f.stack) (hrow : w3.ownsRow B 29 3 v' (L.length + 1) (JC L ++ j.cells)) (hg3 : (w1.alloc o).grownBy w3 v.ownBlock) (hl : v'.ownBlock = v.ownBlock ∨ v'.ownBlock = some (w1.alloc o).heap.size) :
    Lst w3 B v' (L ++ [j]) := by
  have hnd := List.nodup_append.1 h.apart
  have hz : (w1.alloc o).heap.size = w1.heap.size + 1 := by simp
  have hold : ∀ b, v.ownBlock = some b → B ≤ b ∧ b < w.heap.size := fun b e => ins_in h.row e
  have hbl : blocks (L ++ [j]) = blocks L ++ J.blocks j := by simp [blocks]
  refine ⟨?_, ?_, ?_⟩
  · rw [JC_snoc, List.length_append, List.length_singleton]; exact hrow
  · intro k hk
    rw [List.mem_append, List.mem_singleton] at hk
    rcases hk with hk | rfl
    · have h1 := ((h.keptX hg (fun b e => (hr b e).symm)).own k hk).kept (World.grownBy_alloc w1 o none) (fun _ e => by cases e)
      refine h1.keptX hg3 (fun b e e2 => ?_) (fun b e e2 => ?_)
      · exact hnd.2.2 b (by simp [e]) b (mem_blocks.2 ⟨k, hk, .inl e2⟩) rfl
      · exact hnd.2.2 b (by simp [e]) b (mem_blocks.2 ⟨k, hk, .inr e2⟩) rfl
    · have h1 := hj.kept (World.grownBy_alloc w1 o none) (fun _ e => by cases e)
      refine (h1.keptX hg3 (fun b e e2 => ?_) (fun b e e2 => ?_)).base hB
      · have := (ins_in hj.l e2).1; have := hold b e; omega
      · have := (ins_in hj.s e2).1; have := hold b e; omega
  · have hnew : ∀ b, b ∈ J.blocks j → w.heap.size ≤ b ∧ b < w1.heap.size := fun b hb => by
      unfold J.blocks at hb
      rw [List.mem_append] at hb
      rcases hb with hb | hb
      · exact ins_in hj.l (by simpa using hb)
      · exact ins_in hj.s (by simpa using hb)
    have hj2 : (J.blocks j).Nodup := by
      unfold J.blocks
      rw [List.nodup_append]
      refine ⟨by cases j.lv.ownBlock <;> simp, by cases j.sv.ownBlock <;> simp, fun a ha b hb e => ?_⟩
      subst e
      exact hj.apart a (by simpa using ha) (by simpa using hb)
    rw [hbl, List.nodup_append]
    refine ⟨by cases v'.ownBlock <;> simp, ?_, ?_⟩
    · rw [List.nodup_append]
      refine ⟨hnd.2.1, hj2, fun a ha b hb e => ?_⟩
      subst e
      have := (h.blocks_in (List.mem_append_right _ ha)).2
      have := (hnew a hb).1
      omega
    · intro a ha b hb e
      subst e
      have ha' : v'.ownBlock = some a := by simpa using ha
      rw [List.mem_append] at hb
      rcases hl with hl | hl
      · rw [hl] at ha'
        rcases hb with hb | hb
        · exact hnd.2.2 a (by simp [ha']) a hb rfl
        · have := (hnew a hb).1; have := hold a ha'; omega
      · rw [hl, hz] at ha'
        cases ha'
        rcases hb with hb | hb
        · have := (h.blocks_in (List.mem_append_right _ hb)).2; have := hg.size; omega
        · have := (hnew _ hb).2; omega
theorem Lst.base {w : World} {B B' : Nat} {v : Value} {L : List J} (h : Lst w B v L) (hB : B' ≤ B) : Lst w B' v L :=
  ⟨⟨h.row.1, h.row.2.imp id fun ⟨g, cap, cur, h1, h2, h3⟩ => ⟨g, cap, cur, h1, Nat.le_trans hB h2, h3⟩⟩, fun j hj => (h.own j hj).base hB, h.apart⟩
/-- One more frame, its lists behind all that are there. -/
theorem Lst.push2 {w1 w3 : World} {B N : Nat} {v v' : Value} {L : List J} {j : J} {o : Obj} (h : Lst w1 B v L) (hN : B ≤ N) (hlt : ∀ b, b ∈ v.ownBlock.toList ++ blocks L → b < N)
    (hj : Own2 w1 N j.lv j.sv j.f.locals j.f.stack) (hrow : w3.ownsRow B 29 3 v' (L.length + 1) (JC L ++ j.cells)) (hg3 : (w1.alloc o).grownBy w3 v.ownBlock) (hl : v'.ownBlock = v.ownBlock ∨ v'.ownBlock = some (w1.alloc o).heap.size) :
    Lst w3 B v' (L ++ [j]) := by
  have hnd := List.nodup_append.1 h.apart
  have hz : (w1.alloc o).heap.size = w1.heap.size + 1 := by simp
  have hold : ∀ b, v.ownBlock = some b → b < N := fun b e => hlt b (List.mem_append_left _ (by simp [e]))
  have hbl : blocks (L ++ [j]) = blocks L ++ J.blocks j := by simp [blocks]
  refine ⟨?_, ?_, ?_⟩
  · rw [JC_snoc, List.length_append, List.length_singleton]; exact hrow
  · intro k hk
    rw [List.mem_append, List.mem_singleton] at hk
    rcases hk with hk | rfl
    · have h1 := (h.own k hk).kept (World.grownBy_alloc w1 o none) (fun _ e => by cases e)
      refine h1.keptX hg3 (fun b e e2 => ?_) (fun b e e2 => ?_)
      · exact hnd.2.2 b (by simp [e]) b (mem_blocks.2 ⟨k, hk, .inl e2⟩) rfl
      · exact hnd.2.2 b (by simp [e]) b (mem_blocks.2 ⟨k, hk, .inr e2⟩) rfl
    · have h1 := hj.kept (World.grownBy_alloc w1 o none) (fun _ e => by cases e)
      refine (h1.keptX hg3 (fun b e e2 => ?_) (fun b e e2 => ?_)).base hN
      · have := (ins_in hj.l e2).1; have := hold b e; omega
      · have := (ins_in hj.s e2).1; have := hold b e; omega
  · have hnew : ∀ b, b ∈ J.blocks j → N ≤ b ∧ b < w1.heap.size := fun b hb => by
      unfold J.blocks at hb
      rw [List.mem_append] at hb
      rcases hb with hb | hb
      · exact ins_in hj.l (by simpa using hb)
      · exact ins_in hj.s (by simpa using hb)
    have hj2 : (J.blocks j).Nodup := by
      unfold J.blocks
      rw [List.nodup_append]
      refine ⟨by cases j.lv.ownBlock <;> simp, by cases j.sv.ownBlock <;> simp, fun a ha b hb e => ?_⟩
      subst e
      exact hj.apart a (by simpa using ha) (by simpa using hb)
    rw [hbl, List.nodup_append]
    refine ⟨by cases v'.ownBlock <;> simp, ?_, ?_⟩
    · rw [List.nodup_append]
      refine ⟨hnd.2.1, hj2, fun a ha b hb e => ?_⟩
      subst e
      have := hlt a (List.mem_append_right _ ha)
      have := (hnew a hb).1
      omega
    · intro a ha b hb e
      subst e
      have ha' : v'.ownBlock = some a := by simpa using ha
      rw [List.mem_append] at hb
      rcases hl with hl | hl
      · rw [hl] at ha'
        rcases hb with hb | hb
        · exact hnd.2.2 a (by simp [ha']) a hb rfl
        · have := (hnew a hb).1; have := hold a ha'; omega
      · rw [hl, hz] at ha'
        cases ha'
        rcases hb with hb | hb
        · have := (h.blocks_in (List.mem_append_right _ hb)).2; omega
        · have := (hnew _ hb).2; omega
/-- A list of frames that can be read. -/
structure Has (w : World) (v : Value) (L : List J) : Prop where
  form : ∃ ad cap, v = .slice ad L.length cap ∧ (L ≠ [] → ∃ b o, ad = some ⟨b, o, none⟩ ∧ ∀ k (hk : k < L.length), ∀ i, i < 3 → w.cell? ⟨b, o + k * 3 + i, none⟩ = (L[k]).cells[i]?)
  own : ∀ j ∈ L, TIn w j.lv j.f.locals ∧ TIn w j.sv j.f.stack
theorem Has.of_lst {w : World} {B : Nat} {v : Value} {L : List J} (h : Lst w B v L) : Has w v L := by
  refine ⟨?_, fun j hj => ⟨TIn.of_own (h.own j hj).l, TIn.of_own (h.own j hj).s⟩⟩
  rcases h.row.2 with ⟨rfl, h0⟩ | ⟨g, cap, cur, rfl, h1⟩
  · exact ⟨none, 0, by rw [h0], fun hne => absurd (List.length_eq_zero_iff.1 h0) hne⟩
  · refine ⟨_, _, rfl, fun _ => ⟨g, 0, rfl, fun k hk i hi => ?_⟩⟩
    have e := JC_at L k hk i hi
    have hc : (L[k]).cells[i]? = some ((L[k]).cells[i]'(by rw [J.cells_length]; exact hi)) := List.getElem?_eq_getElem _
    rw [hc] at e ⊢
    have := h.row.cells (g := g) rfl (k * 3 + i) _ e
    rw [Addr.add_lit] at this
    rw [show 0 + k * 3 + i = 0 + (k * 3 + i) by omega]
    exact this
/-- The three cells of a frame. -/
def At3 (w : World) (b o : Nat) (j : J) : Prop := w.cell? ⟨b, o, none⟩ = some (.int .i64 j.f.at_) ∧ w.cell? ⟨b, o + 1, none⟩ = some j.lv ∧ w.cell? ⟨b, o + 2, none⟩ = some j.sv
theorem At3.of {w : World} {b o k : Nat} {j : J} (h : ∀ i, i < 3 → w.cell? ⟨b, o + k * 3 + i, none⟩ = j.cells[i]?) : At3 w b (o + k * 3) j :=
  ⟨h 0 (by omega), h 1 (by omega), h 2 (by omega)⟩
end Go.Proofs.Ytgihfcjddkpkaaa
namespace Go.Proofs.Ytgihfcjddkpkaaa
/-- A handler, a field, code, a method, a class. -/
structure Hn where
  from_ : Nat
  to_ : Nat
  target : Nat
  type_ : Nat
structure Fd where
  flags : Nat
  name : Nat
  type_ : Nat
  value : Nat
structure Cd where
  stack : Nat
  locals : Nat
  bytes : List UInt8
  handlers : List Hn
  map : List UInt8
structure Mt where
  flags : Nat
  name : Nat
  type_ : Nat
  has : Bool
  code : Cd
def Cd.zero : Cd := ⟨0, 0, [], [], []⟩
structure Cs where
  minor : Nat
  major : Nat
  pool : List K
  flags : Nat
  this : Nat
  super : Nat
  ifaces : List Nat
  fields : List Fd
  methods : List Mt
namespace M
section
variable {α : Type}
/-- One after the other, as long as nothing is wrong. -/
def reps (f : St → α × St) : Nat → St → List α × St
  | 0, st => ([], st)
  | n + 1, st => if st.e = 0 then ((f st).1 :: (reps f n (f st).2).1, (reps f n (f st).2).2) else ([], st)
def Rs (f : St → α × St) (n : Nat) (st0 : St) (A : List α) (m : Nat) (st : St) : Prop := A.length + m = n ∧ reps f n st0 = (A ++ (reps f m st).1, (reps f m st).2)
variable {f : St → α × St} {n m : Nat} {st0 st : St} {A : List α}
theorem Rs.zero : Rs f n st0 [] n st0 := ⟨by simp, by simp⟩
theorem Rs.step (h : Rs f n st0 A (m + 1) st) (he : st.e = 0) : Rs f n st0 (A ++ [(f st).1]) m (f st).2 := by
  refine ⟨by have := h.1; simp; omega, ?_⟩
  rw [h.2, reps, if_pos he]; simp
theorem Rs.stop (h : Rs f n st0 A m st) (he : st.e ≠ 0) : reps f n st0 = (A, st) := by
  rw [h.2]
  cases m with
  | zero => simp [reps]
  | succ m => rw [reps, if_neg he]; simp
theorem Rs.done (h : Rs f n st0 A 0 st) : reps f n st0 = (A, st) := by rw [h.2]; simp [reps]
/-- Lists: how many, and then each. -/
def lst (s : List UInt8) (f : St → α × St) (st : St) : List α × St := reps f (rd s 2 st).1 (rd s 2 st).2
theorem reps_pos {L : Nat} (hf : ∀ st : St, st.pos ≤ L → (f st).2.pos ≤ L) : ∀ {n : Nat} {st : St}, st.pos ≤ L → (reps f n st).2.pos ≤ L
  | 0, _, h => h
  | n + 1, st, h => by
    rw [reps]; split
    · exact reps_pos hf (hf _ h)
    · exact h
end
def u16 (s : List UInt8) (st : St) : Nat × St := rd s 2 st
def hnd (s : List UInt8) (st : St) : Hn × St :=
  (⟨(rd s 2 st).1, (rd s 2 (rd s 2 st).2).1, (rd s 2 (rd s 2 (rd s 2 st).2).2).1, (rd s 2 (rd s 2 (rd s 2 (rd s 2 st).2).2).2).1⟩, (rd s 2 (rd s 2 (rd s 2 (rd s 2 st).2).2).2).2)
theorem hnd_pos {s : List UInt8} {st : St} (h : st.pos ≤ s.length) : (hnd s st).2.pos ≤ s.length := rd_pos (rd_pos (rd_pos (rd_pos h)))
theorem hnd_lt (s : List UInt8) (st : St) : (hnd s st).1.from_ < 65536 ∧ (hnd s st).1.to_ < 65536 ∧ (hnd s st).1.target < 65536 ∧ (hnd s st).1.type_ < 65536 := ⟨rd2 _ _, rd2 _ _, rd2 _ _, rd2 _ _⟩
/-- An attribute: what is done with it is told by what was found so far, where it begins, its name, its length. -/
def att {σ : Type} (s : List UInt8) (P : List K) (A : σ → Nat → List UInt8 → Nat → St → σ × St) (x : σ) (st : St) : σ × St :=
  A x st.pos (text P ((rd s 2 st).1 : Int)) (rd s 4 (if tag P ((rd s 2 st).1 : Int) = 1 then (rd s 2 st).2 else fail (rd s 2 st).2 7 st.pos)).1 (rd s 4 (if tag P ((rd s 2 st).1 : Int) = 1 then (rd s 2 st).2 else fail (rd s 2 st).2 7 st.pos)).2
def atts {σ : Type} (s : List UInt8) (P : List K) (A : σ → Nat → List UInt8 → Nat → St → σ × St) : Nat → σ → St → σ × St
  | 0, x, st => (x, st)
  | n + 1, x, st => if st.e = 0 then atts s P A n (att s P A x st).1 (att s P A x st).2 else (x, st)
def none_ (s : List UInt8) (x : Unit) (_ : Nat) (_ : List UInt8) (n : Nat) (st : St) : Unit × St := (x, (take s n st).2)
/-- Where attributes of one name count: the first is read, a second may not be. -/
def once {σ : Type} (s : List UInt8) (counts : List UInt8) (read : σ → Nat → St → σ × St) (x : Bool × σ) (at_ : Nat) (name : List UInt8) (n : Nat) (st : St) : (Bool × σ) × St :=
  if name = counts then ((true, (read x.2 n (if x.1 = true then fail st 11 at_ else st)).1),
    if (read x.2 n (if x.1 = true then fail st 11 at_ else st)).2.pos = st.pos + n then (read x.2 n (if x.1 = true then fail st 11 at_ else st)).2 else fail (read x.2 n (if x.1 = true then fail st 11 at_ else st)).2 12 at_)
  else (x, (take s n st).2)
end M
end Go.Proofs.Ytgihfcjddkpkaaa
namespace Go.Proofs.Ytgihfcjddkpkaaa
namespace M
def cvName : List UInt8 := [67, 111, 110, 115, 116, 97, 110, 116, 86, 97, 108, 117, 101]
def codeName : List UInt8 := [67, 111, 100, 101]
def mapName : List UInt8 := [83, 116, 97, 99, 107, 77, 97, 112, 84, 97, 98, 108, 101]
/-- The value of a field. -/
def fval (s : List UInt8) (_ : Nat) (_ : Nat) (st : St) : Nat × St := rd s 2 st
/-- Attributes, of a count that is read. -/
def attsN {σ : Type} (s : List UInt8) (P : List K) (A : σ → Nat → List UInt8 → Nat → St → σ × St) (x : σ) (st : St) : σ × St := atts s P A (rd s 2 st).1 x (rd s 2 st).2
def three (s : List UInt8) (st : St) : Nat × Nat × Nat × St := ((rd s 2 st).1, (rd s 2 (rd s 2 st).2).1, (rd s 2 (rd s 2 (rd s 2 st).2).2).1, (rd s 2 (rd s 2 (rd s 2 st).2).2).2)
theorem three_lt (s : List UInt8) (st : St) : (three s st).1 < 65536 ∧ (three s st).2.1 < 65536 ∧ (three s st).2.2.1 < 65536 := ⟨rd2 _ _, rd2 _ _, rd2 _ _⟩
theorem three_pos {s : List UInt8} {st : St} (h : st.pos ≤ s.length) : (three s st).2.2.2.pos ≤ s.length := rd_pos (rd_pos (rd_pos h))
def fld (s : List UInt8) (P : List K) (st : St) : Fd × St :=
  (⟨(three s st).1, (three s st).2.1, (three s st).2.2.1, (attsN s P (once s cvName (fval s)) (false, 0) (three s st).2.2.2).1.2⟩, (attsN s P (once s cvName (fval s)) (false, 0) (three s st).2.2.2).2)
/-- What is in a map's attribute. -/
def mval (s : List UInt8) (_ : List UInt8) (n : Nat) (st : St) : List UInt8 × St := take s n st
def cod (s : List UInt8) (P : List K) (st : St) : Cd × St :=
  let a := rd s 2 st
  let b := rd s 2 a.2
  let n := rd s 4 b.2
  let t := take s n.1 n.2
  let h := lst s (hnd s) t.2
  let r := attsN s P (once s mapName (mval s)) (false, []) h.2
  (⟨a.1, b.1, t.1, h.1, r.1.2⟩, r.2)
/-- What is in a Code attribute. -/
def cval (s : List UInt8) (P : List K) (_ : Bool × Cd) (_ : Nat) (st : St) : (Bool × Cd) × St := ((true, (cod s P st).1), (cod s P st).2)
def mth (s : List UInt8) (P : List K) (st : St) : Mt × St :=
  let r := attsN s P (once s codeName (cval s P)) (false, (false, Cd.zero)) (three s st).2.2.2
  (⟨(three s st).1, (three s st).2.1, (three s st).2.2.1, r.1.2.1, r.1.2.2⟩, r.2)
end M
end Go.Proofs.Ytgihfcjddkpkaaa
