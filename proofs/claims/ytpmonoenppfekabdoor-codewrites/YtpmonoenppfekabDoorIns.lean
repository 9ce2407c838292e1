/-
  The block of an instruction; the worlds that reading one leaves.
-/
import Derived.Test.YtpmonoenppfekabDoorKind
import Derived.Maps.AppendAt
import Derived.Deep.Cut
namespace Go.Proofs.YtpmonoenppfekabDoor
open Go.RowKit
/-- An instruction's cells. -/
structure C where
  at_ : Nat
  op : Nat
  wide : Bool
  a : Int
  b : Int
  low : Int
  kv : Value
  tv : Value
def C.cells (c : C) : Array Value := #[.int .i64 (c.at_ : Int), .int .u8 (c.op : Int), .bool c.wide, .int .i64 c.a, .int .i64 c.b, .int .i64 c.low, c.kv, c.tv]
def Ib (w : World) (g : Nat) (c : C) : Prop := w.heap[g]? = some (.cells c.cells 35 (0, 0))
/-- Between two worlds nothing old has turned but two blocks. -/
structure Kp (R g : Nat) (w w' : World) : Prop where
  os : w'.os = w.os
  tape : w'.tape = w.tape
  output : w'.output = w.output
  size : w.heap.size ≤ w'.heap.size
  block : ∀ k, k < w.heap.size → k ≠ R → k ≠ g → w'.heap[k]? = w.heap[k]?
section
variable {w w' w1 w2 : World} {R g : Nat} {s : ByteArray} {st : St} {c : C}
theorem Kp.refl (R g : Nat) (w : World) : Kp R g w w := ⟨rfl, rfl, rfl, Nat.le_refl _, fun _ _ _ _ => rfl⟩
theorem Kp.trans (h : Kp R g w w1) (k : Kp R g w1 w2) : Kp R g w w2 :=
  ⟨k.os.trans h.os, k.tape.trans h.tape, k.output.trans h.output, Nat.le_trans h.size k.size, fun i hi a b => (k.block i (Nat.lt_of_lt_of_le hi h.size) a b).trans (h.block i hi a b)⟩
theorem Kp.rd (h : w.grownBy w' (some R)) : Kp R g w w' := ⟨h.os, h.tape, h.output, h.size, fun k hk a _ => h.block k hk (by simpa using a)⟩
theorem Kp.ib (h : w.grownBy w' (some g)) : Kp R g w w' := ⟨h.os, h.tape, h.output, h.size, fun k hk _ a => h.block k hk (by simpa using a)⟩
theorem Kp.all (h : w.grownBy w' none) : Kp R g w w' := ⟨h.os, h.tape, h.output, h.size, fun k hk _ _ => h.block k hk (by simp)⟩
theorem Kp.below (h : Below w.heap.size w w') : Kp R g w w' := Kp.all (grown_of_below h none)
theorem Kp.drew (h : Kp R g w w') : Kp R g w w'.drew := ⟨h.os, h.tape, h.output, h.size, h.block⟩
theorem Kp.drewN (h : Kp R g w w') (n : Nat) : Kp R g w (w'.drewN n) := ⟨h.os, h.tape, h.output, h.size, h.block⟩
theorem Ib.lt (h : Ib w g c) : g < w.heap.size := (Array.getElem?_eq_some_iff.1 h).1
theorem Ib.cell (h : Ib w g c) (i : Nat) : w.cell? ⟨g, i, none⟩ = c.cells[i]? := cell_of_row w g i _ 35 (0, 0) h
theorem Ib.frozen (h : Ib w g c) (i : Nat) : w.frozen? ⟨g, i, none⟩ = false := by
  unfold World.frozen?; unfold Ib at h; simp only [h]; simp
theorem Ib.kept {row : Option Nat} (h : Ib w g c) (hg : w.grownBy w' row) (hne : some g ≠ row) : Ib w' g c := by
  unfold Ib; rw [hg.block g h.lt hne]; exact h
theorem Ib.setOp (h : Ib w g c) (x : Nat) : Ib (w.setCell ⟨g, 1, none⟩ (.int .u8 (x : Int))) g { c with op := x } := by
  unfold Ib; rw [heap_setCell_same w g 1 _ 35 _ h]; rfl
theorem Ib.setWide (h : Ib w g c) (x : Bool) : Ib (w.setCell ⟨g, 2, none⟩ (.bool x)) g { c with wide := x } := by
  unfold Ib; rw [heap_setCell_same w g 2 _ 35 _ h]; rfl
theorem Ib.setA (h : Ib w g c) (x : Int) : Ib (w.setCell ⟨g, 3, none⟩ (.int .i64 x)) g { c with a := x } := by
  unfold Ib; rw [heap_setCell_same w g 3 _ 35 _ h]; rfl
theorem Ib.setB (h : Ib w g c) (x : Int) : Ib (w.setCell ⟨g, 4, none⟩ (.int .i64 x)) g { c with b := x } := by
  unfold Ib; rw [heap_setCell_same w g 4 _ 35 _ h]; rfl
theorem Ib.setLow (h : Ib w g c) (x : Int) : Ib (w.setCell ⟨g, 5, none⟩ (.int .i64 x)) g { c with low := x } := by
  unfold Ib; rw [heap_setCell_same w g 5 _ 35 _ h]; rfl
theorem Ib.setK (h : Ib w g c) (x : Value) : Ib (w.setCell ⟨g, 6, none⟩ x) g { c with kv := x } := by
  unfold Ib; rw [heap_setCell_same w g 6 _ 35 _ h]; rfl
theorem Ib.setT (h : Ib w g c) (x : Value) : Ib (w.setCell ⟨g, 7, none⟩ x) g { c with tv := x } := by
  unfold Ib; rw [heap_setCell_same w g 7 _ 35 _ h]; rfl
end
/-- The reader's block and the instruction's, from a world on. -/
structure Mid (w0 w : World) (R g : Nat) (s : ByteArray) (st : St) (c : C) : Prop where
  rd : Rd w R s st
  ib : Ib w g c
  ne : R ≠ g
  wd : Wd w
  r0 : R ≠ 0
  g0 : g ≠ 0
  kp : Kp R g w0 w
section
variable {w0 w w' : World} {R g : Nat} {s : ByteArray} {st st' : St} {c : C}
theorem Mid.take (h : Mid w0 w R g s st c) (hr : Rd w' R s st') (hg : w.grownBy w' (some R)) : Mid w0 w' R g s st' c :=
  ⟨hr, h.ib.kept hg (by simpa using fun e => h.ne e.symm), h.ne, h.wd.kept hg (by simpa using fun e => h.r0 e.symm), h.r0, h.g0, h.kp.trans (Kp.rd hg)⟩
theorem Mid.grow {row : Option Nat} (h : Mid w0 w R g s st c) (hg : w.grownBy w' row) (h1 : some R ≠ row) (h2 : some g ≠ row) (h3 : some 0 ≠ row) (h4 : ∀ k, row = some k → w0.heap.size ≤ k) : Mid w0 w' R g s st c :=
  ⟨h.rd.kept hg h1, h.ib.kept hg h2, h.ne, h.wd.kept hg h3, h.r0, h.g0, hg.os.trans h.kp.os, hg.tape.trans h.kp.tape, hg.output.trans h.kp.output, Nat.le_trans h.kp.size hg.size,
    fun k hk a b => (hg.block k (Nat.lt_of_lt_of_le hk h.kp.size) (fun e => by have := h4 k e.symm; omega)).trans (h.kp.block k hk a b)⟩
theorem Mid.alloc (h : Mid w0 w R g s st c) (o : Obj) : Mid w0 (w.alloc o) R g s st c := h.grow (World.grownBy_alloc w o none) (by simp) (by simp) (by simp) (fun _ e => by cases e)
theorem Mid.below (h : Mid w0 w R g s st c) (hb : Below w.heap.size w w') : Mid w0 w' R g s st c := h.grow (grown_of_below hb none) (by simp) (by simp) (by simp) (fun _ e => by cases e)
theorem Mid.drew (h : Mid w0 w R g s st c) : Mid w0 w.drew R g s st c := ⟨h.rd, h.ib, h.ne, h.wd, h.r0, h.g0, h.kp.drew⟩
theorem Mid.drewN (h : Mid w0 w R g s st c) (n : Nat) : Mid w0 (w.drewN n) R g s st c := ⟨h.rd, h.ib, h.ne, h.wd, h.r0, h.g0, h.kp.drewN n⟩
theorem Mid.set {c' : C} (h : Mid w0 w R g s st c) (i : Nat) (x : Value) (hi : Ib (w.setCell ⟨g, i, none⟩ x) g c') : Mid w0 (w.setCell ⟨g, i, none⟩ x) R g s st c' :=
  ⟨h.rd.kept (grown_set w g i x) (by simpa using h.ne), hi, h.ne, h.wd.kept (grown_set w g i x) (by simpa using fun e => h.g0 e.symm), h.r0, h.g0, h.kp.trans (Kp.ib (grown_set w g i x))⟩
theorem Mid.lt (h : Mid w0 w R g s st c) : R < w.heap.size ∧ g < w.heap.size := ⟨h.rd.lt, h.ib.lt⟩
end
/-- The lists of an instruction: of their own, apart from each other. -/
structure Own2 (w : World) (B : Nat) (kv tv : Value) (ks ts : List Int) : Prop where
  k : w.ownsRow B 3 1 kv ks.length (ks.map (Value.int .i64))
  t : w.ownsRow B 3 1 tv ts.length (ts.map (Value.int .i64))
  apart : ∀ b, kv.ownBlock = some b → tv.ownBlock ≠ some b
theorem row_in {w : World} {B : Nat} {v : Value} {n : Nat} {xs : List Value} (h : w.ownsRow B 3 1 v n xs) {b : Nat} (hb : v.ownBlock = some b) : B ≤ b ∧ b < w.heap.size := by
  rcases h.2 with ⟨rfl, _⟩ | ⟨g, cap, cur, rfl, h1, h2, _⟩
  · cases hb
  · cases hb; exact ⟨h1, (Array.getElem?_eq_some_iff.1 h2).1⟩
theorem row_kept {w w' : World} {B : Nat} {v : Value} {n : Nat} {xs : List Value} {row : Option Nat} (h : w.ownsRow B 3 1 v n xs) (hg : w.grownBy w' row) (hr : ∀ b, row = some b → v.ownBlock ≠ some b) : w'.ownsRow B 3 1 v n xs := by
  refine ⟨h.1, ?_⟩
  rcases h.2 with h0 | ⟨g, cap, cur, rfl, h1, h2, h3⟩
  · exact .inl h0
  · refine .inr ⟨g, cap, cur, rfl, h1, ?_, h3⟩
    rw [hg.block g (Array.getElem?_eq_some_iff.1 h2).1 (fun e => hr g e.symm rfl)]; exact h2
theorem Own2.kept {w w' : World} {B : Nat} {kv tv : Value} {ks ts : List Int} {row : Option Nat} (h : Own2 w B kv tv ks ts) (hg : w.grownBy w' row) (hr : ∀ b, row = some b → b < B) : Own2 w' B kv tv ks ts :=
  ⟨row_kept h.k hg (fun b e e2 => by have := hr b e; have := (row_in h.k e2).1; omega), row_kept h.t hg (fun b e e2 => by have := hr b e; have := (row_in h.t e2).1; omega), h.apart⟩
theorem Own2.nil (w : World) (B : Nat) : Own2 w B (.slice none 0 0) (.slice none 0 0) [] [] := ⟨World.ownsRow_nil _ _ _ _, World.ownsRow_nil _ _ _ _, fun _ e => by cases e⟩
theorem Own2.lit {w w' : World} {B : Nat} (x : Int) (hB : B ≤ w.heap.size) (hw : w' = w.alloc (.cells #[.int .i64 x] 3)) : Own2 w' B (.slice none 0 0) (.slice (some ⟨w.heap.size, 0, none⟩) 1 1) [] [x] :=
  ⟨World.ownsRow_nil _ _ _ _, ⟨rfl, .inr ⟨w.heap.size, 1, _, rfl, hB, by rw [hw]; exact heap_alloc_new w _, Nat.le_refl _, by unfold maxLen; omega, rfl, rfl⟩⟩, fun _ e => by cases e⟩
/-- What stays of the layout's block. -/
def Lb (w : World) (b : Nat) (L : Lay) : Prop := w.heap[b]? = some (.cells #[.int .i64 (L.a.size : Int), .int .i64 L.a.low, .int .i64 L.a.high, .int .i64 (L.b.size : Int), .int .i64 L.b.low, .int .i64 L.b.high, .int .i64 (L.z.size : Int), .int .i64 L.z.low, .int .i64 L.z.high, .int .i64 (L.t.size : Int), .int .i64 L.t.low, .int .i64 L.t.high] 94 (0, 0))
theorem Lb.kept {w w' : World} {b : Nat} {L : Lay} {row : Option Nat} (h : Lb w b L) (hg : w.grownBy w' row) (hr : some b ≠ row) : Lb w' b L := by
  unfold Lb; rw [hg.block b (Array.getElem?_eq_some_iff.1 h).1 hr]; exact h
theorem Lb.cell {w : World} {b : Nat} {L : Lay} (h : Lb w b L) (i : Nat) : w.cell? ⟨b, i, none⟩ = #[.int .i64 (L.a.size : Int), .int .i64 L.a.low, .int .i64 L.a.high, .int .i64 (L.b.size : Int), .int .i64 L.b.low, .int .i64 L.b.high, .int .i64 (L.z.size : Int), .int .i64 L.z.low, .int .i64 L.z.high, .int .i64 (L.t.size : Int), .int .i64 L.t.low, .int .i64 L.t.high][i]? := cell_of_row w b i _ 94 (0, 0) h
end Go.Proofs.YtpmonoenppfekabDoor
