/-
  A cut's block and an instruction's, from a world on; the bytes ahead of a switch's numbers.
-/
import Derived.Test.YtpmonoenppfekabDoorForm
namespace Go.Proofs.YtpmonoenppfekabDoor
open Go.RowKit
structure MidC (w0 w : World) (R g : Nat) (s : ByteArray) (st : St) (c : C) : Prop where
  rd : Rc w R s st
  ib : Ib w g c
  ne : R ≠ g
  kp : Kp R g w0 w
section
variable {w0 w w' : World} {R g : Nat} {s : ByteArray} {st st' : St} {c : C}
theorem MidC.take (h : MidC w0 w R g s st c) (hr : Rc w' R s st') (hg : w.grownBy w' (some R)) : MidC w0 w' R g s st' c :=
  ⟨hr, h.ib.kept hg (by simpa using fun e => h.ne e.symm), h.ne, h.kp.trans (Kp.rd hg)⟩
theorem MidC.grow {row : Option Nat} (h : MidC w0 w R g s st c) (hg : w.grownBy w' row) (h1 : some R ≠ row) (h2 : some g ≠ row) (h4 : ∀ k, row = some k → w0.heap.size ≤ k) : MidC w0 w' R g s st c :=
  ⟨h.rd.kept hg h1, h.ib.kept hg h2, h.ne, hg.os.trans h.kp.os, hg.tape.trans h.kp.tape, hg.output.trans h.kp.output, Nat.le_trans h.kp.size hg.size,
    fun k hk a b => (hg.block k (Nat.lt_of_lt_of_le hk h.kp.size) (fun e => by have := h4 k e.symm; omega)).trans (h.kp.block k hk a b)⟩
theorem MidC.alloc (h : MidC w0 w R g s st c) (o : Obj) : MidC w0 (w.alloc o) R g s st c := h.grow (World.grownBy_alloc w o none) (by simp) (by simp) (fun _ e => by cases e)
theorem MidC.below (h : MidC w0 w R g s st c) (hb : Below w.heap.size w w') : MidC w0 w' R g s st c := h.grow (grown_of_below hb none) (by simp) (by simp) (fun _ e => by cases e)
theorem MidC.drew (h : MidC w0 w R g s st c) : MidC w0 w.drew R g s st c := ⟨h.rd, h.ib, h.ne, h.kp.drew⟩
theorem MidC.drewN (h : MidC w0 w R g s st c) (n : Nat) : MidC w0 (w.drewN n) R g s st c := ⟨h.rd, h.ib, h.ne, h.kp.drewN n⟩
theorem MidC.set {c' : C} (h : MidC w0 w R g s st c) (i : Nat) (x : Value) (hi : Ib (w.setCell ⟨g, i, none⟩ x) g c') : MidC w0 (w.setCell ⟨g, i, none⟩ x) R g s st c' :=
  ⟨h.rd.kept (grown_set w g i x) (by simpa using h.ne), hi, h.ne, h.kp.trans (Kp.ib (grown_set w g i x))⟩
theorem MidC.app {B n : Nat} {v : Value} {xs : List Value} (h : MidC w0 w R g s st c) (hr : w.ownsRow B 3 1 v n xs) (hg : w.grownBy w' v.ownBlock) (hB : w0.heap.size ≤ B) (hR : R < B) (hgB : g < B) : MidC w0 w' R g s st c :=
  h.grow hg (fun e => by have := (row_in hr e.symm).1; omega) (fun e => by have := (row_in hr e.symm).1; omega) (fun k e => by have := (row_in hr e).1; omega)
end
structure DoneC (w w' : World) (R g B : Nat) (s : ByteArray) (st : St) (c : C) (ks ts : List Int) : Prop where
  mid : MidC w w' R g s st c
  own : Own2 w' B c.kv c.tv ks ts
theorem sgn_rd (l : List UInt8) : M.rd M.fw l = M.sgn 4 (M.num l) := rfl
theorem csigned4 (R : Nat) (s : ByteArray) (st : St) (hs : s.size ≤ 131072) (hp : st.pos ≤ s.size) (w : World) (h : Rc w R s st) :
    Calls Tryd.prog 59 #[.pointer (some ⟨R, 0, none⟩), .int .i64 4] w fun x w' => TookC R s (M.take s.data.toList 4 st).2 w (.int .i64 (M.rd M.fw (M.take s.data.toList 4 st).1)) x w' :=
  csigned_any R 4 s st w h hs (.inr (.inr rfl)) hp
theorem cnum1 (R : Nat) (s : ByteArray) (st : St) (hs : s.size ≤ 131072) (hp : st.pos ≤ s.size) (w : World) (h : Rc w R s st) :
    Calls Tryd.prog 58 #[.pointer (some ⟨R, 0, none⟩), .int .i64 1] w fun x w' => TookC R s (M.take s.data.toList 1 st).2 w (.int .i64 (M.num (M.take s.data.toList 1 st).1 : Nat)) x w' :=
  cnum_any R 1 s st w h hs (by omega) hp
theorem enter59 : ∀ vals w, (callFunc 59 vals).run Tryd.prog w = .ok (.enter 59 vals) w := enters Tryd.func59 (by kernel_rfl) (by kernel_rfl)
end Go.Proofs.YtpmonoenppfekabDoor
