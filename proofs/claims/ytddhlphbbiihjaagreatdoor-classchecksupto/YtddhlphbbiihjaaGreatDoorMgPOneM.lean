/-
  jvmcoreref2's form; a cut's signed numbers.
  A cut's block and an instruction's, from a world on; the bytes ahead of a switch's numbers.
  What stands behind each sign: the states of a cut against the plain answer.
-/
import Derived.Test.YtddhlphbbiihjaaGreatDoorPCut
namespace Go.Proofs.YtddhlphbbiihjaaGreatDoor.Dc
open Go.RowKit
set_option maxHeartbeats 400000 in
theorem csigned_any (R n : Nat) (s : ByteArray) (st : St) (w : World) (h : Rc w R s st) (hs : s.size ≤ 131072) (hn : n = 1 ∨ n = 2 ∨ n = 4) (hp : st.pos ≤ s.size) :
    Calls Tryz.prog 116 #[.pointer (some ⟨R, 0, none⟩), .int .i64 (n : Int)] w fun x w' => TookC R s (M.take s.data.toList n st).2 w (.int .i64 (M.sgn n (M.num (M.take s.data.toList n st).1))) x w' := by
  have hc := ctake_any R n s st w h hs (by omega) hp
  have hz := took_size s.data.toList n st
  have hN := fun w1 => signed_any (took s.data.toList n st) w1 (by rw [hz]; exact hn)
  rw [took_num, hz] at hN
  obtain ⟨x, hx⟩ : ∃ x, x = M.sgn n (M.num (M.take s.data.toList n st).1) := ⟨_, rfl⟩
  rw [← hx] at hN ⊢
  have Hc := hide hc
  have HN := hide hN
  clear hc hN hx hz h
  go_enter Tryz.func116, Tryz.ntmps116
  go_wp2_with fail
  refine (unhide Hc).mono ?_
  rintro e w1 ⟨rfl, hr1, hg1⟩
  go_wp2_with fail
  refine (unhide HN _).mono ?_
  rintro e w2 ⟨rfl, hww⟩
  subst w2
  go_wp2
  go_ret
  exact ⟨rfl, hr1, hg1⟩
/-- The sign of an instruction's operands. -/
def sign (op : Nat) : UInt8 :=
  if op = 196 then 119 else if M.kind op = 2 then 98 else if M.kind op = 3 then 115 else if M.kind op = 4 then 99 else if M.kind op = 5 then 105 else if M.kind op = 6 then 108 else if M.kind op = 8 then 110
  else if M.kind op = 10 then 106 else if M.kind op = 11 then 74 else if M.kind op = 12 then 102 else if M.kind op = 13 then 97 else if M.kind op = 14 then 109 else if M.kind op = 15 then 116 else if M.kind op = 16 then 107
  else if M.kind op = 0 then 120 else 46
set_option maxRecDepth 100000 in
set_option maxHeartbeats 1000000 in
theorem form_low (op : Nat) (w : World) (ho : op < 201) : Calls Tryz.prog 115 #[.int .i64 (op : Int)] w fun e w' => e = .returned (.string ⟨#[sign op]⟩) ∧ w' = w := by
  have Ho := hide ho
  go_enter Tryz.func115, Tryz.ntmps115
  go_wp2
  go_ret
  refine ⟨congrArg (fun z => Ending.returned (.string z)) ?_, rfl⟩
  have ho := unhide Ho
  clear Ho
  rename_i h1
  clear h1
  revert op
  decide +kernel
set_option maxRecDepth 100000 in
set_option maxHeartbeats 1000000 in
theorem form_high (op : Nat) (w : World) (h1 : 201 ≤ op) (h2 : op < 256) : Calls Tryz.prog 115 #[.int .i64 (op : Int)] w fun e w' => e = .returned (.string ⟨#[sign op]⟩) ∧ w' = w := by
  have hs : sign op = 120 := by
    have h : ∀ k : Fin 256, 201 ≤ k.val → sign k.val = 120 := by decide +kernel
    exact h ⟨op, h2⟩ h1
  rw [hs]
  clear hs
  have h1' : (201 : Int) ≤ (op : Int) := by omega
  go_enter Tryz.func115, Tryz.ntmps115
  go_wp2
  go_ret
  exact ⟨rfl, rfl⟩
theorem form_any (op : Nat) (w : World) (ho : op < 256) : Calls Tryz.prog 115 #[.int .i64 (op : Int)] w fun e w' => e = .returned (.string ⟨#[sign op]⟩) ∧ w' = w := by
  by_cases h : op < 201
  · exact form_low op w h
  · exact form_high op w (by omega) ho
end Go.Proofs.YtddhlphbbiihjaaGreatDoor.Dc
namespace Go.Proofs.YtddhlphbbiihjaaGreatDoor.Dc
open Go.RowKit
structure MidC (w0 w : World) (R g : Nat) (s : ByteArray) (st : St) (c : C) : Prop where
  rd : Rc w R s st
  ib : Ib w g c
  ne : R ≠ g
  kp : Kp R g w0 w
section
variable {w0 w w' : World} {R g : Nat} {s : ByteArray} {st st' : St} {c : C}
theorem MidC.take (h : MidC w0 w R g s st c) (hr : Rc w' R s st') (hg : w.grownBy w' (some R)) : MidC w0 w' R g s st' c :=
  ⟨hr, h.ib.kept hg (by simpa using fun e => h.ne e.symm), h.ne, h.kp.trans (Kp.rd hg)⟩
theorem MidC.grow {row : Option Nat} (h : MidC w0 w R g s st c) (hg : w.grownBy w' row) (h1 : some R ≠ row) (h2 : some g ≠ row) (h4 : ∀ k, row = some k → w0.heap.size ≤ k) : MidC w0 w' R g s st c :=
  ⟨h.rd.kept hg h1, h.ib.kept hg h2, h.ne, hg.os.trans h.kp.os, hg.tape.trans h.kp.tape, hg.output.trans h.kp.output, Nat.le_trans h.kp.size hg.size,
    fun k hk a b => (hg.block k (Nat.lt_of_lt_of_le hk h.kp.size) (fun e => by have := h4 k e.symm; omega)).trans (h.kp.block k hk a b)⟩
theorem MidC.alloc (h : MidC w0 w R g s st c) (o : Obj) : MidC w0 (w.alloc o) R g s st c := h.grow (World.grownBy_alloc w o none) (by simp) (by simp) (fun _ e => by cases e)
theorem MidC.drew (h : MidC w0 w R g s st c) : MidC w0 w.drew R g s st c := ⟨h.rd, h.ib, h.ne, h.kp.drew⟩
theorem MidC.drewN (h : MidC w0 w R g s st c) (n : Nat) : MidC w0 (w.drewN n) R g s st c := ⟨h.rd, h.ib, h.ne, h.kp.drewN n⟩
theorem MidC.set {c' : C} (h : MidC w0 w R g s st c) (i : Nat) (x : Value) (hi : Ib (w.setCell ⟨g, i, none⟩ x) g c') : MidC w0 (w.setCell ⟨g, i, none⟩ x) R g s st c' :=
  ⟨h.rd.kept (grown_set w g i x) (by simpa using h.ne), hi, h.ne, h.kp.trans (Kp.ib (grown_set w g i x))⟩
theorem MidC.app {B n : Nat} {v : Value} {xs : List Value} (h : MidC w0 w R g s st c) (hr : w.ownsRow B 3 1 v n xs) (hg : w.grownBy w' v.ownBlock) (hB : w0.heap.size ≤ B) (hR : R < B) (hgB : g < B) : MidC w0 w' R g s st c :=
  h.grow hg (fun e => by have := (row_in hr e.symm).1; omega) (fun e => by have := (row_in hr e.symm).1; omega) (fun k e => by have := (row_in hr e).1; omega)
end
structure DoneC (w w' : World) (R g B : Nat) (s : ByteArray) (st : St) (c : C) (ks ts : List Int) : Prop where
  mid : MidC w w' R g s st c
  own : Own2 w' B c.kv c.tv ks ts
theorem csigned4 (R : Nat) (s : ByteArray) (st : St) (hs : s.size ≤ 131072) (hp : st.pos ≤ s.size) (w : World) (h : Rc w R s st) :
    Calls Tryz.prog 116 #[.pointer (some ⟨R, 0, none⟩), .int .i64 4] w fun x w' => TookC R s (M.take s.data.toList 4 st).2 w (.int .i64 (M.rd M.fw (M.take s.data.toList 4 st).1)) x w' :=
  csigned_any R 4 s st w h hs (.inr (.inr rfl)) hp
theorem cnum1 (R : Nat) (s : ByteArray) (st : St) (hs : s.size ≤ 131072) (hp : st.pos ≤ s.size) (w : World) (h : Rc w R s st) :
    Calls Tryz.prog 114 #[.pointer (some ⟨R, 0, none⟩), .int .i64 1] w fun x w' => TookC R s (M.take s.data.toList 1 st).2 w (.int .i64 (M.num (M.take s.data.toList 1 st).1 : Nat)) x w' :=
  cnum_any R 1 s st w h hs (by omega) hp
theorem enter116 : ∀ vals w, (callFunc 116 vals).run Tryz.prog w = .ok (.enter 116 vals) w := enters Tryz.func116 (by kernel_rfl) (by kernel_rfl)
end Go.Proofs.YtddhlphbbiihjaaGreatDoor.Dc
namespace Go.Proofs.YtddhlphbbiihjaaGreatDoor.Dc
namespace M
section
variable {s : List UInt8} {a op : Nat} {w : Bool} {st : St}
theorem rd_f0 : rd ⟨0, 0, 0⟩ [] = 0 := rfl
theorem hold0 (x : Int) : holds ⟨0, 0, 0⟩ x = true := rfl
theorem holdS1 (l : List UInt8) (h : l.length ≤ 1) : holds ⟨1, -128, 127⟩ (rd ⟨1, -128, 127⟩ l) = true := by
  have := sgn_bound (num_le h)
  simp only [Nat.reducePow] at this
  simp [holds, rd]; omega
theorem holdS2 (l : List UInt8) (h : l.length ≤ 2) : holds ⟨2, -32768, 32767⟩ (rd ⟨2, -32768, 32767⟩ l) = true := by
  have := sgn_bound (num_le h)
  simp only [Nat.reducePow] at this
  simp [holds, rd]; omega
theorem holdU1 (l : List UInt8) (h : l.length ≤ 1) : holds ⟨1, 0, 255⟩ (rd ⟨1, 0, 255⟩ l) = true := by
  have := num_le h
  simp only [Nat.reducePow] at this
  simp [holds, rd]; omega
theorem holdU2 (l : List UInt8) (h : l.length ≤ 2) : holds ⟨2, 0, 65535⟩ (rd ⟨2, 0, 65535⟩ l) = true := by
  have := num_le h
  simp only [Nat.reducePow] at this
  simp [holds, rd]; omega
/-- One operand, always right. -/
theorem one_op {f : F} (hp : st.pos ≤ s.length) (hf : ∀ l, l.length ≤ f.size → holds f (rd f l) = true) :
    after s a ⟨f, f0, f0, f0⟩ st = (take s f.size st).2 ∧ made s a op w ⟨f, f0, f0, f0⟩ st = ⟨a, op, w, rd f (take s f.size st).1, 0, 0, [], []⟩ := by
  have h1 := take_pos (n := f.size) hp
  unfold after made
  simp only [f0, take_zero h1, hf _ (take_len s f.size st), hold0, Bool.and_true, if_true, rd_f0]
  exact ⟨trivial, trivial⟩
/-- One operand that may be wrong. -/
theorem one_bad {f : F} (hp : st.pos ≤ s.length) :
    after s a ⟨f, f0, f0, f0⟩ st = (if holds f (rd f (take s f.size st).1) then (take s f.size st).2 else fail (take s f.size st).2 15 a) ∧ made s a op w ⟨f, f0, f0, f0⟩ st = ⟨a, op, w, rd f (take s f.size st).1, 0, 0, [], []⟩ := by
  have h1 := take_pos (n := f.size) hp
  unfold after made
  simp only [f0, take_zero h1, hold0, Bool.and_true, if_true, rd_f0]
  exact ⟨trivial, trivial⟩
theorem two_op {f g : F} (hp : st.pos ≤ s.length) (hf : ∀ l, l.length ≤ f.size → holds f (rd f l) = true) :
    after s a ⟨f, g, f0, f0⟩ st = (if holds g (rd g (take s g.size (take s f.size st).2).1) then (take s g.size (take s f.size st).2).2 else fail (take s g.size (take s f.size st).2).2 15 a) ∧
      made s a op w ⟨f, g, f0, f0⟩ st = ⟨a, op, w, rd f (take s f.size st).1, rd g (take s g.size (take s f.size st).2).1, 0, [], []⟩ := by
  have h1 := take_pos (n := f.size) hp
  have h2 := take_pos (n := g.size) h1
  unfold after made
  simp only [f0, take_zero h2, hf _ (take_len s f.size st), hold0, Bool.and_true, Bool.true_and, if_true]
  exact ⟨trivial, trivial⟩
theorem three_op {f g z : F} (hp : st.pos ≤ s.length) (hf : ∀ l, l.length ≤ f.size → holds f (rd f l) = true) :
    after s a ⟨f, g, z, f0⟩ st = (if holds g (rd g (take s g.size (take s f.size st).2).1) && holds z (rd z (take s z.size (take s g.size (take s f.size st).2).2).1) then (take s z.size (take s g.size (take s f.size st).2).2).2 else fail (take s z.size (take s g.size (take s f.size st).2).2).2 15 a) ∧
      made s a op w ⟨f, g, z, f0⟩ st = ⟨a, op, w, rd f (take s f.size st).1, rd g (take s g.size (take s f.size st).2).1, 0, [], []⟩ := by
  have h1 := take_pos (n := f.size) hp
  have h2 := take_pos (n := g.size) h1
  have h3 := take_pos (n := z.size) h2
  unfold after made
  simp only [f0, take_zero h3, hf _ (take_len s f.size st), Bool.true_and, if_true]
  exact ⟨trivial, trivial⟩
theorem jump_op {f : F} (hp : st.pos ≤ s.length) (hz : f.size ≠ 0) :
    after s a ⟨f0, f0, f0, f⟩ st = (take s f.size st).2 ∧ made s a op w ⟨f0, f0, f0, f⟩ st = ⟨a, op, w, 0, 0, 0, [], [(a : Int) + rd f (take s f.size st).1]⟩ := by
  unfold after made
  simp only [f0, take_zero hp, hold0, Bool.and_true, if_true, rd_f0, if_neg hz]
  exact ⟨trivial, trivial⟩
theorem none_op (hp : st.pos ≤ s.length) : after s a ⟨f0, f0, f0, f0⟩ st = st ∧ made s a op w ⟨f0, f0, f0, f0⟩ st = ⟨a, op, w, 0, 0, 0, [], []⟩ := by
  unfold after made
  simp only [f0, take_zero hp, hold0, Bool.and_true, if_true, rd_f0]
  exact ⟨trivial, trivial⟩
end
end M
end Go.Proofs.YtddhlphbbiihjaaGreatDoor.Dc
