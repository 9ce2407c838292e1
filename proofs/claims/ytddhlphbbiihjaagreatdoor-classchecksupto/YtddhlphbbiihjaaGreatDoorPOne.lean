/-
  jvmcoreref2's one: one instruction, cut off the bytes.
-/
import Derived.Test.YtddhlphbbiihjaaGreatDoorPChoice
import Derived.Test.YtddhlphbbiihjaaGreatDoorPChoiceK
import Derived.Deep.CutBlock
namespace Go.Proofs.YtddhlphbbiihjaaGreatDoor.Dc
open Go.RowKit
/-- What cutting an instruction leaves: the cut's block, what is handed out, two lists of its own. -/
structure CutDone (w w' : World) (R a : Nat) (s : ByteArray) (st : St) (c : C) (ks ts : List Int) : Prop where
  rd : Rc w' R s st
  grown : w.grownBy w' (some R)
  own : Own2 w' w.heap.size c.kv c.tv ks ts
  left : M.Left s.data.toList st (M.ins s.data.toList a)
  right : ∀ i q, M.ins s.data.toList a = .ok (i, q) → (i.at_ : Int) = c.at_ ∧ i.op = c.op ∧ i.wide = c.wide ∧ i.a = c.a ∧ i.b = c.b ∧ i.low = c.low ∧ i.keys = ks ∧ i.tgts = ts
/-- What an instruction that is no switch is. -/
def FinP (s : List UInt8) (a op : Nat) (wd : Bool) (st : St) (xa xb : Int) (ts : List Int) : Prop :=
  M.Left s st (M.ins s a) ∧ ∀ i q, M.ins s a = .ok (i, q) → (i.at_ : Int) = a ∧ i.op = op ∧ i.wide = wd ∧ i.a = xa ∧ i.b = xb ∧ i.low = 0 ∧ i.keys = [] ∧ i.tgts = ts
theorem fin_of {s : List UInt8} {a op b : Nat} {wd : Bool} {L : Lay} {st : St} {xa xb : Int} {ts : List Int} (hb : b ≤ s.length) (h : M.ins s a = M.plain s a op wd b L) (h1 : M.after s a L ⟨b, 0, 0⟩ = st) (h2 : M.made s a op wd L ⟨b, 0, 0⟩ = ⟨a, op, wd, xa, xb, 0, [], ts⟩) :
    FinP s a op wd st xa xb ts := by
  obtain ⟨p1, p2⟩ := M.plain_left (s := s) (a := a) (op := op) (b := b) (w := wd) (L := L) hb
  unfold FinP
  rw [h, ← h1]
  exact ⟨p1, fun i q e => by rw [p2 i q e, h2]; exact ⟨rfl, rfl, rfl, rfl, rfl, rfl, rfl, rfl⟩⟩
theorem fin_bad {s : List UInt8} {a op : Nat} {wd : Bool} {st : St} (h1 : st.e ≠ 0) (h2 : st.pos ≤ s.length) (h3 : M.ins s a = .error (st.e, st.p)) : FinP s a op wd st 0 0 [] := by
  unfold FinP; rw [h3]; exact ⟨⟨rfl, rfl, h1, h2⟩, fun _ _ e => by cases e⟩
section
variable {R b a op : Nat} {wd : Bool} {s : ByteArray} (hs : s.size ≤ 131072) (hb : b ≤ s.size)
include hs hb
/-- A number behind the number, and that is all. -/
theorem read_num (n : Nat) {h : Int} (hn : n ≤ 2) (hf : ∀ l : List UInt8, l.length ≤ n → M.holds ⟨n, 0, h⟩ (M.rd ⟨n, 0, h⟩ l) = true) (hi : M.ins s.data.toList a = M.plain s.data.toList a op wd b ⟨⟨n, 0, h⟩, M.f0, M.f0, M.f0⟩) :
    ∃ s1 x, (∀ w1, Rc w1 R s ⟨b, 0, 0⟩ → Calls Tryz.prog 114 #[.pointer (some ⟨R, 0, none⟩), .int .i64 (n : Int)] w1 fun e w' => TookC R s s1 w1 (.int .i64 x) e w') ∧ FinP s.data.toList a op wd s1 x 0 [] := by
  have hl : b ≤ s.data.toList.length := by simpa using hb
  obtain ⟨e1, e2⟩ := M.one_op (s := s.data.toList) (a := a) (op := op) (w := wd) (st := ⟨b, 0, 0⟩) (f := ⟨n, 0, h⟩) hl hf
  exact ⟨_, _, fun w1 h1 => cnum_any R n s ⟨b, 0, 0⟩ w1 h1 hs (by omega) hb, fin_of hl hi e1 e2⟩
theorem read_sgn (n : Nat) {l h : Int} (hn : n = 1 ∨ n = 2 ∨ n = 4) (h0 : l < 0) (hf : ∀ t : List UInt8, t.length ≤ n → M.holds ⟨n, l, h⟩ (M.rd ⟨n, l, h⟩ t) = true) (hi : M.ins s.data.toList a = M.plain s.data.toList a op wd b ⟨⟨n, l, h⟩, M.f0, M.f0, M.f0⟩) :
    ∃ s1 x, (∀ w1, Rc w1 R s ⟨b, 0, 0⟩ → Calls Tryz.prog 116 #[.pointer (some ⟨R, 0, none⟩), .int .i64 (n : Int)] w1 fun e w' => TookC R s s1 w1 (.int .i64 x) e w') ∧ FinP s.data.toList a op wd s1 x 0 [] := by
  have hl : b ≤ s.data.toList.length := by simpa using hb
  obtain ⟨e1, e2⟩ := M.one_op (s := s.data.toList) (a := a) (op := op) (w := wd) (st := ⟨b, 0, 0⟩) (f := ⟨n, l, h⟩) hl hf
  refine ⟨_, _, fun w1 h1 => csigned_any R n s ⟨b, 0, 0⟩ w1 h1 hs hn hb, fin_of hl hi e1 (e2.trans ?_)⟩
  simp only [M.rd, if_pos h0]
theorem read_two (n : Nat) {h g k : Int} (hn : n = 1 ∨ n = 2) (h0 : g < 0) (hf : ∀ l : List UInt8, l.length ≤ n → M.holds ⟨n, 0, h⟩ (M.rd ⟨n, 0, h⟩ l) = true) (hg : ∀ l : List UInt8, l.length ≤ n → M.holds ⟨n, g, k⟩ (M.rd ⟨n, g, k⟩ l) = true)
    (hi : M.ins s.data.toList a = M.plain s.data.toList a op wd b ⟨⟨n, 0, h⟩, ⟨n, g, k⟩, M.f0, M.f0⟩) :
    ∃ s1 x s2 y, (∀ w1, Rc w1 R s ⟨b, 0, 0⟩ → Calls Tryz.prog 114 #[.pointer (some ⟨R, 0, none⟩), .int .i64 (n : Int)] w1 fun e w' => TookC R s s1 w1 (.int .i64 x) e w') ∧
      (∀ w1, Rc w1 R s s1 → Calls Tryz.prog 116 #[.pointer (some ⟨R, 0, none⟩), .int .i64 (n : Int)] w1 fun e w' => TookC R s s2 w1 (.int .i64 y) e w') ∧ FinP s.data.toList a op wd s2 x y [] := by
  have hl : b ≤ s.data.toList.length := by simpa using hb
  obtain ⟨e1, e2⟩ := M.two_op (s := s.data.toList) (a := a) (op := op) (w := wd) (st := ⟨b, 0, 0⟩) (f := ⟨n, 0, h⟩) (g := ⟨n, g, k⟩) hl hf
  have hp := M.take_pos (n := n) (s := s.data.toList) (st := ⟨b, 0, 0⟩) hl
  rw [if_pos (hg _ (M.take_len _ _ _))] at e1
  refine ⟨_, _, _, _, fun w1 h1 => cnum_any R n s ⟨b, 0, 0⟩ w1 h1 hs (by omega) hb, fun w1 h1 => csigned_any R n s _ w1 h1 hs (by omega) (by simpa using hp), fin_of hl hi e1 (e2.trans ?_)⟩
  simp only [M.rd, if_pos h0, Int.lt_irrefl, if_false]
theorem read_jump (n : Nat) {l h : Int} (hn : n = 2 ∨ n = 4) (h0 : l < 0) (hi : M.ins s.data.toList a = M.plain s.data.toList a op wd b ⟨M.f0, M.f0, M.f0, ⟨n, l, h⟩⟩) :
    ∃ s1 x, (∀ w1, Rc w1 R s ⟨b, 0, 0⟩ → Calls Tryz.prog 116 #[.pointer (some ⟨R, 0, none⟩), .int .i64 (n : Int)] w1 fun e w' => TookC R s s1 w1 (.int .i64 x) e w') ∧ FinP s.data.toList a op wd s1 0 0 [(a : Int) + x] ∧ -4294967296 ≤ x ∧ x ≤ 4294967295 := by
  have hl : b ≤ s.data.toList.length := by simpa using hb
  obtain ⟨e1, e2⟩ := M.jump_op (s := s.data.toList) (a := a) (op := op) (w := wd) (st := ⟨b, 0, 0⟩) (f := ⟨n, l, h⟩) hl (by simp only; omega)
  have hbd := M.rd_bound ⟨n, l, h⟩ (M.take s.data.toList n ⟨b, 0, 0⟩).1 (M.take_len _ _ _) (by simp only; omega)
  refine ⟨_, _, fun w1 h1 => csigned_any R n s ⟨b, 0, 0⟩ w1 h1 hs (by omega) hb, fin_of hl hi e1 (e2.trans ?_), ?_⟩
  · simp only [M.rd, if_pos h0]
  · simpa only [M.rd, if_pos h0] using hbd
theorem read_a (hi : M.ins s.data.toList a = M.plain s.data.toList a op wd b ⟨⟨1, 4, 11⟩, M.f0, M.f0, M.f0⟩) :
    ∃ s1 x, (∀ w1, Rc w1 R s ⟨b, 0, 0⟩ → Calls Tryz.prog 114 #[.pointer (some ⟨R, 0, none⟩), .int .i64 1] w1 fun e w' => TookC R s s1 w1 (.int .i64 x) e w') ∧ (4 ≤ x ∧ x ≤ 11 → FinP s.data.toList a op wd s1 x 0 []) ∧ (¬ (4 ≤ x ∧ x ≤ 11) → FinP s.data.toList a op wd (M.fail s1 15 a) x 0 []) := by
  have hl : b ≤ s.data.toList.length := by simpa using hb
  obtain ⟨e1, e2⟩ := M.one_bad (s := s.data.toList) (a := a) (op := op) (w := wd) (st := ⟨b, 0, 0⟩) (f := ⟨1, 4, 11⟩) hl
  refine ⟨_, _, fun w1 h1 => cnum_any R 1 s ⟨b, 0, 0⟩ w1 h1 hs (by omega) hb, fun hx => ?_, fun hx => ?_⟩
  · refine fin_of hl hi (e1.trans (if_pos ?_)) e2
    simpa [M.holds, M.rd] using hx
  · refine fin_of hl hi (e1.trans (if_neg ?_)) e2
    simpa [M.holds, M.rd] using hx
theorem read_m (hi : M.ins s.data.toList a = M.plain s.data.toList a op wd b ⟨⟨2, 0, 65535⟩, ⟨1, 1, 255⟩, M.f0, M.f0⟩) :
    ∃ s1 x s2 y, (∀ w1, Rc w1 R s ⟨b, 0, 0⟩ → Calls Tryz.prog 114 #[.pointer (some ⟨R, 0, none⟩), .int .i64 2] w1 fun e w' => TookC R s s1 w1 (.int .i64 x) e w') ∧
      (∀ w1, Rc w1 R s s1 → Calls Tryz.prog 114 #[.pointer (some ⟨R, 0, none⟩), .int .i64 1] w1 fun e w' => TookC R s s2 w1 (.int .i64 y) e w') ∧ (y ≠ 0 → FinP s.data.toList a op wd s2 x y []) ∧ (y = 0 → FinP s.data.toList a op wd (M.fail s2 15 a) x y []) := by
  have hl : b ≤ s.data.toList.length := by simpa using hb
  obtain ⟨e1, e2⟩ := M.two_op (s := s.data.toList) (a := a) (op := op) (w := wd) (st := ⟨b, 0, 0⟩) (f := ⟨2, 0, 65535⟩) (g := ⟨1, 1, 255⟩) hl M.holdU2
  have hp := M.take_pos (n := 2) (s := s.data.toList) (st := ⟨b, 0, 0⟩) hl
  have hy := M.num_le (M.take_len s.data.toList 1 (M.take s.data.toList 2 ⟨b, 0, 0⟩).2)
  refine ⟨_, _, _, _, fun w1 h1 => cnum_any R 2 s ⟨b, 0, 0⟩ w1 h1 hs (by omega) hb, fun w1 h1 => cnum_any R 1 s _ w1 h1 hs (by omega) (by simpa using hp), fun hx => ?_, fun hx => ?_⟩
  · refine fin_of hl hi (e1.trans (if_pos ?_)) e2
    simp [M.holds, M.rd]; omega
  · refine fin_of hl hi (e1.trans (if_neg ?_)) e2
    simp [M.holds, M.rd]; omega
theorem read_f (hi : M.ins s.data.toList a = M.plain s.data.toList a op wd b ⟨⟨2, 0, 65535⟩, ⟨1, 1, 255⟩, ⟨1, 0, 0⟩, M.f0⟩) :
    ∃ s1 x s2 y s3 z, (∀ w1, Rc w1 R s ⟨b, 0, 0⟩ → Calls Tryz.prog 114 #[.pointer (some ⟨R, 0, none⟩), .int .i64 2] w1 fun e w' => TookC R s s1 w1 (.int .i64 x) e w') ∧
      (∀ w1, Rc w1 R s s1 → Calls Tryz.prog 114 #[.pointer (some ⟨R, 0, none⟩), .int .i64 1] w1 fun e w' => TookC R s s2 w1 (.int .i64 y) e w') ∧ (∀ w1, Rc w1 R s s2 → Calls Tryz.prog 114 #[.pointer (some ⟨R, 0, none⟩), .int .i64 1] w1 fun e w' => TookC R s s3 w1 (.int .i64 z) e w') ∧
      (z = 0 ∧ y ≠ 0 → FinP s.data.toList a op wd s3 x y []) ∧ (¬ (z = 0 ∧ y ≠ 0) → FinP s.data.toList a op wd (M.fail s3 15 a) x y []) := by
  have hl : b ≤ s.data.toList.length := by simpa using hb
  obtain ⟨e1, e2⟩ := M.three_op (s := s.data.toList) (a := a) (op := op) (w := wd) (st := ⟨b, 0, 0⟩) (f := ⟨2, 0, 65535⟩) (g := ⟨1, 1, 255⟩) (z := ⟨1, 0, 0⟩) hl M.holdU2
  have hp := M.take_pos (n := 2) (s := s.data.toList) (st := ⟨b, 0, 0⟩) hl
  have hp2 := M.take_pos (n := 1) (s := s.data.toList) hp
  have hy := M.num_le (M.take_len s.data.toList 1 (M.take s.data.toList 2 ⟨b, 0, 0⟩).2)
  refine ⟨_, _, _, _, _, _, fun w1 h1 => cnum_any R 2 s ⟨b, 0, 0⟩ w1 h1 hs (by omega) hb, fun w1 h1 => cnum_any R 1 s _ w1 h1 hs (by omega) (by simpa using hp), fun w1 h1 => cnum_any R 1 s _ w1 h1 hs (by omega) (by simpa using hp2), fun hx => ?_, fun hx => ?_⟩
  · refine fin_of hl hi (e1.trans (if_pos ?_)) e2
    simp [M.holds, M.rd]; omega
  · refine fin_of hl hi (e1.trans (if_neg ?_)) e2
    simp [M.holds, M.rd]; omega
end
/-- Where an instruction's cutting ends. -/
theorem finishC {w W1 w7 : World} {R g a : Nat} {s : ByteArray} {st : St} {c z : C} {ks ts : List Int} (hR0 : R < w.heap.size) (hgA : w.grownBy W1 (some R)) (hg : g = w.heap.size + 1) (hzA : W1.heap.size = g + 1) (hm : MidC W1 w7 R g s st c)
    (ho : Own2 w7 W1.heap.size c.kv c.tv ks ts) (hk0 : Ib W1 w.heap.size z) (hl : M.Left s.data.toList st (M.ins s.data.toList a))
    (hr : ∀ i q, M.ins s.data.toList a = .ok (i, q) → (i.at_ : Int) = c.at_ ∧ i.op = c.op ∧ i.wide = c.wide ∧ i.a = c.a ∧ i.b = c.b ∧ i.low = c.low ∧ i.keys = ks ∧ i.tgts = ts) :
    Ib (put8 w7 w.heap.size c) w.heap.size c ∧ CutDone w (put8 w7 w.heap.size c) R a s st c ks ts := by
  have hk7 : Ib w7 w.heap.size z := by
    unfold Ib; rw [hm.kp.block w.heap.size (by omega) (by omega) (by omega)]; exact hk0
  have hp := put8_grown w7 w.heap.size c
  refine ⟨put8_row hk7, hm.rd.kept hp (by simp; omega), ⟨?_, ?_, ?_, ?_, fun k hk hne => ?_⟩, ?_, hl, hr⟩
  · exact hp.os.trans (hm.kp.os.trans hgA.os)
  · exact hp.tape.trans (hm.kp.tape.trans hgA.tape)
  · exact hp.output.trans (hm.kp.output.trans hgA.output)
  · exact Nat.le_trans hgA.size (Nat.le_trans hm.kp.size hp.size)
  · have hkR : k ≠ R := by simpa using hne
    rw [hp.block k (Nat.lt_of_lt_of_le hk (Nat.le_trans hgA.size hm.kp.size)) (by simp; omega), hm.kp.block k (by omega) hkR (by omega), hgA.block k hk hne]
  · have := ho.kept hp (fun b e => by cases e; omega)
    exact ⟨row_base this.k (by omega), row_base this.t (by omega), this.apart⟩
/-- The letter of a kind. -/
def letter (k : Nat) : UInt8 :=
  if k = 0 then 120 else if k = 2 then 98 else if k = 3 then 115 else if k = 4 then 99 else if k = 5 then 105 else if k = 6 ∨ k = 7 then 108 else if k = 8 ∨ k = 9 then 110 else if k = 10 then 106 else if k = 11 then 74
  else if k = 12 then 102 else if k = 13 then 97 else if k = 14 then 109 else if k = 15 then 116 else if k = 16 then 107 else 46
theorem sign_letter {op : Nat} (h : op < 256) (hn : op ≠ 196) : sign op = letter (M.kind op) := by
  have h : ∀ k : Fin 256, k.val ≠ 196 → sign k.val = letter (M.kind k.val) := by decide +kernel
  exact h ⟨op, ‹_›⟩ hn
theorem sign_wide {op : Nat} (h : op < 256) : (sign op == 119) = decide (op = 196) := by
  have h : ∀ k : Fin 256, (sign k.val == 119) = decide (k.val = 196) := by decide +kernel
  exact h ⟨op, ‹_›⟩
theorem sign_six {op : Nat} (h : op < 256) : (sign op != 108) = decide (M.kind op ≠ 6) := by
  have h : ∀ k : Fin 256, (sign k.val != 108) = decide (M.kind k.val ≠ 6) := by decide +kernel
  exact h ⟨op, ‹_›⟩
theorem sign_eight {op : Nat} (h : op < 256) : (sign op != 110) = decide (M.kind op ≠ 8) := by
  have h : ∀ k : Fin 256, (sign k.val != 110) = decide (M.kind k.val ≠ 8) := by decide +kernel
  exact h ⟨op, ‹_›⟩
theorem kind_cases {op : Nat} (h : op < 256) : M.kind op = 0 ∨ M.kind op = 1 ∨ M.kind op = 2 ∨ M.kind op = 3 ∨ M.kind op = 4 ∨ M.kind op = 5 ∨ M.kind op = 6 ∨ M.kind op = 8 ∨ M.kind op = 10 ∨ M.kind op = 11 ∨ M.kind op = 12 ∨ M.kind op = 13 ∨ M.kind op = 14 ∨ M.kind op = 15 ∨ M.kind op = 16 := by
  have h : ∀ k : Fin 256, M.kind k.val = 0 ∨ M.kind k.val = 1 ∨ M.kind k.val = 2 ∨ M.kind k.val = 3 ∨ M.kind k.val = 4 ∨ M.kind k.val = 5 ∨ M.kind k.val = 6 ∨ M.kind k.val = 8 ∨ M.kind k.val = 10 ∨ M.kind k.val = 11 ∨ M.kind k.val = 12 ∨ M.kind k.val = 13 ∨ M.kind k.val = 14 ∨ M.kind k.val = 15 ∨ M.kind k.val = 16 := by decide +kernel
  exact h ⟨op, ‹_›⟩
theorem wide_cases {op : Nat} (h : M.kindW op true ≠ 0) : M.kindW op true = 7 ∨ M.kindW op true = 9 := by
  unfold M.kindW at *
  simp only [if_true] at *
  split
  · exact .inl rfl
  · rw [if_neg ‹_›] at h; split
    · exact .inr rfl
    · rw [if_neg ‹_›] at h; exact absurd rfl h
theorem sign_of6 {op : Nat} (h : op < 256) (hk : M.kind op = 6) : sign op = 108 := by
  have := sign_six h; rw [decide_eq_false (by simpa using hk)] at this; simpa using this
theorem sign_of8 {op : Nat} (h : op < 256) (hk : M.kind op = 8) : sign op = 110 := by
  have := sign_eight h; rw [decide_eq_false (by simpa using hk)] at this; simpa using this
/-- The head of an instruction that is cut. -/
def HdC (s : List UInt8) (a op : Nat) (wd : Bool) (st : St) (f : UInt8) : Prop :=
  (∃ b, st = ⟨b, 0, 0⟩ ∧ b ≤ s.length ∧ M.ins s a = M.body s a op wd b ∧ f = letter (M.kindW op wd) ∧ (wd = true → M.kindW op wd ≠ 0)) ∨
    (f = 46 ∧ st.e ≠ 0 ∧ st.pos ≤ s.length ∧ M.ins s a = .error (st.e, st.p))
theorem hdc_one {s : List UInt8} {a : Nat} (ha : a < s.length) (h : M.num (M.take s 1 ⟨a, 0, 0⟩).1 ≠ 196) : HdC s a (M.num (M.take s 1 ⟨a, 0, 0⟩).1) false (M.take s 1 ⟨a, 0, 0⟩).2 (sign (M.num (M.take s 1 ⟨a, 0, 0⟩).1)) := by
  have hb := M.num_le (M.take_len s 1 ⟨a, 0, 0⟩)
  rw [sign_letter (by simpa using hb) h]
  rw [M.take_ok (by omega)] at h ⊢
  exact .inl ⟨a + 1, rfl, by omega, by unfold M.ins; rw [if_neg h], rfl, fun e => by cases e⟩
theorem hdc_wide {s : List UInt8} {a op : Nat} {st : St} (ho : op < 256) (h : Hdr s a op true st) (hk : M.kind op = 6 ∨ M.kind op = 8) : HdC s a op true st (sign op) := by
  have hw : M.kindW op true ≠ 0 ∧ letter (M.kindW op true) = sign op := by
    unfold M.kindW
    rcases hk with hk | hk
    · rw [sign_of6 ho hk]; simp [hk, letter]
    · rw [sign_of8 ho hk]; simp [hk, letter]
  rcases h with ⟨b, h1, h2, h3⟩ | ⟨_, _, h3, _⟩
  · exact .inl ⟨b, h1, h2, h3, hw.2.symm, fun _ => hw.1⟩
  · exact absurd h3 hw.1
theorem hdc_none {s : List UInt8} {a op : Nat} {st : St} (h : Hdr s a op true st) (h6 : M.kind op ≠ 6) (h8 : M.kind op ≠ 8) : HdC s a op true (M.fail st 14 a) 46 := by
  have hk : M.kindW op true = 0 := by unfold M.kindW; rw [if_pos rfl, if_neg h6, if_neg h8]
  rcases h with ⟨b, rfl, h2, h3⟩ | ⟨h1, h2, _, h4⟩
  · refine .inr ⟨rfl, by simp [M.fail], h2, ?_⟩
    rw [h3]; unfold M.body; rw [if_pos hk]; rfl
  · rw [M.fail_bad h1]
    exact .inr ⟨rfl, h1, h2, h4⟩
set_option maxRecDepth 100000 in
set_option maxHeartbeats 10000000 in
theorem one_any (R a : Nat) (s : ByteArray) (w : World) (hr : Rc w R s ⟨a, 0, 0⟩) (hs : s.size ≤ 131072) (ha : a < s.size) :
    Calls Tryz.prog 94 #[.pointer (some ⟨R, 0, none⟩)] w fun x w' => ∃ st c ks ts, x = .returned (.agg c.cells) ∧ CutDone w w' R a s st c ks ts := by
  have hlen : s.data.toList.length = s.size := by simp
  have hR0 := hr.lt
  have CU := fun w1 h1 => cnum1 R s ⟨a, 0, 0⟩ hs (Nat.le_of_lt ha) w1 h1
  have h1 := hdc_one (s := s.data.toList) (a := a) (by omega)
  have h2 := hdr_two (s := s.data.toList) (a := a) (by omega)
  have b1 := M.num_le (M.take_len s.data.toList 1 ⟨a, 0, 0⟩)
  have hq1 := M.take_pos (n := 1) (s := s.data.toList) (st := ⟨a, 0, 0⟩) (by simp only; omega)
  obtain ⟨T1, s1, e1⟩ : ∃ T s1, M.take s.data.toList 1 ⟨a, 0, 0⟩ = (T, s1) := ⟨_, _, rfl⟩
  rw [e1] at h1 h2 b1 hq1
  simp only [e1] at CU
  simp only at h1 h2 CU b1 hq1
  have hp1 : s1.pos ≤ s.size := by omega
  have CV := fun w1 h1 => cnum1 R s s1 hs hp1 w1 h1
  have b2 := M.num_le (M.take_len s.data.toList 1 s1)
  obtain ⟨T2, s2, e2⟩ : ∃ T s2, M.take s.data.toList 1 s1 = (T, s2) := ⟨_, _, rfl⟩
  rw [e2] at h2 b2
  simp only [e2] at CV
  simp only at h2 CV b2
  obtain ⟨o1, ho1⟩ : ∃ x, x = M.num T1 := ⟨_, rfl⟩
  obtain ⟨o2, ho2⟩ : ∃ x, x = M.num T2 := ⟨_, rfl⟩
  rw [← ho1] at h1 h2 b1
  rw [← ho2] at h2 b2
  simp only [← ho1] at CU
  simp only [← ho2] at CV
  have HU := hide CU
  have HV := hide CV
  have H1 := hide h1
  have H2 := hide h2
  have Hlen := hide hlen
  clear CU CV h1 h2 e1 e2 ho1 ho2 hlen hq1
  obtain ⟨W0, hW0⟩ : ∃ W0, W0 = w.alloc (.cells #[.int .i64 0, .int .u8 0, .bool false, .int .i64 0, .int .i64 0, .int .i64 0, .slice none 0 0, .slice none 0 0] 112) := ⟨_, rfl⟩
  have hrW : Rc W0 R s ⟨a, 0, 0⟩ := by rw [hW0]; exact hr.alloc _
  have hrb : W0.heap[w.heap.size]? = some (.cells #[.int .i64 0, .int .u8 0, .bool false, .int .i64 0, .int .i64 0, .int .i64 0, .slice none 0 0, .slice none 0 0] 112 (0, 0)) := by rw [hW0]; exact heap_alloc_new w _
  have hgW : w.grownBy W0 (some R) := by rw [hW0]; exact World.grownBy_alloc w _ _
  have Hz := hide (show W0.heap.size = w.heap.size + 1 by rw [hW0]; simp)
  have x1 := hrW.cells.2.1
  simp only at x1
  have hmA : MidC (W0.alloc (.cells (C.cells ⟨a, 0, false, 0, 0, 0, .slice none 0 0, .slice none 0 0⟩) 112)) (W0.alloc (.cells (C.cells ⟨a, 0, false, 0, 0, 0, .slice none 0 0, .slice none 0 0⟩) 112)) R W0.heap.size s ⟨a, 0, 0⟩ ⟨a, 0, false, 0, 0, 0, .slice none 0 0, .slice none 0 0⟩ :=
    ⟨hrW.alloc _, heap_alloc_new W0 _, Nat.ne_of_lt hrW.lt, Kp.refl _ _ _⟩
  have hk0 : (W0.alloc (.cells (C.cells ⟨a, 0, false, 0, 0, 0, .slice none 0 0, .slice none 0 0⟩) 112)).heap[w.heap.size]? = some (.cells #[.int .i64 0, .int .u8 0, .bool false, .int .i64 0, .int .i64 0, .int .i64 0, .slice none 0 0, .slice none 0 0] 112 (0, 0)) := by
    rw [heap_alloc_old _ _ (by rw [unhide Hz]; omega)]; exact hrb
  have hgA : w.grownBy (W0.alloc (.cells (C.cells ⟨a, 0, false, 0, 0, 0, .slice none 0 0, .slice none 0 0⟩) 112)) (some R) := grown_trans hgW (World.grownBy_alloc _ _ _)
  have hzA : (W0.alloc (.cells (C.cells ⟨a, 0, false, 0, 0, 0, .slice none 0 0, .slice none 0 0⟩) 112)).heap.size = W0.heap.size + 1 := by simp
  have HzA := hide hzA
  simp only [C.cells] at hmA hk0 hgA HzA
  go_enter Tryz.func94, Tryz.ntmps94
  rw [hW0] at x1
  go_upto_region 2 with fail
  rw [← hW0]
  clear hW0 hr x1
  rw [unhide Hz] at hmA HzA
  obtain ⟨g, hgg⟩ : ∃ g, g = w.heap.size + 1 := ⟨_, rfl⟩
  rw [← hgg] at hmA HzA ⊢
  have Hg := hide hgg
  clear hzA hrW hrb hgW Hz hgg
  generalize W0.alloc (.cells #[.int .i64 (a : Int), .int .u8 0, .bool false, .int .i64 0, .int .i64 0, .int .i64 0, .slice none 0 0, .slice none 0 0] 112) = W1 at *
  clear W0
  go_wp2_with fail
  refine (unhide HU _ hmA.rd).mono ?_
  rintro e w2 ⟨rfl, hr2, hg2⟩
  have hm2 := hmA.take hr2 hg2
  clear hr2 hg2
  have HF := hide (fun w => form_any o1 w (by simpa using b1))
  obtain ⟨f1, hf1⟩ : ∃ f, f = sign o1 := ⟨_, rfl⟩
  rw [← hf1] at HF
  go_wp2_with fail
  refine (unhide HF _).mono ?_
  rintro e w3 ⟨rfl, hww⟩
  subst w3
  go_upto_if 17 with fail
  clear HF hf1 f1
  have b1' : o1 < 256 := by simpa using b1
  have b2' : o2 < 256 := by simpa using b2
  clear b1 b2
  go_cut [4, 5, 6] (fun v4 v5 v6 w' => ∃ (op : Nat) (wd : Bool) (st : St) (f : UInt8) (z : Int), op < 256 ∧ z = (if wd then 2 else 1) ∧ v4 = .int .i64 (op : Int) ∧ v5 = .string ⟨#[f]⟩ ∧ v6 = .int .i64 z ∧ Hid (HdC s.data.toList a op wd st f) ∧ MidC W1 w' R g s st ⟨a, 0, wd, 0, 0, 0, .slice none 0 0, .slice none 0 0⟩)
  case first =>
    by_cases ho : o1 = 196
    · have hb : (sign o1 == 119) = true := by rw [sign_wide b1', ho]; rfl
      have Hh := hide (unhide H2 ho)
      clear ho H1 H2
      have k2 := hm2.ib.cell 2
      have f2 := hm2.ib.frozen 2
      simp [C.cells] at k2
      rw [hb]
      have hm4 := hm2.set 2 _ (hm2.ib.setWide true)
      go_upto_region 7 with fail
      clear k2 f2 hm2
      generalize w2.setCell ⟨g, 2, none⟩ (.bool true) = W4 at *
      go_wp2_with fail
      refine (unhide HV _ hm4.rd).mono ?_
      rintro e w5 ⟨rfl, hr5, hg5⟩
      have hm5 := hm4.take hr5 hg5
      clear hr5 hg5
      have HF := hide (fun w => form_any o2 w b2')
      go_wp2_with fail
      refine (unhide HF _).mono ?_
      rintro e w3 ⟨rfl, hww⟩
      subst w3
      have e6 := sign_six b2'
      have e8 := sign_eight b2'
      by_cases h6 : M.kind o2 = 6
      · have hx := hdc_wide b2' (unhide Hh) (.inl h6)
        have Hx := hide hx
        rw [sign_of6 b2' h6] at Hx ⊢
        clear e6 e8 hx Hh h6
        go_wp2
        go_meet
        case rel => exact ⟨o2, true, s2, 108, 2, b2', rfl, rfl, rfl, rfl, Hx, hm5⟩
      · rw [decide_eq_true (by simpa using h6)] at e6
        by_cases h8 : M.kind o2 = 8
        · have hx := hdc_wide b2' (unhide Hh) (.inr h8)
          have Hx := hide hx
          rw [sign_of8 b2' h8] at Hx ⊢
          clear e6 e8 hx Hh h6 h8
          go_wp2
          go_meet
          case rel => exact ⟨o2, true, s2, 110, 2, b2', rfl, rfl, rfl, rfl, Hx, hm5⟩
        · rw [decide_eq_true (by simpa using h8)] at e8
          have hx := hdc_none (unhide Hh) h6 h8
          have Hx := hide hx
          clear hx Hh h6 h8
          have i0 := hm5.ib.cell 0
          simp [C.cells] at i0
          obtain ⟨f2, hf2⟩ : ∃ f, f = sign o2 := ⟨_, rfl⟩
          rw [← hf2] at e6 e8 ⊢
          clear hf2
          have e6' : ¬ f2 = 108 := by simpa using e6
          have e8' : ¬ f2 = 110 := by simpa using e8
          go_upto_if 28 with fail
          rw [show (!f2 == 108 && !f2 == 110) = true by simp [e6', e8']]
          go_wp2_with fail
          refine (cfail_any R s s2 14 a _ hm5.rd).mono ?_
          rintro e w6 ⟨rfl, hr6, hg6, hz6⟩
          have hm6 := hm5.take hr6 hg6
          clear hr6 hg6 hm5
          go_wp2
          go_meet
          case rel => exact ⟨o2, true, _, 46, 2, b2', rfl, rfl, rfl, rfl, Hx, hm6⟩
    · have hb : (sign o1 == 119) = false := by rw [sign_wide b1']; simpa using ho
      have Hh := hide (unhide H1 ho)
      clear ho H1 H2
      rw [hb]
      go_wp2
      go_meet
      case rel => exact ⟨o1, false, s1, sign o1, 1, b1', rfl, rfl, rfl, rfl, Hh, hm2⟩
  case rest =>
    clear hmA HU HV H1 H2 hm2 b1' b2' hp1
    obtain ⟨op, wd, st, f, z, hop, hz, rfl, rfl, rfl, Hh, hm⟩ := hcut
    have k1 := hm.ib.cell 1
    have f1 := hm.ib.frozen 1
    simp [C.cells] at k1
    have hm3 : MidC W1 (wc.setCell ⟨g, 1, none⟩ (.int .u8 (op : Int))) R g s st ⟨a, op, wd, 0, 0, 0, .slice none 0 0, .slice none 0 0⟩ := hm.set 1 _ (hm.ib.setOp op)
    have hwrap : ((op : Int) % 256) = (op : Int) := by omega
    go_upto_region 14 with fail
    clear k1 f1 hm
    generalize wc.setCell ⟨g, 1, none⟩ (.int .u8 (op : Int)) = W3 at *
    go_upto_block 0 with fail
    go_cut [] (fun w' => ∃ (st : St) (c : C) (ks ts : List Int), MidC W1 w' R g s st c ∧ Own2 w' W1.heap.size c.kv c.tv ks ts ∧ Hid (M.Left s.data.toList st (M.ins s.data.toList a) ∧ ∀ i q, M.ins s.data.toList a = .ok (i, q) → (i.at_ : Int) = c.at_ ∧ i.op = c.op ∧ i.wide = c.wide ∧ i.a = c.a ∧ i.b = c.b ∧ i.low = c.low ∧ i.keys = ks ∧ i.tgts = ts))
    case first =>
      have hgB : g < W1.heap.size := by rw [unhide HzA]; omega
      rcases unhide Hh with ⟨b, rfl, hb, he, hf, hw⟩ | ⟨rfl, q1, q2, q3⟩
      · rw [unhide Hlen] at hb
        unfold M.body at he
        clear Hh
        cases wd
        · have hz' : z = 1 := hz
          subst hz'
          clear hz
          rcases kind_cases hop with h | h | h | h | h | h | h | h | h | h | h | h | h | h | h
          · have hf' : f = 120 := by rw [hf, show M.kindW op false = 0 from h]; rfl
            subst hf'
            rw [show M.kindW op false = 0 from h] at he
            have hi : M.ins s.data.toList a = .error (14, a) := he
            clear he hf h hw
            have HX := hide (show FinP s.data.toList a op false (M.fail ⟨b, 0, 0⟩ 14 a) 0 0 [] from fin_bad (by simp [M.fail]) (by simp only [M.fail, if_true]; rw [unhide Hlen]; exact hb) hi)
            clear hi
            have i0 := hm3.ib.cell 0
            simp [C.cells] at i0
            go_wp2_with fail
            refine (cfail_any R s ⟨b, 0, 0⟩ 14 a _ hm3.rd).mono ?_
            rintro e w6 ⟨rfl, hr6, hg6, hz6⟩
            have hm6 := hm3.take hr6 hg6
            clear hr6 hg6 hm3
            go_wp2
            go_meet
            case rel => exact ⟨_, _, [], [], hm6, Own2.nil _ _, HX⟩
          · have hf' : f = 46 := by rw [hf, show M.kindW op false = 1 from h]; rfl
            subst hf'
            rw [show M.kindW op false = 1 from h] at he
            have hi : M.ins s.data.toList a = M.plain s.data.toList a op false b ⟨M.f0, M.f0, M.f0, M.f0⟩ := he
            clear he hf h hw
            obtain ⟨e1, e2⟩ := M.none_op (s := s.data.toList) (a := a) (op := op) (w := false) (st := ⟨b, 0, 0⟩) (by rw [unhide Hlen]; exact hb)
            have HX := hide (fin_of (by rw [unhide Hlen]; exact hb) hi e1 e2)
            clear e1 e2 hi
            go_wp2
            go_meet
            case rel => exact ⟨_, _, [], [], hm3, Own2.nil _ _, HX⟩
          · have hf' : f = 98 := by rw [hf, show M.kindW op false = 2 from h]; rfl
            subst hf'
            rw [show M.kindW op false = 2 from h] at he
            have hi : M.ins s.data.toList a = M.plain s.data.toList a op false b ⟨⟨1, -128, 127⟩, M.f0, M.f0, M.f0⟩ := he
            clear he hf h hw
            obtain ⟨s1, x, HC', HF⟩ := read_sgn (R := R) hs hb 1 (by omega) (by decide) M.holdS1 hi
            have HC := hide (show ∀ w1, Rc w1 R s ⟨b, 0, 0⟩ → Calls Tryz.prog 116 #[.pointer (some ⟨R, 0, none⟩), .int .i64 1] w1 fun e w' => TookC R s s1 w1 (.int .i64 x) e w' from HC')
            have HX := hide HF
            clear HC' HF hi
            go_wp2_with fail
            refine (unhide HC _ hm3.rd).mono ?_
            rintro e w5 ⟨rfl, hr5, hg5⟩
            have hm5 := hm3.take hr5 hg5
            clear hr5 hg5 hm3
            have k3 := hm5.ib.cell 3
            have f3 := hm5.ib.frozen 3
            simp [C.cells] at k3
            have hm6 := hm5.set 3 _ (hm5.ib.setA x)
            go_wp2
            go_meet
            case rel => exact ⟨s1, _, [], [], hm6, Own2.nil _ _, HX⟩
          · have hf' : f = 115 := by rw [hf, show M.kindW op false = 3 from h]; rfl
            subst hf'
            rw [show M.kindW op false = 3 from h] at he
            have hi : M.ins s.data.toList a = M.plain s.data.toList a op false b ⟨⟨2, -32768, 32767⟩, M.f0, M.f0, M.f0⟩ := he
            clear he hf h hw
            obtain ⟨s1, x, HC', HF⟩ := read_sgn (R := R) hs hb 2 (by omega) (by decide) M.holdS2 hi
            have HC := hide (show ∀ w1, Rc w1 R s ⟨b, 0, 0⟩ → Calls Tryz.prog 116 #[.pointer (some ⟨R, 0, none⟩), .int .i64 2] w1 fun e w' => TookC R s s1 w1 (.int .i64 x) e w' from HC')
            have HX := hide HF
            clear HC' HF hi
            go_wp2_with fail
            refine (unhide HC _ hm3.rd).mono ?_
            rintro e w5 ⟨rfl, hr5, hg5⟩
            have hm5 := hm3.take hr5 hg5
            clear hr5 hg5 hm3
            have k3 := hm5.ib.cell 3
            have f3 := hm5.ib.frozen 3
            simp [C.cells] at k3
            have hm6 := hm5.set 3 _ (hm5.ib.setA x)
            go_wp2
            go_meet
            case rel => exact ⟨s1, _, [], [], hm6, Own2.nil _ _, HX⟩
          · have hf' : f = 99 := by rw [hf, show M.kindW op false = 4 from h]; rfl
            subst hf'
            rw [show M.kindW op false = 4 from h] at he
            have hi : M.ins s.data.toList a = M.plain s.data.toList a op false b ⟨⟨1, 0, 255⟩, M.f0, M.f0, M.f0⟩ := he
            clear he hf h hw
            obtain ⟨s1, x, HC', HF⟩ := read_num (R := R) hs hb 1 (by omega) M.holdU1 hi
            have HC := hide (show ∀ w1, Rc w1 R s ⟨b, 0, 0⟩ → Calls Tryz.prog 114 #[.pointer (some ⟨R, 0, none⟩), .int .i64 1] w1 fun e w' => TookC R s s1 w1 (.int .i64 x) e w' from HC')
            have HX := hide HF
            clear HC' HF hi
            go_wp2_with fail
            refine (unhide HC _ hm3.rd).mono ?_
            rintro e w5 ⟨rfl, hr5, hg5⟩
            have hm5 := hm3.take hr5 hg5
            clear hr5 hg5 hm3
            have k3 := hm5.ib.cell 3
            have f3 := hm5.ib.frozen 3
            simp [C.cells] at k3
            have hm6 := hm5.set 3 _ (hm5.ib.setA x)
            go_wp2
            go_meet
            case rel => exact ⟨s1, _, [], [], hm6, Own2.nil _ _, HX⟩
          · have hf' : f = 105 := by rw [hf, show M.kindW op false = 5 from h]; rfl
            subst hf'
            rw [show M.kindW op false = 5 from h] at he
            have hi : M.ins s.data.toList a = M.plain s.data.toList a op false b ⟨⟨2, 0, 65535⟩, M.f0, M.f0, M.f0⟩ := he
            clear he hf h hw
            obtain ⟨s1, x, HC', HF⟩ := read_num (R := R) hs hb 2 (by omega) M.holdU2 hi
            have HC := hide (show ∀ w1, Rc w1 R s ⟨b, 0, 0⟩ → Calls Tryz.prog 114 #[.pointer (some ⟨R, 0, none⟩), .int .i64 2] w1 fun e w' => TookC R s s1 w1 (.int .i64 x) e w' from HC')
            have HX := hide HF
            clear HC' HF hi
            go_wp2_with fail
            refine (unhide HC _ hm3.rd).mono ?_
            rintro e w5 ⟨rfl, hr5, hg5⟩
            have hm5 := hm3.take hr5 hg5
            clear hr5 hg5 hm3
            have k3 := hm5.ib.cell 3
            have f3 := hm5.ib.frozen 3
            simp [C.cells] at k3
            have hm6 := hm5.set 3 _ (hm5.ib.setA x)
            go_wp2
            go_meet
            case rel => exact ⟨s1, _, [], [], hm6, Own2.nil _ _, HX⟩
          · have hf' : f = 108 := by rw [hf, show M.kindW op false = 6 from h]; rfl
            subst hf'
            rw [show M.kindW op false = 6 from h] at he
            have hi : M.ins s.data.toList a = M.plain s.data.toList a op false b ⟨⟨1, 0, 255⟩, M.f0, M.f0, M.f0⟩ := he
            clear he hf h hw
            obtain ⟨s1, x, HC', HF⟩ := read_num (R := R) hs hb 1 (by omega) M.holdU1 hi
            have HC := hide (show ∀ w1, Rc w1 R s ⟨b, 0, 0⟩ → Calls Tryz.prog 114 #[.pointer (some ⟨R, 0, none⟩), .int .i64 1] w1 fun e w' => TookC R s s1 w1 (.int .i64 x) e w' from HC')
            have HX := hide HF
            clear HC' HF hi
            go_wp2_with fail
            refine (unhide HC _ hm3.rd).mono ?_
            rintro e w5 ⟨rfl, hr5, hg5⟩
            have hm5 := hm3.take hr5 hg5
            clear hr5 hg5 hm3
            have k3 := hm5.ib.cell 3
            have f3 := hm5.ib.frozen 3
            simp [C.cells] at k3
            have hm6 := hm5.set 3 _ (hm5.ib.setA x)
            go_wp2
            go_meet
            case rel => exact ⟨s1, _, [], [], hm6, Own2.nil _ _, HX⟩
          · have hf' : f = 110 := by rw [hf, show M.kindW op false = 8 from h]; rfl
            subst hf'
            rw [show M.kindW op false = 8 from h] at he
            have hi : M.ins s.data.toList a = M.plain s.data.toList a op false b ⟨⟨1, 0, 255⟩, ⟨1, -128, 127⟩, M.f0, M.f0⟩ := he
            clear he hf h hw
            obtain ⟨s1, x, s2, y, HC', HD', HF⟩ := read_two (R := R) hs hb 1 (by omega) (by decide) M.holdU1 M.holdS1 hi
            have HC := hide (show ∀ w1, Rc w1 R s ⟨b, 0, 0⟩ → Calls Tryz.prog 114 #[.pointer (some ⟨R, 0, none⟩), .int .i64 1] w1 fun e w' => TookC R s s1 w1 (.int .i64 x) e w' from HC')
            have HD := hide (show ∀ w1, Rc w1 R s s1 → Calls Tryz.prog 116 #[.pointer (some ⟨R, 0, none⟩), .int .i64 1] w1 fun e w' => TookC R s s2 w1 (.int .i64 y) e w' from HD')
            have HX := hide HF
            clear HC' HD' HF hi
            go_wp2_with fail
            refine (unhide HC _ hm3.rd).mono ?_
            rintro e w5 ⟨rfl, hr5, hg5⟩
            have hm5 := hm3.take hr5 hg5
            clear hr5 hg5 hm3
            have k3 := hm5.ib.cell 3
            have f3 := hm5.ib.frozen 3
            simp [C.cells] at k3
            have hm6 := hm5.set 3 _ (hm5.ib.setA x)
            go_upto_region 32 with fail
            clear k3 f3 hm5
            generalize w5.setCell ⟨g, 3, none⟩ (.int .i64 x) = W6 at *
            go_wp2_with fail
            refine (unhide HD _ hm6.rd).mono ?_
            rintro e w7 ⟨rfl, hr7, hg7⟩
            have hm7 := hm6.take hr7 hg7
            clear hr7 hg7 hm6
            have k4 := hm7.ib.cell 4
            have f4 := hm7.ib.frozen 4
            simp [C.cells] at k4
            have hm8 := hm7.set 4 _ (hm7.ib.setB y)
            go_wp2
            go_meet
            case rel => exact ⟨s2, _, [], [], hm8, Own2.nil _ _, HX⟩
          · have hf' : f = 106 := by rw [hf, show M.kindW op false = 10 from h]; rfl
            subst hf'
            rw [show M.kindW op false = 10 from h] at he
            have hi : M.ins s.data.toList a = M.plain s.data.toList a op false b ⟨M.f0, M.f0, M.f0, ⟨2, -32768, 32767⟩⟩ := he
            clear he hf h hw
            obtain ⟨s1, x, HC', HF, hx1, hx2⟩ := read_jump (R := R) hs hb 2 (by omega) (by decide) hi
            have HC := hide (show ∀ w1, Rc w1 R s ⟨b, 0, 0⟩ → Calls Tryz.prog 116 #[.pointer (some ⟨R, 0, none⟩), .int .i64 2] w1 fun e w' => TookC R s s1 w1 (.int .i64 x) e w' from HC')
            have HX := hide HF
            clear HC' HF hi
            have hwr : IntKind.i64.wrap ((a : Int) + x) = (a : Int) + x := by rw [IntKind.wrap_i64, Int.emod_eq_of_lt (by omega) (by omega)]; omega
            have hmd := hm3.drew
            have k7 := hm3.ib.cell 7
            have i0c := hm3.ib.cell 0
            simp [C.cells] at k7 i0c
            go_wp2_with fail
            go_region_with (go_at_call 116; refine (unhide HC _ hmd.rd).mono ?_; rintro e w5 ⟨rfl, hr5, hg5⟩; have hm6 := (hmd.take hr5 hg5).alloc (.cells #[.int .i64 ((a : Int) + x)] 3); have j0 := (hmd.take hr5 hg5).ib.cell 0; have k7 := hm6.ib.cell 7; have f7 := hm6.ib.frozen 7; simp [C.cells] at k7 j0)
            all_goals
              have ho6 := Own2.lit (w := w5) (B := W1.heap.size) ((a : Int) + x) (hmd.take hr5 hg5).kp.size rfl
              have hm7 := hm6.set 7 _ (hm6.ib.setT (.slice (some ⟨w5.heap.size, 0, none⟩) 1 1))
              have ho7 := Own2.kept ho6 (grown_set (w5.alloc (.cells #[.int .i64 ((a : Int) + x)] 3)) g 7 (.slice (some ⟨w5.heap.size, 0, none⟩) 1 1)) (fun b e => by cases e; exact hgB)
              go_wp2
              go_meet
              case rel => exact ⟨s1, _, [], _, hm7, ho7, HX⟩
          · have hf' : f = 74 := by rw [hf, show M.kindW op false = 11 from h]; rfl
            subst hf'
            rw [show M.kindW op false = 11 from h] at he
            have hi : M.ins s.data.toList a = M.plain s.data.toList a op false b ⟨M.f0, M.f0, M.f0, M.fw⟩ := he
            clear he hf h hw
            obtain ⟨s1, x, HC', HF, hx1, hx2⟩ := read_jump (R := R) hs hb 4 (by omega) (by decide) hi
            have HC := hide (show ∀ w1, Rc w1 R s ⟨b, 0, 0⟩ → Calls Tryz.prog 116 #[.pointer (some ⟨R, 0, none⟩), .int .i64 4] w1 fun e w' => TookC R s s1 w1 (.int .i64 x) e w' from HC')
            have HX := hide HF
            clear HC' HF hi
            have hwr : IntKind.i64.wrap ((a : Int) + x) = (a : Int) + x := by rw [IntKind.wrap_i64, Int.emod_eq_of_lt (by omega) (by omega)]; omega
            have hmd := hm3.drew
            have k7 := hm3.ib.cell 7
            have i0c := hm3.ib.cell 0
            simp [C.cells] at k7 i0c
            go_wp2_with fail
            go_region_with (go_at_call 116; refine (unhide HC _ hmd.rd).mono ?_; rintro e w5 ⟨rfl, hr5, hg5⟩; have hm6 := (hmd.take hr5 hg5).alloc (.cells #[.int .i64 ((a : Int) + x)] 3); have j0 := (hmd.take hr5 hg5).ib.cell 0; have k7 := hm6.ib.cell 7; have f7 := hm6.ib.frozen 7; simp [C.cells] at k7 j0)
            all_goals
              have ho6 := Own2.lit (w := w5) (B := W1.heap.size) ((a : Int) + x) (hmd.take hr5 hg5).kp.size rfl
              have hm7 := hm6.set 7 _ (hm6.ib.setT (.slice (some ⟨w5.heap.size, 0, none⟩) 1 1))
              have ho7 := Own2.kept ho6 (grown_set (w5.alloc (.cells #[.int .i64 ((a : Int) + x)] 3)) g 7 (.slice (some ⟨w5.heap.size, 0, none⟩) 1 1)) (fun b e => by cases e; exact hgB)
              go_wp2
              go_meet
              case rel => exact ⟨s1, _, [], _, hm7, ho7, HX⟩
          · have hf' : f = 102 := by rw [hf, show M.kindW op false = 12 from h]; rfl
            subst hf'
            rw [show M.kindW op false = 12 from h] at he
            have hi : M.ins s.data.toList a = M.plain s.data.toList a op false b ⟨⟨2, 0, 65535⟩, ⟨1, 1, 255⟩, ⟨1, 0, 0⟩, M.f0⟩ := he
            clear he hf h hw
            obtain ⟨s1, x, s2, y, s3, v, HC', HD', HE', HA, HB⟩ := read_f (R := R) hs hb hi
            have HE := hide HE'
            have HC := hide (show ∀ w1, Rc w1 R s ⟨b, 0, 0⟩ → Calls Tryz.prog 114 #[.pointer (some ⟨R, 0, none⟩), .int .i64 2] w1 fun e w' => TookC R s s1 w1 (.int .i64 x) e w' from HC')
            have HD := hide (show ∀ w1, Rc w1 R s s1 → Calls Tryz.prog 114 #[.pointer (some ⟨R, 0, none⟩), .int .i64 1] w1 fun e w' => TookC R s s2 w1 (.int .i64 y) e w' from HD')
            have HA' := hide HA
            have HB' := hide HB
            clear HC' HD' HA HB hi HE'
            go_wp2_with fail
            refine (unhide HC _ hm3.rd).mono ?_
            rintro e w5 ⟨rfl, hr5, hg5⟩
            have hm5 := hm3.take hr5 hg5
            clear hr5 hg5 hm3
            have k3 := hm5.ib.cell 3
            have f3 := hm5.ib.frozen 3
            simp [C.cells] at k3
            have hm6 := hm5.set 3 _ (hm5.ib.setA x)
            go_upto_region 40 with fail
            clear k3 f3 hm5
            generalize w5.setCell ⟨g, 3, none⟩ (.int .i64 x) = W6 at *
            go_wp2_with fail
            refine (unhide HD _ hm6.rd).mono ?_
            rintro e w7 ⟨rfl, hr7, hg7⟩
            have hm7 := hm6.take hr7 hg7
            clear hr7 hg7 hm6
            have k4 := hm7.ib.cell 4
            have f4 := hm7.ib.frozen 4
            simp [C.cells] at k4
            have hm8 := hm7.set 4 _ (hm7.ib.setB y)
            go_upto_region 41 with fail
            clear k4 f4 hm7
            generalize w7.setCell ⟨g, 4, none⟩ (.int .i64 y) = W8 at *
            have k4 := hm8.ib.cell 4
            have i0 := hm8.ib.cell 0
            simp [C.cells] at k4 i0
            go_wp2_with fail
            refine (unhide HE _ hm8.rd).mono ?_
            rintro e w9 ⟨rfl, hr9, hg9⟩
            have hm9 := hm8.take hr9 hg9
            clear hr9 hg9 hm8 k4 i0
            have k4 := hm9.ib.cell 4
            have i0 := hm9.ib.cell 0
            simp [C.cells] at k4 i0
            by_cases hv : v = 0
            · have hv' : (v == 0) = true := by simpa using hv
              have hv2 : (v != 0) = false := by simpa using hv
              by_cases hy : y = 0
              · have HX := hide ((unhide HB') (by omega))
                have hy' : (y == 0) = true := by simpa using hy
                go_wp2_with fail
                refine (cfail_any R s s3 15 a _ hm9.rd).mono ?_
                rintro e wA ⟨rfl, hrA, hgA', hzA'⟩
                have hmA := hm9.take hrA hgA'
                clear hrA hgA' hm9
                go_wp2
                go_meet
                case rel => exact ⟨_, _, [], [], hmA, Own2.nil _ _, HX⟩
              · have HX := hide ((unhide HA') ⟨hv, hy⟩)
                have hy' : (y == 0) = false := by simpa using hy
                go_wp2
                go_meet
                case rel => exact ⟨_, _, [], [], hm9, Own2.nil _ _, HX⟩
            · have HX := hide ((unhide HB') (by omega))
              have hv' : (v == 0) = false := by simpa using hv
              have hv2 : (v != 0) = true := by simpa using hv
              go_wp2_with fail
              refine (cfail_any R s s3 15 a _ hm9.rd).mono ?_
              rintro e wA ⟨rfl, hrA, hgA', hzA'⟩
              have hmA := hm9.take hrA hgA'
              clear hrA hgA' hm9
              go_wp2
              go_meet
              case rel => exact ⟨_, _, [], [], hmA, Own2.nil _ _, HX⟩
          · have hf' : f = 97 := by rw [hf, show M.kindW op false = 13 from h]; rfl
            subst hf'
            rw [show M.kindW op false = 13 from h] at he
            have hi : M.ins s.data.toList a = M.plain s.data.toList a op false b ⟨⟨1, 4, 11⟩, M.f0, M.f0, M.f0⟩ := he
            clear he hf h hw
            obtain ⟨s1, x, HC', HA, HB⟩ := read_a (R := R) hs hb hi
            have HC := hide (show ∀ w1, Rc w1 R s ⟨b, 0, 0⟩ → Calls Tryz.prog 114 #[.pointer (some ⟨R, 0, none⟩), .int .i64 1] w1 fun e w' => TookC R s s1 w1 (.int .i64 x) e w' from HC')
            have HA' := hide HA
            have HB' := hide HB
            clear HC' HA HB hi
            go_wp2_with fail
            refine (unhide HC _ hm3.rd).mono ?_
            rintro e w5 ⟨rfl, hr5, hg5⟩
            have hm5 := hm3.take hr5 hg5
            clear hr5 hg5 hm3
            have k3 := hm5.ib.cell 3
            have f3 := hm5.ib.frozen 3
            simp [C.cells] at k3
            have hm6 := hm5.set 3 _ (hm5.ib.setA x)
            go_upto_region 24 with fail
            clear k3 f3 hm5
            generalize w5.setCell ⟨g, 3, none⟩ (.int .i64 x) = W6 at *
            have k3 := hm6.ib.cell 3
            have i0 := hm6.ib.cell 0
            simp [C.cells] at k3 i0
            have i0' := i0
            by_cases hx1 : x < 4
            · have HX := hide ((unhide HB') (by omega))
              have hx1' : (decide (x < 4)) = true := decide_eq_true hx1
              have Hl := hm6
              go_wp2_with fail
              refine (cfail_any R s s1 15 a _ hm6.rd).mono ?_
              rintro e w7 ⟨rfl, hr7, hg7, hz7⟩
              have hm7 := hm6.take hr7 hg7
              clear hr7 hg7 hm6 Hl
              go_wp2
              go_meet
              case rel => exact ⟨_, _, [], [], hm7, Own2.nil _ _, HX⟩
            · have hx1' : (decide (x < 4)) = false := decide_eq_false hx1
              by_cases hx2 : 11 < x
              · have HX := hide ((unhide HB') (by omega))
                have hx2' : (decide (11 < x)) = true := decide_eq_true hx2
                have Hl := hm6
                go_wp2_with fail
                refine (cfail_any R s s1 15 a _ hm6.rd).mono ?_
                rintro e w7 ⟨rfl, hr7, hg7, hz7⟩
                have hm7 := hm6.take hr7 hg7
                clear hr7 hg7 hm6 Hl
                go_wp2
                go_meet
                case rel => exact ⟨_, _, [], [], hm7, Own2.nil _ _, HX⟩
              · have HX := hide ((unhide HA') (by omega))
                have hx2' : (decide (11 < x)) = false := decide_eq_false hx2
                go_wp2
                go_meet
                case rel => exact ⟨_, _, [], [], hm6, Own2.nil _ _, HX⟩
          · have hf' : f = 109 := by rw [hf, show M.kindW op false = 14 from h]; rfl
            subst hf'
            rw [show M.kindW op false = 14 from h] at he
            have hi : M.ins s.data.toList a = M.plain s.data.toList a op false b ⟨⟨2, 0, 65535⟩, ⟨1, 1, 255⟩, M.f0, M.f0⟩ := he
            clear he hf h hw
            obtain ⟨s1, x, s2, y, HC', HD', HA, HB⟩ := read_m (R := R) hs hb hi
            have HC := hide (show ∀ w1, Rc w1 R s ⟨b, 0, 0⟩ → Calls Tryz.prog 114 #[.pointer (some ⟨R, 0, none⟩), .int .i64 2] w1 fun e w' => TookC R s s1 w1 (.int .i64 x) e w' from HC')
            have HD := hide (show ∀ w1, Rc w1 R s s1 → Calls Tryz.prog 114 #[.pointer (some ⟨R, 0, none⟩), .int .i64 1] w1 fun e w' => TookC R s s2 w1 (.int .i64 y) e w' from HD')
            have HA' := hide HA
            have HB' := hide HB
            clear HC' HD' HA HB hi
            go_wp2_with fail
            refine (unhide HC _ hm3.rd).mono ?_
            rintro e w5 ⟨rfl, hr5, hg5⟩
            have hm5 := hm3.take hr5 hg5
            clear hr5 hg5 hm3
            have k3 := hm5.ib.cell 3
            have f3 := hm5.ib.frozen 3
            simp [C.cells] at k3
            have hm6 := hm5.set 3 _ (hm5.ib.setA x)
            go_upto_region 40 with fail
            clear k3 f3 hm5
            generalize w5.setCell ⟨g, 3, none⟩ (.int .i64 x) = W6 at *
            go_wp2_with fail
            refine (unhide HD _ hm6.rd).mono ?_
            rintro e w7 ⟨rfl, hr7, hg7⟩
            have hm7 := hm6.take hr7 hg7
            clear hr7 hg7 hm6
            have k4 := hm7.ib.cell 4
            have f4 := hm7.ib.frozen 4
            simp [C.cells] at k4
            have hm8 := hm7.set 4 _ (hm7.ib.setB y)
            go_upto_region 41 with fail
            clear k4 f4 hm7
            generalize w7.setCell ⟨g, 4, none⟩ (.int .i64 y) = W8 at *
            have k4 := hm8.ib.cell 4
            have i0 := hm8.ib.cell 0
            simp [C.cells] at k4 i0
            by_cases hy : y = 0
            · have HX := hide ((unhide HB') hy)
              have hy' : (y == 0) = true := by simpa using hy
              go_wp2_with fail
              refine (cfail_any R s s2 15 a _ hm8.rd).mono ?_
              rintro e w9 ⟨rfl, hr9, hg9, hz9⟩
              have hm9 := hm8.take hr9 hg9
              clear hr9 hg9 hm8
              go_wp2
              go_meet
              case rel => exact ⟨_, _, [], [], hm9, Own2.nil _ _, HX⟩
            · have HX := hide ((unhide HA') hy)
              have hy' : (y == 0) = false := by simpa using hy
              go_wp2
              go_meet
              case rel => exact ⟨_, _, [], [], hm8, Own2.nil _ _, HX⟩
          · have hf' : f = 116 := by rw [hf, show M.kindW op false = 15 from h]; rfl
            subst hf'
            rw [show M.kindW op false = 15 from h] at he
            have hi : M.ins s.data.toList a = M.sw s.data.toList a op b false := he
            clear he hf h hw
            have hBz : W1.heap.size ≤ W3.heap.size := hm3.kp.size
            have HT := hide (choice_tab R g b s _ W3 ⟨hm3.rd, hm3.ib, hm3.ne, Kp.refl _ _ _⟩ hs hb rfl rfl rfl (by simp only; omega))
            have Hbd := hide hi
            clear hi
            go_wp2_with fail
            refine (unhide HT).mono ?_
            rintro e w7 ⟨rfl, st', kv, tv, low, ks, ts, ⟨hm7', ho7'⟩, hread⟩
            have hm7 : MidC W1 w7 R g s st' ⟨a, op, false, 0, 0, low, kv, tv⟩ := ⟨hm7'.rd, hm7'.ib, hm7'.ne, hm3.kp.trans hm7'.kp⟩
            have ho7 : Own2 w7 W1.heap.size kv tv ks ts := ⟨row_base ho7'.k hBz, row_base ho7'.t hBz, ho7'.apart⟩
            have HX := hide (show M.Left s.data.toList st' (M.ins s.data.toList a) ∧ ∀ i q, M.ins s.data.toList a = .ok (i, q) → (i.at_ : Int) = (a : Int) ∧ i.op = op ∧ i.wide = false ∧ i.a = 0 ∧ i.b = 0 ∧ i.low = low ∧ i.keys = ks ∧ i.tgts = ts by
              rw [unhide Hbd]
              refine ⟨hread.1, fun i q e => ?_⟩
              obtain ⟨q1, q2, q3, q4, q5⟩ := hread.2 i q e
              obtain ⟨p1, p2, p3⟩ := sw_head e
              exact ⟨by rw [p1], p2, p3, q2, q3, q1, q4, q5⟩)
            clear hread Hbd hm7' ho7' hm3 HT
            go_wp2
            go_meet
            case rel => exact ⟨st', _, ks, ts, hm7, ho7, HX⟩
          · have hf' : f = 107 := by rw [hf, show M.kindW op false = 16 from h]; rfl
            subst hf'
            rw [show M.kindW op false = 16 from h] at he
            have hi : M.ins s.data.toList a = M.sw s.data.toList a op b true := he
            clear he hf h hw
            have hBz : W1.heap.size ≤ W3.heap.size := hm3.kp.size
            have HT := hide (choice_key R g b s _ W3 ⟨hm3.rd, hm3.ib, hm3.ne, Kp.refl _ _ _⟩ hs hb rfl rfl rfl (by simp only; omega))
            have Hbd := hide hi
            clear hi
            go_wp2_with fail
            refine (unhide HT).mono ?_
            rintro e w7 ⟨rfl, st', kv, tv, low, ks, ts, ⟨hm7', ho7'⟩, hread⟩
            have hm7 : MidC W1 w7 R g s st' ⟨a, op, false, 0, 0, low, kv, tv⟩ := ⟨hm7'.rd, hm7'.ib, hm7'.ne, hm3.kp.trans hm7'.kp⟩
            have ho7 : Own2 w7 W1.heap.size kv tv ks ts := ⟨row_base ho7'.k hBz, row_base ho7'.t hBz, ho7'.apart⟩
            have HX := hide (show M.Left s.data.toList st' (M.ins s.data.toList a) ∧ ∀ i q, M.ins s.data.toList a = .ok (i, q) → (i.at_ : Int) = (a : Int) ∧ i.op = op ∧ i.wide = false ∧ i.a = 0 ∧ i.b = 0 ∧ i.low = low ∧ i.keys = ks ∧ i.tgts = ts by
              rw [unhide Hbd]
              refine ⟨hread.1, fun i q e => ?_⟩
              obtain ⟨q1, q2, q3, q4, q5⟩ := hread.2 i q e
              obtain ⟨p1, p2, p3⟩ := sw_head e
              exact ⟨by rw [p1], p2, p3, q2, q3, q1, q4, q5⟩)
            clear hread Hbd hm7' ho7' hm3 HT
            go_wp2
            go_meet
            case rel => exact ⟨st', _, ks, ts, hm7, ho7, HX⟩
        · have hz' : z = 2 := hz
          subst hz'
          clear hz
          rcases wide_cases (hw rfl) with h | h
          · have hf' : f = 108 := by rw [hf, show M.kindW op true = 7 from h]; rfl
            subst hf'
            rw [show M.kindW op true = 7 from h] at he
            have hi : M.ins s.data.toList a = M.plain s.data.toList a op true b ⟨⟨2, 0, 65535⟩, M.f0, M.f0, M.f0⟩ := he
            clear he hf h hw
            obtain ⟨s1, x, HC', HF⟩ := read_num (R := R) hs hb 2 (by omega) M.holdU2 hi
            have HC := hide (show ∀ w1, Rc w1 R s ⟨b, 0, 0⟩ → Calls Tryz.prog 114 #[.pointer (some ⟨R, 0, none⟩), .int .i64 2] w1 fun e w' => TookC R s s1 w1 (.int .i64 x) e w' from HC')
            have HX := hide HF
            clear HC' HF hi
            go_wp2_with fail
            refine (unhide HC _ hm3.rd).mono ?_
            rintro e w5 ⟨rfl, hr5, hg5⟩
            have hm5 := hm3.take hr5 hg5
            clear hr5 hg5 hm3
            have k3 := hm5.ib.cell 3
            have f3 := hm5.ib.frozen 3
            simp [C.cells] at k3
            have hm6 := hm5.set 3 _ (hm5.ib.setA x)
            go_wp2
            go_meet
            case rel => exact ⟨s1, _, [], [], hm6, Own2.nil _ _, HX⟩
          · have hf' : f = 110 := by rw [hf, show M.kindW op true = 9 from h]; rfl
            subst hf'
            rw [show M.kindW op true = 9 from h] at he
            have hi : M.ins s.data.toList a = M.plain s.data.toList a op true b ⟨⟨2, 0, 65535⟩, ⟨2, -32768, 32767⟩, M.f0, M.f0⟩ := he
            clear he hf h hw
            obtain ⟨s1, x, s2, y, HC', HD', HF⟩ := read_two (R := R) hs hb 2 (by omega) (by decide) M.holdU2 M.holdS2 hi
            have HC := hide (show ∀ w1, Rc w1 R s ⟨b, 0, 0⟩ → Calls Tryz.prog 114 #[.pointer (some ⟨R, 0, none⟩), .int .i64 2] w1 fun e w' => TookC R s s1 w1 (.int .i64 x) e w' from HC')
            have HD := hide (show ∀ w1, Rc w1 R s s1 → Calls Tryz.prog 116 #[.pointer (some ⟨R, 0, none⟩), .int .i64 2] w1 fun e w' => TookC R s s2 w1 (.int .i64 y) e w' from HD')
            have HX := hide HF
            clear HC' HD' HF hi
            go_wp2_with fail
            refine (unhide HC _ hm3.rd).mono ?_
            rintro e w5 ⟨rfl, hr5, hg5⟩
            have hm5 := hm3.take hr5 hg5
            clear hr5 hg5 hm3
            have k3 := hm5.ib.cell 3
            have f3 := hm5.ib.frozen 3
            simp [C.cells] at k3
            have hm6 := hm5.set 3 _ (hm5.ib.setA x)
            go_upto_region 32 with fail
            clear k3 f3 hm5
            generalize w5.setCell ⟨g, 3, none⟩ (.int .i64 x) = W6 at *
            go_wp2_with fail
            refine (unhide HD _ hm6.rd).mono ?_
            rintro e w7 ⟨rfl, hr7, hg7⟩
            have hm7 := hm6.take hr7 hg7
            clear hr7 hg7 hm6
            have k4 := hm7.ib.cell 4
            have f4 := hm7.ib.frozen 4
            simp [C.cells] at k4
            have hm8 := hm7.set 4 _ (hm7.ib.setB y)
            go_wp2
            go_meet
            case rel => exact ⟨s2, _, [], [], hm8, Own2.nil _ _, HX⟩
      · have HX := hide (show FinP s.data.toList a op wd st 0 0 [] from fin_bad q1 q2 q3)
        clear q1 q2 q3 Hh
        go_wp2
        go_meet
        case rel => exact ⟨_, _, [], [], hm3, Own2.nil _ _, HX⟩
    case rest =>
      clear Hh hm3 hz hwrap
      obtain ⟨st', ⟨a', op', wd', xa, xb, xl, kv, tv⟩, ks, ts, hm7, ho7, Hlr⟩ := hcut
      simp only at ho7
      obtain ⟨y1, y2, y3, rfl⟩ := row_form ho7.k
      obtain ⟨z1, z2, z3, rfl⟩ := row_form ho7.t
      have hrb : wc.heap[w.heap.size]? = some (.cells #[.int .i64 0, .int .u8 0, .bool false, .int .i64 0, .int .i64 0, .int .i64 0, .slice none 0 0, .slice none 0 0] 112 (0, 0)) := by
        rw [hm7.kp.block w.heap.size (by rw [unhide HzA, unhide Hg]; omega) (by omega) (by rw [unhide Hg]; omega)]; exact hk0
      have c0 := hm7.ib.cell 0
      have c1 := hm7.ib.cell 1
      have c2 := hm7.ib.cell 2
      have c3 := hm7.ib.cell 3
      have c4 := hm7.ib.cell 4
      have c5 := hm7.ib.cell 5
      have c6 := hm7.ib.cell 6
      have c7 := hm7.ib.cell 7
      simp [C.cells] at c0 c1 c2 c3 c4 c5 c6 c7
      have r0 := cell_of_row wc w.heap.size 0 _ 112 (0, 0) hrb
      have r1 := cell_of_row wc w.heap.size 1 _ 112 (0, 0) hrb
      have r2 := cell_of_row wc w.heap.size 2 _ 112 (0, 0) hrb
      have r3 := cell_of_row wc w.heap.size 3 _ 112 (0, 0) hrb
      have r4 := cell_of_row wc w.heap.size 4 _ 112 (0, 0) hrb
      have r5 := cell_of_row wc w.heap.size 5 _ 112 (0, 0) hrb
      have r6 := cell_of_row wc w.heap.size 6 _ 112 (0, 0) hrb
      have r7 := cell_of_row wc w.heap.size 7 _ 112 (0, 0) hrb
      have hfz : ∀ j, wc.frozen? ⟨w.heap.size, j, none⟩ = false := by intro j; unfold World.frozen?; simp only [hrb]; simp
      simp at r0 r1 r2 r3 r4 r5 r6 r7
      clear hrb
      go_wp2
      obtain ⟨hF1, hF2⟩ := finishC (z := ⟨0, 0, false, 0, 0, 0, .slice none 0 0, .slice none 0 0⟩) hR0 hgA (unhide Hg) (unhide HzA) hm7 ho7 hk0 (unhide Hlr).1 (unhide Hlr).2
      refine bodyPost_ret (results_cell_row Tryz.results94 _ _ w.heap.size 112 _ (0, 0) _ rfl hF1 Tryz.underlying112 rfl (by kernel_rfl)) rfl ?_

      exact ⟨_, _, rfl, _, _, hF2⟩
end Go.Proofs.YtddhlphbbiihjaaGreatDoor.Dc
