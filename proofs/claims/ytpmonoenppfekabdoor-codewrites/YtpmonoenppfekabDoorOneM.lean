/-
  What stands behind each sign: the states of a cut against the plain answer.
-/
import Derived.Test.YtpmonoenppfekabDoorMidC
namespace Go.Proofs.YtpmonoenppfekabDoor
namespace M
section
variable {s : List UInt8} {a op : Nat} {w : Bool} {st : St}
theorem num_nil : num [] = 0 := rfl
theorem rd_f0 : rd ⟨0, 0, 0⟩ [] = 0 := rfl
theorem hold0 (x : Int) : holds ⟨0, 0, 0⟩ x = true := rfl
theorem holdS1 (l : List UInt8) (h : l.length ≤ 1) : holds ⟨1, -128, 127⟩ (rd ⟨1, -128, 127⟩ l) = true := by
  have := sgn_bound (num_le h)
  simp only [Nat.reducePow] at this
  simp [holds, rd]; omega
theorem holdS2 (l : List UInt8) (h : l.length ≤ 2) : holds ⟨2, -32768, 32767⟩ (rd ⟨2, -32768, 32767⟩ l) = true := by
  have := sgn_bound (num_le h)
  simp only [Nat.reducePow] at this
  simp [holds, rd]; omega
theorem holdU1 (l : List UInt8) (h : l.length ≤ 1) : holds ⟨1, 0, 255⟩ (rd ⟨1, 0, 255⟩ l) = true := by
  have := num_le h
  simp only [Nat.reducePow] at this
  simp [holds, rd]; omega
theorem holdU2 (l : List UInt8) (h : l.length ≤ 2) : holds ⟨2, 0, 65535⟩ (rd ⟨2, 0, 65535⟩ l) = true := by
  have := num_le h
  simp only [Nat.reducePow] at this
  simp [holds, rd]; omega
/-- One operand, always right. -/
theorem one_op {f : F} (hp : st.pos ≤ s.length) (hf : ∀ l, l.length ≤ f.size → holds f (rd f l) = true) :
    after s a ⟨f, f0, f0, f0⟩ st = (take s f.size st).2 ∧ made s a op w ⟨f, f0, f0, f0⟩ st = ⟨a, op, w, rd f (take s f.size st).1, 0, 0, [], []⟩ := by
  have h1 := take_pos (n := f.size) hp
  unfold after made
  simp only [f0, take_zero h1, hf _ (take_len s f.size st), hold0, Bool.and_true, if_true, rd_f0]
  exact ⟨trivial, trivial⟩
/-- One operand that may be wrong. -/
theorem one_bad {f : F} (hp : st.pos ≤ s.length) :
    after s a ⟨f, f0, f0, f0⟩ st = (if holds f (rd f (take s f.size st).1) then (take s f.size st).2 else fail (take s f.size st).2 15 a) ∧ made s a op w ⟨f, f0, f0, f0⟩ st = ⟨a, op, w, rd f (take s f.size st).1, 0, 0, [], []⟩ := by
  have h1 := take_pos (n := f.size) hp
  unfold after made
  simp only [f0, take_zero h1, hold0, Bool.and_true, if_true, rd_f0]
  exact ⟨trivial, trivial⟩
theorem two_op {f g : F} (hp : st.pos ≤ s.length) (hf : ∀ l, l.length ≤ f.size → holds f (rd f l) = true) :
    after s a ⟨f, g, f0, f0⟩ st = (if holds g (rd g (take s g.size (take s f.size st).2).1) then (take s g.size (take s f.size st).2).2 else fail (take s g.size (take s f.size st).2).2 15 a) ∧
      made s a op w ⟨f, g, f0, f0⟩ st = ⟨a, op, w, rd f (take s f.size st).1, rd g (take s g.size (take s f.size st).2).1, 0, [], []⟩ := by
  have h1 := take_pos (n := f.size) hp
  have h2 := take_pos (n := g.size) h1
  unfold after made
  simp only [f0, take_zero h2, hf _ (take_len s f.size st), hold0, Bool.and_true, Bool.true_and, if_true]
  exact ⟨trivial, trivial⟩
theorem three_op {f g z : F} (hp : st.pos ≤ s.length) (hf : ∀ l, l.length ≤ f.size → holds f (rd f l) = true) :
    after s a ⟨f, g, z, f0⟩ st = (if holds g (rd g (take s g.size (take s f.size st).2).1) && holds z (rd z (take s z.size (take s g.size (take s f.size st).2).2).1) then (take s z.size (take s g.size (take s f.size st).2).2).2 else fail (take s z.size (take s g.size (take s f.size st).2).2).2 15 a) ∧
      made s a op w ⟨f, g, z, f0⟩ st = ⟨a, op, w, rd f (take s f.size st).1, rd g (take s g.size (take s f.size st).2).1, 0, [], []⟩ := by
  have h1 := take_pos (n := f.size) hp
  have h2 := take_pos (n := g.size) h1
  have h3 := take_pos (n := z.size) h2
  unfold after made
  simp only [f0, take_zero h3, hf _ (take_len s f.size st), Bool.true_and, if_true]
  exact ⟨trivial, trivial⟩
theorem jump_op {f : F} (hp : st.pos ≤ s.length) (hz : f.size ≠ 0) :
    after s a ⟨f0, f0, f0, f⟩ st = (take s f.size st).2 ∧ made s a op w ⟨f0, f0, f0, f⟩ st = ⟨a, op, w, 0, 0, 0, [], [(a : Int) + rd f (take s f.size st).1]⟩ := by
  unfold after made
  simp only [f0, take_zero hp, hold0, Bool.and_true, if_true, rd_f0, if_neg hz]
  exact ⟨trivial, trivial⟩
theorem none_op (hp : st.pos ≤ s.length) : after s a ⟨f0, f0, f0, f0⟩ st = st ∧ made s a op w ⟨f0, f0, f0, f0⟩ st = ⟨a, op, w, 0, 0, 0, [], []⟩ := by
  unfold after made
  simp only [f0, take_zero hp, hold0, Bool.and_true, if_true, rd_f0]
  exact ⟨trivial, trivial⟩
end
end M
end Go.Proofs.YtpmonoenppfekabDoor
