/-
  Reading a pool, as a relation: one constant, then the next, to the end or the first error.
  What a pool that was read is: plain mathematics.
-/
import Derived.Test.YtbgpkkbejbidlacMgD
namespace Go.Proofs.Ytbgpkkbejbidlac.Po
set_option maxRecDepth 100000
open Go.RowKit
abbrev Res := List K × Nat × Nat × Nat
def Two (c : K) : Prop := c.tag = 5 ∨ c.tag = 6
def Fin' (s : List UInt8) (n : Nat) : Nat → List K → Nat → Res → Prop
  | 0, _, _, _ => False
  | f + 1, l, at_, r => (n ≤ l.length ∧ r = (l, at_, 0, 0)) ∨
      (l.length < n ∧ ∃ c st', CM s ⟨at_, 0, 0⟩ c st' ∧ ((st'.e ≠ 0 ∧ r = ([], 0, st'.e, st'.p)) ∨ (st'.e = 0 ∧ ((¬ Two c ∧ Fin' s n f (l ++ [c]) st'.pos r) ∨
        (Two c ∧ n < l.length + 2 ∧ r = ([], 0, 12, at_)) ∨ (Two c ∧ l.length + 2 ≤ n ∧ Fin' s n f (l ++ [c] ++ [K.zero]) st'.pos r)))))
def Final (s : List UInt8) (n : Nat) (l : List K) (at_ : Nat) (r : Res) : Prop := ∃ f, Fin' s n f l at_ r
def ReadRes (s : List UInt8) (r : Res) : Prop :=
  (s.length < 2 ∧ r = ([], 0, 1, s.length)) ∨ (2 ≤ s.length ∧ M.num (s.take 2) = 0 ∧ r = ([], 0, 12, 0)) ∨ (2 ≤ s.length ∧ M.num (s.take 2) ≠ 0 ∧ Final s (M.num (s.take 2)) [K.zero] 2 r)
theorem CM.uniq {s : List UInt8} {st : St} {c d : K} {x y : St} (h : CM s st c x) (g : CM s st d y) : c = d ∧ x = y := by
  unfold CM at h g
  generalize M.take s 1 st = q at *
  obtain ⟨t, st1⟩ := q
  simp only at h g
  generalize M.num t = tag at *
  rcases h with ⟨h1, h2, h3⟩ | ⟨h1, h2, h3⟩ | ⟨h1, h2, h3⟩ | ⟨h1, h2, h3⟩ | ⟨h1, h2, h3⟩ | ⟨h1, h2, h3⟩ <;>
  rcases g with ⟨g1, g2, g3⟩ | ⟨g1, g2, g3⟩ | ⟨g1, g2, g3⟩ | ⟨g1, g2, g3⟩ | ⟨g1, g2, g3⟩ | ⟨g1, g2, g3⟩ <;>
  first
  | (exfalso; omega)
  | exact ⟨h2.trans g2.symm, h3.trans g3.symm⟩
  | skip
  have hcd : c = d := h2.trans g2.symm
  subst hcd
  refine ⟨rfl, ?_⟩
  rcases h3 with ⟨a, b⟩ | ⟨a, b⟩ <;> rcases g3 with ⟨a', b'⟩ | ⟨a', b'⟩
  · exact b.trans b'.symm
  · exact absurd a a'
  · exact absurd a' a
  · exact b.trans b'.symm
theorem Fin'.uniq {s : List UInt8} {n : Nat} : ∀ {f g : Nat} {l : List K} {at_ : Nat} {r q : Res}, Fin' s n f l at_ r → Fin' s n g l at_ q → r = q
  | 0, _, _, _, _, _, h, _ => h.elim
  | _ + 1, 0, _, _, _, _, _, h => h.elim
  | f + 1, g + 1, l, at_, r, q, h, k => by
    rcases h with ⟨h1, h2⟩ | ⟨h1, c, x, hc, h2⟩ <;> rcases k with ⟨k1, k2⟩ | ⟨k1, d, y, hd, k2⟩
    · exact h2.trans k2.symm
    · omega
    · omega
    · obtain ⟨rfl, rfl⟩ := CM.uniq hc hd
      rcases h2 with ⟨a, h3⟩ | ⟨a, h3⟩ <;> rcases k2 with ⟨b, k3⟩ | ⟨b, k3⟩
      · exact h3.trans k3.symm
      · exact absurd b a
      · exact absurd a b
      · rcases h3 with ⟨t, h4⟩ | ⟨t, t', h4⟩ | ⟨t, t', h4⟩ <;> rcases k3 with ⟨u, k4⟩ | ⟨u, u', k4⟩ | ⟨u, u', k4⟩
        · exact Fin'.uniq h4 k4
        · exact absurd u t
        · exact absurd u t
        · exact absurd t u
        · exact h4.trans k4.symm
        · omega
        · exact absurd t u
        · omega
        · exact Fin'.uniq h4 k4
theorem ReadRes.uniq {s : List UInt8} {r q : Res} (h : ReadRes s r) (g : ReadRes s q) : r = q := by
  rcases h with ⟨h1, h2⟩ | ⟨h1, h2, h3⟩ | ⟨h1, h2, f, h3⟩ <;> rcases g with ⟨g1, g2⟩ | ⟨g1, g2, g3⟩ | ⟨g1, g2, f', g3⟩
  · exact h2.trans g2.symm
  · omega
  · omega
  · omega
  · exact h3.trans g3.symm
  · exact absurd h2 g2
  · omega
  · exact absurd g2 h2
  · exact Fin'.uniq h3 g3
/-- The step from one state to the next, backwards: what comes of the next comes of this one. -/
theorem Final.one {s : List UInt8} {n : Nat} {l : List K} {at_ : Nat} {r : Res} {c : K} {x : St} (hl : l.length < n) (hc : CM s ⟨at_, 0, 0⟩ c x) (he : x.e = 0) (ht : ¬ Two c) (h : Final s n (l ++ [c]) x.pos r) : Final s n l at_ r := by
  obtain ⟨f, hf⟩ := h
  exact ⟨f + 1, .inr ⟨hl, c, x, hc, .inr ⟨he, .inl ⟨ht, hf⟩⟩⟩⟩
theorem Final.two {s : List UInt8} {n : Nat} {l : List K} {at_ : Nat} {r : Res} {c : K} {x : St} (hl : l.length < n) (hc : CM s ⟨at_, 0, 0⟩ c x) (he : x.e = 0) (ht : Two c) (hn : l.length + 2 ≤ n) (h : Final s n (l ++ [c] ++ [K.zero]) x.pos r) : Final s n l at_ r := by
  obtain ⟨f, hf⟩ := h
  exact ⟨f + 1, .inr ⟨hl, c, x, hc, .inr ⟨he, .inr (.inr ⟨ht, hn, hf⟩)⟩⟩⟩
theorem Final.bad {s : List UInt8} {n : Nat} {l : List K} {at_ : Nat} {c : K} {x : St} (hl : l.length < n) (hc : CM s ⟨at_, 0, 0⟩ c x) (he : x.e ≠ 0) : Final s n l at_ ([], 0, x.e, x.p) :=
  ⟨1, .inr ⟨hl, c, x, hc, .inl ⟨he, rfl⟩⟩⟩
theorem Final.last {s : List UInt8} {n : Nat} {l : List K} {at_ : Nat} {c : K} {x : St} (hl : l.length < n) (hc : CM s ⟨at_, 0, 0⟩ c x) (he : x.e = 0) (ht : Two c) (hn : n < l.length + 2) : Final s n l at_ ([], 0, 12, at_) :=
  ⟨1, .inr ⟨hl, c, x, hc, .inr ⟨he, .inr (.inl ⟨ht, hn, rfl⟩)⟩⟩⟩
theorem Final.done {s : List UInt8} {n : Nat} {l : List K} {at_ : Nat} (hl : n ≤ l.length) : Final s n l at_ (l, at_, 0, 0) := ⟨1, .inl ⟨hl, rfl⟩⟩
end Go.Proofs.Ytbgpkkbejbidlac.Po
namespace Go.Proofs.Ytbgpkkbejbidlac.Po
/-- A reader's state lies within the bytes. -/
def In (s : List UInt8) (st : St) : Prop := st.pos ≤ s.length ∧ st.p ≤ s.length ∧ st.e < 256
theorem In.take {s : List UInt8} {st : St} (h : In s st) (k : Nat) : In s (M.take s k st).2 := by
  obtain ⟨h1, h2, h3⟩ := h
  unfold M.take
  split
  · split
    · exact ⟨h1, Nat.le_refl _, by show 1 < 256; omega⟩
    · exact ⟨by simp only; omega, h2, by show 0 < 256; omega⟩
  · exact ⟨h1, h2, h3⟩
theorem In.fail {s : List UInt8} {st : St} (h : In s st) {e p : Nat} (he : e < 256) (hp : p ≤ s.length) : In s (M.fail st e p) := by
  obtain ⟨h1, h2, h3⟩ := h
  unfold M.fail
  split
  · exact ⟨h1, hp, he⟩
  · exact ⟨h1, h2, h3⟩
theorem take_le (s : List UInt8) (k : Nat) (st : St) : (M.take s k st).1.length ≤ k := by
  unfold M.take
  split
  · split
    · simp
    · simp; omega
  · simp
theorem num_le {l : List UInt8} {k : Nat} (h : l.length ≤ k) : M.num l < 256 ^ k := Nat.lt_of_lt_of_le (num_lt l) (Nat.pow_le_pow_right (by omega) h)
def Fit (c : K) : Prop := c.tag < 256 ∧ c.a < 65536 ∧ c.b < 65536
theorem cm_fact {s : List UInt8} {st st' : St} {c : K} (h : CM s st c st') (hi : In s st) : Fit c ∧ In s st' := by
  have t1 : M.num (M.take s 1 st).1 < 256 := by have := num_le (take_le s 1 st); simpa using this
  have t2 : ∀ x, M.num (M.take s 2 x).1 < 65536 := fun x => by have := num_le (take_le s 2 x); simpa using this
  have i1 := hi.take 1
  rcases h with ⟨_, rfl, h⟩ | ⟨_, rfl, rfl⟩ | ⟨_, rfl, rfl⟩ | ⟨_, rfl, rfl⟩ | ⟨_, rfl, rfl⟩ | ⟨_, rfl, rfl⟩
  · refine ⟨⟨by simp only; omega, by simp only; omega, by simp only; omega⟩, ?_⟩
    rcases h with ⟨_, rfl⟩ | ⟨_, rfl⟩
    · exact (i1.take 2).take _
    · exact ((i1.take 2).take _).fail (by omega) hi.1
  · exact ⟨⟨t1, by simp only; omega, by simp only; omega⟩, i1.take 4⟩
  · exact ⟨⟨t1, by simp only; omega, by simp only; omega⟩, i1.take 8⟩
  · exact ⟨⟨t1, t2 _, by simp only; omega⟩, i1.take 2⟩
  · exact ⟨⟨t1, t2 _, t2 _⟩, (i1.take 2).take 2⟩
  · exact ⟨⟨t1, by simp only; omega, by simp only; omega⟩, i1.fail (by omega) hi.1⟩
/-- What an answer is. -/
def Fact (s : List UInt8) (r : Res) : Prop := (r.2.2.1 = 0 → r.2.1 ≤ s.length ∧ r.1.length ≤ 65536 ∧ ∀ c ∈ r.1, Fit c) ∧ (r.2.2.1 ≠ 0 → r.1 = [] ∧ r.2.1 = 0) ∧ r.2.2.2 ≤ s.length ∧ r.2.2.1 < 256
theorem fin_fact {s : List UInt8} {n : Nat} (hn : n < 65536) : ∀ {f : Nat} {l : List K} {at_ : Nat} {r : Res}, Fin' s n f l at_ r → at_ ≤ s.length → l.length ≤ n → (∀ c ∈ l, Fit c) → Fact s r
  | 0, _, _, _, h, _, _, _ => h.elim
  | f + 1, l, at_, r, h, ha, hl, hf => by
    rcases h with ⟨_, rfl⟩ | ⟨h1, c, x, hc, h⟩
    · exact ⟨fun _ => ⟨ha, by simp only; omega, hf⟩, fun g => absurd rfl g, Nat.zero_le _, by simp only; omega⟩
    · have hi : In s ⟨at_, 0, 0⟩ := ⟨ha, Nat.zero_le _, by show 0 < 256; omega⟩
      obtain ⟨hfc, hix⟩ := cm_fact hc hi
      rcases h with ⟨he, rfl⟩ | ⟨he, h⟩
      · exact ⟨fun g => absurd g he, fun _ => ⟨rfl, rfl⟩, hix.2.1, hix.2.2⟩
      · rcases h with ⟨_, h⟩ | ⟨_, _, rfl⟩ | ⟨_, h2, h⟩
        · refine fin_fact hn h hix.1 (by simp; omega) ?_
          intro d hd
          rcases List.mem_append.1 hd with hd | hd
          · exact hf d hd
          · have : d = c := by simpa using hd
            rw [this]; exact hfc
        · exact ⟨fun g => absurd g (by simp), fun _ => ⟨rfl, rfl⟩, ha, by simp only; omega⟩
        · refine fin_fact hn h hix.1 (by simp; omega) ?_
          intro d hd
          simp only [List.mem_append, List.mem_singleton] at hd
          rcases hd with (hd | hd) | hd
          · exact hf d hd
          · rw [hd]; exact hfc
          · rw [hd]; exact ⟨by decide, by decide, by decide⟩
theorem read_fact {s : List UInt8} {r : Res} (h : ReadRes s r) : Fact s r := by
  rcases h with ⟨_, rfl⟩ | ⟨h1, _, rfl⟩ | ⟨h1, h2, f, h3⟩
  · exact ⟨fun g => absurd g (by simp), fun _ => ⟨rfl, rfl⟩, Nat.le_refl _, by simp only; omega⟩
  · exact ⟨fun g => absurd g (by simp), fun _ => ⟨rfl, rfl⟩, Nat.zero_le _, by simp only; omega⟩
  · have hn : M.num (s.take 2) < 65536 := by have := num_le (l := s.take 2) (k := 2) (by simp; omega); simpa using this
    refine fin_fact hn h3 h1 (by simp; omega) ?_
    intro d hd
    have : d = K.zero := by simpa using hd
    rw [this]; exact ⟨by decide, by decide, by decide⟩
end Go.Proofs.Ytbgpkkbejbidlac.Po
