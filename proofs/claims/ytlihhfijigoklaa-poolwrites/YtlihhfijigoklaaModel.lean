/-
  Reading a pool, as a relation: one constant, then the next, to the end or the first error.
-/
import Derived.Test.YtlihhfijigoklaaMid
namespace Go.Proofs.Ytlihhfijigoklaa
open Go.RowKit
abbrev Res := List K × Nat × Nat × Nat
def Two (c : K) : Prop := c.tag = 5 ∨ c.tag = 6
def Fin' (s : List UInt8) (n : Nat) : Nat → List K → Nat → Res → Prop
  | 0, _, _, _ => False
  | f + 1, l, at_, r => (n ≤ l.length ∧ r = (l, at_, 0, 0)) ∨
      (l.length < n ∧ ∃ c st', CM s ⟨at_, 0, 0⟩ c st' ∧ ((st'.e ≠ 0 ∧ r = ([], 0, st'.e, st'.p)) ∨ (st'.e = 0 ∧ ((¬ Two c ∧ Fin' s n f (l ++ [c]) st'.pos r) ∨
        (Two c ∧ n < l.length + 2 ∧ r = ([], 0, 12, at_)) ∨ (Two c ∧ l.length + 2 ≤ n ∧ Fin' s n f (l ++ [c] ++ [K.zero]) st'.pos r)))))
def Final (s : List UInt8) (n : Nat) (l : List K) (at_ : Nat) (r : Res) : Prop := ∃ f, Fin' s n f l at_ r
def ReadRes (s : List UInt8) (r : Res) : Prop :=
  (s.length < 2 ∧ r = ([], 0, 1, s.length)) ∨ (2 ≤ s.length ∧ M.num (s.take 2) = 0 ∧ r = ([], 0, 12, 0)) ∨ (2 ≤ s.length ∧ M.num (s.take 2) ≠ 0 ∧ Final s (M.num (s.take 2)) [K.zero] 2 r)
theorem CM.uniq {s : List UInt8} {st : St} {c d : K} {x y : St} (h : CM s st c x) (g : CM s st d y) : c = d ∧ x = y := by
  unfold CM at h g
  generalize M.take s 1 st = q at *
  obtain ⟨t, st1⟩ := q
  simp only at h g
  generalize M.num t = tag at *
  rcases h with ⟨h1, h2, h3⟩ | ⟨h1, h2, h3⟩ | ⟨h1, h2, h3⟩ | ⟨h1, h2, h3⟩ | ⟨h1, h2, h3⟩ | ⟨h1, h2, h3⟩ <;>
  rcases g with ⟨g1, g2, g3⟩ | ⟨g1, g2, g3⟩ | ⟨g1, g2, g3⟩ | ⟨g1, g2, g3⟩ | ⟨g1, g2, g3⟩ | ⟨g1, g2, g3⟩ <;>
  first
  | (exfalso; omega)
  | exact ⟨h2.trans g2.symm, h3.trans g3.symm⟩
  | skip
  have hcd : c = d := h2.trans g2.symm
  subst hcd
  refine ⟨rfl, ?_⟩
  rcases h3 with ⟨a, b⟩ | ⟨a, b⟩ <;> rcases g3 with ⟨a', b'⟩ | ⟨a', b'⟩
  · exact b.trans b'.symm
  · exact absurd a a'
  · exact absurd a' a
  · exact b.trans b'.symm
theorem Fin'.uniq {s : List UInt8} {n : Nat} : ∀ {f g : Nat} {l : List K} {at_ : Nat} {r q : Res}, Fin' s n f l at_ r → Fin' s n g l at_ q → r = q
  | 0, _, _, _, _, _, h, _ => h.elim
  | _ + 1, 0, _, _, _, _, _, h => h.elim
  | f + 1, g + 1, l, at_, r, q, h, k => by
    rcases h with ⟨h1, h2⟩ | ⟨h1, c, x, hc, h2⟩ <;> rcases k with ⟨k1, k2⟩ | ⟨k1, d, y, hd, k2⟩
    · exact h2.trans k2.symm
    · omega
    · omega
    · obtain ⟨rfl, rfl⟩ := CM.uniq hc hd
      rcases h2 with ⟨a, h3⟩ | ⟨a, h3⟩ <;> rcases k2 with ⟨b, k3⟩ | ⟨b, k3⟩
      · exact h3.trans k3.symm
      · exact absurd b a
      · exact absurd a b
      · rcases h3 with ⟨t, h4⟩ | ⟨t, t', h4⟩ | ⟨t, t', h4⟩ <;> rcases k3 with ⟨u, k4⟩ | ⟨u, u', k4⟩ | ⟨u, u', k4⟩
        · exact Fin'.uniq h4 k4
        · exact absurd u t
        · exact absurd u t
        · exact absurd t u
        · exact h4.trans k4.symm
        · omega
        · exact absurd t u
        · omega
        · exact Fin'.uniq h4 k4
theorem ReadRes.uniq {s : List UInt8} {r q : Res} (h : ReadRes s r) (g : ReadRes s q) : r = q := by
  rcases h with ⟨h1, h2⟩ | ⟨h1, h2, h3⟩ | ⟨h1, h2, f, h3⟩ <;> rcases g with ⟨g1, g2⟩ | ⟨g1, g2, g3⟩ | ⟨g1, g2, f', g3⟩
  · exact h2.trans g2.symm
  · omega
  · omega
  · omega
  · exact h3.trans g3.symm
  · exact absurd h2 g2
  · omega
  · exact absurd g2 h2
  · exact Fin'.uniq h3 g3
/-- The step from one state to the next, backwards: what comes of the next comes of this one. -/
theorem Final.one {s : List UInt8} {n : Nat} {l : List K} {at_ : Nat} {r : Res} {c : K} {x : St} (hl : l.length < n) (hc : CM s ⟨at_, 0, 0⟩ c x) (he : x.e = 0) (ht : ¬ Two c) (h : Final s n (l ++ [c]) x.pos r) : Final s n l at_ r := by
  obtain ⟨f, hf⟩ := h
  exact ⟨f + 1, .inr ⟨hl, c, x, hc, .inr ⟨he, .inl ⟨ht, hf⟩⟩⟩⟩
theorem Final.two {s : List UInt8} {n : Nat} {l : List K} {at_ : Nat} {r : Res} {c : K} {x : St} (hl : l.length < n) (hc : CM s ⟨at_, 0, 0⟩ c x) (he : x.e = 0) (ht : Two c) (hn : l.length + 2 ≤ n) (h : Final s n (l ++ [c] ++ [K.zero]) x.pos r) : Final s n l at_ r := by
  obtain ⟨f, hf⟩ := h
  exact ⟨f + 1, .inr ⟨hl, c, x, hc, .inr ⟨he, .inr (.inr ⟨ht, hn, hf⟩)⟩⟩⟩
theorem Final.bad {s : List UInt8} {n : Nat} {l : List K} {at_ : Nat} {c : K} {x : St} (hl : l.length < n) (hc : CM s ⟨at_, 0, 0⟩ c x) (he : x.e ≠ 0) : Final s n l at_ ([], 0, x.e, x.p) :=
  ⟨1, .inr ⟨hl, c, x, hc, .inl ⟨he, rfl⟩⟩⟩
theorem Final.last {s : List UInt8} {n : Nat} {l : List K} {at_ : Nat} {c : K} {x : St} (hl : l.length < n) (hc : CM s ⟨at_, 0, 0⟩ c x) (he : x.e = 0) (ht : Two c) (hn : n < l.length + 2) : Final s n l at_ ([], 0, 12, at_) :=
  ⟨1, .inr ⟨hl, c, x, hc, .inr ⟨he, .inr (.inl ⟨ht, hn, rfl⟩)⟩⟩⟩
theorem Final.done {s : List UInt8} {n : Nat} {l : List K} {at_ : Nat} (hl : n ≤ l.length) : Final s n l at_ (l, at_, 0, 0) := ⟨1, .inl ⟨hl, rfl⟩⟩
end Go.Proofs.Ytlihhfijigoklaa
