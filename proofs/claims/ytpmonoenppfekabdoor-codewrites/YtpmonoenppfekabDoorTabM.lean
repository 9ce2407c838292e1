/-
  A switch by a table, by keys: the reader's states against the plain answers.
-/
import Derived.Test.YtpmonoenppfekabDoorOthers
namespace Go.Proofs.YtpmonoenppfekabDoor
namespace M
def finT (a op : Nat) (low : Int) : Except Er (List Int × Nat) → Except Er (I × Nat)
  | .error e => .error e
  | .ok (ts, q) => .ok (⟨a, op, false, 0, 0, low, [], ts⟩, q)
def finK (a op : Nat) : Except Er (List Int × List Int × Nat) → Except Er (I × Nat)
  | .error e => .error e
  | .ok (ks, ts, q) => .ok (⟨a, op, false, 0, 0, 0, ks, ts⟩, q)
end M
/-- What is left of a table: an error, or so many targets. -/
def TabAt (s : List UInt8) (a op b : Nat) (lo hi : Int) (st : St) (k : Int) (ts : List Int) : Prop :=
  (st.e ≠ 0 ∧ st.pos ≤ s.length ∧ M.sw s a op b false = .error (st.e, st.p) ∧ ts.length * 4 ≤ st.pos + 8) ∨
  (st.e = 0 ∧ st.p = 0 ∧ st.pos ≤ s.length ∧ lo ≤ k ∧ k ≤ hi + 1 ∧ ts.length * 4 ≤ st.pos ∧ M.sw s a op b false = M.finT a op lo (M.tgs s a (hi - k + 1).toNat st.pos ts))
theorem rd_nil : M.rd M.fw [] = 0 := by decide
theorem sw_of {s : List UInt8} {a op b p : Nat} (h : M.pad s a (M.padN b) b = .ok p) : M.sw s a op b false = M.tab s a op p ∧ M.sw s a op b true = M.key s a op p := by
  unfold M.sw; rw [h]; exact ⟨rfl, rfl⟩
theorem sw_bad {s : List UInt8} {a op b : Nat} {k : Bool} {e : Er} (h : M.pad s a (M.padN b) b = .error e) : M.sw s a op b k = .error e := by
  unfold M.sw; rw [h]
theorem rd_w4 (s : List UInt8) (p : Nat) : M.rd M.fw (M.bs s p 4) = M.w4 s p := rfl
/-- The state behind the two numbers of a table. -/
theorem tab_start {s : List UInt8} {a op b : Nat} {st : St} {t : Int} (h : OthersRes s a b st t) (hb : b ≤ s.length) :
    TabAt s a op b (M.rd M.fw (M.take s 4 st).1) (M.rd M.fw (M.take s 4 (M.take s 4 st).2).1)
      (if M.rd M.fw (M.take s 4 (M.take s 4 st).2).1 < M.rd M.fw (M.take s 4 st).1 then M.fail (M.take s 4 (M.take s 4 st).2).2 15 a else (M.take s 4 (M.take s 4 st).2).2)
      (M.rd M.fw (M.take s 4 st).1) [t] := by
  unfold OthersRes at h
  cases hp : M.pad s a (M.padN b) b with
  | error e =>
    obtain ⟨e, p⟩ := e
    rw [hp] at h
    obtain ⟨h1, h2, h3, h4⟩ := h
    have hbad : st.e ≠ 0 := by rw [h1]; exact h3
    rw [M.take_bad hbad]
    simp only [M.take_bad hbad, Int.lt_irrefl, if_false]
    exact .inl ⟨hbad, h4, by rw [sw_bad hp, h1, h2], by simp⟩
  | ok p =>
    rw [hp] at h
    simp only at h
    have hpl := M.pad_le hb hp
    obtain ⟨e1, _⟩ := sw_of (op := op) hp
    by_cases hl : s.length < p + 4
    · rw [if_pos hl] at h
      obtain ⟨h1, h2, h3⟩ := h
      have hbad : st.e ≠ 0 := by rw [h1]; simp
      rw [M.take_bad hbad]
      simp only [M.take_bad hbad, Int.lt_irrefl, if_false]
      exact .inl ⟨hbad, h3, by rw [e1]; unfold M.tab; rw [if_pos (by omega), h1, h2], by simp⟩
    · rw [if_neg hl] at h
      obtain ⟨rfl, rfl⟩ := h
      by_cases h8 : s.length < p + 8
      · rw [M.take_no (k := 4) (a := p + 4) (by omega)]
        simp only [M.take_bad (st := ⟨p + 4, 1, s.length⟩) (by simp), Int.lt_irrefl, if_false]
        exact .inl ⟨by simp, by simp only; omega, by rw [e1]; unfold M.tab; rw [if_pos (by omega)], by simp only [List.length_singleton]; omega⟩
      · rw [M.take_ok (k := 4) (a := p + 4) (by omega)]
        simp only
        by_cases h12 : s.length < p + 12
        · rw [M.take_no (k := 4) (a := p + 4 + 4) (by omega)]
          simp only
          have hr : M.sw s a op b false = .error (1, s.length) := by rw [e1]; unfold M.tab; rw [if_pos (by omega)]
          split
          · exact .inl ⟨by simp [M.fail], by simp only [M.fail]; simp only [Nat.succ_ne_zero, if_false]; omega, by rw [hr]; rfl, by simp only [M.fail, List.length_singleton]; simp only [Nat.succ_ne_zero, if_false]; omega⟩
          · exact .inl ⟨by simp, by simp only; omega, hr, by simp only [List.length_singleton]; omega⟩
        · rw [M.take_ok (k := 4) (a := p + 4 + 4) (by omega)]
          simp only [rd_w4, show p + 4 + 4 = p + 8 from rfl, show p + 8 + 4 = p + 12 from rfl]
          by_cases hlt : M.w4 s (p + 8) < M.w4 s (p + 4)
          · rw [if_pos hlt]
            refine .inl ⟨by simp [M.fail], by simp only [M.fail, if_true]; omega, ?_, by simp only [M.fail, List.length_singleton, if_true]; omega⟩
            rw [e1]; unfold M.tab; rw [if_neg h12, if_pos hlt]; rfl
          · rw [if_neg hlt]
            refine .inr ⟨rfl, rfl, by simp only; omega, Int.le_refl _, by omega, by simp only [List.length_singleton]; omega, ?_⟩
            rw [e1]; unfold M.tab; rw [if_neg h12, if_neg hlt]; rfl
theorem tgs_succ (s : List UInt8) (a n p : Nat) (ts : List Int) : M.tgs s a (n + 1) p ts = if s.length < p + 4 then .error (1, s.length) else M.tgs s a n (p + 4) (ts ++ [(a : Int) + M.w4 s p]) := rfl
theorem TabAt.next {s : List UInt8} {a op b : Nat} {lo hi : Int} {st : St} {k : Int} {ts : List Int} (h : TabAt s a op b lo hi st k ts) (he : st.e = 0) (hk : k ≤ hi) :
    TabAt s a op b lo hi (M.take s 4 st).2 (k + 1) (ts ++ [(a : Int) + M.rd M.fw (M.take s 4 st).1]) := by
  rcases h with ⟨h1, _⟩ | ⟨h1, h2, h3, h4, h5, h6, h7⟩
  · exact absurd he h1
  · obtain ⟨x, e, p⟩ := st
    simp only at h1 h2 h3 h6 h7
    subst h1; subst h2
    have hn : (hi - k + 1).toNat = (hi - (k + 1) + 1).toNat + 1 := by omega
    rw [hn, tgs_succ] at h7
    by_cases hl : s.length < x + 4
    · rw [if_pos hl] at h7
      rw [M.take_no (by omega)]
      exact .inl ⟨by simp, h3, h7, by simp; omega⟩
    · rw [if_neg hl] at h7
      rw [M.take_ok (by omega)]
      exact .inr ⟨rfl, rfl, by simp only; omega, by omega, by omega, by simp; omega, h7⟩
theorem TabAt.pos {s : List UInt8} {a op b : Nat} {lo hi : Int} {st : St} {k : Int} {ts : List Int} (h : TabAt s a op b lo hi st k ts) : st.pos ≤ s.length ∧ ts.length * 4 ≤ s.length + 8 := by
  rcases h with ⟨_, h2, _, h4⟩ | ⟨_, _, h3, _, _, h6, _⟩
  · omega
  · omega
/-- What an instruction's rest has come to. -/
def ReadTo (s : List UInt8) (st : St) (r : Except Er (I × Nat)) (low a b : Int) (ks ts : List Int) : Prop :=
  M.Left s st r ∧ ∀ i q, r = .ok (i, q) → i.low = low ∧ i.a = a ∧ i.b = b ∧ i.keys = ks ∧ i.tgts = ts
theorem TabAt.done {s : List UInt8} {a op b : Nat} {lo hi : Int} {st : St} {k : Int} {ts : List Int} (h : TabAt s a op b lo hi st k ts) (hx : st.e ≠ 0 ∨ hi < k) : ReadTo s st (M.sw s a op b false) lo 0 0 [] ts := by
  rcases h with ⟨h1, h2, h3, _⟩ | ⟨h1, h2, h3, h4, h5, h6, h7⟩
  · rw [h3]; exact ⟨⟨rfl, rfl, h1, h2⟩, fun _ _ e => by cases e⟩
  · have hk : hi < k := by rcases hx with hx | hx <;> omega
    have hn : (hi - k + 1).toNat = 0 := by omega
    rw [hn] at h7
    rw [h7]
    refine ⟨?_, fun i q e => ?_⟩
    · obtain ⟨x, e, p⟩ := st
      simp only at h1 h2
      subst h1; subst h2
      rfl
    · cases e; exact ⟨rfl, rfl, rfl, rfl, rfl⟩
end Go.Proofs.YtpmonoenppfekabDoor
