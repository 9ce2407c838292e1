/-
  A switch by keys: the reader's states against the plain answer; both lists grow.
-/
import Derived.Test.YtpmonoenppfekabDoorTable
namespace Go.Proofs.YtpmonoenppfekabDoor
open Go.RowKit
/-- What is left of the keys: an error, or so many. -/
def KeyAt (s : List UInt8) (a op b : Nat) (cnt : Int) (st : St) (k : Nat) (ks ts : List Int) : Prop :=
  (st.e ≠ 0 ∧ st.pos ≤ s.length ∧ M.sw s a op b true = .error (st.e, st.p) ∧ ks.length * 4 ≤ st.pos + 8 ∧ ts.length * 4 ≤ st.pos + 8) ∨
  (st.e = 0 ∧ st.p = 0 ∧ st.pos ≤ s.length ∧ (k : Int) ≤ cnt ∧ ks.length = k ∧ ks.length * 4 ≤ st.pos ∧ ts.length * 4 ≤ st.pos ∧ M.sw s a op b true = M.finK a op (M.kys s a (cnt - k).toNat st.pos ks ts))
theorem key_start {s : List UInt8} {a op b : Nat} {st : St} {t : Int} (h : OthersRes s a b st t) (hb : b ≤ s.length) :
    KeyAt s a op b (M.rd M.fw (M.take s 4 st).1) (if M.rd M.fw (M.take s 4 st).1 < 0 then M.fail (M.take s 4 st).2 15 a else (M.take s 4 st).2) 0 [] [t] := by
  unfold OthersRes at h
  cases hp : M.pad s a (M.padN b) b with
  | error e =>
    obtain ⟨e, p⟩ := e
    rw [hp] at h
    obtain ⟨h1, h2, h3, h4⟩ := h
    have hbad : st.e ≠ 0 := by rw [h1]; exact h3
    rw [M.take_bad hbad]
    simp only [rd_nil, Int.lt_irrefl, if_false]
    exact .inl ⟨hbad, h4, by rw [sw_bad hp, h1, h2], by simp, by simp⟩
  | ok p =>
    rw [hp] at h
    simp only at h
    have hpl := M.pad_le hb hp
    obtain ⟨_, e1⟩ := sw_of (op := op) hp
    by_cases hl : s.length < p + 4
    · rw [if_pos hl] at h
      obtain ⟨h1, h2, h3⟩ := h
      have hbad : st.e ≠ 0 := by rw [h1]; simp
      rw [M.take_bad hbad]
      simp only [rd_nil, Int.lt_irrefl, if_false]
      exact .inl ⟨hbad, h3, by rw [e1]; unfold M.key; rw [if_pos (by omega), h1, h2], by simp, by simp⟩
    · rw [if_neg hl] at h
      obtain ⟨rfl, rfl⟩ := h
      by_cases h8 : s.length < p + 8
      · rw [M.take_no (k := 4) (a := p + 4) (by omega)]
        simp only [rd_nil, Int.lt_irrefl, if_false]
        exact .inl ⟨by simp, by simp only; omega, by rw [e1]; unfold M.key; rw [if_pos (by omega)], by simp, by simp only [List.length_singleton]; omega⟩
      · rw [M.take_ok (k := 4) (a := p + 4) (by omega)]
        simp only [rd_w4, show p + 4 + 4 = p + 8 from rfl]
        by_cases hlt : M.w4 s (p + 4) < 0
        · rw [if_pos hlt]
          refine .inl ⟨by simp [M.fail], by simp only [M.fail, if_true]; omega, ?_, by simp, by simp only [M.fail, List.length_singleton, if_true]; omega⟩
          rw [e1]; unfold M.key; rw [if_neg h8, if_pos hlt]; rfl
        · rw [if_neg hlt]
          refine .inr ⟨rfl, rfl, by simp only; omega, by omega, rfl, by simp, by simp only [List.length_singleton]; omega, ?_⟩
          rw [e1]; unfold M.key; rw [if_neg h8, if_neg hlt]; simp only [Int.natCast_zero, Int.sub_zero]; rfl
theorem kys_succ (s : List UInt8) (a n p : Nat) (ks ts : List Int) : M.kys s a (n + 1) p ks ts = if s.length < p + 4 then .error (1, s.length) else if ks ≠ [] ∧ M.w4 s p ≤ ks.getLastD 0 then .error (15, a)
      else if s.length < p + 8 then .error (1, s.length) else M.kys s a n (p + 8) (ks ++ [M.w4 s p]) (ts ++ [(a : Int) + M.w4 s (p + 4)]) := rfl
/-- The state behind a key that was read and looked at. -/
def keyed (s : List UInt8) (a : Nat) (st : St) (ks : List Int) : St :=
  if ks ≠ [] ∧ M.rd M.fw (M.take s 4 st).1 ≤ ks.getLastD 0 then M.fail (M.take s 4 st).2 15 a else (M.take s 4 st).2
theorem KeyAt.next {s : List UInt8} {a op b : Nat} {cnt : Int} {st : St} {k : Nat} {ks ts : List Int} (h : KeyAt s a op b cnt st k ks ts) (he : st.e = 0) (hk : (k : Int) < cnt) :
    KeyAt s a op b cnt (M.take s 4 (keyed s a st ks)).2 (k + 1) (ks ++ [M.rd M.fw (M.take s 4 st).1]) (ts ++ [(a : Int) + M.rd M.fw (M.take s 4 (keyed s a st ks)).1]) ∧ (keyed s a st ks).pos ≤ s.length ∧ ks.length = k := by
  rcases h with ⟨h1, _⟩ | ⟨h1, h2, h3, h4, h5, h6, h6b, h7⟩
  · exact absurd he h1
  · obtain ⟨x, e, p⟩ := st
    simp only at h1 h2 h3 h6 h6b h7
    subst h1; subst h2
    have hn : (cnt - k).toNat = (cnt - ((k + 1 : Nat) : Int)).toNat + 1 := by omega
    rw [hn, kys_succ] at h7
    by_cases hl : s.length < x + 4
    · rw [if_pos hl] at h7
      have hst : keyed s a ⟨x, 0, 0⟩ ks = ⟨x, 1, s.length⟩ := by
        unfold keyed
        rw [M.take_no (by omega)]
        split
        · exact M.fail_bad (by simp)
        · rfl
      rw [hst, M.take_bad (st := ⟨x, 1, s.length⟩) (by simp)]
      exact ⟨.inl ⟨by simp, h3, h7, by simp; omega, by simp; omega⟩, h3, h5⟩
    · rw [if_neg hl] at h7
      have hst : keyed s a ⟨x, 0, 0⟩ ks = if ks ≠ [] ∧ M.w4 s x ≤ ks.getLastD 0 then ⟨x + 4, 15, a⟩ else ⟨x + 4, 0, 0⟩ := by
        unfold keyed; rw [M.take_ok (by omega)]; rfl
      have hx4 : M.rd M.fw (M.take s 4 ⟨x, 0, 0⟩).1 = M.w4 s x := by rw [M.take_ok (by omega)]; rfl
      rw [hst, hx4]
      by_cases hr : ks ≠ [] ∧ M.w4 s x ≤ ks.getLastD 0
      · rw [if_pos hr] at h7 ⊢
        rw [M.take_bad (by simp)]
        exact ⟨.inl ⟨by simp, by simp only; omega, h7, by simp; omega, by simp; omega⟩, by simp only; omega, h5⟩
      · rw [if_neg hr] at h7 ⊢
        by_cases h8 : s.length < x + 8
        · rw [if_pos h8] at h7
          rw [M.take_no (by omega)]
          exact ⟨.inl ⟨by simp, by simp only; omega, h7, by simp; omega, by simp; omega⟩, by simp only; omega, h5⟩
        · rw [if_neg h8] at h7
          rw [M.take_ok (by omega)]
          simp only [rd_w4]
          exact ⟨.inr ⟨rfl, rfl, by show x + 4 + 4 ≤ s.length; omega, by omega, by simp; omega, by simp; omega, by simp; omega, h7⟩, by show x + 4 ≤ s.length; omega, h5⟩
theorem KeyAt.pos {s : List UInt8} {a op b : Nat} {cnt : Int} {st : St} {k : Nat} {ks ts : List Int} (h : KeyAt s a op b cnt st k ks ts) : st.pos ≤ s.length ∧ ks.length * 4 ≤ s.length + 8 ∧ ts.length * 4 ≤ s.length + 8 := by
  rcases h with ⟨_, h2, _, h4, h5⟩ | ⟨_, _, h3, _, _, h6, h7, _⟩
  · omega
  · omega
theorem KeyAt.done {s : List UInt8} {a op b : Nat} {cnt : Int} {st : St} {k : Nat} {ks ts : List Int} (h : KeyAt s a op b cnt st k ks ts) (hx : st.e ≠ 0 ∨ cnt ≤ (k : Int)) : ReadTo s st (M.sw s a op b true) 0 0 0 ks ts := by
  rcases h with ⟨h1, h2, h3, _⟩ | ⟨h1, h2, h3, h4, h5, h6, h6b, h7⟩
  · rw [h3]; exact ⟨⟨rfl, rfl, h1, h2⟩, fun _ _ e => by cases e⟩
  · have hk : cnt ≤ (k : Int) := by rcases hx with hx | hx <;> omega
    have hn : (cnt - k).toNat = 0 := by omega
    rw [hn] at h7
    rw [h7]
    refine ⟨?_, fun i q e => ?_⟩
    · obtain ⟨x, e, p⟩ := st
      simp only at h1 h2
      subst h1; subst h2
      rfl
    · cases e; exact ⟨rfl, rfl, rfl, rfl, rfl⟩
theorem Own2.appK {w w' : World} {B : Nat} {kv tv kv' : Value} {ks ts : List Int} {x : Int} (h : Own2 w B kv tv ks ts) (hr : w'.ownsRow B 3 1 kv' (ks.length + 1) (ks.map (Value.int .i64) ++ [.int .i64 x])) (hg : w.grownBy w' kv.ownBlock)
    (hl : kv'.ownBlock = kv.ownBlock ∨ kv'.ownBlock = some w.heap.size) : Own2 w' B kv' tv (ks ++ [x]) ts :=
  ⟨row_snoc hr, row_kept h.t hg (fun b e => h.apart b e), fun b e e2 => by
    rcases hl with hl | hl
    · exact h.apart b (hl ▸ e) e2
    · rw [hl] at e; cases e; have := (row_in h.t e2).2; omega⟩
theorem Own2.appT {w w' : World} {B : Nat} {kv tv tv' : Value} {ks ts : List Int} {x : Int} (h : Own2 w B kv tv ks ts) (hr : w'.ownsRow B 3 1 tv' (ts.length + 1) (ts.map (Value.int .i64) ++ [.int .i64 x])) (hg : w.grownBy w' tv.ownBlock)
    (hl : tv'.ownBlock = tv.ownBlock ∨ tv'.ownBlock = some w.heap.size) : Own2 w' B kv tv' ks (ts ++ [x]) :=
  ⟨row_kept h.k hg (fun b e e2 => h.apart b e2 e), row_snoc hr, fun b e e2 => by
    rcases hl with hl | hl
    · exact h.apart b e (hl ▸ e2)
    · rw [hl] at e2; cases e2; have := (row_in h.k e).2; omega⟩
theorem row_at {w : World} {B g n c : Nat} {ks : List Int} (h : w.ownsRow B 3 1 (.slice (some ⟨g, 0, none⟩) n c) n (ks.map (Value.int .i64))) (j : Nat) (hj : j < ks.length) : w.cell? ⟨g, j, none⟩ = some (.int .i64 (ks.getD j 0)) := by
  have := h.cells (g := g) rfl j (.int .i64 (ks.getD j 0)) (by simp [List.getD, hj])
  have e : ((⟨g, 0, none⟩ : Addr).add j) = ⟨g, j, none⟩ := by unfold Addr.add; cases j <;> simp
  rwa [e] at this
end Go.Proofs.YtpmonoenppfekabDoor
