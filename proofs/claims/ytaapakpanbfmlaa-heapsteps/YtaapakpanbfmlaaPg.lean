/-
  The program's space in memory: its block, three tables of things, the slots that cross, and the rows of things: parts that lie apart.
-/
import Derived.Test.YtaapakpanbfmlaaPf
namespace Go.Proofs.Ytaapakpanbfmlaa
namespace Rs
open Go.RowKit Hp
set_option linter.unusedVariables false
set_option linter.unusedSimpArgs false
/-- A thing: its references, its words, where it has gone. -/
structure Tp where
  r : Rv
  q : Rv
  mv : Int
def Tp.cells (t : Tp) : List Value := [.int .i64 (t.r.xs.length : Int), t.r.sv, t.r.pv, .int .i64 (t.q.xs.length : Int), t.q.sv, t.q.pv, .int .i64 0, .nilIface, .int .i64 t.mv]
def Tp.own (t : Tp) : List Nat := t.r.own ++ t.q.own
theorem Tp.len (t : Tp) : t.cells.length = 9 := rfl
/-- The tables: the old, the young, and one more. -/
inductive Tb
  | o | y | z
  deriving DecidableEq
/-- What does not change: the least block, the space's block, the limit, the room. -/
structure Cf where
  B : Nat
  sb : Nat
  lim : Nat
  room : Nat
/-- What a space holds. -/
structure St where
  v : Tb → Value
  l : Tb → List Tp
  yw : Nat
  ow : Nat
  sp : Value
  cv : Value
  C : List (Int × Nat)
  ro : List Int
  F : Int → Option Tp
inductive Part
  | sb | cv | tab (d : Tb) | row (r : Int)
  deriving DecidableEq
def mblk : Value → List Nat
  | .map (some b) => [b]
  | _ => []
def ob (v : Value) : List Nat := v.ownBlock.toList
/-- The blocks of a part. -/
def St.bl (c : Cf) (s : St) : Part → List Nat
  | .sb => [c.sb]
  | .cv => mblk s.cv
  | .tab d => ob (s.v d)
  | .row r => match s.F r with
    | some t => t.own
    | none => []
def St.cells (c : Cf) (s : St) : List Value :=
  [.int .i64 (c.lim : Int), .int .i64 (c.room : Int), .int .i64 (c.lim : Int), s.v .y, .int .i64 (s.yw : Int), s.v .o, .int .i64 (s.ow : Int), s.sp, s.cv] ++ s.ro.map (Value.int .i64)
def slotv (x : Int × Nat) : Value := .agg #[.int .i64 x.1, .int .i64 (x.2 : Int)]
/-- The slots that cross, in memory. -/
def CrIs (w : World) (cv : Value) (C : List (Int × Nat)) : Prop :=
  (cv = .map none ∧ C = []) ∨ ∃ b es clock, cv = .map (some b) ∧ w.heap[b]? = some (.map es clock) ∧ MapKept.Stamped es clock ∧ es.toList.map (·.key) = C.map slotv
/-- What is in a part. -/
def Has (c : Cf) (w : World) (s : St) : Part → Prop
  | .sb => w.heap[c.sb]? = some (.cells (s.cells c).toArray 59 (0, 0)) ∧ s.ro.length = 16
  | .cv => CrIs w s.cv s.C
  | .tab d => w.ownsRow c.B 96 9 (s.v d) (s.l d).length ((s.l d).flatMap Tp.cells)
  | .row r => ∀ t, s.F r = some t → RowIs .i64 55 121 w t.r ∧ RowIs .u64 30 120 w t.q ∧ t.own.Nodup
theorem Has.lt {c : Cf} {w : World} {s : St} {p : Part} (h : Has c w s p) : ∀ b ∈ s.bl c p, b < w.heap.size := by
  intro b hb
  cases p with
  | sb =>
    simp only [St.bl, List.mem_singleton] at hb
    rw [hb]; exact (Array.getElem?_eq_some_iff.1 h.1).1
  | cv =>
    simp only [St.bl] at hb
    rcases h with ⟨e, _⟩ | ⟨g, es, clock, e, h, _⟩
    · rw [e] at hb; simp [mblk] at hb
    · rw [e] at hb; simp [mblk] at hb
      rw [hb]; exact (Array.getElem?_eq_some_iff.1 h).1
  | tab d =>
    simp only [St.bl, ob] at hb
    have h' : w.ownsRow c.B 96 9 (s.v d) (s.l d).length ((s.l d).flatMap Tp.cells) := h
    exact (h'.lt b (by cases hl : (s.v d).ownBlock with
      | none => rw [hl] at hb; simp at hb
      | some g => rw [hl] at hb; simp at hb; rw [hb])).2
  | row r =>
    simp only [St.bl] at hb
    cases hF : s.F r with
    | none => rw [hF] at hb; simp at hb
    | some t =>
      rw [hF] at hb
      obtain ⟨h1, h2, _⟩ := h t hF
      rcases List.mem_append.1 hb with hb | hb
      · exact h1.lt b hb
      · exact h2.lt b hb
theorem Has.same {c : Cf} {w w' : World} {s : St} {p : Part} (h : Has c w s p) (hb : ∀ b ∈ s.bl c p, w'.heap[b]? = w.heap[b]?) : Has c w' s p := by
  cases p with
  | sb => exact ⟨by rw [hb c.sb (by simp [St.bl])]; exact h.1, h.2⟩
  | cv =>
    rcases h with h | ⟨g, es, clock, e, h, h2⟩
    · exact .inl h
    · exact .inr ⟨g, es, clock, e, by rw [hb g (by simp [St.bl, e, mblk])]; exact h, h2⟩
  | tab d =>
    have h' : w.ownsRow c.B 96 9 (s.v d) (s.l d).length ((s.l d).flatMap Tp.cells) := h
    refine ⟨h'.1, ?_⟩
    rcases h'.2 with h0 | ⟨g, cap, cur, e, h1, h2, h3⟩
    · exact .inl h0
    · exact .inr ⟨g, cap, cur, e, h1, by rw [hb g (by simp [St.bl, ob, e, Value.ownBlock])]; exact h2, h3⟩
  | row r =>
    intro t hF
    obtain ⟨h1, h2, h3⟩ := h t hF
    have hb' : ∀ b ∈ t.own, w'.heap[b]? = w.heap[b]? := fun b hm => hb b (by simp only [St.bl]; rw [hF]; exact hm)
    exact ⟨h1.same (fun b hm => hb' b (List.mem_append_left _ hm)), h2.same (fun b hm => hb' b (List.mem_append_right _ hm)), h3⟩
/-- The space in memory. -/
structure Cl (c : Cf) (w : World) (s : St) : Prop where
  has : ∀ p, Has c w s p
  ap : ∀ p p', p ≠ p' → ∀ b ∈ s.bl c p, b ∉ s.bl c p'
  B : c.B ≤ w.heap.size
/-- What is not touched stays. -/
theorem Cl.kept {c : Cf} {w w' : World} {s : St} {G : List Nat} (h : Cl c w s) (hf : Fr G w w') (hn : ∀ p, ∀ b ∈ s.bl c p, b ∉ G) : Cl c w' s :=
  ⟨fun p => (h.has p).same (fun b hb => hf.block b ((h.has p).lt b hb) (hn p b hb)), h.ap, Nat.le_trans h.B hf.size⟩
theorem Cl.fresh {c : Cf} {w w' : World} {s : St} (h : Cl c w s) (hf : Fr [] w w') : Cl c w' s := h.kept hf (fun _ _ _ => by simp)
/-- Some parts have changed, the others are as they were. -/
theorem Cl.upd {c : Cf} {w w' : World} {s s' : St} (h : Cl c w s) (Q : Part → Prop) (hk : ∀ p, ¬ Q p → (Has c w' s p → Has c w' s' p) ∧ s'.bl c p = s.bl c p) (hf : ∀ p, ¬ Q p → ∀ b ∈ s.bl c p, w'.heap[b]? = w.heap[b]?) (hn : ∀ p, Q p → Has c w' s' p)
    (hb : ∀ p, Q p → ∀ b ∈ s'.bl c p, b ∈ s.bl c p ∨ w.heap.size ≤ b) (hfr : ∀ p p', Q p → Q p' → p ≠ p' → ∀ b ∈ s'.bl c p, w.heap.size ≤ b → b ∉ s'.bl c p') (hs : w.heap.size ≤ w'.heap.size) : Cl c w' s' := by
  have hold : ∀ p, ∀ b ∈ s'.bl c p, b ∈ s.bl c p ∨ (w.heap.size ≤ b ∧ Q p) := fun p b hb' => by
    by_cases hq : Q p
    · rcases hb p hq b hb' with h1 | h1
      · exact .inl h1
      · exact .inr ⟨h1, hq⟩
    · rw [(hk p hq).2] at hb'; exact .inl hb'
  refine ⟨fun p => ?_, fun p p' hpp b h1 h2 => ?_, Nat.le_trans h.B hs⟩
  · by_cases hq : Q p
    · exact hn p hq
    · exact (hk p hq).1 ((h.has p).same (hf p hq))
  · rcases hold p b h1 with a1 | ⟨a1, q1⟩
    · rcases hold p' b h2 with a2 | ⟨a2, q2⟩
      · exact h.ap p p' hpp b a1 a2
      · have := (h.has p).lt b a1; omega
    · rcases hold p' b h2 with a2 | ⟨a2, q2⟩
      · have := (h.has p').lt b a2; omega
      · exact hfr p p' q1 q2 hpp b h1 a1 h2
/-- Only the space's own block has changed. -/
theorem Cl.setSb {c : Cf} {w w' : World} {s s' : St} (h : Cl c w s) (hb : w'.heap[c.sb]? = some (.cells (s'.cells c).toArray 59 (0, 0))) (hr : s'.ro.length = 16) (hf : Fr [c.sb] w w') (h1 : s'.v = s.v) (h2 : s'.l = s.l) (h3 : s'.cv = s.cv) (h4 : s'.C = s.C) (h5 : s'.F = s.F) : Cl c w' s' := by
  refine h.upd (fun p => p = .sb) (fun p hp => ?_) (fun p hp b hb => ?_) (fun p hp => ?_) (fun p hp b hb => ?_) (fun p p' hp hp' hne => absurd (hp.trans hp'.symm) hne) hf.size
  · cases p with
    | sb => exact absurd rfl hp
    | cv => exact ⟨fun h => by unfold Has at h ⊢; rw [h3, h4]; exact h, by simp only [St.bl]; rw [h3]⟩
    | tab d => exact ⟨fun h => by unfold Has at h ⊢; rw [h1, h2]; exact h, by simp only [St.bl]; rw [h1]⟩
    | row r => exact ⟨fun h => by unfold Has at h ⊢; rw [h5]; exact h, by simp only [St.bl]; rw [h5]⟩
  · refine hf.block b ((h.has p).lt b hb) (fun e => ?_)
    exact h.ap p .sb hp b hb e
  · rw [hp]; exact ⟨hb, hr⟩
  · rw [hp] at hb ⊢; exact .inl hb
theorem Cl.sbl {c : Cf} {w : World} {s : St} (h : Cl c w s) : c.sb < w.heap.size := (Array.getElem?_eq_some_iff.1 (h.has .sb).1).1
theorem Cl.cell {c : Cf} {w : World} {s : St} (h : Cl c w s) (i : Nat) {v : Value} (hv : (s.cells c)[i]? = some v) : w.cell? ⟨c.sb, i, none⟩ = some v := by
  rw [cell_of_row w c.sb i _ 59 (0, 0) (h.has .sb).1, List.getElem?_toArray]; exact hv
theorem Cl.fz {c : Cf} {w : World} {s : St} (h : Cl c w s) (i : Nat) : w.frozen? ⟨c.sb, i, none⟩ = false := frozen_of (h.has .sb).1
theorem Cl.place {c : Cf} {w : World} {s : St} (h : Cl c w s) (n : Nat) (hn : n < 16) : w.cell? ⟨c.sb, 9 + n, none⟩ = some (.int .i64 (s.ro.getD n 0)) := by
  refine h.cell (9 + n) ?_
  unfold St.cells
  rw [List.getElem?_append_right (by simp)]
  have : n < s.ro.length := by rw [(h.has .sb).2]; exact hn
  simp [List.getD_eq_getElem?_getD, this]
/-- A place holds something else. -/
theorem Cl.setRoot {c : Cf} {w : World} {s : St} (h : Cl c w s) (n : Nat) (x : Int) : Cl c (w.setCell ⟨c.sb, 9 + n, none⟩ (.int .i64 x)) { s with ro := s.ro.set n x } := by
  refine h.setSb (s' := { s with ro := s.ro.set n x }) ?_ (by show (s.ro.set n x).length = 16; rw [List.length_set]; exact (h.has .sb).2) ((Fr.refl _ _).set (by simp) _) rfl rfl rfl rfl rfl
  rw [heap_setCell_same w c.sb (9 + n) _ 59 _ (h.has .sb).1, List.setIfInBounds_toArray]
  congr 3
  unfold St.cells
  rw [List.set_append_right _ _ (by simp)]
  simp [List.map_set]
/-- A table's block with one cell changed. -/
theorem own_set {w : World} {B e z n : Nat} {g cap : Nat} {xs : List Value} (h : w.ownsRow B e z (.slice (some ⟨g, 0, none⟩) n cap) n xs) (i : Nat) (u : Value) (hi : i < n * z) : (w.setCell ⟨g, i, none⟩ u).ownsRow B e z (.slice (some ⟨g, 0, none⟩) n cap) n (xs.set i u) := by
  refine ⟨by rw [List.length_set]; exact h.1, ?_⟩
  rcases h.2 with ⟨e0, _⟩ | ⟨g', cap', cur, e, h1, h2, h3, h4, h5, h6⟩
  · cases e0
  · cases e
    refine .inr ⟨g, cap, cur.setIfInBounds i u, rfl, h1, ?_, h3, h4, by simpa using h5, ?_⟩
    · exact heap_setCell_same w g i cur e u h2
    · rw [Array.toList_setIfInBounds, List.take_set, h6]
end Rs
end Go.Proofs.Ytaapakpanbfmlaa
