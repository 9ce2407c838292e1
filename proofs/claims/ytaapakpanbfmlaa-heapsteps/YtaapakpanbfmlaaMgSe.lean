/-
  The reference's space at rest; what its steps do to the graph.
-/
import Derived.Test.YtaapakpanbfmlaaRl
import Derived.Test.YtaapakpanbfmlaaHf
import Derived.Test.YtaapakpanbfmlaaQo
import Derived.Test.YtaapakpanbfmlaaMgRo
import Derived.Test.YtaapakpanbfmlaaMgSh
namespace Go.Proofs.Ytaapakpanbfmlaa
namespace Hp
open Rs
set_option linter.unusedVariables false
set_option linter.unusedSectionVars false
section
variable {α : Type} [DecidableEq α]
theorem sum_filter_le' (l : List α) (p : α → Bool) (f : α → Nat) : ((l.filter p).map f).sum ≤ (l.map f).sum := by
  induction l with
  | nil => simp
  | cons a l ih =>
    rw [List.filter_cons]
    split
    · rw [List.map_cons, List.sum_cons, List.map_cons, List.sum_cons]; omega
    · rw [List.map_cons, List.sum_cons]; omega
theorem sum_sub {l l' : List α} (h : l.Nodup) (h' : l'.Nodup) (hs : ∀ a ∈ l', a ∈ l) (f : α → Nat) : (l'.map f).sum ≤ (l.map f).sum := by
  have hp : (l.filter (fun a => decide (a ∈ l'))).Perm l' := (List.perm_ext_iff_of_nodup (List.Pairwise.filter _ h) h').2 (fun a => by
    rw [List.mem_filter]
    constructor
    · rintro ⟨_, h2⟩; simpa using h2
    · intro h2; exact ⟨hs a h2, by simpa using h2⟩)
  have := (hp.map f).sum_nat
  rw [← this]
  exact sum_filter_le' _ _ _
/-- Fewer can be reached: fewer words. -/
theorem Wds.le {g g' : Gr α} {ro ro' : List α} {m m' : Nat} (h : Wds g ro m) (h' : Wds g' ro' m') (hs : ∀ a, Rch g' ro' a → Rch g ro a ∧ szG g' a = szG g a) : m' ≤ m := by
  obtain ⟨l, h1, h2, rfl⟩ := h
  obtain ⟨l', k1, k2, rfl⟩ := h'
  have e : l'.map (szG g') = l'.map (szG g) := List.map_congr_left (fun a ha => (hs a ((k2 a).1 ha)).2)
  rw [e]
  exact sum_sub h1 k1 (fun a ha => (h2 a).2 (hs a ((k2 a).1 ha)).1) _
/-- One more. -/
theorem Wds.le1 {g g' : Gr α} {ro ro' : List α} {m m' z : Nat} {n : α} (h : Wds g ro m) (h' : Wds g' ro' m') (hs : ∀ a, Rch g' ro' a → (a = n ∧ szG g' a = z) ∨ (Rch g ro a ∧ szG g' a = szG g a)) : m' ≤ m + z := by
  obtain ⟨l, h1, h2, rfl⟩ := h
  obtain ⟨l', k1, k2, rfl⟩ := h'
  by_cases hn : n ∈ l' ∧ n ∉ l
  · have e : (l'.map (szG g')).sum ≤ (((n :: l).map (fun a => if a = n then z else szG g a))).sum := by
      have e1 : l'.map (szG g') = l'.map (fun a => if a = n then z else szG g a) := List.map_congr_left (fun a ha => by
        rcases hs a ((k2 a).1 ha) with ⟨e, e'⟩ | ⟨e, e'⟩
        · rw [if_pos e, e']
        · rw [if_neg (fun e2 => hn.2 (by rw [← e2]; exact (h2 a).2 e)), e'])
      rw [e1]
      refine sum_sub (List.nodup_cons.2 ⟨hn.2, h1⟩) k1 (fun a ha => ?_) _
      rcases hs a ((k2 a).1 ha) with ⟨e, _⟩ | ⟨e, _⟩
      · rw [e]; exact List.mem_cons_self ..
      · exact List.mem_cons_of_mem _ ((h2 a).2 e)
    rw [List.map_cons, List.sum_cons, if_pos rfl] at e
    have e3 : l.map (fun a => if a = n then z else szG g a) = l.map (szG g) := List.map_congr_left (fun a ha => by rw [if_neg (fun e2 => hn.2 (by rw [← e2]; exact ha))])
    rw [e3] at e
    omega
  · have e1 : (l'.map (szG g')).sum ≤ (l'.map (szG g)).sum + z := by
      by_cases hl' : n ∈ l'
      · have hl : n ∈ l := by
          by_cases hh : n ∈ l
          · exact hh
          · exact absurd ⟨hl', hh⟩ hn
        have hp : l'.Perm (n :: l'.erase n) := List.perm_cons_erase hl'
        have s1 := (hp.map (szG g')).sum_nat
        have s2 := (hp.map (szG g)).sum_nat
        rw [s1, s2, List.map_cons, List.sum_cons, List.map_cons, List.sum_cons]
        have e4 : (l'.erase n).map (szG g') = (l'.erase n).map (szG g) := List.map_congr_left (fun a ha => by
          have hm := List.Nodup.mem_erase_iff k1 |>.1 ha
          rcases hs a ((k2 a).1 hm.2) with ⟨e, _⟩ | ⟨_, e'⟩
          · exact absurd e hm.1
          · exact e')
        rw [e4]
        have e5 : szG g' n ≤ szG g n + z := by
          rcases hs n ((k2 n).1 hl') with ⟨_, e'⟩ | ⟨_, e'⟩
          · omega
          · omega
        omega
      · have e4 : l'.map (szG g') = l'.map (szG g) := List.map_congr_left (fun a ha => by
          rcases hs a ((k2 a).1 ha) with ⟨e, _⟩ | ⟨_, e'⟩
          · exact absurd (e ▸ ha) hl'
          · exact e')
        rw [e4]; omega
    have e2 : (l'.map (szG g)).sum ≤ (l.map (szG g)).sum := sum_sub h1 k1 (fun a ha => by
      rcases hs a ((k2 a).1 ha) with ⟨e, _⟩ | ⟨e, _⟩
      · by_cases hh : n ∈ l
        · rw [e]; exact hh
        · exact absurd ⟨e ▸ ha, hh⟩ hn
      · exact (h2 a).2 e) _
    omega
end
/-- What the reference can reach has a number of words. -/
theorem wdsS {L : List T} {ro : List Nat} (hro : Okr L ro) (hL : OkL L) : ∃ m, Wds (grS L) ro m := by
  classical
  refine ⟨_, (List.range L.length).filter (fun a => decide (Rch (grS L) ro a)), List.Pairwise.filter _ List.nodup_range, fun a => ?_, rfl⟩
  rw [List.mem_filter]
  constructor
  · rintro ⟨_, h2⟩; simpa using h2
  · intro h2
    refine ⟨List.mem_range.2 ?_, by simpa using h2⟩
    cases h2 with
    | root h1 _ => exact hro a h1
    | step hr0 h3 h4 hn0 =>
      rename_i a0 rs ws
      have h3 : (L[a0]?).map (fun t : T => (t.refs, t.words)) = some (rs, ws) := h3
      obtain ⟨t, ht, e⟩ := Option.map_eq_some_iff.1 h3
      simp only [Prod.mk.injEq] at e
      rw [← e.1] at h4
      exact hL.refs t (List.mem_of_getElem? ht) a h4
/-- What was seen: so many words. -/
theorem Dfs.wds {L : List T} {ro : List Nat} {seen : List Bool} (h : Dfs L ro seen []) : Wds (grS L) ro (used L seen) := by
  refine ⟨(List.range L.length).filter (fun k => seen.getD k false), List.Pairwise.filter _ List.nodup_range, fun a => ?_, ?_⟩
  · rw [List.mem_filter, h.done a]
    constructor
    · exact fun h => h.2
    · intro h2
      refine ⟨List.mem_range.2 ?_, h2⟩
      have := (h.done a).2 h2
      rw [← h.len]
      rcases Nat.lt_or_ge a seen.length with g | g
      · exact g
      · rw [List.getD_eq_getElem?_getD, List.getElem?_eq_none g] at this; cases this
  · unfold used
    rw [sum_filter]
    congr 1
    refine List.map_congr_left (fun k hk => ?_)
    unfold szG grS szT
    simp only
    cases hk' : L[k]? with
    | none => rfl
    | some t => rfl
end Hp
end Go.Proofs.Ytaapakpanbfmlaa

namespace Go.Proofs.Ytaapakpanbfmlaa
namespace Rs
open Go.RowKit Hp
set_option linter.unusedVariables false
set_option linter.unusedSimpArgs false
structure Cr where
  B : Nat
  sb : Nat
  rb : Nat
  lim : Nat
structure RSt where
  lv : Value
  L : List Tv
  ro : List Nat
  us : Nat
def gR (s : RSt) : Gr Nat := grS (s.L.map Tv.t)
def RSt.fp (c : Cr) (s : RSt) : List Nat := Sp.fp c.sb c.rb s.lv s.L
/-- The reference's space at rest. -/
structure Rr (c : Cr) (w : World) (s : RSt) (N : Nat) : Prop where
  sp : Sp w c.B c.sb c.rb s.lv s.L s.ro c.lim s.us
  t0 : ∃ x, s.L[0]? = some x ∧ x.t = ⟨[], []⟩
  okr : Okr (s.L.map Tv.t) s.ro
  okL : OkL (s.L.map Tv.t)
  len : s.L.length ≤ N + 1
  N : N ≤ 32768
  us : s.us ≤ c.lim
  sum : (s.L.map fun x => szT x.t).sum ≤ s.us + 2 * s.L.length
  mw : ∀ m, Wds (gR s) s.ro m → m ≤ s.us
  B : c.B ≤ w.heap.size
  lim : c.lim ≤ 16384
/-- From one state to a later one. -/
structure EvR (c : Cr) (w : World) (s : RSt) (w' : World) (s' : RSt) : Prop where
  os : w'.os = w.os
  tape : w'.tape = w.tape
  output : w'.output = w.output
  size : w.heap.size ≤ w'.heap.size
  block : ∀ k, k < w.heap.size → k ∉ s.fp c → w'.heap[k]? = w.heap[k]?
  fp : ∀ b ∈ s'.fp c, b ∈ s.fp c ∨ w.heap.size ≤ b
theorem EvR.of {c : Cr} {w w' : World} {s s' : RSt} {G : List Nat} (hf : Fr G w w') (hg : ∀ b ∈ G, b ∈ s.fp c) (hb : ∀ b ∈ s'.fp c, b ∈ s.fp c ∨ w.heap.size ≤ b) : EvR c w s w' s' :=
  ⟨hf.os, hf.tape, hf.output, hf.size, fun k hk hn => hf.block k hk (fun e => hn (hg k e)), hb⟩
section
variable {c : Cr} {w w' : World} {s : RSt} {N : Nat}
theorem Rr.pos (h : Rr c w s N) : 0 < s.L.length := by
  obtain ⟨x, hx, _⟩ := h.t0
  exact (List.getElem?_eq_some_iff.1 hx).1
theorem gR_at {s : RSt} {k : Nat} : (gR s).at_ k = (s.L[k]?).map fun x => (x.t.refs, x.t.words) := by
  show ((s.L.map Tv.t)[k]?).map _ = _
  rw [List.getElem?_map, Option.map_map]; rfl
theorem Rr.zok (h : Rr c w s N) : Zok (gR s) := fun rs ws e => by
  obtain ⟨x, hx, ht⟩ := h.t0
  have e : (gR s).at_ 0 = some (rs, ws) := e
  rw [gR_at, hx] at e
  simp [ht] at e
  exact ⟨e.1, e.2⟩
theorem Rr.rlt (h : Rr c w s N) {a : Nat} (hr : Rch (gR s) s.ro a) : a < s.L.length := by
  have hl : (s.L.map Tv.t).length = s.L.length := by simp
  cases hr with
  | root h1 _ => have := h.okr a h1; omega
  | step hr0 h3 h4 hn0 =>
    rename_i a0 rs ws
    rw [gR_at] at h3
    obtain ⟨x, hx, e⟩ := Option.map_eq_some_iff.1 h3
    simp only [Prod.mk.injEq] at e
    rw [← e.1] at h4
    have := h.okL.refs x.t (List.mem_map.2 ⟨x, List.mem_of_getElem? hx, rfl⟩) a h4
    omega
theorem Rr.isoRefl (h : Rr c w s N) : Iso (gR s) s.ro (gR s) s.ro id := by
  refine ⟨rfl, by simp, fun a ha => ⟨ha.ne, ?_⟩, fun a b _ _ e => e⟩
  have hl := h.rlt ha
  refine ⟨(s.L[a]).t.refs, (s.L[a]).t.words, ?_, ?_⟩
  · rw [gR_at, List.getElem?_eq_getElem hl]; rfl
  · show (gR s).at_ a = _
    rw [gR_at, List.getElem?_eq_getElem hl]; simp
theorem Rr.wds (h : Rr c w s N) : ∃ m, Wds (gR s) s.ro m ∧ m ≤ s.us := by
  obtain ⟨m, hm⟩ := wdsS h.okr h.okL
  exact ⟨m, hm, h.mw m hm⟩
theorem Rr.ofSp (h : Rr c w s N) (hsp : Sp w' c.B c.sb c.rb s.lv s.L s.ro c.lim s.us) (hs : w.heap.size ≤ w'.heap.size) : Rr c w' s N := ⟨hsp, h.t0, h.okr, h.okL, h.len, h.N, h.us, h.sum, h.mw, Nat.le_trans h.B hs, h.lim⟩
theorem Rr.up (h : Rr c w s N) (hN : N < 32768) : Rr c w s (N + 1) := ⟨h.sp, h.t0, h.okr, h.okL, by have := h.len; omega, by omega, h.us, h.sum, h.mw, h.B, h.lim⟩
/-- Another root. -/
theorem Rr.setRoot (h : Rr c w s N) (n : Nat) {x : Nat} (hsp : Sp w' c.B c.sb c.rb s.lv s.L (s.ro.set n x) c.lim s.us) (hs : w.heap.size ≤ w'.heap.size) (hx : x = 0 ∨ Rch (gR s) s.ro x) : Rr c w' { s with ro := s.ro.set n x } N := by
  refine ⟨hsp, h.t0, fun y hy => ?_, h.okL, h.len, h.N, h.us, h.sum, fun m hm => ?_, Nat.le_trans h.B hs, h.lim⟩
  · rcases mem_set_sub hy with h1 | h1
    · exact h.okr y h1
    · rw [h1, List.length_map]
      rcases hx with h2 | h2
      · rw [h2]; exact h.pos
      · exact h.rlt h2
  · obtain ⟨m0, hm0, hle⟩ := h.wds
    refine Nat.le_trans (hm0.le hm (fun a ha => ⟨Rch.mono ha (fun b hb hn => ?_), rfl⟩)) hle
    rcases mem_set_sub hb with h1 | h1
    · exact .root h1 hn
    · rcases hx with h2 | h2
      · exact absurd (h1.trans h2) hn
      · rw [h1]; exact h2
theorem gR_set (s : RSt) (x : Nat) (y : Tv) (hx : x < s.L.length) (lv : Value) (us : Nat) (ro : List Nat) : gR ⟨lv, s.L.set x y, ro, us⟩ = (gR s).upd x (y.t.refs, y.t.words) := by
  unfold gR grS Gr.upd
  congr 1
  funext k
  simp only [List.getElem?_map, List.getElem?_set]
  by_cases hk : k = x
  · subst hk; simp [hx]
  · rw [if_neg (fun e => hk e.symm), if_neg hk]
/-- A thing is another, of the same sizes. -/
theorem Rr.setThing (h : Rr c w s N) {x : Nat} (hx : x < s.L.length) (y : Tv) (hsp : Sp w' c.B c.sb c.rb s.lv (s.L.set x y) s.ro c.lim s.us) (hs : w.heap.size ≤ w'.heap.size) (hx0 : x ≠ 0) (hxr : Rch (gR s) s.ro x) (h1 : y.t.refs.length = (s.L[x]).t.refs.length) (h2 : y.t.words.length = (s.L[x]).t.words.length) (h3 : ∀ z ∈ y.t.refs, z = 0 ∨ Rch (gR s) s.ro z ∨ z < s.L.length ∧ z ∈ (s.L[x]).t.refs) : Rr c w' { s with L := s.L.set x y } N := by
  have hat : (gR s).at_ x = some ((s.L[x]).t.refs, (s.L[x]).t.words) := by rw [gR_at, List.getElem?_eq_getElem hx]; rfl
  have hr : ∀ z ∈ y.t.refs, z ≠ 0 → Rch (gR s) s.ro z := fun z hz hn => by
    rcases h3 z hz with e | e | ⟨_, e⟩
    · exact absurd e hn
    · exact e
    · exact .step hxr hat e hn
  have hsz : szT y.t = szT (s.L[x]).t := by unfold szT; rw [h1, h2]
  refine ⟨hsp, ?_, fun z hz => ?_, ⟨fun t ht z hz => ?_⟩, by show (s.L.set x y).length ≤ _; rw [List.length_set]; exact h.len, h.N, h.us, ?_, fun m hm => ?_, Nat.le_trans h.B hs, h.lim⟩
  · obtain ⟨u, hu, e⟩ := h.t0
    refine ⟨u, ?_, e⟩
    show (s.L.set x y)[0]? = some u
    rw [List.getElem?_set_ne hx0]; exact hu
  · have := h.okr z hz
    rw [List.length_map] at this ⊢
    show z < (s.L.set x y).length
    rw [List.length_set]; exact this
  · have ht : t ∈ (s.L.set x y).map Tv.t := ht
    have hlen : ((s.L.set x y).map Tv.t).length = s.L.length := by simp
    show z < ((s.L.set x y).map Tv.t).length
    rw [hlen]
    obtain ⟨u, hu, rfl⟩ := List.mem_map.1 ht
    rcases mem_set_sub hu with e | e
    · have := h.okL.refs u.t (List.mem_map.2 ⟨u, e, rfl⟩) z hz
      rw [List.length_map] at this; exact this
    · rw [e] at hz
      rcases h3 z hz with e2 | e2 | ⟨e2, _⟩
      · rw [e2]; exact h.pos
      · exact h.rlt e2
      · exact e2
  · show ((s.L.set x y).map fun x => szT x.t).sum ≤ s.us + 2 * (s.L.set x y).length
    rw [List.length_set]
    have e : (s.L.set x y).map (fun x => szT x.t) = s.L.map (fun x => szT x.t) := by
      apply List.ext_getElem?
      intro i
      rw [List.getElem?_map, List.getElem?_map, List.getElem?_set]
      by_cases hi : x = i
      · subst hi; rw [if_pos rfl, if_pos hx, List.getElem?_eq_getElem hx]; simp [hsz]
      · rw [if_neg hi]
    rw [e]; exact h.sum
  · obtain ⟨m0, hm0, hle⟩ := h.wds
    have e : gR { s with L := s.L.set x y } = (gR s).upd x (y.t.refs, y.t.words) := gR_set s x y hx _ _ _
    have hm : Wds (gR { s with L := s.L.set x y }) s.ro m := hm
    rw [e] at hm
    refine Nat.le_trans (hm0.le hm (fun a ha => ⟨Rch.of_upd hr ha, ?_⟩)) hle
    unfold szG
    by_cases hax : a = x
    · subst hax
      rw [upd_same, hat]
      simp [h1, h2]
    · rw [upd_ne _ _ hax]
/-- The reference's numbers as the graph's. -/
theorem Rr.nrefs (h : Rr c w s N) (k : Int) : Rs.nrefs s.L s.ro k = (refsG (gR s) s.ro k).length := by
  obtain ⟨x0, hx0, ht0⟩ := h.t0
  unfold Rs.nrefs refsG rootG
  by_cases hk : at16 k = true
  · rw [if_pos hk, if_pos hk]
    have e : s.ro.getD k.toNat (gR s).z = s.ro.getD k.toNat 0 := rfl
    rw [e, gR_at]
    by_cases h0 : s.ro.getD k.toNat 0 = 0
    · rw [if_pos h0, h0, hx0]; simp [ht0]
    · rw [if_neg h0]
      cases s.L[s.ro.getD k.toNat 0]? with
      | none => rfl
      | some y => rfl
  · rw [if_neg hk, if_neg hk]; rfl
theorem Rr.nwords (h : Rr c w s N) (k : Int) : Rs.nwords s.L s.ro k = (wordsG (gR s) s.ro k).length := by
  obtain ⟨x0, hx0, ht0⟩ := h.t0
  unfold Rs.nwords wordsG rootG
  by_cases hk : at16 k = true
  · rw [if_pos hk, if_pos hk]
    have e : s.ro.getD k.toNat (gR s).z = s.ro.getD k.toNat 0 := rfl
    rw [e, gR_at]
    by_cases h0 : s.ro.getD k.toNat 0 = 0
    · rw [if_pos h0, h0, hx0]; simp [ht0]
    · rw [if_neg h0]
      cases s.L[s.ro.getD k.toNat 0]? with
      | none => rfl
      | some y => rfl
  · rw [if_neg hk, if_neg hk]; rfl
theorem gR_parts {s : RSt} {n x : Nat} (hn : n < 16) (he : s.ro.getD n 0 = x) (hx : x < s.L.length) : rootG (gR s) s.ro (n : Int) = x ∧ refsG (gR s) s.ro (n : Int) = (s.L[x]).t.refs ∧ wordsG (gR s) s.ro (n : Int) = (s.L[x]).t.words := by
  have ha : at16 (n : Int) = true := by unfold at16; simp; omega
  have er : rootG (gR s) s.ro (n : Int) = x := he
  refine ⟨er, ?_, ?_⟩
  · unfold refsG
    rw [if_pos ha, er, gR_at, List.getElem?_eq_getElem hx]; rfl
  · unfold wordsG
    rw [if_pos ha, er, gR_at, List.getElem?_eq_getElem hx]; rfl
end
end Rs
end Go.Proofs.Ytaapakpanbfmlaa

namespace Go.Proofs.Ytaapakpanbfmlaa
namespace Rs
open Go.RowKit Hp
set_option linter.unusedVariables false
set_option linter.unusedSimpArgs false
/-- What a step of the reference leaves. -/
def ROk (c : Cr) (w : World) (s : RSt) (N : Nat) (op : Opn) (mk : Int × Int → Ending) (e : Ending) (w' : World) : Prop := ∃ ans s', e = mk ans ∧ Rr c w' s' N ∧ EvR c w s w' s' ∧ Eff c.lim op (gR s) s.ro ans (gR s') s'.ro
section
variable {c : Cr} {w : World} {s : RSt} {N : Nat}
theorem fp_rb (c : Cr) (s : RSt) : ∀ b ∈ [c.rb], b ∈ s.fp c := fun b hb => by
  rw [List.mem_singleton.1 hb]; unfold RSt.fp Sp.fp; simp
theorem fp_tb (c : Cr) (s : RSt) : ∀ b ∈ tblocks s.L, b ∈ s.fp c := fun b hb => by
  unfold RSt.fp Sp.fp; simp [hb]
theorem Rr.root (h : Rr c w s N) (n : Nat) : s.ro.getD n 0 = 0 ∨ Rch (gR s) s.ro (s.ro.getD n 0) := by
  by_cases h0 : s.ro.getD n 0 = 0
  · exact .inl h0
  · right
    refine .root ?_ h0
    rw [List.getD_eq_getElem?_getD] at h0 ⊢
    cases he : s.ro[n]? with
    | none => rw [he] at h0; exact absurd rfl h0
    | some x => exact List.mem_of_getElem? he
theorem qdrop (h : Rr c w s N) (k : Int) : Calls Try.prog 21 #[.pointer (some ⟨c.sb, 0, none⟩), .int .i64 k] w (ROk c w s N (.drop k) mkE) := by
  refine (rdrop_any k w h.sp).mono ?_
  rintro e w' ⟨rfl, hf, hsp⟩
  by_cases hk : at16 k = true
  · rw [if_pos hk] at hsp ⊢
    exact ⟨(0, 0), _, rfl, h.setRoot k.toNat hsp hf.size (.inl rfl), EvR.of hf (fp_rb c s) (fun b hb => .inl hb), rfl, by rw [if_pos hk]; exact ⟨rfl, rfl⟩⟩
  · rw [if_neg hk] at hsp ⊢
    exact ⟨(0, 7), s, rfl, h.ofSp hsp hf.size, EvR.of hf (fp_rb c s) (fun b hb => .inl hb), rfl, by rw [if_neg hk]; exact ⟨rfl, rfl⟩⟩
theorem qcopy (h : Rr c w s N) (a b : Int) : Calls Try.prog 19 #[.pointer (some ⟨c.sb, 0, none⟩), .int .i64 a, .int .i64 b] w (ROk c w s N (.copy a b) mkE) := by
  refine (rcopy_any a b w h.sp).mono ?_
  rintro e w' ⟨rfl, hf, hsp⟩
  by_cases hk : at16 a = true ∧ at16 b = true
  · have hk' : (at16 a && at16 b) = true := by rw [hk.1, hk.2]; rfl
    rw [if_pos hk'] at hsp ⊢
    exact ⟨(0, 0), _, rfl, h.setRoot a.toNat hsp hf.size (h.root _), EvR.of hf (fp_rb c s) (fun b hb => .inl hb), rfl, by rw [if_pos hk]; exact ⟨rfl, rfl⟩⟩
  · have hk' : ¬ (at16 a && at16 b) = true := fun e => hk (by simpa using e)
    rw [if_neg hk'] at hsp ⊢
    exact ⟨(0, 7), s, rfl, h.ofSp hsp hf.size, EvR.of hf (fp_rb c s) (fun b hb => .inl hb), rfl, by rw [if_neg hk]; exact ⟨rfl, rfl⟩⟩
theorem qsame (h : Rr c w s N) (a b : Int) : Calls Try.prog 27 #[.pointer (some ⟨c.sb, 0, none⟩), .int .i64 a, .int .i64 b] w (ROk c w s N (.same a b) mkS) := by
  refine (rsame_any a b w h.sp).mono ?_
  rintro e w' ⟨rfl, hf, hsp⟩
  by_cases hk : at16 a = true ∧ at16 b = true
  · have hk' : (at16 a && at16 b) = true := by rw [hk.1, hk.2]; rfl
    rw [if_pos hk', hk', Bool.true_and]
    refine ⟨((if rootG (gR s) s.ro a = rootG (gR s) s.ro b then 1 else 0), 0), s, ?_, h.ofSp hsp hf.size, EvR.of hf (by simp) (fun b hb => .inl hb), rfl, rfl, by rw [if_pos hk]⟩
    unfold mkS
    have e : rootG (gR s) s.ro a = s.ro.getD a.toNat 0 := rfl
    have e' : rootG (gR s) s.ro b = s.ro.getD b.toNat 0 := rfl
    rw [e, e']
    by_cases he : s.ro.getD a.toNat 0 = s.ro.getD b.toNat 0
    · simp [he]
    · simp only [if_neg he, decide_eq_false he]; rfl
  · have hk' : (at16 a && at16 b) = false := by
      cases h1 : at16 a && at16 b with
      | false => rfl
      | true => exact absurd (by simpa using h1) hk
    rw [hk', if_neg (by simp), Bool.false_and]
    exact ⟨(0, 7), s, rfl, h.ofSp hsp hf.size, EvR.of hf (by simp) (fun b hb => .inl hb), rfl, rfl, by rw [if_neg hk]⟩
theorem okr' (h : Rr c w s N) : ∀ x ∈ s.ro, x < s.L.length := fun x hx => by have := h.okr x hx; rwa [List.length_map] at this
theorem qword (h : Rr c w s N) (a k : Int) : Calls Try.prog 26 #[.pointer (some ⟨c.sb, 0, none⟩), .int .i64 a, .int .i64 k] w (ROk c w s N (.word a k) mkW) := by
  refine (rword_any a k w h.sp (okr' h)).mono ?_
  rintro e w' ⟨hf, hsp, ⟨hno, rfl⟩ | ⟨n, x, f, hx, rfl, hn, hr, rfl, hfl, rfl⟩⟩
  · refine ⟨(0, 7), s, rfl, h.ofSp hsp hf.size, EvR.of hf (by simp) (fun b hb => .inl hb), rfl, rfl, ?_⟩
    rw [h.nwords] at hno
    rw [if_neg]
    intro e; unfold inG at e; simp at e; exact hno e
  · obtain ⟨p1, p2, p3⟩ := gR_parts hn hr hx
    refine ⟨((((s.L[x]).t.words.getD f 0 : Nat) : Int), 0), s, rfl, h.ofSp hsp hf.size, EvR.of hf (by simp) (fun b hb => .inl hb), rfl, rfl, ?_⟩
    rw [p3, if_pos (by unfold inG; simp; exact hfl)]
    simp
theorem qget (h : Rr c w s N) (t0 a k : Int) : Calls Try.prog 24 #[.pointer (some ⟨c.sb, 0, none⟩), .int .i64 t0, .int .i64 a, .int .i64 k] w (ROk c w s N (.get t0 a k) mkE) := by
  refine (rget_any t0 a k w h.sp (okr' h)).mono ?_
  rintro e w' (⟨hno, rfl, hf, hsp⟩ | ⟨n, m, x, f, hx, rfl, hn, hr, rfl, hm, rfl, hfl, rfl, hf, hsp⟩)
  · refine ⟨(0, 7), s, rfl, h.ofSp hsp hf.size, EvR.of hf (by simp) (fun b hb => .inl hb), rfl, ?_⟩
    rw [h.nrefs] at hno
    rw [if_neg]
    · exact ⟨rfl, rfl⟩
    · rintro ⟨e1, e2⟩; unfold inG at e2; simp at e2; exact hno ⟨e2.1, e2.2, e1⟩
  · obtain ⟨p1, p2, p3⟩ := gR_parts hn hr hx
    have ha : at16 (m : Int) = true := by unfold at16; simp; omega
    have hx0 : x ≠ 0 := fun e => by
      obtain ⟨u, hu, ht⟩ := h.t0
      subst e
      rw [List.getElem?_eq_getElem hx] at hu
      rw [Option.some.inj hu, ht] at hfl; simp at hfl
    have hxr : Rch (gR s) s.ro x := by
      rcases h.root n with e | e
      · rw [hr] at e; exact absurd e hx0
      · rw [hr] at e; exact e
    have hat : (gR s).at_ x = some ((s.L[x]).t.refs, (s.L[x]).t.words) := by rw [gR_at, List.getElem?_eq_getElem hx]; rfl
    refine ⟨(0, 0), { s with ro := s.ro.set m ((s.L[x]).t.refs.getD f 0) }, rfl, h.setRoot m hsp hf.size ?_, EvR.of hf (fp_rb c s) (fun b hb => .inl hb), rfl, ?_⟩
    · by_cases hz : (s.L[x]).t.refs.getD f 0 = 0
      · exact .inl hz
      · refine .inr (.step hxr hat ?_ hz)
        rw [List.getD_eq_getElem?_getD, List.getElem?_eq_getElem hfl]; exact List.getElem_mem hfl
    · rw [p2, if_pos ⟨ha, by unfold inG; simp; exact hfl⟩]
      exact ⟨rfl, rfl⟩
theorem fp_set {s : RSt} {x : Nat} {y : Tv} (hx : x < s.L.length) (e1 : y.rv = (s.L[x]).rv) (e2 : y.wv = (s.L[x]).wv) : RSt.fp c { s with L := s.L.set x y } = s.fp c := by
  unfold RSt.fp Sp.fp tblocks
  rw [flat_set _ s.L x y hx (by rw [e1, e2])]
theorem qput (h : Rr c w s N) (a k f : Int) : Calls Try.prog 22 #[.pointer (some ⟨c.sb, 0, none⟩), .int .i64 a, .int .i64 k, .int .i64 f] w (ROk c w s N (.put a k f) mkE) := by
  refine (rput_any a k f w h.sp (okr' h)).mono ?_
  rintro e w' (⟨hno, rfl, hf, hsp⟩ | ⟨n, m, x, f, hx, rfl, hn, hr, rfl, hm, rfl, hfl, rfl, hf, hsp⟩)
  · refine ⟨(0, 7), s, rfl, h.ofSp hsp hf.size, EvR.of hf (by simp) (fun b hb => .inl hb), rfl, ?_⟩
    rw [h.nrefs] at hno
    rw [if_neg]
    · exact ⟨rfl, rfl⟩
    · rintro ⟨e1, e2⟩; unfold inG at e2; simp at e2; exact hno ⟨e2.1, e2.2, e1⟩
  · obtain ⟨p1, p2, p3⟩ := gR_parts hn hr hx
    have ha : at16 (m : Int) = true := by unfold at16; simp; omega
    have hx0 : x ≠ 0 := fun e => by
      obtain ⟨u, hu, ht⟩ := h.t0
      subst e
      rw [List.getElem?_eq_getElem hx] at hu
      rw [Option.some.inj hu, ht] at hfl; simp at hfl
    have hxr : Rch (gR s) s.ro x := by
      rcases h.root n with e | e
      · rw [hr] at e; exact absurd e hx0
      · rw [hr] at e; exact e
    refine ⟨(0, 0), _, rfl, h.setThing hx _ hsp hf.size hx0 hxr (by simp [Tv.withRefs]) rfl (fun z hz => ?_), EvR.of hf (fp_tb c s) (fun b hb => .inl ?_), rfl, ?_⟩
    · have hz : z ∈ (s.L[x]).t.refs.set f (s.ro.getD m 0) := hz
      rcases mem_set_sub hz with e | e
      · refine .inr (.inr ⟨?_, e⟩)
        have := h.okL.refs (s.L[x]).t (List.mem_map.2 ⟨_, List.getElem_mem hx, rfl⟩) z e
        rwa [List.length_map] at this
      · rw [e]
        exact (h.root m).imp id (fun e => .inl e)
    · have e := fp_set (c := c) (y := (s.L[x]).withRefs ((s.L[x]).t.refs.set f (s.ro.getD m 0))) hx rfl rfl
      rw [e] at hb; exact hb
    · rw [p1, p2, p3, if_pos ⟨ha, by unfold inG; simp; exact hfl⟩]
      refine ⟨rfl, ?_⟩
      rw [gR_set s x _ hx]
      rfl
theorem qset (h : Rr c w s N) (a k : Int) (z : Nat) : Calls Try.prog 25 #[.pointer (some ⟨c.sb, 0, none⟩), .int .i64 a, .int .i64 k, .int .u64 (z : Int)] w (ROk c w s N (.set a k z) mkE) := by
  refine (rset_any a k z w h.sp (okr' h)).mono ?_
  rintro e w' (⟨hno, rfl, hf, hsp⟩ | ⟨n, x, f, hx, rfl, hn, hr, rfl, hfl, rfl, hf, hsp⟩)
  · refine ⟨(0, 7), s, rfl, h.ofSp hsp hf.size, EvR.of hf (by simp) (fun b hb => .inl hb), rfl, ?_⟩
    rw [h.nwords] at hno
    rw [if_neg]
    · exact ⟨rfl, rfl⟩
    · intro e2; unfold inG at e2; simp at e2; exact hno e2
  · obtain ⟨p1, p2, p3⟩ := gR_parts hn hr hx
    have hx0 : x ≠ 0 := fun e => by
      obtain ⟨u, hu, ht⟩ := h.t0
      subst e
      rw [List.getElem?_eq_getElem hx] at hu
      rw [Option.some.inj hu, ht] at hfl; simp at hfl
    have hxr : Rch (gR s) s.ro x := by
      rcases h.root n with e | e
      · rw [hr] at e; exact absurd e hx0
      · rw [hr] at e; exact e
    refine ⟨(0, 0), _, rfl, h.setThing hx _ hsp hf.size hx0 hxr rfl (by simp [Tv.withWords]) (fun y hy => ?_), EvR.of hf (fp_tb c s) (fun b hb => .inl ?_), rfl, ?_⟩
    · have hy : y ∈ (s.L[x]).t.refs := hy
      refine .inr (.inr ⟨?_, hy⟩)
      have := h.okL.refs (s.L[x]).t (List.mem_map.2 ⟨_, List.getElem_mem hx, rfl⟩) y hy
      rwa [List.length_map] at this
    · have e := fp_set (c := c) (y := (s.L[x]).withWords ((s.L[x]).t.words.set f z)) hx rfl rfl
      rw [e] at hb; exact hb
    · rw [p1, p2, p3, if_pos (by unfold inG; simp; exact hfl)]
      refine ⟨rfl, ?_⟩
      rw [gR_set s x _ hx]
      rfl
end
end Rs
end Go.Proofs.Ytaapakpanbfmlaa

namespace Go.Proofs.Ytaapakpanbfmlaa
namespace Rs
open Go.RowKit Hp
set_option linter.unusedVariables false
set_option linter.unusedSimpArgs false
section
variable {c : Cr} {w w' : World} {s : RSt} {N : Nat}
/-- What was swept. -/
def RSt.swept (s : RSt) (seen : List Bool) : RSt := ⟨s.lv, sweep seen s.L.length s.L, s.ro, used (s.L.map Tv.t) seen⟩
theorem swept_at (h : Rr c w s N) {seen : List Bool} (hd : Dfs (s.L.map Tv.t) s.ro seen []) {k : Nat} (hk : Rch (gR s) s.ro k) : (gR (s.swept seen)).at_ k = (gR s).at_ k := by
  have h1 := (hd.done k).2 hk
  rw [gR_at, gR_at]
  show ((sweep seen s.L.length s.L)[k]?).map _ = _
  rw [sweep_get, Option.map_map]
  congr 1
  funext x
  have e : (if k < s.L.length ∧ seen.getD k false = false then dead else x) = x := if_neg (fun e => by rw [h1] at e; cases e.2)
  simp only [Function.comp, e]
theorem swept_iso (h : Rr c w s N) {seen : List Bool} (hd : Dfs (s.L.map Tv.t) s.ro seen []) : Iso (gR s) s.ro (gR (s.swept seen)) s.ro id :=
  h.isoRefl.to_congr rfl (fun b hb => swept_at h hd hb)
theorem swept_sum (seen : List Bool) : ∀ (L : List Tv) , ((sweep seen L.length L).map fun x => szT x.t).sum ≤ used (L.map Tv.t) seen + 2 * L.length := by
  intro L
  have e1 : (sweep seen L.length L).map (fun x => szT x.t) = (List.range L.length).map (fun k => if seen.getD k false = true then ((L[k]?).map (fun x => szT x.t)).getD 0 else 2) := by
    apply List.ext_getElem?
    intro i
    rw [List.getElem?_map, sweep_get, List.getElem?_map]
    by_cases hi : i < L.length
    · rw [List.getElem?_eq_getElem hi, List.getElem?_range hi]
      simp only [Option.map_some, List.getElem?_eq_getElem hi, Option.getD_some]
      cases hs : seen.getD i false with
      | true => simp
      | false => simp [hi]; rfl
    · rw [List.getElem?_eq_none (by omega), List.getElem?_eq_none (by simp; omega)]; rfl
  rw [e1]
  unfold used
  rw [List.length_map]
  have key : ∀ l : List Nat, (l.map (fun k => if seen.getD k false = true then ((L[k]?).map (fun x => szT x.t)).getD 0 else 2)).sum ≤ (l.map fun k => if seen.getD k false = true then (((L.map Tv.t)[k]?).map szT).getD 0 else 0).sum + 2 * l.length := by
    intro l
    induction l with
    | nil => simp
    | cons a l ih =>
      rw [List.map_cons, List.sum_cons, List.map_cons, List.sum_cons, List.length_cons]
      have : (if seen.getD a false = true then ((L[a]?).map (fun x => szT x.t)).getD 0 else 2) ≤ (if seen.getD a false = true then (((L.map Tv.t)[a]?).map szT).getD 0 else 0) + 2 := by
        rw [List.getElem?_map, Option.map_map]
        split
        · have : ((L[a]?).map (fun x => szT x.t)) = ((L[a]?).map (szT ∘ Tv.t)) := rfl
          rw [this]; omega
        · omega
      omega
  have := key (List.range L.length)
  rw [List.length_range] at this
  exact this
theorem Rr.swept (h : Rr c w s N) {seen : List Bool} (hd : Dfs (s.L.map Tv.t) s.ro seen []) (hsp : Sp w' c.B c.sb c.rb s.lv (sweep seen s.L.length s.L) s.ro c.lim (used (s.L.map Tv.t) seen)) (hs : w.heap.size ≤ w'.heap.size) : Rr c w' (s.swept seen) N := by
  have hlen : (sweep seen s.L.length s.L).length = s.L.length := sweep_len _ _ _
  refine ⟨hsp, ?_, fun x hx => ?_, ⟨fun t ht z hz => ?_⟩, by show (sweep seen s.L.length s.L).length ≤ _; rw [hlen]; exact h.len, h.N, Nat.le_trans (h.mw _ hd.wds) h.us, ?_, fun m hm => ?_, Nat.le_trans h.B hs, h.lim⟩
  · refine ⟨dead, ?_, rfl⟩
    show (sweep seen s.L.length s.L)[0]? = some dead
    rw [sweep_get, List.getElem?_eq_getElem h.pos]
    simp only [Option.map_some]
    rw [if_pos ⟨h.pos, hd.zero⟩]
  · have := h.okr x hx
    rw [List.length_map] at this ⊢
    show x < (sweep seen s.L.length s.L).length
    rw [hlen]; exact this
  · have ht : t ∈ (sweep seen s.L.length s.L).map Tv.t := ht
    show z < ((sweep seen s.L.length s.L).map Tv.t).length
    rw [List.length_map, hlen]
    obtain ⟨u, hu, rfl⟩ := List.mem_map.1 ht
    obtain ⟨i, hi⟩ := List.mem_iff_getElem?.1 hu
    rw [sweep_get] at hi
    obtain ⟨x, hx, e⟩ := Option.map_eq_some_iff.1 hi
    split at e
    · subst e; cases hz
    · subst e
      have := h.okL.refs x.t (List.mem_map.2 ⟨x, List.mem_of_getElem? hx, rfl⟩) z hz
      rwa [List.length_map] at this
  · show ((sweep seen s.L.length s.L).map fun x => szT x.t).sum ≤ used (s.L.map Tv.t) seen + 2 * (sweep seen s.L.length s.L).length
    rw [hlen]
    exact swept_sum seen s.L
  · have hm : Wds (gR (s.swept seen)) s.ro m := hm
    show m ≤ used (s.L.map Tv.t) seen
    refine hd.wds.le hm (fun a ha => ?_)
    have hr : Rch (gR s) s.ro a := Rch.congr (g := gR s) (g' := gR (s.swept seen)) rfl (fun b hb => swept_at h hd hb) ha
    refine ⟨hr, ?_⟩
    have e := swept_at h hd hr
    unfold szG
    rw [e]; rfl
theorem swept_fp (seen : List Bool) : ∀ b ∈ (s.swept seen).fp c, b ∈ s.fp c := by
  intro b hb
  unfold RSt.fp Sp.fp RSt.swept at hb
  unfold RSt.fp Sp.fp
  simp only [List.mem_cons, List.mem_append] at hb ⊢
  rcases hb with h | h | h | h
  · exact .inl h
  · exact .inr (.inl h)
  · exact .inr (.inr (.inl h))
  · refine .inr (.inr (.inr ?_))
    unfold tblocks at h ⊢
    obtain ⟨x, hx, hb⟩ := List.mem_flatMap.1 h
    obtain ⟨i, hi⟩ := List.mem_iff_getElem?.1 hx
    rw [sweep_get] at hi
    obtain ⟨y, hy, e⟩ := Option.map_eq_some_iff.1 hi
    split at e
    · subst e; simp [dead, Value.ownBlock] at hb
    · subst e; exact List.mem_flatMap.2 ⟨y, List.mem_of_getElem? hy, hb⟩
theorem Rr.bounds (h : Rr c w s N) : left (s.L.map Tv.t) (List.replicate (s.L.map Tv.t).length false) s.ro ≤ 1073741824 ∧ (s.L.map fun x => szT x.t).sum ≤ 16777216 ∧ s.L.length ≤ 16777216 := by
  have h1 := h.sum
  have h2 := h.len
  have h3 := h.N
  have h4 := h.us
  have h5 := h.lim
  refine ⟨?_, by omega, by omega⟩
  unfold left
  have hc : ((List.range (s.L.map Tv.t).length).map (cnt (s.L.map Tv.t) (List.replicate (s.L.map Tv.t).length false))).sum ≤ (s.L.map fun x => szT x.t).sum := by
    have e : (List.range (s.L.map Tv.t).length).map (cnt (s.L.map Tv.t) (List.replicate (s.L.map Tv.t).length false)) = s.L.map (fun x => x.t.refs.length) := by
      apply List.ext_getElem?
      intro i
      rw [List.getElem?_map, List.getElem?_map, List.length_map]
      by_cases hi : i < s.L.length
      · rw [List.getElem?_range hi, List.getElem?_eq_getElem hi]
        simp only [Option.map_some]
        unfold cnt
        have hf : (List.replicate s.L.length false).getD i false = false := by
          rw [List.getD_eq_getElem?_getD, List.getElem?_replicate]; split <;> rfl
        rw [hf]
        simp [List.getElem?_map, List.getElem?_eq_getElem hi]
      · rw [List.getElem?_eq_none (by simp; omega), List.getElem?_eq_none (by omega)]; rfl
    rw [e]
    have : ∀ l : List Tv, (l.map (fun x => x.t.refs.length)).sum ≤ (l.map fun x => szT x.t).sum := by
      intro l
      induction l with
      | nil => simp
      | cons a l ih =>
        rw [List.map_cons, List.sum_cons, List.map_cons, List.sum_cons]
        have : a.t.refs.length ≤ szT a.t := by unfold szT; omega
        omega
    exact this _
  have := h.sp.rl
  omega
theorem fp_slv (c : Cr) (s : RSt) : ∀ b ∈ c.sb :: s.lv.ownBlock.toList, b ∈ s.fp c := fun b hb => by
  unfold RSt.fp Sp.fp
  rcases List.mem_cons.1 hb with h | h
  · rw [h]; simp
  · exact List.mem_cons_of_mem _ (List.mem_cons_of_mem _ (List.mem_append_left _ h))
theorem fp_srlv (c : Cr) (s : RSt) : ∀ b ∈ c.sb :: c.rb :: s.lv.ownBlock.toList, b ∈ s.fp c := fun b hb => by
  unfold RSt.fp Sp.fp
  rcases List.mem_cons.1 hb with h | h
  · rw [h]; simp
  · rcases List.mem_cons.1 h with h | h
    · rw [h]; simp
    · exact List.mem_cons_of_mem _ (List.mem_cons_of_mem _ (List.mem_append_left _ h))
theorem qmajor (h : Rr c w s N) : Calls Try.prog 8 #[.pointer (some ⟨c.sb, 0, none⟩)] w (ROk c w s N .major mkC) := by
  obtain ⟨b1, b2, b3⟩ := h.bounds
  refine (major_any w h.sp h.okr h.okL (by omega) b1 (by omega)).mono ?_
  rintro e w' ⟨seen, rfl, hf, hsp, hd⟩
  exact ⟨_, s.swept seen, rfl, h.swept hd hsp hf.size, EvR.of hf (fp_slv c s) (fun b hb => .inl (swept_fp seen b hb)), _, hd.wds, rfl, id, swept_iso h hd⟩
/-- A thing more. -/
def RSt.made (s : RSt) (lv' : Value) (x : Tv) (n sz : Nat) : RSt := ⟨lv', s.L ++ [x], s.ro.set n s.L.length, s.us + sz⟩
theorem gR_made (s : RSt) (lv' : Value) (x : Tv) (n sz : Nat) : gR (s.made lv' x n sz) = (gR s).upd s.L.length (x.t.refs, x.t.words) := by
  unfold gR grS Gr.upd RSt.made
  congr 1
  funext k
  simp only [List.map_append, List.map_cons, List.map_nil]
  by_cases hk : k = s.L.length
  · subst hk; simp
  · rw [if_neg hk]
    by_cases hlt : k < s.L.length
    · rw [List.getElem?_append_left (by simp; exact hlt)]
    · rw [List.getElem?_append_right (by simp; omega), List.getElem?_eq_none (by simp; omega), List.getElem?_eq_none (by simp; omega)]
theorem rch_made (h : Rr c w s N) {r q n : Nat} {a : Nat} (ha : Rch ((gR s).upd s.L.length (List.replicate r 0, List.replicate q 0)) (s.ro.set n s.L.length) a) : a = s.L.length ∨ Rch (gR s) s.ro a := by
  induction ha with
  | root h1 h2 =>
    rcases mem_set_sub h1 with e | e
    · exact .inr (.root e h2)
    · exact .inl e
  | step h1 h2 h3 h4 ih =>
    rename_i a0 b0 rs ws
    rcases ih with e | e
    · subst e
      rw [upd_same] at h2
      have h2 := Option.some.inj h2
      rw [← (Prod.mk.inj h2).1] at h3
      exact absurd (List.eq_of_mem_replicate h3) h4
    · have hl := h.rlt e
      rw [upd_ne _ _ (by omega)] at h2
      exact .inr (.step e h2 h3 h4)
theorem Rr.made (h : Rr c w s N) {lv' : Value} {x : Tv} {n r q : Nat} (hN : N < 32768) (hx : x.t = fresh r q) (hus : s.us + (2 + r + q) ≤ c.lim) (hsp : Sp w' c.B c.sb c.rb lv' (s.L ++ [x]) (s.ro.set n s.L.length) c.lim (s.us + (2 + r + q))) (hB : c.B ≤ w'.heap.size) : Rr c w' (s.made lv' x n (2 + r + q)) (N + 1) := by
  have hlen : (s.L ++ [x]).length = s.L.length + 1 := by simp
  have hg : gR (s.made lv' x n (2 + r + q)) = (gR s).upd s.L.length (List.replicate r 0, List.replicate q 0) := by rw [gR_made, hx]; rfl
  refine ⟨hsp, ?_, fun y hy => ?_, ⟨fun t ht z hz => ?_⟩, by show (s.L ++ [x]).length ≤ _; rw [hlen]; have := h.len; omega, by omega, hus, ?_, fun m hm => ?_, hB, h.lim⟩
  · obtain ⟨u, hu, e⟩ := h.t0
    refine ⟨u, ?_, e⟩
    show (s.L ++ [x])[0]? = some u
    rw [List.getElem?_append_left h.pos]; exact hu
  · rw [List.length_map]
    show y < (s.L ++ [x]).length
    rw [hlen]
    rcases mem_set_sub hy with e | e
    · have := h.okr y e; rw [List.length_map] at this; omega
    · omega
  · have ht : t ∈ (s.L ++ [x]).map Tv.t := ht
    show z < ((s.L ++ [x]).map Tv.t).length
    rw [List.length_map, hlen]
    obtain ⟨u, hu, rfl⟩ := List.mem_map.1 ht
    rcases List.mem_append.1 hu with e | e
    · have := h.okL.refs u.t (List.mem_map.2 ⟨u, e, rfl⟩) z hz
      rw [List.length_map] at this; omega
    · rw [List.mem_singleton.1 e, hx] at hz
      have hz : z ∈ List.replicate r 0 := hz
      have := List.eq_of_mem_replicate hz; omega
  · show ((s.L ++ [x]).map fun x => szT x.t).sum ≤ s.us + (2 + r + q) + 2 * (s.L ++ [x]).length
    rw [hlen, List.map_append, List.sum_append]
    have : szT x.t = 2 + r + q := by rw [hx]; unfold szT fresh; simp
    have := h.sum
    simp
    omega
  · obtain ⟨m0, hm0, hle⟩ := h.wds
    have hm : Wds (gR (s.made lv' x n (2 + r + q))) (s.ro.set n s.L.length) m := hm
    rw [hg] at hm
    have := hm0.le1 (z := 2 + r + q) (n := s.L.length) hm (fun a ha => by
      by_cases hal : a = s.L.length
      · left
        refine ⟨hal, ?_⟩
        unfold szG
        rw [hal, upd_same]; simp
      · rcases rch_made h ha with e | e
        · exact absurd e hal
        · right
          refine ⟨e, ?_⟩
          unfold szG
          rw [upd_ne _ _ hal])
    show m ≤ s.us + (2 + r + q)
    omega
theorem made_fp {s : RSt} {lv' : Value} {x : Tv} {n sz : Nat} (hn : NewB w.heap.size s.lv lv' x) : ∀ b ∈ (s.made lv' x n sz).fp c, b ∈ s.fp c ∨ w.heap.size ≤ b := by
  intro b hb
  unfold RSt.fp Sp.fp RSt.made at hb
  simp only [List.mem_cons, List.mem_append] at hb
  unfold RSt.fp Sp.fp
  simp only [List.mem_cons, List.mem_append]
  rcases hb with h | h | h | h
  · exact .inl (.inl h)
  · exact .inl (.inr (.inl h))
  · exact (hn.1 b h).imp (fun h => .inr (.inr (.inl h))) id
  · rw [tblocks_snoc] at h
    rcases List.mem_append.1 h with h | h
    · exact .inl (.inr (.inr (.inr h)))
    · exact .inr (hn.2 b h)
/-- Make, in a state that has room. -/
theorem eff_made (h : Rr c w s N) {lv' : Value} {x : Tv} {n r q : Nat} {g0 : Gr Nat} {ro0 : List Nat} {φ : Nat → Nat} {m : Nat} (hn : n < 16) (hx : x.t = fresh r q) (hw : Wds g0 ro0 m) (hm : m + (2 + r + q) ≤ c.lim) (i : Iso g0 ro0 (gR s) s.ro φ) : Eff c.lim (.make (n : Int) (r : Int) (q : Int)) g0 ro0 (0, 0) (gR (s.made lv' x n (2 + r + q))) (s.made lv' x n (2 + r + q)).ro := by
  have ha : at16 (n : Int) = true ∧ (0 : Int) ≤ (r : Int) ∧ (0 : Int) ≤ (q : Int) := ⟨by unfold at16; simp; omega, by omega, by omega⟩
  show if _ then _ else _
  rw [if_pos ha]
  refine ⟨m, hw, ?_⟩
  rw [if_pos (by simp; omega)]
  refine ⟨rfl, gR s, s.ro, φ, s.L.length, i, ?_, fun hr => ?_, ?_, rfl⟩
  · have := h.pos
    show s.L.length ≠ 0
    omega
  · have := h.rlt hr; omega
  · rw [gR_made, hx]; rfl
theorem qmake (h : Rr c w s N) (hN : N < 32768) (k r q : Int) : Calls Try.prog 17 #[.pointer (some ⟨c.sb, 0, none⟩), .int .i64 k, .int .i64 r, .int .i64 q] w (ROk c w s (N + 1) (.make k r q) mkE) := by
  by_cases ha : at16 k = true ∧ 0 ≤ r ∧ 0 ≤ q
  · obtain ⟨hk, hr, hq⟩ := ha
    have ha : at16 k = true ∧ 0 ≤ r ∧ 0 ≤ q := ⟨hk, hr, hq⟩
    obtain ⟨m0, hm0, hmle⟩ := h.wds
    have hlim := h.lim
    by_cases hb : (c.lim : Int) < r ∨ (c.lim : Int) < q
    · refine (rmake_great k r q w h.sp hk hr hq hb).mono ?_
      rintro e w' ⟨rfl, hf, hsp⟩
      refine ⟨(0, 28), s, rfl, (h.ofSp hsp hf.size).up hN, EvR.of hf (by simp) (fun b hb => .inl hb), ?_⟩
      show if _ then _ else _
      rw [if_pos ha]
      refine ⟨m0, hm0, ?_⟩
      rw [if_neg (by omega)]
      exact ⟨rfl, _, h.isoRefl⟩
    · obtain ⟨n, hn, rfl⟩ : ∃ n : Nat, n < 16 ∧ k = (n : Int) := by
        unfold at16 at hk; simp at hk; exact ⟨k.toNat, by omega, by omega⟩
      obtain ⟨r', rfl⟩ : ∃ r' : Nat, r = (r' : Int) := ⟨r.toNat, by omega⟩
      obtain ⟨q', rfl⟩ : ∃ q' : Nat, q = (q' : Int) := ⟨q.toNat, by omega⟩
      obtain ⟨b1, b2, b3⟩ := h.bounds
      by_cases hus : s.us + (2 + r' + q') ≤ c.lim
      · refine (rmake_room2 n r' q' w h.sp hn (by omega) (by omega) (by omega) hus b3 h.B).mono ?_
        rintro e w' ⟨lv', x, rfl, hx, hf, hsp, hnb⟩
        exact ⟨(0, 0), s.made lv' x n (2 + r' + q'), rfl, h.made hN hx hus hsp (Nat.le_trans h.B hf.size), EvR.of hf (fp_srlv c s) (made_fp hnb), eff_made h hn hx hm0 (by omega) h.isoRefl⟩
      · refine (rmake_full2 n r' q' w h.sp h.okr h.okL b1 b2 hn (by omega) (by omega) (by omega) (by have := h.us; omega) (by omega) b3 h.B).mono ?_
        rintro e w' ⟨seen, hd, ⟨hu, rfl, hf, hsp⟩ | ⟨hu, lv', x, rfl, hx, hf, hsp, hnb, w2, hsp2, hs2⟩⟩
        · have he := hm0.eq hd.wds
          refine ⟨(0, 28), s.swept seen, rfl, (h.swept hd hsp hf.size).up hN, EvR.of hf (fp_srlv c s) (fun b hb => .inl (swept_fp seen b hb)), ?_⟩
          show if _ then _ else _
          rw [if_pos ha]
          refine ⟨m0, hm0, ?_⟩
          rw [if_neg (by simp; omega)]
          exact ⟨rfl, id, swept_iso h hd⟩
        · have he := hm0.eq hd.wds
          have hsl : (sweep seen s.L.length s.L).length = s.L.length := sweep_len _ _ _
          have h2 := h.swept hd hsp2 hs2
          have hsp3 : Sp w' c.B c.sb c.rb lv' ((s.swept seen).L ++ [x]) ((s.swept seen).ro.set n (s.swept seen).L.length) c.lim ((s.swept seen).us + (2 + r' + q')) := by
            rw [show (s.swept seen).L.length = s.L.length from hsl]; exact hsp
          refine ⟨(0, 0), (s.swept seen).made lv' x n (2 + r' + q'), rfl, ?_, EvR.of hf (fp_srlv c s) (fun b hb => ?_), eff_made h2 hn hx hm0 (by omega) (swept_iso h hd)⟩
          · exact h2.made (lv' := lv') (x := x) (n := n) (w' := w') hN hx hu hsp3 (Nat.le_trans h.B hf.size)
          · rcases made_fp (c := c) (s := s.swept seen) (w := w) hnb b hb with e | e
            · exact .inl (swept_fp seen b e)
            · exact .inr e
  · refine (rmake_bad k r q w h.sp ha).mono ?_
    rintro e w' ⟨rfl, hf, hsp⟩
    refine ⟨(0, 7), s, rfl, (h.ofSp hsp hf.size).up hN, EvR.of hf (by simp) (fun b hb => .inl hb), ?_⟩
    show if _ then _ else _
    rw [if_neg ha]
    exact ⟨rfl, rfl, rfl⟩
end
end Rs
end Go.Proofs.Ytaapakpanbfmlaa

namespace Go.Proofs.Ytaapakpanbfmlaa
namespace Rs
open Go.RowKit Hp
set_option linter.unusedVariables false
set_option linter.unusedSimpArgs false
/-- The two, and blocks that belong to neither. -/
structure Pr (w0 w : World) (G : List Nat) (c : Cf) (s : St) (N : Nat) (c' : Cr) (s' : RSt) (N' : Nat) : Prop where
  ra : Re c w s N
  rb : Rr c' w s' N'
  ap : ∀ p, ∀ b ∈ s.bl c p, b ∉ s'.fp c'
  la : ∀ p, ∀ b ∈ s.bl c p, w0.heap.size ≤ b
  lb : ∀ b ∈ s'.fp c', w0.heap.size ≤ b
  fr : Below w0.heap.size w0 w
  kg : ∀ g ∈ G, g < w.heap.size ∧ (∀ p, g ∉ s.bl c p) ∧ g ∉ s'.fp c'
section
variable {w0 w w1 : World} {G : List Nat} {c : Cf} {s s1 : St} {N N' N1 : Nat} {c' : Cr} {s' s2 : RSt}
theorem Rr.lt (h : Rr c' w s' N') : ∀ b ∈ s'.fp c', b < w.heap.size := h.sp.below
theorem Pr.left (h : Pr w0 w G c s N c' s' N') (r : Re c w1 s1 N1) (e : Ev c w s w1 s1) : Pr w0 w1 G c s1 N1 c' s' N' ∧ ∀ g ∈ G, w1.heap[g]? = w.heap[g]? := by
  refine ⟨⟨r, h.rb.ofSp (h.rb.sp.kept (F := (List.range w.heap.size).filter (fun b => decide (b ∉ s'.fp c'))) ⟨e.os, e.tape, e.output, e.size, fun k hk hn => e.block k hk (fun p hp => hn (List.mem_filter.2 ⟨List.mem_range.2 hk, by simpa using h.ap p k hp⟩))⟩ (fun b hb hm => ?_)) e.size, fun p b hb hb' => ?_, fun p b hb => ?_, h.lb, h.fr.trans ⟨e.os, e.tape, e.output, e.size, fun k hk => e.block k (Nat.lt_of_lt_of_le hk h.fr.size) (fun p hp => by have := h.la p k hp; omega)⟩, fun g hg => ?_⟩, fun g hg => e.block g (h.kg g hg).1 (h.kg g hg).2.1⟩
  · have := (List.mem_filter.1 hm).2
    simp at this
    exact this hb
  · rcases e.fp p b hb with ⟨p0, h0⟩ | h0
    · exact h.ap p0 b h0 hb'
    · have := h.rb.lt b hb'; omega
  · rcases e.fp p b hb with ⟨p0, h0⟩ | h0
    · exact h.la p0 b h0
    · exact Nat.le_trans h.fr.size h0
  · obtain ⟨g1, g2, g3⟩ := h.kg g hg
    refine ⟨Nat.lt_of_lt_of_le g1 e.size, fun p hp => ?_, g3⟩
    rcases e.fp p g hp with ⟨p0, h0⟩ | h0
    · exact g2 p0 h0
    · omega
theorem Pr.right (h : Pr w0 w G c s N c' s' N') (r : Rr c' w1 s2 N1) (e : EvR c' w s' w1 s2) : Pr w0 w1 G c s N c' s2 N1 ∧ ∀ g ∈ G, w1.heap[g]? = w.heap[g]? := by
  refine ⟨⟨h.ra.ofCl ⟨fun p => (h.ra.cl.has p).same (fun b hb => e.block b ((h.ra.cl.has p).lt b hb) (h.ap p b hb)), h.ra.cl.ap, Nat.le_trans h.ra.cl.B e.size⟩, r, fun p b hb hb' => ?_, h.la, fun b hb => ?_, h.fr.trans ⟨e.os, e.tape, e.output, e.size, fun k hk => e.block k (Nat.lt_of_lt_of_le hk h.fr.size) (fun hp => by have := h.lb k hp; omega)⟩, fun g hg => ?_⟩, fun g hg => e.block g (h.kg g hg).1 (h.kg g hg).2.2⟩
  · rcases e.fp b hb' with h0 | h0
    · exact h.ap p b hb h0
    · have := (h.ra.cl.has p).lt b hb; omega
  · rcases e.fp b hb with h0 | h0
    · exact h.lb b h0
    · exact Nat.le_trans h.fr.size h0
  · obtain ⟨g1, g2, g3⟩ := h.kg g hg
    refine ⟨Nat.lt_of_lt_of_le g1 e.size, g2, fun hp => ?_⟩
    rcases e.fp g hp with h0 | h0
    · exact g3 h0
    · omega
theorem Pr.fresh (h : Pr w0 w G c s N c' s' N') (f : Fr [] w w1) : Pr w0 w1 G c s N c' s' N' ∧ ∀ g ∈ G, w1.heap[g]? = w.heap[g]? := h.left (h.ra.ofCl (h.ra.cl.fresh f)) (Ev.fresh f)
theorem Pr.more (h : Pr w0 w G c s N c' s' N') (o : Obj) : Pr w0 (w.alloc o) (w.heap.size :: G) c s N c' s' N' := by
  obtain ⟨k, _⟩ := h.fresh (fr_alloc w o [])
  refine ⟨k.ra, k.rb, k.ap, k.la, k.lb, k.fr, fun g hg => ?_⟩
  rcases List.mem_cons.1 hg with e | e
  · subst e
    refine ⟨by simp, fun p hp => ?_, fun hp => ?_⟩
    · have := (h.ra.cl.has p).lt _ hp; omega
    · have := h.rb.lt _ hp; omega
  · exact k.kg g e
theorem Pr.drewN (h : Pr w0 w G c s N c' s' N') (j : Nat) : Pr w0 (w.drewN j) G c s N c' s' N' := (h.left (h.ra.drewN j) (Ev.drewN j)).1
theorem Pr.less {G' : List Nat} (h : Pr w0 w G c s N c' s' N') (hs : ∀ g ∈ G', g ∈ G) : Pr w0 w G' c s N c' s' N' := ⟨h.ra, h.rb, h.ap, h.la, h.lb, h.fr, fun g hg => h.kg g (hs g hg)⟩
end
/-- Between two steps. -/
def Run3 (w0 : World) (wb : Nat) (c : Cf) (c' : Cr) (N : Nat) (w : World) : Prop := ∃ s s' φ, Pr w0 w [wb] c s N c' s' N ∧ Iso (grF s.F) s.ro (gR s') s'.ro φ ∧ w.heap[wb]? = some (.cells #[.pointer (some ⟨c.sb, 0, none⟩), .pointer (some ⟨c'.sb, 0, none⟩)] 29 (0, 0))
section
variable {w0 w : World} {wb N : Nat} {c : Cf} {c' : Cr} {s : St} {s' : RSt} {φ : Int → Nat}
theorem Run3.below (h : Run3 w0 wb c c' N w) : Below w0.heap.size w0 w := by obtain ⟨_, _, _, b, _⟩ := h; exact b.fr
theorem Run3.cells (h : Run3 w0 wb c c' N w) : wb < w.heap.size ∧ w.heap[wb]? = some (.cells #[.pointer (some ⟨c.sb, 0, none⟩), .pointer (some ⟨c'.sb, 0, none⟩)] 29 (0, 0)) := by obtain ⟨_, _, _, b, _, k⟩ := h; exact ⟨(b.kg wb (by simp)).1, k⟩
theorem Run3.fresh {w1 : World} (h : Run3 w0 wb c c' N w) (f : Fr [] w w1) : Run3 w0 wb c c' N w1 := by
  obtain ⟨s, s', φ, b, i, k⟩ := h
  obtain ⟨b1, e⟩ := b.fresh f
  exact ⟨s, s', φ, b1, i, by rw [e wb (by simp)]; exact k⟩
theorem Run3.up (h : Run3 w0 wb c c' N w) (hN : N < 32768) : Run3 w0 wb c c' (N + 1) w := by
  obtain ⟨s, s', φ, b, i, k⟩ := h
  exact ⟨s, s', φ, ⟨b.ra.up hN, b.rb.up hN, b.ap, b.la, b.lb, b.fr, b.kg⟩, i, k⟩
/-- What is between the program's step and the reference's. -/
def M1 (w0 w : World) (wb : Nat) (c : Cf) (c' : Cr) (N : Nat) (s : St) (s' : RSt) (op : Opn) (o : Array Value) (ans : Int × Int) (w1 : World) : Prop := ∃ s1, Pr w0 w1 [w.heap.size, wb] c s1 (N + 1) c' s' N ∧ Zok (grF s.F) ∧ Eff c.lim op (grF s.F) s.ro ans (grF s1.F) s1.ro ∧ Kp wb c.sb c'.sb w.heap.size o w1
def M2 (w0 w : World) (wb : Nat) (c : Cf) (c' : Cr) (N : Nat) (o : Array Value) (w2 : World) : Prop := Run3 w0 wb c c' (N + 1) w2 ∧ Kp wb c.sb c'.sb w.heap.size o w2
theorem arm1 {op : Opn} {mk : Int × Int → Ending} {f : Nat} {args : Array Value} {o : Array Value} (h : Pr w0 w [wb] c s N c' s' N) (hk : w.heap[wb]? = some (.cells #[.pointer (some ⟨c.sb, 0, none⟩), .pointer (some ⟨c'.sb, 0, none⟩)] 29 (0, 0))) (H : ∀ W, Re c W s N → Calls Try.prog f args W (POk c W s (N + 1) op mk)) (j : Nat) :
    Calls Try.prog f args ((w.alloc (.cells o 32)).drewN j) fun e w1 => ∃ ans, e = mk ans ∧ M1 w0 w wb c c' N s s' op o ans w1 := by
  have h1 := (h.more (.cells o 32)).drewN j
  refine (H _ h1.ra).mono ?_
  rintro e w1 ⟨ans, s1, rfl, r, ev, ef⟩
  obtain ⟨h2, e2⟩ := h1.left r ev
  refine ⟨ans, rfl, s1, h2, h.ra.zok, ef, ?_, ?_⟩
  · rw [e2 wb (by simp)]
    show (w.alloc (.cells o 32)).heap[wb]? = _
    rw [Below.heap_alloc w _ wb (h.kg wb (by simp)).1]; exact hk
  · rw [e2 w.heap.size (by simp)]
    exact heap_alloc_new _ _
theorem arm2 {op : Opn} {mk : Int × Int → Ending} {f : Nat} {args : Array Value} {o : Array Value} (hlm : c'.lim = c.lim) (i : Iso (grF s.F) s.ro (gR s') s'.ro φ) (H : ∀ W, Rr c' W s' N → Calls Try.prog f args W (ROk c' W s' (N + 1) op mk)) {ans : Int × Int} {w1 : World} (h : M1 w0 w wb c c' N s s' op o ans w1) (j : Nat) :
    Calls Try.prog f args (w1.drewN j) fun e w2 => e = mk ans ∧ M2 w0 w wb c c' N o w2 := by
  obtain ⟨s1, h1, zg, ef, k1, k2⟩ := h
  have h1j := h1.drewN j
  refine (H _ h1j.rb).mono ?_
  rintro e w2 ⟨ans2, s2, rfl, r, ev, eh⟩
  rw [hlm] at eh
  obtain ⟨h2, e2⟩ := h1j.right r ev
  obtain ⟨he, ψ, i2⟩ := Eff.sim i zg h1.rb.zok ef eh
  have q1 : w2.heap[wb]? = some (.cells #[.pointer (some ⟨c.sb, 0, none⟩), .pointer (some ⟨c'.sb, 0, none⟩)] 29 (0, 0)) := by rw [e2 wb (by simp)]; exact k1
  have q2 : w2.heap[w.heap.size]? = some (.cells o 32 (0, 0)) := by rw [e2 w.heap.size (by simp)]; exact k2
  exact ⟨by rw [he], ⟨s1, s2, ψ, h2.less (by simp), i2, q1⟩, q1, q2⟩
theorem M1.kp {op : Opn} {o : Array Value} {ans : Int × Int} {w1 : World} (h : M1 w0 w wb c c' N s s' op o ans w1) : Kp wb c.sb c'.sb w.heap.size o w1 := by obtain ⟨_, _, _, _, k⟩ := h; exact k
end
end Rs
end Go.Proofs.Ytaapakpanbfmlaa
