/-
  Things that move, in plain mathematics: where each is now, which references are turned already; in the end the graph is the same.
  How many words can be reached, in plain mathematics: as many on both sides.
-/
import Derived.Test.YtaapakpanbfmlaaHc
namespace Go.Proofs.Ytaapakpanbfmlaa
namespace Hp
set_option linter.unusedVariables false
/-- While things move: loc tells where one is in the table N (0: nowhere yet); P: which references of the table's things are turned. -/
structure Gc (gs : Gr Int) (loc : Int → Int) (N : List (List Int × List Nat)) (P : Nat → Nat → Prop) : Prop where
  gz : gs.z = 0
  z : loc 0 = 0
  rng : ∀ r, loc r ≠ 0 → 0 < loc r ∧ loc r ≤ (N.length : Int)
  inj : ∀ r s, loc r ≠ 0 → loc r = loc s → r = s
  src : ∀ r, loc r ≠ 0 → ∃ rs ws rs', gs.at_ r = some (rs, ws) ∧ N[(loc r).toNat - 1]? = some (rs', ws) ∧ rs'.length = rs.length ∧
    ∀ k x, rs[k]? = some x → (P ((loc r).toNat - 1) k → (x = 0 ∨ loc x ≠ 0) ∧ rs'[k]? = some (loc x)) ∧ (¬ P ((loc r).toNat - 1) k → rs'[k]? = some x)
/-- A thing goes into the table. -/
theorem Gc.move {gs : Gr Int} {loc : Int → Int} {N : List (List Int × List Nat)} {P : Nat → Nat → Prop} (h : Gc gs loc N P) {x : Int} {rs : List Int} {ws : List Nat} (hx : x ≠ 0) (hl : loc x = 0) (hat : gs.at_ x = some (rs, ws)) (hP : ∀ k, ¬ P N.length k) :
    Gc gs (fun r => if r = x then (N.length : Int) + 1 else loc r) (N ++ [(rs, ws)]) P := by
  have hne : ∀ r, loc r ≠ 0 → r ≠ x := fun r hr e => hr (e ▸ hl)
  refine ⟨h.gz, by rw [if_neg (fun e => hx e.symm)]; exact h.z, fun r hr => ?_, fun r s hr e => ?_, fun r hr => ?_⟩
  · by_cases hrx : r = x
    · rw [if_pos hrx] at hr ⊢
      rw [List.length_append, List.length_singleton]; omega
    · rw [if_neg hrx] at hr ⊢
      have := h.rng r hr
      rw [List.length_append, List.length_singleton]; omega
  · by_cases hrx : r = x
    · rw [if_pos hrx] at e
      by_cases hsx : s = x
      · rw [hrx, hsx]
      · rw [if_neg hsx] at e
        by_cases hs0 : loc s = 0
        · omega
        · have := h.rng s hs0; omega
    · rw [if_neg hrx] at hr e
      by_cases hsx : s = x
      · rw [if_pos hsx] at e
        have := h.rng r hr; omega
      · rw [if_neg hsx] at e
        exact h.inj r s hr e
  · by_cases hrx : r = x
    · subst hrx
      rw [if_pos rfl]
      have e1 : ((N.length : Int) + 1).toNat - 1 = N.length := by omega
      rw [e1]
      refine ⟨rs, ws, rs, hat, by simp, rfl, fun k y hk => ⟨fun hp => absurd hp (hP k), fun _ => hk⟩⟩
    · rw [if_neg hrx] at hr ⊢
      obtain ⟨rs1, ws1, rs1', a1, a2, a3, a4⟩ := h.src r hr
      refine ⟨rs1, ws1, rs1', a1, ?_, a3, fun k y hk => ⟨fun hp => ?_, (a4 k y hk).2⟩⟩
      · have hlt : (loc r).toNat - 1 < N.length := (List.getElem?_eq_some_iff.1 a2).1
        rw [List.getElem?_append_left hlt]; exact a2
      · obtain ⟨b1, b2⟩ := (a4 k y hk).1 hp
        by_cases hyx : y = x
        · subst hyx
          rcases b1 with b1 | b1
          · exact absurd b1 hx
          · exact absurd hl b1
        · rw [if_neg hyx]; exact ⟨b1, b2⟩
/-- A reference of a thing of the table is turned. -/
theorem Gc.turn {gs : Gr Int} {loc : Int → Int} {N : List (List Int × List Nat)} {P P' : Nat → Nat → Prop} (h : Gc gs loc N P) {j k : Nat} {x : Int} {rs' : List Int} {ws : List Nat} (hj : N[j]? = some (rs', ws)) (hk : rs'[k]? = some x) (hp : ¬ P j k) (hx : x = 0 ∨ loc x ≠ 0) (hP : ∀ a b, P' a b ↔ P a b ∨ (a = j ∧ b = k)) :
    Gc gs loc (N.set j (rs'.set k (loc x), ws)) P' := by
  have hjl : j < N.length := (List.getElem?_eq_some_iff.1 hj).1
  refine ⟨h.gz, h.z, fun r hr => by rw [List.length_set]; exact h.rng r hr, h.inj, fun r hr => ?_⟩
  obtain ⟨rs1, ws1, rs1', a1, a2, a3, a4⟩ := h.src r hr
  by_cases hjr : (loc r).toNat - 1 = j
  · rw [hjr] at a2 a4 ⊢
    rw [hj] at a2
    cases a2
    refine ⟨rs1, ws, rs'.set k (loc x), a1, by rw [List.getElem?_set]; simp [hjl], by rw [List.length_set]; exact a3, fun b y hb => ⟨fun hpb => ?_, fun hpb => ?_⟩⟩
    · by_cases hbk : b = k
      · subst hbk
        have hxy : x = y := by
          have := (a4 b y hb).2 hp
          rw [hk] at this
          exact Option.some.inj this
        subst hxy
        refine ⟨hx, ?_⟩
        rw [List.getElem?_set]
        simp [(List.getElem?_eq_some_iff.1 hk).1]
      · have hpb' : P j b := by
          rcases (hP j b).1 hpb with h1 | h1
          · exact h1
          · exact absurd h1.2 hbk
        obtain ⟨c1, c2⟩ := (a4 b y hb).1 hpb'
        refine ⟨c1, ?_⟩
        rw [List.getElem?_set_ne (fun e => hbk e.symm)]; exact c2
    · have hbk : b ≠ k := fun e => hpb ((hP j b).2 (.inr ⟨rfl, e⟩))
      have hpb' : ¬ P j b := fun h1 => hpb ((hP j b).2 (.inl h1))
      rw [List.getElem?_set_ne (fun e => hbk e.symm)]
      exact (a4 b y hb).2 hpb'
  · refine ⟨rs1, ws1, rs1', a1, by rw [List.getElem?_set_ne (fun e => hjr e.symm)]; exact a2, a3, fun b y hb => ⟨fun hpb => (a4 b y hb).1 ?_, fun hpb => (a4 b y hb).2 (fun h1 => hpb ((hP _ b).2 (.inl h1)))⟩⟩
    rcases (hP _ b).1 hpb with h1 | h1
    · exact h1
    · exact absurd h1.1 hjr
/-- What counts as turned may be said otherwise where it makes no difference. -/
theorem Gc.said {gs : Gr Int} {loc : Int → Int} {N : List (List Int × List Nat)} {P P' : Nat → Nat → Prop} (h : Gc gs loc N P) (h1 : ∀ j k, P j k → P' j k) (h2 : ∀ r rs ws k x, loc r ≠ 0 → gs.at_ r = some (rs, ws) → rs[k]? = some x → P' ((loc r).toNat - 1) k → ¬ P ((loc r).toNat - 1) k → loc x = x) : Gc gs loc N P' := by
  refine ⟨h.gz, h.z, h.rng, h.inj, fun r hr => ?_⟩
  obtain ⟨rs1, ws1, rs1', a1, a2, a3, a4⟩ := h.src r hr
  refine ⟨rs1, ws1, rs1', a1, a2, a3, fun k y hk => ⟨fun hp => ?_, fun hp => (a4 k y hk).2 (fun h3 => hp (h1 _ _ h3))⟩⟩
  by_cases hp0 : P ((loc r).toNat - 1) k
  · exact (a4 k y hk).1 hp0
  · have e := h2 r rs1 ws1 k y hr a1 hk hp hp0
    rw [e]
    exact ⟨by by_cases h0 : y = 0 <;> simp [h0], (a4 k y hk).2 hp0⟩
/-- The table as a graph: a thing's number is its place, counted from 1. -/
def grN (N : List (List Int × List Nat)) : Gr Int := ⟨0, fun r => if 0 < r then N[r.toNat - 1]? else none⟩
/-- All is turned: the table is the same graph. -/
theorem Gc.iso {gs : Gr Int} {loc : Int → Int} {N : List (List Int × List Nat)} {P : Nat → Nat → Prop} (h : Gc gs loc N P) {ro : List Int} (hro : ∀ r ∈ ro, r ≠ 0 → loc r ≠ 0) (hP : ∀ r rs ws k x, loc r ≠ 0 → gs.at_ r = some (rs, ws) → rs[k]? = some x → P ((loc r).toNat - 1) k) :
    Iso gs ro (grN N) (ro.map loc) loc := by
  have hall : ∀ r, loc r ≠ 0 → ∃ rs ws, gs.at_ r = some (rs, ws) ∧ (grN N).at_ (loc r) = some (rs.map loc, ws) ∧ ∀ x ∈ rs, x = 0 ∨ loc x ≠ 0 := fun r hr => by
    obtain ⟨rs1, ws1, rs1', a1, a2, a3, a4⟩ := h.src r hr
    have e : rs1' = rs1.map loc := by
      apply List.ext_getElem?
      intro k
      rw [List.getElem?_map]
      cases hk : rs1[k]? with
      | none =>
        have : rs1.length ≤ k := List.getElem?_eq_none_iff.1 hk
        rw [List.getElem?_eq_none_iff.2 (by omega)]; rfl
      | some x => exact ((a4 k x hk).1 (hP r rs1 ws1 k x hr a1 hk)).2
    refine ⟨rs1, ws1, a1, ?_, fun x hx => ?_⟩
    · unfold grN
      simp only
      rw [if_pos (h.rng r hr).1, a2, e]
    · obtain ⟨k, hk, rfl⟩ := List.getElem_of_mem hx
      exact ((a4 k _ (List.getElem?_eq_getElem hk)).1 (hP r rs1 ws1 k _ hr a1 (List.getElem?_eq_getElem hk))).1
  have hrch : ∀ r, Rch gs ro r → loc r ≠ 0 := fun r hr => by
    induction hr with
    | root h1 h2 => exact hro _ h1 (by rw [← h.gz]; exact h2)
    | step h1 h2 h3 h4 ih =>
      obtain ⟨rs, ws, e1, _, e3⟩ := hall _ ih
      rw [h2] at e1
      cases e1
      rcases e3 _ h3 with e | e
      · exact absurd e (by rw [← h.gz]; exact h4)
      · exact e
  refine ⟨by rw [h.gz]; exact h.z, rfl, fun r hr => ?_, fun r s hr hs e => h.inj r s (hrch r hr) e⟩
  obtain ⟨rs, ws, e1, e2, _⟩ := hall r (hrch r hr)
  exact ⟨hrch r hr, rs, ws, e1, e2⟩
end Hp
end Go.Proofs.Ytaapakpanbfmlaa
namespace Go.Proofs.Ytaapakpanbfmlaa
namespace Hp
set_option linter.unusedVariables false
/-- The words that a thing takes. -/
def szN (t : List Int × List Nat) : Nat := 2 + t.1.length + t.2.length
def szT (t : T) : Nat := 2 + t.refs.length + t.words.length
/-- The words of what was seen. -/
def used (L : List T) (seen : List Bool) : Nat := ((List.range L.length).map fun k => if seen.getD k false = true then ((L[k]?).map szT).getD 0 else 0).sum
theorem sum_filter (l : List Nat) (p : Nat → Bool) (f : Nat → Nat) : (l.map fun k => if p k = true then f k else 0).sum = ((l.filter p).map f).sum := by
  induction l with
  | nil => rfl
  | cons a l ih =>
    rw [List.map_cons, List.sum_cons, ih, List.filter_cons]
    by_cases h : p a = true
    · rw [if_pos h, if_pos h, List.map_cons, List.sum_cons]
    · rw [if_neg h, if_neg h, Nat.zero_add]
theorem perm_sum {l l' : List Nat} (h : l.Perm l') (f : Nat → Nat) : (l.map f).sum = (l'.map f).sum := (h.map f).sum_nat
theorem sum_iso {N : List (List Int × List Nat)} {ro : List Int} {L : List T} {so : List Nat} {φ : Int → Nat} {seen : List Bool} (i : Iso (grN N) ro (grS L) so φ) (hall : ∀ j, j < N.length → Rch (grN N) ro ((j : Int) + 1)) (hs : ∀ k, seen.getD k false = true ↔ Rch (grS L) so k) :
    (N.map szN).sum = used L seen := by
  have hat : ∀ j (hj : j < N.length), ∃ t, L[φ ((j : Int) + 1)]? = some t ∧ szT t = szN N[j] := fun j hj => by
    obtain ⟨_, rs, ws, e1, e2⟩ := i.at_ _ (hall j hj)
    unfold grN at e1
    simp only at e1
    rw [if_pos (by omega), show ((j : Int) + 1).toNat - 1 = j by omega, List.getElem?_eq_getElem hj] at e1
    have e1 := Option.some.inj e1
    unfold grS at e2
    simp only [Option.map_eq_some_iff, Prod.mk.injEq] at e2
    obtain ⟨t, ht, h1, h2⟩ := e2
    refine ⟨t, ht, ?_⟩
    unfold szT szN
    rw [e1, h1, h2, List.length_map]
  have hperm : ((List.range N.length).map fun (j : Nat) => φ ((j : Int) + 1)).Perm ((List.range L.length).filter fun k => seen.getD k false) := by
    refine (List.perm_ext_iff_of_nodup ?_ ?_).2 (fun k => ?_)
    · refine List.pairwise_map.2 (List.Pairwise.imp_of_mem (fun {a b} ha hb hab e => hab ?_) (List.nodup_range (n := N.length)))
      have := i.inj _ _ (hall a (List.mem_range.1 ha)) (hall b (List.mem_range.1 hb)) e
      omega
    · exact List.Pairwise.filter _ List.nodup_range
    · rw [List.mem_map, List.mem_filter, List.mem_range]
      constructor
      · rintro ⟨j, hj, rfl⟩
        have hj' := List.mem_range.1 hj
        obtain ⟨t, ht, _⟩ := hat j hj'
        exact ⟨(List.getElem?_eq_some_iff.1 ht).1, (hs _).2 (i.fwd (hall j hj'))⟩
      · rintro ⟨hk, hsk⟩
        obtain ⟨a, ha, rfl⟩ := i.back ((hs k).1 hsk)
        obtain ⟨_, rs, ws, e1, _⟩ := i.at_ a ha
        unfold grN at e1
        simp only at e1
        by_cases h0 : 0 < a
        · rw [if_pos h0] at e1
          have hl := (List.getElem?_eq_some_iff.1 e1).1
          exact ⟨a.toNat - 1, List.mem_range.2 hl, by show φ (((a.toNat - 1 : Nat) : Int) + 1) = φ a; congr 1; omega⟩
        · rw [if_neg h0] at e1; cases e1
  unfold used
  rw [sum_filter _ (fun k => seen.getD k false), ← perm_sum hperm, List.map_map]
  have : N.map szN = (List.range N.length).map ((fun k => ((L[k]?).map szT).getD 0) ∘ fun (j : Nat) => φ ((j : Int) + 1)) := by
    apply List.ext_getElem (by simp)
    intro j h1 h2
    rw [List.getElem_map, List.getElem_map, List.getElem_range]
    have hj : j < N.length := by simpa using h1
    obtain ⟨t, ht, e⟩ := hat j hj
    show szN (N[j]'hj) = ((L[φ ((j : Int) + 1)]?).map szT).getD 0
    rw [ht, ← e]; rfl
  rw [this]
end Hp
end Go.Proofs.Ytaapakpanbfmlaa
