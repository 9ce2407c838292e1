/-
  Graphs of things, in plain mathematics: what can be reached; when two are the same. Nothing of the program is named here.
  Graphs of things, in plain mathematics: what is written, what is made, how many words there are.
-/

import Derived.Laws.BitsAllLaws
namespace Go.Proofs.Ytaapakpanbfmlaa
namespace Hp
/-- Things: what refers to what, and the words; a reference z is to none. -/
structure Gr (α : Type) where
  z : α
  at_ : α → Option (List α × List Nat)
section
variable {α β γ : Type}
/-- What can be reached from some. -/
inductive Rch (g : Gr α) (ro : List α) : α → Prop
  | root {a : α} : a ∈ ro → a ≠ g.z → Rch g ro a
  | step {a b : α} {rs : List α} {ws : List Nat} : Rch g ro a → g.at_ a = some (rs, ws) → b ∈ rs → b ≠ g.z → Rch g ro b
theorem Rch.ne {g : Gr α} {ro : List α} {a : α} (h : Rch g ro a) : a ≠ g.z := by
  cases h with
  | root _ h => exact h
  | step _ _ _ h => exact h
/-- Fewer roots, fewer things. -/
theorem Rch.mono {g : Gr α} {ro ro' : List α} {a : α} (h : Rch g ro a) (hs : ∀ b ∈ ro, b ≠ g.z → Rch g ro' b) : Rch g ro' a := by
  induction h with
  | root h1 h2 => exact hs _ h1 h2
  | step _ h2 h3 h4 ih => exact .step ih h2 h3 h4
/-- Two graphs are the same, as far as they can be reached. -/
structure Iso (g : Gr α) (ro : List α) (h : Gr β) (so : List β) (φ : α → β) : Prop where
  z : φ g.z = h.z
  roots : so = ro.map φ
  at_ : ∀ a, Rch g ro a → φ a ≠ h.z ∧ ∃ rs ws, g.at_ a = some (rs, ws) ∧ h.at_ (φ a) = some (rs.map φ, ws)
  inj : ∀ a b, Rch g ro a → Rch g ro b → φ a = φ b → a = b
theorem Iso.fwd {g : Gr α} {ro : List α} {h : Gr β} {so : List β} {φ : α → β} (i : Iso g ro h so φ) {a : α} (ha : Rch g ro a) : Rch h so (φ a) := by
  induction ha with
  | root h1 h2 => exact .root (by rw [i.roots]; exact List.mem_map_of_mem h1) (i.at_ _ (.root h1 h2)).1
  | step h1 h2 h3 h4 ih =>
    obtain ⟨_, rs, ws, e1, e2⟩ := i.at_ _ h1
    rw [h2] at e1
    cases e1
    exact .step ih e2 (List.mem_map_of_mem h3) (i.at_ _ (.step h1 h2 h3 h4)).1
theorem Iso.back {g : Gr α} {ro : List α} {h : Gr β} {so : List β} {φ : α → β} (i : Iso g ro h so φ) {b : β} (hb : Rch h so b) : ∃ a, Rch g ro a ∧ φ a = b := by
  induction hb with
  | root h1 h2 =>
    rw [i.roots] at h1
    obtain ⟨a, ha, rfl⟩ := List.mem_map.1 h1
    refine ⟨a, .root ha (fun e => h2 ?_), rfl⟩
    rw [e, i.z]
  | step h1 h2 h3 h4 ih =>
    obtain ⟨a, ha, rfl⟩ := ih
    obtain ⟨_, rs, ws, e1, e2⟩ := i.at_ _ ha
    rw [h2] at e2
    cases e2
    obtain ⟨c, hc, rfl⟩ := List.mem_map.1 h3
    refine ⟨c, .step ha e1 hc (fun e => h4 ?_), rfl⟩
    rw [e, i.z]
theorem Iso.trans {g : Gr α} {ro : List α} {h : Gr β} {so : List β} {k : Gr γ} {to : List γ} {φ : α → β} {ψ : β → γ} (i : Iso g ro h so φ) (j : Iso h so k to ψ) : Iso g ro k to (ψ ∘ φ) := by
  refine ⟨by simp [i.z, j.z], by rw [j.roots, i.roots, List.map_map], fun a ha => ?_, fun a b ha hb e => ?_⟩
  · obtain ⟨_, rs, ws, e1, e2⟩ := i.at_ a ha
    obtain ⟨n2, rs2, ws2, e3, e4⟩ := j.at_ _ (i.fwd ha)
    rw [e2] at e3
    cases e3
    exact ⟨n2, rs, ws, e1, by rw [← List.map_map]; exact e4⟩
  · exact i.inj a b ha hb (j.inj _ _ (i.fwd ha) (i.fwd hb) e)
/-- The same the other way round. -/
theorem Iso.symm {g : Gr α} {ro : List α} {h : Gr β} {so : List β} {φ : α → β} (i : Iso g ro h so φ) : ∃ ψ : β → α, Iso h so g ro ψ ∧ ∀ a, Rch g ro a → ψ (φ a) = a := by
  classical
  let ψ : β → α := fun b => if hb : Rch h so b then (i.back hb).choose else g.z
  have hψ : ∀ a, Rch g ro a → ψ (φ a) = a := fun a ha => by
    have hb := i.fwd ha
    show (if hb : Rch h so (φ a) then (i.back hb).choose else g.z) = a
    rw [dif_pos hb]
    exact i.inj _ _ (i.back hb).choose_spec.1 ha (i.back hb).choose_spec.2
  have hz : ψ h.z = g.z := by
    show (if hb : Rch h so h.z then (i.back hb).choose else g.z) = g.z
    rw [dif_neg (fun hb => hb.ne rfl)]
  have hmap : ∀ rs : List α, (∀ a ∈ rs, a ≠ g.z → Rch g ro a) → (rs.map φ).map ψ = rs := by
    intro rs hrs
    rw [List.map_map]
    conv => rhs; rw [← List.map_id rs]
    refine List.map_congr_left (fun a ha => ?_)
    show ψ (φ a) = a
    by_cases hz' : a = g.z
    · rw [hz', i.z, hz]
    · exact hψ a (hrs a ha hz')
  refine ⟨ψ, ⟨hz, ?_, ?_, ?_⟩, hψ⟩
  · rw [i.roots, hmap ro (fun a ha hn => .root ha hn)]
  · intro b hb
    obtain ⟨a, ha, rfl⟩ := i.back hb
    obtain ⟨_, rs, ws, e1, e2⟩ := i.at_ a ha
    rw [hψ a ha]
    refine ⟨ha.ne, rs.map φ, ws, e2, ?_⟩
    rw [hmap rs (fun c hc hn => .step ha e1 hc hn)]
    exact e1
  · intro b c hb hc e
    obtain ⟨a, ha, rfl⟩ := i.back hb
    obtain ⟨d, hd, rfl⟩ := i.back hc
    rw [hψ a ha, hψ d hd] at e
    rw [e]
/-- Other roots, of what could be reached. -/
theorem Iso.reroot {g : Gr α} {ro ro' : List α} {h : Gr β} {so : List β} {φ : α → β} (i : Iso g ro h so φ) (hr : ∀ a ∈ ro', a ≠ g.z → Rch g ro a) : Iso g ro' h (ro'.map φ) φ :=
  ⟨i.z, rfl, fun a ha => i.at_ a (ha.mono hr), fun a b ha hb e => i.inj a b (ha.mono hr) (hb.mono hr) e⟩
end
end Hp
end Go.Proofs.Ytaapakpanbfmlaa
namespace Go.Proofs.Ytaapakpanbfmlaa
namespace Hp
set_option linter.unusedVariables false
section
variable {α β γ : Type}
/-- A graph that says the same of all that can be reached. -/
theorem Rch.congr {g g' : Gr α} {ro : List α} (hz : g'.z = g.z) (h : ∀ a, Rch g ro a → g'.at_ a = g.at_ a) {a : α} (ha : Rch g' ro a) : Rch g ro a := by
  induction ha with
  | root h1 h2 => exact .root h1 (by rw [← hz]; exact h2)
  | step _ h2 h3 h4 ih => exact .step ih (by rw [← h _ ih]; exact h2) h3 (by rw [← hz]; exact h4)
theorem Iso.of_congr {g g' : Gr α} {ro : List α} {h : Gr β} {so : List β} {φ : α → β} (i : Iso g ro h so φ) (hz : g'.z = g.z) (hc : ∀ a, Rch g ro a → g'.at_ a = g.at_ a) : Iso g' ro h so φ :=
  ⟨by rw [hz]; exact i.z, i.roots, fun a ha => by rw [hc a (ha.congr hz hc)]; exact i.at_ a (ha.congr hz hc), fun a b ha hb e => i.inj a b (ha.congr hz hc) (hb.congr hz hc) e⟩
theorem Iso.to_congr {g : Gr α} {ro : List α} {h h' : Gr β} {so : List β} {φ : α → β} (i : Iso g ro h so φ) (hz : h'.z = h.z) (hc : ∀ b, Rch h so b → h'.at_ b = h.at_ b) : Iso g ro h' so φ :=
  ⟨by rw [hz]; exact i.z, i.roots, fun a ha => by rw [hc _ (i.fwd ha), hz]; exact i.at_ a ha, i.inj⟩
/-- One thing is another from now on. -/
def Gr.upd [DecidableEq α] (g : Gr α) (a : α) (t : List α × List Nat) : Gr α := ⟨g.z, fun x => if x = a then some t else g.at_ x⟩
theorem upd_same [DecidableEq α] (g : Gr α) (a : α) (t : List α × List Nat) : (g.upd a t).at_ a = some t := by unfold Gr.upd; simp
theorem upd_ne [DecidableEq α] (g : Gr α) {a x : α} (t : List α × List Nat) (h : x ≠ a) : (g.upd a t).at_ x = g.at_ x := by unfold Gr.upd; simp [h]
/-- A thing whose references could be reached before: nothing more can be reached. -/
theorem Rch.of_upd [DecidableEq α] {g : Gr α} {ro : List α} {a : α} {t : List α × List Nat} (ht : ∀ b ∈ t.1, b ≠ g.z → Rch g ro b) {x : α} (hx : Rch (g.upd a t) ro x) : Rch g ro x := by
  induction hx with
  | root h1 h2 => exact .root h1 h2
  | step h1 h2 h3 h4 ih =>
    rename_i c d rs ws
    by_cases hc : c = a
    · subst hc
      rw [upd_same] at h2
      cases h2
      exact ht _ h3 h4
    · rw [upd_ne _ _ hc] at h2
      exact .step ih h2 h3 h4
/-- Both write to the same thing. -/
theorem Iso.upd [DecidableEq α] [DecidableEq β] {g : Gr α} {ro : List α} {h : Gr β} {so : List β} {φ : α → β} (i : Iso g ro h so φ) {a : α} (ha : Rch g ro a) (t : List α × List Nat) (ht : ∀ b ∈ t.1, b ≠ g.z → Rch g ro b) :
    Iso (g.upd a t) ro (h.upd (φ a) (t.1.map φ, t.2)) so φ := by
  refine ⟨i.z, i.roots, fun x hx => ?_, fun x y hx hy e => i.inj x y (hx.of_upd ht) (hy.of_upd ht) e⟩
  have hx' := hx.of_upd ht
  refine ⟨(i.at_ x hx').1, ?_⟩
  by_cases hxa : x = a
  · subst hxa
    exact ⟨t.1, t.2, upd_same _ _ _, upd_same _ _ _⟩
  · obtain ⟨_, rs, ws, e1, e2⟩ := i.at_ x hx'
    refine ⟨rs, ws, by rw [upd_ne _ _ hxa]; exact e1, ?_⟩
    rw [upd_ne _ _ (fun e => hxa (i.inj _ _ hx' ha e))]
    exact e2
theorem mem_set_sub {l : List α} {k : Nat} {b x : α} (h : x ∈ l.set k b) : x ∈ l ∨ x = b := List.mem_or_eq_of_mem_set h
/-- A reference is put. -/
theorem Iso.put [DecidableEq α] [DecidableEq β] {g : Gr α} {ro : List α} {h : Gr β} {so : List β} {φ : α → β} (i : Iso g ro h so φ) {a b : α} (ha : Rch g ro a) {rs : List α} {ws : List Nat} (he : g.at_ a = some (rs, ws)) (k : Nat) (hb : b ≠ g.z → Rch g ro b) :
    Iso (g.upd a (rs.set k b, ws)) ro (h.upd (φ a) ((rs.map φ).set k (φ b), ws)) so φ := by
  have := i.upd ha (rs.set k b, ws) (fun x hx hn => by
    rcases mem_set_sub hx with hx | rfl
    · exact .step ha he hx hn
    · exact hb hn)
  rw [show (rs.set k b).map φ = (rs.map φ).set k (φ b) from List.map_set] at this
  exact this
/-- A word is set. -/
theorem Iso.set [DecidableEq α] [DecidableEq β] {g : Gr α} {ro : List α} {h : Gr β} {so : List β} {φ : α → β} (i : Iso g ro h so φ) {a : α} (ha : Rch g ro a) {rs : List α} {ws : List Nat} (he : g.at_ a = some (rs, ws)) (ws' : List Nat) :
    Iso (g.upd a (rs, ws')) ro (h.upd (φ a) (rs.map φ, ws')) so φ :=
  i.upd ha (rs, ws') (fun x hx hn => .step ha he hx hn)
/-- A thing is made, with no references yet, and is held at a place. -/
theorem Iso.made [DecidableEq α] [DecidableEq β] {g : Gr α} {ro : List α} {h : Gr β} {so : List β} {φ : α → β} (i : Iso g ro h so φ) {a : α} {b : β} (ha : a ≠ g.z) (hb : b ≠ h.z) (na : ¬ Rch g ro a) (nb : ¬ Rch h so b) (k n : Nat) (ws : List Nat) :
    Iso (g.upd a (List.replicate n g.z, ws)) (ro.set k a) (h.upd b (List.replicate n h.z, ws)) (so.set k b) (fun x => if x = a then b else φ x) := by
  have hr : ∀ x, Rch (g.upd a (List.replicate n g.z, ws)) (ro.set k a) x → x = a ∨ Rch g ro x := by
    intro x hx
    induction hx with
    | root h1 h2 =>
      rcases mem_set_sub h1 with h1 | h1
      · exact .inr (.root h1 h2)
      · exact .inl h1
    | step h1 h2 h3 h4 ih =>
      rename_i c d rs ws2
      by_cases hc : c = a
      · subst hc
        rw [upd_same] at h2
        cases h2
        exact absurd (List.eq_of_mem_replicate h3) h4
      · rw [upd_ne _ _ hc] at h2
        rcases ih with ih | ih
        · exact absurd ih hc
        · exact .inr (.step ih h2 h3 h4)
  have hne : ∀ x, Rch g ro x → x ≠ a := fun x hx e => na (e ▸ hx)
  have hza : g.z ≠ a := fun e => ha e.symm
  refine ⟨by show (if g.z = a then b else φ g.z) = h.z; rw [if_neg hza]; exact i.z, ?_, fun x hx => ?_, fun x y hx hy e => ?_⟩
  · rw [i.roots, List.map_set]
    show (ro.map φ).set k b = (ro.map fun x => if x = a then b else φ x).set k (if a = a then b else φ a)
    rw [if_pos rfl]
    apply List.ext_getElem?
    intro j
    rw [List.getElem?_set, List.getElem?_set]
    split
    · simp
    · rw [List.getElem?_map, List.getElem?_map]
      cases hj : ro[j]? with
      | none => rfl
      | some x =>
        show some (φ x) = some (if x = a then b else φ x)
        have hxr : x ∈ ro := List.mem_of_getElem? hj
        have : x ≠ a := fun e => na (e ▸ .root hxr (e ▸ ha))
        rw [if_neg this]
  · show (if x = a then b else φ x) ≠ h.z ∧ ∃ rs ws', (g.upd a (List.replicate n g.z, ws)).at_ x = some (rs, ws') ∧ (h.upd b (List.replicate n h.z, ws)).at_ (if x = a then b else φ x) = some (rs.map (fun x => if x = a then b else φ x), ws')
    rcases hr x hx with hxa | hx'
    · rw [if_pos hxa, hxa]
      refine ⟨hb, List.replicate n g.z, ws, upd_same _ _ _, ?_⟩
      rw [upd_same, List.map_replicate, if_neg hza, i.z]
    · rw [if_neg (hne x hx')]
      obtain ⟨n1, rs, ws', e1, e2⟩ := i.at_ x hx'
      refine ⟨n1, rs, ws', by rw [upd_ne _ _ (hne x hx')]; exact e1, ?_⟩
      rw [upd_ne _ _ (fun e => nb (by rw [← e]; exact i.fwd hx')), e2]
      congr 2
      refine List.map_congr_left (fun y hy => ?_)
      by_cases hyz : y = g.z
      · rw [hyz, if_neg hza]
      · rw [if_neg (hne y (.step hx' e1 hy hyz))]
  · have e' : (if x = a then b else φ x) = (if y = a then b else φ y) := e
    rcases hr x hx with hxa | hx' <;> rcases hr y hy with hya | hy'
    · rw [hxa, hya]
    · rw [if_pos hxa, if_neg (hne y hy')] at e'
      exact absurd (by rw [e']; exact i.fwd hy') nb
    · rw [if_neg (hne x hx'), if_pos hya] at e'
      exact absurd (by rw [← e']; exact i.fwd hx') nb
    · rw [if_neg (hne x hx'), if_neg (hne y hy')] at e'
      exact i.inj x y hx' hy' e'
end
end Hp
end Go.Proofs.Ytaapakpanbfmlaa
