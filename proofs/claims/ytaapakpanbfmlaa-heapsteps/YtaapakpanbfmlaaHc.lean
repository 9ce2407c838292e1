/-
  What the reference reaches, in plain mathematics: a list of what is to be looked at, a table of what was seen; how many words.
-/
import Derived.Test.YtaapakpanbfmlaaMgHb
namespace Go.Proofs.Ytaapakpanbfmlaa
namespace Hp
set_option linter.unusedVariables false
/-- A thing of the reference. -/
structure T where
  refs : List Nat
  words : List Nat
/-- The reference's things as a graph; 0 is none. -/
def grS (L : List T) : Gr Nat := ⟨0, fun k => (L[k]?).map fun t => (t.refs, t.words)⟩
/-- All references lead to things. -/
def Okr (L : List T) (l : List Nat) : Prop := ∀ x ∈ l, x < L.length
structure OkL (L : List T) : Prop where
  refs : ∀ t ∈ L, Okr L t.refs
/-- How far what can be reached has been looked at. -/
structure Dfs (L : List T) (ro : List Nat) (seen : List Bool) (todo : List Nat) : Prop where
  len : seen.length = L.length
  in_ : Okr L todo
  zero : seen.getD 0 false = false
  sound : ∀ x, seen.getD x false = true → Rch (grS L) ro x
  todoR : ∀ x ∈ todo, x ≠ 0 → Rch (grS L) ro x
  roots : ∀ x ∈ ro, x ≠ 0 → seen.getD x false = true ∨ x ∈ todo
  closed : ∀ x t, seen.getD x false = true → L[x]? = some t → ∀ y ∈ t.refs, y ≠ 0 → seen.getD y false = true ∨ y ∈ todo
theorem Dfs.start (L : List T) (ro : List Nat) (h : Okr L ro) : Dfs L ro (List.replicate L.length false) ro := by
  have hf : ∀ x, (List.replicate L.length false).getD x false = false := fun x => by
    rw [List.getD_eq_getElem?_getD, List.getElem?_replicate]; split <;> rfl
  exact ⟨by simp, h, hf 0, fun x hx => (by rw [hf] at hx; cases hx), fun x hx hn => .root hx hn, fun x hx hn => .inr hx, fun x t hx => (by rw [hf] at hx; cases hx)⟩
/-- What is looked at is none, or was seen. -/
theorem Dfs.skip {L : List T} {ro : List Nat} {seen : List Bool} {todo : List Nat} {x : Nat} (h : Dfs L ro seen (todo ++ [x])) (hx : x = 0 ∨ seen.getD x false = true) : Dfs L ro seen todo := by
  refine ⟨h.len, fun y hy => h.in_ y (List.mem_append_left _ hy), h.zero, h.sound, fun y hy hn => h.todoR y (List.mem_append_left _ hy) hn, fun y hy hn => ?_, fun y t hy ht z hz hn => ?_⟩
  · rcases h.roots y hy hn with h1 | h1
    · exact .inl h1
    · rcases List.mem_append.1 h1 with h2 | h2
      · exact .inr h2
      · rw [List.mem_singleton.1 h2] at hn ⊢
        exact .inl (hx.resolve_left hn)
  · rcases h.closed y t hy ht z hz hn with h1 | h1
    · exact .inl h1
    · rcases List.mem_append.1 h1 with h2 | h2
      · exact .inr h2
      · rw [List.mem_singleton.1 h2] at hn ⊢
        exact .inl (hx.resolve_left hn)
theorem getD_set (l : List Bool) (x y : Nat) (hx : x < l.length) : (l.set x true).getD y false = (decide (y = x) || l.getD y false) := by
  rw [List.getD_eq_getElem?_getD, List.getElem?_set, List.getD_eq_getElem?_getD]
  by_cases h : x = y
  · subst h; simp [hx]
  · rw [if_neg h]; simp [show ¬ y = x from fun e => h e.symm]
/-- What is looked at was not seen yet. -/
theorem Dfs.see {L : List T} {ro : List Nat} {seen : List Bool} {todo : List Nat} {x : Nat} {t : T} (h : Dfs L ro seen (todo ++ [x])) (hL : OkL L) (h0 : x ≠ 0) (hs : seen.getD x false = false) (ht : L[x]? = some t) : Dfs L ro (seen.set x true) (todo ++ t.refs) := by
  have hxl : x < L.length := (List.getElem?_eq_some_iff.1 ht).1
  have hxs : x < seen.length := by rw [h.len]; exact hxl
  have hxr : Rch (grS L) ro x := h.todoR x (by simp) h0
  have hat : (grS L).at_ x = some (t.refs, t.words) := by unfold grS; simp [ht]
  have hg := fun y => getD_set seen x y hxs
  refine ⟨by rw [List.length_set]; exact h.len, fun y hy => ?_, ?_, fun y hy => ?_, fun y hy hn => ?_, fun y hy hn => ?_, fun y t2 hy ht2 z hz hn => ?_⟩
  · rcases List.mem_append.1 hy with h1 | h1
    · exact h.in_ y (List.mem_append_left _ h1)
    · exact hL.refs t (List.mem_of_getElem? ht) y h1
  · rw [hg, h.zero]; simp; exact fun e => h0 e.symm
  · rw [hg] at hy
    rcases Bool.or_eq_true _ _ ▸ hy with h1 | h1
    · rw [of_decide_eq_true h1]; exact hxr
    · exact h.sound y h1
  · rcases List.mem_append.1 hy with h1 | h1
    · exact h.todoR y (List.mem_append_left _ h1) hn
    · exact .step hxr hat h1 hn
  · rw [hg]
    rcases h.roots y hy hn with h1 | h1
    · exact .inl (by rw [h1]; simp)
    · rcases List.mem_append.1 h1 with h2 | h2
      · exact .inr (List.mem_append_left _ h2)
      · exact .inl (by simp [List.mem_singleton.1 h2])
  · rw [hg] at hy ⊢
    by_cases hyx : y = x
    · subst hyx
      rw [ht] at ht2
      cases ht2
      exact .inr (List.mem_append_right _ hz)
    · have hy' : seen.getD y false = true := by simpa [hyx] using hy
      rcases h.closed y t2 hy' ht2 z hz hn with h1 | h1
      · exact .inl (by rw [h1]; simp)
      · rcases List.mem_append.1 h1 with h2 | h2
        · exact .inr (List.mem_append_left _ h2)
        · exact .inl (by simp [List.mem_singleton.1 h2])
/-- Nothing is left: what was seen is what can be reached. -/
theorem Dfs.done {L : List T} {ro : List Nat} {seen : List Bool} (h : Dfs L ro seen []) (x : Nat) : seen.getD x false = true ↔ Rch (grS L) ro x := by
  refine ⟨h.sound x, fun hx => ?_⟩
  induction hx with
  | root h1 h2 =>
    rcases h.roots _ h1 h2 with h3 | h3
    · exact h3
    · cases h3
  | step h1 h2 h3 h4 ih =>
    rename_i a b rs ws
    unfold grS at h2
    simp only [Option.map_eq_some_iff, Prod.mk.injEq] at h2
    obtain ⟨t, ht, rfl, rfl⟩ := h2
    rcases h.closed _ t ih ht _ h3 h4 with h5 | h5
    · exact h5
    · cases h5
/-- The references of a thing that was not seen. -/
def cnt (L : List T) (seen : List Bool) (x : Nat) : Nat := if seen.getD x false = true then 0 else ((L[x]?).map fun t => t.refs.length).getD 0
/-- How much is left to be looked at: what is to be, and the references of what was not seen. -/
def left (L : List T) (seen : List Bool) (todo : List Nat) : Nat := todo.length + ((List.range L.length).map (cnt L seen)).sum
theorem sum_less {l : List Nat} (hn : l.Nodup) {f g : Nat → Nat} {x : Nat} (hx : x ∈ l) (h : ∀ y ∈ l, y ≠ x → g y = f y) : (l.map g).sum + f x = (l.map f).sum + g x := by
  induction l with
  | nil => cases hx
  | cons a l ih =>
    rw [List.map_cons, List.map_cons, List.sum_cons, List.sum_cons]
    rw [List.nodup_cons] at hn
    rcases List.mem_cons.1 hx with rfl | hx'
    · have : l.map g = l.map f := List.map_congr_left (fun y hy => h y (List.mem_cons_of_mem _ hy) (fun e => hn.1 (e ▸ hy)))
      rw [this]; omega
    · have hax : a ≠ x := fun e => hn.1 (e ▸ hx')
      have := ih hn.2 hx' (fun y hy => h y (List.mem_cons_of_mem _ hy))
      rw [h a (List.mem_cons_self ..) hax]
      omega
theorem left_see {L : List T} {seen : List Bool} {todo : List Nat} {x : Nat} {t : T} (hl : seen.length = L.length) (hs : seen.getD x false = false) (ht : L[x]? = some t) : left L (seen.set x true) (todo ++ t.refs) + 1 = left L seen (todo ++ [x]) := by
  have hxl : x < L.length := (List.getElem?_eq_some_iff.1 ht).1
  have hg := fun y => getD_set seen x y (by rw [hl]; exact hxl)
  have key := sum_less (l := List.range L.length) List.nodup_range (f := cnt L seen) (g := cnt L (seen.set x true)) (x := x) (List.mem_range.2 hxl) (fun y _ hy => by unfold cnt; rw [hg]; simp [hy])
  have h1 : cnt L seen x = t.refs.length := by unfold cnt; rw [hs, ht]; rfl
  have h2 : cnt L (seen.set x true) x = 0 := by unfold cnt; rw [hg]; simp
  rw [h1, h2] at key
  unfold left
  rw [List.length_append, List.length_append]
  simp only [List.length_cons, List.length_nil]
  omega
end Hp
end Go.Proofs.Ytaapakpanbfmlaa
