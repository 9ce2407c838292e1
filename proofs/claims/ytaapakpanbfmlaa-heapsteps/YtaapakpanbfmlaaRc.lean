/-
  The reference's space: Put, Get, Set, Word.
-/
import Derived.Test.YtaapakpanbfmlaaRb
namespace Go.Proofs.Ytaapakpanbfmlaa
namespace Rs
open Go.RowKit Hp
set_option linter.unusedVariables false
set_option linter.unusedSimpArgs false
theorem flat_apart {α : Type} (f : α → List Nat) : ∀ (L : List α), (L.flatMap f).Nodup → ∀ (i j : Nat) (hi : i < L.length) (hj : j < L.length), i ≠ j → ∀ b ∈ f L[i], b ∉ f L[j]
  | [], _, i, _, hi, _, _, _, _, _ => by simp at hi
  | x :: l, h, i, j, hi, hj, hij, b, hb, hc => by
    rw [List.flatMap_cons, List.nodup_append] at h
    cases i with
    | zero =>
      cases j with
      | zero => exact hij rfl
      | succ j => exact h.2.2 b hb b (List.mem_flatMap.2 ⟨l[j]'(by simpa using hj), List.getElem_mem _, hc⟩) rfl
    | succ i =>
      cases j with
      | zero => exact h.2.2 b hc b (List.mem_flatMap.2 ⟨l[i]'(by simpa using hi), List.getElem_mem _, hb⟩) rfl
      | succ j => exact flat_apart f l h.2.1 i j (by simpa using hi) (by simpa using hj) (by omega) b hb hc
theorem flat_one {α : Type} (f : α → List Nat) {L : List α} (h : (L.flatMap f).Nodup) {i : Nat} (hi : i < L.length) : (f L[i]).Nodup := by
  induction L generalizing i with
  | nil => simp at hi
  | cons x l ih =>
    rw [List.flatMap_cons, List.nodup_append] at h
    cases i with
    | zero => exact h.1
    | succ i => exact ih h.2.1 (by simpa using hi)
theorem flat_set {α β : Type} (f : α → List β) : ∀ (L : List α) (i : Nat) (y : α) (hi : i < L.length), f y = f L[i] → (L.set i y).flatMap f = L.flatMap f
  | [], i, _, hi, _ => by simp at hi
  | x :: l, 0, y, _, h => by rw [List.set_cons_zero, List.flatMap_cons, List.flatMap_cons, h]; rfl
  | x :: l, i + 1, y, hi, h => by rw [List.set_cons_succ, List.flatMap_cons, List.flatMap_cons, flat_set f l i y (by simpa using hi) h]
/-- A thing with other references, or other words. -/
def Tv.withRefs (x : Tv) (rs : List Nat) : Tv := ⟨⟨rs, x.t.words⟩, x.rv, x.wv, x.gone⟩
def Tv.withWords (x : Tv) (ws : List Nat) : Tv := ⟨⟨x.t.refs, ws⟩, x.rv, x.wv, x.gone⟩
theorem Sp.fresh {w : World} {B sb rb lim us : Nat} {lv : Value} {L : List Tv} {ro : List Nat} (h : Sp w B sb rb lv L ro lim us) {g : Nat} (hg : g ∈ tblocks L) : g ≠ sb ∧ g ≠ rb ∧ g ∉ lv.ownBlock.toList := by
  have hap := h.apart
  rw [List.nodup_cons, List.nodup_cons, List.nodup_append] at hap
  refine ⟨fun e => hap.1 (by rw [← e]; exact List.mem_cons_of_mem _ (List.mem_append_right _ hg)), fun e => hap.2.1 (by rw [← e]; exact List.mem_append_right _ hg), fun hm => hap.2.2.2.2 g hm g hg rfl⟩
theorem Sp.tnodup {w : World} {B sb rb lim us : Nat} {lv : Value} {L : List Tv} {ro : List Nat} (h : Sp w B sb rb lv L ro lim us) : (tblocks L).Nodup := by
  have hap := h.apart
  rw [List.nodup_cons, List.nodup_cons, List.nodup_append] at hap
  exact hap.2.2.2.1
/-- A reference of a thing is another. -/
theorem Sp.setRef {w : World} {B sb rb lim us : Nat} {lv : Value} {L : List Tv} {ro : List Nat} (h : Sp w B sb rb lv L ro lim us) {x i : Nat} (hx : x < L.length) (hi : i < (L[x]).t.refs.length) (y : Nat) :
    ∃ g, (L[x]).rv = .slice (some ⟨g, 0, none⟩) (L[x]).t.refs.length (L[x]).t.refs.length ∧ g ∈ tblocks L ∧ w.cell? ⟨g, i, none⟩ = some (.int .i64 (((L[x]).t.refs.getD i 0 : Nat) : Int)) ∧ w.frozen? ⟨g, i, none⟩ = false ∧
      Sp (w.setCell ⟨g, i, none⟩ (.int .i64 (y : Int))) B sb rb lv (L.set x ((L[x]).withRefs ((L[x]).t.refs.set i y))) ro lim us := by
  have hxm := List.getElem_mem hx
  rcases (h.t _ hxm).1 with ⟨_, h0⟩ | ⟨g, hv, hg⟩
  · rw [h0] at hi; simp at hi
  · have hgx : g ∈ (L[x]).rv.ownBlock.toList := by rw [hv]; simp [Value.ownBlock]
    have hgt : g ∈ tblocks L := List.mem_flatMap.2 ⟨_, hxm, List.mem_append_left _ hgx⟩
    obtain ⟨n1, n2, n3⟩ := h.fresh hgt
    have hf : Fr [g] w (w.setCell ⟨g, i, none⟩ (.int .i64 (y : Int))) := (Fr.refl [g] w).set (by simp) _
    have hone := flat_one (fun x : Tv => x.rv.ownBlock.toList ++ x.wv.ownBlock.toList) h.tnodup hx
    rw [List.nodup_append] at hone
    refine ⟨g, hv, hgt, ?_, ?_, ?_, ?_, h.rl, ?_, fun z hz => ?_, ?_⟩
    · rw [cell_of_row w g i _ 3 (0, 0) hg]; simp [List.getD_eq_getElem?_getD, hi]
    · unfold World.frozen?; rw [hg]; simp
    · rw [hf.block sb (Array.getElem?_eq_some_iff.1 h.b).1 (by simp; exact fun e => n1 e.symm)]; exact h.b
    · rw [hf.block rb (Array.getElem?_eq_some_iff.1 h.r).1 (by simp; exact fun e => n2 e.symm)]; exact h.r
    · rw [List.length_set, flat_set Tv.cells L x ((L[x]).withRefs ((L[x]).t.refs.set i y)) hx rfl]
      exact row_kept h.l hf (fun b hb e => n3 (by rw [List.mem_singleton] at e; rw [← e]; exact hb))
    · obtain ⟨k, hk, rfl⟩ := List.getElem_of_mem hz
      have hk' : k < L.length := by rw [List.length_set] at hk; exact hk
      by_cases hkx : k = x
      · subst hkx
        rw [List.getElem_set_self]
        refine ⟨.inr ⟨g, ?_, ?_⟩, (h.t _ hxm).2.kept hf (fun b hb e => hone.2.2 g hgx b hb (by rw [List.mem_singleton] at e; exact e.symm))⟩
        · show (L[k]).rv = _; rw [hv]; simp [Tv.withRefs]
        · rw [heap_setCell_same w g i _ 3 _ hg]
          simp [Tv.withRefs, List.map_set]
      · rw [List.getElem_set_ne (fun e => hkx e.symm)]
        have hno : ∀ b ∈ (L[k]).rv.ownBlock.toList ++ (L[k]).wv.ownBlock.toList, b ∉ [g] := fun b hb e => by
          rw [List.mem_singleton] at e
          exact flat_apart (fun x : Tv => x.rv.ownBlock.toList ++ x.wv.ownBlock.toList) L h.tnodup k x hk' hx hkx b hb (by rw [e]; exact List.mem_append_left _ hgx)
        exact ⟨(h.t _ (List.getElem_mem hk')).1.kept hf (fun b hb => hno b (List.mem_append_left _ hb)), (h.t _ (List.getElem_mem hk')).2.kept hf (fun b hb => hno b (List.mem_append_right _ hb))⟩
    · have : tblocks (L.set x ((L[x]).withRefs ((L[x]).t.refs.set i y))) = tblocks L := flat_set _ L x _ hx rfl
      rw [this]; exact h.apart
/-- A word of a thing is another. -/
theorem Sp.setWord {w : World} {B sb rb lim us : Nat} {lv : Value} {L : List Tv} {ro : List Nat} (h : Sp w B sb rb lv L ro lim us) {x i : Nat} (hx : x < L.length) (hi : i < (L[x]).t.words.length) (y : Nat) :
    ∃ g, (L[x]).wv = .slice (some ⟨g, 0, none⟩) (L[x]).t.words.length (L[x]).t.words.length ∧ g ∈ tblocks L ∧ w.cell? ⟨g, i, none⟩ = some (.int .u64 (((L[x]).t.words.getD i 0 : Nat) : Int)) ∧ w.frozen? ⟨g, i, none⟩ = false ∧
      Sp (w.setCell ⟨g, i, none⟩ (.int .u64 (y : Int))) B sb rb lv (L.set x ((L[x]).withWords ((L[x]).t.words.set i y))) ro lim us := by
  have hxm := List.getElem_mem hx
  rcases (h.t _ hxm).2 with ⟨_, h0⟩ | ⟨g, hv, hg⟩
  · rw [h0] at hi; simp at hi
  · have hgx : g ∈ (L[x]).wv.ownBlock.toList := by rw [hv]; simp [Value.ownBlock]
    have hgt : g ∈ tblocks L := List.mem_flatMap.2 ⟨_, hxm, List.mem_append_right _ hgx⟩
    obtain ⟨n1, n2, n3⟩ := h.fresh hgt
    have hf : Fr [g] w (w.setCell ⟨g, i, none⟩ (.int .u64 (y : Int))) := (Fr.refl [g] w).set (by simp) _
    have hone := flat_one (fun x : Tv => x.rv.ownBlock.toList ++ x.wv.ownBlock.toList) h.tnodup hx
    rw [List.nodup_append] at hone
    refine ⟨g, hv, hgt, ?_, ?_, ?_, ?_, h.rl, ?_, fun z hz => ?_, ?_⟩
    · rw [cell_of_row w g i _ 30 (0, 0) hg]; simp [List.getD_eq_getElem?_getD, hi]
    · unfold World.frozen?; rw [hg]; simp
    · rw [hf.block sb (Array.getElem?_eq_some_iff.1 h.b).1 (by simp; exact fun e => n1 e.symm)]; exact h.b
    · rw [hf.block rb (Array.getElem?_eq_some_iff.1 h.r).1 (by simp; exact fun e => n2 e.symm)]; exact h.r
    · rw [List.length_set, flat_set Tv.cells L x ((L[x]).withWords ((L[x]).t.words.set i y)) hx rfl]
      exact row_kept h.l hf (fun b hb e => n3 (by rw [List.mem_singleton] at e; rw [← e]; exact hb))
    · obtain ⟨k, hk, rfl⟩ := List.getElem_of_mem hz
      have hk' : k < L.length := by rw [List.length_set] at hk; exact hk
      by_cases hkx : k = x
      · subst hkx
        rw [List.getElem_set_self]
        refine ⟨(h.t _ hxm).1.kept hf (fun b hb e => hone.2.2 b hb g hgx (by rw [List.mem_singleton] at e; exact e)), .inr ⟨g, ?_, ?_⟩⟩
        · show (L[k]).wv = _; rw [hv]; simp [Tv.withWords]
        · rw [heap_setCell_same w g i _ 30 _ hg]
          simp [Tv.withWords, List.map_set]
      · rw [List.getElem_set_ne (fun e => hkx e.symm)]
        have hno : ∀ b ∈ (L[k]).rv.ownBlock.toList ++ (L[k]).wv.ownBlock.toList, b ∉ [g] := fun b hb e => by
          rw [List.mem_singleton] at e
          exact flat_apart (fun x : Tv => x.rv.ownBlock.toList ++ x.wv.ownBlock.toList) L h.tnodup k x hk' hx hkx b hb (by rw [e]; exact List.mem_append_right _ hgx)
        exact ⟨(h.t _ (List.getElem_mem hk')).1.kept hf (fun b hb => hno b (List.mem_append_left _ hb)), (h.t _ (List.getElem_mem hk')).2.kept hf (fun b hb => hno b (List.mem_append_right _ hb))⟩
    · have : tblocks (L.set x ((L[x]).withWords ((L[x]).t.words.set i y))) = tblocks L := flat_set _ L x _ hx rfl
      rw [this]; exact h.apart
end Rs
end Go.Proofs.Ytaapakpanbfmlaa
