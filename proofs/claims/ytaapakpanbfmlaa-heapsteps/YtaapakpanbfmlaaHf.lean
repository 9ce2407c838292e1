/-
  What each step does to a graph and its places, in plain mathematics; two graphs that are the same answer the same.
-/
import Derived.Test.YtaapakpanbfmlaaRa
namespace Go.Proofs.Ytaapakpanbfmlaa
namespace Hp
open Rs
set_option linter.unusedVariables false
set_option linter.unusedSectionVars false
section
variable {α β : Type} [DecidableEq α] [DecidableEq β]
/-- The words of a thing. -/
def szG (g : Gr α) (a : α) : Nat := match g.at_ a with
  | some (rs, ws) => 2 + rs.length + ws.length
  | none => 0
/-- So many words can be reached. -/
def Wds (g : Gr α) (ro : List α) (m : Nat) : Prop := ∃ l : List α, l.Nodup ∧ (∀ a, a ∈ l ↔ Rch g ro a) ∧ m = (l.map (szG g)).sum
theorem Wds.eq {g : Gr α} {ro : List α} {m n : Nat} (h : Wds g ro m) (k : Wds g ro n) : m = n := by
  obtain ⟨l, h1, h2, rfl⟩ := h
  obtain ⟨l', k1, k2, rfl⟩ := k
  have hp : l.Perm l' := (List.perm_ext_iff_of_nodup h1 k1).2 (fun a => (h2 a).trans (k2 a).symm)
  exact (hp.map _).sum_nat
theorem Wds.iso {g : Gr α} {ro : List α} {h : Gr β} {so : List β} {φ : α → β} (i : Iso g ro h so φ) {m : Nat} (w : Wds g ro m) : Wds h so m := by
  obtain ⟨l, h1, h2, rfl⟩ := w
  refine ⟨l.map φ, ?_, fun b => ?_, ?_⟩
  · refine List.pairwise_map.2 (List.Pairwise.imp_of_mem (fun {a b} ha hb hab e => hab ?_) h1)
    exact i.inj _ _ ((h2 a).1 ha) ((h2 b).1 hb) e
  · rw [List.mem_map]
    constructor
    · rintro ⟨a, ha, rfl⟩
      exact i.fwd ((h2 a).1 ha)
    · intro hb
      obtain ⟨a, ha, rfl⟩ := i.back hb
      exact ⟨a, (h2 a).2 ha, rfl⟩
  · rw [List.map_map]
    congr 1
    refine List.map_congr_left (fun a ha => ?_)
    obtain ⟨_, rs, ws, e1, e2⟩ := i.at_ a ((h2 a).1 ha)
    show szG g a = szG h (φ a)
    unfold szG
    rw [e1, e2]
    simp
/-- The steps. -/
inductive Opn
  | make (k r q : Int)
  | copy (a b : Int)
  | drop (a : Int)
  | put (a k f : Int)
  | get (t a k : Int)
  | set (a k : Int) (x : Nat)
  | word (a k : Int)
  | same (a b : Int)
  | minor
  | major
/-- What is at a place. -/
def rootG (g : Gr α) (ro : List α) (a : Int) : α := ro.getD a.toNat g.z
/-- The references and words of what is at a place. -/
def refsG (g : Gr α) (ro : List α) (a : Int) : List α := if at16 a = true then match g.at_ (rootG g ro a) with
    | some (rs, _) => rs
    | none => [] else []
def wordsG (g : Gr α) (ro : List α) (a : Int) : List Nat := if at16 a = true then match g.at_ (rootG g ro a) with
    | some (_, ws) => ws
    | none => [] else []
def inG (k : Int) (n : Nat) : Bool := decide (0 ≤ k) && decide (k < (n : Int))
/-- What a step does, of a limit. -/
def Eff (lim : Nat) : Opn → Gr α → List α → Int × Int → Gr α → List α → Prop
  | .drop a, g, ro, ans, g', ro' => g' = g ∧ if at16 a = true then ans = (0, 0) ∧ ro' = ro.set a.toNat g.z else ans = (0, 7) ∧ ro' = ro
  | .copy a b, g, ro, ans, g', ro' => g' = g ∧ if at16 a = true ∧ at16 b = true then ans = (0, 0) ∧ ro' = ro.set a.toNat (rootG g ro b) else ans = (0, 7) ∧ ro' = ro
  | .put a k f, g, ro, ans, g', ro' => ro' = ro ∧ if at16 f = true ∧ inG k (refsG g ro a).length = true then ans = (0, 0) ∧ g' = g.upd (rootG g ro a) ((refsG g ro a).set k.toNat (rootG g ro f), wordsG g ro a) else ans = (0, 7) ∧ g' = g
  | .get t a k, g, ro, ans, g', ro' => g' = g ∧ if at16 t = true ∧ inG k (refsG g ro a).length = true then ans = (0, 0) ∧ ro' = ro.set t.toNat ((refsG g ro a).getD k.toNat g.z) else ans = (0, 7) ∧ ro' = ro
  | .set a k x, g, ro, ans, g', ro' => ro' = ro ∧ if inG k (wordsG g ro a).length = true then ans = (0, 0) ∧ g' = g.upd (rootG g ro a) (refsG g ro a, (wordsG g ro a).set k.toNat x) else ans = (0, 7) ∧ g' = g
  | .word a k, g, ro, ans, g', ro' => g' = g ∧ ro' = ro ∧ if inG k (wordsG g ro a).length = true then ans = (((((wordsG g ro a).getD k.toNat 0 : Nat)) : Int), 0) else ans = (0, 7)
  | .same a b, g, ro, ans, g', ro' => g' = g ∧ ro' = ro ∧ if at16 a = true ∧ at16 b = true then ans = ((if rootG g ro a = rootG g ro b then 1 else 0), 0) else ans = (0, 7)
  | .minor, g, ro, ans, g', ro' => ans = (0, 0) ∧ ∃ ψ, Iso g ro g' ro' ψ
  | .major, g, ro, ans, g', ro' => ∃ m : Nat, Wds g ro m ∧ ans = ((m : Int), 0) ∧ ∃ ψ, Iso g ro g' ro' ψ
  | .make k r q, g, ro, ans, g', ro' => if at16 k = true ∧ 0 ≤ r ∧ 0 ≤ q then ∃ m : Nat, Wds g ro m ∧ if m + (2 + r.toNat + q.toNat) ≤ lim then ans = (0, 0) ∧ ∃ g1 ro1 ψ a, Iso g ro g1 ro1 ψ ∧ a ≠ g1.z ∧ ¬ Rch g1 ro1 a ∧ g' = g1.upd a (List.replicate r.toNat g1.z, List.replicate q.toNat 0) ∧ ro' = ro1.set k.toNat a else ans = (0, 28) ∧ ∃ ψ, Iso g ro g' ro' ψ
    else ans = (0, 7) ∧ g' = g ∧ ro' = ro
/-- What is none has nothing. -/
def Zok (g : Gr α) : Prop := ∀ rs ws, g.at_ g.z = some (rs, ws) → rs = [] ∧ ws = []
theorem rootG_map {g : Gr α} {ro : List α} {h : Gr β} {so : List β} {φ : α → β} (i : Iso g ro h so φ) (a : Int) : rootG h so a = φ (rootG g ro a) := by
  unfold rootG
  rw [i.roots, List.getD_eq_getElem?_getD, List.getD_eq_getElem?_getD, List.getElem?_map]
  cases ro[a.toNat]? with
  | none => exact i.z.symm
  | some x => rfl
theorem root_rch {g : Gr α} {ro : List α} (a : Int) (h : rootG g ro a ≠ g.z) : Rch g ro (rootG g ro a) := by
  unfold rootG at h ⊢
  rw [List.getD_eq_getElem?_getD] at h ⊢
  cases he : ro[a.toNat]? with
  | none => rw [he] at h; exact absurd rfl h
  | some x => rw [he] at h; exact .root (List.mem_of_getElem? he) h
theorem parts_map {g : Gr α} {ro : List α} {h : Gr β} {so : List β} {φ : α → β} (i : Iso g ro h so φ) (zg : Zok g) (zh : Zok h) (a : Int) : refsG h so a = (refsG g ro a).map φ ∧ wordsG h so a = wordsG g ro a ∧ ((refsG g ro a ≠ [] ∨ wordsG g ro a ≠ []) → rootG g ro a ≠ g.z ∧ g.at_ (rootG g ro a) = some (refsG g ro a, wordsG g ro a)) := by
  unfold refsG wordsG
  by_cases ha : at16 a = true
  · rw [if_pos ha, if_pos ha, if_pos ha, if_pos ha, rootG_map i a]
    by_cases hz : rootG g ro a = g.z
    · rw [hz, i.z]
      have e1 : ∀ (x : Option (List α × List Nat)), (∀ rs ws, x = some (rs, ws) → rs = [] ∧ ws = []) → (match x with | some (rs, _) => rs | none => []) = [] ∧ (match x with | some (_, ws) => ws | none => []) = [] := fun x hx => by
        cases x with
        | none => exact ⟨rfl, rfl⟩
        | some y => obtain ⟨rs, ws⟩ := y; obtain ⟨h1, h2⟩ := hx rs ws rfl; exact ⟨h1, h2⟩
      have e2 : ∀ (x : Option (List β × List Nat)), (∀ rs ws, x = some (rs, ws) → rs = [] ∧ ws = []) → (match x with | some (rs, _) => rs | none => []) = [] ∧ (match x with | some (_, ws) => ws | none => []) = [] := fun x hx => by
        cases x with
        | none => exact ⟨rfl, rfl⟩
        | some y => obtain ⟨rs, ws⟩ := y; obtain ⟨h1, h2⟩ := hx rs ws rfl; exact ⟨h1, h2⟩
      rw [(e1 _ zg).1, (e1 _ zg).2, (e2 _ zh).1, (e2 _ zh).2]
      exact ⟨rfl, rfl, fun hh => by rcases hh with hh | hh <;> exact absurd rfl hh⟩
    · obtain ⟨_, rs, ws, e1, e2⟩ := i.at_ _ (root_rch a hz)
      rw [e1, e2]
      exact ⟨rfl, rfl, fun _ => ⟨hz, rfl⟩⟩
  · rw [if_neg ha, if_neg ha, if_neg ha, if_neg ha]
    exact ⟨rfl, rfl, fun hh => by rcases hh with hh | hh <;> exact absurd rfl hh⟩
theorem inG_nat {k : Int} {n : Nat} (h : inG k n = true) : k.toNat < n ∧ 0 ≤ k := by
  unfold inG at h
  simp at h
  omega
theorem ne_of_len {α : Type} {l : List α} {k : Nat} (h : k < l.length) : l ≠ [] := fun e => by rw [e] at h; simp at h
/-- Other roots on both sides. -/
theorem Iso.setRoot {g : Gr α} {ro : List α} {h : Gr β} {so : List β} {φ : α → β} (i : Iso g ro h so φ) (n : Nat) {x : α} (hx : x ≠ g.z → Rch g ro x) : Iso g (ro.set n x) h (so.set n (φ x)) φ := by
  have := i.reroot (ro' := ro.set n x) (fun a ha hn => by
    rcases mem_set_sub ha with h1 | h1
    · exact .root h1 hn
    · rw [h1] at hn ⊢; exact hx hn)
  rw [List.map_set, ← i.roots] at this
  exact this
/-- The same steps of the same graphs: the same answers, the same graphs. -/
theorem Eff.sim {lim : Nat} {op : Opn} {g g' : Gr α} {ro ro' : List α} {h h' : Gr β} {so so' : List β} {φ : α → β} {x y : Int × Int} (i : Iso g ro h so φ) (zg : Zok g) (zh : Zok h) (ef : Eff lim op g ro x g' ro') (eh : Eff lim op h so y h' so') : x = y ∧ ∃ ψ, Iso g' ro' h' so' ψ := by
  cases op with
  | drop a =>
    obtain ⟨rfl, h1⟩ := ef
    obtain ⟨rfl, h2⟩ := eh
    by_cases ha : at16 a = true
    · rw [if_pos ha] at h1 h2
      obtain ⟨rfl, rfl⟩ := h1
      obtain ⟨rfl, rfl⟩ := h2
      refine ⟨rfl, φ, ?_⟩
      have := i.setRoot a.toNat (x := g'.z) (fun h => absurd rfl h)
      rw [i.z] at this; exact this
    · rw [if_neg ha] at h1 h2
      obtain ⟨rfl, rfl⟩ := h1
      obtain ⟨rfl, rfl⟩ := h2
      exact ⟨rfl, φ, i⟩
  | copy a b =>
    obtain ⟨rfl, h1⟩ := ef
    obtain ⟨rfl, h2⟩ := eh
    by_cases ha : at16 a = true ∧ at16 b = true
    · rw [if_pos ha] at h1 h2
      obtain ⟨rfl, rfl⟩ := h1
      obtain ⟨rfl, rfl⟩ := h2
      refine ⟨rfl, φ, ?_⟩
      rw [rootG_map i b]
      exact i.setRoot a.toNat (root_rch b)
    · rw [if_neg ha] at h1 h2
      obtain ⟨rfl, rfl⟩ := h1
      obtain ⟨rfl, rfl⟩ := h2
      exact ⟨rfl, φ, i⟩
  | put a k f =>
    obtain ⟨rfl, h1⟩ := ef
    obtain ⟨rfl, h2⟩ := eh
    obtain ⟨p1, p2, p3⟩ := parts_map i zg zh a
    rw [p1, p2, List.length_map] at h2
    by_cases ha : at16 f = true ∧ inG k (refsG g ro' a).length = true
    · rw [if_pos ha] at h1 h2
      obtain ⟨rfl, rfl⟩ := h1
      obtain ⟨rfl, rfl⟩ := h2
      refine ⟨rfl, φ, ?_⟩
      obtain ⟨q1, q2⟩ := p3 (.inl (ne_of_len (inG_nat ha.2).1))
      have := i.put (root_rch a q1) q2 k.toNat (b := rootG g ro' f) (root_rch f)
      rw [rootG_map i a, rootG_map i f]; exact this
    · rw [if_neg ha] at h1 h2
      obtain ⟨rfl, rfl⟩ := h1
      obtain ⟨rfl, rfl⟩ := h2
      exact ⟨rfl, φ, i⟩
  | get t a k =>
    obtain ⟨rfl, h1⟩ := ef
    obtain ⟨rfl, h2⟩ := eh
    obtain ⟨p1, p2, p3⟩ := parts_map i zg zh a
    rw [p1, List.length_map] at h2
    by_cases ha : at16 t = true ∧ inG k (refsG g' ro a).length = true
    · rw [if_pos ha] at h1 h2
      obtain ⟨rfl, rfl⟩ := h1
      obtain ⟨rfl, rfl⟩ := h2
      refine ⟨rfl, φ, ?_⟩
      have hk := (inG_nat ha.2).1
      obtain ⟨q1, q2⟩ := p3 (.inl (ne_of_len hk))
      have hm : ((refsG g' ro a).map φ).getD k.toNat h'.z = φ ((refsG g' ro a).getD k.toNat g'.z) := by
        rw [List.getD_eq_getElem?_getD, List.getD_eq_getElem?_getD, List.getElem?_map, List.getElem?_eq_getElem hk]; rfl
      rw [hm]
      refine i.setRoot t.toNat (fun hn => .step (root_rch a q1) q2 ?_ hn)
      rw [List.getD_eq_getElem?_getD, List.getElem?_eq_getElem hk]; exact List.getElem_mem hk
    · rw [if_neg ha] at h1 h2
      obtain ⟨rfl, rfl⟩ := h1
      obtain ⟨rfl, rfl⟩ := h2
      exact ⟨rfl, φ, i⟩
  | set a k x =>
    obtain ⟨rfl, h1⟩ := ef
    obtain ⟨rfl, h2⟩ := eh
    obtain ⟨p1, p2, p3⟩ := parts_map i zg zh a
    rw [p1, p2] at h2
    by_cases ha : inG k (wordsG g ro' a).length = true
    · rw [if_pos ha] at h1 h2
      obtain ⟨rfl, rfl⟩ := h1
      obtain ⟨rfl, rfl⟩ := h2
      refine ⟨rfl, φ, ?_⟩
      obtain ⟨q1, q2⟩ := p3 (.inr (ne_of_len (inG_nat ha).1))
      have := i.set (root_rch a q1) q2 ((wordsG g ro' a).set k.toNat x)
      rw [rootG_map i a]; exact this
    · rw [if_neg ha] at h1 h2
      obtain ⟨rfl, rfl⟩ := h1
      obtain ⟨rfl, rfl⟩ := h2
      exact ⟨rfl, φ, i⟩
  | word a k =>
    obtain ⟨rfl, rfl, h1⟩ := ef
    obtain ⟨rfl, rfl, h2⟩ := eh
    obtain ⟨p1, p2, p3⟩ := parts_map i zg zh a
    rw [p2] at h2
    by_cases ha : inG k (wordsG g' ro' a).length = true
    · rw [if_pos ha] at h1 h2
      exact ⟨h1.trans h2.symm, φ, i⟩
    · rw [if_neg ha] at h1 h2
      exact ⟨h1.trans h2.symm, φ, i⟩
  | same a b =>
    obtain ⟨rfl, rfl, h1⟩ := ef
    obtain ⟨rfl, rfl, h2⟩ := eh
    by_cases ha : at16 a = true ∧ at16 b = true
    · rw [if_pos ha] at h1 h2
      refine ⟨?_, φ, i⟩
      rw [h1, h2, rootG_map i a, rootG_map i b]
      congr 1
      by_cases he : rootG g' ro' a = rootG g' ro' b
      · rw [if_pos he, if_pos (by rw [he])]
      · rw [if_neg he, if_neg (fun e => he ?_)]
        by_cases hza : rootG g' ro' a = g'.z
        · by_cases hzb : rootG g' ro' b = g'.z
          · rw [hza, hzb]
          · exact absurd (by rw [← e, hza, i.z]) (i.at_ _ (root_rch b hzb)).1
        · by_cases hzb : rootG g' ro' b = g'.z
          · exact absurd (by rw [e, hzb, i.z]) (i.at_ _ (root_rch a hza)).1
          · exact i.inj _ _ (root_rch a hza) (root_rch b hzb) e
    · rw [if_neg ha] at h1 h2
      exact ⟨h1.trans h2.symm, φ, i⟩
  | minor =>
    obtain ⟨rfl, ψ, j⟩ := ef
    obtain ⟨rfl, χ, k⟩ := eh
    obtain ⟨ψ', j', _⟩ := j.symm
    exact ⟨rfl, _, (j'.trans i).trans k⟩
  | major =>
    obtain ⟨m, hm, rfl, ψ, j⟩ := ef
    obtain ⟨n, hn, rfl, χ, k⟩ := eh
    obtain ⟨ψ', j', _⟩ := j.symm
    rw [(hm.iso i).eq hn]
    exact ⟨rfl, _, (j'.trans i).trans k⟩
  | make k r q =>
    by_cases ha : at16 k = true ∧ 0 ≤ r ∧ 0 ≤ q
    · have ef : (if at16 k = true ∧ 0 ≤ r ∧ 0 ≤ q then _ else _) := ef
      have eh : (if at16 k = true ∧ 0 ≤ r ∧ 0 ≤ q then _ else _) := eh
      rw [if_pos ha] at ef eh
      obtain ⟨m, hm, e1⟩ := ef
      obtain ⟨n, hn, e2⟩ := eh
      have hmn := (hm.iso i).eq hn
      subst hmn
      by_cases hl : m + (2 + r.toNat + q.toNat) ≤ lim
      · rw [if_pos hl] at e1 e2
        obtain ⟨rfl, g1, ro1, ψ, a, j, ha1, ha2, rfl, rfl⟩ := e1
        obtain ⟨rfl, h1, so1, χ, b, k', hb1, hb2, rfl, rfl⟩ := e2
        obtain ⟨ψ', j', _⟩ := j.symm
        have := (j'.trans i).trans k'
        exact ⟨rfl, _, this.made ha1 hb1 ha2 hb2 k.toNat r.toNat (List.replicate q.toNat 0)⟩
      · rw [if_neg hl] at e1 e2
        obtain ⟨rfl, ψ, j⟩ := e1
        obtain ⟨rfl, χ, k'⟩ := e2
        obtain ⟨ψ', j', _⟩ := j.symm
        exact ⟨rfl, _, (j'.trans i).trans k'⟩
    · have ef : (if at16 k = true ∧ 0 ≤ r ∧ 0 ≤ q then _ else _) := ef
      have eh : (if at16 k = true ∧ 0 ≤ r ∧ 0 ≤ q then _ else _) := eh
      rw [if_neg ha] at ef eh
      obtain ⟨rfl, rfl, rfl⟩ := ef
      obtain ⟨rfl, rfl, rfl⟩ := eh
      exact ⟨rfl, φ, i⟩
end
end Hp
end Go.Proofs.Ytaapakpanbfmlaa
