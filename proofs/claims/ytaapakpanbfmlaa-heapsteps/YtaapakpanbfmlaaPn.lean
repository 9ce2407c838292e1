/-
  While things move: what is in memory, and what it stands for.
-/
import Derived.Test.YtaapakpanbfmlaaPm
namespace Go.Proofs.Ytaapakpanbfmlaa
namespace Rs
open Go.RowKit Hp
set_option linter.unusedVariables false
set_option linter.unusedSimpArgs false
/-- What a thing says. -/
def absT (t : Tp) : List Int × List Nat := (t.r.xs, t.q.xs.map Int.toNat)
/-- What is fixed while things move: the graph as it was; what may move; all, or the young alone; where references may lead. -/
structure Gf where
  gs : Gr Int
  ok : Int → Prop
  all : Bool
  dom : List Int
structure Co (c : Cf) (w : World) (s : St) (G : Gf) (loc : Int → Int) (ord : List Int) (P : Nat → Nat → Prop) : Prop where
  cl : Cl c w s
  gc : Gc G.gs loc ((s.l .o).map absT) P
  lo : ∀ (r : Int) (i : Nat), ord[i]? = some r ↔ loc r = (i : Int) + 1
  on : ord.length = (s.l .o).length
  ty : ∀ j, (s.l .y)[j]? = (s.F (refOf .y j)).map fun t => ⟨t.r, t.q, loc (refOf .y j)⟩
  tz : G.all = true → ∀ j, (s.l .z)[j]? = (s.F (refOf .z j)).map fun t => ⟨t.r, t.q, loc (refOf .z j)⟩
  tn : ∀ i : Nat, (s.l .o)[i]? = (ord[i]?).bind fun r => (s.F r).map fun t => ⟨t.r, t.q, 0⟩
  un : ∀ r, r ≠ 0 → loc r = 0 → (s.F r).map absT = G.gs.at_ r
  okm : ∀ r ∈ ord, G.ok r
  okd : ∀ r, G.ok r → r ≠ 0 ∧ r ∈ G.dom ∧ (s.F r).isSome = true
  F0 : s.F 0 = none
  szs : ∀ r t, s.F r = some t → t.r.xs.length ≤ 32768 ∧ t.q.xs.length ≤ 32768
  ow : s.ow = ((s.l .o).map Tp.sz).sum
  yw : s.yw ≤ 1099511627776
  cap : G.dom.length ≤ 65536
  Pn : ∀ i k, P i k → i < (s.l .o).length
  pre : G.all = false → ∀ r, 0 < r → G.ok r → loc r = r
  tl : ∀ d, d ≠ .o → (s.l d).length ≤ 16777216
  z0 : G.all = false → s.l .z = []
  qs : ∀ r t, s.F r = some t → ∀ x ∈ t.q.xs, 0 ≤ x
/-- What stays while things move. -/
structure Le (s s' : St) (loc loc' : Int → Int) : Prop where
  loc : ∀ r, loc r ≠ 0 → loc' r = loc r
  ro : s'.ro = s.ro
  vy : s'.v .y = s.v .y
  vz : s'.v .z = s.v .z
  cv : s'.cv = s.cv
  C : s'.C = s.C
  sp : s'.sp = s.sp
  yw : s'.yw = s.yw
  n : (s.l .o).length ≤ (s'.l .o).length
theorem Le.refl (s : St) (loc : Int → Int) : Le s s loc loc := ⟨fun _ _ => rfl, rfl, rfl, rfl, rfl, rfl, rfl, rfl, Nat.le_refl _⟩
theorem Le.trans {a b d : St} {l1 l2 l3 : Int → Int} (h : Le a b l1 l2) (g : Le b d l2 l3) : Le a d l1 l3 :=
  ⟨fun r hr => by rw [g.loc r (by rw [h.loc r hr]; exact hr), h.loc r hr], g.ro.trans h.ro, g.vy.trans h.vy, g.vz.trans h.vz, g.cv.trans h.cv, g.C.trans h.C, g.sp.trans h.sp, g.yw.trans h.yw, Nat.le_trans h.n g.n⟩
theorem Ev.keeps {c : Cf} {w w' : World} {s s' : St} (h : Ev c w s w' s') {b : Nat} (hb : b < w.heap.size) (hn : ∀ p, b ∉ s.bl c p) : w'.heap[b]? = w.heap[b]? ∧ ∀ p, b ∉ s'.bl c p :=
  ⟨h.block b hb hn, fun p hp => by
    rcases h.fp p b hp with ⟨p0, h0⟩ | h0
    · exact hn p0 h0
    · omega⟩
theorem len_le_of_nodup_subset {α : Type} [DecidableEq α] : ∀ (l l' : List α), l.Nodup → (∀ x ∈ l, x ∈ l') → l.length ≤ l'.length
  | [], _, _, _ => by simp
  | a :: t, l', hn, hs => by
    rw [List.nodup_cons] at hn
    have ha : a ∈ l' := hs a (by simp)
    have := len_le_of_nodup_subset t (l'.erase a) hn.2 (fun x hx => (List.mem_erase_of_ne (by intro e; rw [e] at hx; exact hn.1 hx)).2 (hs x (by simp [hx])))
    rw [List.length_erase_of_mem ha] at this
    have := List.length_pos_of_mem ha
    rw [List.length_cons]; omega
theorem moved_same (s : St) {d : Tb} (hd : d ≠ .o) (j : Nat) (v : Value) (t : Tp) : (s.moved d j v t).l d = (s.l d).set j ⟨t.r, t.q, ((s.l .o).length : Int) + 1⟩ := by
  unfold St.moved St.setMv
  simp only [updAt_same, St.add]
  rw [updAt_ne _ _ hd]
theorem moved_ne (s : St) {d e : Tb} (he : e ≠ d) (ho : e ≠ .o) (j : Nat) (v : Value) (t : Tp) : (s.moved d j v t).l e = s.l e := by
  unfold St.moved St.setMv
  simp only [St.add]
  rw [updAt_ne _ _ he, updAt_ne _ _ ho]
theorem moved_o (s : St) {d : Tb} (hd : d ≠ .o) (j : Nat) (v : Value) (t : Tp) : (s.moved d j v t).l .o = s.l .o ++ [⟨t.r, t.q, 0⟩] := by
  unfold St.moved St.setMv
  simp only [St.add]
  rw [updAt_ne _ _ (fun e => hd e.symm), updAt_same]
theorem moved_F (s : St) (d : Tb) (j : Nat) (v : Value) (t : Tp) : (s.moved d j v t).F = s.F := rfl
section
variable {c : Cf} {w : World} {s : St} {G : Gf} {loc : Int → Int} {ord : List Int} {P : Nat → Nat → Prop}
theorem Co.nodup (h : Co c w s G loc ord P) : ord.Nodup := by
  rw [List.nodup_iff_pairwise_ne, List.pairwise_iff_getElem]
  intro i j hi hj hij e
  have h1 := (h.lo ord[i] i).1 (List.getElem?_eq_getElem hi)
  have h2 := (h.lo ord[j] j).1 (List.getElem?_eq_getElem hj)
  rw [e, h2] at h1
  omega
theorem Co.len (h : Co c w s G loc ord P) : (s.l .o).length ≤ G.dom.length := by
  rw [← h.on]
  exact len_le_of_nodup_subset ord G.dom h.nodup (fun r hr => (h.okd r (h.okm r hr)).2.1)
theorem Co.loc_nonneg (h : Co c w s G loc ord P) (r : Int) : 0 ≤ loc r := by
  by_cases h0 : loc r = 0
  · omega
  · exact Int.le_of_lt (h.gc.rng r h0).1
theorem Co.owb (h : Co c w s G loc ord P) : s.ow ≤ 1099511627776 := by
  have h1 := h.len
  have h2 := h.cap
  have : ∀ (l : List Tp), (∀ t ∈ l, t.sz ≤ 65538) → (l.map Tp.sz).sum ≤ l.length * 65538 := by
    intro l hl
    induction l with
    | nil => simp
    | cons a l ih =>
      rw [List.map_cons, List.sum_cons, List.length_cons]
      have := ih (fun t ht => hl t (by simp [ht]))
      have := hl a (by simp)
      omega
  have h3 := this (s.l .o) (fun t ht => by
    obtain ⟨i, hi, rfl⟩ := List.getElem_of_mem ht
    have he := h.tn i
    rw [List.getElem?_eq_getElem hi] at he
    cases ho : ord[i]? with
    | none => rw [ho] at he; simp at he
    | some r =>
      rw [ho] at he
      cases hF : s.F r with
      | none => simp [hF] at he
      | some t =>
        simp [hF] at he
        obtain ⟨a1, a2⟩ := h.szs r t hF
        rw [he]
        show 2 + t.r.xs.length + t.q.xs.length ≤ _
        omega)
  rw [h.ow]; omega
/-- The thing of a number that has not moved goes. -/
theorem Co.go (h : Co c w s G loc ord P) {d : Tb} (hd : d = .y ∨ (d = .z ∧ G.all = true)) {j : Nat} {t : Tp} {v : Value} {w' : World} (hF : s.F (refOf d j) = some t) (hl : loc (refOf d j) = 0) (hok : G.ok (refOf d j)) (hcl : Cl c w' (s.moved d j v ⟨t.r, t.q, 0⟩)) :
    Co c w' (s.moved d j v ⟨t.r, t.q, 0⟩) G (fun r => if r = refOf d j then ((s.l .o).length : Int) + 1 else loc r) (ord ++ [refOf d j]) P := by
  have hx0 : refOf d j ≠ 0 := (h.okd _ hok).1
  have hgs : G.gs.at_ (refOf d j) = some (t.r.xs, t.q.xs.map Int.toNat) := by rw [← h.un _ hx0 hl, hF]; rfl
  have hmv := h.gc.move hx0 hl hgs (fun k hp => by have := h.Pn _ k hp; simp at this)
  rw [List.length_map] at hmv
  have hdo : d ≠ .o := by rcases hd with rfl | ⟨rfl, _⟩ <;> simp
  have hlo := moved_o s hdo j v ⟨t.r, t.q, 0⟩
  have hne : ∀ r, loc r ≠ 0 → r ≠ refOf d j := fun r hr e => hr (e ▸ hl)
  have hlen : ord.length = (s.l .o).length := h.on
  refine ⟨hcl, ?_, fun r i => ?_, ?_, fun i => ?_, fun ha i => ?_, fun i => ?_, fun r hr h0 => ?_, fun r hr => ?_, h.okd, h.F0, h.szs, ?_, h.yw, h.cap, fun i k hp => ?_, fun ha r hr hk => ?_, fun e he => ?_, fun ha => ?_, h.qs⟩
  · rw [hlo, List.map_append]; exact hmv
  · by_cases hi : i < ord.length
    · rw [List.getElem?_append_left hi, h.lo r i]
      by_cases hr : r = refOf d j
      · rw [if_pos hr, hr, hl]; omega
      · rw [if_neg hr]
    · rw [List.getElem?_append_right (by omega)]
      by_cases hr : r = refOf d j
      · rw [if_pos hr, hr]
        by_cases hi2 : i = ord.length
        · subst hi2; simp; omega
        · rw [List.getElem?_eq_none_iff.2 (by simp; omega)]; simp; omega
      · rw [if_neg hr]
        constructor
        · intro e
          by_cases hi2 : i = ord.length
          · subst hi2; simp at e; exact absurd e.symm hr
          · rw [List.getElem?_eq_none_iff.2 (by simp; omega)] at e; cases e
        · intro e
          have := (h.lo r i).2 e
          exact absurd (List.getElem?_eq_some_iff.1 this).1 hi
  · rw [hlo]; simp [hlen]
  · rw [moved_F]
    by_cases hyd : Tb.y = d
    · subst hyd
      rw [moved_same s hdo, List.getElem?_set]
      by_cases hij : j = i
      · subst hij
        have := h.ty j
        rw [hF] at this
        have hlt := (List.getElem?_eq_some_iff.1 this).1
        rw [if_pos rfl, if_pos hlt, hF]; simp
      · rw [if_neg hij, h.ty i]
        have : refOf .y i ≠ refOf .y j := by unfold refOf; simp only; omega
        rw [if_neg this]
    · rw [moved_ne s hyd (by simp), h.ty i]
      have : refOf .y i ≠ refOf d j := by
        cases d with
        | y => exact absurd rfl hyd
        | o => unfold refOf; simp only; omega
        | z => unfold refOf; simp only; omega
      rw [if_neg this]
  · rw [moved_F]
    by_cases hyd : Tb.z = d
    · subst hyd
      rw [moved_same s hdo, List.getElem?_set]
      by_cases hij : j = i
      · subst hij
        have := h.tz ha j
        rw [hF] at this
        have hlt := (List.getElem?_eq_some_iff.1 this).1
        rw [if_pos rfl, if_pos hlt, hF]; simp
      · rw [if_neg hij, h.tz ha i]
        have : refOf .z i ≠ refOf .z j := by unfold refOf; simp only; omega
        rw [if_neg this]
    · rw [moved_ne s hyd (by simp), h.tz ha i]
      have : refOf .z i ≠ refOf d j := by
        cases d with
        | z => exact absurd rfl hyd
        | o => exact absurd rfl hdo
        | y => unfold refOf; simp only; omega
      rw [if_neg this]
  · rw [hlo, moved_F]
    by_cases hi : i < ord.length
    · rw [List.getElem?_append_left hi, List.getElem?_append_left (by omega)]; exact h.tn i
    · rw [List.getElem?_append_right (by omega), List.getElem?_append_right (by omega), hlen]
      by_cases hi2 : i - (s.l .o).length = 0
      · rw [hi2]; simp [hF]
      · rw [List.getElem?_eq_none_iff.2 (by simp; omega), List.getElem?_eq_none_iff.2 (by simp; omega)]; rfl
  · have h0' : (if r = refOf d j then ((s.l .o).length : Int) + 1 else loc r) = 0 := h0
    by_cases hrr : r = refOf d j
    · rw [if_pos hrr] at h0'; omega
    · rw [if_neg hrr] at h0'; exact h.un r hr h0'
  · rcases List.mem_append.1 hr with hr | hr
    · exact h.okm r hr
    · rw [List.mem_singleton.1 hr]; exact hok
  · rw [hlo]
    show (if Tb.o = Tb.o then s.ow + Tp.sz ⟨t.r, t.q, 0⟩ else s.ow) = _
    rw [if_pos rfl, h.ow]; simp
  · rw [hlo]; have := h.Pn i k hp; simp; omega
  · show (if r = refOf d j then ((s.l .o).length : Int) + 1 else loc r) = r
    have hpr := h.pre ha r hr hk
    rw [if_neg (hne r (by rw [hpr]; omega))]; exact hpr
  · by_cases hed : e = d
    · subst hed; rw [moved_same s hdo, List.length_set]; exact h.tl e he
    · rw [moved_ne s hed he]; exact h.tl e he
  · by_cases hzd : Tb.z = d
    · subst hzd
      rcases hd with e | ⟨_, e⟩
      · cases e
      · rw [ha] at e; cases e
    · rw [moved_ne s hzd (by simp)]; exact h.z0 ha
theorem Le.moved (h : Co c w s G loc ord P) {d : Tb} {j : Nat} {t : Tp} {v : Value} (hd : d ≠ .o) (hl : loc (refOf d j) = 0) : Le s (s.moved d j v ⟨t.r, t.q, 0⟩) loc (fun r => if r = refOf d j then ((s.l .o).length : Int) + 1 else loc r) := by
  refine ⟨fun r hr => if_neg (by intro e; rw [e] at hr; exact hr hl), rfl, ?_, ?_, rfl, rfl, rfl, rfl, ?_⟩
  · show updAt s.v .o v .y = _; rw [updAt_ne _ _ (by simp)]
  · show updAt s.v .o v .z = _; rw [updAt_ne _ _ (by simp)]
  · rw [moved_o s hd]; simp
end
end Rs
end Go.Proofs.Ytaapakpanbfmlaa
