/-
  While things move: a reference of a thing that has moved is turned.
-/
import Derived.Test.YtaapakpanbfmlaaPp
namespace Go.Proofs.Ytaapakpanbfmlaa
namespace Rs
open Go.RowKit Hp
set_option linter.unusedVariables false
set_option linter.unusedSimpArgs false
section
variable {c : Cf} {w : World} {s : St} {G : Gf} {loc : Int → Int} {ord : List Int} {P : Nat → Nat → Prop}
/-- The thing that r names has other values in its row, of the same blocks. -/
def St.turnd (s : St) (loc : Int → Int) (j : Nat) (r : Int) (t : Tp) : St :=
  { s with F := updAt s.F r (some t), l := fun d => match d with
    | .o => (s.l .o).set j ⟨t.r, t.q, 0⟩
    | .y => if r < 0 then (s.l .y).set (-r - 1).toNat ⟨t.r, t.q, loc r⟩ else s.l .y
    | .z => if 0 < r then (s.l .z).set (r - 1).toNat ⟨t.r, t.q, loc r⟩ else s.l .z }
theorem ref_y {r : Int} (h : r < 0) : refOf .y (-r - 1).toNat = r := by unfold refOf; simp only; omega
theorem ref_z {r : Int} (h : 0 < r) : refOf .z (r - 1).toNat = r := by unfold refOf; simp only; omega
theorem flat_set' {L : List Tp} {i : Nat} {t y : Tp} (h : L[i]? = some t) (he : y.cells = t.cells) : (L.set i y).flatMap Tp.cells = L.flatMap Tp.cells := by
  obtain ⟨hi, e⟩ := List.getElem?_eq_some_iff.1 h
  exact flat_set Tp.cells L i y hi (by rw [he, e])
theorem cells_xs {a b : Rv} (q : Rv) (m : Int) (h1 : a.xs.length = b.xs.length) (h2 : a.sv = b.sv) (h3 : a.pv = b.pv) : (⟨a, q, m⟩ : Tp).cells = (⟨b, q, m⟩ : Tp).cells := by unfold Tp.cells; simp [h1, h2, h3]
theorem Co.at_o (h : Co c w s G loc ord P) {j : Nat} {r : Int} {t : Tp} (ho : ord[j]? = some r) (hF : s.F r = some t) : (s.l .o)[j]? = some ⟨t.r, t.q, 0⟩ := by
  rw [h.tn j, ho]; simp [hF]
theorem Co.turn1 (h : Co c w s G loc ord P) {j k g : Nat} {r x : Int} {t : Tp} {w' : World} (ho : ord[j]? = some r) (hF : s.F r = some t) (hk : t.r.xs[k]? = some x) (hp : ¬ P j k) (hx : x = 0 ∨ loc x ≠ 0)
    (hrow : RowIs .i64 55 121 w' (t.r.put k (loc x))) (hfr : Fr [g] w w') (hg : g ∈ t.r.own) (P' : Nat → Nat → Prop) (hP : ∀ a b, P' a b ↔ P a b ∨ (a = j ∧ b = k)) :
    Co c w' (s.turnd loc j r ⟨t.r.put k (loc x), t.q, t.mv⟩) G loc ord P' ∧ Ev c w s w' (s.turnd loc j r ⟨t.r.put k (loc x), t.q, t.mv⟩) := by
  have hjo := h.at_o ho hF
  have hjl := (List.getElem?_eq_some_iff.1 hjo).1
  have hlr : loc r = (j : Int) + 1 := (h.lo r j).1 ho
  have hr0 : r ≠ 0 := fun e => by rw [e, h.F0] at hF; cases hF
  have hlen : (t.r.put k (loc x)).xs.length = t.r.xs.length := by simp [Rv.put]
  have hce : ∀ m, (⟨t.r.put k (loc x), t.q, m⟩ : Tp).cells = (⟨t.r, t.q, m⟩ : Tp).cells := fun m => cells_xs _ _ hlen rfl rfl
  have hty : r < 0 → (s.l .y)[(-r - 1).toNat]? = some ⟨t.r, t.q, loc r⟩ := fun hr => by rw [h.ty, ref_y hr, hF]; rfl
  have htz : 0 < r → G.all = true → (s.l .z)[(r - 1).toNat]? = some ⟨t.r, t.q, loc r⟩ := fun hr ha => by rw [h.tz ha, ref_z hr, hF]; rfl
  have hflat : ∀ d, ((s.turnd loc j r ⟨t.r.put k (loc x), t.q, t.mv⟩).l d).flatMap Tp.cells = (s.l d).flatMap Tp.cells ∧ ((s.turnd loc j r ⟨t.r.put k (loc x), t.q, t.mv⟩).l d).length = (s.l d).length := fun d => by
    cases d with
    | o => exact ⟨flat_set' hjo (hce 0), by show ((s.l .o).set j _).length = _; rw [List.length_set]⟩
    | y =>
      show (List.flatMap Tp.cells (if r < 0 then _ else _)) = _ ∧ (if r < 0 then _ else _ : List Tp).length = _
      by_cases hr : r < 0
      · rw [if_pos hr]
        exact ⟨flat_set' (hty hr) (hce _), by rw [List.length_set]⟩
      · rw [if_neg hr]; exact ⟨rfl, rfl⟩
    | z =>
      show (List.flatMap Tp.cells (if 0 < r then _ else _)) = _ ∧ (if 0 < r then _ else _ : List Tp).length = _
      by_cases hr : 0 < r
      · rw [if_pos hr]
        cases ha : G.all with
        | false => rw [h.z0 ha]; simp
        | true => exact ⟨flat_set' (htz hr ha) (hce _), by rw [List.length_set]⟩
      · rw [if_neg hr]; exact ⟨rfl, rfl⟩
  have hbl : ∀ p, (s.turnd loc j r ⟨t.r.put k (loc x), t.q, t.mv⟩).bl c p = s.bl c p := fun p => by
    cases p with
    | sb => rfl
    | cv => rfl
    | tab d => rfl
    | row y =>
      simp only [St.bl, St.turnd]
      by_cases hy : y = r
      · subst hy; rw [updAt_same, hF]; rfl
      · rw [updAt_ne _ _ hy]
  obtain ⟨n1, n2, n3⟩ := nodup_own h.cl hF
  have hcl : Cl c w' (s.turnd loc j r ⟨t.r.put k (loc x), t.q, t.mv⟩) := by
    refine h.cl.upd (fun p => p = .row r) (fun p hp => ⟨fun hh => ?_, hbl p⟩) (fun p hp b hb => ?_) (fun p hp => ?_) (fun p hp b hb => .inl (by rw [hbl] at hb; exact hb)) (fun p p' hp hp' hne => absurd (hp.trans hp'.symm) hne) hfr.size
    · cases p with
      | sb => exact hh
      | cv => exact hh
      | tab d =>
        show w'.ownsRow c.B 96 9 (s.v d) ((s.turnd loc j r ⟨t.r.put k (loc x), t.q, t.mv⟩).l d).length (((s.turnd loc j r ⟨t.r.put k (loc x), t.q, t.mv⟩).l d).flatMap Tp.cells)
        rw [(hflat d).1, (hflat d).2]; exact hh
      | row y =>
        have hy : y ≠ r := fun e => hp (by rw [e])
        unfold Has at hh ⊢
        simp only [St.turnd]
        rw [updAt_ne _ _ hy]; exact hh
    · refine hfr.block b ((h.cl.has p).lt b hb) (fun e => ?_)
      rw [List.mem_singleton] at e
      refine h.cl.ap p (.row r) hp b hb ?_
      simp only [St.bl]; rw [hF, e]; exact List.mem_append_left _ hg
    · subst hp
      intro t2 ht2
      simp only [St.turnd, updAt_same, Option.some.injEq] at ht2
      subst ht2
      have hq := (h.cl.has (.row r) t hF).2
      refine ⟨hrow, hq.1.kept hfr (fun b hb e => n3 g hg b hb (List.mem_singleton.1 e).symm), hq.2⟩
  refine ⟨⟨hcl, ?_, h.lo, ?_, fun i => ?_, fun ha i => ?_, fun i => ?_, fun y hy hl => ?_, h.okm, fun y hy => ?_, ?_, fun y t2 ht2 => ?_, ?_, h.yw, h.cap, fun a b hab => ?_, h.pre, fun d hd => by rw [(hflat d).2]; exact h.tl d hd, fun ha => ?_, fun y t2 ht2 => ?_⟩, ?_⟩
  · -- the graph
    have hN : ((s.l .o).map absT)[j]? = some (t.r.xs, t.q.xs.map Int.toNat) := by rw [List.getElem?_map, hjo]; rfl
    have := h.gc.turn (P' := P') hN hk hp hx hP
    show Gc G.gs loc (((s.l .o).set j ⟨t.r.put k (loc x), t.q, 0⟩).map absT) P'
    rw [List.map_set]; exact this
  · show ord.length = ((s.l .o).set j _).length; rw [List.length_set]; exact h.on
  · show (if r < 0 then (s.l .y).set (-r - 1).toNat _ else s.l .y)[i]? = (updAt s.F r _ (refOf .y i)).map _
    by_cases hr : r < 0
    · rw [if_pos hr, List.getElem?_set]
      by_cases hi : (-r - 1).toNat = i
      · subst hi
        rw [if_pos rfl, if_pos (List.getElem?_eq_some_iff.1 (hty hr)).1, ref_y hr, updAt_same]; rfl
      · have : refOf .y i ≠ r := by unfold refOf; simp only; omega
        rw [if_neg hi, updAt_ne _ _ this]; exact h.ty i
    · have : refOf .y i ≠ r := by unfold refOf; simp only; omega
      rw [if_neg hr, updAt_ne _ _ this]; exact h.ty i
  · show (if 0 < r then (s.l .z).set (r - 1).toNat _ else s.l .z)[i]? = (updAt s.F r _ (refOf .z i)).map _
    by_cases hr : 0 < r
    · rw [if_pos hr, List.getElem?_set]
      by_cases hi : (r - 1).toNat = i
      · subst hi
        rw [if_pos rfl, if_pos (List.getElem?_eq_some_iff.1 (htz hr ha)).1, ref_z hr, updAt_same]; rfl
      · have : refOf .z i ≠ r := by unfold refOf; simp only; omega
        rw [if_neg hi, updAt_ne _ _ this]; exact h.tz ha i
    · have : refOf .z i ≠ r := by unfold refOf; simp only; omega
      rw [if_neg hr, updAt_ne _ _ this]; exact h.tz ha i
  · show ((s.l .o).set j _)[i]? = _
    rw [List.getElem?_set]
    by_cases hi : j = i
    · subst hi
      rw [if_pos rfl, if_pos hjl, ho]
      simp [St.turnd, updAt_same]
    · rw [if_neg hi, h.tn i]
      cases hoi : ord[i]? with
      | none => rfl
      | some y =>
        have : y ≠ r := fun e => by
          have := (h.lo y i).1 hoi
          rw [e, hlr] at this; omega
        simp only [Option.bind_some, St.turnd]
        rw [updAt_ne _ _ this]
  · have hyr : y ≠ r := fun e => by rw [e, hlr] at hl; omega
    show (updAt s.F r _ y).map absT = _
    rw [updAt_ne _ _ hyr]; exact h.un y hy hl
  · obtain ⟨a1, a2, a3⟩ := h.okd y hy
    refine ⟨a1, a2, ?_⟩
    show (updAt s.F r _ y).isSome = true
    by_cases hyr : y = r
    · subst hyr; rw [updAt_same]; rfl
    · rw [updAt_ne _ _ hyr]; exact a3
  · show updAt s.F r _ 0 = none
    rw [updAt_ne _ _ (fun e => hr0 e.symm)]; exact h.F0
  · have ht2' : updAt s.F r (some ⟨t.r.put k (loc x), t.q, t.mv⟩) y = some t2 := ht2
    by_cases hyr : y = r
    · subst hyr
      rw [updAt_same] at ht2'
      cases ht2'
      rw [hlen]; exact h.szs y t hF
    · rw [updAt_ne _ _ hyr] at ht2'
      exact h.szs y t2 ht2'
  · show s.ow = (((s.l .o).set j ⟨t.r.put k (loc x), t.q, 0⟩).map Tp.sz).sum
    have hsz : ((s.l .o).set j ⟨t.r.put k (loc x), t.q, 0⟩).map Tp.sz = (s.l .o).map Tp.sz := by
      rw [List.map_set]
      apply List.ext_getElem?
      intro i
      rw [List.getElem?_set]
      by_cases hi : j = i
      · subst hi
        rw [if_pos rfl, if_pos (by simpa using hjl), List.getElem?_map, hjo]
        simp [Tp.sz, hlen]
      · rw [if_neg hi]
    rw [hsz]; exact h.ow
  · rw [(hflat .o).2]
    rcases (hP a b).1 hab with h1 | h1
    · exact h.Pn a b h1
    · rw [h1.1]; exact hjl
  · show (if 0 < r then (s.l .z).set (r - 1).toNat _ else s.l .z) = []
    rw [h.z0 ha]; simp
  · have ht2' : updAt s.F r (some ⟨t.r.put k (loc x), t.q, t.mv⟩) y = some t2 := ht2
    by_cases hyr : y = r
    · subst hyr
      rw [updAt_same] at ht2'
      cases ht2'
      exact h.qs y t hF
    · rw [updAt_ne _ _ hyr] at ht2'
      exact h.qs y t2 ht2'
  · exact Ev.of hfr (fun b hb => ⟨.row r, by simp only [St.bl]; rw [hF, List.mem_singleton.1 hb]; exact List.mem_append_left _ hg⟩) (fun p b hb => .inl (by rw [hbl] at hb; exact hb))
/-- What is turned may be said otherwise. -/
theorem Co.said (h : Co c w s G loc ord P) {P' : Nat → Nat → Prop} (hg : Gc G.gs loc ((s.l .o).map absT) P') (hn : ∀ i k, P' i k → i < (s.l .o).length) : Co c w s G loc ord P' :=
  ⟨h.cl, hg, h.lo, h.on, h.ty, h.tz, h.tn, h.un, h.okm, h.okd, h.F0, h.szs, h.ow, h.yw, h.cap, hn, h.pre, h.tl, h.z0, h.qs⟩
theorem Le.turnd (s : St) (loc : Int → Int) (j : Nat) (r : Int) (t : Tp) : Le s (s.turnd loc j r t) loc loc :=
  ⟨fun _ _ => rfl, rfl, rfl, rfl, rfl, rfl, rfl, rfl, by show _ ≤ ((s.l .o).set j _).length; rw [List.length_set]; exact Nat.le_refl _⟩
end
end Rs
end Go.Proofs.Ytaapakpanbfmlaa
