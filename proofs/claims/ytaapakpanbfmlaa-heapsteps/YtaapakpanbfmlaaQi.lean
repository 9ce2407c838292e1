/-
  The program's Space: how many words can be reached; a thing is made.
-/
import Derived.Test.YtaapakpanbfmlaaQh
namespace Go.Proofs.Ytaapakpanbfmlaa
namespace Rs
open Go.RowKit Hp
set_option linter.unusedVariables false
set_option linter.unusedSimpArgs false
/-- All that is there can be reached. -/
def Exact (s : St) : Prop := s.l .y = [] ∧ ∀ j : Nat, j < (s.l .o).length → Rch (grF s.F) s.ro ((j : Int) + 1)
section
variable {c : Cf} {w w' : World} {s : St} {N : Nat}
theorem Re.isoRefl (h : Re c w s N) : Iso (grF s.F) s.ro (grF s.F) s.ro id := by
  refine ⟨rfl, by simp, fun a ha => ⟨ha.ne, ?_⟩, fun a b _ _ e => e⟩
  obtain ⟨t, ht⟩ := Option.isSome_iff_exists.1 (h.rch ha)
  refine ⟨t.r.xs, t.q.xs.map Int.toNat, ?_, ?_⟩
  · show (s.F a).map absT = _; rw [ht]; rfl
  · show (s.F a).map absT = _; rw [ht]; simp [absT]
theorem Re.szG (h : Re c w s N) (d : Tb) (hd : d = .o ∨ d = .y) {j : Nat} (hj : j < (s.l d).length) : Hp.szG (grF s.F) (refOf d j) = Tp.sz ((s.l d)[j]) := by
  unfold Hp.szG
  have e : (grF s.F).at_ (refOf d j) = some (absT (s.l d)[j]) := by
    show (s.F (refOf d j)).map absT = _
    rw [h.ref d hd, List.getElem?_eq_getElem hj]; rfl
  rw [e]
  unfold absT Tp.sz
  simp
theorem sum_dom (h : Re c w s N) (d : Tb) (hd : d = .o ∨ d = .y) : (((List.range (s.l d).length).map (refOf d)).map (Hp.szG (grF s.F))).sum = ((s.l d).map Tp.sz).sum := by
  congr 1
  apply List.ext_getElem (by simp)
  intro j h1 h2
  rw [List.getElem_map, List.getElem_map, List.getElem_map, List.getElem_range]
  exact h.szG d hd (by simpa using h2)
theorem refOf_inj {d : Tb} {i j : Nat} (h : refOf d i = refOf d j) : i = j := by
  cases d <;> unfold refOf at h <;> simp only at h <;> omega
theorem dom_nodup (s : St) : s.dom.Nodup := by
  unfold St.dom
  rw [List.nodup_append]
  refine ⟨?_, ?_, fun a ha b hb e => ?_⟩
  · refine List.pairwise_map.2 (List.Pairwise.imp (fun {a b} hab e => hab (refOf_inj e)) List.nodup_range)
  · refine List.pairwise_map.2 (List.Pairwise.imp (fun {a b} hab e => hab (refOf_inj e)) List.nodup_range)
  · obtain ⟨i, _, rfl⟩ := List.mem_map.1 ha
    obtain ⟨j, _, rfl⟩ := List.mem_map.1 hb
    unfold refOf at e; simp only at e; omega
theorem sum_filter_le (l : List Int) (p : Int → Bool) (f : Int → Nat) : ((l.filter p).map f).sum ≤ (l.map f).sum := by
  induction l with
  | nil => simp
  | cons a l ih =>
    rw [List.filter_cons]
    split
    · rw [List.map_cons, List.sum_cons, List.map_cons, List.sum_cons]; omega
    · rw [List.map_cons, List.sum_cons]; omega
theorem Re.dom_sum (h : Re c w s N) : (s.dom.map (Hp.szG (grF s.F))).sum = s.yw + s.ow := by
  unfold St.dom
  rw [List.map_append, List.sum_append, sum_dom h .y (.inr rfl), sum_dom h .o (.inl rfl), ← h.yw, ← h.ow]
/-- So many words can be reached, and no more than there are. -/
theorem Re.wds (h : Re c w s N) : ∃ m, Wds (grF s.F) s.ro m ∧ m ≤ s.yw + s.ow := by
  classical
  refine ⟨_, ⟨s.dom.filter (fun a => decide (Rch (grF s.F) s.ro a)), List.Pairwise.filter _ (dom_nodup s), fun a => ?_, rfl⟩, ?_⟩
  · rw [List.mem_filter]
    constructor
    · rintro ⟨_, h2⟩; simpa using h2
    · intro h2; exact ⟨(h.dom (h.rch h2)).2, by simpa using h2⟩
  · rw [← h.dom_sum]; exact sum_filter_le _ _ _
theorem Re.exact (h : Re c w s N) (he : Exact s) : Wds (grF s.F) s.ro (s.yw + s.ow) := by
  refine ⟨s.dom, dom_nodup s, fun a => ⟨fun ha => ?_, fun ha => (h.dom (h.rch ha)).2⟩, h.dom_sum.symm⟩
  unfold St.dom at ha
  rcases List.mem_append.1 ha with ha | ha
  · obtain ⟨j, hj, _⟩ := List.mem_map.1 ha
    rw [he.1] at hj; simp at hj
  · obtain ⟨j, hj, rfl⟩ := List.mem_map.1 ha
    exact he.2 j (List.mem_range.1 hj)
/-- A thing with nothing yet is named. -/
theorem Cl.newF (h : Cl c w s) {a : Int} {t : Tp} (ha : s.F a = none) (h1 : RowIs .i64 55 121 w t.r) (h2 : RowIs .u64 30 120 w t.q) (ho : t.own = []) : Cl c w { s with F := updAt s.F a (some t) } ∧ ∀ p, St.bl c { s with F := updAt s.F a (some t) } p = s.bl c p := by
  have hbl : ∀ p, St.bl c { s with F := updAt s.F a (some t) } p = s.bl c p := fun p => by
    cases p with
    | sb => rfl
    | cv => rfl
    | tab d => rfl
    | row r =>
      simp only [St.bl]
      by_cases hr : r = a
      · subst hr; rw [updAt_same, ha]; exact ho
      · rw [updAt_ne _ _ hr]
  refine ⟨⟨fun p => ?_, fun p p' hpp b hb hb' => ?_, h.B⟩, hbl⟩
  · cases p with
    | sb => exact h.has .sb
    | cv => exact h.has .cv
    | tab d => exact h.has (.tab d)
    | row r =>
      intro u hu
      have hu : updAt s.F a (some t) r = some u := hu
      by_cases hr : r = a
      · subst hr
        rw [updAt_same] at hu
        cases hu
        exact ⟨h1, h2, by rw [ho]; simp⟩
      · rw [updAt_ne _ _ hr] at hu
        exact h.has (.row r) u hu
  · rw [hbl] at hb hb'
    exact h.ap p p' hpp b hb hb'
/-- A thing that was just made. -/
def Tp.new (r q : Nat) : Tp := ⟨Rv.nil r, Rv.nil q, 0⟩
theorem Tp.new_own (r q : Nat) : (Tp.new r q).own = [] := rfl
theorem Tp.new_abs (r q : Nat) : absT (Tp.new r q) = (List.replicate r 0, List.replicate q 0) := by unfold absT Tp.new Rv.nil; simp
theorem Tp.new_sz (r q : Nat) : (Tp.new r q).sz = 2 + r + q := by unfold Tp.sz Tp.new Rv.nil; simp
/-- The space with a thing more. -/
theorem Re.made (h : Re c w s N) {d : Tb} (hd : d = .o ∨ d = .y) {r q gv cap : Nat} (hr : r ≤ 32768) (hq : q ≤ 32768) (hcl : Cl c w' (s.add d (.slice (some ⟨gv, 0, none⟩) ((s.l d).length + 1) cap) (Tp.new r q))) (hN : N < 32768) :
    Re c w' { s.add d (.slice (some ⟨gv, 0, none⟩) ((s.l d).length + 1) cap) (Tp.new r q) with F := updAt s.F (refOf d (s.l d).length) (some (Tp.new r q)) } (N + 1) ∧ s.F (refOf d (s.l d).length) = none ∧ ∀ p, St.bl c { s.add d (.slice (some ⟨gv, 0, none⟩) ((s.l d).length + 1) cap) (Tp.new r q) with F := updAt s.F (refOf d (s.l d).length) (some (Tp.new r q)) } p = (s.add d (.slice (some ⟨gv, 0, none⟩) ((s.l d).length + 1) cap) (Tp.new r q)).bl c p := by
  have hF : s.F (refOf d (s.l d).length) = none := by rw [h.ref d hd]; simp
  obtain ⟨hcl2, hbl⟩ := hcl.newF (a := refOf d (s.l d).length) (t := Tp.new r q) hF (RowIs.nil _ _ _ _ _) (RowIs.nil _ _ _ _ _) rfl
  have hdz : d ≠ .z := by rcases hd with rfl | rfl <;> simp
  have hcase : ∀ x u, updAt s.F (refOf d (s.l d).length) (some (Tp.new r q)) x = some u → (x = refOf d (s.l d).length ∧ u = Tp.new r q) ∨ (x ≠ refOf d (s.l d).length ∧ s.F x = some u) := fun x u hu => by
    by_cases hx : x = refOf d (s.l d).length
    · subst hx; rw [updAt_same] at hu; exact .inl ⟨rfl, (Option.some.inj hu).symm⟩
    · rw [updAt_ne _ _ hx] at hu; exact .inr ⟨hx, hu⟩
  have hFs : ∀ x, (s.F x).isSome = true → (updAt s.F (refOf d (s.l d).length) (some (Tp.new r q)) x).isSome = true := fun x hx => by
    by_cases he : x = refOf d (s.l d).length
    · subst he; rw [updAt_same]; rfl
    · rw [updAt_ne _ _ he]; exact hx
  have hl : ∀ e, e ≠ d → (s.add d (.slice (some ⟨gv, 0, none⟩) ((s.l d).length + 1) cap) (Tp.new r q)).l e = s.l e := fun e he => by simp only [St.add]; rw [updAt_ne _ _ he]
  have hld : (s.add d (.slice (some ⟨gv, 0, none⟩) ((s.l d).length + 1) cap) (Tp.new r q)).l d = s.l d ++ [Tp.new r q] := by simp only [St.add, updAt_same]
  have hz0 : ∀ x ∈ (Tp.new r q).r.xs, x = 0 := fun x hx => by
    have hx : x ∈ List.replicate r (0 : Int) := hx
    exact List.eq_of_mem_replicate hx
  refine ⟨⟨hcl2, fun x => ?_, fun e u hu => ?_, ?_, ?_, fun x u hu y hy => ?_, fun x hx => (h.roots x hx).imp id (hFs x), fun x u k y hx hu hk hy => ?_, fun x k hk => ?_, fun x u hu => ?_, fun x u hu => ?_, ?_, ?_, ?_, by omega⟩, hF, hbl⟩
  · show updAt s.F (refOf d (s.l d).length) (some (Tp.new r q)) x = srcF (s.add d (.slice (some ⟨gv, 0, none⟩) ((s.l d).length + 1) cap) (Tp.new r q)) x
    by_cases hx : x = refOf d (s.l d).length
    · subst hx
      rw [updAt_same, srcF_ref _ d hd, hld]; simp
    · rw [updAt_ne _ _ hx, h.F]
      unfold srcF
      by_cases h1 : 0 < x
      · rw [if_pos h1, if_pos h1]
        by_cases hdo : d = .o
        · subst hdo
          rw [hld]
          by_cases hlt : (x - 1).toNat < (s.l .o).length
          · rw [List.getElem?_append_left hlt]
          · have : (x - 1).toNat ≠ (s.l .o).length := fun e => hx (by unfold refOf; simp only; omega)
            rw [List.getElem?_eq_none_iff.2 (by omega), List.getElem?_eq_none_iff.2 (by simp; omega)]
        · rw [hl .o (fun e => hdo e.symm)]
      · rw [if_neg h1, if_neg h1]
        by_cases h2 : x < 0
        · rw [if_pos h2, if_pos h2]
          by_cases hdy : d = .y
          · subst hdy
            rw [hld]
            by_cases hlt : (-x - 1).toNat < (s.l .y).length
            · rw [List.getElem?_append_left hlt]
            · have : (-x - 1).toNat ≠ (s.l .y).length := fun e => hx (by unfold refOf; simp only; omega)
              rw [List.getElem?_eq_none_iff.2 (by omega), List.getElem?_eq_none_iff.2 (by simp; omega)]
          · rw [hl .y (fun e => hdy e.symm)]
        · rw [if_neg h2, if_neg h2]
  · have hu : u ∈ (s.add d (.slice (some ⟨gv, 0, none⟩) ((s.l d).length + 1) cap) (Tp.new r q)).l e := hu
    by_cases he : e = d
    · subst he
      rw [hld] at hu
      rcases List.mem_append.1 hu with h1 | h1
      · exact h.mv e u h1
      · rw [List.mem_singleton.1 h1]; rfl
    · rw [hl e he] at hu; exact h.mv e u hu
  · show (s.add d (.slice (some ⟨gv, 0, none⟩) ((s.l d).length + 1) cap) (Tp.new r q)).l .z = []
    rw [hl .z (fun e => hdz e.symm)]; exact h.z
  · show s.sp = updAt s.v d _ .z
    rw [updAt_ne _ _ (fun e => hdz e.symm)]; exact h.sp
  · rcases hcase x u hu with ⟨_, rfl⟩ | ⟨_, h2⟩
    · exact .inl (hz0 y hy)
    · exact (h.closed x u h2 y hy).imp id (hFs y)
  · rcases hcase x u hu with ⟨_, rfl⟩ | ⟨_, h2⟩
    · have := hz0 y (List.mem_of_getElem? hk); omega
    · exact h.cross x u k y hx h2 hk hy
  · obtain ⟨a1, u, a2, a3⟩ := h.Cok x k hk
    refine ⟨a1, u, ?_, a3⟩
    show updAt s.F (refOf d (s.l d).length) (some (Tp.new r q)) x = some u
    rw [updAt_ne _ _ (fun e => by rw [e, hF] at a2; cases a2)]; exact a2
  · rcases hcase x u hu with ⟨_, rfl⟩ | ⟨_, h2⟩
    · simp [Tp.new, Rv.nil]; omega
    · exact h.szs x u h2
  · rcases hcase x u hu with ⟨_, rfl⟩ | ⟨_, h2⟩
    · intro y hy
      have hy : y ∈ List.replicate q (0 : Int) := hy
      rw [List.eq_of_mem_replicate hy]; omega
    · exact h.qs x u h2
  · show (if d = .y then s.yw + (Tp.new r q).sz else s.yw) = (((s.add d (.slice (some ⟨gv, 0, none⟩) ((s.l d).length + 1) cap) (Tp.new r q)).l .y).map Tp.sz).sum
    by_cases hdy : d = .y
    · subst hdy
      rw [if_pos rfl, hld, List.map_append, List.sum_append, ← h.yw]; simp
    · rw [if_neg hdy, hl .y (fun e => hdy e.symm)]; exact h.yw
  · show (if d = .o then s.ow + (Tp.new r q).sz else s.ow) = (((s.add d (.slice (some ⟨gv, 0, none⟩) ((s.l d).length + 1) cap) (Tp.new r q)).l .o).map Tp.sz).sum
    by_cases hdo : d = .o
    · subst hdo
      rw [if_pos rfl, hld, List.map_append, List.sum_append, ← h.ow]; simp
    · rw [if_neg hdo, hl .o (fun e => hdo e.symm)]; exact h.ow
  · show ((s.add d (.slice (some ⟨gv, 0, none⟩) ((s.l d).length + 1) cap) (Tp.new r q)).l .o).length + ((s.add d (.slice (some ⟨gv, 0, none⟩) ((s.l d).length + 1) cap) (Tp.new r q)).l .y).length ≤ N + 1
    have := h.n
    rcases hd with rfl | rfl
    · rw [hld, hl .y (by simp)]; simp; omega
    · rw [hld, hl .o (by simp)]; simp; omega
end
end Rs
end Go.Proofs.Ytaapakpanbfmlaa
