/-
  The program's Space: what its steps do to the graph.
-/
import Derived.Test.YtaapakpanbfmlaaQf
import Derived.Test.YtaapakpanbfmlaaQc
import Derived.Test.YtaapakpanbfmlaaHf
namespace Go.Proofs.Ytaapakpanbfmlaa
namespace Rs
open Go.RowKit Hp
set_option linter.unusedVariables false
set_option linter.unusedSimpArgs false
section
variable {c : Cf} {w w' : World} {s : St} {N : Nat}
theorem Re.drewN (h : Re c w s N) (q : Nat) : Re c (w.drewN q) s N := ⟨h.cl.heq rfl, h.F, h.mv, h.z, h.sp, h.closed, h.roots, h.cross, h.Cok, h.szs, h.qs, h.yw, h.ow, h.n, h.N⟩
theorem Re.zok (h : Re c w s N) : Zok (grF s.F) := fun rs ws e => by
  have e : (s.F 0).map absT = some (rs, ws) := e
  rw [h.F0] at e; cases e
theorem Re.setRoot (h : Re c w s N) (n : Nat) {x : Int} (hx : x = 0 ∨ (s.F x).isSome = true) : Re c (w.setCell ⟨c.sb, 9 + n, none⟩ (.int .i64 x)) { s with ro := s.ro.set n x } N :=
  ⟨h.cl.setRoot n x, h.F, h.mv, h.z, h.sp, h.closed, fun y hy => by
    rcases mem_set_sub hy with h1 | h1
    · exact h.roots y h1
    · rw [h1]; exact hx, h.cross, h.Cok, h.szs, h.qs, h.yw, h.ow, h.n, h.N⟩
/-- What is at a place. -/
theorem Re.root (h : Re c w s N) (a : Int) : s.ro.getD a.toNat 0 = 0 ∨ ∃ d, (d = .o ∨ d = .y) ∧ ∃ j t, s.ro.getD a.toNat 0 = refOf d j ∧ (s.l d)[j]? = some t ∧ s.F (s.ro.getD a.toNat 0) = some t := by
  by_cases h0 : s.ro.getD a.toNat 0 = 0
  · exact .inl h0
  · right
    have hm : s.ro.getD a.toNat 0 ∈ s.ro := by
      rw [List.getD_eq_getElem?_getD] at h0 ⊢
      cases he : s.ro[a.toNat]? with
      | none => rw [he] at h0; exact absurd rfl h0
      | some x => exact List.mem_of_getElem? he
    obtain ⟨t, ht⟩ := Option.isSome_iff_exists.1 ((h.roots _ hm).resolve_left h0)
    have ht' := ht
    rw [h.F] at ht'
    obtain ⟨d, hd, j, e, hj⟩ := srcF_some ht'
    exact ⟨d, hd, j, t, e, hj, ht⟩
theorem Re.dlen (h : Re c w s N) (d : Tb) (hd : d = .o ∨ d = .y) : (s.l d).length ≤ 1073741824 := by
  have := h.n; have := h.N
  rcases hd with rfl | rfl <;> omega
/-- What the graph says of a place. -/
theorem Re.parts (h : Re c w s N) (a : Int) (ha : at16 a = true) : (s.ro.getD a.toNat 0 = 0 → refsG (grF s.F) s.ro a = [] ∧ wordsG (grF s.F) s.ro a = []) ∧ ∀ t, s.F (s.ro.getD a.toNat 0) = some t → refsG (grF s.F) s.ro a = t.r.xs ∧ wordsG (grF s.F) s.ro a = t.q.xs.map Int.toNat := by
  unfold refsG wordsG rootG
  rw [if_pos ha, if_pos ha]
  refine ⟨fun h0 => ?_, fun t ht => ?_⟩
  · have e : (grF s.F).at_ (s.ro.getD a.toNat (grF s.F).z) = none := by
      show (s.F (s.ro.getD a.toNat 0)).map absT = none
      rw [h0, h.F0]; rfl
    rw [e]; exact ⟨rfl, rfl⟩
  · have e : (grF s.F).at_ (s.ro.getD a.toNat (grF s.F).z) = some (t.r.xs, t.q.xs.map Int.toNat) := by
      show (s.F (s.ro.getD a.toNat 0)).map absT = _
      rw [ht]; rfl
    rw [e]; exact ⟨rfl, rfl⟩
theorem upd_gr (F : Int → Option Tp) (r : Int) (t : Tp) : grF (updAt F r (some t)) = (grF F).upd r (absT t) := by
  unfold grF Gr.upd
  congr 1
  funext x
  unfold updAt
  by_cases hx : x = r
  · simp [hx]
  · simp [hx]
theorem inB_inG (k : Int) (n : Nat) : inB k n = inG k n := rfl
/-- Where a thing of a table is another: what a reference leads to. -/
theorem srcF_put (h : Re c w s N) {d : Tb} (hd : d = .o ∨ d = .y) {j : Nat} {t t' : Tp} (hj : (s.l d)[j]? = some t) (r : Int) : (s.put d j (refOf d j) t').F r = srcF (s.put d j (refOf d j) t') r := by
  have hjl := (List.getElem?_eq_some_iff.1 hj).1
  by_cases hr : r = refOf d j
  · subst hr
    rw [srcF_ref _ d hd]
    simp only [St.put, updAt_same]
    rw [List.getElem?_set, if_pos rfl, if_pos hjl]
  · have e1 : (s.put d j (refOf d j) t').F r = s.F r := by simp only [St.put]; rw [updAt_ne _ _ hr]
    rw [e1, h.F]
    unfold srcF
    by_cases h1 : 0 < r
    · rw [if_pos h1, if_pos h1]
      by_cases hdo : d = .o
      · subst hdo
        simp only [St.put, updAt_same]
        rw [List.getElem?_set_ne (fun e => hr (by unfold refOf; simp only; omega))]
      · simp only [St.put]; rw [updAt_ne _ _ (fun e => hdo e.symm)]
    · rw [if_neg h1, if_neg h1]
      by_cases h2 : r < 0
      · rw [if_pos h2, if_pos h2]
        by_cases hdy : d = .y
        · subst hdy
          simp only [St.put, updAt_same]
          rw [List.getElem?_set_ne (fun e => hr (by unfold refOf; simp only; omega))]
        · simp only [St.put]; rw [updAt_ne _ _ (fun e => hdy e.symm)]
      · rw [if_neg h2, if_neg h2]
theorem sum_put {l : List Tp} {j : Nat} {t t' : Tp} (hj : l[j]? = some t) (h : t'.sz = t.sz) : ((l.set j t').map Tp.sz).sum = (l.map Tp.sz).sum := by
  congr 1
  rw [List.map_set]
  apply List.ext_getElem?
  intro i
  rw [List.getElem?_set]
  by_cases hi : j = i
  · subst hi
    rw [if_pos rfl, if_pos (by simpa using (List.getElem?_eq_some_iff.1 hj).1), List.getElem?_map, hj]
    simp [h]
  · rw [if_neg hi]
/-- A thing is another, of the same sizes. -/
theorem Re.put (h : Re c w s N) {d : Tb} (hd : d = .o ∨ d = .y) {j : Nat} {t t' : Tp} (hj : (s.l d)[j]? = some t) {cv' : Value} {C' : List (Int × Nat)} (hcl : Cl c w' { s.put d j (refOf d j) t' with cv := cv', C := C' }) (hm : t'.mv = t.mv) (hl1 : t'.r.xs.length = t.r.xs.length) (hl2 : t'.q.xs.length = t.q.xs.length) (hx : ∀ x ∈ t'.r.xs, x = 0 ∨ (s.F x).isSome = true) (hq : ∀ x ∈ t'.q.xs, 0 ≤ x)
    (hC : ∀ x ∈ s.C, x ∈ C') (hC2 : ∀ k x, 0 < refOf d j → t'.r.xs[k]? = some x → x < 0 → (refOf d j, k) ∈ C') (hC3 : ∀ r k, (r, k) ∈ C' → (r, k) ∈ s.C ∨ (0 < r ∧ r = refOf d j ∧ k < t.r.xs.length)) : Re c w' { s.put d j (refOf d j) t' with cv := cv', C := C' } N := by
  have hF : s.F (refOf d j) = some t := by rw [h.ref d hd]; exact hj
  have hFs : ∀ r, (s.F r).isSome = true → ((s.put d j (refOf d j) t').F r).isSome = true := fun r hr => by
    by_cases hrr : r = refOf d j
    · subst hrr; simp only [St.put, updAt_same]; rfl
    · simp only [St.put]; rw [updAt_ne _ _ hrr]; exact hr
  have hcase : ∀ r u, (s.put d j (refOf d j) t').F r = some u → (r = refOf d j ∧ u = t') ∨ (r ≠ refOf d j ∧ s.F r = some u) := fun r u hu => by
    by_cases hrr : r = refOf d j
    · subst hrr
      simp only [St.put, updAt_same, Option.some.injEq] at hu
      exact .inl ⟨rfl, hu.symm⟩
    · simp only [St.put] at hu
      rw [updAt_ne _ _ hrr] at hu
      exact .inr ⟨hrr, hu⟩
  have hdo : d ≠ .z := by rcases hd with rfl | rfl <;> simp
  have hsz : t'.sz = t.sz := by unfold Tp.sz; rw [hl1, hl2]
  have hlen : ∀ e, ((s.put d j (refOf d j) t').l e).length = (s.l e).length := fun e => by
    by_cases he : e = d
    · subst he; simp only [St.put, updAt_same, List.length_set]
    · simp only [St.put]; rw [updAt_ne _ _ he]
  have hsum : ∀ e, (((s.put d j (refOf d j) t').l e).map Tp.sz).sum = ((s.l e).map Tp.sz).sum := fun e => by
    by_cases he : e = d
    · subst he; simp only [St.put, updAt_same]; exact sum_put hj hsz
    · simp only [St.put]; rw [updAt_ne _ _ he]
  refine ⟨hcl, fun r => srcF_put h hd hj r, fun e u hu => ?_, ?_, h.sp, fun r u hu x hx' => ?_, fun x hx' => (h.roots x hx').imp id (hFs x), fun r u k x hr hu hk hx' => ?_, fun r k hk => ?_, fun r u hu => ?_, fun r u hu => ?_, ?_, ?_, ?_, h.N⟩
  · have hu : u ∈ (s.put d j (refOf d j) t').l e := hu
    by_cases he : e = d
    · subst he
      simp only [St.put, updAt_same] at hu
      rcases mem_set_sub hu with h1 | h1
      · exact h.mv e u h1
      · rw [h1, hm]; exact h.mv e t (List.mem_of_getElem? hj)
    · simp only [St.put] at hu
      rw [updAt_ne _ _ he] at hu
      exact h.mv e u hu
  · simp only [St.put]; rw [updAt_ne _ _ (fun e => hdo e.symm)]; exact h.z
  · rcases hcase r u hu with ⟨_, rfl⟩ | ⟨_, h2⟩
    · exact (hx x hx').imp id (hFs x)
    · exact (h.closed r u h2 x hx').imp id (hFs x)
  · rcases hcase r u hu with ⟨rfl, rfl⟩ | ⟨_, h2⟩
    · exact hC2 k x hr hk hx'
    · exact hC _ (h.cross r u k x hr h2 hk hx')
  · rcases hC3 r k hk with h1 | ⟨h1, rfl, h3⟩
    · obtain ⟨a1, u, a2, a3⟩ := h.Cok r k h1
      refine ⟨a1, ?_⟩
      by_cases hrr : r = refOf d j
      · subst hrr
        rw [hF] at a2
        cases a2
        exact ⟨t', by simp only [St.put, updAt_same], by omega⟩
      · exact ⟨u, by simp only [St.put]; rw [updAt_ne _ _ hrr]; exact a2, a3⟩
    · exact ⟨h1, t', by simp only [St.put, updAt_same], by omega⟩
  · rcases hcase r u hu with ⟨_, rfl⟩ | ⟨_, h2⟩
    · rw [hl1, hl2]; exact h.szs _ t hF
    · exact h.szs r u h2
  · rcases hcase r u hu with ⟨_, rfl⟩ | ⟨_, h2⟩
    · exact hq
    · exact h.qs r u h2
  · show s.yw = (((s.put d j (refOf d j) t').l .y).map Tp.sz).sum
    rw [hsum]; exact h.yw
  · show s.ow = (((s.put d j (refOf d j) t').l .o).map Tp.sz).sum
    rw [hsum]; exact h.ow
  · show ((s.put d j (refOf d j) t').l .o).length + ((s.put d j (refOf d j) t').l .y).length ≤ N
    rw [hlen, hlen]; exact h.n
end
end Rs
end Go.Proofs.Ytaapakpanbfmlaa
