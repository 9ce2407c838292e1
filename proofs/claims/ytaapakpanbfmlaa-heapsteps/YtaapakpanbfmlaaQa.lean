/-
  When things have moved: the space is at rest again, and says the same.
-/
import Derived.Test.YtaapakpanbfmlaaPy
namespace Go.Proofs.Ytaapakpanbfmlaa
namespace Rs
open Go.RowKit Hp
set_option linter.unusedVariables false
set_option linter.unusedSimpArgs false
section
variable {c : Cf} {w wm w' : World} {s S : St} {G : Gf} {loc : Int → Int} {ord : List Int} {N : Nat}
/-- All is turned: what a thing says. -/
theorem Co.all (h : Co c wm s G loc ord (fun i _ => i < (s.l .o).length)) {i : Nat} {t : Tp} (hi : (s.l .o)[i]? = some t) : t.mv = 0 ∧ (∃ r t0, ord[i]? = some r ∧ loc r = (i : Int) + 1 ∧ s.F r = some t0 ∧ t.r = t0.r ∧ t.q = t0.q) ∧ ∀ x ∈ t.r.xs, x = 0 ∨ ∃ y, loc y ≠ 0 ∧ x = loc y := by
  have hl := (List.getElem?_eq_some_iff.1 hi).1
  have ht := h.tn i
  rw [hi] at ht
  cases ho : ord[i]? with
  | none => rw [ho] at ht; simp at ht
  | some r =>
    rw [ho] at ht
    cases hF : s.F r with
    | none => simp [hF] at ht
    | some t0 =>
      simp [hF] at ht
      have hlr := (h.lo r i).1 ho
      refine ⟨by rw [ht], ⟨r, t0, rfl, hlr, hF, by rw [ht], by rw [ht]⟩, fun x hx => ?_⟩
      obtain ⟨rs, ws, rs', a1, a2, a3, a4⟩ := h.gc.src r (by omega)
      have e : (loc r).toNat - 1 = i := by omega
      rw [e, List.getElem?_map, hi] at a2
      have a2 : (t.r.xs, t.q.xs.map Int.toNat) = (rs', ws) := Option.some.inj a2
      obtain ⟨rfl, _⟩ := Prod.mk.inj a2
      obtain ⟨k, hk, rfl⟩ := List.getElem_of_mem hx
      have hrk : rs[k]? = some (rs[k]'(by omega)) := List.getElem?_eq_getElem (by omega)
      obtain ⟨b1, b2⟩ := (a4 k _ hrk).1 (by rw [e]; exact hl)
      rw [List.getElem?_eq_getElem hk] at b2
      have b2 := Option.some.inj b2
      by_cases h0 : loc (rs[k]'(by omega)) = 0
      · exact .inl (by rw [b2, h0])
      · exact .inr ⟨_, h0, b2⟩
theorem Co.fin (h : Co c wm s G loc ord (fun i _ => i < (s.l .o).length)) (hcl : Cl c w' S) (e1 : S.l .o = s.l .o) (e2 : S.l .y = []) (e3 : S.l .z = []) (e4 : S.F = s.F) (e5 : S.sp = S.v .z) (e6 : S.C = []) (e7 : S.yw = 0) (e8 : S.ow = s.ow) {ro : List Int} (hro : S.ro = ro.map loc) (hnz : ∀ x ∈ ro, x ≠ 0 → loc x ≠ 0) (hN : G.dom.length ≤ N) (hN2 : N ≤ 32768) :
    Re c w' { S with F := srcF S } N ∧ Iso G.gs ro (grF (srcF S)) S.ro loc ∧ ∀ p, ∀ b ∈ St.bl c { S with F := srcF S } p, ∃ p0, b ∈ S.bl c p0 := by
  have hsrc : ∀ r, srcF S r = if 0 < r then (s.l .o)[(r - 1).toNat]? else none := fun r => by
    unfold srcF
    rw [e1, e2]
    by_cases h1 : 0 < r
    · rw [if_pos h1, if_pos h1]
    · rw [if_neg h1, if_neg h1]; split <;> simp
  have hsome : ∀ r t, srcF S r = some t → 0 < r ∧ (s.l .o)[(r - 1).toNat]? = some t := fun r t hr => by
    rw [hsrc r] at hr
    by_cases h1 : 0 < r
    · rw [if_pos h1] at hr; exact ⟨h1, hr⟩
    · rw [if_neg h1] at hr; cases hr
  have hin : ∀ y, loc y ≠ 0 → (srcF S (loc y)).isSome = true := fun y hy => by
    obtain ⟨a1, a2⟩ := h.gc.rng y hy
    rw [List.length_map] at a2
    rw [hsrc, if_pos a1, List.getElem?_eq_getElem (by omega)]; rfl
  obtain ⟨hcl2, hfp⟩ := hcl.rekey (srcF S) (fun r => (ord[(r - 1).toNat]?).getD 0) (fun r t' hr => by
    obtain ⟨h1, h2⟩ := hsome r t' hr
    obtain ⟨_, ⟨r0, t0, b1, b2, b3, b4, b5⟩, _⟩ := h.all h2
    exact ⟨t0, by rw [e4, b1]; exact b3, b4, b5⟩) (fun r r' hr hr' e => by
    obtain ⟨t, ht⟩ := Option.isSome_iff_exists.1 hr
    obtain ⟨t', ht'⟩ := Option.isSome_iff_exists.1 hr'
    obtain ⟨h1, h2⟩ := hsome r t ht
    obtain ⟨h1', h2'⟩ := hsome r' t' ht'
    obtain ⟨_, ⟨r0, t0, b1, b2, _⟩, _⟩ := h.all h2
    obtain ⟨_, ⟨r0', t0', b1', b2', _⟩, _⟩ := h.all h2'
    simp only [b1, b1', Option.getD_some] at e
    rw [e, b2'] at b2
    omega)
  refine ⟨⟨hcl2, fun r => rfl, fun d t ht => ?_, e3, e5, fun r t hr x hx => ?_, fun x hx => ?_, fun r t k x hr0 hr hk hx => ?_, fun r k hk => ?_, fun r t hr => ?_, fun r t hr => ?_, ?_, ?_, ?_, hN2⟩, ?_, hfp⟩
  · have ht : t ∈ S.l d := ht
    cases d with
    | o =>
      rw [e1] at ht
      obtain ⟨i, hi, rfl⟩ := List.getElem_of_mem ht
      exact (h.all (List.getElem?_eq_getElem hi)).1
    | y => rw [e2] at ht; cases ht
    | z => rw [e3] at ht; cases ht
  · obtain ⟨h1, h2⟩ := hsome r t hr
    rcases (h.all h2).2.2 x hx with h3 | ⟨y, h3, rfl⟩
    · exact .inl h3
    · exact .inr (hin y h3)
  · have hx : x ∈ S.ro := hx
    rw [hro] at hx
    obtain ⟨y, hy, rfl⟩ := List.mem_map.1 hx
    by_cases h0 : y = 0
    · exact .inl (by rw [h0]; exact h.gc.z)
    · exact .inr (hin y (hnz y hy h0))
  · obtain ⟨h1, h2⟩ := hsome r t hr
    rcases (h.all h2).2.2 x (List.mem_of_getElem? hk) with h3 | ⟨y, h3, rfl⟩
    · omega
    · have := h.loc_nonneg y; omega
  · have hk : (r, k) ∈ S.C := hk
    rw [e6] at hk; cases hk
  · obtain ⟨h1, h2⟩ := hsome r t hr
    obtain ⟨_, ⟨r0, t0, b1, b2, b3, b4, b5⟩, _⟩ := h.all h2
    rw [b4, b5]; exact h.szs r0 t0 b3
  · obtain ⟨h1, h2⟩ := hsome r t hr
    obtain ⟨_, ⟨r0, t0, b1, b2, b3, b4, b5⟩, _⟩ := h.all h2
    rw [b5]; exact h.qs r0 t0 b3
  · show S.yw = ((S.l .y).map Tp.sz).sum
    rw [e7, e2]; rfl
  · show S.ow = ((S.l .o).map Tp.sz).sum
    rw [e8, e1]; exact h.ow
  · show (S.l .o).length + (S.l .y).length ≤ N
    rw [e1, e2]
    have := h.len
    simp; omega
  · have hi := h.gc.iso (ro := ro) hnz (fun r rs ws k x hr _ _ => by
      have := h.gc.rng r hr
      rw [List.length_map] at this
      show (loc r).toNat - 1 < (s.l .o).length
      omega)
    rw [← hro] at hi
    have hg : grN ((s.l .o).map absT) = grF (srcF S) := by
      unfold grN grF
      congr 1
      funext r
      rw [hsrc r]
      by_cases h1 : 0 < r
      · rw [if_pos h1, if_pos h1, List.getElem?_map]
        congr 2; omega
      · rw [if_neg h1, if_neg h1]; rfl
    rw [hg] at hi
    exact hi
end
/-- Where references may lead. -/
def St.dom (s : St) : List Int := (List.range (s.l .y).length).map (refOf .y) ++ (List.range (s.l .o).length).map (refOf .o)
theorem St.dom_len (s : St) : s.dom.length = (s.l .o).length + (s.l .y).length := by unfold St.dom; simp; omega
theorem Re.dom {c : Cf} {w : World} {s : St} {N : Nat} (h : Re c w s N) {r : Int} (hr : (s.F r).isSome = true) : r ≠ 0 ∧ r ∈ s.dom := by
  obtain ⟨t, ht⟩ := Option.isSome_iff_exists.1 hr
  rw [h.F r] at ht
  obtain ⟨d, hd, j, rfl, hj⟩ := srcF_some ht
  have hl := (List.getElem?_eq_some_iff.1 hj).1
  unfold St.dom
  rcases hd with rfl | rfl
  · exact ⟨by unfold refOf; simp only; omega, List.mem_append_right _ (List.mem_map.2 ⟨j, List.mem_range.2 hl, rfl⟩)⟩
  · exact ⟨by unfold refOf; simp only; omega, List.mem_append_left _ (List.mem_map.2 ⟨j, List.mem_range.2 hl, rfl⟩)⟩
theorem Re.F0 {c : Cf} {w : World} {s : St} {N : Nat} (h : Re c w s N) : s.F 0 = none := by rw [h.F, srcF_zero]
theorem Re.rch {c : Cf} {w : World} {s : St} {N : Nat} (h : Re c w s N) {r : Int} (hr : Rch (grF s.F) s.ro r) : (s.F r).isSome = true := by
  cases hr with
  | root h1 h2 => exact (h.roots r h1).resolve_left h2
  | step h1 h2 h3 h4 =>
    have h2 : (s.F _).map absT = some _ := h2
    obtain ⟨t, ht, e⟩ := Option.map_eq_some_iff.1 h2
    have e1 : t.r.xs = _ := congrArg Prod.fst e
    exact (h.closed _ t ht r (by rw [e1]; exact h3)).resolve_left h4
theorem Re.ref {c : Cf} {w : World} {s : St} {N : Nat} (h : Re c w s N) (d : Tb) (hd : d = .o ∨ d = .y) (j : Nat) : s.F (refOf d j) = (s.l d)[j]? := by rw [h.F]; exact srcF_ref s d hd j
theorem Re.mvd {c : Cf} {w : World} {s : St} {N : Nat} (h : Re c w s N) {d : Tb} {j : Nat} {t : Tp} (hj : (s.l d)[j]? = some t) : (⟨t.r, t.q, 0⟩ : Tp) = t := by
  have := h.mv d t (List.mem_of_getElem? hj)
  cases t; simp at this; simp [this]
theorem sumsz {l : List Tp} {N : Nat} (hl : l.length ≤ N) (h : ∀ t ∈ l, t.sz ≤ 65538) : (l.map Tp.sz).sum ≤ N * 65538 := by
  have : (l.map Tp.sz).sum ≤ l.length * 65538 := by
    clear hl
    induction l with
    | nil => simp
    | cons a l ih =>
      rw [List.map_cons, List.sum_cons, List.length_cons]
      have := ih (fun t ht => h t (by simp [ht]))
      have := h a (by simp)
      omega
  exact Nat.le_trans this (Nat.mul_le_mul_right 65538 hl)
theorem Re.szd {c : Cf} {w : World} {s : St} {N : Nat} (h : Re c w s N) (d : Tb) (hd : d = .o ∨ d = .y) : ∀ t ∈ s.l d, t.sz ≤ 65538 := by
  intro t ht
  obtain ⟨j, hj, rfl⟩ := List.getElem_of_mem ht
  have hF := h.ref d hd j
  rw [List.getElem?_eq_getElem hj] at hF
  obtain ⟨a1, a2⟩ := h.szs _ _ hF
  unfold Tp.sz; omega
theorem Re.words {c : Cf} {w : World} {s : St} {N : Nat} (h : Re c w s N) : s.yw ≤ 2147549184 ∧ s.ow ≤ 2147549184 := by
  have hn := h.n
  have hN := h.N
  rw [h.yw, h.ow]
  have h1 := sumsz (N := 32768) (by omega) (h.szd .y (.inr rfl))
  have h2 := sumsz (N := 32768) (by omega) (h.szd .o (.inl rfl))
  omega
/-- collectAll: all that can be reached go into the spare table; they say the same. -/
theorem all42_any {c : Cf} {w : World} {s : St} {N : Nat} (h : Re c w s N) :
    Calls Try.prog 42 #[.pointer (some ⟨c.sb, 0, none⟩), .iface 61 (.pointer (some ⟨c.sb, 9, none⟩))] w fun e w' => e = .returned (.tuple #[]) ∧ ∃ s' φ, Re c w' s' N ∧ Ev c w s w' s' ∧ Iso (grF s.F) s.ro (grF s'.F) s'.ro φ ∧ s'.l .y = [] ∧ ∀ j : Nat, j < (s'.l .o).length → Rch (grF s'.F) s'.ro ((j : Int) + 1) := by
  have hyo : w.ownsRow c.B 96 9 (s.v .y) (s.l .y).length ((s.l .y).flatMap Tp.cells) := h.cl.has (.tab .y)
  have hoo : w.ownsRow c.B 96 9 (s.v .o) (s.l .o).length ((s.l .o).flatMap Tp.cells) := h.cl.has (.tab .o)
  have hzo : w.ownsRow c.B 96 9 (s.v .z) (s.l .z).length ((s.l .z).flatMap Tp.cells) := h.cl.has (.tab .z)
  obtain ⟨ya, yc, hyv, _⟩ := own_val hyo
  obtain ⟨oa, oc, hov, hoc⟩ := own_val hoo
  obtain ⟨za, zc, hzv, _⟩ := own_val hzo
  have hn := h.n
  have hN := h.N
  have hwd := h.words
  let G : Gf := ⟨grF s.F, Rch (grF s.F) s.ro, true, s.dom⟩
  have hGd : G.dom.length ≤ N := by show s.dom.length ≤ N; rw [s.dom_len]; omega
  refine all42_walk c.sb ya oa za (s.l .y).length yc (s.l .o).length oc (s.l .z).length zc s.ow w (by rw [h.cl.cell 3 rfl, hyv]) (by rw [h.cl.cell 5 rfl, hov]) (h.cl.cell 6 rfl) (by rw [h.cl.cell 7 rfl, h.sp, hzv]) (h.cl.fz 5) (h.cl.fz 6) hoc
    (R := fun hb zb w' => ∃ s' loc' ord' wm a cp, Co c wm s' G loc' ord' (fun i _ => i < (s'.l .o).length) ∧ Cl c w' (s'.settled (.slice a 0 cp)) ∧ Ev c w s w' (s'.settled (.slice a 0 cp)) ∧ s'.v .z = s.v .o ∧ s'.ro = s.ro.map loc' ∧ (∀ x ∈ s.ro, x ≠ 0 → loc' x ≠ 0) ∧ w'.heap[zb]? = some (.cells #[.slice oa (s.l .o).length oc] 49 (0, 0)) ∧ w'.heap[hb]? = some (.cells #[.pointer (some ⟨c.sb, 0, none⟩)] 83 (0, 0)) ∧ (∀ p, zb ∉ (s'.settled (.slice a 0 cp)).bl c p) ∧ ∀ p, hb ∉ (s'.settled (.slice a 0 cp)).bl c p) (hide ?_) (hide ?_)
  · intro hb yb zb W1 q hfr e1 e2 e3 i1 i2 i3
    have hcl1 := h.cl.fresh hfr
    obtain ⟨hclT, hevT⟩ := hcl1.turned h.sp
    rw [hzv] at hclT hevT
    have hno : ∀ b, w.heap.size ≤ b → ∀ p, b ∉ s.turned.bl c p := fun b hb p hp => by
      rcases (Ev.fresh (c := c) (s := s) hfr).trans hevT |>.fp p b hp with ⟨p0, h0⟩ | h0
      · have := (h.cl.has p0).lt b h0; omega
      · -- a block of the space lies below the size that it had
        have hsz : ∀ p, ∀ b ∈ s.turned.bl c p, ∃ p0, b ∈ s.bl c p0 := fun p b hb => by
          cases p with
          | sb => exact ⟨.sb, hb⟩
          | cv => exact ⟨.cv, hb⟩
          | row r => exact ⟨.row r, hb⟩
          | tab d => exact ⟨.tab (sw d), hb⟩
        obtain ⟨p0, h1⟩ := hsz p b hp
        have := (h.cl.has p0).lt b h1; omega
    have hsbl := h.cl.sbl
    have hbl1 : ∀ b, w.heap.size ≤ b → b ≠ c.sb := fun b hb e => by omega
    generalize hW : (((W1.setCell ⟨c.sb, 5, none⟩ (.slice za (s.l .z).length zc)).setCell ⟨c.sb, 6, none⟩ (.int .i64 0)).drewN q) = W2
    have hW2 : W2.heap = ((W1.setCell ⟨c.sb, 5, none⟩ (.slice za (s.l .z).length zc)).setCell ⟨c.sb, 6, none⟩ (.int .i64 0)).heap := by rw [← hW]; rfl
    have hclW : Cl c W2 s.turned := hclT.heq hW2
    have hevW : Ev c w s W2 s.turned := by
      have := (Ev.fresh (c := c) (s := s) hfr).trans hevT
      rw [← hW]; exact ⟨this.os, this.tape, this.output, this.size, this.block, this.fp⟩
    have hbk : ∀ b, b ≠ c.sb → W2.heap[b]? = W1.heap[b]? := fun b hb => by rw [hW2, heap_setB hb, heap_setB hb]
    have hco : Co c W2 s.turned G (fun _ => 0) [] (fun i _ => i < 0) := by
      refine ⟨hclW, ⟨rfl, rfl, fun r hr => absurd rfl hr, fun r s hr => absurd rfl hr, fun r hr => absurd rfl hr⟩, fun r i => ?_, ?_, fun j => ?_, fun _ j => ?_, fun i => ?_, fun r hr _ => rfl, fun r hr => (by cases hr), fun r hr => ?_, h.F0, h.szs, ?_, ?_, ?_, fun i k hp => (by omega), fun ha => (by cases ha), fun d hd => ?_, fun ha => (by cases ha), h.qs⟩
      · constructor
        · intro e; simp at e
        · intro e; omega
      · show 0 = (s.l .z).length; rw [h.z]; rfl
      · show (s.l .y)[j]? = (s.F (refOf .y j)).map _
        rw [h.ref .y (.inr rfl)]
        cases hj : (s.l .y)[j]? with
        | none => rfl
        | some t => exact congrArg some (h.mvd hj).symm
      · show (s.l .o)[j]? = (s.F (refOf .o j)).map _
        rw [h.ref .o (.inl rfl)]
        cases hj : (s.l .o)[j]? with
        | none => rfl
        | some t => exact congrArg some (h.mvd hj).symm
      · show (s.l .z)[i]? = _; rw [h.z]; simp
      · have hs := h.rch hr
        exact ⟨(h.dom hs).1, (h.dom hs).2, hs⟩
      · show 0 = ((s.l .z).map Tp.sz).sum; rw [h.z]; rfl
      · show s.yw ≤ _; omega
      · show s.dom.length ≤ _; rw [s.dom_len]; omega
      · cases d with
        | o => exact absurd rfl hd
        | y => show (s.l .y).length ≤ _; omega
        | z => show (s.l .o).length ≤ _; omega
    have hfv : Fv c G 57 _ _ (Bs57 c hb yb zb) := fv57 rfl hb yb zb (fun r rs ws x hr hat hx h0 => .step hr hat hx h0)
    have hbs : Bs57 c hb yb zb W2 s.turned := by
      refine ⟨⟨by rw [hbk hb (hbl1 hb i1)]; exact e1, hno hb i1⟩, ⟨by rw [hbk yb (hbl1 yb i2), e2]; show _ = some (Obj.cells #[s.v .y] 49 (0, 0)); rw [hyv], hno yb i2⟩, ⟨by rw [hbk zb (hbl1 zb i3), e3]; show _ = some (Obj.cells #[s.v .o] 49 (0, 0)); rw [hov], hno zb i3⟩⟩
    refine (settle_any hfv hco hbs (fun x hx => ?_) (Nat.zero_le _)).mono ?_
    · by_cases h0 : x = 0
      · exact .inl h0
      · exact .inr (.root hx h0)
    · rintro e w' ⟨rfl, s', loc', ord', wm, a, cp, g1, g2, g3, g4, g5, g6⟩
      have kz := g3.keeps (b := zb) hbs.2.2.lt hbs.2.2.no
      have kh := g3.keeps (b := hb) hbs.1.lt hbs.1.no
      refine ⟨rfl, s', loc', ord', wm, a, cp, g1, g2, hevW.trans g3, g4.vz, g5, g6, ?_, ?_, kz.2, kh.2⟩
      · rw [kz.1, hbs.2.2.is]; show some (Obj.cells #[s.v .o] 49 (0, 0)) = _; rw [hov]
      · rw [kh.1]; exact hbs.1.is
  · rintro hb zb w' ⟨s', loc', ord', wm, a, cp, g1, g2, g3, g4, g5, g6, g7, g8, g9, g10⟩
    have hvz : (s'.settled (.slice a 0 cp)).v .z = .slice oa (s.l .o).length oc := by
      simp only [St.settled]
      rw [updAt_ne _ _ (by simp : Tb.z ≠ Tb.y), g4, hov]
    have hoz : w'.ownsRow c.B 96 9 ((s'.settled (.slice a 0 cp)).v .z) ((s'.settled (.slice a 0 cp)).l .z).length (((s'.settled (.slice a 0 cp)).l .z).flatMap Tp.cells) := g2.has (.tab .z)
    obtain ⟨a2, c2, hv2, _⟩ := own_val hoz
    have hlen : ((s'.settled (.slice a 0 cp)).l .z).length = (s.l .o).length := by
      rw [hvz] at hv2; injection hv2 with _ e _; exact e.symm
    rw [hvz, hlen] at hoz
    obtain ⟨W, hrun, hfr, hown2⟩ := clear_tab 0 hoz
    rw [← hvz] at hfr
    obtain ⟨hW, hcl, hevS⟩ := g2.spare hvz hfr hown2
    have hWs := hW.trans (g2.has .sb).1
    have kz : W.heap[zb]? = w'.heap[zb]? := hfr.block zb (Array.getElem?_eq_some_iff.1 g7).1 (fun e => g9 (.tab .z) e)
    have kh : W.heap[hb]? = w'.heap[hb]? := hfr.block hb (Array.getElem?_eq_some_iff.1 g8).1 (fun e => g10 (.tab .z) e)
    refine ⟨W, by rw [cell_of_row w' zb 0 _ 49 (0, 0) g7]; rfl, hrun, by rw [cell_of_row W zb 0 _ 49 (0, 0) (kz.trans g7)]; rfl, by rw [cell_of_row W hb 0 _ 83 (0, 0) (kh.trans g8)]; rfl, ⟨(s'.settled (.slice a 0 cp)).sp, by rw [cell_of_row W c.sb 7 _ 59 (0, 0) hWs]; rfl⟩, frozen_of hWs, fun q => ?_⟩
    have hclq : Cl c ((W.setCell ⟨c.sb, 7, none⟩ (.slice oa 0 oc)).drewN q) ((s'.settled (.slice a 0 cp)).spared (.slice oa 0 oc)) := hcl.heq rfl
    obtain ⟨f1, f2, f3⟩ := g1.fin (N := N) hclq (by simp only [St.spared, St.settled]; rw [updAt_ne _ _ (by simp : Tb.o ≠ Tb.z), updAt_ne _ _ (by simp : Tb.o ≠ Tb.y)]) (by simp only [St.spared, St.settled]; rw [updAt_ne _ _ (by simp : Tb.y ≠ Tb.z), updAt_same]) (by simp only [St.spared, updAt_same]) rfl (by simp only [St.spared, updAt_same]) rfl rfl rfl (ro := s.ro) g5 g6 hGd hN
    refine ⟨_, loc', f1, ?_, f2, ?_, fun j hj => ?_⟩
    · have hev1 := g3.trans hevS
      have hev2 : Ev c w s ((W.setCell ⟨c.sb, 7, none⟩ (.slice oa 0 oc)).drewN q) ((s'.settled (.slice a 0 cp)).spared (.slice oa 0 oc)) := ⟨hev1.os, hev1.tape, hev1.output, hev1.size, hev1.block, hev1.fp⟩
      exact hev2.said f3
    · simp only [St.spared, St.settled]; rw [updAt_ne _ _ (by simp : Tb.y ≠ Tb.z), updAt_same]
    · have hl : ((s'.settled (.slice a 0 cp)).spared (.slice oa 0 oc)).l .o = s'.l .o := by simp only [St.spared, St.settled]; rw [updAt_ne _ _ (by simp : Tb.o ≠ Tb.z), updAt_ne _ _ (by simp : Tb.o ≠ Tb.y)]
      have hj : j < (((s'.settled (.slice a 0 cp)).spared (.slice oa 0 oc)).l .o).length := hj
      rw [hl] at hj
      obtain ⟨_, ⟨r0, t0, b1, b2, _⟩, _⟩ := g1.all (List.getElem?_eq_getElem hj)
      have hr0 : Rch (grF s.F) s.ro r0 := g1.okm r0 (List.mem_of_getElem? b1)
      have := f2.fwd hr0
      rw [b2] at this
      exact this
end Rs
end Go.Proofs.Ytaapakpanbfmlaa
