/-
  collectYoung: the young that can be reached go among the old.
-/
import Derived.Test.YtaapakpanbfmlaaQb
namespace Go.Proofs.Ytaapakpanbfmlaa
namespace Rs
open Go.RowKit Hp
set_option linter.unusedVariables false
set_option linter.unusedSimpArgs false
section
variable {c : Cf} {w : World} {s : St} {G : Gf} {loc : Int → Int} {ord : List Int} {P : Nat → Nat → Prop}
/-- A slot that crosses is turned. -/
theorem Co.cross1 (h : Co c w s G loc ord P) (ha : G.all = false) {j k g cap : Nat} {r x : Int} {t : Tp} {w' : World} {r' : Rv} {cur : Array Value} (hr : 0 < r) (ho : ord[j]? = some r) (hF : s.F r = some t) (hk : t.r.xs[k]? = some x) (hp : ¬ P j k) (hx : x = 0 ∨ loc x ≠ 0)
    (hv : s.v .o = .slice (some ⟨g, 0, none⟩) (s.l .o).length cap) (hg : w.heap[g]? = some (.cells cur 96 (0, 0))) (hso : SetOk .i64 55 121 w w' t.r g (j * 9) cur 96 k (loc x) r') (P' : Nat → Nat → Prop) (hP : ∀ a b, P' a b ↔ P a b ∨ (a = j ∧ b = k)) :
    Co c w' (s.put .o j r ⟨r', t.q, 0⟩) G loc ord P' ∧ Ev c w s w' (s.put .o j r ⟨r', t.q, 0⟩) := by
  have hjo := h.at_o ho hF
  have hjl := (List.getElem?_eq_some_iff.1 hjo).1
  have hlr : loc r = (j : Int) + 1 := (h.lo r j).1 ho
  obtain ⟨n1, n2, n3⟩ := nodup_own h.cl hF
  have hq := (h.cl.has (.row r) t hF).2.1
  have hgn := h.cl.gno hF hv
  have hgq : g ∉ t.q.own := fun e => hgn (List.mem_append_right _ e)
  have hlen : r'.xs.length = t.r.xs.length := by rw [hso.xs, List.length_set]
  have hgd : g ∈ s.bl c (.tab .o) := by simp [St.bl, ob, hv, Value.ownBlock]
  have hrb : s.bl c (.row r) = t.own := by simp only [St.bl]; rw [hF]
  have hnew : ∀ b ∈ (⟨r', t.q, 0⟩ : Tp).own, b ∈ t.own ∨ w.heap.size ≤ b := fun b hb => by
    rcases List.mem_append.1 hb with hb | hb
    · rcases hso.new b hb with h1 | h1
      · exact .inl (List.mem_append_left _ h1)
      · exact .inr h1
    · exact .inl (List.mem_append_right _ hb)
  have hfr : Fr (g :: t.own) w w' := hso.fr.mono (fun b hb => by
    rcases List.mem_cons.1 hb with e | e
    · rw [e]; exact List.mem_cons_self ..
    · exact List.mem_cons_of_mem _ (List.mem_append_left _ e))
  have hcl : Cl c w' (s.put .o j r ⟨r', t.q, 0⟩) := by
    refine h.cl.setThing ⟨r', t.q, 0⟩ hF hv ⟨hso.row, hq.kept hso.fr (fun b hb e => ?_), ?_⟩ hnew hfr (tab_set2 h.cl hjo hv hg hso.blk (by omega) (by omega) ?_)
    · rcases List.mem_cons.1 e with e | e
      · exact hgq (e ▸ hb)
      · exact n3 b e b hb rfl
    · show (r'.own ++ t.q.own).Nodup
      rw [List.nodup_append]
      refine ⟨hso.row.1, n2, fun a ha b hb e => ?_⟩
      rcases hso.new a ha with h1 | h1
      · exact n3 a h1 b hb e
      · have := hq.lt b hb; omega
    · unfold Tp.cells
      simp [hlen]
  have hlo : (s.put .o j r ⟨r', t.q, 0⟩).l .o = (s.l .o).set j ⟨r', t.q, 0⟩ := by simp only [St.put, updAt_same]
  have hly : ∀ d, d ≠ .o → (s.put .o j r ⟨r', t.q, 0⟩).l d = s.l d := fun d hd => by simp only [St.put]; rw [updAt_ne _ _ hd]
  have hFo : ∀ y, y ≠ r → (s.put .o j r ⟨r', t.q, 0⟩).F y = s.F y := fun y hy => by simp only [St.put]; rw [updAt_ne _ _ hy]
  have hFr : (s.put .o j r ⟨r', t.q, 0⟩).F r = some ⟨r', t.q, 0⟩ := by simp only [St.put, updAt_same]
  refine ⟨⟨hcl, ?_, h.lo, ?_, fun i => ?_, fun ha' => (by rw [ha] at ha'; cases ha'), fun i => ?_, fun y hy hl => ?_, h.okm, fun y hy => ?_, ?_, fun y t2 ht2 => ?_, ?_, h.yw, h.cap, fun a b hab => ?_, h.pre, fun d hd => (by rw [hly d hd]; exact h.tl d hd), fun ha' => (by rw [hly .z (by simp)]; exact h.z0 ha'), fun y t2 ht2 => ?_⟩, ?_⟩
  · have hN : ((s.l .o).map absT)[j]? = some (t.r.xs, t.q.xs.map Int.toNat) := by rw [List.getElem?_map, hjo]; rfl
    have := h.gc.turn (P' := P') hN hk hp hx hP
    rw [hlo, List.map_set]
    have e : absT ⟨r', t.q, 0⟩ = (t.r.xs.set k (loc x), t.q.xs.map Int.toNat) := by unfold absT; rw [hso.xs]
    rw [e]; exact this
  · rw [hlo, List.length_set]; exact h.on
  · have : refOf .y i ≠ r := by unfold refOf; simp only; omega
    rw [hly .y (by simp), hFo _ this]; exact h.ty i
  · rw [hlo, List.getElem?_set]
    by_cases hi : j = i
    · subst hi
      rw [if_pos rfl, if_pos hjl, ho]
      simp [hFr]
    · rw [if_neg hi, h.tn i]
      cases hoi : ord[i]? with
      | none => rfl
      | some y =>
        have : y ≠ r := fun e => by
          have := (h.lo y i).1 hoi
          rw [e, hlr] at this; omega
        simp only [Option.bind_some]
        rw [hFo y this]
  · have hyr : y ≠ r := fun e => by rw [e, hlr] at hl; omega
    rw [hFo y hyr]; exact h.un y hy hl
  · obtain ⟨a1, a2, a3⟩ := h.okd y hy
    refine ⟨a1, a2, ?_⟩
    by_cases hyr : y = r
    · subst hyr; rw [hFr]; rfl
    · rw [hFo y hyr]; exact a3
  · rw [hFo 0 (by omega)]; exact h.F0
  · by_cases hyr : y = r
    · subst hyr
      rw [hFr] at ht2
      cases ht2
      rw [hlen]; exact h.szs y t hF
    · rw [hFo y hyr] at ht2
      exact h.szs y t2 ht2
  · show s.ow = _
    rw [hlo]
    have hsz : ((s.l .o).set j ⟨r', t.q, 0⟩).map Tp.sz = (s.l .o).map Tp.sz := by
      rw [List.map_set]
      apply List.ext_getElem?
      intro i
      rw [List.getElem?_set]
      by_cases hi : j = i
      · subst hi
        rw [if_pos rfl, if_pos (by simpa using hjl), List.getElem?_map, hjo]
        simp [Tp.sz, hlen]
      · rw [if_neg hi]
    rw [hsz]; exact h.ow
  · rw [hlo, List.length_set]
    rcases (hP a b).1 hab with h1 | h1
    · exact h.Pn a b h1
    · rw [h1.1]; exact hjl
  · by_cases hyr : y = r
    · subst hyr
      rw [hFr] at ht2
      cases ht2
      exact h.qs y t hF
    · rw [hFo y hyr] at ht2
      exact h.qs y t2 ht2
  · refine Ev.of hfr (fun b hb => ?_) (fun p b hb => ?_)
    · rcases List.mem_cons.1 hb with e | e
      · exact ⟨.tab .o, by rw [e]; exact hgd⟩
      · exact ⟨.row r, by rw [hrb]; exact e⟩
    · cases p with
      | sb => exact .inl hb
      | cv => exact .inl hb
      | tab d => exact .inl hb
      | row y =>
        by_cases hyr : y = r
        · subst hyr
          rw [hrb]
          have hb : b ∈ (⟨r', t.q, 0⟩ : Tp).own := by simp only [St.bl] at hb; rw [hFr] at hb; exact hb
          exact hnew b hb
        · simp only [St.bl] at hb ⊢
          rw [hFo y hyr] at hb; exact .inl hb
theorem LeR.put (s : St) (loc : Int → Int) (j : Nat) (r : Int) (t : Tp) : LeR s (s.put .o j r t) loc loc :=
  ⟨fun _ _ => rfl, rfl, rfl, rfl, rfl, rfl, rfl, by simp only [St.put, updAt_same, List.length_set]; exact Nat.le_refl _⟩
end
/-- Where the young are not looked at: the old stay where they are. -/
def loc0 (s : St) (r : Int) : Int := if 0 < r ∧ (s.F r).isSome = true then r else 0
def ord0 (s : St) : List Int := (List.range (s.l .o).length).map fun (i : Nat) => (i : Int) + 1
theorem loc0_pos {s : St} {r : Int} (h : loc0 s r ≠ 0) : 0 < r ∧ (s.F r).isSome = true ∧ loc0 s r = r := by
  unfold loc0 at h ⊢
  by_cases h1 : 0 < r ∧ (s.F r).isSome = true
  · rw [if_pos h1]; exact ⟨h1.1, h1.2, rfl⟩
  · rw [if_neg h1] at h; exact absurd rfl h
def gYoung (s : St) : Gf := ⟨grF s.F, fun r => (s.F r).isSome = true, false, s.dom⟩
theorem Re.young0 {c : Cf} {w : World} {s : St} {N : Nat} (h : Re c w s N) : Co c w s (gYoung s) (loc0 s) (ord0 s) (fun _ _ => False) := by
  have hn := h.n
  have hN := h.N
  have hwd := h.words
  have hF : ∀ r t, 0 < r → s.F r = some t → (s.l .o)[(r - 1).toNat]? = some t ∧ r ≤ ((s.l .o).length : Int) := fun r t hr ht => by
    rw [h.F r] at ht
    unfold srcF at ht
    rw [if_pos hr] at ht
    have := (List.getElem?_eq_some_iff.1 ht).1
    exact ⟨ht, by omega⟩
  refine ⟨h.cl, ⟨rfl, by unfold loc0; simp, fun r hr => ?_, fun r r' hr e => ?_, fun r hr => ?_⟩, fun r i => ?_, by unfold ord0; simp, fun j => ?_, fun ha => (by cases ha), fun i => ?_, fun r hr _ => rfl, fun r hr => ?_, fun r hr => ⟨(h.dom hr).1, (h.dom hr).2, hr⟩, h.F0, h.szs, h.ow, (by omega), ?_, fun i k hp => hp.elim, fun _ r hr hk => ?_, fun d hd => ?_, fun _ => h.z, h.qs⟩
  · obtain ⟨h1, h2, h3⟩ := loc0_pos hr
    obtain ⟨t, ht⟩ := Option.isSome_iff_exists.1 h2
    rw [h3, List.length_map]
    exact ⟨h1, (hF r t h1 ht).2⟩
  · obtain ⟨h1, h2, h3⟩ := loc0_pos hr
    obtain ⟨h1', h2', h3'⟩ := loc0_pos (r := r') (by rw [← e]; exact hr)
    rw [h3, h3'] at e; exact e
  · obtain ⟨h1, h2, h3⟩ := loc0_pos hr
    obtain ⟨t, ht⟩ := Option.isSome_iff_exists.1 h2
    refine ⟨t.r.xs, t.q.xs.map Int.toNat, t.r.xs, by show (s.F r).map absT = _; rw [ht]; rfl, ?_, rfl, fun k x hk => ⟨fun hp => hp.elim, fun _ => hk⟩⟩
    rw [h3, List.getElem?_map]
    have := (hF r t h1 ht).1
    rw [show r.toNat - 1 = (r - 1).toNat by omega, this]; rfl
  · unfold ord0
    rw [List.getElem?_map]
    constructor
    · intro e
      by_cases hi : i < (s.l .o).length
      · rw [List.getElem?_range hi] at e
        have e : (i : Int) + 1 = r := Option.some.inj e
        have hs : (s.F ((i : Int) + 1)).isSome = true := by
          have := h.ref .o (.inl rfl) i
          have hr : refOf .o i = (i : Int) + 1 := rfl
          rw [← hr, this, List.getElem?_eq_getElem hi]; rfl
        unfold loc0
        rw [← e, if_pos ⟨by omega, hs⟩]
      · rw [List.getElem?_eq_none_iff.2 (by simpa using hi)] at e; cases e
    · intro e
      obtain ⟨h1, h2, h3⟩ := loc0_pos (s := s) (r := r) (by omega)
      obtain ⟨t, ht⟩ := Option.isSome_iff_exists.1 h2
      have := (hF r t h1 ht).2
      rw [List.getElem?_range (by omega)]
      show some ((i : Int) + 1) = some r
      congr 1; omega
  · have hz : loc0 s (refOf .y j) = 0 := by
      unfold loc0; rw [if_neg]
      intro hh; have := hh.1; unfold refOf at this; simp only at this; omega
    rw [hz, h.ref .y (.inr rfl)]
    cases hj : (s.l .y)[j]? with
    | none => rfl
    | some t => exact congrArg some (h.mvd hj).symm
  · unfold ord0
    rw [List.getElem?_map]
    by_cases hi : i < (s.l .o).length
    · rw [List.getElem?_range hi]
      show _ = (s.F (refOf .o i)).map _
      rw [h.ref .o (.inl rfl), List.getElem?_eq_getElem hi]
      exact congrArg some (h.mvd (List.getElem?_eq_getElem hi)).symm
    · rw [List.getElem?_eq_none_iff.2 (by omega), List.getElem?_eq_none_iff.2 (by simpa using hi)]; rfl
  · unfold ord0 at hr
    obtain ⟨i, hi, rfl⟩ := List.mem_map.1 hr
    have hi := List.mem_range.1 hi
    show (s.F (refOf .o i)).isSome = true
    rw [h.ref .o (.inl rfl), List.getElem?_eq_getElem hi]; rfl
  · show s.dom.length ≤ _; rw [s.dom_len]; omega
  · unfold loc0; rw [if_pos ⟨hr, hk⟩]
  · cases d with
    | o => exact absurd rfl hd
    | y => omega
    | z => rw [h.z]; simp
/-- What the slots that were looked at say. -/
def PC (es : Array MapEntry) (seen : Array Nat) : Nat → Nat → Prop := fun i k => ∃ e ∈ es.toList, e.born ∈ seen ∧ e.key = slotv ((i : Int) + 1, k)
/-- The end of collectYoung. -/
theorem young_end {c : Cf} {w : World} {s : St} {N : Nat} (h : Re c w s N) {wr : World} {s1 : St} {loc1 : Int → Int} {ord1 : List Int} {hb yb : Nat} (hco : Co c wr s1 (gYoung s) loc1 ord1 (fun i _ => i < (s.l .o).length)) (hev : Ev c w s wr s1) (hle : LeR s s1 (loc0 s) loc1) (hro : s1.ro = s.ro) (hbs : Bs60 c hb yb wr s1) :
    Calls Try.prog 59 #[.pointer (some ⟨c.sb, 0, none⟩), .int .i64 ((s.l .o).length : Int), .func (.func 60) #[] #[.pointer (some ⟨hb, 0, none⟩), .pointer (some ⟨yb, 0, none⟩)], .iface 61 (.pointer (some ⟨c.sb, 9, none⟩))] wr fun e w' => e = .returned (.tuple #[]) ∧ ∃ s' φ, Re c w' s' N ∧ Ev c w s w' s' ∧ Iso (grF s.F) s.ro (grF s'.F) s'.ro φ ∧ s'.l .y = [] := by
  have hfv : Fv c (gYoung s) 60 _ _ (Bs60 c hb yb) := fv60 rfl hb yb (fun r rs ws x hr hat hx h0 => by
    have hat : (s.F r).map absT = some (rs, ws) := hat
    obtain ⟨t, ht, e⟩ := Option.map_eq_some_iff.1 hat
    have e1 : t.r.xs = rs := congrArg Prod.fst e
    exact (h.closed r t ht x (by rw [e1]; exact hx)).resolve_left h0)
  refine (settle_any hfv hco hbs (fun x hx => h.roots x (by rw [← hro]; exact hx)) hle.n).mono ?_
  rintro e w' ⟨rfl, s', loc', ord', wm, a, cp, g1, g2, g3, g4, g5, g6⟩
  obtain ⟨f1, f2, f3⟩ := g1.fin (N := N) g2 (by simp only [St.settled]; rw [updAt_ne _ _ (by simp : Tb.o ≠ Tb.y)]) (by simp only [St.settled, updAt_same]) (by simp only [St.settled]; rw [updAt_ne _ _ (by simp : Tb.z ≠ Tb.y)]; exact g1.z0 rfl) rfl (by
    simp only [St.settled]
    rw [updAt_ne _ _ (by simp : Tb.z ≠ Tb.y), g4.vz, hle.vz, g4.sp, hle.sp]; exact h.sp) rfl rfl rfl (ro := s.ro) (by show s'.ro = _; rw [g5, hro]) (fun x hx h0 => g6 x (by rw [hro]; exact hx) h0) (by show s.dom.length ≤ N; rw [s.dom_len]; exact h.n) h.N
  refine ⟨rfl, _, loc', f1, (hev.trans g3).said f3, f2, ?_⟩
  simp only [St.settled, updAt_same]
theorem Yb.bs {c : Cf} {w W : World} {s : St} {hb yb : Nat} (h : Cl c w s) (hy : Yb w W c.sb hb yb (s.v .y)) : Bs60 c hb yb W s :=
  ⟨⟨hy.h, fun p hp => by have := (h.has p).lt _ hp; have := hy.hl; omega⟩, ⟨hy.y, fun p hp => by have := (h.has p).lt _ hp; have := hy.yl; omega⟩⟩
theorem young43_any {c : Cf} {w : World} {s : St} {N : Nat} (h : Re c w s N) :
    Calls Try.prog 43 #[.pointer (some ⟨c.sb, 0, none⟩), .iface 61 (.pointer (some ⟨c.sb, 9, none⟩))] w fun e w' => e = .returned (.tuple #[]) ∧ ∃ s' φ, Re c w' s' N ∧ Ev c w s w' s' ∧ Iso (grF s.F) s.ro (grF s'.F) s'.ro φ ∧ s'.l .y = [] := by
  have hyo : w.ownsRow c.B 96 9 (s.v .y) (s.l .y).length ((s.l .y).flatMap Tp.cells) := h.cl.has (.tab .y)
  have hoo : w.ownsRow c.B 96 9 (s.v .o) (s.l .o).length ((s.l .o).flatMap Tp.cells) := h.cl.has (.tab .o)
  obtain ⟨ya, yc, hyv, _⟩ := own_val hyo
  obtain ⟨oa, oc, hov, hoc⟩ := own_val hoo
  have hn := h.n
  have hN := h.N
  have hco0 := h.young0
  rcases h.cl.has .cv with ⟨hcv, hC⟩ | ⟨m, es, clock, hcv, hm, hst, hk⟩
  · -- none crosses
    refine young43_nil c.sb ya oa (s.l .y).length yc (s.l .o).length oc w (by rw [h.cl.cell 3 rfl, hyv]) (by rw [h.cl.cell 5 rfl, hov]) (by rw [h.cl.cell 8 rfl, hcv]) (by omega) (hide ?_)
    intro hb yb W q hY
    rw [← hyv] at hY
    have hfr : Fr [] w (W.drewN q) := hY.fr.drewN q
    have hco : Co c (W.drewN q) s (gYoung s) (loc0 s) (ord0 s) (fun i _ => i < (s.l .o).length) := by
      refine (hco0.said (hco0.gc.said (fun _ _ hp => hp.elim) (fun r rs ws k x hr hat hrs hi _ => ?_)) (fun i k hi => hi)).apart hfr (by simp)
      obtain ⟨h1, h2, h3⟩ := loc0_pos hr
      have hat : (s.F r).map absT = some (rs, ws) := hat
      obtain ⟨t, ht, e⟩ := Option.map_eq_some_iff.1 hat
      have e1 : t.r.xs = rs := congrArg Prod.fst e
      by_cases hx0 : x = 0
      · rw [hx0]; unfold loc0; simp
      · have hok := (h.closed r t ht x (by rw [e1]; exact List.mem_of_getElem? hrs)).resolve_left hx0
        by_cases hxp : 0 < x
        · unfold loc0; rw [if_pos ⟨hxp, hok⟩]
        · have := h.cross r t k x h1 ht (by rw [e1]; exact hrs) (by omega)
          rw [hC] at this; cases this
    obtain ⟨b1, b2⟩ := Yb.bs h.cl hY
    exact young_end h hco (Ev.fresh hfr) (Le.refl _ _).r rfl ⟨⟨b1.is, b1.no⟩, ⟨b2.is, b2.no⟩⟩
  · -- some do
    have hmc : m ∈ s.bl c .cv := by simp [St.bl, hcv, mblk]
    have hml := (h.cl.has .cv).lt m hmc
    have hkey : ∀ e ∈ es.toList, ∃ x ∈ s.C, e.key = slotv x := fun e he => by
      have : e.key ∈ s.C.map slotv := by rw [← hk]; exact List.mem_map.2 ⟨e, he, rfl⟩
      obtain ⟨x, hx, hxe⟩ := List.mem_map.1 this
      exact ⟨x, hx, hxe.symm⟩
    refine young43_map c.sb m es clock ya oa (s.l .y).length yc (s.l .o).length oc w (by rw [h.cl.cell 3 rfl, hyv]) (by rw [h.cl.cell 5 rfl, hov]) (by rw [h.cl.cell 8 rfl, hcv]) hm (hide hst) (hide ?_) (by omega)
      (J := fun hb yb it seen wr => ∃ s1 loc1 ord1, Co c wr s1 (gYoung s) loc1 ord1 (PC es seen) ∧ Ev c w s wr s1 ∧ LeR s s1 (loc0 s) loc1 ∧ s1.ro = s.ro ∧ Bs60 c hb yb wr s1 ∧ wr.heap[m]? = some (.map es clock) ∧ w.heap.size ≤ it ∧ it < wr.heap.size ∧ (∀ p, it ∉ s1.bl c p) ∧ it ≠ hb ∧ it ≠ yb ∧ s1.cv = s.cv)
      (hide ?_) (hide ?_) (hide ?_) (hide ?_) (hide ?_)
    · intro e he
      obtain ⟨x, _, hx⟩ := hkey e he
      exact ⟨x, hx⟩
    · intro hb yb W hY
      rw [← hyv] at hY
      have hf2 : Fr [] W (W.alloc (.mapIter (some m) clock #[] clock)) := Fr.of_below ((Below.refl _ _).alloc (Nat.le_refl _) _)
      have hfr := hY.fr.trans hf2
      obtain ⟨b1, b2⟩ := Yb.bs h.cl hY
      refine ⟨s, loc0 s, ord0 s, (hco0.congrP (fun i k => ?_)).apart hfr (by simp), Ev.fresh hfr, (Le.refl _ _).r, rfl, ⟨b1.fr hf2 (by simp), b2.fr hf2 (by simp)⟩, by rw [hfr.block m hml (by simp)]; exact hm, hY.fr.size, by simp, fun p hp => ?_, ?_, ?_, rfl⟩
      · unfold PC; simp
      · have := (h.cl.has p).lt _ hp; have := hY.fr.size; omega
      · have := b1.lt; omega
      · have := b2.lt; omega
    · rintro hb yb it seen wr ⟨s1, loc1, ord1, g1, g2, g3, g4, g5, g6, g7, g8, g9, g10, g11, g12⟩
      refine ⟨g6, fun e => g9 .cv (by simp [St.bl, g12, hcv, mblk, e]), by rw [cell_of_row wr hb 0 _ 83 (0, 0) g5.1.is]; rfl⟩
    · rintro hb yb it seen wr wr' ⟨s1, loc1, ord1, g1, g2, g3, g4, g5, g6, g7, g8, g9, g10, g11, g12⟩ hf
      have hne : ∀ p, ∀ b ∈ s1.bl c p, b ∉ [it] := fun p b hb e => g9 p (by rw [← List.mem_singleton.1 e]; exact hb)
      refine ⟨s1, loc1, ord1, g1.apart hf hne, g2.later hf (fun b hb => by rw [List.mem_singleton.1 hb]; exact g7), g3, g4, ⟨g5.1.fr hf (by simpa using fun e => g10 e.symm), g5.2.fr hf (by simpa using fun e => g11 e.symm)⟩, ?_, g7, Nat.lt_of_lt_of_le g8 hf.size, g9, g10, g11, g12⟩
      rw [hf.block m (Array.getElem?_eq_some_iff.1 g6).1 (hne .cv m (by simp [St.bl, g12, hcv, mblk]))]; exact g6
    · rintro hb yb it seen wr ⟨s1, loc1, ord1, g1, g2, g3, g4, g5, g6, g7, g8, g9, g10, g11, g12⟩ en hen r k hrk W hf
      have hne : ∀ p, ∀ b ∈ s1.bl c p, b ∉ [it] := fun p b hb e => g9 p (by rw [← List.mem_singleton.1 e]; exact hb)
      have hel : en ∈ es.toList ∧ en.born ∉ seen := by
        unfold leftOf at hen
        rw [Array.toList_filter] at hen
        have := List.mem_filter.1 hen
        exact ⟨this.1, by simpa using this.2⟩
      obtain ⟨x0, hx0, hx0k⟩ := hkey en hel.1
      have hx0e : x0 = (r, k) := slotv_inj (hx0k.symm.trans hrk)
      subst hx0e
      obtain ⟨hr0, t0, ht0, hkl⟩ := h.Cok r k hx0
      -- the thing, as it is now
      have hok : (gYoung s).ok r := by show (s.F r).isSome = true; rw [ht0]; rfl
      have hlr : loc1 r = r := g1.pre rfl r hr0 hok
      have ho : ord1[(r - 1).toNat]? = some r := (g1.lo r _).2 (by rw [hlr]; omega)
      obtain ⟨_, _, hs1⟩ := g1.okd r hok
      obtain ⟨t, hF⟩ := Option.isSome_iff_exists.1 hs1
      have hlen : t.r.xs.length = t0.r.xs.length := by
        obtain ⟨rs, ws, rs', a1, a2, a3, a4⟩ := g1.gc.src r (by omega)
        rw [hlr, show r.toNat - 1 = (r - 1).toNat by omega, List.getElem?_map, g1.at_o ho hF] at a2
        have a2 : (t.r.xs, t.q.xs.map Int.toNat) = (rs', ws) := Option.some.inj a2
        have a1 : (s.F r).map absT = some (rs, ws) := a1
        rw [ht0] at a1
        have a1 : (t0.r.xs, t0.q.xs.map Int.toNat) = (rs, ws) := Option.some.inj a1
        rw [(Prod.mk.inj a2).1, (Prod.mk.inj a1).1, a3]
      have hkl' : k < t.r.xs.length := by omega
      have hxk : t.r.xs[k]? = some (t.r.xs.getD k 0) := by rw [List.getD_eq_getElem?_getD, List.getElem?_eq_getElem hkl']; rfl
      have hnP : ¬ PC es seen (r - 1).toNat k := by
        rintro ⟨e', he', hs', hk'⟩
        rw [show (((r - 1).toNat : Nat) : Int) + 1 = r by omega] at hk'
        have := born_key hst he' hel.1 (hk'.trans hx0k.symm)
        rw [this] at hs'; exact hel.2 hs'
      have hsz := g1.szs r t hF
      have hcoW := g1.apart hf hne
      have hbsW : Bs60 c hb yb W s1 := ⟨g5.1.fr hf (by simpa using fun e => g10 e.symm), g5.2.fr hf (by simpa using fun e => g11 e.symm)⟩
      have hjo := hcoW.at_o ho hF
      obtain ⟨g, cap, cur, e1, e2, e3, e4⟩ := hcoW.cl.thing .o hjo
      have hjl := (List.getElem?_eq_some_iff.1 hjo).1
      have hll := hcoW.len
      have hcap := hcoW.cap
      have hrr : r = refOf .o (r - 1).toNat := by unfold refOf; simp only; omega
      have hfv : Fv c (gYoung s) 60 _ _ (Bs60 c hb yb) := fv60 rfl hb yb (fun r rs ws x hr hat hx h0 => by
        have hat : (s.F r).map absT = some (rs, ws) := hat
        obtain ⟨t, ht, e⟩ := Option.map_eq_some_iff.1 hat
        have e1 : t.r.xs = rs := congrArg Prod.fst e
        exact (h.closed r t ht x (by rw [e1]; exact hx)).resolve_left h0)
      have hxok : t.r.xs.getD k 0 = 0 ∨ (gYoung s).ok (t.r.xs.getD k 0) := by
        by_cases h0 : t.r.xs.getD k 0 = 0
        · exact .inl h0
        · obtain ⟨rs, ws, a1, a2⟩ := g1.val ho hF hnP hxk
          exact .inr (hfv.okc r rs ws _ hok a1 (List.mem_of_getElem? a2) h0)
      refine ⟨by rw [cell_of_row W hb 0 _ 83 (0, 0) hbsW.1.is]; rfl, g, (r - 1).toNat * 9, t.r.xs.getD k 0, fun q => ?_, fun q => ?_, fun q => ?_⟩
      · have := at49_any (c := c) (w := W.drewN q) (hcoW.cl.heq rfl) .o (.inl rfl) hjl (by omega) e1
        rw [← hrr] at this; exact this
      · refine get56_any k (W.drewN q) t.r ((hcoW.cl.has (.row r) t hF).1.same (fun _ _ => rfl)) hkl' (by omega) ?_ ?_
        · exact e4 1 _ (by omega) rfl
        · exact e4 2 _ (by omega) rfl
      · refine (hfv.turn (W.drewN q) s1 loc1 ord1 _ _ (hcoW.heq rfl) ⟨⟨hbsW.1.is, hbsW.1.no⟩, ⟨hbsW.2.is, hbsW.2.no⟩⟩ hxok).mono ?_
        rintro e w3 ⟨s3, loc3, ord3, rfl, hk3⟩
        have hev3 : Ev c W s1 w3 s3 := (Ev.drewN q).trans hk3.ev
        have hbs3 := hfv.bs _ _ _ _ _ _ hev3 hk3.le hbsW
        have hF3 : s3.F r = some t := by rw [hk3.F]; exact hF
        have hlr3 : loc3 r = r := by rw [hk3.le.loc r (by omega), hlr]
        have ho3 : ord3[(r - 1).toNat]? = some r := (hk3.co.lo r _).2 (by rw [hlr3]; omega)
        have hjo3 := hk3.co.at_o ho3 hF3
        obtain ⟨g', cap3, cur3, d1, d2, d3, d4⟩ := hk3.co.cl.thing .o hjo3
        have hjl3 := (List.getElem?_eq_some_iff.1 hjo3).1
        have hll3 := hk3.co.len
        refine ⟨loc3 (t.r.xs.getD k 0), rfl, fun b hb1 hb2 => ?_, by rw [cell_of_row w3 hb 0 _ 83 (0, 0) hbs3.1.is]; rfl, g', (r - 1).toNat * 9, fun q2 => ?_, fun q2 => ?_⟩
        · exact (hev3.keeps hb2 (fun p hp => by have := (g1.cl.has p).lt b hp; omega)).1
        · have := at49_any (c := c) (w := w3.drewN q2) (hk3.co.cl.heq rfl) .o (.inl rfl) hjl3 (by omega) d1
          rw [← hrr] at this; exact this
        · have hgn := hk3.co.cl.gno hF3 d1
          have d30 := d3 0 (by omega)
          rw [Nat.add_zero] at d30
          refine (set54_any (w := w3.drewN q2) k (loc3 (t.r.xs.getD k 0)) t.r ((hk3.co.cl.has (.row r) t hF3).1.same (fun _ _ => rfl)) hkl' (by omega) d2 (fun e => hgn (List.mem_append_left _ e)) (by rw [d30]; rfl) (by rw [d3 1 (by omega)]; rfl) (by rw [d3 2 (by omega)]; rfl)).mono ?_
          rintro e w4 ⟨rfl, r', hso⟩
          have hnz : t.r.xs.getD k 0 = 0 ∨ loc3 (t.r.xs.getD k 0) ≠ 0 := by
            by_cases h0 : t.r.xs.getD k 0 = 0
            · exact .inl h0
            · exact .inr (hk3.nz h0)
          obtain ⟨hco4, hev4⟩ := (hk3.co.heq (w' := w3.drewN q2) rfl).cross1 rfl hr0 ho3 hF3 hxk hnP hnz d1 d2 hso (PC es (seen.push en.born)) (fun a b => by
            unfold PC
            constructor
            · rintro ⟨e', he', hs', hk'⟩
              rcases Array.mem_push.1 hs' with q1 | q1
              · exact .inl ⟨e', he', q1, hk'⟩
              · have hbe : e' = en := by
                  have hn := hst.2.1
                  obtain ⟨i1, hi1, rfl⟩ := List.getElem_of_mem he'
                  obtain ⟨i2, hi2, hi2e⟩ := List.getElem_of_mem hel.1
                  have hkk : (es.toList.map (·.born))[i1]'(by simpa using hi1) = (es.toList.map (·.born))[i2]'(by simpa using hi2) := by rw [List.getElem_map, List.getElem_map, hi2e]; exact q1
                  have := (List.getElem_inj hn).1 hkk
                  subst this; exact hi2e
                rw [hbe, hx0k] at hk'
                have := slotv_inj hk'
                simp only [Prod.mk.injEq] at this
                exact .inr ⟨by omega, this.2.symm⟩
            · rintro (⟨e', he', hs', hk'⟩ | ⟨rfl, rfl⟩)
              · exact ⟨e', he', Array.mem_push.2 (.inl hs'), hk'⟩
              · exact ⟨en, hel.1, Array.mem_push.2 (.inr rfl), by rw [hx0k, show (((r - 1).toNat : Nat) : Int) + 1 = r by omega]⟩)
          have hevT : Ev c W s1 w4 (s3.put .o (r - 1).toNat r ⟨r', t.q, 0⟩) := hev3.trans ((Ev.drewN q2).trans hev4)
          have hitW : it < W.heap.size := Nat.lt_of_lt_of_le g8 hf.size
          have hkp := hevT.keeps hitW g9
          have hmW : W.heap[m]? = some (.map es clock) := by rw [hf.block m (Array.getElem?_eq_some_iff.1 g6).1 (hne .cv m (by simp [St.bl, g12, hcv, mblk]))]; exact g6
          have hevW : Ev c w s W s1 := g2.later hf (fun b hb => by rw [List.mem_singleton.1 hb]; exact g7)
          have hm3 : w3.heap[m]? = some (.map es clock) := by
            rw [hk3.fr.block m (Array.getElem?_eq_some_iff.1 hmW).1 (fun e => ?_)]
            · exact hmW
            · have hmb : m ∈ s1.bl c .cv := by simp [St.bl, g12, hcv, mblk]
              rcases List.mem_cons.1 e with e | e
              · exact g1.cl.ap .cv .sb (by simp) m hmb (by simp [St.bl, e])
              · rcases List.mem_append.1 e with e | e
                · exact g1.cl.ap .cv (.tab .o) (by simp) m hmb e
                · rcases List.mem_append.1 e with e | e
                  · exact g1.cl.ap .cv (.tab .y) (by simp) m hmb e
                  · exact g1.cl.ap .cv (.tab .z) (by simp) m hmb e
          have hcv3 : s3.cv = s.cv := hk3.le.cv.trans g12
          have hm4 : w4.heap[m]? = some (.map es clock) := by
            have hmb : m ∈ s3.bl c .cv := by simp [St.bl, hcv3, hcv, mblk]
            rw [hso.fr.block m (Array.getElem?_eq_some_iff.1 hm3).1 (fun e => ?_)]
            · exact hm3
            · rcases List.mem_cons.1 e with e | e
              · exact hk3.co.cl.ap .cv (.tab .o) (by simp) m hmb (by rw [e]; simp [St.bl, ob, d1, Value.ownBlock])
              · exact hk3.co.cl.ap .cv (.row r) (by simp) m hmb (by simp only [St.bl]; rw [hF3]; exact List.mem_append_left _ e)
          refine ⟨rfl, ⟨_, loc3, ord3, hco4, hevW.trans hevT, (g3.trans hk3.le.r).trans (LeR.put _ _ _ _ _), ?_, ?_, hm4, g7, Nat.lt_of_lt_of_le hitW hevT.size, hkp.2, g10, g11, hcv3⟩, hkp.1⟩
          · show s3.ro = _; rw [hk3.le.ro, g4]
          · obtain ⟨b1, b2⟩ := hbs3
            have b1' := b1.ev ((Ev.drewN (c := c) (w := w3) (s := s3) q2).trans hev4)
            have b2' := b2.ev ((Ev.drewN (c := c) (w := w3) (s := s3) q2).trans hev4)
            exact ⟨b1', b2'⟩
    · rintro hb yb it seen wr q ⟨s1, loc1, ord1, g1, g2, g3, g4, g5, g6, g7, g8, g9, g10, g11, g12⟩ hz
      have hco : Co c (wr.drewN q) s1 (gYoung s) loc1 ord1 (fun i _ => i < (s.l .o).length) := by
        refine (g1.said (g1.gc.said (fun i k hp => ?_) (fun r rs ws k x hr hat hrs hi hnp => ?_)) (fun i k hi => Nat.lt_of_lt_of_le hi g3.n)).heq rfl
        · obtain ⟨e', he', _, hk'⟩ := hp
          obtain ⟨x, hx, hxk⟩ := hkey e' he'
          have : x = ((i : Int) + 1, k) := slotv_inj (hxk.symm.trans hk')
          subst this
          obtain ⟨_, t, ht, _⟩ := h.Cok _ _ hx
          show i < (s.l .o).length
          have := h.ref .o (.inl rfl) i
          have hr : refOf .o i = (i : Int) + 1 := rfl
          rw [hr, ht] at this
          exact (List.getElem?_eq_some_iff.1 this.symm).1
        · have hrng := g1.gc.rng r hr
          -- an old thing
          have hold : (s.F ((((loc1 r).toNat - 1 : Nat) : Int) + 1)).isSome = true := by
            have := h.ref .o (.inl rfl) ((loc1 r).toNat - 1)
            have hre : refOf .o ((loc1 r).toNat - 1) = (((loc1 r).toNat - 1 : Nat) : Int) + 1 := rfl
            rw [hre] at this
            rw [this, List.getElem?_eq_getElem hi]; rfl
          have hl2 : loc1 ((((loc1 r).toNat - 1 : Nat) : Int) + 1) = (((loc1 r).toNat - 1 : Nat) : Int) + 1 := g1.pre rfl _ (by omega) hold
          have hrr : r = (((loc1 r).toNat - 1 : Nat) : Int) + 1 := g1.gc.inj r _ hr (by rw [hl2]; omega)
          have hat : (s.F r).map absT = some (rs, ws) := hat
          obtain ⟨t, ht, e⟩ := Option.map_eq_some_iff.1 hat
          have e1 : t.r.xs = rs := congrArg Prod.fst e
          by_cases hx0 : x = 0
          · rw [hx0]; exact g1.gc.z
          · have hok := (h.closed r t ht x (by rw [e1]; exact List.mem_of_getElem? hrs)).resolve_left hx0
            by_cases hxp : 0 < x
            · exact g1.pre rfl x hxp hok
            · have hC := h.cross r t k x (by omega) ht (by rw [e1]; exact hrs) (by omega)
              have : slotv (r, k) ∈ es.toList.map (·.key) := by rw [hk]; exact List.mem_map.2 ⟨_, hC, rfl⟩
              obtain ⟨e', he', hk'⟩ := List.mem_map.1 this
              refine absurd ⟨e', he', ?_, ?_⟩ hnp
              · by_cases hb : e'.born ∈ seen
                · exact hb
                · have hl : e' ∈ (leftOf es seen).toList := by
                    unfold leftOf
                    rw [Array.toList_filter]
                    exact List.mem_filter.2 ⟨he', by simpa using hb⟩
                  have hl2 : leftOf es seen = #[] := Array.eq_empty_of_size_eq_zero hz
                  rw [hl2] at hl
                  simp at hl
              · rw [← hrr]; exact hk'
      obtain ⟨b1, b2⟩ := g5
      refine young_end h hco ?_ g3 g4 ⟨⟨b1.is, b1.no⟩, ⟨b2.is, b2.no⟩⟩
      exact g2.trans (Ev.drewN q)
end Rs
end Go.Proofs.Ytaapakpanbfmlaa
