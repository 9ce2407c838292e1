/-
  While things move: the references of a thing that has moved are turned, side by side, and page by page.
-/
import Derived.Test.YtaapakpanbfmlaaPq
namespace Go.Proofs.Ytaapakpanbfmlaa
namespace Rs
open Go.RowKit Hp
set_option linter.unusedVariables false
set_option linter.unusedSimpArgs false
/-- A function that turns references, while things move. -/
structure Fv (c : Cf) (G : Gf) (fn : FuncId) (cap : Array Value) (bx : List Nat) (Bs : World → St → Prop) : Prop where
  call : ∀ args w, Sem.run Try.prog (callFunc fn args) w = .ok (.enter fn args) w
  bs0 : ∀ w s w' s', s'.v .y = s.v .y → s'.v .z = s.v .z → w.heap.size ≤ w'.heap.size → (∀ b ∈ bx, w'.heap[b]? = w.heap[b]?) → (∀ b ∈ bx, ∀ p, b ∉ s'.bl c p) → Bs w s → Bs w' s'
  bl : ∀ w s, Bs w s → ∀ b ∈ bx, b < w.heap.size ∧ ∀ p, b ∉ s.bl c p
  turn : ∀ w s loc ord P x, Co c w s G loc ord P → Bs w s → (x = 0 ∨ G.ok x) → Calls Try.prog fn (#[.int .i64 x] ++ cap) w fun e w' => ∃ s' loc' ord', e = .returned (.int .i64 (loc' x)) ∧ TurnOk c w s G loc P x w' s' loc' ord'
  okc : ∀ r rs ws x, G.ok r → G.gs.at_ r = some (rs, ws) → x ∈ rs → x ≠ 0 → G.ok x
theorem Fv.bs {c : Cf} {G : Gf} {fn : FuncId} {cap : Array Value} {bx : List Nat} {Bs : World → St → Prop} (h : Fv c G fn cap bx Bs) (w : World) (s : St) (w' : World) (s' : St) (loc loc' : Int → Int) (he : Ev c w s w' s') (hl : Le s s' loc loc') (hb : Bs w s) : Bs w' s' := by
  refine h.bs0 w s w' s' hl.vy hl.vz he.size (fun b hm => ?_) (fun b hm => ?_) hb
  · obtain ⟨a1, a2⟩ := h.bl w s hb b hm
    exact (he.keeps a1 a2).1
  · obtain ⟨a1, a2⟩ := h.bl w s hb b hm
    exact (he.keeps a1 a2).2
/-- How a row's values lie: side by side in a block, or on pages. -/
def ShIs (w : World) (rv : Rv) : Option (Nat × Array MapEntry × Nat) → Prop
  | none => ∃ g, Sid .i64 55 w rv g
  | some (m, es, clock) => Pgs .i64 121 w rv m es clock
/-- A run of values of a row, in a block. -/
def SegAt (rv : Rv) (g off len : Nat) : Option (Nat × Array MapEntry × Nat) → Prop
  | none => rv.sv = .slice (some ⟨g, 0, none⟩) rv.xs.length rv.xs.length ∧ off = 0 ∧ len = rv.xs.length
  | some (m, es, clock) => ∃ e ∈ es.toList, ∃ p : Nat, e.key = .int .i64 (p : Int) ∧ e.val = .pointer (some ⟨g, 0, none⟩) ∧ off = 256 * p ∧ len = 256
theorem ShIs.row {w : World} {rv : Rv} {sh : Option (Nat × Array MapEntry × Nat)} (h : ShIs w rv sh) (hn : rv.own.Nodup) : RowIs .i64 55 121 w rv := by
  cases sh with
  | none => exact ⟨hn, .inr (.inl h)⟩
  | some x => exact ⟨hn, .inr (.inr ⟨x.1, x.2.1, x.2.2, h⟩)⟩
theorem ShIs.same {w w' : World} {rv : Rv} {sh : Option (Nat × Array MapEntry × Nat)} (h : ShIs w rv sh) (hb : ∀ b ∈ rv.own, w'.heap[b]? = w.heap[b]?) : ShIs w' rv sh := by
  cases sh with
  | none => obtain ⟨g, h⟩ := h; exact ⟨g, h.same hb⟩
  | some x => exact Pgs.same h hb
theorem Seg.cell {w : World} {rv : Rv} {sh : Option (Nat × Array MapEntry × Nat)} {g off len : Nat} (h : ShIs w rv sh) (ha : SegAt rv g off len sh) {i : Nat} (hi : i < len) : w.cell? ⟨g, i, none⟩ = some (.int .i64 (rv.xs.getD (off + i) 0)) ∧ w.frozen? ⟨g, i, none⟩ = false ∧ g ∈ rv.own := by
  cases sh with
  | none =>
    obtain ⟨g', h⟩ := h
    obtain ⟨a1, rfl, rfl⟩ := ha
    have : g' = g := by
      have e := h.sv.symm.trans a1
      injection e with e; injection e with e; injection e with e
    subst this
    refine ⟨?_, frozen_of h.blk, by rw [h.own]; simp⟩
    rw [cell_of_row w g' i _ 55 (0, 0) h.blk]
    simp [List.getD_eq_getElem?_getD, hi]
  | some x =>
    obtain ⟨m, es, clock⟩ := x
    obtain ⟨e, he, p, hk, hv, rfl, rfl⟩ := ha
    have h : Pgs .i64 121 w rv m es clock := h
    obtain ⟨p', g', e1, e2, e3⟩ := h.pg e he
    have hp : p' = p := key_inj (e1.symm.trans hk)
    have hg : g' = g := by
      have e := e2.symm.trans hv
      injection e with e; injection e with e; injection e with e
    subst hp; subst hg
    refine ⟨?_, frozen_of e3, by rw [h.own]; exact List.mem_cons_of_mem _ (List.mem_map.2 ⟨e, he, by rw [hv]; rfl⟩)⟩
    rw [cell_of_row w g' i _ 121 (0, 0) e3, List.getElem?_toArray]
    exact page_get _ _ _ _ hi
theorem Seg.put {w : World} {rv : Rv} {sh : Option (Nat × Array MapEntry × Nat)} {g off len : Nat} (h : ShIs w rv sh) (hn : rv.own.Nodup) (ha : SegAt rv g off len sh) {i : Nat} (hi : i < len) (hx : off + i < rv.xs.length) (y : Int) : ShIs (w.setCell ⟨g, i, none⟩ (.int .i64 y)) (rv.put (off + i) y) sh := by
  cases sh with
  | none =>
    obtain ⟨g', h⟩ := h
    obtain ⟨a1, rfl, rfl⟩ := ha
    have : g' = g := by
      have e := h.sv.symm.trans a1
      injection e with e; injection e with e; injection e with e
    subst this
    rw [Nat.zero_add]
    exact ⟨g', h.put (tP := 121) hi y⟩
  | some x =>
    obtain ⟨m, es, clock⟩ := x
    obtain ⟨e, he, p, hk, hv, rfl, rfl⟩ := ha
    have h : Pgs .i64 121 w rv m es clock := h
    have e1 : (256 * p + i) / 256 = p := by omega
    have e2 : (256 * p + i) % 256 = i := by omega
    have := h.put hn hx y he (g := g) (by rw [e1]; exact hk) hv
    rw [e2] at this
    exact this
theorem SegAt.put {rv : Rv} {sh : Option (Nat × Array MapEntry × Nat)} {g off len : Nat} (ha : SegAt rv g off len sh) (k : Nat) (y : Int) : SegAt (rv.put k y) g off len sh := by
  cases sh with
  | none => unfold SegAt Rv.put at *; simpa using ha
  | some x => exact ha
section
variable {c : Cf} {w : World} {s : St} {G : Gf} {loc : Int → Int} {ord : List Int} {P : Nat → Nat → Prop}
/-- What is not turned yet is as it was. -/
theorem Co.val (h : Co c w s G loc ord P) {j k : Nat} {r x : Int} {t : Tp} (ho : ord[j]? = some r) (hF : s.F r = some t) (hp : ¬ P j k) (hk : t.r.xs[k]? = some x) : ∃ rs ws, G.gs.at_ r = some (rs, ws) ∧ rs[k]? = some x := by
  have hlr := (h.lo r j).1 ho
  obtain ⟨rs, ws, rs', a1, a2, a3, a4⟩ := h.gc.src r (by omega)
  have e : (loc r).toNat - 1 = j := by omega
  rw [e, List.getElem?_map, h.at_o ho hF] at a2
  have a2 : (t.r.xs, t.q.xs.map Int.toNat) = (rs', ws) := Option.some.inj a2
  obtain ⟨rfl, rfl⟩ := Prod.mk.inj a2
  have hlt := (List.getElem?_eq_some_iff.1 hk).1
  have hrk : rs[k]? = some (rs[k]'(by omega)) := List.getElem?_eq_getElem (by omega)
  have := (a4 k _ hrk).2 (by rw [e]; exact hp)
  rw [hk] at this
  exact ⟨rs, _, a1, by rw [hrk, ← this]⟩
/-- Where there is none, nothing is to be turned. -/
theorem Co.skipS (h : Co c w s G loc ord P) {j : Nat} {r : Int} {t : Tp} (ho : ord[j]? = some r) (hF : s.F r = some t) (S : Nat → Prop) (hk : ∀ k, S k → ¬ P j k → t.r.xs.getD k 0 = 0) (P' : Nat → Nat → Prop) (hP : ∀ a b, P' a b ↔ P a b ∨ (a = j ∧ S b)) : Co c w s G loc ord P' := by
  have hlr := (h.lo r j).1 ho
  have hjl := (List.getElem?_eq_some_iff.1 (h.at_o ho hF)).1
  refine h.said (h.gc.said (fun a b hab => (hP a b).2 (.inl hab)) (fun r2 rs ws k2 x hr2 hat hrs hp2 hn2 => ?_)) (fun a b hab => ?_)
  · rcases (hP _ _).1 hp2 with h1 | ⟨h1, h2⟩
    · exact absurd h1 hn2
    · have hrng := h.gc.rng r2 hr2
      have hr : r2 = r := h.gc.inj r2 r hr2 (by omega)
      subst hr
      obtain ⟨rs1, ws1, rs', a1, a2, a3, a4⟩ := h.gc.src r2 hr2
      rw [hat] at a1
      cases a1
      rw [h1, List.getElem?_map, h.at_o ho hF] at a2
      have a2 : (t.r.xs, t.q.xs.map Int.toNat) = (rs', ws) := Option.some.inj a2
      cases a2
      have := (a4 k2 x hrs).2 hn2
      have hk0 := hk k2 h2 (by rw [← h1]; exact hn2)
      rw [List.getD_eq_getElem?_getD, this] at hk0
      have hx0 : x = 0 := hk0
      rw [hx0]; exact h.gc.z
  · rcases (hP a b).1 hab with h1 | h1
    · exact h.Pn a b h1
    · rw [h1.1]; exact hjl
theorem Co.skip (h : Co c w s G loc ord P) {j k : Nat} {r : Int} {t : Tp} (ho : ord[j]? = some r) (hF : s.F r = some t) (hp : ¬ P j k) (hk : t.r.xs.getD k 0 = 0) (P' : Nat → Nat → Prop) (hP : ∀ a b, P' a b ↔ P a b ∨ (a = j ∧ b = k)) : Co c w s G loc ord P' :=
  h.skipS ho hF (fun b => b = k) (fun b hb _ => by rw [hb]; exact hk) P' hP
/-- The thing that r names, while its row is turned. -/
structure Thg (c : Cf) (w : World) (s : St) (G : Gf) (loc : Int → Int) (wr : World) (s' : St) (loc' : Int → Int) (ord' : List Int) (P : Nat → Nat → Prop) (j : Nat) (r : Int) (sh : Option (Nat × Array MapEntry × Nat)) (t' : Tp) (Bs : World → St → Prop) : Prop where
  co : Co c wr s' G loc' ord' P
  ev : Ev c w s wr s'
  le : Le s s' loc loc'
  o : ord'[j]? = some r
  F : s'.F r = some t'
  sh : ShIs wr t'.r sh
  bs : Bs wr s'
def PJ (P : Nat → Nat → Prop) (j off k : Nat) : Nat → Nat → Prop := fun a b => P a b ∨ (a = j ∧ off ≤ b ∧ b < off + k)
theorem Thg.own {w0 : World} {s0 s' : St} {loc0 loc' : Int → Int} {ord' : List Int} {wr : World} {j : Nat} {r : Int} {sh : Option (Nat × Array MapEntry × Nat)} {t' : Tp} {Bs : World → St → Prop} (h : Thg c w0 s0 G loc0 wr s' loc' ord' P j r sh t' Bs) : t'.r.own.Nodup := (nodup_own h.co.cl h.F).1
/-- turnAll, of a run of values of a thing's row. -/
theorem turnAll_any {fn : FuncId} {cap : Array Value} {bx : List Nat} {Bs : World → St → Prop} (hf : Fv c G fn cap bx Bs) {w0 : World} {s0 : St} {loc0 : Int → Int} {j g off len cc : Nat} {r : Int} {sh : Option (Nat × Array MapEntry × Nat)} {t : Tp}
    (h : Thg c w0 s0 G loc0 w s loc ord P j r sh t Bs) (hseg : SegAt t.r g off len sh) (hlen : len ≤ 1073741824) (hnP : ∀ k, off ≤ k → k < off + len → ¬ P j k) :
    Calls Try.prog 65 #[.slice (some ⟨g, 0, none⟩) len cc, .func (.func fn) #[] cap] w fun e w' => e = .returned (.tuple #[]) ∧ ∃ s' loc' ord' t', Thg c w0 s0 G loc0 w' s' loc' ord' (PJ P j off len) j r sh t' Bs ∧ Ev c w s w' s' ∧ t'.r.xs.length = t.r.xs.length ∧ t'.r.sv = t.r.sv ∧ t'.r.pv = t.r.pv := by
  refine turnAll_walk fn hf.call cap g len cc hlen (fun k wr => ∃ s' loc' ord' t', Thg c w0 s0 G loc0 wr s' loc' ord' (PJ P j off k) j r sh t' Bs ∧ Ev c w s wr s' ∧ t'.r.xs.length = t.r.xs.length ∧ t'.r.sv = t.r.sv ∧ t'.r.pv = t.r.pv ∧ SegAt t'.r g off len sh) w (hide ?_) (hide ?_) |>.mono ?_
  · refine ⟨s, loc, ord, t, ⟨h.co.said (h.co.gc.said (fun a b hab => .inl hab) (fun r2 rs ws k2 x _ _ _ hp2 hn2 => ?_)) (fun a b hab => ?_), h.ev, h.le, h.o, h.F, h.sh, h.bs⟩, Ev.refl _ _ _, rfl, rfl, rfl, hseg⟩
    · rcases hp2 with h1 | h1
      · exact absurd h1 hn2
      · omega
    · rcases hab with h1 | h1
      · exact h.co.Pn a b h1
      · omega
  · rintro k wr hk ⟨s1, loc1, ord1, t1, hT, hE, e1, e2, e3, hS⟩
    obtain ⟨c1, c2, c3⟩ := Seg.cell hT.sh hS hk
    have hPs : ∀ a b, PJ P j off (k + 1) a b ↔ PJ P j off k a b ∨ (a = j ∧ b = off + k) := fun a b => by
      unfold PJ
      constructor
      · rintro (h1 | h1)
        · exact .inl (.inl h1)
        · by_cases hb : b = off + k
          · exact .inr ⟨h1.1, hb⟩
          · exact .inl (.inr ⟨h1.1, h1.2.1, by omega⟩)
      · rintro ((h1 | h1) | h1)
        · exact .inl h1
        · exact .inr ⟨h1.1, h1.2.1, by omega⟩
        · exact .inr ⟨h1.1, by omega, by omega⟩
    have hno : ¬ PJ P j off k j (off + k) := fun hh => by
      rcases hh with h1 | h1
      · exact hnP (off + k) (by omega) (by omega) h1
      · omega
    refine ⟨t1.r.xs.getD (off + k) 0, c1, fun hx => ?_, fun hx => ?_⟩
    · exact ⟨s1, loc1, ord1, t1, ⟨hT.co.skip hT.o hT.F hno hx _ hPs, hT.ev, hT.le, hT.o, hT.F, hT.sh, hT.bs⟩, hE, e1, e2, e3, hS⟩
    · have hlt : off + k < t1.r.xs.length := by
        rcases Nat.lt_or_ge (off + k) t1.r.xs.length with h1 | h1
        · exact h1
        · rw [List.getD_eq_getElem?_getD, List.getElem?_eq_none_iff.2 h1] at hx
          exact absurd rfl hx
      have hxk : t1.r.xs[off + k]? = some (t1.r.xs.getD (off + k) 0) := by
        rw [List.getD_eq_getElem?_getD, List.getElem?_eq_getElem hlt]; rfl
      generalize t1.r.xs.getD (off + k) 0 = x at hx hxk c1 ⊢
      have hokr : G.ok r := hT.co.okm r (List.mem_of_getElem? hT.o)
      obtain ⟨rs, ws, g1, g2⟩ := hT.co.val hT.o hT.F hno hxk
      have hokx : G.ok x := hf.okc r rs ws x hokr g1 (List.mem_of_getElem? g2) hx
      refine (hf.turn wr s1 loc1 ord1 _ x hT.co hT.bs (.inr hokx)).mono ?_
      rintro e w2 ⟨s2, loc2, ord2, rfl, hk2⟩
      have hF2 : s2.F r = some t1 := by rw [hk2.F]; exact hT.F
      have hlr : loc2 r = (j : Int) + 1 := by
        have := (hT.co.lo r j).1 hT.o
        rw [hk2.le.loc r (by omega), this]
      have ho2 : ord2[j]? = some r := (hk2.co.lo r j).2 hlr
      have hrow2 := hk2.co.cl.has (.row r) t1 hF2
      -- the row's blocks are as they were
      have hsh2 : ShIs w2 t1.r sh := hT.sh.same (fun b hb => hk2.rows (ord := ord1) hT.co.cl hT.F b (List.mem_append_left _ hb))
      obtain ⟨d1, d2, d3⟩ := Seg.cell hsh2 hS hk
      refine ⟨loc2 x, rfl, ⟨_, d1⟩, d2, ?_⟩
      have hnd := (nodup_own hk2.co.cl hF2).1
      have hput := Seg.put hsh2 hnd hS hk hlt (loc2 x)
      obtain ⟨hco3, hev3⟩ := hk2.co.turn1 ho2 hF2 hxk hno (.inr (hk2.nz hx)) (hput.row hnd) ((Fr.refl _ _).set (List.mem_singleton.2 rfl) _) d3 (PJ P j off (k + 1)) hPs
      refine ⟨_, loc2, ord2, ⟨t1.r.put (off + k) (loc2 x), t1.q, t1.mv⟩, ⟨hco3, hT.ev.trans (hk2.ev.trans hev3), hT.le.trans (hk2.le.trans (Le.turnd _ _ _ _ _)), ho2, ?_, hput, ?_⟩, hE.trans (hk2.ev.trans hev3), ?_, e2, e3, hS.put _ _⟩
      · simp only [St.turnd, updAt_same]
      · exact hf.bs _ _ _ _ loc2 loc2 hev3 (Le.turnd _ _ _ _ _) (hf.bs _ _ _ _ _ _ hk2.ev hk2.le hT.bs)
      · rw [← e1]; simp [Rv.put]
  · rintro e w' ⟨rfl, s', loc', ord', t', h1, h2, h3, h4, h5, _⟩
    exact ⟨rfl, s', loc', ord', t', h1, h2, h3, h4, h5⟩
end
end Rs
end Go.Proofs.Ytaapakpanbfmlaa
