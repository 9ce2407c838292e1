/-
  While things move: settle, whole.
  The closures, as functions that turn references.
-/
import Derived.Test.YtaapakpanbfmlaaPu
namespace Go.Proofs.Ytaapakpanbfmlaa
namespace Rs
open Go.RowKit Hp
set_option linter.unusedVariables false
set_option linter.unusedSimpArgs false
theorem own_val {w : World} {B e z n : Nat} {v : Value} {xs : List Value} (h : w.ownsRow B e z v n xs) : ∃ a cap, v = .slice a n cap ∧ (cap : Int) ≤ 9223372036854775807 := by
  rcases h.2 with ⟨rfl, rfl⟩ | ⟨g, cap, cur, rfl, h1, h2, h3, h4, _⟩
  · exact ⟨none, 0, rfl, by omega⟩
  · exact ⟨some ⟨g, 0, none⟩, cap, rfl, by unfold maxLen at h4; omega⟩
theorem RowIs.forms {k : IntKind} {tS tP : TypeId} {w : World} {r : Rv} (h : RowIs k tS tP w r) : ∃ sa sn sc mo, r.sv = .slice sa sn sc ∧ r.pv = .map mo := by
  rcases h.2 with h | ⟨g, h⟩ | ⟨m, es, c, h⟩ <;> exact ⟨_, _, _, _, h.sv, h.pv⟩
section
variable {c : Cf} {w : World} {s : St} {G : Gf} {loc : Int → Int} {ord : List Int} {P : Nat → Nat → Prop}
theorem settle_any {fn : FuncId} {cap : Array Value} {bx : List Nat} {Bs : World → St → Prop} (hf : Fv c G fn cap bx Bs) {first : Nat} (h : Co c w s G loc ord (fun i _ => i < first)) (hbs : Bs w s) (hro : ∀ x ∈ s.ro, x = 0 ∨ G.ok x) (hfl : first ≤ (s.l .o).length) :
    Calls Try.prog 59 #[.pointer (some ⟨c.sb, 0, none⟩), .int .i64 (first : Int), .func (.func fn) #[] cap, .iface 61 (.pointer (some ⟨c.sb, 9, none⟩))] w fun e w' => e = .returned (.tuple #[]) ∧ ∃ s' loc' ord' wm a cp, Co c wm s' G loc' ord' (fun i _ => i < (s'.l .o).length) ∧ Cl c w' (s'.settled (.slice a 0 cp)) ∧ Ev c w s w' (s'.settled (.slice a 0 cp)) ∧ LeR s s' loc loc' ∧ s'.ro = s.ro.map loc' ∧ ∀ x ∈ s.ro, x ≠ 0 → loc' x ≠ 0 := by
  have hcap := h.cap
  have hlen0 := h.len
  refine settle_walk _ c.sb first G.dom.length (fun k wr => ∃ s' loc' ord', Co c wr s' G loc' ord' (fun i _ => i < k) ∧ Ev c w s wr s' ∧ LeR s s' loc loc' ∧ Bs wr s' ∧ s'.ro = s.ro.map loc' ∧ (∀ x ∈ s.ro, x ≠ 0 → loc' x ≠ 0) ∧ k ≤ (s'.l .o).length) w (by omega) (by omega) (hide ((turn81_any hf h hbs hro).mono ?_)) (hide ?_)
  · rintro e w' ⟨rfl, s', loc', ord', h1, h2, h3, h4, h5, h6⟩
    exact ⟨rfl, s', loc', ord', h1, h2, h3, h4, h5, h6, Nat.le_trans hfl h3.n⟩
  · rintro k wr ⟨s1, loc1, ord1, hco, hev, hle, hb1, hr1, hn1, hk1⟩
    have hown : wr.ownsRow c.B 96 9 (s1.v .o) (s1.l .o).length ((s1.l .o).flatMap Tp.cells) := hco.cl.has (.tab .o)
    obtain ⟨a, cp, hv, _⟩ := own_val hown
    refine ⟨a, (s1.l .o).length, cp, by rw [hco.cl.cell 5 rfl, hv], hco.len, fun hk => ?_, fun hk => ?_⟩
    · -- a thing more
      have hko : k < ord1.length := by rw [hco.on]; exact hk
      have ho : ord1[k]? = some ord1[k] := List.getElem?_eq_getElem hko
      generalize ord1[k] = r at ho
      obtain ⟨_, _, hs⟩ := hco.okd r (hco.okm r (List.mem_of_getElem? ho))
      obtain ⟨t, hF⟩ := Option.isSome_iff_exists.1 hs
      have hj := hco.at_o ho hF
      obtain ⟨g, cap2, cur, e1, h2, h3, h4⟩ := hco.cl.thing .o hj
      rw [hv] at e1
      cases e1
      obtain ⟨sa, sn, sc, mo, hsv, hpv⟩ := (hco.cl.has (.row r) t hF).1.forms
      have h40 := h4 0 _ (by omega) (rfl : (Tp.cells ⟨t.r, t.q, 0⟩)[0]? = some _)
      have h41 := h4 1 _ (by omega) (rfl : (Tp.cells ⟨t.r, t.q, 0⟩)[1]? = some _)
      have h42 := h4 2 _ (by omega) (rfl : (Tp.cells ⟨t.r, t.q, 0⟩)[2]? = some _)
      rw [Nat.add_zero] at h40
      refine ⟨g, (t.r.xs.length : Int), sa, sn, sc, mo, rfl, h40, by rw [← hsv]; exact h41, by rw [← hpv]; exact h42, ?_⟩
      have hfr : Fr [] wr (wr.alloc (.cells #[.int .i64 (t.r.xs.length : Int), .slice sa sn sc, .map mo] 91)) := Fr.of_below ((Below.refl _ _).alloc (Nat.le_refl _) _)
      have hco2 := hco.apart hfr (by simp)
      have hb2 := hf.bs0 wr s1 _ s1 rfl rfl hfr.size (fun b hb => hfr.block b (hf.bl wr s1 hb1 b hb).1 (by simp)) (fun b hb => (hf.bl wr s1 hb1 b hb).2) hb1
      refine (turn64_any hf hco2 (Ev.refl _ _ _) (Le.refl _ _) ho hF hb2 (fun _ => by omega) (heap_alloc_new wr _) (fun p hp => ?_) (by rw [hsv]; rfl) (by rw [hpv]; rfl)).mono ?_
      · have := (hco.cl.has p).lt _ hp; omega
      · rintro e w2 ⟨rfl, s2, loc2, ord2, g1, g2, g3, g4⟩
        have hlx : ∀ x ∈ s.ro, loc2 x = loc1 x := fun x hx => by
          by_cases h0 : x = 0
          · rw [h0, g1.gc.z, hco.gc.z]
          · exact g3.loc x (hn1 x hx h0)
        refine ⟨rfl, s2, loc2, ord2, g1.congrP (fun a b => by omega), (hev.later hfr (by simp)).trans g2, hle.trans g3.r, g4, ?_, fun x hx h0 => ?_, ?_⟩
        · rw [g3.ro, hr1]; exact List.map_congr_left (fun x hx => (hlx x hx).symm)
        · rw [hlx x hx]; exact hn1 x hx h0
        · have := g3.n
          have hsl : (s1.l .o).length ≤ (s2.l .o).length := this
          omega
    · -- the end
      have hyo : wr.ownsRow c.B 96 9 (s1.v .y) (s1.l .y).length ((s1.l .y).flatMap Tp.cells) := hco.cl.has (.tab .y)
      obtain ⟨ya, yc, hyv, hyc⟩ := own_val hyo
      rw [hyv] at hyo
      obtain ⟨W, hrun, hfr, hown2⟩ := clear_tab 0 hyo
      rw [← hyv] at hfr
      obtain ⟨hW, hcl, hevS⟩ := hco.cl.settle hyv hfr hown2
      have hWs := hW.trans (hco.cl.has .sb).1
      refine ⟨ya, (s1.l .y).length, yc, W, by rw [hco.cl.cell 3 rfl, hyv], hyc, hrun, fun i => frozen_of hWs, ?_, ⟨.int .i64 (s1.yw : Int), ?_⟩, ⟨s1.cv, ?_⟩, s1, loc1, ord1, wr, ya, yc, hco.congrP (fun a b => ?_), hcl, hev.trans hevS, hle, hr1, hn1⟩
      · rw [cell_of_row W c.sb 3 _ 59 (0, 0) hWs]
        show some (s1.v .y) = _; rw [hyv]
      · rw [cell_of_row W c.sb 4 _ 59 (0, 0) hWs]; rfl
      · rw [cell_of_row W c.sb 8 _ 59 (0, 0) hWs]; rfl
      · have : (s1.l .o).length = k := by omega
        rw [this]
end
end Rs
end Go.Proofs.Ytaapakpanbfmlaa
namespace Go.Proofs.Ytaapakpanbfmlaa
namespace Rs
open Go.RowKit Hp
set_option linter.unusedVariables false
set_option linter.unusedSimpArgs false
/-- A block apart from the space. -/
structure Bx (c : Cf) (w : World) (s : St) (b : Nat) (o : Obj) : Prop where
  is : w.heap[b]? = some o
  no : ∀ p, b ∉ s.bl c p
theorem Bx.lt {c : Cf} {w : World} {s : St} {b : Nat} {o : Obj} (h : Bx c w s b o) : b < w.heap.size := (Array.getElem?_eq_some_iff.1 h.is).1
theorem Bx.ev {c : Cf} {w w' : World} {s s' : St} {b : Nat} {o : Obj} (h : Bx c w s b o) (he : Ev c w s w' s') : Bx c w' s' b o :=
  ⟨by rw [(he.keeps h.lt h.no).1]; exact h.is, (he.keeps h.lt h.no).2⟩
theorem Bx.fr {c : Cf} {w w' : World} {s : St} {b : Nat} {o : Obj} (h : Bx c w s b o) {L : List Nat} (hf : Fr L w w') (hn : b ∉ L) : Bx c w' s b o :=
  ⟨by rw [hf.block b h.lt hn]; exact h.is, h.no⟩
def Bs60 (c : Cf) (hb yb : Nat) (w : World) (s : St) : Prop := Bx c w s hb (.cells #[.pointer (some ⟨c.sb, 0, none⟩)] 83 (0, 0)) ∧ Bx c w s yb (.cells #[s.v .y] 49 (0, 0))
def Bs57 (c : Cf) (hb yb zb : Nat) (w : World) (s : St) : Prop := Bx c w s hb (.cells #[.pointer (some ⟨c.sb, 0, none⟩)] 83 (0, 0)) ∧ Bx c w s yb (.cells #[s.v .y] 49 (0, 0)) ∧ Bx c w s zb (.cells #[s.v .z] 49 (0, 0))
theorem call60 (args : Array Value) (w : World) : Sem.run Try.prog (callFunc 60 args) w = .ok (.enter 60 args) w := by kernel_rfl
theorem call57 (args : Array Value) (w : World) : Sem.run Try.prog (callFunc 57 args) w = .ok (.enter 57 args) w := by kernel_rfl
theorem fv60 {c : Cf} {G : Gf} (ha : G.all = false) (hb yb : Nat) (hokc : ∀ r rs ws x, G.ok r → G.gs.at_ r = some (rs, ws) → x ∈ rs → x ≠ 0 → G.ok x) : Fv c G 60 #[.pointer (some ⟨hb, 0, none⟩), .pointer (some ⟨yb, 0, none⟩)] [hb, yb] (Bs60 c hb yb) := by
  refine ⟨call60, fun w s w' s' h1 h2 h3 h4 h5 ⟨b1, b2⟩ => ⟨⟨by rw [h4 hb (by simp)]; exact b1.is, h5 hb (by simp)⟩, ⟨by rw [h4 yb (by simp), h1]; exact b2.is, h5 yb (by simp)⟩⟩, fun w s ⟨b1, b2⟩ b hm => ?_, fun w s loc ord P x h hbs hx => ?_, hokc⟩
  · simp only [List.mem_cons, List.not_mem_nil, or_false] at hm
    rcases hm with rfl | rfl
    · exact ⟨b1.lt, b1.no⟩
    · exact ⟨b2.lt, b2.no⟩
  · obtain ⟨b1, b2⟩ := hbs
    show Calls Try.prog 60 #[.int .i64 x, .pointer (some ⟨hb, 0, none⟩), .pointer (some ⟨yb, 0, none⟩)] w _
    by_cases hneg : x < 0
    · have hok : G.ok x := by
        rcases hx with rfl | hx
        · omega
        · exact hx
      have hxr := ref_y hneg
      rw [← hxr] at hok
      obtain ⟨g, n, cap, hv, hj, hn, y, hm⟩ := move_any h (.inl rfl) hok
      have hx' : x = -((((-x - 1).toNat : Nat) : Int) + 1) := by omega
      have c1 : w.cell? ⟨hb, 0, none⟩ = some (.pointer (some ⟨c.sb, 0, none⟩)) := by rw [cell_of_row w hb 0 _ 83 (0, 0) b1.is]; rfl
      have c2 : w.cell? ⟨yb, 0, none⟩ = some (.slice (some ⟨g, 0, none⟩) n cap) := by rw [cell_of_row w yb 0 _ 49 (0, 0) b2.is, hv]; rfl
      have := c60_neg (-x - 1).toNat n cap g c.sb hb yb y w hj hn c1 c2 (hide hm)
      rw [← hx'] at this
      refine this.mono ?_
      rintro e w' ⟨rfl, s', loc', ord', hy, hok'⟩
      rw [hxr] at hy hok'
      exact ⟨s', loc', ord', by rw [hy], hok'⟩
    · have hxl : loc x = x := by
        rcases hx with rfl | hx
        · exact h.gc.z
        · exact h.pre ha x (by have := (h.okd x hx).1; omega) hx
      refine (c60_pos x (by omega) hb yb w).mono ?_
      rintro e w' ⟨rfl, rfl⟩
      exact ⟨s, loc, ord, by rw [hxl], ⟨Ev.refl _ _ _, h, Le.refl _ _, rfl, fun h0 => by rw [hxl]; exact h0, Fr.refl _ _⟩⟩
theorem fv57 {c : Cf} {G : Gf} (ha : G.all = true) (hb yb zb : Nat) (hokc : ∀ r rs ws x, G.ok r → G.gs.at_ r = some (rs, ws) → x ∈ rs → x ≠ 0 → G.ok x) : Fv c G 57 #[.pointer (some ⟨hb, 0, none⟩), .pointer (some ⟨yb, 0, none⟩), .pointer (some ⟨zb, 0, none⟩)] [hb, yb, zb] (Bs57 c hb yb zb) := by
  refine ⟨call57, fun w s w' s' h1 h2 h3 h4 h5 ⟨b1, b2, b3⟩ => ⟨⟨by rw [h4 hb (by simp)]; exact b1.is, h5 hb (by simp)⟩, ⟨by rw [h4 yb (by simp), h1]; exact b2.is, h5 yb (by simp)⟩, ⟨by rw [h4 zb (by simp), h2]; exact b3.is, h5 zb (by simp)⟩⟩, fun w s ⟨b1, b2, b3⟩ b hm => ?_, fun w s loc ord P x h hbs hx => ?_, hokc⟩
  · simp only [List.mem_cons, List.not_mem_nil, or_false] at hm
    rcases hm with rfl | rfl | rfl
    · exact ⟨b1.lt, b1.no⟩
    · exact ⟨b2.lt, b2.no⟩
    · exact ⟨b3.lt, b3.no⟩
  · obtain ⟨b1, b2, b3⟩ := hbs
    show Calls Try.prog 57 #[.int .i64 x, .pointer (some ⟨hb, 0, none⟩), .pointer (some ⟨yb, 0, none⟩), .pointer (some ⟨zb, 0, none⟩)] w _
    have c1 : w.cell? ⟨hb, 0, none⟩ = some (.pointer (some ⟨c.sb, 0, none⟩)) := by rw [cell_of_row w hb 0 _ 83 (0, 0) b1.is]; rfl
    rcases hx with rfl | hok
    · refine (c57_zero hb yb zb w).mono ?_
      rintro e w' ⟨rfl, rfl⟩
      exact ⟨s, loc, ord, by rw [h.gc.z], ⟨Ev.refl _ _ _, h, Le.refl _ _, rfl, fun h0 => absurd rfl h0, Fr.refl _ _⟩⟩
    · by_cases hneg : x < 0
      · have hxr := ref_y hneg
        rw [← hxr] at hok
        obtain ⟨g, n, cap, hv, hj, hn, y, hm⟩ := move_any h (.inl rfl) hok
        have hx' : x = -((((-x - 1).toNat : Nat) : Int) + 1) := by omega
        have c2 : w.cell? ⟨yb, 0, none⟩ = some (.slice (some ⟨g, 0, none⟩) n cap) := by rw [cell_of_row w yb 0 _ 49 (0, 0) b2.is, hv]; rfl
        have := c57_neg (-x - 1).toNat n cap g c.sb hb yb zb y w hj hn c1 c2 (hide hm)
        rw [← hx'] at this
        refine this.mono ?_
        rintro e w' ⟨rfl, s', loc', ord', hy, hok'⟩
        rw [hxr] at hy hok'
        exact ⟨s', loc', ord', by rw [hy], hok'⟩
      · have hpos : 0 < x := by have := (h.okd x hok).1; omega
        have hxr := ref_z hpos
        rw [← hxr] at hok
        obtain ⟨g, n, cap, hv, hj, hn, y, hm⟩ := move_any h (.inr ⟨rfl, ha⟩) hok
        have hx' : x = (((x - 1).toNat : Nat) : Int) + 1 := by omega
        have c2 : w.cell? ⟨zb, 0, none⟩ = some (.slice (some ⟨g, 0, none⟩) n cap) := by rw [cell_of_row w zb 0 _ 49 (0, 0) b3.is, hv]; rfl
        have := c57_pos (x - 1).toNat n cap g c.sb hb yb zb y w hj hn c1 c2 (hide hm)
        rw [← hx'] at this
        refine this.mono ?_
        rintro e w' ⟨rfl, s', loc', ord', hy, hok'⟩
        rw [hxr] at hy hok'
        exact ⟨s', loc', ord', by rw [hy], hok'⟩
end Rs
end Go.Proofs.Ytaapakpanbfmlaa
