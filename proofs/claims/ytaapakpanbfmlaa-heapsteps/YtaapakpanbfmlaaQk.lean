/-
  The program's Space: makeRoom and Make do to the graph what they should.
-/
import Derived.Test.YtaapakpanbfmlaaQj
import Derived.Test.YtaapakpanbfmlaaQd
namespace Go.Proofs.Ytaapakpanbfmlaa
namespace Rs
open Go.RowKit Hp
set_option linter.unusedVariables false
set_option linter.unusedSimpArgs false
section
variable {c : Cf} {w w' : World} {s : St} {N : Nat}
theorem Re.mn (h : Re c w s N) : Mn w c.sb c.lim c.room s.yw s.ow := by
  have := h.words
  exact ⟨h.cl.cell 0 rfl, h.cl.cell 1 rfl, h.cl.cell 2 rfl, h.cl.cell 4 rfl, h.cl.cell 6 rfl, h.cl.fz 2, by omega, by omega⟩
theorem Re.ofCl (h : Re c w s N) (hc : Cl c w' s) : Re c w' s N := ⟨hc, h.F, h.mv, h.z, h.sp, h.closed, h.roots, h.cross, h.Cok, h.szs, h.qs, h.yw, h.ow, h.n, h.N⟩
theorem Re.up (h : Re c w s N) (hN : N < 32768) : Re c w s (N + 1) := ⟨h.cl, h.F, h.mv, h.z, h.sp, h.closed, h.roots, h.cross, h.Cok, h.szs, h.qs, h.yw, h.ow, by have := h.n; omega, by omega⟩
theorem Re.setLim (h : Re c w s N) : Re c (w.setCell ⟨c.sb, 2, none⟩ (.int .i64 (c.lim : Int))) s N := by
  refine h.ofCl (h.cl.setSb ?_ (h.cl.has .sb).2 ((Fr.refl _ _).set (by simp) _) rfl rfl rfl rfl rfl)
  rw [heap_setCell_same w c.sb 2 _ 59 _ (h.cl.has .sb).1, List.setIfInBounds_toArray]
  congr 3
/-- What makeRoom leaves. -/
def RoomOk (c : Cf) (w : World) (s : St) (N sz : Nat) (b : Bool) (w' : World) : Prop := ∃ s' φ, Re c w' s' N ∧ Ev c w s w' s' ∧ Iso (grF s.F) s.ro (grF s'.F) s'.ro φ ∧ (b = true → sz + (s'.yw + s'.ow) ≤ c.lim) ∧ (b = false → Exact s' ∧ c.lim < sz + (s'.yw + s'.ow))
theorem room46_any (h : Re c w s N) (hl : c.lim ≤ 16384) (hrm : c.room ≤ 16384) (sz : Nat) (hs : sz ≤ 1073741824) :
    Calls Try.prog 46 #[.pointer (some ⟨c.sb, 0, none⟩), .iface 61 (.pointer (some ⟨c.sb, 9, none⟩)), .int .i64 (sz : Int)] w fun e w' => ∃ b, e = .returned (.bool b) ∧ RoomOk c w s N sz b w' := by
  by_cases hAB : c.lim < sz + (s.yw + s.ow) ∨ (sz ≤ c.room ∧ c.room < sz + s.yw)
  · refine (room46_some c.sb c.lim c.room s.yw s.ow sz _ w (R := fun yw1 ow1 w' => ∃ s' φ, s'.yw = yw1 ∧ s'.ow = ow1 ∧ Re c w' s' N ∧ Ev c w s w' s' ∧ Iso (grF s.F) s.ro (grF s'.F) s'.ro φ) (R2 := fun yw1 ow1 w' => ∃ s' φ, s'.yw = yw1 ∧ s'.ow = ow1 ∧ Re c w' s' N ∧ Ev c w s w' s' ∧ Iso (grF s.F) s.ro (grF s'.F) s'.ro φ ∧ Exact s') (J := fun w' => RoomOk c w s N sz true w') h.mn hl hrm hs hAB (hide fun q => ?_) (hide ?_) (hide ?_) (hide ?_) (hide ?_)).mono ?_
    · refine (young43_any (h.drewN q)).mono ?_
      rintro e w' ⟨rfl, s', φ, h1, h2, h3, _⟩
      exact ⟨rfl, s'.yw, s'.ow, s', φ, rfl, rfl, h1, (Ev.drewN q).trans h2, h3⟩
    · rintro yw1 ow1 w' ⟨s', φ, rfl, rfl, h1, _⟩
      exact h1.mn
    · rintro yw1 ow1 w' q ⟨s', φ, rfl, rfl, h1, h2, h3⟩ _
      refine (all42_any (h1.drewN q)).mono ?_
      rintro e w2 ⟨rfl, s2, ψ, k1, k2, k3, k4, k5⟩
      exact ⟨rfl, s2.yw, s2.ow, s2, _, rfl, rfl, k1, (h2.trans (Ev.drewN q)).trans k2, h3.trans k3, k4, k5⟩
    · rintro yw1 ow1 w' ⟨s', φ, rfl, rfl, h1, _⟩
      exact h1.mn
    · rintro yw1 ow1 w' q ⟨s', φ, rfl, rfl, h1, h2, h3⟩ hle
      exact ⟨s', φ, h1.drewN q, h2.trans (Ev.drewN q), h3, fun _ => hle, fun e => by cases e⟩
    · rintro e w' (⟨rfl, hJ⟩ | ⟨yw2, ow2, w2, n, m, rfl, ⟨s', φ, rfl, rfl, h1, h2, h3, h4⟩, rfl⟩)
      · exact ⟨true, rfl, hJ⟩
      · refine ⟨_, rfl, s', φ, ((h1.drewN n).setLim).drewN m, ((h2.trans (Ev.drewN n)).trans (Ev.setRoot c _ s' 2 _ s'.ro)).trans (Ev.drewN m), h3, fun e => by simpa using e, fun e => ⟨h4, by simpa using e⟩⟩
  · refine (room46_none c.sb c.lim c.room s.yw s.ow sz _ w h.mn hl hrm hs (by omega) (by omega)).mono ?_
    rintro e w' ⟨rfl, n, rfl⟩
    exact ⟨true, rfl, s, id, h.drewN n, Ev.drewN n, h.isoRefl, fun _ => by omega, fun e => by cases e⟩
/-- What Make leaves. -/
def MadeOk (c : Cf) (w : World) (s : St) (N r q : Nat) (x : Int) (w' : World) : Prop := ∃ s1 w1 φ s', Re c w1 s1 N ∧ Iso (grF s.F) s.ro (grF s1.F) s1.ro φ ∧ (2 + r + q) + (s1.yw + s1.ow) ≤ c.lim ∧ s1.F x = none ∧ x ≠ 0 ∧ Re c w' s' (N + 1) ∧ (s'.F x).isSome = true ∧ Ev c w s w' s' ∧ s'.ro = s1.ro ∧ grF s'.F = (grF s1.F).upd x (List.replicate r 0, List.replicate q 0)
theorem fr_alloc (w : World) (b : Obj) (F : List Nat) : Fr F w (w.alloc b) := Fr.of_below ((Below.refl _ _).alloc (Nat.le_refl _) _)
theorem make33_any (h : Re c w s N) (hl : c.lim ≤ 16384) (hrm : c.room ≤ 16384) (hN : N < 32768) (r q : Nat) (hb : 2 + r + q ≤ c.lim) :
    Calls Try.prog 33 #[.pointer (some ⟨c.sb, 0, none⟩), .iface 61 (.pointer (some ⟨c.sb, 9, none⟩)), .int .i64 (r : Int), .int .i64 (q : Int)] w fun e w' => ∃ x b, e = .returned (.tuple #[.int .i64 x, .bool b]) ∧ if b = true then MadeOk c w s N r q x w' else RoomOk c w s N (2 + r + q) false w' := by
  have hfr := fr_alloc w (.cells #[.int .i64 (r : Int), .slice none 0 0, .map none, .int .i64 (q : Int), .slice none 0 0, .map none, .int .i64 0, .nilIface, .int .i64 0] 96) []
  have hbx : (w.alloc (.cells #[.int .i64 (r : Int), .slice none 0 0, .map none, .int .i64 (q : Int), .slice none 0 0, .map none, .int .i64 0, .nilIface, .int .i64 0] 96)).heap[w.heap.size]? = some (.cells #[.int .i64 (r : Int), .slice none 0 0, .map none, .int .i64 (q : Int), .slice none 0 0, .map none, .int .i64 0, .nilIface, .int .i64 0] 96 (0, 0)) := heap_alloc_new w _
  have HMw := fun (R : Bool → World → Prop) (R2 : Int → World → Prop) => make33_walk (R := R) (R2 := R2) c.sb c.lim c.room r q (.iface 61 (.pointer (some ⟨c.sb, 9, none⟩))) w (h.cl.cell 0 rfl) hl hrm hb
  generalize w.alloc (.cells #[.int .i64 (r : Int), .slice none 0 0, .map none, .int .i64 (q : Int), .slice none 0 0, .map none, .int .i64 0, .nilIface, .int .i64 0] 96) = wa at hfr hbx HMw
  have ha : Re c wa s N := h.ofCl (h.cl.fresh hfr)
  have hea : Ev c w s wa s := Ev.fresh hfr
  refine (HMw (fun b w1 => RoomOk c wa s N (2 + r + q) b w1) (fun x w' => MadeOk c w s N r q x w') (hide fun n => ?_) (hide fun w1 hR => ?_) (hide fun w1 hR => ?_)).mono ?_
  · refine (room46_any (ha.drewN n) hl hrm (2 + r + q) (by omega)).mono ?_
    rintro e w1 ⟨b, rfl, s', φ, h1, h2, h3⟩
    exact ⟨b, rfl, s', φ, h1, (Ev.drewN n).trans h2, h3⟩
  · obtain ⟨s', φ, h1, h2, _⟩ := hR
    refine ⟨?_, h1.cl.cell 1 rfl⟩
    rw [h2.block w.heap.size (Array.getElem?_eq_some_iff.1 hbx).1 (fun p hp => absurd ((h.cl.has p).lt _ hp) (by omega))]
    exact hbx
  · obtain ⟨s1, φ, h1, h2, h3, h4, _⟩ := hR
    have hle := h4 rfl
    have hwd := h1.words
    have hn := h1.n
    have hce : (Tp.new r q).cells.toArray = #[.int .i64 (r : Int), .slice none 0 0, .map none, .int .i64 (q : Int), .slice none 0 0, .map none, .int .i64 0, .nilIface, .int .i64 0] := by
      simp [Tp.cells, Tp.new, Rv.nil]
    have hone : ∀ u ∈ (Tp.new r q).cells, u.oneCell' = true := by
      intro u hu
      simp [Tp.cells, Tp.new, Rv.nil] at hu
      rcases hu with rfl | rfl | rfl | rfl | rfl | rfl | rfl | rfl | rfl <;> rfl
    have hlr : (Tp.new r q).r.xs.length = r := by simp [Tp.new, Rv.nil]
    have hlq : (Tp.new r q).q.xs.length = q := by simp [Tp.new, Rv.nil]
    have key : ∀ d : Tb, (d = .o ∨ d = .y) → ∀ k, Calls Try.prog 48 #[.pointer (some ⟨c.sb, offT d, none⟩), .agg #[.int .i64 (r : Int), .slice none 0 0, .map none, .int .i64 (q : Int), .slice none 0 0, .map none, .int .i64 0, .nilIface, .int .i64 0]] (w1.drewN k) fun e w2 => e = .returned (.int .i64 (((s1.l d).length : Int) + 1)) ∧ MadeOk c w s N r q (refOf d (s1.l d).length) w2 := fun d hd k => by
      have := h1.dlen d hd
      have := add48_any (h1.drewN k).cl d hd (Tp.new r q) hone (by have := h1.N; rcases hd with rfl | rfl <;> omega) (by omega) (by omega) (by rw [hlr]; omega) (by rw [hlq]; omega)
      rw [hce] at this
      refine this.mono ?_
      rintro e w2 ⟨rfl, gv, cap, g1, g2, g3⟩
      obtain ⟨m1, m2, m3⟩ := h1.made hd (r := r) (q := q) (by omega) (by omega) g3 hN
      refine ⟨rfl, s1, w1, φ, _, h1, h3, hle, m2, ?_, m1, ?_, ?_, rfl, ?_⟩
      · rcases hd with rfl | rfl <;> unfold refOf <;> simp only <;> omega
      · show (updAt s1.F (refOf d (s1.l d).length) (some (Tp.new r q)) (refOf d (s1.l d).length)).isSome = true
        rw [updAt_same]; rfl
      · refine ((hea.trans h2).trans (Ev.drewN k)).trans (Ev.of g2 (fun b hb => ?_) (fun p b hb => ?_))
        · rcases List.mem_cons.1 hb with h1 | h1
          · exact ⟨.sb, by simp [St.bl, h1]⟩
          · exact ⟨.tab d, h1⟩
        · rw [m3] at hb
          exact add_bl g1 p b hb
      · show grF (updAt s1.F (refOf d (s1.l d).length) (some (Tp.new r q))) = _
        rw [upd_gr, Tp.new_abs]
    by_cases hbig : c.room < 2 + r + q
    · refine ⟨(s1.l .o).length, h1.dlen .o (.inl rfl), fun k => ?_⟩
      rw [if_pos hbig, if_pos hbig]
      exact key .o (.inl rfl) k
    · refine ⟨(s1.l .y).length, h1.dlen .y (.inr rfl), fun k => ?_⟩
      rw [if_neg hbig, if_neg hbig]
      exact key .y (.inr rfl) k
  · rintro e w' (⟨rfl, s', φ, h1, h2, h3⟩ | ⟨x, rfl, hx⟩)
    · exact ⟨0, false, rfl, by rw [if_neg (by simp)]; exact ⟨s', φ, h1, hea.trans h2, h3⟩⟩
    · exact ⟨x, true, rfl, by rw [if_pos rfl]; exact hx⟩
theorem pmake (h : Re c w s N) (hl : c.lim ≤ 16384) (hrm : c.room ≤ 16384) (hN : N < 32768) (k r q : Int) : Calls Try.prog 10 #[.pointer (some ⟨c.sb, 0, none⟩), .int .i64 k, .int .i64 r, .int .i64 q] w (POk c w s (N + 1) (.make k r q) mkE) := by
  by_cases ha : at16 k = true ∧ 0 ≤ r ∧ 0 ≤ q
  · obtain ⟨hk, hr, hq⟩ := ha
    have ha : at16 k = true ∧ 0 ≤ r ∧ 0 ≤ q := ⟨hk, hr, hq⟩
    obtain ⟨n, hn, rfl⟩ : ∃ n : Nat, n < 16 ∧ k = (n : Int) := by
      unfold at16 at hk; simp at hk; exact ⟨k.toNat, by omega, by omega⟩
    obtain ⟨r', rfl⟩ : ∃ r' : Nat, r = (r' : Int) := ⟨r.toNat, by omega⟩
    obtain ⟨q', rfl⟩ : ∃ q' : Nat, q = (q' : Int) := ⟨q.toNat, by omega⟩
    obtain ⟨m0, hm0, hmle⟩ := h.wds
    by_cases hb : 2 + r' + q' ≤ c.lim
    · refine (make10_walk n (r' : Int) (q' : Int) c.sb w (R := fun x b w' => if b = true then MadeOk c w s N r' q' x w' else RoomOk c w s N (2 + r' + q') false w') hn (by omega) (by omega) (hide fun j => ?_) (hide fun x w' hR => ?_)).mono ?_
      · refine (make33_any (h.drewN j) hl hrm hN r' q' hb).mono ?_
        rintro e w' ⟨x, b, rfl, hx⟩
        refine ⟨x, b, rfl, ?_⟩
        cases b
        · rw [if_neg (by simp)] at hx ⊢
          obtain ⟨s', φ, h1, h2, h3⟩ := hx
          exact ⟨s', φ, h1, (Ev.drewN j).trans h2, h3⟩
        · rw [if_pos rfl] at hx ⊢
          obtain ⟨s1, w1, φ, s', h1, h2, h3, h4, h5, h6, h7, h8, h9⟩ := hx
          exact ⟨s1, w1, φ, s', h1, h2, h3, h4, h5, h6, h7, (Ev.drewN j).trans h8, h9⟩
      · rw [if_pos rfl] at hR
        obtain ⟨s1, w1, φ, s', h1, h2, h3, h4, h5, h6, _⟩ := hR
        exact ⟨⟨_, h6.cl.place n hn⟩, h6.cl.fz _⟩
      · rintro e w' (⟨x, rfl, hR⟩ | ⟨x, w1, rfl, hR, rfl⟩)
        · rw [if_neg (by simp)] at hR
          obtain ⟨s', φ, h1, h2, h3, _, h4⟩ := hR
          obtain ⟨h5, h6⟩ := h4 rfl
          have he := (hm0.iso h3).eq (h1.exact h5)
          refine ⟨(0, 28), s', rfl, h1.up hN, h2, ?_⟩
          show if _ then _ else _
          rw [if_pos ha]
          refine ⟨m0, hm0, ?_⟩
          rw [if_neg (by omega)]
          exact ⟨rfl, φ, h3⟩
        · rw [if_pos rfl] at hR
          obtain ⟨s1, w2, φ, s', h1, h2, h3, h4, h5, h6, h7, h8, h9, h10⟩ := hR
          obtain ⟨m1, hm1, hm1le⟩ := h1.wds
          have he := (hm0.iso h2).eq hm1
          refine ⟨(0, 0), _, rfl, h6.setRoot n (.inr h7), h8.trans (Ev.setRoot c _ s' _ _ _), ?_⟩
          show if _ then _ else _
          rw [if_pos ha]
          refine ⟨m0, hm0, ?_⟩
          rw [if_pos (by omega)]
          refine ⟨rfl, grF s1.F, s1.ro, φ, x, h2, h5, fun hx => ?_, h10, ?_⟩
          · have := h1.rch hx
            rw [h4] at this; cases this
          · show s'.ro.set n x = _
            rw [h9]; rfl
    · refine (make10_walk n (r' : Int) (q' : Int) c.sb w (R := fun x b w' => b = false ∧ ∃ j, w' = w.drewN j) hn (by omega) (by omega) (hide fun j => ?_) (hide fun x w' hR => by cases hR.1)).mono ?_
      · refine (make33_bad c.sb c.lim (r' : Int) (q' : Int) _ (w.drewN j) (h.cl.cell 0 rfl) hl (by omega) (by omega) (by omega)).mono ?_
        rintro e w' ⟨rfl, rfl⟩
        exact ⟨0, false, rfl, rfl, j, rfl⟩
      · rintro e w' (⟨x, rfl, _, j, rfl⟩ | ⟨x, w1, _, ⟨hf, _⟩, _⟩)
        · refine ⟨(0, 28), s, rfl, (h.drewN j).up hN, Ev.drewN j, ?_⟩
          show if _ then _ else _
          rw [if_pos ha]
          refine ⟨m0, hm0, ?_⟩
          rw [if_neg (by simp; omega)]
          exact ⟨rfl, _, h.isoRefl⟩
        · cases hf
  · refine (make10_bad k r q c.sb w ha).mono ?_
    rintro e w' ⟨rfl, rfl⟩
    refine ⟨(0, 7), s, rfl, h.up hN, Ev.refl _ _ _, ?_⟩
    show if _ then _ else _
    rw [if_neg ha]
    exact ⟨rfl, rfl, rfl⟩
end
end Rs
end Go.Proofs.Ytaapakpanbfmlaa
