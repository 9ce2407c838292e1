/-
  While things move: places turn what they hold.
-/
import Derived.Test.YtaapakpanbfmlaaPs
namespace Go.Proofs.Ytaapakpanbfmlaa
namespace Rs
open Go.RowKit Hp
set_option linter.unusedVariables false
set_option linter.unusedSimpArgs false
set_option maxRecDepth 100000 in
set_option maxHeartbeats 4000000 in
theorem turn81_walk (fn : FuncId) (hcf : ∀ args w, Sem.run Try.prog (callFunc fn args) w = .ok (.enter fn args) w) (cap : Array Value) (sb : Nat) (J : Nat → World → Prop) (w : World) (hJ : Hid (J 0 w))
    (HT : Hid (∀ k wr, k < 16 → J k wr → ∃ x : Int, wr.cell? ⟨sb, 9 + k, none⟩ = some (.int .i64 x) ∧ ∀ q, Calls Try.prog fn (#[.int .i64 x] ++ cap) (wr.drewN q) fun e w' => ∃ y, e = .returned (.int .i64 y) ∧ (∃ u, w'.cell? ⟨sb, 9 + k, none⟩ = some u) ∧ w'.frozen? ⟨sb, 9 + k, none⟩ = false ∧ J (k + 1) (w'.setCell ⟨sb, 9 + k, none⟩ (.int .i64 y)))) :
    Calls Try.prog 81 #[.pointer (some ⟨sb, 9, none⟩), .func (.func fn) #[] cap] w fun e w' => e = .returned (.tuple #[]) ∧ J 16 w' := by
  go_enter Try.func81, Try.ntmps81
  go_wp2
  go_loopg [7] 16 (fun k p wr => ∃ i : Nat, p = .int .i64 (i : Int) ∧ i ≤ 16 ∧ 16 - i ≤ k ∧ Hid (J i wr))
  case atStart => exact ⟨0, rfl, by omega, by omega, hJ⟩
  case round =>
    obtain ⟨i, rfl, hi, hk, HJ⟩ := hrel
    by_cases him : i < 16
    · obtain ⟨x, hx, h1⟩ := unhide HT i wr him (unhide HJ)
      have k1 : (i : Int) < 16 := by omega
      have HC := hide h1
      clear h1
      go_wp2_with fail
      go_quiet (fail)
      go_wp2_with fail
      go_region_law (go_simp; refine (unhide HC _).mono ?_; rintro e w1 ⟨y, rfl, ⟨u, hu⟩, hf, hj⟩; have HJ2 := hide hj; clear hj)
      all_goals
        go_wp2
        go_roundg (16 - (i + 1))
        case measure => omega
        case rel => exact ⟨i + 1, by go_num, by omega, by omega, HJ2⟩
    · have : i = 16 := by omega
      subst this
      go_wp2
      go_end0
      exact ⟨rfl, unhide HJ⟩
/-- What stays while things move and places turn. -/
structure LeR (s s' : St) (loc loc' : Int → Int) : Prop where
  loc : ∀ r, loc r ≠ 0 → loc' r = loc r
  vy : s'.v .y = s.v .y
  vz : s'.v .z = s.v .z
  cv : s'.cv = s.cv
  C : s'.C = s.C
  sp : s'.sp = s.sp
  yw : s'.yw = s.yw
  n : (s.l .o).length ≤ (s'.l .o).length
theorem Le.r {s s' : St} {loc loc' : Int → Int} (h : Le s s' loc loc') : LeR s s' loc loc' := ⟨h.loc, h.vy, h.vz, h.cv, h.C, h.sp, h.yw, h.n⟩
theorem LeR.trans {a b d : St} {l1 l2 l3 : Int → Int} (h : LeR a b l1 l2) (g : LeR b d l2 l3) : LeR a d l1 l3 :=
  ⟨fun r hr => by rw [g.loc r (by rw [h.loc r hr]; exact hr), h.loc r hr], g.vy.trans h.vy, g.vz.trans h.vz, g.cv.trans h.cv, g.C.trans h.C, g.sp.trans h.sp, g.yw.trans h.yw, Nat.le_trans h.n g.n⟩
section
variable {c : Cf} {w : World} {s : St} {G : Gf} {loc : Int → Int} {ord : List Int} {P : Nat → Nat → Prop}
theorem Co.setRoot (h : Co c w s G loc ord P) (n : Nat) (x : Int) : Co c (w.setCell ⟨c.sb, 9 + n, none⟩ (.int .i64 x)) { s with ro := s.ro.set n x } G loc ord P :=
  ⟨h.cl.setRoot n x, h.gc, h.lo, h.on, h.ty, h.tz, h.tn, h.un, h.okm, h.okd, h.F0, h.szs, h.ow, h.yw, h.cap, h.Pn, h.pre, h.tl, h.z0, h.qs⟩
theorem Ev.setRoot (c : Cf) (w : World) (s : St) (n : Nat) (v : Value) (ro : List Int) : Ev c w s (w.setCell ⟨c.sb, n, none⟩ v) { s with ro := ro } :=
  Ev.of (G := [c.sb]) ((Fr.refl _ _).set (by simp) _) (fun b hb => ⟨.sb, by rw [List.mem_singleton.1 hb]; simp [St.bl]⟩) (fun p b hb => .inl hb)
theorem map_take_set {ro : List Int} {loc loc' : Int → Int} {k : Nat} (hk : k < ro.length) (hl : ∀ x ∈ ro.take k, loc' x = loc x) : ((ro.take k).map loc ++ ro.drop k).set k (loc' (ro.getD k 0)) = (ro.take (k + 1)).map loc' ++ ro.drop (k + 1) := by
  have hlen : ((ro.take k).map loc).length = k := by simp; omega
  rw [List.set_append_right _ _ (by omega), hlen, Nat.sub_self, List.drop_eq_getElem_cons hk, List.set_cons_zero, List.take_succ_eq_append_getElem hk, List.map_append, List.append_assoc]
  congr 1
  · exact List.map_congr_left (fun x hx => (hl x hx).symm)
  · simp [List.getD_eq_getElem?_getD, hk]
/-- places.Turn: whoever holds references turns them. -/
theorem turn81_any {fn : FuncId} {cap : Array Value} {bx : List Nat} {Bs : World → St → Prop} (hf : Fv c G fn cap bx Bs) (h : Co c w s G loc ord P) (hbs : Bs w s) (hro : ∀ x ∈ s.ro, x = 0 ∨ G.ok x) :
    Calls Try.prog 81 #[.pointer (some ⟨c.sb, 9, none⟩), .func (.func fn) #[] cap] w fun e w' => e = .returned (.tuple #[]) ∧ ∃ s' loc' ord', Co c w' s' G loc' ord' P ∧ Ev c w s w' s' ∧ LeR s s' loc loc' ∧ Bs w' s' ∧ s'.ro = s.ro.map loc' ∧ ∀ x ∈ s.ro, x ≠ 0 → loc' x ≠ 0 := by
  have hlen : s.ro.length = 16 := (h.cl.has .sb).2
  refine (turn81_walk fn hf.call cap c.sb (fun k wr => ∃ s' loc' ord', Co c wr s' G loc' ord' P ∧ Ev c w s wr s' ∧ LeR s s' loc loc' ∧ Bs wr s' ∧ s'.ro = (s.ro.take k).map loc' ++ s.ro.drop k ∧ ∀ x ∈ s.ro.take k, x ≠ 0 → loc' x ≠ 0) w (hide ?_) (hide ?_)).mono ?_
  · exact ⟨s, loc, ord, h, Ev.refl _ _ _, (Le.refl _ _).r, hbs, by simp, by simp⟩
  · rintro k wr hk ⟨s1, loc1, ord1, hco, hev, hle, hb1, hr1, hn1⟩
    have hkl : k < s.ro.length := by omega
    have hx : s1.ro.getD k 0 = s.ro.getD k 0 := by
      rw [hr1, List.getD_eq_getElem?_getD, List.getElem?_append_right (by simp; omega)]
      have : k - ((s.ro.take k).map loc1).length = 0 := by simp; omega
      rw [this, List.getElem?_drop, List.getD_eq_getElem?_getD, Nat.add_zero]
    have hxm : s.ro.getD k 0 ∈ s.ro := by rw [List.getD_eq_getElem?_getD, List.getElem?_eq_getElem hkl]; exact List.getElem_mem hkl
    refine ⟨s.ro.getD k 0, by rw [← hx]; exact hco.cl.place k hk, fun q => ?_⟩
    refine (hf.turn (wr.drewN q) s1 loc1 ord1 P (s.ro.getD k 0) (hco.heq rfl) (hf.bs0 wr s1 (wr.drewN q) s1 rfl rfl (Nat.le_refl _) (fun _ _ => rfl) (fun b hb => (hf.bl wr s1 hb1 b hb).2) hb1) (hro _ hxm)).mono ?_
    rintro e w2 ⟨s2, loc2, ord2, rfl, hk2⟩
    refine ⟨loc2 (s.ro.getD k 0), rfl, ⟨_, hk2.co.cl.place k hk⟩, hk2.co.cl.fz _, ?_⟩
    have hlt : ∀ x ∈ s.ro.take k, loc2 x = loc1 x := fun x hx => by
      by_cases h0 : x = 0
      · rw [h0, hk2.co.gc.z, hco.gc.z]
      · exact hk2.le.loc x (hn1 x hx h0)
    have hEv : Ev c w s (w2.setCell ⟨c.sb, 9 + k, none⟩ (.int .i64 (loc2 (s.ro.getD k 0)))) { s2 with ro := s2.ro.set k (loc2 (s.ro.getD k 0)) } := hev.trans (((Ev.drewN (c := c) (w := wr) (s := s1) q).trans hk2.ev).trans (Ev.setRoot c w2 s2 (9 + k) _ _))
    refine ⟨_, loc2, ord2, hk2.co.setRoot k (loc2 (s.ro.getD k 0)), hEv, hle.trans ⟨hk2.le.loc, hk2.le.vy, hk2.le.vz, hk2.le.cv, hk2.le.C, hk2.le.sp, hk2.le.yw, hk2.le.n⟩, ?_, ?_, ?_⟩
    · have hb2 := hf.bs _ _ _ _ _ _ ((Ev.drewN (c := c) (w := wr) (s := s1) q).trans hk2.ev) hk2.le hb1
      refine hf.bs0 w2 s2 _ _ rfl rfl (by simp) (fun b hb => ?_) (fun b hb p hp => (hf.bl w2 s2 hb2 b hb).2 p hp) hb2
      exact heap_setB (fun e => (hf.bl w2 s2 hb2 b hb).2 .sb (by simp [St.bl, e]))
    · show s2.ro.set k _ = _
      rw [hk2.le.ro, hr1]
      exact map_take_set hkl hlt
    · intro x hx h0
      rw [List.take_succ_eq_append_getElem hkl] at hx
      rcases List.mem_append.1 hx with hx | hx
      · rw [hlt x hx]; exact hn1 x hx h0
      · have : x = s.ro.getD k 0 := by rw [List.mem_singleton.1 hx, List.getD_eq_getElem?_getD, List.getElem?_eq_getElem hkl]; rfl
        rw [this] at h0 ⊢; exact hk2.nz h0
  · rintro e w' ⟨rfl, s', loc', ord', h1, h2, h3, h4, h5, h6⟩
    refine ⟨rfl, s', loc', ord', h1, h2, h3, h4, ?_, ?_⟩
    · rw [h5, List.take_of_length_le (by omega), List.drop_of_length_le (by omega), List.append_nil]
    · rw [List.take_of_length_le (by omega)] at h6; exact h6
end
end Rs
end Go.Proofs.Ytaapakpanbfmlaa
