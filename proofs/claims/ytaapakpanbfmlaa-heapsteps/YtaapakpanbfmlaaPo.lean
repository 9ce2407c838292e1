/-
  The two closures that turn a reference.
-/
import Derived.Test.YtaapakpanbfmlaaPn
namespace Go.Proofs.Ytaapakpanbfmlaa
namespace Rs
open Go.RowKit Hp
set_option linter.unusedVariables false
set_option linter.unusedSimpArgs false
/-- What a turn leaves. -/
structure TurnOk (c : Cf) (w : World) (s : St) (G : Gf) (loc : Int → Int) (P : Nat → Nat → Prop) (x : Int) (w' : World) (s' : St) (loc' : Int → Int) (ord' : List Int) : Prop where
  ev : Ev c w s w' s'
  co : Co c w' s' G loc' ord' P
  le : Le s s' loc loc'
  F : s'.F = s.F
  nz : x ≠ 0 → loc' x ≠ 0
  fr : Fr (c.sb :: (ob (s.v .o) ++ (ob (s.v .y) ++ ob (s.v .z)))) w w'
set_option maxRecDepth 100000 in
set_option maxHeartbeats 2000000 in
theorem c60_pos (x : Int) (hx : 0 ≤ x) (hb yb : Nat) (w : World) :
    Calls Try.prog 60 #[.int .i64 x, .pointer (some ⟨hb, 0, none⟩), .pointer (some ⟨yb, 0, none⟩)] w fun e w' => e = .returned (.int .i64 x) ∧ w' = w := by
  have h1 : ¬ x < 0 := by omega
  go_enter Try.func60, Try.ntmps60
  go_wp2
  go_ret
  exact ⟨rfl, rfl⟩
set_option maxRecDepth 100000 in
set_option maxHeartbeats 2000000 in
theorem c60_neg (j n cap g sb hb yb : Nat) (y : Int) (w : World) {R : World → Prop} (hj : j < n) (hn : n ≤ 1073741824) (h1 : w.cell? ⟨hb, 0, none⟩ = some (.pointer (some ⟨sb, 0, none⟩))) (h2 : w.cell? ⟨yb, 0, none⟩ = some (.slice (some ⟨g, 0, none⟩) n cap))
    (HM : Hid (∀ q, Calls Try.prog 58 #[.pointer (some ⟨sb, 0, none⟩), .pointer (some ⟨g, j * 9, none⟩)] (w.drewN q) fun e w' => e = .returned (.int .i64 y) ∧ R w')) :
    Calls Try.prog 60 #[.int .i64 (-((j : Int) + 1)), .pointer (some ⟨hb, 0, none⟩), .pointer (some ⟨yb, 0, none⟩)] w fun e w' => e = .returned (.int .i64 y) ∧ R w' := by
  have k1 : -((j : Int) + 1) < 0 := by omega
  have k2 : (j : Int) < (n : Int) := by omega
  have k3 : (n : Int) ≤ 1073741824 := by omega
  have k4 : IntKind.i64.wrap ((j : Int) + 1) = (j : Int) + 1 := wrap_id _ (by omega) (by omega)
  have k5 : IntKind.i64.wrap (j : Int) = (j : Int) := wrap_id _ (by omega) (by omega)
  go_enter Try.func60, Try.ntmps60
  go_wp2_with fail
  go_region_law (go_simp; refine (unhide HM _).mono ?_; rintro e w1 ⟨rfl, hw1⟩; have HW1 := hide hw1; clear hw1)
  all_goals
    go_wp2
    go_ret
    exact ⟨rfl, unhide HW1⟩
set_option maxRecDepth 100000 in
set_option maxHeartbeats 2000000 in
theorem c57_zero (hb yb zb : Nat) (w : World) :
    Calls Try.prog 57 #[.int .i64 0, .pointer (some ⟨hb, 0, none⟩), .pointer (some ⟨yb, 0, none⟩), .pointer (some ⟨zb, 0, none⟩)] w fun e w' => e = .returned (.int .i64 0) ∧ w' = w := by
  go_enter Try.func57, Try.ntmps57
  go_wp2
  go_ret
  exact ⟨rfl, rfl⟩
set_option maxRecDepth 100000 in
set_option maxHeartbeats 2000000 in
theorem c57_neg (j n cap g sb hb yb zb : Nat) (y : Int) (w : World) {R : World → Prop} (hj : j < n) (hn : n ≤ 1073741824) (h1 : w.cell? ⟨hb, 0, none⟩ = some (.pointer (some ⟨sb, 0, none⟩))) (h2 : w.cell? ⟨yb, 0, none⟩ = some (.slice (some ⟨g, 0, none⟩) n cap))
    (HM : Hid (∀ q, Calls Try.prog 58 #[.pointer (some ⟨sb, 0, none⟩), .pointer (some ⟨g, j * 9, none⟩)] (w.drewN q) fun e w' => e = .returned (.int .i64 y) ∧ R w')) :
    Calls Try.prog 57 #[.int .i64 (-((j : Int) + 1)), .pointer (some ⟨hb, 0, none⟩), .pointer (some ⟨yb, 0, none⟩), .pointer (some ⟨zb, 0, none⟩)] w fun e w' => e = .returned (.int .i64 y) ∧ R w' := by
  have k1 : -((j : Int) + 1) < 0 := by omega
  have k2 : (j : Int) < (n : Int) := by omega
  have k3 : (n : Int) ≤ 1073741824 := by omega
  have k4 : IntKind.i64.wrap ((j : Int) + 1) = (j : Int) + 1 := wrap_id _ (by omega) (by omega)
  have k5 : IntKind.i64.wrap (j : Int) = (j : Int) := wrap_id _ (by omega) (by omega)
  go_enter Try.func57, Try.ntmps57
  go_wp2_with fail
  go_region_law (go_simp; refine (unhide HM _).mono ?_; rintro e w1 ⟨rfl, hw1⟩; have HW1 := hide hw1; clear hw1)
  all_goals
    go_wp2
    go_ret
    exact ⟨rfl, unhide HW1⟩
set_option maxRecDepth 100000 in
set_option maxHeartbeats 2000000 in
theorem c57_pos (j n cap g sb hb yb zb : Nat) (y : Int) (w : World) {R : World → Prop} (hj : j < n) (hn : n ≤ 1073741824) (h1 : w.cell? ⟨hb, 0, none⟩ = some (.pointer (some ⟨sb, 0, none⟩))) (h2 : w.cell? ⟨zb, 0, none⟩ = some (.slice (some ⟨g, 0, none⟩) n cap))
    (HM : Hid (∀ q, Calls Try.prog 58 #[.pointer (some ⟨sb, 0, none⟩), .pointer (some ⟨g, j * 9, none⟩)] (w.drewN q) fun e w' => e = .returned (.int .i64 y) ∧ R w')) :
    Calls Try.prog 57 #[.int .i64 ((j : Int) + 1), .pointer (some ⟨hb, 0, none⟩), .pointer (some ⟨yb, 0, none⟩), .pointer (some ⟨zb, 0, none⟩)] w fun e w' => e = .returned (.int .i64 y) ∧ R w' := by
  have k0 : ¬ ((j : Int) + 1 < 0) := by omega
  have k1 : (0 : Int) < (j : Int) + 1 := by omega
  have k2 : (j : Int) < (n : Int) := by omega
  have k3 : (n : Int) ≤ 1073741824 := by omega
  have k4 : IntKind.i64.wrap ((j : Int) + 1) = (j : Int) + 1 := wrap_id _ (by omega) (by omega)
  have k5 : IntKind.i64.wrap (j : Int) = (j : Int) := wrap_id _ (by omega) (by omega)
  go_enter Try.func57, Try.ntmps57
  go_wp2_with fail
  go_region_law (go_simp; refine (unhide HM _).mono ?_; rintro e w1 ⟨rfl, hw1⟩; have HW1 := hide hw1; clear hw1)
  all_goals
    go_wp2
    go_ret
    exact ⟨rfl, unhide HW1⟩
/-- The rows' blocks are as they were. -/
theorem TurnOk.rows {c : Cf} {w w' : World} {s s' : St} {G : Gf} {loc loc' : Int → Int} {P : Nat → Nat → Prop} {x : Int} {ord ord' : List Int} (h : TurnOk c w s G loc P x w' s' loc' ord') (hc : Cl c w s) {r : Int} {t : Tp} (hF : s.F r = some t) : ∀ b ∈ t.own, w'.heap[b]? = w.heap[b]? := fun b hb => by
  have hb' : b ∈ s.bl c (.row r) := by simp only [St.bl]; rw [hF]; exact hb
  refine h.fr.block b ((hc.has (.row r)).lt b hb') (fun e => ?_)
  rcases List.mem_cons.1 e with e | e
  · exact hc.ap (.row r) .sb (by simp) b hb' (by simp [St.bl, e])
  · rcases List.mem_append.1 e with e | e
    · exact hc.ap (.row r) (.tab .o) (by simp) b hb' e
    · rcases List.mem_append.1 e with e | e
      · exact hc.ap (.row r) (.tab .y) (by simp) b hb' e
      · exact hc.ap (.row r) (.tab .z) (by simp) b hb' e
section
variable {c : Cf} {w : World} {s : St} {G : Gf} {loc : Int → Int} {ord : List Int} {P : Nat → Nat → Prop}
theorem Co.heq (h : Co c w s G loc ord P) {w' : World} (e : w'.heap = w.heap) : Co c w' s G loc ord P :=
  ⟨h.cl.heq e, h.gc, h.lo, h.on, h.ty, h.tz, h.tn, h.un, h.okm, h.okd, h.F0, h.szs, h.ow, h.yw, h.cap, h.Pn, h.pre, h.tl, h.z0, h.qs⟩
/-- move, of a thing of another table, whether it has gone or not. -/
theorem move_any (h : Co c w s G loc ord P) {d : Tb} (hd : d = .y ∨ (d = .z ∧ G.all = true)) {j : Nat} (hok : G.ok (refOf d j)) :
    ∃ g n cap, s.v d = .slice (some ⟨g, 0, none⟩) n cap ∧ j < n ∧ n ≤ 1073741824 ∧ ∃ y, ∀ q, Calls Try.prog 58 #[.pointer (some ⟨c.sb, 0, none⟩), .pointer (some ⟨g, j * 9, none⟩)] (w.drewN q) fun e w' => e = .returned (.int .i64 y) ∧ ∃ s' loc' ord', y = loc' (refOf d j) ∧ TurnOk c w s G loc P (refOf d j) w' s' loc' ord' := by
  have hdo : d ≠ .o := by rcases hd with rfl | ⟨rfl, _⟩ <;> simp
  obtain ⟨hx0, hxd, hxs⟩ := h.okd _ hok
  obtain ⟨t, hF⟩ := Option.isSome_iff_exists.1 hxs
  have hj : (s.l d)[j]? = some ⟨t.r, t.q, loc (refOf d j)⟩ := by
    rcases hd with rfl | ⟨rfl, ha⟩
    · rw [h.ty j, hF]; rfl
    · rw [h.tz ha j, hF]; rfl
  have hjl := (List.getElem?_eq_some_iff.1 hj).1
  obtain ⟨g, cap, cur, hv, hg, h3, h4⟩ := h.cl.thing d hj
  have hnl : (s.l d).length ≤ 1073741824 := Nat.le_trans (h.tl d hdo) (by omega)
  refine ⟨g, (s.l d).length, cap, hv, hjl, hnl, ?_⟩
  by_cases hl : loc (refOf d j) = 0
  · refine ⟨((s.l .o).length : Int) + 1, fun q => ?_⟩
    have hrow := h.cl.has (.row (refOf d j)) t hF
    obtain ⟨z1, z2⟩ := h.szs _ t hF
    rw [hl] at hj
    have hlen := h.len
    have hcap := h.cap
    refine (move58_any (c := c) (w := w.drewN q) (h.cl.heq rfl) d hdo hj rfl hv (Tp.one _ hrow.1.one.1 hrow.1.one.2 hrow.2.1.one.1 hrow.2.1.one.2) (by omega) (by have := h.yw; omega) h.owb (by show t.r.xs.length ≤ _; omega) (by show t.q.xs.length ≤ _; omega)).mono ?_
    rintro e w' ⟨rfl, v', hev, hcl, hfr⟩
    refine ⟨rfl, _, _, _, ?_, ⟨?_, h.go hd hF hl hok hcl, Le.moved h hdo hl, rfl, fun _ => ?_, ?_⟩⟩
    · rw [if_pos rfl]
    · exact (Ev.drewN q).trans hev
    · rw [if_pos rfl]; omega
    · have hfr' : Fr (c.sb :: (ob (s.v .o) ++ ob (s.v d))) w w' := ⟨hfr.os, hfr.tape, hfr.output, hfr.size, hfr.block⟩
      refine hfr'.mono (fun b hb => ?_)
      rcases List.mem_cons.1 hb with e | e
      · rw [e]; exact List.mem_cons_self ..
      · refine List.mem_cons_of_mem _ ?_
        rcases List.mem_append.1 e with e | e
        · exact List.mem_append_left _ e
        · refine List.mem_append_right _ ?_
          rcases hd with rfl | ⟨rfl, _⟩
          · exact List.mem_append_left _ e
          · exact List.mem_append_right _ e
  · refine ⟨loc (refOf d j), fun q => ?_⟩
    refine (move58_gone c.sb g (j * 9) (loc (refOf d j)) (w.drewN q) (h4 8 _ (by omega) rfl) hl).mono ?_
    rintro e w' ⟨rfl, rfl⟩
    exact ⟨rfl, s, loc, ord, rfl, ⟨Ev.drewN q, h.heq rfl, Le.refl _ _, rfl, fun _ => hl, (Fr.refl _ _).drewN q⟩⟩
end
end Rs
end Go.Proofs.Ytaapakpanbfmlaa
