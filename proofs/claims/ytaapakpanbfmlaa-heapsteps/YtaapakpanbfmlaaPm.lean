/-
  The program's heap: move.
-/
import Derived.Test.YtaapakpanbfmlaaPl
namespace Go.Proofs.Ytaapakpanbfmlaa
namespace Rs
open Go.RowKit Hp
set_option linter.unusedVariables false
set_option linter.unusedSimpArgs false
/-- From one state of the space to a later one: nothing else has turned, and what it has besides is new. -/
structure Ev (c : Cf) (w : World) (s : St) (w' : World) (s' : St) : Prop where
  os : w'.os = w.os
  tape : w'.tape = w.tape
  output : w'.output = w.output
  size : w.heap.size ≤ w'.heap.size
  block : ∀ k, k < w.heap.size → (∀ p, k ∉ s.bl c p) → w'.heap[k]? = w.heap[k]?
  fp : ∀ p, ∀ b ∈ s'.bl c p, (∃ p0, b ∈ s.bl c p0) ∨ w.heap.size ≤ b
theorem Ev.refl (c : Cf) (w : World) (s : St) : Ev c w s w s := ⟨rfl, rfl, rfl, Nat.le_refl _, fun _ _ _ => rfl, fun p b hb => .inl ⟨p, hb⟩⟩
theorem Ev.trans {c : Cf} {w w1 w2 : World} {s s1 s2 : St} (h : Ev c w s w1 s1) (g : Ev c w1 s1 w2 s2) : Ev c w s w2 s2 := by
  refine ⟨g.os.trans h.os, g.tape.trans h.tape, g.output.trans h.output, Nat.le_trans h.size g.size, fun k hk hn => ?_, fun p b hb => ?_⟩
  · rw [g.block k (Nat.lt_of_lt_of_le hk h.size) (fun p hp => ?_)]
    · exact h.block k hk hn
    · rcases h.fp p k hp with ⟨p0, h0⟩ | h0
      · exact hn p0 h0
      · omega
  · rcases g.fp p b hb with ⟨p0, h0⟩ | h0
    · exact h.fp p0 b h0
    · exact .inr (Nat.le_trans h.size h0)
theorem Ev.of {c : Cf} {w w' : World} {s s' : St} {G : List Nat} (hf : Fr G w w') (hg : ∀ b ∈ G, ∃ p, b ∈ s.bl c p) (hb : ∀ p, ∀ b ∈ s'.bl c p, b ∈ s.bl c p ∨ w.heap.size ≤ b) : Ev c w s w' s' :=
  ⟨hf.os, hf.tape, hf.output, hf.size, fun k hk hn => hf.block k hk (fun e => by obtain ⟨p, hp⟩ := hg k e; exact hn p hp), fun p b h => (hb p b h).imp (fun h => ⟨p, h⟩) id⟩
/-- The same memory, other words for it. -/
theorem Ev.said {c : Cf} {w w' : World} {s s1 s2 : St} (h : Ev c w s w' s1) (hb : ∀ p, ∀ b ∈ s2.bl c p, ∃ p1, b ∈ s1.bl c p1) : Ev c w s w' s2 :=
  ⟨h.os, h.tape, h.output, h.size, h.block, fun p b hm => by obtain ⟨p1, h1⟩ := hb p b hm; exact h.fp p1 b h1⟩
theorem Ev.drewN {c : Cf} {w : World} {s : St} (n : Nat) : Ev c w s (w.drewN n) s := ⟨rfl, rfl, rfl, Nat.le_refl _, fun _ _ _ => rfl, fun p b hb => .inl ⟨p, hb⟩⟩
theorem Ev.fresh {c : Cf} {w w' : World} {s : St} (h : Fr [] w w') : Ev c w s w' s := ⟨h.os, h.tape, h.output, h.size, fun k hk _ => h.block k hk (by simp), fun p b hb => .inl ⟨p, hb⟩⟩
theorem add_bl {c : Cf} {s : St} {d : Tb} {n gv cap : Nat} {t : Tp} {w : World} (hg : gv ∈ ob (s.v d) ∨ w.heap.size ≤ gv) : ∀ p, ∀ b ∈ (s.add d (.slice (some ⟨gv, 0, none⟩) n cap) t).bl c p, b ∈ s.bl c p ∨ w.heap.size ≤ b := by
  intro p b hb
  cases p with
  | sb => exact .inl hb
  | cv => exact .inl hb
  | row r => exact .inl hb
  | tab e =>
    by_cases he : e = d
    · subst he
      simp only [St.bl, St.add, updAt_same, ob, Value.ownBlock] at hb
      simp at hb
      rw [hb]; exact hg
    · simp only [St.bl, St.add] at hb
      rw [updAt_ne _ _ he] at hb; exact .inl hb
/-- Where a thing has gone is written beside it. -/
def St.setMv (s : St) (d : Tb) (j : Nat) (t : Tp) (x : Int) : St := { s with l := updAt s.l d ((s.l d).set j ⟨t.r, t.q, x⟩) }
theorem Cl.setMv {c : Cf} {w : World} {s : St} (h : Cl c w s) {d : Tb} {j : Nat} {t : Tp} (hj : (s.l d)[j]? = some t) {g cap : Nat} (hv : s.v d = .slice (some ⟨g, 0, none⟩) (s.l d).length cap) (x : Int) : Cl c (w.setCell ⟨g, j * 9 + 8, none⟩ (.int .i64 x)) (s.setMv d j t x) := by
  have hown : w.ownsRow c.B 96 9 (s.v d) (s.l d).length ((s.l d).flatMap Tp.cells) := h.has (.tab d)
  have hl := (List.getElem?_eq_some_iff.1 hj).1
  have hgd : g ∈ s.bl c (.tab d) := by simp [St.bl, ob, hv, Value.ownBlock]
  refine h.upd (fun p => p = .tab d) (fun p hp => ?_) (fun p hp b hb => ?_) (fun p hp => ?_) (fun p hp b hb => ?_) (fun p p' hp hp' hne => absurd (hp.trans hp'.symm) hne) (by simp)
  · cases p with
    | sb => exact ⟨fun h => h, rfl⟩
    | cv => exact ⟨fun h => h, rfl⟩
    | row x => exact ⟨fun h => h, rfl⟩
    | tab e =>
      have he : e ≠ d := fun e2 => hp (by rw [e2])
      refine ⟨fun h => ?_, rfl⟩
      unfold Has at h ⊢
      simp only [St.setMv]
      rw [updAt_ne _ _ he]; exact h
  · exact heap_setB (fun e => h.ap p (.tab d) hp b hb (e ▸ hgd))
  · subst hp
    unfold Has
    simp only [St.setMv, updAt_same]
    rw [List.length_set]
    rw [hv] at hown ⊢
    have := own_set hown (j * 9 + 8) (.int .i64 x) (by omega)
    rw [flat9_set2 (s.l d) j 8 8 t ⟨t.r, t.q, x⟩ (.int .i64 x) (.int .i64 x) hj (by omega) (by omega) (by simp [Tp.cells])]
    rw [List.set_set]; exact this
  · subst hp; exact .inl hb
set_option maxRecDepth 100000 in
set_option maxHeartbeats 2000000 in
theorem move58_gone (sb g o : Nat) (mv : Int) (w : World) (h : w.cell? ⟨g, o + 8, none⟩ = some (.int .i64 mv)) (hm : mv ≠ 0) :
    Calls Try.prog 58 #[.pointer (some ⟨sb, 0, none⟩), .pointer (some ⟨g, o, none⟩)] w fun e w' => e = .returned (.int .i64 mv) ∧ w' = w := by
  go_enter Try.func58, Try.ntmps58
  go_wp2
  go_ret
  exact ⟨rfl, rfl⟩
set_option maxRecDepth 100000 in
set_option maxHeartbeats 4000000 in
theorem move58_walk (sb g o n0 n3 : Nat) (x : Int) (a1 a2 a4 a5 : Value) (w : World) {R : World → Prop} (h0 : w.cell? ⟨g, o, none⟩ = some (.int .i64 (n0 : Int))) (h1 : w.cell? ⟨g, o + 1, none⟩ = some a1) (h2 : w.cell? ⟨g, o + 2, none⟩ = some a2) (h3 : w.cell? ⟨g, o + 3, none⟩ = some (.int .i64 (n3 : Int))) (h4 : w.cell? ⟨g, o + 4, none⟩ = some a4) (h5 : w.cell? ⟨g, o + 5, none⟩ = some a5) (h6 : w.cell? ⟨g, o + 6, none⟩ = some (.int .i64 0)) (h7 : w.cell? ⟨g, o + 7, none⟩ = some .nilIface) (h8 : w.cell? ⟨g, o + 8, none⟩ = some (.int .i64 0))
    (HA : Hid (∀ q, Calls Try.prog 48 #[.pointer (some ⟨sb, 5, none⟩), .agg #[.int .i64 (n0 : Int), a1, a2, .int .i64 (n3 : Int), a4, a5, .int .i64 0, .nilIface, .int .i64 0]] (w.drewN q) fun e w' => e = .returned (.int .i64 x) ∧ R w')) (HR : Hid (∀ w1, R w1 → w1.cell? ⟨g, o + 8, none⟩ = some (.int .i64 0) ∧ w1.frozen? ⟨g, o + 8, none⟩ = false)) :
    Calls Try.prog 58 #[.pointer (some ⟨sb, 0, none⟩), .pointer (some ⟨g, o, none⟩)] w fun e w' => e = .returned (.int .i64 x) ∧ ∃ w1, R w1 ∧ w' = w1.setCell ⟨g, o + 8, none⟩ (.int .i64 x) := by
  go_enter Try.func58, Try.ntmps58
  go_wp2_with fail
  go_region_law (go_simp; refine (unhide HA _).mono ?_; rintro e w1 ⟨rfl, hw1⟩; obtain ⟨k1, k2⟩ := unhide HR _ hw1; have HW1 := hide hw1; clear hw1)
  all_goals
    go_wp2
    go_ret
    exact ⟨rfl, w1, unhide HW1, rfl⟩
/-- The j-th thing of another table goes among the old. -/
def St.moved (s : St) (d : Tb) (j : Nat) (v : Value) (t : Tp) : St := (s.add .o v ⟨t.r, t.q, 0⟩).setMv d j t (((s.l .o).length : Int) + 1)
theorem move58_any {c : Cf} {w : World} {s : St} (h : Cl c w s) (d : Tb) (hd : d ≠ .o) {j : Nat} {t : Tp} (hj : (s.l d)[j]? = some t) (hmv : t.mv = 0) {g cap : Nat} (hv : s.v d = .slice (some ⟨g, 0, none⟩) (s.l d).length cap) (hone : ∀ u ∈ t.cells, u.oneCell' = true)
    (hn : (s.l .o).length ≤ 16777216) (hyw : s.yw ≤ 1099511627776) (how : s.ow ≤ 1099511627776) (hr : t.r.xs.length ≤ 1073741824) (hq : t.q.xs.length ≤ 1073741824) :
    Calls Try.prog 58 #[.pointer (some ⟨c.sb, 0, none⟩), .pointer (some ⟨g, j * 9, none⟩)] w fun e w' => e = .returned (.int .i64 (((s.l .o).length : Int) + 1)) ∧ ∃ v', Ev c w s w' (s.moved d j v' t) ∧ Cl c w' (s.moved d j v' t) ∧ Fr (c.sb :: (ob (s.v .o) ++ ob (s.v d))) w w' := by
  obtain ⟨g', cap', cur, e1, h2, h3, h4⟩ := h.thing d hj
  rw [hv] at e1
  cases e1
  have ht : (⟨t.r, t.q, 0⟩ : Tp) = t := by cases t; simp at hmv; simp [hmv]
  have c8 : t.cells[8]? = some (.int .i64 0) := by unfold Tp.cells; rw [hmv]; rfl
  have hl := (List.getElem?_eq_some_iff.1 hj).1
  have hgd : g ∈ s.bl c (.tab d) := by simp [St.bl, ob, hv, Value.ownBlock]
  have hgl := (h.has (.tab d)).lt g hgd
  have hA := fun q => add48_any (c := c) (w := w.drewN q) (h.heq rfl) .o (.inl rfl) t hone hn hyw how hr hq
  have htc : t.cells.toArray = #[.int .i64 (t.r.xs.length : Int), t.r.sv, t.r.pv, .int .i64 (t.q.xs.length : Int), t.q.sv, t.q.pv, .int .i64 0, .nilIface, .int .i64 0] := by unfold Tp.cells; rw [hmv]
  rw [htc] at hA
  have h40 := h4 0 _ (by omega) (rfl : t.cells[0]? = some _)
  rw [Nat.add_zero] at h40
  refine (move58_walk c.sb g (j * 9) t.r.xs.length t.q.xs.length (((s.l .o).length : Int) + 1) t.r.sv t.r.pv t.q.sv t.q.pv w (R := fun w1 => ∃ gv cap1, (gv ∈ ob (s.v .o) ∨ w.heap.size ≤ gv) ∧ Fr (c.sb :: ob (s.v .o)) w w1 ∧ Cl c w1 (s.add .o (.slice (some ⟨gv, 0, none⟩) ((s.l .o).length + 1) cap1) t))
    h40 (h4 1 _ (by omega) rfl) (h4 2 _ (by omega) rfl) (h4 3 _ (by omega) rfl) (h4 4 _ (by omega) rfl) (h4 5 _ (by omega) rfl) (h4 6 _ (by omega) rfl) (h4 7 _ (by omega) rfl) (h4 8 _ (by omega) c8) (hide (fun q => (hA q).mono ?_)) (hide ?_)).mono ?_
  · rintro e w1 ⟨rfl, gv, cap1, k1, k2, k3⟩
    exact ⟨rfl, gv, cap1, k1, ⟨k2.os, k2.tape, k2.output, k2.size, k2.block⟩, k3⟩
  · rintro w1 ⟨gv, cap1, k1, k2, k3⟩
    have hgn : g ∉ c.sb :: ob (s.v .o) := fun e => by
      rcases List.mem_cons.1 e with e | e
      · exact h.ap (.tab d) .sb (by simp) g hgd (by simp [St.bl, e])
      · exact h.ap (.tab d) (.tab .o) (by simp [hd]) g hgd e
    have hb1 : w1.heap[g]? = some (.cells cur 96 (0, 0)) := by rw [k2.block g hgl hgn]; exact h2
    refine ⟨?_, frozen_of hb1⟩
    rw [cell_of_row w1 g _ _ 96 (0, 0) hb1, h3 8 (by omega)]; exact c8
  · rintro e w' ⟨rfl, w1, ⟨gv, cap1, k1, k2, k3⟩, rfl⟩
    have hj1 : ((s.add .o (.slice (some ⟨gv, 0, none⟩) ((s.l .o).length + 1) cap1) t).l d)[j]? = some t := by
      simp only [St.add]; rw [updAt_ne _ _ hd]; exact hj
    have hv1 : (s.add .o (.slice (some ⟨gv, 0, none⟩) ((s.l .o).length + 1) cap1) t).v d = .slice (some ⟨g, 0, none⟩) ((s.add .o (.slice (some ⟨gv, 0, none⟩) ((s.l .o).length + 1) cap1) t).l d).length cap := by
      simp only [St.add]; rw [updAt_ne _ _ hd, updAt_ne _ _ hd]; exact hv
    refine ⟨rfl, .slice (some ⟨gv, 0, none⟩) ((s.l .o).length + 1) cap1, ?_, ?_, ?_⟩
    · have he : Ev c w s w1 (s.add .o (.slice (some ⟨gv, 0, none⟩) ((s.l .o).length + 1) cap1) t) := Ev.of k2 (fun b hb => by
        rcases List.mem_cons.1 hb with e | e
        · exact ⟨.sb, by simp [St.bl, e]⟩
        · exact ⟨.tab .o, e⟩) (add_bl k1)
      have hgd1 : g ∈ (s.add .o (.slice (some ⟨gv, 0, none⟩) ((s.l .o).length + 1) cap1) t).bl c (.tab d) := by simp [St.bl, ob, hv1, Value.ownBlock]
      refine he.trans ?_
      unfold St.moved
      rw [ht]
      exact Ev.of (G := [g]) ((Fr.refl _ _).set (by simp) _) (fun b hb => ⟨.tab d, by rw [List.mem_singleton.1 hb]; exact hgd1⟩) (fun p b hb => .inl hb)
    · unfold St.moved
      rw [ht]
      exact k3.setMv hj1 hv1 _
    · refine (k2.mono (fun b hb => ?_)).set (List.mem_cons_of_mem _ (List.mem_append_right _ (by rw [hv]; simp [ob, Value.ownBlock]))) _
      rcases List.mem_cons.1 hb with e | e
      · rw [e]; exact List.mem_cons_self ..
      · exact List.mem_cons_of_mem _ (List.mem_append_left _ e)
end Rs
end Go.Proofs.Ytaapakpanbfmlaa
