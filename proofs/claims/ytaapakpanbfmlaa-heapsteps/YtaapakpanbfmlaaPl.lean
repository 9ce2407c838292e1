/-
  The program's tables: a thing more.
-/
import Derived.Test.YtaapakpanbfmlaaPk
import Derived.Test.YtaapakpanbfmlaaRl
namespace Go.Proofs.Ytaapakpanbfmlaa
namespace Rs
open Go.RowKit Hp
set_option linter.unusedVariables false
set_option linter.unusedSimpArgs false
theorem under49 : Try.prog.underlying 49 = some (.slice 96) := by kernel_rfl
theorem info96 : (Try.prog.info? 96).map (fun i => (i.zero, i.size, i.bytes)) = some (some (.agg #[.int .i64 0, .slice none 0 0, .map none, .int .i64 0, .slice none 0 0, .map none, .int .i64 0, .nilIface, .int .i64 0]), 9, 112) := by kernel_rfl
theorem Tp.one (t : Tp) (h1 : t.r.sv.oneCell' = true) (h2 : t.r.pv.oneCell' = true) (h3 : t.q.sv.oneCell' = true) (h4 : t.q.pv.oneCell' = true) : ∀ u ∈ t.cells, u.oneCell' = true := by
  intro u hu
  unfold Tp.cells at hu
  simp at hu
  rcases hu with rfl | rfl | rfl | rfl | rfl | rfl | rfl | rfl | rfl <;> first | rfl | assumption
theorem wrap_id (x : Int) (h1 : -9223372036854775808 ≤ x) (h2 : x < 9223372036854775808) : IntKind.i64.wrap x = x := by
  have e1 : (2 ^ (IntKind.bits .i64) : Int) = 18446744073709551616 := by decide
  have e2 : (2 ^ (IntKind.bits .i64 - 1) : Int) = 9223372036854775808 := by decide
  unfold IntKind.wrap
  rw [e1, e2]
  simp only [show IntKind.signed .i64 = true from rfl, Bool.true_and, decide_eq_true_eq]
  split <;> omega
theorem cell_other {w : World} {b i j : Nat} {v : Value} (h : i ≠ j) : (w.setCell ⟨b, i, none⟩ v).cell? ⟨b, j, none⟩ = w.cell? ⟨b, j, none⟩ := World.cell?_setCell_other w ⟨b, i, none⟩ ⟨b, j, none⟩ v (by simp [h])
/-- The append, at a step of a region that draws. -/
theorem step_add {ops : Array Oper} {o : Oper} {a : Act} {K : Act → World → Prop} {Q : Exit → Act → World → Prop} {E : Prop} {W W3 : World} {B n bt sb so : Nat} {v : Value} {xs cs : List Value} (hgd : o.guard = none)
    (ho : o.op = .call { callee := .builtin .append, args := #[.tmp 9, .tmp 11], argTypes := #[49, 49] }) (hs : a.eval (.tmp 9) = v) (hx : a.eval (.tmp 11) = .slice (some ⟨bt, 0, none⟩) 1 1)
    (hown : W.ownsRow B 96 9 v n xs) (h3 : Below W.heap.size W W3) (ht : W3.heap[bt]? = some (.cells cs.toArray 96 (0, 0))) (hcs : cs.length = 9) (hone : ∀ u ∈ cs, u.oneCell' = true) (hB : B ≤ W.heap.size) (hn : n ≤ 16777216)
    (hv : W.cell? ⟨sb, so, none⟩ = some v) (hf : W.frozen? ⟨sb, so, none⟩ = false) (hne : some sb ≠ v.ownBlock)
    (h : ∀ gv cap W4, W4.cell? ⟨sb, so, none⟩ = some v → W4.frozen? ⟨sb, so, none⟩ = false → Hid (W4.ownsRow B 96 9 (.slice (some ⟨gv, 0, none⟩) (n + 1) cap) (n + 1) (xs ++ cs) ∧ W3.grownBy W4 v.ownBlock ∧ (v.ownBlock = some gv ∨ gv = W3.heap.size)) → K (a.put o.dst (.slice (some ⟨gv, 0, none⟩) (n + 1) cap)) W4) :
    if Region.wanted o (yielded ops a.tmps) = true then Oper.wp Try.prog o a W3 K Q else E := by
  obtain ⟨i0, hi, hii⟩ := Option.map_eq_some_iff.1 info96
  simp only [Prod.mk.injEq] at hii
  obtain ⟨hz0, hz1, hz2⟩ := hii
  have hsz := h3.size
  have hsb : sb < W.heap.size := cell_lt hv
  have hown3 : W3.ownsRow B 96 9 v n xs := row_kept hown (Fr.of_below (F := []) h3) (by simp)
  refine step_append_lies W3 hgd (.tmp 9) (.tmp 11) 49 ho B 96 i0 _ 9 112 under49 hi hz0 hz1 hz2 rfl (by decide) v n _ hs hown3 ⟨bt, 0, none⟩ 1 1 cs hx hcs (World.news_of_block ht) hone (by decide) (by unfold maxLen; omega) (by omega) (by omega) W3.heap.size rfl ?_
  intro g cap W4 h1 h2 h3' h4
  refine h g cap W4 ?_ ?_ (hide ⟨h1, h2, h3'⟩)
  · rw [World.cell?_of_block (w := W3) (h2.block sb (by omega) hne), World.cell?_of_block (w := W) (h3.block sb hsb)]; exact hv
  · rw [World.frozen?_of_block (w := W3) (h2.block sb (by omega) hne), World.frozen?_of_block (w := W) (h3.block sb hsb)]; exact hf
set_option maxRecDepth 100000 in
set_option maxHeartbeats 4000000 in
theorem add48_core (sb so n nw B n0 n3 : Nat) (a1 a2 a4 a5 : Value) (mv : Int) (v : Value) (xs : List Value) (w : World) (hv : w.cell? ⟨sb, so, none⟩ = some v) (hf : w.frozen? ⟨sb, so, none⟩ = false) (hw : w.cell? ⟨sb, so + 1, none⟩ = some (.int .i64 (nw : Int))) (hf2 : w.frozen? ⟨sb, so + 1, none⟩ = false) (hown : w.ownsRow B 96 9 v n xs) (hne : some sb ≠ v.ownBlock) (hB : B ≤ w.heap.size)
    (hn : n ≤ 16777216) (hnw : nw ≤ 1099511627776) (hr : n0 ≤ 1073741824) (hq : n3 ≤ 1073741824) (hone : ∀ u ∈ [.int .i64 (n0 : Int), a1, a2, .int .i64 (n3 : Int), a4, a5, .int .i64 0, .nilIface, .int .i64 mv], u.oneCell' = true) :
    Calls Try.prog 48 #[.pointer (some ⟨sb, so, none⟩), .agg #[.int .i64 (n0 : Int), a1, a2, .int .i64 (n3 : Int), a4, a5, .int .i64 0, .nilIface, .int .i64 mv]] w fun e w' => e = .returned (.int .i64 ((n : Int) + 1)) ∧
      ∃ gv cap W4 q, W4.ownsRow B 96 9 (.slice (some ⟨gv, 0, none⟩) (n + 1) cap) (n + 1) (xs ++ [.int .i64 (n0 : Int), a1, a2, .int .i64 (n3 : Int), a4, a5, .int .i64 0, .nilIface, .int .i64 mv]) ∧ Fr (ob v) w W4 ∧ (gv ∈ ob v ∨ w.heap.size ≤ gv) ∧ w' = ((W4.setCell ⟨sb, so, none⟩ (.slice (some ⟨gv, 0, none⟩) (n + 1) cap)).drewN q).setCell ⟨sb, so + 1, none⟩ (.int .i64 ((nw + (2 + n0 + n3) : Nat) : Int)) := by
  have hsb : sb < w.heap.size := cell_lt hv
  obtain ⟨W, hW⟩ : ∃ W, W = w.alloc (.cells #[.int .i64 (n0 : Int), a1, a2, .int .i64 (n3 : Int), a4, a5, .int .i64 0, .nilIface, .int .i64 mv] 96) := ⟨_, rfl⟩
  have hsW : W.heap.size = w.heap.size + 1 := by rw [hW]; simp
  have hb0 : Below w.heap.size w W := by rw [hW]; exact (Below.refl _ _).alloc (Nat.le_refl _) _
  have hbx : W.heap[w.heap.size]? = some (.cells #[.int .i64 (n0 : Int), a1, a2, .int .i64 (n3 : Int), a4, a5, .int .i64 0, .nilIface, .int .i64 mv] 96 (0, 0)) := by rw [hW]; exact heap_alloc_new w _
  have q1 := alloc_cell hv (.cells #[.int .i64 (n0 : Int), a1, a2, .int .i64 (n3 : Int), a4, a5, .int .i64 0, .nilIface, .int .i64 mv] 96)
  have q2 := alloc_frozen hv hf (.cells #[.int .i64 (n0 : Int), a1, a2, .int .i64 (n3 : Int), a4, a5, .int .i64 0, .nilIface, .int .i64 mv] 96)
  have q3 := alloc_cell hw (.cells #[.int .i64 (n0 : Int), a1, a2, .int .i64 (n3 : Int), a4, a5, .int .i64 0, .nilIface, .int .i64 mv] 96)
  have q4 := alloc_frozen hw hf2 (.cells #[.int .i64 (n0 : Int), a1, a2, .int .i64 (n3 : Int), a4, a5, .int .i64 0, .nilIface, .int .i64 mv] 96)
  rw [← hW] at q1 q2 q3 q4
  have x0 := cell_of_row W w.heap.size 0 _ 96 (0, 0) hbx
  have x1 := cell_of_row W w.heap.size 1 _ 96 (0, 0) hbx
  have x2 := cell_of_row W w.heap.size 2 _ 96 (0, 0) hbx
  have x3 := cell_of_row W w.heap.size 3 _ 96 (0, 0) hbx
  have x4 := cell_of_row W w.heap.size 4 _ 96 (0, 0) hbx
  have x5 := cell_of_row W w.heap.size 5 _ 96 (0, 0) hbx
  have x6 := cell_of_row W w.heap.size 6 _ 96 (0, 0) hbx
  have x7 := cell_of_row W w.heap.size 7 _ 96 (0, 0) hbx
  have x8 := cell_of_row W w.heap.size 8 _ 96 (0, 0) hbx
  simp at x0 x1 x2 x3 x4 x5 x6 x7 x8
  have hownW : W.ownsRow B 96 9 v n xs := row_kept hown (Fr.of_below (F := []) hb0) (by simp)
  have hBW : B ≤ W.heap.size := by omega
  have hb3 : Below W.heap.size W (W.drew.alloc (.cells #[.int .i64 (n0 : Int), a1, a2, .int .i64 (n3 : Int), a4, a5, .int .i64 0, .nilIface, .int .i64 mv] 96)) := (Below.refl W.heap.size W).drew.alloc (Nat.le_refl _) _
  have ht3 : (W.drew.alloc (.cells #[.int .i64 (n0 : Int), a1, a2, .int .i64 (n3 : Int), a4, a5, .int .i64 0, .nilIface, .int .i64 mv] 96)).heap[W.heap.size]? = some (.cells [.int .i64 (n0 : Int), a1, a2, .int .i64 (n3 : Int), a4, a5, .int .i64 0, .nilIface, .int .i64 mv].toArray 96 (0, 0)) := heap_alloc_new W.drew _
  have HS := hide (And.intro hownW (And.intro hb3 (And.intro ht3 (And.intro hone (And.intro hBW (And.intro hn (And.intro q1 (And.intro q2 hne))))))))
  have HI := hide (And.intro hb0 (And.intro hbx (And.intro hown (And.intro hsb (And.intro hne (And.intro hr (And.intro hq (And.intro hnw (And.intro q3 q4)))))))))
  have HsW := hide hsW
  have z1 : ¬ sb = w.heap.size := by omega
  have z2 : ¬ sb = W.heap.size := by omega
  have k9 : ∀ o, (W.alloc o).cell? ⟨sb, so, none⟩ = some v := fun o => alloc_cell q1 o
  clear hownW hb3 ht3 hone hBW hb0 hbx hown hne hv hf hw hf2 hsb hB hsW q3 q4
  go_enter Try.func48, Try.ntmps48
  go_upto_region 1 with fail
  rw [← hW]
  clear hW
  go_region_law (refine step_add (W := W) rfl rfl rfl rfl (unhide HS).1 (unhide HS).2.1 (unhide HS).2.2.1 rfl (unhide HS).2.2.2.1 (unhide HS).2.2.2.2.1 (unhide HS).2.2.2.2.2.1 (unhide HS).2.2.2.2.2.2.1 (unhide HS).2.2.2.2.2.2.2.1 (unhide HS).2.2.2.2.2.2.2.2 ?_; intro gv cap W4 k0 k1 HM)
  all_goals
    obtain ⟨m1, m2a, m3a⟩ := unhide HM
    have m2 : World.grownBy (W.drew.alloc (.cells #[.int .i64 (n0 : Int), a1, a2, .int .i64 (n3 : Int), a4, a5, .int .i64 0, .nilIface, .int .i64 mv] 96)) W4 v.ownBlock := m2a
    have m3 : v.ownBlock = some gv ∨ gv = (W.drew.alloc (.cells #[.int .i64 (n0 : Int), a1, a2, .int .i64 (n3 : Int), a4, a5, .int .i64 0, .nilIface, .int .i64 mv] 96)).heap.size := m3a
    clear m2a m3a
    obtain ⟨i1, i2, i3, i4, i5, i6, i7, i8, i9, i10⟩ := unhide HI
    have i11 := unhide HsW
    have s3 : (W.drew.alloc (.cells #[.int .i64 (n0 : Int), a1, a2, .int .i64 (n3 : Int), a4, a5, .int .i64 0, .nilIface, .int .i64 mv] 96)).heap.size = W.heap.size + 1 := by simp
    have hold : ∀ b, b < W.heap.size → some b ≠ v.ownBlock → W4.heap[b]? = W.heap[b]? := fun b hb hbn => (m2.block b (by rw [s3]; omega) hbn).trans ((unhide HS).2.1.block b hb)
    have hxo : some w.heap.size ≠ v.ownBlock := fun e => by have := i3.lt _ e.symm; omega
    have f1 : (W4.setCell ⟨sb, so, none⟩ (.slice (some ⟨gv, 0, none⟩) (n + 1) cap)).cell? ⟨sb, so, none⟩ = some (.slice (some ⟨gv, 0, none⟩) (n + 1) cap) := World.cell?_setCell_same' _ _ _ (by rw [k0]; rfl)
    have f2 : (W4.setCell ⟨sb, so, none⟩ (.slice (some ⟨gv, 0, none⟩) (n + 1) cap)).cell? ⟨sb, so + 1, none⟩ = some (.int .i64 (nw : Int)) := by
      rw [cell_other (by omega), World.cell?_of_block (w := W) (hold sb (by omega) i5)]; exact i9
    have f3 : (W4.setCell ⟨sb, so, none⟩ (.slice (some ⟨gv, 0, none⟩) (n + 1) cap)).frozen? ⟨sb, so + 1, none⟩ = false := by
      rw [World.frozen?_setCell, World.frozen?_of_block (w := W) (hold sb (by omega) i5)]; exact i10
    have f4 : (W4.setCell ⟨sb, so, none⟩ (.slice (some ⟨gv, 0, none⟩) (n + 1) cap)).heap[w.heap.size]? = some (.cells #[.int .i64 (n0 : Int), a1, a2, .int .i64 (n3 : Int), a4, a5, .int .i64 0, .nilIface, .int .i64 mv] 96 (0, 0)) := by
      rw [heap_setB (by omega), hold _ (by omega) hxo]; exact i2
    have HW4 : Hid (Fr (ob v) w W4 ∧ (gv ∈ ob v ∨ w.heap.size ≤ gv)) := by
      refine ⟨⟨m2.os.trans ((unhide HS).2.1.os.trans i1.os), m2.tape.trans ((unhide HS).2.1.tape.trans i1.tape), m2.output.trans ((unhide HS).2.1.output.trans i1.output), ?_, fun b hb hbn => ?_⟩, ?_⟩
      · have := m2.size; rw [s3] at this; omega
      · exact (hold b (by omega) (fun e => hbn (by unfold ob; rw [← e]; simp))).trans (i1.block b hb)
      · rcases m3 with e | e
        · left; unfold ob; rw [e]; simp
        · right; rw [e, s3]; omega
    have HM1 := hide m1
    have HZ : Hid (∀ q, Calls Try.prog 47 #[.pointer (some ⟨w.heap.size, 0, none⟩)] ((W4.setCell ⟨sb, so, none⟩ (.slice (some ⟨gv, 0, none⟩) (n + 1) cap)).drewN q) fun e w' => e = .returned (.int .i64 ((2 + n0 + n3 : Nat) : Int)) ∧ ∃ m, w' = ((W4.setCell ⟨sb, so, none⟩ (.slice (some ⟨gv, 0, none⟩) (n + 1) cap)).drewN q).drewN m) := fun q => by
      refine size47_any _ (b := w.heap.size) (o := 0) i6 i7 ?_ ?_
      · rw [cell_of_row _ w.heap.size 0 _ 96 (0, 0) (show ((W4.setCell ⟨sb, so, none⟩ (.slice (some ⟨gv, 0, none⟩) (n + 1) cap)).drewN q).heap[w.heap.size]? = _ from f4)]; rfl
      · rw [cell_of_row _ w.heap.size 3 _ 96 (0, 0) (show ((W4.setCell ⟨sb, so, none⟩ (.slice (some ⟨gv, 0, none⟩) (n + 1) cap)).drewN q).heap[w.heap.size]? = _ from f4)]; rfl
    have g1 : ((2 + n0 + n3 : Nat) : Int) ≤ 4294967296 := by omega
    have g2 : (nw : Int) ≤ 1099511627776 := by omega
    have hwr : IntKind.i64.wrap ((nw : Int) + ((2 + n0 + n3 : Nat) : Int)) = ((nw + (2 + n0 + n3) : Nat) : Int) := by
      rw [show ((nw + (2 + n0 + n3) : Nat) : Int) = (nw : Int) + ((2 + n0 + n3 : Nat) : Int) by omega]
      exact wrap_id _ (by omega) (by omega)
    have g3 : (0 : Int) ≤ ((2 + n0 + n3 : Nat) : Int) := by omega
    have hni : (n : Int) ≤ 16777216 := by omega
    generalize hzz : ((2 + n0 + n3 : Nat) : Int) = zz at HZ g1 g3 hwr
    generalize htot : ((nw + (2 + n0 + n3) : Nat) : Int) = tot at hwr
    have Htot := hide htot
    clear htot
    clear m1 m2 m3 i1 i2 i3 i4 i5 i6 i7 i8 i9 i10 i11 hold hxo s3 HS HI HsW HM k0 k1 k9 x0 x1 x2 x3 x4 x5 x6 x7 x8 q1 q2 f4 z2
    generalize hW5 : W4.setCell ⟨sb, so, none⟩ (.slice (some ⟨gv, 0, none⟩) (n + 1) cap) = W5 at *
    have HW5 := hide hW5
    have Hzz := hide hzz
    clear hW5 hzz
    go_wp2_with fail
    go_region_law (go_simp; refine (unhide HZ _).mono ?_; rintro e w1 ⟨rfl, mq, hw1⟩; subst w1)
    all_goals
      go_wp2
      go_ret
      have e5 := unhide HW5
      have e6 := unhide Htot
      subst e5
      subst e6
      exact ⟨rfl, gv, cap, W4, _, unhide HM1, (unhide HW4).1, (unhide HW4).2, rfl⟩
/-- Where a table's field lies. -/
def offT : Tb → Nat
  | .y => 3
  | _ => 5
def Tp.sz (t : Tp) : Nat := 2 + t.r.xs.length + t.q.xs.length
/-- A thing more in a table. -/
def St.add (s : St) (d : Tb) (v : Value) (t : Tp) : St := { s with v := updAt s.v d v, l := updAt s.l d (s.l d ++ [t]), yw := if d = .y then s.yw + t.sz else s.yw, ow := if d = .o then s.ow + t.sz else s.ow }
theorem RowIs.one {k : IntKind} {tS tP : TypeId} {w : World} {r : Rv} (h : RowIs k tS tP w r) : r.sv.oneCell' = true ∧ r.pv.oneCell' = true := by
  rcases h.2 with h | ⟨g, h⟩ | ⟨m, es, c, h⟩ <;> rw [h.sv, h.pv] <;> exact ⟨rfl, rfl⟩
theorem mem_ob {v : Value} {b : Nat} (h : v.ownBlock = some b) : b ∈ ob v := by unfold ob; rw [h]; simp
theorem add48_any {c : Cf} {w : World} {s : St} (h : Cl c w s) (d : Tb) (hd : d = .o ∨ d = .y) (t : Tp) (hone : ∀ u ∈ t.cells, u.oneCell' = true) (hn : (s.l d).length ≤ 16777216) (hyw : s.yw ≤ 1099511627776) (how : s.ow ≤ 1099511627776) (hr : t.r.xs.length ≤ 1073741824) (hq : t.q.xs.length ≤ 1073741824) :
    Calls Try.prog 48 #[.pointer (some ⟨c.sb, offT d, none⟩), .agg t.cells.toArray] w fun e w' => e = .returned (.int .i64 (((s.l d).length : Int) + 1)) ∧ ∃ gv cap, (gv ∈ ob (s.v d) ∨ w.heap.size ≤ gv) ∧ Fr (c.sb :: ob (s.v d)) w w' ∧ Cl c w' (s.add d (.slice (some ⟨gv, 0, none⟩) ((s.l d).length + 1) cap) t) := by
  have hown : w.ownsRow c.B 96 9 (s.v d) (s.l d).length ((s.l d).flatMap Tp.cells) := h.has (.tab d)
  have hsb := h.sbl
  have hne : some c.sb ≠ (s.v d).ownBlock := fun e => h.ap .sb (.tab d) (by simp) c.sb (by simp [St.bl]) (mem_ob e.symm)
  obtain ⟨nw, hnw, hcw, hcv⟩ : ∃ nw : Nat, nw ≤ 1099511627776 ∧ w.cell? ⟨c.sb, offT d + 1, none⟩ = some (.int .i64 (nw : Int)) ∧ (w.cell? ⟨c.sb, offT d, none⟩ = some (s.v d) ∧ ((s.cells c).set (offT d + 1) (.int .i64 ((nw + (2 + t.r.xs.length + t.q.xs.length) : Nat) : Int)) = St.cells c { s with yw := if d = .y then s.yw + t.sz else s.yw, ow := if d = .o then s.ow + t.sz else s.ow })) := by
    rcases hd with rfl | rfl
    · exact ⟨s.ow, how, h.cell 6 rfl, h.cell 5 rfl, by simp [St.cells, offT, Tp.sz]⟩
    · exact ⟨s.yw, hyw, h.cell 4 rfl, h.cell 3 rfl, by simp [St.cells, offT, Tp.sz]⟩
  refine (add48_core c.sb (offT d) (s.l d).length nw c.B t.r.xs.length t.q.xs.length t.r.sv t.r.pv t.q.sv t.q.pv t.mv (s.v d) _ w hcv.1 (h.fz _) hcw (h.fz _) hown hne h.B hn hnw hr hq hone).mono ?_
  rintro e w' ⟨rfl, gv, cap, W4, q, h1, h2, h3, hw'⟩
  have hoff : ∀ b, b ≠ c.sb → w'.heap[b]? = W4.heap[b]? := fun b hb => by
    rw [hw', heap_setB hb]
    show (W4.setCell ⟨c.sb, offT d, none⟩ _).heap[b]? = _
    exact heap_setB hb
  have hsz : w.heap.size ≤ w'.heap.size := by
    rw [hw']
    show w.heap.size ≤ ((W4.setCell ⟨c.sb, offT d, none⟩ _).setCell ⟨c.sb, offT d + 1, none⟩ _).heap.size
    have := h2.size; simpa using this
  have hsd : c.sb ∉ ob (s.v d) := fun e => hne (by
    unfold ob at e
    cases hb : (s.v d).ownBlock with
    | none => rw [hb] at e; simp at e
    | some g => rw [hb] at e; simp at e; rw [e])
  have hW4 : W4.heap[c.sb]? = some (.cells (s.cells c).toArray 59 (0, 0)) := by rw [h2.block c.sb hsb hsd]; exact (h.has .sb).1
  refine ⟨rfl, gv, cap, h3, ⟨by rw [hw']; exact h2.os, by rw [hw']; exact h2.tape, by rw [hw']; exact h2.output, hsz, fun b hb hbn => ?_⟩, ?_⟩
  · rw [hoff b (fun e => hbn (by rw [e]; exact List.mem_cons_self ..))]
    exact h2.block b hb (fun e => hbn (List.mem_cons_of_mem _ e))
  · refine h.upd (fun p => p = .sb ∨ p = .tab d) (fun p hp => ?_) (fun p hp b hb => ?_) (fun p hp => ?_) (fun p hp b hb => ?_) (fun p p' hp hp' hpp b hb hlb hb' => ?_) hsz
    · cases p with
      | sb => exact absurd (.inl rfl) hp
      | cv => exact ⟨fun h => h, rfl⟩
      | tab e =>
        have he : e ≠ d := fun e2 => hp (.inr (by rw [e2]))
        refine ⟨fun h => ?_, ?_⟩
        · unfold Has at h ⊢
          simp only [St.add]
          rw [updAt_ne _ _ he, updAt_ne _ _ he]; exact h
        · simp only [St.bl, St.add]; rw [updAt_ne _ _ he]
      | row x => exact ⟨fun h => h, rfl⟩
    · have hbs : b ≠ c.sb := fun e => h.ap p .sb (fun e2 => hp (.inl e2)) b hb (by simp [St.bl, e])
      rw [hoff b hbs]
      exact h2.block b ((h.has p).lt b hb) (fun e => h.ap p (.tab d) (fun e2 => hp (.inr e2)) b hb e)
    · rcases hp with rfl | rfl
      · refine ⟨?_, (h.has .sb).2⟩
        have a1 := heap_setCell_same W4 c.sb (offT d) _ 59 (.slice (some ⟨gv, 0, none⟩) ((s.l d).length + 1) cap) hW4
        have a2 := heap_setCell_same ((W4.setCell ⟨c.sb, offT d, none⟩ (.slice (some ⟨gv, 0, none⟩) ((s.l d).length + 1) cap)).drewN q) c.sb (offT d + 1) _ 59 (.int .i64 ((nw + (2 + t.r.xs.length + t.q.xs.length) : Nat) : Int)) a1
        rw [hw', a2]
        congr 2
        rw [List.setIfInBounds_toArray, List.setIfInBounds_toArray, List.set_comm _ _ (by omega), hcv.2]
        rcases hd with rfl | rfl <;> simp [St.cells, St.add, offT, updAt]
      · unfold Has
        simp only [St.add, updAt_same]
        have h1' := row_kept (F := [c.sb]) (w' := w') h1 ⟨by rw [hw']; rfl, by rw [hw']; rfl, by rw [hw']; rfl, by rw [hw']; show W4.heap.size ≤ ((W4.setCell ⟨c.sb, offT d, none⟩ _).setCell ⟨c.sb, offT d + 1, none⟩ _).heap.size; simp, fun b hb hbn => hoff b (by simpa using hbn)⟩ (fun b hb e => by
          simp [Value.ownBlock] at hb e
          rcases h3 with h3 | h3
          · exact hsd (by rw [← e, hb]; exact h3)
          · omega)
        rw [List.length_append, List.flatMap_append]
        simpa [Tp.cells] using h1'
    · rcases hp with rfl | rfl
      · exact .inl hb
      · simp only [St.bl, St.add, updAt_same, ob, Value.ownBlock] at hb
        simp at hb
        rw [hb]; exact h3
    · have : ∀ b ∈ (s.add d (.slice (some ⟨gv, 0, none⟩) ((s.l d).length + 1) cap) t).bl c .sb, b < w.heap.size := fun b hb => by simp [St.bl] at hb; omega
      rcases hp with rfl | rfl
      · have := this b hb; omega
      · rcases hp' with rfl | rfl
        · have := this b hb'; omega
        · exact hpp rfl
end Rs
end Go.Proofs.Ytaapakpanbfmlaa
