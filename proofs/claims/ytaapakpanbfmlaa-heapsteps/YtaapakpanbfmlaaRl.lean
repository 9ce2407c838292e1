/-
  The reference's space: Make: the walk of what is made.
-/
import Derived.Test.YtaapakpanbfmlaaMgRk
namespace Go.Proofs.Ytaapakpanbfmlaa
namespace Rs
open Go.RowKit Hp
set_option linter.unusedVariables false
set_option linter.unusedSimpArgs false
theorem under64 : Try.prog.underlying 64 = some (.slice 71) := by kernel_rfl
theorem info71 : (Try.prog.info? 71).map (fun i => (i.zero, i.size, i.bytes)) = some (some (.agg #[.slice none 0 0, .slice none 0 0, .bool false]), 3, 56) := by kernel_rfl
/-- What lies ready when a thing is to be appended. -/
structure Pk (W W3 : World) (x : Tv) (bt : Nat) : Prop where
  b : Below W.heap.size W W3
  r : RowN .i64 3 W3 x.rv x.t.refs
  q : RowN .u64 30 W3 x.wv x.t.words
  n : (x.rv.ownBlock.toList ++ x.wv.ownBlock.toList).Nodup
  new : ∀ b ∈ x.rv.ownBlock.toList ++ x.wv.ownBlock.toList, W.heap.size ≤ b
  t : W3.heap[bt]? = some (.cells x.cells.toArray 71 (0, 0))
theorem pkA (W : World) (r q : Nat) : Pk W (((W.drew.alloc (.cells (madeCells #[.int .i64 0] r) 3)).alloc (.cells (madeCells #[.int .u64 0] q) 30)).alloc (.cells #[.slice (some ⟨W.heap.size, 0, none⟩) r r, .slice (some ⟨W.heap.size + 1, 0, none⟩) q q, .bool false] 71)) ⟨fresh r q, .slice (some ⟨W.heap.size, 0, none⟩) r r, .slice (some ⟨W.heap.size + 1, 0, none⟩) q q, false⟩ (W.heap.size + 1 + 1) := by
  have s1 : (W.drew.alloc (.cells (madeCells #[.int .i64 0] r) 3)).heap.size = W.heap.size + 1 := by simp
  have s2 : ((W.drew.alloc (.cells (madeCells #[.int .i64 0] r) 3)).alloc (.cells (madeCells #[.int .u64 0] q) 30)).heap.size = W.heap.size + 1 + 1 := by simp
  have m1 := made_ints r W.drew
  have m2 := made_words q (W.drew.alloc (.cells (madeCells #[.int .i64 0] r) 3))
  rw [s1] at m2
  refine ⟨(((Below.refl W.heap.size W).drew.alloc (Nat.le_refl _) _).alloc (by show W.heap.size ≤ _; rw [s1]; omega) _).alloc (by show W.heap.size ≤ _; rw [s2]; omega) _, ?_, ?_, ?_, ?_, ?_⟩
  · exact (m1.kept (F := []) (Fr.of_below ((Below.refl _ _).alloc (Nat.le_refl _) _)) (by simp)).kept (F := []) (Fr.of_below ((Below.refl _ _).alloc (Nat.le_refl _) _)) (by simp)
  · exact m2.kept (F := []) (Fr.of_below ((Below.refl _ _).alloc (Nat.le_refl _) _)) (by simp)
  · simp [Value.ownBlock]
  · intro b hb; simp [Value.ownBlock] at hb; omega
  · have := heap_alloc_new ((W.drew.alloc (.cells (madeCells #[.int .i64 0] r) 3)).alloc (.cells (madeCells #[.int .u64 0] q) 30)) (.cells #[.slice (some ⟨W.heap.size, 0, none⟩) r r, .slice (some ⟨W.heap.size + 1, 0, none⟩) q q, .bool false] 71)
    rw [s2] at this
    exact this
theorem pkB (W : World) (r q : Nat) : Pk W (((W.drew.alloc (.cells (madeCells #[.int .u64 0] q) 30)).alloc (.cells (madeCells #[.int .i64 0] r) 3)).alloc (.cells #[.slice (some ⟨W.heap.size + 1, 0, none⟩) r r, .slice (some ⟨W.heap.size, 0, none⟩) q q, .bool false] 71)) ⟨fresh r q, .slice (some ⟨W.heap.size + 1, 0, none⟩) r r, .slice (some ⟨W.heap.size, 0, none⟩) q q, false⟩ (W.heap.size + 1 + 1) := by
  have s1 : (W.drew.alloc (.cells (madeCells #[.int .u64 0] q) 30)).heap.size = W.heap.size + 1 := by simp
  have s2 : ((W.drew.alloc (.cells (madeCells #[.int .u64 0] q) 30)).alloc (.cells (madeCells #[.int .i64 0] r) 3)).heap.size = W.heap.size + 1 + 1 := by simp
  have m1 := made_words q W.drew
  have m2 := made_ints r (W.drew.alloc (.cells (madeCells #[.int .u64 0] q) 30))
  rw [s1] at m2
  refine ⟨(((Below.refl W.heap.size W).drew.alloc (Nat.le_refl _) _).alloc (by show W.heap.size ≤ _; rw [s1]; omega) _).alloc (by show W.heap.size ≤ _; rw [s2]; omega) _, ?_, ?_, ?_, ?_, ?_⟩
  · exact m2.kept (F := []) (Fr.of_below ((Below.refl _ _).alloc (Nat.le_refl _) _)) (by simp)
  · exact (m1.kept (F := []) (Fr.of_below ((Below.refl _ _).alloc (Nat.le_refl _) _)) (by simp)).kept (F := []) (Fr.of_below ((Below.refl _ _).alloc (Nat.le_refl _) _)) (by simp)
  · simp [Value.ownBlock]
  · intro b hb; simp [Value.ownBlock] at hb; omega
  · have := heap_alloc_new ((W.drew.alloc (.cells (madeCells #[.int .u64 0] q) 30)).alloc (.cells (madeCells #[.int .i64 0] r) 3)) (.cells #[.slice (some ⟨W.heap.size + 1, 0, none⟩) r r, .slice (some ⟨W.heap.size, 0, none⟩) q q, .bool false] 71)
    rw [s2] at this
    exact this
/-- The append, at a step of a region that draws. -/
theorem step_made {ops : Array Oper} {o : Oper} {a : Act} {K : Act → World → Prop} {Q : Exit → Act → World → Prop} {E : Prop} {W W3 : World} {B sb rb lim us bt : Nat} {lv : Value} {L : List Tv} {ro : List Nat} {x : Tv} (hgd : o.guard = none)
    (ho : o.op = .call { callee := .builtin .append, args := #[.tmp 75, .tmp 81], argTypes := #[64, 64] }) (hs : a.eval (.tmp 75) = lv) (hx : a.eval (.tmp 81) = .slice (some ⟨bt, 0, none⟩) 1 1)
    (hSp : Sp W B sb rb lv L ro lim us) (hP : Pk W W3 x bt) (hBW : B ≤ W.heap.size) (hl : L.length ≤ 16777216)
    (h : ∀ gv cap W4, W4.cell? ⟨sb, 0, none⟩ = some lv → W4.frozen? ⟨sb, 0, none⟩ = false → Hid (Fr (sb :: lv.ownBlock.toList) W (W4.setCell ⟨sb, 0, none⟩ (.slice (some ⟨gv, 0, none⟩) (L.length + 1) cap)) ∧ Sp (W4.setCell ⟨sb, 0, none⟩ (.slice (some ⟨gv, 0, none⟩) (L.length + 1) cap)) B sb rb (.slice (some ⟨gv, 0, none⟩) (L.length + 1) cap) (L ++ [x]) ro lim us) → K (a.put o.dst (.slice (some ⟨gv, 0, none⟩) (L.length + 1) cap)) W4) :
    if Region.wanted o (yielded ops a.tmps) = true then Oper.wp Try.prog o a W3 K Q else E := by
  obtain ⟨i0, hi, hii⟩ := Option.map_eq_some_iff.1 info71
  simp only [Prod.mk.injEq] at hii
  obtain ⟨hz0, hz1, hz2⟩ := hii
  have hSp3 := hSp.kept (F := []) (Fr.of_below hP.b) (by simp)
  have hsz := hP.b.size
  refine step_append_lies W3 hgd (.tmp 75) (.tmp 81) 64 ho B 71 i0 (.agg #[.slice none 0 0, .slice none 0 0, .bool false]) 3 56 under64 hi hz0 hz1 hz2 rfl (by decide) lv L.length _ hs hSp3.l ⟨bt, 0, none⟩ 1 1 x.cells hx rfl (World.news_of_block hP.t) ?_ (by decide) (by unfold maxLen; omega) (by omega) (by omega) W3.heap.size rfl ?_
  · intro u hu
    unfold Tv.cells at hu
    rcases hP.r.slice with ⟨_, e1⟩
    rcases hP.q.slice with ⟨_, e2⟩
    rw [e1, e2] at hu
    simp at hu
    rcases hu with rfl | rfl | rfl <;> rfl
  · intro g cap W4 h1 h2 h3 h4
    have hl1 : (L ++ [x]).length = L.length + 1 := by simp
    have hfl : (L ++ [x]).flatMap Tv.cells = L.flatMap Tv.cells ++ x.cells := by simp
    have hap := hSp.apart
    rw [List.nodup_cons] at hap
    have hsv : some sb ≠ lv.ownBlock := fun e => hap.1 (List.mem_cons_of_mem _ (List.mem_append_left _ (by rw [← e]; simp)))
    have hsb := (Array.getElem?_eq_some_iff.1 hSp3.b).1
    have hb4 := (h2.block sb hsb hsv).trans hSp3.b
    refine h g cap W4 ?_ ?_ (hide (Sp.made x hSp hP.b hP.r hP.q hP.n hP.new (by rw [hl1, hfl]; exact h1) h2 ?_))
    · rw [cell_of_row W4 sb 0 _ 67 (0, 0) hb4]; rfl
    · unfold World.frozen?; rw [hb4]; simp
    · rcases h3 with e | e
      · left; rw [e]; rfl
      · right; rw [e]; rfl
set_option maxRecDepth 100000 in
set_option maxHeartbeats 4000000 in
theorem rmake_room (n r q : Nat) (w : World) {B sb rb lim us : Nat} {lv : Value} {L : List Tv} {ro : List Nat} (h : Sp w B sb rb lv L ro lim us) (hn : n < 16) (hlim : lim ≤ 16777216) (hr : r ≤ lim) (hq : q ≤ lim) (hus : us + (2 + r + q) ≤ lim) (hl : L.length ≤ 16777216) (hB : B ≤ w.heap.size) :
    Calls Try.prog 17 #[.pointer (some ⟨sb, 0, none⟩), .int .i64 (n : Int), .int .i64 (r : Int), .int .i64 (q : Int)] w fun e w' => ∃ lv' x, e = .returned (.int .i64 0) ∧ x.t = fresh r q ∧ Fr (sb :: rb :: lv.ownBlock.toList) w w' ∧ Sp w' B sb rb lv' (L ++ [x]) (ro.set n L.length) lim (us + (2 + r + q)) := by
  have HA := hide (at_any (n : Int) w)
  have hk : at16 (n : Int) = true := by unfold at16; simp; omega
  rw [hk] at HA
  have HS := hide h
  obtain ⟨c2, c3, c4, c5⟩ := h.bcell
  have c0 := h.lv0
  have hri : ¬ ((r : Int) < 0) := by omega
  have hqi : ¬ ((q : Int) < 0) := by omega
  have hrl : ¬ ((lim : Int) < (r : Int)) := by omega
  have hql : ¬ ((lim : Int) < (q : Int)) := by omega
  have hrb : (r : Int) ≤ 16777216 := by omega
  have hqb : (q : Int) ≤ 16777216 := by omega
  have hub : (us : Int) ≤ 16777216 := by omega
  have hui : ¬ ((lim : Int) < (us : Int) + (2 + (r : Int) + (q : Int))) := by omega
  clear h hk
  go_enter Try.func17, Try.ntmps17
  go_wp2_with fail
  refine (unhide HA).mono ?_
  rintro e w1 ⟨rfl, hw1⟩
  subst w1
  go_wp2_with fail
  go_quiet (fail)
  go_wp2_with fail
  go_quiet (fail)
  go_wp2_with fail
  rename_i nq1 _ _ _ _
  have hW : Sp ((w.drewN (nq1 + nq)).setCell ⟨sb, 3, none⟩ (.int .i64 ((us : Int) + (2 + (r : Int) + (q : Int))))) B sb rb lv L ro lim (us + (2 + r + q)) := by
    have e : ((us : Int) + (2 + (r : Int) + (q : Int))) = ((us + (2 + r + q) : Nat) : Int) := by omega
    rw [e]
    exact ((unhide HS).drewN _).setUsed _
  have hFW : Fr (sb :: rb :: lv.ownBlock.toList) w ((w.drewN (nq1 + nq)).setCell ⟨sb, 3, none⟩ (.int .i64 ((us : Int) + (2 + (r : Int) + (q : Int))))) := ((Fr.refl _ _).drewN _).set (by simp) _
  have hBW : B ≤ ((w.drewN (nq1 + nq)).setCell ⟨sb, 3, none⟩ (.int .i64 ((us : Int) + (2 + (r : Int) + (q : Int))))).heap.size := Nat.le_trans hB hFW.size
  have HW := hide hW
  have HFW := hide hFW
  have HBW := hide hBW
  have c0' := hW.lv0
  clear hW hFW hBW c0 c2 c3 c4 c5
  generalize (w.drewN (nq1 + nq)).setCell ⟨sb, 3, none⟩ (.int .i64 ((us : Int) + (2 + (r : Int) + (q : Int)))) = W at *
  have hmk1 := mk_ints r (by omega)
  have hmk2 := mk_words q (by omega)
  have Hl := hide hl
  have hsW : sb < W.heap.size := (Array.getElem?_eq_some_iff.1 (unhide HW).b).1
  have x1 : ¬ sb = W.heap.size := by omega
  have x2 : ¬ W.heap.size = sb := by omega
  have x3 : ¬ sb = W.heap.size + 1 := by omega
  have x4 : ¬ W.heap.size + 1 = sb := by omega
  have k9 : ∀ o, (W.alloc o).cell? ⟨sb, 0, none⟩ = some lv := fun o => by rw [World.cell?_of_block (w := W) (Below.heap_alloc W o sb hsW)]; exact c0'
  have k8 : ∀ o o', ((W.alloc o).alloc o').cell? ⟨sb, 0, none⟩ = some lv := fun o o' => by rw [World.cell?_of_block (w := W.alloc o) (Below.heap_alloc (W.alloc o) o' sb (by simp; omega))]; exact k9 o
  have k7 : ∀ o o' o'', (((W.alloc o).alloc o').alloc o'').cell? ⟨sb, 0, none⟩ = some lv := fun o o' o'' => by rw [World.cell?_of_block (w := (W.alloc o).alloc o') (Below.heap_alloc ((W.alloc o).alloc o') o'' sb (by simp; omega))]; exact k8 o o'
  clear hsW
  go_region_law (first | (refine step_made rfl rfl rfl rfl (unhide HW) (pkA W r q) (unhide HBW) (unhide Hl) ?_; intro gv cv W4 k0 k1 HM) | (refine step_made rfl rfl rfl rfl (unhide HW) (pkB W r q) (unhide HBW) (unhide Hl) ?_; intro gv cv W4 k0 k1 HM))
  all_goals
    obtain ⟨m1, m2⟩ := unhide HM
    have g1 := m2.rootsv
    have g2 := m2.lv0
    have g3 := m2.cell n hn
    have g4 := m2.rfrozen n
    have M1 := hide ((unhide HFW).trans (m1.mono (F' := sb :: rb :: lv.ownBlock.toList) (fun b hb => by
      rcases List.mem_cons.1 hb with rfl | hb
      · exact List.mem_cons_self ..
      · exact List.mem_cons_of_mem _ (List.mem_cons_of_mem _ hb))))
    have M2 := hide m2
    clear m1 m2 HM k0 k1 k9 k8 k7 c0' hmk1 hmk2
    generalize W4.setCell ⟨sb, 0, none⟩ (.slice (some ⟨gv, 0, none⟩) (L.length + 1) cv) = W5 at *
    have hni : (n : Int) < 16 := by omega
    generalize hy : ro.getD n 0 = y at g3
    clear hy
    have hLi : (L.length : Int) ≤ 16777216 := by omega
    go_wp2_with fail
    go_region
    all_goals
      go_wp2
      go_ret
      refine ⟨_, _, rfl, ?_, ?_, ((unhide M2).drew).setRoot n L.length⟩
      · rfl
      · exact (unhide M1).drew.set (by simp) _
end Rs
end Go.Proofs.Ytaapakpanbfmlaa
