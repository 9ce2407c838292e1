/-
  collectAll, the walk.
-/
import Derived.Test.YtaapakpanbfmlaaMgPw
namespace Go.Proofs.Ytaapakpanbfmlaa
namespace Rs
open Go.RowKit Hp
set_option linter.unusedVariables false
set_option linter.unusedSimpArgs false
set_option maxRecDepth 100000 in
set_option maxHeartbeats 4000000 in
theorem all42_walk (sb : Nat) (ya oa za : Option Addr) (yn yc on oc zn zc ow : Nat) (w : World) (h3 : w.cell? ⟨sb, 3, none⟩ = some (.slice ya yn yc)) (h5 : w.cell? ⟨sb, 5, none⟩ = some (.slice oa on oc)) (h6 : w.cell? ⟨sb, 6, none⟩ = some (.int .i64 (ow : Int))) (h7 : w.cell? ⟨sb, 7, none⟩ = some (.slice za zn zc)) (hf5 : w.frozen? ⟨sb, 5, none⟩ = false) (hf6 : w.frozen? ⟨sb, 6, none⟩ = false) (hoc : (oc : Int) ≤ 9223372036854775807) {R : Nat → Nat → World → Prop} {J0 : World → Prop}
    (HS : Hid (∀ hb yb zb W1 q, Fr [] w W1 → W1.heap[hb]? = some (.cells #[.pointer (some ⟨sb, 0, none⟩)] 83 (0, 0)) → W1.heap[yb]? = some (.cells #[.slice ya yn yc] 49 (0, 0)) → W1.heap[zb]? = some (.cells #[.slice oa on oc] 49 (0, 0)) → w.heap.size ≤ hb → w.heap.size ≤ yb → w.heap.size ≤ zb →
      Calls Try.prog 59 #[.pointer (some ⟨sb, 0, none⟩), .int .i64 0, .func (.func 57) #[] #[.pointer (some ⟨hb, 0, none⟩), .pointer (some ⟨yb, 0, none⟩), .pointer (some ⟨zb, 0, none⟩)], .iface 61 (.pointer (some ⟨sb, 9, none⟩))] (((W1.setCell ⟨sb, 5, none⟩ (.slice za zn zc)).setCell ⟨sb, 6, none⟩ (.int .i64 0)).drewN q) fun e w' => e = .returned (.tuple #[]) ∧ R hb zb w'))
    (HR : Hid (∀ hb zb w', R hb zb w' → ∃ W, w'.cell? ⟨zb, 0, none⟩ = some (.slice oa on oc) ∧ Sem.run Try.prog (Builtin.clear_ #[49] 0 #[.slice oa on oc]) w' = .ok (.tuple #[]) W ∧ W.cell? ⟨zb, 0, none⟩ = some (.slice oa on oc) ∧ W.cell? ⟨hb, 0, none⟩ = some (.pointer (some ⟨sb, 0, none⟩)) ∧ (∃ u, W.cell? ⟨sb, 7, none⟩ = some u) ∧ W.frozen? ⟨sb, 7, none⟩ = false ∧ ∀ q, J0 ((W.setCell ⟨sb, 7, none⟩ (.slice oa 0 oc)).drewN q))) :
    Calls Try.prog 42 #[.pointer (some ⟨sb, 0, none⟩), .iface 61 (.pointer (some ⟨sb, 9, none⟩))] w fun e w' => e = .returned (.tuple #[]) ∧ J0 w' := by
  have hs : sb < w.heap.size := cell_lt h3
  have Hs := hide hs
  have Hc := hide (And.intro h5 (And.intro h6 (And.intro h7 (And.intro hf5 hf6))))
  obtain ⟨W0, hW0⟩ : ∃ W, W = w.alloc (.cells #[.pointer (some ⟨sb, 0, none⟩)] 83) := ⟨_, rfl⟩
  have d3 := alloc_cell h3 (.cells #[.pointer (some ⟨sb, 0, none⟩)] 83)
  have d5 := alloc_cell h5 (.cells #[.pointer (some ⟨sb, 0, none⟩)] 83)
  rw [← hW0] at d3 d5
  have hbk : W0.heap[w.heap.size]? = some (.cells #[.pointer (some ⟨sb, 0, none⟩)] 83 (0, 0)) := by rw [hW0]; exact heap_alloc_new w _
  have b0 : W0.cell? ⟨w.heap.size, 0, none⟩ = some (.pointer (some ⟨sb, 0, none⟩)) := by rw [cell_of_row W0 w.heap.size 0 _ 83 (0, 0) hbk]; rfl
  have k3 : ∀ o, (W0.alloc o).cell? ⟨sb, 3, none⟩ = some (.slice ya yn yc) := fun o => alloc_cell d3 o
  have k5 : ∀ o, (W0.alloc o).cell? ⟨sb, 5, none⟩ = some (.slice oa on oc) := fun o => alloc_cell d5 o
  have k0 : ∀ o, (W0.alloc o).cell? ⟨w.heap.size, 0, none⟩ = some (.pointer (some ⟨sb, 0, none⟩)) := fun o => alloc_cell b0 o
  have l3 : ∀ o o', ((W0.alloc o).alloc o').cell? ⟨sb, 3, none⟩ = some (.slice ya yn yc) := fun o o' => alloc_cell (k3 o) o'
  have l5 : ∀ o o', ((W0.alloc o).alloc o').cell? ⟨sb, 5, none⟩ = some (.slice oa on oc) := fun o o' => alloc_cell (k5 o) o'
  have l0 : ∀ o o', ((W0.alloc o).alloc o').cell? ⟨w.heap.size, 0, none⟩ = some (.pointer (some ⟨sb, 0, none⟩)) := fun o o' => alloc_cell (k0 o) o'
  have hsW : W0.heap.size = w.heap.size + 1 := by rw [hW0]; simp
  have q0 : ¬ sb = w.heap.size := by omega
  have q1 : ¬ sb = W0.heap.size := by omega
  have q2 : ¬ sb = W0.heap.size + 1 := by omega
  have q3 : ¬ w.heap.size = sb := by omega
  have q4 : ¬ w.heap.size = W0.heap.size := by omega
  have q5 : ¬ w.heap.size = W0.heap.size + 1 := by omega
  have HsW := hide hsW
  have HF0 : Hid (Fr [] w W0) := by rw [hW0]; exact Fr.of_below ((Below.refl _ _).alloc (Nat.le_refl _) _)
  have Hbk := hide hbk
  clear hs hsW hbk h3 h5 h6 h7 hf5 hf6
  go_enter Try.func42, Try.ntmps42
  go_upto_region 1 with fail
  rw [← hW0]
  clear hW0
  go_region
  · have e1 : Fr [] w ((W0.alloc (.cells #[.slice ya yn yc] 49)).alloc (.cells #[.slice oa on oc] 49)).drew := ((unhide HF0).trans ((Fr.of_below ((Below.refl _ _).alloc (Nat.le_refl _) _)).trans (Fr.of_below ((Below.refl _ _).alloc (Nat.le_refl _) _)))).drew
    have s1 : (W0.alloc (.cells #[.slice ya yn yc] 49)).heap.size = W0.heap.size + 1 := by simp
    have e2 : ((W0.alloc (.cells #[.slice ya yn yc] 49)).alloc (.cells #[.slice oa on oc] 49)).drew.heap[w.heap.size]? = some (.cells #[.pointer (some ⟨sb, 0, none⟩)] 83 (0, 0)) := by
      show ((W0.alloc _).alloc _).heap[w.heap.size]? = _
      have := unhide HsW
      rw [Below.heap_alloc _ _ _ (by simp; omega), Below.heap_alloc _ _ _ (by omega)]; exact unhide Hbk
    have e3 : ((W0.alloc (.cells #[.slice ya yn yc] 49)).alloc (.cells #[.slice oa on oc] 49)).drew.heap[W0.heap.size]? = some (.cells #[.slice ya yn yc] 49 (0, 0)) := by
      show ((W0.alloc _).alloc _).heap[W0.heap.size]? = _
      rw [Below.heap_alloc _ _ _ (by simp)]; exact heap_alloc_new W0 _
    have e4 : ((W0.alloc (.cells #[.slice ya yn yc] 49)).alloc (.cells #[.slice oa on oc] 49)).drew.heap[W0.heap.size + 1]? = some (.cells #[.slice oa on oc] 49 (0, 0)) := by
      show ((W0.alloc _).alloc _).heap[W0.heap.size + 1]? = _
      rw [← s1]; exact heap_alloc_new _ _
    have i1 : w.heap.size ≤ W0.heap.size := by have := unhide HsW; omega
    have i2 : w.heap.size ≤ W0.heap.size + 1 := by omega
    generalize ((W0.alloc (.cells #[.slice ya yn yc] 49)).alloc (.cells #[.slice oa on oc] 49)).drew = W1 at *
    generalize hyb' : W0.heap.size = yb at *
    generalize hzb' : yb + 1 = zb at *
    clear hyb' hzb' s1 HF0 HsW Hbk k3 k5 k0 l3 l5 l0 d3 d5 b0 q1 q2 q4 q5
    obtain ⟨g5, g6, g7, gf5, gf6⟩ := unhide Hc
    have hs := unhide Hs
    have hsW1 : W1.heap[sb]? = w.heap[sb]? := e1.block sb hs (by simp)
    have c5 : W1.cell? ⟨sb, 5, none⟩ = some (.slice oa on oc) := by rw [World.cell?_of_block (w := w) hsW1]; exact g5
    have c6 : W1.cell? ⟨sb, 6, none⟩ = some (.int .i64 (ow : Int)) := by rw [World.cell?_of_block (w := w) hsW1]; exact g6
    have c7 : W1.cell? ⟨sb, 7, none⟩ = some (.slice za zn zc) := by rw [World.cell?_of_block (w := w) hsW1]; exact g7
    have f5 : W1.frozen? ⟨sb, 5, none⟩ = false := by rw [World.frozen?_of_block (w := w) hsW1]; exact gf5
    have f6 : W1.frozen? ⟨sb, 6, none⟩ = false := by rw [World.frozen?_of_block (w := w) hsW1]; exact gf6
    have b1 : W1.cell? ⟨w.heap.size, 0, none⟩ = some (.pointer (some ⟨sb, 0, none⟩)) := by rw [cell_of_row W1 _ 0 _ 83 (0, 0) e2]; rfl
    have HC := hide (fun q => unhide HS w.heap.size yb zb W1 q e1 e2 e3 e4 (Nat.le_refl _) i1 i2)
    clear g5 g6 g7 gf5 gf6 hs hsW1 HS e1 e2 e3 e4 i1 i2 Hc Hs
    go_wp2_with fail
    go_region
    all_goals
      go_wp2_with fail
      refine (unhide HC 1).mono ?_
      rintro e w3 ⟨rfl, hr3⟩
      obtain ⟨W, r1, r2, r3, r4, ⟨u, r5⟩, r6, r7⟩ := unhide HR _ _ _ hr3
      have HJ := hide r7
      clear r7 hr3 HR HC c5 c6 c7 f5 f6 b1
      go_wp2_with fail
      go_region
      all_goals
        go_end0
        exact ⟨rfl, unhide HJ 1⟩
  · have e1 : Fr [] w ((W0.alloc (.cells #[.slice oa on oc] 49)).alloc (.cells #[.slice ya yn yc] 49)).drew := ((unhide HF0).trans ((Fr.of_below ((Below.refl _ _).alloc (Nat.le_refl _) _)).trans (Fr.of_below ((Below.refl _ _).alloc (Nat.le_refl _) _)))).drew
    have s1 : (W0.alloc (.cells #[.slice oa on oc] 49)).heap.size = W0.heap.size + 1 := by simp
    have e2 : ((W0.alloc (.cells #[.slice oa on oc] 49)).alloc (.cells #[.slice ya yn yc] 49)).drew.heap[w.heap.size]? = some (.cells #[.pointer (some ⟨sb, 0, none⟩)] 83 (0, 0)) := by
      show ((W0.alloc _).alloc _).heap[w.heap.size]? = _
      have := unhide HsW
      rw [Below.heap_alloc _ _ _ (by simp; omega), Below.heap_alloc _ _ _ (by omega)]; exact unhide Hbk
    have e4 : ((W0.alloc (.cells #[.slice oa on oc] 49)).alloc (.cells #[.slice ya yn yc] 49)).drew.heap[W0.heap.size]? = some (.cells #[.slice oa on oc] 49 (0, 0)) := by
      show ((W0.alloc _).alloc _).heap[W0.heap.size]? = _
      rw [Below.heap_alloc _ _ _ (by simp)]; exact heap_alloc_new W0 _
    have e3 : ((W0.alloc (.cells #[.slice oa on oc] 49)).alloc (.cells #[.slice ya yn yc] 49)).drew.heap[W0.heap.size + 1]? = some (.cells #[.slice ya yn yc] 49 (0, 0)) := by
      show ((W0.alloc _).alloc _).heap[W0.heap.size + 1]? = _
      rw [← s1]; exact heap_alloc_new _ _
    have i1 : w.heap.size ≤ W0.heap.size + 1 := by have := unhide HsW; omega
    have i2 : w.heap.size ≤ W0.heap.size := by have := unhide HsW; omega
    generalize ((W0.alloc (.cells #[.slice oa on oc] 49)).alloc (.cells #[.slice ya yn yc] 49)).drew = W1 at *
    generalize hzb' : W0.heap.size = zb at *
    generalize hyb' : zb + 1 = yb at *
    clear hyb' hzb' s1 HF0 HsW Hbk k3 k5 k0 l3 l5 l0 d3 d5 b0 q1 q2 q4 q5
    obtain ⟨g5, g6, g7, gf5, gf6⟩ := unhide Hc
    have hs := unhide Hs
    have hsW1 : W1.heap[sb]? = w.heap[sb]? := e1.block sb hs (by simp)
    have c5 : W1.cell? ⟨sb, 5, none⟩ = some (.slice oa on oc) := by rw [World.cell?_of_block (w := w) hsW1]; exact g5
    have c6 : W1.cell? ⟨sb, 6, none⟩ = some (.int .i64 (ow : Int)) := by rw [World.cell?_of_block (w := w) hsW1]; exact g6
    have c7 : W1.cell? ⟨sb, 7, none⟩ = some (.slice za zn zc) := by rw [World.cell?_of_block (w := w) hsW1]; exact g7
    have f5 : W1.frozen? ⟨sb, 5, none⟩ = false := by rw [World.frozen?_of_block (w := w) hsW1]; exact gf5
    have f6 : W1.frozen? ⟨sb, 6, none⟩ = false := by rw [World.frozen?_of_block (w := w) hsW1]; exact gf6
    have b1 : W1.cell? ⟨w.heap.size, 0, none⟩ = some (.pointer (some ⟨sb, 0, none⟩)) := by rw [cell_of_row W1 _ 0 _ 83 (0, 0) e2]; rfl
    have HC := hide (fun q => unhide HS w.heap.size yb zb W1 q e1 e2 e3 e4 (Nat.le_refl _) i1 i2)
    clear g5 g6 g7 gf5 gf6 hs hsW1 HS e1 e2 e3 e4 i1 i2 Hc Hs
    go_wp2_with fail
    go_region
    all_goals
      go_wp2_with fail
      refine (unhide HC 1).mono ?_
      rintro e w3 ⟨rfl, hr3⟩
      obtain ⟨W, r1, r2, r3, r4, ⟨u, r5⟩, r6, r7⟩ := unhide HR _ _ _ hr3
      have HJ := hide r7
      clear r7 hr3 HR HC c5 c6 c7 f5 f6 b1
      go_wp2_with fail
      go_region
      all_goals
        go_end0
        exact ⟨rfl, unhide HJ 1⟩
end Rs
end Go.Proofs.Ytaapakpanbfmlaa
