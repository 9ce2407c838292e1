/-
  What stands behind an instruction's number: within, narrowKind, kindOf, layoutOf.
-/
import Derived.Test.YtpmonoenppfekabDoorOper
namespace Go.Proofs.YtpmonoenppfekabDoor
open Go.RowKit
set_option maxHeartbeats 400000 in
theorem within_any (op lo hi : Int) (w : World) :
    Calls Tryd.prog 68 #[.int .u8 op, .int .u8 lo, .int .u8 hi] w fun e w' => e = .returned (.bool (decide (lo ≤ op ∧ op ≤ hi))) ∧ w' = w := by
  by_cases h1 : lo ≤ op
  · have hd : decide (lo ≤ op ∧ op ≤ hi) = decide (op ≤ hi) := by rw [Bool.eq_iff_iff]; simp [h1]
    rw [hd]; clear hd
    go_enter Tryd.func68, Tryd.ntmps68
    go_wp2
    all_goals go_ret
    all_goals exact ⟨rfl, rfl⟩
  · have hd : decide (lo ≤ op ∧ op ≤ hi) = false := by rw [decide_eq_false_iff_not]; omega
    rw [hd]
    have h1' : op < lo := by omega
    clear h1 hd
    go_enter Tryd.func68, Tryd.ntmps68
    go_wp2
    all_goals go_ret
    all_goals exact ⟨rfl, rfl⟩
set_option linter.unusedSimpArgs false in
set_option maxHeartbeats 4000000 in
theorem narrowKind_any (op : Nat) (w : World) (ho : op < 256) :
    Calls Tryd.prog 84 #[.int .u8 (op : Int)] w fun e w' => e = .returned (.int .i64 (M.kind op : Nat)) ∧ w' = w := by
  obtain ⟨k, hk⟩ : ∃ k, k = M.kind op := ⟨_, rfl⟩
  have Hk := hide hk
  rw [← hk]
  clear hk
  go_enter Tryd.func84, Tryd.ntmps84
  go_wp2_with (go_at_call 68; refine (within_any _ _ _ _).mono ?_; rintro e w' ⟨rfl, hww⟩; subst w')
  all_goals
    simp only [beq_iff_eq, beq_eq_false_iff_ne, ne_eq, decide_eq_true_eq, decide_eq_false_iff_not] at *
    go_ret
    refine ⟨?_, rfl⟩
    rw [unhide Hk]
    unfold M.kind
    repeat first | rw [if_neg (by omega)] | rw [if_pos (by omega)]
    rfl
set_option maxHeartbeats 400000 in
theorem kindOf_any (op : Nat) (b : Bool) (w : World) (ho : op < 256) :
    Calls Tryd.prog 52 #[.int .u8 (op : Int), .bool b] w fun e w' => e = .returned (.int .i64 (M.kindW op b : Nat)) ∧ w' = w := by
  have Hc := hide (fun w => narrowKind_any op w ho)
  unfold M.kindW
  obtain ⟨k, hk⟩ : ∃ k, k = M.kind op := ⟨_, rfl⟩
  rw [← hk] at Hc ⊢
  clear hk
  cases b
  · go_enter Tryd.func52, Tryd.ntmps52
    go_wp2_with fail
    refine (unhide Hc _).mono ?_
    rintro e w' ⟨rfl, hww⟩
    subst w'
    go_wp2
    go_ret
    exact ⟨rfl, rfl⟩
  · by_cases h6 : k = 6
    · subst h6
      go_enter Tryd.func52, Tryd.ntmps52
      go_wp2_with fail
      refine (unhide Hc _).mono ?_
      rintro e w' ⟨rfl, hww⟩
      subst w'
      go_wp2
      go_ret
      exact ⟨rfl, rfl⟩
    · by_cases h8 : k = 8
      · subst h8
        go_enter Tryd.func52, Tryd.ntmps52
        go_wp2_with fail
        refine (unhide Hc _).mono ?_
        rintro e w' ⟨rfl, hww⟩
        subst w'
        go_wp2
        go_ret
        exact ⟨rfl, rfl⟩
      · have d6 : ((k : Int) == 6) = false := by rw [beq_eq_false_iff_ne]; omega
        have d8 : ((k : Int) == 8) = false := by rw [beq_eq_false_iff_ne]; omega
        simp only [if_true, if_neg h6, if_neg h8]
        go_enter Tryd.func52, Tryd.ntmps52
        go_wp2_with fail
        refine (unhide Hc _).mono ?_
        rintro e w' ⟨rfl, hww⟩
        subst w'
        go_wp2
        go_ret
        exact ⟨rfl, rfl⟩
/-- The package-level variable word. -/
def Wd (w : World) : Prop := w.cell? ⟨0, 0, none⟩ = some (.int .i64 4) ∧ w.cell? ⟨0, 1, none⟩ = some (.int .i64 (-2147483648)) ∧ w.cell? ⟨0, 2, none⟩ = some (.int .i64 2147483647)
def Lay.val (L : Lay) : Value := .agg #[.int .i64 (L.a.size : Int), .int .i64 L.a.low, .int .i64 L.a.high, .int .i64 (L.b.size : Int), .int .i64 L.b.low, .int .i64 L.b.high, .int .i64 (L.z.size : Int), .int .i64 L.z.low, .int .i64 L.z.high, .int .i64 (L.t.size : Int), .int .i64 L.t.low, .int .i64 L.t.high]
theorem cell_lt {w : World} {a : Addr} {v : Value} (h : w.cell? a = some v) : a.block < w.heap.size := by
  rcases Nat.lt_or_ge a.block w.heap.size with g | g
  · exact g
  · unfold World.cell? at h; rw [Array.getElem?_eq_none g] at h; simp at h
theorem Wd.lt {w : World} (h : Wd w) : 0 < w.heap.size := cell_lt h.1
theorem Wd.kept {w w' : World} {row : Option Nat} (h : Wd w) (hg : w.grownBy w' row) (hr : some 0 ≠ row) : Wd w' := by
  have hb := hg.block 0 h.lt hr
  obtain ⟨h0, h1, h2⟩ := h
  unfold World.cell? at h0 h1 h2
  unfold Wd World.cell?
  rw [hb]
  exact ⟨h0, h1, h2⟩
theorem Wd.below {w w' : World} (h : Wd w) (hb : Below w.heap.size w w') : Wd w' := h.kept (grown_of_below hb none) (by simp)
theorem Wd.alloc {w : World} (h : Wd w) (o : Obj) : Wd (w.alloc o) := h.kept (World.grownBy_alloc w o none) (by simp)
theorem Wd.drew {w : World} (h : Wd w) : Wd w.drew := h
set_option maxHeartbeats 1000000 in
theorem layoutOf_any (k : Nat) (w : World) (hw : Wd w) :
    Calls Tryd.prog 57 #[.int .i64 (k : Int)] w fun e w' => e = .returned (M.layOf k).val ∧ Below w.heap.size w w' := by
  have hz := hw.lt
  obtain ⟨w0, w1, w2⟩ := hw
  rcases (show k = 2 ∨ k = 3 ∨ k = 4 ∨ k = 5 ∨ k = 6 ∨ k = 7 ∨ k = 8 ∨ k = 9 ∨ k = 10 ∨ k = 11 ∨ k = 12 ∨ k = 13 ∨ k = 14 ∨ (k < 2 ∨ 14 < k) by omega) with rfl | rfl | rfl | rfl | rfl | rfl | rfl | rfl | rfl | rfl | rfl | rfl | rfl | h
  iterate 13
    · go_enter Tryd.func57, Tryd.ntmps57
      go_wp2
      refine bodyPost_ret (results_cell_row Tryd.results57 _ _ w.heap.size 94 _ (0, 0) _ rfl (heap_alloc_new _ _) Tryd.underlying94 rfl (by kernel_rfl)) rfl ?_
      exact ⟨rfl, (Below.refl _ _).alloc (Nat.le_refl _) _⟩
  have f2 : ((k : Int) == 2) = false := by rw [beq_eq_false_iff_ne]; omega
  have f3 : ((k : Int) == 3) = false := by rw [beq_eq_false_iff_ne]; omega
  have f4 : ((k : Int) == 4) = false := by rw [beq_eq_false_iff_ne]; omega
  have f5 : ((k : Int) == 5) = false := by rw [beq_eq_false_iff_ne]; omega
  have f6 : ((k : Int) == 6) = false := by rw [beq_eq_false_iff_ne]; omega
  have f7 : ((k : Int) == 7) = false := by rw [beq_eq_false_iff_ne]; omega
  have f8 : ((k : Int) == 8) = false := by rw [beq_eq_false_iff_ne]; omega
  have f9 : ((k : Int) == 9) = false := by rw [beq_eq_false_iff_ne]; omega
  have f10 : ((k : Int) == 10) = false := by rw [beq_eq_false_iff_ne]; omega
  have f11 : ((k : Int) == 11) = false := by rw [beq_eq_false_iff_ne]; omega
  have f12 : ((k : Int) == 12) = false := by rw [beq_eq_false_iff_ne]; omega
  have f13 : ((k : Int) == 13) = false := by rw [beq_eq_false_iff_ne]; omega
  have f14 : ((k : Int) == 14) = false := by rw [beq_eq_false_iff_ne]; omega
  have hl : M.layOf k = ⟨M.f0, M.f0, M.f0, M.f0⟩ := by
    unfold M.layOf; repeat rw [if_neg (by omega)]
  rw [hl]
  clear h hl
  go_enter Tryd.func57, Tryd.ntmps57
  go_wp2
  refine bodyPost_ret (results_cell_row Tryd.results57 _ _ w.heap.size 94 _ (0, 0) _ rfl (heap_alloc_new _ _) Tryd.underlying94 rfl (by kernel_rfl)) rfl ?_
  exact ⟨rfl, (Below.refl _ _).alloc (Nat.le_refl _) _⟩
end Go.Proofs.YtpmonoenppfekabDoor
