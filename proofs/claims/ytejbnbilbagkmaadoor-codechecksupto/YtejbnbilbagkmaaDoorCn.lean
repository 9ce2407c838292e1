/-
  CodeChecks: the program's called.
-/
import Derived.Test.YtejbnbilbagkmaaDoorCm
namespace Go.Proofs.YtejbnbilbagkmaaDoor.Ck
open Go.RowKit Kn
set_option linter.unusedVariables false
set_option linter.unusedSimpArgs false

def calP (P : List K) (op : Nat) (i : Int) : Bool := (fmt P i).right && !decide ((fmt P i).name = clinitB) && (!decide ((fmt P i).name = initB) || decide (op = 183))

set_option maxRecDepth 100000 in
set_option maxHeartbeats 2000000 in
theorem called_any (c : Cw.V) (cb mb : Nat) (pv : Value) (P : List K) (w : World) (ho : c.g.op < 256) (h : Ch w cb mb pv P) (hP : P.length ≤ 1048576) (hS : Small P) :
    Calls Tryd.prog 44 #[.pointer (some ⟨cb, 0, none⟩), .agg c.arr] w fun e w' => e = .returned (.bool (calP P c.g.op c.g.a)) ∧ Bx mb w w' ∧ Ch w' cb mb pv P := by
  have hbx := (Below.refl w.heap.size w).alloc (Nat.le_refl _) (.cells c.arr 50)
  have hX := Bk.new w c.arr 50
  have hC0 := h.below hbx
  have HM := hide (fun (W : World) (hW : Ch W cb mb pv P) => method_any cb mb pv P c.g.a W hW hP hS)
  obtain ⟨r, hr⟩ : ∃ r, r = calP P c.g.op c.g.a := ⟨_, rfl⟩
  rw [← hr]
  unfold calP at hr
  obtain ⟨⟨at_, op, wide, a, b, low, keys, tgts⟩, kv, tv⟩ := c
  unfold Cw.V.arr at *
  simp only at *
  obtain ⟨m, hm⟩ : ∃ m, m = fmt P a := ⟨_, rfl⟩
  rw [← hm] at hr HM
  obtain ⟨nm, sl, rt⟩ := m
  unfold Mt.val at HM
  simp only at hr HM
  clear hm
  obtain ⟨nb, hnb⟩ : ∃ nb : ByteArray, nb = ⟨nm.toArray⟩ := ⟨_, rfl⟩
  obtain ⟨Q1, hQ1⟩ : ∃ q, q = decide (nm = clinitB) := ⟨_, rfl⟩
  obtain ⟨Q2, hQ2⟩ : ∃ q, q = decide (nm = initB) := ⟨_, rfl⟩
  obtain ⟨O3, hO3⟩ : ∃ q, q = decide (op = 183) := ⟨_, rfl⟩
  have q1 : (nb.toList == [60, 99, 108, 105, 110, 105, 116, 62]) = Q1 := by rw [hnb, hQ1, Lib.toList_data, data_of]; unfold clinitB; rw [Bool.eq_iff_iff, beq_iff_eq, decide_eq_true_iff]
  have q2 : (nb.toList == [60, 105, 110, 105, 116, 62]) = Q2 := by rw [hnb, hQ2, Lib.toList_data, data_of]; unfold initB; rw [Bool.eq_iff_iff, beq_iff_eq, decide_eq_true_iff]
  have q3 : ((op : Int) == 183) = O3 := by rw [hO3, Bool.eq_iff_iff]; simp; omega
  rw [← hnb] at HM
  rw [← hQ1, ← hQ2, ← hO3] at hr
  have Hr := hide hr
  clear hr hQ1 hQ2 hO3 hnb
  go_enter Tryd.func44, Tryd.ntmps44
  go_wp2_with fail
  generalize w.alloc (.cells #[.int .i64 at_, .int .u8 (op : Int), .bool wide, .int .i64 a, .int .i64 b, .int .i64 low, kv, tv] 50) = w1 at *
  refine (unhide HM _ hC0).mono ?_
  rintro e w2 ⟨rfl, hb2, hC2⟩
  have hne := hC0.mp.ne (hX.cell 0)
  have hX2 : Bk w2 w.heap.size #[.int .i64 at_, .int .u8 (op : Int), .bool wide, .int .i64 a, .int .i64 b, .int .i64 low, kv, tv] 50 := by unfold Bk at hX ⊢; rw [hb2.block _ (Array.getElem?_eq_some_iff.1 hX).1 hne]; exact hX
  have hbm := (Below.refl w2.heap.size w2).alloc (Nat.le_refl _) (.cells #[.string nb, .int .i64 (sl : Int), .bool rt] 68)
  have hX3 := hX2.below hbm
  have hT3 := Bk.new w2 #[.string nb, .int .i64 (sl : Int), .bool rt] 68
  have hC3 := hC2.below hbm
  have hx3 := ((Bx.of (mb := mb) hbx).trans hb2).trans (Bx.of hbm)
  have o1 := hX3.cell 1
  have HC3 := hide hC3
  have Hx3 := hide hx3
  clear hC0 hC2 hbx hb2 hne hX hX2 hbm hC3 hx3 HM
  cases rt <;> cases Q1 <;> cases Q2 <;> cases O3
  all_goals
    have e : r = _ := unhide Hr
    have He := hide e
    clear e Hr
    go_wp2
    first
    | (go_ret
       exact ⟨by rw [unhide He]; rfl, unhide Hx3, unhide HC3⟩)
    | (go_region
       all_goals
         go_wp2
         go_ret
         exact ⟨by rw [unhide He]; rfl, unhide Hx3, unhide HC3⟩)
end Go.Proofs.YtejbnbilbagkmaaDoor.Ck
