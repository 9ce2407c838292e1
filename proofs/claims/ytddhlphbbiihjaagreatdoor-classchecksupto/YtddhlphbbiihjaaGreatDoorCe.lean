/-
  CodeChecks: the reference's operand.
-/
import Derived.Test.YtddhlphbbiihjaaGreatDoorMgCn
set_option linter.unusedVariables false
set_option linter.unusedSimpArgs false
namespace Go.Proofs.YtddhlphbbiihjaaGreatDoor.Ck
open Go.RowKit Kn

/-- May its operand be, by the pool? -/
def opdB (P : List K) (op : Nat) (a b : Int) : Bool :=
  if op = 18 ∨ op = 19 then decide (M.tag P a = 3) || decide (M.tag P a = 4) || decide (M.tag P a = 8)
  else if op = 20 then decide (M.tag P a = 5) || decide (M.tag P a = 6)
  else if 178 ≤ op ∧ op ≤ 181 then decide (M.tag P a = 9)
  else if 182 ≤ op ∧ op ≤ 184 then decide (M.tag P a = 10) && calB P op a b
  else if op = 185 then decide (M.tag P a = 11) && calB P op a b
  else if op = 187 then decide (M.tag P a = 7) && decide (dims (M.cls P a) = 0)
  else if op = 189 then decide (M.tag P a = 7) && decide (dims (M.cls P a) < 255)
  else if op = 192 ∨ op = 193 then decide (M.tag P a = 7)
  else if op = 197 then decide (M.tag P a = 7) && decide (b ≤ (dims (M.cls P a) : Int))
  else true

/-- What the reference's operand finds ahead of its switch. -/
structure Opd (c : Cw.V) (v : Value) (P : List K) (w : World) : Prop where
  hk : KIn w v P
  hp : P.length ≤ 1048576
  hs : Small P
  ho : c.g.op < 256
set_option maxRecDepth 100000 in
set_option maxHeartbeats 2000000 in
theorem operand_18_in (c : Cw.V) (v : Value) (P : List K) (w : World) (H : Opd c v P w) (hop : c.g.op = 18) (hin : 0 < c.g.a ∧ c.g.a < (P.length : Int)) :
    Calls Tryz.prog 97 #[.agg c.arr, v] w fun e w' => e = .returned (.bool (opdB P 18 c.g.a c.g.b)) ∧ Below w.heap.size w w' := by
  obtain ⟨h, hP, hS, ho⟩ := H
  have hbx := (Below.refl w.heap.size w).alloc (Nat.le_refl _) (.cells c.arr 112)
  have hk0 := h.below hbx
  have HC := hide (fun (w : World) (h : KIn w v P) => Kn.ClassOf_any v P c.g.a w h hP)
  have hcl := hS.cls c.g.a
  obtain ⟨r, hr⟩ : ∃ r, r = opdB P 18 c.g.a c.g.b := ⟨_, rfl⟩
  rw [← hr]
  unfold opdB at hr
  simp only [Nat.reduceEqDiff, Nat.reduceLeDiff, or_false, false_or, or_self, and_self, and_true, true_and, and_false, false_and, if_true, if_false, reduceIte] at hr
  obtain ⟨⟨at_, op, wide, a, b, low, keys, tgts⟩, kv, tv⟩ := c
  unfold Cw.V.arr at *
  simp only at *
  subst hop
  simp only [show ((18 : Nat) : Int) = 18 from rfl] at *
  obtain ⟨ka, rfl⟩ : ∃ k : Nat, a = (k : Int) := ⟨a.toNat, by omega⟩
  have ka0 : 0 < ka := by omega
  have kal : ka < P.length := by omega
  obtain ⟨bb, oo, cap, rfl⟩ := h.form (by intro e; subst e; simp at kal)
  obtain ⟨c0, _, _, _, _⟩ := hk0.at kal
  have htg : (P.getD ka K.zero).tag = M.tag P (ka : Int) := by unfold M.tag; rw [kAt_in ka0 kal]
  rw [htg] at c0
  have i1 : ¬ (ka : Int) ≤ 0 := by omega
  have i2 : (0 : Int) < (ka : Int) := by omega
  have i3 : (ka : Int) < (P.length : Int) := by omega
  obtain ⟨tg, htgg⟩ : ∃ t, t = M.tag P (ka : Int) := ⟨_, rfl⟩
  rw [← htgg] at c0 hr
  have htl : tg < 256 := by rw [htgg]; exact (h.at_fit (ka : Int)).1
  have t3 : ((tg : Int) == 3) = decide (tg = 3) := by rw [Bool.eq_iff_iff]; simp <;> omega
  have t4 : ((tg : Int) == 4) = decide (tg = 4) := by rw [Bool.eq_iff_iff]; simp <;> omega
  have t8 : ((tg : Int) == 8) = decide (tg = 8) := by rw [Bool.eq_iff_iff]; simp <;> omega
  have Hr := hide hr
  clear hr htgg htg h hcl ho hin
  by_cases e3 : tg = 3 <;> by_cases e4 : tg = 4 <;> by_cases e8 : tg = 8
  all_goals try (exfalso; omega)
  all_goals
    first | rw [decide_eq_true e3] at t3 | rw [decide_eq_false e3] at t3
    first | rw [decide_eq_true e4] at t4 | rw [decide_eq_false e4] at t4
    first | rw [decide_eq_true e8] at t8 | rw [decide_eq_false e8] at t8
    go_enter Tryz.func97, Tryz.ntmps97
    go_wp2_with fail
    refine (unhide HC _ hk0).mono ?_
    rintro e w2 ⟨⟨x, rfl⟩, hw⟩
    subst hw
    go_wp2
    go_ret
    exact ⟨by rw [unhide Hr]; simp [e3, e4, e8] <;> first | rfl | omega, hbx⟩

set_option maxRecDepth 100000 in
set_option maxHeartbeats 2000000 in
theorem operand_18_out (c : Cw.V) (v : Value) (P : List K) (w : World) (H : Opd c v P w) (hop : c.g.op = 18) (hin : ¬ (0 < c.g.a ∧ c.g.a < (P.length : Int))) :
    Calls Tryz.prog 97 #[.agg c.arr, v] w fun e w' => e = .returned (.bool (opdB P 18 c.g.a c.g.b)) ∧ Below w.heap.size w w' := by
  obtain ⟨h, hP, hS, ho⟩ := H
  have hbx := (Below.refl w.heap.size w).alloc (Nat.le_refl _) (.cells c.arr 112)
  have hk0 := h.below hbx
  have HC := hide (fun (w : World) (h : KIn w v P) => Kn.ClassOf_any v P c.g.a w h hP)
  have hcl := hS.cls c.g.a
  obtain ⟨r, hr⟩ : ∃ r, r = opdB P 18 c.g.a c.g.b := ⟨_, rfl⟩
  rw [← hr]
  unfold opdB at hr
  simp only [Nat.reduceEqDiff, Nat.reduceLeDiff, or_false, false_or, or_self, and_self, and_true, true_and, and_false, false_and, if_true, if_false, reduceIte] at hr
  obtain ⟨⟨at_, op, wide, a, b, low, keys, tgts⟩, kv, tv⟩ := c
  unfold Cw.V.arr at *
  simp only at *
  subst hop
  simp only [show ((18 : Nat) : Int) = 18 from rfl] at *
  have htg : M.tag P a = 0 := by unfold M.tag; rw [kAt_out hin]; rfl
  obtain ⟨ad, cap, e, _⟩ := h.ex
  subst e
  rw [htg] at hr
  have Hr := hide hr
  clear hr h hcl ho
  by_cases ha0 : 0 < a
  · have ha1 : ¬ a < (P.length : Int) := by omega
    clear hin
    go_enter Tryz.func97, Tryz.ntmps97
    go_wp2_with fail
    refine (unhide HC _ hk0).mono ?_
    rintro e w2 ⟨⟨x, rfl⟩, hw⟩
    subst hw
    go_wp2
    go_ret
    exact ⟨by rw [unhide Hr]; first | rfl | simp, hbx⟩
  · clear hin
    go_enter Tryz.func97, Tryz.ntmps97
    go_wp2_with fail
    refine (unhide HC _ hk0).mono ?_
    rintro e w2 ⟨⟨x, rfl⟩, hw⟩
    subst hw
    go_wp2
    go_ret
    exact ⟨by rw [unhide Hr]; first | rfl | simp, hbx⟩

set_option maxRecDepth 100000 in
set_option maxHeartbeats 2000000 in
theorem operand_19_in (c : Cw.V) (v : Value) (P : List K) (w : World) (H : Opd c v P w) (hop : c.g.op = 19) (hin : 0 < c.g.a ∧ c.g.a < (P.length : Int)) :
    Calls Tryz.prog 97 #[.agg c.arr, v] w fun e w' => e = .returned (.bool (opdB P 19 c.g.a c.g.b)) ∧ Below w.heap.size w w' := by
  obtain ⟨h, hP, hS, ho⟩ := H
  have hbx := (Below.refl w.heap.size w).alloc (Nat.le_refl _) (.cells c.arr 112)
  have hk0 := h.below hbx
  have HC := hide (fun (w : World) (h : KIn w v P) => Kn.ClassOf_any v P c.g.a w h hP)
  have hcl := hS.cls c.g.a
  obtain ⟨r, hr⟩ : ∃ r, r = opdB P 19 c.g.a c.g.b := ⟨_, rfl⟩
  rw [← hr]
  unfold opdB at hr
  simp only [Nat.reduceEqDiff, Nat.reduceLeDiff, or_false, false_or, or_self, and_self, and_true, true_and, and_false, false_and, if_true, if_false, reduceIte] at hr
  obtain ⟨⟨at_, op, wide, a, b, low, keys, tgts⟩, kv, tv⟩ := c
  unfold Cw.V.arr at *
  simp only at *
  subst hop
  simp only [show ((19 : Nat) : Int) = 19 from rfl] at *
  obtain ⟨ka, rfl⟩ : ∃ k : Nat, a = (k : Int) := ⟨a.toNat, by omega⟩
  have ka0 : 0 < ka := by omega
  have kal : ka < P.length := by omega
  obtain ⟨bb, oo, cap, rfl⟩ := h.form (by intro e; subst e; simp at kal)
  obtain ⟨c0, _, _, _, _⟩ := hk0.at kal
  have htg : (P.getD ka K.zero).tag = M.tag P (ka : Int) := by unfold M.tag; rw [kAt_in ka0 kal]
  rw [htg] at c0
  have i1 : ¬ (ka : Int) ≤ 0 := by omega
  have i2 : (0 : Int) < (ka : Int) := by omega
  have i3 : (ka : Int) < (P.length : Int) := by omega
  obtain ⟨tg, htgg⟩ : ∃ t, t = M.tag P (ka : Int) := ⟨_, rfl⟩
  rw [← htgg] at c0 hr
  have htl : tg < 256 := by rw [htgg]; exact (h.at_fit (ka : Int)).1
  have t3 : ((tg : Int) == 3) = decide (tg = 3) := by rw [Bool.eq_iff_iff]; simp <;> omega
  have t4 : ((tg : Int) == 4) = decide (tg = 4) := by rw [Bool.eq_iff_iff]; simp <;> omega
  have t8 : ((tg : Int) == 8) = decide (tg = 8) := by rw [Bool.eq_iff_iff]; simp <;> omega
  have Hr := hide hr
  clear hr htgg htg h hcl ho hin
  by_cases e3 : tg = 3 <;> by_cases e4 : tg = 4 <;> by_cases e8 : tg = 8
  all_goals try (exfalso; omega)
  all_goals
    first | rw [decide_eq_true e3] at t3 | rw [decide_eq_false e3] at t3
    first | rw [decide_eq_true e4] at t4 | rw [decide_eq_false e4] at t4
    first | rw [decide_eq_true e8] at t8 | rw [decide_eq_false e8] at t8
    go_enter Tryz.func97, Tryz.ntmps97
    go_wp2_with fail
    refine (unhide HC _ hk0).mono ?_
    rintro e w2 ⟨⟨x, rfl⟩, hw⟩
    subst hw
    go_wp2
    go_ret
    exact ⟨by rw [unhide Hr]; simp [e3, e4, e8] <;> first | rfl | omega, hbx⟩

set_option maxRecDepth 100000 in
set_option maxHeartbeats 2000000 in
theorem operand_19_out (c : Cw.V) (v : Value) (P : List K) (w : World) (H : Opd c v P w) (hop : c.g.op = 19) (hin : ¬ (0 < c.g.a ∧ c.g.a < (P.length : Int))) :
    Calls Tryz.prog 97 #[.agg c.arr, v] w fun e w' => e = .returned (.bool (opdB P 19 c.g.a c.g.b)) ∧ Below w.heap.size w w' := by
  obtain ⟨h, hP, hS, ho⟩ := H
  have hbx := (Below.refl w.heap.size w).alloc (Nat.le_refl _) (.cells c.arr 112)
  have hk0 := h.below hbx
  have HC := hide (fun (w : World) (h : KIn w v P) => Kn.ClassOf_any v P c.g.a w h hP)
  have hcl := hS.cls c.g.a
  obtain ⟨r, hr⟩ : ∃ r, r = opdB P 19 c.g.a c.g.b := ⟨_, rfl⟩
  rw [← hr]
  unfold opdB at hr
  simp only [Nat.reduceEqDiff, Nat.reduceLeDiff, or_false, false_or, or_self, and_self, and_true, true_and, and_false, false_and, if_true, if_false, reduceIte] at hr
  obtain ⟨⟨at_, op, wide, a, b, low, keys, tgts⟩, kv, tv⟩ := c
  unfold Cw.V.arr at *
  simp only at *
  subst hop
  simp only [show ((19 : Nat) : Int) = 19 from rfl] at *
  have htg : M.tag P a = 0 := by unfold M.tag; rw [kAt_out hin]; rfl
  obtain ⟨ad, cap, e, _⟩ := h.ex
  subst e
  rw [htg] at hr
  have Hr := hide hr
  clear hr h hcl ho
  by_cases ha0 : 0 < a
  · have ha1 : ¬ a < (P.length : Int) := by omega
    clear hin
    go_enter Tryz.func97, Tryz.ntmps97
    go_wp2_with fail
    refine (unhide HC _ hk0).mono ?_
    rintro e w2 ⟨⟨x, rfl⟩, hw⟩
    subst hw
    go_wp2
    go_ret
    exact ⟨by rw [unhide Hr]; first | rfl | simp, hbx⟩
  · clear hin
    go_enter Tryz.func97, Tryz.ntmps97
    go_wp2_with fail
    refine (unhide HC _ hk0).mono ?_
    rintro e w2 ⟨⟨x, rfl⟩, hw⟩
    subst hw
    go_wp2
    go_ret
    exact ⟨by rw [unhide Hr]; first | rfl | simp, hbx⟩

set_option maxRecDepth 100000 in
set_option maxHeartbeats 2000000 in
theorem operand_20_in (c : Cw.V) (v : Value) (P : List K) (w : World) (H : Opd c v P w) (hop : c.g.op = 20) (hin : 0 < c.g.a ∧ c.g.a < (P.length : Int)) :
    Calls Tryz.prog 97 #[.agg c.arr, v] w fun e w' => e = .returned (.bool (opdB P 20 c.g.a c.g.b)) ∧ Below w.heap.size w w' := by
  obtain ⟨h, hP, hS, ho⟩ := H
  have hbx := (Below.refl w.heap.size w).alloc (Nat.le_refl _) (.cells c.arr 112)
  have hk0 := h.below hbx
  have HC := hide (fun (w : World) (h : KIn w v P) => Kn.ClassOf_any v P c.g.a w h hP)
  have hcl := hS.cls c.g.a
  obtain ⟨r, hr⟩ : ∃ r, r = opdB P 20 c.g.a c.g.b := ⟨_, rfl⟩
  rw [← hr]
  unfold opdB at hr
  simp only [Nat.reduceEqDiff, Nat.reduceLeDiff, or_false, false_or, or_self, and_self, and_true, true_and, and_false, false_and, if_true, if_false, reduceIte] at hr
  obtain ⟨⟨at_, op, wide, a, b, low, keys, tgts⟩, kv, tv⟩ := c
  unfold Cw.V.arr at *
  simp only at *
  subst hop
  simp only [show ((20 : Nat) : Int) = 20 from rfl] at *
  obtain ⟨ka, rfl⟩ : ∃ k : Nat, a = (k : Int) := ⟨a.toNat, by omega⟩
  have ka0 : 0 < ka := by omega
  have kal : ka < P.length := by omega
  obtain ⟨bb, oo, cap, rfl⟩ := h.form (by intro e; subst e; simp at kal)
  obtain ⟨c0, _, _, _, _⟩ := hk0.at kal
  have htg : (P.getD ka K.zero).tag = M.tag P (ka : Int) := by unfold M.tag; rw [kAt_in ka0 kal]
  rw [htg] at c0
  have i1 : ¬ (ka : Int) ≤ 0 := by omega
  have i2 : (0 : Int) < (ka : Int) := by omega
  have i3 : (ka : Int) < (P.length : Int) := by omega
  obtain ⟨tg, htgg⟩ : ∃ t, t = M.tag P (ka : Int) := ⟨_, rfl⟩
  rw [← htgg] at c0 hr
  have htl : tg < 256 := by rw [htgg]; exact (h.at_fit (ka : Int)).1
  have t5 : ((tg : Int) == 5) = decide (tg = 5) := by rw [Bool.eq_iff_iff]; simp <;> omega
  have t6 : ((tg : Int) == 6) = decide (tg = 6) := by rw [Bool.eq_iff_iff]; simp <;> omega
  have Hr := hide hr
  clear hr htgg htg h hcl ho hin
  by_cases e5 : tg = 5 <;> by_cases e6 : tg = 6
  all_goals try (exfalso; omega)
  all_goals
    first | rw [decide_eq_true e5] at t5 | rw [decide_eq_false e5] at t5
    first | rw [decide_eq_true e6] at t6 | rw [decide_eq_false e6] at t6
    go_enter Tryz.func97, Tryz.ntmps97
    go_wp2_with fail
    refine (unhide HC _ hk0).mono ?_
    rintro e w2 ⟨⟨x, rfl⟩, hw⟩
    subst hw
    go_wp2
    go_ret
    exact ⟨by rw [unhide Hr]; simp [e5, e6] <;> first | rfl | omega, hbx⟩

set_option maxRecDepth 100000 in
set_option maxHeartbeats 2000000 in
theorem operand_20_out (c : Cw.V) (v : Value) (P : List K) (w : World) (H : Opd c v P w) (hop : c.g.op = 20) (hin : ¬ (0 < c.g.a ∧ c.g.a < (P.length : Int))) :
    Calls Tryz.prog 97 #[.agg c.arr, v] w fun e w' => e = .returned (.bool (opdB P 20 c.g.a c.g.b)) ∧ Below w.heap.size w w' := by
  obtain ⟨h, hP, hS, ho⟩ := H
  have hbx := (Below.refl w.heap.size w).alloc (Nat.le_refl _) (.cells c.arr 112)
  have hk0 := h.below hbx
  have HC := hide (fun (w : World) (h : KIn w v P) => Kn.ClassOf_any v P c.g.a w h hP)
  have hcl := hS.cls c.g.a
  obtain ⟨r, hr⟩ : ∃ r, r = opdB P 20 c.g.a c.g.b := ⟨_, rfl⟩
  rw [← hr]
  unfold opdB at hr
  simp only [Nat.reduceEqDiff, Nat.reduceLeDiff, or_false, false_or, or_self, and_self, and_true, true_and, and_false, false_and, if_true, if_false, reduceIte] at hr
  obtain ⟨⟨at_, op, wide, a, b, low, keys, tgts⟩, kv, tv⟩ := c
  unfold Cw.V.arr at *
  simp only at *
  subst hop
  simp only [show ((20 : Nat) : Int) = 20 from rfl] at *
  have htg : M.tag P a = 0 := by unfold M.tag; rw [kAt_out hin]; rfl
  obtain ⟨ad, cap, e, _⟩ := h.ex
  subst e
  rw [htg] at hr
  have Hr := hide hr
  clear hr h hcl ho
  by_cases ha0 : 0 < a
  · have ha1 : ¬ a < (P.length : Int) := by omega
    clear hin
    go_enter Tryz.func97, Tryz.ntmps97
    go_wp2_with fail
    refine (unhide HC _ hk0).mono ?_
    rintro e w2 ⟨⟨x, rfl⟩, hw⟩
    subst hw
    go_wp2
    go_ret
    exact ⟨by rw [unhide Hr]; first | rfl | simp, hbx⟩
  · clear hin
    go_enter Tryz.func97, Tryz.ntmps97
    go_wp2_with fail
    refine (unhide HC _ hk0).mono ?_
    rintro e w2 ⟨⟨x, rfl⟩, hw⟩
    subst hw
    go_wp2
    go_ret
    exact ⟨by rw [unhide Hr]; first | rfl | simp, hbx⟩

set_option maxRecDepth 100000 in
set_option maxHeartbeats 2000000 in
theorem operand_178_in (c : Cw.V) (v : Value) (P : List K) (w : World) (H : Opd c v P w) (hop : c.g.op = 178) (hin : 0 < c.g.a ∧ c.g.a < (P.length : Int)) :
    Calls Tryz.prog 97 #[.agg c.arr, v] w fun e w' => e = .returned (.bool (opdB P 178 c.g.a c.g.b)) ∧ Below w.heap.size w w' := by
  obtain ⟨h, hP, hS, ho⟩ := H
  have hbx := (Below.refl w.heap.size w).alloc (Nat.le_refl _) (.cells c.arr 112)
  have hk0 := h.below hbx
  have HC := hide (fun (w : World) (h : KIn w v P) => Kn.ClassOf_any v P c.g.a w h hP)
  have hcl := hS.cls c.g.a
  obtain ⟨r, hr⟩ : ∃ r, r = opdB P 178 c.g.a c.g.b := ⟨_, rfl⟩
  rw [← hr]
  unfold opdB at hr
  simp only [Nat.reduceEqDiff, Nat.reduceLeDiff, or_false, false_or, or_self, and_self, and_true, true_and, and_false, false_and, if_true, if_false, reduceIte] at hr
  obtain ⟨⟨at_, op, wide, a, b, low, keys, tgts⟩, kv, tv⟩ := c
  unfold Cw.V.arr at *
  simp only at *
  subst hop
  simp only [show ((178 : Nat) : Int) = 178 from rfl] at *
  obtain ⟨ka, rfl⟩ : ∃ k : Nat, a = (k : Int) := ⟨a.toNat, by omega⟩
  have ka0 : 0 < ka := by omega
  have kal : ka < P.length := by omega
  obtain ⟨bb, oo, cap, rfl⟩ := h.form (by intro e; subst e; simp at kal)
  obtain ⟨c0, _, _, _, _⟩ := hk0.at kal
  have htg : (P.getD ka K.zero).tag = M.tag P (ka : Int) := by unfold M.tag; rw [kAt_in ka0 kal]
  rw [htg] at c0
  have i1 : ¬ (ka : Int) ≤ 0 := by omega
  have i2 : (0 : Int) < (ka : Int) := by omega
  have i3 : (ka : Int) < (P.length : Int) := by omega
  obtain ⟨tg, htgg⟩ : ∃ t, t = M.tag P (ka : Int) := ⟨_, rfl⟩
  rw [← htgg] at c0 hr
  have htl : tg < 256 := by rw [htgg]; exact (h.at_fit (ka : Int)).1
  have t9 : ((tg : Int) == 9) = decide (tg = 9) := by rw [Bool.eq_iff_iff]; simp <;> omega
  have Hr := hide hr
  clear hr htgg htg h hcl ho hin
  by_cases e9 : tg = 9
  · rw [decide_eq_true e9] at t9
    go_enter Tryz.func97, Tryz.ntmps97
    go_wp2_with fail
    refine (unhide HC _ hk0).mono ?_
    rintro e w2 ⟨⟨x, rfl⟩, hw⟩
    subst hw
    go_wp2
    go_ret
    exact ⟨by rw [unhide Hr]; simp [e9] <;> rfl, hbx⟩
  · rw [decide_eq_false e9] at t9
    go_enter Tryz.func97, Tryz.ntmps97
    go_wp2_with fail
    refine (unhide HC _ hk0).mono ?_
    rintro e w2 ⟨⟨x, rfl⟩, hw⟩
    subst hw
    go_wp2
    go_ret
    exact ⟨by rw [unhide Hr]; simp [e9] <;> rfl, hbx⟩

set_option maxRecDepth 100000 in
set_option maxHeartbeats 2000000 in
theorem operand_178_out (c : Cw.V) (v : Value) (P : List K) (w : World) (H : Opd c v P w) (hop : c.g.op = 178) (hin : ¬ (0 < c.g.a ∧ c.g.a < (P.length : Int))) :
    Calls Tryz.prog 97 #[.agg c.arr, v] w fun e w' => e = .returned (.bool (opdB P 178 c.g.a c.g.b)) ∧ Below w.heap.size w w' := by
  obtain ⟨h, hP, hS, ho⟩ := H
  have hbx := (Below.refl w.heap.size w).alloc (Nat.le_refl _) (.cells c.arr 112)
  have hk0 := h.below hbx
  have HC := hide (fun (w : World) (h : KIn w v P) => Kn.ClassOf_any v P c.g.a w h hP)
  have hcl := hS.cls c.g.a
  obtain ⟨r, hr⟩ : ∃ r, r = opdB P 178 c.g.a c.g.b := ⟨_, rfl⟩
  rw [← hr]
  unfold opdB at hr
  simp only [Nat.reduceEqDiff, Nat.reduceLeDiff, or_false, false_or, or_self, and_self, and_true, true_and, and_false, false_and, if_true, if_false, reduceIte] at hr
  obtain ⟨⟨at_, op, wide, a, b, low, keys, tgts⟩, kv, tv⟩ := c
  unfold Cw.V.arr at *
  simp only at *
  subst hop
  simp only [show ((178 : Nat) : Int) = 178 from rfl] at *
  have htg : M.tag P a = 0 := by unfold M.tag; rw [kAt_out hin]; rfl
  obtain ⟨ad, cap, e, _⟩ := h.ex
  subst e
  rw [htg] at hr
  have Hr := hide hr
  clear hr h hcl ho
  by_cases ha0 : 0 < a
  · have ha1 : ¬ a < (P.length : Int) := by omega
    clear hin
    go_enter Tryz.func97, Tryz.ntmps97
    go_wp2_with fail
    refine (unhide HC _ hk0).mono ?_
    rintro e w2 ⟨⟨x, rfl⟩, hw⟩
    subst hw
    go_wp2
    go_ret
    exact ⟨by rw [unhide Hr]; first | rfl | simp, hbx⟩
  · clear hin
    go_enter Tryz.func97, Tryz.ntmps97
    go_wp2_with fail
    refine (unhide HC _ hk0).mono ?_
    rintro e w2 ⟨⟨x, rfl⟩, hw⟩
    subst hw
    go_wp2
    go_ret
    exact ⟨by rw [unhide Hr]; first | rfl | simp, hbx⟩

set_option maxRecDepth 100000 in
set_option maxHeartbeats 2000000 in
theorem operand_179_in (c : Cw.V) (v : Value) (P : List K) (w : World) (H : Opd c v P w) (hop : c.g.op = 179) (hin : 0 < c.g.a ∧ c.g.a < (P.length : Int)) :
    Calls Tryz.prog 97 #[.agg c.arr, v] w fun e w' => e = .returned (.bool (opdB P 179 c.g.a c.g.b)) ∧ Below w.heap.size w w' := by
  obtain ⟨h, hP, hS, ho⟩ := H
  have hbx := (Below.refl w.heap.size w).alloc (Nat.le_refl _) (.cells c.arr 112)
  have hk0 := h.below hbx
  have HC := hide (fun (w : World) (h : KIn w v P) => Kn.ClassOf_any v P c.g.a w h hP)
  have hcl := hS.cls c.g.a
  obtain ⟨r, hr⟩ : ∃ r, r = opdB P 179 c.g.a c.g.b := ⟨_, rfl⟩
  rw [← hr]
  unfold opdB at hr
  simp only [Nat.reduceEqDiff, Nat.reduceLeDiff, or_false, false_or, or_self, and_self, and_true, true_and, and_false, false_and, if_true, if_false, reduceIte] at hr
  obtain ⟨⟨at_, op, wide, a, b, low, keys, tgts⟩, kv, tv⟩ := c
  unfold Cw.V.arr at *
  simp only at *
  subst hop
  simp only [show ((179 : Nat) : Int) = 179 from rfl] at *
  obtain ⟨ka, rfl⟩ : ∃ k : Nat, a = (k : Int) := ⟨a.toNat, by omega⟩
  have ka0 : 0 < ka := by omega
  have kal : ka < P.length := by omega
  obtain ⟨bb, oo, cap, rfl⟩ := h.form (by intro e; subst e; simp at kal)
  obtain ⟨c0, _, _, _, _⟩ := hk0.at kal
  have htg : (P.getD ka K.zero).tag = M.tag P (ka : Int) := by unfold M.tag; rw [kAt_in ka0 kal]
  rw [htg] at c0
  have i1 : ¬ (ka : Int) ≤ 0 := by omega
  have i2 : (0 : Int) < (ka : Int) := by omega
  have i3 : (ka : Int) < (P.length : Int) := by omega
  obtain ⟨tg, htgg⟩ : ∃ t, t = M.tag P (ka : Int) := ⟨_, rfl⟩
  rw [← htgg] at c0 hr
  have htl : tg < 256 := by rw [htgg]; exact (h.at_fit (ka : Int)).1
  have t9 : ((tg : Int) == 9) = decide (tg = 9) := by rw [Bool.eq_iff_iff]; simp <;> omega
  have Hr := hide hr
  clear hr htgg htg h hcl ho hin
  by_cases e9 : tg = 9
  · rw [decide_eq_true e9] at t9
    go_enter Tryz.func97, Tryz.ntmps97
    go_wp2_with fail
    refine (unhide HC _ hk0).mono ?_
    rintro e w2 ⟨⟨x, rfl⟩, hw⟩
    subst hw
    go_wp2
    go_ret
    exact ⟨by rw [unhide Hr]; simp [e9] <;> rfl, hbx⟩
  · rw [decide_eq_false e9] at t9
    go_enter Tryz.func97, Tryz.ntmps97
    go_wp2_with fail
    refine (unhide HC _ hk0).mono ?_
    rintro e w2 ⟨⟨x, rfl⟩, hw⟩
    subst hw
    go_wp2
    go_ret
    exact ⟨by rw [unhide Hr]; simp [e9] <;> rfl, hbx⟩

set_option maxRecDepth 100000 in
set_option maxHeartbeats 2000000 in
theorem operand_179_out (c : Cw.V) (v : Value) (P : List K) (w : World) (H : Opd c v P w) (hop : c.g.op = 179) (hin : ¬ (0 < c.g.a ∧ c.g.a < (P.length : Int))) :
    Calls Tryz.prog 97 #[.agg c.arr, v] w fun e w' => e = .returned (.bool (opdB P 179 c.g.a c.g.b)) ∧ Below w.heap.size w w' := by
  obtain ⟨h, hP, hS, ho⟩ := H
  have hbx := (Below.refl w.heap.size w).alloc (Nat.le_refl _) (.cells c.arr 112)
  have hk0 := h.below hbx
  have HC := hide (fun (w : World) (h : KIn w v P) => Kn.ClassOf_any v P c.g.a w h hP)
  have hcl := hS.cls c.g.a
  obtain ⟨r, hr⟩ : ∃ r, r = opdB P 179 c.g.a c.g.b := ⟨_, rfl⟩
  rw [← hr]
  unfold opdB at hr
  simp only [Nat.reduceEqDiff, Nat.reduceLeDiff, or_false, false_or, or_self, and_self, and_true, true_and, and_false, false_and, if_true, if_false, reduceIte] at hr
  obtain ⟨⟨at_, op, wide, a, b, low, keys, tgts⟩, kv, tv⟩ := c
  unfold Cw.V.arr at *
  simp only at *
  subst hop
  simp only [show ((179 : Nat) : Int) = 179 from rfl] at *
  have htg : M.tag P a = 0 := by unfold M.tag; rw [kAt_out hin]; rfl
  obtain ⟨ad, cap, e, _⟩ := h.ex
  subst e
  rw [htg] at hr
  have Hr := hide hr
  clear hr h hcl ho
  by_cases ha0 : 0 < a
  · have ha1 : ¬ a < (P.length : Int) := by omega
    clear hin
    go_enter Tryz.func97, Tryz.ntmps97
    go_wp2_with fail
    refine (unhide HC _ hk0).mono ?_
    rintro e w2 ⟨⟨x, rfl⟩, hw⟩
    subst hw
    go_wp2
    go_ret
    exact ⟨by rw [unhide Hr]; first | rfl | simp, hbx⟩
  · clear hin
    go_enter Tryz.func97, Tryz.ntmps97
    go_wp2_with fail
    refine (unhide HC _ hk0).mono ?_
    rintro e w2 ⟨⟨x, rfl⟩, hw⟩
    subst hw
    go_wp2
    go_ret
    exact ⟨by rw [unhide Hr]; first | rfl | simp, hbx⟩

set_option maxRecDepth 100000 in
set_option maxHeartbeats 2000000 in
theorem operand_180_in (c : Cw.V) (v : Value) (P : List K) (w : World) (H : Opd c v P w) (hop : c.g.op = 180) (hin : 0 < c.g.a ∧ c.g.a < (P.length : Int)) :
    Calls Tryz.prog 97 #[.agg c.arr, v] w fun e w' => e = .returned (.bool (opdB P 180 c.g.a c.g.b)) ∧ Below w.heap.size w w' := by
  obtain ⟨h, hP, hS, ho⟩ := H
  have hbx := (Below.refl w.heap.size w).alloc (Nat.le_refl _) (.cells c.arr 112)
  have hk0 := h.below hbx
  have HC := hide (fun (w : World) (h : KIn w v P) => Kn.ClassOf_any v P c.g.a w h hP)
  have hcl := hS.cls c.g.a
  obtain ⟨r, hr⟩ : ∃ r, r = opdB P 180 c.g.a c.g.b := ⟨_, rfl⟩
  rw [← hr]
  unfold opdB at hr
  simp only [Nat.reduceEqDiff, Nat.reduceLeDiff, or_false, false_or, or_self, and_self, and_true, true_and, and_false, false_and, if_true, if_false, reduceIte] at hr
  obtain ⟨⟨at_, op, wide, a, b, low, keys, tgts⟩, kv, tv⟩ := c
  unfold Cw.V.arr at *
  simp only at *
  subst hop
  simp only [show ((180 : Nat) : Int) = 180 from rfl] at *
  obtain ⟨ka, rfl⟩ : ∃ k : Nat, a = (k : Int) := ⟨a.toNat, by omega⟩
  have ka0 : 0 < ka := by omega
  have kal : ka < P.length := by omega
  obtain ⟨bb, oo, cap, rfl⟩ := h.form (by intro e; subst e; simp at kal)
  obtain ⟨c0, _, _, _, _⟩ := hk0.at kal
  have htg : (P.getD ka K.zero).tag = M.tag P (ka : Int) := by unfold M.tag; rw [kAt_in ka0 kal]
  rw [htg] at c0
  have i1 : ¬ (ka : Int) ≤ 0 := by omega
  have i2 : (0 : Int) < (ka : Int) := by omega
  have i3 : (ka : Int) < (P.length : Int) := by omega
  obtain ⟨tg, htgg⟩ : ∃ t, t = M.tag P (ka : Int) := ⟨_, rfl⟩
  rw [← htgg] at c0 hr
  have htl : tg < 256 := by rw [htgg]; exact (h.at_fit (ka : Int)).1
  have t9 : ((tg : Int) == 9) = decide (tg = 9) := by rw [Bool.eq_iff_iff]; simp <;> omega
  have Hr := hide hr
  clear hr htgg htg h hcl ho hin
  by_cases e9 : tg = 9
  · rw [decide_eq_true e9] at t9
    go_enter Tryz.func97, Tryz.ntmps97
    go_wp2_with fail
    refine (unhide HC _ hk0).mono ?_
    rintro e w2 ⟨⟨x, rfl⟩, hw⟩
    subst hw
    go_wp2
    go_ret
    exact ⟨by rw [unhide Hr]; simp [e9] <;> rfl, hbx⟩
  · rw [decide_eq_false e9] at t9
    go_enter Tryz.func97, Tryz.ntmps97
    go_wp2_with fail
    refine (unhide HC _ hk0).mono ?_
    rintro e w2 ⟨⟨x, rfl⟩, hw⟩
    subst hw
    go_wp2
    go_ret
    exact ⟨by rw [unhide Hr]; simp [e9] <;> rfl, hbx⟩

set_option maxRecDepth 100000 in
set_option maxHeartbeats 2000000 in
theorem operand_180_out (c : Cw.V) (v : Value) (P : List K) (w : World) (H : Opd c v P w) (hop : c.g.op = 180) (hin : ¬ (0 < c.g.a ∧ c.g.a < (P.length : Int))) :
    Calls Tryz.prog 97 #[.agg c.arr, v] w fun e w' => e = .returned (.bool (opdB P 180 c.g.a c.g.b)) ∧ Below w.heap.size w w' := by
  obtain ⟨h, hP, hS, ho⟩ := H
  have hbx := (Below.refl w.heap.size w).alloc (Nat.le_refl _) (.cells c.arr 112)
  have hk0 := h.below hbx
  have HC := hide (fun (w : World) (h : KIn w v P) => Kn.ClassOf_any v P c.g.a w h hP)
  have hcl := hS.cls c.g.a
  obtain ⟨r, hr⟩ : ∃ r, r = opdB P 180 c.g.a c.g.b := ⟨_, rfl⟩
  rw [← hr]
  unfold opdB at hr
  simp only [Nat.reduceEqDiff, Nat.reduceLeDiff, or_false, false_or, or_self, and_self, and_true, true_and, and_false, false_and, if_true, if_false, reduceIte] at hr
  obtain ⟨⟨at_, op, wide, a, b, low, keys, tgts⟩, kv, tv⟩ := c
  unfold Cw.V.arr at *
  simp only at *
  subst hop
  simp only [show ((180 : Nat) : Int) = 180 from rfl] at *
  have htg : M.tag P a = 0 := by unfold M.tag; rw [kAt_out hin]; rfl
  obtain ⟨ad, cap, e, _⟩ := h.ex
  subst e
  rw [htg] at hr
  have Hr := hide hr
  clear hr h hcl ho
  by_cases ha0 : 0 < a
  · have ha1 : ¬ a < (P.length : Int) := by omega
    clear hin
    go_enter Tryz.func97, Tryz.ntmps97
    go_wp2_with fail
    refine (unhide HC _ hk0).mono ?_
    rintro e w2 ⟨⟨x, rfl⟩, hw⟩
    subst hw
    go_wp2
    go_ret
    exact ⟨by rw [unhide Hr]; first | rfl | simp, hbx⟩
  · clear hin
    go_enter Tryz.func97, Tryz.ntmps97
    go_wp2_with fail
    refine (unhide HC _ hk0).mono ?_
    rintro e w2 ⟨⟨x, rfl⟩, hw⟩
    subst hw
    go_wp2
    go_ret
    exact ⟨by rw [unhide Hr]; first | rfl | simp, hbx⟩

set_option maxRecDepth 100000 in
set_option maxHeartbeats 2000000 in
theorem operand_181_in (c : Cw.V) (v : Value) (P : List K) (w : World) (H : Opd c v P w) (hop : c.g.op = 181) (hin : 0 < c.g.a ∧ c.g.a < (P.length : Int)) :
    Calls Tryz.prog 97 #[.agg c.arr, v] w fun e w' => e = .returned (.bool (opdB P 181 c.g.a c.g.b)) ∧ Below w.heap.size w w' := by
  obtain ⟨h, hP, hS, ho⟩ := H
  have hbx := (Below.refl w.heap.size w).alloc (Nat.le_refl _) (.cells c.arr 112)
  have hk0 := h.below hbx
  have HC := hide (fun (w : World) (h : KIn w v P) => Kn.ClassOf_any v P c.g.a w h hP)
  have hcl := hS.cls c.g.a
  obtain ⟨r, hr⟩ : ∃ r, r = opdB P 181 c.g.a c.g.b := ⟨_, rfl⟩
  rw [← hr]
  unfold opdB at hr
  simp only [Nat.reduceEqDiff, Nat.reduceLeDiff, or_false, false_or, or_self, and_self, and_true, true_and, and_false, false_and, if_true, if_false, reduceIte] at hr
  obtain ⟨⟨at_, op, wide, a, b, low, keys, tgts⟩, kv, tv⟩ := c
  unfold Cw.V.arr at *
  simp only at *
  subst hop
  simp only [show ((181 : Nat) : Int) = 181 from rfl] at *
  obtain ⟨ka, rfl⟩ : ∃ k : Nat, a = (k : Int) := ⟨a.toNat, by omega⟩
  have ka0 : 0 < ka := by omega
  have kal : ka < P.length := by omega
  obtain ⟨bb, oo, cap, rfl⟩ := h.form (by intro e; subst e; simp at kal)
  obtain ⟨c0, _, _, _, _⟩ := hk0.at kal
  have htg : (P.getD ka K.zero).tag = M.tag P (ka : Int) := by unfold M.tag; rw [kAt_in ka0 kal]
  rw [htg] at c0
  have i1 : ¬ (ka : Int) ≤ 0 := by omega
  have i2 : (0 : Int) < (ka : Int) := by omega
  have i3 : (ka : Int) < (P.length : Int) := by omega
  obtain ⟨tg, htgg⟩ : ∃ t, t = M.tag P (ka : Int) := ⟨_, rfl⟩
  rw [← htgg] at c0 hr
  have htl : tg < 256 := by rw [htgg]; exact (h.at_fit (ka : Int)).1
  have t9 : ((tg : Int) == 9) = decide (tg = 9) := by rw [Bool.eq_iff_iff]; simp <;> omega
  have Hr := hide hr
  clear hr htgg htg h hcl ho hin
  by_cases e9 : tg = 9
  · rw [decide_eq_true e9] at t9
    go_enter Tryz.func97, Tryz.ntmps97
    go_wp2_with fail
    refine (unhide HC _ hk0).mono ?_
    rintro e w2 ⟨⟨x, rfl⟩, hw⟩
    subst hw
    go_wp2
    go_ret
    exact ⟨by rw [unhide Hr]; simp [e9] <;> rfl, hbx⟩
  · rw [decide_eq_false e9] at t9
    go_enter Tryz.func97, Tryz.ntmps97
    go_wp2_with fail
    refine (unhide HC _ hk0).mono ?_
    rintro e w2 ⟨⟨x, rfl⟩, hw⟩
    subst hw
    go_wp2
    go_ret
    exact ⟨by rw [unhide Hr]; simp [e9] <;> rfl, hbx⟩

set_option maxRecDepth 100000 in
set_option maxHeartbeats 2000000 in
theorem operand_181_out (c : Cw.V) (v : Value) (P : List K) (w : World) (H : Opd c v P w) (hop : c.g.op = 181) (hin : ¬ (0 < c.g.a ∧ c.g.a < (P.length : Int))) :
    Calls Tryz.prog 97 #[.agg c.arr, v] w fun e w' => e = .returned (.bool (opdB P 181 c.g.a c.g.b)) ∧ Below w.heap.size w w' := by
  obtain ⟨h, hP, hS, ho⟩ := H
  have hbx := (Below.refl w.heap.size w).alloc (Nat.le_refl _) (.cells c.arr 112)
  have hk0 := h.below hbx
  have HC := hide (fun (w : World) (h : KIn w v P) => Kn.ClassOf_any v P c.g.a w h hP)
  have hcl := hS.cls c.g.a
  obtain ⟨r, hr⟩ : ∃ r, r = opdB P 181 c.g.a c.g.b := ⟨_, rfl⟩
  rw [← hr]
  unfold opdB at hr
  simp only [Nat.reduceEqDiff, Nat.reduceLeDiff, or_false, false_or, or_self, and_self, and_true, true_and, and_false, false_and, if_true, if_false, reduceIte] at hr
  obtain ⟨⟨at_, op, wide, a, b, low, keys, tgts⟩, kv, tv⟩ := c
  unfold Cw.V.arr at *
  simp only at *
  subst hop
  simp only [show ((181 : Nat) : Int) = 181 from rfl] at *
  have htg : M.tag P a = 0 := by unfold M.tag; rw [kAt_out hin]; rfl
  obtain ⟨ad, cap, e, _⟩ := h.ex
  subst e
  rw [htg] at hr
  have Hr := hide hr
  clear hr h hcl ho
  by_cases ha0 : 0 < a
  · have ha1 : ¬ a < (P.length : Int) := by omega
    clear hin
    go_enter Tryz.func97, Tryz.ntmps97
    go_wp2_with fail
    refine (unhide HC _ hk0).mono ?_
    rintro e w2 ⟨⟨x, rfl⟩, hw⟩
    subst hw
    go_wp2
    go_ret
    exact ⟨by rw [unhide Hr]; first | rfl | simp, hbx⟩
  · clear hin
    go_enter Tryz.func97, Tryz.ntmps97
    go_wp2_with fail
    refine (unhide HC _ hk0).mono ?_
    rintro e w2 ⟨⟨x, rfl⟩, hw⟩
    subst hw
    go_wp2
    go_ret
    exact ⟨by rw [unhide Hr]; first | rfl | simp, hbx⟩

set_option maxRecDepth 100000 in
set_option maxHeartbeats 2000000 in
theorem operand_182_in (c : Cw.V) (v : Value) (P : List K) (w : World) (H : Opd c v P w) (hop : c.g.op = 182) (hin : 0 < c.g.a ∧ c.g.a < (P.length : Int)) :
    Calls Tryz.prog 97 #[.agg c.arr, v] w fun e w' => e = .returned (.bool (opdB P 182 c.g.a c.g.b)) ∧ Below w.heap.size w w' := by
  obtain ⟨h, hP, hS, ho⟩ := H
  have HRC := hide (fun (w : World) (h : KIn w v P) (ha : M.tag P c.g.a ≠ 0) => rcalled_any c v P w ho h hP hS ha)
  rw [hop] at HRC
  have hbx := (Below.refl w.heap.size w).alloc (Nat.le_refl _) (.cells c.arr 112)
  have hk0 := h.below hbx
  have HC := hide (fun (w : World) (h : KIn w v P) => Kn.ClassOf_any v P c.g.a w h hP)
  have hcl := hS.cls c.g.a
  obtain ⟨r, hr⟩ : ∃ r, r = opdB P 182 c.g.a c.g.b := ⟨_, rfl⟩
  rw [← hr]
  unfold opdB at hr
  simp only [Nat.reduceEqDiff, Nat.reduceLeDiff, or_false, false_or, or_self, and_self, and_true, true_and, and_false, false_and, if_true, if_false, reduceIte] at hr
  obtain ⟨⟨at_, op, wide, a, b, low, keys, tgts⟩, kv, tv⟩ := c
  unfold Cw.V.arr at *
  simp only at *
  subst hop
  simp only [show ((182 : Nat) : Int) = 182 from rfl] at *
  obtain ⟨ka, rfl⟩ : ∃ k : Nat, a = (k : Int) := ⟨a.toNat, by omega⟩
  have ka0 : 0 < ka := by omega
  have kal : ka < P.length := by omega
  obtain ⟨bb, oo, cap, rfl⟩ := h.form (by intro e; subst e; simp at kal)
  obtain ⟨c0, _, _, _, _⟩ := hk0.at kal
  have htg : (P.getD ka K.zero).tag = M.tag P (ka : Int) := by unfold M.tag; rw [kAt_in ka0 kal]
  rw [htg] at c0
  have i1 : ¬ (ka : Int) ≤ 0 := by omega
  have i2 : (0 : Int) < (ka : Int) := by omega
  have i3 : (ka : Int) < (P.length : Int) := by omega
  obtain ⟨tg, htgg⟩ : ∃ t, t = M.tag P (ka : Int) := ⟨_, rfl⟩
  rw [← htgg] at c0 hr
  rw [← htgg] at HRC
  have htl : tg < 256 := by rw [htgg]; exact (h.at_fit (ka : Int)).1
  have t10 : ((tg : Int) == 10) = decide (tg = 10) := by rw [Bool.eq_iff_iff]; simp <;> omega
  have Hr := hide hr
  clear hr htgg htg h hcl ho hin
  by_cases e10 : tg = 10
  · rw [decide_eq_true e10] at t10
    have HR2 := unhide HRC _ hk0 (by omega)
    have HR3 := hide HR2
    generalize calB P 182 (ka : Int) b = cl at *
    clear HR2 HRC
    go_enter Tryz.func97, Tryz.ntmps97
    go_wp2_with fail
    refine (unhide HC _ hk0).mono ?_
    rintro e w2 ⟨⟨x, rfl⟩, hw⟩
    subst hw
    go_wp2_with fail
    refine (unhide HR3).mono ?_
    rintro e w3 ⟨rfl, hb3⟩
    have hbz := hbx.trans (hb3.mono hbx.size)
    go_wp2
    go_ret
    exact ⟨by rw [unhide Hr]; simp [e10] <;> rfl, hbz⟩
  · rw [decide_eq_false e10] at t10
    go_enter Tryz.func97, Tryz.ntmps97
    go_wp2_with fail
    refine (unhide HC _ hk0).mono ?_
    rintro e w2 ⟨⟨x, rfl⟩, hw⟩
    subst hw
    go_wp2
    go_ret
    exact ⟨by rw [unhide Hr]; simp [e10] <;> rfl, hbx⟩

set_option maxRecDepth 100000 in
set_option maxHeartbeats 2000000 in
theorem operand_182_out (c : Cw.V) (v : Value) (P : List K) (w : World) (H : Opd c v P w) (hop : c.g.op = 182) (hin : ¬ (0 < c.g.a ∧ c.g.a < (P.length : Int))) :
    Calls Tryz.prog 97 #[.agg c.arr, v] w fun e w' => e = .returned (.bool (opdB P 182 c.g.a c.g.b)) ∧ Below w.heap.size w w' := by
  obtain ⟨h, hP, hS, ho⟩ := H
  have HRC := hide (fun (w : World) (h : KIn w v P) (ha : M.tag P c.g.a ≠ 0) => rcalled_any c v P w ho h hP hS ha)
  rw [hop] at HRC
  have hbx := (Below.refl w.heap.size w).alloc (Nat.le_refl _) (.cells c.arr 112)
  have hk0 := h.below hbx
  have HC := hide (fun (w : World) (h : KIn w v P) => Kn.ClassOf_any v P c.g.a w h hP)
  have hcl := hS.cls c.g.a
  obtain ⟨r, hr⟩ : ∃ r, r = opdB P 182 c.g.a c.g.b := ⟨_, rfl⟩
  rw [← hr]
  unfold opdB at hr
  simp only [Nat.reduceEqDiff, Nat.reduceLeDiff, or_false, false_or, or_self, and_self, and_true, true_and, and_false, false_and, if_true, if_false, reduceIte] at hr
  obtain ⟨⟨at_, op, wide, a, b, low, keys, tgts⟩, kv, tv⟩ := c
  unfold Cw.V.arr at *
  simp only at *
  subst hop
  simp only [show ((182 : Nat) : Int) = 182 from rfl] at *
  have htg : M.tag P a = 0 := by unfold M.tag; rw [kAt_out hin]; rfl
  obtain ⟨ad, cap, e, _⟩ := h.ex
  subst e
  rw [htg] at hr
  have Hr := hide hr
  clear hr h hcl ho
  by_cases ha0 : 0 < a
  · have ha1 : ¬ a < (P.length : Int) := by omega
    clear hin
    go_enter Tryz.func97, Tryz.ntmps97
    go_wp2_with fail
    refine (unhide HC _ hk0).mono ?_
    rintro e w2 ⟨⟨x, rfl⟩, hw⟩
    subst hw
    go_wp2
    go_ret
    exact ⟨by rw [unhide Hr]; first | rfl | simp, hbx⟩
  · clear hin
    go_enter Tryz.func97, Tryz.ntmps97
    go_wp2_with fail
    refine (unhide HC _ hk0).mono ?_
    rintro e w2 ⟨⟨x, rfl⟩, hw⟩
    subst hw
    go_wp2
    go_ret
    exact ⟨by rw [unhide Hr]; first | rfl | simp, hbx⟩

set_option maxRecDepth 100000 in
set_option maxHeartbeats 2000000 in
theorem operand_183_in (c : Cw.V) (v : Value) (P : List K) (w : World) (H : Opd c v P w) (hop : c.g.op = 183) (hin : 0 < c.g.a ∧ c.g.a < (P.length : Int)) :
    Calls Tryz.prog 97 #[.agg c.arr, v] w fun e w' => e = .returned (.bool (opdB P 183 c.g.a c.g.b)) ∧ Below w.heap.size w w' := by
  obtain ⟨h, hP, hS, ho⟩ := H
  have HRC := hide (fun (w : World) (h : KIn w v P) (ha : M.tag P c.g.a ≠ 0) => rcalled_any c v P w ho h hP hS ha)
  rw [hop] at HRC
  have hbx := (Below.refl w.heap.size w).alloc (Nat.le_refl _) (.cells c.arr 112)
  have hk0 := h.below hbx
  have HC := hide (fun (w : World) (h : KIn w v P) => Kn.ClassOf_any v P c.g.a w h hP)
  have hcl := hS.cls c.g.a
  obtain ⟨r, hr⟩ : ∃ r, r = opdB P 183 c.g.a c.g.b := ⟨_, rfl⟩
  rw [← hr]
  unfold opdB at hr
  simp only [Nat.reduceEqDiff, Nat.reduceLeDiff, or_false, false_or, or_self, and_self, and_true, true_and, and_false, false_and, if_true, if_false, reduceIte] at hr
  obtain ⟨⟨at_, op, wide, a, b, low, keys, tgts⟩, kv, tv⟩ := c
  unfold Cw.V.arr at *
  simp only at *
  subst hop
  simp only [show ((183 : Nat) : Int) = 183 from rfl] at *
  obtain ⟨ka, rfl⟩ : ∃ k : Nat, a = (k : Int) := ⟨a.toNat, by omega⟩
  have ka0 : 0 < ka := by omega
  have kal : ka < P.length := by omega
  obtain ⟨bb, oo, cap, rfl⟩ := h.form (by intro e; subst e; simp at kal)
  obtain ⟨c0, _, _, _, _⟩ := hk0.at kal
  have htg : (P.getD ka K.zero).tag = M.tag P (ka : Int) := by unfold M.tag; rw [kAt_in ka0 kal]
  rw [htg] at c0
  have i1 : ¬ (ka : Int) ≤ 0 := by omega
  have i2 : (0 : Int) < (ka : Int) := by omega
  have i3 : (ka : Int) < (P.length : Int) := by omega
  obtain ⟨tg, htgg⟩ : ∃ t, t = M.tag P (ka : Int) := ⟨_, rfl⟩
  rw [← htgg] at c0 hr
  rw [← htgg] at HRC
  have htl : tg < 256 := by rw [htgg]; exact (h.at_fit (ka : Int)).1
  have t10 : ((tg : Int) == 10) = decide (tg = 10) := by rw [Bool.eq_iff_iff]; simp <;> omega
  have Hr := hide hr
  clear hr htgg htg h hcl ho hin
  by_cases e10 : tg = 10
  · rw [decide_eq_true e10] at t10
    have HR2 := unhide HRC _ hk0 (by omega)
    have HR3 := hide HR2
    generalize calB P 183 (ka : Int) b = cl at *
    clear HR2 HRC
    go_enter Tryz.func97, Tryz.ntmps97
    go_wp2_with fail
    refine (unhide HC _ hk0).mono ?_
    rintro e w2 ⟨⟨x, rfl⟩, hw⟩
    subst hw
    go_wp2_with fail
    refine (unhide HR3).mono ?_
    rintro e w3 ⟨rfl, hb3⟩
    have hbz := hbx.trans (hb3.mono hbx.size)
    go_wp2
    go_ret
    exact ⟨by rw [unhide Hr]; simp [e10] <;> rfl, hbz⟩
  · rw [decide_eq_false e10] at t10
    go_enter Tryz.func97, Tryz.ntmps97
    go_wp2_with fail
    refine (unhide HC _ hk0).mono ?_
    rintro e w2 ⟨⟨x, rfl⟩, hw⟩
    subst hw
    go_wp2
    go_ret
    exact ⟨by rw [unhide Hr]; simp [e10] <;> rfl, hbx⟩

set_option maxRecDepth 100000 in
set_option maxHeartbeats 2000000 in
theorem operand_183_out (c : Cw.V) (v : Value) (P : List K) (w : World) (H : Opd c v P w) (hop : c.g.op = 183) (hin : ¬ (0 < c.g.a ∧ c.g.a < (P.length : Int))) :
    Calls Tryz.prog 97 #[.agg c.arr, v] w fun e w' => e = .returned (.bool (opdB P 183 c.g.a c.g.b)) ∧ Below w.heap.size w w' := by
  obtain ⟨h, hP, hS, ho⟩ := H
  have HRC := hide (fun (w : World) (h : KIn w v P) (ha : M.tag P c.g.a ≠ 0) => rcalled_any c v P w ho h hP hS ha)
  rw [hop] at HRC
  have hbx := (Below.refl w.heap.size w).alloc (Nat.le_refl _) (.cells c.arr 112)
  have hk0 := h.below hbx
  have HC := hide (fun (w : World) (h : KIn w v P) => Kn.ClassOf_any v P c.g.a w h hP)
  have hcl := hS.cls c.g.a
  obtain ⟨r, hr⟩ : ∃ r, r = opdB P 183 c.g.a c.g.b := ⟨_, rfl⟩
  rw [← hr]
  unfold opdB at hr
  simp only [Nat.reduceEqDiff, Nat.reduceLeDiff, or_false, false_or, or_self, and_self, and_true, true_and, and_false, false_and, if_true, if_false, reduceIte] at hr
  obtain ⟨⟨at_, op, wide, a, b, low, keys, tgts⟩, kv, tv⟩ := c
  unfold Cw.V.arr at *
  simp only at *
  subst hop
  simp only [show ((183 : Nat) : Int) = 183 from rfl] at *
  have htg : M.tag P a = 0 := by unfold M.tag; rw [kAt_out hin]; rfl
  obtain ⟨ad, cap, e, _⟩ := h.ex
  subst e
  rw [htg] at hr
  have Hr := hide hr
  clear hr h hcl ho
  by_cases ha0 : 0 < a
  · have ha1 : ¬ a < (P.length : Int) := by omega
    clear hin
    go_enter Tryz.func97, Tryz.ntmps97
    go_wp2_with fail
    refine (unhide HC _ hk0).mono ?_
    rintro e w2 ⟨⟨x, rfl⟩, hw⟩
    subst hw
    go_wp2
    go_ret
    exact ⟨by rw [unhide Hr]; first | rfl | simp, hbx⟩
  · clear hin
    go_enter Tryz.func97, Tryz.ntmps97
    go_wp2_with fail
    refine (unhide HC _ hk0).mono ?_
    rintro e w2 ⟨⟨x, rfl⟩, hw⟩
    subst hw
    go_wp2
    go_ret
    exact ⟨by rw [unhide Hr]; first | rfl | simp, hbx⟩

set_option maxRecDepth 100000 in
set_option maxHeartbeats 2000000 in
theorem operand_184_in (c : Cw.V) (v : Value) (P : List K) (w : World) (H : Opd c v P w) (hop : c.g.op = 184) (hin : 0 < c.g.a ∧ c.g.a < (P.length : Int)) :
    Calls Tryz.prog 97 #[.agg c.arr, v] w fun e w' => e = .returned (.bool (opdB P 184 c.g.a c.g.b)) ∧ Below w.heap.size w w' := by
  obtain ⟨h, hP, hS, ho⟩ := H
  have HRC := hide (fun (w : World) (h : KIn w v P) (ha : M.tag P c.g.a ≠ 0) => rcalled_any c v P w ho h hP hS ha)
  rw [hop] at HRC
  have hbx := (Below.refl w.heap.size w).alloc (Nat.le_refl _) (.cells c.arr 112)
  have hk0 := h.below hbx
  have HC := hide (fun (w : World) (h : KIn w v P) => Kn.ClassOf_any v P c.g.a w h hP)
  have hcl := hS.cls c.g.a
  obtain ⟨r, hr⟩ : ∃ r, r = opdB P 184 c.g.a c.g.b := ⟨_, rfl⟩
  rw [← hr]
  unfold opdB at hr
  simp only [Nat.reduceEqDiff, Nat.reduceLeDiff, or_false, false_or, or_self, and_self, and_true, true_and, and_false, false_and, if_true, if_false, reduceIte] at hr
  obtain ⟨⟨at_, op, wide, a, b, low, keys, tgts⟩, kv, tv⟩ := c
  unfold Cw.V.arr at *
  simp only at *
  subst hop
  simp only [show ((184 : Nat) : Int) = 184 from rfl] at *
  obtain ⟨ka, rfl⟩ : ∃ k : Nat, a = (k : Int) := ⟨a.toNat, by omega⟩
  have ka0 : 0 < ka := by omega
  have kal : ka < P.length := by omega
  obtain ⟨bb, oo, cap, rfl⟩ := h.form (by intro e; subst e; simp at kal)
  obtain ⟨c0, _, _, _, _⟩ := hk0.at kal
  have htg : (P.getD ka K.zero).tag = M.tag P (ka : Int) := by unfold M.tag; rw [kAt_in ka0 kal]
  rw [htg] at c0
  have i1 : ¬ (ka : Int) ≤ 0 := by omega
  have i2 : (0 : Int) < (ka : Int) := by omega
  have i3 : (ka : Int) < (P.length : Int) := by omega
  obtain ⟨tg, htgg⟩ : ∃ t, t = M.tag P (ka : Int) := ⟨_, rfl⟩
  rw [← htgg] at c0 hr
  rw [← htgg] at HRC
  have htl : tg < 256 := by rw [htgg]; exact (h.at_fit (ka : Int)).1
  have t10 : ((tg : Int) == 10) = decide (tg = 10) := by rw [Bool.eq_iff_iff]; simp <;> omega
  have Hr := hide hr
  clear hr htgg htg h hcl ho hin
  by_cases e10 : tg = 10
  · rw [decide_eq_true e10] at t10
    have HR2 := unhide HRC _ hk0 (by omega)
    have HR3 := hide HR2
    generalize calB P 184 (ka : Int) b = cl at *
    clear HR2 HRC
    go_enter Tryz.func97, Tryz.ntmps97
    go_wp2_with fail
    refine (unhide HC _ hk0).mono ?_
    rintro e w2 ⟨⟨x, rfl⟩, hw⟩
    subst hw
    go_wp2_with fail
    refine (unhide HR3).mono ?_
    rintro e w3 ⟨rfl, hb3⟩
    have hbz := hbx.trans (hb3.mono hbx.size)
    go_wp2
    go_ret
    exact ⟨by rw [unhide Hr]; simp [e10] <;> rfl, hbz⟩
  · rw [decide_eq_false e10] at t10
    go_enter Tryz.func97, Tryz.ntmps97
    go_wp2_with fail
    refine (unhide HC _ hk0).mono ?_
    rintro e w2 ⟨⟨x, rfl⟩, hw⟩
    subst hw
    go_wp2
    go_ret
    exact ⟨by rw [unhide Hr]; simp [e10] <;> rfl, hbx⟩

set_option maxRecDepth 100000 in
set_option maxHeartbeats 2000000 in
theorem operand_184_out (c : Cw.V) (v : Value) (P : List K) (w : World) (H : Opd c v P w) (hop : c.g.op = 184) (hin : ¬ (0 < c.g.a ∧ c.g.a < (P.length : Int))) :
    Calls Tryz.prog 97 #[.agg c.arr, v] w fun e w' => e = .returned (.bool (opdB P 184 c.g.a c.g.b)) ∧ Below w.heap.size w w' := by
  obtain ⟨h, hP, hS, ho⟩ := H
  have HRC := hide (fun (w : World) (h : KIn w v P) (ha : M.tag P c.g.a ≠ 0) => rcalled_any c v P w ho h hP hS ha)
  rw [hop] at HRC
  have hbx := (Below.refl w.heap.size w).alloc (Nat.le_refl _) (.cells c.arr 112)
  have hk0 := h.below hbx
  have HC := hide (fun (w : World) (h : KIn w v P) => Kn.ClassOf_any v P c.g.a w h hP)
  have hcl := hS.cls c.g.a
  obtain ⟨r, hr⟩ : ∃ r, r = opdB P 184 c.g.a c.g.b := ⟨_, rfl⟩
  rw [← hr]
  unfold opdB at hr
  simp only [Nat.reduceEqDiff, Nat.reduceLeDiff, or_false, false_or, or_self, and_self, and_true, true_and, and_false, false_and, if_true, if_false, reduceIte] at hr
  obtain ⟨⟨at_, op, wide, a, b, low, keys, tgts⟩, kv, tv⟩ := c
  unfold Cw.V.arr at *
  simp only at *
  subst hop
  simp only [show ((184 : Nat) : Int) = 184 from rfl] at *
  have htg : M.tag P a = 0 := by unfold M.tag; rw [kAt_out hin]; rfl
  obtain ⟨ad, cap, e, _⟩ := h.ex
  subst e
  rw [htg] at hr
  have Hr := hide hr
  clear hr h hcl ho
  by_cases ha0 : 0 < a
  · have ha1 : ¬ a < (P.length : Int) := by omega
    clear hin
    go_enter Tryz.func97, Tryz.ntmps97
    go_wp2_with fail
    refine (unhide HC _ hk0).mono ?_
    rintro e w2 ⟨⟨x, rfl⟩, hw⟩
    subst hw
    go_wp2
    go_ret
    exact ⟨by rw [unhide Hr]; first | rfl | simp, hbx⟩
  · clear hin
    go_enter Tryz.func97, Tryz.ntmps97
    go_wp2_with fail
    refine (unhide HC _ hk0).mono ?_
    rintro e w2 ⟨⟨x, rfl⟩, hw⟩
    subst hw
    go_wp2
    go_ret
    exact ⟨by rw [unhide Hr]; first | rfl | simp, hbx⟩

set_option maxRecDepth 100000 in
set_option maxHeartbeats 2000000 in
theorem operand_185_in (c : Cw.V) (v : Value) (P : List K) (w : World) (H : Opd c v P w) (hop : c.g.op = 185) (hin : 0 < c.g.a ∧ c.g.a < (P.length : Int)) :
    Calls Tryz.prog 97 #[.agg c.arr, v] w fun e w' => e = .returned (.bool (opdB P 185 c.g.a c.g.b)) ∧ Below w.heap.size w w' := by
  obtain ⟨h, hP, hS, ho⟩ := H
  have HRC := hide (fun (w : World) (h : KIn w v P) (ha : M.tag P c.g.a ≠ 0) => rcalled_any c v P w ho h hP hS ha)
  rw [hop] at HRC
  have hbx := (Below.refl w.heap.size w).alloc (Nat.le_refl _) (.cells c.arr 112)
  have hk0 := h.below hbx
  have HC := hide (fun (w : World) (h : KIn w v P) => Kn.ClassOf_any v P c.g.a w h hP)
  have hcl := hS.cls c.g.a
  obtain ⟨r, hr⟩ : ∃ r, r = opdB P 185 c.g.a c.g.b := ⟨_, rfl⟩
  rw [← hr]
  unfold opdB at hr
  simp only [Nat.reduceEqDiff, Nat.reduceLeDiff, or_false, false_or, or_self, and_self, and_true, true_and, and_false, false_and, if_true, if_false, reduceIte] at hr
  obtain ⟨⟨at_, op, wide, a, b, low, keys, tgts⟩, kv, tv⟩ := c
  unfold Cw.V.arr at *
  simp only at *
  subst hop
  simp only [show ((185 : Nat) : Int) = 185 from rfl] at *
  obtain ⟨ka, rfl⟩ : ∃ k : Nat, a = (k : Int) := ⟨a.toNat, by omega⟩
  have ka0 : 0 < ka := by omega
  have kal : ka < P.length := by omega
  obtain ⟨bb, oo, cap, rfl⟩ := h.form (by intro e; subst e; simp at kal)
  obtain ⟨c0, _, _, _, _⟩ := hk0.at kal
  have htg : (P.getD ka K.zero).tag = M.tag P (ka : Int) := by unfold M.tag; rw [kAt_in ka0 kal]
  rw [htg] at c0
  have i1 : ¬ (ka : Int) ≤ 0 := by omega
  have i2 : (0 : Int) < (ka : Int) := by omega
  have i3 : (ka : Int) < (P.length : Int) := by omega
  obtain ⟨tg, htgg⟩ : ∃ t, t = M.tag P (ka : Int) := ⟨_, rfl⟩
  rw [← htgg] at c0 hr
  rw [← htgg] at HRC
  have htl : tg < 256 := by rw [htgg]; exact (h.at_fit (ka : Int)).1
  have t11 : ((tg : Int) == 11) = decide (tg = 11) := by rw [Bool.eq_iff_iff]; simp <;> omega
  have Hr := hide hr
  clear hr htgg htg h hcl ho hin
  by_cases e11 : tg = 11
  · rw [decide_eq_true e11] at t11
    have HR2 := unhide HRC _ hk0 (by omega)
    have HR3 := hide HR2
    generalize calB P 185 (ka : Int) b = cl at *
    clear HR2 HRC
    go_enter Tryz.func97, Tryz.ntmps97
    go_wp2_with fail
    refine (unhide HC _ hk0).mono ?_
    rintro e w2 ⟨⟨x, rfl⟩, hw⟩
    subst hw
    go_wp2_with fail
    refine (unhide HR3).mono ?_
    rintro e w3 ⟨rfl, hb3⟩
    have hbz := hbx.trans (hb3.mono hbx.size)
    go_wp2
    go_ret
    exact ⟨by rw [unhide Hr]; simp [e11] <;> rfl, hbz⟩
  · rw [decide_eq_false e11] at t11
    go_enter Tryz.func97, Tryz.ntmps97
    go_wp2_with fail
    refine (unhide HC _ hk0).mono ?_
    rintro e w2 ⟨⟨x, rfl⟩, hw⟩
    subst hw
    go_wp2
    go_ret
    exact ⟨by rw [unhide Hr]; simp [e11] <;> rfl, hbx⟩

set_option maxRecDepth 100000 in
set_option maxHeartbeats 2000000 in
theorem operand_185_out (c : Cw.V) (v : Value) (P : List K) (w : World) (H : Opd c v P w) (hop : c.g.op = 185) (hin : ¬ (0 < c.g.a ∧ c.g.a < (P.length : Int))) :
    Calls Tryz.prog 97 #[.agg c.arr, v] w fun e w' => e = .returned (.bool (opdB P 185 c.g.a c.g.b)) ∧ Below w.heap.size w w' := by
  obtain ⟨h, hP, hS, ho⟩ := H
  have HRC := hide (fun (w : World) (h : KIn w v P) (ha : M.tag P c.g.a ≠ 0) => rcalled_any c v P w ho h hP hS ha)
  rw [hop] at HRC
  have hbx := (Below.refl w.heap.size w).alloc (Nat.le_refl _) (.cells c.arr 112)
  have hk0 := h.below hbx
  have HC := hide (fun (w : World) (h : KIn w v P) => Kn.ClassOf_any v P c.g.a w h hP)
  have hcl := hS.cls c.g.a
  obtain ⟨r, hr⟩ : ∃ r, r = opdB P 185 c.g.a c.g.b := ⟨_, rfl⟩
  rw [← hr]
  unfold opdB at hr
  simp only [Nat.reduceEqDiff, Nat.reduceLeDiff, or_false, false_or, or_self, and_self, and_true, true_and, and_false, false_and, if_true, if_false, reduceIte] at hr
  obtain ⟨⟨at_, op, wide, a, b, low, keys, tgts⟩, kv, tv⟩ := c
  unfold Cw.V.arr at *
  simp only at *
  subst hop
  simp only [show ((185 : Nat) : Int) = 185 from rfl] at *
  have htg : M.tag P a = 0 := by unfold M.tag; rw [kAt_out hin]; rfl
  obtain ⟨ad, cap, e, _⟩ := h.ex
  subst e
  rw [htg] at hr
  have Hr := hide hr
  clear hr h hcl ho
  by_cases ha0 : 0 < a
  · have ha1 : ¬ a < (P.length : Int) := by omega
    clear hin
    go_enter Tryz.func97, Tryz.ntmps97
    go_wp2_with fail
    refine (unhide HC _ hk0).mono ?_
    rintro e w2 ⟨⟨x, rfl⟩, hw⟩
    subst hw
    go_wp2
    go_ret
    exact ⟨by rw [unhide Hr]; first | rfl | simp, hbx⟩
  · clear hin
    go_enter Tryz.func97, Tryz.ntmps97
    go_wp2_with fail
    refine (unhide HC _ hk0).mono ?_
    rintro e w2 ⟨⟨x, rfl⟩, hw⟩
    subst hw
    go_wp2
    go_ret
    exact ⟨by rw [unhide Hr]; first | rfl | simp, hbx⟩

set_option maxRecDepth 100000 in
set_option maxHeartbeats 2000000 in
theorem operand_187_in (c : Cw.V) (v : Value) (P : List K) (w : World) (H : Opd c v P w) (hop : c.g.op = 187) (hin : 0 < c.g.a ∧ c.g.a < (P.length : Int)) :
    Calls Tryz.prog 97 #[.agg c.arr, v] w fun e w' => e = .returned (.bool (opdB P 187 c.g.a c.g.b)) ∧ Below w.heap.size w w' := by
  obtain ⟨h, hP, hS, ho⟩ := H
  have hbx := (Below.refl w.heap.size w).alloc (Nat.le_refl _) (.cells c.arr 112)
  have hk0 := h.below hbx
  have HC := hide (fun (w : World) (h : KIn w v P) => Kn.ClassOf_any v P c.g.a w h hP)
  have hcl := hS.cls c.g.a
  have HD := hide (fun w => rdims_any ⟨(M.cls P c.g.a).toArray⟩ w (by rw [size_of]; exact hcl))
  rw [data_of] at HD
  obtain ⟨r, hr⟩ : ∃ r, r = opdB P 187 c.g.a c.g.b := ⟨_, rfl⟩
  rw [← hr]
  unfold opdB at hr
  simp only [Nat.reduceEqDiff, Nat.reduceLeDiff, or_false, false_or, or_self, and_self, and_true, true_and, and_false, false_and, if_true, if_false, reduceIte] at hr
  obtain ⟨⟨at_, op, wide, a, b, low, keys, tgts⟩, kv, tv⟩ := c
  unfold Cw.V.arr at *
  simp only at *
  subst hop
  simp only [show ((187 : Nat) : Int) = 187 from rfl] at *
  obtain ⟨ka, rfl⟩ : ∃ k : Nat, a = (k : Int) := ⟨a.toNat, by omega⟩
  have ka0 : 0 < ka := by omega
  have kal : ka < P.length := by omega
  obtain ⟨bb, oo, cap, rfl⟩ := h.form (by intro e; subst e; simp at kal)
  obtain ⟨c0, _, _, _, _⟩ := hk0.at kal
  have htg : (P.getD ka K.zero).tag = M.tag P (ka : Int) := by unfold M.tag; rw [kAt_in ka0 kal]
  rw [htg] at c0
  have i1 : ¬ (ka : Int) ≤ 0 := by omega
  have i2 : (0 : Int) < (ka : Int) := by omega
  have i3 : (ka : Int) < (P.length : Int) := by omega
  obtain ⟨tg, htgg⟩ : ∃ t, t = M.tag P (ka : Int) := ⟨_, rfl⟩
  rw [← htgg] at c0 hr
  have htl : tg < 256 := by rw [htgg]; exact (h.at_fit (ka : Int)).1
  have t7 : ((tg : Int) == 7) = decide (tg = 7) := by rw [Bool.eq_iff_iff]; simp <;> omega
  have Hr := hide hr
  clear hr htgg htg h hcl ho hin
  by_cases e7 : tg = 7
  · rw [decide_eq_true e7] at t7
    generalize M.cls P (ka : Int) = nl at *
    obtain ⟨dd, hdd⟩ : ∃ d, d = dims nl := ⟨_, rfl⟩
    rw [← hdd] at HD Hr
    clear hdd
    by_cases hc : dd = 0
    · have x1 : ((dd : Int) == 0) = true := by simp; omega
      go_enter Tryz.func97, Tryz.ntmps97
      go_wp2_with fail
      refine (unhide HC _ hk0).mono ?_
      rintro e w2 ⟨⟨x, rfl⟩, hw⟩
      subst hw
      go_wp2_with fail
      refine (unhide HD _).mono ?_
      rintro e w3 ⟨rfl, hb3⟩
      have hbz := hbx.trans (hb3.mono hbx.size)
      go_wp2
      go_ret
      exact ⟨by rw [unhide Hr]; simp [e7, hc] <;> first | rfl | omega, hbz⟩
    · have x1 : ((dd : Int) == 0) = false := by rw [beq_eq_false_iff_ne]; omega
      go_enter Tryz.func97, Tryz.ntmps97
      go_wp2_with fail
      refine (unhide HC _ hk0).mono ?_
      rintro e w2 ⟨⟨x, rfl⟩, hw⟩
      subst hw
      go_wp2_with fail
      refine (unhide HD _).mono ?_
      rintro e w3 ⟨rfl, hb3⟩
      have hbz := hbx.trans (hb3.mono hbx.size)
      go_wp2
      go_ret
      exact ⟨by rw [unhide Hr]; simp [e7, hc] <;> first | rfl | omega, hbz⟩
  · rw [decide_eq_false e7] at t7
    go_enter Tryz.func97, Tryz.ntmps97
    go_wp2_with fail
    refine (unhide HC _ hk0).mono ?_
    rintro e w2 ⟨⟨x, rfl⟩, hw⟩
    subst hw
    go_wp2
    go_ret
    exact ⟨by rw [unhide Hr]; simp [e7] <;> rfl, hbx⟩

set_option maxRecDepth 100000 in
set_option maxHeartbeats 2000000 in
theorem operand_187_out (c : Cw.V) (v : Value) (P : List K) (w : World) (H : Opd c v P w) (hop : c.g.op = 187) (hin : ¬ (0 < c.g.a ∧ c.g.a < (P.length : Int))) :
    Calls Tryz.prog 97 #[.agg c.arr, v] w fun e w' => e = .returned (.bool (opdB P 187 c.g.a c.g.b)) ∧ Below w.heap.size w w' := by
  obtain ⟨h, hP, hS, ho⟩ := H
  have hbx := (Below.refl w.heap.size w).alloc (Nat.le_refl _) (.cells c.arr 112)
  have hk0 := h.below hbx
  have HC := hide (fun (w : World) (h : KIn w v P) => Kn.ClassOf_any v P c.g.a w h hP)
  have hcl := hS.cls c.g.a
  have HD := hide (fun w => rdims_any ⟨(M.cls P c.g.a).toArray⟩ w (by rw [size_of]; exact hcl))
  rw [data_of] at HD
  obtain ⟨r, hr⟩ : ∃ r, r = opdB P 187 c.g.a c.g.b := ⟨_, rfl⟩
  rw [← hr]
  unfold opdB at hr
  simp only [Nat.reduceEqDiff, Nat.reduceLeDiff, or_false, false_or, or_self, and_self, and_true, true_and, and_false, false_and, if_true, if_false, reduceIte] at hr
  obtain ⟨⟨at_, op, wide, a, b, low, keys, tgts⟩, kv, tv⟩ := c
  unfold Cw.V.arr at *
  simp only at *
  subst hop
  simp only [show ((187 : Nat) : Int) = 187 from rfl] at *
  have htg : M.tag P a = 0 := by unfold M.tag; rw [kAt_out hin]; rfl
  obtain ⟨ad, cap, e, _⟩ := h.ex
  subst e
  rw [htg] at hr
  have Hr := hide hr
  clear hr h hcl ho
  by_cases ha0 : 0 < a
  · have ha1 : ¬ a < (P.length : Int) := by omega
    clear hin
    go_enter Tryz.func97, Tryz.ntmps97
    go_wp2_with fail
    refine (unhide HC _ hk0).mono ?_
    rintro e w2 ⟨⟨x, rfl⟩, hw⟩
    subst hw
    go_wp2
    go_ret
    exact ⟨by rw [unhide Hr]; first | rfl | simp, hbx⟩
  · clear hin
    go_enter Tryz.func97, Tryz.ntmps97
    go_wp2_with fail
    refine (unhide HC _ hk0).mono ?_
    rintro e w2 ⟨⟨x, rfl⟩, hw⟩
    subst hw
    go_wp2
    go_ret
    exact ⟨by rw [unhide Hr]; first | rfl | simp, hbx⟩

set_option maxRecDepth 100000 in
set_option maxHeartbeats 2000000 in
theorem operand_189_in (c : Cw.V) (v : Value) (P : List K) (w : World) (H : Opd c v P w) (hop : c.g.op = 189) (hin : 0 < c.g.a ∧ c.g.a < (P.length : Int)) :
    Calls Tryz.prog 97 #[.agg c.arr, v] w fun e w' => e = .returned (.bool (opdB P 189 c.g.a c.g.b)) ∧ Below w.heap.size w w' := by
  obtain ⟨h, hP, hS, ho⟩ := H
  have hbx := (Below.refl w.heap.size w).alloc (Nat.le_refl _) (.cells c.arr 112)
  have hk0 := h.below hbx
  have HC := hide (fun (w : World) (h : KIn w v P) => Kn.ClassOf_any v P c.g.a w h hP)
  have hcl := hS.cls c.g.a
  have HD := hide (fun w => rdims_any ⟨(M.cls P c.g.a).toArray⟩ w (by rw [size_of]; exact hcl))
  rw [data_of] at HD
  obtain ⟨r, hr⟩ : ∃ r, r = opdB P 189 c.g.a c.g.b := ⟨_, rfl⟩
  rw [← hr]
  unfold opdB at hr
  simp only [Nat.reduceEqDiff, Nat.reduceLeDiff, or_false, false_or, or_self, and_self, and_true, true_and, and_false, false_and, if_true, if_false, reduceIte] at hr
  obtain ⟨⟨at_, op, wide, a, b, low, keys, tgts⟩, kv, tv⟩ := c
  unfold Cw.V.arr at *
  simp only at *
  subst hop
  simp only [show ((189 : Nat) : Int) = 189 from rfl] at *
  obtain ⟨ka, rfl⟩ : ∃ k : Nat, a = (k : Int) := ⟨a.toNat, by omega⟩
  have ka0 : 0 < ka := by omega
  have kal : ka < P.length := by omega
  obtain ⟨bb, oo, cap, rfl⟩ := h.form (by intro e; subst e; simp at kal)
  obtain ⟨c0, _, _, _, _⟩ := hk0.at kal
  have htg : (P.getD ka K.zero).tag = M.tag P (ka : Int) := by unfold M.tag; rw [kAt_in ka0 kal]
  rw [htg] at c0
  have i1 : ¬ (ka : Int) ≤ 0 := by omega
  have i2 : (0 : Int) < (ka : Int) := by omega
  have i3 : (ka : Int) < (P.length : Int) := by omega
  obtain ⟨tg, htgg⟩ : ∃ t, t = M.tag P (ka : Int) := ⟨_, rfl⟩
  rw [← htgg] at c0 hr
  have htl : tg < 256 := by rw [htgg]; exact (h.at_fit (ka : Int)).1
  have t7 : ((tg : Int) == 7) = decide (tg = 7) := by rw [Bool.eq_iff_iff]; simp <;> omega
  have Hr := hide hr
  clear hr htgg htg h hcl ho hin
  by_cases e7 : tg = 7
  · rw [decide_eq_true e7] at t7
    generalize M.cls P (ka : Int) = nl at *
    obtain ⟨dd, hdd⟩ : ∃ d, d = dims nl := ⟨_, rfl⟩
    rw [← hdd] at HD Hr
    clear hdd
    by_cases hc : dd < 255
    · have x1 : (dd : Int) < 255 := by omega
      go_enter Tryz.func97, Tryz.ntmps97
      go_wp2_with fail
      refine (unhide HC _ hk0).mono ?_
      rintro e w2 ⟨⟨x, rfl⟩, hw⟩
      subst hw
      go_wp2_with fail
      refine (unhide HD _).mono ?_
      rintro e w3 ⟨rfl, hb3⟩
      have hbz := hbx.trans (hb3.mono hbx.size)
      go_wp2
      go_ret
      exact ⟨by rw [unhide Hr]; simp [e7, hc] <;> first | rfl | omega, hbz⟩
    · have x1 : ¬ (dd : Int) < 255 := by omega
      go_enter Tryz.func97, Tryz.ntmps97
      go_wp2_with fail
      refine (unhide HC _ hk0).mono ?_
      rintro e w2 ⟨⟨x, rfl⟩, hw⟩
      subst hw
      go_wp2_with fail
      refine (unhide HD _).mono ?_
      rintro e w3 ⟨rfl, hb3⟩
      have hbz := hbx.trans (hb3.mono hbx.size)
      go_wp2
      go_ret
      exact ⟨by rw [unhide Hr]; simp [e7, hc] <;> first | rfl | omega, hbz⟩
  · rw [decide_eq_false e7] at t7
    go_enter Tryz.func97, Tryz.ntmps97
    go_wp2_with fail
    refine (unhide HC _ hk0).mono ?_
    rintro e w2 ⟨⟨x, rfl⟩, hw⟩
    subst hw
    go_wp2
    go_ret
    exact ⟨by rw [unhide Hr]; simp [e7] <;> rfl, hbx⟩

set_option maxRecDepth 100000 in
set_option maxHeartbeats 2000000 in
theorem operand_189_out (c : Cw.V) (v : Value) (P : List K) (w : World) (H : Opd c v P w) (hop : c.g.op = 189) (hin : ¬ (0 < c.g.a ∧ c.g.a < (P.length : Int))) :
    Calls Tryz.prog 97 #[.agg c.arr, v] w fun e w' => e = .returned (.bool (opdB P 189 c.g.a c.g.b)) ∧ Below w.heap.size w w' := by
  obtain ⟨h, hP, hS, ho⟩ := H
  have hbx := (Below.refl w.heap.size w).alloc (Nat.le_refl _) (.cells c.arr 112)
  have hk0 := h.below hbx
  have HC := hide (fun (w : World) (h : KIn w v P) => Kn.ClassOf_any v P c.g.a w h hP)
  have hcl := hS.cls c.g.a
  have HD := hide (fun w => rdims_any ⟨(M.cls P c.g.a).toArray⟩ w (by rw [size_of]; exact hcl))
  rw [data_of] at HD
  obtain ⟨r, hr⟩ : ∃ r, r = opdB P 189 c.g.a c.g.b := ⟨_, rfl⟩
  rw [← hr]
  unfold opdB at hr
  simp only [Nat.reduceEqDiff, Nat.reduceLeDiff, or_false, false_or, or_self, and_self, and_true, true_and, and_false, false_and, if_true, if_false, reduceIte] at hr
  obtain ⟨⟨at_, op, wide, a, b, low, keys, tgts⟩, kv, tv⟩ := c
  unfold Cw.V.arr at *
  simp only at *
  subst hop
  simp only [show ((189 : Nat) : Int) = 189 from rfl] at *
  have htg : M.tag P a = 0 := by unfold M.tag; rw [kAt_out hin]; rfl
  obtain ⟨ad, cap, e, _⟩ := h.ex
  subst e
  rw [htg] at hr
  have Hr := hide hr
  clear hr h hcl ho
  by_cases ha0 : 0 < a
  · have ha1 : ¬ a < (P.length : Int) := by omega
    clear hin
    go_enter Tryz.func97, Tryz.ntmps97
    go_wp2_with fail
    refine (unhide HC _ hk0).mono ?_
    rintro e w2 ⟨⟨x, rfl⟩, hw⟩
    subst hw
    go_wp2
    go_ret
    exact ⟨by rw [unhide Hr]; first | rfl | simp, hbx⟩
  · clear hin
    go_enter Tryz.func97, Tryz.ntmps97
    go_wp2_with fail
    refine (unhide HC _ hk0).mono ?_
    rintro e w2 ⟨⟨x, rfl⟩, hw⟩
    subst hw
    go_wp2
    go_ret
    exact ⟨by rw [unhide Hr]; first | rfl | simp, hbx⟩

set_option maxRecDepth 100000 in
set_option maxHeartbeats 2000000 in
theorem operand_192_in (c : Cw.V) (v : Value) (P : List K) (w : World) (H : Opd c v P w) (hop : c.g.op = 192) (hin : 0 < c.g.a ∧ c.g.a < (P.length : Int)) :
    Calls Tryz.prog 97 #[.agg c.arr, v] w fun e w' => e = .returned (.bool (opdB P 192 c.g.a c.g.b)) ∧ Below w.heap.size w w' := by
  obtain ⟨h, hP, hS, ho⟩ := H
  have hbx := (Below.refl w.heap.size w).alloc (Nat.le_refl _) (.cells c.arr 112)
  have hk0 := h.below hbx
  have HC := hide (fun (w : World) (h : KIn w v P) => Kn.ClassOf_any v P c.g.a w h hP)
  have hcl := hS.cls c.g.a
  obtain ⟨r, hr⟩ : ∃ r, r = opdB P 192 c.g.a c.g.b := ⟨_, rfl⟩
  rw [← hr]
  unfold opdB at hr
  simp only [Nat.reduceEqDiff, Nat.reduceLeDiff, or_false, false_or, or_self, and_self, and_true, true_and, and_false, false_and, if_true, if_false, reduceIte] at hr
  obtain ⟨⟨at_, op, wide, a, b, low, keys, tgts⟩, kv, tv⟩ := c
  unfold Cw.V.arr at *
  simp only at *
  subst hop
  simp only [show ((192 : Nat) : Int) = 192 from rfl] at *
  obtain ⟨ka, rfl⟩ : ∃ k : Nat, a = (k : Int) := ⟨a.toNat, by omega⟩
  have ka0 : 0 < ka := by omega
  have kal : ka < P.length := by omega
  obtain ⟨bb, oo, cap, rfl⟩ := h.form (by intro e; subst e; simp at kal)
  obtain ⟨c0, _, _, _, _⟩ := hk0.at kal
  have htg : (P.getD ka K.zero).tag = M.tag P (ka : Int) := by unfold M.tag; rw [kAt_in ka0 kal]
  rw [htg] at c0
  have i1 : ¬ (ka : Int) ≤ 0 := by omega
  have i2 : (0 : Int) < (ka : Int) := by omega
  have i3 : (ka : Int) < (P.length : Int) := by omega
  obtain ⟨tg, htgg⟩ : ∃ t, t = M.tag P (ka : Int) := ⟨_, rfl⟩
  rw [← htgg] at c0 hr
  have htl : tg < 256 := by rw [htgg]; exact (h.at_fit (ka : Int)).1
  have t7 : ((tg : Int) == 7) = decide (tg = 7) := by rw [Bool.eq_iff_iff]; simp <;> omega
  have Hr := hide hr
  clear hr htgg htg h hcl ho hin
  by_cases e7 : tg = 7
  · rw [decide_eq_true e7] at t7
    go_enter Tryz.func97, Tryz.ntmps97
    go_wp2_with fail
    refine (unhide HC _ hk0).mono ?_
    rintro e w2 ⟨⟨x, rfl⟩, hw⟩
    subst hw
    go_wp2
    go_ret
    exact ⟨by rw [unhide Hr]; simp [e7] <;> rfl, hbx⟩
  · rw [decide_eq_false e7] at t7
    go_enter Tryz.func97, Tryz.ntmps97
    go_wp2_with fail
    refine (unhide HC _ hk0).mono ?_
    rintro e w2 ⟨⟨x, rfl⟩, hw⟩
    subst hw
    go_wp2
    go_ret
    exact ⟨by rw [unhide Hr]; simp [e7] <;> rfl, hbx⟩

set_option maxRecDepth 100000 in
set_option maxHeartbeats 2000000 in
theorem operand_192_out (c : Cw.V) (v : Value) (P : List K) (w : World) (H : Opd c v P w) (hop : c.g.op = 192) (hin : ¬ (0 < c.g.a ∧ c.g.a < (P.length : Int))) :
    Calls Tryz.prog 97 #[.agg c.arr, v] w fun e w' => e = .returned (.bool (opdB P 192 c.g.a c.g.b)) ∧ Below w.heap.size w w' := by
  obtain ⟨h, hP, hS, ho⟩ := H
  have hbx := (Below.refl w.heap.size w).alloc (Nat.le_refl _) (.cells c.arr 112)
  have hk0 := h.below hbx
  have HC := hide (fun (w : World) (h : KIn w v P) => Kn.ClassOf_any v P c.g.a w h hP)
  have hcl := hS.cls c.g.a
  obtain ⟨r, hr⟩ : ∃ r, r = opdB P 192 c.g.a c.g.b := ⟨_, rfl⟩
  rw [← hr]
  unfold opdB at hr
  simp only [Nat.reduceEqDiff, Nat.reduceLeDiff, or_false, false_or, or_self, and_self, and_true, true_and, and_false, false_and, if_true, if_false, reduceIte] at hr
  obtain ⟨⟨at_, op, wide, a, b, low, keys, tgts⟩, kv, tv⟩ := c
  unfold Cw.V.arr at *
  simp only at *
  subst hop
  simp only [show ((192 : Nat) : Int) = 192 from rfl] at *
  have htg : M.tag P a = 0 := by unfold M.tag; rw [kAt_out hin]; rfl
  obtain ⟨ad, cap, e, _⟩ := h.ex
  subst e
  rw [htg] at hr
  have Hr := hide hr
  clear hr h hcl ho
  by_cases ha0 : 0 < a
  · have ha1 : ¬ a < (P.length : Int) := by omega
    clear hin
    go_enter Tryz.func97, Tryz.ntmps97
    go_wp2_with fail
    refine (unhide HC _ hk0).mono ?_
    rintro e w2 ⟨⟨x, rfl⟩, hw⟩
    subst hw
    go_wp2
    go_ret
    exact ⟨by rw [unhide Hr]; first | rfl | simp, hbx⟩
  · clear hin
    go_enter Tryz.func97, Tryz.ntmps97
    go_wp2_with fail
    refine (unhide HC _ hk0).mono ?_
    rintro e w2 ⟨⟨x, rfl⟩, hw⟩
    subst hw
    go_wp2
    go_ret
    exact ⟨by rw [unhide Hr]; first | rfl | simp, hbx⟩

set_option maxRecDepth 100000 in
set_option maxHeartbeats 2000000 in
theorem operand_193_in (c : Cw.V) (v : Value) (P : List K) (w : World) (H : Opd c v P w) (hop : c.g.op = 193) (hin : 0 < c.g.a ∧ c.g.a < (P.length : Int)) :
    Calls Tryz.prog 97 #[.agg c.arr, v] w fun e w' => e = .returned (.bool (opdB P 193 c.g.a c.g.b)) ∧ Below w.heap.size w w' := by
  obtain ⟨h, hP, hS, ho⟩ := H
  have hbx := (Below.refl w.heap.size w).alloc (Nat.le_refl _) (.cells c.arr 112)
  have hk0 := h.below hbx
  have HC := hide (fun (w : World) (h : KIn w v P) => Kn.ClassOf_any v P c.g.a w h hP)
  have hcl := hS.cls c.g.a
  obtain ⟨r, hr⟩ : ∃ r, r = opdB P 193 c.g.a c.g.b := ⟨_, rfl⟩
  rw [← hr]
  unfold opdB at hr
  simp only [Nat.reduceEqDiff, Nat.reduceLeDiff, or_false, false_or, or_self, and_self, and_true, true_and, and_false, false_and, if_true, if_false, reduceIte] at hr
  obtain ⟨⟨at_, op, wide, a, b, low, keys, tgts⟩, kv, tv⟩ := c
  unfold Cw.V.arr at *
  simp only at *
  subst hop
  simp only [show ((193 : Nat) : Int) = 193 from rfl] at *
  obtain ⟨ka, rfl⟩ : ∃ k : Nat, a = (k : Int) := ⟨a.toNat, by omega⟩
  have ka0 : 0 < ka := by omega
  have kal : ka < P.length := by omega
  obtain ⟨bb, oo, cap, rfl⟩ := h.form (by intro e; subst e; simp at kal)
  obtain ⟨c0, _, _, _, _⟩ := hk0.at kal
  have htg : (P.getD ka K.zero).tag = M.tag P (ka : Int) := by unfold M.tag; rw [kAt_in ka0 kal]
  rw [htg] at c0
  have i1 : ¬ (ka : Int) ≤ 0 := by omega
  have i2 : (0 : Int) < (ka : Int) := by omega
  have i3 : (ka : Int) < (P.length : Int) := by omega
  obtain ⟨tg, htgg⟩ : ∃ t, t = M.tag P (ka : Int) := ⟨_, rfl⟩
  rw [← htgg] at c0 hr
  have htl : tg < 256 := by rw [htgg]; exact (h.at_fit (ka : Int)).1
  have t7 : ((tg : Int) == 7) = decide (tg = 7) := by rw [Bool.eq_iff_iff]; simp <;> omega
  have Hr := hide hr
  clear hr htgg htg h hcl ho hin
  by_cases e7 : tg = 7
  · rw [decide_eq_true e7] at t7
    go_enter Tryz.func97, Tryz.ntmps97
    go_wp2_with fail
    refine (unhide HC _ hk0).mono ?_
    rintro e w2 ⟨⟨x, rfl⟩, hw⟩
    subst hw
    go_wp2
    go_ret
    exact ⟨by rw [unhide Hr]; simp [e7] <;> rfl, hbx⟩
  · rw [decide_eq_false e7] at t7
    go_enter Tryz.func97, Tryz.ntmps97
    go_wp2_with fail
    refine (unhide HC _ hk0).mono ?_
    rintro e w2 ⟨⟨x, rfl⟩, hw⟩
    subst hw
    go_wp2
    go_ret
    exact ⟨by rw [unhide Hr]; simp [e7] <;> rfl, hbx⟩

set_option maxRecDepth 100000 in
set_option maxHeartbeats 2000000 in
theorem operand_193_out (c : Cw.V) (v : Value) (P : List K) (w : World) (H : Opd c v P w) (hop : c.g.op = 193) (hin : ¬ (0 < c.g.a ∧ c.g.a < (P.length : Int))) :
    Calls Tryz.prog 97 #[.agg c.arr, v] w fun e w' => e = .returned (.bool (opdB P 193 c.g.a c.g.b)) ∧ Below w.heap.size w w' := by
  obtain ⟨h, hP, hS, ho⟩ := H
  have hbx := (Below.refl w.heap.size w).alloc (Nat.le_refl _) (.cells c.arr 112)
  have hk0 := h.below hbx
  have HC := hide (fun (w : World) (h : KIn w v P) => Kn.ClassOf_any v P c.g.a w h hP)
  have hcl := hS.cls c.g.a
  obtain ⟨r, hr⟩ : ∃ r, r = opdB P 193 c.g.a c.g.b := ⟨_, rfl⟩
  rw [← hr]
  unfold opdB at hr
  simp only [Nat.reduceEqDiff, Nat.reduceLeDiff, or_false, false_or, or_self, and_self, and_true, true_and, and_false, false_and, if_true, if_false, reduceIte] at hr
  obtain ⟨⟨at_, op, wide, a, b, low, keys, tgts⟩, kv, tv⟩ := c
  unfold Cw.V.arr at *
  simp only at *
  subst hop
  simp only [show ((193 : Nat) : Int) = 193 from rfl] at *
  have htg : M.tag P a = 0 := by unfold M.tag; rw [kAt_out hin]; rfl
  obtain ⟨ad, cap, e, _⟩ := h.ex
  subst e
  rw [htg] at hr
  have Hr := hide hr
  clear hr h hcl ho
  by_cases ha0 : 0 < a
  · have ha1 : ¬ a < (P.length : Int) := by omega
    clear hin
    go_enter Tryz.func97, Tryz.ntmps97
    go_wp2_with fail
    refine (unhide HC _ hk0).mono ?_
    rintro e w2 ⟨⟨x, rfl⟩, hw⟩
    subst hw
    go_wp2
    go_ret
    exact ⟨by rw [unhide Hr]; first | rfl | simp, hbx⟩
  · clear hin
    go_enter Tryz.func97, Tryz.ntmps97
    go_wp2_with fail
    refine (unhide HC _ hk0).mono ?_
    rintro e w2 ⟨⟨x, rfl⟩, hw⟩
    subst hw
    go_wp2
    go_ret
    exact ⟨by rw [unhide Hr]; first | rfl | simp, hbx⟩

set_option maxRecDepth 100000 in
set_option maxHeartbeats 2000000 in
theorem operand_197_in (c : Cw.V) (v : Value) (P : List K) (w : World) (H : Opd c v P w) (hop : c.g.op = 197) (hin : 0 < c.g.a ∧ c.g.a < (P.length : Int)) :
    Calls Tryz.prog 97 #[.agg c.arr, v] w fun e w' => e = .returned (.bool (opdB P 197 c.g.a c.g.b)) ∧ Below w.heap.size w w' := by
  obtain ⟨h, hP, hS, ho⟩ := H
  have hbx := (Below.refl w.heap.size w).alloc (Nat.le_refl _) (.cells c.arr 112)
  have hk0 := h.below hbx
  have HC := hide (fun (w : World) (h : KIn w v P) => Kn.ClassOf_any v P c.g.a w h hP)
  have hcl := hS.cls c.g.a
  have HD := hide (fun w => rdims_any ⟨(M.cls P c.g.a).toArray⟩ w (by rw [size_of]; exact hcl))
  rw [data_of] at HD
  obtain ⟨r, hr⟩ : ∃ r, r = opdB P 197 c.g.a c.g.b := ⟨_, rfl⟩
  rw [← hr]
  unfold opdB at hr
  simp only [Nat.reduceEqDiff, Nat.reduceLeDiff, or_false, false_or, or_self, and_self, and_true, true_and, and_false, false_and, if_true, if_false, reduceIte] at hr
  obtain ⟨⟨at_, op, wide, a, b, low, keys, tgts⟩, kv, tv⟩ := c
  unfold Cw.V.arr at *
  simp only at *
  subst hop
  simp only [show ((197 : Nat) : Int) = 197 from rfl] at *
  obtain ⟨ka, rfl⟩ : ∃ k : Nat, a = (k : Int) := ⟨a.toNat, by omega⟩
  have ka0 : 0 < ka := by omega
  have kal : ka < P.length := by omega
  obtain ⟨bb, oo, cap, rfl⟩ := h.form (by intro e; subst e; simp at kal)
  obtain ⟨c0, _, _, _, _⟩ := hk0.at kal
  have htg : (P.getD ka K.zero).tag = M.tag P (ka : Int) := by unfold M.tag; rw [kAt_in ka0 kal]
  rw [htg] at c0
  have i1 : ¬ (ka : Int) ≤ 0 := by omega
  have i2 : (0 : Int) < (ka : Int) := by omega
  have i3 : (ka : Int) < (P.length : Int) := by omega
  obtain ⟨tg, htgg⟩ : ∃ t, t = M.tag P (ka : Int) := ⟨_, rfl⟩
  rw [← htgg] at c0 hr
  have htl : tg < 256 := by rw [htgg]; exact (h.at_fit (ka : Int)).1
  have t7 : ((tg : Int) == 7) = decide (tg = 7) := by rw [Bool.eq_iff_iff]; simp <;> omega
  have Hr := hide hr
  clear hr htgg htg h hcl ho hin
  have hX := Bk.new w #[.int .i64 at_, .int .u8 197, .bool wide, .int .i64 (ka : Int), .int .i64 b, .int .i64 low, kv, tv] 112
  haveI : Nonempty (Bw (w.alloc (.cells #[.int .i64 at_, .int .u8 197, .bool wide, .int .i64 (ka : Int), .int .i64 b, .int .i64 low, kv, tv] 112))) := ⟨⟨_, Below.refl _ _⟩⟩
  have p4 : ∀ p : Bw (w.alloc (.cells #[.int .i64 at_, .int .u8 197, .bool wide, .int .i64 (ka : Int), .int .i64 b, .int .i64 low, kv, tv] 112)), p.x.cell? ⟨w.heap.size, 4, none⟩ = some (.int .i64 b) := fun p => (hX.below p.h).cell 4
  by_cases e7 : tg = 7
  · rw [decide_eq_true e7] at t7
    generalize M.cls P (ka : Int) = nl at *
    obtain ⟨dd, hdd⟩ : ∃ d, d = dims nl := ⟨_, rfl⟩
    rw [← hdd] at HD Hr
    clear hdd
    by_cases hc : b ≤ (dd : Int)
    · have x1 : b ≤ (dd : Int) := hc
      go_enter Tryz.func97, Tryz.ntmps97
      go_wp2_with fail
      refine (unhide HC _ hk0).mono ?_
      rintro e w2 ⟨⟨x, rfl⟩, hw⟩
      subst hw
      go_wp2_with fail
      refine wp_region_bw (by kernel_rfl) (by kernel_rfl) ?_
      repeat (refine wpQuiet_step (fun K hK => ?_)
              go_simp
              first
              | (refine hK _ ?_; clear hK K)
              | (apply Exists.intro
                 refine ⟨fun p => ?_, hK _ ?_⟩
                 · (go_at_call 120; refine (unhide HD _).mono ?_; rintro r w3 ⟨rfl, hg3⟩; exact ⟨rfl, ⟨w3, p.h.trans (hg3.mono p.h.size)⟩, rfl⟩)
                 clear hK K))
      refine wpQuiet_nil ?_
      rintro _ ⟨p, rfl⟩
      have hbz := hbx.trans (p.h.mono hbx.size)
      go_wp2
      go_ret
      exact ⟨by rw [unhide Hr]; simp [e7, hc] <;> first | rfl | omega, hbz⟩
    · have x1 : ¬ b ≤ (dd : Int) := hc
      go_enter Tryz.func97, Tryz.ntmps97
      go_wp2_with fail
      refine (unhide HC _ hk0).mono ?_
      rintro e w2 ⟨⟨x, rfl⟩, hw⟩
      subst hw
      go_wp2_with fail
      refine wp_region_bw (by kernel_rfl) (by kernel_rfl) ?_
      repeat (refine wpQuiet_step (fun K hK => ?_)
              go_simp
              first
              | (refine hK _ ?_; clear hK K)
              | (apply Exists.intro
                 refine ⟨fun p => ?_, hK _ ?_⟩
                 · (go_at_call 120; refine (unhide HD _).mono ?_; rintro r w3 ⟨rfl, hg3⟩; exact ⟨rfl, ⟨w3, p.h.trans (hg3.mono p.h.size)⟩, rfl⟩)
                 clear hK K))
      refine wpQuiet_nil ?_
      rintro _ ⟨p, rfl⟩
      have hbz := hbx.trans (p.h.mono hbx.size)
      go_wp2
      go_ret
      exact ⟨by rw [unhide Hr]; simp [e7, hc] <;> first | rfl | omega, hbz⟩
  · rw [decide_eq_false e7] at t7
    go_enter Tryz.func97, Tryz.ntmps97
    go_wp2_with fail
    refine (unhide HC _ hk0).mono ?_
    rintro e w2 ⟨⟨x, rfl⟩, hw⟩
    subst hw
    go_wp2_with fail
    refine wp_region_bw (by kernel_rfl) (by kernel_rfl) ?_
    repeat (refine wpQuiet_step (fun K hK => ?_)
            go_simp
            first
            | (refine hK _ ?_; clear hK K)
            | (apply Exists.intro
               refine ⟨fun p => ?_, hK _ ?_⟩
               · (go_at_call 120; refine (unhide HD _).mono ?_; rintro r w3 ⟨rfl, hg3⟩; exact ⟨rfl, ⟨w3, p.h.trans (hg3.mono p.h.size)⟩, rfl⟩)
               clear hK K))
    refine wpQuiet_nil ?_
    rintro _ ⟨p, rfl⟩
    have hbz := hbx.trans (p.h.mono hbx.size)
    go_wp2
    go_ret
    exact ⟨by rw [unhide Hr]; simp [e7] <;> rfl, hbz⟩

set_option maxRecDepth 100000 in
set_option maxHeartbeats 2000000 in
theorem operand_197_out (c : Cw.V) (v : Value) (P : List K) (w : World) (H : Opd c v P w) (hop : c.g.op = 197) (hin : ¬ (0 < c.g.a ∧ c.g.a < (P.length : Int))) :
    Calls Tryz.prog 97 #[.agg c.arr, v] w fun e w' => e = .returned (.bool (opdB P 197 c.g.a c.g.b)) ∧ Below w.heap.size w w' := by
  obtain ⟨h, hP, hS, ho⟩ := H
  have hbx := (Below.refl w.heap.size w).alloc (Nat.le_refl _) (.cells c.arr 112)
  have hk0 := h.below hbx
  have HC := hide (fun (w : World) (h : KIn w v P) => Kn.ClassOf_any v P c.g.a w h hP)
  have hcl := hS.cls c.g.a
  have HD := hide (fun w => rdims_any ⟨(M.cls P c.g.a).toArray⟩ w (by rw [size_of]; exact hcl))
  rw [data_of] at HD
  obtain ⟨r, hr⟩ : ∃ r, r = opdB P 197 c.g.a c.g.b := ⟨_, rfl⟩
  rw [← hr]
  unfold opdB at hr
  simp only [Nat.reduceEqDiff, Nat.reduceLeDiff, or_false, false_or, or_self, and_self, and_true, true_and, and_false, false_and, if_true, if_false, reduceIte] at hr
  obtain ⟨⟨at_, op, wide, a, b, low, keys, tgts⟩, kv, tv⟩ := c
  unfold Cw.V.arr at *
  simp only at *
  subst hop
  simp only [show ((197 : Nat) : Int) = 197 from rfl] at *
  have htg : M.tag P a = 0 := by unfold M.tag; rw [kAt_out hin]; rfl
  obtain ⟨ad, cap, e, _⟩ := h.ex
  subst e
  rw [htg] at hr
  have Hr := hide hr
  clear hr h hcl ho
  have hX := Bk.new w #[.int .i64 at_, .int .u8 197, .bool wide, .int .i64 a, .int .i64 b, .int .i64 low, kv, tv] 112
  haveI : Nonempty (Bw (w.alloc (.cells #[.int .i64 at_, .int .u8 197, .bool wide, .int .i64 a, .int .i64 b, .int .i64 low, kv, tv] 112))) := ⟨⟨_, Below.refl _ _⟩⟩
  have p4 : ∀ p : Bw (w.alloc (.cells #[.int .i64 at_, .int .u8 197, .bool wide, .int .i64 a, .int .i64 b, .int .i64 low, kv, tv] 112)), p.x.cell? ⟨w.heap.size, 4, none⟩ = some (.int .i64 b) := fun p => (hX.below p.h).cell 4
  by_cases ha0 : 0 < a
  · have ha1 : ¬ a < (P.length : Int) := by omega
    clear hin
    go_enter Tryz.func97, Tryz.ntmps97
    go_wp2_with fail
    refine (unhide HC _ hk0).mono ?_
    rintro e w2 ⟨⟨x, rfl⟩, hw⟩
    subst hw
    go_wp2_with fail
    refine wp_region_bw (by kernel_rfl) (by kernel_rfl) ?_
    repeat (refine wpQuiet_step (fun K hK => ?_)
            go_simp
            first
            | (refine hK _ ?_; clear hK K)
            | (apply Exists.intro
               refine ⟨fun p => ?_, hK _ ?_⟩
               · (go_at_call 120; refine (unhide HD _).mono ?_; rintro r w3 ⟨rfl, hg3⟩; exact ⟨rfl, ⟨w3, p.h.trans (hg3.mono p.h.size)⟩, rfl⟩)
               clear hK K))
    refine wpQuiet_nil ?_
    rintro _ ⟨p, rfl⟩
    have hbz := hbx.trans (p.h.mono hbx.size)
    go_wp2
    go_ret
    exact ⟨by rw [unhide Hr]; first | rfl | simp, hbz⟩
  · clear hin
    go_enter Tryz.func97, Tryz.ntmps97
    go_wp2_with fail
    refine (unhide HC _ hk0).mono ?_
    rintro e w2 ⟨⟨x, rfl⟩, hw⟩
    subst hw
    go_wp2_with fail
    refine wp_region_bw (by kernel_rfl) (by kernel_rfl) ?_
    repeat (refine wpQuiet_step (fun K hK => ?_)
            go_simp
            first
            | (refine hK _ ?_; clear hK K)
            | (apply Exists.intro
               refine ⟨fun p => ?_, hK _ ?_⟩
               · (go_at_call 120; refine (unhide HD _).mono ?_; rintro r w3 ⟨rfl, hg3⟩; exact ⟨rfl, ⟨w3, p.h.trans (hg3.mono p.h.size)⟩, rfl⟩)
               clear hK K))
    refine wpQuiet_nil ?_
    rintro _ ⟨p, rfl⟩
    have hbz := hbx.trans (p.h.mono hbx.size)
    go_wp2
    go_ret
    exact ⟨by rw [unhide Hr]; first | rfl | simp, hbz⟩

set_option maxRecDepth 100000 in
set_option maxHeartbeats 2000000 in
theorem operand_other_in (c : Cw.V) (v : Value) (P : List K) (w : World) (H : Opd c v P w) (hop : c.g.op ≠ 18 ∧ c.g.op ≠ 19 ∧ c.g.op ≠ 20 ∧ c.g.op ≠ 178 ∧ c.g.op ≠ 179 ∧ c.g.op ≠ 180 ∧ c.g.op ≠ 181 ∧ c.g.op ≠ 182 ∧ c.g.op ≠ 183 ∧ c.g.op ≠ 184 ∧ c.g.op ≠ 185 ∧ c.g.op ≠ 187 ∧ c.g.op ≠ 189 ∧ c.g.op ≠ 192 ∧ c.g.op ≠ 193 ∧ c.g.op ≠ 197) (hin : 0 < c.g.a ∧ c.g.a < (P.length : Int)) :
    Calls Tryz.prog 97 #[.agg c.arr, v] w fun e w' => e = .returned (.bool true) ∧ Below w.heap.size w w' := by
  obtain ⟨h, hP, hS, ho⟩ := H
  have hbx := (Below.refl w.heap.size w).alloc (Nat.le_refl _) (.cells c.arr 112)
  have hk0 := h.below hbx
  have HC := hide (fun (w : World) (h : KIn w v P) => Kn.ClassOf_any v P c.g.a w h hP)
  obtain ⟨⟨at_, op, wide, a, b, low, keys, tgts⟩, kv, tv⟩ := c
  unfold Cw.V.arr at *
  simp only at *
  have y18 : ((op : Int) == 18) = false := by rw [beq_eq_false_iff_ne]; omega
  have y19 : ((op : Int) == 19) = false := by rw [beq_eq_false_iff_ne]; omega
  have y20 : ((op : Int) == 20) = false := by rw [beq_eq_false_iff_ne]; omega
  have y178 : ((op : Int) == 178) = false := by rw [beq_eq_false_iff_ne]; omega
  have y179 : ((op : Int) == 179) = false := by rw [beq_eq_false_iff_ne]; omega
  have y180 : ((op : Int) == 180) = false := by rw [beq_eq_false_iff_ne]; omega
  have y181 : ((op : Int) == 181) = false := by rw [beq_eq_false_iff_ne]; omega
  have y182 : ((op : Int) == 182) = false := by rw [beq_eq_false_iff_ne]; omega
  have y183 : ((op : Int) == 183) = false := by rw [beq_eq_false_iff_ne]; omega
  have y184 : ((op : Int) == 184) = false := by rw [beq_eq_false_iff_ne]; omega
  have y185 : ((op : Int) == 185) = false := by rw [beq_eq_false_iff_ne]; omega
  have y187 : ((op : Int) == 187) = false := by rw [beq_eq_false_iff_ne]; omega
  have y189 : ((op : Int) == 189) = false := by rw [beq_eq_false_iff_ne]; omega
  have y192 : ((op : Int) == 192) = false := by rw [beq_eq_false_iff_ne]; omega
  have y193 : ((op : Int) == 193) = false := by rw [beq_eq_false_iff_ne]; omega
  have y197 : ((op : Int) == 197) = false := by rw [beq_eq_false_iff_ne]; omega
  obtain ⟨ka, rfl⟩ : ∃ k : Nat, a = (k : Int) := ⟨a.toNat, by omega⟩
  have ka0 : 0 < ka := by omega
  have kal : ka < P.length := by omega
  obtain ⟨bb, oo, cap, rfl⟩ := h.form (by intro e; subst e; simp at kal)
  obtain ⟨c0, _, _, _, _⟩ := hk0.at kal
  have i1 : ¬ (ka : Int) ≤ 0 := by omega
  have i2 : (0 : Int) < (ka : Int) := by omega
  have i3 : (ka : Int) < (P.length : Int) := by omega
  clear hop h ho hin
  go_enter Tryz.func97, Tryz.ntmps97
  go_wp2_with fail
  refine (unhide HC _ hk0).mono ?_
  rintro e w2 ⟨⟨x, rfl⟩, hw⟩
  subst hw
  go_wp2
  go_ret
  exact ⟨rfl, hbx⟩

set_option maxRecDepth 100000 in
set_option maxHeartbeats 2000000 in
theorem operand_other_out (c : Cw.V) (v : Value) (P : List K) (w : World) (H : Opd c v P w) (hop : c.g.op ≠ 18 ∧ c.g.op ≠ 19 ∧ c.g.op ≠ 20 ∧ c.g.op ≠ 178 ∧ c.g.op ≠ 179 ∧ c.g.op ≠ 180 ∧ c.g.op ≠ 181 ∧ c.g.op ≠ 182 ∧ c.g.op ≠ 183 ∧ c.g.op ≠ 184 ∧ c.g.op ≠ 185 ∧ c.g.op ≠ 187 ∧ c.g.op ≠ 189 ∧ c.g.op ≠ 192 ∧ c.g.op ≠ 193 ∧ c.g.op ≠ 197) (hin : ¬ (0 < c.g.a ∧ c.g.a < (P.length : Int))) :
    Calls Tryz.prog 97 #[.agg c.arr, v] w fun e w' => e = .returned (.bool true) ∧ Below w.heap.size w w' := by
  obtain ⟨h, hP, hS, ho⟩ := H
  have hbx := (Below.refl w.heap.size w).alloc (Nat.le_refl _) (.cells c.arr 112)
  have hk0 := h.below hbx
  have HC := hide (fun (w : World) (h : KIn w v P) => Kn.ClassOf_any v P c.g.a w h hP)
  obtain ⟨⟨at_, op, wide, a, b, low, keys, tgts⟩, kv, tv⟩ := c
  unfold Cw.V.arr at *
  simp only at *
  have y18 : ((op : Int) == 18) = false := by rw [beq_eq_false_iff_ne]; omega
  have y19 : ((op : Int) == 19) = false := by rw [beq_eq_false_iff_ne]; omega
  have y20 : ((op : Int) == 20) = false := by rw [beq_eq_false_iff_ne]; omega
  have y178 : ((op : Int) == 178) = false := by rw [beq_eq_false_iff_ne]; omega
  have y179 : ((op : Int) == 179) = false := by rw [beq_eq_false_iff_ne]; omega
  have y180 : ((op : Int) == 180) = false := by rw [beq_eq_false_iff_ne]; omega
  have y181 : ((op : Int) == 181) = false := by rw [beq_eq_false_iff_ne]; omega
  have y182 : ((op : Int) == 182) = false := by rw [beq_eq_false_iff_ne]; omega
  have y183 : ((op : Int) == 183) = false := by rw [beq_eq_false_iff_ne]; omega
  have y184 : ((op : Int) == 184) = false := by rw [beq_eq_false_iff_ne]; omega
  have y185 : ((op : Int) == 185) = false := by rw [beq_eq_false_iff_ne]; omega
  have y187 : ((op : Int) == 187) = false := by rw [beq_eq_false_iff_ne]; omega
  have y189 : ((op : Int) == 189) = false := by rw [beq_eq_false_iff_ne]; omega
  have y192 : ((op : Int) == 192) = false := by rw [beq_eq_false_iff_ne]; omega
  have y193 : ((op : Int) == 193) = false := by rw [beq_eq_false_iff_ne]; omega
  have y197 : ((op : Int) == 197) = false := by rw [beq_eq_false_iff_ne]; omega
  obtain ⟨ad, cap, e, _⟩ := h.ex
  subst e
  clear hop h ho
  by_cases ha0 : 0 < a
  · have ha1 : ¬ a < (P.length : Int) := by omega
    clear hin
    go_enter Tryz.func97, Tryz.ntmps97
    go_wp2_with fail
    refine (unhide HC _ hk0).mono ?_
    rintro e w2 ⟨⟨x, rfl⟩, hw⟩
    subst hw
    go_wp2
    go_ret
    exact ⟨rfl, hbx⟩
  · clear hin
    go_enter Tryz.func97, Tryz.ntmps97
    go_wp2_with fail
    refine (unhide HC _ hk0).mono ?_
    rintro e w2 ⟨⟨x, rfl⟩, hw⟩
    subst hw
    go_wp2
    go_ret
    exact ⟨rfl, hbx⟩

theorem operand_any (c : Cw.V) (v : Value) (P : List K) (w : World) (H : Opd c v P w) :
    Calls Tryz.prog 97 #[.agg c.arr, v] w fun e w' => e = .returned (.bool (opdB P c.g.op c.g.a c.g.b)) ∧ Below w.heap.size w w' := by
  by_cases hin : 0 < c.g.a ∧ c.g.a < (P.length : Int)
  · by_cases h18 : c.g.op = 18
    · rw [h18]; exact operand_18_in c v P w H h18 hin
    by_cases h19 : c.g.op = 19
    · rw [h19]; exact operand_19_in c v P w H h19 hin
    by_cases h20 : c.g.op = 20
    · rw [h20]; exact operand_20_in c v P w H h20 hin
    by_cases h178 : c.g.op = 178
    · rw [h178]; exact operand_178_in c v P w H h178 hin
    by_cases h179 : c.g.op = 179
    · rw [h179]; exact operand_179_in c v P w H h179 hin
    by_cases h180 : c.g.op = 180
    · rw [h180]; exact operand_180_in c v P w H h180 hin
    by_cases h181 : c.g.op = 181
    · rw [h181]; exact operand_181_in c v P w H h181 hin
    by_cases h182 : c.g.op = 182
    · rw [h182]; exact operand_182_in c v P w H h182 hin
    by_cases h183 : c.g.op = 183
    · rw [h183]; exact operand_183_in c v P w H h183 hin
    by_cases h184 : c.g.op = 184
    · rw [h184]; exact operand_184_in c v P w H h184 hin
    by_cases h185 : c.g.op = 185
    · rw [h185]; exact operand_185_in c v P w H h185 hin
    by_cases h187 : c.g.op = 187
    · rw [h187]; exact operand_187_in c v P w H h187 hin
    by_cases h189 : c.g.op = 189
    · rw [h189]; exact operand_189_in c v P w H h189 hin
    by_cases h192 : c.g.op = 192
    · rw [h192]; exact operand_192_in c v P w H h192 hin
    by_cases h193 : c.g.op = 193
    · rw [h193]; exact operand_193_in c v P w H h193 hin
    by_cases h197 : c.g.op = 197
    · rw [h197]; exact operand_197_in c v P w H h197 hin
    rw [show opdB P c.g.op c.g.a c.g.b = true by unfold opdB; repeat rw [if_neg (by omega)]]
    exact operand_other_in c v P w H ⟨h18, h19, h20, h178, h179, h180, h181, h182, h183, h184, h185, h187, h189, h192, h193, h197⟩ hin
  · by_cases h18 : c.g.op = 18
    · rw [h18]; exact operand_18_out c v P w H h18 hin
    by_cases h19 : c.g.op = 19
    · rw [h19]; exact operand_19_out c v P w H h19 hin
    by_cases h20 : c.g.op = 20
    · rw [h20]; exact operand_20_out c v P w H h20 hin
    by_cases h178 : c.g.op = 178
    · rw [h178]; exact operand_178_out c v P w H h178 hin
    by_cases h179 : c.g.op = 179
    · rw [h179]; exact operand_179_out c v P w H h179 hin
    by_cases h180 : c.g.op = 180
    · rw [h180]; exact operand_180_out c v P w H h180 hin
    by_cases h181 : c.g.op = 181
    · rw [h181]; exact operand_181_out c v P w H h181 hin
    by_cases h182 : c.g.op = 182
    · rw [h182]; exact operand_182_out c v P w H h182 hin
    by_cases h183 : c.g.op = 183
    · rw [h183]; exact operand_183_out c v P w H h183 hin
    by_cases h184 : c.g.op = 184
    · rw [h184]; exact operand_184_out c v P w H h184 hin
    by_cases h185 : c.g.op = 185
    · rw [h185]; exact operand_185_out c v P w H h185 hin
    by_cases h187 : c.g.op = 187
    · rw [h187]; exact operand_187_out c v P w H h187 hin
    by_cases h189 : c.g.op = 189
    · rw [h189]; exact operand_189_out c v P w H h189 hin
    by_cases h192 : c.g.op = 192
    · rw [h192]; exact operand_192_out c v P w H h192 hin
    by_cases h193 : c.g.op = 193
    · rw [h193]; exact operand_193_out c v P w H h193 hin
    by_cases h197 : c.g.op = 197
    · rw [h197]; exact operand_197_out c v P w H h197 hin
    rw [show opdB P c.g.op c.g.a c.g.b = true by unfold opdB; repeat rw [if_neg (by omega)]]
    exact operand_other_out c v P w H ⟨h18, h19, h20, h178, h179, h180, h181, h182, h183, h184, h185, h187, h189, h192, h193, h197⟩ hin
end Go.Proofs.YtddhlphbbiihjaaGreatDoor.Ck
