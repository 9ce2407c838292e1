/-
  CodeChecks: the program's indexHolds.
-/
import Derived.Test.YtddhlphbbiihjaaGreatDoorCp
set_option linter.unusedVariables false
set_option linter.unusedSimpArgs false
namespace Go.Proofs.YtddhlphbbiihjaaGreatDoor.Ck
open Go.RowKit Kn

set_option maxRecDepth 100000 in
set_option maxHeartbeats 4000000 in
theorem idx_182 (c : Cw.V) (cb mb : Nat) (pv : Value) (P : List K) (w : World) (hop : c.g.op = 182) (h : Ch w cb mb pv P) (hP : P.length ≤ 1048576) (hS : Small P) :
    Calls Tryz.prog 92 #[.pointer (some ⟨cb, 0, none⟩), .agg c.arr] w fun e w' => e = .returned (.bool (opdB P 182 c.g.a c.g.b)) ∧ Bx mb w w' ∧ Ch w' cb mb pv P := by
  have hbx := (Below.refl w.heap.size w).alloc (Nat.le_refl _) (.cells c.arr 112)
  have hX := Bk.new w c.arr 112
  have hC0 := h.below hbx
  have HCa := fun (W : World) (hW : Ch W cb mb pv P) => called_any c cb mb pv P W (by omega) hW hP hS
  have hcl := hS.cls c.g.a
  obtain ⟨r, hr⟩ : ∃ r, r = opdB P 182 c.g.a c.g.b := ⟨_, rfl⟩
  rw [← hr]
  unfold opdB at hr
  simp only [Nat.reduceEqDiff, Nat.reduceLeDiff, or_false, false_or, or_self, and_self, and_true, true_and, and_false, false_and, if_true, if_false, reduceIte] at hr
  obtain ⟨⟨at_, op, wide, a, b, low, keys, tgts⟩, kv, tv⟩ := c
  unfold Cw.V.arr at *
  simp only at *
  subst hop
  simp only [show ((182 : Nat) : Int) = 182 from rfl] at *
  have HCA := hide HCa
  have HMe := hide (fun (W : World) (hW : Ch W cb mb pv P) => method_any cb mb pv P a W hW hP hS)
  have HDi := hide (fun (W : World) (hW : Ch W cb mb pv P) => dimensions_any cb pv P a W hW.c0 hW.k hP hS)
  have HW := hide Fm.within_any
  go_enter Tryz.func92, Tryz.ntmps92
  go_wp2_with (go_at_call 110; refine (unhide HW _ _ _ _).mono ?_; rintro e w' ⟨rfl, hww⟩; subst w')
  generalize w.alloc (.cells #[.int .i64 at_, .int .u8 182, .bool wide, .int .i64 a, .int .i64 b, .int .i64 low, kv, tv] 112) = w1 at *
  have HQ : Hid (∀ W : World, (Bx mb w1 W ∧ Ch W cb mb pv P) → W.cell? ⟨cb, 0, none⟩ = some pv ∧ W.cell? ⟨w.heap.size, 0, none⟩ = some (.int .i64 at_) ∧ W.cell? ⟨w.heap.size, 1, none⟩ = some (.int .u8 182) ∧ W.cell? ⟨w.heap.size, 2, none⟩ = some (.bool wide) ∧ W.cell? ⟨w.heap.size, 3, none⟩ = some (.int .i64 a) ∧ W.cell? ⟨w.heap.size, 4, none⟩ = some (.int .i64 b) ∧ W.cell? ⟨w.heap.size, 5, none⟩ = some (.int .i64 low) ∧ W.cell? ⟨w.heap.size, 6, none⟩ = some kv ∧ W.cell? ⟨w.heap.size, 7, none⟩ = some tv) := fun W hW =>
    ⟨hW.2.c0, hW.1.cell hC0.mp (hX.cell 0), hW.1.cell hC0.mp (hX.cell 1), hW.1.cell hC0.mp (hX.cell 2), hW.1.cell hC0.mp (hX.cell 3), hW.1.cell hC0.mp (hX.cell 4), hW.1.cell hC0.mp (hX.cell 5), hW.1.cell hC0.mp (hX.cell 6), hW.1.cell hC0.mp (hX.cell 7)⟩
  have HH := hide (fun (W : World) (tv : Value) (hW : Ch W cb mb pv P) (ht : UIn W tv [10]) => Kn.Has_any pv tv P [10] a W hW.k hP ht (by simp))
  have HU : Hid (UIn (w1.alloc (.cells #[.int .u8 10] 5)).drew (.slice (some ⟨w1.heap.size, 0, none⟩) 1 1) [10]) := UIn.list w1 [10]
  have hbA : Below w1.heap.size w1 (w1.alloc (.cells #[.int .u8 10] 5)).drew := ((Below.refl _ _).alloc (Nat.le_refl _) _).drew
  have HA : Hid (Bx mb w1 (w1.alloc (.cells #[.int .u8 10] 5)).drew ∧ Ch (w1.alloc (.cells #[.int .u8 10] 5)).drew cb mb pv P) := ⟨Bx.of hbA, hC0.below hbA⟩
  have hb0 : Below w1.heap.size w1 w1.drew := (Below.refl _ _).drew
  have H0 : Hid (Bx mb w1 w1.drew ∧ Ch w1.drew cb mb pv P) := ⟨Bx.of hb0, hC0.below hb0⟩
  have HB : Hid (Bx mb w w1) := Bx.of hbx
  obtain ⟨hb, hhb⟩ : ∃ x, x = ([10] : List Nat).contains (M.tag P a) := ⟨_, rfl⟩
  rw [← hhb] at HH
  have e1 : decide (M.tag P a = 10) = hb := by rw [hhb, Bool.eq_iff_iff]; simp
  have e2 : calB P 182 a b = calP P 182 a := calB_other a b (by decide)
  rw [e1, e2] at hr
  generalize calP P 182 a = cp at *
  have Hr := hide hr
  clear e1 e2
  clear hhb hr hbx hX hC0 hbA hb0 HCa hcl
  cases hb
  · skip
    refine wp_region_held_drew (S := fun W => Bx mb w1 W ∧ Ch W cb mb pv P) (by kernel_rfl) (unhide H0) (fun hHeld => ?_)
    refine wpAnyH_take (i := 0) (oi := _) (v := ?_) rfl (by kernel_rfl) (by kernel_rfl) (by kernel_rfl) (fun _ _ _ h => h) (Or.inl ⟨by rfl, ?_⟩) (by assumption) ?_
    rotate_left
    · intro W hW
      go_simp
      try rfl
    try simp only [Act.put, q1, q2, q3, q4, q5, q6]
    refine wpAnyH_take (i := 1) (oi := _) (v := ?_) rfl (by kernel_rfl) (by kernel_rfl) (by kernel_rfl) (fun _ _ _ h => h) (Or.inl ⟨by rfl, ?_⟩) (by assumption) ?_
    rotate_left
    · intro W hW
      go_simp
      try rfl
    try simp only [Act.put, q1, q2, q3, q4, q5, q6]
    refine wpAnyH_take (i := 2) (oi := _) (v := ?_) rfl (by kernel_rfl) (by kernel_rfl) (by kernel_rfl) (fun _ _ _ h => h) (Or.inl ⟨by rfl, ?_⟩) (by assumption) ?_
    rotate_left
    · intro W hW
      go_simp
      try rfl
    try simp only [Act.put, q1, q2, q3, q4, q5, q6]
    refine wpAnyH_take (i := 3) (oi := _) (v := ?_) rfl (by kernel_rfl) (by kernel_rfl) (by kernel_rfl) (fun _ _ _ h => h) (Or.inl ⟨by rfl, ?_⟩) (by assumption) ?_
    rotate_left
    · intro W hW
      have qc := (unhide HQ W hW).1
      go_simp
      try rfl
    try simp only [Act.put, q1, q2, q3, q4, q5, q6]
    refine wpAnyH_take (i := 4) (oi := _) (v := ?_) rfl (by kernel_rfl) (by kernel_rfl) (by kernel_rfl) (fun _ _ _ h => h) (Or.inl ⟨by rfl, ?_⟩) (by assumption) ?_
    rotate_left
    · intro W hW
      go_simp
      try rfl
    try simp only [Act.put, q1, q2, q3, q4, q5, q6]
    refine wpAnyH_take (i := 5) (oi := _) (v := ?_) rfl (by kernel_rfl) (by kernel_rfl) (by kernel_rfl) (fun _ _ _ h => h) (Or.inl ⟨by rfl, ?_⟩) (by assumption) ?_
    rotate_left
    · intro W hW
      have q3 := (unhide HQ W hW).2.2.2.2.1
      go_simp
      try rfl
    try simp only [Act.put, q1, q2, q3, q4, q5, q6]
    refine wpAnyH_ready (rs := [6]) (by kernel_rfl) (by simp) ?_
    refine AllReadyH.cons (o := _) rfl (fun K hK => ?_) AllReadyH.nil
    go_simp
    refine hK.out _ _ (unhide HA) (fun hHeld => ?_)
    clear hK K
    try simp only [Act.put, q1, q2, q3, q4, q5, q6]
    refine wpAnyH_ready (rs := [7]) (by kernel_rfl) (by simp) ?_
    refine AllReadyH.cons (o := _) rfl (fun K hK => ?_) AllReadyH.nil
    go_simp
    go_at_call 21
    refine (unhide HH _ _ hHeld.2 (unhide HU)).mono ?_
    rintro e wH ⟨rfl, hbH⟩
    try go_simp
    refine hK.out _ _ ⟨hHeld.1.trans (Bx.of hbH), hHeld.2.below hbH⟩ (fun hHeld => ?_)
    clear hK K
    try simp only [Act.put, q1, q2, q3, q4, q5, q6]
    refine wpAnyH_take (i := 8) (oi := _) (v := ?_) rfl (by kernel_rfl) (by kernel_rfl) (by kernel_rfl) (fun _ _ _ h => h) (Or.inl ⟨by rfl, ?_⟩) (by assumption) ?_
    rotate_left
    · intro W hW
      go_simp
      try rfl
    try simp only [Act.put, q1, q2, q3, q4, q5, q6]
    refine wpAnyH_take (i := 9) (oi := _) (v := undef) rfl (by kernel_rfl) (by kernel_rfl) (by kernel_rfl) (fun _ _ _ h => h) (Or.inr ⟨by rfl, rfl⟩) (by assumption) ?_
    try simp only [Act.put, q1, q2, q3, q4, q5, q6]
    refine wpAnyH_take (i := 10) (oi := _) (v := undef) rfl (by kernel_rfl) (by kernel_rfl) (by kernel_rfl) (fun _ _ _ h => h) (Or.inr ⟨by rfl, rfl⟩) (by assumption) ?_
    try simp only [Act.put, q1, q2, q3, q4, q5, q6]
    refine wpAnyH_take (i := 11) (oi := _) (v := undef) rfl (by kernel_rfl) (by kernel_rfl) (by kernel_rfl) (fun _ _ _ h => h) (Or.inr ⟨by rfl, rfl⟩) (by assumption) ?_
    try simp only [Act.put, q1, q2, q3, q4, q5, q6]
    refine wpAnyH_take (i := 12) (oi := _) (v := ?_) rfl (by kernel_rfl) (by kernel_rfl) (by kernel_rfl) (fun _ _ _ h => h) (Or.inl ⟨by rfl, ?_⟩) (by assumption) ?_
    rotate_left
    · intro W hW
      go_simp
      try rfl
    try simp only [Act.put, q1, q2, q3, q4, q5, q6]
    refine wpAnyH_take (i := 13) (oi := _) (v := ?_) rfl (by kernel_rfl) (by kernel_rfl) (by kernel_rfl) (fun _ _ _ h => h) (Or.inl ⟨by rfl, ?_⟩) (by assumption) ?_
    rotate_left
    · intro W hW
      go_simp
      try rfl
    try simp only [Act.put, q1, q2, q3, q4, q5, q6]
    refine wpAnyH_done (by kernel_rfl) ?_ _
    go_wp2
    go_ret
    exact ⟨by rw [unhide Hr]; rfl, (unhide HB).trans hHeld.1, hHeld.2⟩
  · skip
    refine wp_region_held_drew (S := fun W => Bx mb w1 W ∧ Ch W cb mb pv P) (by kernel_rfl) (unhide H0) (fun hHeld => ?_)
    refine wpAnyH_take (i := 0) (oi := _) (v := ?_) rfl (by kernel_rfl) (by kernel_rfl) (by kernel_rfl) (fun _ _ _ h => h) (Or.inl ⟨by rfl, ?_⟩) (by assumption) ?_
    rotate_left
    · intro W hW
      go_simp
      try rfl
    try simp only [Act.put, q1, q2, q3, q4, q5, q6]
    refine wpAnyH_take (i := 1) (oi := _) (v := ?_) rfl (by kernel_rfl) (by kernel_rfl) (by kernel_rfl) (fun _ _ _ h => h) (Or.inl ⟨by rfl, ?_⟩) (by assumption) ?_
    rotate_left
    · intro W hW
      go_simp
      try rfl
    try simp only [Act.put, q1, q2, q3, q4, q5, q6]
    refine wpAnyH_take (i := 2) (oi := _) (v := ?_) rfl (by kernel_rfl) (by kernel_rfl) (by kernel_rfl) (fun _ _ _ h => h) (Or.inl ⟨by rfl, ?_⟩) (by assumption) ?_
    rotate_left
    · intro W hW
      go_simp
      try rfl
    try simp only [Act.put, q1, q2, q3, q4, q5, q6]
    refine wpAnyH_take (i := 3) (oi := _) (v := ?_) rfl (by kernel_rfl) (by kernel_rfl) (by kernel_rfl) (fun _ _ _ h => h) (Or.inl ⟨by rfl, ?_⟩) (by assumption) ?_
    rotate_left
    · intro W hW
      have qc := (unhide HQ W hW).1
      go_simp
      try rfl
    try simp only [Act.put, q1, q2, q3, q4, q5, q6]
    refine wpAnyH_take (i := 4) (oi := _) (v := ?_) rfl (by kernel_rfl) (by kernel_rfl) (by kernel_rfl) (fun _ _ _ h => h) (Or.inl ⟨by rfl, ?_⟩) (by assumption) ?_
    rotate_left
    · intro W hW
      go_simp
      try rfl
    try simp only [Act.put, q1, q2, q3, q4, q5, q6]
    refine wpAnyH_take (i := 5) (oi := _) (v := ?_) rfl (by kernel_rfl) (by kernel_rfl) (by kernel_rfl) (fun _ _ _ h => h) (Or.inl ⟨by rfl, ?_⟩) (by assumption) ?_
    rotate_left
    · intro W hW
      have q3 := (unhide HQ W hW).2.2.2.2.1
      go_simp
      try rfl
    try simp only [Act.put, q1, q2, q3, q4, q5, q6]
    refine wpAnyH_ready (rs := [6]) (by kernel_rfl) (by simp) ?_
    refine AllReadyH.cons (o := _) rfl (fun K hK => ?_) AllReadyH.nil
    go_simp
    refine hK.out _ _ (unhide HA) (fun hHeld => ?_)
    clear hK K
    try simp only [Act.put, q1, q2, q3, q4, q5, q6]
    refine wpAnyH_ready (rs := [7]) (by kernel_rfl) (by simp) ?_
    refine AllReadyH.cons (o := _) rfl (fun K hK => ?_) AllReadyH.nil
    go_simp
    go_at_call 21
    refine (unhide HH _ _ hHeld.2 (unhide HU)).mono ?_
    rintro e wH ⟨rfl, hbH⟩
    try go_simp
    refine hK.out _ _ ⟨hHeld.1.trans (Bx.of hbH), hHeld.2.below hbH⟩ (fun hHeld => ?_)
    clear hK K
    try simp only [Act.put, q1, q2, q3, q4, q5, q6]
    refine wpAnyH_take (i := 8) (oi := _) (v := ?_) rfl (by kernel_rfl) (by kernel_rfl) (by kernel_rfl) (fun _ _ _ h => h) (Or.inl ⟨by rfl, ?_⟩) (by assumption) ?_
    rotate_left
    · intro W hW
      go_simp
      try rfl
    try simp only [Act.put, q1, q2, q3, q4, q5, q6]
    refine wpAnyH_take (i := 9) (oi := _) (v := ?_) rfl (by kernel_rfl) (by kernel_rfl) (by kernel_rfl) (fun _ _ _ h => h) (Or.inl ⟨by rfl, ?_⟩) (by assumption) ?_
    rotate_left
    · intro W hW
      go_simp
      try rfl
    try simp only [Act.put, q1, q2, q3, q4, q5, q6]
    refine wpAnyH_take (i := 10) (oi := _) (v := ?_) rfl (by kernel_rfl) (by kernel_rfl) (by kernel_rfl) (fun _ _ _ h => h) (Or.inl ⟨by rfl, ?_⟩) (by assumption) ?_
    rotate_left
    · intro W hW
      have q0 := (unhide HQ W hW).2.1
      have q1 := (unhide HQ W hW).2.2.1
      have q2 := (unhide HQ W hW).2.2.2.1
      have q3 := (unhide HQ W hW).2.2.2.2.1
      have q4 := (unhide HQ W hW).2.2.2.2.2.1
      have q5 := (unhide HQ W hW).2.2.2.2.2.2.1
      have q6 := (unhide HQ W hW).2.2.2.2.2.2.2.1
      have q7 := (unhide HQ W hW).2.2.2.2.2.2.2.2
      go_simp
      try rfl
    try simp only [Act.put, q1, q2, q3, q4, q5, q6]
    refine wpAnyH_ready (rs := [11]) (by kernel_rfl) (by simp) ?_
    refine AllReadyH.cons (o := _) rfl (fun K hK => ?_) AllReadyH.nil
    go_simp
    go_at_call 111
    refine (unhide HCA _ hHeld.2).mono ?_
    rintro e wC ⟨rfl, hbC, hCC⟩
    try go_simp
    refine hK.out _ _ ⟨hHeld.1.trans hbC, hCC⟩ (fun hHeld => ?_)
    clear hK K
    try simp only [Act.put, q1, q2, q3, q4, q5, q6]
    refine wpAnyH_take (i := 12) (oi := _) (v := ?_) rfl (by kernel_rfl) (by kernel_rfl) (by kernel_rfl) (fun _ _ _ h => h) (Or.inl ⟨by rfl, ?_⟩) (by assumption) ?_
    rotate_left
    · intro W hW
      go_simp
      try rfl
    try simp only [Act.put, q1, q2, q3, q4, q5, q6]
    refine wpAnyH_take (i := 13) (oi := _) (v := ?_) rfl (by kernel_rfl) (by kernel_rfl) (by kernel_rfl) (fun _ _ _ h => h) (Or.inl ⟨by rfl, ?_⟩) (by assumption) ?_
    rotate_left
    · intro W hW
      go_simp
      try rfl
    try simp only [Act.put, q1, q2, q3, q4, q5, q6]
    refine wpAnyH_done (by kernel_rfl) ?_ _
    go_wp2
    go_ret
    exact ⟨by rw [unhide Hr]; rfl, (unhide HB).trans hHeld.1, hHeld.2⟩

set_option maxRecDepth 100000 in
set_option maxHeartbeats 4000000 in
theorem idx_183 (c : Cw.V) (cb mb : Nat) (pv : Value) (P : List K) (w : World) (hop : c.g.op = 183) (h : Ch w cb mb pv P) (hP : P.length ≤ 1048576) (hS : Small P) :
    Calls Tryz.prog 92 #[.pointer (some ⟨cb, 0, none⟩), .agg c.arr] w fun e w' => e = .returned (.bool (opdB P 183 c.g.a c.g.b)) ∧ Bx mb w w' ∧ Ch w' cb mb pv P := by
  have hbx := (Below.refl w.heap.size w).alloc (Nat.le_refl _) (.cells c.arr 112)
  have hX := Bk.new w c.arr 112
  have hC0 := h.below hbx
  have HCa := fun (W : World) (hW : Ch W cb mb pv P) => called_any c cb mb pv P W (by omega) hW hP hS
  have hcl := hS.cls c.g.a
  obtain ⟨r, hr⟩ : ∃ r, r = opdB P 183 c.g.a c.g.b := ⟨_, rfl⟩
  rw [← hr]
  unfold opdB at hr
  simp only [Nat.reduceEqDiff, Nat.reduceLeDiff, or_false, false_or, or_self, and_self, and_true, true_and, and_false, false_and, if_true, if_false, reduceIte] at hr
  obtain ⟨⟨at_, op, wide, a, b, low, keys, tgts⟩, kv, tv⟩ := c
  unfold Cw.V.arr at *
  simp only at *
  subst hop
  simp only [show ((183 : Nat) : Int) = 183 from rfl] at *
  have HCA := hide HCa
  have HMe := hide (fun (W : World) (hW : Ch W cb mb pv P) => method_any cb mb pv P a W hW hP hS)
  have HDi := hide (fun (W : World) (hW : Ch W cb mb pv P) => dimensions_any cb pv P a W hW.c0 hW.k hP hS)
  have HW := hide Fm.within_any
  go_enter Tryz.func92, Tryz.ntmps92
  go_wp2_with (go_at_call 110; refine (unhide HW _ _ _ _).mono ?_; rintro e w' ⟨rfl, hww⟩; subst w')
  generalize w.alloc (.cells #[.int .i64 at_, .int .u8 183, .bool wide, .int .i64 a, .int .i64 b, .int .i64 low, kv, tv] 112) = w1 at *
  have HQ : Hid (∀ W : World, (Bx mb w1 W ∧ Ch W cb mb pv P) → W.cell? ⟨cb, 0, none⟩ = some pv ∧ W.cell? ⟨w.heap.size, 0, none⟩ = some (.int .i64 at_) ∧ W.cell? ⟨w.heap.size, 1, none⟩ = some (.int .u8 183) ∧ W.cell? ⟨w.heap.size, 2, none⟩ = some (.bool wide) ∧ W.cell? ⟨w.heap.size, 3, none⟩ = some (.int .i64 a) ∧ W.cell? ⟨w.heap.size, 4, none⟩ = some (.int .i64 b) ∧ W.cell? ⟨w.heap.size, 5, none⟩ = some (.int .i64 low) ∧ W.cell? ⟨w.heap.size, 6, none⟩ = some kv ∧ W.cell? ⟨w.heap.size, 7, none⟩ = some tv) := fun W hW =>
    ⟨hW.2.c0, hW.1.cell hC0.mp (hX.cell 0), hW.1.cell hC0.mp (hX.cell 1), hW.1.cell hC0.mp (hX.cell 2), hW.1.cell hC0.mp (hX.cell 3), hW.1.cell hC0.mp (hX.cell 4), hW.1.cell hC0.mp (hX.cell 5), hW.1.cell hC0.mp (hX.cell 6), hW.1.cell hC0.mp (hX.cell 7)⟩
  have HH := hide (fun (W : World) (tv : Value) (hW : Ch W cb mb pv P) (ht : UIn W tv [10]) => Kn.Has_any pv tv P [10] a W hW.k hP ht (by simp))
  have HU : Hid (UIn (w1.alloc (.cells #[.int .u8 10] 5)).drew (.slice (some ⟨w1.heap.size, 0, none⟩) 1 1) [10]) := UIn.list w1 [10]
  have hbA : Below w1.heap.size w1 (w1.alloc (.cells #[.int .u8 10] 5)).drew := ((Below.refl _ _).alloc (Nat.le_refl _) _).drew
  have HA : Hid (Bx mb w1 (w1.alloc (.cells #[.int .u8 10] 5)).drew ∧ Ch (w1.alloc (.cells #[.int .u8 10] 5)).drew cb mb pv P) := ⟨Bx.of hbA, hC0.below hbA⟩
  have hb0 : Below w1.heap.size w1 w1.drew := (Below.refl _ _).drew
  have H0 : Hid (Bx mb w1 w1.drew ∧ Ch w1.drew cb mb pv P) := ⟨Bx.of hb0, hC0.below hb0⟩
  have HB : Hid (Bx mb w w1) := Bx.of hbx
  obtain ⟨hb, hhb⟩ : ∃ x, x = ([10] : List Nat).contains (M.tag P a) := ⟨_, rfl⟩
  rw [← hhb] at HH
  have e1 : decide (M.tag P a = 10) = hb := by rw [hhb, Bool.eq_iff_iff]; simp
  have e2 : calB P 183 a b = calP P 183 a := calB_other a b (by decide)
  rw [e1, e2] at hr
  generalize calP P 183 a = cp at *
  have Hr := hide hr
  clear e1 e2
  clear hhb hr hbx hX hC0 hbA hb0 HCa hcl
  cases hb
  · skip
    refine wp_region_held_drew (S := fun W => Bx mb w1 W ∧ Ch W cb mb pv P) (by kernel_rfl) (unhide H0) (fun hHeld => ?_)
    refine wpAnyH_take (i := 0) (oi := _) (v := ?_) rfl (by kernel_rfl) (by kernel_rfl) (by kernel_rfl) (fun _ _ _ h => h) (Or.inl ⟨by rfl, ?_⟩) (by assumption) ?_
    rotate_left
    · intro W hW
      go_simp
      try rfl
    try simp only [Act.put, q1, q2, q3, q4, q5, q6]
    refine wpAnyH_take (i := 1) (oi := _) (v := ?_) rfl (by kernel_rfl) (by kernel_rfl) (by kernel_rfl) (fun _ _ _ h => h) (Or.inl ⟨by rfl, ?_⟩) (by assumption) ?_
    rotate_left
    · intro W hW
      go_simp
      try rfl
    try simp only [Act.put, q1, q2, q3, q4, q5, q6]
    refine wpAnyH_take (i := 2) (oi := _) (v := ?_) rfl (by kernel_rfl) (by kernel_rfl) (by kernel_rfl) (fun _ _ _ h => h) (Or.inl ⟨by rfl, ?_⟩) (by assumption) ?_
    rotate_left
    · intro W hW
      go_simp
      try rfl
    try simp only [Act.put, q1, q2, q3, q4, q5, q6]
    refine wpAnyH_take (i := 3) (oi := _) (v := ?_) rfl (by kernel_rfl) (by kernel_rfl) (by kernel_rfl) (fun _ _ _ h => h) (Or.inl ⟨by rfl, ?_⟩) (by assumption) ?_
    rotate_left
    · intro W hW
      have qc := (unhide HQ W hW).1
      go_simp
      try rfl
    try simp only [Act.put, q1, q2, q3, q4, q5, q6]
    refine wpAnyH_take (i := 4) (oi := _) (v := ?_) rfl (by kernel_rfl) (by kernel_rfl) (by kernel_rfl) (fun _ _ _ h => h) (Or.inl ⟨by rfl, ?_⟩) (by assumption) ?_
    rotate_left
    · intro W hW
      go_simp
      try rfl
    try simp only [Act.put, q1, q2, q3, q4, q5, q6]
    refine wpAnyH_take (i := 5) (oi := _) (v := ?_) rfl (by kernel_rfl) (by kernel_rfl) (by kernel_rfl) (fun _ _ _ h => h) (Or.inl ⟨by rfl, ?_⟩) (by assumption) ?_
    rotate_left
    · intro W hW
      have q3 := (unhide HQ W hW).2.2.2.2.1
      go_simp
      try rfl
    try simp only [Act.put, q1, q2, q3, q4, q5, q6]
    refine wpAnyH_ready (rs := [6]) (by kernel_rfl) (by simp) ?_
    refine AllReadyH.cons (o := _) rfl (fun K hK => ?_) AllReadyH.nil
    go_simp
    refine hK.out _ _ (unhide HA) (fun hHeld => ?_)
    clear hK K
    try simp only [Act.put, q1, q2, q3, q4, q5, q6]
    refine wpAnyH_ready (rs := [7]) (by kernel_rfl) (by simp) ?_
    refine AllReadyH.cons (o := _) rfl (fun K hK => ?_) AllReadyH.nil
    go_simp
    go_at_call 21
    refine (unhide HH _ _ hHeld.2 (unhide HU)).mono ?_
    rintro e wH ⟨rfl, hbH⟩
    try go_simp
    refine hK.out _ _ ⟨hHeld.1.trans (Bx.of hbH), hHeld.2.below hbH⟩ (fun hHeld => ?_)
    clear hK K
    try simp only [Act.put, q1, q2, q3, q4, q5, q6]
    refine wpAnyH_take (i := 8) (oi := _) (v := ?_) rfl (by kernel_rfl) (by kernel_rfl) (by kernel_rfl) (fun _ _ _ h => h) (Or.inl ⟨by rfl, ?_⟩) (by assumption) ?_
    rotate_left
    · intro W hW
      go_simp
      try rfl
    try simp only [Act.put, q1, q2, q3, q4, q5, q6]
    refine wpAnyH_take (i := 9) (oi := _) (v := undef) rfl (by kernel_rfl) (by kernel_rfl) (by kernel_rfl) (fun _ _ _ h => h) (Or.inr ⟨by rfl, rfl⟩) (by assumption) ?_
    try simp only [Act.put, q1, q2, q3, q4, q5, q6]
    refine wpAnyH_take (i := 10) (oi := _) (v := undef) rfl (by kernel_rfl) (by kernel_rfl) (by kernel_rfl) (fun _ _ _ h => h) (Or.inr ⟨by rfl, rfl⟩) (by assumption) ?_
    try simp only [Act.put, q1, q2, q3, q4, q5, q6]
    refine wpAnyH_take (i := 11) (oi := _) (v := undef) rfl (by kernel_rfl) (by kernel_rfl) (by kernel_rfl) (fun _ _ _ h => h) (Or.inr ⟨by rfl, rfl⟩) (by assumption) ?_
    try simp only [Act.put, q1, q2, q3, q4, q5, q6]
    refine wpAnyH_take (i := 12) (oi := _) (v := ?_) rfl (by kernel_rfl) (by kernel_rfl) (by kernel_rfl) (fun _ _ _ h => h) (Or.inl ⟨by rfl, ?_⟩) (by assumption) ?_
    rotate_left
    · intro W hW
      go_simp
      try rfl
    try simp only [Act.put, q1, q2, q3, q4, q5, q6]
    refine wpAnyH_take (i := 13) (oi := _) (v := ?_) rfl (by kernel_rfl) (by kernel_rfl) (by kernel_rfl) (fun _ _ _ h => h) (Or.inl ⟨by rfl, ?_⟩) (by assumption) ?_
    rotate_left
    · intro W hW
      go_simp
      try rfl
    try simp only [Act.put, q1, q2, q3, q4, q5, q6]
    refine wpAnyH_done (by kernel_rfl) ?_ _
    go_wp2
    go_ret
    exact ⟨by rw [unhide Hr]; rfl, (unhide HB).trans hHeld.1, hHeld.2⟩
  · skip
    refine wp_region_held_drew (S := fun W => Bx mb w1 W ∧ Ch W cb mb pv P) (by kernel_rfl) (unhide H0) (fun hHeld => ?_)
    refine wpAnyH_take (i := 0) (oi := _) (v := ?_) rfl (by kernel_rfl) (by kernel_rfl) (by kernel_rfl) (fun _ _ _ h => h) (Or.inl ⟨by rfl, ?_⟩) (by assumption) ?_
    rotate_left
    · intro W hW
      go_simp
      try rfl
    try simp only [Act.put, q1, q2, q3, q4, q5, q6]
    refine wpAnyH_take (i := 1) (oi := _) (v := ?_) rfl (by kernel_rfl) (by kernel_rfl) (by kernel_rfl) (fun _ _ _ h => h) (Or.inl ⟨by rfl, ?_⟩) (by assumption) ?_
    rotate_left
    · intro W hW
      go_simp
      try rfl
    try simp only [Act.put, q1, q2, q3, q4, q5, q6]
    refine wpAnyH_take (i := 2) (oi := _) (v := ?_) rfl (by kernel_rfl) (by kernel_rfl) (by kernel_rfl) (fun _ _ _ h => h) (Or.inl ⟨by rfl, ?_⟩) (by assumption) ?_
    rotate_left
    · intro W hW
      go_simp
      try rfl
    try simp only [Act.put, q1, q2, q3, q4, q5, q6]
    refine wpAnyH_take (i := 3) (oi := _) (v := ?_) rfl (by kernel_rfl) (by kernel_rfl) (by kernel_rfl) (fun _ _ _ h => h) (Or.inl ⟨by rfl, ?_⟩) (by assumption) ?_
    rotate_left
    · intro W hW
      have qc := (unhide HQ W hW).1
      go_simp
      try rfl
    try simp only [Act.put, q1, q2, q3, q4, q5, q6]
    refine wpAnyH_take (i := 4) (oi := _) (v := ?_) rfl (by kernel_rfl) (by kernel_rfl) (by kernel_rfl) (fun _ _ _ h => h) (Or.inl ⟨by rfl, ?_⟩) (by assumption) ?_
    rotate_left
    · intro W hW
      go_simp
      try rfl
    try simp only [Act.put, q1, q2, q3, q4, q5, q6]
    refine wpAnyH_take (i := 5) (oi := _) (v := ?_) rfl (by kernel_rfl) (by kernel_rfl) (by kernel_rfl) (fun _ _ _ h => h) (Or.inl ⟨by rfl, ?_⟩) (by assumption) ?_
    rotate_left
    · intro W hW
      have q3 := (unhide HQ W hW).2.2.2.2.1
      go_simp
      try rfl
    try simp only [Act.put, q1, q2, q3, q4, q5, q6]
    refine wpAnyH_ready (rs := [6]) (by kernel_rfl) (by simp) ?_
    refine AllReadyH.cons (o := _) rfl (fun K hK => ?_) AllReadyH.nil
    go_simp
    refine hK.out _ _ (unhide HA) (fun hHeld => ?_)
    clear hK K
    try simp only [Act.put, q1, q2, q3, q4, q5, q6]
    refine wpAnyH_ready (rs := [7]) (by kernel_rfl) (by simp) ?_
    refine AllReadyH.cons (o := _) rfl (fun K hK => ?_) AllReadyH.nil
    go_simp
    go_at_call 21
    refine (unhide HH _ _ hHeld.2 (unhide HU)).mono ?_
    rintro e wH ⟨rfl, hbH⟩
    try go_simp
    refine hK.out _ _ ⟨hHeld.1.trans (Bx.of hbH), hHeld.2.below hbH⟩ (fun hHeld => ?_)
    clear hK K
    try simp only [Act.put, q1, q2, q3, q4, q5, q6]
    refine wpAnyH_take (i := 8) (oi := _) (v := ?_) rfl (by kernel_rfl) (by kernel_rfl) (by kernel_rfl) (fun _ _ _ h => h) (Or.inl ⟨by rfl, ?_⟩) (by assumption) ?_
    rotate_left
    · intro W hW
      go_simp
      try rfl
    try simp only [Act.put, q1, q2, q3, q4, q5, q6]
    refine wpAnyH_take (i := 9) (oi := _) (v := ?_) rfl (by kernel_rfl) (by kernel_rfl) (by kernel_rfl) (fun _ _ _ h => h) (Or.inl ⟨by rfl, ?_⟩) (by assumption) ?_
    rotate_left
    · intro W hW
      go_simp
      try rfl
    try simp only [Act.put, q1, q2, q3, q4, q5, q6]
    refine wpAnyH_take (i := 10) (oi := _) (v := ?_) rfl (by kernel_rfl) (by kernel_rfl) (by kernel_rfl) (fun _ _ _ h => h) (Or.inl ⟨by rfl, ?_⟩) (by assumption) ?_
    rotate_left
    · intro W hW
      have q0 := (unhide HQ W hW).2.1
      have q1 := (unhide HQ W hW).2.2.1
      have q2 := (unhide HQ W hW).2.2.2.1
      have q3 := (unhide HQ W hW).2.2.2.2.1
      have q4 := (unhide HQ W hW).2.2.2.2.2.1
      have q5 := (unhide HQ W hW).2.2.2.2.2.2.1
      have q6 := (unhide HQ W hW).2.2.2.2.2.2.2.1
      have q7 := (unhide HQ W hW).2.2.2.2.2.2.2.2
      go_simp
      try rfl
    try simp only [Act.put, q1, q2, q3, q4, q5, q6]
    refine wpAnyH_ready (rs := [11]) (by kernel_rfl) (by simp) ?_
    refine AllReadyH.cons (o := _) rfl (fun K hK => ?_) AllReadyH.nil
    go_simp
    go_at_call 111
    refine (unhide HCA _ hHeld.2).mono ?_
    rintro e wC ⟨rfl, hbC, hCC⟩
    try go_simp
    refine hK.out _ _ ⟨hHeld.1.trans hbC, hCC⟩ (fun hHeld => ?_)
    clear hK K
    try simp only [Act.put, q1, q2, q3, q4, q5, q6]
    refine wpAnyH_take (i := 12) (oi := _) (v := ?_) rfl (by kernel_rfl) (by kernel_rfl) (by kernel_rfl) (fun _ _ _ h => h) (Or.inl ⟨by rfl, ?_⟩) (by assumption) ?_
    rotate_left
    · intro W hW
      go_simp
      try rfl
    try simp only [Act.put, q1, q2, q3, q4, q5, q6]
    refine wpAnyH_take (i := 13) (oi := _) (v := ?_) rfl (by kernel_rfl) (by kernel_rfl) (by kernel_rfl) (fun _ _ _ h => h) (Or.inl ⟨by rfl, ?_⟩) (by assumption) ?_
    rotate_left
    · intro W hW
      go_simp
      try rfl
    try simp only [Act.put, q1, q2, q3, q4, q5, q6]
    refine wpAnyH_done (by kernel_rfl) ?_ _
    go_wp2
    go_ret
    exact ⟨by rw [unhide Hr]; rfl, (unhide HB).trans hHeld.1, hHeld.2⟩

set_option maxRecDepth 100000 in
set_option maxHeartbeats 4000000 in
theorem idx_184 (c : Cw.V) (cb mb : Nat) (pv : Value) (P : List K) (w : World) (hop : c.g.op = 184) (h : Ch w cb mb pv P) (hP : P.length ≤ 1048576) (hS : Small P) :
    Calls Tryz.prog 92 #[.pointer (some ⟨cb, 0, none⟩), .agg c.arr] w fun e w' => e = .returned (.bool (opdB P 184 c.g.a c.g.b)) ∧ Bx mb w w' ∧ Ch w' cb mb pv P := by
  have hbx := (Below.refl w.heap.size w).alloc (Nat.le_refl _) (.cells c.arr 112)
  have hX := Bk.new w c.arr 112
  have hC0 := h.below hbx
  have HCa := fun (W : World) (hW : Ch W cb mb pv P) => called_any c cb mb pv P W (by omega) hW hP hS
  have hcl := hS.cls c.g.a
  obtain ⟨r, hr⟩ : ∃ r, r = opdB P 184 c.g.a c.g.b := ⟨_, rfl⟩
  rw [← hr]
  unfold opdB at hr
  simp only [Nat.reduceEqDiff, Nat.reduceLeDiff, or_false, false_or, or_self, and_self, and_true, true_and, and_false, false_and, if_true, if_false, reduceIte] at hr
  obtain ⟨⟨at_, op, wide, a, b, low, keys, tgts⟩, kv, tv⟩ := c
  unfold Cw.V.arr at *
  simp only at *
  subst hop
  simp only [show ((184 : Nat) : Int) = 184 from rfl] at *
  have HCA := hide HCa
  have HMe := hide (fun (W : World) (hW : Ch W cb mb pv P) => method_any cb mb pv P a W hW hP hS)
  have HDi := hide (fun (W : World) (hW : Ch W cb mb pv P) => dimensions_any cb pv P a W hW.c0 hW.k hP hS)
  have HW := hide Fm.within_any
  go_enter Tryz.func92, Tryz.ntmps92
  go_wp2_with (go_at_call 110; refine (unhide HW _ _ _ _).mono ?_; rintro e w' ⟨rfl, hww⟩; subst w')
  generalize w.alloc (.cells #[.int .i64 at_, .int .u8 184, .bool wide, .int .i64 a, .int .i64 b, .int .i64 low, kv, tv] 112) = w1 at *
  have HQ : Hid (∀ W : World, (Bx mb w1 W ∧ Ch W cb mb pv P) → W.cell? ⟨cb, 0, none⟩ = some pv ∧ W.cell? ⟨w.heap.size, 0, none⟩ = some (.int .i64 at_) ∧ W.cell? ⟨w.heap.size, 1, none⟩ = some (.int .u8 184) ∧ W.cell? ⟨w.heap.size, 2, none⟩ = some (.bool wide) ∧ W.cell? ⟨w.heap.size, 3, none⟩ = some (.int .i64 a) ∧ W.cell? ⟨w.heap.size, 4, none⟩ = some (.int .i64 b) ∧ W.cell? ⟨w.heap.size, 5, none⟩ = some (.int .i64 low) ∧ W.cell? ⟨w.heap.size, 6, none⟩ = some kv ∧ W.cell? ⟨w.heap.size, 7, none⟩ = some tv) := fun W hW =>
    ⟨hW.2.c0, hW.1.cell hC0.mp (hX.cell 0), hW.1.cell hC0.mp (hX.cell 1), hW.1.cell hC0.mp (hX.cell 2), hW.1.cell hC0.mp (hX.cell 3), hW.1.cell hC0.mp (hX.cell 4), hW.1.cell hC0.mp (hX.cell 5), hW.1.cell hC0.mp (hX.cell 6), hW.1.cell hC0.mp (hX.cell 7)⟩
  have HH := hide (fun (W : World) (tv : Value) (hW : Ch W cb mb pv P) (ht : UIn W tv [10]) => Kn.Has_any pv tv P [10] a W hW.k hP ht (by simp))
  have HU : Hid (UIn (w1.alloc (.cells #[.int .u8 10] 5)).drew (.slice (some ⟨w1.heap.size, 0, none⟩) 1 1) [10]) := UIn.list w1 [10]
  have hbA : Below w1.heap.size w1 (w1.alloc (.cells #[.int .u8 10] 5)).drew := ((Below.refl _ _).alloc (Nat.le_refl _) _).drew
  have HA : Hid (Bx mb w1 (w1.alloc (.cells #[.int .u8 10] 5)).drew ∧ Ch (w1.alloc (.cells #[.int .u8 10] 5)).drew cb mb pv P) := ⟨Bx.of hbA, hC0.below hbA⟩
  have hb0 : Below w1.heap.size w1 w1.drew := (Below.refl _ _).drew
  have H0 : Hid (Bx mb w1 w1.drew ∧ Ch w1.drew cb mb pv P) := ⟨Bx.of hb0, hC0.below hb0⟩
  have HB : Hid (Bx mb w w1) := Bx.of hbx
  obtain ⟨hb, hhb⟩ : ∃ x, x = ([10] : List Nat).contains (M.tag P a) := ⟨_, rfl⟩
  rw [← hhb] at HH
  have e1 : decide (M.tag P a = 10) = hb := by rw [hhb, Bool.eq_iff_iff]; simp
  have e2 : calB P 184 a b = calP P 184 a := calB_other a b (by decide)
  rw [e1, e2] at hr
  generalize calP P 184 a = cp at *
  have Hr := hide hr
  clear e1 e2
  clear hhb hr hbx hX hC0 hbA hb0 HCa hcl
  cases hb
  · skip
    refine wp_region_held_drew (S := fun W => Bx mb w1 W ∧ Ch W cb mb pv P) (by kernel_rfl) (unhide H0) (fun hHeld => ?_)
    refine wpAnyH_take (i := 0) (oi := _) (v := ?_) rfl (by kernel_rfl) (by kernel_rfl) (by kernel_rfl) (fun _ _ _ h => h) (Or.inl ⟨by rfl, ?_⟩) (by assumption) ?_
    rotate_left
    · intro W hW
      go_simp
      try rfl
    try simp only [Act.put, q1, q2, q3, q4, q5, q6]
    refine wpAnyH_take (i := 1) (oi := _) (v := ?_) rfl (by kernel_rfl) (by kernel_rfl) (by kernel_rfl) (fun _ _ _ h => h) (Or.inl ⟨by rfl, ?_⟩) (by assumption) ?_
    rotate_left
    · intro W hW
      go_simp
      try rfl
    try simp only [Act.put, q1, q2, q3, q4, q5, q6]
    refine wpAnyH_take (i := 2) (oi := _) (v := ?_) rfl (by kernel_rfl) (by kernel_rfl) (by kernel_rfl) (fun _ _ _ h => h) (Or.inl ⟨by rfl, ?_⟩) (by assumption) ?_
    rotate_left
    · intro W hW
      go_simp
      try rfl
    try simp only [Act.put, q1, q2, q3, q4, q5, q6]
    refine wpAnyH_take (i := 3) (oi := _) (v := ?_) rfl (by kernel_rfl) (by kernel_rfl) (by kernel_rfl) (fun _ _ _ h => h) (Or.inl ⟨by rfl, ?_⟩) (by assumption) ?_
    rotate_left
    · intro W hW
      have qc := (unhide HQ W hW).1
      go_simp
      try rfl
    try simp only [Act.put, q1, q2, q3, q4, q5, q6]
    refine wpAnyH_take (i := 4) (oi := _) (v := ?_) rfl (by kernel_rfl) (by kernel_rfl) (by kernel_rfl) (fun _ _ _ h => h) (Or.inl ⟨by rfl, ?_⟩) (by assumption) ?_
    rotate_left
    · intro W hW
      go_simp
      try rfl
    try simp only [Act.put, q1, q2, q3, q4, q5, q6]
    refine wpAnyH_take (i := 5) (oi := _) (v := ?_) rfl (by kernel_rfl) (by kernel_rfl) (by kernel_rfl) (fun _ _ _ h => h) (Or.inl ⟨by rfl, ?_⟩) (by assumption) ?_
    rotate_left
    · intro W hW
      have q3 := (unhide HQ W hW).2.2.2.2.1
      go_simp
      try rfl
    try simp only [Act.put, q1, q2, q3, q4, q5, q6]
    refine wpAnyH_ready (rs := [6]) (by kernel_rfl) (by simp) ?_
    refine AllReadyH.cons (o := _) rfl (fun K hK => ?_) AllReadyH.nil
    go_simp
    refine hK.out _ _ (unhide HA) (fun hHeld => ?_)
    clear hK K
    try simp only [Act.put, q1, q2, q3, q4, q5, q6]
    refine wpAnyH_ready (rs := [7]) (by kernel_rfl) (by simp) ?_
    refine AllReadyH.cons (o := _) rfl (fun K hK => ?_) AllReadyH.nil
    go_simp
    go_at_call 21
    refine (unhide HH _ _ hHeld.2 (unhide HU)).mono ?_
    rintro e wH ⟨rfl, hbH⟩
    try go_simp
    refine hK.out _ _ ⟨hHeld.1.trans (Bx.of hbH), hHeld.2.below hbH⟩ (fun hHeld => ?_)
    clear hK K
    try simp only [Act.put, q1, q2, q3, q4, q5, q6]
    refine wpAnyH_take (i := 8) (oi := _) (v := ?_) rfl (by kernel_rfl) (by kernel_rfl) (by kernel_rfl) (fun _ _ _ h => h) (Or.inl ⟨by rfl, ?_⟩) (by assumption) ?_
    rotate_left
    · intro W hW
      go_simp
      try rfl
    try simp only [Act.put, q1, q2, q3, q4, q5, q6]
    refine wpAnyH_take (i := 9) (oi := _) (v := undef) rfl (by kernel_rfl) (by kernel_rfl) (by kernel_rfl) (fun _ _ _ h => h) (Or.inr ⟨by rfl, rfl⟩) (by assumption) ?_
    try simp only [Act.put, q1, q2, q3, q4, q5, q6]
    refine wpAnyH_take (i := 10) (oi := _) (v := undef) rfl (by kernel_rfl) (by kernel_rfl) (by kernel_rfl) (fun _ _ _ h => h) (Or.inr ⟨by rfl, rfl⟩) (by assumption) ?_
    try simp only [Act.put, q1, q2, q3, q4, q5, q6]
    refine wpAnyH_take (i := 11) (oi := _) (v := undef) rfl (by kernel_rfl) (by kernel_rfl) (by kernel_rfl) (fun _ _ _ h => h) (Or.inr ⟨by rfl, rfl⟩) (by assumption) ?_
    try simp only [Act.put, q1, q2, q3, q4, q5, q6]
    refine wpAnyH_take (i := 12) (oi := _) (v := ?_) rfl (by kernel_rfl) (by kernel_rfl) (by kernel_rfl) (fun _ _ _ h => h) (Or.inl ⟨by rfl, ?_⟩) (by assumption) ?_
    rotate_left
    · intro W hW
      go_simp
      try rfl
    try simp only [Act.put, q1, q2, q3, q4, q5, q6]
    refine wpAnyH_take (i := 13) (oi := _) (v := ?_) rfl (by kernel_rfl) (by kernel_rfl) (by kernel_rfl) (fun _ _ _ h => h) (Or.inl ⟨by rfl, ?_⟩) (by assumption) ?_
    rotate_left
    · intro W hW
      go_simp
      try rfl
    try simp only [Act.put, q1, q2, q3, q4, q5, q6]
    refine wpAnyH_done (by kernel_rfl) ?_ _
    go_wp2
    go_ret
    exact ⟨by rw [unhide Hr]; rfl, (unhide HB).trans hHeld.1, hHeld.2⟩
  · skip
    refine wp_region_held_drew (S := fun W => Bx mb w1 W ∧ Ch W cb mb pv P) (by kernel_rfl) (unhide H0) (fun hHeld => ?_)
    refine wpAnyH_take (i := 0) (oi := _) (v := ?_) rfl (by kernel_rfl) (by kernel_rfl) (by kernel_rfl) (fun _ _ _ h => h) (Or.inl ⟨by rfl, ?_⟩) (by assumption) ?_
    rotate_left
    · intro W hW
      go_simp
      try rfl
    try simp only [Act.put, q1, q2, q3, q4, q5, q6]
    refine wpAnyH_take (i := 1) (oi := _) (v := ?_) rfl (by kernel_rfl) (by kernel_rfl) (by kernel_rfl) (fun _ _ _ h => h) (Or.inl ⟨by rfl, ?_⟩) (by assumption) ?_
    rotate_left
    · intro W hW
      go_simp
      try rfl
    try simp only [Act.put, q1, q2, q3, q4, q5, q6]
    refine wpAnyH_take (i := 2) (oi := _) (v := ?_) rfl (by kernel_rfl) (by kernel_rfl) (by kernel_rfl) (fun _ _ _ h => h) (Or.inl ⟨by rfl, ?_⟩) (by assumption) ?_
    rotate_left
    · intro W hW
      go_simp
      try rfl
    try simp only [Act.put, q1, q2, q3, q4, q5, q6]
    refine wpAnyH_take (i := 3) (oi := _) (v := ?_) rfl (by kernel_rfl) (by kernel_rfl) (by kernel_rfl) (fun _ _ _ h => h) (Or.inl ⟨by rfl, ?_⟩) (by assumption) ?_
    rotate_left
    · intro W hW
      have qc := (unhide HQ W hW).1
      go_simp
      try rfl
    try simp only [Act.put, q1, q2, q3, q4, q5, q6]
    refine wpAnyH_take (i := 4) (oi := _) (v := ?_) rfl (by kernel_rfl) (by kernel_rfl) (by kernel_rfl) (fun _ _ _ h => h) (Or.inl ⟨by rfl, ?_⟩) (by assumption) ?_
    rotate_left
    · intro W hW
      go_simp
      try rfl
    try simp only [Act.put, q1, q2, q3, q4, q5, q6]
    refine wpAnyH_take (i := 5) (oi := _) (v := ?_) rfl (by kernel_rfl) (by kernel_rfl) (by kernel_rfl) (fun _ _ _ h => h) (Or.inl ⟨by rfl, ?_⟩) (by assumption) ?_
    rotate_left
    · intro W hW
      have q3 := (unhide HQ W hW).2.2.2.2.1
      go_simp
      try rfl
    try simp only [Act.put, q1, q2, q3, q4, q5, q6]
    refine wpAnyH_ready (rs := [6]) (by kernel_rfl) (by simp) ?_
    refine AllReadyH.cons (o := _) rfl (fun K hK => ?_) AllReadyH.nil
    go_simp
    refine hK.out _ _ (unhide HA) (fun hHeld => ?_)
    clear hK K
    try simp only [Act.put, q1, q2, q3, q4, q5, q6]
    refine wpAnyH_ready (rs := [7]) (by kernel_rfl) (by simp) ?_
    refine AllReadyH.cons (o := _) rfl (fun K hK => ?_) AllReadyH.nil
    go_simp
    go_at_call 21
    refine (unhide HH _ _ hHeld.2 (unhide HU)).mono ?_
    rintro e wH ⟨rfl, hbH⟩
    try go_simp
    refine hK.out _ _ ⟨hHeld.1.trans (Bx.of hbH), hHeld.2.below hbH⟩ (fun hHeld => ?_)
    clear hK K
    try simp only [Act.put, q1, q2, q3, q4, q5, q6]
    refine wpAnyH_take (i := 8) (oi := _) (v := ?_) rfl (by kernel_rfl) (by kernel_rfl) (by kernel_rfl) (fun _ _ _ h => h) (Or.inl ⟨by rfl, ?_⟩) (by assumption) ?_
    rotate_left
    · intro W hW
      go_simp
      try rfl
    try simp only [Act.put, q1, q2, q3, q4, q5, q6]
    refine wpAnyH_take (i := 9) (oi := _) (v := ?_) rfl (by kernel_rfl) (by kernel_rfl) (by kernel_rfl) (fun _ _ _ h => h) (Or.inl ⟨by rfl, ?_⟩) (by assumption) ?_
    rotate_left
    · intro W hW
      go_simp
      try rfl
    try simp only [Act.put, q1, q2, q3, q4, q5, q6]
    refine wpAnyH_take (i := 10) (oi := _) (v := ?_) rfl (by kernel_rfl) (by kernel_rfl) (by kernel_rfl) (fun _ _ _ h => h) (Or.inl ⟨by rfl, ?_⟩) (by assumption) ?_
    rotate_left
    · intro W hW
      have q0 := (unhide HQ W hW).2.1
      have q1 := (unhide HQ W hW).2.2.1
      have q2 := (unhide HQ W hW).2.2.2.1
      have q3 := (unhide HQ W hW).2.2.2.2.1
      have q4 := (unhide HQ W hW).2.2.2.2.2.1
      have q5 := (unhide HQ W hW).2.2.2.2.2.2.1
      have q6 := (unhide HQ W hW).2.2.2.2.2.2.2.1
      have q7 := (unhide HQ W hW).2.2.2.2.2.2.2.2
      go_simp
      try rfl
    try simp only [Act.put, q1, q2, q3, q4, q5, q6]
    refine wpAnyH_ready (rs := [11]) (by kernel_rfl) (by simp) ?_
    refine AllReadyH.cons (o := _) rfl (fun K hK => ?_) AllReadyH.nil
    go_simp
    go_at_call 111
    refine (unhide HCA _ hHeld.2).mono ?_
    rintro e wC ⟨rfl, hbC, hCC⟩
    try go_simp
    refine hK.out _ _ ⟨hHeld.1.trans hbC, hCC⟩ (fun hHeld => ?_)
    clear hK K
    try simp only [Act.put, q1, q2, q3, q4, q5, q6]
    refine wpAnyH_take (i := 12) (oi := _) (v := ?_) rfl (by kernel_rfl) (by kernel_rfl) (by kernel_rfl) (fun _ _ _ h => h) (Or.inl ⟨by rfl, ?_⟩) (by assumption) ?_
    rotate_left
    · intro W hW
      go_simp
      try rfl
    try simp only [Act.put, q1, q2, q3, q4, q5, q6]
    refine wpAnyH_take (i := 13) (oi := _) (v := ?_) rfl (by kernel_rfl) (by kernel_rfl) (by kernel_rfl) (fun _ _ _ h => h) (Or.inl ⟨by rfl, ?_⟩) (by assumption) ?_
    rotate_left
    · intro W hW
      go_simp
      try rfl
    try simp only [Act.put, q1, q2, q3, q4, q5, q6]
    refine wpAnyH_done (by kernel_rfl) ?_ _
    go_wp2
    go_ret
    exact ⟨by rw [unhide Hr]; rfl, (unhide HB).trans hHeld.1, hHeld.2⟩

set_option maxRecDepth 100000 in
set_option maxHeartbeats 4000000 in
theorem idx_185 (c : Cw.V) (cb mb : Nat) (pv : Value) (P : List K) (w : World) (hop : c.g.op = 185) (h : Ch w cb mb pv P) (hP : P.length ≤ 1048576) (hS : Small P) :
    Calls Tryz.prog 92 #[.pointer (some ⟨cb, 0, none⟩), .agg c.arr] w fun e w' => e = .returned (.bool (opdB P 185 c.g.a c.g.b)) ∧ Bx mb w w' ∧ Ch w' cb mb pv P := by
  have hbx := (Below.refl w.heap.size w).alloc (Nat.le_refl _) (.cells c.arr 112)
  have hX := Bk.new w c.arr 112
  have hC0 := h.below hbx
  have HCa := fun (W : World) (hW : Ch W cb mb pv P) => called_any c cb mb pv P W (by omega) hW hP hS
  have hcl := hS.cls c.g.a
  obtain ⟨r, hr⟩ : ∃ r, r = opdB P 185 c.g.a c.g.b := ⟨_, rfl⟩
  rw [← hr]
  unfold opdB at hr
  simp only [Nat.reduceEqDiff, Nat.reduceLeDiff, or_false, false_or, or_self, and_self, and_true, true_and, and_false, false_and, if_true, if_false, reduceIte] at hr
  obtain ⟨⟨at_, op, wide, a, b, low, keys, tgts⟩, kv, tv⟩ := c
  unfold Cw.V.arr at *
  simp only at *
  subst hop
  simp only [show ((185 : Nat) : Int) = 185 from rfl] at *
  have HCA := hide HCa
  have HMe := hide (fun (W : World) (hW : Ch W cb mb pv P) => method_any cb mb pv P a W hW hP hS)
  have HDi := hide (fun (W : World) (hW : Ch W cb mb pv P) => dimensions_any cb pv P a W hW.c0 hW.k hP hS)
  have HW := hide Fm.within_any
  go_enter Tryz.func92, Tryz.ntmps92
  go_wp2_with (go_at_call 110; refine (unhide HW _ _ _ _).mono ?_; rintro e w' ⟨rfl, hww⟩; subst w')
  generalize w.alloc (.cells #[.int .i64 at_, .int .u8 185, .bool wide, .int .i64 a, .int .i64 b, .int .i64 low, kv, tv] 112) = w1 at *
  have HQ : Hid (∀ W : World, (Bx mb w1 W ∧ Ch W cb mb pv P) → W.cell? ⟨cb, 0, none⟩ = some pv ∧ W.cell? ⟨w.heap.size, 0, none⟩ = some (.int .i64 at_) ∧ W.cell? ⟨w.heap.size, 1, none⟩ = some (.int .u8 185) ∧ W.cell? ⟨w.heap.size, 2, none⟩ = some (.bool wide) ∧ W.cell? ⟨w.heap.size, 3, none⟩ = some (.int .i64 a) ∧ W.cell? ⟨w.heap.size, 4, none⟩ = some (.int .i64 b) ∧ W.cell? ⟨w.heap.size, 5, none⟩ = some (.int .i64 low) ∧ W.cell? ⟨w.heap.size, 6, none⟩ = some kv ∧ W.cell? ⟨w.heap.size, 7, none⟩ = some tv) := fun W hW =>
    ⟨hW.2.c0, hW.1.cell hC0.mp (hX.cell 0), hW.1.cell hC0.mp (hX.cell 1), hW.1.cell hC0.mp (hX.cell 2), hW.1.cell hC0.mp (hX.cell 3), hW.1.cell hC0.mp (hX.cell 4), hW.1.cell hC0.mp (hX.cell 5), hW.1.cell hC0.mp (hX.cell 6), hW.1.cell hC0.mp (hX.cell 7)⟩
  have HH := hide (fun (W : World) (tv : Value) (hW : Ch W cb mb pv P) (ht : UIn W tv [11]) => Kn.Has_any pv tv P [11] a W hW.k hP ht (by simp))
  have HU : Hid (UIn (w1.alloc (.cells #[.int .u8 11] 5)).drew (.slice (some ⟨w1.heap.size, 0, none⟩) 1 1) [11]) := UIn.list w1 [11]
  have hbA : Below w1.heap.size w1 (w1.alloc (.cells #[.int .u8 11] 5)).drew := ((Below.refl _ _).alloc (Nat.le_refl _) _).drew
  have HA : Hid (Bx mb w1 (w1.alloc (.cells #[.int .u8 11] 5)).drew ∧ Ch (w1.alloc (.cells #[.int .u8 11] 5)).drew cb mb pv P) := ⟨Bx.of hbA, hC0.below hbA⟩
  have hb0 : Below w1.heap.size w1 w1.drew := (Below.refl _ _).drew
  have H0 : Hid (Bx mb w1 w1.drew ∧ Ch w1.drew cb mb pv P) := ⟨Bx.of hb0, hC0.below hb0⟩
  have HB : Hid (Bx mb w w1) := Bx.of hbx
  obtain ⟨hb, hhb⟩ : ∃ x, x = ([11] : List Nat).contains (M.tag P a) := ⟨_, rfl⟩
  rw [← hhb] at HH
  have e1 : decide (M.tag P a = 11) = hb := by rw [hhb, Bool.eq_iff_iff]; simp
  have e2 : calB P 185 a b = (calP P 185 a && decide (b = 1 + ((fmt P a).slots : Int))) := calB_face a b
  have hsl := slots_small hS a
  rw [e1, e2] at hr
  generalize calP P 185 a = cp at *
  obtain ⟨m, hm⟩ : ∃ m, m = fmt P a := ⟨_, rfl⟩
  rw [← hm] at hr HMe hsl
  clear hm
  unfold Mt.val at HMe
  obtain ⟨nm, sl, rt⟩ := m
  simp only at hr HMe hsl
  obtain ⟨D, hD⟩ : ∃ D, D = decide (b = 1 + (sl : Int)) := ⟨_, rfl⟩
  have q9 : (b == IntKind.i64.wrap (1 + (sl : Int))) = D := by
    have : IntKind.i64.wrap (1 + (sl : Int)) = 1 + (sl : Int) := by rw [IntKind.wrap_i64]; omega
    rw [this, hD, Bool.eq_iff_iff]; simp
  have q8 : (b == 1 + (sl : Int)) = D := by rw [hD, Bool.eq_iff_iff]; simp
  have q7 : IntKind.i64.wrap (1 + (sl : Int)) = 1 + (sl : Int) := by rw [IntKind.wrap_i64]; omega
  rw [← hD] at hr
  have Hr := hide hr
  clear e1 e2 hD
  clear hhb hr hbx hX hC0 hbA hb0 HCa hcl
  cases hb
  · skip
    refine wp_region_held_drew (S := fun W => Bx mb w1 W ∧ Ch W cb mb pv P) (by kernel_rfl) (unhide H0) (fun hHeld => ?_)
    refine wpAnyH_take (i := 0) (oi := _) (v := ?_) rfl (by kernel_rfl) (by kernel_rfl) (by kernel_rfl) (fun _ _ _ h => h) (Or.inl ⟨by rfl, ?_⟩) (by assumption) ?_
    rotate_left
    · intro W hW
      go_simp
      try rfl
    try simp only [Act.put, q1, q2, q3, q4, q5, q6]
    refine wpAnyH_take (i := 1) (oi := _) (v := ?_) rfl (by kernel_rfl) (by kernel_rfl) (by kernel_rfl) (fun _ _ _ h => h) (Or.inl ⟨by rfl, ?_⟩) (by assumption) ?_
    rotate_left
    · intro W hW
      go_simp
      try rfl
    try simp only [Act.put, q1, q2, q3, q4, q5, q6]
    refine wpAnyH_take (i := 2) (oi := _) (v := ?_) rfl (by kernel_rfl) (by kernel_rfl) (by kernel_rfl) (fun _ _ _ h => h) (Or.inl ⟨by rfl, ?_⟩) (by assumption) ?_
    rotate_left
    · intro W hW
      go_simp
      try rfl
    try simp only [Act.put, q1, q2, q3, q4, q5, q6]
    refine wpAnyH_take (i := 3) (oi := _) (v := ?_) rfl (by kernel_rfl) (by kernel_rfl) (by kernel_rfl) (fun _ _ _ h => h) (Or.inl ⟨by rfl, ?_⟩) (by assumption) ?_
    rotate_left
    · intro W hW
      have qc := (unhide HQ W hW).1
      go_simp
      try rfl
    try simp only [Act.put, q1, q2, q3, q4, q5, q6]
    refine wpAnyH_take (i := 4) (oi := _) (v := ?_) rfl (by kernel_rfl) (by kernel_rfl) (by kernel_rfl) (fun _ _ _ h => h) (Or.inl ⟨by rfl, ?_⟩) (by assumption) ?_
    rotate_left
    · intro W hW
      go_simp
      try rfl
    try simp only [Act.put, q1, q2, q3, q4, q5, q6]
    refine wpAnyH_take (i := 5) (oi := _) (v := ?_) rfl (by kernel_rfl) (by kernel_rfl) (by kernel_rfl) (fun _ _ _ h => h) (Or.inl ⟨by rfl, ?_⟩) (by assumption) ?_
    rotate_left
    · intro W hW
      have q3 := (unhide HQ W hW).2.2.2.2.1
      go_simp
      try rfl
    try simp only [Act.put, q1, q2, q3, q4, q5, q6]
    refine wpAnyH_ready (rs := [6]) (by kernel_rfl) (by simp) ?_
    refine AllReadyH.cons (o := _) rfl (fun K hK => ?_) AllReadyH.nil
    go_simp
    refine hK.out _ _ (unhide HA) (fun hHeld => ?_)
    clear hK K
    try simp only [Act.put, q1, q2, q3, q4, q5, q6]
    refine wpAnyH_ready (rs := [7]) (by kernel_rfl) (by simp) ?_
    refine AllReadyH.cons (o := _) rfl (fun K hK => ?_) AllReadyH.nil
    go_simp
    go_at_call 21
    refine (unhide HH _ _ hHeld.2 (unhide HU)).mono ?_
    rintro e wH ⟨rfl, hbH⟩
    try go_simp
    refine hK.out _ _ ⟨hHeld.1.trans (Bx.of hbH), hHeld.2.below hbH⟩ (fun hHeld => ?_)
    clear hK K
    try simp only [Act.put, q1, q2, q3, q4, q5, q6]
    refine wpAnyH_take (i := 8) (oi := _) (v := ?_) rfl (by kernel_rfl) (by kernel_rfl) (by kernel_rfl) (fun _ _ _ h => h) (Or.inl ⟨by rfl, ?_⟩) (by assumption) ?_
    rotate_left
    · intro W hW
      go_simp
      try rfl
    try simp only [Act.put, q1, q2, q3, q4, q5, q6]
    refine wpAnyH_take (i := 9) (oi := _) (v := undef) rfl (by kernel_rfl) (by kernel_rfl) (by kernel_rfl) (fun _ _ _ h => h) (Or.inr ⟨by rfl, rfl⟩) (by assumption) ?_
    try simp only [Act.put, q1, q2, q3, q4, q5, q6]
    refine wpAnyH_take (i := 10) (oi := _) (v := undef) rfl (by kernel_rfl) (by kernel_rfl) (by kernel_rfl) (fun _ _ _ h => h) (Or.inr ⟨by rfl, rfl⟩) (by assumption) ?_
    try simp only [Act.put, q1, q2, q3, q4, q5, q6]
    refine wpAnyH_take (i := 11) (oi := _) (v := undef) rfl (by kernel_rfl) (by kernel_rfl) (by kernel_rfl) (fun _ _ _ h => h) (Or.inr ⟨by rfl, rfl⟩) (by assumption) ?_
    try simp only [Act.put, q1, q2, q3, q4, q5, q6]
    refine wpAnyH_take (i := 12) (oi := _) (v := ?_) rfl (by kernel_rfl) (by kernel_rfl) (by kernel_rfl) (fun _ _ _ h => h) (Or.inl ⟨by rfl, ?_⟩) (by assumption) ?_
    rotate_left
    · intro W hW
      go_simp
      try rfl
    try simp only [Act.put, q1, q2, q3, q4, q5, q6]
    refine wpAnyH_take (i := 13) (oi := _) (v := ?_) rfl (by kernel_rfl) (by kernel_rfl) (by kernel_rfl) (fun _ _ _ h => h) (Or.inl ⟨by rfl, ?_⟩) (by assumption) ?_
    rotate_left
    · intro W hW
      go_simp
      try rfl
    try simp only [Act.put, q1, q2, q3, q4, q5, q6]
    refine wpAnyH_take (i := 14) (oi := _) (v := undef) rfl (by kernel_rfl) (by kernel_rfl) (by kernel_rfl) (fun _ _ _ h => h) (Or.inr ⟨by rfl, rfl⟩) (by assumption) ?_
    try simp only [Act.put, q1, q2, q3, q4, q5, q6]
    refine wpAnyH_take (i := 15) (oi := _) (v := undef) rfl (by kernel_rfl) (by kernel_rfl) (by kernel_rfl) (fun _ _ _ h => h) (Or.inr ⟨by rfl, rfl⟩) (by assumption) ?_
    try simp only [Act.put, q1, q2, q3, q4, q5, q6]
    refine wpAnyH_take (i := 16) (oi := _) (v := undef) rfl (by kernel_rfl) (by kernel_rfl) (by kernel_rfl) (fun _ _ _ h => h) (Or.inr ⟨by rfl, rfl⟩) (by assumption) ?_
    try simp only [Act.put, q1, q2, q3, q4, q5, q6]
    refine wpAnyH_take (i := 17) (oi := _) (v := undef) rfl (by kernel_rfl) (by kernel_rfl) (by kernel_rfl) (fun _ _ _ h => h) (Or.inr ⟨by rfl, rfl⟩) (by assumption) ?_
    try simp only [Act.put, q1, q2, q3, q4, q5, q6]
    refine wpAnyH_take (i := 18) (oi := _) (v := undef) rfl (by kernel_rfl) (by kernel_rfl) (by kernel_rfl) (fun _ _ _ h => h) (Or.inr ⟨by rfl, rfl⟩) (by assumption) ?_
    try simp only [Act.put, q1, q2, q3, q4, q5, q6]
    refine wpAnyH_take (i := 19) (oi := _) (v := undef) rfl (by kernel_rfl) (by kernel_rfl) (by kernel_rfl) (fun _ _ _ h => h) (Or.inr ⟨by rfl, rfl⟩) (by assumption) ?_
    try simp only [Act.put, q1, q2, q3, q4, q5, q6]
    refine wpAnyH_take (i := 20) (oi := _) (v := undef) rfl (by kernel_rfl) (by kernel_rfl) (by kernel_rfl) (fun _ _ _ h => h) (Or.inr ⟨by rfl, rfl⟩) (by assumption) ?_
    try simp only [Act.put, q1, q2, q3, q4, q5, q6]
    refine wpAnyH_take (i := 21) (oi := _) (v := undef) rfl (by kernel_rfl) (by kernel_rfl) (by kernel_rfl) (fun _ _ _ h => h) (Or.inr ⟨by rfl, rfl⟩) (by assumption) ?_
    try simp only [Act.put, q1, q2, q3, q4, q5, q6]
    refine wpAnyH_take (i := 22) (oi := _) (v := undef) rfl (by kernel_rfl) (by kernel_rfl) (by kernel_rfl) (fun _ _ _ h => h) (Or.inr ⟨by rfl, rfl⟩) (by assumption) ?_
    try simp only [Act.put, q1, q2, q3, q4, q5, q6]
    refine wpAnyH_take (i := 23) (oi := _) (v := ?_) rfl (by kernel_rfl) (by kernel_rfl) (by kernel_rfl) (fun _ _ _ h => h) (Or.inl ⟨by rfl, ?_⟩) (by assumption) ?_
    rotate_left
    · intro W hW
      go_simp
      try rfl
    try simp only [Act.put, q1, q2, q3, q4, q5, q6]
    refine wpAnyH_take (i := 24) (oi := _) (v := ?_) rfl (by kernel_rfl) (by kernel_rfl) (by kernel_rfl) (fun _ _ _ h => h) (Or.inl ⟨by rfl, ?_⟩) (by assumption) ?_
    rotate_left
    · intro W hW
      go_simp
      try rfl
    try simp only [Act.put, q1, q2, q3, q4, q5, q6]
    refine wpAnyH_done (by kernel_rfl) ?_ _
    go_wp2
    go_ret
    exact ⟨by rw [unhide Hr]; rfl, (unhide HB).trans hHeld.1, hHeld.2⟩
  · skip
    cases cp
    · skip
      refine wp_region_held_drew (S := fun W => Bx mb w1 W ∧ Ch W cb mb pv P) (by kernel_rfl) (unhide H0) (fun hHeld => ?_)
      refine wpAnyH_take (i := 0) (oi := _) (v := ?_) rfl (by kernel_rfl) (by kernel_rfl) (by kernel_rfl) (fun _ _ _ h => h) (Or.inl ⟨by rfl, ?_⟩) (by assumption) ?_
      rotate_left
      · intro W hW
        go_simp
        try rfl
      try simp only [Act.put, q1, q2, q3, q4, q5, q6]
      refine wpAnyH_take (i := 1) (oi := _) (v := ?_) rfl (by kernel_rfl) (by kernel_rfl) (by kernel_rfl) (fun _ _ _ h => h) (Or.inl ⟨by rfl, ?_⟩) (by assumption) ?_
      rotate_left
      · intro W hW
        go_simp
        try rfl
      try simp only [Act.put, q1, q2, q3, q4, q5, q6]
      refine wpAnyH_take (i := 2) (oi := _) (v := ?_) rfl (by kernel_rfl) (by kernel_rfl) (by kernel_rfl) (fun _ _ _ h => h) (Or.inl ⟨by rfl, ?_⟩) (by assumption) ?_
      rotate_left
      · intro W hW
        go_simp
        try rfl
      try simp only [Act.put, q1, q2, q3, q4, q5, q6]
      refine wpAnyH_take (i := 3) (oi := _) (v := ?_) rfl (by kernel_rfl) (by kernel_rfl) (by kernel_rfl) (fun _ _ _ h => h) (Or.inl ⟨by rfl, ?_⟩) (by assumption) ?_
      rotate_left
      · intro W hW
        have qc := (unhide HQ W hW).1
        go_simp
        try rfl
      try simp only [Act.put, q1, q2, q3, q4, q5, q6]
      refine wpAnyH_take (i := 4) (oi := _) (v := ?_) rfl (by kernel_rfl) (by kernel_rfl) (by kernel_rfl) (fun _ _ _ h => h) (Or.inl ⟨by rfl, ?_⟩) (by assumption) ?_
      rotate_left
      · intro W hW
        go_simp
        try rfl
      try simp only [Act.put, q1, q2, q3, q4, q5, q6]
      refine wpAnyH_take (i := 5) (oi := _) (v := ?_) rfl (by kernel_rfl) (by kernel_rfl) (by kernel_rfl) (fun _ _ _ h => h) (Or.inl ⟨by rfl, ?_⟩) (by assumption) ?_
      rotate_left
      · intro W hW
        have q3 := (unhide HQ W hW).2.2.2.2.1
        go_simp
        try rfl
      try simp only [Act.put, q1, q2, q3, q4, q5, q6]
      refine wpAnyH_ready (rs := [6]) (by kernel_rfl) (by simp) ?_
      refine AllReadyH.cons (o := _) rfl (fun K hK => ?_) AllReadyH.nil
      go_simp
      refine hK.out _ _ (unhide HA) (fun hHeld => ?_)
      clear hK K
      try simp only [Act.put, q1, q2, q3, q4, q5, q6]
      refine wpAnyH_ready (rs := [7]) (by kernel_rfl) (by simp) ?_
      refine AllReadyH.cons (o := _) rfl (fun K hK => ?_) AllReadyH.nil
      go_simp
      go_at_call 21
      refine (unhide HH _ _ hHeld.2 (unhide HU)).mono ?_
      rintro e wH ⟨rfl, hbH⟩
      try go_simp
      refine hK.out _ _ ⟨hHeld.1.trans (Bx.of hbH), hHeld.2.below hbH⟩ (fun hHeld => ?_)
      clear hK K
      try simp only [Act.put, q1, q2, q3, q4, q5, q6]
      refine wpAnyH_take (i := 8) (oi := _) (v := ?_) rfl (by kernel_rfl) (by kernel_rfl) (by kernel_rfl) (fun _ _ _ h => h) (Or.inl ⟨by rfl, ?_⟩) (by assumption) ?_
      rotate_left
      · intro W hW
        go_simp
        try rfl
      try simp only [Act.put, q1, q2, q3, q4, q5, q6]
      refine wpAnyH_take (i := 9) (oi := _) (v := ?_) rfl (by kernel_rfl) (by kernel_rfl) (by kernel_rfl) (fun _ _ _ h => h) (Or.inl ⟨by rfl, ?_⟩) (by assumption) ?_
      rotate_left
      · intro W hW
        go_simp
        try rfl
      try simp only [Act.put, q1, q2, q3, q4, q5, q6]
      refine wpAnyH_take (i := 10) (oi := _) (v := ?_) rfl (by kernel_rfl) (by kernel_rfl) (by kernel_rfl) (fun _ _ _ h => h) (Or.inl ⟨by rfl, ?_⟩) (by assumption) ?_
      rotate_left
      · intro W hW
        have q0 := (unhide HQ W hW).2.1
        have q1 := (unhide HQ W hW).2.2.1
        have q2 := (unhide HQ W hW).2.2.2.1
        have q3 := (unhide HQ W hW).2.2.2.2.1
        have q4 := (unhide HQ W hW).2.2.2.2.2.1
        have q5 := (unhide HQ W hW).2.2.2.2.2.2.1
        have q6 := (unhide HQ W hW).2.2.2.2.2.2.2.1
        have q7 := (unhide HQ W hW).2.2.2.2.2.2.2.2
        go_simp
        try rfl
      try simp only [Act.put, q1, q2, q3, q4, q5, q6]
      refine wpAnyH_ready (rs := [11]) (by kernel_rfl) (by simp) ?_
      refine AllReadyH.cons (o := _) rfl (fun K hK => ?_) AllReadyH.nil
      go_simp
      go_at_call 111
      refine (unhide HCA _ hHeld.2).mono ?_
      rintro e wC ⟨rfl, hbC, hCC⟩
      try go_simp
      refine hK.out _ _ ⟨hHeld.1.trans hbC, hCC⟩ (fun hHeld => ?_)
      clear hK K
      try simp only [Act.put, q1, q2, q3, q4, q5, q6]
      refine wpAnyH_take (i := 12) (oi := _) (v := ?_) rfl (by kernel_rfl) (by kernel_rfl) (by kernel_rfl) (fun _ _ _ h => h) (Or.inl ⟨by rfl, ?_⟩) (by assumption) ?_
      rotate_left
      · intro W hW
        go_simp
        try rfl
      try simp only [Act.put, q1, q2, q3, q4, q5, q6]
      refine wpAnyH_take (i := 13) (oi := _) (v := ?_) rfl (by kernel_rfl) (by kernel_rfl) (by kernel_rfl) (fun _ _ _ h => h) (Or.inl ⟨by rfl, ?_⟩) (by assumption) ?_
      rotate_left
      · intro W hW
        go_simp
        try rfl
      try simp only [Act.put, q1, q2, q3, q4, q5, q6]
      refine wpAnyH_take (i := 14) (oi := _) (v := undef) rfl (by kernel_rfl) (by kernel_rfl) (by kernel_rfl) (fun _ _ _ h => h) (Or.inr ⟨by rfl, rfl⟩) (by assumption) ?_
      try simp only [Act.put, q1, q2, q3, q4, q5, q6]
      refine wpAnyH_take (i := 15) (oi := _) (v := undef) rfl (by kernel_rfl) (by kernel_rfl) (by kernel_rfl) (fun _ _ _ h => h) (Or.inr ⟨by rfl, rfl⟩) (by assumption) ?_
      try simp only [Act.put, q1, q2, q3, q4, q5, q6]
      refine wpAnyH_take (i := 16) (oi := _) (v := undef) rfl (by kernel_rfl) (by kernel_rfl) (by kernel_rfl) (fun _ _ _ h => h) (Or.inr ⟨by rfl, rfl⟩) (by assumption) ?_
      try simp only [Act.put, q1, q2, q3, q4, q5, q6]
      refine wpAnyH_take (i := 17) (oi := _) (v := undef) rfl (by kernel_rfl) (by kernel_rfl) (by kernel_rfl) (fun _ _ _ h => h) (Or.inr ⟨by rfl, rfl⟩) (by assumption) ?_
      try simp only [Act.put, q1, q2, q3, q4, q5, q6]
      refine wpAnyH_take (i := 18) (oi := _) (v := undef) rfl (by kernel_rfl) (by kernel_rfl) (by kernel_rfl) (fun _ _ _ h => h) (Or.inr ⟨by rfl, rfl⟩) (by assumption) ?_
      try simp only [Act.put, q1, q2, q3, q4, q5, q6]
      refine wpAnyH_take (i := 19) (oi := _) (v := undef) rfl (by kernel_rfl) (by kernel_rfl) (by kernel_rfl) (fun _ _ _ h => h) (Or.inr ⟨by rfl, rfl⟩) (by assumption) ?_
      try simp only [Act.put, q1, q2, q3, q4, q5, q6]
      refine wpAnyH_take (i := 20) (oi := _) (v := undef) rfl (by kernel_rfl) (by kernel_rfl) (by kernel_rfl) (fun _ _ _ h => h) (Or.inr ⟨by rfl, rfl⟩) (by assumption) ?_
      try simp only [Act.put, q1, q2, q3, q4, q5, q6]
      refine wpAnyH_take (i := 21) (oi := _) (v := undef) rfl (by kernel_rfl) (by kernel_rfl) (by kernel_rfl) (fun _ _ _ h => h) (Or.inr ⟨by rfl, rfl⟩) (by assumption) ?_
      try simp only [Act.put, q1, q2, q3, q4, q5, q6]
      refine wpAnyH_take (i := 22) (oi := _) (v := undef) rfl (by kernel_rfl) (by kernel_rfl) (by kernel_rfl) (fun _ _ _ h => h) (Or.inr ⟨by rfl, rfl⟩) (by assumption) ?_
      try simp only [Act.put, q1, q2, q3, q4, q5, q6]
      refine wpAnyH_take (i := 23) (oi := _) (v := ?_) rfl (by kernel_rfl) (by kernel_rfl) (by kernel_rfl) (fun _ _ _ h => h) (Or.inl ⟨by rfl, ?_⟩) (by assumption) ?_
      rotate_left
      · intro W hW
        go_simp
        try rfl
      try simp only [Act.put, q1, q2, q3, q4, q5, q6]
      refine wpAnyH_take (i := 24) (oi := _) (v := ?_) rfl (by kernel_rfl) (by kernel_rfl) (by kernel_rfl) (fun _ _ _ h => h) (Or.inl ⟨by rfl, ?_⟩) (by assumption) ?_
      rotate_left
      · intro W hW
        go_simp
        try rfl
      try simp only [Act.put, q1, q2, q3, q4, q5, q6]
      refine wpAnyH_done (by kernel_rfl) ?_ _
      go_wp2
      go_ret
      exact ⟨by rw [unhide Hr]; rfl, (unhide HB).trans hHeld.1, hHeld.2⟩
    · skip
      refine wp_region_held_drew (S := fun W => Bx mb w1 W ∧ Ch W cb mb pv P) (by kernel_rfl) (unhide H0) (fun hHeld => ?_)
      refine wpAnyH_take (i := 0) (oi := _) (v := ?_) rfl (by kernel_rfl) (by kernel_rfl) (by kernel_rfl) (fun _ _ _ h => h) (Or.inl ⟨by rfl, ?_⟩) (by assumption) ?_
      rotate_left
      · intro W hW
        go_simp
        try rfl
      try simp only [Act.put, q1, q2, q3, q4, q5, q6]
      refine wpAnyH_take (i := 1) (oi := _) (v := ?_) rfl (by kernel_rfl) (by kernel_rfl) (by kernel_rfl) (fun _ _ _ h => h) (Or.inl ⟨by rfl, ?_⟩) (by assumption) ?_
      rotate_left
      · intro W hW
        go_simp
        try rfl
      try simp only [Act.put, q1, q2, q3, q4, q5, q6]
      refine wpAnyH_take (i := 2) (oi := _) (v := ?_) rfl (by kernel_rfl) (by kernel_rfl) (by kernel_rfl) (fun _ _ _ h => h) (Or.inl ⟨by rfl, ?_⟩) (by assumption) ?_
      rotate_left
      · intro W hW
        go_simp
        try rfl
      try simp only [Act.put, q1, q2, q3, q4, q5, q6]
      refine wpAnyH_take (i := 3) (oi := _) (v := ?_) rfl (by kernel_rfl) (by kernel_rfl) (by kernel_rfl) (fun _ _ _ h => h) (Or.inl ⟨by rfl, ?_⟩) (by assumption) ?_
      rotate_left
      · intro W hW
        have qc := (unhide HQ W hW).1
        go_simp
        try rfl
      try simp only [Act.put, q1, q2, q3, q4, q5, q6]
      refine wpAnyH_take (i := 4) (oi := _) (v := ?_) rfl (by kernel_rfl) (by kernel_rfl) (by kernel_rfl) (fun _ _ _ h => h) (Or.inl ⟨by rfl, ?_⟩) (by assumption) ?_
      rotate_left
      · intro W hW
        go_simp
        try rfl
      try simp only [Act.put, q1, q2, q3, q4, q5, q6]
      refine wpAnyH_take (i := 5) (oi := _) (v := ?_) rfl (by kernel_rfl) (by kernel_rfl) (by kernel_rfl) (fun _ _ _ h => h) (Or.inl ⟨by rfl, ?_⟩) (by assumption) ?_
      rotate_left
      · intro W hW
        have q3 := (unhide HQ W hW).2.2.2.2.1
        go_simp
        try rfl
      try simp only [Act.put, q1, q2, q3, q4, q5, q6]
      refine wpAnyH_ready (rs := [6]) (by kernel_rfl) (by simp) ?_
      refine AllReadyH.cons (o := _) rfl (fun K hK => ?_) AllReadyH.nil
      go_simp
      refine hK.out _ _ (unhide HA) (fun hHeld => ?_)
      clear hK K
      try simp only [Act.put, q1, q2, q3, q4, q5, q6]
      refine wpAnyH_ready (rs := [7]) (by kernel_rfl) (by simp) ?_
      refine AllReadyH.cons (o := _) rfl (fun K hK => ?_) AllReadyH.nil
      go_simp
      go_at_call 21
      refine (unhide HH _ _ hHeld.2 (unhide HU)).mono ?_
      rintro e wH ⟨rfl, hbH⟩
      try go_simp
      refine hK.out _ _ ⟨hHeld.1.trans (Bx.of hbH), hHeld.2.below hbH⟩ (fun hHeld => ?_)
      clear hK K
      try simp only [Act.put, q1, q2, q3, q4, q5, q6]
      refine wpAnyH_take (i := 8) (oi := _) (v := ?_) rfl (by kernel_rfl) (by kernel_rfl) (by kernel_rfl) (fun _ _ _ h => h) (Or.inl ⟨by rfl, ?_⟩) (by assumption) ?_
      rotate_left
      · intro W hW
        go_simp
        try rfl
      try simp only [Act.put, q1, q2, q3, q4, q5, q6]
      refine wpAnyH_take (i := 9) (oi := _) (v := ?_) rfl (by kernel_rfl) (by kernel_rfl) (by kernel_rfl) (fun _ _ _ h => h) (Or.inl ⟨by rfl, ?_⟩) (by assumption) ?_
      rotate_left
      · intro W hW
        go_simp
        try rfl
      try simp only [Act.put, q1, q2, q3, q4, q5, q6]
      refine wpAnyH_take (i := 10) (oi := _) (v := ?_) rfl (by kernel_rfl) (by kernel_rfl) (by kernel_rfl) (fun _ _ _ h => h) (Or.inl ⟨by rfl, ?_⟩) (by assumption) ?_
      rotate_left
      · intro W hW
        have q0 := (unhide HQ W hW).2.1
        have q1 := (unhide HQ W hW).2.2.1
        have q2 := (unhide HQ W hW).2.2.2.1
        have q3 := (unhide HQ W hW).2.2.2.2.1
        have q4 := (unhide HQ W hW).2.2.2.2.2.1
        have q5 := (unhide HQ W hW).2.2.2.2.2.2.1
        have q6 := (unhide HQ W hW).2.2.2.2.2.2.2.1
        have q7 := (unhide HQ W hW).2.2.2.2.2.2.2.2
        go_simp
        try rfl
      try simp only [Act.put, q1, q2, q3, q4, q5, q6]
      refine wpAnyH_ready (rs := [11]) (by kernel_rfl) (by simp) ?_
      refine AllReadyH.cons (o := _) rfl (fun K hK => ?_) AllReadyH.nil
      go_simp
      go_at_call 111
      refine (unhide HCA _ hHeld.2).mono ?_
      rintro e wC ⟨rfl, hbC, hCC⟩
      try go_simp
      refine hK.out _ _ ⟨hHeld.1.trans hbC, hCC⟩ (fun hHeld => ?_)
      clear hK K
      try simp only [Act.put, q1, q2, q3, q4, q5, q6]
      refine wpAnyH_take (i := 12) (oi := _) (v := ?_) rfl (by kernel_rfl) (by kernel_rfl) (by kernel_rfl) (fun _ _ _ h => h) (Or.inl ⟨by rfl, ?_⟩) (by assumption) ?_
      rotate_left
      · intro W hW
        go_simp
        try rfl
      try simp only [Act.put, q1, q2, q3, q4, q5, q6]
      refine wpAnyH_take (i := 13) (oi := _) (v := ?_) rfl (by kernel_rfl) (by kernel_rfl) (by kernel_rfl) (fun _ _ _ h => h) (Or.inl ⟨by rfl, ?_⟩) (by assumption) ?_
      rotate_left
      · intro W hW
        go_simp
        try rfl
      try simp only [Act.put, q1, q2, q3, q4, q5, q6]
      refine wpAnyH_take (i := 14) (oi := _) (v := ?_) rfl (by kernel_rfl) (by kernel_rfl) (by kernel_rfl) (fun _ _ _ h => h) (Or.inl ⟨by rfl, ?_⟩) (by assumption) ?_
      rotate_left
      · intro W hW
        go_simp
        try rfl
      try simp only [Act.put, q1, q2, q3, q4, q5, q6]
      refine wpAnyH_take (i := 15) (oi := _) (v := ?_) rfl (by kernel_rfl) (by kernel_rfl) (by kernel_rfl) (fun _ _ _ h => h) (Or.inl ⟨by rfl, ?_⟩) (by assumption) ?_
      rotate_left
      · intro W hW
        have q4 := (unhide HQ W hW).2.2.2.2.2.1
        go_simp
        try rfl
      try simp only [Act.put, q1, q2, q3, q4, q5, q6]
      refine wpAnyH_take (i := 16) (oi := _) (v := ?_) rfl (by kernel_rfl) (by kernel_rfl) (by kernel_rfl) (fun _ _ _ h => h) (Or.inl ⟨by rfl, ?_⟩) (by assumption) ?_
      rotate_left
      · intro W hW
        go_simp
        try rfl
      try simp only [Act.put, q1, q2, q3, q4, q5, q6]
      refine wpAnyH_take (i := 17) (oi := _) (v := ?_) rfl (by kernel_rfl) (by kernel_rfl) (by kernel_rfl) (fun _ _ _ h => h) (Or.inl ⟨by rfl, ?_⟩) (by assumption) ?_
      rotate_left
      · intro W hW
        go_simp
        try rfl
      try simp only [Act.put, q1, q2, q3, q4, q5, q6]
      refine wpAnyH_take (i := 18) (oi := _) (v := ?_) rfl (by kernel_rfl) (by kernel_rfl) (by kernel_rfl) (fun _ _ _ h => h) (Or.inl ⟨by rfl, ?_⟩) (by assumption) ?_
      rotate_left
      · intro W hW
        have q3 := (unhide HQ W hW).2.2.2.2.1
        go_simp
        try rfl
      try simp only [Act.put, q1, q2, q3, q4, q5, q6]
      refine wpAnyH_ready (rs := [19]) (by kernel_rfl) (by simp) ?_
      refine AllReadyH.cons (o := _) rfl (fun K hK => ?_) AllReadyH.nil
      go_simp
      go_at_call 112
      refine (unhide HMe _ hHeld.2).mono ?_
      rintro e wM ⟨rfl, hbM, hCM⟩
      try go_simp
      refine hK.out _ _ ⟨hHeld.1.trans hbM, hCM⟩ (fun hHeld => ?_)
      clear hK K
      try simp only [Act.put, q1, q2, q3, q4, q5, q6]
      refine wpAnyH_take (i := 20) (oi := _) (v := ?_) rfl (by kernel_rfl) (by kernel_rfl) (by kernel_rfl) (fun _ _ _ h => h) (Or.inl ⟨by rfl, ?_⟩) (by assumption) ?_
      rotate_left
      · intro W hW
        go_simp
        try rfl
      try simp only [Act.put, q1, q2, q3, q4, q5, q6]
      refine wpAnyH_take (i := 21) (oi := _) (v := ?_) rfl (by kernel_rfl) (by kernel_rfl) (by kernel_rfl) (fun _ _ _ h => h) (Or.inl ⟨by rfl, ?_⟩) (by assumption) ?_
      rotate_left
      · intro W hW
        go_simp
        try rfl
      try simp only [Act.put, q1, q2, q3, q4, q5, q6]
      refine wpAnyH_take (i := 22) (oi := _) (v := ?_) rfl (by kernel_rfl) (by kernel_rfl) (by kernel_rfl) (fun _ _ _ h => h) (Or.inl ⟨by rfl, ?_⟩) (by assumption) ?_
      rotate_left
      · intro W hW
        go_simp
        try rfl
      try simp only [Act.put, q1, q2, q3, q4, q5, q6]
      refine wpAnyH_take (i := 23) (oi := _) (v := ?_) rfl (by kernel_rfl) (by kernel_rfl) (by kernel_rfl) (fun _ _ _ h => h) (Or.inl ⟨by rfl, ?_⟩) (by assumption) ?_
      rotate_left
      · intro W hW
        go_simp
        try rfl
      try simp only [Act.put, q1, q2, q3, q4, q5, q6]
      refine wpAnyH_take (i := 24) (oi := _) (v := ?_) rfl (by kernel_rfl) (by kernel_rfl) (by kernel_rfl) (fun _ _ _ h => h) (Or.inl ⟨by rfl, ?_⟩) (by assumption) ?_
      rotate_left
      · intro W hW
        go_simp
        try rfl
      try simp only [Act.put, q1, q2, q3, q4, q5, q6]
      refine wpAnyH_done (by kernel_rfl) ?_ _
      go_wp2
      go_ret
      exact ⟨by rw [unhide Hr]; rfl, (unhide HB).trans hHeld.1, hHeld.2⟩

end Go.Proofs.YtddhlphbbiihjaaGreatDoor.Ck
