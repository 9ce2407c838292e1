/-
  CodeChecks: the program's indexHolds.
-/
import Derived.Test.YtddhlphbbiihjaaGreatDoorMgCq
import Derived.Deep.RegionHeld3
set_option linter.unusedVariables false
set_option linter.unusedSimpArgs false
namespace Go.Proofs.YtddhlphbbiihjaaGreatDoor.Ck
open Go.RowKit Kn

theorem q1 {α : Type} {l : List α} {i : Nat} (h : i < l.toArray.size) : l.toArray[i] = l[i]'h := rfl
theorem q2 {α : Type} {a : α} {l : List α} {h : 0 < (a :: l).length} : (a :: l)[0] = a := rfl
theorem q3 {α : Type} {a : α} {l : List α} {i : Nat} {h : i + 1 < (a :: l).length} : (a :: l)[i + 1] = l[i]'(Nat.lt_of_succ_lt_succ h) := rfl
theorem q4 {α : Type} (l : List α) (i : Nat) (v : α) : l.toArray.setIfInBounds i v = (l.set i v).toArray := List.setIfInBounds_toArray l i v
theorem q5 {α : Type} {a : α} {l : List α} {v : α} : (a :: l).set 0 v = v :: l := rfl
theorem q6 {α : Type} {a : α} {l : List α} {i : Nat} {v : α} : (a :: l).set (i + 1) v = a :: l.set i v := rfl
theorem UIn.list (w : World) (ts : List Nat) : UIn (w.alloc (.cells (ts.map fun (t : Nat) => Value.int .u8 (t : Int)).toArray 5)).drew (.slice (some ⟨w.heap.size, 0, none⟩) ts.length ts.length) ts :=
  ⟨w.heap.size, 0, ts.length, rfl, fun k hk => by
    have h : (w.alloc (.cells (ts.map fun (t : Nat) => Value.int .u8 (t : Int)).toArray 5)).drew.heap[w.heap.size]? = some (.cells (ts.map fun (t : Nat) => Value.int .u8 (t : Int)).toArray 5 (0, 0)) := heap_alloc_new _ _
    rw [cell_of_row _ _ _ _ _ _ h, getD_at _ _ hk]
    simp [hk]⟩
theorem slots_small {P : List K} (hS : Small P) (i : Int) : (fmt P i).slots ≤ 2097152 := by
  unfold fmt
  split
  · have hds := hS.text ((M.kAt P ((M.kAt P i).b : Int)).b : Int)
    split
    · simp
    · rename_i L g hn
      have h1 : L.length ≤ 1048576 := Nat.le_trans (meth_len hn) hds
      have h2 := W.slots_le L
      simp only
      omega
  · simp
theorem calB_other {P : List K} {op : Nat} (i b : Int) (h : op ≠ 185) : calB P op i b = calP P op i := by
  unfold calB calP
  rw [decide_eq_false h]
  generalize (fmt P i).right = x
  generalize decide ((fmt P i).name = clinitB) = y
  generalize decide ((fmt P i).name = initB) = z
  generalize decide (op = 183) = u
  cases x <;> cases y <;> cases z <;> cases u <;> rfl
theorem calB_face {P : List K} (i b : Int) : calB P 185 i b = (calP P 185 i && decide (b = 1 + ((fmt P i).slots : Int))) := by
  unfold calB calP
  generalize (fmt P i).right = x
  generalize decide ((fmt P i).name = clinitB) = y
  generalize decide ((fmt P i).name = initB) = z
  generalize decide (b = 1 + ((fmt P i).slots : Int)) = v
  cases x <;> cases y <;> cases z <;> cases v <;> rfl
set_option maxRecDepth 100000 in
set_option maxHeartbeats 4000000 in
theorem idx_18 (c : Cw.V) (cb mb : Nat) (pv : Value) (P : List K) (w : World) (hop : c.g.op = 18) (h : Ch w cb mb pv P) (hP : P.length ≤ 1048576) (hS : Small P) :
    Calls Tryz.prog 92 #[.pointer (some ⟨cb, 0, none⟩), .agg c.arr] w fun e w' => e = .returned (.bool (opdB P 18 c.g.a c.g.b)) ∧ Bx mb w w' ∧ Ch w' cb mb pv P := by
  have hbx := (Below.refl w.heap.size w).alloc (Nat.le_refl _) (.cells c.arr 112)
  have hX := Bk.new w c.arr 112
  have hC0 := h.below hbx
  have HCa := fun (W : World) (hW : Ch W cb mb pv P) => called_any c cb mb pv P W (by omega) hW hP hS
  have hcl := hS.cls c.g.a
  obtain ⟨r, hr⟩ : ∃ r, r = opdB P 18 c.g.a c.g.b := ⟨_, rfl⟩
  rw [← hr]
  unfold opdB at hr
  simp only [Nat.reduceEqDiff, Nat.reduceLeDiff, or_false, false_or, or_self, and_self, and_true, true_and, and_false, false_and, if_true, if_false, reduceIte] at hr
  obtain ⟨⟨at_, op, wide, a, b, low, keys, tgts⟩, kv, tv⟩ := c
  unfold Cw.V.arr at *
  simp only at *
  subst hop
  simp only [show ((18 : Nat) : Int) = 18 from rfl] at *
  have HCA := hide HCa
  have HMe := hide (fun (W : World) (hW : Ch W cb mb pv P) => method_any cb mb pv P a W hW hP hS)
  have HDi := hide (fun (W : World) (hW : Ch W cb mb pv P) => dimensions_any cb pv P a W hW.c0 hW.k hP hS)
  have HW := hide Fm.within_any
  go_enter Tryz.func92, Tryz.ntmps92
  go_wp2_with (go_at_call 110; refine (unhide HW _ _ _ _).mono ?_; rintro e w' ⟨rfl, hww⟩; subst w')
  generalize w.alloc (.cells #[.int .i64 at_, .int .u8 18, .bool wide, .int .i64 a, .int .i64 b, .int .i64 low, kv, tv] 112) = w1 at *
  have HQ : Hid (∀ W : World, (Bx mb w1 W ∧ Ch W cb mb pv P) → W.cell? ⟨cb, 0, none⟩ = some pv ∧ W.cell? ⟨w.heap.size, 0, none⟩ = some (.int .i64 at_) ∧ W.cell? ⟨w.heap.size, 1, none⟩ = some (.int .u8 18) ∧ W.cell? ⟨w.heap.size, 2, none⟩ = some (.bool wide) ∧ W.cell? ⟨w.heap.size, 3, none⟩ = some (.int .i64 a) ∧ W.cell? ⟨w.heap.size, 4, none⟩ = some (.int .i64 b) ∧ W.cell? ⟨w.heap.size, 5, none⟩ = some (.int .i64 low) ∧ W.cell? ⟨w.heap.size, 6, none⟩ = some kv ∧ W.cell? ⟨w.heap.size, 7, none⟩ = some tv) := fun W hW =>
    ⟨hW.2.c0, hW.1.cell hC0.mp (hX.cell 0), hW.1.cell hC0.mp (hX.cell 1), hW.1.cell hC0.mp (hX.cell 2), hW.1.cell hC0.mp (hX.cell 3), hW.1.cell hC0.mp (hX.cell 4), hW.1.cell hC0.mp (hX.cell 5), hW.1.cell hC0.mp (hX.cell 6), hW.1.cell hC0.mp (hX.cell 7)⟩
  have HH := hide (fun (W : World) (tv : Value) (hW : Ch W cb mb pv P) (ht : UIn W tv [3, 4, 8]) => Kn.Has_any pv tv P [3, 4, 8] a W hW.k hP ht (by simp))
  have HU : Hid (UIn (w1.alloc (.cells #[.int .u8 3, .int .u8 4, .int .u8 8] 5)).drew (.slice (some ⟨w1.heap.size, 0, none⟩) 3 3) [3, 4, 8]) := UIn.list w1 [3, 4, 8]
  have hbA : Below w1.heap.size w1 (w1.alloc (.cells #[.int .u8 3, .int .u8 4, .int .u8 8] 5)).drew := ((Below.refl _ _).alloc (Nat.le_refl _) _).drew
  have HA : Hid (Bx mb w1 (w1.alloc (.cells #[.int .u8 3, .int .u8 4, .int .u8 8] 5)).drew ∧ Ch (w1.alloc (.cells #[.int .u8 3, .int .u8 4, .int .u8 8] 5)).drew cb mb pv P) := ⟨Bx.of hbA, hC0.below hbA⟩
  have hb0 : Below w1.heap.size w1 w1.drew := (Below.refl _ _).drew
  have H0 : Hid (Bx mb w1 w1.drew ∧ Ch w1.drew cb mb pv P) := ⟨Bx.of hb0, hC0.below hb0⟩
  have HB : Hid (Bx mb w w1) := Bx.of hbx
  obtain ⟨hb, hhb⟩ : ∃ x, x = ([3, 4, 8] : List Nat).contains (M.tag P a) := ⟨_, rfl⟩
  rw [← hhb] at HH
  have e : r = hb := by rw [hr, hhb, Bool.eq_iff_iff]; simp [or_assoc]
  subst e
  clear hhb hr hbx hX hC0 hbA hb0 HCa hcl
  refine wp_region_held_drew (S := fun W => Bx mb w1 W ∧ Ch W cb mb pv P) (by kernel_rfl) (unhide H0) (fun hHeld => ?_)
  refine wpAnyH_take (i := 0) (oi := _) (v := ?_) rfl (by kernel_rfl) (by kernel_rfl) (by kernel_rfl) (fun _ _ _ h => h) (Or.inl ⟨by rfl, ?_⟩) (by assumption) ?_
  rotate_left
  · intro W hW
    go_simp
    try rfl
  try simp only [Act.put, q1, q2, q3, q4, q5, q6]
  refine wpAnyH_take (i := 1) (oi := _) (v := ?_) rfl (by kernel_rfl) (by kernel_rfl) (by kernel_rfl) (fun _ _ _ h => h) (Or.inl ⟨by rfl, ?_⟩) (by assumption) ?_
  rotate_left
  · intro W hW
    go_simp
    try rfl
  try simp only [Act.put, q1, q2, q3, q4, q5, q6]
  refine wpAnyH_take (i := 2) (oi := _) (v := ?_) rfl (by kernel_rfl) (by kernel_rfl) (by kernel_rfl) (fun _ _ _ h => h) (Or.inl ⟨by rfl, ?_⟩) (by assumption) ?_
  rotate_left
  · intro W hW
    go_simp
    try rfl
  try simp only [Act.put, q1, q2, q3, q4, q5, q6]
  refine wpAnyH_take (i := 3) (oi := _) (v := ?_) rfl (by kernel_rfl) (by kernel_rfl) (by kernel_rfl) (fun _ _ _ h => h) (Or.inl ⟨by rfl, ?_⟩) (by assumption) ?_
  rotate_left
  · intro W hW
    have qc := (unhide HQ W hW).1
    go_simp
    try rfl
  try simp only [Act.put, q1, q2, q3, q4, q5, q6]
  refine wpAnyH_take (i := 4) (oi := _) (v := ?_) rfl (by kernel_rfl) (by kernel_rfl) (by kernel_rfl) (fun _ _ _ h => h) (Or.inl ⟨by rfl, ?_⟩) (by assumption) ?_
  rotate_left
  · intro W hW
    go_simp
    try rfl
  try simp only [Act.put, q1, q2, q3, q4, q5, q6]
  refine wpAnyH_take (i := 5) (oi := _) (v := ?_) rfl (by kernel_rfl) (by kernel_rfl) (by kernel_rfl) (fun _ _ _ h => h) (Or.inl ⟨by rfl, ?_⟩) (by assumption) ?_
  rotate_left
  · intro W hW
    have q3 := (unhide HQ W hW).2.2.2.2.1
    go_simp
    try rfl
  try simp only [Act.put, q1, q2, q3, q4, q5, q6]
  refine wpAnyH_ready (rs := [6]) (by kernel_rfl) (by simp) ?_
  refine AllReadyH.cons (o := _) rfl (fun K hK => ?_) AllReadyH.nil
  go_simp
  refine hK.out _ _ (unhide HA) (fun hHeld => ?_)
  clear hK K
  try simp only [Act.put, q1, q2, q3, q4, q5, q6]
  refine wpAnyH_ready (rs := [7]) (by kernel_rfl) (by simp) ?_
  refine AllReadyH.cons (o := _) rfl (fun K hK => ?_) AllReadyH.nil
  go_simp
  go_at_call 21
  refine (unhide HH _ _ hHeld.2 (unhide HU)).mono ?_
  rintro e wH ⟨rfl, hbH⟩
  try go_simp
  refine hK.out _ _ ⟨hHeld.1.trans (Bx.of hbH), hHeld.2.below hbH⟩ (fun hHeld => ?_)
  clear hK K
  try simp only [Act.put, q1, q2, q3, q4, q5, q6]
  refine wpAnyH_take (i := 8) (oi := _) (v := ?_) rfl (by kernel_rfl) (by kernel_rfl) (by kernel_rfl) (fun _ _ _ h => h) (Or.inl ⟨by rfl, ?_⟩) (by assumption) ?_
  rotate_left
  · intro W hW
    go_simp
    try rfl
  try simp only [Act.put, q1, q2, q3, q4, q5, q6]
  refine wpAnyH_done (by kernel_rfl) ?_ _
  go_wp2
  go_ret
  exact ⟨rfl, (unhide HB).trans hHeld.1, hHeld.2⟩

set_option maxRecDepth 100000 in
set_option maxHeartbeats 4000000 in
theorem idx_19 (c : Cw.V) (cb mb : Nat) (pv : Value) (P : List K) (w : World) (hop : c.g.op = 19) (h : Ch w cb mb pv P) (hP : P.length ≤ 1048576) (hS : Small P) :
    Calls Tryz.prog 92 #[.pointer (some ⟨cb, 0, none⟩), .agg c.arr] w fun e w' => e = .returned (.bool (opdB P 19 c.g.a c.g.b)) ∧ Bx mb w w' ∧ Ch w' cb mb pv P := by
  have hbx := (Below.refl w.heap.size w).alloc (Nat.le_refl _) (.cells c.arr 112)
  have hX := Bk.new w c.arr 112
  have hC0 := h.below hbx
  have HCa := fun (W : World) (hW : Ch W cb mb pv P) => called_any c cb mb pv P W (by omega) hW hP hS
  have hcl := hS.cls c.g.a
  obtain ⟨r, hr⟩ : ∃ r, r = opdB P 19 c.g.a c.g.b := ⟨_, rfl⟩
  rw [← hr]
  unfold opdB at hr
  simp only [Nat.reduceEqDiff, Nat.reduceLeDiff, or_false, false_or, or_self, and_self, and_true, true_and, and_false, false_and, if_true, if_false, reduceIte] at hr
  obtain ⟨⟨at_, op, wide, a, b, low, keys, tgts⟩, kv, tv⟩ := c
  unfold Cw.V.arr at *
  simp only at *
  subst hop
  simp only [show ((19 : Nat) : Int) = 19 from rfl] at *
  have HCA := hide HCa
  have HMe := hide (fun (W : World) (hW : Ch W cb mb pv P) => method_any cb mb pv P a W hW hP hS)
  have HDi := hide (fun (W : World) (hW : Ch W cb mb pv P) => dimensions_any cb pv P a W hW.c0 hW.k hP hS)
  have HW := hide Fm.within_any
  go_enter Tryz.func92, Tryz.ntmps92
  go_wp2_with (go_at_call 110; refine (unhide HW _ _ _ _).mono ?_; rintro e w' ⟨rfl, hww⟩; subst w')
  generalize w.alloc (.cells #[.int .i64 at_, .int .u8 19, .bool wide, .int .i64 a, .int .i64 b, .int .i64 low, kv, tv] 112) = w1 at *
  have HQ : Hid (∀ W : World, (Bx mb w1 W ∧ Ch W cb mb pv P) → W.cell? ⟨cb, 0, none⟩ = some pv ∧ W.cell? ⟨w.heap.size, 0, none⟩ = some (.int .i64 at_) ∧ W.cell? ⟨w.heap.size, 1, none⟩ = some (.int .u8 19) ∧ W.cell? ⟨w.heap.size, 2, none⟩ = some (.bool wide) ∧ W.cell? ⟨w.heap.size, 3, none⟩ = some (.int .i64 a) ∧ W.cell? ⟨w.heap.size, 4, none⟩ = some (.int .i64 b) ∧ W.cell? ⟨w.heap.size, 5, none⟩ = some (.int .i64 low) ∧ W.cell? ⟨w.heap.size, 6, none⟩ = some kv ∧ W.cell? ⟨w.heap.size, 7, none⟩ = some tv) := fun W hW =>
    ⟨hW.2.c0, hW.1.cell hC0.mp (hX.cell 0), hW.1.cell hC0.mp (hX.cell 1), hW.1.cell hC0.mp (hX.cell 2), hW.1.cell hC0.mp (hX.cell 3), hW.1.cell hC0.mp (hX.cell 4), hW.1.cell hC0.mp (hX.cell 5), hW.1.cell hC0.mp (hX.cell 6), hW.1.cell hC0.mp (hX.cell 7)⟩
  have HH := hide (fun (W : World) (tv : Value) (hW : Ch W cb mb pv P) (ht : UIn W tv [3, 4, 8]) => Kn.Has_any pv tv P [3, 4, 8] a W hW.k hP ht (by simp))
  have HU : Hid (UIn (w1.alloc (.cells #[.int .u8 3, .int .u8 4, .int .u8 8] 5)).drew (.slice (some ⟨w1.heap.size, 0, none⟩) 3 3) [3, 4, 8]) := UIn.list w1 [3, 4, 8]
  have hbA : Below w1.heap.size w1 (w1.alloc (.cells #[.int .u8 3, .int .u8 4, .int .u8 8] 5)).drew := ((Below.refl _ _).alloc (Nat.le_refl _) _).drew
  have HA : Hid (Bx mb w1 (w1.alloc (.cells #[.int .u8 3, .int .u8 4, .int .u8 8] 5)).drew ∧ Ch (w1.alloc (.cells #[.int .u8 3, .int .u8 4, .int .u8 8] 5)).drew cb mb pv P) := ⟨Bx.of hbA, hC0.below hbA⟩
  have hb0 : Below w1.heap.size w1 w1.drew := (Below.refl _ _).drew
  have H0 : Hid (Bx mb w1 w1.drew ∧ Ch w1.drew cb mb pv P) := ⟨Bx.of hb0, hC0.below hb0⟩
  have HB : Hid (Bx mb w w1) := Bx.of hbx
  obtain ⟨hb, hhb⟩ : ∃ x, x = ([3, 4, 8] : List Nat).contains (M.tag P a) := ⟨_, rfl⟩
  rw [← hhb] at HH
  have e : r = hb := by rw [hr, hhb, Bool.eq_iff_iff]; simp [or_assoc]
  subst e
  clear hhb hr hbx hX hC0 hbA hb0 HCa hcl
  refine wp_region_held_drew (S := fun W => Bx mb w1 W ∧ Ch W cb mb pv P) (by kernel_rfl) (unhide H0) (fun hHeld => ?_)
  refine wpAnyH_take (i := 0) (oi := _) (v := ?_) rfl (by kernel_rfl) (by kernel_rfl) (by kernel_rfl) (fun _ _ _ h => h) (Or.inl ⟨by rfl, ?_⟩) (by assumption) ?_
  rotate_left
  · intro W hW
    go_simp
    try rfl
  try simp only [Act.put, q1, q2, q3, q4, q5, q6]
  refine wpAnyH_take (i := 1) (oi := _) (v := ?_) rfl (by kernel_rfl) (by kernel_rfl) (by kernel_rfl) (fun _ _ _ h => h) (Or.inl ⟨by rfl, ?_⟩) (by assumption) ?_
  rotate_left
  · intro W hW
    go_simp
    try rfl
  try simp only [Act.put, q1, q2, q3, q4, q5, q6]
  refine wpAnyH_take (i := 2) (oi := _) (v := ?_) rfl (by kernel_rfl) (by kernel_rfl) (by kernel_rfl) (fun _ _ _ h => h) (Or.inl ⟨by rfl, ?_⟩) (by assumption) ?_
  rotate_left
  · intro W hW
    go_simp
    try rfl
  try simp only [Act.put, q1, q2, q3, q4, q5, q6]
  refine wpAnyH_take (i := 3) (oi := _) (v := ?_) rfl (by kernel_rfl) (by kernel_rfl) (by kernel_rfl) (fun _ _ _ h => h) (Or.inl ⟨by rfl, ?_⟩) (by assumption) ?_
  rotate_left
  · intro W hW
    have qc := (unhide HQ W hW).1
    go_simp
    try rfl
  try simp only [Act.put, q1, q2, q3, q4, q5, q6]
  refine wpAnyH_take (i := 4) (oi := _) (v := ?_) rfl (by kernel_rfl) (by kernel_rfl) (by kernel_rfl) (fun _ _ _ h => h) (Or.inl ⟨by rfl, ?_⟩) (by assumption) ?_
  rotate_left
  · intro W hW
    go_simp
    try rfl
  try simp only [Act.put, q1, q2, q3, q4, q5, q6]
  refine wpAnyH_take (i := 5) (oi := _) (v := ?_) rfl (by kernel_rfl) (by kernel_rfl) (by kernel_rfl) (fun _ _ _ h => h) (Or.inl ⟨by rfl, ?_⟩) (by assumption) ?_
  rotate_left
  · intro W hW
    have q3 := (unhide HQ W hW).2.2.2.2.1
    go_simp
    try rfl
  try simp only [Act.put, q1, q2, q3, q4, q5, q6]
  refine wpAnyH_ready (rs := [6]) (by kernel_rfl) (by simp) ?_
  refine AllReadyH.cons (o := _) rfl (fun K hK => ?_) AllReadyH.nil
  go_simp
  refine hK.out _ _ (unhide HA) (fun hHeld => ?_)
  clear hK K
  try simp only [Act.put, q1, q2, q3, q4, q5, q6]
  refine wpAnyH_ready (rs := [7]) (by kernel_rfl) (by simp) ?_
  refine AllReadyH.cons (o := _) rfl (fun K hK => ?_) AllReadyH.nil
  go_simp
  go_at_call 21
  refine (unhide HH _ _ hHeld.2 (unhide HU)).mono ?_
  rintro e wH ⟨rfl, hbH⟩
  try go_simp
  refine hK.out _ _ ⟨hHeld.1.trans (Bx.of hbH), hHeld.2.below hbH⟩ (fun hHeld => ?_)
  clear hK K
  try simp only [Act.put, q1, q2, q3, q4, q5, q6]
  refine wpAnyH_take (i := 8) (oi := _) (v := ?_) rfl (by kernel_rfl) (by kernel_rfl) (by kernel_rfl) (fun _ _ _ h => h) (Or.inl ⟨by rfl, ?_⟩) (by assumption) ?_
  rotate_left
  · intro W hW
    go_simp
    try rfl
  try simp only [Act.put, q1, q2, q3, q4, q5, q6]
  refine wpAnyH_done (by kernel_rfl) ?_ _
  go_wp2
  go_ret
  exact ⟨rfl, (unhide HB).trans hHeld.1, hHeld.2⟩

set_option maxRecDepth 100000 in
set_option maxHeartbeats 4000000 in
theorem idx_20 (c : Cw.V) (cb mb : Nat) (pv : Value) (P : List K) (w : World) (hop : c.g.op = 20) (h : Ch w cb mb pv P) (hP : P.length ≤ 1048576) (hS : Small P) :
    Calls Tryz.prog 92 #[.pointer (some ⟨cb, 0, none⟩), .agg c.arr] w fun e w' => e = .returned (.bool (opdB P 20 c.g.a c.g.b)) ∧ Bx mb w w' ∧ Ch w' cb mb pv P := by
  have hbx := (Below.refl w.heap.size w).alloc (Nat.le_refl _) (.cells c.arr 112)
  have hX := Bk.new w c.arr 112
  have hC0 := h.below hbx
  have HCa := fun (W : World) (hW : Ch W cb mb pv P) => called_any c cb mb pv P W (by omega) hW hP hS
  have hcl := hS.cls c.g.a
  obtain ⟨r, hr⟩ : ∃ r, r = opdB P 20 c.g.a c.g.b := ⟨_, rfl⟩
  rw [← hr]
  unfold opdB at hr
  simp only [Nat.reduceEqDiff, Nat.reduceLeDiff, or_false, false_or, or_self, and_self, and_true, true_and, and_false, false_and, if_true, if_false, reduceIte] at hr
  obtain ⟨⟨at_, op, wide, a, b, low, keys, tgts⟩, kv, tv⟩ := c
  unfold Cw.V.arr at *
  simp only at *
  subst hop
  simp only [show ((20 : Nat) : Int) = 20 from rfl] at *
  have HCA := hide HCa
  have HMe := hide (fun (W : World) (hW : Ch W cb mb pv P) => method_any cb mb pv P a W hW hP hS)
  have HDi := hide (fun (W : World) (hW : Ch W cb mb pv P) => dimensions_any cb pv P a W hW.c0 hW.k hP hS)
  have HW := hide Fm.within_any
  go_enter Tryz.func92, Tryz.ntmps92
  go_wp2_with (go_at_call 110; refine (unhide HW _ _ _ _).mono ?_; rintro e w' ⟨rfl, hww⟩; subst w')
  generalize w.alloc (.cells #[.int .i64 at_, .int .u8 20, .bool wide, .int .i64 a, .int .i64 b, .int .i64 low, kv, tv] 112) = w1 at *
  have HQ : Hid (∀ W : World, (Bx mb w1 W ∧ Ch W cb mb pv P) → W.cell? ⟨cb, 0, none⟩ = some pv ∧ W.cell? ⟨w.heap.size, 0, none⟩ = some (.int .i64 at_) ∧ W.cell? ⟨w.heap.size, 1, none⟩ = some (.int .u8 20) ∧ W.cell? ⟨w.heap.size, 2, none⟩ = some (.bool wide) ∧ W.cell? ⟨w.heap.size, 3, none⟩ = some (.int .i64 a) ∧ W.cell? ⟨w.heap.size, 4, none⟩ = some (.int .i64 b) ∧ W.cell? ⟨w.heap.size, 5, none⟩ = some (.int .i64 low) ∧ W.cell? ⟨w.heap.size, 6, none⟩ = some kv ∧ W.cell? ⟨w.heap.size, 7, none⟩ = some tv) := fun W hW =>
    ⟨hW.2.c0, hW.1.cell hC0.mp (hX.cell 0), hW.1.cell hC0.mp (hX.cell 1), hW.1.cell hC0.mp (hX.cell 2), hW.1.cell hC0.mp (hX.cell 3), hW.1.cell hC0.mp (hX.cell 4), hW.1.cell hC0.mp (hX.cell 5), hW.1.cell hC0.mp (hX.cell 6), hW.1.cell hC0.mp (hX.cell 7)⟩
  have HH := hide (fun (W : World) (tv : Value) (hW : Ch W cb mb pv P) (ht : UIn W tv [5, 6]) => Kn.Has_any pv tv P [5, 6] a W hW.k hP ht (by simp))
  have HU : Hid (UIn (w1.alloc (.cells #[.int .u8 5, .int .u8 6] 5)).drew (.slice (some ⟨w1.heap.size, 0, none⟩) 2 2) [5, 6]) := UIn.list w1 [5, 6]
  have hbA : Below w1.heap.size w1 (w1.alloc (.cells #[.int .u8 5, .int .u8 6] 5)).drew := ((Below.refl _ _).alloc (Nat.le_refl _) _).drew
  have HA : Hid (Bx mb w1 (w1.alloc (.cells #[.int .u8 5, .int .u8 6] 5)).drew ∧ Ch (w1.alloc (.cells #[.int .u8 5, .int .u8 6] 5)).drew cb mb pv P) := ⟨Bx.of hbA, hC0.below hbA⟩
  have hb0 : Below w1.heap.size w1 w1.drew := (Below.refl _ _).drew
  have H0 : Hid (Bx mb w1 w1.drew ∧ Ch w1.drew cb mb pv P) := ⟨Bx.of hb0, hC0.below hb0⟩
  have HB : Hid (Bx mb w w1) := Bx.of hbx
  obtain ⟨hb, hhb⟩ : ∃ x, x = ([5, 6] : List Nat).contains (M.tag P a) := ⟨_, rfl⟩
  rw [← hhb] at HH
  have e : r = hb := by rw [hr, hhb, Bool.eq_iff_iff]; simp [or_assoc]
  subst e
  clear hhb hr hbx hX hC0 hbA hb0 HCa hcl
  refine wp_region_held_drew (S := fun W => Bx mb w1 W ∧ Ch W cb mb pv P) (by kernel_rfl) (unhide H0) (fun hHeld => ?_)
  refine wpAnyH_take (i := 0) (oi := _) (v := ?_) rfl (by kernel_rfl) (by kernel_rfl) (by kernel_rfl) (fun _ _ _ h => h) (Or.inl ⟨by rfl, ?_⟩) (by assumption) ?_
  rotate_left
  · intro W hW
    go_simp
    try rfl
  try simp only [Act.put, q1, q2, q3, q4, q5, q6]
  refine wpAnyH_take (i := 1) (oi := _) (v := ?_) rfl (by kernel_rfl) (by kernel_rfl) (by kernel_rfl) (fun _ _ _ h => h) (Or.inl ⟨by rfl, ?_⟩) (by assumption) ?_
  rotate_left
  · intro W hW
    go_simp
    try rfl
  try simp only [Act.put, q1, q2, q3, q4, q5, q6]
  refine wpAnyH_take (i := 2) (oi := _) (v := ?_) rfl (by kernel_rfl) (by kernel_rfl) (by kernel_rfl) (fun _ _ _ h => h) (Or.inl ⟨by rfl, ?_⟩) (by assumption) ?_
  rotate_left
  · intro W hW
    go_simp
    try rfl
  try simp only [Act.put, q1, q2, q3, q4, q5, q6]
  refine wpAnyH_take (i := 3) (oi := _) (v := ?_) rfl (by kernel_rfl) (by kernel_rfl) (by kernel_rfl) (fun _ _ _ h => h) (Or.inl ⟨by rfl, ?_⟩) (by assumption) ?_
  rotate_left
  · intro W hW
    have qc := (unhide HQ W hW).1
    go_simp
    try rfl
  try simp only [Act.put, q1, q2, q3, q4, q5, q6]
  refine wpAnyH_take (i := 4) (oi := _) (v := ?_) rfl (by kernel_rfl) (by kernel_rfl) (by kernel_rfl) (fun _ _ _ h => h) (Or.inl ⟨by rfl, ?_⟩) (by assumption) ?_
  rotate_left
  · intro W hW
    go_simp
    try rfl
  try simp only [Act.put, q1, q2, q3, q4, q5, q6]
  refine wpAnyH_take (i := 5) (oi := _) (v := ?_) rfl (by kernel_rfl) (by kernel_rfl) (by kernel_rfl) (fun _ _ _ h => h) (Or.inl ⟨by rfl, ?_⟩) (by assumption) ?_
  rotate_left
  · intro W hW
    have q3 := (unhide HQ W hW).2.2.2.2.1
    go_simp
    try rfl
  try simp only [Act.put, q1, q2, q3, q4, q5, q6]
  refine wpAnyH_ready (rs := [6]) (by kernel_rfl) (by simp) ?_
  refine AllReadyH.cons (o := _) rfl (fun K hK => ?_) AllReadyH.nil
  go_simp
  refine hK.out _ _ (unhide HA) (fun hHeld => ?_)
  clear hK K
  try simp only [Act.put, q1, q2, q3, q4, q5, q6]
  refine wpAnyH_ready (rs := [7]) (by kernel_rfl) (by simp) ?_
  refine AllReadyH.cons (o := _) rfl (fun K hK => ?_) AllReadyH.nil
  go_simp
  go_at_call 21
  refine (unhide HH _ _ hHeld.2 (unhide HU)).mono ?_
  rintro e wH ⟨rfl, hbH⟩
  try go_simp
  refine hK.out _ _ ⟨hHeld.1.trans (Bx.of hbH), hHeld.2.below hbH⟩ (fun hHeld => ?_)
  clear hK K
  try simp only [Act.put, q1, q2, q3, q4, q5, q6]
  refine wpAnyH_take (i := 8) (oi := _) (v := ?_) rfl (by kernel_rfl) (by kernel_rfl) (by kernel_rfl) (fun _ _ _ h => h) (Or.inl ⟨by rfl, ?_⟩) (by assumption) ?_
  rotate_left
  · intro W hW
    go_simp
    try rfl
  try simp only [Act.put, q1, q2, q3, q4, q5, q6]
  refine wpAnyH_done (by kernel_rfl) ?_ _
  go_wp2
  go_ret
  exact ⟨rfl, (unhide HB).trans hHeld.1, hHeld.2⟩

set_option maxRecDepth 100000 in
set_option maxHeartbeats 4000000 in
theorem idx_178 (c : Cw.V) (cb mb : Nat) (pv : Value) (P : List K) (w : World) (hop : c.g.op = 178) (h : Ch w cb mb pv P) (hP : P.length ≤ 1048576) (hS : Small P) :
    Calls Tryz.prog 92 #[.pointer (some ⟨cb, 0, none⟩), .agg c.arr] w fun e w' => e = .returned (.bool (opdB P 178 c.g.a c.g.b)) ∧ Bx mb w w' ∧ Ch w' cb mb pv P := by
  have hbx := (Below.refl w.heap.size w).alloc (Nat.le_refl _) (.cells c.arr 112)
  have hX := Bk.new w c.arr 112
  have hC0 := h.below hbx
  have HCa := fun (W : World) (hW : Ch W cb mb pv P) => called_any c cb mb pv P W (by omega) hW hP hS
  have hcl := hS.cls c.g.a
  obtain ⟨r, hr⟩ : ∃ r, r = opdB P 178 c.g.a c.g.b := ⟨_, rfl⟩
  rw [← hr]
  unfold opdB at hr
  simp only [Nat.reduceEqDiff, Nat.reduceLeDiff, or_false, false_or, or_self, and_self, and_true, true_and, and_false, false_and, if_true, if_false, reduceIte] at hr
  obtain ⟨⟨at_, op, wide, a, b, low, keys, tgts⟩, kv, tv⟩ := c
  unfold Cw.V.arr at *
  simp only at *
  subst hop
  simp only [show ((178 : Nat) : Int) = 178 from rfl] at *
  have HCA := hide HCa
  have HMe := hide (fun (W : World) (hW : Ch W cb mb pv P) => method_any cb mb pv P a W hW hP hS)
  have HDi := hide (fun (W : World) (hW : Ch W cb mb pv P) => dimensions_any cb pv P a W hW.c0 hW.k hP hS)
  have HW := hide Fm.within_any
  go_enter Tryz.func92, Tryz.ntmps92
  go_wp2_with (go_at_call 110; refine (unhide HW _ _ _ _).mono ?_; rintro e w' ⟨rfl, hww⟩; subst w')
  generalize w.alloc (.cells #[.int .i64 at_, .int .u8 178, .bool wide, .int .i64 a, .int .i64 b, .int .i64 low, kv, tv] 112) = w1 at *
  have HQ : Hid (∀ W : World, (Bx mb w1 W ∧ Ch W cb mb pv P) → W.cell? ⟨cb, 0, none⟩ = some pv ∧ W.cell? ⟨w.heap.size, 0, none⟩ = some (.int .i64 at_) ∧ W.cell? ⟨w.heap.size, 1, none⟩ = some (.int .u8 178) ∧ W.cell? ⟨w.heap.size, 2, none⟩ = some (.bool wide) ∧ W.cell? ⟨w.heap.size, 3, none⟩ = some (.int .i64 a) ∧ W.cell? ⟨w.heap.size, 4, none⟩ = some (.int .i64 b) ∧ W.cell? ⟨w.heap.size, 5, none⟩ = some (.int .i64 low) ∧ W.cell? ⟨w.heap.size, 6, none⟩ = some kv ∧ W.cell? ⟨w.heap.size, 7, none⟩ = some tv) := fun W hW =>
    ⟨hW.2.c0, hW.1.cell hC0.mp (hX.cell 0), hW.1.cell hC0.mp (hX.cell 1), hW.1.cell hC0.mp (hX.cell 2), hW.1.cell hC0.mp (hX.cell 3), hW.1.cell hC0.mp (hX.cell 4), hW.1.cell hC0.mp (hX.cell 5), hW.1.cell hC0.mp (hX.cell 6), hW.1.cell hC0.mp (hX.cell 7)⟩
  have HH := hide (fun (W : World) (tv : Value) (hW : Ch W cb mb pv P) (ht : UIn W tv [9]) => Kn.Has_any pv tv P [9] a W hW.k hP ht (by simp))
  have HU : Hid (UIn (w1.alloc (.cells #[.int .u8 9] 5)).drew (.slice (some ⟨w1.heap.size, 0, none⟩) 1 1) [9]) := UIn.list w1 [9]
  have hbA : Below w1.heap.size w1 (w1.alloc (.cells #[.int .u8 9] 5)).drew := ((Below.refl _ _).alloc (Nat.le_refl _) _).drew
  have HA : Hid (Bx mb w1 (w1.alloc (.cells #[.int .u8 9] 5)).drew ∧ Ch (w1.alloc (.cells #[.int .u8 9] 5)).drew cb mb pv P) := ⟨Bx.of hbA, hC0.below hbA⟩
  have hb0 : Below w1.heap.size w1 w1.drew := (Below.refl _ _).drew
  have H0 : Hid (Bx mb w1 w1.drew ∧ Ch w1.drew cb mb pv P) := ⟨Bx.of hb0, hC0.below hb0⟩
  have HB : Hid (Bx mb w w1) := Bx.of hbx
  obtain ⟨hb, hhb⟩ : ∃ x, x = ([9] : List Nat).contains (M.tag P a) := ⟨_, rfl⟩
  rw [← hhb] at HH
  have e : r = hb := by rw [hr, hhb, Bool.eq_iff_iff]; simp [or_assoc]
  subst e
  clear hhb hr hbx hX hC0 hbA hb0 HCa hcl
  refine wp_region_held_drew (S := fun W => Bx mb w1 W ∧ Ch W cb mb pv P) (by kernel_rfl) (unhide H0) (fun hHeld => ?_)
  refine wpAnyH_take (i := 0) (oi := _) (v := ?_) rfl (by kernel_rfl) (by kernel_rfl) (by kernel_rfl) (fun _ _ _ h => h) (Or.inl ⟨by rfl, ?_⟩) (by assumption) ?_
  rotate_left
  · intro W hW
    go_simp
    try rfl
  try simp only [Act.put, q1, q2, q3, q4, q5, q6]
  refine wpAnyH_take (i := 1) (oi := _) (v := ?_) rfl (by kernel_rfl) (by kernel_rfl) (by kernel_rfl) (fun _ _ _ h => h) (Or.inl ⟨by rfl, ?_⟩) (by assumption) ?_
  rotate_left
  · intro W hW
    go_simp
    try rfl
  try simp only [Act.put, q1, q2, q3, q4, q5, q6]
  refine wpAnyH_take (i := 2) (oi := _) (v := ?_) rfl (by kernel_rfl) (by kernel_rfl) (by kernel_rfl) (fun _ _ _ h => h) (Or.inl ⟨by rfl, ?_⟩) (by assumption) ?_
  rotate_left
  · intro W hW
    go_simp
    try rfl
  try simp only [Act.put, q1, q2, q3, q4, q5, q6]
  refine wpAnyH_take (i := 3) (oi := _) (v := ?_) rfl (by kernel_rfl) (by kernel_rfl) (by kernel_rfl) (fun _ _ _ h => h) (Or.inl ⟨by rfl, ?_⟩) (by assumption) ?_
  rotate_left
  · intro W hW
    have qc := (unhide HQ W hW).1
    go_simp
    try rfl
  try simp only [Act.put, q1, q2, q3, q4, q5, q6]
  refine wpAnyH_take (i := 4) (oi := _) (v := ?_) rfl (by kernel_rfl) (by kernel_rfl) (by kernel_rfl) (fun _ _ _ h => h) (Or.inl ⟨by rfl, ?_⟩) (by assumption) ?_
  rotate_left
  · intro W hW
    go_simp
    try rfl
  try simp only [Act.put, q1, q2, q3, q4, q5, q6]
  refine wpAnyH_take (i := 5) (oi := _) (v := ?_) rfl (by kernel_rfl) (by kernel_rfl) (by kernel_rfl) (fun _ _ _ h => h) (Or.inl ⟨by rfl, ?_⟩) (by assumption) ?_
  rotate_left
  · intro W hW
    have q3 := (unhide HQ W hW).2.2.2.2.1
    go_simp
    try rfl
  try simp only [Act.put, q1, q2, q3, q4, q5, q6]
  refine wpAnyH_ready (rs := [6]) (by kernel_rfl) (by simp) ?_
  refine AllReadyH.cons (o := _) rfl (fun K hK => ?_) AllReadyH.nil
  go_simp
  refine hK.out _ _ (unhide HA) (fun hHeld => ?_)
  clear hK K
  try simp only [Act.put, q1, q2, q3, q4, q5, q6]
  refine wpAnyH_ready (rs := [7]) (by kernel_rfl) (by simp) ?_
  refine AllReadyH.cons (o := _) rfl (fun K hK => ?_) AllReadyH.nil
  go_simp
  go_at_call 21
  refine (unhide HH _ _ hHeld.2 (unhide HU)).mono ?_
  rintro e wH ⟨rfl, hbH⟩
  try go_simp
  refine hK.out _ _ ⟨hHeld.1.trans (Bx.of hbH), hHeld.2.below hbH⟩ (fun hHeld => ?_)
  clear hK K
  try simp only [Act.put, q1, q2, q3, q4, q5, q6]
  refine wpAnyH_take (i := 8) (oi := _) (v := ?_) rfl (by kernel_rfl) (by kernel_rfl) (by kernel_rfl) (fun _ _ _ h => h) (Or.inl ⟨by rfl, ?_⟩) (by assumption) ?_
  rotate_left
  · intro W hW
    go_simp
    try rfl
  try simp only [Act.put, q1, q2, q3, q4, q5, q6]
  refine wpAnyH_done (by kernel_rfl) ?_ _
  go_wp2
  go_ret
  exact ⟨rfl, (unhide HB).trans hHeld.1, hHeld.2⟩

set_option maxRecDepth 100000 in
set_option maxHeartbeats 4000000 in
theorem idx_179 (c : Cw.V) (cb mb : Nat) (pv : Value) (P : List K) (w : World) (hop : c.g.op = 179) (h : Ch w cb mb pv P) (hP : P.length ≤ 1048576) (hS : Small P) :
    Calls Tryz.prog 92 #[.pointer (some ⟨cb, 0, none⟩), .agg c.arr] w fun e w' => e = .returned (.bool (opdB P 179 c.g.a c.g.b)) ∧ Bx mb w w' ∧ Ch w' cb mb pv P := by
  have hbx := (Below.refl w.heap.size w).alloc (Nat.le_refl _) (.cells c.arr 112)
  have hX := Bk.new w c.arr 112
  have hC0 := h.below hbx
  have HCa := fun (W : World) (hW : Ch W cb mb pv P) => called_any c cb mb pv P W (by omega) hW hP hS
  have hcl := hS.cls c.g.a
  obtain ⟨r, hr⟩ : ∃ r, r = opdB P 179 c.g.a c.g.b := ⟨_, rfl⟩
  rw [← hr]
  unfold opdB at hr
  simp only [Nat.reduceEqDiff, Nat.reduceLeDiff, or_false, false_or, or_self, and_self, and_true, true_and, and_false, false_and, if_true, if_false, reduceIte] at hr
  obtain ⟨⟨at_, op, wide, a, b, low, keys, tgts⟩, kv, tv⟩ := c
  unfold Cw.V.arr at *
  simp only at *
  subst hop
  simp only [show ((179 : Nat) : Int) = 179 from rfl] at *
  have HCA := hide HCa
  have HMe := hide (fun (W : World) (hW : Ch W cb mb pv P) => method_any cb mb pv P a W hW hP hS)
  have HDi := hide (fun (W : World) (hW : Ch W cb mb pv P) => dimensions_any cb pv P a W hW.c0 hW.k hP hS)
  have HW := hide Fm.within_any
  go_enter Tryz.func92, Tryz.ntmps92
  go_wp2_with (go_at_call 110; refine (unhide HW _ _ _ _).mono ?_; rintro e w' ⟨rfl, hww⟩; subst w')
  generalize w.alloc (.cells #[.int .i64 at_, .int .u8 179, .bool wide, .int .i64 a, .int .i64 b, .int .i64 low, kv, tv] 112) = w1 at *
  have HQ : Hid (∀ W : World, (Bx mb w1 W ∧ Ch W cb mb pv P) → W.cell? ⟨cb, 0, none⟩ = some pv ∧ W.cell? ⟨w.heap.size, 0, none⟩ = some (.int .i64 at_) ∧ W.cell? ⟨w.heap.size, 1, none⟩ = some (.int .u8 179) ∧ W.cell? ⟨w.heap.size, 2, none⟩ = some (.bool wide) ∧ W.cell? ⟨w.heap.size, 3, none⟩ = some (.int .i64 a) ∧ W.cell? ⟨w.heap.size, 4, none⟩ = some (.int .i64 b) ∧ W.cell? ⟨w.heap.size, 5, none⟩ = some (.int .i64 low) ∧ W.cell? ⟨w.heap.size, 6, none⟩ = some kv ∧ W.cell? ⟨w.heap.size, 7, none⟩ = some tv) := fun W hW =>
    ⟨hW.2.c0, hW.1.cell hC0.mp (hX.cell 0), hW.1.cell hC0.mp (hX.cell 1), hW.1.cell hC0.mp (hX.cell 2), hW.1.cell hC0.mp (hX.cell 3), hW.1.cell hC0.mp (hX.cell 4), hW.1.cell hC0.mp (hX.cell 5), hW.1.cell hC0.mp (hX.cell 6), hW.1.cell hC0.mp (hX.cell 7)⟩
  have HH := hide (fun (W : World) (tv : Value) (hW : Ch W cb mb pv P) (ht : UIn W tv [9]) => Kn.Has_any pv tv P [9] a W hW.k hP ht (by simp))
  have HU : Hid (UIn (w1.alloc (.cells #[.int .u8 9] 5)).drew (.slice (some ⟨w1.heap.size, 0, none⟩) 1 1) [9]) := UIn.list w1 [9]
  have hbA : Below w1.heap.size w1 (w1.alloc (.cells #[.int .u8 9] 5)).drew := ((Below.refl _ _).alloc (Nat.le_refl _) _).drew
  have HA : Hid (Bx mb w1 (w1.alloc (.cells #[.int .u8 9] 5)).drew ∧ Ch (w1.alloc (.cells #[.int .u8 9] 5)).drew cb mb pv P) := ⟨Bx.of hbA, hC0.below hbA⟩
  have hb0 : Below w1.heap.size w1 w1.drew := (Below.refl _ _).drew
  have H0 : Hid (Bx mb w1 w1.drew ∧ Ch w1.drew cb mb pv P) := ⟨Bx.of hb0, hC0.below hb0⟩
  have HB : Hid (Bx mb w w1) := Bx.of hbx
  obtain ⟨hb, hhb⟩ : ∃ x, x = ([9] : List Nat).contains (M.tag P a) := ⟨_, rfl⟩
  rw [← hhb] at HH
  have e : r = hb := by rw [hr, hhb, Bool.eq_iff_iff]; simp [or_assoc]
  subst e
  clear hhb hr hbx hX hC0 hbA hb0 HCa hcl
  refine wp_region_held_drew (S := fun W => Bx mb w1 W ∧ Ch W cb mb pv P) (by kernel_rfl) (unhide H0) (fun hHeld => ?_)
  refine wpAnyH_take (i := 0) (oi := _) (v := ?_) rfl (by kernel_rfl) (by kernel_rfl) (by kernel_rfl) (fun _ _ _ h => h) (Or.inl ⟨by rfl, ?_⟩) (by assumption) ?_
  rotate_left
  · intro W hW
    go_simp
    try rfl
  try simp only [Act.put, q1, q2, q3, q4, q5, q6]
  refine wpAnyH_take (i := 1) (oi := _) (v := ?_) rfl (by kernel_rfl) (by kernel_rfl) (by kernel_rfl) (fun _ _ _ h => h) (Or.inl ⟨by rfl, ?_⟩) (by assumption) ?_
  rotate_left
  · intro W hW
    go_simp
    try rfl
  try simp only [Act.put, q1, q2, q3, q4, q5, q6]
  refine wpAnyH_take (i := 2) (oi := _) (v := ?_) rfl (by kernel_rfl) (by kernel_rfl) (by kernel_rfl) (fun _ _ _ h => h) (Or.inl ⟨by rfl, ?_⟩) (by assumption) ?_
  rotate_left
  · intro W hW
    go_simp
    try rfl
  try simp only [Act.put, q1, q2, q3, q4, q5, q6]
  refine wpAnyH_take (i := 3) (oi := _) (v := ?_) rfl (by kernel_rfl) (by kernel_rfl) (by kernel_rfl) (fun _ _ _ h => h) (Or.inl ⟨by rfl, ?_⟩) (by assumption) ?_
  rotate_left
  · intro W hW
    have qc := (unhide HQ W hW).1
    go_simp
    try rfl
  try simp only [Act.put, q1, q2, q3, q4, q5, q6]
  refine wpAnyH_take (i := 4) (oi := _) (v := ?_) rfl (by kernel_rfl) (by kernel_rfl) (by kernel_rfl) (fun _ _ _ h => h) (Or.inl ⟨by rfl, ?_⟩) (by assumption) ?_
  rotate_left
  · intro W hW
    go_simp
    try rfl
  try simp only [Act.put, q1, q2, q3, q4, q5, q6]
  refine wpAnyH_take (i := 5) (oi := _) (v := ?_) rfl (by kernel_rfl) (by kernel_rfl) (by kernel_rfl) (fun _ _ _ h => h) (Or.inl ⟨by rfl, ?_⟩) (by assumption) ?_
  rotate_left
  · intro W hW
    have q3 := (unhide HQ W hW).2.2.2.2.1
    go_simp
    try rfl
  try simp only [Act.put, q1, q2, q3, q4, q5, q6]
  refine wpAnyH_ready (rs := [6]) (by kernel_rfl) (by simp) ?_
  refine AllReadyH.cons (o := _) rfl (fun K hK => ?_) AllReadyH.nil
  go_simp
  refine hK.out _ _ (unhide HA) (fun hHeld => ?_)
  clear hK K
  try simp only [Act.put, q1, q2, q3, q4, q5, q6]
  refine wpAnyH_ready (rs := [7]) (by kernel_rfl) (by simp) ?_
  refine AllReadyH.cons (o := _) rfl (fun K hK => ?_) AllReadyH.nil
  go_simp
  go_at_call 21
  refine (unhide HH _ _ hHeld.2 (unhide HU)).mono ?_
  rintro e wH ⟨rfl, hbH⟩
  try go_simp
  refine hK.out _ _ ⟨hHeld.1.trans (Bx.of hbH), hHeld.2.below hbH⟩ (fun hHeld => ?_)
  clear hK K
  try simp only [Act.put, q1, q2, q3, q4, q5, q6]
  refine wpAnyH_take (i := 8) (oi := _) (v := ?_) rfl (by kernel_rfl) (by kernel_rfl) (by kernel_rfl) (fun _ _ _ h => h) (Or.inl ⟨by rfl, ?_⟩) (by assumption) ?_
  rotate_left
  · intro W hW
    go_simp
    try rfl
  try simp only [Act.put, q1, q2, q3, q4, q5, q6]
  refine wpAnyH_done (by kernel_rfl) ?_ _
  go_wp2
  go_ret
  exact ⟨rfl, (unhide HB).trans hHeld.1, hHeld.2⟩

set_option maxRecDepth 100000 in
set_option maxHeartbeats 4000000 in
theorem idx_180 (c : Cw.V) (cb mb : Nat) (pv : Value) (P : List K) (w : World) (hop : c.g.op = 180) (h : Ch w cb mb pv P) (hP : P.length ≤ 1048576) (hS : Small P) :
    Calls Tryz.prog 92 #[.pointer (some ⟨cb, 0, none⟩), .agg c.arr] w fun e w' => e = .returned (.bool (opdB P 180 c.g.a c.g.b)) ∧ Bx mb w w' ∧ Ch w' cb mb pv P := by
  have hbx := (Below.refl w.heap.size w).alloc (Nat.le_refl _) (.cells c.arr 112)
  have hX := Bk.new w c.arr 112
  have hC0 := h.below hbx
  have HCa := fun (W : World) (hW : Ch W cb mb pv P) => called_any c cb mb pv P W (by omega) hW hP hS
  have hcl := hS.cls c.g.a
  obtain ⟨r, hr⟩ : ∃ r, r = opdB P 180 c.g.a c.g.b := ⟨_, rfl⟩
  rw [← hr]
  unfold opdB at hr
  simp only [Nat.reduceEqDiff, Nat.reduceLeDiff, or_false, false_or, or_self, and_self, and_true, true_and, and_false, false_and, if_true, if_false, reduceIte] at hr
  obtain ⟨⟨at_, op, wide, a, b, low, keys, tgts⟩, kv, tv⟩ := c
  unfold Cw.V.arr at *
  simp only at *
  subst hop
  simp only [show ((180 : Nat) : Int) = 180 from rfl] at *
  have HCA := hide HCa
  have HMe := hide (fun (W : World) (hW : Ch W cb mb pv P) => method_any cb mb pv P a W hW hP hS)
  have HDi := hide (fun (W : World) (hW : Ch W cb mb pv P) => dimensions_any cb pv P a W hW.c0 hW.k hP hS)
  have HW := hide Fm.within_any
  go_enter Tryz.func92, Tryz.ntmps92
  go_wp2_with (go_at_call 110; refine (unhide HW _ _ _ _).mono ?_; rintro e w' ⟨rfl, hww⟩; subst w')
  generalize w.alloc (.cells #[.int .i64 at_, .int .u8 180, .bool wide, .int .i64 a, .int .i64 b, .int .i64 low, kv, tv] 112) = w1 at *
  have HQ : Hid (∀ W : World, (Bx mb w1 W ∧ Ch W cb mb pv P) → W.cell? ⟨cb, 0, none⟩ = some pv ∧ W.cell? ⟨w.heap.size, 0, none⟩ = some (.int .i64 at_) ∧ W.cell? ⟨w.heap.size, 1, none⟩ = some (.int .u8 180) ∧ W.cell? ⟨w.heap.size, 2, none⟩ = some (.bool wide) ∧ W.cell? ⟨w.heap.size, 3, none⟩ = some (.int .i64 a) ∧ W.cell? ⟨w.heap.size, 4, none⟩ = some (.int .i64 b) ∧ W.cell? ⟨w.heap.size, 5, none⟩ = some (.int .i64 low) ∧ W.cell? ⟨w.heap.size, 6, none⟩ = some kv ∧ W.cell? ⟨w.heap.size, 7, none⟩ = some tv) := fun W hW =>
    ⟨hW.2.c0, hW.1.cell hC0.mp (hX.cell 0), hW.1.cell hC0.mp (hX.cell 1), hW.1.cell hC0.mp (hX.cell 2), hW.1.cell hC0.mp (hX.cell 3), hW.1.cell hC0.mp (hX.cell 4), hW.1.cell hC0.mp (hX.cell 5), hW.1.cell hC0.mp (hX.cell 6), hW.1.cell hC0.mp (hX.cell 7)⟩
  have HH := hide (fun (W : World) (tv : Value) (hW : Ch W cb mb pv P) (ht : UIn W tv [9]) => Kn.Has_any pv tv P [9] a W hW.k hP ht (by simp))
  have HU : Hid (UIn (w1.alloc (.cells #[.int .u8 9] 5)).drew (.slice (some ⟨w1.heap.size, 0, none⟩) 1 1) [9]) := UIn.list w1 [9]
  have hbA : Below w1.heap.size w1 (w1.alloc (.cells #[.int .u8 9] 5)).drew := ((Below.refl _ _).alloc (Nat.le_refl _) _).drew
  have HA : Hid (Bx mb w1 (w1.alloc (.cells #[.int .u8 9] 5)).drew ∧ Ch (w1.alloc (.cells #[.int .u8 9] 5)).drew cb mb pv P) := ⟨Bx.of hbA, hC0.below hbA⟩
  have hb0 : Below w1.heap.size w1 w1.drew := (Below.refl _ _).drew
  have H0 : Hid (Bx mb w1 w1.drew ∧ Ch w1.drew cb mb pv P) := ⟨Bx.of hb0, hC0.below hb0⟩
  have HB : Hid (Bx mb w w1) := Bx.of hbx
  obtain ⟨hb, hhb⟩ : ∃ x, x = ([9] : List Nat).contains (M.tag P a) := ⟨_, rfl⟩
  rw [← hhb] at HH
  have e : r = hb := by rw [hr, hhb, Bool.eq_iff_iff]; simp [or_assoc]
  subst e
  clear hhb hr hbx hX hC0 hbA hb0 HCa hcl
  refine wp_region_held_drew (S := fun W => Bx mb w1 W ∧ Ch W cb mb pv P) (by kernel_rfl) (unhide H0) (fun hHeld => ?_)
  refine wpAnyH_take (i := 0) (oi := _) (v := ?_) rfl (by kernel_rfl) (by kernel_rfl) (by kernel_rfl) (fun _ _ _ h => h) (Or.inl ⟨by rfl, ?_⟩) (by assumption) ?_
  rotate_left
  · intro W hW
    go_simp
    try rfl
  try simp only [Act.put, q1, q2, q3, q4, q5, q6]
  refine wpAnyH_take (i := 1) (oi := _) (v := ?_) rfl (by kernel_rfl) (by kernel_rfl) (by kernel_rfl) (fun _ _ _ h => h) (Or.inl ⟨by rfl, ?_⟩) (by assumption) ?_
  rotate_left
  · intro W hW
    go_simp
    try rfl
  try simp only [Act.put, q1, q2, q3, q4, q5, q6]
  refine wpAnyH_take (i := 2) (oi := _) (v := ?_) rfl (by kernel_rfl) (by kernel_rfl) (by kernel_rfl) (fun _ _ _ h => h) (Or.inl ⟨by rfl, ?_⟩) (by assumption) ?_
  rotate_left
  · intro W hW
    go_simp
    try rfl
  try simp only [Act.put, q1, q2, q3, q4, q5, q6]
  refine wpAnyH_take (i := 3) (oi := _) (v := ?_) rfl (by kernel_rfl) (by kernel_rfl) (by kernel_rfl) (fun _ _ _ h => h) (Or.inl ⟨by rfl, ?_⟩) (by assumption) ?_
  rotate_left
  · intro W hW
    have qc := (unhide HQ W hW).1
    go_simp
    try rfl
  try simp only [Act.put, q1, q2, q3, q4, q5, q6]
  refine wpAnyH_take (i := 4) (oi := _) (v := ?_) rfl (by kernel_rfl) (by kernel_rfl) (by kernel_rfl) (fun _ _ _ h => h) (Or.inl ⟨by rfl, ?_⟩) (by assumption) ?_
  rotate_left
  · intro W hW
    go_simp
    try rfl
  try simp only [Act.put, q1, q2, q3, q4, q5, q6]
  refine wpAnyH_take (i := 5) (oi := _) (v := ?_) rfl (by kernel_rfl) (by kernel_rfl) (by kernel_rfl) (fun _ _ _ h => h) (Or.inl ⟨by rfl, ?_⟩) (by assumption) ?_
  rotate_left
  · intro W hW
    have q3 := (unhide HQ W hW).2.2.2.2.1
    go_simp
    try rfl
  try simp only [Act.put, q1, q2, q3, q4, q5, q6]
  refine wpAnyH_ready (rs := [6]) (by kernel_rfl) (by simp) ?_
  refine AllReadyH.cons (o := _) rfl (fun K hK => ?_) AllReadyH.nil
  go_simp
  refine hK.out _ _ (unhide HA) (fun hHeld => ?_)
  clear hK K
  try simp only [Act.put, q1, q2, q3, q4, q5, q6]
  refine wpAnyH_ready (rs := [7]) (by kernel_rfl) (by simp) ?_
  refine AllReadyH.cons (o := _) rfl (fun K hK => ?_) AllReadyH.nil
  go_simp
  go_at_call 21
  refine (unhide HH _ _ hHeld.2 (unhide HU)).mono ?_
  rintro e wH ⟨rfl, hbH⟩
  try go_simp
  refine hK.out _ _ ⟨hHeld.1.trans (Bx.of hbH), hHeld.2.below hbH⟩ (fun hHeld => ?_)
  clear hK K
  try simp only [Act.put, q1, q2, q3, q4, q5, q6]
  refine wpAnyH_take (i := 8) (oi := _) (v := ?_) rfl (by kernel_rfl) (by kernel_rfl) (by kernel_rfl) (fun _ _ _ h => h) (Or.inl ⟨by rfl, ?_⟩) (by assumption) ?_
  rotate_left
  · intro W hW
    go_simp
    try rfl
  try simp only [Act.put, q1, q2, q3, q4, q5, q6]
  refine wpAnyH_done (by kernel_rfl) ?_ _
  go_wp2
  go_ret
  exact ⟨rfl, (unhide HB).trans hHeld.1, hHeld.2⟩

set_option maxRecDepth 100000 in
set_option maxHeartbeats 4000000 in
theorem idx_181 (c : Cw.V) (cb mb : Nat) (pv : Value) (P : List K) (w : World) (hop : c.g.op = 181) (h : Ch w cb mb pv P) (hP : P.length ≤ 1048576) (hS : Small P) :
    Calls Tryz.prog 92 #[.pointer (some ⟨cb, 0, none⟩), .agg c.arr] w fun e w' => e = .returned (.bool (opdB P 181 c.g.a c.g.b)) ∧ Bx mb w w' ∧ Ch w' cb mb pv P := by
  have hbx := (Below.refl w.heap.size w).alloc (Nat.le_refl _) (.cells c.arr 112)
  have hX := Bk.new w c.arr 112
  have hC0 := h.below hbx
  have HCa := fun (W : World) (hW : Ch W cb mb pv P) => called_any c cb mb pv P W (by omega) hW hP hS
  have hcl := hS.cls c.g.a
  obtain ⟨r, hr⟩ : ∃ r, r = opdB P 181 c.g.a c.g.b := ⟨_, rfl⟩
  rw [← hr]
  unfold opdB at hr
  simp only [Nat.reduceEqDiff, Nat.reduceLeDiff, or_false, false_or, or_self, and_self, and_true, true_and, and_false, false_and, if_true, if_false, reduceIte] at hr
  obtain ⟨⟨at_, op, wide, a, b, low, keys, tgts⟩, kv, tv⟩ := c
  unfold Cw.V.arr at *
  simp only at *
  subst hop
  simp only [show ((181 : Nat) : Int) = 181 from rfl] at *
  have HCA := hide HCa
  have HMe := hide (fun (W : World) (hW : Ch W cb mb pv P) => method_any cb mb pv P a W hW hP hS)
  have HDi := hide (fun (W : World) (hW : Ch W cb mb pv P) => dimensions_any cb pv P a W hW.c0 hW.k hP hS)
  have HW := hide Fm.within_any
  go_enter Tryz.func92, Tryz.ntmps92
  go_wp2_with (go_at_call 110; refine (unhide HW _ _ _ _).mono ?_; rintro e w' ⟨rfl, hww⟩; subst w')
  generalize w.alloc (.cells #[.int .i64 at_, .int .u8 181, .bool wide, .int .i64 a, .int .i64 b, .int .i64 low, kv, tv] 112) = w1 at *
  have HQ : Hid (∀ W : World, (Bx mb w1 W ∧ Ch W cb mb pv P) → W.cell? ⟨cb, 0, none⟩ = some pv ∧ W.cell? ⟨w.heap.size, 0, none⟩ = some (.int .i64 at_) ∧ W.cell? ⟨w.heap.size, 1, none⟩ = some (.int .u8 181) ∧ W.cell? ⟨w.heap.size, 2, none⟩ = some (.bool wide) ∧ W.cell? ⟨w.heap.size, 3, none⟩ = some (.int .i64 a) ∧ W.cell? ⟨w.heap.size, 4, none⟩ = some (.int .i64 b) ∧ W.cell? ⟨w.heap.size, 5, none⟩ = some (.int .i64 low) ∧ W.cell? ⟨w.heap.size, 6, none⟩ = some kv ∧ W.cell? ⟨w.heap.size, 7, none⟩ = some tv) := fun W hW =>
    ⟨hW.2.c0, hW.1.cell hC0.mp (hX.cell 0), hW.1.cell hC0.mp (hX.cell 1), hW.1.cell hC0.mp (hX.cell 2), hW.1.cell hC0.mp (hX.cell 3), hW.1.cell hC0.mp (hX.cell 4), hW.1.cell hC0.mp (hX.cell 5), hW.1.cell hC0.mp (hX.cell 6), hW.1.cell hC0.mp (hX.cell 7)⟩
  have HH := hide (fun (W : World) (tv : Value) (hW : Ch W cb mb pv P) (ht : UIn W tv [9]) => Kn.Has_any pv tv P [9] a W hW.k hP ht (by simp))
  have HU : Hid (UIn (w1.alloc (.cells #[.int .u8 9] 5)).drew (.slice (some ⟨w1.heap.size, 0, none⟩) 1 1) [9]) := UIn.list w1 [9]
  have hbA : Below w1.heap.size w1 (w1.alloc (.cells #[.int .u8 9] 5)).drew := ((Below.refl _ _).alloc (Nat.le_refl _) _).drew
  have HA : Hid (Bx mb w1 (w1.alloc (.cells #[.int .u8 9] 5)).drew ∧ Ch (w1.alloc (.cells #[.int .u8 9] 5)).drew cb mb pv P) := ⟨Bx.of hbA, hC0.below hbA⟩
  have hb0 : Below w1.heap.size w1 w1.drew := (Below.refl _ _).drew
  have H0 : Hid (Bx mb w1 w1.drew ∧ Ch w1.drew cb mb pv P) := ⟨Bx.of hb0, hC0.below hb0⟩
  have HB : Hid (Bx mb w w1) := Bx.of hbx
  obtain ⟨hb, hhb⟩ : ∃ x, x = ([9] : List Nat).contains (M.tag P a) := ⟨_, rfl⟩
  rw [← hhb] at HH
  have e : r = hb := by rw [hr, hhb, Bool.eq_iff_iff]; simp [or_assoc]
  subst e
  clear hhb hr hbx hX hC0 hbA hb0 HCa hcl
  refine wp_region_held_drew (S := fun W => Bx mb w1 W ∧ Ch W cb mb pv P) (by kernel_rfl) (unhide H0) (fun hHeld => ?_)
  refine wpAnyH_take (i := 0) (oi := _) (v := ?_) rfl (by kernel_rfl) (by kernel_rfl) (by kernel_rfl) (fun _ _ _ h => h) (Or.inl ⟨by rfl, ?_⟩) (by assumption) ?_
  rotate_left
  · intro W hW
    go_simp
    try rfl
  try simp only [Act.put, q1, q2, q3, q4, q5, q6]
  refine wpAnyH_take (i := 1) (oi := _) (v := ?_) rfl (by kernel_rfl) (by kernel_rfl) (by kernel_rfl) (fun _ _ _ h => h) (Or.inl ⟨by rfl, ?_⟩) (by assumption) ?_
  rotate_left
  · intro W hW
    go_simp
    try rfl
  try simp only [Act.put, q1, q2, q3, q4, q5, q6]
  refine wpAnyH_take (i := 2) (oi := _) (v := ?_) rfl (by kernel_rfl) (by kernel_rfl) (by kernel_rfl) (fun _ _ _ h => h) (Or.inl ⟨by rfl, ?_⟩) (by assumption) ?_
  rotate_left
  · intro W hW
    go_simp
    try rfl
  try simp only [Act.put, q1, q2, q3, q4, q5, q6]
  refine wpAnyH_take (i := 3) (oi := _) (v := ?_) rfl (by kernel_rfl) (by kernel_rfl) (by kernel_rfl) (fun _ _ _ h => h) (Or.inl ⟨by rfl, ?_⟩) (by assumption) ?_
  rotate_left
  · intro W hW
    have qc := (unhide HQ W hW).1
    go_simp
    try rfl
  try simp only [Act.put, q1, q2, q3, q4, q5, q6]
  refine wpAnyH_take (i := 4) (oi := _) (v := ?_) rfl (by kernel_rfl) (by kernel_rfl) (by kernel_rfl) (fun _ _ _ h => h) (Or.inl ⟨by rfl, ?_⟩) (by assumption) ?_
  rotate_left
  · intro W hW
    go_simp
    try rfl
  try simp only [Act.put, q1, q2, q3, q4, q5, q6]
  refine wpAnyH_take (i := 5) (oi := _) (v := ?_) rfl (by kernel_rfl) (by kernel_rfl) (by kernel_rfl) (fun _ _ _ h => h) (Or.inl ⟨by rfl, ?_⟩) (by assumption) ?_
  rotate_left
  · intro W hW
    have q3 := (unhide HQ W hW).2.2.2.2.1
    go_simp
    try rfl
  try simp only [Act.put, q1, q2, q3, q4, q5, q6]
  refine wpAnyH_ready (rs := [6]) (by kernel_rfl) (by simp) ?_
  refine AllReadyH.cons (o := _) rfl (fun K hK => ?_) AllReadyH.nil
  go_simp
  refine hK.out _ _ (unhide HA) (fun hHeld => ?_)
  clear hK K
  try simp only [Act.put, q1, q2, q3, q4, q5, q6]
  refine wpAnyH_ready (rs := [7]) (by kernel_rfl) (by simp) ?_
  refine AllReadyH.cons (o := _) rfl (fun K hK => ?_) AllReadyH.nil
  go_simp
  go_at_call 21
  refine (unhide HH _ _ hHeld.2 (unhide HU)).mono ?_
  rintro e wH ⟨rfl, hbH⟩
  try go_simp
  refine hK.out _ _ ⟨hHeld.1.trans (Bx.of hbH), hHeld.2.below hbH⟩ (fun hHeld => ?_)
  clear hK K
  try simp only [Act.put, q1, q2, q3, q4, q5, q6]
  refine wpAnyH_take (i := 8) (oi := _) (v := ?_) rfl (by kernel_rfl) (by kernel_rfl) (by kernel_rfl) (fun _ _ _ h => h) (Or.inl ⟨by rfl, ?_⟩) (by assumption) ?_
  rotate_left
  · intro W hW
    go_simp
    try rfl
  try simp only [Act.put, q1, q2, q3, q4, q5, q6]
  refine wpAnyH_done (by kernel_rfl) ?_ _
  go_wp2
  go_ret
  exact ⟨rfl, (unhide HB).trans hHeld.1, hHeld.2⟩

set_option maxRecDepth 100000 in
set_option maxHeartbeats 4000000 in
theorem idx_192 (c : Cw.V) (cb mb : Nat) (pv : Value) (P : List K) (w : World) (hop : c.g.op = 192) (h : Ch w cb mb pv P) (hP : P.length ≤ 1048576) (hS : Small P) :
    Calls Tryz.prog 92 #[.pointer (some ⟨cb, 0, none⟩), .agg c.arr] w fun e w' => e = .returned (.bool (opdB P 192 c.g.a c.g.b)) ∧ Bx mb w w' ∧ Ch w' cb mb pv P := by
  have hbx := (Below.refl w.heap.size w).alloc (Nat.le_refl _) (.cells c.arr 112)
  have hX := Bk.new w c.arr 112
  have hC0 := h.below hbx
  have HCa := fun (W : World) (hW : Ch W cb mb pv P) => called_any c cb mb pv P W (by omega) hW hP hS
  have hcl := hS.cls c.g.a
  obtain ⟨r, hr⟩ : ∃ r, r = opdB P 192 c.g.a c.g.b := ⟨_, rfl⟩
  rw [← hr]
  unfold opdB at hr
  simp only [Nat.reduceEqDiff, Nat.reduceLeDiff, or_false, false_or, or_self, and_self, and_true, true_and, and_false, false_and, if_true, if_false, reduceIte] at hr
  obtain ⟨⟨at_, op, wide, a, b, low, keys, tgts⟩, kv, tv⟩ := c
  unfold Cw.V.arr at *
  simp only at *
  subst hop
  simp only [show ((192 : Nat) : Int) = 192 from rfl] at *
  have HCA := hide HCa
  have HMe := hide (fun (W : World) (hW : Ch W cb mb pv P) => method_any cb mb pv P a W hW hP hS)
  have HDi := hide (fun (W : World) (hW : Ch W cb mb pv P) => dimensions_any cb pv P a W hW.c0 hW.k hP hS)
  have HW := hide Fm.within_any
  go_enter Tryz.func92, Tryz.ntmps92
  go_wp2_with (go_at_call 110; refine (unhide HW _ _ _ _).mono ?_; rintro e w' ⟨rfl, hww⟩; subst w')
  generalize w.alloc (.cells #[.int .i64 at_, .int .u8 192, .bool wide, .int .i64 a, .int .i64 b, .int .i64 low, kv, tv] 112) = w1 at *
  have HQ : Hid (∀ W : World, (Bx mb w1 W ∧ Ch W cb mb pv P) → W.cell? ⟨cb, 0, none⟩ = some pv ∧ W.cell? ⟨w.heap.size, 0, none⟩ = some (.int .i64 at_) ∧ W.cell? ⟨w.heap.size, 1, none⟩ = some (.int .u8 192) ∧ W.cell? ⟨w.heap.size, 2, none⟩ = some (.bool wide) ∧ W.cell? ⟨w.heap.size, 3, none⟩ = some (.int .i64 a) ∧ W.cell? ⟨w.heap.size, 4, none⟩ = some (.int .i64 b) ∧ W.cell? ⟨w.heap.size, 5, none⟩ = some (.int .i64 low) ∧ W.cell? ⟨w.heap.size, 6, none⟩ = some kv ∧ W.cell? ⟨w.heap.size, 7, none⟩ = some tv) := fun W hW =>
    ⟨hW.2.c0, hW.1.cell hC0.mp (hX.cell 0), hW.1.cell hC0.mp (hX.cell 1), hW.1.cell hC0.mp (hX.cell 2), hW.1.cell hC0.mp (hX.cell 3), hW.1.cell hC0.mp (hX.cell 4), hW.1.cell hC0.mp (hX.cell 5), hW.1.cell hC0.mp (hX.cell 6), hW.1.cell hC0.mp (hX.cell 7)⟩
  have HH := hide (fun (W : World) (tv : Value) (hW : Ch W cb mb pv P) (ht : UIn W tv [7]) => Kn.Has_any pv tv P [7] a W hW.k hP ht (by simp))
  have HU : Hid (UIn (w1.alloc (.cells #[.int .u8 7] 5)).drew (.slice (some ⟨w1.heap.size, 0, none⟩) 1 1) [7]) := UIn.list w1 [7]
  have hbA : Below w1.heap.size w1 (w1.alloc (.cells #[.int .u8 7] 5)).drew := ((Below.refl _ _).alloc (Nat.le_refl _) _).drew
  have HA : Hid (Bx mb w1 (w1.alloc (.cells #[.int .u8 7] 5)).drew ∧ Ch (w1.alloc (.cells #[.int .u8 7] 5)).drew cb mb pv P) := ⟨Bx.of hbA, hC0.below hbA⟩
  have hb0 : Below w1.heap.size w1 w1.drew := (Below.refl _ _).drew
  have H0 : Hid (Bx mb w1 w1.drew ∧ Ch w1.drew cb mb pv P) := ⟨Bx.of hb0, hC0.below hb0⟩
  have HB : Hid (Bx mb w w1) := Bx.of hbx
  obtain ⟨hb, hhb⟩ : ∃ x, x = ([7] : List Nat).contains (M.tag P a) := ⟨_, rfl⟩
  rw [← hhb] at HH
  have e : r = hb := by rw [hr, hhb, Bool.eq_iff_iff]; simp [or_assoc]
  subst e
  clear hhb hr hbx hX hC0 hbA hb0 HCa hcl
  refine wp_region_held_drew (S := fun W => Bx mb w1 W ∧ Ch W cb mb pv P) (by kernel_rfl) (unhide H0) (fun hHeld => ?_)
  refine wpAnyH_take (i := 0) (oi := _) (v := ?_) rfl (by kernel_rfl) (by kernel_rfl) (by kernel_rfl) (fun _ _ _ h => h) (Or.inl ⟨by rfl, ?_⟩) (by assumption) ?_
  rotate_left
  · intro W hW
    go_simp
    try rfl
  try simp only [Act.put, q1, q2, q3, q4, q5, q6]
  refine wpAnyH_take (i := 1) (oi := _) (v := ?_) rfl (by kernel_rfl) (by kernel_rfl) (by kernel_rfl) (fun _ _ _ h => h) (Or.inl ⟨by rfl, ?_⟩) (by assumption) ?_
  rotate_left
  · intro W hW
    go_simp
    try rfl
  try simp only [Act.put, q1, q2, q3, q4, q5, q6]
  refine wpAnyH_take (i := 2) (oi := _) (v := ?_) rfl (by kernel_rfl) (by kernel_rfl) (by kernel_rfl) (fun _ _ _ h => h) (Or.inl ⟨by rfl, ?_⟩) (by assumption) ?_
  rotate_left
  · intro W hW
    go_simp
    try rfl
  try simp only [Act.put, q1, q2, q3, q4, q5, q6]
  refine wpAnyH_take (i := 3) (oi := _) (v := ?_) rfl (by kernel_rfl) (by kernel_rfl) (by kernel_rfl) (fun _ _ _ h => h) (Or.inl ⟨by rfl, ?_⟩) (by assumption) ?_
  rotate_left
  · intro W hW
    have qc := (unhide HQ W hW).1
    go_simp
    try rfl
  try simp only [Act.put, q1, q2, q3, q4, q5, q6]
  refine wpAnyH_take (i := 4) (oi := _) (v := ?_) rfl (by kernel_rfl) (by kernel_rfl) (by kernel_rfl) (fun _ _ _ h => h) (Or.inl ⟨by rfl, ?_⟩) (by assumption) ?_
  rotate_left
  · intro W hW
    go_simp
    try rfl
  try simp only [Act.put, q1, q2, q3, q4, q5, q6]
  refine wpAnyH_take (i := 5) (oi := _) (v := ?_) rfl (by kernel_rfl) (by kernel_rfl) (by kernel_rfl) (fun _ _ _ h => h) (Or.inl ⟨by rfl, ?_⟩) (by assumption) ?_
  rotate_left
  · intro W hW
    have q3 := (unhide HQ W hW).2.2.2.2.1
    go_simp
    try rfl
  try simp only [Act.put, q1, q2, q3, q4, q5, q6]
  refine wpAnyH_ready (rs := [6]) (by kernel_rfl) (by simp) ?_
  refine AllReadyH.cons (o := _) rfl (fun K hK => ?_) AllReadyH.nil
  go_simp
  refine hK.out _ _ (unhide HA) (fun hHeld => ?_)
  clear hK K
  try simp only [Act.put, q1, q2, q3, q4, q5, q6]
  refine wpAnyH_ready (rs := [7]) (by kernel_rfl) (by simp) ?_
  refine AllReadyH.cons (o := _) rfl (fun K hK => ?_) AllReadyH.nil
  go_simp
  go_at_call 21
  refine (unhide HH _ _ hHeld.2 (unhide HU)).mono ?_
  rintro e wH ⟨rfl, hbH⟩
  try go_simp
  refine hK.out _ _ ⟨hHeld.1.trans (Bx.of hbH), hHeld.2.below hbH⟩ (fun hHeld => ?_)
  clear hK K
  try simp only [Act.put, q1, q2, q3, q4, q5, q6]
  refine wpAnyH_take (i := 8) (oi := _) (v := ?_) rfl (by kernel_rfl) (by kernel_rfl) (by kernel_rfl) (fun _ _ _ h => h) (Or.inl ⟨by rfl, ?_⟩) (by assumption) ?_
  rotate_left
  · intro W hW
    go_simp
    try rfl
  try simp only [Act.put, q1, q2, q3, q4, q5, q6]
  refine wpAnyH_done (by kernel_rfl) ?_ _
  go_wp2
  go_ret
  exact ⟨rfl, (unhide HB).trans hHeld.1, hHeld.2⟩

set_option maxRecDepth 100000 in
set_option maxHeartbeats 4000000 in
theorem idx_193 (c : Cw.V) (cb mb : Nat) (pv : Value) (P : List K) (w : World) (hop : c.g.op = 193) (h : Ch w cb mb pv P) (hP : P.length ≤ 1048576) (hS : Small P) :
    Calls Tryz.prog 92 #[.pointer (some ⟨cb, 0, none⟩), .agg c.arr] w fun e w' => e = .returned (.bool (opdB P 193 c.g.a c.g.b)) ∧ Bx mb w w' ∧ Ch w' cb mb pv P := by
  have hbx := (Below.refl w.heap.size w).alloc (Nat.le_refl _) (.cells c.arr 112)
  have hX := Bk.new w c.arr 112
  have hC0 := h.below hbx
  have HCa := fun (W : World) (hW : Ch W cb mb pv P) => called_any c cb mb pv P W (by omega) hW hP hS
  have hcl := hS.cls c.g.a
  obtain ⟨r, hr⟩ : ∃ r, r = opdB P 193 c.g.a c.g.b := ⟨_, rfl⟩
  rw [← hr]
  unfold opdB at hr
  simp only [Nat.reduceEqDiff, Nat.reduceLeDiff, or_false, false_or, or_self, and_self, and_true, true_and, and_false, false_and, if_true, if_false, reduceIte] at hr
  obtain ⟨⟨at_, op, wide, a, b, low, keys, tgts⟩, kv, tv⟩ := c
  unfold Cw.V.arr at *
  simp only at *
  subst hop
  simp only [show ((193 : Nat) : Int) = 193 from rfl] at *
  have HCA := hide HCa
  have HMe := hide (fun (W : World) (hW : Ch W cb mb pv P) => method_any cb mb pv P a W hW hP hS)
  have HDi := hide (fun (W : World) (hW : Ch W cb mb pv P) => dimensions_any cb pv P a W hW.c0 hW.k hP hS)
  have HW := hide Fm.within_any
  go_enter Tryz.func92, Tryz.ntmps92
  go_wp2_with (go_at_call 110; refine (unhide HW _ _ _ _).mono ?_; rintro e w' ⟨rfl, hww⟩; subst w')
  generalize w.alloc (.cells #[.int .i64 at_, .int .u8 193, .bool wide, .int .i64 a, .int .i64 b, .int .i64 low, kv, tv] 112) = w1 at *
  have HQ : Hid (∀ W : World, (Bx mb w1 W ∧ Ch W cb mb pv P) → W.cell? ⟨cb, 0, none⟩ = some pv ∧ W.cell? ⟨w.heap.size, 0, none⟩ = some (.int .i64 at_) ∧ W.cell? ⟨w.heap.size, 1, none⟩ = some (.int .u8 193) ∧ W.cell? ⟨w.heap.size, 2, none⟩ = some (.bool wide) ∧ W.cell? ⟨w.heap.size, 3, none⟩ = some (.int .i64 a) ∧ W.cell? ⟨w.heap.size, 4, none⟩ = some (.int .i64 b) ∧ W.cell? ⟨w.heap.size, 5, none⟩ = some (.int .i64 low) ∧ W.cell? ⟨w.heap.size, 6, none⟩ = some kv ∧ W.cell? ⟨w.heap.size, 7, none⟩ = some tv) := fun W hW =>
    ⟨hW.2.c0, hW.1.cell hC0.mp (hX.cell 0), hW.1.cell hC0.mp (hX.cell 1), hW.1.cell hC0.mp (hX.cell 2), hW.1.cell hC0.mp (hX.cell 3), hW.1.cell hC0.mp (hX.cell 4), hW.1.cell hC0.mp (hX.cell 5), hW.1.cell hC0.mp (hX.cell 6), hW.1.cell hC0.mp (hX.cell 7)⟩
  have HH := hide (fun (W : World) (tv : Value) (hW : Ch W cb mb pv P) (ht : UIn W tv [7]) => Kn.Has_any pv tv P [7] a W hW.k hP ht (by simp))
  have HU : Hid (UIn (w1.alloc (.cells #[.int .u8 7] 5)).drew (.slice (some ⟨w1.heap.size, 0, none⟩) 1 1) [7]) := UIn.list w1 [7]
  have hbA : Below w1.heap.size w1 (w1.alloc (.cells #[.int .u8 7] 5)).drew := ((Below.refl _ _).alloc (Nat.le_refl _) _).drew
  have HA : Hid (Bx mb w1 (w1.alloc (.cells #[.int .u8 7] 5)).drew ∧ Ch (w1.alloc (.cells #[.int .u8 7] 5)).drew cb mb pv P) := ⟨Bx.of hbA, hC0.below hbA⟩
  have hb0 : Below w1.heap.size w1 w1.drew := (Below.refl _ _).drew
  have H0 : Hid (Bx mb w1 w1.drew ∧ Ch w1.drew cb mb pv P) := ⟨Bx.of hb0, hC0.below hb0⟩
  have HB : Hid (Bx mb w w1) := Bx.of hbx
  obtain ⟨hb, hhb⟩ : ∃ x, x = ([7] : List Nat).contains (M.tag P a) := ⟨_, rfl⟩
  rw [← hhb] at HH
  have e : r = hb := by rw [hr, hhb, Bool.eq_iff_iff]; simp [or_assoc]
  subst e
  clear hhb hr hbx hX hC0 hbA hb0 HCa hcl
  refine wp_region_held_drew (S := fun W => Bx mb w1 W ∧ Ch W cb mb pv P) (by kernel_rfl) (unhide H0) (fun hHeld => ?_)
  refine wpAnyH_take (i := 0) (oi := _) (v := ?_) rfl (by kernel_rfl) (by kernel_rfl) (by kernel_rfl) (fun _ _ _ h => h) (Or.inl ⟨by rfl, ?_⟩) (by assumption) ?_
  rotate_left
  · intro W hW
    go_simp
    try rfl
  try simp only [Act.put, q1, q2, q3, q4, q5, q6]
  refine wpAnyH_take (i := 1) (oi := _) (v := ?_) rfl (by kernel_rfl) (by kernel_rfl) (by kernel_rfl) (fun _ _ _ h => h) (Or.inl ⟨by rfl, ?_⟩) (by assumption) ?_
  rotate_left
  · intro W hW
    go_simp
    try rfl
  try simp only [Act.put, q1, q2, q3, q4, q5, q6]
  refine wpAnyH_take (i := 2) (oi := _) (v := ?_) rfl (by kernel_rfl) (by kernel_rfl) (by kernel_rfl) (fun _ _ _ h => h) (Or.inl ⟨by rfl, ?_⟩) (by assumption) ?_
  rotate_left
  · intro W hW
    go_simp
    try rfl
  try simp only [Act.put, q1, q2, q3, q4, q5, q6]
  refine wpAnyH_take (i := 3) (oi := _) (v := ?_) rfl (by kernel_rfl) (by kernel_rfl) (by kernel_rfl) (fun _ _ _ h => h) (Or.inl ⟨by rfl, ?_⟩) (by assumption) ?_
  rotate_left
  · intro W hW
    have qc := (unhide HQ W hW).1
    go_simp
    try rfl
  try simp only [Act.put, q1, q2, q3, q4, q5, q6]
  refine wpAnyH_take (i := 4) (oi := _) (v := ?_) rfl (by kernel_rfl) (by kernel_rfl) (by kernel_rfl) (fun _ _ _ h => h) (Or.inl ⟨by rfl, ?_⟩) (by assumption) ?_
  rotate_left
  · intro W hW
    go_simp
    try rfl
  try simp only [Act.put, q1, q2, q3, q4, q5, q6]
  refine wpAnyH_take (i := 5) (oi := _) (v := ?_) rfl (by kernel_rfl) (by kernel_rfl) (by kernel_rfl) (fun _ _ _ h => h) (Or.inl ⟨by rfl, ?_⟩) (by assumption) ?_
  rotate_left
  · intro W hW
    have q3 := (unhide HQ W hW).2.2.2.2.1
    go_simp
    try rfl
  try simp only [Act.put, q1, q2, q3, q4, q5, q6]
  refine wpAnyH_ready (rs := [6]) (by kernel_rfl) (by simp) ?_
  refine AllReadyH.cons (o := _) rfl (fun K hK => ?_) AllReadyH.nil
  go_simp
  refine hK.out _ _ (unhide HA) (fun hHeld => ?_)
  clear hK K
  try simp only [Act.put, q1, q2, q3, q4, q5, q6]
  refine wpAnyH_ready (rs := [7]) (by kernel_rfl) (by simp) ?_
  refine AllReadyH.cons (o := _) rfl (fun K hK => ?_) AllReadyH.nil
  go_simp
  go_at_call 21
  refine (unhide HH _ _ hHeld.2 (unhide HU)).mono ?_
  rintro e wH ⟨rfl, hbH⟩
  try go_simp
  refine hK.out _ _ ⟨hHeld.1.trans (Bx.of hbH), hHeld.2.below hbH⟩ (fun hHeld => ?_)
  clear hK K
  try simp only [Act.put, q1, q2, q3, q4, q5, q6]
  refine wpAnyH_take (i := 8) (oi := _) (v := ?_) rfl (by kernel_rfl) (by kernel_rfl) (by kernel_rfl) (fun _ _ _ h => h) (Or.inl ⟨by rfl, ?_⟩) (by assumption) ?_
  rotate_left
  · intro W hW
    go_simp
    try rfl
  try simp only [Act.put, q1, q2, q3, q4, q5, q6]
  refine wpAnyH_done (by kernel_rfl) ?_ _
  go_wp2
  go_ret
  exact ⟨rfl, (unhide HB).trans hHeld.1, hHeld.2⟩

set_option maxRecDepth 100000 in
set_option maxHeartbeats 4000000 in
theorem idx_187 (c : Cw.V) (cb mb : Nat) (pv : Value) (P : List K) (w : World) (hop : c.g.op = 187) (h : Ch w cb mb pv P) (hP : P.length ≤ 1048576) (hS : Small P) :
    Calls Tryz.prog 92 #[.pointer (some ⟨cb, 0, none⟩), .agg c.arr] w fun e w' => e = .returned (.bool (opdB P 187 c.g.a c.g.b)) ∧ Bx mb w w' ∧ Ch w' cb mb pv P := by
  have hbx := (Below.refl w.heap.size w).alloc (Nat.le_refl _) (.cells c.arr 112)
  have hX := Bk.new w c.arr 112
  have hC0 := h.below hbx
  have HCa := fun (W : World) (hW : Ch W cb mb pv P) => called_any c cb mb pv P W (by omega) hW hP hS
  have hcl := hS.cls c.g.a
  obtain ⟨r, hr⟩ : ∃ r, r = opdB P 187 c.g.a c.g.b := ⟨_, rfl⟩
  rw [← hr]
  unfold opdB at hr
  simp only [Nat.reduceEqDiff, Nat.reduceLeDiff, or_false, false_or, or_self, and_self, and_true, true_and, and_false, false_and, if_true, if_false, reduceIte] at hr
  obtain ⟨⟨at_, op, wide, a, b, low, keys, tgts⟩, kv, tv⟩ := c
  unfold Cw.V.arr at *
  simp only at *
  subst hop
  simp only [show ((187 : Nat) : Int) = 187 from rfl] at *
  have HCA := hide HCa
  have HMe := hide (fun (W : World) (hW : Ch W cb mb pv P) => method_any cb mb pv P a W hW hP hS)
  have HDi := hide (fun (W : World) (hW : Ch W cb mb pv P) => dimensions_any cb pv P a W hW.c0 hW.k hP hS)
  have HW := hide Fm.within_any
  go_enter Tryz.func92, Tryz.ntmps92
  go_wp2_with (go_at_call 110; refine (unhide HW _ _ _ _).mono ?_; rintro e w' ⟨rfl, hww⟩; subst w')
  generalize w.alloc (.cells #[.int .i64 at_, .int .u8 187, .bool wide, .int .i64 a, .int .i64 b, .int .i64 low, kv, tv] 112) = w1 at *
  have HQ : Hid (∀ W : World, (Bx mb w1 W ∧ Ch W cb mb pv P) → W.cell? ⟨cb, 0, none⟩ = some pv ∧ W.cell? ⟨w.heap.size, 0, none⟩ = some (.int .i64 at_) ∧ W.cell? ⟨w.heap.size, 1, none⟩ = some (.int .u8 187) ∧ W.cell? ⟨w.heap.size, 2, none⟩ = some (.bool wide) ∧ W.cell? ⟨w.heap.size, 3, none⟩ = some (.int .i64 a) ∧ W.cell? ⟨w.heap.size, 4, none⟩ = some (.int .i64 b) ∧ W.cell? ⟨w.heap.size, 5, none⟩ = some (.int .i64 low) ∧ W.cell? ⟨w.heap.size, 6, none⟩ = some kv ∧ W.cell? ⟨w.heap.size, 7, none⟩ = some tv) := fun W hW =>
    ⟨hW.2.c0, hW.1.cell hC0.mp (hX.cell 0), hW.1.cell hC0.mp (hX.cell 1), hW.1.cell hC0.mp (hX.cell 2), hW.1.cell hC0.mp (hX.cell 3), hW.1.cell hC0.mp (hX.cell 4), hW.1.cell hC0.mp (hX.cell 5), hW.1.cell hC0.mp (hX.cell 6), hW.1.cell hC0.mp (hX.cell 7)⟩
  have HH := hide (fun (W : World) (tv : Value) (hW : Ch W cb mb pv P) (ht : UIn W tv [7]) => Kn.Has_any pv tv P [7] a W hW.k hP ht (by simp))
  have HU : Hid (UIn (w1.alloc (.cells #[.int .u8 7] 5)).drew (.slice (some ⟨w1.heap.size, 0, none⟩) 1 1) [7]) := UIn.list w1 [7]
  have hbA : Below w1.heap.size w1 (w1.alloc (.cells #[.int .u8 7] 5)).drew := ((Below.refl _ _).alloc (Nat.le_refl _) _).drew
  have HA : Hid (Bx mb w1 (w1.alloc (.cells #[.int .u8 7] 5)).drew ∧ Ch (w1.alloc (.cells #[.int .u8 7] 5)).drew cb mb pv P) := ⟨Bx.of hbA, hC0.below hbA⟩
  have hb0 : Below w1.heap.size w1 w1.drew := (Below.refl _ _).drew
  have H0 : Hid (Bx mb w1 w1.drew ∧ Ch w1.drew cb mb pv P) := ⟨Bx.of hb0, hC0.below hb0⟩
  have HB : Hid (Bx mb w w1) := Bx.of hbx
  obtain ⟨hb, hhb⟩ : ∃ x, x = ([7] : List Nat).contains (M.tag P a) := ⟨_, rfl⟩
  rw [← hhb] at HH
  have e1 : decide (M.tag P a = 7) = hb := by rw [hhb, Bool.eq_iff_iff]; simp
  rw [e1] at hr
  generalize dims (M.cls P a) = d at *
  obtain ⟨D, hD⟩ : ∃ D, D = decide (d = 0) := ⟨_, rfl⟩
  have q9 : ((d : Int) == 0) = D := by rw [hD, Bool.eq_iff_iff]; simp
  rw [← hD] at hr
  have Hr := hide hr
  clear e1 hD
  clear hhb hr hbx hX hC0 hbA hb0 HCa hcl
  cases hb
  · skip
    refine wp_region_held_drew (S := fun W => Bx mb w1 W ∧ Ch W cb mb pv P) (by kernel_rfl) (unhide H0) (fun hHeld => ?_)
    refine wpAnyH_take (i := 0) (oi := _) (v := ?_) rfl (by kernel_rfl) (by kernel_rfl) (by kernel_rfl) (fun _ _ _ h => h) (Or.inl ⟨by rfl, ?_⟩) (by assumption) ?_
    rotate_left
    · intro W hW
      go_simp
      try rfl
    try simp only [Act.put, q1, q2, q3, q4, q5, q6]
    refine wpAnyH_take (i := 1) (oi := _) (v := ?_) rfl (by kernel_rfl) (by kernel_rfl) (by kernel_rfl) (fun _ _ _ h => h) (Or.inl ⟨by rfl, ?_⟩) (by assumption) ?_
    rotate_left
    · intro W hW
      go_simp
      try rfl
    try simp only [Act.put, q1, q2, q3, q4, q5, q6]
    refine wpAnyH_take (i := 2) (oi := _) (v := ?_) rfl (by kernel_rfl) (by kernel_rfl) (by kernel_rfl) (fun _ _ _ h => h) (Or.inl ⟨by rfl, ?_⟩) (by assumption) ?_
    rotate_left
    · intro W hW
      go_simp
      try rfl
    try simp only [Act.put, q1, q2, q3, q4, q5, q6]
    refine wpAnyH_take (i := 3) (oi := _) (v := ?_) rfl (by kernel_rfl) (by kernel_rfl) (by kernel_rfl) (fun _ _ _ h => h) (Or.inl ⟨by rfl, ?_⟩) (by assumption) ?_
    rotate_left
    · intro W hW
      have qc := (unhide HQ W hW).1
      go_simp
      try rfl
    try simp only [Act.put, q1, q2, q3, q4, q5, q6]
    refine wpAnyH_take (i := 4) (oi := _) (v := ?_) rfl (by kernel_rfl) (by kernel_rfl) (by kernel_rfl) (fun _ _ _ h => h) (Or.inl ⟨by rfl, ?_⟩) (by assumption) ?_
    rotate_left
    · intro W hW
      go_simp
      try rfl
    try simp only [Act.put, q1, q2, q3, q4, q5, q6]
    refine wpAnyH_take (i := 5) (oi := _) (v := ?_) rfl (by kernel_rfl) (by kernel_rfl) (by kernel_rfl) (fun _ _ _ h => h) (Or.inl ⟨by rfl, ?_⟩) (by assumption) ?_
    rotate_left
    · intro W hW
      have q3 := (unhide HQ W hW).2.2.2.2.1
      go_simp
      try rfl
    try simp only [Act.put, q1, q2, q3, q4, q5, q6]
    refine wpAnyH_ready (rs := [6]) (by kernel_rfl) (by simp) ?_
    refine AllReadyH.cons (o := _) rfl (fun K hK => ?_) AllReadyH.nil
    go_simp
    refine hK.out _ _ (unhide HA) (fun hHeld => ?_)
    clear hK K
    try simp only [Act.put, q1, q2, q3, q4, q5, q6]
    refine wpAnyH_ready (rs := [7]) (by kernel_rfl) (by simp) ?_
    refine AllReadyH.cons (o := _) rfl (fun K hK => ?_) AllReadyH.nil
    go_simp
    go_at_call 21
    refine (unhide HH _ _ hHeld.2 (unhide HU)).mono ?_
    rintro e wH ⟨rfl, hbH⟩
    try go_simp
    refine hK.out _ _ ⟨hHeld.1.trans (Bx.of hbH), hHeld.2.below hbH⟩ (fun hHeld => ?_)
    clear hK K
    try simp only [Act.put, q1, q2, q3, q4, q5, q6]
    refine wpAnyH_take (i := 8) (oi := _) (v := ?_) rfl (by kernel_rfl) (by kernel_rfl) (by kernel_rfl) (fun _ _ _ h => h) (Or.inl ⟨by rfl, ?_⟩) (by assumption) ?_
    rotate_left
    · intro W hW
      go_simp
      try rfl
    try simp only [Act.put, q1, q2, q3, q4, q5, q6]
    refine wpAnyH_take (i := 9) (oi := _) (v := undef) rfl (by kernel_rfl) (by kernel_rfl) (by kernel_rfl) (fun _ _ _ h => h) (Or.inr ⟨by rfl, rfl⟩) (by assumption) ?_
    try simp only [Act.put, q1, q2, q3, q4, q5, q6]
    refine wpAnyH_take (i := 10) (oi := _) (v := undef) rfl (by kernel_rfl) (by kernel_rfl) (by kernel_rfl) (fun _ _ _ h => h) (Or.inr ⟨by rfl, rfl⟩) (by assumption) ?_
    try simp only [Act.put, q1, q2, q3, q4, q5, q6]
    refine wpAnyH_take (i := 11) (oi := _) (v := undef) rfl (by kernel_rfl) (by kernel_rfl) (by kernel_rfl) (fun _ _ _ h => h) (Or.inr ⟨by rfl, rfl⟩) (by assumption) ?_
    try simp only [Act.put, q1, q2, q3, q4, q5, q6]
    refine wpAnyH_take (i := 12) (oi := _) (v := undef) rfl (by kernel_rfl) (by kernel_rfl) (by kernel_rfl) (fun _ _ _ h => h) (Or.inr ⟨by rfl, rfl⟩) (by assumption) ?_
    try simp only [Act.put, q1, q2, q3, q4, q5, q6]
    refine wpAnyH_take (i := 13) (oi := _) (v := undef) rfl (by kernel_rfl) (by kernel_rfl) (by kernel_rfl) (fun _ _ _ h => h) (Or.inr ⟨by rfl, rfl⟩) (by assumption) ?_
    try simp only [Act.put, q1, q2, q3, q4, q5, q6]
    refine wpAnyH_take (i := 14) (oi := _) (v := ?_) rfl (by kernel_rfl) (by kernel_rfl) (by kernel_rfl) (fun _ _ _ h => h) (Or.inl ⟨by rfl, ?_⟩) (by assumption) ?_
    rotate_left
    · intro W hW
      go_simp
      try rfl
    try simp only [Act.put, q1, q2, q3, q4, q5, q6]
    refine wpAnyH_take (i := 15) (oi := _) (v := ?_) rfl (by kernel_rfl) (by kernel_rfl) (by kernel_rfl) (fun _ _ _ h => h) (Or.inl ⟨by rfl, ?_⟩) (by assumption) ?_
    rotate_left
    · intro W hW
      go_simp
      try rfl
    try simp only [Act.put, q1, q2, q3, q4, q5, q6]
    refine wpAnyH_done (by kernel_rfl) ?_ _
    go_wp2
    go_ret
    exact ⟨by rw [unhide Hr]; rfl, (unhide HB).trans hHeld.1, hHeld.2⟩
  · skip
    refine wp_region_held_drew (S := fun W => Bx mb w1 W ∧ Ch W cb mb pv P) (by kernel_rfl) (unhide H0) (fun hHeld => ?_)
    refine wpAnyH_take (i := 0) (oi := _) (v := ?_) rfl (by kernel_rfl) (by kernel_rfl) (by kernel_rfl) (fun _ _ _ h => h) (Or.inl ⟨by rfl, ?_⟩) (by assumption) ?_
    rotate_left
    · intro W hW
      go_simp
      try rfl
    try simp only [Act.put, q1, q2, q3, q4, q5, q6]
    refine wpAnyH_take (i := 1) (oi := _) (v := ?_) rfl (by kernel_rfl) (by kernel_rfl) (by kernel_rfl) (fun _ _ _ h => h) (Or.inl ⟨by rfl, ?_⟩) (by assumption) ?_
    rotate_left
    · intro W hW
      go_simp
      try rfl
    try simp only [Act.put, q1, q2, q3, q4, q5, q6]
    refine wpAnyH_take (i := 2) (oi := _) (v := ?_) rfl (by kernel_rfl) (by kernel_rfl) (by kernel_rfl) (fun _ _ _ h => h) (Or.inl ⟨by rfl, ?_⟩) (by assumption) ?_
    rotate_left
    · intro W hW
      go_simp
      try rfl
    try simp only [Act.put, q1, q2, q3, q4, q5, q6]
    refine wpAnyH_take (i := 3) (oi := _) (v := ?_) rfl (by kernel_rfl) (by kernel_rfl) (by kernel_rfl) (fun _ _ _ h => h) (Or.inl ⟨by rfl, ?_⟩) (by assumption) ?_
    rotate_left
    · intro W hW
      have qc := (unhide HQ W hW).1
      go_simp
      try rfl
    try simp only [Act.put, q1, q2, q3, q4, q5, q6]
    refine wpAnyH_take (i := 4) (oi := _) (v := ?_) rfl (by kernel_rfl) (by kernel_rfl) (by kernel_rfl) (fun _ _ _ h => h) (Or.inl ⟨by rfl, ?_⟩) (by assumption) ?_
    rotate_left
    · intro W hW
      go_simp
      try rfl
    try simp only [Act.put, q1, q2, q3, q4, q5, q6]
    refine wpAnyH_take (i := 5) (oi := _) (v := ?_) rfl (by kernel_rfl) (by kernel_rfl) (by kernel_rfl) (fun _ _ _ h => h) (Or.inl ⟨by rfl, ?_⟩) (by assumption) ?_
    rotate_left
    · intro W hW
      have q3 := (unhide HQ W hW).2.2.2.2.1
      go_simp
      try rfl
    try simp only [Act.put, q1, q2, q3, q4, q5, q6]
    refine wpAnyH_ready (rs := [6]) (by kernel_rfl) (by simp) ?_
    refine AllReadyH.cons (o := _) rfl (fun K hK => ?_) AllReadyH.nil
    go_simp
    refine hK.out _ _ (unhide HA) (fun hHeld => ?_)
    clear hK K
    try simp only [Act.put, q1, q2, q3, q4, q5, q6]
    refine wpAnyH_ready (rs := [7]) (by kernel_rfl) (by simp) ?_
    refine AllReadyH.cons (o := _) rfl (fun K hK => ?_) AllReadyH.nil
    go_simp
    go_at_call 21
    refine (unhide HH _ _ hHeld.2 (unhide HU)).mono ?_
    rintro e wH ⟨rfl, hbH⟩
    try go_simp
    refine hK.out _ _ ⟨hHeld.1.trans (Bx.of hbH), hHeld.2.below hbH⟩ (fun hHeld => ?_)
    clear hK K
    try simp only [Act.put, q1, q2, q3, q4, q5, q6]
    refine wpAnyH_take (i := 8) (oi := _) (v := ?_) rfl (by kernel_rfl) (by kernel_rfl) (by kernel_rfl) (fun _ _ _ h => h) (Or.inl ⟨by rfl, ?_⟩) (by assumption) ?_
    rotate_left
    · intro W hW
      go_simp
      try rfl
    try simp only [Act.put, q1, q2, q3, q4, q5, q6]
    refine wpAnyH_take (i := 9) (oi := _) (v := ?_) rfl (by kernel_rfl) (by kernel_rfl) (by kernel_rfl) (fun _ _ _ h => h) (Or.inl ⟨by rfl, ?_⟩) (by assumption) ?_
    rotate_left
    · intro W hW
      go_simp
      try rfl
    try simp only [Act.put, q1, q2, q3, q4, q5, q6]
    refine wpAnyH_take (i := 10) (oi := _) (v := ?_) rfl (by kernel_rfl) (by kernel_rfl) (by kernel_rfl) (fun _ _ _ h => h) (Or.inl ⟨by rfl, ?_⟩) (by assumption) ?_
    rotate_left
    · intro W hW
      go_simp
      try rfl
    try simp only [Act.put, q1, q2, q3, q4, q5, q6]
    refine wpAnyH_take (i := 11) (oi := _) (v := ?_) rfl (by kernel_rfl) (by kernel_rfl) (by kernel_rfl) (fun _ _ _ h => h) (Or.inl ⟨by rfl, ?_⟩) (by assumption) ?_
    rotate_left
    · intro W hW
      have q3 := (unhide HQ W hW).2.2.2.2.1
      go_simp
      try rfl
    try simp only [Act.put, q1, q2, q3, q4, q5, q6]
    refine wpAnyH_ready (rs := [12]) (by kernel_rfl) (by simp) ?_
    refine AllReadyH.cons (o := _) rfl (fun K hK => ?_) AllReadyH.nil
    go_simp
    go_at_call 113
    refine (unhide HDi _ hHeld.2).mono ?_
    rintro e wD ⟨rfl, hbD⟩
    try go_simp
    refine hK.out _ _ ⟨hHeld.1.trans (Bx.of hbD), hHeld.2.below hbD⟩ (fun hHeld => ?_)
    clear hK K
    try simp only [Act.put, q1, q2, q3, q4, q5, q6]
    refine wpAnyH_take (i := 13) (oi := _) (v := ?_) rfl (by kernel_rfl) (by kernel_rfl) (by kernel_rfl) (fun _ _ _ h => h) (Or.inl ⟨by rfl, ?_⟩) (by assumption) ?_
    rotate_left
    · intro W hW
      go_simp
      try rfl
    try simp only [Act.put, q1, q2, q3, q4, q5, q6]
    refine wpAnyH_take (i := 14) (oi := _) (v := ?_) rfl (by kernel_rfl) (by kernel_rfl) (by kernel_rfl) (fun _ _ _ h => h) (Or.inl ⟨by rfl, ?_⟩) (by assumption) ?_
    rotate_left
    · intro W hW
      go_simp
      try rfl
    try simp only [Act.put, q1, q2, q3, q4, q5, q6]
    refine wpAnyH_take (i := 15) (oi := _) (v := ?_) rfl (by kernel_rfl) (by kernel_rfl) (by kernel_rfl) (fun _ _ _ h => h) (Or.inl ⟨by rfl, ?_⟩) (by assumption) ?_
    rotate_left
    · intro W hW
      go_simp
      try rfl
    try simp only [Act.put, q1, q2, q3, q4, q5, q6]
    refine wpAnyH_done (by kernel_rfl) ?_ _
    go_wp2
    go_ret
    exact ⟨by rw [unhide Hr]; rfl, (unhide HB).trans hHeld.1, hHeld.2⟩

set_option maxRecDepth 100000 in
set_option maxHeartbeats 4000000 in
theorem idx_189 (c : Cw.V) (cb mb : Nat) (pv : Value) (P : List K) (w : World) (hop : c.g.op = 189) (h : Ch w cb mb pv P) (hP : P.length ≤ 1048576) (hS : Small P) :
    Calls Tryz.prog 92 #[.pointer (some ⟨cb, 0, none⟩), .agg c.arr] w fun e w' => e = .returned (.bool (opdB P 189 c.g.a c.g.b)) ∧ Bx mb w w' ∧ Ch w' cb mb pv P := by
  have hbx := (Below.refl w.heap.size w).alloc (Nat.le_refl _) (.cells c.arr 112)
  have hX := Bk.new w c.arr 112
  have hC0 := h.below hbx
  have HCa := fun (W : World) (hW : Ch W cb mb pv P) => called_any c cb mb pv P W (by omega) hW hP hS
  have hcl := hS.cls c.g.a
  obtain ⟨r, hr⟩ : ∃ r, r = opdB P 189 c.g.a c.g.b := ⟨_, rfl⟩
  rw [← hr]
  unfold opdB at hr
  simp only [Nat.reduceEqDiff, Nat.reduceLeDiff, or_false, false_or, or_self, and_self, and_true, true_and, and_false, false_and, if_true, if_false, reduceIte] at hr
  obtain ⟨⟨at_, op, wide, a, b, low, keys, tgts⟩, kv, tv⟩ := c
  unfold Cw.V.arr at *
  simp only at *
  subst hop
  simp only [show ((189 : Nat) : Int) = 189 from rfl] at *
  have HCA := hide HCa
  have HMe := hide (fun (W : World) (hW : Ch W cb mb pv P) => method_any cb mb pv P a W hW hP hS)
  have HDi := hide (fun (W : World) (hW : Ch W cb mb pv P) => dimensions_any cb pv P a W hW.c0 hW.k hP hS)
  have HW := hide Fm.within_any
  go_enter Tryz.func92, Tryz.ntmps92
  go_wp2_with (go_at_call 110; refine (unhide HW _ _ _ _).mono ?_; rintro e w' ⟨rfl, hww⟩; subst w')
  generalize w.alloc (.cells #[.int .i64 at_, .int .u8 189, .bool wide, .int .i64 a, .int .i64 b, .int .i64 low, kv, tv] 112) = w1 at *
  have HQ : Hid (∀ W : World, (Bx mb w1 W ∧ Ch W cb mb pv P) → W.cell? ⟨cb, 0, none⟩ = some pv ∧ W.cell? ⟨w.heap.size, 0, none⟩ = some (.int .i64 at_) ∧ W.cell? ⟨w.heap.size, 1, none⟩ = some (.int .u8 189) ∧ W.cell? ⟨w.heap.size, 2, none⟩ = some (.bool wide) ∧ W.cell? ⟨w.heap.size, 3, none⟩ = some (.int .i64 a) ∧ W.cell? ⟨w.heap.size, 4, none⟩ = some (.int .i64 b) ∧ W.cell? ⟨w.heap.size, 5, none⟩ = some (.int .i64 low) ∧ W.cell? ⟨w.heap.size, 6, none⟩ = some kv ∧ W.cell? ⟨w.heap.size, 7, none⟩ = some tv) := fun W hW =>
    ⟨hW.2.c0, hW.1.cell hC0.mp (hX.cell 0), hW.1.cell hC0.mp (hX.cell 1), hW.1.cell hC0.mp (hX.cell 2), hW.1.cell hC0.mp (hX.cell 3), hW.1.cell hC0.mp (hX.cell 4), hW.1.cell hC0.mp (hX.cell 5), hW.1.cell hC0.mp (hX.cell 6), hW.1.cell hC0.mp (hX.cell 7)⟩
  have HH := hide (fun (W : World) (tv : Value) (hW : Ch W cb mb pv P) (ht : UIn W tv [7]) => Kn.Has_any pv tv P [7] a W hW.k hP ht (by simp))
  have HU : Hid (UIn (w1.alloc (.cells #[.int .u8 7] 5)).drew (.slice (some ⟨w1.heap.size, 0, none⟩) 1 1) [7]) := UIn.list w1 [7]
  have hbA : Below w1.heap.size w1 (w1.alloc (.cells #[.int .u8 7] 5)).drew := ((Below.refl _ _).alloc (Nat.le_refl _) _).drew
  have HA : Hid (Bx mb w1 (w1.alloc (.cells #[.int .u8 7] 5)).drew ∧ Ch (w1.alloc (.cells #[.int .u8 7] 5)).drew cb mb pv P) := ⟨Bx.of hbA, hC0.below hbA⟩
  have hb0 : Below w1.heap.size w1 w1.drew := (Below.refl _ _).drew
  have H0 : Hid (Bx mb w1 w1.drew ∧ Ch w1.drew cb mb pv P) := ⟨Bx.of hb0, hC0.below hb0⟩
  have HB : Hid (Bx mb w w1) := Bx.of hbx
  obtain ⟨hb, hhb⟩ : ∃ x, x = ([7] : List Nat).contains (M.tag P a) := ⟨_, rfl⟩
  rw [← hhb] at HH
  have e1 : decide (M.tag P a = 7) = hb := by rw [hhb, Bool.eq_iff_iff]; simp
  rw [e1] at hr
  generalize dims (M.cls P a) = d at *
  obtain ⟨D, hD⟩ : ∃ D, D = decide (d < 255) := ⟨_, rfl⟩
  have q9 : decide ((d : Int) < 255) = D := by rw [hD, Bool.eq_iff_iff]; simp; omega
  rw [← hD] at hr
  have Hr := hide hr
  clear e1 hD
  clear hhb hr hbx hX hC0 hbA hb0 HCa hcl
  cases hb
  · skip
    refine wp_region_held_drew (S := fun W => Bx mb w1 W ∧ Ch W cb mb pv P) (by kernel_rfl) (unhide H0) (fun hHeld => ?_)
    refine wpAnyH_take (i := 0) (oi := _) (v := ?_) rfl (by kernel_rfl) (by kernel_rfl) (by kernel_rfl) (fun _ _ _ h => h) (Or.inl ⟨by rfl, ?_⟩) (by assumption) ?_
    rotate_left
    · intro W hW
      go_simp
      try rfl
    try simp only [Act.put, q1, q2, q3, q4, q5, q6]
    refine wpAnyH_take (i := 1) (oi := _) (v := ?_) rfl (by kernel_rfl) (by kernel_rfl) (by kernel_rfl) (fun _ _ _ h => h) (Or.inl ⟨by rfl, ?_⟩) (by assumption) ?_
    rotate_left
    · intro W hW
      go_simp
      try rfl
    try simp only [Act.put, q1, q2, q3, q4, q5, q6]
    refine wpAnyH_take (i := 2) (oi := _) (v := ?_) rfl (by kernel_rfl) (by kernel_rfl) (by kernel_rfl) (fun _ _ _ h => h) (Or.inl ⟨by rfl, ?_⟩) (by assumption) ?_
    rotate_left
    · intro W hW
      go_simp
      try rfl
    try simp only [Act.put, q1, q2, q3, q4, q5, q6]
    refine wpAnyH_take (i := 3) (oi := _) (v := ?_) rfl (by kernel_rfl) (by kernel_rfl) (by kernel_rfl) (fun _ _ _ h => h) (Or.inl ⟨by rfl, ?_⟩) (by assumption) ?_
    rotate_left
    · intro W hW
      have qc := (unhide HQ W hW).1
      go_simp
      try rfl
    try simp only [Act.put, q1, q2, q3, q4, q5, q6]
    refine wpAnyH_take (i := 4) (oi := _) (v := ?_) rfl (by kernel_rfl) (by kernel_rfl) (by kernel_rfl) (fun _ _ _ h => h) (Or.inl ⟨by rfl, ?_⟩) (by assumption) ?_
    rotate_left
    · intro W hW
      go_simp
      try rfl
    try simp only [Act.put, q1, q2, q3, q4, q5, q6]
    refine wpAnyH_take (i := 5) (oi := _) (v := ?_) rfl (by kernel_rfl) (by kernel_rfl) (by kernel_rfl) (fun _ _ _ h => h) (Or.inl ⟨by rfl, ?_⟩) (by assumption) ?_
    rotate_left
    · intro W hW
      have q3 := (unhide HQ W hW).2.2.2.2.1
      go_simp
      try rfl
    try simp only [Act.put, q1, q2, q3, q4, q5, q6]
    refine wpAnyH_ready (rs := [6]) (by kernel_rfl) (by simp) ?_
    refine AllReadyH.cons (o := _) rfl (fun K hK => ?_) AllReadyH.nil
    go_simp
    refine hK.out _ _ (unhide HA) (fun hHeld => ?_)
    clear hK K
    try simp only [Act.put, q1, q2, q3, q4, q5, q6]
    refine wpAnyH_ready (rs := [7]) (by kernel_rfl) (by simp) ?_
    refine AllReadyH.cons (o := _) rfl (fun K hK => ?_) AllReadyH.nil
    go_simp
    go_at_call 21
    refine (unhide HH _ _ hHeld.2 (unhide HU)).mono ?_
    rintro e wH ⟨rfl, hbH⟩
    try go_simp
    refine hK.out _ _ ⟨hHeld.1.trans (Bx.of hbH), hHeld.2.below hbH⟩ (fun hHeld => ?_)
    clear hK K
    try simp only [Act.put, q1, q2, q3, q4, q5, q6]
    refine wpAnyH_take (i := 8) (oi := _) (v := ?_) rfl (by kernel_rfl) (by kernel_rfl) (by kernel_rfl) (fun _ _ _ h => h) (Or.inl ⟨by rfl, ?_⟩) (by assumption) ?_
    rotate_left
    · intro W hW
      go_simp
      try rfl
    try simp only [Act.put, q1, q2, q3, q4, q5, q6]
    refine wpAnyH_take (i := 9) (oi := _) (v := undef) rfl (by kernel_rfl) (by kernel_rfl) (by kernel_rfl) (fun _ _ _ h => h) (Or.inr ⟨by rfl, rfl⟩) (by assumption) ?_
    try simp only [Act.put, q1, q2, q3, q4, q5, q6]
    refine wpAnyH_take (i := 10) (oi := _) (v := undef) rfl (by kernel_rfl) (by kernel_rfl) (by kernel_rfl) (fun _ _ _ h => h) (Or.inr ⟨by rfl, rfl⟩) (by assumption) ?_
    try simp only [Act.put, q1, q2, q3, q4, q5, q6]
    refine wpAnyH_take (i := 11) (oi := _) (v := undef) rfl (by kernel_rfl) (by kernel_rfl) (by kernel_rfl) (fun _ _ _ h => h) (Or.inr ⟨by rfl, rfl⟩) (by assumption) ?_
    try simp only [Act.put, q1, q2, q3, q4, q5, q6]
    refine wpAnyH_take (i := 12) (oi := _) (v := undef) rfl (by kernel_rfl) (by kernel_rfl) (by kernel_rfl) (fun _ _ _ h => h) (Or.inr ⟨by rfl, rfl⟩) (by assumption) ?_
    try simp only [Act.put, q1, q2, q3, q4, q5, q6]
    refine wpAnyH_take (i := 13) (oi := _) (v := undef) rfl (by kernel_rfl) (by kernel_rfl) (by kernel_rfl) (fun _ _ _ h => h) (Or.inr ⟨by rfl, rfl⟩) (by assumption) ?_
    try simp only [Act.put, q1, q2, q3, q4, q5, q6]
    refine wpAnyH_take (i := 14) (oi := _) (v := ?_) rfl (by kernel_rfl) (by kernel_rfl) (by kernel_rfl) (fun _ _ _ h => h) (Or.inl ⟨by rfl, ?_⟩) (by assumption) ?_
    rotate_left
    · intro W hW
      go_simp
      try rfl
    try simp only [Act.put, q1, q2, q3, q4, q5, q6]
    refine wpAnyH_take (i := 15) (oi := _) (v := ?_) rfl (by kernel_rfl) (by kernel_rfl) (by kernel_rfl) (fun _ _ _ h => h) (Or.inl ⟨by rfl, ?_⟩) (by assumption) ?_
    rotate_left
    · intro W hW
      go_simp
      try rfl
    try simp only [Act.put, q1, q2, q3, q4, q5, q6]
    refine wpAnyH_done (by kernel_rfl) ?_ _
    go_wp2
    go_ret
    exact ⟨by rw [unhide Hr]; rfl, (unhide HB).trans hHeld.1, hHeld.2⟩
  · skip
    refine wp_region_held_drew (S := fun W => Bx mb w1 W ∧ Ch W cb mb pv P) (by kernel_rfl) (unhide H0) (fun hHeld => ?_)
    refine wpAnyH_take (i := 0) (oi := _) (v := ?_) rfl (by kernel_rfl) (by kernel_rfl) (by kernel_rfl) (fun _ _ _ h => h) (Or.inl ⟨by rfl, ?_⟩) (by assumption) ?_
    rotate_left
    · intro W hW
      go_simp
      try rfl
    try simp only [Act.put, q1, q2, q3, q4, q5, q6]
    refine wpAnyH_take (i := 1) (oi := _) (v := ?_) rfl (by kernel_rfl) (by kernel_rfl) (by kernel_rfl) (fun _ _ _ h => h) (Or.inl ⟨by rfl, ?_⟩) (by assumption) ?_
    rotate_left
    · intro W hW
      go_simp
      try rfl
    try simp only [Act.put, q1, q2, q3, q4, q5, q6]
    refine wpAnyH_take (i := 2) (oi := _) (v := ?_) rfl (by kernel_rfl) (by kernel_rfl) (by kernel_rfl) (fun _ _ _ h => h) (Or.inl ⟨by rfl, ?_⟩) (by assumption) ?_
    rotate_left
    · intro W hW
      go_simp
      try rfl
    try simp only [Act.put, q1, q2, q3, q4, q5, q6]
    refine wpAnyH_take (i := 3) (oi := _) (v := ?_) rfl (by kernel_rfl) (by kernel_rfl) (by kernel_rfl) (fun _ _ _ h => h) (Or.inl ⟨by rfl, ?_⟩) (by assumption) ?_
    rotate_left
    · intro W hW
      have qc := (unhide HQ W hW).1
      go_simp
      try rfl
    try simp only [Act.put, q1, q2, q3, q4, q5, q6]
    refine wpAnyH_take (i := 4) (oi := _) (v := ?_) rfl (by kernel_rfl) (by kernel_rfl) (by kernel_rfl) (fun _ _ _ h => h) (Or.inl ⟨by rfl, ?_⟩) (by assumption) ?_
    rotate_left
    · intro W hW
      go_simp
      try rfl
    try simp only [Act.put, q1, q2, q3, q4, q5, q6]
    refine wpAnyH_take (i := 5) (oi := _) (v := ?_) rfl (by kernel_rfl) (by kernel_rfl) (by kernel_rfl) (fun _ _ _ h => h) (Or.inl ⟨by rfl, ?_⟩) (by assumption) ?_
    rotate_left
    · intro W hW
      have q3 := (unhide HQ W hW).2.2.2.2.1
      go_simp
      try rfl
    try simp only [Act.put, q1, q2, q3, q4, q5, q6]
    refine wpAnyH_ready (rs := [6]) (by kernel_rfl) (by simp) ?_
    refine AllReadyH.cons (o := _) rfl (fun K hK => ?_) AllReadyH.nil
    go_simp
    refine hK.out _ _ (unhide HA) (fun hHeld => ?_)
    clear hK K
    try simp only [Act.put, q1, q2, q3, q4, q5, q6]
    refine wpAnyH_ready (rs := [7]) (by kernel_rfl) (by simp) ?_
    refine AllReadyH.cons (o := _) rfl (fun K hK => ?_) AllReadyH.nil
    go_simp
    go_at_call 21
    refine (unhide HH _ _ hHeld.2 (unhide HU)).mono ?_
    rintro e wH ⟨rfl, hbH⟩
    try go_simp
    refine hK.out _ _ ⟨hHeld.1.trans (Bx.of hbH), hHeld.2.below hbH⟩ (fun hHeld => ?_)
    clear hK K
    try simp only [Act.put, q1, q2, q3, q4, q5, q6]
    refine wpAnyH_take (i := 8) (oi := _) (v := ?_) rfl (by kernel_rfl) (by kernel_rfl) (by kernel_rfl) (fun _ _ _ h => h) (Or.inl ⟨by rfl, ?_⟩) (by assumption) ?_
    rotate_left
    · intro W hW
      go_simp
      try rfl
    try simp only [Act.put, q1, q2, q3, q4, q5, q6]
    refine wpAnyH_take (i := 9) (oi := _) (v := ?_) rfl (by kernel_rfl) (by kernel_rfl) (by kernel_rfl) (fun _ _ _ h => h) (Or.inl ⟨by rfl, ?_⟩) (by assumption) ?_
    rotate_left
    · intro W hW
      go_simp
      try rfl
    try simp only [Act.put, q1, q2, q3, q4, q5, q6]
    refine wpAnyH_take (i := 10) (oi := _) (v := ?_) rfl (by kernel_rfl) (by kernel_rfl) (by kernel_rfl) (fun _ _ _ h => h) (Or.inl ⟨by rfl, ?_⟩) (by assumption) ?_
    rotate_left
    · intro W hW
      go_simp
      try rfl
    try simp only [Act.put, q1, q2, q3, q4, q5, q6]
    refine wpAnyH_take (i := 11) (oi := _) (v := ?_) rfl (by kernel_rfl) (by kernel_rfl) (by kernel_rfl) (fun _ _ _ h => h) (Or.inl ⟨by rfl, ?_⟩) (by assumption) ?_
    rotate_left
    · intro W hW
      have q3 := (unhide HQ W hW).2.2.2.2.1
      go_simp
      try rfl
    try simp only [Act.put, q1, q2, q3, q4, q5, q6]
    refine wpAnyH_ready (rs := [12]) (by kernel_rfl) (by simp) ?_
    refine AllReadyH.cons (o := _) rfl (fun K hK => ?_) AllReadyH.nil
    go_simp
    go_at_call 113
    refine (unhide HDi _ hHeld.2).mono ?_
    rintro e wD ⟨rfl, hbD⟩
    try go_simp
    refine hK.out _ _ ⟨hHeld.1.trans (Bx.of hbD), hHeld.2.below hbD⟩ (fun hHeld => ?_)
    clear hK K
    try simp only [Act.put, q1, q2, q3, q4, q5, q6]
    refine wpAnyH_take (i := 13) (oi := _) (v := ?_) rfl (by kernel_rfl) (by kernel_rfl) (by kernel_rfl) (fun _ _ _ h => h) (Or.inl ⟨by rfl, ?_⟩) (by assumption) ?_
    rotate_left
    · intro W hW
      go_simp
      try rfl
    try simp only [Act.put, q1, q2, q3, q4, q5, q6]
    refine wpAnyH_take (i := 14) (oi := _) (v := ?_) rfl (by kernel_rfl) (by kernel_rfl) (by kernel_rfl) (fun _ _ _ h => h) (Or.inl ⟨by rfl, ?_⟩) (by assumption) ?_
    rotate_left
    · intro W hW
      go_simp
      try rfl
    try simp only [Act.put, q1, q2, q3, q4, q5, q6]
    refine wpAnyH_take (i := 15) (oi := _) (v := ?_) rfl (by kernel_rfl) (by kernel_rfl) (by kernel_rfl) (fun _ _ _ h => h) (Or.inl ⟨by rfl, ?_⟩) (by assumption) ?_
    rotate_left
    · intro W hW
      go_simp
      try rfl
    try simp only [Act.put, q1, q2, q3, q4, q5, q6]
    refine wpAnyH_done (by kernel_rfl) ?_ _
    go_wp2
    go_ret
    exact ⟨by rw [unhide Hr]; rfl, (unhide HB).trans hHeld.1, hHeld.2⟩

set_option maxRecDepth 100000 in
set_option maxHeartbeats 4000000 in
theorem idx_197 (c : Cw.V) (cb mb : Nat) (pv : Value) (P : List K) (w : World) (hop : c.g.op = 197) (h : Ch w cb mb pv P) (hP : P.length ≤ 1048576) (hS : Small P) :
    Calls Tryz.prog 92 #[.pointer (some ⟨cb, 0, none⟩), .agg c.arr] w fun e w' => e = .returned (.bool (opdB P 197 c.g.a c.g.b)) ∧ Bx mb w w' ∧ Ch w' cb mb pv P := by
  have hbx := (Below.refl w.heap.size w).alloc (Nat.le_refl _) (.cells c.arr 112)
  have hX := Bk.new w c.arr 112
  have hC0 := h.below hbx
  have HCa := fun (W : World) (hW : Ch W cb mb pv P) => called_any c cb mb pv P W (by omega) hW hP hS
  have hcl := hS.cls c.g.a
  obtain ⟨r, hr⟩ : ∃ r, r = opdB P 197 c.g.a c.g.b := ⟨_, rfl⟩
  rw [← hr]
  unfold opdB at hr
  simp only [Nat.reduceEqDiff, Nat.reduceLeDiff, or_false, false_or, or_self, and_self, and_true, true_and, and_false, false_and, if_true, if_false, reduceIte] at hr
  obtain ⟨⟨at_, op, wide, a, b, low, keys, tgts⟩, kv, tv⟩ := c
  unfold Cw.V.arr at *
  simp only at *
  subst hop
  simp only [show ((197 : Nat) : Int) = 197 from rfl] at *
  have HCA := hide HCa
  have HMe := hide (fun (W : World) (hW : Ch W cb mb pv P) => method_any cb mb pv P a W hW hP hS)
  have HDi := hide (fun (W : World) (hW : Ch W cb mb pv P) => dimensions_any cb pv P a W hW.c0 hW.k hP hS)
  have HW := hide Fm.within_any
  go_enter Tryz.func92, Tryz.ntmps92
  go_wp2_with (go_at_call 110; refine (unhide HW _ _ _ _).mono ?_; rintro e w' ⟨rfl, hww⟩; subst w')
  generalize w.alloc (.cells #[.int .i64 at_, .int .u8 197, .bool wide, .int .i64 a, .int .i64 b, .int .i64 low, kv, tv] 112) = w1 at *
  have HQ : Hid (∀ W : World, (Bx mb w1 W ∧ Ch W cb mb pv P) → W.cell? ⟨cb, 0, none⟩ = some pv ∧ W.cell? ⟨w.heap.size, 0, none⟩ = some (.int .i64 at_) ∧ W.cell? ⟨w.heap.size, 1, none⟩ = some (.int .u8 197) ∧ W.cell? ⟨w.heap.size, 2, none⟩ = some (.bool wide) ∧ W.cell? ⟨w.heap.size, 3, none⟩ = some (.int .i64 a) ∧ W.cell? ⟨w.heap.size, 4, none⟩ = some (.int .i64 b) ∧ W.cell? ⟨w.heap.size, 5, none⟩ = some (.int .i64 low) ∧ W.cell? ⟨w.heap.size, 6, none⟩ = some kv ∧ W.cell? ⟨w.heap.size, 7, none⟩ = some tv) := fun W hW =>
    ⟨hW.2.c0, hW.1.cell hC0.mp (hX.cell 0), hW.1.cell hC0.mp (hX.cell 1), hW.1.cell hC0.mp (hX.cell 2), hW.1.cell hC0.mp (hX.cell 3), hW.1.cell hC0.mp (hX.cell 4), hW.1.cell hC0.mp (hX.cell 5), hW.1.cell hC0.mp (hX.cell 6), hW.1.cell hC0.mp (hX.cell 7)⟩
  have HH := hide (fun (W : World) (tv : Value) (hW : Ch W cb mb pv P) (ht : UIn W tv [7]) => Kn.Has_any pv tv P [7] a W hW.k hP ht (by simp))
  have HU : Hid (UIn (w1.alloc (.cells #[.int .u8 7] 5)).drew (.slice (some ⟨w1.heap.size, 0, none⟩) 1 1) [7]) := UIn.list w1 [7]
  have hbA : Below w1.heap.size w1 (w1.alloc (.cells #[.int .u8 7] 5)).drew := ((Below.refl _ _).alloc (Nat.le_refl _) _).drew
  have HA : Hid (Bx mb w1 (w1.alloc (.cells #[.int .u8 7] 5)).drew ∧ Ch (w1.alloc (.cells #[.int .u8 7] 5)).drew cb mb pv P) := ⟨Bx.of hbA, hC0.below hbA⟩
  have hb0 : Below w1.heap.size w1 w1.drew := (Below.refl _ _).drew
  have H0 : Hid (Bx mb w1 w1.drew ∧ Ch w1.drew cb mb pv P) := ⟨Bx.of hb0, hC0.below hb0⟩
  have HB : Hid (Bx mb w w1) := Bx.of hbx
  obtain ⟨hb, hhb⟩ : ∃ x, x = ([7] : List Nat).contains (M.tag P a) := ⟨_, rfl⟩
  rw [← hhb] at HH
  have e1 : decide (M.tag P a = 7) = hb := by rw [hhb, Bool.eq_iff_iff]; simp
  rw [e1] at hr
  generalize dims (M.cls P a) = d at *
  obtain ⟨D, hD⟩ : ∃ D, D = decide (b ≤ (d : Int)) := ⟨_, rfl⟩
  have q9 : decide (b ≤ (d : Int)) = D := by rw [hD]
  rw [← hD] at hr
  have Hr := hide hr
  clear e1 hD
  clear hhb hr hbx hX hC0 hbA hb0 HCa hcl
  cases hb
  · skip
    refine wp_region_held_drew (S := fun W => Bx mb w1 W ∧ Ch W cb mb pv P) (by kernel_rfl) (unhide H0) (fun hHeld => ?_)
    refine wpAnyH_take (i := 0) (oi := _) (v := ?_) rfl (by kernel_rfl) (by kernel_rfl) (by kernel_rfl) (fun _ _ _ h => h) (Or.inl ⟨by rfl, ?_⟩) (by assumption) ?_
    rotate_left
    · intro W hW
      go_simp
      try rfl
    try simp only [Act.put, q1, q2, q3, q4, q5, q6]
    refine wpAnyH_take (i := 1) (oi := _) (v := ?_) rfl (by kernel_rfl) (by kernel_rfl) (by kernel_rfl) (fun _ _ _ h => h) (Or.inl ⟨by rfl, ?_⟩) (by assumption) ?_
    rotate_left
    · intro W hW
      go_simp
      try rfl
    try simp only [Act.put, q1, q2, q3, q4, q5, q6]
    refine wpAnyH_take (i := 2) (oi := _) (v := ?_) rfl (by kernel_rfl) (by kernel_rfl) (by kernel_rfl) (fun _ _ _ h => h) (Or.inl ⟨by rfl, ?_⟩) (by assumption) ?_
    rotate_left
    · intro W hW
      go_simp
      try rfl
    try simp only [Act.put, q1, q2, q3, q4, q5, q6]
    refine wpAnyH_take (i := 3) (oi := _) (v := ?_) rfl (by kernel_rfl) (by kernel_rfl) (by kernel_rfl) (fun _ _ _ h => h) (Or.inl ⟨by rfl, ?_⟩) (by assumption) ?_
    rotate_left
    · intro W hW
      have qc := (unhide HQ W hW).1
      go_simp
      try rfl
    try simp only [Act.put, q1, q2, q3, q4, q5, q6]
    refine wpAnyH_take (i := 4) (oi := _) (v := ?_) rfl (by kernel_rfl) (by kernel_rfl) (by kernel_rfl) (fun _ _ _ h => h) (Or.inl ⟨by rfl, ?_⟩) (by assumption) ?_
    rotate_left
    · intro W hW
      go_simp
      try rfl
    try simp only [Act.put, q1, q2, q3, q4, q5, q6]
    refine wpAnyH_take (i := 5) (oi := _) (v := ?_) rfl (by kernel_rfl) (by kernel_rfl) (by kernel_rfl) (fun _ _ _ h => h) (Or.inl ⟨by rfl, ?_⟩) (by assumption) ?_
    rotate_left
    · intro W hW
      have q3 := (unhide HQ W hW).2.2.2.2.1
      go_simp
      try rfl
    try simp only [Act.put, q1, q2, q3, q4, q5, q6]
    refine wpAnyH_ready (rs := [6]) (by kernel_rfl) (by simp) ?_
    refine AllReadyH.cons (o := _) rfl (fun K hK => ?_) AllReadyH.nil
    go_simp
    refine hK.out _ _ (unhide HA) (fun hHeld => ?_)
    clear hK K
    try simp only [Act.put, q1, q2, q3, q4, q5, q6]
    refine wpAnyH_ready (rs := [7]) (by kernel_rfl) (by simp) ?_
    refine AllReadyH.cons (o := _) rfl (fun K hK => ?_) AllReadyH.nil
    go_simp
    go_at_call 21
    refine (unhide HH _ _ hHeld.2 (unhide HU)).mono ?_
    rintro e wH ⟨rfl, hbH⟩
    try go_simp
    refine hK.out _ _ ⟨hHeld.1.trans (Bx.of hbH), hHeld.2.below hbH⟩ (fun hHeld => ?_)
    clear hK K
    try simp only [Act.put, q1, q2, q3, q4, q5, q6]
    refine wpAnyH_take (i := 8) (oi := _) (v := ?_) rfl (by kernel_rfl) (by kernel_rfl) (by kernel_rfl) (fun _ _ _ h => h) (Or.inl ⟨by rfl, ?_⟩) (by assumption) ?_
    rotate_left
    · intro W hW
      go_simp
      try rfl
    try simp only [Act.put, q1, q2, q3, q4, q5, q6]
    refine wpAnyH_take (i := 9) (oi := _) (v := undef) rfl (by kernel_rfl) (by kernel_rfl) (by kernel_rfl) (fun _ _ _ h => h) (Or.inr ⟨by rfl, rfl⟩) (by assumption) ?_
    try simp only [Act.put, q1, q2, q3, q4, q5, q6]
    refine wpAnyH_take (i := 10) (oi := _) (v := undef) rfl (by kernel_rfl) (by kernel_rfl) (by kernel_rfl) (fun _ _ _ h => h) (Or.inr ⟨by rfl, rfl⟩) (by assumption) ?_
    try simp only [Act.put, q1, q2, q3, q4, q5, q6]
    refine wpAnyH_take (i := 11) (oi := _) (v := undef) rfl (by kernel_rfl) (by kernel_rfl) (by kernel_rfl) (fun _ _ _ h => h) (Or.inr ⟨by rfl, rfl⟩) (by assumption) ?_
    try simp only [Act.put, q1, q2, q3, q4, q5, q6]
    refine wpAnyH_take (i := 12) (oi := _) (v := undef) rfl (by kernel_rfl) (by kernel_rfl) (by kernel_rfl) (fun _ _ _ h => h) (Or.inr ⟨by rfl, rfl⟩) (by assumption) ?_
    try simp only [Act.put, q1, q2, q3, q4, q5, q6]
    refine wpAnyH_take (i := 13) (oi := _) (v := undef) rfl (by kernel_rfl) (by kernel_rfl) (by kernel_rfl) (fun _ _ _ h => h) (Or.inr ⟨by rfl, rfl⟩) (by assumption) ?_
    try simp only [Act.put, q1, q2, q3, q4, q5, q6]
    refine wpAnyH_take (i := 14) (oi := _) (v := undef) rfl (by kernel_rfl) (by kernel_rfl) (by kernel_rfl) (fun _ _ _ h => h) (Or.inr ⟨by rfl, rfl⟩) (by assumption) ?_
    try simp only [Act.put, q1, q2, q3, q4, q5, q6]
    refine wpAnyH_take (i := 15) (oi := _) (v := undef) rfl (by kernel_rfl) (by kernel_rfl) (by kernel_rfl) (fun _ _ _ h => h) (Or.inr ⟨by rfl, rfl⟩) (by assumption) ?_
    try simp only [Act.put, q1, q2, q3, q4, q5, q6]
    refine wpAnyH_take (i := 16) (oi := _) (v := ?_) rfl (by kernel_rfl) (by kernel_rfl) (by kernel_rfl) (fun _ _ _ h => h) (Or.inl ⟨by rfl, ?_⟩) (by assumption) ?_
    rotate_left
    · intro W hW
      go_simp
      try rfl
    try simp only [Act.put, q1, q2, q3, q4, q5, q6]
    refine wpAnyH_take (i := 17) (oi := _) (v := ?_) rfl (by kernel_rfl) (by kernel_rfl) (by kernel_rfl) (fun _ _ _ h => h) (Or.inl ⟨by rfl, ?_⟩) (by assumption) ?_
    rotate_left
    · intro W hW
      go_simp
      try rfl
    try simp only [Act.put, q1, q2, q3, q4, q5, q6]
    refine wpAnyH_done (by kernel_rfl) ?_ _
    go_wp2
    go_ret
    exact ⟨by rw [unhide Hr]; rfl, (unhide HB).trans hHeld.1, hHeld.2⟩
  · skip
    refine wp_region_held_drew (S := fun W => Bx mb w1 W ∧ Ch W cb mb pv P) (by kernel_rfl) (unhide H0) (fun hHeld => ?_)
    refine wpAnyH_take (i := 0) (oi := _) (v := ?_) rfl (by kernel_rfl) (by kernel_rfl) (by kernel_rfl) (fun _ _ _ h => h) (Or.inl ⟨by rfl, ?_⟩) (by assumption) ?_
    rotate_left
    · intro W hW
      go_simp
      try rfl
    try simp only [Act.put, q1, q2, q3, q4, q5, q6]
    refine wpAnyH_take (i := 1) (oi := _) (v := ?_) rfl (by kernel_rfl) (by kernel_rfl) (by kernel_rfl) (fun _ _ _ h => h) (Or.inl ⟨by rfl, ?_⟩) (by assumption) ?_
    rotate_left
    · intro W hW
      go_simp
      try rfl
    try simp only [Act.put, q1, q2, q3, q4, q5, q6]
    refine wpAnyH_take (i := 2) (oi := _) (v := ?_) rfl (by kernel_rfl) (by kernel_rfl) (by kernel_rfl) (fun _ _ _ h => h) (Or.inl ⟨by rfl, ?_⟩) (by assumption) ?_
    rotate_left
    · intro W hW
      go_simp
      try rfl
    try simp only [Act.put, q1, q2, q3, q4, q5, q6]
    refine wpAnyH_take (i := 3) (oi := _) (v := ?_) rfl (by kernel_rfl) (by kernel_rfl) (by kernel_rfl) (fun _ _ _ h => h) (Or.inl ⟨by rfl, ?_⟩) (by assumption) ?_
    rotate_left
    · intro W hW
      have qc := (unhide HQ W hW).1
      go_simp
      try rfl
    try simp only [Act.put, q1, q2, q3, q4, q5, q6]
    refine wpAnyH_take (i := 4) (oi := _) (v := ?_) rfl (by kernel_rfl) (by kernel_rfl) (by kernel_rfl) (fun _ _ _ h => h) (Or.inl ⟨by rfl, ?_⟩) (by assumption) ?_
    rotate_left
    · intro W hW
      go_simp
      try rfl
    try simp only [Act.put, q1, q2, q3, q4, q5, q6]
    refine wpAnyH_take (i := 5) (oi := _) (v := ?_) rfl (by kernel_rfl) (by kernel_rfl) (by kernel_rfl) (fun _ _ _ h => h) (Or.inl ⟨by rfl, ?_⟩) (by assumption) ?_
    rotate_left
    · intro W hW
      have q3 := (unhide HQ W hW).2.2.2.2.1
      go_simp
      try rfl
    try simp only [Act.put, q1, q2, q3, q4, q5, q6]
    refine wpAnyH_ready (rs := [6]) (by kernel_rfl) (by simp) ?_
    refine AllReadyH.cons (o := _) rfl (fun K hK => ?_) AllReadyH.nil
    go_simp
    refine hK.out _ _ (unhide HA) (fun hHeld => ?_)
    clear hK K
    try simp only [Act.put, q1, q2, q3, q4, q5, q6]
    refine wpAnyH_ready (rs := [7]) (by kernel_rfl) (by simp) ?_
    refine AllReadyH.cons (o := _) rfl (fun K hK => ?_) AllReadyH.nil
    go_simp
    go_at_call 21
    refine (unhide HH _ _ hHeld.2 (unhide HU)).mono ?_
    rintro e wH ⟨rfl, hbH⟩
    try go_simp
    refine hK.out _ _ ⟨hHeld.1.trans (Bx.of hbH), hHeld.2.below hbH⟩ (fun hHeld => ?_)
    clear hK K
    try simp only [Act.put, q1, q2, q3, q4, q5, q6]
    refine wpAnyH_take (i := 8) (oi := _) (v := ?_) rfl (by kernel_rfl) (by kernel_rfl) (by kernel_rfl) (fun _ _ _ h => h) (Or.inl ⟨by rfl, ?_⟩) (by assumption) ?_
    rotate_left
    · intro W hW
      go_simp
      try rfl
    try simp only [Act.put, q1, q2, q3, q4, q5, q6]
    refine wpAnyH_take (i := 9) (oi := _) (v := ?_) rfl (by kernel_rfl) (by kernel_rfl) (by kernel_rfl) (fun _ _ _ h => h) (Or.inl ⟨by rfl, ?_⟩) (by assumption) ?_
    rotate_left
    · intro W hW
      go_simp
      try rfl
    try simp only [Act.put, q1, q2, q3, q4, q5, q6]
    refine wpAnyH_take (i := 10) (oi := _) (v := ?_) rfl (by kernel_rfl) (by kernel_rfl) (by kernel_rfl) (fun _ _ _ h => h) (Or.inl ⟨by rfl, ?_⟩) (by assumption) ?_
    rotate_left
    · intro W hW
      go_simp
      try rfl
    try simp only [Act.put, q1, q2, q3, q4, q5, q6]
    refine wpAnyH_take (i := 11) (oi := _) (v := ?_) rfl (by kernel_rfl) (by kernel_rfl) (by kernel_rfl) (fun _ _ _ h => h) (Or.inl ⟨by rfl, ?_⟩) (by assumption) ?_
    rotate_left
    · intro W hW
      have q3 := (unhide HQ W hW).2.2.2.2.1
      go_simp
      try rfl
    try simp only [Act.put, q1, q2, q3, q4, q5, q6]
    refine wpAnyH_take (i := 13) (oi := _) (v := ?_) rfl (by kernel_rfl) (by kernel_rfl) (by kernel_rfl) (fun _ _ _ h => h) (Or.inl ⟨by rfl, ?_⟩) (by assumption) ?_
    rotate_left
    · intro W hW
      go_simp
      try rfl
    try simp only [Act.put, q1, q2, q3, q4, q5, q6]
    refine wpAnyH_take (i := 14) (oi := _) (v := ?_) rfl (by kernel_rfl) (by kernel_rfl) (by kernel_rfl) (fun _ _ _ h => h) (Or.inl ⟨by rfl, ?_⟩) (by assumption) ?_
    rotate_left
    · intro W hW
      have q4 := (unhide HQ W hW).2.2.2.2.2.1
      go_simp
      try rfl
    try simp only [Act.put, q1, q2, q3, q4, q5, q6]
    refine wpAnyH_ready (rs := [12]) (by kernel_rfl) (by simp) ?_
    refine AllReadyH.cons (o := _) rfl (fun K hK => ?_) AllReadyH.nil
    go_simp
    go_at_call 113
    refine (unhide HDi _ hHeld.2).mono ?_
    rintro e wD ⟨rfl, hbD⟩
    try go_simp
    refine hK.out _ _ ⟨hHeld.1.trans (Bx.of hbD), hHeld.2.below hbD⟩ (fun hHeld => ?_)
    clear hK K
    try simp only [Act.put, q1, q2, q3, q4, q5, q6]
    refine wpAnyH_take (i := 15) (oi := _) (v := ?_) rfl (by kernel_rfl) (by kernel_rfl) (by kernel_rfl) (fun _ _ _ h => h) (Or.inl ⟨by rfl, ?_⟩) (by assumption) ?_
    rotate_left
    · intro W hW
      go_simp
      try rfl
    try simp only [Act.put, q1, q2, q3, q4, q5, q6]
    refine wpAnyH_take (i := 16) (oi := _) (v := ?_) rfl (by kernel_rfl) (by kernel_rfl) (by kernel_rfl) (fun _ _ _ h => h) (Or.inl ⟨by rfl, ?_⟩) (by assumption) ?_
    rotate_left
    · intro W hW
      go_simp
      try rfl
    try simp only [Act.put, q1, q2, q3, q4, q5, q6]
    refine wpAnyH_take (i := 17) (oi := _) (v := ?_) rfl (by kernel_rfl) (by kernel_rfl) (by kernel_rfl) (fun _ _ _ h => h) (Or.inl ⟨by rfl, ?_⟩) (by assumption) ?_
    rotate_left
    · intro W hW
      go_simp
      try rfl
    try simp only [Act.put, q1, q2, q3, q4, q5, q6]
    refine wpAnyH_done (by kernel_rfl) ?_ _
    go_wp2
    go_ret
    exact ⟨by rw [unhide Hr]; rfl, (unhide HB).trans hHeld.1, hHeld.2⟩

end Go.Proofs.YtddhlphbbiihjaaGreatDoor.Ck
