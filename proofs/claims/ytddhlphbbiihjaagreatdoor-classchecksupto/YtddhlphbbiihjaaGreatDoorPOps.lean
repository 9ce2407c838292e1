/-
  operands: what stands behind the number of an instruction that is no switch.
-/
import Derived.Test.YtddhlphbbiihjaaGreatDoorMgPIns
import Derived.Lib.QuietBelow
namespace Go.Proofs.YtddhlphbbiihjaaGreatDoor.Dc
open Go.RowKit
def Lay.Ok (L : Lay) : Prop := L.a.Ok ∧ L.b.Ok ∧ L.z.Ok ∧ L.t.Ok
/-- What reading an instruction's rest leaves. -/
structure Done (w w' : World) (R g B : Nat) (s : ByteArray) (st : St) (c : C) (ks ts : List Int) : Prop where
  mid : Mid w w' R g s st c
  own : Own2 w' B c.kv c.tv ks ts
theorem holds_below (f : F) (x : Int) (w : World) : Calls Tryz.prog 135 #[f.val, .int .i64 x] w fun e w' => e = .returned (.bool (M.holds f x)) ∧ Below w.heap.size w w' :=
  (holds_any f x w).mono fun _ _ ⟨h, g⟩ => ⟨h, by rw [g]; exact (Below.refl _ _).alloc (Nat.le_refl _) _⟩
structure LM (w0 w : World) (lb : Nat) (L : Lay) (R g : Nat) (s : ByteArray) (st : St) (c : C) : Prop where
  l : Lb w lb L
  m : Mid w0 w R g s st c
theorem LM.fa {w0 w : World} {lb R g : Nat} {L : Lay} {s : ByteArray} {st : St} {c : C} (h : LM w0 w lb L R g s st c) : w.cell? ⟨lb, 0, none⟩ = some (.int .i64 (L.a.size : Int)) ∧ w.cell? ⟨lb, 1, none⟩ = some (.int .i64 L.a.low) ∧ w.cell? ⟨lb, 2, none⟩ = some (.int .i64 L.a.high) ∧ w.cell? ⟨g, 3, none⟩ = some (.int .i64 c.a) :=
  ⟨h.l.cell 0, h.l.cell 1, h.l.cell 2, h.m.ib.cell 3⟩
theorem LM.fb {w0 w : World} {lb R g : Nat} {L : Lay} {s : ByteArray} {st : St} {c : C} (h : LM w0 w lb L R g s st c) : w.cell? ⟨lb, 3, none⟩ = some (.int .i64 (L.b.size : Int)) ∧ w.cell? ⟨lb, 4, none⟩ = some (.int .i64 L.b.low) ∧ w.cell? ⟨lb, 5, none⟩ = some (.int .i64 L.b.high) ∧ w.cell? ⟨g, 4, none⟩ = some (.int .i64 c.b) :=
  ⟨h.l.cell 3, h.l.cell 4, h.l.cell 5, h.m.ib.cell 4⟩
theorem LM.fz {w0 w : World} {lb R g : Nat} {L : Lay} {s : ByteArray} {st : St} {c : C} (h : LM w0 w lb L R g s st c) : w.cell? ⟨lb, 6, none⟩ = some (.int .i64 (L.z.size : Int)) ∧ w.cell? ⟨lb, 7, none⟩ = some (.int .i64 L.z.low) ∧ w.cell? ⟨lb, 8, none⟩ = some (.int .i64 L.z.high) :=
  ⟨h.l.cell 6, h.l.cell 7, h.l.cell 8⟩
set_option maxHeartbeats 2000000 in
theorem operands_any (R g B : Nat) (s : ByteArray) (st : St) (c : C) (L : Lay) (w : World) (h : Mid w w R g s st c) (hs : s.size ≤ 131072) (hp : st.pos ≤ s.size) (hL : L.Ok)
    (hkv : c.kv = .slice none 0 0) (htv : c.tv = .slice none 0 0) (hB : B ≤ w.heap.size) (hg : g < B) (hR : R < B) (hat : c.at_ ≤ 131072) :
    Calls Tryz.prog 107 #[.pointer (some ⟨R, 0, none⟩), .pointer (some ⟨g, 0, none⟩), L.val] w fun x w' => x = .returned (.tuple #[]) ∧
      ∃ c', Done w w' R g B s (M.after s.data.toList c.at_ L st) c' (M.made s.data.toList c.at_ c.op c.wide L st).keys (M.made s.data.toList c.at_ c.op c.wide L st).tgts ∧
        c'.at_ = c.at_ ∧ c'.op = c.op ∧ c'.wide = c.wide ∧ c'.low = c.low ∧ c'.a = (M.made s.data.toList c.at_ c.op c.wide L st).a ∧ c'.b = (M.made s.data.toList c.at_ c.op c.wide L st).b := by
  obtain ⟨hLa, hLb, hLz, hLt⟩ := hL
  unfold M.after M.made
  have p1 := M.take_pos (n := L.a.size) (s := s.data.toList) (st := st) (by simpa using hp)
  have CA := fun w1 h1 => operand_any R s st L.a w1 h1 hs hp hLa
  obtain ⟨T1, s1, e1⟩ : ∃ T1 s1, M.take s.data.toList L.a.size st = (T1, s1) := ⟨_, _, rfl⟩
  simp only [e1] at CA p1 ⊢
  have q1 : s1.pos ≤ s.size := by simpa using p1
  have CB := fun w1 h1 => operand_any R s s1 L.b w1 h1 hs q1 hLb
  have p2 := M.take_pos (n := L.b.size) (s := s.data.toList) (st := s1) p1
  obtain ⟨T2, s2, e2⟩ : ∃ T2 s2, M.take s.data.toList L.b.size s1 = (T2, s2) := ⟨_, _, rfl⟩
  simp only [e2] at CB p2 ⊢
  have q2 : s2.pos ≤ s.size := by simpa using p2
  have CZ := fun w1 h1 => operand_any R s s2 L.z w1 h1 hs q2 hLz
  have p3 := M.take_pos (n := L.z.size) (s := s.data.toList) (st := s2) p2
  obtain ⟨T3, s3, e3⟩ : ∃ T3 s3, M.take s.data.toList L.z.size s2 = (T3, s3) := ⟨_, _, rfl⟩
  simp only [e3] at CZ p3 ⊢
  have q3 : s3.pos ≤ s.size := by simpa using p3
  have CT := fun w1 h1 => target_any R s s3 L.t c.at_ w1 h1 hs q3 hLt hat
  have hz4 : L.t.size = 0 → M.take s.data.toList L.t.size s3 = ([], s3) := fun h0 => by rw [h0]; exact M.take_zero p3
  obtain ⟨T4, s4, e4⟩ : ∃ T4 s4, M.take s.data.toList L.t.size s3 = (T4, s4) := ⟨_, _, rfl⟩
  simp only [e4] at CT hz4 ⊢
  obtain ⟨stF, eF⟩ : ∃ x, x = (if (M.holds L.a (M.rd L.a T1) && M.holds L.b (M.rd L.b T2) && M.holds L.z (M.rd L.z T3)) = true then s4 else M.fail s4 15 c.at_) := ⟨_, rfl⟩
  obtain ⟨tsF, eT⟩ : ∃ x, x = (if L.t.size = 0 then [] else [(c.at_ : Int) + M.rd L.t T4]) := ⟨_, rfl⟩
  rw [← eF, ← eT]
  have HF := hide eF
  have HL := hide eT
  clear eF eT
  have HA := hide CA
  have HB := hide CB
  have HZ := hide CZ
  have HT := hide CT
  have H4 := hide hz4
  have HHa := hide (holds_below L.a (M.rd L.a T1))
  have HHb := hide (holds_below L.b (M.rd L.b T2))
  have HHz := hide (holds_below L.z (M.rd L.z T3))
  clear CA CB CZ CT hz4 e1 e2 e3 e4 p1 p2 p3 q1 q2 q3 hLa hLb hLz hLt
  simp only [F.val] at HA HB HZ HT HHa HHb HHz
  unfold Lay.val
  have hm := h.alloc (.cells #[.int .i64 (L.a.size : Int), .int .i64 L.a.low, .int .i64 L.a.high, .int .i64 (L.b.size : Int), .int .i64 L.b.low, .int .i64 L.b.high, .int .i64 (L.z.size : Int), .int .i64 L.z.low, .int .i64 L.z.high, .int .i64 (L.t.size : Int), .int .i64 L.t.low, .int .i64 L.t.high] 158)
  have hl : Lb (w.alloc (.cells #[.int .i64 (L.a.size : Int), .int .i64 L.a.low, .int .i64 L.a.high, .int .i64 (L.b.size : Int), .int .i64 L.b.low, .int .i64 L.b.high, .int .i64 (L.z.size : Int), .int .i64 L.z.low, .int .i64 L.z.high, .int .i64 (L.t.size : Int), .int .i64 L.t.low, .int .i64 L.t.high] 158)) w.heap.size L := heap_alloc_new w _
  have hRz : R < w.heap.size := h.rd.lt
  have hgz : g < w.heap.size := h.ib.lt
  clear h
  go_enter Tryz.func107, Tryz.ntmps107
  go_wp2_with fail
  refine (unhide HA _ hm.rd).mono ?_
  rintro e w1 ⟨rfl, hr1, hg1⟩
  have hm1 := hm.take hr1 hg1
  have hl1 := hl.kept hg1 (by simp; omega)
  clear hm hl hr1 hg1
  have k3 := hm1.ib.cell 3
  have f3 := hm1.ib.frozen 3
  simp [C.cells] at k3
  have hm2 := hm1.set 3 _ (hm1.ib.setA (M.rd L.a T1))
  have hl2 := hl1.kept (grown_set w1 g 3 (.int .i64 (M.rd L.a T1))) (by simp; omega)
  have l3 := hl2.cell 3
  have l4 := hl2.cell 4
  have l5 := hl2.cell 5
  simp at l3 l4 l5
  clear hm1 hl1
  go_upto_region 2 with fail
  clear k3 f3
  generalize w1.setCell ⟨g, 3, none⟩ (.int .i64 (M.rd L.a T1)) = W2 at *
  go_wp2_with fail
  refine (unhide HB _ hm2.rd).mono ?_
  rintro e w1 ⟨rfl, hr1, hg1⟩
  have hm1 := hm2.take hr1 hg1
  have hl1 := hl2.kept hg1 (by simp; omega)
  clear hm2 hl2 hr1 hg1 l3 l4 l5
  have k3 := hm1.ib.cell 4
  have f3 := hm1.ib.frozen 4
  simp [C.cells] at k3
  have hm2 := hm1.set 4 _ (hm1.ib.setB (M.rd L.b T2))
  have hl2 := hl1.kept (grown_set w1 g 4 (.int .i64 (M.rd L.b T2))) (by simp; omega)
  have l3 := hl2.cell 6
  have l4 := hl2.cell 7
  have l5 := hl2.cell 8
  simp at l3 l4 l5
  clear hm1 hl1
  go_upto_region 3 with fail
  clear k3 f3
  generalize w1.setCell ⟨g, 4, none⟩ (.int .i64 (M.rd L.b T2)) = W3 at *
  go_wp2_with fail
  refine (unhide HZ _ hm2.rd).mono ?_
  rintro e w1 ⟨rfl, hr1, hg1⟩
  have hm1 := hm2.take hr1 hg1
  have hl1 := hl2.kept hg1 (by simp; omega)
  clear hm2 hl2 hr1 hg1 l3 l4 l5
  have l9 := hl1.cell 9
  simp at l9
  by_cases h4 : L.t.size = 0
  · have e4 := unhide H4 h4
    simp only [Prod.mk.injEq] at e4
    obtain ⟨_, rfl⟩ := e4
    rw [h4] at l9
    have Hq := hide h4
    clear h4
    have hx : LM w w1 w.heap.size L R g s s4 { c with a := M.rd L.a T1, b := M.rd L.b T2 } := ⟨hl1, hm1⟩
    clear hl1 hm1
    go_wp2_with fail
    have Ho := hide (show Own2 w1 B c.kv c.tv [] tsF by rw [hkv, htv, unhide HL, if_pos (unhide Hq)]; exact Own2.nil _ _)
    obtain ⟨x0, x1, x2, x3⟩ := hx.fa
    obtain ⟨y0, y1, y2, y3⟩ := hx.fb
    obtain ⟨z0, z1, z2⟩ := hx.fz
    have X0 := cell_regrown x0
    have X1 := cell_regrown x1
    have X2 := cell_regrown x2
    have X3 := cell_regrown x3
    have Y0 := cell_regrown y0
    have Y1 := cell_regrown y1
    have Y2 := cell_regrown y2
    have Y3 := cell_regrown y3
    have Z0 := cell_regrown z0
    have Z1 := cell_regrown z1
    have Z2 := cell_regrown z2
    clear x0 x1 x2 x3 y0 y1 y2 y3 z0 z1 z2
    cases va : M.holds L.a (M.rd L.a T1)
    · rw [va] at HHa
      have Vva := hide va
      clear va
      refine wp_region_quiet_below (by kernel_rfl) (by kernel_rfl) ?_
      repeat (go_big_quiet_step (first | (go_at_call_of 135 L.a.low; exact Calls.regrown_of (unhide HHa _)) | (go_at_call_of 135 L.b.low; exact Calls.regrown_of (unhide HHb _)) | (go_at_call_of 135 L.z.low; exact Calls.regrown_of (unhide HHz _))))
      refine wpQuiet_nil ?_
      intro _ hw'
      obtain ⟨⟨dq, osq⟩, hw2⟩ := hw'
      subst hw2
      clear X0 X1 X2 X3 Y0 Y1 Y2 Y3 Z0 Z1 Z2
      have ho := (unhide Ho).kept (grown_of_below (below_regrown w1 dq osq) none) (fun _ e => by cases e)
      have hy := hx.m.below (below_regrown w1 dq osq)
      generalize Sort.grow (redrawn w1 dq) osq = W4 at *
      clear hx Ho
      have i0 := hy.ib.cell 0
      simp [C.cells] at i0
      have hyd := hy.drew
      go_wp2_with fail
      go_region_with (go_at_call 104; refine (Fail_any R s s4 15 c.at_ _ hyd.rd).mono ?_; rintro e w5 ⟨rfl, hr5, hg5, hz5⟩)
      have hm5 := hyd.take hr5 hg5
      have ho5 := Own2.kept (w := W4.drew) (w' := w5) ⟨ho.k, ho.t, ho.apart⟩ hg5 (fun b e => by cases e; exact hR)
      clear hr5 hg5 hz5 hyd hy ho
      go_wp2
      go_end0
      refine ⟨rfl, { c with a := M.rd L.a T1, b := M.rd L.b T2 }, ⟨?_, ho5⟩, rfl, rfl, rfl, rfl, rfl, rfl⟩
      rw [unhide HF, if_neg (by simp [unhide Vva])]
      exact hm5
    · cases vb : M.holds L.b (M.rd L.b T2)
      · rw [va] at HHa
        rw [vb] at HHb
        have Vva := hide va
        have Vvb := hide vb
        clear va vb
        refine wp_region_quiet_below (by kernel_rfl) (by kernel_rfl) ?_
        repeat (go_big_quiet_step (first | (go_at_call_of 135 L.a.low; exact Calls.regrown_of (unhide HHa _)) | (go_at_call_of 135 L.b.low; exact Calls.regrown_of (unhide HHb _)) | (go_at_call_of 135 L.z.low; exact Calls.regrown_of (unhide HHz _))))
        refine wpQuiet_nil ?_
        intro _ hw'
        obtain ⟨⟨dq, osq⟩, hw2⟩ := hw'
        subst hw2
        clear X0 X1 X2 X3 Y0 Y1 Y2 Y3 Z0 Z1 Z2
        have ho := (unhide Ho).kept (grown_of_below (below_regrown w1 dq osq) none) (fun _ e => by cases e)
        have hy := hx.m.below (below_regrown w1 dq osq)
        generalize Sort.grow (redrawn w1 dq) osq = W4 at *
        clear hx Ho
        have i0 := hy.ib.cell 0
        simp [C.cells] at i0
        have hyd := hy.drew
        go_wp2_with fail
        go_region_with (go_at_call 104; refine (Fail_any R s s4 15 c.at_ _ hyd.rd).mono ?_; rintro e w5 ⟨rfl, hr5, hg5, hz5⟩)
        have hm5 := hyd.take hr5 hg5
        have ho5 := Own2.kept (w := W4.drew) (w' := w5) ⟨ho.k, ho.t, ho.apart⟩ hg5 (fun b e => by cases e; exact hR)
        clear hr5 hg5 hz5 hyd hy ho
        go_wp2
        go_end0
        refine ⟨rfl, { c with a := M.rd L.a T1, b := M.rd L.b T2 }, ⟨?_, ho5⟩, rfl, rfl, rfl, rfl, rfl, rfl⟩
        rw [unhide HF, if_neg (by simp [unhide Vva, unhide Vvb])]
        exact hm5
      · cases vz : M.holds L.z (M.rd L.z T3)
        · rw [va] at HHa
          rw [vb] at HHb
          rw [vz] at HHz
          have Vva := hide va
          have Vvb := hide vb
          have Vvz := hide vz
          clear va vb vz
          refine wp_region_quiet_below (by kernel_rfl) (by kernel_rfl) ?_
          repeat (go_big_quiet_step (first | (go_at_call_of 135 L.a.low; exact Calls.regrown_of (unhide HHa _)) | (go_at_call_of 135 L.b.low; exact Calls.regrown_of (unhide HHb _)) | (go_at_call_of 135 L.z.low; exact Calls.regrown_of (unhide HHz _))))
          refine wpQuiet_nil ?_
          intro _ hw'
          obtain ⟨⟨dq, osq⟩, hw2⟩ := hw'
          subst hw2
          clear X0 X1 X2 X3 Y0 Y1 Y2 Y3 Z0 Z1 Z2
          have ho := (unhide Ho).kept (grown_of_below (below_regrown w1 dq osq) none) (fun _ e => by cases e)
          have hy := hx.m.below (below_regrown w1 dq osq)
          generalize Sort.grow (redrawn w1 dq) osq = W4 at *
          clear hx Ho
          have i0 := hy.ib.cell 0
          simp [C.cells] at i0
          have hyd := hy.drew
          go_wp2_with fail
          go_region_with (go_at_call 104; refine (Fail_any R s s4 15 c.at_ _ hyd.rd).mono ?_; rintro e w5 ⟨rfl, hr5, hg5, hz5⟩)
          have hm5 := hyd.take hr5 hg5
          have ho5 := Own2.kept (w := W4.drew) (w' := w5) ⟨ho.k, ho.t, ho.apart⟩ hg5 (fun b e => by cases e; exact hR)
          clear hr5 hg5 hz5 hyd hy ho
          go_wp2
          go_end0
          refine ⟨rfl, { c with a := M.rd L.a T1, b := M.rd L.b T2 }, ⟨?_, ho5⟩, rfl, rfl, rfl, rfl, rfl, rfl⟩
          rw [unhide HF, if_neg (by simp [unhide Vva, unhide Vvb, unhide Vvz])]
          exact hm5
        · rw [va] at HHa
          rw [vb] at HHb
          rw [vz] at HHz
          have Vva := hide va
          have Vvb := hide vb
          have Vvz := hide vz
          clear va vb vz
          refine wp_region_quiet_below (by kernel_rfl) (by kernel_rfl) ?_
          repeat (go_big_quiet_step (first | (go_at_call_of 135 L.a.low; exact Calls.regrown_of (unhide HHa _)) | (go_at_call_of 135 L.b.low; exact Calls.regrown_of (unhide HHb _)) | (go_at_call_of 135 L.z.low; exact Calls.regrown_of (unhide HHz _))))
          refine wpQuiet_nil ?_
          intro _ hw'
          obtain ⟨⟨dq, osq⟩, hw2⟩ := hw'
          subst hw2
          clear X0 X1 X2 X3 Y0 Y1 Y2 Y3 Z0 Z1 Z2
          have ho := (unhide Ho).kept (grown_of_below (below_regrown w1 dq osq) none) (fun _ e => by cases e)
          have hy := hx.m.below (below_regrown w1 dq osq)
          generalize Sort.grow (redrawn w1 dq) osq = W4 at *
          clear hx Ho
          go_wp2
          go_end0
          refine ⟨rfl, { c with a := M.rd L.a T1, b := M.rd L.b T2 }, ⟨?_, ho⟩, rfl, rfl, rfl, rfl, rfl, rfl⟩
          rw [unhide HF, if_pos (by simp [unhide Vva, unhide Vvb, unhide Vvz])]
          exact hy
  · have Hq := hide h4
    have hpos : 0 < L.t.size := by omega
    clear h4
    have t9 := hl1.cell 9
    have t10 := hl1.cell 10
    have t11 := hl1.cell 11
    have i0 := hm1.ib.cell 0
    simp [C.cells] at t9 t10 t11 i0
    clear l9
    have hmd := hm1.drew
    go_wp2_with fail
    go_region_with (go_at_call 134; refine (unhide HT _ hmd.rd).mono ?_; rintro e w5 ⟨rfl, hr5, hg5⟩; have hm6 := (hmd.take hr5 hg5).alloc (.cells #[.int .i64 ((c.at_ : Int) + M.rd L.t T4)] 3); have k7 := hm6.ib.cell 7; have f7 := hm6.ib.frozen 7; simp [C.cells] at k7)
    all_goals
      have hl5 := (show Lb w1.drew w.heap.size L from hl1).kept hg5 (by simp; omega)
      have hl6 := hl5.kept (World.grownBy_alloc w5 (.cells #[.int .i64 ((c.at_ : Int) + M.rd L.t T4)] 3) none) (by simp)
      have ho6 := Own2.lit (w := w5) (B := B) ((c.at_ : Int) + M.rd L.t T4) (Nat.le_trans hB (hmd.take hr5 hg5).kp.size) rfl
      obtain ⟨b5, hb5⟩ : ∃ b5, b5 = w5.heap.size := ⟨_, rfl⟩
      have hm7 := hm6.set 7 _ (hm6.ib.setT (.slice (some ⟨b5, 0, none⟩) 1 1))
      have hl7 := hl6.kept (grown_set (w5.alloc (.cells #[.int .i64 ((c.at_ : Int) + M.rd L.t T4)] 3)) g 7 (.slice (some ⟨b5, 0, none⟩) 1 1)) (by simp; omega)
      have ho7 := Own2.kept ho6 (grown_set (w5.alloc (.cells #[.int .i64 ((c.at_ : Int) + M.rd L.t T4)] 3)) g 7 (.slice (some ⟨b5, 0, none⟩) 1 1)) (fun b e => by cases e; exact hg)
      rw [← hb5] at ho7 ⊢
      clear ho6 hl6 hm6 hl5 hr5 hg5 k7 f7 hmd t9 t10 t11 i0 hl1 hm1 hb5
      generalize (w5.alloc (.cells #[.int .i64 ((c.at_ : Int) + M.rd L.t T4)] 3)).setCell ⟨g, 7, none⟩ (.slice (some ⟨b5, 0, none⟩) 1 1) = W7 at *
      clear w1
      obtain ⟨w1, hw1⟩ : ∃ w1, w1 = W7 := ⟨_, rfl⟩
      subst hw1
      have hx : LM w w1 w.heap.size L R g s s4 { c with a := M.rd L.a T1, b := M.rd L.b T2, tv := .slice (some ⟨b5, 0, none⟩) 1 1 } := ⟨hl7, hm7⟩
      have Ho := hide (show Own2 w1 B c.kv (.slice (some ⟨b5, 0, none⟩) 1 1) [] tsF by rw [hkv, unhide HL, if_neg (unhide Hq)]; exact ho7)
      clear hl7 hm7 ho7
      go_wp2_with fail
      obtain ⟨x0, x1, x2, x3⟩ := hx.fa
      obtain ⟨y0, y1, y2, y3⟩ := hx.fb
      obtain ⟨z0, z1, z2⟩ := hx.fz
      have X0 := cell_regrown x0
      have X1 := cell_regrown x1
      have X2 := cell_regrown x2
      have X3 := cell_regrown x3
      have Y0 := cell_regrown y0
      have Y1 := cell_regrown y1
      have Y2 := cell_regrown y2
      have Y3 := cell_regrown y3
      have Z0 := cell_regrown z0
      have Z1 := cell_regrown z1
      have Z2 := cell_regrown z2
      clear x0 x1 x2 x3 y0 y1 y2 y3 z0 z1 z2
      cases va : M.holds L.a (M.rd L.a T1)
      · rw [va] at HHa
        have Vva := hide va
        clear va
        refine wp_region_quiet_below (by kernel_rfl) (by kernel_rfl) ?_
        repeat (go_big_quiet_step (first | (go_at_call_of 135 L.a.low; exact Calls.regrown_of (unhide HHa _)) | (go_at_call_of 135 L.b.low; exact Calls.regrown_of (unhide HHb _)) | (go_at_call_of 135 L.z.low; exact Calls.regrown_of (unhide HHz _))))
        refine wpQuiet_nil ?_
        intro _ hw'
        obtain ⟨⟨dq, osq⟩, hw2⟩ := hw'
        subst hw2
        clear X0 X1 X2 X3 Y0 Y1 Y2 Y3 Z0 Z1 Z2
        have ho := (unhide Ho).kept (grown_of_below (below_regrown w1 dq osq) none) (fun _ e => by cases e)
        have hy := hx.m.below (below_regrown w1 dq osq)
        generalize Sort.grow (redrawn w1 dq) osq = W4 at *
        clear hx Ho
        have i0 := hy.ib.cell 0
        simp [C.cells] at i0
        have hyd := hy.drew
        go_wp2_with fail
        go_region_with (go_at_call 104; refine (Fail_any R s s4 15 c.at_ _ hyd.rd).mono ?_; rintro e w5 ⟨rfl, hr5, hg5, hz5⟩)
        have hm5 := hyd.take hr5 hg5
        have ho5 := Own2.kept (w := W4.drew) (w' := w5) ⟨ho.k, ho.t, ho.apart⟩ hg5 (fun b e => by cases e; exact hR)
        clear hr5 hg5 hz5 hyd hy ho
        go_wp2
        go_end0
        refine ⟨rfl, { c with a := M.rd L.a T1, b := M.rd L.b T2, tv := .slice (some ⟨b5, 0, none⟩) 1 1 }, ⟨?_, ho5⟩, rfl, rfl, rfl, rfl, rfl, rfl⟩
        rw [unhide HF, if_neg (by simp [unhide Vva])]
        exact hm5
      · cases vb : M.holds L.b (M.rd L.b T2)
        · rw [va] at HHa
          rw [vb] at HHb
          have Vva := hide va
          have Vvb := hide vb
          clear va vb
          refine wp_region_quiet_below (by kernel_rfl) (by kernel_rfl) ?_
          repeat (go_big_quiet_step (first | (go_at_call_of 135 L.a.low; exact Calls.regrown_of (unhide HHa _)) | (go_at_call_of 135 L.b.low; exact Calls.regrown_of (unhide HHb _)) | (go_at_call_of 135 L.z.low; exact Calls.regrown_of (unhide HHz _))))
          refine wpQuiet_nil ?_
          intro _ hw'
          obtain ⟨⟨dq, osq⟩, hw2⟩ := hw'
          subst hw2
          clear X0 X1 X2 X3 Y0 Y1 Y2 Y3 Z0 Z1 Z2
          have ho := (unhide Ho).kept (grown_of_below (below_regrown w1 dq osq) none) (fun _ e => by cases e)
          have hy := hx.m.below (below_regrown w1 dq osq)
          generalize Sort.grow (redrawn w1 dq) osq = W4 at *
          clear hx Ho
          have i0 := hy.ib.cell 0
          simp [C.cells] at i0
          have hyd := hy.drew
          go_wp2_with fail
          go_region_with (go_at_call 104; refine (Fail_any R s s4 15 c.at_ _ hyd.rd).mono ?_; rintro e w5 ⟨rfl, hr5, hg5, hz5⟩)
          have hm5 := hyd.take hr5 hg5
          have ho5 := Own2.kept (w := W4.drew) (w' := w5) ⟨ho.k, ho.t, ho.apart⟩ hg5 (fun b e => by cases e; exact hR)
          clear hr5 hg5 hz5 hyd hy ho
          go_wp2
          go_end0
          refine ⟨rfl, { c with a := M.rd L.a T1, b := M.rd L.b T2, tv := .slice (some ⟨b5, 0, none⟩) 1 1 }, ⟨?_, ho5⟩, rfl, rfl, rfl, rfl, rfl, rfl⟩
          rw [unhide HF, if_neg (by simp [unhide Vva, unhide Vvb])]
          exact hm5
        · cases vz : M.holds L.z (M.rd L.z T3)
          · rw [va] at HHa
            rw [vb] at HHb
            rw [vz] at HHz
            have Vva := hide va
            have Vvb := hide vb
            have Vvz := hide vz
            clear va vb vz
            refine wp_region_quiet_below (by kernel_rfl) (by kernel_rfl) ?_
            repeat (go_big_quiet_step (first | (go_at_call_of 135 L.a.low; exact Calls.regrown_of (unhide HHa _)) | (go_at_call_of 135 L.b.low; exact Calls.regrown_of (unhide HHb _)) | (go_at_call_of 135 L.z.low; exact Calls.regrown_of (unhide HHz _))))
            refine wpQuiet_nil ?_
            intro _ hw'
            obtain ⟨⟨dq, osq⟩, hw2⟩ := hw'
            subst hw2
            clear X0 X1 X2 X3 Y0 Y1 Y2 Y3 Z0 Z1 Z2
            have ho := (unhide Ho).kept (grown_of_below (below_regrown w1 dq osq) none) (fun _ e => by cases e)
            have hy := hx.m.below (below_regrown w1 dq osq)
            generalize Sort.grow (redrawn w1 dq) osq = W4 at *
            clear hx Ho
            have i0 := hy.ib.cell 0
            simp [C.cells] at i0
            have hyd := hy.drew
            go_wp2_with fail
            go_region_with (go_at_call 104; refine (Fail_any R s s4 15 c.at_ _ hyd.rd).mono ?_; rintro e w5 ⟨rfl, hr5, hg5, hz5⟩)
            have hm5 := hyd.take hr5 hg5
            have ho5 := Own2.kept (w := W4.drew) (w' := w5) ⟨ho.k, ho.t, ho.apart⟩ hg5 (fun b e => by cases e; exact hR)
            clear hr5 hg5 hz5 hyd hy ho
            go_wp2
            go_end0
            refine ⟨rfl, { c with a := M.rd L.a T1, b := M.rd L.b T2, tv := .slice (some ⟨b5, 0, none⟩) 1 1 }, ⟨?_, ho5⟩, rfl, rfl, rfl, rfl, rfl, rfl⟩
            rw [unhide HF, if_neg (by simp [unhide Vva, unhide Vvb, unhide Vvz])]
            exact hm5
          · rw [va] at HHa
            rw [vb] at HHb
            rw [vz] at HHz
            have Vva := hide va
            have Vvb := hide vb
            have Vvz := hide vz
            clear va vb vz
            refine wp_region_quiet_below (by kernel_rfl) (by kernel_rfl) ?_
            repeat (go_big_quiet_step (first | (go_at_call_of 135 L.a.low; exact Calls.regrown_of (unhide HHa _)) | (go_at_call_of 135 L.b.low; exact Calls.regrown_of (unhide HHb _)) | (go_at_call_of 135 L.z.low; exact Calls.regrown_of (unhide HHz _))))
            refine wpQuiet_nil ?_
            intro _ hw'
            obtain ⟨⟨dq, osq⟩, hw2⟩ := hw'
            subst hw2
            clear X0 X1 X2 X3 Y0 Y1 Y2 Y3 Z0 Z1 Z2
            have ho := (unhide Ho).kept (grown_of_below (below_regrown w1 dq osq) none) (fun _ e => by cases e)
            have hy := hx.m.below (below_regrown w1 dq osq)
            generalize Sort.grow (redrawn w1 dq) osq = W4 at *
            clear hx Ho
            go_wp2
            go_end0
            refine ⟨rfl, { c with a := M.rd L.a T1, b := M.rd L.b T2, tv := .slice (some ⟨b5, 0, none⟩) 1 1 }, ⟨?_, ho⟩, rfl, rfl, rfl, rfl, rfl, rfl⟩
            rw [unhide HF, if_pos (by simp [unhide Vva, unhide Vvb, unhide Vvz])]
            exact hy
end Go.Proofs.YtddhlphbbiihjaaGreatDoor.Dc
