/-
  Package class: Read.
-/
import Derived.Test.YtbgpkkbejbidlacCy
namespace Go.Proofs.Ytbgpkkbejbidlac.Cl
set_option linter.unusedVariables false
open Go.RowKit
/-- What a reading of a class file gives: the class, or an error and its place. -/
def ReadC (s : List UInt8) (r : Po.Res) (c : Cs) (st : St) (w : World) (x : Ending) (w' : World) : Prop :=
  ∃ v, x = .returned (.tuple #[v, .int .i64 (st.e : Int), .int .i64 ((if st.e = 0 then 0 else st.p : Nat) : Int)]) ∧ Below w.heap.size w w' ∧ (st.e = 0 → ClsIn w w' v r.1 c) ∧ (st.e ≠ 0 → v = .agg #[.int .u16 0, .int .u16 0, .int .u16 0, .int .u16 0, .int .u16 0, .slice none 0 0, .slice none 0 0, .slice none 0 0, .slice none 0 0])
theorem ClsIn.kept {w0 w w' : World} {v : Value} {l : List Po.K} {c : Cs} {row : Option Nat} (h : ClsIn w0 w v l c) (hg : w.grownBy w' row) (hr : ∀ b, row = some b → b < w0.heap.size) : ClsIn w0 w' v l c := by
  obtain ⟨vp, vi, vf, vm, L, e, ho, hL⟩ := h.ex
  exact ⟨h.pool, vp, vi, vf, vm, L, e, ho.kept hg hr, hL⟩
theorem Own.set1 {w0 w : World} {vp vi vf vm : Value} {l : List Po.K} {is : List Nat} {fs : List Fd} {L : List Mj} {g : Nat} {cs : Array Value} (h : Own w0 w vp vi vf vm l is fs L) (hb : Bk w g cs 44) (x0 x1 x2 x3 x4 x5 x6 x7 x8 : Value) :
    Own w0 (((((((((w.setCell ⟨g, 0, none⟩ x0).setCell ⟨g, 1, none⟩ x1).setCell ⟨g, 2, none⟩ x2).setCell ⟨g, 3, none⟩ x3).setCell ⟨g, 4, none⟩ x4).setCell ⟨g, 5, none⟩ x5).setCell ⟨g, 6, none⟩ x6).setCell ⟨g, 7, none⟩ x7).setCell ⟨g, 8, none⟩ x8) vp vi vf vm l is fs L :=
  (((((((((h.set hb 0 x0).set (hb.set 0 x0) 1 x1).set ((hb.set 0 x0).set 1 x1) 2 x2).set (((hb.set 0 x0).set 1 x1).set 2 x2) 3 x3).set ((((hb.set 0 x0).set 1 x1).set 2 x2).set 3 x3) 4 x4).set (((((hb.set 0 x0).set 1 x1).set 2 x2).set 3 x3).set 4 x4) 5 x5).set ((((((hb.set 0 x0).set 1 x1).set 2 x2).set 3 x3).set 4 x4).set 5 x5) 6 x6).set (((((((hb.set 0 x0).set 1 x1).set 2 x2).set 3 x3).set 4 x4).set 5 x5).set 6 x6) 7 x7).set ((((((((hb.set 0 x0).set 1 x1).set 2 x2).set 3 x3).set 4 x4).set 5 x5).set 6 x6).set 7 x7) 8 x8)
theorem Bk.set9 {w : World} {g : Nat} {t : TypeId} {a0 a1 a2 a3 a4 a5 a6 a7 a8 : Value} (h : Bk w g #[a0, a1, a2, a3, a4, a5, a6, a7, a8] t) (x0 x1 x2 x3 x4 x5 x6 x7 x8 : Value) :
    Bk (((((((((w.setCell ⟨g, 0, none⟩ x0).setCell ⟨g, 1, none⟩ x1).setCell ⟨g, 2, none⟩ x2).setCell ⟨g, 3, none⟩ x3).setCell ⟨g, 4, none⟩ x4).setCell ⟨g, 5, none⟩ x5).setCell ⟨g, 6, none⟩ x6).setCell ⟨g, 7, none⟩ x7).setCell ⟨g, 8, none⟩ x8) g #[x0, x1, x2, x3, x4, x5, x6, x7, x8] t := by
  have h1 := h.set 0 x0
  simp only [List.setIfInBounds_toArray, List.set_cons_zero] at h1
  have h2 := h1.set 1 x1
  simp only [List.setIfInBounds_toArray, List.set_cons_zero, List.set_cons_succ] at h2
  have h3 := h2.set 2 x2
  simp only [List.setIfInBounds_toArray, List.set_cons_zero, List.set_cons_succ] at h3
  have h4 := h3.set 3 x3
  simp only [List.setIfInBounds_toArray, List.set_cons_zero, List.set_cons_succ] at h4
  have h5 := h4.set 4 x4
  simp only [List.setIfInBounds_toArray, List.set_cons_zero, List.set_cons_succ] at h5
  have h6 := h5.set 5 x5
  simp only [List.setIfInBounds_toArray, List.set_cons_zero, List.set_cons_succ] at h6
  have h7 := h6.set 6 x6
  simp only [List.setIfInBounds_toArray, List.set_cons_zero, List.set_cons_succ] at h7
  have h8 := h7.set 7 x7
  simp only [List.setIfInBounds_toArray, List.set_cons_zero, List.set_cons_succ] at h8
  have h9 := h8.set 8 x8
  simp only [List.setIfInBounds_toArray, List.set_cons_zero, List.set_cons_succ] at h9
  exact h9
theorem below_set9 {w0 w : World} {g : Nat} (h : Below w0.heap.size w0 w) (hg : w0.heap.size ≤ g) (x0 x1 x2 x3 x4 x5 x6 x7 x8 : Value) :
    Below w0.heap.size w0 (((((((((w.setCell ⟨g, 0, none⟩ x0).setCell ⟨g, 1, none⟩ x1).setCell ⟨g, 2, none⟩ x2).setCell ⟨g, 3, none⟩ x3).setCell ⟨g, 4, none⟩ x4).setCell ⟨g, 5, none⟩ x5).setCell ⟨g, 6, none⟩ x6).setCell ⟨g, 7, none⟩ x7).setCell ⟨g, 8, none⟩ x8) := by
  have k : ∀ (W : World) (i : Nat) (v : Value), Below w0.heap.size w0 W → Below w0.heap.size w0 (W.setCell ⟨g, i, none⟩ v) := fun W i v h => h.grown (grown_set W g i v) h.size (fun k e => by cases e; exact hg)
  exact k _ _ _ (k _ _ _ (k _ _ _ (k _ _ _ (k _ _ _ (k _ _ _ (k _ _ _ (k _ _ _ (k _ _ _ h))))))))
theorem results_row2 {Pr : Program} {fn : Func} {p t u : Tmp} {ty : TypeId} (h : fn.results = #[.cell p ty, .tmp t, .tmp u]) (tmps : Array Value) (w : World) (g : Nat) (tt : TypeId) (cs : Array Value) (fr : Nat × Nat) (d : TypeDesc)
    (hp : tmps.getD p undef = .pointer (some ⟨g, 0, none⟩)) (hg : w.heap[g]? = some (.cells cs tt fr))
    (hu : Pr.underlying ty = some d) (hd : (match d with | .struct _ | .array _ _ => true | _ => false) = true) (hi : (Pr.info? ty).map (·.size) = some cs.size) :
    (results fn tmps).run Pr w = .ok (.tuple #[.agg cs, tmps.getD t undef, tmps.getD u undef]) w := by
  have hp' : tmps[p]?.getD undef = .pointer (some ⟨g, 0, none⟩) := by simpa using hp
  simp [results, h, hp', asAddr, run_loadVar_row w g tt ty cs fr d hg hu hd hi]
theorem ReadC.ok {s : List UInt8} {r : Po.Res} {c : Cs} {st : St} {w w2 w' : World} {vp vi vf vm : Value} {L : List Mj} (he : st.e = 0) (hz : w.heap.size ≤ w2.heap.size) (hb : Below w.heap.size w w') (hpl : c.pool = r.1.map kOf) (ho : Own w2 w' vp vi vf vm r.1 c.ifaces c.fields L) (hL : L.map Mj.m = c.methods) :
    ReadC s r c st w (.returned (.tuple #[.agg #[.int .u16 (c.minor : Int), .int .u16 (c.major : Int), .int .u16 (c.flags : Int), .int .u16 (c.this : Int), .int .u16 (c.super : Int), vp, vi, vf, vm], .int .i64 0, .int .i64 0])) w' := by
  refine ⟨_, by rw [if_pos he, he]; rfl, hb, fun _ => ⟨hpl, vp, vi, vf, vm, L, rfl, ⟨?_, own_mono ho.i hz, own_mono ho.f hz, own_mono ho.m.row hz, fun j hj => own_mono (ho.m.own j hj) hz⟩, hL⟩, fun g => absurd he g⟩
  rcases ho.p with hp | ⟨B, hB, hp⟩
  · exact .inl hp
  · exact .inr ⟨B, Nat.le_trans hz hB, hp⟩
set_option maxRecDepth 100000 in
set_option maxHeartbeats 2000000 in
theorem Read_any (s : ByteArray) (w : World) (hs : s.size ≤ 131072) :
    Calls Try.prog 16 #[.string s] w fun x w' => ∃ r, Po.ReadRes (M.rest s.data.toList (M.hdr s.data.toList ⟨0, 0, 0⟩).2.2) r ∧ ReadC s.data.toList r (M.cls s.data.toList ⟨0, 0, 0⟩ r).1 (M.fin s.data.toList (M.cls s.data.toList ⟨0, 0, 0⟩ r).2) w x w' := by
  obtain ⟨wA, hwA⟩ : ∃ wA, wA = w.alloc (.cells #[.int .u16 0, .int .u16 0, .int .u16 0, .int .u16 0, .int .u16 0, .slice none 0 0, .slice none 0 0, .slice none 0 0, .slice none 0 0] 44) := ⟨_, rfl⟩
  have hQA : Bk wA w.heap.size #[.int .u16 0, .int .u16 0, .int .u16 0, .int .u16 0, .int .u16 0, .slice none 0 0, .slice none 0 0, .slice none 0 0, .slice none 0 0] 44 := by rw [hwA]; exact Bk.new _ _ _
  have hbA : Below w.heap.size w wA := by rw [hwA]; exact (Below.refl _ _).alloc (Nat.le_refl _) _
  have HN := hide (NewReader_any s wA)
  have HwA := hide hwA
  have HC := hide (fun (R : Nat) (W : World) (hr : Rd W R (.slice none 0 0) s ⟨0, 0, 0⟩) => class_any R (.slice none 0 0) s ⟨0, 0, 0⟩ W hr hs (Nat.zero_le _))
  obtain ⟨rs, hrs⟩ : ∃ rs, rs = M.rest s.data.toList (M.hdr s.data.toList ⟨0, 0, 0⟩).2.2 := ⟨_, rfl⟩
  rw [← hrs] at HC ⊢
  have hl : s.data.toList.length = s.size := by simp
  clear hwA hrs
  go_enter Try.func16, Try.ntmps16
  go_upto_region 1 with fail
  rw [← unhide HwA]
  clear HwA
  go_wp2_with fail
  refine (unhide HN).mono ?_
  rintro e w1 ⟨rfl, hb1⟩
  obtain ⟨R, hR⟩ : ∃ R, R = w1.heap.size := ⟨_, rfl⟩
  obtain ⟨w2, hw2⟩ : ∃ w2, w2 = w1.alloc (.cells #[.string s, .int .i64 0, .int .i64 0, .int .i64 0, .slice none 0 0] 80) := ⟨_, rfl⟩
  have hbA1 : Below wA.heap.size wA w2 := by rw [hw2]; exact hb1.alloc hb1.size _
  have hb2 : Below w.heap.size w w2 := hbA.trans (hbA1.mono hbA.size)
  have hQ2 := hQA.below hbA1
  have hQl := hQA.lt
  have hRA : wA.heap.size ≤ R := by rw [hR]; exact hb1.size
  have hrd : Rd w2 R (.slice none 0 0) s ⟨0, 0, 0⟩ := by rw [hw2, hR]; exact heap_alloc_new _ _
  have HC2 := hide (unhide HC R w2 hrd)
  have HW2 := hide hw2
  have HR := hide hR
  have hR2 := hrd.lt
  clear HN HC hw2 hR hb1 hrd hbA1 hQA hbA
  go_upto_region 2 with fail
  rw [← unhide HW2, ← unhide HR]
  clear HW2 HR
  go_wp2_with fail
  refine (unhide HC2).mono ?_
  rintro e w3 ⟨r, v, hrr, rfl, hcl, ⟨pv', hr3⟩, hg3, hp3⟩
  have hQ3 := hQ2.kept hg3 (ne_some (by omega))
  have hb3 : Below w.heap.size w w3 := hb2.grown hg3 hb2.size (fun k e => by cases e; omega)
  obtain ⟨c, st3, hc⟩ : ∃ c st3, M.cls s.data.toList ⟨0, 0, 0⟩ r = (c, st3) := ⟨_, _, rfl⟩
  rw [hc] at hcl hr3 hp3
  simp only at hcl hr3 hp3
  have hres : ∀ x w', ReadC s.data.toList r c (M.fin s.data.toList st3) w x w' → ∃ r, Po.ReadRes rs r ∧ ReadC s.data.toList r (M.cls s.data.toList ⟨0, 0, 0⟩ r).1 (M.fin s.data.toList (M.cls s.data.toList ⟨0, 0, 0⟩ r).2) w x w' := fun x w' h => ⟨r, hrr, by rw [hc]; exact h⟩
  have Hres := hide hres
  obtain ⟨vp, vi, vf, vm, L, ev, ho3, hL⟩ := hcl.ex
  have hpl := hcl.pool
  obtain ⟨⟨pa, pn, pc, e1⟩, ⟨ia, ic, e2⟩, ⟨fa, fc, e3⟩, ⟨ma, mc, e4⟩⟩ := own_slices ho3
  subst e1 e2 e3 e4
  subst ev
  obtain ⟨w4, hw4⟩ : ∃ w4, w4 = w3.alloc (.cells #[.int .u16 (c.minor : Int), .int .u16 (c.major : Int), .int .u16 (c.flags : Int), .int .u16 (c.this : Int), .int .u16 (c.super : Int), .slice pa pn pc, .slice ia c.ifaces.length ic, .slice fa c.fields.length fc, .slice ma L.length mc] 44) := ⟨_, rfl⟩
  obtain ⟨bc, hbc⟩ : ∃ bc, bc = w3.heap.size := ⟨_, rfl⟩
  have hg4 : w3.grownBy w4 none := by rw [hw4]; exact World.grownBy_alloc _ _ _
  have hc4 : Bk w4 bc #[.int .u16 (c.minor : Int), .int .u16 (c.major : Int), .int .u16 (c.flags : Int), .int .u16 (c.this : Int), .int .u16 (c.super : Int), .slice pa pn pc, .slice ia c.ifaces.length ic, .slice fa c.fields.length fc, .slice ma L.length mc] 44 := by rw [hw4, hbc]; exact Bk.new _ _ _
  have hr4 := hr3.kept hg4 (by simp)
  have hQ4 := hQ3.kept hg4 (by simp)
  have ho4 := ho3.kept hg4 (fun b e => by cases e)
  have hb4 : Below w.heap.size w w4 := hb3.grown hg4 hb3.size (fun k e => by cases e)
  have hbcR : bc ≠ R := by have := hg3.size; omega
  have HF := hide (Finish_any R pv' s st3 w4 hr4 (by omega))
  have HW4 := hide hw4
  have Hbc := hide hbc
  clear hcl hr3 hg3 hQ3 hb3 ho3 hg4 hw4 hbc HC2 hc hres hrr hr4 hQ2 hb2
  go_upto_region 3 with fail
  rw [← unhide HW4, ← unhide Hbc]
  clear HW4 Hbc
  go_wp2_with fail
  refine (unhide HF).mono ?_
  rintro e w5 ⟨rfl, hr5, hg5⟩
  have hQ5 := hQ4.kept hg5 (ne_some (by omega))
  have hc5 := hc4.kept hg5 (ne_some hbcR)
  have ho5 := ho4.kept hg5 (fun b e => by cases e; exact hR2)
  have hb5 : Below w.heap.size w w5 := hb4.grown hg5 hb4.size (fun k e => by cases e; omega)
  obtain ⟨st', hst⟩ : ∃ st', st' = M.fin s.data.toList st3 := ⟨_, rfl⟩
  rw [← hst] at hr5 Hres
  have HE := hide (Err_any R pv' s st' w5 hr5)
  have H5 := hide (And.intro hQ5 (And.intro hc5 (And.intro ho5 hb5)))
  clear HF hr5 hg5 hQ4 hc4 ho4 hb4 hQ5 hc5 ho5 hb5 hst
  go_wp2_with fail
  refine (unhide HE).mono ?_
  rintro e w6 ⟨rfl, k, hw6⟩
  subst w6
  clear HE
  have hQ6 : Bk (w5.drewN k) w.heap.size #[.int .u16 0, .int .u16 0, .int .u16 0, .int .u16 0, .int .u16 0, .slice none 0 0, .slice none 0 0, .slice none 0 0, .slice none 0 0] 44 := (unhide H5).1
  have z0 := hQ6.cell 0
  have z1 := hQ6.cell 1
  have z2 := hQ6.cell 2
  have z3 := hQ6.cell 3
  have z4 := hQ6.cell 4
  have z5 := hQ6.cell 5
  have z6 := hQ6.cell 6
  have z7 := hQ6.cell 7
  have z8 := hQ6.cell 8
  have zf := hQ6.frozen
  simp at z0 z1 z2 z3 z4 z5 z6 z7 z8
  have hb6 : Below w.heap.size w (w5.drewN k) := ⟨(unhide H5).2.2.2.os, (unhide H5).2.2.2.tape, (unhide H5).2.2.2.output, (unhide H5).2.2.2.size, (unhide H5).2.2.2.block⟩
  by_cases he : st'.e = 0
  · have hd : (((st'.e : Int) != 0) : Bool) = false := by rw [he]; rfl
    have He := hide he
    have hc6 : Bk (w5.drewN k) bc _ 44 := (unhide H5).2.1
    have p0 := hc6.cell 0
    have p1 := hc6.cell 1
    have p2 := hc6.cell 2
    have p3 := hc6.cell 3
    have p4 := hc6.cell 4
    have p5 := hc6.cell 5
    have p6 := hc6.cell 6
    have p7 := hc6.cell 7
    have p8 := hc6.cell 8
    simp at p0 p1 p2 p3 p4 p5 p6 p7 p8
    have HB := hide (below_set9 hb6 (Nat.le_refl _) (.int .u16 (c.minor : Int)) (.int .u16 (c.major : Int)) (.int .u16 (c.flags : Int)) (.int .u16 (c.this : Int)) (.int .u16 (c.super : Int)) (.slice pa pn pc) (.slice ia c.ifaces.length ic) (.slice fa c.fields.length fc) (.slice ma L.length mc))
    have HQ := hide (Bk.set9 hQ6 (.int .u16 (c.minor : Int)) (.int .u16 (c.major : Int)) (.int .u16 (c.flags : Int)) (.int .u16 (c.this : Int)) (.int .u16 (c.super : Int)) (.slice pa pn pc) (.slice ia c.ifaces.length ic) (.slice fa c.fields.length fc) (.slice ma L.length mc))
    have ho6 : Own w2 (w5.drewN k) _ _ _ _ _ _ _ _ := (unhide H5).2.2.1.kept (row := none) ⟨rfl, rfl, rfl, Nat.le_refl _, fun _ _ _ => rfl⟩ (fun b e => by cases e)
    have HO := hide (Own.set1 ho6 hQ6 (.int .u16 (c.minor : Int)) (.int .u16 (c.major : Int)) (.int .u16 (c.flags : Int)) (.int .u16 (c.this : Int)) (.int .u16 (c.super : Int)) (.slice pa pn pc) (.slice ia c.ifaces.length ic) (.slice fa c.fields.length fc) (.slice ma L.length mc))
    have hzz : w.heap.size ≤ w2.heap.size := by omega
    clear he H5 hc6 ho6 hQ6 hb6
    go_wp2
    refine bodyPost_ret (results_row2 Try.results16 _ _ w.heap.size 44 _ (0, 0) _ rfl (unhide HQ) Try.underlying44 rfl (by kernel_rfl)) rfl ?_
    exact unhide Hres _ _ (ReadC.ok (unhide He) hzz (unhide HB) hpl (unhide HO) hL)
  · have hd : (((st'.e : Int) != 0) : Bool) = true := by simpa using he
    have He := hide he
    have HB := hide (below_set9 hb6 (Nat.le_refl _) (.int .u16 0) (.int .u16 0) (.int .u16 0) (.int .u16 0) (.int .u16 0) (.slice none 0 0) (.slice none 0 0) (.slice none 0 0) (.slice none 0 0))
    have HQ := hide (Bk.set9 hQ6 (.int .u16 0) (.int .u16 0) (.int .u16 0) (.int .u16 0) (.int .u16 0) (.slice none 0 0) (.slice none 0 0) (.slice none 0 0) (.slice none 0 0))
    clear he H5 hQ6 hb6
    go_wp2
    refine bodyPost_ret (results_row2 Try.results16 _ _ w.heap.size 44 _ (0, 0) _ rfl (unhide HQ) Try.underlying44 rfl (by kernel_rfl)) rfl ?_
    exact unhide Hres _ _ ⟨_, by rw [if_neg (unhide He)]; rfl, unhide HB, fun g => absurd g (unhide He), fun _ => rfl⟩
end Go.Proofs.Ytbgpkkbejbidlac.Cl
