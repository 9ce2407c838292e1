/-
  constant() of package pool's reader, tag by tag (3, 4, 5, 6).
  constant() of package pool's reader, tag by tag (7, 8, and all that are none).
-/
import Derived.Test.YtgihfcjddkpkaaaMgPoModel
namespace Go.Proofs.Ytgihfcjddkpkaaa.Po
set_option maxRecDepth 100000
open Go.RowKit
set_option maxRecDepth 100000 in
set_option maxHeartbeats 1000000 in
theorem const_3 (w0 : World) (R : Nat) (s : ByteArray) (st : St) (n : Nat) (v : Value) (l : List K) (w : World) (h : At w0 w R s st n v l) (hs : s.size ≤ 131072) (hp : st.pos ≤ s.size) (hl : l.length ≤ 65536)
    (htag : M.num (M.take s.data.toList 1 st).1 = 3) :
    Calls Try.prog 125 #[.pointer (some ⟨R, 0, none⟩)] w fun e w' => Step1 w0 R s st n l e w' := by
  obtain ⟨i0, hi, hz0, hz1, hz2⟩ := info_parts Try.info78
  have c1 := Uint8_any R s st (.int .i64 (n : Int)) v w h.rd hs hp
  have p1 := take_pos (n := 1) (s := s.data.toList) (st := st) (by simpa using hp)
  obtain ⟨t1, st1, e1⟩ : ∃ t st', M.take s.data.toList 1 st = (t, st') := ⟨_, _, rfl⟩
  obtain ⟨t2, st2, e2⟩ : ∃ t st', M.take s.data.toList 4 st1 = (t, st') := ⟨_, _, rfl⟩
  have hcm : CM s.data.toList st ⟨3, [], M.num t2, 0, 0⟩ st2 := by
    unfold CM
    simp only [e1, e2] at htag ⊢
    simp [htag]
  rw [e1] at c1 p1 htag
  simp only at c1 p1 htag
  rw [htag] at c1
  have p1' : st1.pos ≤ s.size := by simpa using p1
  have c2 := fun w2 (h2 : Rd w2 R s st1 (.int .i64 (n : Int)) v) => Number_any R s st1 (.int .i64 (n : Int)) v 4 w2 h2 hs (by omega) p1'
  rw [e2] at c2
  simp only at c2
  have C1 := hide c1
  have C2 := hide c2
  have HCM := hide hcm
  clear c1 c2 e1 e2 p1 p1' htag hcm
  go_enter Try.func125, Try.ntmps125
  go_wp2_with fail
  refine (At_any R s st _ v w h.rd).mono ?_
  rintro e w1 ⟨rfl, hww⟩
  subst w1
  go_wp2_with fail
  refine (unhide C1).mono ?_
  rintro e w1 ⟨rfl, hr1, hg1⟩
  clear C1
  have hm := fun t => Mid.start t hr1 (own_kept h.own hg1) (below_kept h.old h.rd.lt hg1)
  have Hm := hide hm
  clear hm hr1 hg1 h
  go_wp2_with fail
  refine (unhide C2 _ (unhide Hm _).rd).mono ?_
  rintro e w2 ⟨rfl, hr2, hg2⟩
  have hm2 := (unhide Hm _).take hr2 hg2
  clear C2 Hm hr2 hg2
  obtain ⟨g, hg⟩ : ∃ g, g = w1.heap.size := ⟨_, rfl⟩
  rw [← hg] at hm2 ⊢
  clear hg
  have k0 := hm2.kb.cell 2
  have k0f := hm2.kb.frozen 2
  simp at k0
  have hm3 := hm2.set 2 _ (hm2.kb.bits (M.num t2))
  have Hm3 := hide hm3
  clear hm2 hm3
  go_wp2_with fail
  generalize w2.setCell ⟨g, 2, none⟩ (.int .u64 (M.num t2 : Int)) = W at *
  clear k0 k0f
  have hm := unhide Hm3
  clear Hm3
  obtain ⟨r0, r1, r2, r3, r4, r5⟩ := hm.rd.cells
  have rf := hm.rd.frozen 5
  have q0 := hm.kb.cell 0
  have q1 := hm.kb.cell 1
  have q2 := hm.kb.cell 2
  have q3 := hm.kb.cell 3
  have q4 := hm.kb.cell 4
  simp at q0 q1 q2 q3 q4
  have hmD := hm.drew
  have hown := hmD.own
  have hsz : R < W.heap.size := hm.rd.lt
  have hlt : R < g := hm.lt
  have hgR : (g == R) = false := by rw [beq_eq_false_iff_ne]; omega
  go_region_law (refine step_append_own rfl (.tmp 84) (.tmp 86) 22 rfl (R + 1) 78 i0 (.agg #[.int .u8 0, .string ⟨#[]⟩, .int .u64 0, .int .u16 0, .int .u16 0]) 5 40 Try.underlying22 hi hz0 hz1 hz2 rfl (by decide) v l.length (KC l) (by simp [Act.eval]) (by exact hown.alloc _) ⟨_, 0, none⟩ 1 1 (K.cells ⟨3, [], M.num t2, 0, 0⟩) (by simp [Act.eval]; rfl) rfl (by refine at5 ?_ ?_ ?_ ?_ ?_ <;> simp) (one5 _) (by unfold maxLen; omega) (by omega) (by simp; omega) ?_; intro v' w' hown' hgrow; have hq := hmD.grew hown' hgrow; obtain ⟨g', cap', rfl⟩ := own_form hown' (by omega); have r5' := hq.1.cells.2.2.2.2.2; have rf' := hq.1.frozen 5; have q0' := hq.2.1.cell 0; simp at q0'; have Hq := hide hq; clear hown' hgrow hq)
  all_goals clear r0 r1 r2 r3 r4 r5 rf q0 q1 q2 q3 q4 hown hm hmD
  all_goals go_wp2
  all_goals go_end0
  all_goals exact ⟨rfl, _, _, _, _, _, unhide HCM, .inl ⟨by simp, rfl, rfl⟩, ⟨(unhide Hq).2.2.1, (unhide Hq).2.2.2.2.1, (unhide Hq).2.2.2.2.2⟩⟩
set_option maxRecDepth 100000 in
set_option maxHeartbeats 1000000 in
theorem const_4 (w0 : World) (R : Nat) (s : ByteArray) (st : St) (n : Nat) (v : Value) (l : List K) (w : World) (h : At w0 w R s st n v l) (hs : s.size ≤ 131072) (hp : st.pos ≤ s.size) (hl : l.length ≤ 65536)
    (htag : M.num (M.take s.data.toList 1 st).1 = 4) :
    Calls Try.prog 125 #[.pointer (some ⟨R, 0, none⟩)] w fun e w' => Step1 w0 R s st n l e w' := by
  obtain ⟨i0, hi, hz0, hz1, hz2⟩ := info_parts Try.info78
  have c1 := Uint8_any R s st (.int .i64 (n : Int)) v w h.rd hs hp
  have p1 := take_pos (n := 1) (s := s.data.toList) (st := st) (by simpa using hp)
  obtain ⟨t1, st1, e1⟩ : ∃ t st', M.take s.data.toList 1 st = (t, st') := ⟨_, _, rfl⟩
  obtain ⟨t2, st2, e2⟩ : ∃ t st', M.take s.data.toList 4 st1 = (t, st') := ⟨_, _, rfl⟩
  have hcm : CM s.data.toList st ⟨4, [], M.num t2, 0, 0⟩ st2 := by
    unfold CM
    simp only [e1, e2] at htag ⊢
    simp [htag]
  rw [e1] at c1 p1 htag
  simp only at c1 p1 htag
  rw [htag] at c1
  have p1' : st1.pos ≤ s.size := by simpa using p1
  have c2 := fun w2 (h2 : Rd w2 R s st1 (.int .i64 (n : Int)) v) => Number_any R s st1 (.int .i64 (n : Int)) v 4 w2 h2 hs (by omega) p1'
  rw [e2] at c2
  simp only at c2
  have C1 := hide c1
  have C2 := hide c2
  have HCM := hide hcm
  clear c1 c2 e1 e2 p1 p1' htag hcm
  go_enter Try.func125, Try.ntmps125
  go_wp2_with fail
  refine (At_any R s st _ v w h.rd).mono ?_
  rintro e w1 ⟨rfl, hww⟩
  subst w1
  go_wp2_with fail
  refine (unhide C1).mono ?_
  rintro e w1 ⟨rfl, hr1, hg1⟩
  clear C1
  have hm := fun t => Mid.start t hr1 (own_kept h.own hg1) (below_kept h.old h.rd.lt hg1)
  have Hm := hide hm
  clear hm hr1 hg1 h
  go_wp2_with fail
  refine (unhide C2 _ (unhide Hm _).rd).mono ?_
  rintro e w2 ⟨rfl, hr2, hg2⟩
  have hm2 := (unhide Hm _).take hr2 hg2
  clear C2 Hm hr2 hg2
  obtain ⟨g, hg⟩ : ∃ g, g = w1.heap.size := ⟨_, rfl⟩
  rw [← hg] at hm2 ⊢
  clear hg
  have k0 := hm2.kb.cell 2
  have k0f := hm2.kb.frozen 2
  simp at k0
  have hm3 := hm2.set 2 _ (hm2.kb.bits (M.num t2))
  have Hm3 := hide hm3
  clear hm2 hm3
  go_wp2_with fail
  generalize w2.setCell ⟨g, 2, none⟩ (.int .u64 (M.num t2 : Int)) = W at *
  clear k0 k0f
  have hm := unhide Hm3
  clear Hm3
  obtain ⟨r0, r1, r2, r3, r4, r5⟩ := hm.rd.cells
  have rf := hm.rd.frozen 5
  have q0 := hm.kb.cell 0
  have q1 := hm.kb.cell 1
  have q2 := hm.kb.cell 2
  have q3 := hm.kb.cell 3
  have q4 := hm.kb.cell 4
  simp at q0 q1 q2 q3 q4
  have hmD := hm.drew
  have hown := hmD.own
  have hsz : R < W.heap.size := hm.rd.lt
  have hlt : R < g := hm.lt
  have hgR : (g == R) = false := by rw [beq_eq_false_iff_ne]; omega
  go_region_law (refine step_append_own rfl (.tmp 84) (.tmp 86) 22 rfl (R + 1) 78 i0 (.agg #[.int .u8 0, .string ⟨#[]⟩, .int .u64 0, .int .u16 0, .int .u16 0]) 5 40 Try.underlying22 hi hz0 hz1 hz2 rfl (by decide) v l.length (KC l) (by simp [Act.eval]) (by exact hown.alloc _) ⟨_, 0, none⟩ 1 1 (K.cells ⟨4, [], M.num t2, 0, 0⟩) (by simp [Act.eval]; rfl) rfl (by refine at5 ?_ ?_ ?_ ?_ ?_ <;> simp) (one5 _) (by unfold maxLen; omega) (by omega) (by simp; omega) ?_; intro v' w' hown' hgrow; have hq := hmD.grew hown' hgrow; obtain ⟨g', cap', rfl⟩ := own_form hown' (by omega); have r5' := hq.1.cells.2.2.2.2.2; have rf' := hq.1.frozen 5; have q0' := hq.2.1.cell 0; simp at q0'; have Hq := hide hq; clear hown' hgrow hq)
  all_goals clear r0 r1 r2 r3 r4 r5 rf q0 q1 q2 q3 q4 hown hm hmD
  all_goals go_wp2
  all_goals go_end0
  all_goals exact ⟨rfl, _, _, _, _, _, unhide HCM, .inl ⟨by simp, rfl, rfl⟩, ⟨(unhide Hq).2.2.1, (unhide Hq).2.2.2.2.1, (unhide Hq).2.2.2.2.2⟩⟩
set_option maxRecDepth 100000 in
set_option maxHeartbeats 1000000 in
theorem const_5 (w0 : World) (R : Nat) (s : ByteArray) (st : St) (n : Nat) (v : Value) (l : List K) (w : World) (h : At w0 w R s st n v l) (hs : s.size ≤ 131072) (hp : st.pos ≤ s.size) (hl : l.length ≤ 65536)
    (htag : M.num (M.take s.data.toList 1 st).1 = 5) :
    Calls Try.prog 125 #[.pointer (some ⟨R, 0, none⟩)] w fun e w' => Step1 w0 R s st n l e w' := by
  obtain ⟨i0, hi, hz0, hz1, hz2⟩ := info_parts Try.info78
  have c1 := Uint8_any R s st (.int .i64 (n : Int)) v w h.rd hs hp
  have p1 := take_pos (n := 1) (s := s.data.toList) (st := st) (by simpa using hp)
  obtain ⟨t1, st1, e1⟩ : ∃ t st', M.take s.data.toList 1 st = (t, st') := ⟨_, _, rfl⟩
  obtain ⟨t2, st2, e2⟩ : ∃ t st', M.take s.data.toList 8 st1 = (t, st') := ⟨_, _, rfl⟩
  have hcm : CM s.data.toList st ⟨5, [], M.num t2, 0, 0⟩ st2 := by
    unfold CM
    simp only [e1, e2] at htag ⊢
    simp [htag]
  rw [e1] at c1 p1 htag
  simp only at c1 p1 htag
  rw [htag] at c1
  have p1' : st1.pos ≤ s.size := by simpa using p1
  have c2 := fun w2 (h2 : Rd w2 R s st1 (.int .i64 (n : Int)) v) => Number_any R s st1 (.int .i64 (n : Int)) v 8 w2 h2 hs (by omega) p1'
  rw [e2] at c2
  simp only at c2
  have C1 := hide c1
  have C2 := hide c2
  have HCM := hide hcm
  clear c1 c2 e1 e2 p1 p1' htag hcm
  go_enter Try.func125, Try.ntmps125
  go_wp2_with fail
  refine (At_any R s st _ v w h.rd).mono ?_
  rintro e w1 ⟨rfl, hww⟩
  subst w1
  go_wp2_with fail
  refine (unhide C1).mono ?_
  rintro e w1 ⟨rfl, hr1, hg1⟩
  clear C1
  have hm := fun t => Mid.start t hr1 (own_kept h.own hg1) (below_kept h.old h.rd.lt hg1)
  have Hm := hide hm
  clear hm hr1 hg1 h
  go_wp2_with fail
  refine (unhide C2 _ (unhide Hm _).rd).mono ?_
  rintro e w2 ⟨rfl, hr2, hg2⟩
  have hm2 := (unhide Hm _).take hr2 hg2
  clear C2 Hm hr2 hg2
  obtain ⟨g, hg⟩ : ∃ g, g = w1.heap.size := ⟨_, rfl⟩
  rw [← hg] at hm2 ⊢
  clear hg
  have k0 := hm2.kb.cell 2
  have k0f := hm2.kb.frozen 2
  simp at k0
  have hm3 := hm2.set 2 _ (hm2.kb.bits (M.num t2))
  have Hm3 := hide hm3
  clear hm2 hm3
  go_wp2_with fail
  generalize w2.setCell ⟨g, 2, none⟩ (.int .u64 (M.num t2 : Int)) = W at *
  clear k0 k0f
  have hm := unhide Hm3
  clear Hm3
  obtain ⟨r0, r1, r2, r3, r4, r5⟩ := hm.rd.cells
  have rf := hm.rd.frozen 5
  have q0 := hm.kb.cell 0
  have q1 := hm.kb.cell 1
  have q2 := hm.kb.cell 2
  have q3 := hm.kb.cell 3
  have q4 := hm.kb.cell 4
  simp at q0 q1 q2 q3 q4
  have hmD := hm.drew
  have hown := hmD.own
  have hsz : R < W.heap.size := hm.rd.lt
  have hlt : R < g := hm.lt
  have hgR : (g == R) = false := by rw [beq_eq_false_iff_ne]; omega
  go_region_law (refine step_append_own rfl (.tmp 84) (.tmp 86) 22 rfl (R + 1) 78 i0 (.agg #[.int .u8 0, .string ⟨#[]⟩, .int .u64 0, .int .u16 0, .int .u16 0]) 5 40 Try.underlying22 hi hz0 hz1 hz2 rfl (by decide) v l.length (KC l) (by simp [Act.eval]) (by exact hown.alloc _) ⟨_, 0, none⟩ 1 1 (K.cells ⟨5, [], M.num t2, 0, 0⟩) (by simp [Act.eval]; rfl) rfl (by refine at5 ?_ ?_ ?_ ?_ ?_ <;> simp) (one5 _) (by unfold maxLen; omega) (by omega) (by simp; omega) ?_; intro v' w' hown' hgrow; have hq := hmD.grew hown' hgrow; obtain ⟨g', cap', rfl⟩ := own_form hown' (by omega); have r5' := hq.1.cells.2.2.2.2.2; have rf' := hq.1.frozen 5; have q0' := hq.2.1.cell 0; simp at q0'; have Hq := hide hq; clear hown' hgrow hq)
  all_goals clear r0 r1 r2 r3 r4 r5 rf q0 q1 q2 q3 q4 hown hm hmD
  all_goals go_wp2_with (first | (go_at_call 129; refine (skipOne_any w0 R s st2 n _ _ st.pos _ ⟨(unhide Hq).2.2.1, (unhide Hq).2.2.2.2.1, (unhide Hq).2.2.2.2.2⟩ (by simp; omega)).mono ?_; rintro e w3 ⟨rfl, v3, hA3⟩) | go_in)
  all_goals go_end0
  all_goals exact ⟨rfl, _, _, _, _, _, unhide HCM, .inr ⟨by simp, rfl, rfl⟩, by simpa using hA3⟩
set_option maxRecDepth 100000 in
set_option maxHeartbeats 1000000 in
theorem const_6 (w0 : World) (R : Nat) (s : ByteArray) (st : St) (n : Nat) (v : Value) (l : List K) (w : World) (h : At w0 w R s st n v l) (hs : s.size ≤ 131072) (hp : st.pos ≤ s.size) (hl : l.length ≤ 65536)
    (htag : M.num (M.take s.data.toList 1 st).1 = 6) :
    Calls Try.prog 125 #[.pointer (some ⟨R, 0, none⟩)] w fun e w' => Step1 w0 R s st n l e w' := by
  obtain ⟨i0, hi, hz0, hz1, hz2⟩ := info_parts Try.info78
  have c1 := Uint8_any R s st (.int .i64 (n : Int)) v w h.rd hs hp
  have p1 := take_pos (n := 1) (s := s.data.toList) (st := st) (by simpa using hp)
  obtain ⟨t1, st1, e1⟩ : ∃ t st', M.take s.data.toList 1 st = (t, st') := ⟨_, _, rfl⟩
  obtain ⟨t2, st2, e2⟩ : ∃ t st', M.take s.data.toList 8 st1 = (t, st') := ⟨_, _, rfl⟩
  have hcm : CM s.data.toList st ⟨6, [], M.num t2, 0, 0⟩ st2 := by
    unfold CM
    simp only [e1, e2] at htag ⊢
    simp [htag]
  rw [e1] at c1 p1 htag
  simp only at c1 p1 htag
  rw [htag] at c1
  have p1' : st1.pos ≤ s.size := by simpa using p1
  have c2 := fun w2 (h2 : Rd w2 R s st1 (.int .i64 (n : Int)) v) => Number_any R s st1 (.int .i64 (n : Int)) v 8 w2 h2 hs (by omega) p1'
  rw [e2] at c2
  simp only at c2
  have C1 := hide c1
  have C2 := hide c2
  have HCM := hide hcm
  clear c1 c2 e1 e2 p1 p1' htag hcm
  go_enter Try.func125, Try.ntmps125
  go_wp2_with fail
  refine (At_any R s st _ v w h.rd).mono ?_
  rintro e w1 ⟨rfl, hww⟩
  subst w1
  go_wp2_with fail
  refine (unhide C1).mono ?_
  rintro e w1 ⟨rfl, hr1, hg1⟩
  clear C1
  have hm := fun t => Mid.start t hr1 (own_kept h.own hg1) (below_kept h.old h.rd.lt hg1)
  have Hm := hide hm
  clear hm hr1 hg1 h
  go_wp2_with fail
  refine (unhide C2 _ (unhide Hm _).rd).mono ?_
  rintro e w2 ⟨rfl, hr2, hg2⟩
  have hm2 := (unhide Hm _).take hr2 hg2
  clear C2 Hm hr2 hg2
  obtain ⟨g, hg⟩ : ∃ g, g = w1.heap.size := ⟨_, rfl⟩
  rw [← hg] at hm2 ⊢
  clear hg
  have k0 := hm2.kb.cell 2
  have k0f := hm2.kb.frozen 2
  simp at k0
  have hm3 := hm2.set 2 _ (hm2.kb.bits (M.num t2))
  have Hm3 := hide hm3
  clear hm2 hm3
  go_wp2_with fail
  generalize w2.setCell ⟨g, 2, none⟩ (.int .u64 (M.num t2 : Int)) = W at *
  clear k0 k0f
  have hm := unhide Hm3
  clear Hm3
  obtain ⟨r0, r1, r2, r3, r4, r5⟩ := hm.rd.cells
  have rf := hm.rd.frozen 5
  have q0 := hm.kb.cell 0
  have q1 := hm.kb.cell 1
  have q2 := hm.kb.cell 2
  have q3 := hm.kb.cell 3
  have q4 := hm.kb.cell 4
  simp at q0 q1 q2 q3 q4
  have hmD := hm.drew
  have hown := hmD.own
  have hsz : R < W.heap.size := hm.rd.lt
  have hlt : R < g := hm.lt
  have hgR : (g == R) = false := by rw [beq_eq_false_iff_ne]; omega
  go_region_law (refine step_append_own rfl (.tmp 84) (.tmp 86) 22 rfl (R + 1) 78 i0 (.agg #[.int .u8 0, .string ⟨#[]⟩, .int .u64 0, .int .u16 0, .int .u16 0]) 5 40 Try.underlying22 hi hz0 hz1 hz2 rfl (by decide) v l.length (KC l) (by simp [Act.eval]) (by exact hown.alloc _) ⟨_, 0, none⟩ 1 1 (K.cells ⟨6, [], M.num t2, 0, 0⟩) (by simp [Act.eval]; rfl) rfl (by refine at5 ?_ ?_ ?_ ?_ ?_ <;> simp) (one5 _) (by unfold maxLen; omega) (by omega) (by simp; omega) ?_; intro v' w' hown' hgrow; have hq := hmD.grew hown' hgrow; obtain ⟨g', cap', rfl⟩ := own_form hown' (by omega); have r5' := hq.1.cells.2.2.2.2.2; have rf' := hq.1.frozen 5; have q0' := hq.2.1.cell 0; simp at q0'; have Hq := hide hq; clear hown' hgrow hq)
  all_goals clear r0 r1 r2 r3 r4 r5 rf q0 q1 q2 q3 q4 hown hm hmD
  all_goals go_wp2_with (first | (go_at_call 129; refine (skipOne_any w0 R s st2 n _ _ st.pos _ ⟨(unhide Hq).2.2.1, (unhide Hq).2.2.2.2.1, (unhide Hq).2.2.2.2.2⟩ (by simp; omega)).mono ?_; rintro e w3 ⟨rfl, v3, hA3⟩) | go_in)
  all_goals go_end0
  all_goals exact ⟨rfl, _, _, _, _, _, unhide HCM, .inr ⟨by simp, rfl, rfl⟩, by simpa using hA3⟩
end Go.Proofs.Ytgihfcjddkpkaaa.Po
namespace Go.Proofs.Ytgihfcjddkpkaaa.Po
set_option maxRecDepth 100000
open Go.RowKit
set_option maxRecDepth 100000 in
set_option maxHeartbeats 1000000 in
theorem const_7 (w0 : World) (R : Nat) (s : ByteArray) (st : St) (n : Nat) (v : Value) (l : List K) (w : World) (h : At w0 w R s st n v l) (hs : s.size ≤ 131072) (hp : st.pos ≤ s.size) (hl : l.length ≤ 65536)
    (htag : M.num (M.take s.data.toList 1 st).1 = 7) :
    Calls Try.prog 125 #[.pointer (some ⟨R, 0, none⟩)] w fun e w' => Step1 w0 R s st n l e w' := by
  obtain ⟨i0, hi, hz0, hz1, hz2⟩ := info_parts Try.info78
  have c1 := Uint8_any R s st (.int .i64 (n : Int)) v w h.rd hs hp
  have p1 := take_pos (n := 1) (s := s.data.toList) (st := st) (by simpa using hp)
  obtain ⟨t1, st1, e1⟩ : ∃ t st', M.take s.data.toList 1 st = (t, st') := ⟨_, _, rfl⟩
  obtain ⟨t2, st2, e2⟩ : ∃ t st', M.take s.data.toList 2 st1 = (t, st') := ⟨_, _, rfl⟩
  have hcm : CM s.data.toList st ⟨7, [], 0, M.num t2, 0⟩ st2 := by
    unfold CM
    simp only [e1, e2] at htag ⊢
    simp [htag]
  rw [e1] at c1 p1 htag
  simp only at c1 p1 htag
  rw [htag] at c1
  have p1' : st1.pos ≤ s.size := by simpa using p1
  have c2 := fun w2 (h2 : Rd w2 R s st1 (.int .i64 (n : Int)) v) => Uint16_any R s st1 (.int .i64 (n : Int)) v w2 h2 hs p1'
  rw [e2] at c2
  simp only at c2
  have C1 := hide c1
  have C2 := hide c2
  have HCM := hide hcm
  clear c1 c2 e1 e2 p1 p1' htag hcm
  go_enter Try.func125, Try.ntmps125
  go_wp2_with fail
  refine (At_any R s st _ v w h.rd).mono ?_
  rintro e w1 ⟨rfl, hww⟩
  subst w1
  go_wp2_with fail
  refine (unhide C1).mono ?_
  rintro e w1 ⟨rfl, hr1, hg1⟩
  clear C1
  have hm := fun t => Mid.start t hr1 (own_kept h.own hg1) (below_kept h.old h.rd.lt hg1)
  have Hm := hide hm
  clear hm hr1 hg1 h
  go_wp2_with fail
  refine (unhide C2 _ (unhide Hm _).rd).mono ?_
  rintro e w2 ⟨rfl, hr2, hg2⟩
  have hm2 := (unhide Hm _).take hr2 hg2
  clear C2 Hm hr2 hg2
  obtain ⟨g, hg⟩ : ∃ g, g = w1.heap.size := ⟨_, rfl⟩
  rw [← hg] at hm2 ⊢
  clear hg
  have k0 := hm2.kb.cell 3
  have k0f := hm2.kb.frozen 3
  simp at k0
  have hm3 := hm2.set 3 _ (hm2.kb.a (M.num t2))
  have Hm3 := hide hm3
  clear hm2 hm3
  go_wp2_with fail
  generalize w2.setCell ⟨g, 3, none⟩ (.int .u16 (M.num t2 : Int)) = W at *
  clear k0 k0f
  have hm := unhide Hm3
  clear Hm3
  obtain ⟨r0, r1, r2, r3, r4, r5⟩ := hm.rd.cells
  have rf := hm.rd.frozen 5
  have q0 := hm.kb.cell 0
  have q1 := hm.kb.cell 1
  have q2 := hm.kb.cell 2
  have q3 := hm.kb.cell 3
  have q4 := hm.kb.cell 4
  simp at q0 q1 q2 q3 q4
  have hmD := hm.drew
  have hown := hmD.own
  have hsz : R < W.heap.size := hm.rd.lt
  have hlt : R < g := hm.lt
  have hgR : (g == R) = false := by rw [beq_eq_false_iff_ne]; omega
  go_region_law (refine step_append_own rfl (.tmp 84) (.tmp 86) 22 rfl (R + 1) 78 i0 (.agg #[.int .u8 0, .string ⟨#[]⟩, .int .u64 0, .int .u16 0, .int .u16 0]) 5 40 Try.underlying22 hi hz0 hz1 hz2 rfl (by decide) v l.length (KC l) (by simp [Act.eval]) (by exact hown.alloc _) ⟨_, 0, none⟩ 1 1 (K.cells ⟨7, [], 0, M.num t2, 0⟩) (by simp [Act.eval]; rfl) rfl (by refine at5 ?_ ?_ ?_ ?_ ?_ <;> simp) (one5 _) (by unfold maxLen; omega) (by omega) (by simp; omega) ?_; intro v' w' hown' hgrow; have hq := hmD.grew hown' hgrow; obtain ⟨g', cap', rfl⟩ := own_form hown' (by omega); have r5' := hq.1.cells.2.2.2.2.2; have rf' := hq.1.frozen 5; have q0' := hq.2.1.cell 0; simp at q0'; have Hq := hide hq; clear hown' hgrow hq)
  all_goals clear r0 r1 r2 r3 r4 r5 rf q0 q1 q2 q3 q4 hown hm hmD
  all_goals go_wp2
  all_goals go_end0
  all_goals exact ⟨rfl, _, _, _, _, _, unhide HCM, .inl ⟨by simp, rfl, rfl⟩, ⟨(unhide Hq).2.2.1, (unhide Hq).2.2.2.2.1, (unhide Hq).2.2.2.2.2⟩⟩
set_option maxRecDepth 100000 in
set_option maxHeartbeats 1000000 in
theorem const_8 (w0 : World) (R : Nat) (s : ByteArray) (st : St) (n : Nat) (v : Value) (l : List K) (w : World) (h : At w0 w R s st n v l) (hs : s.size ≤ 131072) (hp : st.pos ≤ s.size) (hl : l.length ≤ 65536)
    (htag : M.num (M.take s.data.toList 1 st).1 = 8) :
    Calls Try.prog 125 #[.pointer (some ⟨R, 0, none⟩)] w fun e w' => Step1 w0 R s st n l e w' := by
  obtain ⟨i0, hi, hz0, hz1, hz2⟩ := info_parts Try.info78
  have c1 := Uint8_any R s st (.int .i64 (n : Int)) v w h.rd hs hp
  have p1 := take_pos (n := 1) (s := s.data.toList) (st := st) (by simpa using hp)
  obtain ⟨t1, st1, e1⟩ : ∃ t st', M.take s.data.toList 1 st = (t, st') := ⟨_, _, rfl⟩
  obtain ⟨t2, st2, e2⟩ : ∃ t st', M.take s.data.toList 2 st1 = (t, st') := ⟨_, _, rfl⟩
  have hcm : CM s.data.toList st ⟨8, [], 0, M.num t2, 0⟩ st2 := by
    unfold CM
    simp only [e1, e2] at htag ⊢
    simp [htag]
  rw [e1] at c1 p1 htag
  simp only at c1 p1 htag
  rw [htag] at c1
  have p1' : st1.pos ≤ s.size := by simpa using p1
  have c2 := fun w2 (h2 : Rd w2 R s st1 (.int .i64 (n : Int)) v) => Uint16_any R s st1 (.int .i64 (n : Int)) v w2 h2 hs p1'
  rw [e2] at c2
  simp only at c2
  have C1 := hide c1
  have C2 := hide c2
  have HCM := hide hcm
  clear c1 c2 e1 e2 p1 p1' htag hcm
  go_enter Try.func125, Try.ntmps125
  go_wp2_with fail
  refine (At_any R s st _ v w h.rd).mono ?_
  rintro e w1 ⟨rfl, hww⟩
  subst w1
  go_wp2_with fail
  refine (unhide C1).mono ?_
  rintro e w1 ⟨rfl, hr1, hg1⟩
  clear C1
  have hm := fun t => Mid.start t hr1 (own_kept h.own hg1) (below_kept h.old h.rd.lt hg1)
  have Hm := hide hm
  clear hm hr1 hg1 h
  go_wp2_with fail
  refine (unhide C2 _ (unhide Hm _).rd).mono ?_
  rintro e w2 ⟨rfl, hr2, hg2⟩
  have hm2 := (unhide Hm _).take hr2 hg2
  clear C2 Hm hr2 hg2
  obtain ⟨g, hg⟩ : ∃ g, g = w1.heap.size := ⟨_, rfl⟩
  rw [← hg] at hm2 ⊢
  clear hg
  have k0 := hm2.kb.cell 3
  have k0f := hm2.kb.frozen 3
  simp at k0
  have hm3 := hm2.set 3 _ (hm2.kb.a (M.num t2))
  have Hm3 := hide hm3
  clear hm2 hm3
  go_wp2_with fail
  generalize w2.setCell ⟨g, 3, none⟩ (.int .u16 (M.num t2 : Int)) = W at *
  clear k0 k0f
  have hm := unhide Hm3
  clear Hm3
  obtain ⟨r0, r1, r2, r3, r4, r5⟩ := hm.rd.cells
  have rf := hm.rd.frozen 5
  have q0 := hm.kb.cell 0
  have q1 := hm.kb.cell 1
  have q2 := hm.kb.cell 2
  have q3 := hm.kb.cell 3
  have q4 := hm.kb.cell 4
  simp at q0 q1 q2 q3 q4
  have hmD := hm.drew
  have hown := hmD.own
  have hsz : R < W.heap.size := hm.rd.lt
  have hlt : R < g := hm.lt
  have hgR : (g == R) = false := by rw [beq_eq_false_iff_ne]; omega
  go_region_law (refine step_append_own rfl (.tmp 84) (.tmp 86) 22 rfl (R + 1) 78 i0 (.agg #[.int .u8 0, .string ⟨#[]⟩, .int .u64 0, .int .u16 0, .int .u16 0]) 5 40 Try.underlying22 hi hz0 hz1 hz2 rfl (by decide) v l.length (KC l) (by simp [Act.eval]) (by exact hown.alloc _) ⟨_, 0, none⟩ 1 1 (K.cells ⟨8, [], 0, M.num t2, 0⟩) (by simp [Act.eval]; rfl) rfl (by refine at5 ?_ ?_ ?_ ?_ ?_ <;> simp) (one5 _) (by unfold maxLen; omega) (by omega) (by simp; omega) ?_; intro v' w' hown' hgrow; have hq := hmD.grew hown' hgrow; obtain ⟨g', cap', rfl⟩ := own_form hown' (by omega); have r5' := hq.1.cells.2.2.2.2.2; have rf' := hq.1.frozen 5; have q0' := hq.2.1.cell 0; simp at q0'; have Hq := hide hq; clear hown' hgrow hq)
  all_goals clear r0 r1 r2 r3 r4 r5 rf q0 q1 q2 q3 q4 hown hm hmD
  all_goals go_wp2
  all_goals go_end0
  all_goals exact ⟨rfl, _, _, _, _, _, unhide HCM, .inl ⟨by simp, rfl, rfl⟩, ⟨(unhide Hq).2.2.1, (unhide Hq).2.2.2.2.1, (unhide Hq).2.2.2.2.2⟩⟩
set_option maxRecDepth 100000 in
set_option maxHeartbeats 1000000 in
theorem const_other (w0 : World) (R : Nat) (s : ByteArray) (st : St) (n : Nat) (v : Value) (l : List K) (w : World) (h : At w0 w R s st n v l) (hs : s.size ≤ 131072) (hp : st.pos ≤ s.size) (hl : l.length ≤ 65536)
    (htag : M.num (M.take s.data.toList 1 st).1 = 0 ∨ M.num (M.take s.data.toList 1 st).1 = 2 ∨ 12 < M.num (M.take s.data.toList 1 st).1) :
    Calls Try.prog 125 #[.pointer (some ⟨R, 0, none⟩)] w fun e w' => Step1 w0 R s st n l e w' := by
  obtain ⟨i0, hi, hz0, hz1, hz2⟩ := info_parts Try.info78
  have c1 := Uint8_any R s st (.int .i64 (n : Int)) v w h.rd hs hp
  have p1 := take_pos (n := 1) (s := s.data.toList) (st := st) (by simpa using hp)
  have hlt1 := num_lt (M.take s.data.toList 1 st).1
  have hlen1 := take_len s.data.toList 1 st
  have htl : M.num (M.take s.data.toList 1 st).1 < 256 := by have := Nat.pow_le_pow_right (show 0 < 256 by omega) hlen1; omega
  clear hlt1 hlen1
  obtain ⟨t1, st1, e1⟩ : ∃ t st', M.take s.data.toList 1 st = (t, st') := ⟨_, _, rfl⟩
  obtain ⟨tag, etag⟩ : ∃ tag, tag = M.num t1 := ⟨_, rfl⟩
  have hcm : CM s.data.toList st ⟨tag, [], 0, 0, 0⟩ (M.fail st1 5 st.pos) := by
    unfold CM
    simp only [e1] at htag ⊢
    rw [← etag] at htag ⊢
    exact .inr (.inr (.inr (.inr (.inr ⟨htag, by simp, by simp⟩))))
  rw [e1] at c1 p1 htag htl
  simp only at c1 p1 htag htl
  rw [← etag] at c1 htag htl
  have f1 : ((tag : Int) == 1) = false := by rw [beq_eq_false_iff_ne]; omega
  have f3 : ((tag : Int) == 3) = false := by rw [beq_eq_false_iff_ne]; omega
  have f4 : ((tag : Int) == 4) = false := by rw [beq_eq_false_iff_ne]; omega
  have f5 : ((tag : Int) == 5) = false := by rw [beq_eq_false_iff_ne]; omega
  have f6 : ((tag : Int) == 6) = false := by rw [beq_eq_false_iff_ne]; omega
  have f7 : ((tag : Int) == 7) = false := by rw [beq_eq_false_iff_ne]; omega
  have f8 : ((tag : Int) == 8) = false := by rw [beq_eq_false_iff_ne]; omega
  have f9 : ((tag : Int) == 9) = false := by rw [beq_eq_false_iff_ne]; omega
  have f10 : ((tag : Int) == 10) = false := by rw [beq_eq_false_iff_ne]; omega
  have f11 : ((tag : Int) == 11) = false := by rw [beq_eq_false_iff_ne]; omega
  have f12 : ((tag : Int) == 12) = false := by rw [beq_eq_false_iff_ne]; omega
  have C1 := hide c1
  have HCM := hide hcm
  have hn2 : ¬ (tag = 5 ∨ tag = 6) := by omega
  have Hn2 := hide hn2
  clear c1 e1 p1 htag hcm etag hn2
  go_enter Try.func125, Try.ntmps125
  go_wp2_with fail
  refine (At_any R s st _ v w h.rd).mono ?_
  rintro e w1 ⟨rfl, hww⟩
  subst w1
  go_wp2_with fail
  refine (unhide C1).mono ?_
  rintro e w1 ⟨rfl, hr1, hg1⟩
  clear C1
  have hm := fun t => Mid.start t hr1 (own_kept h.own hg1) (below_kept h.old h.rd.lt hg1)
  have Hm := hide hm
  clear hm hr1 hg1 h
  go_wp2_with fail
  refine (Fail_any R s st1 _ v 5 st.pos _ (unhide Hm _).rd).mono ?_
  rintro e W ⟨rfl, hr2, hg2, -⟩
  have hm := (unhide Hm _).take hr2 hg2
  clear Hm hr2 hg2
  obtain ⟨g, hg⟩ : ∃ g, g = w1.heap.size := ⟨_, rfl⟩
  rw [← hg] at hm ⊢
  clear hg
  go_wp2_with fail
  obtain ⟨r0, r1, r2, r3, r4, r5⟩ := hm.rd.cells
  have rf := hm.rd.frozen 5
  have q0 := hm.kb.cell 0
  have q1 := hm.kb.cell 1
  have q2 := hm.kb.cell 2
  have q3 := hm.kb.cell 3
  have q4 := hm.kb.cell 4
  simp at q0 q1 q2 q3 q4
  have hmD := hm.drew
  have hown := hmD.own
  have hsz : R < W.heap.size := hm.rd.lt
  have hlt : R < g := hm.lt
  have hgR : (g == R) = false := by rw [beq_eq_false_iff_ne]; omega
  go_region_law (refine step_append_own rfl (.tmp 84) (.tmp 86) 22 rfl (R + 1) 78 i0 (.agg #[.int .u8 0, .string ⟨#[]⟩, .int .u64 0, .int .u16 0, .int .u16 0]) 5 40 Try.underlying22 hi hz0 hz1 hz2 rfl (by decide) v l.length (KC l) (by simp [Act.eval]) (by exact hown.alloc _) ⟨_, 0, none⟩ 1 1 (K.cells ⟨tag, [], 0, 0, 0⟩) (by simp [Act.eval]; rfl) rfl (by refine at5 ?_ ?_ ?_ ?_ ?_ <;> simp) (one5 _) (by unfold maxLen; omega) (by omega) (by simp; omega) ?_; intro v' w' hown' hgrow; have hq := hmD.grew hown' hgrow; obtain ⟨g', cap', rfl⟩ := own_form hown' (by omega); have r5' := hq.1.cells.2.2.2.2.2; have rf' := hq.1.frozen 5; have q0' := hq.2.1.cell 0; simp at q0'; have Hq := hide hq; clear hown' hgrow hq)
  all_goals clear r0 r1 r2 r3 r4 r5 rf q0 q1 q2 q3 q4 hown hm hmD
  all_goals go_wp2
  all_goals go_end0
  all_goals exact ⟨rfl, _, _, _, _, _, unhide HCM, .inl ⟨unhide Hn2, rfl, rfl⟩, ⟨(unhide Hq).2.2.1, (unhide Hq).2.2.2.2.1, (unhide Hq).2.2.2.2.2⟩⟩
end Go.Proofs.Ytgihfcjddkpkaaa.Po
