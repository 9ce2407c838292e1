/-
  constant() of package pool's reader, tag by tag (9 to 12).
-/
import Derived.Test.YtgihfcjddkpkaaaMgPoModel
namespace Go.Proofs.Ytgihfcjddkpkaaa.Po
set_option maxRecDepth 100000
open Go.RowKit
set_option maxRecDepth 100000 in
set_option maxHeartbeats 1000000 in
theorem const_9 (w0 : World) (R : Nat) (s : ByteArray) (st : St) (n : Nat) (v : Value) (l : List K) (w : World) (h : At w0 w R s st n v l) (hs : s.size ≤ 131072) (hp : st.pos ≤ s.size) (hl : l.length ≤ 65536)
    (htag : M.num (M.take s.data.toList 1 st).1 = 9) :
    Calls Try.prog 125 #[.pointer (some ⟨R, 0, none⟩)] w fun e w' => Step1 w0 R s st n l e w' := by
  obtain ⟨i0, hi, hz0, hz1, hz2⟩ := info_parts Try.info78
  have c1 := Uint8_any R s st (.int .i64 (n : Int)) v w h.rd hs hp
  have p1 := take_pos (n := 1) (s := s.data.toList) (st := st) (by simpa using hp)
  obtain ⟨t1, st1, e1⟩ : ∃ t st', M.take s.data.toList 1 st = (t, st') := ⟨_, _, rfl⟩
  obtain ⟨t2, sta, e2⟩ : ∃ t st', M.take s.data.toList 2 st1 = (t, st') := ⟨_, _, rfl⟩
  obtain ⟨t3, st2, e3⟩ : ∃ t st', M.take s.data.toList 2 sta = (t, st') := ⟨_, _, rfl⟩
  have hcm : CM s.data.toList st ⟨9, [], 0, M.num t2, M.num t3⟩ st2 := by
    unfold CM
    simp only [e1, e2, e3] at htag ⊢
    simp [htag]
  rw [e1] at c1 p1 htag
  simp only at c1 p1 htag
  rw [htag] at c1
  have p1' : st1.pos ≤ s.size := by simpa using p1
  have p2 := take_pos (n := 2) (s := s.data.toList) (st := st1) (by simpa using p1')
  have c2 := fun w2 (h2 : Rd w2 R s st1 (.int .i64 (n : Int)) v) => Uint16_any R s st1 (.int .i64 (n : Int)) v w2 h2 hs p1'
  rw [e2] at c2 p2
  simp only at c2 p2
  have p2' : sta.pos ≤ s.size := by simpa using p2
  have c3 := fun w2 (h2 : Rd w2 R s sta (.int .i64 (n : Int)) v) => Uint16_any R s sta (.int .i64 (n : Int)) v w2 h2 hs p2'
  rw [e3] at c3
  simp only at c3
  have C1 := hide c1
  have C2 := hide c2
  have C3 := hide c3
  have HCM := hide hcm
  clear c1 c2 c3 e1 e2 e3 p1 p1' p2 p2' htag hcm
  go_enter Try.func125, Try.ntmps125
  go_wp2_with fail
  refine (At_any R s st _ v w h.rd).mono ?_
  rintro e w1 ⟨rfl, hww⟩
  subst w1
  go_wp2_with fail
  refine (unhide C1).mono ?_
  rintro e w1 ⟨rfl, hr1, hg1⟩
  clear C1
  have hm := fun t => Mid.start t hr1 (own_kept h.own hg1) (below_kept h.old h.rd.lt hg1)
  have Hm := hide hm
  clear hm hr1 hg1 h
  go_wp2_with fail
  refine (unhide C2 _ (unhide Hm _).rd).mono ?_
  rintro e w2 ⟨rfl, hr2, hg2⟩
  have hm2 := (unhide Hm _).take hr2 hg2
  clear C2 Hm hr2 hg2
  obtain ⟨g, hg⟩ : ∃ g, g = w1.heap.size := ⟨_, rfl⟩
  rw [← hg] at hm2 ⊢
  clear hg
  have k0 := hm2.kb.cell 3
  have k0f := hm2.kb.frozen 3
  simp at k0
  have hm3 := hm2.set 3 _ (hm2.kb.a (M.num t2))
  have Hm3 := hide hm3
  clear hm2 hm3
  go_wp2_with fail
  generalize w2.setCell ⟨g, 3, none⟩ (.int .u16 (M.num t2 : Int)) = W3 at *
  clear k0 k0f
  have hmx := unhide Hm3
  clear Hm3
  refine (unhide C3 _ hmx.rd).mono ?_
  rintro e w3 ⟨rfl, hr3, hg3⟩
  have hm2 := hmx.take hr3 hg3
  clear C3 hmx hr3 hg3
  have k0 := hm2.kb.cell 4
  have k0f := hm2.kb.frozen 4
  simp at k0
  have hm3 := hm2.set 4 _ (hm2.kb.b (M.num t3))
  have Hm3 := hide hm3
  clear hm2 hm3
  go_wp2_with fail
  generalize w3.setCell ⟨g, 4, none⟩ (.int .u16 (M.num t3 : Int)) = W at *
  clear k0 k0f
  have hm := unhide Hm3
  clear Hm3
  obtain ⟨r0, r1, r2, r3, r4, r5⟩ := hm.rd.cells
  have rf := hm.rd.frozen 5
  have q0 := hm.kb.cell 0
  have q1 := hm.kb.cell 1
  have q2 := hm.kb.cell 2
  have q3 := hm.kb.cell 3
  have q4 := hm.kb.cell 4
  simp at q0 q1 q2 q3 q4
  have hmD := hm.drew
  have hown := hmD.own
  have hsz : R < W.heap.size := hm.rd.lt
  have hlt : R < g := hm.lt
  have hgR : (g == R) = false := by rw [beq_eq_false_iff_ne]; omega
  go_region_law (refine step_append_own rfl (.tmp 84) (.tmp 86) 22 rfl (R + 1) 78 i0 (.agg #[.int .u8 0, .string ⟨#[]⟩, .int .u64 0, .int .u16 0, .int .u16 0]) 5 40 Try.underlying22 hi hz0 hz1 hz2 rfl (by decide) v l.length (KC l) (by simp [Act.eval]) (by exact hown.alloc _) ⟨_, 0, none⟩ 1 1 (K.cells ⟨9, [], 0, M.num t2, M.num t3⟩) (by simp [Act.eval]; rfl) rfl (by refine at5 ?_ ?_ ?_ ?_ ?_ <;> simp) (one5 _) (by unfold maxLen; omega) (by omega) (by simp; omega) ?_; intro v' w' hown' hgrow; have hq := hmD.grew hown' hgrow; obtain ⟨g', cap', rfl⟩ := own_form hown' (by omega); have r5' := hq.1.cells.2.2.2.2.2; have rf' := hq.1.frozen 5; have q0' := hq.2.1.cell 0; simp at q0'; have Hq := hide hq; clear hown' hgrow hq)
  all_goals clear r0 r1 r2 r3 r4 r5 rf q0 q1 q2 q3 q4 hown hm hmD
  all_goals go_wp2
  all_goals go_end0
  all_goals exact ⟨rfl, _, _, _, _, _, unhide HCM, .inl ⟨by simp, rfl, rfl⟩, ⟨(unhide Hq).2.2.1, (unhide Hq).2.2.2.2.1, (unhide Hq).2.2.2.2.2⟩⟩
set_option maxRecDepth 100000 in
set_option maxHeartbeats 1000000 in
theorem const_10 (w0 : World) (R : Nat) (s : ByteArray) (st : St) (n : Nat) (v : Value) (l : List K) (w : World) (h : At w0 w R s st n v l) (hs : s.size ≤ 131072) (hp : st.pos ≤ s.size) (hl : l.length ≤ 65536)
    (htag : M.num (M.take s.data.toList 1 st).1 = 10) :
    Calls Try.prog 125 #[.pointer (some ⟨R, 0, none⟩)] w fun e w' => Step1 w0 R s st n l e w' := by
  obtain ⟨i0, hi, hz0, hz1, hz2⟩ := info_parts Try.info78
  have c1 := Uint8_any R s st (.int .i64 (n : Int)) v w h.rd hs hp
  have p1 := take_pos (n := 1) (s := s.data.toList) (st := st) (by simpa using hp)
  obtain ⟨t1, st1, e1⟩ : ∃ t st', M.take s.data.toList 1 st = (t, st') := ⟨_, _, rfl⟩
  obtain ⟨t2, sta, e2⟩ : ∃ t st', M.take s.data.toList 2 st1 = (t, st') := ⟨_, _, rfl⟩
  obtain ⟨t3, st2, e3⟩ : ∃ t st', M.take s.data.toList 2 sta = (t, st') := ⟨_, _, rfl⟩
  have hcm : CM s.data.toList st ⟨10, [], 0, M.num t2, M.num t3⟩ st2 := by
    unfold CM
    simp only [e1, e2, e3] at htag ⊢
    simp [htag]
  rw [e1] at c1 p1 htag
  simp only at c1 p1 htag
  rw [htag] at c1
  have p1' : st1.pos ≤ s.size := by simpa using p1
  have p2 := take_pos (n := 2) (s := s.data.toList) (st := st1) (by simpa using p1')
  have c2 := fun w2 (h2 : Rd w2 R s st1 (.int .i64 (n : Int)) v) => Uint16_any R s st1 (.int .i64 (n : Int)) v w2 h2 hs p1'
  rw [e2] at c2 p2
  simp only at c2 p2
  have p2' : sta.pos ≤ s.size := by simpa using p2
  have c3 := fun w2 (h2 : Rd w2 R s sta (.int .i64 (n : Int)) v) => Uint16_any R s sta (.int .i64 (n : Int)) v w2 h2 hs p2'
  rw [e3] at c3
  simp only at c3
  have C1 := hide c1
  have C2 := hide c2
  have C3 := hide c3
  have HCM := hide hcm
  clear c1 c2 c3 e1 e2 e3 p1 p1' p2 p2' htag hcm
  go_enter Try.func125, Try.ntmps125
  go_wp2_with fail
  refine (At_any R s st _ v w h.rd).mono ?_
  rintro e w1 ⟨rfl, hww⟩
  subst w1
  go_wp2_with fail
  refine (unhide C1).mono ?_
  rintro e w1 ⟨rfl, hr1, hg1⟩
  clear C1
  have hm := fun t => Mid.start t hr1 (own_kept h.own hg1) (below_kept h.old h.rd.lt hg1)
  have Hm := hide hm
  clear hm hr1 hg1 h
  go_wp2_with fail
  refine (unhide C2 _ (unhide Hm _).rd).mono ?_
  rintro e w2 ⟨rfl, hr2, hg2⟩
  have hm2 := (unhide Hm _).take hr2 hg2
  clear C2 Hm hr2 hg2
  obtain ⟨g, hg⟩ : ∃ g, g = w1.heap.size := ⟨_, rfl⟩
  rw [← hg] at hm2 ⊢
  clear hg
  have k0 := hm2.kb.cell 3
  have k0f := hm2.kb.frozen 3
  simp at k0
  have hm3 := hm2.set 3 _ (hm2.kb.a (M.num t2))
  have Hm3 := hide hm3
  clear hm2 hm3
  go_wp2_with fail
  generalize w2.setCell ⟨g, 3, none⟩ (.int .u16 (M.num t2 : Int)) = W3 at *
  clear k0 k0f
  have hmx := unhide Hm3
  clear Hm3
  refine (unhide C3 _ hmx.rd).mono ?_
  rintro e w3 ⟨rfl, hr3, hg3⟩
  have hm2 := hmx.take hr3 hg3
  clear C3 hmx hr3 hg3
  have k0 := hm2.kb.cell 4
  have k0f := hm2.kb.frozen 4
  simp at k0
  have hm3 := hm2.set 4 _ (hm2.kb.b (M.num t3))
  have Hm3 := hide hm3
  clear hm2 hm3
  go_wp2_with fail
  generalize w3.setCell ⟨g, 4, none⟩ (.int .u16 (M.num t3 : Int)) = W at *
  clear k0 k0f
  have hm := unhide Hm3
  clear Hm3
  obtain ⟨r0, r1, r2, r3, r4, r5⟩ := hm.rd.cells
  have rf := hm.rd.frozen 5
  have q0 := hm.kb.cell 0
  have q1 := hm.kb.cell 1
  have q2 := hm.kb.cell 2
  have q3 := hm.kb.cell 3
  have q4 := hm.kb.cell 4
  simp at q0 q1 q2 q3 q4
  have hmD := hm.drew
  have hown := hmD.own
  have hsz : R < W.heap.size := hm.rd.lt
  have hlt : R < g := hm.lt
  have hgR : (g == R) = false := by rw [beq_eq_false_iff_ne]; omega
  go_region_law (refine step_append_own rfl (.tmp 84) (.tmp 86) 22 rfl (R + 1) 78 i0 (.agg #[.int .u8 0, .string ⟨#[]⟩, .int .u64 0, .int .u16 0, .int .u16 0]) 5 40 Try.underlying22 hi hz0 hz1 hz2 rfl (by decide) v l.length (KC l) (by simp [Act.eval]) (by exact hown.alloc _) ⟨_, 0, none⟩ 1 1 (K.cells ⟨10, [], 0, M.num t2, M.num t3⟩) (by simp [Act.eval]; rfl) rfl (by refine at5 ?_ ?_ ?_ ?_ ?_ <;> simp) (one5 _) (by unfold maxLen; omega) (by omega) (by simp; omega) ?_; intro v' w' hown' hgrow; have hq := hmD.grew hown' hgrow; obtain ⟨g', cap', rfl⟩ := own_form hown' (by omega); have r5' := hq.1.cells.2.2.2.2.2; have rf' := hq.1.frozen 5; have q0' := hq.2.1.cell 0; simp at q0'; have Hq := hide hq; clear hown' hgrow hq)
  all_goals clear r0 r1 r2 r3 r4 r5 rf q0 q1 q2 q3 q4 hown hm hmD
  all_goals go_wp2
  all_goals go_end0
  all_goals exact ⟨rfl, _, _, _, _, _, unhide HCM, .inl ⟨by simp, rfl, rfl⟩, ⟨(unhide Hq).2.2.1, (unhide Hq).2.2.2.2.1, (unhide Hq).2.2.2.2.2⟩⟩
set_option maxRecDepth 100000 in
set_option maxHeartbeats 1000000 in
theorem const_11 (w0 : World) (R : Nat) (s : ByteArray) (st : St) (n : Nat) (v : Value) (l : List K) (w : World) (h : At w0 w R s st n v l) (hs : s.size ≤ 131072) (hp : st.pos ≤ s.size) (hl : l.length ≤ 65536)
    (htag : M.num (M.take s.data.toList 1 st).1 = 11) :
    Calls Try.prog 125 #[.pointer (some ⟨R, 0, none⟩)] w fun e w' => Step1 w0 R s st n l e w' := by
  obtain ⟨i0, hi, hz0, hz1, hz2⟩ := info_parts Try.info78
  have c1 := Uint8_any R s st (.int .i64 (n : Int)) v w h.rd hs hp
  have p1 := take_pos (n := 1) (s := s.data.toList) (st := st) (by simpa using hp)
  obtain ⟨t1, st1, e1⟩ : ∃ t st', M.take s.data.toList 1 st = (t, st') := ⟨_, _, rfl⟩
  obtain ⟨t2, sta, e2⟩ : ∃ t st', M.take s.data.toList 2 st1 = (t, st') := ⟨_, _, rfl⟩
  obtain ⟨t3, st2, e3⟩ : ∃ t st', M.take s.data.toList 2 sta = (t, st') := ⟨_, _, rfl⟩
  have hcm : CM s.data.toList st ⟨11, [], 0, M.num t2, M.num t3⟩ st2 := by
    unfold CM
    simp only [e1, e2, e3] at htag ⊢
    simp [htag]
  rw [e1] at c1 p1 htag
  simp only at c1 p1 htag
  rw [htag] at c1
  have p1' : st1.pos ≤ s.size := by simpa using p1
  have p2 := take_pos (n := 2) (s := s.data.toList) (st := st1) (by simpa using p1')
  have c2 := fun w2 (h2 : Rd w2 R s st1 (.int .i64 (n : Int)) v) => Uint16_any R s st1 (.int .i64 (n : Int)) v w2 h2 hs p1'
  rw [e2] at c2 p2
  simp only at c2 p2
  have p2' : sta.pos ≤ s.size := by simpa using p2
  have c3 := fun w2 (h2 : Rd w2 R s sta (.int .i64 (n : Int)) v) => Uint16_any R s sta (.int .i64 (n : Int)) v w2 h2 hs p2'
  rw [e3] at c3
  simp only at c3
  have C1 := hide c1
  have C2 := hide c2
  have C3 := hide c3
  have HCM := hide hcm
  clear c1 c2 c3 e1 e2 e3 p1 p1' p2 p2' htag hcm
  go_enter Try.func125, Try.ntmps125
  go_wp2_with fail
  refine (At_any R s st _ v w h.rd).mono ?_
  rintro e w1 ⟨rfl, hww⟩
  subst w1
  go_wp2_with fail
  refine (unhide C1).mono ?_
  rintro e w1 ⟨rfl, hr1, hg1⟩
  clear C1
  have hm := fun t => Mid.start t hr1 (own_kept h.own hg1) (below_kept h.old h.rd.lt hg1)
  have Hm := hide hm
  clear hm hr1 hg1 h
  go_wp2_with fail
  refine (unhide C2 _ (unhide Hm _).rd).mono ?_
  rintro e w2 ⟨rfl, hr2, hg2⟩
  have hm2 := (unhide Hm _).take hr2 hg2
  clear C2 Hm hr2 hg2
  obtain ⟨g, hg⟩ : ∃ g, g = w1.heap.size := ⟨_, rfl⟩
  rw [← hg] at hm2 ⊢
  clear hg
  have k0 := hm2.kb.cell 3
  have k0f := hm2.kb.frozen 3
  simp at k0
  have hm3 := hm2.set 3 _ (hm2.kb.a (M.num t2))
  have Hm3 := hide hm3
  clear hm2 hm3
  go_wp2_with fail
  generalize w2.setCell ⟨g, 3, none⟩ (.int .u16 (M.num t2 : Int)) = W3 at *
  clear k0 k0f
  have hmx := unhide Hm3
  clear Hm3
  refine (unhide C3 _ hmx.rd).mono ?_
  rintro e w3 ⟨rfl, hr3, hg3⟩
  have hm2 := hmx.take hr3 hg3
  clear C3 hmx hr3 hg3
  have k0 := hm2.kb.cell 4
  have k0f := hm2.kb.frozen 4
  simp at k0
  have hm3 := hm2.set 4 _ (hm2.kb.b (M.num t3))
  have Hm3 := hide hm3
  clear hm2 hm3
  go_wp2_with fail
  generalize w3.setCell ⟨g, 4, none⟩ (.int .u16 (M.num t3 : Int)) = W at *
  clear k0 k0f
  have hm := unhide Hm3
  clear Hm3
  obtain ⟨r0, r1, r2, r3, r4, r5⟩ := hm.rd.cells
  have rf := hm.rd.frozen 5
  have q0 := hm.kb.cell 0
  have q1 := hm.kb.cell 1
  have q2 := hm.kb.cell 2
  have q3 := hm.kb.cell 3
  have q4 := hm.kb.cell 4
  simp at q0 q1 q2 q3 q4
  have hmD := hm.drew
  have hown := hmD.own
  have hsz : R < W.heap.size := hm.rd.lt
  have hlt : R < g := hm.lt
  have hgR : (g == R) = false := by rw [beq_eq_false_iff_ne]; omega
  go_region_law (refine step_append_own rfl (.tmp 84) (.tmp 86) 22 rfl (R + 1) 78 i0 (.agg #[.int .u8 0, .string ⟨#[]⟩, .int .u64 0, .int .u16 0, .int .u16 0]) 5 40 Try.underlying22 hi hz0 hz1 hz2 rfl (by decide) v l.length (KC l) (by simp [Act.eval]) (by exact hown.alloc _) ⟨_, 0, none⟩ 1 1 (K.cells ⟨11, [], 0, M.num t2, M.num t3⟩) (by simp [Act.eval]; rfl) rfl (by refine at5 ?_ ?_ ?_ ?_ ?_ <;> simp) (one5 _) (by unfold maxLen; omega) (by omega) (by simp; omega) ?_; intro v' w' hown' hgrow; have hq := hmD.grew hown' hgrow; obtain ⟨g', cap', rfl⟩ := own_form hown' (by omega); have r5' := hq.1.cells.2.2.2.2.2; have rf' := hq.1.frozen 5; have q0' := hq.2.1.cell 0; simp at q0'; have Hq := hide hq; clear hown' hgrow hq)
  all_goals clear r0 r1 r2 r3 r4 r5 rf q0 q1 q2 q3 q4 hown hm hmD
  all_goals go_wp2
  all_goals go_end0
  all_goals exact ⟨rfl, _, _, _, _, _, unhide HCM, .inl ⟨by simp, rfl, rfl⟩, ⟨(unhide Hq).2.2.1, (unhide Hq).2.2.2.2.1, (unhide Hq).2.2.2.2.2⟩⟩
set_option maxRecDepth 100000 in
set_option maxHeartbeats 1000000 in
theorem const_12 (w0 : World) (R : Nat) (s : ByteArray) (st : St) (n : Nat) (v : Value) (l : List K) (w : World) (h : At w0 w R s st n v l) (hs : s.size ≤ 131072) (hp : st.pos ≤ s.size) (hl : l.length ≤ 65536)
    (htag : M.num (M.take s.data.toList 1 st).1 = 12) :
    Calls Try.prog 125 #[.pointer (some ⟨R, 0, none⟩)] w fun e w' => Step1 w0 R s st n l e w' := by
  obtain ⟨i0, hi, hz0, hz1, hz2⟩ := info_parts Try.info78
  have c1 := Uint8_any R s st (.int .i64 (n : Int)) v w h.rd hs hp
  have p1 := take_pos (n := 1) (s := s.data.toList) (st := st) (by simpa using hp)
  obtain ⟨t1, st1, e1⟩ : ∃ t st', M.take s.data.toList 1 st = (t, st') := ⟨_, _, rfl⟩
  obtain ⟨t2, sta, e2⟩ : ∃ t st', M.take s.data.toList 2 st1 = (t, st') := ⟨_, _, rfl⟩
  obtain ⟨t3, st2, e3⟩ : ∃ t st', M.take s.data.toList 2 sta = (t, st') := ⟨_, _, rfl⟩
  have hcm : CM s.data.toList st ⟨12, [], 0, M.num t2, M.num t3⟩ st2 := by
    unfold CM
    simp only [e1, e2, e3] at htag ⊢
    simp [htag]
  rw [e1] at c1 p1 htag
  simp only at c1 p1 htag
  rw [htag] at c1
  have p1' : st1.pos ≤ s.size := by simpa using p1
  have p2 := take_pos (n := 2) (s := s.data.toList) (st := st1) (by simpa using p1')
  have c2 := fun w2 (h2 : Rd w2 R s st1 (.int .i64 (n : Int)) v) => Uint16_any R s st1 (.int .i64 (n : Int)) v w2 h2 hs p1'
  rw [e2] at c2 p2
  simp only at c2 p2
  have p2' : sta.pos ≤ s.size := by simpa using p2
  have c3 := fun w2 (h2 : Rd w2 R s sta (.int .i64 (n : Int)) v) => Uint16_any R s sta (.int .i64 (n : Int)) v w2 h2 hs p2'
  rw [e3] at c3
  simp only at c3
  have C1 := hide c1
  have C2 := hide c2
  have C3 := hide c3
  have HCM := hide hcm
  clear c1 c2 c3 e1 e2 e3 p1 p1' p2 p2' htag hcm
  go_enter Try.func125, Try.ntmps125
  go_wp2_with fail
  refine (At_any R s st _ v w h.rd).mono ?_
  rintro e w1 ⟨rfl, hww⟩
  subst w1
  go_wp2_with fail
  refine (unhide C1).mono ?_
  rintro e w1 ⟨rfl, hr1, hg1⟩
  clear C1
  have hm := fun t => Mid.start t hr1 (own_kept h.own hg1) (below_kept h.old h.rd.lt hg1)
  have Hm := hide hm
  clear hm hr1 hg1 h
  go_wp2_with fail
  refine (unhide C2 _ (unhide Hm _).rd).mono ?_
  rintro e w2 ⟨rfl, hr2, hg2⟩
  have hm2 := (unhide Hm _).take hr2 hg2
  clear C2 Hm hr2 hg2
  obtain ⟨g, hg⟩ : ∃ g, g = w1.heap.size := ⟨_, rfl⟩
  rw [← hg] at hm2 ⊢
  clear hg
  have k0 := hm2.kb.cell 3
  have k0f := hm2.kb.frozen 3
  simp at k0
  have hm3 := hm2.set 3 _ (hm2.kb.a (M.num t2))
  have Hm3 := hide hm3
  clear hm2 hm3
  go_wp2_with fail
  generalize w2.setCell ⟨g, 3, none⟩ (.int .u16 (M.num t2 : Int)) = W3 at *
  clear k0 k0f
  have hmx := unhide Hm3
  clear Hm3
  refine (unhide C3 _ hmx.rd).mono ?_
  rintro e w3 ⟨rfl, hr3, hg3⟩
  have hm2 := hmx.take hr3 hg3
  clear C3 hmx hr3 hg3
  have k0 := hm2.kb.cell 4
  have k0f := hm2.kb.frozen 4
  simp at k0
  have hm3 := hm2.set 4 _ (hm2.kb.b (M.num t3))
  have Hm3 := hide hm3
  clear hm2 hm3
  go_wp2_with fail
  generalize w3.setCell ⟨g, 4, none⟩ (.int .u16 (M.num t3 : Int)) = W at *
  clear k0 k0f
  have hm := unhide Hm3
  clear Hm3
  obtain ⟨r0, r1, r2, r3, r4, r5⟩ := hm.rd.cells
  have rf := hm.rd.frozen 5
  have q0 := hm.kb.cell 0
  have q1 := hm.kb.cell 1
  have q2 := hm.kb.cell 2
  have q3 := hm.kb.cell 3
  have q4 := hm.kb.cell 4
  simp at q0 q1 q2 q3 q4
  have hmD := hm.drew
  have hown := hmD.own
  have hsz : R < W.heap.size := hm.rd.lt
  have hlt : R < g := hm.lt
  have hgR : (g == R) = false := by rw [beq_eq_false_iff_ne]; omega
  go_region_law (refine step_append_own rfl (.tmp 84) (.tmp 86) 22 rfl (R + 1) 78 i0 (.agg #[.int .u8 0, .string ⟨#[]⟩, .int .u64 0, .int .u16 0, .int .u16 0]) 5 40 Try.underlying22 hi hz0 hz1 hz2 rfl (by decide) v l.length (KC l) (by simp [Act.eval]) (by exact hown.alloc _) ⟨_, 0, none⟩ 1 1 (K.cells ⟨12, [], 0, M.num t2, M.num t3⟩) (by simp [Act.eval]; rfl) rfl (by refine at5 ?_ ?_ ?_ ?_ ?_ <;> simp) (one5 _) (by unfold maxLen; omega) (by omega) (by simp; omega) ?_; intro v' w' hown' hgrow; have hq := hmD.grew hown' hgrow; obtain ⟨g', cap', rfl⟩ := own_form hown' (by omega); have r5' := hq.1.cells.2.2.2.2.2; have rf' := hq.1.frozen 5; have q0' := hq.2.1.cell 0; simp at q0'; have Hq := hide hq; clear hown' hgrow hq)
  all_goals clear r0 r1 r2 r3 r4 r5 rf q0 q1 q2 q3 q4 hown hm hmD
  all_goals go_wp2
  all_goals go_end0
  all_goals exact ⟨rfl, _, _, _, _, _, unhide HCM, .inl ⟨by simp, rfl, rfl⟩, ⟨(unhide Hq).2.2.1, (unhide Hq).2.2.2.2.1, (unhide Hq).2.2.2.2.2⟩⟩
end Go.Proofs.Ytgihfcjddkpkaaa.Po
