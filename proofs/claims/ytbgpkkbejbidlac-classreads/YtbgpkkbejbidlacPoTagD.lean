/-
  constant() of package pool's reader, tag by tag (1).
-/
import Derived.Test.YtbgpkkbejbidlacMgD
namespace Go.Proofs.Ytbgpkkbejbidlac.Po
set_option maxRecDepth 100000
open Go.RowKit
set_option maxRecDepth 100000 in
set_option maxHeartbeats 1000000 in
theorem const_1 (w0 : World) (R : Nat) (s : ByteArray) (st : St) (n : Nat) (v : Value) (l : List K) (w : World) (h : At w0 w R s st n v l) (hs : s.size ≤ 131072) (hp : st.pos ≤ s.size) (hl : l.length ≤ 65536)
    (htag : M.num (M.take s.data.toList 1 st).1 = 1) :
    Calls Try.prog 125 #[.pointer (some ⟨R, 0, none⟩)] w fun e w' => Step1 w0 R s st n l e w' := by
  obtain ⟨i0, hi, hz0, hz1, hz2⟩ := info_parts Try.info78
  have c1 := Uint8_any R s st (.int .i64 (n : Int)) v w h.rd hs hp
  have p1 := take_pos (n := 1) (s := s.data.toList) (st := st) (by simpa using hp)
  obtain ⟨t1, st1, e1⟩ : ∃ t st', M.take s.data.toList 1 st = (t, st') := ⟨_, _, rfl⟩
  have hl2 := take_len s.data.toList 2 st1
  obtain ⟨t2, sta, e2⟩ : ∃ t st', M.take s.data.toList 2 st1 = (t, st') := ⟨_, _, rfl⟩
  rw [e2] at hl2
  simp only at hl2
  have hk : M.num t2 ≤ 65535 := by have := num_lt t2; have := Nat.pow_le_pow_right (show 0 < 256 by omega) hl2; omega
  have hl3 := take_len s.data.toList (M.num t2) sta
  obtain ⟨tx, st2, e3⟩ : ∃ t st', M.take s.data.toList (M.num t2) sta = (t, st') := ⟨_, _, rfl⟩
  rw [e3] at hl3
  simp only at hl3
  have hcmY : M.IsText tx → CM s.data.toList st ⟨1, tx, 0, 0, 0⟩ st2 := fun hx => by
    unfold CM
    simp only [e1, e2, e3] at htag ⊢
    exact .inl ⟨htag, by simp, .inl ⟨hx, by simp⟩⟩
  have hcmN : ¬ M.IsText tx → CM s.data.toList st ⟨1, tx, 0, 0, 0⟩ (M.fail st2 6 st.pos) := fun hx => by
    unfold CM
    simp only [e1, e2, e3] at htag ⊢
    exact .inl ⟨htag, by simp, .inr ⟨hx, by simp⟩⟩
  rw [e1] at c1 p1 htag
  simp only at c1 p1 htag
  rw [htag] at c1
  have p1' : st1.pos ≤ s.size := by simpa using p1
  have p2 := take_pos (n := 2) (s := s.data.toList) (st := st1) (by simpa using p1')
  have c2 := fun w2 (h2 : Rd w2 R s st1 (.int .i64 (n : Int)) v) => Uint16_any R s st1 (.int .i64 (n : Int)) v w2 h2 hs p1'
  rw [e2] at c2 p2
  simp only at c2 p2
  have p2' : sta.pos ≤ s.size := by simpa using p2
  have c3 := fun w2 (h2 : Rd w2 R s sta (.int .i64 (n : Int)) v) => Take_any R s sta (.int .i64 (n : Int)) v (M.num t2) w2 h2 hs hk p2'
  rw [e3] at c3
  simp only at c3
  obtain ⟨k2, hk2⟩ : ∃ k, k = M.num t2 := ⟨_, rfl⟩
  rw [← hk2] at c2 c3 hk hl3
  have htz : (⟨tx.toArray⟩ : ByteArray).size ≤ 131072 := by show tx.toArray.size ≤ 131072; simp; omega
  have htd : (⟨tx.toArray⟩ : ByteArray).data.toList = tx := rfl
  have hwr : IntKind.i64.wrap (k2 : Int) = (k2 : Int) := by simp [IntKind.wrap, IntKind.bits, IntKind.signed]; omega
  have Hwr := hide hwr
  have C1 := hide c1
  have C2 := hide c2
  have C3 := hide c3
  have HY := hide hcmY
  have HN := hide hcmN
  clear c1 c2 c3 e1 e2 e3 p1 p1' p2 p2' htag hcmY hcmN hk2 htd hl2 hwr
  go_enter Try.func125, Try.ntmps125
  go_wp2_with fail
  refine (At_any R s st _ v w h.rd).mono ?_
  rintro e w1 ⟨rfl, hww⟩
  subst w1
  go_wp2_with fail
  refine (unhide C1).mono ?_
  rintro e w1 ⟨rfl, hr1, hg1⟩
  clear C1
  have hm := fun t => Mid.start t hr1 (own_kept h.own hg1) (below_kept h.old h.rd.lt hg1)
  have Hm := hide hm
  clear hm hr1 hg1 h
  have hmA := unhide Hm 1
  obtain ⟨g, hg⟩ : ∃ g, g = w1.heap.size := ⟨_, rfl⟩
  rw [← hg] at hmA
  go_wp2_with fail
  rw [show (w1.heap.size) = g from hg.symm]
  clear hg Hm
  generalize w1.alloc (.cells #[.int .u8 1, .string ⟨#[]⟩, .int .u64 0, .int .u16 0, .int .u16 0] 78) = W0 at *
  have hmAd := hmA.drew
  go_region_with (first | (go_at_call 57; refine (unhide C2 _ hmAd.rd).mono ?_; rintro e w2 ⟨rfl, hr2, hg2⟩; have hmB := hmAd.take hr2 hg2; clear hr2 hg2) | (go_at_call 96; rw [unhide Hwr]; refine (unhide C3 _ hmB.rd).mono ?_; rintro e w3 ⟨rfl, hr3, hg3⟩; have hmC := hmB.take hr3 hg3; have k0 := hmC.kb.cell 1; have k0f := hmC.kb.frozen 1; simp at k0; clear hr3 hg3))
  have hm3 := hmC.set 1 _ (hmC.kb.text tx)
  have Hm3 := hide hm3
  clear hm3 hmC hmB hmA hmAd C2 C3
  go_wp2_with fail
  generalize w3.setCell ⟨g, 1, none⟩ (.string ⟨tx.toArray⟩) = W1 at *
  clear k0 k0f
  have hmE := unhide Hm3
  clear Hm3
  refine (isText_any ⟨tx.toArray⟩ _ htz).mono ?_
  rintro e W ⟨⟨rfl, hx⟩ | ⟨rfl, hx⟩, hbt⟩
  · have hm := hmE.take (hmE.rd.kept (grown_of_below hbt none) (by simp)) (grown_of_below hbt (some R))
    have HCM := hide (unhide HY hx)
    clear hmE hbt HY HN
    go_wp2_with fail
    obtain ⟨r0, r1, r2, r3, r4, r5⟩ := hm.rd.cells
    have rf := hm.rd.frozen 5
    have q0 := hm.kb.cell 0
    have q1 := hm.kb.cell 1
    have q2 := hm.kb.cell 2
    have q3 := hm.kb.cell 3
    have q4 := hm.kb.cell 4
    simp at q0 q1 q2 q3 q4
    have hmD := hm.drew
    have hown := hmD.own
    have hsz : R < W.heap.size := hm.rd.lt
    have hlt : R < g := hm.lt
    have hgR : (g == R) = false := by rw [beq_eq_false_iff_ne]; omega
    go_region_law (refine step_append_own rfl (.tmp 84) (.tmp 86) 22 rfl (R + 1) 78 i0 (.agg #[.int .u8 0, .string ⟨#[]⟩, .int .u64 0, .int .u16 0, .int .u16 0]) 5 40 Try.underlying22 hi hz0 hz1 hz2 rfl (by decide) v l.length (KC l) (by simp [Act.eval]) (by exact hown.alloc _) ⟨_, 0, none⟩ 1 1 (K.cells ⟨1, tx, 0, 0, 0⟩) (by simp [Act.eval]; rfl) rfl (by refine at5 ?_ ?_ ?_ ?_ ?_ <;> simp) (one5 _) (by unfold maxLen; omega) (by omega) (by simp; omega) ?_; intro v' w' hown' hgrow; have hq := hmD.grew hown' hgrow; obtain ⟨g', cap', rfl⟩ := own_form hown' (by omega); have r5' := hq.1.cells.2.2.2.2.2; have rf' := hq.1.frozen 5; have q0' := hq.2.1.cell 0; simp at q0'; have Hq := hide hq; clear hown' hgrow hq)
    all_goals clear r0 r1 r2 r3 r4 r5 rf q0 q1 q2 q3 q4 hown hm hmD
    all_goals go_wp2
    all_goals go_end0
    all_goals exact ⟨rfl, _, _, _, _, _, unhide HCM, .inl ⟨by simp, rfl, rfl⟩, ⟨(unhide Hq).2.2.1, (unhide Hq).2.2.2.2.1, (unhide Hq).2.2.2.2.2⟩⟩
  · have hmF := hmE.take (hmE.rd.kept (grown_of_below hbt none) (by simp)) (grown_of_below hbt (some R))
    have HCM := hide (unhide HN hx)
    clear hmE hbt HY HN
    go_wp2_with fail
    refine (Fail_any R s st2 _ v 6 st.pos _ hmF.rd).mono ?_
    rintro e W2 ⟨rfl, hr2, hg2, -⟩
    have hm := hmF.take hr2 hg2
    clear hmF hr2 hg2
    go_wp2_with fail
    obtain ⟨r0, r1, r2, r3, r4, r5⟩ := hm.rd.cells
    have rf := hm.rd.frozen 5
    have q0 := hm.kb.cell 0
    have q1 := hm.kb.cell 1
    have q2 := hm.kb.cell 2
    have q3 := hm.kb.cell 3
    have q4 := hm.kb.cell 4
    simp at q0 q1 q2 q3 q4
    have hmD := hm.drew
    have hown := hmD.own
    have hsz : R < W2.heap.size := hm.rd.lt
    have hlt : R < g := hm.lt
    have hgR : (g == R) = false := by rw [beq_eq_false_iff_ne]; omega
    go_region_law (refine step_append_own rfl (.tmp 84) (.tmp 86) 22 rfl (R + 1) 78 i0 (.agg #[.int .u8 0, .string ⟨#[]⟩, .int .u64 0, .int .u16 0, .int .u16 0]) 5 40 Try.underlying22 hi hz0 hz1 hz2 rfl (by decide) v l.length (KC l) (by simp [Act.eval]) (by exact hown.alloc _) ⟨_, 0, none⟩ 1 1 (K.cells ⟨1, tx, 0, 0, 0⟩) (by simp [Act.eval]; rfl) rfl (by refine at5 ?_ ?_ ?_ ?_ ?_ <;> simp) (one5 _) (by unfold maxLen; omega) (by omega) (by simp; omega) ?_; intro v' w' hown' hgrow; have hq := hmD.grew hown' hgrow; obtain ⟨g', cap', rfl⟩ := own_form hown' (by omega); have r5' := hq.1.cells.2.2.2.2.2; have rf' := hq.1.frozen 5; have q0' := hq.2.1.cell 0; simp at q0'; have Hq := hide hq; clear hown' hgrow hq)
    all_goals clear r0 r1 r2 r3 r4 r5 rf q0 q1 q2 q3 q4 hown hm hmD
    all_goals go_wp2
    all_goals go_end0
    all_goals exact ⟨rfl, _, _, _, _, _, unhide HCM, .inl ⟨by simp, rfl, rfl⟩, ⟨(unhide Hq).2.2.1, (unhide Hq).2.2.2.2.1, (unhide Hq).2.2.2.2.2⟩⟩
end Go.Proofs.Ytbgpkkbejbidlac.Po
