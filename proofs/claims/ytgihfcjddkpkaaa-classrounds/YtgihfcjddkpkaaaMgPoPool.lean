/-
  constant() of package pool's reader, tag by tag (1).
  The pool as pool's reader reads it.
-/
import Derived.Test.YtgihfcjddkpkaaaMgPoModel
import Derived.Test.YtgihfcjddkpkaaaMgPoTagB
import Derived.Test.YtgihfcjddkpkaaaPoTagC
namespace Go.Proofs.Ytgihfcjddkpkaaa.Po
set_option maxRecDepth 100000
open Go.RowKit
set_option maxRecDepth 100000 in
set_option maxHeartbeats 1000000 in
theorem const_1 (w0 : World) (R : Nat) (s : ByteArray) (st : St) (n : Nat) (v : Value) (l : List K) (w : World) (h : At w0 w R s st n v l) (hs : s.size ≤ 131072) (hp : st.pos ≤ s.size) (hl : l.length ≤ 65536)
    (htag : M.num (M.take s.data.toList 1 st).1 = 1) :
    Calls Try.prog 125 #[.pointer (some ⟨R, 0, none⟩)] w fun e w' => Step1 w0 R s st n l e w' := by
  obtain ⟨i0, hi, hz0, hz1, hz2⟩ := info_parts Try.info78
  have c1 := Uint8_any R s st (.int .i64 (n : Int)) v w h.rd hs hp
  have p1 := take_pos (n := 1) (s := s.data.toList) (st := st) (by simpa using hp)
  obtain ⟨t1, st1, e1⟩ : ∃ t st', M.take s.data.toList 1 st = (t, st') := ⟨_, _, rfl⟩
  have hl2 := take_len s.data.toList 2 st1
  obtain ⟨t2, sta, e2⟩ : ∃ t st', M.take s.data.toList 2 st1 = (t, st') := ⟨_, _, rfl⟩
  rw [e2] at hl2
  simp only at hl2
  have hk : M.num t2 ≤ 65535 := by have := num_lt t2; have := Nat.pow_le_pow_right (show 0 < 256 by omega) hl2; omega
  have hl3 := take_len s.data.toList (M.num t2) sta
  obtain ⟨tx, st2, e3⟩ : ∃ t st', M.take s.data.toList (M.num t2) sta = (t, st') := ⟨_, _, rfl⟩
  rw [e3] at hl3
  simp only at hl3
  have hcmY : M.IsText tx → CM s.data.toList st ⟨1, tx, 0, 0, 0⟩ st2 := fun hx => by
    unfold CM
    simp only [e1, e2, e3] at htag ⊢
    exact .inl ⟨htag, by simp, .inl ⟨hx, by simp⟩⟩
  have hcmN : ¬ M.IsText tx → CM s.data.toList st ⟨1, tx, 0, 0, 0⟩ (M.fail st2 6 st.pos) := fun hx => by
    unfold CM
    simp only [e1, e2, e3] at htag ⊢
    exact .inl ⟨htag, by simp, .inr ⟨hx, by simp⟩⟩
  rw [e1] at c1 p1 htag
  simp only at c1 p1 htag
  rw [htag] at c1
  have p1' : st1.pos ≤ s.size := by simpa using p1
  have p2 := take_pos (n := 2) (s := s.data.toList) (st := st1) (by simpa using p1')
  have c2 := fun w2 (h2 : Rd w2 R s st1 (.int .i64 (n : Int)) v) => Uint16_any R s st1 (.int .i64 (n : Int)) v w2 h2 hs p1'
  rw [e2] at c2 p2
  simp only at c2 p2
  have p2' : sta.pos ≤ s.size := by simpa using p2
  have c3 := fun w2 (h2 : Rd w2 R s sta (.int .i64 (n : Int)) v) => Take_any R s sta (.int .i64 (n : Int)) v (M.num t2) w2 h2 hs hk p2'
  rw [e3] at c3
  simp only at c3
  obtain ⟨k2, hk2⟩ : ∃ k, k = M.num t2 := ⟨_, rfl⟩
  rw [← hk2] at c2 c3 hk hl3
  have htz : (⟨tx.toArray⟩ : ByteArray).size ≤ 131072 := by show tx.toArray.size ≤ 131072; simp; omega
  have htd : (⟨tx.toArray⟩ : ByteArray).data.toList = tx := rfl
  have hwr : IntKind.i64.wrap (k2 : Int) = (k2 : Int) := by simp [IntKind.wrap, IntKind.bits, IntKind.signed]; omega
  have Hwr := hide hwr
  have C1 := hide c1
  have C2 := hide c2
  have C3 := hide c3
  have HY := hide hcmY
  have HN := hide hcmN
  clear c1 c2 c3 e1 e2 e3 p1 p1' p2 p2' htag hcmY hcmN hk2 htd hl2 hwr
  go_enter Try.func125, Try.ntmps125
  go_wp2_with fail
  refine (At_any R s st _ v w h.rd).mono ?_
  rintro e w1 ⟨rfl, hww⟩
  subst w1
  go_wp2_with fail
  refine (unhide C1).mono ?_
  rintro e w1 ⟨rfl, hr1, hg1⟩
  clear C1
  have hm := fun t => Mid.start t hr1 (own_kept h.own hg1) (below_kept h.old h.rd.lt hg1)
  have Hm := hide hm
  clear hm hr1 hg1 h
  have hmA := unhide Hm 1
  obtain ⟨g, hg⟩ : ∃ g, g = w1.heap.size := ⟨_, rfl⟩
  rw [← hg] at hmA
  go_wp2_with fail
  rw [show (w1.heap.size) = g from hg.symm]
  clear hg Hm
  generalize w1.alloc (.cells #[.int .u8 1, .string ⟨#[]⟩, .int .u64 0, .int .u16 0, .int .u16 0] 78) = W0 at *
  have hmAd := hmA.drew
  go_region_with (first | (go_at_call 57; refine (unhide C2 _ hmAd.rd).mono ?_; rintro e w2 ⟨rfl, hr2, hg2⟩; have hmB := hmAd.take hr2 hg2; clear hr2 hg2) | (go_at_call 96; rw [unhide Hwr]; refine (unhide C3 _ hmB.rd).mono ?_; rintro e w3 ⟨rfl, hr3, hg3⟩; have hmC := hmB.take hr3 hg3; have k0 := hmC.kb.cell 1; have k0f := hmC.kb.frozen 1; simp at k0; clear hr3 hg3))
  have hm3 := hmC.set 1 _ (hmC.kb.text tx)
  have Hm3 := hide hm3
  clear hm3 hmC hmB hmA hmAd C2 C3
  go_wp2_with fail
  generalize w3.setCell ⟨g, 1, none⟩ (.string ⟨tx.toArray⟩) = W1 at *
  clear k0 k0f
  have hmE := unhide Hm3
  clear Hm3
  refine (isText_any ⟨tx.toArray⟩ _ htz).mono ?_
  rintro e W ⟨⟨rfl, hx⟩ | ⟨rfl, hx⟩, hbt⟩
  · have hm := hmE.take (hmE.rd.kept (grown_of_below hbt none) (by simp)) (grown_of_below hbt (some R))
    have HCM := hide (unhide HY hx)
    clear hmE hbt HY HN
    go_wp2_with fail
    obtain ⟨r0, r1, r2, r3, r4, r5⟩ := hm.rd.cells
    have rf := hm.rd.frozen 5
    have q0 := hm.kb.cell 0
    have q1 := hm.kb.cell 1
    have q2 := hm.kb.cell 2
    have q3 := hm.kb.cell 3
    have q4 := hm.kb.cell 4
    simp at q0 q1 q2 q3 q4
    have hmD := hm.drew
    have hown := hmD.own
    have hsz : R < W.heap.size := hm.rd.lt
    have hlt : R < g := hm.lt
    have hgR : (g == R) = false := by rw [beq_eq_false_iff_ne]; omega
    go_region_law (refine step_append_own rfl (.tmp 84) (.tmp 86) 22 rfl (R + 1) 78 i0 (.agg #[.int .u8 0, .string ⟨#[]⟩, .int .u64 0, .int .u16 0, .int .u16 0]) 5 40 Try.underlying22 hi hz0 hz1 hz2 rfl (by decide) v l.length (KC l) (by simp [Act.eval]) (by exact hown.alloc _) ⟨_, 0, none⟩ 1 1 (K.cells ⟨1, tx, 0, 0, 0⟩) (by simp [Act.eval]; rfl) rfl (by refine at5 ?_ ?_ ?_ ?_ ?_ <;> simp) (one5 _) (by unfold maxLen; omega) (by omega) (by simp; omega) ?_; intro v' w' hown' hgrow; have hq := hmD.grew hown' hgrow; obtain ⟨g', cap', rfl⟩ := own_form hown' (by omega); have r5' := hq.1.cells.2.2.2.2.2; have rf' := hq.1.frozen 5; have q0' := hq.2.1.cell 0; simp at q0'; have Hq := hide hq; clear hown' hgrow hq)
    all_goals clear r0 r1 r2 r3 r4 r5 rf q0 q1 q2 q3 q4 hown hm hmD
    all_goals go_wp2
    all_goals go_end0
    all_goals exact ⟨rfl, _, _, _, _, _, unhide HCM, .inl ⟨by simp, rfl, rfl⟩, ⟨(unhide Hq).2.2.1, (unhide Hq).2.2.2.2.1, (unhide Hq).2.2.2.2.2⟩⟩
  · have hmF := hmE.take (hmE.rd.kept (grown_of_below hbt none) (by simp)) (grown_of_below hbt (some R))
    have HCM := hide (unhide HN hx)
    clear hmE hbt HY HN
    go_wp2_with fail
    refine (Fail_any R s st2 _ v 6 st.pos _ hmF.rd).mono ?_
    rintro e W2 ⟨rfl, hr2, hg2, -⟩
    have hm := hmF.take hr2 hg2
    clear hmF hr2 hg2
    go_wp2_with fail
    obtain ⟨r0, r1, r2, r3, r4, r5⟩ := hm.rd.cells
    have rf := hm.rd.frozen 5
    have q0 := hm.kb.cell 0
    have q1 := hm.kb.cell 1
    have q2 := hm.kb.cell 2
    have q3 := hm.kb.cell 3
    have q4 := hm.kb.cell 4
    simp at q0 q1 q2 q3 q4
    have hmD := hm.drew
    have hown := hmD.own
    have hsz : R < W2.heap.size := hm.rd.lt
    have hlt : R < g := hm.lt
    have hgR : (g == R) = false := by rw [beq_eq_false_iff_ne]; omega
    go_region_law (refine step_append_own rfl (.tmp 84) (.tmp 86) 22 rfl (R + 1) 78 i0 (.agg #[.int .u8 0, .string ⟨#[]⟩, .int .u64 0, .int .u16 0, .int .u16 0]) 5 40 Try.underlying22 hi hz0 hz1 hz2 rfl (by decide) v l.length (KC l) (by simp [Act.eval]) (by exact hown.alloc _) ⟨_, 0, none⟩ 1 1 (K.cells ⟨1, tx, 0, 0, 0⟩) (by simp [Act.eval]; rfl) rfl (by refine at5 ?_ ?_ ?_ ?_ ?_ <;> simp) (one5 _) (by unfold maxLen; omega) (by omega) (by simp; omega) ?_; intro v' w' hown' hgrow; have hq := hmD.grew hown' hgrow; obtain ⟨g', cap', rfl⟩ := own_form hown' (by omega); have r5' := hq.1.cells.2.2.2.2.2; have rf' := hq.1.frozen 5; have q0' := hq.2.1.cell 0; simp at q0'; have Hq := hide hq; clear hown' hgrow hq)
    all_goals clear r0 r1 r2 r3 r4 r5 rf q0 q1 q2 q3 q4 hown hm hmD
    all_goals go_wp2
    all_goals go_end0
    all_goals exact ⟨rfl, _, _, _, _, _, unhide HCM, .inl ⟨by simp, rfl, rfl⟩, ⟨(unhide Hq).2.2.1, (unhide Hq).2.2.2.2.1, (unhide Hq).2.2.2.2.2⟩⟩
end Go.Proofs.Ytgihfcjddkpkaaa.Po
namespace Go.Proofs.Ytgihfcjddkpkaaa.Po
set_option maxRecDepth 100000
open Go.RowKit
theorem constant_any (w0 : World) (R : Nat) (s : ByteArray) (st : St) (n : Nat) (v : Value) (l : List K) (w : World) (h : At w0 w R s st n v l) (hs : s.size ≤ 131072) (hp : st.pos ≤ s.size) (hl : l.length ≤ 65536) :
    Calls Try.prog 125 #[.pointer (some ⟨R, 0, none⟩)] w fun e w' => Step1 w0 R s st n l e w' := by
  rcases (show M.num (M.take s.data.toList 1 st).1 = 1 ∨ M.num (M.take s.data.toList 1 st).1 = 3 ∨ M.num (M.take s.data.toList 1 st).1 = 4 ∨ M.num (M.take s.data.toList 1 st).1 = 5 ∨ M.num (M.take s.data.toList 1 st).1 = 6 ∨
    M.num (M.take s.data.toList 1 st).1 = 7 ∨ M.num (M.take s.data.toList 1 st).1 = 8 ∨ M.num (M.take s.data.toList 1 st).1 = 9 ∨ M.num (M.take s.data.toList 1 st).1 = 10 ∨ M.num (M.take s.data.toList 1 st).1 = 11 ∨
    M.num (M.take s.data.toList 1 st).1 = 12 ∨ (M.num (M.take s.data.toList 1 st).1 = 0 ∨ M.num (M.take s.data.toList 1 st).1 = 2 ∨ 12 < M.num (M.take s.data.toList 1 st).1) by omega) with h1 | h1 | h1 | h1 | h1 | h1 | h1 | h1 | h1 | h1 | h1 | h1
  · exact const_1 w0 R s st n v l w h hs hp hl h1
  · exact const_3 w0 R s st n v l w h hs hp hl h1
  · exact const_4 w0 R s st n v l w h hs hp hl h1
  · exact const_5 w0 R s st n v l w h hs hp hl h1
  · exact const_6 w0 R s st n v l w h hs hp hl h1
  · exact const_7 w0 R s st n v l w h hs hp hl h1
  · exact const_8 w0 R s st n v l w h hs hp hl h1
  · exact const_9 w0 R s st n v l w h hs hp hl h1
  · exact const_10 w0 R s st n v l w h hs hp hl h1
  · exact const_11 w0 R s st n v l w h hs hp hl h1
  · exact const_12 w0 R s st n v l w h hs hp hl h1
  · exact const_other w0 R s st n v l w h hs hp hl h1
/-- What each step keeps. -/
def Keeps (s : List UInt8) (st st' : St) : Prop := st'.pos ≤ s.length ∧ (st'.e = 0 → st'.p = st.p)
theorem keeps_take {s : List UInt8} {st : St} {n : Nat} (h : st.pos ≤ s.length) : Keeps s st (M.take s n st).2 := by
  refine ⟨take_pos h, ?_⟩
  unfold M.take; split
  · split
    · intro h; simp at h
    · intro _; rfl
  · intro _; rfl
theorem Keeps.take {s : List UInt8} {st st' : St} {n : Nat} (h : Keeps s st st') (hg : (M.take s n st').2.e = 0 → st'.e = 0) : Keeps s st (M.take s n st').2 :=
  ⟨take_pos h.1, fun he => ((keeps_take h.1).2 he).trans (h.2 (hg he))⟩
theorem take_e {s : List UInt8} {st : St} {n : Nat} (h : (M.take s n st).2.e = 0) : st.e = 0 := by
  unfold M.take at h; split at h
  · assumption
  · exact h
theorem Keeps.fail {s : List UInt8} {st st' : St} {e p : Nat} (h : Keeps s st st') (he : e ≠ 0) : Keeps s st (M.fail st' e p) := by
  refine ⟨by rw [fail_pos]; exact h.1, ?_⟩
  unfold M.fail; split
  · intro hh; exact absurd hh he
  · intro hh; exact h.2 hh
theorem CM.keeps {s : List UInt8} {st st' : St} {c : K} (hp : st.pos ≤ s.length) (h : CM s st c st') : Keeps s st st' := by
  have k1 : Keeps s st (M.take s 1 st).2 := keeps_take hp
  rcases h with ⟨_, _, h3⟩ | ⟨_, _, rfl⟩ | ⟨_, _, rfl⟩ | ⟨_, _, rfl⟩ | ⟨_, _, rfl⟩ | ⟨_, _, rfl⟩
  · rcases h3 with ⟨_, rfl⟩ | ⟨_, rfl⟩
    · exact (k1.take take_e).take take_e
    · exact ((k1.take take_e).take take_e).fail (by omega)
  · exact k1.take take_e
  · exact k1.take take_e
  · exact k1.take take_e
  · exact (k1.take take_e).take take_e
  · exact k1.fail (by omega)
def Inv (s : ByteArray) (n : Nat) (st : St) (l : List K) : Prop :=
  st.pos ≤ s.size ∧ (st.e = 0 → st.p = 0 ∧ ∀ r, Final s.data.toList n l st.pos r → Final s.data.toList n [K.zero] 2 r) ∧ (st.e ≠ 0 → Final s.data.toList n [K.zero] 2 ([], 0, st.e, st.p))
theorem fail_ne {st : St} {e p : Nat} (h : st.e ≠ 0) : M.fail st e p = st := by unfold M.fail; rw [if_neg h]
theorem Inv.step {s : ByteArray} {n : Nat} {st st' st'' : St} {l l' : List K} {c : K} (h : Inv s n st l) (he : st.e = 0) (hl : l.length < n) (hc : CM s.data.toList st c st') (ht : Tail c st' st.pos n l l' st'') : Inv s n st'' l' := by
  obtain ⟨hp, hg, -⟩ := h
  obtain ⟨hp0, hF⟩ := hg he
  have hk := hc.keeps (by simpa using hp)
  have hst : st = ⟨st.pos, 0, 0⟩ := by cases st; simp_all
  have hc' : CM s.data.toList ⟨st.pos, 0, 0⟩ c st' := by rw [← hst]; exact hc
  have hk1 : st'.pos ≤ s.size := by simpa using hk.1
  rcases ht with ⟨ht, rfl, rfl⟩ | ⟨ht, rfl, rfl⟩
  · refine ⟨hk1, fun he' => ⟨(hk.2 he').trans hp0, fun r hr => hF r (hr.one hl hc' he' ht)⟩, fun he' => hF _ (Final.bad hl hc' he')⟩
  · by_cases he' : st'.e = 0
    · by_cases hn : l.length + 1 = n
      · rw [if_pos hn]
        have hf : M.fail st' 12 st.pos = ⟨st'.pos, 12, st.pos⟩ := by unfold M.fail; rw [if_pos he']
        rw [hf]
        exact ⟨hk1, fun hh => by simp at hh, fun _ => hF _ (Final.last hl hc' he' ht (by omega))⟩
      · rw [if_neg hn]
        exact ⟨hk1, fun _ => ⟨(hk.2 he').trans hp0, fun r hr => hF r (hr.two hl hc' he' ht (by omega))⟩, fun hh => absurd he' hh⟩
    · have : (if l.length + 1 = n then M.fail st' 12 st.pos else st') = st' := by
        split
        · exact fail_ne he'
        · rfl
      rw [this]
      exact ⟨hk1, fun hh => absurd hh he', fun _ => hF _ (Final.bad hl hc' he')⟩
/-- How much the loop has before it. -/
def lenOf : Option Value → Nat | some (.slice _ n _) => n | _ => 0
def numOf : Option Value → Int | some (.int _ q) => q | _ => 0
def leftOf (n : Nat) (e : Int) (k : Nat) : Nat := if e = 0 then n + 2 - k else 0
def left (R n : Nat) (w : World) : Nat := leftOf n (numOf (w.cell? ⟨R, 2, none⟩)) (lenOf (w.cell? ⟨R, 5, none⟩))
theorem At.left {w0 w : World} {R : Nat} {s : ByteArray} {st : St} {n : Nat} {v : Value} {l : List K} (h : At w0 w R s st n v l) : left R n w = if st.e = 0 then n + 2 - l.length else 0 := by
  obtain ⟨a, c, hv⟩ := own_len h.own
  have h2 := h.rd.cells.2.2.1
  have h5 := h.rd.cells.2.2.2.2.2
  unfold Po.left
  rw [h2, h5, hv]
  show leftOf n (st.e : Int) l.length = _
  unfold leftOf
  by_cases he : st.e = 0
  · rw [if_pos he, if_pos (by omega)]
  · rw [if_neg he, if_neg (by omega)]
theorem left_step {w0 w w' : World} {R : Nat} {s : ByteArray} {st st'' : St} {n : Nat} {v v' : Value} {l l' : List K} (h : At w0 w R s st n v l) (g : At w0 w' R s st'' n v' l') (he : st.e = 0) (hl : l.length < n) (hl' : l.length < l'.length) : Po.left R n w' < Po.left R n w := by
  rw [h.left, g.left, if_pos he]
  split <;> omega
/-- What the reader holds when pool() is over. -/
def Pooled (w0 : World) (R : Nat) (s : ByteArray) (e : Ending) (w' : World) : Prop :=
  e = .returned (.tuple #[]) ∧ ∃ st n v l, At w0 w' R s st n v l ∧ (st.e = 0 → ReadRes s.data.toList (l, st.pos, 0, 0)) ∧ (st.e ≠ 0 → ReadRes s.data.toList ([], 0, st.e, st.p))
set_option maxRecDepth 100000 in
set_option maxHeartbeats 1000000 in
theorem pool_any (w0 : World) (R : Nat) (s : ByteArray) (w : World) (h : At w0 w R s ⟨0, 0, 0⟩ 0 (.slice none 0 0) []) (hs : s.size ≤ 131072) (h2 : 2 ≤ s.size) (hn0 : M.num (s.data.toList.take 2) ≠ 0) :
    Calls Try.prog 116 #[.pointer (some ⟨R, 0, none⟩)] w fun e w' => Pooled w0 R s e w' := by
  obtain ⟨i0, hi, hz0, hz1, hz2⟩ := info_parts Try.info78
  have c1 := Uint16_any R s ⟨0, 0, 0⟩ (.int .i64 ((0 : Nat) : Int)) (.slice none 0 0) w h.rd hs (Nat.zero_le _)
  have e1 : M.take s.data.toList 2 ⟨0, 0, 0⟩ = (s.data.toList.take 2, ⟨2, 0, 0⟩) := by
    unfold M.take; rw [if_pos rfl, if_neg (by simp; omega)]; simp
  rw [e1] at c1
  simp only at c1
  have hnl := num_lt (s.data.toList.take 2)
  have hnl2 : M.num (s.data.toList.take 2) ≤ 65535 := by
    have : (s.data.toList.take 2).length = 2 := by simp; omega
    rw [this] at hnl; omega
  obtain ⟨n, hn⟩ : ∃ n, n = M.num (s.data.toList.take 2) := ⟨_, rfl⟩
  rw [← hn] at c1 hnl2 hn0
  have hRR : ∀ r, Final s.data.toList n [K.zero] 2 r → ReadRes s.data.toList r := fun r hr => .inr (.inr ⟨by simpa using h2, by rw [← hn]; exact hn0, by rw [← hn]; exact hr⟩)
  have HRR := hide hRR
  have C1 := hide c1
  have hnz : ((n : Int) == 0) = false := by rw [beq_eq_false_iff_ne]; omega
  have hwr : IntKind.i64.wrap (n : Int) = (n : Int) := by simp [IntKind.wrap, IntKind.bits, IntKind.signed]; omega
  clear c1 e1 hRR hnl hn
  go_enter Try.func116, Try.ntmps116
  go_wp2_with fail
  refine (unhide C1).mono ?_
  rintro e w1 ⟨rfl, hr1, hg1⟩
  have hA := h.took hr1 hg1
  clear C1 hr1 hg1 h
  have k4 := hA.rd.cells.2.2.2.2.1
  have kf4 := hA.rd.frozen 4
  have k5 := hA.rd.cells.2.2.2.2.2
  have hsz := hA.rd.lt
  have hA2 : At w0 (w1.setCell ⟨R, 4, none⟩ (.int .i64 (n : Int))) R s ⟨2, 0, 0⟩ n (.slice none 0 0) [] :=
    ⟨hA.rd.set4 _, own_kept hA.own (grown_set w1 R 4 _), below_kept hA.old hA.rd.lt (grown_set w1 R 4 _)⟩
  have HA2 := hide hA2
  clear hA hA2
  go_wp2_with (at_builtin; refine wpList_append_own _ rfl _ _ 22 rfl (R + 1) 78 i0 (.agg #[.int .u8 0, .string ⟨#[]⟩, .int .u64 0, .int .u16 0, .int .u16 0]) 5 40 Try.underlying22 hi hz0 hz1 hz2 rfl (by decide) _ _ _ rfl ((unhide HA2).own.alloc _) ⟨w1.heap.size, 0, none⟩ 1 1 (K.cells K.zero) rfl rfl ?c1 ?c2 ?c3 ?c4 ?c5 ?_)
  case c1 => refine at5 ?_ ?_ ?_ ?_ ?_ <;> (rw [World.cell?_alloc_at _ _ _ _ (by simp)]; rfl)
  case c2 => exact one5 _
  case c3 => unfold maxLen; simp
  case c4 => simp
  case c5 => simp; omega
  intro v' w2 hown' hgrow _
  obtain ⟨q1, q2⟩ := (unhide HA2).grew hown' hgrow
  obtain ⟨g', cap', rfl⟩ := own_form hown' (by simp)
  have r5' := q1.cells.2.2.2.2.2
  have rf' := q1.frozen 5
  have Hq := hide q2
  clear hown' hgrow q1 q2 k4 kf4 k5 HA2
  go_wp2_with fail
  have hI0 : Inv s n ⟨2, 0, 0⟩ ([] ++ [K.zero]) := ⟨h2, fun _ => ⟨rfl, fun r hr => hr⟩, fun hh => absurd rfl hh⟩
  go_loopw [44] (fun _ wr => ∃ st v l, At w0 wr R s st n v l ∧ Inv s n st l) (fun _ wr => left R n wr)
  case atStart => exact ⟨_, _, _, unhide Hq, hI0⟩
  case round =>
    obtain ⟨st, v, l, hA, hI⟩ := hrel
    clear Hq hI0 r5' rf'
    obtain ⟨a, c, hv⟩ := own_len hA.own
    obtain ⟨d0, d1, d2, d3, d4, d5⟩ := hA.rd.cells
    rw [hv] at d5
    by_cases he : st.e = 0
    · by_cases hlt : l.length < n
      · have hli : (l.length : Int) < (n : Int) := by omega
        have hgood : ∀ k, Calls Try.prog 59 #[.pointer (some ⟨R, 0, none⟩)] (wr.drewN k) fun e w' => e = .returned (.bool true) ∧ w' = wr.drewN k := by
          intro k
          have := Good_any R s st (.int .i64 (n : Int)) v (wr.drewN k) (hA.rd.drewN k)
          rwa [decide_eq_true he] at this
        have Hg := hide hgood
        clear hgood
        go_wp2_with fail
        go_quiet ((go_at_call 59; exact Calls.quiet_of_same (unhide Hg _)))
        go_wp2_with fail
        have hAn : At w0 (wr.drewN nq) R s st n v l := ⟨hA.rd, hA.own, below_drewN hA.old _⟩
        refine (constant_any w0 R s st n v l (wr.drewN nq) hAn hs hI.1 (by omega)).mono ?_
        rintro e w3 ⟨rfl, c3, st3, st4, v3, l3, hc3, ht3, hA3⟩
        have hI3 := hI.step he hlt hc3 ht3
        have hll : l.length < l3.length := by
          rcases ht3 with ⟨_, rfl, _⟩ | ⟨_, rfl, _⟩ <;> simp
        have hlf := left_step hAn hA3 he hlt hll
        have hlf2 : left R n w3 < left R n wr := hlf
        have Hlf := hide hlf2
        clear hc3 ht3 hI hlf hlf2 hAn d0 d1 d2 d3 d4 d5 Hg hA he hll hli
        go_wp2
        go_roundw
        case rel => exact ⟨_, _, _, hA3, hI3⟩
        case measure => exact unhide Hlf
      · have hli : ¬ (l.length : Int) < (n : Int) := by omega
        have hlb : decide ((l.length : Int) < (n : Int)) = false := decide_eq_false hli
        have hgood : ∀ k, Calls Try.prog 59 #[.pointer (some ⟨R, 0, none⟩)] (wr.drewN k) fun e w' => e = .returned (.bool true) ∧ w' = wr.drewN k := by
          intro k
          have := Good_any R s st (.int .i64 (n : Int)) v (wr.drewN k) (hA.rd.drewN k)
          rwa [decide_eq_true he] at this
        have Hg := hide hgood
        have hfin := unhide HRR _ ((hI.2.1 he).2 _ (Final.done (by omega)))
        clear hgood
        go_wp2_with fail
        go_quiet ((go_at_call 59; exact Calls.quiet_of_same (unhide Hg _)))
        go_wp2
        go_end0
        exact ⟨rfl, st, n, v, l, ⟨hA.rd, hA.own, below_drewN hA.old _⟩, fun _ => hfin, fun hh => absurd he hh⟩
    · have hgood : ∀ k, Calls Try.prog 59 #[.pointer (some ⟨R, 0, none⟩)] (wr.drewN k) fun e w' => e = .returned (.bool false) ∧ w' = wr.drewN k := by
        intro k
        have := Good_any R s st (.int .i64 (n : Int)) v (wr.drewN k) (hA.rd.drewN k)
        rwa [decide_eq_false he] at this
      have Hg := hide hgood
      have hfin := unhide HRR _ (hI.2.2 he)
      clear hgood
      go_wp2_with fail
      go_quiet ((go_at_call 59; exact Calls.quiet_of_same (unhide Hg _)))
      go_wp2
      go_end0
      exact ⟨rfl, st, n, v, l, ⟨hA.rd, hA.own, below_drewN hA.old _⟩, fun hh => absurd hh he, fun _ => hfin⟩
set_option maxRecDepth 100000 in
set_option maxHeartbeats 1000000 in
theorem pool_bad (w0 : World) (R : Nat) (s : ByteArray) (w : World) (h : At w0 w R s ⟨0, 0, 0⟩ 0 (.slice none 0 0) []) (hs : s.size ≤ 131072) (hbad : s.size < 2 ∨ (2 ≤ s.size ∧ M.num (s.data.toList.take 2) = 0)) :
    Calls Try.prog 116 #[.pointer (some ⟨R, 0, none⟩)] w fun e w' => Pooled w0 R s e w' := by
  obtain ⟨i0, hi, hz0, hz1, hz2⟩ := info_parts Try.info78
  have c1 := Uint16_any R s ⟨0, 0, 0⟩ (.int .i64 ((0 : Nat) : Int)) (.slice none 0 0) w h.rd hs (Nat.zero_le _)
  have e1 : ∃ t st1, M.take s.data.toList 2 ⟨0, 0, 0⟩ = (t, st1) ∧ M.num t = 0 ∧ ReadRes s.data.toList ([], 0, (M.fail st1 12 0).e, (M.fail st1 12 0).p) ∧ (M.fail st1 12 0).e ≠ 0 := by
    rcases hbad with hb | ⟨hb, hz⟩
    · refine ⟨[], ⟨0, 1, s.data.toList.length⟩, ?_, rfl, .inl ⟨by simpa using hb, rfl⟩, by simp [M.fail]⟩
      unfold M.take; rw [if_pos rfl, if_pos (by simp; omega)]
    · refine ⟨s.data.toList.take 2, ⟨2, 0, 0⟩, ?_, hz, .inr (.inl ⟨by simpa using hb, hz, rfl⟩), by simp [M.fail]⟩
      unfold M.take; rw [if_pos rfl, if_neg (by simp; omega)]; simp
  obtain ⟨t, st1, e1, e2, e3, e4⟩ := e1
  rw [e1] at c1
  simp only at c1
  rw [e2] at c1
  have C1 := hide c1
  have E3 := hide e3
  clear c1 e1 e2 hbad e3
  go_enter Try.func116, Try.ntmps116
  go_wp2_with fail
  refine (unhide C1).mono ?_
  rintro e w1 ⟨rfl, hr1, hg1⟩
  have hA := h.took hr1 hg1
  clear C1 hr1 hg1 h
  have k4 := hA.rd.cells.2.2.2.2.1
  have kf4 := hA.rd.frozen 4
  have k5 := hA.rd.cells.2.2.2.2.2
  have hA2 : At w0 (w1.setCell ⟨R, 4, none⟩ (.int .i64 ((0 : Nat) : Int))) R s st1 0 (.slice none 0 0) [] :=
    ⟨hA.rd.set4 _, own_kept hA.own (grown_set w1 R 4 _), below_kept hA.old hA.rd.lt (grown_set w1 R 4 _)⟩
  have HA2 := hide hA2
  clear hA hA2
  go_wp2_with fail
  refine (Fail_any R s st1 _ _ 12 0 _ (unhide HA2).rd).mono ?_
  rintro e w3 ⟨rfl, hr3, hg3, -⟩
  have hA3 := (unhide HA2).took hr3 hg3
  clear HA2 hr3 hg3 k4 kf4 k5
  have hsz := hA3.rd.lt
  have k5 := hA3.rd.cells.2.2.2.2.2
  go_wp2_with (at_builtin; refine wpList_append_own _ rfl _ _ 22 rfl (R + 1) 78 i0 (.agg #[.int .u8 0, .string ⟨#[]⟩, .int .u64 0, .int .u16 0, .int .u16 0]) 5 40 Try.underlying22 hi hz0 hz1 hz2 rfl (by decide) _ _ _ rfl (hA3.own.alloc _) ⟨w3.heap.size, 0, none⟩ 1 1 (K.cells K.zero) rfl rfl ?c1 ?c2 ?c3 ?c4 ?c5 ?_)
  case c1 => refine at5 ?_ ?_ ?_ ?_ ?_ <;> (rw [World.cell?_alloc_at _ _ _ _ (by simp)]; rfl)
  case c2 => exact one5 _
  case c3 => unfold maxLen; simp
  case c4 => simp
  case c5 => simp; omega
  intro v' w2 hown' hgrow _
  obtain ⟨q1, q2⟩ := hA3.grew hown' hgrow
  obtain ⟨g', cap', rfl⟩ := own_form hown' (by simp)
  have r5' := q1.cells.2.2.2.2.2
  have rf' := q1.frozen 5
  have Hq := hide q2
  clear hown' hgrow q1 q2 k5 hA3
  go_wp2_with fail
  generalize w2.setCell ⟨R, 5, none⟩ (.slice (some ⟨g', 0, none⟩) 1 cap') = W at *
  have hAz := unhide Hq
  clear Hq r5' rf'
  have hgood : ∀ k, Calls Try.prog 59 #[.pointer (some ⟨R, 0, none⟩)] (W.drewN k) fun e w' => e = .returned (.bool false) ∧ w' = W.drewN k := by
    intro k
    have := Good_any R s _ (.int .i64 ((0 : Nat) : Int)) _ (W.drewN k) (hAz.rd.drewN k)
    rwa [decide_eq_false e4] at this
  have Hg := hide hgood
  clear hgood
  refine wp_loop_rounds 1 ?_
  rw [rounds_succ]
  go_wp2_with fail
  go_quiet ((go_at_call 59; exact Calls.quiet_of_same (unhide Hg _)))
  go_wp2
  go_end0
  exact ⟨rfl, _, 0, _, _, ⟨hAz.rd, hAz.own, below_drewN hAz.old _⟩, fun hh => absurd hh e4, fun _ => unhide E3⟩
end Go.Proofs.Ytgihfcjddkpkaaa.Po
