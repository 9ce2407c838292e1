/-
  instruction: one instruction, from a place on.
-/
import Derived.Test.YtddhlphbbiihjaaGreatDoorMgPKeys
namespace Go.Proofs.YtddhlphbbiihjaaGreatDoor.Dc
open Go.RowKit
/-- What reading an instruction leaves: the reader's block, what is handed out, two lists of its own. -/
structure InsDone (w w' : World) (R a : Nat) (s : ByteArray) (st : St) (c : C) (ks ts : List Int) : Prop where
  rd : Rd w' R s st
  wd : Wd w'
  grown : w.grownBy w' (some R)
  own : Own2 w' w.heap.size c.kv c.tv ks ts
  left : M.Left s.data.toList st (M.ins s.data.toList a)
  right : ∀ i q, M.ins s.data.toList a = .ok (i, q) → (i.at_ : Int) = c.at_ ∧ i.op = c.op ∧ i.wide = c.wide ∧ i.a = c.a ∧ i.b = c.b ∧ i.low = c.low ∧ i.keys = ks ∧ i.tgts = ts
theorem layOf_ok (k : Nat) : (M.layOf k).Ok := by
  unfold M.layOf Lay.Ok
  repeat' split
  all_goals (refine ⟨?_, ?_, ?_, ?_⟩ <;> (unfold F.Ok; simp [M.f0, M.fw]))
/-- The head of an instruction: its number, or none. -/
def Hdr (s : List UInt8) (a op : Nat) (wide : Bool) (st : St) : Prop :=
  (∃ b, st = ⟨b, 0, 0⟩ ∧ b ≤ s.length ∧ M.ins s a = M.body s a op wide b) ∨ (st.e ≠ 0 ∧ st.pos ≤ s.length ∧ M.kindW op wide = 0 ∧ M.ins s a = .error (st.e, st.p))
theorem hdr_one {s : List UInt8} {a : Nat} (ha : a < s.length) (h : M.num (M.take s 1 ⟨a, 0, 0⟩).1 ≠ 196) : Hdr s a (M.num (M.take s 1 ⟨a, 0, 0⟩).1) false (M.take s 1 ⟨a, 0, 0⟩).2 := by
  rw [M.take_ok (by omega)] at h ⊢
  exact .inl ⟨a + 1, rfl, by omega, by unfold M.ins; rw [if_neg h]⟩
theorem hdr_two {s : List UInt8} {a : Nat} (ha : a < s.length) (h : M.num (M.take s 1 ⟨a, 0, 0⟩).1 = 196) : Hdr s a (M.num (M.take s 1 (M.take s 1 ⟨a, 0, 0⟩).2).1) true (M.take s 1 (M.take s 1 ⟨a, 0, 0⟩).2).2 := by
  rw [M.take_ok (by omega)] at h ⊢
  simp only at h ⊢
  by_cases hl : s.length < a + 2
  · rw [M.take_no (by omega)]
    exact .inr ⟨by simp, by simp only; omega, by show M.kindW 0 true = 0; decide, by unfold M.ins; rw [if_pos h, if_pos hl]⟩
  · rw [M.take_ok (by omega)]
    exact .inl ⟨a + 2, rfl, by omega, by unfold M.ins; rw [if_pos h, if_neg hl]⟩
/-- An instruction's cells, laid into a block. -/
abbrev put8 (w : World) (b : Nat) (c : C) : World :=
  (((((((w.setCell ⟨b, 0, none⟩ (.int .i64 (c.at_ : Int))).setCell ⟨b, 1, none⟩ (.int .u8 (c.op : Int))).setCell ⟨b, 2, none⟩ (.bool c.wide)).setCell ⟨b, 3, none⟩ (.int .i64 c.a)).setCell ⟨b, 4, none⟩ (.int .i64 c.b)).setCell ⟨b, 5, none⟩ (.int .i64 c.low)).setCell ⟨b, 6, none⟩ c.kv).setCell ⟨b, 7, none⟩ c.tv
theorem Ib.setAt {w : World} {g : Nat} {c : C} (h : Ib w g c) (x : Nat) : Ib (w.setCell ⟨g, 0, none⟩ (.int .i64 (x : Int))) g { c with at_ := x } := by
  unfold Ib; rw [heap_setCell_same w g 0 _ 112 _ h]; rfl
theorem put8_row {w : World} {b : Nat} {c : C} {z : C} (h : Ib w b z) : Ib (put8 w b c) b c :=
  (((((((h.setAt c.at_).setOp c.op).setWide c.wide).setA c.a).setB c.b).setLow c.low).setK c.kv).setT c.tv
theorem put8_grown (w : World) (b : Nat) (c : C) : w.grownBy (put8 w b c) (some b) := by
  have h0 := grown_set w b 0 (.int .i64 (c.at_ : Int))
  generalize e0 : w.setCell ⟨b, 0, none⟩ (.int .i64 (c.at_ : Int)) = w0 at h0
  have h1 := grown_trans h0 (grown_set w0 b 1 (.int .u8 (c.op : Int)))
  generalize e1 : w0.setCell ⟨b, 1, none⟩ (.int .u8 (c.op : Int)) = w1 at h1
  have h2 := grown_trans h1 (grown_set w1 b 2 (.bool c.wide))
  generalize e2 : w1.setCell ⟨b, 2, none⟩ (.bool c.wide) = w2 at h2
  have h3 := grown_trans h2 (grown_set w2 b 3 (.int .i64 c.a))
  generalize e3 : w2.setCell ⟨b, 3, none⟩ (.int .i64 c.a) = w3 at h3
  have h4 := grown_trans h3 (grown_set w3 b 4 (.int .i64 c.b))
  generalize e4 : w3.setCell ⟨b, 4, none⟩ (.int .i64 c.b) = w4 at h4
  have h5 := grown_trans h4 (grown_set w4 b 5 (.int .i64 c.low))
  generalize e5 : w4.setCell ⟨b, 5, none⟩ (.int .i64 c.low) = w5 at h5
  have h6 := grown_trans h5 (grown_set w5 b 6 c.kv)
  generalize e6 : w5.setCell ⟨b, 6, none⟩ c.kv = w6 at h6
  have h7 := grown_trans h6 (grown_set w6 b 7 c.tv)
  unfold put8
  rw [e0, e1, e2, e3, e4, e5, e6]
  exact h7
theorem row_form {w : World} {B e k n : Nat} {v : Value} {xs : List Value} (h : w.ownsRow B e k v n xs) : ∃ o m c, v = .slice o m c := by
  rcases h.2 with ⟨rfl, _⟩ | ⟨g, cap, cur, rfl, _⟩
  · exact ⟨_, _, _, rfl⟩
  · exact ⟨_, _, _, rfl⟩
theorem row_base {w : World} {B B' n : Nat} {v : Value} {xs : List Value} (h : w.ownsRow B 3 1 v n xs) (hB : B' ≤ B) : w.ownsRow B' 3 1 v n xs := by
  refine ⟨h.1, ?_⟩
  rcases h.2 with h0 | ⟨g, cap, cur, rfl, h1, h2⟩
  · exact .inl h0
  · exact .inr ⟨g, cap, cur, rfl, Nat.le_trans hB h1, h2⟩
/-- Where an instruction's reading ends. -/
theorem finish {w W1 w7 : World} {R g a : Nat} {s : ByteArray} {st : St} {c z : C} {ks ts : List Int} (hR0 : R < w.heap.size) (hgA : w.grownBy W1 (some R)) (hg : g = w.heap.size + 1) (hzA : W1.heap.size = g + 1) (hm : Mid W1 w7 R g s st c) (ho : Own2 w7 W1.heap.size c.kv c.tv ks ts) (hk0 : Ib W1 w.heap.size z)
    (hl : M.Left s.data.toList st (M.ins s.data.toList a))
    (hr : ∀ i q, M.ins s.data.toList a = .ok (i, q) → (i.at_ : Int) = c.at_ ∧ i.op = c.op ∧ i.wide = c.wide ∧ i.a = c.a ∧ i.b = c.b ∧ i.low = c.low ∧ i.keys = ks ∧ i.tgts = ts) :
    Ib (put8 w7 w.heap.size c) w.heap.size c ∧ InsDone w (put8 w7 w.heap.size c) R a s st c ks ts := by
  have hk7 : Ib w7 w.heap.size z := by
    unfold Ib; rw [hm.kp.block w.heap.size (by omega) (by omega) (by omega)]; exact hk0
  have hw0 : 0 < w.heap.size := by omega
  have hp := put8_grown w7 w.heap.size c
  refine ⟨put8_row hk7, hm.rd.kept hp (by simp; omega), hm.wd.kept hp (by simp; omega), ⟨?_, ?_, ?_, ?_, fun k hk hne => ?_⟩, ?_, hl, hr⟩
  · exact hp.os.trans (hm.kp.os.trans hgA.os)
  · exact hp.tape.trans (hm.kp.tape.trans hgA.tape)
  · exact hp.output.trans (hm.kp.output.trans hgA.output)
  · exact Nat.le_trans hgA.size (Nat.le_trans hm.kp.size hp.size)
  · have hkR : k ≠ R := by simpa using hne
    rw [hp.block k (Nat.lt_of_lt_of_le hk (Nat.le_trans hgA.size hm.kp.size)) (by simp; omega), hm.kp.block k (by omega) hkR (by omega), hgA.block k hk hne]
  · have := ho.kept hp (fun b e => by cases e; omega)
    exact ⟨row_base this.k (by omega), row_base this.t (by omega), this.apart⟩
theorem sw_head {s : List UInt8} {a op b : Nat} {k : Bool} {i : I} {q : Nat} (h : M.sw s a op b k = .ok (i, q)) : i.at_ = a ∧ i.op = op ∧ i.wide = false := by
  unfold M.sw at h
  cases hp : M.pad s a (M.padN b) b with
  | error e => rw [hp] at h; cases h
  | ok p =>
    rw [hp] at h; simp only at h
    cases k
    · simp only [Bool.false_eq_true, if_false] at h
      unfold M.tab at h
      split at h
      · cases h
      · split at h
        · cases h
        · split at h
          · cases h
          · cases h; exact ⟨rfl, rfl, rfl⟩
    · simp only [if_true] at h
      unfold M.key at h
      split at h
      · cases h
      · split at h
        · cases h
        · split at h
          · cases h
          · cases h; exact ⟨rfl, rfl, rfl⟩
set_option maxRecDepth 100000 in
set_option maxHeartbeats 2000000 in
theorem instruction_any (R a : Nat) (s : ByteArray) (w : World) (hr : Rd w R s ⟨a, 0, 0⟩) (hw : Wd w) (hR : R ≠ 0) (hs : s.size ≤ 131072) (ha : a < s.size) :
    Calls Tryz.prog 88 #[.pointer (some ⟨R, 0, none⟩)] w fun x w' => ∃ st c ks ts, x = .returned (.agg c.cells) ∧ InsDone w w' R a s st c ks ts := by
  have hlen : s.data.toList.length = s.size := by simp
  have hR0 := hr.lt
  have CU := fun w1 h1 => Uint8_any R s ⟨a, 0, 0⟩ w1 h1 hs (Nat.le_of_lt ha)
  have h1 := hdr_one (s := s.data.toList) (a := a) (by omega)
  have h2 := hdr_two (s := s.data.toList) (a := a) (by omega)
  have b1 := M.num_le (M.take_len s.data.toList 1 ⟨a, 0, 0⟩)
  have hq1 := M.take_pos (n := 1) (s := s.data.toList) (st := ⟨a, 0, 0⟩) (by simp only; omega)
  obtain ⟨T1, s1, e1⟩ : ∃ T s1, M.take s.data.toList 1 ⟨a, 0, 0⟩ = (T, s1) := ⟨_, _, rfl⟩
  rw [e1] at h1 h2 b1 hq1
  simp only [e1] at CU
  simp only at h1 h2 CU b1 hq1
  have hp1 : s1.pos ≤ s.size := by omega
  have CV := fun w1 h1 => Uint8_any R s s1 w1 h1 hs hp1
  have b2 := M.num_le (M.take_len s.data.toList 1 s1)
  obtain ⟨T2, s2, e2⟩ : ∃ T s2, M.take s.data.toList 1 s1 = (T, s2) := ⟨_, _, rfl⟩
  rw [e2] at h2 b2
  simp only [e2] at CV
  simp only at h2 CV b2
  obtain ⟨o1, ho1⟩ : ∃ x, x = M.num T1 := ⟨_, rfl⟩
  obtain ⟨o2, ho2⟩ : ∃ x, x = M.num T2 := ⟨_, rfl⟩
  rw [← ho1] at h1 h2 b1
  rw [← ho2] at h2 b2
  simp only [← ho1] at CU
  simp only [← ho2] at CV
  have HU := hide CU
  have HV := hide CV
  have H1 := hide h1
  have H2 := hide h2
  have Hlen := hide hlen
  clear CU CV h1 h2 e1 e2 ho1 ho2 hlen hq1
  obtain ⟨W0, hW0⟩ : ∃ W0, W0 = w.alloc (.cells #[.int .i64 0, .int .u8 0, .bool false, .int .i64 0, .int .i64 0, .int .i64 0, .slice none 0 0, .slice none 0 0] 112) := ⟨_, rfl⟩
  have hrW : Rd W0 R s ⟨a, 0, 0⟩ := by rw [hW0]; exact hr.alloc _
  have hwW : Wd W0 := by rw [hW0]; exact hw.alloc _
  have hrb : W0.heap[w.heap.size]? = some (.cells #[.int .i64 0, .int .u8 0, .bool false, .int .i64 0, .int .i64 0, .int .i64 0, .slice none 0 0, .slice none 0 0] 112 (0, 0)) := by rw [hW0]; exact heap_alloc_new w _
  have hgW : w.grownBy W0 (some R) := by rw [hW0]; exact World.grownBy_alloc w _ _
  have Hz := hide (show W0.heap.size = w.heap.size + 1 by rw [hW0]; simp)
  go_enter Tryz.func88, Tryz.ntmps88
  go_wp2_with fail
  rw [← hW0]
  clear hW0 hr hw
  refine (At_any R s _ W0 hrW).mono ?_
  rintro e w1 ⟨rfl, hww⟩
  subst w1
  have hmA : Mid (W0.alloc (.cells (C.cells ⟨a, 0, false, 0, 0, 0, .slice none 0 0, .slice none 0 0⟩) 112)) (W0.alloc (.cells (C.cells ⟨a, 0, false, 0, 0, 0, .slice none 0 0, .slice none 0 0⟩) 112)) R W0.heap.size s ⟨a, 0, 0⟩ ⟨a, 0, false, 0, 0, 0, .slice none 0 0, .slice none 0 0⟩ :=
    ⟨hrW.alloc _, heap_alloc_new W0 _, Nat.ne_of_lt hrW.lt, hwW.alloc _, hR, by have := hwW.lt; omega, Kp.refl _ _ _⟩
  have hk0 : (W0.alloc (.cells (C.cells ⟨a, 0, false, 0, 0, 0, .slice none 0 0, .slice none 0 0⟩) 112)).heap[w.heap.size]? = some (.cells #[.int .i64 0, .int .u8 0, .bool false, .int .i64 0, .int .i64 0, .int .i64 0, .slice none 0 0, .slice none 0 0] 112 (0, 0)) := by
    rw [heap_alloc_old _ _ (by rw [unhide Hz]; omega)]; exact hrb
  have hgA : w.grownBy (W0.alloc (.cells (C.cells ⟨a, 0, false, 0, 0, 0, .slice none 0 0, .slice none 0 0⟩) 112)) (some R) := grown_trans hgW (World.grownBy_alloc _ _ _)
  have hzA : (W0.alloc (.cells (C.cells ⟨a, 0, false, 0, 0, 0, .slice none 0 0, .slice none 0 0⟩) 112)).heap.size = W0.heap.size + 1 := by simp
  have HzA := hide hzA
  simp only [C.cells] at hmA hk0 hgA HzA
  go_upto_region 2 with fail
  obtain ⟨g, hgg⟩ : ∃ g, g = W0.heap.size := ⟨_, rfl⟩
  rw [← hgg] at hmA HzA Hz ⊢
  clear hzA hrW hwW hrb hgW
  generalize W0.alloc (.cells #[.int .i64 (a : Int), .int .u8 0, .bool false, .int .i64 0, .int .i64 0, .int .i64 0, .slice none 0 0, .slice none 0 0] 112) = W1 at *
  clear hgg W0
  go_wp2_with fail
  refine (unhide HU _ hmA.rd).mono ?_
  rintro e w2 ⟨rfl, hr2, hg2⟩
  have hm2 := hmA.take hr2 hg2
  clear hr2 hg2
  have k1 := hm2.ib.cell 1
  have f1 := hm2.ib.frozen 1
  simp [C.cells] at k1
  have hm3 := hm2.set 1 _ (hm2.ib.setOp o1)
  have k1' := hm3.ib.cell 1
  simp [C.cells] at k1'
  clear hm2
  go_upto_region 3 with fail
  clear k1 f1
  generalize w2.setCell ⟨g, 1, none⟩ (.int .u8 (o1 : Int)) = W3 at *
  go_upto_if 17 with fail
  go_cut [] (fun w' => ∃ (op : Nat) (wd : Bool) (st : St), op < 256 ∧ Hid (Hdr s.data.toList a op wd st) ∧ Mid W1 w' R g s st ⟨a, op, wd, 0, 0, 0, .slice none 0 0, .slice none 0 0⟩)
  case first =>
    by_cases ho : o1 = 196
    · have h2 := unhide H2 ho
      have hb : (((o1 : Nat) : Int) == 196) = true := by rw [beq_iff_eq]; omega
      have Hh := hide h2
      clear h2 ho H1 H2
      have k2 := hm3.ib.cell 2
      have f2 := hm3.ib.frozen 2
      simp [C.cells] at k2
      have hm4 := hm3.set 2 _ (hm3.ib.setWide true)
      go_upto_region 5 with fail
      clear k2 f2 hm3
      generalize W3.setCell ⟨g, 2, none⟩ (.bool true) = W4 at *
      go_wp2_with fail
      refine (unhide HV _ hm4.rd).mono ?_
      rintro e w5 ⟨rfl, hr5, hg5⟩
      have hm5 := hm4.take hr5 hg5
      have k2 := hm5.ib.cell 1
      have f2 := hm5.ib.frozen 1
      simp [C.cells] at k2
      have hm6 := hm5.set 1 _ (hm5.ib.setOp o2)
      clear hm5 hm4 hr5 hg5
      go_wp2
      go_meet
      case rel => exact ⟨o2, true, s2, by omega, Hh, hm6⟩
    · have h2 := unhide H1 ho
      have hb : (((o1 : Nat) : Int) == 196) = false := by rw [beq_eq_false_iff_ne]; omega
      have Hh := hide h2
      clear h2 ho H1 H2
      go_wp2
      go_meet
      case rel => exact ⟨o1, false, s1, by omega, Hh, hm3⟩
  case rest =>
    clear hmA HU HV H1 H2 k1' hm3 b1 b2 hp1 s1 s2 T1 T2 o1 o2
    obtain ⟨op, wd, st, hop, Hh, hm⟩ := hcut
    have k1 := hm.ib.cell 1
    have k2 := hm.ib.cell 2
    have k0 := hm.ib.cell 0
    simp [C.cells] at k1 k2 k0
    have HK := hide (fun w => kindOf_any op wd w hop)
    obtain ⟨kk, hkk⟩ : ∃ k, k = M.kindW op wd := ⟨_, rfl⟩
    rw [← hkk] at HK
    have Hkk := hide hkk
    clear hkk
    go_wp2_with fail
    refine (unhide HK _).mono ?_
    rintro e w6 ⟨rfl, hww⟩
    subst w6
    clear HK
    by_cases h0 : kk = 0
    · have hlr : M.Left s.data.toList (M.fail st 14 a) (M.ins s.data.toList a) ∧ ∀ i q, M.ins s.data.toList a ≠ .ok (i, q) := by
        rcases unhide Hh with ⟨b, rfl, hb, he⟩ | ⟨h1, h2, h3, h4⟩
        · have hbd : M.body s.data.toList a op wd b = .error (14, a) := by unfold M.body; rw [if_pos (by rw [← unhide Hkk]; exact h0)]
          rw [he, hbd]
          exact ⟨⟨rfl, rfl, by omega, hb⟩, fun _ _ e => by cases e⟩
        · rw [h4, M.fail_bad h1]
          exact ⟨⟨rfl, rfl, h1, h2⟩, fun _ _ e => by cases e⟩
      have HL := hide hlr.1
      have HR := hide (fun i q (e : M.ins s.data.toList a = .ok (i, q)) => show (i.at_ : Int) = (a : Int) ∧ i.op = op ∧ i.wide = wd ∧ i.a = 0 ∧ i.b = 0 ∧ i.low = 0 ∧ i.keys = [] ∧ i.tgts = [] from absurd e (hlr.2 i q))
      clear hlr Hh Hkk
      subst h0
      have hmd := hm.drew
      go_wp2_with fail
      go_region_with (go_at_call 104; refine (Fail_any R s st 14 a _ hmd.rd).mono ?_; rintro e w7 ⟨rfl, hr7, hg7, hz7⟩)
      have hm7 := hmd.take hr7 hg7
      have ho7 := Own2.nil w7 W1.heap.size
      clear hr7 hg7 hz7 hmd hm
      have hrb : w7.heap[w.heap.size]? = some (.cells #[.int .i64 0, .int .u8 0, .bool false, .int .i64 0, .int .i64 0, .int .i64 0, .slice none 0 0, .slice none 0 0] 112 (0, 0)) := by
        rw [hm7.kp.block w.heap.size (by rw [unhide HzA, unhide Hz]; omega) (by omega) (by rw [unhide Hz]; omega)]; exact hk0
      have c0 := hm7.ib.cell 0
      have c1 := hm7.ib.cell 1
      have c2 := hm7.ib.cell 2
      have c3 := hm7.ib.cell 3
      have c4 := hm7.ib.cell 4
      have c5 := hm7.ib.cell 5
      have c6 := hm7.ib.cell 6
      have c7 := hm7.ib.cell 7
      simp [C.cells] at c0 c1 c2 c3 c4 c5 c6 c7
      have r0 := cell_of_row w7 w.heap.size 0 _ 112 (0, 0) hrb
      have r1 := cell_of_row w7 w.heap.size 1 _ 112 (0, 0) hrb
      have r2 := cell_of_row w7 w.heap.size 2 _ 112 (0, 0) hrb
      have r3 := cell_of_row w7 w.heap.size 3 _ 112 (0, 0) hrb
      have r4 := cell_of_row w7 w.heap.size 4 _ 112 (0, 0) hrb
      have r5 := cell_of_row w7 w.heap.size 5 _ 112 (0, 0) hrb
      have r6 := cell_of_row w7 w.heap.size 6 _ 112 (0, 0) hrb
      have r7 := cell_of_row w7 w.heap.size 7 _ 112 (0, 0) hrb
      have hfz : ∀ j, w7.frozen? ⟨w.heap.size, j, none⟩ = false := by intro j; unfold World.frozen?; simp only [hrb]; simp
      simp at r0 r1 r2 r3 r4 r5 r6 r7
      clear hrb
      go_wp2
      obtain ⟨hF1, hF2⟩ := finish (z := ⟨0, 0, false, 0, 0, 0, .slice none 0 0, .slice none 0 0⟩) hR0 hgA (unhide Hz) (unhide HzA) hm7 ho7 hk0 (unhide HL) (unhide HR)
      refine bodyPost_ret (results_cell_row Tryz.results88 _ _ w.heap.size 112 _ (0, 0) _ rfl hF1 Tryz.underlying112 rfl (by kernel_rfl)) rfl ?_
      exact ⟨_, _, _, _, rfl, hF2⟩
    · have hh := unhide Hh
      have hok : ∃ b, st = ⟨b, 0, 0⟩ ∧ b ≤ s.data.toList.length ∧ M.ins s.data.toList a = M.body s.data.toList a op wd b := by
        rcases hh with h | ⟨_, _, h3, _⟩
        · exact h
        · exact absurd (by rw [unhide Hkk]; exact h3) h0
      obtain ⟨b, rfl, hb, he⟩ := hok
      rw [unhide Hlen] at hb
      have hbd := he
      unfold M.body at hbd
      rw [← unhide Hkk, if_neg h0] at hbd
      have hwide : kk = 15 ∨ kk = 16 → wd = false := fun h => by
        cases wd
        · rfl
        · have := unhide Hkk; unfold M.kindW at this; simp only [if_true] at this; split at this
          · omega
          · split at this <;> omega
      have d0 : ((kk : Int) == 0) = false := by rw [beq_eq_false_iff_ne]; omega
      clear Hh hh he h0
      have hBz : W1.heap.size ≤ wc.heap.size := hm.kp.size
      by_cases h15 : kk = 15
      · rw [if_pos h15] at hbd
        have hwd := hwide (.inl h15)
        subst hwd
        subst h15
        have HT := hide (table_any R g b s _ wc ⟨hm.rd, hm.ib, hm.ne, hm.wd, hm.r0, hm.g0, Kp.refl _ _ _⟩ hs hb rfl rfl (by simp only; omega))
        have Hbd := hide hbd
        clear hbd hwide d0 Hkk
        go_wp2_with fail
        refine (unhide HT).mono ?_
        rintro e w7 ⟨rfl, st', tv, low, ts, ⟨hm7', ho7'⟩, hread⟩
        obtain ⟨x1, x2, x3, rfl⟩ := row_form ho7'.t
        have hm7 : Mid W1 w7 R g s st' ⟨a, op, false, 0, 0, low, .slice none 0 0, .slice x1 x2 x3⟩ := ⟨hm7'.rd, hm7'.ib, hm7'.ne, hm7'.wd, hm7'.r0, hm7'.g0, hm.kp.trans hm7'.kp⟩
        have ho7 : Own2 w7 W1.heap.size (.slice none 0 0) (.slice x1 x2 x3) [] ts := ⟨row_base ho7'.k hBz, row_base ho7'.t hBz, ho7'.apart⟩
        have HL := hide (show M.Left s.data.toList st' (M.ins s.data.toList a) by rw [unhide Hbd]; exact hread.1)
        have HR := hide (fun i q (e : M.ins s.data.toList a = .ok (i, q)) => show (i.at_ : Int) = (a : Int) ∧ i.op = op ∧ i.wide = false ∧ i.a = 0 ∧ i.b = 0 ∧ i.low = low ∧ i.keys = [] ∧ i.tgts = ts by
          rw [unhide Hbd] at e
          obtain ⟨q1, q2, q3, q4, q5⟩ := hread.2 i q e
          obtain ⟨p1, p2, p3⟩ := sw_head e
          exact ⟨by rw [p1], p2, p3, q2, q3, q1, q4, q5⟩)
        clear hread Hbd hm7' ho7' hm HT k0 k1 k2
        have hrb : w7.heap[w.heap.size]? = some (.cells #[.int .i64 0, .int .u8 0, .bool false, .int .i64 0, .int .i64 0, .int .i64 0, .slice none 0 0, .slice none 0 0] 112 (0, 0)) := by
          rw [hm7.kp.block w.heap.size (by rw [unhide HzA, unhide Hz]; omega) (by omega) (by rw [unhide Hz]; omega)]; exact hk0
        have c0 := hm7.ib.cell 0
        have c1 := hm7.ib.cell 1
        have c2 := hm7.ib.cell 2
        have c3 := hm7.ib.cell 3
        have c4 := hm7.ib.cell 4
        have c5 := hm7.ib.cell 5
        have c6 := hm7.ib.cell 6
        have c7 := hm7.ib.cell 7
        simp [C.cells] at c0 c1 c2 c3 c4 c5 c6 c7
        have r0 := cell_of_row w7 w.heap.size 0 _ 112 (0, 0) hrb
        have r1 := cell_of_row w7 w.heap.size 1 _ 112 (0, 0) hrb
        have r2 := cell_of_row w7 w.heap.size 2 _ 112 (0, 0) hrb
        have r3 := cell_of_row w7 w.heap.size 3 _ 112 (0, 0) hrb
        have r4 := cell_of_row w7 w.heap.size 4 _ 112 (0, 0) hrb
        have r5 := cell_of_row w7 w.heap.size 5 _ 112 (0, 0) hrb
        have r6 := cell_of_row w7 w.heap.size 6 _ 112 (0, 0) hrb
        have r7 := cell_of_row w7 w.heap.size 7 _ 112 (0, 0) hrb
        have hfz : ∀ j, w7.frozen? ⟨w.heap.size, j, none⟩ = false := by intro j; unfold World.frozen?; simp only [hrb]; simp
        simp at r0 r1 r2 r3 r4 r5 r6 r7
        clear hrb
        go_wp2
        obtain ⟨hF1, hF2⟩ := finish (z := ⟨0, 0, false, 0, 0, 0, .slice none 0 0, .slice none 0 0⟩) hR0 hgA (unhide Hz) (unhide HzA) hm7 ho7 hk0 (unhide HL) (unhide HR)
        refine bodyPost_ret (results_cell_row Tryz.results88 _ _ w.heap.size 112 _ (0, 0) _ rfl hF1 Tryz.underlying112 rfl (by kernel_rfl)) rfl ?_
        exact ⟨_, _, _, _, rfl, hF2⟩
      · rw [if_neg h15] at hbd
        have d15 : ((kk : Int) == 15) = false := by rw [beq_eq_false_iff_ne]; omega
        by_cases h16 : kk = 16
        · rw [if_pos h16] at hbd
          have hwd := hwide (.inr h16)
          subst hwd
          subst h16
          have HT := hide (keys_any R g b s _ wc ⟨hm.rd, hm.ib, hm.ne, hm.wd, hm.r0, hm.g0, Kp.refl _ _ _⟩ hs hb rfl rfl (by simp only; omega))
          have Hbd := hide hbd
          clear hbd hwide d0 Hkk h15 d15
          go_wp2_with fail
          refine (unhide HT).mono ?_
          rintro e w7 ⟨rfl, st', kv, tv, ks, ts, ⟨hm7', ho7'⟩, hread⟩
          obtain ⟨x1, x2, x3, rfl⟩ := row_form ho7'.t
          obtain ⟨y1, y2, y3, rfl⟩ := row_form ho7'.k
          have hm7 : Mid W1 w7 R g s st' ⟨a, op, false, 0, 0, 0, .slice y1 y2 y3, .slice x1 x2 x3⟩ := ⟨hm7'.rd, hm7'.ib, hm7'.ne, hm7'.wd, hm7'.r0, hm7'.g0, hm.kp.trans hm7'.kp⟩
          have ho7 : Own2 w7 W1.heap.size (.slice y1 y2 y3) (.slice x1 x2 x3) ks ts := ⟨row_base ho7'.k hBz, row_base ho7'.t hBz, ho7'.apart⟩
          have HL := hide (show M.Left s.data.toList st' (M.ins s.data.toList a) by rw [unhide Hbd]; exact hread.1)
          have HR := hide (fun i q (e : M.ins s.data.toList a = .ok (i, q)) => show (i.at_ : Int) = (a : Int) ∧ i.op = op ∧ i.wide = false ∧ i.a = 0 ∧ i.b = 0 ∧ i.low = 0 ∧ i.keys = ks ∧ i.tgts = ts by
            rw [unhide Hbd] at e
            obtain ⟨q1, q2, q3, q4, q5⟩ := hread.2 i q e
            obtain ⟨p1, p2, p3⟩ := sw_head e
            exact ⟨by rw [p1], p2, p3, q2, q3, q1, q4, q5⟩)
          clear hread Hbd hm7' ho7' hm HT k0 k1 k2
          have hrb : w7.heap[w.heap.size]? = some (.cells #[.int .i64 0, .int .u8 0, .bool false, .int .i64 0, .int .i64 0, .int .i64 0, .slice none 0 0, .slice none 0 0] 112 (0, 0)) := by
            rw [hm7.kp.block w.heap.size (by rw [unhide HzA, unhide Hz]; omega) (by omega) (by rw [unhide Hz]; omega)]; exact hk0
          have c0 := hm7.ib.cell 0
          have c1 := hm7.ib.cell 1
          have c2 := hm7.ib.cell 2
          have c3 := hm7.ib.cell 3
          have c4 := hm7.ib.cell 4
          have c5 := hm7.ib.cell 5
          have c6 := hm7.ib.cell 6
          have c7 := hm7.ib.cell 7
          simp [C.cells] at c0 c1 c2 c3 c4 c5 c6 c7
          have r0 := cell_of_row w7 w.heap.size 0 _ 112 (0, 0) hrb
          have r1 := cell_of_row w7 w.heap.size 1 _ 112 (0, 0) hrb
          have r2 := cell_of_row w7 w.heap.size 2 _ 112 (0, 0) hrb
          have r3 := cell_of_row w7 w.heap.size 3 _ 112 (0, 0) hrb
          have r4 := cell_of_row w7 w.heap.size 4 _ 112 (0, 0) hrb
          have r5 := cell_of_row w7 w.heap.size 5 _ 112 (0, 0) hrb
          have r6 := cell_of_row w7 w.heap.size 6 _ 112 (0, 0) hrb
          have r7 := cell_of_row w7 w.heap.size 7 _ 112 (0, 0) hrb
          have hfz : ∀ j, w7.frozen? ⟨w.heap.size, j, none⟩ = false := by intro j; unfold World.frozen?; simp only [hrb]; simp
          simp at r0 r1 r2 r3 r4 r5 r6 r7
          clear hrb
          go_wp2
          obtain ⟨hF1, hF2⟩ := finish (z := ⟨0, 0, false, 0, 0, 0, .slice none 0 0, .slice none 0 0⟩) hR0 hgA (unhide Hz) (unhide HzA) hm7 ho7 hk0 (unhide HL) (unhide HR)
          refine bodyPost_ret (results_cell_row Tryz.results88 _ _ w.heap.size 112 _ (0, 0) _ rfl hF1 Tryz.underlying112 rfl (by kernel_rfl)) rfl ?_
          exact ⟨_, _, _, _, rfl, hF2⟩
        · rw [if_neg h16] at hbd
          have d16 : ((kk : Int) == 16) = false := by rw [beq_eq_false_iff_ne]; omega
          obtain ⟨hpl1, hpl2⟩ := M.plain_left (s := s.data.toList) (a := a) (op := op) (b := b) (w := wd) (L := M.layOf kk) (by rw [unhide Hlen]; exact hb)
          have HLy := hide (fun w h => layoutOf_any kk w h)
          have hok := layOf_ok kk
          have HP1 := hide hpl1
          have HP2 := hide hpl2
          have Hbd := hide hbd
          clear hpl1 hpl2 hbd hwide Hkk h15 h16
          obtain ⟨L, hL⟩ : ∃ L, L = M.layOf kk := ⟨_, rfl⟩
          rw [← hL] at HP1 HP2 hok Hbd
          have HLz := hide hL
          clear hL
          go_wp2_with fail
          refine (unhide HLy _ hm.wd).mono ?_
          rintro e w6 ⟨rfl, hb6⟩
          rw [← unhide HLz]
          have hm6 := hm.below hb6
          have hB6 : W1.heap.size ≤ w6.heap.size := hm6.kp.size
          have HO := hide (operands_any R g W1.heap.size s ⟨b, 0, 0⟩ _ L w6 ⟨hm6.rd, hm6.ib, hm6.ne, hm6.wd, hm6.r0, hm6.g0, Kp.refl _ _ _⟩ hs hb hok rfl rfl hB6 (by rw [unhide HzA]; omega) (by rw [unhide HzA, unhide Hz]; omega) (by simp only; omega))
          clear hm hb6 HLy k0 k1 k2 HLz
          unfold Lay.val at *
          go_wp2_with fail
          refine (unhide HO).mono ?_
          rintro e w7 ⟨rfl, c', ⟨hm7', ho7⟩, q1, q2, q3, q4, q5, q6⟩
          obtain ⟨a', op', wd', x1, x2, x3, kv, tv⟩ := c'
          simp only at q1 q2 q3 q4 q5 q6 ho7
          have q1' := q1.symm
          have q2' := q2.symm
          have q3' := q3.symm
          subst q1' q2' q3' q4 q5 q6
          obtain ⟨y1, y2, y3, rfl⟩ := row_form ho7.k
          obtain ⟨z1, z2, z3, rfl⟩ := row_form ho7.t
          have hm7 : Mid W1 w7 R g s (M.after s.data.toList a L ⟨b, 0, 0⟩) ⟨a, op, wd, (M.made s.data.toList a op wd L ⟨b, 0, 0⟩).a, (M.made s.data.toList a op wd L ⟨b, 0, 0⟩).b, 0, .slice y1 y2 y3, .slice z1 z2 z3⟩ := ⟨hm7'.rd, hm7'.ib, hm7'.ne, hm7'.wd, hm7'.r0, hm7'.g0, hm6.kp.trans hm7'.kp⟩
          have HL := hide (show M.Left s.data.toList (M.after s.data.toList a L ⟨b, 0, 0⟩) (M.ins s.data.toList a) by rw [unhide Hbd]; exact unhide HP1)
          have HR := hide (fun i q (e : M.ins s.data.toList a = .ok (i, q)) => show (i.at_ : Int) = (a : Int) ∧ i.op = op ∧ i.wide = wd ∧ i.a = (M.made s.data.toList a op wd L ⟨b, 0, 0⟩).a ∧ i.b = (M.made s.data.toList a op wd L ⟨b, 0, 0⟩).b ∧ i.low = 0 ∧ i.keys = (M.made s.data.toList a op wd L ⟨b, 0, 0⟩).keys ∧ i.tgts = (M.made s.data.toList a op wd L ⟨b, 0, 0⟩).tgts by
            rw [unhide Hbd] at e
            rw [unhide HP2 i q e]
            exact ⟨rfl, rfl, rfl, rfl, rfl, rfl, rfl, rfl⟩)
          obtain ⟨xa, hxa⟩ : ∃ x, x = (M.made s.data.toList a op wd L ⟨b, 0, 0⟩).a := ⟨_, rfl⟩
          obtain ⟨xb, hxb⟩ : ∃ x, x = (M.made s.data.toList a op wd L ⟨b, 0, 0⟩).b := ⟨_, rfl⟩
          obtain ⟨ks, hks⟩ : ∃ x, x = (M.made s.data.toList a op wd L ⟨b, 0, 0⟩).keys := ⟨_, rfl⟩
          obtain ⟨ts, hts⟩ : ∃ x, x = (M.made s.data.toList a op wd L ⟨b, 0, 0⟩).tgts := ⟨_, rfl⟩
          rw [← hxa, ← hxb] at hm7 HR
          rw [← hks, ← hts] at HR ho7
          clear HP1 HP2 Hbd hm7' hm6 HO hxa hxb hks hts
          have hrb : w7.heap[w.heap.size]? = some (.cells #[.int .i64 0, .int .u8 0, .bool false, .int .i64 0, .int .i64 0, .int .i64 0, .slice none 0 0, .slice none 0 0] 112 (0, 0)) := by
            rw [hm7.kp.block w.heap.size (by rw [unhide HzA, unhide Hz]; omega) (by omega) (by rw [unhide Hz]; omega)]; exact hk0
          have c0 := hm7.ib.cell 0
          have c1 := hm7.ib.cell 1
          have c2 := hm7.ib.cell 2
          have c3 := hm7.ib.cell 3
          have c4 := hm7.ib.cell 4
          have c5 := hm7.ib.cell 5
          have c6 := hm7.ib.cell 6
          have c7 := hm7.ib.cell 7
          simp [C.cells] at c0 c1 c2 c3 c4 c5 c6 c7
          have r0 := cell_of_row w7 w.heap.size 0 _ 112 (0, 0) hrb
          have r1 := cell_of_row w7 w.heap.size 1 _ 112 (0, 0) hrb
          have r2 := cell_of_row w7 w.heap.size 2 _ 112 (0, 0) hrb
          have r3 := cell_of_row w7 w.heap.size 3 _ 112 (0, 0) hrb
          have r4 := cell_of_row w7 w.heap.size 4 _ 112 (0, 0) hrb
          have r5 := cell_of_row w7 w.heap.size 5 _ 112 (0, 0) hrb
          have r6 := cell_of_row w7 w.heap.size 6 _ 112 (0, 0) hrb
          have r7 := cell_of_row w7 w.heap.size 7 _ 112 (0, 0) hrb
          have hfz : ∀ j, w7.frozen? ⟨w.heap.size, j, none⟩ = false := by intro j; unfold World.frozen?; simp only [hrb]; simp
          simp at r0 r1 r2 r3 r4 r5 r6 r7
          clear hrb
          go_wp2
          obtain ⟨hF1, hF2⟩ := finish (z := ⟨0, 0, false, 0, 0, 0, .slice none 0 0, .slice none 0 0⟩) hR0 hgA (unhide Hz) (unhide HzA) hm7 ho7 hk0 (unhide HL) (unhide HR)
          refine bodyPost_ret (results_cell_row Tryz.results88 _ _ w.heap.size 112 _ (0, 0) _ rfl hF1 Tryz.underlying112 rfl (by kernel_rfl)) rfl ?_
          exact ⟨_, _, _, _, rfl, hF2⟩
end Go.Proofs.YtddhlphbbiihjaaGreatDoor.Dc
