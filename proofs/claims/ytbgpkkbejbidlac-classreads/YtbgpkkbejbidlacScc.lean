/-
  ClassReads: the walk of the statement.
-/
import Derived.Test.YtbgpkkbejbidlacMgM
import Derived.Test.YtbgpkkbejbidlacScb
namespace Go.Proofs.Ytbgpkkbejbidlac
set_option linter.unusedVariables false
open Go.RowKit
open Cl (HC FC UC MC LM Mj Own kOf hcells fcells)
namespace M
theorem reps_len {α : Type} (f : St → α × St) : ∀ (n : Nat) (st : St), (reps f n st).1.length ≤ n
  | 0, st => by simp [reps]
  | n + 1, st => by
    rw [reps]; split
    · have := reps_len f n (f st).2
      simp only [List.length_cons]; omega
    · simp
theorem reps_all {α : Type} (f : St → α × St) (I : α → Prop) (hf : ∀ st, I (f st).1) : ∀ (n : Nat) (st : St), ∀ x ∈ (reps f n st).1, I x
  | 0, st => by intro x hx; simp [reps] at hx
  | n + 1, st => by
    intro x hx
    rw [reps] at hx
    by_cases he : st.e = 0
    · rw [if_pos he] at hx
      rcases List.mem_cons.1 hx with e | h
      · rw [e]; exact hf st
      · exact reps_all f I hf n _ x h
    · rw [if_neg he] at hx; cases hx
theorem lst_len {α : Type} (s : List UInt8) (f : St → α × St) (st : St) : (lst s f st).1.length ≤ 65535 := by
  have h1 := reps_len f (rd s 2 st).1 (rd s 2 st).2
  have h2 := rd2 s st
  unfold lst
  omega
theorem atts_inv {σ : Type} {s : List UInt8} {P : List K} {A : σ → Nat → List UInt8 → Nat → St → σ × St} (I : σ → Prop) (hA : ∀ x a nm n st, I x → I (A x a nm n st).1) : ∀ (n : Nat) (x : σ) (st : St), I x → I (atts s P A n x st).1
  | 0, x, st, h => h
  | n + 1, x, st, h => by
    rw [atts]; split
    · exact atts_inv I hA n _ _ (hA _ _ _ _ _ h)
    · exact h
theorem cod_h (s : List UInt8) (P : List K) (st : St) : (cod s P st).1.handlers.length ≤ 65535 := by
  unfold cod
  exact lst_len s (hnd s) _
theorem mth_h (s : List UInt8) (P : List K) (st : St) : (mth s P st).1.code.handlers.length ≤ 65535 := by
  have h := atts_inv (s := s) (P := P) (A := once s codeName (cval s P)) (fun x => x.2.2.handlers.length ≤ 65535) (fun x a nm n y hx => by
    unfold once
    split
    · rw [show cval s P x.2 n (if x.1 = true then fail y 11 a else y) = ((true, (cod s P (if x.1 = true then fail y 11 a else y)).1), (cod s P (if x.1 = true then fail y 11 a else y)).2) by simp only [cval]]
      exact cod_h s P _
    · exact hx) (rd s 2 (three s st).2.2.2).1 (false, (false, Cd.zero)) (rd s 2 (three s st).2.2.2).2 (by simp [Cd.zero])
  rw [mth_mk]
  exact h
theorem fin_e {s : List UInt8} {st : St} (h : (fin s st).e = 0) : st.e = 0 := by
  unfold fin at h
  split at h
  · exact Classical.byContradiction fun k => by rw [fail_bad k] at h; exact k h
  · exact h
end M
theorem cls_b (s : List UInt8) (st : St) (r : Po.Res) (h : r.1.length ≤ 65536) : ClsB (Cl.M.cls s st r).1 := by
  unfold Cl.M.cls
  refine ⟨?_, ?_, ?_, ?_, ?_⟩
  · show ((Cl.M.cst s _ r).1.map kOf).length ≤ 1048576
    rw [List.length_map]
    have : (Cl.M.cst s (Cl.M.hdr s st).2.2 r).1 = r.1 := rfl
    rw [this]; omega
  · have := M.lst_len s (M.u16 s) (M.three s (Cl.M.cst s (Cl.M.hdr s st).2.2 r).2).2.2.2
    simp only; omega
  · simp only
    have := M.lst_len s (M.fld s ((Cl.M.cst s (Cl.M.hdr s st).2.2 r).1.map kOf)) (M.lst s (M.u16 s) (M.three s (Cl.M.cst s (Cl.M.hdr s st).2.2 r).2).2.2.2).2
    omega
  · simp only
    have := M.lst_len s (M.mth s ((Cl.M.cst s (Cl.M.hdr s st).2.2 r).1.map kOf)) (M.lst s (M.fld s ((Cl.M.cst s (Cl.M.hdr s st).2.2 r).1.map kOf)) (M.lst s (M.u16 s) (M.three s (Cl.M.cst s (Cl.M.hdr s st).2.2 r).2).2.2.2).2).2
    omega
  · simp only
    intro x hx
    have := M.reps_all (M.mth s ((Cl.M.cst s (Cl.M.hdr s st).2.2 r).1.map kOf)) (fun x => x.code.handlers.length ≤ 65535) (fun y => M.mth_h s _ y) _ _ x hx
    omega
def Cs.zero : Cs := ⟨0, 0, [], 0, 0, 0, [], [], []⟩
theorem zero_b : ClsB Cs.zero := ⟨by simp [Cs.zero], by simp [Cs.zero], by simp [Cs.zero], by simp [Cs.zero], fun x hx => by simp [Cs.zero] at hx⟩
theorem zero_r (w : World) : ClsR w Cs.zero (.slice none 0 0) (.slice none 0 0) (.slice none 0 0) (.slice none 0 0) [] :=
  ⟨⟨fun c hc => (by cases hc), none, 0, rfl, fun h => absurd rfl h⟩, FIn.nil, FIn.nil, FIn.nil, fun j hj => (by cases hj), rfl⟩
theorem UC_flat (l : List Nat) : UC l = l.flatMap ucells := by
  induction l with
  | nil => rfl
  | cons x l ih => rw [List.flatMap_cons, ← ih]; rfl
theorem ClsIn.read {w0 w : World} {v : Value} {l : List Po.K} {c : Cs} (h : Cl.ClsIn w0 w v l c) (hf : ∀ x ∈ l, Po.Fit x) : ∃ vp vi vf vm L, v = clsv c vp vi vf vm ∧ ClsR w c vp vi vf vm L := by
  obtain ⟨vp, vi, vf, vm, L, e, ho, hL⟩ := h.ex
  refine ⟨vp, vi, vf, vm, L, e, ⟨?_, ?_, FIn.of_row fcells_len ho.f, FIn.of_row mcells_len ho.m.row, fun j hj => FIn.of_row hcells_len (ho.m.own j hj), hL⟩⟩
  · rw [h.pool]; exact Cl.KIn.of_out ho.p hf
  · have := ho.i
    rw [UC_flat] at this
    exact FIn.of_row ucells_len this
theorem fit_of {s : List UInt8} {r : Po.Res} (h : Po.ReadRes s r) : (∀ c ∈ r.1, Po.Fit c) ∧ r.1.length ≤ 65536 := by
  have hf := Po.read_fact h
  by_cases h0 : r.2.2.1 = 0
  · exact ⟨(hf.1 h0).2.2, (hf.1 h0).2.1⟩
  · rw [(hf.2.1 h0).1]; exact ⟨fun c hc => (by cases hc), by simp⟩
/-- The class of some bytes, and what is wrong. -/
def outS (s : List UInt8) (r : Po.Res) : St := M.fin s (Cl.M.cls s ⟨0, 0, 0⟩ r).2
def outC (s : List UInt8) (r : Po.Res) : Cs := if (outS s r).e = 0 then (Cl.M.cls s ⟨0, 0, 0⟩ r).1 else Cs.zero
theorem outC_b {s q : List UInt8} {r : Po.Res} (h : Po.ReadRes q r) : ClsB (outC s r) := by
  unfold outC
  split
  · exact cls_b s _ r (fit_of h).2
  · exact zero_b
/-- What either reader gives. -/
def UR (s : List UInt8) (w : World) (x : Ending) (w' : World) : Prop :=
  ∃ r vp vi vf vm L, Po.ReadRes (Cl.M.rest s (Cl.M.hdr s ⟨0, 0, 0⟩).2.2) r ∧ x = .returned (.tuple #[clsv (outC s r) vp vi vf vm, .int .i64 ((outS s r).e : Int), .int .i64 ((if (outS s r).e = 0 then 0 else (outS s r).p : Nat) : Int)]) ∧ Below w.heap.size w w' ∧ ClsR w' (outC s r) vp vi vf vm L
theorem UR.of {s : List UInt8} {r : Po.Res} {w w' : World} {x : Ending} (hr : Po.ReadRes (Cl.M.rest s (Cl.M.hdr s ⟨0, 0, 0⟩).2.2) r) (h : Cl.ReadC s r (Cl.M.cls s ⟨0, 0, 0⟩ r).1 (outS s r) w x w') : UR s w x w' := by
  obtain ⟨v, rfl, hb, h1, h2⟩ := h
  by_cases he : (outS s r).e = 0
  · obtain ⟨vp, vi, vf, vm, L, ev, hR⟩ := ClsIn.read (h1 he) (fit_of hr).1
    have hc : outC s r = (Cl.M.cls s ⟨0, 0, 0⟩ r).1 := by unfold outC; rw [if_pos he]
    exact ⟨r, vp, vi, vf, vm, L, hr, by rw [hc, ev], hb, by rw [hc]; exact hR⟩
  · have hc : outC s r = Cs.zero := by unfold outC; rw [if_neg he]
    exact ⟨r, _, _, _, _, [], hr, by rw [hc, h2 he]; rfl, hb, by rw [hc]; exact zero_r w'⟩
theorem Read_u (s : ByteArray) (w : World) (hs : s.size ≤ 131072) : Calls Try.prog 16 #[.string s] w fun x w' => UR s.data.toList w x w' :=
  (Cl.Read_any s w hs).mono fun x w' ⟨r, hr, h⟩ => UR.of hr h
theorem RRead_u (s : ByteArray) (w : World) (hs : s.size ≤ 131072) : Calls Try.prog 17 #[.string s] w fun x w' => UR s.data.toList w x w' :=
  (RReadC_any s w hs).mono fun x w' ⟨r, hr, h⟩ => UR.of hr (by
    have hk := M.clsR_lk s.data.toList ⟨0, 0, 0⟩ r
    have hst : M.fin s.data.toList (M.clsR s.data.toList ⟨0, 0, 0⟩ r).2 = outS s.data.toList r := by unfold outS; rw [hk.1]
    rw [hst] at h
    obtain ⟨v, hx, hb, h1, h2⟩ := h
    refine ⟨v, hx, hb, fun he => ?_, h2⟩
    have he' : (Cl.M.cls s.data.toList ⟨0, 0, 0⟩ r).2.e = 0 := M.fin_e he
    rw [← hk.2 he']
    exact h1 he)
set_option maxRecDepth 100000 in
set_option maxHeartbeats 2000000 in
theorem ClassReads_main (s : ByteArray) (w : World) (hs : s.size ≤ 32768) :
    Calls Try.prog 5 #[.string s] w fun e w' => e = .returned (.bool true) ∧ Below w.heap.size w w' := by
  have HR := hide (fun W => RRead_u s W (by omega))
  have hsi : ¬ (32768 : Int) < (s.size : Int) := by omega
  go_enter Try.func5, Try.ntmps5
  go_wp2_with fail
  refine (Read_u s w (by omega)).mono ?_
  rintro e w1 ⟨r, vp, vi, vf, vm, L, hr, rfl, hb1, h1⟩
  have Hb := hide (outC_b (s := s.data.toList) hr)
  obtain ⟨c, hc⟩ : ∃ c, c = outC s.data.toList r := ⟨_, rfl⟩
  obtain ⟨y, hy⟩ : ∃ y, y = outS s.data.toList r := ⟨_, rfl⟩
  obtain ⟨pn, hpn⟩ : ∃ pn : Nat, pn = (if y.e = 0 then 0 else y.p) := ⟨_, rfl⟩
  rw [← hy, ← hpn, ← hc]
  rw [← hc] at h1 Hb
  have Hc := hide hc
  have Hy := hide hy
  have Hpn := hide hpn
  have Hr := hide hr
  clear hc hy hpn hr
  unfold clsv
  obtain ⟨pa, pc, rfl, _⟩ := h1.p.ex
  obtain ⟨ia, ic, rfl, _⟩ := h1.i
  obtain ⟨fa, fc, rfl, _⟩ := h1.f
  obtain ⟨ma, mc, rfl, _⟩ := h1.m
  obtain ⟨wX, hwX⟩ : ∃ wX, wX = w1.alloc (.cells #[.int .u16 (c.minor : Int), .int .u16 (c.major : Int), .int .u16 (c.flags : Int), .int .u16 (c.this : Int), .int .u16 (c.super : Int), .slice pa c.pool.length pc, .slice ia c.ifaces.length ic, .slice fa c.fields.length fc, .slice ma L.length mc] 44) := ⟨_, rfl⟩
  have bX : Below w1.heap.size w1 wX := by rw [hwX]; exact (Below.refl _ _).alloc (Nat.le_refl _) _
  have AX : Bk wX w1.heap.size #[.int .u16 (c.minor : Int), .int .u16 (c.major : Int), .int .u16 (c.flags : Int), .int .u16 (c.this : Int), .int .u16 (c.super : Int), .slice pa c.pool.length pc, .slice ia c.ifaces.length ic, .slice fa c.fields.length fc, .slice ma L.length mc] 44 := by rw [hwX]; exact Bk.new _ _ _
  have H1 := hide (h1.below bX)
  have HBX := hide (hb1.trans (bX.mono hb1.size))
  have HX := hide hwX
  have HAX := hide AX
  clear h1 hb1 hwX bX AX
  go_wp2_with fail
  rw [← unhide HX]
  refine (unhide HR wX).mono ?_
  rintro e w2 ⟨r', vp', vi', vf', vm', L', hr', rfl, hb2, h2⟩
  have hq : r' = r := (unhide Hr).uniq hr' ▸ rfl
  subst hq
  rw [← unhide Hc] at h2 ⊢
  rw [← unhide Hy, ← unhide Hpn]
  unfold clsv
  obtain ⟨pa', pc', rfl, _⟩ := h2.p.ex
  obtain ⟨ia', ic', rfl, _⟩ := h2.i
  obtain ⟨fa', fc', rfl, _⟩ := h2.f
  obtain ⟨ma', mc', rfl, _⟩ := h2.m
  obtain ⟨wY, hwY⟩ : ∃ wY, wY = w2.alloc (.cells #[.int .u16 (c.minor : Int), .int .u16 (c.major : Int), .int .u16 (c.flags : Int), .int .u16 (c.this : Int), .int .u16 (c.super : Int), .slice pa' c.pool.length pc', .slice ia' c.ifaces.length ic', .slice fa' c.fields.length fc', .slice ma' L'.length mc'] 44) := ⟨_, rfl⟩
  have bY : Below w2.heap.size w2 wY := by rw [hwY]; exact (Below.refl _ _).alloc (Nat.le_refl _) _
  have AY : Bk wY w2.heap.size #[.int .u16 (c.minor : Int), .int .u16 (c.major : Int), .int .u16 (c.flags : Int), .int .u16 (c.this : Int), .int .u16 (c.super : Int), .slice pa' c.pool.length pc', .slice ia' c.ifaces.length ic', .slice fa' c.fields.length fc', .slice ma' L'.length mc'] 44 := by rw [hwY]; exact Bk.new _ _ _
  have AX2 := ((unhide HAX).below hb2).below bY
  have HSC := hide (fun n => sameClass_eq c _ _ _ _ _ _ _ _ L L' (wY.drewN n) ((((unhide H1).below hb2).below bY).below ⟨rfl, rfl, rfl, Nat.le_refl _, fun _ _ => rfl⟩) ((h2.below bY).below ⟨rfl, rfl, rfl, Nat.le_refl _, fun _ _ => rfl⟩) (unhide Hb))
  unfold clsv at HSC
  have HBY := hide ((unhide HBX).trans ((hb2.trans (bY.mono hb2.size)).mono (unhide HBX).size))
  have HY := hide hwY
  have HA1 := hide AX2
  have HA2 := hide AY
  clear HR hb2 h2 hwY bY AY AX2 H1 HBX HX HAX hr' Hr Hb Hc Hy Hpn
  go_upto_region 5 with fail
  rw [← unhide HY]
  clear HY
  have p0 := (unhide HA1).cell 0
  have q0 := (unhide HA2).cell 0
  have p1 := (unhide HA1).cell 1
  have q1 := (unhide HA2).cell 1
  have p2 := (unhide HA1).cell 2
  have q2 := (unhide HA2).cell 2
  have p3 := (unhide HA1).cell 3
  have q3 := (unhide HA2).cell 3
  have p4 := (unhide HA1).cell 4
  have q4 := (unhide HA2).cell 4
  have p5 := (unhide HA1).cell 5
  have q5 := (unhide HA2).cell 5
  have p6 := (unhide HA1).cell 6
  have q6 := (unhide HA2).cell 6
  have p7 := (unhide HA1).cell 7
  have q7 := (unhide HA2).cell 7
  have p8 := (unhide HA1).cell 8
  have q8 := (unhide HA2).cell 8
  simp at p0 q0 p1 q1 p2 q2 p3 q3 p4 q4 p5 q5 p6 q6 p7 q7 p8 q8
  clear HA1 HA2
  go_wp2_with fail
  refine (unhide HSC 0).mono ?_
  rintro e w3 ⟨rfl, hb3⟩
  have HE : Hid (Below w.heap.size w w3) := (unhide HBY).trans (Below.mono ⟨hb3.os, hb3.tape, hb3.output, hb3.size, hb3.block⟩ (unhide HBY).size)
  clear HSC HBY hb3 p0 q0 p1 q1 p2 q2 p3 q3 p4 q4 p5 q5 p6 q6 p7 q7 p8 q8
  go_wp2
  go_ret
  exact ⟨rfl, unhide HE⟩
set_option maxRecDepth 100000 in
theorem ClassReads_big (s : ByteArray) (w : World) (hm : s.size ≤ maxLen) (hs : 32768 < s.size) :
    Calls Try.prog 5 #[.string s] w fun e w' => e = .returned (.bool true) ∧ Below w.heap.size w w' := by
  unfold maxLen at hm
  have hsi : (32768 : Int) < (s.size : Int) := by omega
  go_enter Try.func5, Try.ntmps5
  go_wp2
  go_ret
  exact ⟨rfl, Below.refl _ _⟩
end Go.Proofs.Ytbgpkkbejbidlac
