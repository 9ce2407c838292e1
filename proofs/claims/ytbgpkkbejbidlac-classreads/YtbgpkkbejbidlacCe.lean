/-
  The reference: a field.
-/
import Derived.Test.YtbgpkkbejbidlacCz
import Derived.Test.YtbgpkkbejbidlacCo
namespace Go.Proofs.Ytbgpkkbejbidlac
set_option linter.unusedVariables false
open Go.RowKit
/-- Something in the making, of a type of structs: its block, the block of what is handed back, the reading, the pool. -/
structure FW (t : TypeId) (zs : Array Value) (w0 w : World) (Q C : Nat) (pv : Value) (s : ByteArray) (P : List K) (st : St) (cs : Array Value) : Prop where
  rg : Rg w Q C pv s st
  f : Bk w (w0.heap.size + 1) cs t
  q : Bk w w0.heap.size zs t
  gr : w0.grownBy w (some C)
  k : KIn w pv P
  lt : C < w0.heap.size
  lq : Q < w0.heap.size
  off : Cl.Off w0 C pv P
section
variable {t : TypeId} {zs : Array Value} {w0 w w' : World} {Q C : Nat} {pv : Value} {s : ByteArray} {P : List K} {st st' : St} {cs : Array Value}
theorem FW.ofc (h : FW t zs w0 w Q C pv s P st cs) : Ofc C pv P := fun hne b o n c e => (h.off hne b o n c e).1
theorem FW.step (h : FW t zs w0 w Q C pv s P st cs) (hr : Rg w' Q C pv s st') (hg : w.grownBy w' (some C)) : FW t zs w0 w' Q C pv s P st' cs := by
  have h1 := h.lt
  exact ⟨hr, h.f.kept hg (fun e => by cases e; omega), h.q.kept hg (fun e => by cases e; omega), grown_trans h.gr hg, h.ofc.kept h.k hg, h.lt, h.lq, h.off⟩
theorem FW.set (h : FW t zs w0 w Q C pv s P st cs) (i : Nat) (v : Value) : FW t zs w0 (w.setCell ⟨w0.heap.size + 1, i, none⟩ v) Q C pv s P st (cs.setIfInBounds i v) := by
  have h1 := h.lt
  have h2 := h.lq
  refine ⟨⟨h.rg.q.other i v (by omega), ?_, h.rg.pos⟩, h.f.set i v, h.q.other i v (by omega), grown_new h.gr (by omega) i v, h.k.kept (grown_set w _ i v) (fun hne b o n c e => ?_), h.lt, h.lq, h.off⟩
  · exact h.rg.c.kept (grown_set w _ i v) (by simp only [ne_eq, Option.some.injEq]; omega)
  · have := (h.off hne b o n c e).2
    simp only [ne_eq, Option.some.injEq]; omega
theorem FW.setq (h : FW t zs w0 w Q C pv s P st cs) (i : Nat) (v : Value) : FW t (zs.setIfInBounds i v) w0 (w.setCell ⟨w0.heap.size, i, none⟩ v) Q C pv s P st cs := by
  have h1 := h.lt
  have h2 := h.lq
  refine ⟨⟨h.rg.q.other i v (by omega), ?_, h.rg.pos⟩, h.f.other i v (by omega), h.q.set i v, grown_new h.gr (by omega) i v, h.k.kept (grown_set w _ i v) (fun hne b o n c e => ?_), h.lt, h.lq, h.off⟩
  · exact h.rg.c.kept (grown_set w _ i v) (by simp only [ne_eq, Option.some.injEq]; omega)
  · have := (h.off hne b o n c e).2
    simp only [ne_eq, Option.some.injEq]; omega
end
/-- Where the reference's reading of attributes stands. -/
def Asr {σ : Type} (s : List UInt8) (P : List K) (A : σ → Nat → List UInt8 → Nat → St → σ × St) (n : Nat) (x0 : σ) (st0 : St) (m : Nat) (x : σ) (st : St) : Prop := M.attsR s P A n x0 st0 = M.attsR s P A m x st
section
variable {σ : Type} {s : List UInt8} {P : List K} {A : σ → Nat → List UInt8 → Nat → St → σ × St} {n m : Nat} {x0 x : σ} {st0 st : St}
theorem Asr.step (h : Asr s P A n x0 st0 (m + 1) x st) (he : st.e = 0) : Asr s P A n x0 st0 m (M.attR s P A x st).1 (M.attR s P A x st).2 := by
  unfold Asr at h ⊢; rw [h, M.attsR, if_pos he]
theorem Asr.stop (h : Asr s P A n x0 st0 m x st) (he : st.e ≠ 0) : M.attsR s P A n x0 st0 = (x, st) := by
  unfold Asr at h; rw [h]; exact M.attsR_bad he
theorem Asr.done (h : Asr s P A n x0 st0 0 x st) : M.attsR s P A n x0 st0 = (x, st) := h
end
/-- What is to be known of an attribute that is met. -/
theorem hd_lt (s : List UInt8) (P : List K) (st : St) : (M.hd s P st).1 < 4294967296 := by
  unfold M.hd; have := M.num_le (M.take_len s 4 (if M.tag P ((M.rd s 2 st).1 : Int) = 1 then (M.rd s 2 st).2 else M.fail (M.rd s 2 st).2 7 st.pos)); simpa [M.rd] using this
theorem hd_pos {s : List UInt8} {P : List K} {st : St} (h : st.pos ≤ s.length) : (M.hd s P st).2.pos ≤ s.length := by
  unfold M.hd
  refine M.rd_pos ?_
  split
  · exact M.rd_pos h
  · rw [M.fail_pos]; exact M.rd_pos h
set_option maxRecDepth 100000 in
set_option maxHeartbeats 2000000 in
theorem rfield_any (Q C : Nat) (pv : Value) (s : ByteArray) (P : List K) (st : St) (w : World) (h : Rg w Q C pv s st) (hs : s.size ≤ 131072) (hP : P.length ≤ 1048576) (hk : KIn w pv P) (hoff : Cl.Off w C pv P) :
    Calls Try.prog 41 #[.pointer (some ⟨Q, 0, none⟩)] w fun x w' => x = .returned (.agg #[.int .u16 ((M.fldR s.data.toList P st).1.flags : Int), .int .u16 ((M.fldR s.data.toList P st).1.name : Int), .int .u16 ((M.fldR s.data.toList P st).1.type_ : Int), .int .u16 ((M.fldR s.data.toList P st).1.value : Int)]) ∧ Rg w' Q C pv s (M.fldR s.data.toList P st).2 ∧ w.grownBy w' (some C) ∧ KIn w' pv P := by
  have hCl := h.c.lt
  have hQl := h.q.lt
  have hl : s.data.toList.length = s.size := by simp
  have hp4 : (M.rd s.data.toList 2 (M.rd s.data.toList 2 (M.rd s.data.toList 2 (M.rd s.data.toList 2 st).2).2).2).2.pos ≤ s.data.toList.length := M.rd_pos (M.rd_pos (M.rd_pos (M.rd_pos h.pos)))
  have c1 := M.rd2 s.data.toList st
  have HU1 := hide (fun W hW => index_any Q C pv s st W hW hs)
  obtain ⟨a, st1, e1⟩ : ∃ a b, M.rd s.data.toList 2 st = (a, b) := ⟨_, _, rfl⟩
  rw [e1] at c1 HU1 hp4
  simp only at c1 HU1 hp4
  have c2 := M.rd2 s.data.toList st1
  have HU2 := hide (fun W hW => index_any Q C pv s st1 W hW hs)
  obtain ⟨b, st2, e2⟩ : ∃ a b, M.rd s.data.toList 2 st1 = (a, b) := ⟨_, _, rfl⟩
  rw [e2] at c2 HU2 hp4
  simp only at c2 HU2 hp4
  have c3 := M.rd2 s.data.toList st2
  have HU3 := hide (fun W hW => index_any Q C pv s st2 W hW hs)
  obtain ⟨c, st3, e3⟩ : ∃ a b, M.rd s.data.toList 2 st2 = (a, b) := ⟨_, _, rfl⟩
  rw [e3] at c3 HU3 hp4
  simp only at c3 HU3 hp4
  have c4 := M.rd2 s.data.toList st3
  have HU4 := hide (fun W (hW : Rg W Q C pv s st3) => cnum_any C s st3 2 W hW.c hs (by omega) hW.pos)
  have hthree : M.three s.data.toList st = (a, b, c, st3) := by unfold M.three; simp only [e1, e2, e3]
  have hN : M.attsNR s.data.toList P (M.once s.data.toList M.cvName (M.fval s.data.toList)) (false, 0) st3 = M.attsR s.data.toList P (M.once s.data.toList M.cvName (M.fval s.data.toList)) (M.rd s.data.toList 2 st3).1 (false, 0) (M.rd s.data.toList 2 st3).2 := rfl
  obtain ⟨n, st4, e4⟩ : ∃ a b, M.rd s.data.toList 2 st3 = (a, b) := ⟨_, _, rfl⟩
  rw [e4] at c4 HU4 hN hp4
  simp only at c4 HU4 hN hp4
  obtain ⟨z, hz⟩ : ∃ z, z = M.attsR s.data.toList P (M.once s.data.toList M.cvName (M.fval s.data.toList)) n (false, 0) st4 := ⟨_, rfl⟩
  have hfld : M.fldR s.data.toList P st = (⟨a, b, c, z.1.2⟩, z.2) := by
    unfold M.fldR
    simp only [hthree]
    rw [hN, ← hz]
  rw [hfld]
  simp only
  have HZ := hide hz
  obtain ⟨wA, hwA⟩ : ∃ wA, wA = (w.alloc (.cells #[.int .u16 0, .int .u16 0, .int .u16 0, .int .u16 0] 95)).alloc (.cells #[.int .u16 0, .int .u16 0, .int .u16 0, .int .u16 0] 95) := ⟨_, rfl⟩
  have HA : Hid (FW 95 #[.int .u16 0, .int .u16 0, .int .u16 0, .int .u16 0] w wA Q C pv s P st #[.int .u16 0, .int .u16 0, .int .u16 0, .int .u16 0]) := by
    have hb1 : Below w.heap.size w (w.alloc (.cells #[.int .u16 0, .int .u16 0, .int .u16 0, .int .u16 0] 95)) := (Below.refl _ _).alloc (Nat.le_refl _) _
    have hb2 : Below w.heap.size w wA := by rw [hwA]; exact hb1.alloc hb1.size _
    refine ⟨h.kept hb2, ?_, ?_, grown_of_below hb2 _, hk.below hb2, hCl, hQl, hoff⟩
    · rw [hwA]; have := Bk.new (w.alloc (.cells #[.int .u16 0, .int .u16 0, .int .u16 0, .int .u16 0] 95)) #[.int .u16 0, .int .u16 0, .int .u16 0, .int .u16 0] 95; simpa using this
    · rw [hwA]; exact (Bk.new _ _ _).alloc _
  have HwA := hide hwA
  clear e1 e2 e3 e4 hthree hN hz hfld hwA h hk
  obtain ⟨pad, pcap, epv, _⟩ := (unhide HA).k.ex
  subst epv
  go_enter Try.func41, Try.ntmps41
  go_upto_region 2 with fail
  rw [← unhide HwA]
  clear HwA
  go_wp2_with fail
  refine (unhide HU1 _ (unhide HA).rg).mono ?_
  rintro e w1 ⟨rfl, hr1, hg1⟩
  have F1 := (unhide HA).step hr1 hg1
  have q0 := F1.f.cell 0
  have qf := F1.f.frozen
  simp at q0
  have F1' := F1.set 0 (.int .u16 (a : Int))
  have H1 := hide F1'
  clear HU1 HA hr1 hg1 F1 F1'
  go_wp2_with fail
  refine (unhide HU2 _ (unhide H1).rg).mono ?_
  rintro e w2 ⟨rfl, hr2, hg2⟩
  have F2 := (unhide H1).step hr2 hg2
  clear q0 qf
  have q1 := F2.f.cell 1
  have qf := F2.f.frozen
  simp at q1
  have H2 := hide (F2.set 1 (.int .u16 (b : Int)))
  clear HU2 H1 hr2 hg2 F2
  go_wp2_with fail
  refine (unhide HU3 _ (unhide H2).rg).mono ?_
  rintro e w3 ⟨rfl, hr3, hg3⟩
  have F3 := (unhide H2).step hr3 hg3
  clear q1 qf
  have q2 := F3.f.cell 2
  have qf := F3.f.frozen
  simp at q2
  obtain ⟨w4, hw4⟩ : ∃ w4, w4 = w3.setCell ⟨w.heap.size + 1, 2, none⟩ (.int .u16 (c : Int)) := ⟨_, rfl⟩
  have H3 : Hid (FW 95 #[.int .u16 0, .int .u16 0, .int .u16 0, .int .u16 0] w w4 Q C (.slice pad P.length pcap) s P st3 #[.int .u16 (a : Int), .int .u16 (b : Int), .int .u16 (c : Int), .int .u16 0]) := by rw [hw4]; exact F3.set 2 (.int .u16 (c : Int))
  have Hw4 := hide hw4
  clear HU3 H2 hr3 hg3 F3 hw4
  go_upto_region 6 with fail
  rw [← unhide Hw4]
  clear Hw4 q2 qf
  have k0 := (unhide H3).rg.k0
  go_wp2_with fail
  refine (unhide HU4 _ (unhide H3).rg).mono ?_
  rintro e w5 ⟨rfl, hc5, hg5⟩
  have H5 : Hid (FW 95 #[.int .u16 0, .int .u16 0, .int .u16 0, .int .u16 0] w w5 Q C (.slice pad P.length pcap) s P st4 #[.int .u16 (a : Int), .int .u16 (b : Int), .int .u16 (c : Int), .int .u16 ((0 : Nat) : Int)]) := (unhide H3).step ((unhide H3).rg.step hg5 hc5 hp4) hg5
  clear HU4 H3 hc5 hg5 k0
  go_wp2_with fail
  go_loopw [4, 5] (fun sn i wr => ∃ (m : Nat) (x : Bool × Nat) (st5 : St), m ≤ n ∧ sn = .bool x.1 ∧ i = .int .i64 m ∧ Hid (Asr s.data.toList P (M.once s.data.toList M.cvName (M.fval s.data.toList)) n (false, 0) st4 m x st5) ∧ Hid (FW 95 #[.int .u16 0, .int .u16 0, .int .u16 0, .int .u16 0] w wr Q C (.slice pad P.length pcap) s P st5 #[.int .u16 (a : Int), .int .u16 (b : Int), .int .u16 (c : Int), .int .u16 (x.2 : Int)])) (fun _ i _ => (intOf i).toNat)
  case atStart => exact ⟨n, (false, 0), st4, Nat.le_refl _, rfl, rfl, rfl, unhide H5⟩
  case round =>
    clear H5 hp4
    obtain ⟨m, ⟨sn, vl⟩, st5, hm, rfl, rfl, HAs, HF⟩ := hrel
    simp only at HF
    have k0 := (unhide HF).rg.k0
    have k2 : wr.cell? ⟨C, 2, none⟩ = some (.int .i64 (st5.e : Int)) := (unhide HF).rg.c.cell 2
    by_cases hgo : m ≠ 0 ∧ st5.e = 0
    · obtain ⟨hm0, he⟩ := hgo
      have hmi : (0 : Int) < (m : Int) := by omega
      have hei : (((st5.e : Int) == 0) : Bool) = true := by rw [he]; rfl
      obtain ⟨n', hn'⟩ : ∃ n', m = n' + 1 := ⟨m - 1, by omega⟩
      have hm1 : (m : Int) - 1 = ((n' : Nat) : Int) := by omega
      have hst := unhide HAs
      rw [hn'] at hst
      have hst2 := hst.step he
      have HAt := hide (attribute_any Q C (.slice pad P.length pcap) s P st5 wr (unhide HF).rg hs hP (unhide HF).k (unhide HF).ofc)
      unfold M.attR at hst2
      unfold AtV at HAt
      have hlt := hd_lt s.data.toList P st5
      have hps := hd_pos (s := s.data.toList) (P := P) (st := st5) (unhide HF).rg.pos
      have hpp := (unhide HF).rg.pos
      obtain ⟨ln, st6, e6⟩ : ∃ a b, M.hd s.data.toList P st5 = (a, b) := ⟨_, _, rfl⟩
      rw [e6] at hst2 HAt hlt hps
      simp only at hst2 HAt hlt hps
      obtain ⟨nm, hnm⟩ : ∃ nm, nm = M.text P ((M.rd s.data.toList 2 st5).1 : Int) := ⟨_, rfl⟩
      rw [← hnm] at hst2 HAt
      clear e6 hnm hst HAs he hm0
      by_cases h6 : st6.e = 0
      · rw [if_pos h6] at hst2
        rw [if_pos h6, if_pos h6] at HAt
        have HSt := hide hst2
        clear hst2 h6
        go_wp2_with fail
        refine (unhide HAt).mono ?_
        rintro e w6 ⟨rfl, hr6, hg6⟩
        have H6 := hide ((unhide HF).step hr6 hg6)
        clear HAt HF hr6 hg6 k0 k2
        have k0 := (unhide H6).rg.k0
        by_cases hn : nm = M.cvName
        · have hq : ((nm == [67, 111, 110, 115, 116, 97, 110, 116, 86, 97, 108, 117, 101]) : Bool) = true := by rw [beq_iff_eq]; exact hn
          have hsq := unhide HSt
          unfold M.once at hsq
          rw [if_pos hn] at hsq
          simp only at hsq
          obtain ⟨st7, e7⟩ : ∃ x, x = (if sn = true then M.fail st6 11 st5.pos else st6) := ⟨_, rfl⟩
          rw [← e7] at hsq
          have hp7 : st7.pos ≤ s.data.toList.length := by
            rw [e7]; split
            · rw [M.fail_pos]; exact hps
            · exact hps
          unfold M.fval at hsq
          have c8 := M.rd2 s.data.toList st7
          have HI := hide (fun W hW => index_any Q C (.slice pad P.length pcap) s st7 W hW hs)
          obtain ⟨v8, st8, e8⟩ : ∃ a b, M.rd s.data.toList 2 st7 = (a, b) := ⟨_, _, rfl⟩
          rw [e8] at hsq HI c8
          simp only at hsq HI c8
          have HOv := hide (fun W hW => over_looked Q C (.slice pad P.length pcap) s st8 st5.pos (st6.pos + ln) W hW (by omega))
          rw [Int.natCast_add] at HOv
          obtain ⟨st9, e9⟩ : ∃ x, x = (if st8.pos = st6.pos + ln then st8 else M.fail st8 12 st5.pos) := ⟨_, rfl⟩
          rw [← e9] at hsq HOv
          have Hsq := hide hsq
          have E7 := hide e7
          clear HSt hsq e7 e8 e9 hn
          cases sn with
          | true =>
            have q7 : st7 = M.fail st6 11 st5.pos := by rw [unhide E7, if_pos rfl]
            have HF7 := hide (cfail_any C s st6 11 st5.pos w6 (unhide H6).rg.c)
            rw [← q7] at HF7
            clear q7 E7
            go_wp2_with fail
            refine (unhide HF7).mono ?_
            rintro e w7 ⟨rfl, hc7, hg7⟩
            have H7 := hide ((unhide H6).step ((unhide H6).rg.step hg7 hc7 hp7) hg7)
            have HI7 := hide (unhide HI w7 (unhide H7).rg)
            clear H6 HF7 hc7 hg7 k0 HI
            go_wp2_with fail
            refine (unhide HI7).mono ?_
            rintro e w8 ⟨rfl, hr8, hg8⟩
            have F8 := (unhide H7).step hr8 hg8
            have q3 := F8.f.cell 3
            have qf := F8.f.frozen
            simp at q3
            have F9 := F8.set 3 (.int .u16 (v8 : Int))
            have HO9 := hide (unhide HOv _ F9.rg)
            have H9 := hide F9
            clear F8 F9 hr8 hg8 HI7 H7 HOv
            go_wp2_with fail
            refine (unhide HO9).mono ?_
            rintro e w9 ⟨rfl, hr9, hg9⟩
            have H10 := hide ((unhide H9).step hr9 hg9)
            clear HO9 H9 hr9 hg9 q3 qf
            go_wp2
            go_roundw
            case rel => exact ⟨n', (true, v8), st9, by omega, rfl, by go_num, Hsq, H10⟩
            case measure => simp [intOf]; omega
          | false =>
            have q7 : st7 = st6 := by rw [unhide E7, if_neg (by simp)]
            subst q7
            have HI7 := hide (unhide HI w6 (unhide H6).rg)
            clear E7 HI
            go_wp2_with fail
            refine (unhide HI7).mono ?_
            rintro e w8 ⟨rfl, hr8, hg8⟩
            have F8 := (unhide H6).step hr8 hg8
            have q3 := F8.f.cell 3
            have qf := F8.f.frozen
            simp at q3
            have F9 := F8.set 3 (.int .u16 (v8 : Int))
            have HO9 := hide (unhide HOv _ F9.rg)
            have H9 := hide F9
            clear F8 F9 hr8 hg8 HI7 H6 HOv k0
            go_wp2_with fail
            refine (unhide HO9).mono ?_
            rintro e w9 ⟨rfl, hr9, hg9⟩
            have H10 := hide ((unhide H9).step hr9 hg9)
            clear HO9 H9 hr9 hg9 q3 qf
            go_wp2
            go_roundw
            case rel => exact ⟨n', (true, v8), st9, by omega, rfl, by go_num, Hsq, H10⟩
            case measure => simp [intOf]; omega
        · have hq : ((nm == [67, 111, 110, 115, 116, 97, 110, 116, 86, 97, 108, 117, 101]) : Bool) = false := by rw [beq_eq_false_iff_ne]; exact hn
          have hsq := unhide HSt
          unfold M.once at hsq
          rw [if_neg hn] at hsq
          simp only at hsq
          have Hsq := hide hsq
          have HOv := hide (over_pass Q C (.slice pad P.length pcap) s st6 st5.pos ln w6 (unhide H6).rg hs hlt)
          clear HSt hsq hn k0
          go_wp2_with fail
          refine (unhide HOv).mono ?_
          rintro e w7 ⟨rfl, hr7, hg7⟩
          have H7 := hide ((unhide H6).step hr7 hg7)
          clear HOv H6 hr7 hg7
          go_wp2
          go_roundw
          case rel => exact ⟨n', (sn, vl), _, by omega, rfl, by go_num, Hsq, H7⟩
          case measure => simp [intOf]; omega
      · rw [if_neg h6] at hst2
        rw [if_neg h6, if_neg h6] at HAt
        have HSt := hide hst2
        have H6e := hide h6
        clear hst2 h6
        go_wp2_with fail
        refine (unhide HAt).mono ?_
        rintro e w6 ⟨rfl, hr6, hg6⟩
        have H6 := hide ((unhide HF).step hr6 hg6)
        have HOv := hide (over_bad Q C (.slice pad P.length pcap) s st6 st5.pos w6 hr6 hs (unhide H6e))
        clear HAt HF hr6 hg6 k0 k2
        go_wp2_with fail
        refine (unhide HOv).mono ?_
        rintro e w7 ⟨rfl, hr7, hg7⟩
        have H7 := hide ((unhide H6).step hr7 hg7)
        clear HOv H6 hr7 hg7
        go_wp2
        go_roundw
        case rel => exact ⟨n', (sn, vl), st6, by omega, rfl, by go_num, HSt, H7⟩
        case measure => simp [intOf]; omega
    · have hres : z = ((sn, vl), st5) := by
        rw [unhide HZ]
        by_cases hm0 : m = 0
        · subst hm0; exact (unhide HAs).done
        · exact (unhide HAs).stop (fun e => hgo ⟨hm0, e⟩)
      have p0 := (unhide HF).f.cell 0
      have p1 := (unhide HF).f.cell 1
      have p2 := (unhide HF).f.cell 2
      have p3 := (unhide HF).f.cell 3
      have z0 := (unhide HF).q.cell 0
      have z1 := (unhide HF).q.cell 1
      have z2 := (unhide HF).q.cell 2
      have z3 := (unhide HF).q.cell 3
      have zf := (unhide HF).q.frozen
      simp at p0 p1 p2 p3 z0 z1 z2 z3
      have HE : Hid (FW 95 #[.int .u16 (a : Int), .int .u16 (b : Int), .int .u16 (c : Int), .int .u16 (vl : Int)] w ((((wr.setCell ⟨w.heap.size, 0, none⟩ (.int .u16 (a : Int))).setCell ⟨w.heap.size, 1, none⟩ (.int .u16 (b : Int))).setCell ⟨w.heap.size, 2, none⟩ (.int .u16 (c : Int))).setCell ⟨w.heap.size, 3, none⟩ (.int .u16 (vl : Int))) Q C (.slice pad P.length pcap) s P st5 #[.int .u16 (a : Int), .int .u16 (b : Int), .int .u16 (c : Int), .int .u16 (vl : Int)]) := ((((unhide HF).setq 0 _).setq 1 _).setq 2 _).setq 3 _
      have Hres := hide hres
      clear HF HAs hres
      have hend : ∀ (Kp : Prop), (m = 0 → Kp) → ((0 : Int) < (m : Int) → st5.e ≠ 0 → Kp) → Kp := fun Kp h1 h2 => by
        by_cases hm0 : m = 0
        · exact h1 hm0
        · exact h2 (by omega) (fun e => hgo ⟨hm0, e⟩)
      clear hgo
      refine hend _ (fun hm0 => ?_) (fun hmi hee => ?_)
      · subst hm0
        clear hend
        go_wp2
        refine bodyPost_ret (results_cell_row Try.results41 _ _ w.heap.size 95 _ (0, 0) _ rfl (unhide HE).q Try.underlying95 rfl (by kernel_rfl)) rfl ?_
        rw [unhide Hres]
        exact ⟨rfl, (unhide HE).rg, (unhide HE).gr, (unhide HE).k⟩
      · have hei : (((st5.e : Int) == 0) : Bool) = false := by rw [beq_eq_false_iff_ne]; omega
        clear hend hee
        go_wp2
        refine bodyPost_ret (results_cell_row Try.results41 _ _ w.heap.size 95 _ (0, 0) _ rfl (unhide HE).q Try.underlying95 rfl (by kernel_rfl)) rfl ?_
        rw [unhide Hres]
        exact ⟨rfl, (unhide HE).rg, (unhide HE).gr, (unhide HE).k⟩
end Go.Proofs.Ytbgpkkbejbidlac
