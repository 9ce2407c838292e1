/-
  The reference: a method.
-/
import Derived.Test.YtbgpkkbejbidlacCc
namespace Go.Proofs.Ytbgpkkbejbidlac
set_option linter.unusedVariables false
set_option linter.unusedSimpArgs false
open Go.RowKit
open Cl (HC HC_snoc own152_slice)
/-- What a call of the reference's method leaves. -/
def MthRR (Q C : Nat) (pv : Value) (s : ByteArray) (P : List K) (m : Mt) (st' : St) (w : World) (x : Ending) (w' : World) : Prop :=
  ∃ hv, x = .returned (.agg #[.int .u16 (m.flags : Int), .int .u16 (m.name : Int), .int .u16 (m.type_ : Int), .bool m.has, .int .i64 (m.code.stack : Int), .int .i64 (m.code.locals : Int), .string ⟨m.code.bytes.toArray⟩, hv, .string ⟨m.code.map.toArray⟩]) ∧ w'.ownsRow w.heap.size 152 4 hv m.code.handlers.length (HC m.code.handlers) ∧ Rg w' Q C pv s st' ∧ w.grownBy w' (some C) ∧ KIn w' pv P
theorem mthR_parts (s : List UInt8) (P : List K) (st : St) {a b c n : Nat} {st3 st4 : St} {z : (Bool × (Bool × Cd)) × St} (e3 : M.three s st = (a, b, c, st3)) (e4 : M.rd s 2 st3 = (n, st4)) (hz : M.attsR s P (M.once s M.codeName (M.cvalR s P)) n (false, (false, Cd.zero)) st4 = z) :
    M.mthR s P st = (⟨a, b, c, z.1.2.1, z.1.2.2⟩, z.2) := by
  rw [M.mthR_mk]
  unfold M.mkM M.attsNR
  simp only [e3, e4, hz]
theorem M.once_hit {σ : Type} {s counts : List UInt8} {read : σ → Nat → St → σ × St} {x : Bool × σ} {a : Nat} {nm : List UInt8} {n : Nat} {st : St} (h : nm = counts) : M.once s counts read x a nm n st = ((true, (read x.2 n (if x.1 = true then M.fail st 11 a else st)).1),
    if (read x.2 n (if x.1 = true then M.fail st 11 a else st)).2.pos = st.pos + n then (read x.2 n (if x.1 = true then M.fail st 11 a else st)).2 else M.fail (read x.2 n (if x.1 = true then M.fail st 11 a else st)).2 12 a) := by
  unfold M.once; rw [if_pos h]
theorem M.once_pass {σ : Type} {s counts : List UInt8} {read : σ → Nat → St → σ × St} {x : Bool × σ} {a : Nat} {nm : List UInt8} {n : Nat} {st : St} (h : nm ≠ counts) : M.once s counts read x a nm n st = (x, (M.take s n st).2) := by
  unfold M.once; rw [if_neg h]
theorem M.cvalR_mk (s : List UInt8) (P : List K) (x : Bool × Cd) (n : Nat) (st : St) : M.cvalR s P x n st = ((true, (M.codR s P st).1), (M.codR s P st).2) := by simp only [M.cvalR]
set_option maxRecDepth 100000 in
set_option maxHeartbeats 1000000 in
theorem rmethod_any (Q C : Nat) (pv : Value) (s : ByteArray) (P : List K) (st : St) (w : World) (h : Rg w Q C pv s st) (hs : s.size ≤ 131072) (hP : P.length ≤ 1048576) (hk : KIn w pv P) (hoff : Cl.Off w C pv P) :
    Calls Try.prog 42 #[.pointer (some ⟨Q, 0, none⟩)] w fun x w' => MthRR Q C pv s P (M.mthR s.data.toList P st).1 (M.mthR s.data.toList P st).2 w x w' := by
  have hCl := h.c.lt
  have hQl := h.q.lt
  have hl : s.data.toList.length = s.size := by simp
  have hp4 : (M.rd s.data.toList 2 (M.rd s.data.toList 2 (M.rd s.data.toList 2 (M.rd s.data.toList 2 st).2).2).2).2.pos ≤ s.data.toList.length := M.rd_pos (M.rd_pos (M.rd_pos (M.rd_pos h.pos)))
  have c1 := M.rd2 s.data.toList st
  have HU1 := hide (fun W hW => index_any Q C pv s st W hW hs)
  obtain ⟨a, st1, e1⟩ : ∃ a b, M.rd s.data.toList 2 st = (a, b) := ⟨_, _, rfl⟩
  rw [e1] at c1 HU1 hp4
  simp only at c1 HU1 hp4
  have c2 := M.rd2 s.data.toList st1
  have HU2 := hide (fun W hW => index_any Q C pv s st1 W hW hs)
  obtain ⟨b, st2, e2⟩ : ∃ a b, M.rd s.data.toList 2 st1 = (a, b) := ⟨_, _, rfl⟩
  rw [e2] at c2 HU2 hp4
  simp only at c2 HU2 hp4
  have c3 := M.rd2 s.data.toList st2
  have HU3 := hide (fun W hW => index_any Q C pv s st2 W hW hs)
  obtain ⟨c, st3, e3⟩ : ∃ a b, M.rd s.data.toList 2 st2 = (a, b) := ⟨_, _, rfl⟩
  rw [e3] at c3 HU3 hp4
  simp only at c3 HU3 hp4
  have c4 := M.rd2 s.data.toList st3
  have HU4 := hide (fun W (hW : Rg W Q C pv s st3) => cnum_any C s st3 2 W hW.c hs (by omega) hW.pos)
  have hthree : M.three s.data.toList st = (a, b, c, st3) := by unfold M.three; simp only [e1, e2, e3]
  obtain ⟨n, st4, e4⟩ : ∃ a b, M.rd s.data.toList 2 st3 = (a, b) := ⟨_, _, rfl⟩
  rw [e4] at c4 HU4 hp4
  simp only at c4 HU4 hp4
  obtain ⟨z, hz⟩ : ∃ z, M.attsR s.data.toList P (M.once s.data.toList M.codeName (M.cvalR s.data.toList P)) n (false, (false, Cd.zero)) st4 = z := ⟨_, rfl⟩
  rw [mthR_parts s.data.toList P st hthree e4 hz]
  simp only
  have HZ := hide hz
  obtain ⟨wA, hwA⟩ : ∃ wA, wA = (w.alloc (.cells #[.int .u16 0, .int .u16 0, .int .u16 0, .bool false, .int .i64 0, .int .i64 0, .string ⟨#[]⟩, .slice none 0 0, .string ⟨#[]⟩] 101)).alloc (.cells #[.int .u16 0, .int .u16 0, .int .u16 0, .bool false, .int .i64 0, .int .i64 0, .string ⟨#[]⟩, .slice none 0 0, .string ⟨#[]⟩] 101) := ⟨_, rfl⟩
  have HA : Hid (FW 101 #[.int .u16 0, .int .u16 0, .int .u16 0, .bool false, .int .i64 0, .int .i64 0, .string ⟨#[]⟩, .slice none 0 0, .string ⟨#[]⟩] w wA Q C pv s P st #[.int .u16 0, .int .u16 0, .int .u16 0, .bool false, .int .i64 0, .int .i64 0, .string ⟨#[]⟩, .slice none 0 0, .string ⟨#[]⟩]) := by
    have hb1 : Below w.heap.size w (w.alloc (.cells #[.int .u16 0, .int .u16 0, .int .u16 0, .bool false, .int .i64 0, .int .i64 0, .string ⟨#[]⟩, .slice none 0 0, .string ⟨#[]⟩] 101)) := (Below.refl _ _).alloc (Nat.le_refl _) _
    have hb2 : Below w.heap.size w wA := by rw [hwA]; exact hb1.alloc hb1.size _
    refine ⟨h.kept hb2, ?_, ?_, grown_of_below hb2 _, hk.below hb2, hCl, hQl, hoff⟩
    · rw [hwA]; have := Bk.new (w.alloc (.cells #[.int .u16 0, .int .u16 0, .int .u16 0, .bool false, .int .i64 0, .int .i64 0, .string ⟨#[]⟩, .slice none 0 0, .string ⟨#[]⟩] 101)) #[.int .u16 0, .int .u16 0, .int .u16 0, .bool false, .int .i64 0, .int .i64 0, .string ⟨#[]⟩, .slice none 0 0, .string ⟨#[]⟩] 101; simpa using this
    · rw [hwA]; exact (Bk.new _ _ _).alloc _
  have HwA := hide hwA
  clear e1 e2 e3 e4 hthree hz hwA h hk
  obtain ⟨pad, pcap, epv, _⟩ := (unhide HA).k.ex
  subst epv
  go_enter Try.func42, Try.ntmps42
  go_upto_region 2 with fail
  rw [← unhide HwA]
  clear HwA
  go_wp2_with fail
  refine (unhide HU1 _ (unhide HA).rg).mono ?_
  rintro e w1 ⟨rfl, hr1, hg1⟩
  have F1 := (unhide HA).step hr1 hg1
  have q0 := F1.f.cell 0
  have qf := F1.f.frozen
  simp at q0
  have F1s := F1.set 0 (.int .u16 (a : Int))
  simp only [List.setIfInBounds_toArray, List.set_cons_zero, List.set_cons_succ] at F1s
  have H1 := hide F1s
  clear F1s
  clear HU1 HA hr1 hg1 F1
  go_wp2_with fail
  refine (unhide HU2 _ (unhide H1).rg).mono ?_
  rintro e w2 ⟨rfl, hr2, hg2⟩
  have F2 := (unhide H1).step hr2 hg2
  clear q0 qf
  have q1 := F2.f.cell 1
  have qf := F2.f.frozen
  simp at q1
  have F2s := F2.set 1 (.int .u16 (b : Int))
  simp only [List.setIfInBounds_toArray, List.set_cons_zero, List.set_cons_succ] at F2s
  have H2 := hide F2s
  clear F2s
  clear HU2 H1 hr2 hg2 F2
  go_wp2_with fail
  refine (unhide HU3 _ (unhide H2).rg).mono ?_
  rintro e w3 ⟨rfl, hr3, hg3⟩
  have F3 := (unhide H2).step hr3 hg3
  clear q1 qf
  have q2 := F3.f.cell 2
  have qf := F3.f.frozen
  simp at q2
  obtain ⟨w4, hw4⟩ : ∃ w4, w4 = w3.setCell ⟨w.heap.size + 1, 2, none⟩ (.int .u16 (c : Int)) := ⟨_, rfl⟩
  have H3 : Hid (FW 101 #[.int .u16 0, .int .u16 0, .int .u16 0, .bool false, .int .i64 0, .int .i64 0, .string ⟨#[]⟩, .slice none 0 0, .string ⟨#[]⟩] w w4 Q C (.slice pad P.length pcap) s P st3 #[.int .u16 (a : Int), .int .u16 (b : Int), .int .u16 (c : Int), .bool false, .int .i64 (Cd.zero.stack : Int), .int .i64 (Cd.zero.locals : Int), .string ⟨Cd.zero.bytes.toArray⟩, .slice none 0 0, .string ⟨Cd.zero.map.toArray⟩]) := by
    have F3s := F3.set 2 (.int .u16 (c : Int))
    simp only [List.setIfInBounds_toArray, List.set_cons_zero, List.set_cons_succ] at F3s
    rw [hw4]; exact F3s
  have Hw4 := hide hw4
  clear HU3 H2 hr3 hg3 F3 hw4
  go_upto_region 5 with fail
  rw [← unhide Hw4]
  clear Hw4 q2 qf
  have k0 := (unhide H3).rg.k0
  go_wp2_with fail
  refine (unhide HU4 _ (unhide H3).rg).mono ?_
  rintro e w5 ⟨rfl, hc5, hg5⟩
  have H5 : Hid (FW 101 #[.int .u16 0, .int .u16 0, .int .u16 0, .bool false, .int .i64 0, .int .i64 0, .string ⟨#[]⟩, .slice none 0 0, .string ⟨#[]⟩] w w5 Q C (.slice pad P.length pcap) s P st4 #[.int .u16 (a : Int), .int .u16 (b : Int), .int .u16 (c : Int), .bool false, .int .i64 (Cd.zero.stack : Int), .int .i64 (Cd.zero.locals : Int), .string ⟨Cd.zero.bytes.toArray⟩, .slice none Cd.zero.handlers.length 0, .string ⟨Cd.zero.map.toArray⟩]) := (unhide H3).cut hc5 hg5 hp4
  have O5 : Hid (w5.ownsRow (w.heap.size + 2) 152 4 (.slice none Cd.zero.handlers.length 0) Cd.zero.handlers.length (HC Cd.zero.handlers)) := World.ownsRow_nil _ _ _ _
  clear HU4 H3 hc5 hg5 k0
  go_wp2_with fail
  go_loopw [4] (fun i wr => ∃ (m : Nat) (sn : Bool) (cd : Cd) (y5 : St) (ha : Option Addr) (hcap : Nat), m ≤ n ∧ i = .int .i64 m ∧ Hid (Asr s.data.toList P (M.once s.data.toList M.codeName (M.cvalR s.data.toList P)) n (false, (false, Cd.zero)) st4 m (sn, (sn, cd)) y5) ∧ Hid (FW 101 #[.int .u16 0, .int .u16 0, .int .u16 0, .bool false, .int .i64 0, .int .i64 0, .string ⟨#[]⟩, .slice none 0 0, .string ⟨#[]⟩] w wr Q C (.slice pad P.length pcap) s P y5 #[.int .u16 (a : Int), .int .u16 (b : Int), .int .u16 (c : Int), .bool sn, .int .i64 (cd.stack : Int), .int .i64 (cd.locals : Int), .string ⟨cd.bytes.toArray⟩, .slice ha cd.handlers.length hcap, .string ⟨cd.map.toArray⟩]) ∧ Hid (wr.ownsRow (w.heap.size + 2) 152 4 (.slice ha cd.handlers.length hcap) cd.handlers.length (HC cd.handlers))) (fun i _ => (intOf i).toNat)
  case atStart => exact ⟨n, false, Cd.zero, st4, none, 0, Nat.le_refl _, rfl, rfl, H5, O5⟩
  case round =>
    clear H5 O5 hp4
    obtain ⟨m, sn, cd, y5, ha, hcap, hm, rfl, HAs, HF, HO⟩ := hrel
    have k0 := (unhide HF).rg.k0
    have k2 : wr.cell? ⟨C, 2, none⟩ = some (.int .i64 (y5.e : Int)) := (unhide HF).rg.c.cell 2
    by_cases hgo : m ≠ 0 ∧ y5.e = 0
    · obtain ⟨hm0, he⟩ := hgo
      have hmi : (0 : Int) < (m : Int) := by omega
      have hei : (((y5.e : Int) == 0) : Bool) = true := by rw [he]; rfl
      obtain ⟨n', hn'⟩ : ∃ n', m = n' + 1 := ⟨m - 1, by omega⟩
      have hm1 : (m : Int) - 1 = ((n' : Nat) : Int) := by omega
      have hst := unhide HAs
      rw [hn'] at hst
      have hst2 := hst.step he
      have HAt := hide (attribute_any Q C (.slice pad P.length pcap) s P y5 wr (unhide HF).rg hs hP (unhide HF).k (unhide HF).ofc)
      unfold M.attR at hst2
      unfold AtV at HAt
      have hlt := hd_lt s.data.toList P y5
      have hps := hd_pos (s := s.data.toList) (P := P) (st := y5) (unhide HF).rg.pos
      have hpp := (unhide HF).rg.pos
      obtain ⟨ln, y6, e6⟩ : ∃ a b, M.hd s.data.toList P y5 = (a, b) := ⟨_, _, rfl⟩
      rw [e6] at hst2 HAt hlt hps
      simp only at hst2 HAt hlt hps
      obtain ⟨nm, hnm⟩ : ∃ nm, nm = M.text P ((M.rd s.data.toList 2 y5).1 : Int) := ⟨_, rfl⟩
      rw [← hnm] at hst2 HAt
      clear e6 hnm hst HAs he hm0
      by_cases h6 : y6.e = 0
      · rw [if_pos h6] at hst2
        rw [if_pos h6, if_pos h6] at HAt
        have HSt := hide hst2
        clear hst2 h6
        go_wp2_with fail
        refine (unhide HAt).mono ?_
        rintro e w6 ⟨rfl, hr6, hg6⟩
        have H6 := hide ((unhide HF).step hr6 hg6)
        have O6 := hide (ins_kept (unhide HO) hg6 (fun b e1 e2 => by cases e1; have := (ins_in (unhide HO) e2).1; omega))
        clear HAt HF HO hr6 hg6 k0 k2
        have k0 := (unhide H6).rg.k0
        by_cases hn : nm = M.codeName
        · have hq : ((nm == [67, 111, 100, 101]) : Bool) = true := by rw [beq_iff_eq]; exact hn
          have hsq := unhide HSt
          rw [M.once_hit hn] at hsq
          simp only at hsq
          obtain ⟨y7, e7⟩ : ∃ x, x = (if sn = true then M.fail y6 11 y5.pos else y6) := ⟨_, rfl⟩
          rw [← e7] at hsq
          have hp7 : y7.pos ≤ s.data.toList.length := by
            rw [e7]; split
            · rw [M.fail_pos]; exact hps
            · exact hps
          rw [M.cvalR_mk] at hsq
          simp only at hsq
          have Hsq := hide hsq
          have E7 := hide e7
          have f3 := (unhide H6).f.cell 3
          have ff := (unhide H6).f.frozen
          simp at f3
          clear HSt hsq e7 hn
          cases sn with
          | true =>
            have q7 : y7 = M.fail y6 11 y5.pos := by rw [unhide E7, if_pos rfl]
            have HF7 := hide (cfail_any C s y6 11 y5.pos w6 (unhide H6).rg.c)
            rw [← q7] at HF7
            clear q7 E7
            go_wp2_with fail
            refine (unhide HF7).mono ?_
            rintro e w7 ⟨rfl, hc7, hg7⟩
            have F7 := (unhide H6).cut hc7 hg7 hp7
            clear H6 O6 HF7 hc7 hg7 k0 f3 ff
            have f3 := F7.f.cell 3
            have ff := F7.f.frozen
            simp at f3
            have F7s := F7.set 3 (.bool true)
            simp only [List.setIfInBounds_toArray, List.set_cons_zero, List.set_cons_succ] at F7s
            have H7 := hide F7s
            clear F7 F7s
            have HC7 := hide (rcode_any Q C (.slice pad P.length pcap) s P y7 _ (unhide H7).rg hs hP (unhide H7).k (fun hne b o n c e => ⟨((unhide H7).off hne b o n c e).1, Nat.lt_of_lt_of_le ((unhide H7).off hne b o n c e).2 (unhide H7).gr.size⟩))
            unfold CodRR at HC7
            obtain ⟨c8, y8, e8⟩ : ∃ a b, M.codR s.data.toList P y7 = (a, b) := ⟨_, _, rfl⟩
            rw [e8] at HC7
            simp only at HC7
            have hsq := unhide Hsq
            rw [e8] at hsq
            simp only at hsq
            have HOv := hide (fun W hW => over_looked Q C (.slice pad P.length pcap) s y8 y5.pos (y6.pos + ln) W hW (by omega))
            rw [Int.natCast_add] at HOv
            obtain ⟨y9, e9⟩ : ∃ x, x = (if y8.pos = y6.pos + ln then y8 else M.fail y8 12 y5.pos) := ⟨_, rfl⟩
            rw [← e9] at hsq HOv
            have Hsq2 := hide hsq
            clear hsq Hsq e8 e9
            go_wp2_with fail
            refine (unhide HC7).mono ?_
            rintro e w8 ⟨hv, rfl, ho8, hr8, hk8, hg8⟩
            have F8 := (unhide H7).step hr8 hg8
            have hz7 := (unhide H7).f.lt
            have hz8 : w.heap.size + 2 ≤ _ := hz7
            obtain ⟨va, vcap, ev⟩ := own152_slice ho8
            subst ev
            have O8 : w8.ownsRow (w.heap.size + 2) 152 4 (.slice va c8.handlers.length vcap) c8.handlers.length (HC c8.handlers) := own_mono ho8 hz8
            clear f3 ff
            have f4 := F8.f.cell 4
            have f5 := F8.f.cell 5
            have f6 := F8.f.cell 6
            have f7 := F8.f.cell 7
            have f8 := F8.f.cell 8
            have ff := F8.f.frozen
            simp at f4 f5 f6 f7 f8
            obtain ⟨w9, hw9⟩ : ∃ w9, w9 = ((((w8.setCell ⟨w.heap.size + 1, 4, none⟩ (.int .i64 (c8.stack : Int))).setCell ⟨w.heap.size + 1, 5, none⟩ (.int .i64 (c8.locals : Int))).setCell ⟨w.heap.size + 1, 6, none⟩ (.string ⟨c8.bytes.toArray⟩)).setCell ⟨w.heap.size + 1, 7, none⟩ (.slice va c8.handlers.length vcap)).setCell ⟨w.heap.size + 1, 8, none⟩ (.string ⟨c8.map.toArray⟩) := ⟨_, rfl⟩
            have H9 : Hid (FW 101 #[.int .u16 0, .int .u16 0, .int .u16 0, .bool false, .int .i64 0, .int .i64 0, .string ⟨#[]⟩, .slice none 0 0, .string ⟨#[]⟩] w w9 Q C (.slice pad P.length pcap) s P y8 #[.int .u16 (a : Int), .int .u16 (b : Int), .int .u16 (c : Int), .bool true, .int .i64 (c8.stack : Int), .int .i64 (c8.locals : Int), .string ⟨c8.bytes.toArray⟩, .slice va c8.handlers.length vcap, .string ⟨c8.map.toArray⟩]) := by
              rw [hw9]
              have s4 := F8.set 4 (.int .i64 (c8.stack : Int))
              simp only [List.setIfInBounds_toArray, List.set_cons_zero, List.set_cons_succ] at s4
              have s5 := s4.set 5 (.int .i64 (c8.locals : Int))
              simp only [List.setIfInBounds_toArray, List.set_cons_zero, List.set_cons_succ] at s5
              have s6 := s5.set 6 (.string ⟨c8.bytes.toArray⟩)
              simp only [List.setIfInBounds_toArray, List.set_cons_zero, List.set_cons_succ] at s6
              have s7 := s6.set 7 (.slice va c8.handlers.length vcap)
              simp only [List.setIfInBounds_toArray, List.set_cons_zero, List.set_cons_succ] at s7
              have s8 := s7.set 8 (.string ⟨c8.map.toArray⟩)
              simp only [List.setIfInBounds_toArray, List.set_cons_zero, List.set_cons_succ] at s8
              exact s8
            have O9 : Hid (w9.ownsRow (w.heap.size + 2) 152 4 (.slice va c8.handlers.length vcap) c8.handlers.length (HC c8.handlers)) := by
              rw [hw9]
              have k : ∀ (W : World) (i : Nat) (u : Value) (cs : Array Value), Bk W (w.heap.size + 1) cs 101 → W.ownsRow (w.heap.size + 2) 152 4 (.slice va c8.handlers.length vcap) c8.handlers.length (HC c8.handlers) → (W.setCell ⟨w.heap.size + 1, i, none⟩ u).ownsRow (w.heap.size + 2) 152 4 (.slice va c8.handlers.length vcap) c8.handlers.length (HC c8.handlers) := fun W i u cs hb h => ins_kept h (grown_set W _ i u) (fun b e1 e2 => by cases e1; exact own_ne h e2 hb (by decide))
              exact k _ _ _ _ ((((F8.f.set 4 _).set 5 _).set 6 _).set 7 _) (k _ _ _ _ (((F8.f.set 4 _).set 5 _).set 6 _) (k _ _ _ _ ((F8.f.set 4 _).set 5 _) (k _ _ _ _ (F8.f.set 4 _) (k _ _ _ _ F8.f O8))))
            have HO9 := hide (unhide HOv _ (unhide H9).rg)
            have Hw9 := hide hw9
            clear HC7 H7 HOv hr8 hg8 hk8 ho8 O8 F8 hw9 hz7 hz8
            go_upto_region 15 with fail
            rw [← unhide Hw9]
            clear Hw9 f4 f5 f6 f7 f8 ff
            go_wp2_with fail
            refine (unhide HO9).mono ?_
            rintro e wX ⟨rfl, hr9, hg9⟩
            have H10 := hide ((unhide H9).step hr9 hg9)
            have O10 := hide (ins_kept (unhide O9) hg9 (fun b e1 e2 => by cases e1; have := (ins_in (unhide O9) e2).1; omega))
            clear HO9 H9 O9 hr9 hg9
            go_wp2
            go_roundw
            case rel => exact ⟨n', true, c8, y9, va, vcap, by omega, by go_num, Hsq2, H10, O10⟩
            case measure => simp [intOf]; omega
          | false =>
            have q7 : y7 = y6 := by rw [unhide E7, if_neg (by simp)]
            have H6' := unhide H6
            rw [← q7] at H6'
            have F7s := H6'.set 3 (.bool true)
            simp only [List.setIfInBounds_toArray, List.set_cons_zero, List.set_cons_succ] at F7s
            have H7 := hide F7s
            clear H6 O6 E7 k0 F7s H6' q7
            have HC7 := hide (rcode_any Q C (.slice pad P.length pcap) s P y7 _ (unhide H7).rg hs hP (unhide H7).k (fun hne b o n c e => ⟨((unhide H7).off hne b o n c e).1, Nat.lt_of_lt_of_le ((unhide H7).off hne b o n c e).2 (unhide H7).gr.size⟩))
            unfold CodRR at HC7
            obtain ⟨c8, y8, e8⟩ : ∃ a b, M.codR s.data.toList P y7 = (a, b) := ⟨_, _, rfl⟩
            rw [e8] at HC7
            simp only at HC7
            have hsq := unhide Hsq
            rw [e8] at hsq
            simp only at hsq
            have HOv := hide (fun W hW => over_looked Q C (.slice pad P.length pcap) s y8 y5.pos (y6.pos + ln) W hW (by omega))
            rw [Int.natCast_add] at HOv
            obtain ⟨y9, e9⟩ : ∃ x, x = (if y8.pos = y6.pos + ln then y8 else M.fail y8 12 y5.pos) := ⟨_, rfl⟩
            rw [← e9] at hsq HOv
            have Hsq2 := hide hsq
            clear hsq Hsq e8 e9
            go_wp2_with fail
            refine (unhide HC7).mono ?_
            rintro e w8 ⟨hv, rfl, ho8, hr8, hk8, hg8⟩
            have F8 := (unhide H7).step hr8 hg8
            have hz7 := (unhide H7).f.lt
            have hz8 : w.heap.size + 2 ≤ _ := hz7
            obtain ⟨va, vcap, ev⟩ := own152_slice ho8
            subst ev
            have O8 : w8.ownsRow (w.heap.size + 2) 152 4 (.slice va c8.handlers.length vcap) c8.handlers.length (HC c8.handlers) := own_mono ho8 hz8
            clear f3 ff
            have f4 := F8.f.cell 4
            have f5 := F8.f.cell 5
            have f6 := F8.f.cell 6
            have f7 := F8.f.cell 7
            have f8 := F8.f.cell 8
            have ff := F8.f.frozen
            simp at f4 f5 f6 f7 f8
            obtain ⟨w9, hw9⟩ : ∃ w9, w9 = ((((w8.setCell ⟨w.heap.size + 1, 4, none⟩ (.int .i64 (c8.stack : Int))).setCell ⟨w.heap.size + 1, 5, none⟩ (.int .i64 (c8.locals : Int))).setCell ⟨w.heap.size + 1, 6, none⟩ (.string ⟨c8.bytes.toArray⟩)).setCell ⟨w.heap.size + 1, 7, none⟩ (.slice va c8.handlers.length vcap)).setCell ⟨w.heap.size + 1, 8, none⟩ (.string ⟨c8.map.toArray⟩) := ⟨_, rfl⟩
            have H9 : Hid (FW 101 #[.int .u16 0, .int .u16 0, .int .u16 0, .bool false, .int .i64 0, .int .i64 0, .string ⟨#[]⟩, .slice none 0 0, .string ⟨#[]⟩] w w9 Q C (.slice pad P.length pcap) s P y8 #[.int .u16 (a : Int), .int .u16 (b : Int), .int .u16 (c : Int), .bool true, .int .i64 (c8.stack : Int), .int .i64 (c8.locals : Int), .string ⟨c8.bytes.toArray⟩, .slice va c8.handlers.length vcap, .string ⟨c8.map.toArray⟩]) := by
              rw [hw9]
              have s4 := F8.set 4 (.int .i64 (c8.stack : Int))
              simp only [List.setIfInBounds_toArray, List.set_cons_zero, List.set_cons_succ] at s4
              have s5 := s4.set 5 (.int .i64 (c8.locals : Int))
              simp only [List.setIfInBounds_toArray, List.set_cons_zero, List.set_cons_succ] at s5
              have s6 := s5.set 6 (.string ⟨c8.bytes.toArray⟩)
              simp only [List.setIfInBounds_toArray, List.set_cons_zero, List.set_cons_succ] at s6
              have s7 := s6.set 7 (.slice va c8.handlers.length vcap)
              simp only [List.setIfInBounds_toArray, List.set_cons_zero, List.set_cons_succ] at s7
              have s8 := s7.set 8 (.string ⟨c8.map.toArray⟩)
              simp only [List.setIfInBounds_toArray, List.set_cons_zero, List.set_cons_succ] at s8
              exact s8
            have O9 : Hid (w9.ownsRow (w.heap.size + 2) 152 4 (.slice va c8.handlers.length vcap) c8.handlers.length (HC c8.handlers)) := by
              rw [hw9]
              have k : ∀ (W : World) (i : Nat) (u : Value) (cs : Array Value), Bk W (w.heap.size + 1) cs 101 → W.ownsRow (w.heap.size + 2) 152 4 (.slice va c8.handlers.length vcap) c8.handlers.length (HC c8.handlers) → (W.setCell ⟨w.heap.size + 1, i, none⟩ u).ownsRow (w.heap.size + 2) 152 4 (.slice va c8.handlers.length vcap) c8.handlers.length (HC c8.handlers) := fun W i u cs hb h => ins_kept h (grown_set W _ i u) (fun b e1 e2 => by cases e1; exact own_ne h e2 hb (by decide))
              exact k _ _ _ _ ((((F8.f.set 4 _).set 5 _).set 6 _).set 7 _) (k _ _ _ _ (((F8.f.set 4 _).set 5 _).set 6 _) (k _ _ _ _ ((F8.f.set 4 _).set 5 _) (k _ _ _ _ (F8.f.set 4 _) (k _ _ _ _ F8.f O8))))
            have HO9 := hide (unhide HOv _ (unhide H9).rg)
            have Hw9 := hide hw9
            clear HC7 H7 HOv hr8 hg8 hk8 ho8 O8 F8 hw9 hz7 hz8
            go_upto_region 15 with fail
            rw [← unhide Hw9]
            clear Hw9 f4 f5 f6 f7 f8 ff
            go_wp2_with fail
            refine (unhide HO9).mono ?_
            rintro e wX ⟨rfl, hr9, hg9⟩
            have H10 := hide ((unhide H9).step hr9 hg9)
            have O10 := hide (ins_kept (unhide O9) hg9 (fun b e1 e2 => by cases e1; have := (ins_in (unhide O9) e2).1; omega))
            clear HO9 H9 O9 hr9 hg9
            go_wp2
            go_roundw
            case rel => exact ⟨n', true, c8, y9, va, vcap, by omega, by go_num, Hsq2, H10, O10⟩
            case measure => simp [intOf]; omega
        · have hq : ((nm == [67, 111, 100, 101]) : Bool) = false := by rw [beq_eq_false_iff_ne]; exact hn
          have hsq := unhide HSt
          rw [M.once_pass hn] at hsq
          simp only at hsq
          have Hsq := hide hsq
          have HOv := hide (over_pass Q C (.slice pad P.length pcap) s y6 y5.pos ln w6 (unhide H6).rg hs hlt)
          clear HSt hsq hn k0
          go_wp2_with fail
          refine (unhide HOv).mono ?_
          rintro e w7 ⟨rfl, hr7, hg7⟩
          have H7 := hide ((unhide H6).step hr7 hg7)
          have O7 := hide (ins_kept (unhide O6) hg7 (fun b e1 e2 => by cases e1; have := (ins_in (unhide O6) e2).1; omega))
          clear HOv H6 O6 hr7 hg7
          go_wp2
          go_roundw
          case rel => exact ⟨n', sn, cd, _, ha, hcap, by omega, by go_num, Hsq, H7, O7⟩
          case measure => simp [intOf]; omega
      · rw [if_neg h6] at hst2
        rw [if_neg h6, if_neg h6] at HAt
        have HSt := hide hst2
        have H6e := hide h6
        clear hst2 h6
        go_wp2_with fail
        refine (unhide HAt).mono ?_
        rintro e w6 ⟨rfl, hr6, hg6⟩
        have H6 := hide ((unhide HF).step hr6 hg6)
        have O6 := hide (ins_kept (unhide HO) hg6 (fun b e1 e2 => by cases e1; have := (ins_in (unhide HO) e2).1; omega))
        have HOv := hide (over_bad Q C (.slice pad P.length pcap) s y6 y5.pos w6 hr6 hs (unhide H6e))
        clear HAt HF HO hr6 hg6 k0 k2
        go_wp2_with fail
        refine (unhide HOv).mono ?_
        rintro e w7 ⟨rfl, hr7, hg7⟩
        have H7 := hide ((unhide H6).step hr7 hg7)
        have O7 := hide (ins_kept (unhide O6) hg7 (fun b e1 e2 => by cases e1; have := (ins_in (unhide O6) e2).1; omega))
        clear HOv H6 O6 hr7 hg7
        go_wp2
        go_roundw
        case rel => exact ⟨n', sn, cd, y6, ha, hcap, by omega, by go_num, HSt, H7, O7⟩
        case measure => simp [intOf]; omega
    · have hres : z = ((sn, (sn, cd)), y5) := by
        rw [← unhide HZ]
        by_cases hm0 : m = 0
        · subst hm0; exact (unhide HAs).done
        · exact (unhide HAs).stop (fun e => hgo ⟨hm0, e⟩)
      have p0 := (unhide HF).f.cell 0
      have z0 := (unhide HF).q.cell 0
      have p1 := (unhide HF).f.cell 1
      have z1 := (unhide HF).q.cell 1
      have p2 := (unhide HF).f.cell 2
      have z2 := (unhide HF).q.cell 2
      have p3 := (unhide HF).f.cell 3
      have z3 := (unhide HF).q.cell 3
      have p4 := (unhide HF).f.cell 4
      have z4 := (unhide HF).q.cell 4
      have p5 := (unhide HF).f.cell 5
      have z5 := (unhide HF).q.cell 5
      have p6 := (unhide HF).f.cell 6
      have z6 := (unhide HF).q.cell 6
      have p7 := (unhide HF).f.cell 7
      have z7 := (unhide HF).q.cell 7
      have p8 := (unhide HF).f.cell 8
      have z8 := (unhide HF).q.cell 8
      have zf := (unhide HF).q.frozen
      simp at p0 p1 p2 p3 p4 p5 p6 p7 p8 z0 z1 z2 z3 z4 z5 z6 z7 z8
      obtain ⟨wE, hwE⟩ : ∃ wE, wE = (((((((((wr.setCell ⟨w.heap.size, 0, none⟩ (.int .u16 (a : Int))).setCell ⟨w.heap.size, 1, none⟩ (.int .u16 (b : Int))).setCell ⟨w.heap.size, 2, none⟩ (.int .u16 (c : Int))).setCell ⟨w.heap.size, 3, none⟩ (.bool sn)).setCell ⟨w.heap.size, 4, none⟩ (.int .i64 (cd.stack : Int))).setCell ⟨w.heap.size, 5, none⟩ (.int .i64 (cd.locals : Int))).setCell ⟨w.heap.size, 6, none⟩ (.string ⟨cd.bytes.toArray⟩)).setCell ⟨w.heap.size, 7, none⟩ (.slice ha cd.handlers.length hcap)).setCell ⟨w.heap.size, 8, none⟩ (.string ⟨cd.map.toArray⟩)) := ⟨_, rfl⟩
      have HE : Hid (FW 101 #[.int .u16 (a : Int), .int .u16 (b : Int), .int .u16 (c : Int), .bool sn, .int .i64 (cd.stack : Int), .int .i64 (cd.locals : Int), .string ⟨cd.bytes.toArray⟩, .slice ha cd.handlers.length hcap, .string ⟨cd.map.toArray⟩] w wE Q C (.slice pad P.length pcap) s P y5 #[.int .u16 (a : Int), .int .u16 (b : Int), .int .u16 (c : Int), .bool sn, .int .i64 (cd.stack : Int), .int .i64 (cd.locals : Int), .string ⟨cd.bytes.toArray⟩, .slice ha cd.handlers.length hcap, .string ⟨cd.map.toArray⟩]) := by
        rw [hwE]
        have s1 := (unhide HF).setq 0 (.int .u16 (a : Int))
        simp only [List.setIfInBounds_toArray, List.set_cons_zero] at s1
        have s2 := s1.setq 1 (.int .u16 (b : Int))
        simp only [List.setIfInBounds_toArray, List.set_cons_zero, List.set_cons_succ] at s2
        have s3 := s2.setq 2 (.int .u16 (c : Int))
        simp only [List.setIfInBounds_toArray, List.set_cons_zero, List.set_cons_succ] at s3
        have s4 := s3.setq 3 (.bool sn)
        simp only [List.setIfInBounds_toArray, List.set_cons_zero, List.set_cons_succ] at s4
        have s5 := s4.setq 4 (.int .i64 (cd.stack : Int))
        simp only [List.setIfInBounds_toArray, List.set_cons_zero, List.set_cons_succ] at s5
        have s6 := s5.setq 5 (.int .i64 (cd.locals : Int))
        simp only [List.setIfInBounds_toArray, List.set_cons_zero, List.set_cons_succ] at s6
        have s7 := s6.setq 6 (.string ⟨cd.bytes.toArray⟩)
        simp only [List.setIfInBounds_toArray, List.set_cons_zero, List.set_cons_succ] at s7
        have s8 := s7.setq 7 (.slice ha cd.handlers.length hcap)
        simp only [List.setIfInBounds_toArray, List.set_cons_zero, List.set_cons_succ] at s8
        have s9 := s8.setq 8 (.string ⟨cd.map.toArray⟩)
        simp only [List.setIfInBounds_toArray, List.set_cons_zero, List.set_cons_succ] at s9
        exact s9
      have HO2 : Hid (wE.ownsRow w.heap.size 152 4 (.slice ha cd.handlers.length hcap) cd.handlers.length (HC cd.handlers)) := by
        have k : ∀ (W : World) (i : Nat) (u : Value), W.ownsRow (w.heap.size + 2) 152 4 (.slice ha cd.handlers.length hcap) cd.handlers.length (HC cd.handlers) → (W.setCell ⟨w.heap.size, i, none⟩ u).ownsRow (w.heap.size + 2) 152 4 (.slice ha cd.handlers.length hcap) cd.handlers.length (HC cd.handlers) := fun W i u h => ins_kept h (grown_set W _ i u) (fun b e1 e2 => by cases e1; have := (ins_in h e2).1; omega)
        rw [hwE]
        exact own_mono (k _ _ _ (k _ _ _ (k _ _ _ (k _ _ _ (k _ _ _ (k _ _ _ (k _ _ _ (k _ _ _ (k _ _ _ (unhide HO)))))))))) (by omega)
      have Hres := hide hres
      have HwE := hide hwE
      clear HF HAs hres HO hwE
      have hend : ∀ (Kp : Prop), (m = 0 → Kp) → ((0 : Int) < (m : Int) → y5.e ≠ 0 → Kp) → Kp := fun Kp h1 h2 => by
        by_cases hm0 : m = 0
        · exact h1 hm0
        · exact h2 (by omega) (fun e => hgo ⟨hm0, e⟩)
      clear hgo
      refine hend _ (fun hm0 => ?_) (fun hmi hee => ?_)
      · subst hm0
        clear hend
        go_wp2
        rw [← unhide HwE]
        refine bodyPost_ret (results_cell_row Try.results42 _ _ w.heap.size 101 _ (0, 0) _ rfl (unhide HE).q Try.underlying101 rfl (by kernel_rfl)) rfl ?_
        rw [unhide Hres]
        exact ⟨_, rfl, unhide HO2, (unhide HE).rg, (unhide HE).gr, (unhide HE).k⟩
      · have hei : (((y5.e : Int) == 0) : Bool) = false := by rw [beq_eq_false_iff_ne]; omega
        clear hend hee
        go_wp2
        rw [← unhide HwE]
        refine bodyPost_ret (results_cell_row Try.results42 _ _ w.heap.size 101 _ (0, 0) _ rfl (unhide HE).q Try.underlying101 rfl (by kernel_rfl)) rfl ?_
        rw [unhide Hres]
        exact ⟨_, rfl, unhide HO2, (unhide HE).rg, (unhide HE).gr, (unhide HE).k⟩
end Go.Proofs.Ytbgpkkbejbidlac
