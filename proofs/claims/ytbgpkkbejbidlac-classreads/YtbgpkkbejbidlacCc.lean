/-
  The reference: code.
-/
import Derived.Test.YtbgpkkbejbidlacCe
import Derived.Test.YtbgpkkbejbidlacCh
import Derived.Deep.CutBlock
namespace Go.Proofs.Ytbgpkkbejbidlac
set_option linter.unusedVariables false
open Go.RowKit
open Cl (HC HC_snoc own152_slice)
section
variable {t : TypeId} {zs : Array Value} {w0 w w' : World} {Q C : Nat} {pv : Value} {s : ByteArray} {P : List K} {st st' : St} {cs : Array Value}
theorem FW.grow {row : Option Nat} (h : FW t zs w0 w Q C pv s P st cs) (hg : w.grownBy w' row) (hr : ∀ b, row = some b → w0.heap.size + 2 ≤ b) : FW t zs w0 w' Q C pv s P st cs := by
  have h1 := h.lt
  have h2 := h.lq
  have ne : ∀ g, g < w0.heap.size + 2 → some g ≠ row := fun g hlt e => by have := hr g e.symm; omega
  exact ⟨⟨h.rg.q.kept hg (ne _ (by omega)), h.rg.c.kept hg (ne _ (by omega)), h.rg.pos⟩, h.f.kept hg (ne _ (by omega)), h.q.kept hg (ne _ (by omega)), grown_own h.gr hg (fun b e => by have := hr b e; omega), h.k.kept hg (fun hne b o n c e => ne _ (by have := (h.off hne b o n c e).2; omega)), h.lt, h.lq, h.off⟩
theorem FW.alloc (h : FW t zs w0 w Q C pv s P st cs) (o : Obj) : FW t zs w0 (w.alloc o) Q C pv s P st cs := h.grow (World.grownBy_alloc w o none) (fun b e => by cases e)
theorem FW.cut (h : FW t zs w0 w Q C pv s P st cs) (hc : Cut w' C s st') (hg : w.grownBy w' (some C)) (hp : st'.pos ≤ s.data.toList.length) : FW t zs w0 w' Q C pv s P st' cs := h.step (h.rg.step hg hc hp) hg
theorem FW.drew (h : FW t zs w0 w Q C pv s P st cs) : FW t zs w0 w.drew Q C pv s P st cs := h.grow (row := none) ⟨rfl, rfl, rfl, Nat.le_refl _, fun _ _ _ => rfl⟩ (fun b e => by cases e)
end
/-- A handler in the making, and those that are read. -/
structure HL (w0 w : World) (C b : Nat) (hcs : Array Value) (v : Value) (A : List Hn) : Prop where
  h : Bk w b hcs 152
  ge : w0.heap.size + 2 ≤ b
  row : w.ownsRow (w0.heap.size + 2) 152 4 v A.length (HC A)
  ne : v.ownBlock ≠ some b
  lt : C < w0.heap.size
section
variable {w0 w w' : World} {C b : Nat} {hcs : Array Value} {v : Value} {A : List Hn}
theorem HL.step (h : HL w0 w C b hcs v A) (hg : w.grownBy w' (some C)) : HL w0 w' C b hcs v A := by
  have h1 := h.lt
  have h2 := h.ge
  exact ⟨h.h.kept hg (fun e => by cases e; omega), h.ge, ins_kept h.row hg (fun b e1 e2 => by cases e1; have := (ins_in h.row e2).1; omega), h.ne, h.lt⟩
theorem HL.set (h : HL w0 w C b hcs v A) (i : Nat) (u : Value) : HL w0 (w.setCell ⟨b, i, none⟩ u) C b (hcs.setIfInBounds i u) v A :=
  ⟨h.h.set i u, h.ge, ins_kept h.row (grown_set w b i u) (fun g e1 e2 => by cases e1; exact h.ne e2), h.ne, h.lt⟩
end
theorem own_ne {w : World} {B e k n g : Nat} {v : Value} {xs : List Value} {cs : Array Value} {t : TypeId} (h : w.ownsRow B e k v n xs) (hv : v.ownBlock = some g) (hb : Bk w g cs t) (ht : t ≠ e) : False := by
  rcases h.2 with ⟨rfl, _⟩ | ⟨g1, c1, cur1, rfl, _, k1, _⟩
  · cases hv
  · have a1 : g1 = g := by simpa [Value.ownBlock] using hv
    subst a1
    unfold Bk at hb
    rw [k1] at hb
    simp at hb
    exact ht hb.2.symm
theorem codR_parts (s : List UInt8) (P : List K) (st : St) {a b n k : Nat} {st1 st2 st3 st4 st5 st6 : St} {t : List UInt8} {h : List Hn} {z : (Bool × List UInt8) × St} (e1 : M.rd s 2 st = (a, st1)) (e2 : M.rd s 2 st1 = (b, st2)) (e3 : M.rd s 4 st2 = (n, st3)) (e4 : M.take s n st3 = (t, st4)) (e5 : M.lst s (M.hnd s) st4 = (h, st5)) (e6 : M.rd s 2 st5 = (k, st6)) (e7 : M.attsR s P (M.once s M.mapName (M.mval s)) k (false, []) st6 = z) :
    M.codR s P st = (⟨a, b, t, h, z.1.2⟩, z.2) := by
  unfold M.codR M.attsNR
  simp only [e1, e2, e3, e4, e5, e6, e7]
/-- What a call of the reference's code leaves. -/
def CodRR (Q C : Nat) (pv : Value) (s : ByteArray) (P : List K) (c : Cd) (st' : St) (w : World) (x : Ending) (w' : World) : Prop :=
  ∃ hv, x = .returned (.agg #[.int .i64 (c.stack : Int), .int .i64 (c.locals : Int), .string ⟨c.bytes.toArray⟩, hv, .string ⟨c.map.toArray⟩]) ∧ w'.ownsRow w.heap.size 152 4 hv c.handlers.length (HC c.handlers) ∧ Rg w' Q C pv s st' ∧ KIn w' pv P ∧ w.grownBy w' (some C)
set_option maxRecDepth 100000 in
set_option maxHeartbeats 4000000 in
theorem rcode_any (Q C : Nat) (pv : Value) (s : ByteArray) (P : List K) (st : St) (w : World) (h : Rg w Q C pv s st) (hs : s.size ≤ 131072) (hP : P.length ≤ 1048576) (hk : KIn w pv P) (hoff : Cl.Off w C pv P) :
    Calls Try.prog 80 #[.pointer (some ⟨Q, 0, none⟩)] w fun x w' => CodRR Q C pv s P (M.codR s.data.toList P st).1 (M.codR s.data.toList P st).2 w x w' := by
  obtain ⟨i0, hi, hz0, hz1, hz2⟩ := info_parts Cl.Try.info152
  have hCl := h.c.lt
  have hQl := h.q.lt
  have hl : s.data.toList.length = s.size := by simp
  have hp0 := h.pos
  have hp1 := M.rd_pos (n := 2) hp0
  have c1 := M.rd2 s.data.toList st
  have HU1 := hide (fun W hW => cnum_any C s st 2 W hW hs (by omega) hp0)
  obtain ⟨a, st1, e1⟩ : ∃ a b, M.rd s.data.toList 2 st = (a, b) := ⟨_, _, rfl⟩
  rw [e1] at c1 HU1 hp1
  simp only at c1 HU1 hp1
  have hp2 := M.rd_pos (n := 2) hp1
  have c2 := M.rd2 s.data.toList st1
  have HU2 := hide (fun W hW => cnum_any C s st1 2 W hW hs (by omega) hp1)
  obtain ⟨b, st2, e2⟩ : ∃ a b, M.rd s.data.toList 2 st1 = (a, b) := ⟨_, _, rfl⟩
  rw [e2] at c2 HU2 hp2
  simp only at c2 HU2 hp2
  have hp3 := M.rd_pos (n := 4) hp2
  have c3 : (M.rd s.data.toList 4 st2).1 < 4294967296 := by have := M.num_le (M.take_len s.data.toList 4 st2); simpa [M.rd] using this
  have HU3 := hide (fun W hW => cnum_any C s st2 4 W hW hs (by omega) hp2)
  obtain ⟨n, st3, e3⟩ : ∃ a b, M.rd s.data.toList 4 st2 = (a, b) := ⟨_, _, rfl⟩
  rw [e3] at c3 HU3 hp3
  simp only at c3 HU3 hp3
  have hp4 := M.take_pos (n := n) hp3
  have HU4 := hide (fun W hW => ctake_any C s st3 n W hW hs (by omega) (by omega))
  obtain ⟨tx, st4, e4⟩ : ∃ a b, M.take s.data.toList n st3 = (a, b) := ⟨_, _, rfl⟩
  rw [e4] at HU4 hp4
  simp only at HU4 hp4
  have hp5 := M.rd_pos (n := 2) hp4
  have c5 := M.rd2 s.data.toList st4
  have HU5 := hide (fun W hW => cnum_any C s st4 2 W hW hs (by omega) hp4)
  have hlst : M.lst s.data.toList (M.hnd s.data.toList) st4 = M.reps (M.hnd s.data.toList) (M.rd s.data.toList 2 st4).1 (M.rd s.data.toList 2 st4).2 := rfl
  obtain ⟨k5, st5, e5⟩ : ∃ a b, M.rd s.data.toList 2 st4 = (a, b) := ⟨_, _, rfl⟩
  rw [e5] at c5 HU5 hp5 hlst
  simp only at c5 HU5 hp5 hlst
  have hp6 : (M.reps (M.hnd s.data.toList) k5 st5).2.pos ≤ s.data.toList.length := M.reps_pos (fun st h => M.hnd_pos h) hp5
  obtain ⟨hl6, st6, e6⟩ : ∃ a b, M.reps (M.hnd s.data.toList) k5 st5 = (a, b) := ⟨_, _, rfl⟩
  rw [e6] at hlst hp6
  simp only at hp6
  have hp7 := M.rd_pos (n := 2) hp6
  have c7 := M.rd2 s.data.toList st6
  have HU7 := hide (fun W hW => cnum_any C s st6 2 W hW hs (by omega) hp6)
  obtain ⟨k7, st7, e7⟩ : ∃ a b, M.rd s.data.toList 2 st6 = (a, b) := ⟨_, _, rfl⟩
  rw [e7] at c7 HU7 hp7
  simp only at c7 HU7 hp7
  obtain ⟨z, hz⟩ : ∃ z, M.attsR s.data.toList P (M.once s.data.toList M.mapName (M.mval s.data.toList)) k7 (false, []) st7 = z := ⟨_, rfl⟩
  rw [codR_parts s.data.toList P st e1 e2 e3 e4 hlst e7 hz]
  simp only
  have HZ := hide hz
  have E6 := hide e6
  obtain ⟨wA, hwA⟩ : ∃ wA, wA = (w.alloc (.cells #[.int .i64 0, .int .i64 0, .string ⟨#[]⟩, .slice none 0 0, .string ⟨#[]⟩] 99)).alloc (.cells #[.int .i64 0, .int .i64 0, .string ⟨#[]⟩, .slice none 0 0, .string ⟨#[]⟩] 99) := ⟨_, rfl⟩
  have HA : Hid (FW 99 #[.int .i64 0, .int .i64 0, .string ⟨#[]⟩, .slice none 0 0, .string ⟨#[]⟩] w wA Q C pv s P st #[.int .i64 0, .int .i64 0, .string ⟨#[]⟩, .slice none 0 0, .string ⟨#[]⟩]) := by
    have hb1 : Below w.heap.size w (w.alloc (.cells #[.int .i64 0, .int .i64 0, .string ⟨#[]⟩, .slice none 0 0, .string ⟨#[]⟩] 99)) := (Below.refl _ _).alloc (Nat.le_refl _) _
    have hb2 : Below w.heap.size w wA := by rw [hwA]; exact hb1.alloc hb1.size _
    refine ⟨h.kept hb2, ?_, ?_, grown_of_below hb2 _, hk.below hb2, hCl, hQl, hoff⟩
    · rw [hwA]; have := Bk.new (w.alloc (.cells #[.int .i64 0, .int .i64 0, .string ⟨#[]⟩, .slice none 0 0, .string ⟨#[]⟩] 99)) #[.int .i64 0, .int .i64 0, .string ⟨#[]⟩, .slice none 0 0, .string ⟨#[]⟩] 99; simpa using this
    · rw [hwA]; exact (Bk.new _ _ _).alloc _
  have HwA := hide hwA
  clear e1 e2 e3 e4 e5 e6 e7 hlst hz hwA h hk
  obtain ⟨pad, pcap, epv, _⟩ := (unhide HA).k.ex
  subst epv
  have k0 := (unhide HA).rg.k0
  go_enter Try.func80, Try.ntmps80
  go_upto_region 2 with fail
  rw [← unhide HwA]
  clear HwA
  go_wp2_with fail
  refine (unhide HU1 _ (unhide HA).rg.c).mono ?_
  rintro e w1 ⟨rfl, hc1, hg1⟩
  have F1 := (unhide HA).cut hc1 hg1 hp1
  have q0 := F1.f.cell 0
  have qf := F1.f.frozen
  simp at q0
  clear k0
  have H1 := hide (F1.set 0 (.int .i64 (a : Int)))
  have k0 := (unhide H1).rg.k0
  clear HU1 HA hc1 hg1 F1
  go_wp2_with fail
  refine (unhide HU2 _ (unhide H1).rg.c).mono ?_
  rintro e w2 ⟨rfl, hc2, hg2⟩
  have F2 := (unhide H1).cut hc2 hg2 hp2
  clear q0 qf k0
  have q1 := F2.f.cell 1
  have qf := F2.f.frozen
  simp at q1
  obtain ⟨w3, hw3⟩ : ∃ w3, w3 = w2.setCell ⟨w.heap.size + 1, 1, none⟩ (.int .i64 (b : Int)) := ⟨_, rfl⟩
  have H2 : Hid (FW 99 #[.int .i64 0, .int .i64 0, .string ⟨#[]⟩, .slice none 0 0, .string ⟨#[]⟩] w w3 Q C (.slice pad P.length pcap) s P st2 #[.int .i64 (a : Int), .int .i64 (b : Int), .string ⟨#[]⟩, .slice none 0 0, .string ⟨#[]⟩]) := by rw [hw3]; exact F2.set 1 (.int .i64 (b : Int))
  have Hw3 := hide hw3
  have k0 := (unhide H2).rg.k0
  clear HU2 H1 hc2 hg2 F2 hw3
  go_upto_region 4 with fail
  rw [← unhide Hw3]
  clear Hw3 q1 qf
  have D3 := (unhide H2).drew
  have nq1 : ¬ Q = w.heap.size + 1 := by omega
  have nq2 : ¬ w.heap.size + 1 = Q := by omega
  go_cut [] (fun w' => Hid (FW 99 #[.int .i64 0, .int .i64 0, .string ⟨#[]⟩, .slice none 0 0, .string ⟨#[]⟩] w w' Q C (.slice pad P.length pcap) s P st4 #[.int .i64 (a : Int), .int .i64 (b : Int), .string ⟨tx.toArray⟩, .slice none 0 0, .string ⟨#[]⟩]))
  case first =>
    go_region_held3 (fun w' => w'.cell? ⟨Q, 0, none⟩ = some (.pointer (some ⟨C, 0, none⟩))) (go_keep)
      ((first
        | (go_at_call 40; refine (unhide HU3 _ D3.rg.c).mono ?_; rintro e w1 ⟨rfl, hc1, hg1⟩; have F1 := D3.cut hc1 hg1 hp3; have k1 := F1.rg.k0)
        | (go_at_call 36; refine (unhide HU4 _ hc1).mono ?_; rintro e w2 ⟨rfl, hc2, hg2⟩; have F2 := F1.cut hc2 hg2 hp4; have k2 := F2.rg.k0; have q2 := F2.f.cell 2; have qf := F2.f.frozen; simp at q2)
        | fail))
    all_goals
      go_wp2
      go_meet
      exact F2.set 2 _
  case rest =>
    clear k0 D3 HU3 HU4 H2 nq1 nq2
    have H4 : Hid (FW 99 #[.int .i64 0, .int .i64 0, .string ⟨#[]⟩, .slice none 0 0, .string ⟨#[]⟩] w wc Q C (.slice pad P.length pcap) s P st4 #[.int .i64 (a : Int), .int .i64 (b : Int), .string ⟨tx.toArray⟩, .slice none 0 0, .string ⟨#[]⟩]) := hcut
    clear hcut
    have k0 := (unhide H4).rg.k0
    go_wp2_with fail
    refine (unhide HU5 _ (unhide H4).rg.c).mono ?_
    rintro e w5 ⟨rfl, hc5, hg5⟩
    have H5 := hide ((unhide H4).cut hc5 hg5 hp5)
    clear HU5 H4 hc5 hg5 k0
    go_upto_block 0 with fail
    go_cut [] (fun w' => ∃ (ha : Option Addr) (hcap : Nat), Hid (FW 99 #[.int .i64 0, .int .i64 0, .string ⟨#[]⟩, .slice none 0 0, .string ⟨#[]⟩] w w' Q C (.slice pad P.length pcap) s P st6 #[.int .i64 (a : Int), .int .i64 (b : Int), .string ⟨tx.toArray⟩, .slice ha hl6.length hcap, .string ⟨#[]⟩]) ∧ Hid (w'.ownsRow (w.heap.size + 2) 152 4 (.slice ha hl6.length hcap) hl6.length (HC hl6)))
    case first =>
      go_wp2_with fail
      go_loopw [4] (fun i wr => ∃ (m : Nat) (A : List Hn) (x5 : St) (ha : Option Addr) (hcap : Nat), m ≤ k5 ∧ i = .int .i64 m ∧ Hid (M.Rs (M.hnd s.data.toList) k5 st5 A m x5) ∧ Hid (FW 99 #[.int .i64 0, .int .i64 0, .string ⟨#[]⟩, .slice none 0 0, .string ⟨#[]⟩] w wr Q C (.slice pad P.length pcap) s P x5 #[.int .i64 (a : Int), .int .i64 (b : Int), .string ⟨tx.toArray⟩, .slice ha A.length hcap, .string ⟨#[]⟩]) ∧ Hid (wr.ownsRow (w.heap.size + 2) 152 4 (.slice ha A.length hcap) A.length (HC A))) (fun i _ => (intOf i).toNat)
      case atStart => exact ⟨k5, [], st5, none, 0, Nat.le_refl _, rfl, M.Rs.zero, unhide H5, World.ownsRow_nil _ _ _ _⟩
      case round =>
        clear H5
        obtain ⟨m, A, x5, ha, hcap, hm, rfl, HRs, HF, HO⟩ := hrel
        have k0 := (unhide HF).rg.k0
        have k2 : wr.cell? ⟨C, 2, none⟩ = some (.int .i64 (x5.e : Int)) := (unhide HF).rg.c.cell 2
        by_cases hgo : m ≠ 0 ∧ x5.e = 0
        · obtain ⟨hm0, he⟩ := hgo
          have hmi : (0 : Int) < (m : Int) := by omega
          have hei : (((x5.e : Int) == 0) : Bool) = true := by rw [he]; rfl
          obtain ⟨n', hn'⟩ : ∃ n', m = n' + 1 := ⟨m - 1, by omega⟩
          have hm1 : (m : Int) - 1 = ((n' : Nat) : Int) := by omega
          have hst := unhide HRs
          rw [hn'] at hst
          have hst2 := hst.step he
          have hAl := hst.1
          have hA5 : A.length ≤ 65535 := by omega
          have hq0 := (unhide HF).rg.pos
          have hq1 := M.rd_pos (n := 2) hq0
          have d1 := M.rd2 s.data.toList x5
          have HV1 := hide (fun W hW => cnum_any C s x5 2 W hW hs (by omega) hq0)
          obtain ⟨y1, x6, e1⟩ : ∃ a b, M.rd s.data.toList 2 x5 = (a, b) := ⟨_, _, rfl⟩
          rw [e1] at hq1 d1 HV1
          simp only at hq1 d1 HV1
          have hq2 := M.rd_pos (n := 2) hq1
          have d2 := M.rd2 s.data.toList x6
          have HV2 := hide (fun W hW => cnum_any C s x6 2 W hW hs (by omega) hq1)
          obtain ⟨y2, x7, e2⟩ : ∃ a b, M.rd s.data.toList 2 x6 = (a, b) := ⟨_, _, rfl⟩
          rw [e2] at hq2 d2 HV2
          simp only at hq2 d2 HV2
          have hq3 := M.rd_pos (n := 2) hq2
          have d3 := M.rd2 s.data.toList x7
          have HV3 := hide (fun W hW => cnum_any C s x7 2 W hW hs (by omega) hq2)
          obtain ⟨y3, x8, e3⟩ : ∃ a b, M.rd s.data.toList 2 x7 = (a, b) := ⟨_, _, rfl⟩
          rw [e3] at hq3 d3 HV3
          simp only at hq3 d3 HV3
          have d4 := M.rd2 s.data.toList x8
          have HV4 := hide (fun W hW => index_any Q C (.slice pad P.length pcap) s x8 W hW hs)
          obtain ⟨y4, x9, e4⟩ : ∃ a b, M.rd s.data.toList 2 x8 = (a, b) := ⟨_, _, rfl⟩
          rw [e4] at d4 HV4
          simp only at d4 HV4
          have hhnd : M.hnd s.data.toList x5 = (Hn.mk y1 y2 y3 y4, x9) := by unfold M.hnd; simp only [e1, e2, e3, e4]
          rw [hhnd] at hst2
          have HSt := hide hst2
          clear e1 e2 e3 e4 hst hst2 HRs hAl he hm0 hq0 hhnd
          obtain ⟨wB, hwB⟩ : ∃ wB, wB = wr.alloc (.cells #[.int .i64 0, .int .i64 0, .int .i64 0, .int .u16 0] 152) := ⟨_, rfl⟩
          obtain ⟨hb, hhb⟩ : ∃ hb, hb = wr.heap.size := ⟨_, rfl⟩
          have HFB := hide ((unhide HF).alloc (.cells #[.int .i64 0, .int .i64 0, .int .i64 0, .int .u16 0] 152))
          rw [← hwB] at HFB
          have HHB : Hid (HL w wB C hb #[.int .i64 0, .int .i64 0, .int .i64 0, .int .u16 0] (.slice ha A.length hcap) A) := by
            rw [hwB, hhb]
            exact ⟨Bk.new _ _ _, (unhide HF).f.lt, (unhide HO).alloc _, fun e => by have := (ins_in (unhide HO) e).2; omega, hCl⟩
          have hhbw := (unhide HHB).ge
          have nb1 : ¬ hb = w.heap.size + 1 := by omega
          have nb2 : ¬ w.heap.size + 1 = hb := by omega
          have hset : ∀ (W : World) (x : St) (c : Array Value) (i : Nat) (u : Value), FW 99 #[.int .i64 0, .int .i64 0, .string ⟨#[]⟩, .slice none 0 0, .string ⟨#[]⟩] w W Q C (.slice pad P.length pcap) s P x c → FW 99 #[.int .i64 0, .int .i64 0, .string ⟨#[]⟩, .slice none 0 0, .string ⟨#[]⟩] w (W.setCell ⟨hb, i, none⟩ u) Q C (.slice pad P.length pcap) s P x c := fun W x c i u h => h.grow (grown_set W hb i u) (fun b e => by cases e; exact hhbw)
          have Hset := hide hset
          have HwB := hide hwB
          have Hhb := hide hhb
          clear HF HO hwB hhb hset
          go_upto_region 9 with fail
          rw [← unhide HwB, ← unhide Hhb]
          clear HwB Hhb k0 k2
          have k0 := (unhide HFB).rg.k0
          go_wp2_with fail
          refine (unhide HV1 _ (unhide HFB).rg.c).mono ?_
          rintro e w1 ⟨rfl, hc1, hg1⟩
          have G1 := (unhide HHB).step hg1
          have F1 := (unhide HFB).cut hc1 hg1 hq1
          have q0 := G1.h.cell 0
          have qf := G1.h.frozen
          simp at q0
          clear k0
          have HG1 := hide (G1.set 0 (.int .i64 (y1 : Int)))
          have HF1 := hide (unhide Hset _ _ _ 0 (.int .i64 (y1 : Int)) F1)
          have k0 := (unhide HF1).rg.k0
          clear HV1 HFB HHB hc1 hg1 F1 G1
          go_wp2_with fail
          refine (unhide HV2 _ (unhide HF1).rg.c).mono ?_
          rintro e w2 ⟨rfl, hc2, hg2⟩
          have G2 := (unhide HG1).step hg2
          have F2 := (unhide HF1).cut hc2 hg2 hq2
          clear k0 q0 qf
          have q1 := G2.h.cell 1
          have qf := G2.h.frozen
          simp at q1
          have HG2 := hide (G2.set 1 (.int .i64 (y2 : Int)))
          have HF2 := hide (unhide Hset _ _ _ 1 (.int .i64 (y2 : Int)) F2)
          have k0 := (unhide HF2).rg.k0
          clear HV2 HF1 HG1 hc2 hg2 F2 G2
          go_wp2_with fail
          refine (unhide HV3 _ (unhide HF2).rg.c).mono ?_
          rintro e w3 ⟨rfl, hc3, hg3⟩
          have G3 := (unhide HG2).step hg3
          have F3 := (unhide HF2).cut hc3 hg3 hq3
          clear k0 q1 qf
          have q2 := G3.h.cell 2
          have qf := G3.h.frozen
          simp at q2
          have HG3 := hide (G3.set 2 (.int .i64 (y3 : Int)))
          have HF3 := hide (unhide Hset _ _ _ 2 (.int .i64 (y3 : Int)) F3)
          clear HV3 HF2 HG2 hc3 hg3 F3 G3
          go_wp2_with fail
          refine (unhide HV4 _ (unhide HF3).rg).mono ?_
          rintro e w4 ⟨rfl, hr4, hg4⟩
          have G4 := (unhide HG3).step hg4
          have F4 := (unhide HF3).step hr4 hg4
          clear q2 qf
          have q3 := G4.h.cell 3
          have qf := G4.h.frozen
          simp at q3
          obtain ⟨w5, hw5⟩ : ∃ w5, w5 = w4.setCell ⟨hb, 3, none⟩ (.int .u16 (y4 : Int)) := ⟨_, rfl⟩
          have G5 : HL w w5 C hb #[.int .i64 (y1 : Int), .int .i64 (y2 : Int), .int .i64 (y3 : Int), .int .u16 (y4 : Int)] (.slice ha A.length hcap) A := by rw [hw5]; exact G4.set 3 (.int .u16 (y4 : Int))
          have F5 : FW 99 #[.int .i64 0, .int .i64 0, .string ⟨#[]⟩, .slice none 0 0, .string ⟨#[]⟩] w w5 Q C (.slice pad P.length pcap) s P x9 #[.int .i64 (a : Int), .int .i64 (b : Int), .string ⟨tx.toArray⟩, .slice ha A.length hcap, .string ⟨#[]⟩] := by rw [hw5]; exact unhide Hset _ _ _ 3 (.int .u16 (y4 : Int)) F4
          have Hw5 := hide hw5
          clear HV4 HF3 HG3 hr4 hg4 F4 G4 hw5 Hset
          go_upto_region 13 with fail
          rw [← unhide Hw5]
          clear Hw5 q3 qf
          have p0 := G5.h.cell 0
          have p1 := G5.h.cell 1
          have p2 := G5.h.cell 2
          have p3 := G5.h.cell 3
          have f3 := F5.f.cell 3
          simp at p0 p1 p2 p3 f3
          have hrow := G5.row
          have HF5 := hide F5
          have hw5z : w.heap.size + 2 ≤ w5.heap.size := F5.f.lt
          clear F5 G5
          go_wp2_with (at_builtin; refine wpList_append_own_at _ rfl _ _ 97 rfl (w.heap.size + 2) 152 i0 (.agg #[.int .i64 0, .int .i64 0, .int .i64 0, .int .u16 0]) 4 32 Try.underlying97 hi hz0 hz1 hz2 rfl (by decide) _ A.length (HC A) rfl (hrow.alloc _) ⟨w5.heap.size, 0, none⟩ 1 1 [.int .i64 (y1 : Int), .int .i64 (y2 : Int), .int .i64 (y3 : Int), .int .u16 (y4 : Int)] rfl rfl ?c1 ?c2 ?c3 ?c4 ?c5 ?_)
          case c1 =>
            intro j u hj
            rw [Addr.add_lit, Nat.zero_add, (Bk.new w5 _ 152).cell j]
            simpa using hj
          case c2 => intro u hu; simp at hu; rcases hu with rfl | rfl | rfl | rfl <;> rfl
          case c3 => unfold maxLen; omega
          case c4 => omega
          case c5 => simp; omega
          intro v' w6 hown' hgrow _ hbv
          have hlt2 := (hrow.alloc (.cells #[.int .i64 (y1 : Int), .int .i64 (y2 : Int), .int .i64 (y3 : Int), .int .u16 (y4 : Int)] 152)).lt
          have F6 := ((unhide HF5).alloc (.cells #[.int .i64 (y1 : Int), .int .i64 (y2 : Int), .int .i64 (y3 : Int), .int .u16 (y4 : Int)] 152)).grow hgrow (fun b e => (hlt2 b e).1)
          have O6 : w6.ownsRow (w.heap.size + 2) 152 4 v' (A ++ [Hn.mk y1 y2 y3 y4]).length (HC (A ++ [Hn.mk y1 y2 y3 y4])) := by
            rw [HC_snoc, List.length_append]; exact hown'
          obtain ⟨A', hA'⟩ : ∃ A', A' = A ++ [Hn.mk y1 y2 y3 y4] := ⟨_, rfl⟩
          rw [← hA'] at O6 HSt
          clear hA'
          obtain ⟨va, vcap, ev⟩ := own152_slice O6
          subst ev
          have q3 := F6.f.cell 3
          have qf := F6.f.frozen
          simp at q3
          have HF7 := hide (F6.set 3 (.slice va A'.length vcap))
          have HO7 := hide (ins_kept O6 (grown_set w6 (w.heap.size + 1) 3 (.slice va A'.length vcap)) (fun b e1 e2 => by cases e1; exact own_ne O6 e2 F6.f (by decide)))
          clear hown' hgrow hbv hlt2 F6 O6 hrow HF5 p0 p1 p2 p3 f3
          go_wp2
          go_roundw
          case rel => exact ⟨n', A', x9, va, vcap, by omega, by go_num, HSt, HF7, HO7⟩
          case measure => simp [intOf]; omega
        · have hres : (hl6, st6) = (A, x5) := by
            rw [← unhide E6]
            by_cases hm0 : m = 0
            · subst hm0; exact (unhide HRs).done
            · exact (unhide HRs).stop (fun e => hgo ⟨hm0, e⟩)
          cases hres
          have hend : ∀ (Kp : Prop), (m = 0 → Kp) → ((0 : Int) < (m : Int) → st6.e ≠ 0 → Kp) → Kp := fun Kp h1 h2 => by
            by_cases hm0 : m = 0
            · exact h1 hm0
            · exact h2 (by omega) (fun e => hgo ⟨hm0, e⟩)
          clear hgo HRs
          refine hend _ (fun hm0 => ?_) (fun hmi hee => ?_)
          · subst hm0
            clear hend
            go_wp2
            go_meet
            exact ⟨ha, hcap, HF, HO⟩
          · have hei : (((st6.e : Int) == 0) : Bool) = false := by rw [beq_eq_false_iff_ne]; omega
            clear hend hee
            go_wp2
            go_meet
            exact ⟨ha, hcap, HF, HO⟩
    case rest =>
      clear H5
      obtain ⟨ha, hcap, HF, HO⟩ := hcut
      have k0 := (unhide HF).rg.k0
      go_wp2_with fail
      refine (unhide HU7 _ (unhide HF).rg.c).mono ?_
      rintro e w5 ⟨rfl, hc5, hg5⟩
      have H5 : Hid (FW 99 #[.int .i64 0, .int .i64 0, .string ⟨#[]⟩, .slice none 0 0, .string ⟨#[]⟩] w w5 Q C (.slice pad P.length pcap) s P st7 #[.int .i64 (a : Int), .int .i64 (b : Int), .string ⟨tx.toArray⟩, .slice ha hl6.length hcap, .string ⟨([] : List UInt8).toArray⟩]) := (unhide HF).cut hc5 hg5 hp7
      have O5 := hide (ins_kept (unhide HO) hg5 (fun b e1 e2 => by cases e1; have := (ins_in (unhide HO) e2).1; omega))
      clear HU7 HF HO hc5 hg5 k0
      go_wp2_with fail
      go_loopw [6, 7] (fun sn i wr => ∃ (m : Nat) (x : Bool × List UInt8) (y5 : St), m ≤ k7 ∧ sn = .bool x.1 ∧ i = .int .i64 m ∧ Hid (Asr s.data.toList P (M.once s.data.toList M.mapName (M.mval s.data.toList)) k7 (false, []) st7 m x y5) ∧ Hid (FW 99 #[.int .i64 0, .int .i64 0, .string ⟨#[]⟩, .slice none 0 0, .string ⟨#[]⟩] w wr Q C (.slice pad P.length pcap) s P y5 #[.int .i64 (a : Int), .int .i64 (b : Int), .string ⟨tx.toArray⟩, .slice ha hl6.length hcap, .string ⟨x.2.toArray⟩]) ∧ Hid (wr.ownsRow (w.heap.size + 2) 152 4 (.slice ha hl6.length hcap) hl6.length (HC hl6))) (fun _ i _ => (intOf i).toNat)
      case atStart => exact ⟨k7, (false, []), st7, Nat.le_refl _, rfl, rfl, rfl, H5, O5⟩
      case round =>
        clear H5 O5
        obtain ⟨m, ⟨sn, vl⟩, y5, hm, rfl, rfl, HAs, HF, HO⟩ := hrel
        simp only at HF
        have k0 := (unhide HF).rg.k0
        have k2 : wr.cell? ⟨C, 2, none⟩ = some (.int .i64 (y5.e : Int)) := (unhide HF).rg.c.cell 2
        by_cases hgo : m ≠ 0 ∧ y5.e = 0
        · obtain ⟨hm0, he⟩ := hgo
          have hmi : (0 : Int) < (m : Int) := by omega
          have hei : (((y5.e : Int) == 0) : Bool) = true := by rw [he]; rfl
          obtain ⟨n', hn'⟩ : ∃ n', m = n' + 1 := ⟨m - 1, by omega⟩
          have hm1 : (m : Int) - 1 = ((n' : Nat) : Int) := by omega
          have hst := unhide HAs
          rw [hn'] at hst
          have hst2 := hst.step he
          have HAt := hide (attribute_any Q C (.slice pad P.length pcap) s P y5 wr (unhide HF).rg hs hP (unhide HF).k (unhide HF).ofc)
          unfold M.attR at hst2
          unfold AtV at HAt
          have hlt := hd_lt s.data.toList P y5
          have hps := hd_pos (s := s.data.toList) (P := P) (st := y5) (unhide HF).rg.pos
          have hpp := (unhide HF).rg.pos
          obtain ⟨ln, y6, e6⟩ : ∃ a b, M.hd s.data.toList P y5 = (a, b) := ⟨_, _, rfl⟩
          rw [e6] at hst2 HAt hlt hps
          simp only at hst2 HAt hlt hps
          obtain ⟨nm, hnm⟩ : ∃ nm, nm = M.text P ((M.rd s.data.toList 2 y5).1 : Int) := ⟨_, rfl⟩
          rw [← hnm] at hst2 HAt
          clear e6 hnm hst HAs he hm0
          by_cases h6 : y6.e = 0
          · rw [if_pos h6] at hst2
            rw [if_pos h6, if_pos h6] at HAt
            have HSt := hide hst2
            clear hst2 h6
            go_wp2_with fail
            refine (unhide HAt).mono ?_
            rintro e w6 ⟨rfl, hr6, hg6⟩
            have H6 := hide ((unhide HF).step hr6 hg6)
            have O6 := hide (ins_kept (unhide HO) hg6 (fun b e1 e2 => by cases e1; have := (ins_in (unhide HO) e2).1; omega))
            clear HAt HF HO hr6 hg6 k0 k2
            have k0 := (unhide H6).rg.k0
            by_cases hn : nm = M.mapName
            · have hq : ((nm == [83, 116, 97, 99, 107, 77, 97, 112, 84, 97, 98, 108, 101]) : Bool) = true := by rw [beq_iff_eq]; exact hn
              have hsq := unhide HSt
              unfold M.once at hsq
              rw [if_pos hn] at hsq
              simp only at hsq
              obtain ⟨y7, e7⟩ : ∃ x, x = (if sn = true then M.fail y6 11 y5.pos else y6) := ⟨_, rfl⟩
              rw [← e7] at hsq
              have hp7' : y7.pos ≤ s.data.toList.length := by
                rw [e7]; split
                · rw [M.fail_pos]; exact hps
                · exact hps
              have hy7 : y7.pos = y6.pos := by
                rw [e7]; split
                · rw [M.fail_pos]
                · rfl
              unfold M.mval at hsq
              have hp8 := M.take_pos (n := ln) hp7'
              have HT := hide (fun W hW => ctake_any C s y7 ln W hW hs (by omega) (by omega))
              have hwr : IntKind.i64.wrap ((y6.pos : Int) + (ln : Int) - (y7.pos : Int)) = (ln : Int) := by rw [hy7, IntKind.wrap_i64]; omega
              obtain ⟨t8, y8, e8⟩ : ∃ a b, M.take s.data.toList ln y7 = (a, b) := ⟨_, _, rfl⟩
              rw [e8] at hsq HT hp8
              simp only at hsq HT hp8
              have HOv := hide (fun W hW => over_looked Q C (.slice pad P.length pcap) s y8 y5.pos (y6.pos + ln) W hW (by omega))
              rw [Int.natCast_add] at HOv
              obtain ⟨y9, e9⟩ : ∃ x, x = (if y8.pos = y6.pos + ln then y8 else M.fail y8 12 y5.pos) := ⟨_, rfl⟩
              rw [← e9] at hsq HOv
              have Hsq := hide hsq
              have E7 := hide e7
              clear HSt hsq e7 e8 e9 hn hy7
              cases sn with
              | true =>
                have q7 : y7 = M.fail y6 11 y5.pos := by rw [unhide E7, if_pos rfl]
                have HF7 := hide (cfail_any C s y6 11 y5.pos w6 (unhide H6).rg.c)
                rw [← q7] at HF7
                have He7 : Hid (y7.e ≠ 0) := by rw [q7]; exact M.fail_e (by decide)
                clear q7 E7
                go_wp2_with fail
                refine (unhide HF7).mono ?_
                rintro e w7 ⟨rfl, hc7, hg7⟩
                have H7 := hide ((unhide H6).cut hc7 hg7 hp7')
                have O7 := hide (ins_kept (unhide O6) hg7 (fun b e1 e2 => by cases e1; have := (ins_in (unhide O6) e2).1; omega))
                clear H6 O6 HF7 hc7 hg7 k0
                have k0 := (unhide H7).rg.k0
                have k1 : w7.cell? ⟨C, 1, none⟩ = some (.int .i64 (y7.pos : Int)) := (unhide H7).rg.c.cell 1
                have hcD : Cut w7.drew C s y7 := (unhide H7).rg.c
                have D7 := (unhide H7).drew
                go_wp2_with fail
                go_region_with (go_at_call 36; refine (unhide HT _ ?_).mono ?_; exact hcD; rintro e w8 ⟨rfl, hc8, hg8⟩; have F8 := D7.cut hc8 hg8 hp8; have f4 := F8.f.cell 4; have ff := F8.f.frozen; simp at f4)
                all_goals
                  have hg8' : w7.grownBy w8 (some C) := ⟨hg8.os, hg8.tape, hg8.output, hg8.size, hg8.block⟩
                  have O8 := ins_kept (unhide O7) hg8' (fun b e1 e2 => by cases e1; have := (ins_in (unhide O7) e2).1; omega)
                  have F9 := F8.set 4 (.string ⟨t8.toArray⟩)
                  have HO9 := hide (unhide HOv _ F9.rg)
                  have H9 := hide F9
                  have O9 := hide (ins_kept O8 (grown_set w8 (w.heap.size + 1) 4 (.string ⟨t8.toArray⟩)) (fun b e1 e2 => by cases e1; exact own_ne O8 e2 F8.f (by decide)))
                  clear hg8' O8 F9 F8 hc8 hg8 k0 k1
                  go_wp2_with fail
                  refine (unhide HO9).mono ?_
                  rintro e w9 ⟨rfl, hr9, hg9⟩
                  have H10 := hide ((unhide H9).step hr9 hg9)
                  have O10 := hide (ins_kept (unhide O9) hg9 (fun b e1 e2 => by cases e1; have := (ins_in (unhide O9) e2).1; omega))
                  clear HO9 H9 O9 hr9 hg9 f4 ff
                  go_wp2
                  go_roundw
                  case rel => exact ⟨n', (true, t8), y9, by omega, rfl, by go_num, Hsq, H10, O10⟩
                  case measure => simp [intOf]; omega
              | false =>
                have q7 : y7 = y6 := by rw [unhide E7, if_neg (by simp)]
                subst q7
                have H7 := H6
                have O7 := O6
                obtain ⟨w7, hw7⟩ : ∃ w7, w7 = w6 := ⟨_, rfl⟩
                subst hw7
                clear H6 O6 E7 k0
                have k0 := (unhide H7).rg.k0
                have k1 : w7.cell? ⟨C, 1, none⟩ = some (.int .i64 (y7.pos : Int)) := (unhide H7).rg.c.cell 1
                have hcD : Cut w7.drew C s y7 := (unhide H7).rg.c
                have D7 := (unhide H7).drew
                go_wp2_with fail
                go_region_with (go_at_call 36; refine (unhide HT _ ?_).mono ?_; exact hcD; rintro e w8 ⟨rfl, hc8, hg8⟩; have F8 := D7.cut hc8 hg8 hp8; have f4 := F8.f.cell 4; have ff := F8.f.frozen; simp at f4)
                all_goals
                  have hg8' : w7.grownBy w8 (some C) := ⟨hg8.os, hg8.tape, hg8.output, hg8.size, hg8.block⟩
                  have O8 := ins_kept (unhide O7) hg8' (fun b e1 e2 => by cases e1; have := (ins_in (unhide O7) e2).1; omega)
                  have F9 := F8.set 4 (.string ⟨t8.toArray⟩)
                  have HO9 := hide (unhide HOv _ F9.rg)
                  have H9 := hide F9
                  have O9 := hide (ins_kept O8 (grown_set w8 (w.heap.size + 1) 4 (.string ⟨t8.toArray⟩)) (fun b e1 e2 => by cases e1; exact own_ne O8 e2 F8.f (by decide)))
                  clear hg8' O8 F9 F8 hc8 hg8 k0 k1
                  go_wp2_with fail
                  refine (unhide HO9).mono ?_
                  rintro e w9 ⟨rfl, hr9, hg9⟩
                  have H10 := hide ((unhide H9).step hr9 hg9)
                  have O10 := hide (ins_kept (unhide O9) hg9 (fun b e1 e2 => by cases e1; have := (ins_in (unhide O9) e2).1; omega))
                  clear HO9 H9 O9 hr9 hg9 f4 ff
                  go_wp2
                  go_roundw
                  case rel => exact ⟨n', (true, t8), y9, by omega, rfl, by go_num, Hsq, H10, O10⟩
                  case measure => simp [intOf]; omega
            · have hq : ((nm == [83, 116, 97, 99, 107, 77, 97, 112, 84, 97, 98, 108, 101]) : Bool) = false := by rw [beq_eq_false_iff_ne]; exact hn
              have hsq := unhide HSt
              unfold M.once at hsq
              rw [if_neg hn] at hsq
              simp only at hsq
              have Hsq := hide hsq
              have HOv := hide (over_pass Q C (.slice pad P.length pcap) s y6 y5.pos ln w6 (unhide H6).rg hs hlt)
              clear HSt hsq hn k0
              go_wp2_with fail
              refine (unhide HOv).mono ?_
              rintro e w7 ⟨rfl, hr7, hg7⟩
              have H7 := hide ((unhide H6).step hr7 hg7)
              have O7 := hide (ins_kept (unhide O6) hg7 (fun b e1 e2 => by cases e1; have := (ins_in (unhide O6) e2).1; omega))
              clear HOv H6 O6 hr7 hg7
              go_wp2
              go_roundw
              case rel => exact ⟨n', (sn, vl), _, by omega, rfl, by go_num, Hsq, H7, O7⟩
              case measure => simp [intOf]; omega
          · rw [if_neg h6] at hst2
            rw [if_neg h6, if_neg h6] at HAt
            have HSt := hide hst2
            have H6e := hide h6
            clear hst2 h6
            go_wp2_with fail
            refine (unhide HAt).mono ?_
            rintro e w6 ⟨rfl, hr6, hg6⟩
            have H6 := hide ((unhide HF).step hr6 hg6)
            have O6 := hide (ins_kept (unhide HO) hg6 (fun b e1 e2 => by cases e1; have := (ins_in (unhide HO) e2).1; omega))
            have HOv := hide (over_bad Q C (.slice pad P.length pcap) s y6 y5.pos w6 hr6 hs (unhide H6e))
            clear HAt HF HO hr6 hg6 k0 k2
            go_wp2_with fail
            refine (unhide HOv).mono ?_
            rintro e w7 ⟨rfl, hr7, hg7⟩
            have H7 := hide ((unhide H6).step hr7 hg7)
            have O7 := hide (ins_kept (unhide O6) hg7 (fun b e1 e2 => by cases e1; have := (ins_in (unhide O6) e2).1; omega))
            clear HOv H6 O6 hr7 hg7
            go_wp2
            go_roundw
            case rel => exact ⟨n', (sn, vl), y6, by omega, rfl, by go_num, HSt, H7, O7⟩
            case measure => simp [intOf]; omega
        · have hres : z = ((sn, vl), y5) := by
            rw [← unhide HZ]
            by_cases hm0 : m = 0
            · subst hm0; exact (unhide HAs).done
            · exact (unhide HAs).stop (fun e => hgo ⟨hm0, e⟩)
          have p0 := (unhide HF).f.cell 0
          have p1 := (unhide HF).f.cell 1
          have p2 := (unhide HF).f.cell 2
          have p3 := (unhide HF).f.cell 3
          have p4 := (unhide HF).f.cell 4
          have z0 := (unhide HF).q.cell 0
          have z1 := (unhide HF).q.cell 1
          have z2 := (unhide HF).q.cell 2
          have z3 := (unhide HF).q.cell 3
          have z4 := (unhide HF).q.cell 4
          have zf := (unhide HF).q.frozen
          simp at p0 p1 p2 p3 p4 z0 z1 z2 z3 z4
          obtain ⟨wE, hwE⟩ : ∃ wE, wE = ((((wr.setCell ⟨w.heap.size, 0, none⟩ (.int .i64 (a : Int))).setCell ⟨w.heap.size, 1, none⟩ (.int .i64 (b : Int))).setCell ⟨w.heap.size, 2, none⟩ (.string ⟨tx.toArray⟩)).setCell ⟨w.heap.size, 3, none⟩ (.slice ha hl6.length hcap)).setCell ⟨w.heap.size, 4, none⟩ (.string ⟨vl.toArray⟩) := ⟨_, rfl⟩
          have HE : Hid (FW 99 #[.int .i64 (a : Int), .int .i64 (b : Int), .string ⟨tx.toArray⟩, .slice ha hl6.length hcap, .string ⟨vl.toArray⟩] w wE Q C (.slice pad P.length pcap) s P y5 #[.int .i64 (a : Int), .int .i64 (b : Int), .string ⟨tx.toArray⟩, .slice ha hl6.length hcap, .string ⟨vl.toArray⟩]) := by
            rw [hwE]; exact (((((unhide HF).setq 0 _).setq 1 _).setq 2 _).setq 3 _).setq 4 _
          have HO2 : Hid (wE.ownsRow w.heap.size 152 4 (.slice ha hl6.length hcap) hl6.length (HC hl6)) := by
            have k : ∀ (W : World) (i : Nat) (u : Value), W.ownsRow (w.heap.size + 2) 152 4 (.slice ha hl6.length hcap) hl6.length (HC hl6) → (W.setCell ⟨w.heap.size, i, none⟩ u).ownsRow (w.heap.size + 2) 152 4 (.slice ha hl6.length hcap) hl6.length (HC hl6) := fun W i u h => ins_kept h (grown_set W _ i u) (fun b e1 e2 => by cases e1; have := (ins_in h e2).1; omega)
            rw [hwE]
            exact own_mono (k _ _ _ (k _ _ _ (k _ _ _ (k _ _ _ (k _ _ _ (unhide HO)))))) (by omega)
          have Hres := hide hres
          have HwE := hide hwE
          clear HF HAs hres HO hwE
          have hend : ∀ (Kp : Prop), (m = 0 → Kp) → ((0 : Int) < (m : Int) → y5.e ≠ 0 → Kp) → Kp := fun Kp h1 h2 => by
            by_cases hm0 : m = 0
            · exact h1 hm0
            · exact h2 (by omega) (fun e => hgo ⟨hm0, e⟩)
          clear hgo
          refine hend _ (fun hm0 => ?_) (fun hmi hee => ?_)
          · subst hm0
            clear hend
            go_wp2
            rw [← unhide HwE]
            refine bodyPost_ret (results_cell_row Try.results80 _ _ w.heap.size 99 _ (0, 0) _ rfl (unhide HE).q Try.underlying99 rfl (by kernel_rfl)) rfl ?_
            rw [unhide Hres]
            exact ⟨_, rfl, unhide HO2, (unhide HE).rg, (unhide HE).k, (unhide HE).gr⟩
          · have hei : (((y5.e : Int) == 0) : Bool) = false := by rw [beq_eq_false_iff_ne]; omega
            clear hend hee
            go_wp2
            rw [← unhide HwE]
            refine bodyPost_ret (results_cell_row Try.results80 _ _ w.heap.size 99 _ (0, 0) _ rfl (unhide HE).q Try.underlying99 rfl (by kernel_rfl)) rfl ?_
            rw [unhide Hres]
            exact ⟨_, rfl, unhide HO2, (unhide HE).rg, (unhide HE).k, (unhide HE).gr⟩
end Go.Proofs.Ytbgpkkbejbidlac
