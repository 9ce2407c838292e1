/-
  Package maps: Read.
-/
import Derived.Test.YtbgpkkbejbidlacRp
import Derived.Deep.RegionHeldLaw
namespace Go.Proofs.Ytbgpkkbejbidlac
open Go.RowKit
/-- What ReadMap leaves. -/
def RmR (F : List Fm) (st' : St) (w : World) (e : Ending) (w' : World) : Prop :=
  ∃ ad n c, e = .returned (.tuple #[.slice ad n c, .int .i64 (st'.e : Int), .int .i64 ((if st'.e = 0 then 0 else st'.p : Nat) : Int)]) ∧ Below w.heap.size w w' ∧ (st'.e = 0 → ∃ L, L.map J.f = F ∧ Lst w' w.heap.size (.slice ad n c) L) ∧ (st'.e ≠ 0 → ad = none ∧ n = 0 ∧ c = 0)
theorem KIn.off {w : World} {v : Value} {P : List K} (h : KIn w v P) {R : Nat} (hR : w.heap.size ≤ R) : P ≠ [] → ∀ b o n c, v = .slice (some ⟨b, o, none⟩) n c → b ≠ R := fun hne b o n c e => by
  obtain ⟨ad, cap, e1, h1⟩ := h.ex
  obtain ⟨b', o', e2, h2⟩ := h1 hne
  rw [e] at e1
  cases e1
  cases e2
  have hlt := cell_lt (show w.cell? _ = some _ from h2 0 (List.length_pos_iff.2 hne) 0 (by omega))
  simp only at hlt
  omega
theorem TIn.off {w : World} {v : Value} {L : List T} (h : TIn w v L) {R : Nat} (hR : w.heap.size ≤ R) : L ≠ [] → ∀ b o n c, v = .slice (some ⟨b, o, none⟩) n c → b ≠ R := fun hne b o n c e => by
  obtain ⟨ad, cap, e1, h1⟩ := h
  obtain ⟨b', o', e2, h2⟩ := h1 hne
  rw [e] at e1
  cases e1
  cases e2
  have hlt := cell_lt (show w.cell? _ = some _ from h2 0 (List.length_pos_iff.2 hne) 0 (by omega))
  simp only at hlt
  omega
set_option maxRecDepth 100000 in
set_option maxHeartbeats 2000000 in
theorem Read_any (pv lv : Value) (s : ByteArray) (P : List K) (F : List T) (w : World) (hs : s.size ≤ 131072) (hP : P.length ≤ 1048576) (hp : KIn w pv P) (hl : TIn w lv F) (hcap : ∀ ad n c, lv = .slice ad n c → n ≤ c) (hL : F.length ≤ 65536) :
    Calls Try.prog 8 #[.string s, pv, lv] w fun x w' =>
      RmR (M.frames s.data.toList P (M.rd s.data.toList 2 ⟨0, 0, 0⟩).1 ⟨-1, F, []⟩ (M.rd s.data.toList 2 ⟨0, 0, 0⟩).2).1 (M.fin s.data.toList (M.frames s.data.toList P (M.rd s.data.toList 2 ⟨0, 0, 0⟩).1 ⟨-1, F, []⟩ (M.rd s.data.toList 2 ⟨0, 0, 0⟩).2).2) w x w' := by
  have HN := hide (NewReader_any s w)
  have Hp := hide hp
  have Hl := hide hl
  obtain ⟨lad, lcap, elv, _⟩ := hl
  have hc := hcap _ _ _ elv
  obtain ⟨pad, pcap, epv, _⟩ := hp.ex
  subst elv epv
  have HFr := hide (fun (R : Nat) (W : World) (hr : Rx W R (.slice pad P.length pcap) s P ⟨0, 0, 0⟩) (ht : TIn W (.slice lad F.length lcap) F) (hn : F ≠ [] → ∀ b o n c, Value.slice lad F.length lcap = .slice (some ⟨b, o, none⟩) n c → b ≠ R) =>
    frames_any R (.slice pad P.length pcap) (.slice lad F.length lcap) (.slice none 0 0) s P ⟨-1, F, []⟩ ⟨0, 0, 0⟩ W hr hs hP ht hn (fun ad n c e => by cases e; exact hc) ⟨_, _, _, rfl⟩ hL (by simp) (by simp only; omega) (by simp only; omega))
  obtain ⟨Fs, hFs⟩ : ∃ Fs, Fs = (M.frames s.data.toList P (M.rd s.data.toList 2 ⟨0, 0, 0⟩).1 ⟨-1, F, []⟩ (M.rd s.data.toList 2 ⟨0, 0, 0⟩).2).1 := ⟨_, rfl⟩
  obtain ⟨st', hst⟩ : ∃ st', st' = M.fin s.data.toList (M.frames s.data.toList P (M.rd s.data.toList 2 ⟨0, 0, 0⟩).1 ⟨-1, F, []⟩ (M.rd s.data.toList 2 ⟨0, 0, 0⟩).2).2 := ⟨_, rfl⟩
  rw [← hFs, ← hst]
  simp only [← hFs, ← hst] at HFr
  clear hFs hst hp hcap
  go_enter Try.func8, Try.ntmps8
  go_wp2_with fail
  refine (unhide HN).mono ?_
  rintro e w1 ⟨rfl, hb1⟩
  obtain ⟨R, hR⟩ : ∃ R, R = w1.heap.size := ⟨_, rfl⟩
  obtain ⟨w2, hw2⟩ : ∃ w2, w2 = w1.alloc (.cells #[.string s, .int .i64 0, .int .i64 0, .int .i64 0, .slice pad P.length pcap] 60) := ⟨_, rfl⟩
  have hb2 : Below w.heap.size w w2 := by rw [hw2]; exact hb1.alloc hb1.size _
  have hRw : w.heap.size ≤ R := by rw [hR]; exact hb1.size
  have hrd : Rd w2 R (.slice pad P.length pcap) s ⟨0, 0, 0⟩ := by rw [hw2, hR]; exact heap_alloc_new _ _
  have hRx : Rx w2 R (.slice pad P.length pcap) s P ⟨0, 0, 0⟩ := ⟨hrd, (unhide Hp).below hb2, (unhide Hp).off hRw, Nat.zero_le _⟩
  have HB := hide (beginning_any lad F.length lcap w2)
  have HW2 := hide hw2
  have HR := hide hR
  clear HN hw2 hR hb1 hrd
  go_upto_region 2 with fail
  rw [← unhide HW2, ← unhide HR]
  clear HW2 HR
  go_wp2_with fail
  refine (unhide HB).mono ?_
  rintro e w3 ⟨rfl, hb3⟩
  have hb4 := hb2.trans (hb3.mono hb2.size)
  have hrx3 := hRx.below hb3
  clear HB
  go_wp2_with fail
  refine (unhide HFr R w3 hrx3 ((unhide Hl).below hb4) ((unhide Hl).off hRw)).mono ?_
  rintro e w5 ⟨ad, n, c, rfl, hr5, hg5, hok⟩
  have hb5 : Below w.heap.size w w5 := hb4.grown hg5 hb4.size (fun k e => by cases e; exact hRw)
  have HE := hide (Err_any R (.slice pad P.length pcap) s st' w5 hr5.rd)
  have hz3 := hb4.size
  clear HFr
  go_wp2_with fail
  refine (unhide HE).mono ?_
  rintro e w6 ⟨rfl, k, hw6⟩
  subst w6
  have hb6 : Below w.heap.size w (w5.drewN k) := ⟨hb5.os, hb5.tape, hb5.output, hb5.size, hb5.block⟩
  clear HE
  by_cases he : st'.e = 0
  · have hd : (((st'.e : Int) != 0) : Bool) = false := by rw [he]; rfl
    obtain ⟨L, hL1, hL2⟩ := hok he
    have He := hide he
    have hL3 : Lst (w5.drewN k) w.heap.size (.slice ad n c) L := (hL2.base hz3).kept (row := none) ⟨rfl, rfl, rfl, Nat.le_refl _, fun _ _ _ => rfl⟩ (fun _ e => by cases e)
    have HL3 := hide hL3
    have HL1 := hide hL1
    clear he hok hL1 hL2 hL3
    go_wp2
    go_ret3
    exact ⟨ad, n, c, by rw [if_pos (unhide He), unhide He]; rfl, hb6, fun _ => ⟨L, unhide HL1, unhide HL3⟩, fun g => absurd (unhide He) g⟩
  · have hd : (((st'.e : Int) != 0) : Bool) = true := by simpa using he
    have He := hide he
    clear he hok
    go_wp2
    go_ret3
    exact ⟨none, 0, 0, by rw [if_neg (unhide He)]; rfl, hb6, fun g => absurd g (unhide He), fun _ => ⟨rfl, rfl, rfl⟩⟩
end Go.Proofs.Ytbgpkkbejbidlac
