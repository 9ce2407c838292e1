/-
  The reference's cut: fail, take, num; Num.
  The reference: reading.index.
-/
import Derived.Test.YtbgpkkbejbidlacTy
namespace Go.Proofs.Ytbgpkkbejbidlac
open Go.RowKit
/-- The block of a cut. -/
def Cut (w : World) (C : Nat) (s : ByteArray) (st : St) : Prop :=
  w.heap[C]? = some (.cells #[.string s, .int .i64 (st.pos : Int), .int .i64 (st.e : Int), .int .i64 (st.p : Int)] 85 (0, 0))
section
variable {w w' : World} {C : Nat} {s : ByteArray} {st : St}
theorem Cut.lt (h : Cut w C s st) : C < w.heap.size := (Array.getElem?_eq_some_iff.1 h).1
theorem Cut.cell (h : Cut w C s st) (i : Nat) : w.cell? ⟨C, i, none⟩ = (#[.string s, .int .i64 (st.pos : Int), .int .i64 (st.e : Int), .int .i64 (st.p : Int)] : Array Value)[i]? := cell_of_row w C i _ 85 (0, 0) h
theorem Cut.frozen (h : Cut w C s st) (i : Nat) : w.frozen? ⟨C, i, none⟩ = false := by
  unfold World.frozen?; unfold Cut at h; simp only [h]; simp
theorem Cut.cells (h : Cut w C s st) : w.cell? ⟨C, 0, none⟩ = some (.string s) ∧ w.cell? ⟨C, 1, none⟩ = some (.int .i64 (st.pos : Int)) ∧ w.cell? ⟨C, 2, none⟩ = some (.int .i64 (st.e : Int)) ∧
    w.cell? ⟨C, 3, none⟩ = some (.int .i64 (st.p : Int)) :=
  ⟨h.cell 0, h.cell 1, h.cell 2, h.cell 3⟩
theorem Cut.kept {row : Option Nat} (h : Cut w C s st) (hg : w.grownBy w' row) (hne : some C ≠ row) : Cut w' C s st := by
  unfold Cut; rw [hg.block C h.lt hne]; exact h
theorem Cut.below (h : Cut w C s st) (hb : Below w.heap.size w w') : Cut w' C s st := h.kept (grown_of_below hb none) (by simp)
theorem Cut.drewN (h : Cut w C s st) (n : Nat) : Cut (w.drewN n) C s st := h
theorem Cut.setPos (h : Cut w C s st) (x : Nat) : Cut (w.setCell ⟨C, 1, none⟩ (.int .i64 (x : Int))) C s ⟨x, st.e, st.p⟩ := by
  unfold Cut; rw [heap_setCell_same w C 1 _ 85 _ h]; rfl
theorem Cut.setErr (h : Cut w C s st) (e p : Nat) : Cut ((w.setCell ⟨C, 2, none⟩ (.int .i64 (e : Int))).setCell ⟨C, 3, none⟩ (.int .i64 (p : Int))) C s ⟨st.pos, e, p⟩ := by
  have h1 : (w.setCell ⟨C, 2, none⟩ (.int .i64 (e : Int))).heap[C]? = _ := heap_setCell_same w C 2 _ 85 _ h
  unfold Cut; rw [heap_setCell_same _ C 3 _ 85 _ h1]; rfl
theorem Cut.setPosN (h : Cut w C s st) (k n : Nat) (he : st.e = 0) : Cut ((w.drewN k).setCell ⟨C, 1, none⟩ (.int .i64 ((st.pos : Int) + (n : Int)))) C s ⟨st.pos + n, 0, st.p⟩ := by
  have hq := (h.drewN k).setPos (st.pos + n)
  rw [he, Int.natCast_add] at hq
  exact hq
end
/-- What a step of the cut leaves. -/
def Tc (C : Nat) (s : ByteArray) (st' : St) (w : World) (x : Value) (e : Ending) (w' : World) : Prop :=
  e = .returned x ∧ Cut w' C s st' ∧ w.grownBy w' (some C)
set_option maxHeartbeats 400000 in
theorem cfail_any (C : Nat) (s : ByteArray) (st : St) (e p : Nat) (w : World) (h : Cut w C s st) :
    Calls Try.prog 37 #[.pointer (some ⟨C, 0, none⟩), .int .i64 (e : Int), .int .i64 (p : Int)] w fun x w' => Tc C s (M.fail st e p) w (.tuple #[]) x w' := by
  obtain ⟨h0, h1, h2, h3⟩ := h.cells
  have hf2 := h.frozen 2
  have hf3 := h.frozen 3
  by_cases he : st.e = 0
  · have hr := h.setErr e p
    rw [show M.fail st e p = ⟨st.pos, e, p⟩ by unfold M.fail; rw [if_pos he]]
    have hg := grown_trans (grown_set w C 2 (.int .i64 (e : Int))) (grown_set _ C 3 (.int .i64 (p : Int)))
    have hd : (((st.e : Int) == 0) : Bool) = true := by rw [he]; rfl
    have HR := hide hr
    have HG := hide hg
    clear he h hr hg
    go_enter Try.func37, Try.ntmps37
    go_wp2
    go_end0
    exact ⟨rfl, unhide HR, unhide HG⟩
  · rw [show M.fail st e p = st by unfold M.fail; rw [if_neg he]]
    have hd : (((st.e : Int) == 0) : Bool) = false := by rw [beq_eq_false_iff_ne]; omega
    have HR := hide h
    clear he h
    go_enter Try.func37, Try.ntmps37
    go_wp2
    go_end0
    exact ⟨rfl, unhide HR, grown_refl _ _⟩
set_option maxHeartbeats 1000000 in
theorem ctake_any (C : Nat) (s : ByteArray) (st : St) (n : Nat) (w : World) (h : Cut w C s st) (hs : s.size ≤ 131072) (hn : n ≤ 4294967295) (hp : st.pos ≤ s.size) :
    Calls Try.prog 36 #[.pointer (some ⟨C, 0, none⟩), .int .i64 (n : Int)] w fun x w' => Tc C s (M.take s.data.toList n st).2 w (.string ⟨(M.take s.data.toList n st).1.toArray⟩) x w' := by
  obtain ⟨h0, h1, h2, h3⟩ := h.cells
  have hl : s.data.toList.length = s.size := by simp
  have hf1 := h.frozen 1
  have hn0 : ¬ (n : Int) < 0 := by omega
  have hsum : IntKind.i64.wrap ((st.pos : Int) + (n : Int)) = (st.pos : Int) + (n : Int) := by
    rw [IntKind.wrap_i64, Int.emod_eq_of_lt (by omega) (by omega)]; omega
  by_cases he : st.e = 0
  · have hd : (((st.e : Int) == 0) : Bool) = true := by rw [he]; rfl
    by_cases hr : s.size - st.pos < n
    · have hri : (s.size : Int) < (st.pos : Int) + (n : Int) := by omega
      have hres : M.take s.data.toList n st = ([], M.fail st 1 s.size) := by
        unfold M.take M.fail; rw [hl, if_pos he, if_pos hr, if_pos he]
      rw [hres]
      have HF := hide (fun k => cfail_any C s st 1 s.size (w.drewN k) (h.drewN k))
      obtain ⟨st', hst⟩ : ∃ st', st' = M.fail st 1 s.size := ⟨_, rfl⟩
      have hbad : st'.e ≠ 0 := by rw [hst]; exact M.fail_e (by decide)
      rw [← hst] at HF ⊢
      have hd2 : (((st'.e : Int) != 0) : Bool) = true := by simpa using hbad
      clear hres hl hr hst hbad he
      go_enter Try.func36, Try.ntmps36
      go_wp2_with fail
      go_quiet (fail)
      go_wp2_with fail
      refine (unhide HF _).mono ?_
      rintro e w1 ⟨rfl, hr1, hg1⟩
      have k2 : w1.cell? ⟨C, 2, none⟩ = some (.int .i64 (st'.e : Int)) := hr1.cell 2
      clear h0 h1 h2 h3 hf1 HF
      go_wp2
      go_ret
      exact ⟨rfl, hr1, grown_trans (grown_drewN w (some C) _) hg1⟩
    · have hri : ¬ (s.size : Int) < (st.pos : Int) + (n : Int) := by omega
      have hres : M.take s.data.toList n st = ((s.data.toList.drop st.pos).take n, ⟨st.pos + n, 0, st.p⟩) := by
        unfold M.take; rw [hl, if_pos he, if_neg hr]
      rw [hres]
      have Hx := hide (extract_list s st.pos n)
      have hd2 : (((st.e : Int) != 0) : Bool) = false := by rw [he]; rfl
      have hk1 : (st.pos : Int) + (n : Int) ≤ (s.size : Int) := by omega
      have He := hide he
      have HR := hide h
      clear hres hl hr he h
      go_enter Try.func36, Try.ntmps36
      go_wp2_with fail
      go_quiet (fail)
      go_wp2_with fail
      go_quiet (fail)
      go_wp2
      go_ret
      exact ⟨congrArg (fun z => Ending.returned (.string z)) (unhide Hx), (unhide HR).setPosN _ n (unhide He), grown_trans (grown_drewN w (some C) _) (grown_set _ C 1 _)⟩
  · have hd : (((st.e : Int) == 0) : Bool) = false := by rw [beq_eq_false_iff_ne]; omega
    have hd2 : (((st.e : Int) != 0) : Bool) = true := by simpa using he
    have hres : M.take s.data.toList n st = ([], st) := by unfold M.take; rw [if_neg he]
    rw [hres]
    have HR := hide h
    clear hres hl he h
    go_enter Try.func36, Try.ntmps36
    go_wp2_with fail
    go_quiet (fail)
    go_wp2
    go_ret
    exact ⟨rfl, (unhide HR).drewN _, grown_drewN w (some C) _⟩
theorem at_of_list {t : ByteArray} {l : List UInt8} (h : t.data.toList = l) (k : Nat) (hk : k < t.size) : (t[k]'hk) = l.getD k 0 := by
  subst h
  have hk' : k < t.data.toList.length := by simpa using hk
  simp only [List.getD, List.getElem?_eq_getElem hk', Option.getD_some]; rfl
set_option maxHeartbeats 400000 in
theorem Num_any (t : ByteArray) (w : World) (ht : t.size ≤ 8) :
    Calls Try.prog 77 #[.string t] w fun e w' => e = .returned (.int .u64 (M.num t.data.toList : Nat)) ∧ w' = w := by
  have hlen : t.data.toList.length = t.size := by simp
  go_enter Try.func77, Try.ntmps77
  go_wp2_with fail
  go_loop [3, 4] (fun x i => ∃ k : Nat, k ≤ t.size ∧ i = .int .i64 k ∧ x = .int .u64 (M.num (t.data.toList.take k) : Nat)) (fun _ i => t.size - (intOf i).toNat)
  case atStart => exact ⟨0, Nat.zero_le _, rfl, rfl⟩
  case round =>
    obtain ⟨k, hk, rfl, rfl⟩ := hrel
    by_cases hlt : k < t.size
    · obtain ⟨b, hb⟩ : ∃ b : Nat, b = (t.data.toList.getD k 0).toNat := ⟨_, rfl⟩
      have hbi : ((t[k]'hlt).toNat : Int) = (b : Int) := by rw [hb, at_of_list rfl k hlt]
      have hnt := M.num_take t.data.toList k (by omega)
      have hbt : b < 256 := by rw [hb]; exact (t.data.toList.getD k 0).toNat_lt
      have hx := M.num_lt (t.data.toList.take k)
      have hx7 : M.num (t.data.toList.take k) ≤ 72057594037927935 := by
        have hlk : (t.data.toList.take k).length ≤ 7 := by rw [List.length_take]; omega
        have := Nat.pow_le_pow_right (show 0 < 256 by omega) hlk
        have e7 : 256 ^ 7 = 72057594037927936 := by decide
        omega
      rw [← hb] at hnt
      clear hb hx
      obtain ⟨x, hxx⟩ : ∃ x, x = M.num (t.data.toList.take k) := ⟨_, rfl⟩
      rw [← hxx] at hnt hx7 ⊢
      have Hnt := hide hnt
      clear hxx hnt
      go_wp2
      go_round
      case rel => exact ⟨k + 1, by omega, by go_num, by rw [unhide Hnt]; go_num⟩
      case measure => simp [intOf]; omega
    · have hkl : k = t.size := by omega
      subst hkl
      rw [List.take_of_length_le (by omega)]
      go_wp2
      go_ret
      exact ⟨rfl, rfl⟩
set_option maxHeartbeats 400000 in
theorem cnum_any (C : Nat) (s : ByteArray) (st : St) (n : Nat) (w : World) (h : Cut w C s st) (hs : s.size ≤ 131072) (hn : n ≤ 4) (hp : st.pos ≤ s.data.toList.length) :
    Calls Try.prog 40 #[.pointer (some ⟨C, 0, none⟩), .int .i64 (n : Int)] w fun x w' => Tc C s (M.rd s.data.toList n st).2 w (.int .i64 ((M.rd s.data.toList n st).1 : Nat)) x w' := by
  have hl := M.take_len s.data.toList n st
  have HT := hide (ctake_any C s st n w h hs (by omega) (by simpa using hp))
  unfold M.rd
  simp only
  obtain ⟨t, st', hT⟩ : ∃ t st', M.take s.data.toList n st = (t, st') := ⟨_, _, rfl⟩
  rw [hT] at hl HT ⊢
  simp only at hl HT ⊢
  have hnum := M.num_le (l := t) (n := 4) (by omega)
  have hts : (⟨t.toArray⟩ : ByteArray).size = t.length := by show t.toArray.size = _; simp
  have HN := hide (fun w1 => Num_any ⟨t.toArray⟩ w1 (by rw [hts]; omega))
  simp only at HN
  generalize M.num t = x at *
  have hx2 : x ≤ 4294967295 := by omega
  clear hT h hl hts hnum
  go_enter Try.func40, Try.ntmps40
  go_wp2_with fail
  refine (unhide HT).mono ?_
  rintro e w1 ⟨rfl, hr1, hg1⟩
  go_wp2_with fail
  refine (unhide HN _).mono ?_
  rintro e w2 ⟨rfl, hw⟩
  subst w2
  go_wp2
  go_ret
  exact ⟨rfl, hr1, hg1⟩
end Go.Proofs.Ytbgpkkbejbidlac
namespace Go.Proofs.Ytbgpkkbejbidlac
open Go.RowKit
/-- The reading of a class file, and its cut. -/
structure Rg (w : World) (Q C : Nat) (pv : Value) (s : ByteArray) (st : St) : Prop where
  q : Bk w Q #[.pointer (some ⟨C, 0, none⟩), pv] 87
  c : Cut w C s st
  pos : st.pos ≤ s.data.toList.length
set_option maxRecDepth 100000 in
theorem index_any (Q C : Nat) (pv : Value) (s : ByteArray) (st : St) (w : World) (h : Rg w Q C pv s st) (hs : s.size ≤ 131072) :
    Calls Try.prog 38 #[.pointer (some ⟨Q, 0, none⟩)] w fun x w' => x = .returned (.int .u16 ((M.rd s.data.toList 2 st).1 : Nat)) ∧ Rg w' Q C pv s (M.rd s.data.toList 2 st).2 ∧ w.grownBy w' (some C) := by
  have H := hide h
  have k0 : w.cell? ⟨Q, 0, none⟩ = some (.pointer (some ⟨C, 0, none⟩)) := h.q.cell 0
  have HN := hide (cnum_any C s st 2 w h.c hs (by omega) h.pos)
  have c1 := M.rd2 s.data.toList st
  have hp2 := M.rd_pos (n := 2) h.pos
  clear h
  go_enter Try.func38, Try.ntmps38
  go_wp2_with fail
  refine (unhide HN).mono ?_
  rintro e w1 ⟨rfl, hc1, hg1⟩
  have hQC : some Q ≠ some C := fun e => by
    cases e
    have h1 := (unhide H).q
    have h2 := (unhide H).c
    unfold Bk at h1
    unfold Cut at h2
    rw [h1] at h2
    simp at h2
  have HR : Hid (Rg w1 Q C pv s (M.rd s.data.toList 2 st).2) := ⟨(unhide H).q.kept hg1 hQC, hc1, hp2⟩
  have Hg := hide hg1
  clear HN hc1 hg1 k0
  go_wp2
  go_ret
  exact ⟨rfl, unhide HR, unhide Hg⟩
end Go.Proofs.Ytbgpkkbejbidlac
