/-
  The reader of package wire, as it lies in package code's reader: one block of four cells.
  Signed, operand, target, holds.
-/
import Derived.Test.YtddhlphbbiihjaaGreatDoorProg
import Derived.Test.YtddhlphbbiihjaaGreatDoorMgPModelB
import Derived.Laws.RangeAny
import Derived.Laws.DeepStrings4
import Derived.Laws.Slices
import Derived.Laws.Strings3
import Derived.Laws.BytesArg
import Derived.Laws.IdiomStrings
import Derived.Lib.Walk
import Derived.Lib.Strings
import Derived.Lib.Slices
import Derived.WalkKit
import Derived.WalkSpells
import Derived.WalkLawsBesides
import Derived.ProofKit
import Derived.WalkMore
import Derived.BigQuiet
import Derived.Deep.RegionWith
import Derived.Deep.LoopGhost
import Derived.Deep.QuietTactic
namespace Go.Proofs.YtddhlphbbiihjaaGreatDoor.Dc
open Go.RowKit
theorem hide {p : Prop} (h : p) : Hid p := h
theorem unhide {p : Prop} (h : Hid p) : p := h
/-- The block of a reader. -/
def Rd (w : World) (R : Nat) (s : ByteArray) (st : St) : Prop :=
  w.heap[R]? = some (.cells #[.string s, .int .i64 (st.pos : Int), .int .i64 (st.e : Int), .int .i64 (st.p : Int)] 129 (0, 0))
section
variable {w w' : World} {R : Nat} {s : ByteArray} {st : St}
theorem Rd.lt (h : Rd w R s st) : R < w.heap.size := (Array.getElem?_eq_some_iff.1 h).1
theorem Rd.cell (h : Rd w R s st) (i : Nat) : w.cell? ⟨R, i, none⟩ = #[.string s, .int .i64 (st.pos : Int), .int .i64 (st.e : Int), .int .i64 (st.p : Int)][i]? := cell_of_row w R i _ 129 (0, 0) h
theorem Rd.frozen (h : Rd w R s st) (i : Nat) : w.frozen? ⟨R, i, none⟩ = false := by
  unfold World.frozen?; unfold Rd at h; simp only [h]; simp
theorem Rd.cells (h : Rd w R s st) : w.cell? ⟨R, 0, none⟩ = some (.string s) ∧ w.cell? ⟨R, 1, none⟩ = some (.int .i64 (st.pos : Int)) ∧ w.cell? ⟨R, 2, none⟩ = some (.int .i64 (st.e : Int)) ∧
    w.cell? ⟨R, 3, none⟩ = some (.int .i64 (st.p : Int)) :=
  ⟨h.cell 0, h.cell 1, h.cell 2, h.cell 3⟩
theorem Rd.kept {row : Option Nat} (h : Rd w R s st) (hg : w.grownBy w' row) (hne : some R ≠ row) : Rd w' R s st := by
  unfold Rd; rw [hg.block R h.lt hne]; exact h
theorem Rd.drewN (h : Rd w R s st) (n : Nat) : Rd (w.drewN n) R s st := h
theorem Rd.drew (h : Rd w R s st) : Rd w.drew R s st := h
theorem Rd.setPos (h : Rd w R s st) (x : Nat) : Rd (w.setCell ⟨R, 1, none⟩ (.int .i64 (x : Int))) R s ⟨x, st.e, st.p⟩ := by
  unfold Rd; rw [heap_setCell_same w R 1 _ 129 _ h]; rfl
theorem Rd.setErr (h : Rd w R s st) (e p : Nat) : Rd ((w.setCell ⟨R, 2, none⟩ (.int .i64 (e : Int))).setCell ⟨R, 3, none⟩ (.int .i64 (p : Int))) R s ⟨st.pos, e, p⟩ := by
  have h1 : (w.setCell ⟨R, 2, none⟩ (.int .i64 (e : Int))).heap[R]? = _ := heap_setCell_same w R 2 _ 129 _ h
  unfold Rd; rw [heap_setCell_same _ R 3 _ 129 _ h1]; rfl
end
theorem grown_set (w : World) (b i : Nat) (v : Value) : w.grownBy (w.setCell ⟨b, i, none⟩ v) (some b) :=
  ⟨rfl, rfl, rfl, by simp, fun k _ hne => Below.heap_setCell w ⟨b, i, none⟩ v k (by intro h; subst h; exact hne rfl)⟩
theorem grown_trans {w w1 w2 : World} {row : Option Nat} (h : w.grownBy w1 row) (g : w1.grownBy w2 row) : w.grownBy w2 row :=
  ⟨g.os.trans h.os, g.tape.trans h.tape, g.output.trans h.output, Nat.le_trans h.size g.size, fun k hk hne => (g.block k (Nat.lt_of_lt_of_le hk h.size) hne).trans (h.block k hk hne)⟩
theorem grown_refl (w : World) (row : Option Nat) : w.grownBy w row := ⟨rfl, rfl, rfl, Nat.le_refl _, fun _ _ _ => rfl⟩
theorem grown_drewN (w : World) (row : Option Nat) (n : Nat) : w.grownBy (w.drewN n) row := ⟨rfl, rfl, rfl, Nat.le_refl _, fun _ _ _ => rfl⟩
theorem grown_of_below {w w' : World} (h : Below w.heap.size w w') (row : Option Nat) : w.grownBy w' row := ⟨h.os, h.tape, h.output, h.size, fun k hk _ => h.block k hk⟩

set_option maxHeartbeats 400000 in
theorem Good_any (R : Nat) (s : ByteArray) (st : St) (w : World) (h : Rd w R s st) :
    Calls Tryz.prog 86 #[.pointer (some ⟨R, 0, none⟩)] w fun e w' => e = .returned (.bool (decide (st.e = 0))) ∧ w' = w := by
  obtain ⟨h0, h1, h2, h3⟩ := h.cells
  have hd : (((st.e : Int) == 0) : Bool) = decide (st.e = 0) := by rw [Bool.eq_iff_iff]; simp
  clear h
  go_enter Tryz.func86, Tryz.ntmps86
  go_wp2
  go_ret
  exact ⟨rfl, rfl⟩
set_option maxHeartbeats 400000 in
theorem At_any (R : Nat) (s : ByteArray) (st : St) (w : World) (h : Rd w R s st) :
    Calls Tryz.prog 87 #[.pointer (some ⟨R, 0, none⟩)] w fun e w' => e = .returned (.int .i64 (st.pos : Int)) ∧ w' = w := by
  obtain ⟨h0, h1, h2, h3⟩ := h.cells
  clear h
  go_enter Tryz.func87, Tryz.ntmps87
  go_wp2
  go_ret
  exact ⟨rfl, rfl⟩
set_option maxHeartbeats 400000 in
theorem Err_any (R : Nat) (s : ByteArray) (st : St) (w : World) (h : Rd w R s st) :
    Calls Tryz.prog 89 #[.pointer (some ⟨R, 0, none⟩)] w fun e w' => e = .returned (.tuple #[.int .i64 (st.e : Int), .int .i64 (st.p : Int)]) ∧ ∃ n, w' = w.drewN n := by
  obtain ⟨h0, h1, h2, h3⟩ := h.cells
  clear h
  go_enter Tryz.func89, Tryz.ntmps89
  go_wp2_with fail
  go_quiet (fail)
  go_wp2
  go_ret2
  exact ⟨rfl, _, rfl⟩
set_option maxHeartbeats 400000 in
theorem Fail_any (R : Nat) (s : ByteArray) (st : St) (e p : Nat) (w : World) (h : Rd w R s st) :
    Calls Tryz.prog 104 #[.pointer (some ⟨R, 0, none⟩), .int .i64 (e : Int), .int .i64 (p : Int)] w fun x w' => x = .returned (.tuple #[]) ∧ Rd w' R s (M.fail st e p) ∧ w.grownBy w' (some R) ∧ w'.heap.size = w.heap.size := by
  obtain ⟨h0, h1, h2, h3⟩ := h.cells
  have hf2 := h.frozen 2
  have hf3 := h.frozen 3
  by_cases he : st.e = 0
  · have hr := h.setErr e p
    rw [show M.fail st e p = ⟨st.pos, e, p⟩ by unfold M.fail; rw [if_pos he]]
    have hg := grown_trans (grown_set w R 2 (.int .i64 (e : Int))) (grown_set _ R 3 (.int .i64 (p : Int)))
    go_enter Tryz.func104, Tryz.ntmps104
    go_wp2_with fail
    refine (Good_any R s st w h).mono ?_
    rintro e1 w1 ⟨rfl, hw⟩
    subst w1
    rw [decide_eq_true he]
    clear he
    go_wp2
    go_end0
    exact ⟨rfl, hr, hg, by simp⟩
  · rw [show M.fail st e p = st by unfold M.fail; rw [if_neg he]]
    go_enter Tryz.func104, Tryz.ntmps104
    go_wp2_with fail
    refine (Good_any R s st w h).mono ?_
    rintro e1 w1 ⟨rfl, hw⟩
    subst w1
    rw [decide_eq_false he]
    clear he
    go_wp2
    go_end0
    exact ⟨rfl, h, grown_refl _ _, rfl⟩
theorem extract_list (s : ByteArray) (a n : Nat) : s.extract a (a + n) = ⟨((s.data.toList.drop a).take n).toArray⟩ := by
  apply ByteArray.ext; apply Array.ext'
  rw [ByteArray.data_extract, Array.toList_extract, List.extract_eq_take_drop, show a + n - a = n by omega]
theorem Rd.setPosN {w : World} {R : Nat} {s : ByteArray} {st : St} (h : Rd w R s st) (k n : Nat) (he : st.e = 0) :
    Rd ((w.drewN k).setCell ⟨R, 1, none⟩ (.int .i64 ((st.pos : Int) + (n : Int)))) R s ⟨st.pos + n, 0, st.p⟩ := by
  have hq := (h.drewN k).setPos (st.pos + n)
  rw [he, Int.natCast_add] at hq
  exact hq
theorem or64 (x b : Nat) (hx : x ≤ 72057594037927935) (hb : b < 256) : bits BinOp.or IntKind.u64 ((x : Int) * 256) (b : Int) = ((x * 256 + b : Nat) : Int) := by
  have h := bits_or_u64_nat (x * 256) b (by omega) (by omega)
  have h2 := Nat.two_pow_add_eq_or_of_lt (i := 8) (b := b) (by omega) x
  simp only [Nat.reducePow] at h2
  rw [Nat.mul_comm 256 x] at h2
  rw [Int.natCast_mul] at h
  rw [h2]; exact h
def Took (R : Nat) (s : ByteArray) (st' : St) (w : World) (x : Value) (e : Ending) (w' : World) : Prop :=
  e = .returned x ∧ Rd w' R s st' ∧ w.grownBy w' (some R)
set_option maxHeartbeats 400000 in
theorem Take_any (R : Nat) (s : ByteArray) (st : St) (n : Nat) (w : World) (h : Rd w R s st) (hs : s.size ≤ 131072) (hn : n ≤ 65535) (hp : st.pos ≤ s.size) :
    Calls Tryz.prog 147 #[.pointer (some ⟨R, 0, none⟩), .int .i64 (n : Int)] w fun x w' => Took R s (M.take s.data.toList n st).2 w (.string ⟨(M.take s.data.toList n st).1.toArray⟩) x w' := by
  obtain ⟨h0, h1, h2, h3⟩ := h.cells
  have hl : s.data.toList.length = s.size := by simp
  have hf1 := h.frozen 1
  by_cases hr : s.size - st.pos < n
  · have hri : (s.size : Int) - (st.pos : Int) < (n : Int) := by omega
    have hres : M.take s.data.toList n st = ([], M.fail st 1 s.size) := by
      unfold M.take M.fail; rw [hl]
      by_cases he : st.e = 0
      · rw [if_pos he, if_pos hr, if_pos he]
      · rw [if_neg he, if_neg he]
    rw [hres]
    have hbad : (M.fail st 1 s.size).e ≠ 0 := by
      unfold M.fail; split
      · simp
      · assumption
    clear hres hl hr
    go_enter Tryz.func147, Tryz.ntmps147
    go_wp2_with fail
    go_quiet (fail)
    go_wp2_with fail
    refine (Fail_any R s st 1 s.size _ (h.drewN _)).mono ?_
    rintro e w1 ⟨rfl, hr1, hg1, hz1⟩
    clear h0 h1 h2 h3 hf1
    go_wp2_with fail
    refine (Good_any R s _ w1 hr1).mono ?_
    rintro e w2 ⟨rfl, hw⟩
    subst w2
    rw [decide_eq_false hbad]
    clear hbad
    go_wp2
    go_ret
    exact ⟨rfl, hr1, grown_trans (grown_drewN w (some R) _) hg1⟩
  · have hri : (n : Int) ≤ (s.size : Int) - (st.pos : Int) := by omega
    by_cases he : st.e = 0
    · have hres : M.take s.data.toList n st = ((s.data.toList.drop st.pos).take n, ⟨st.pos + n, 0, st.p⟩) := by
        unfold M.take; rw [hl, if_pos he, if_neg hr]
      rw [hres]
      have hx := extract_list s st.pos n
      have Hx := hide hx
      clear hres hl hx hr
      go_enter Tryz.func147, Tryz.ntmps147
      go_wp2_with fail
      go_quiet (fail)
      go_wp2_with fail
      refine (Good_any R s st _ (h.drewN _)).mono ?_
      rintro e w2 ⟨rfl, hw⟩
      subst w2
      rw [decide_eq_true he]
      have He := hide he
      clear he
      have hk1 : (st.pos : Int) + (n : Int) ≤ (s.size : Int) := by omega
      go_wp2_with fail
      go_quiet (fail)
      go_wp2
      go_ret
      exact ⟨congrArg (fun z => Ending.returned (.string z)) (unhide Hx), h.setPosN _ n (unhide He), grown_trans (grown_drewN w (some R) _) (grown_set _ R 1 _)⟩
    · have hres : M.take s.data.toList n st = ([], st) := by unfold M.take; rw [if_neg he]
      rw [hres]
      clear hres hl hr
      go_enter Tryz.func147, Tryz.ntmps147
      go_wp2_with fail
      go_quiet (fail)
      go_wp2_with fail
      refine (Good_any R s st _ (h.drewN _)).mono ?_
      rintro e w2 ⟨rfl, hw⟩
      subst w2
      rw [decide_eq_false he]
      clear he
      go_wp2
      go_ret
      exact ⟨rfl, h.drewN _, grown_drewN w (some R) _⟩
theorem conv_bytes (w : World) (s : ByteArray) : ∃ (c : Nat) (w1 : World), Sem.run Tryz.prog (convert 9 79 (.string s)) w = .ok (.slice (some ⟨w.heap.size, 0, none⟩) s.size c) w1 ∧
    (∀ j, j < s.size → w1.cell? ⟨w.heap.size, j, none⟩ = some (.int .u8 (s.data.toList.getD j 0).toNat)) ∧ w1.heap.size = w.heap.size + 1 ∧ Below w.heap.size w w1 := by
  refine ⟨_, _, run_bytes_of_string w 9 79 5 s Tryz.underlying9 Tryz.underlying79 Tryz.underlying5, fun j hj => ?_, by simp, (Below.refl _ _).drew.alloc (Nat.le_refl _) _⟩
  have h := World.cell?_alloc_mark w.drew (bytesRow s (grownCap w s.size 0 5)) 5 ((bytesRow s (grownCap w s.size 0 5)).size, (bytesRow s (grownCap w s.size 0 5)).size + 1) j
  have h2 := bytesRow_at s (grownCap w s.size 0 5) j hj
  refine (h.trans h2).trans ?_
  have hj' : j < s.data.toList.length := by simpa using hj
  simp [List.getD, List.getElem?_eq_getElem hj']
set_option maxHeartbeats 400000 in
theorem Number_any (R : Nat) (s : ByteArray) (st : St) (n : Nat) (w : World) (h : Rd w R s st) (hs : s.size ≤ 131072) (hn : n ≤ 8) (hp : st.pos ≤ s.size) :
    Calls Tryz.prog 130 #[.pointer (some ⟨R, 0, none⟩), .int .i64 (n : Int)] w fun x w' => Took R s (M.take s.data.toList n st).2 w (.int .u64 (M.num (M.take s.data.toList n st).1 : Nat)) x w' := by
  have hl := M.take_len s.data.toList n st
  have hc := Take_any R s st n w h hs (by omega) hp
  obtain ⟨T, st', hT⟩ : ∃ T st', M.take s.data.toList n st = (T, st') := ⟨_, _, rfl⟩
  rw [hT] at hl hc ⊢
  clear hT h
  simp only at hl hc ⊢
  have Hc := hide hc
  clear hc
  go_enter Tryz.func130, Tryz.ntmps130
  go_wp2_with fail
  refine (unhide Hc).mono ?_
  clear Hc
  rintro e w1 ⟨rfl, hr1, hg1⟩
  obtain ⟨cp, w2, hrun, hcell, hsz, hbe⟩ := conv_bytes w1 ⟨T.toArray⟩
  have hts : (⟨T.toArray⟩ : ByteArray).size = T.length := by show T.toArray.size = _; simp
  rw [hts] at hrun hcell
  have hcell' : ∀ j, j < T.length → w2.cell? ⟨w1.heap.size, j, none⟩ = some (.int .u8 ((T.getD j 0).toNat : Int)) := hcell
  have Hcell := hide hcell'
  clear hcell hcell' hts
  go_wp2_with fail
  go_loopw [5, 13] (fun x i wr => ∃ k : Nat, k ≤ T.length ∧ i = .int .i64 k ∧ x = .int .u64 (M.num (T.take k) : Nat) ∧ wr = w2) (fun _ i _ => T.length - (intOf i).toNat)
  case atStart => exact ⟨0, Nat.zero_le _, rfl, rfl, rfl⟩
  case round =>
    obtain ⟨k, hk, rfl, rfl, rfl⟩ := hrel
    by_cases hlt : k < T.length
    · have hck := unhide Hcell k hlt
      obtain ⟨b, hb⟩ : ∃ b : Nat, b = (T.getD k 0).toNat := ⟨_, rfl⟩
      have hnt := M.num_take T k hlt
      have hbt : b < 256 := by rw [hb]; exact (T.getD k 0).toNat_lt
      have hx := M.num_lt (T.take k)
      have hx7 : M.num (T.take k) ≤ 72057594037927935 := by
        have hlk : (T.take k).length ≤ 7 := by rw [List.length_take]; omega
        have := Nat.pow_le_pow_right (show 0 < 256 by omega) hlk
        have e7 : 256 ^ 7 = 72057594037927936 := by decide
        omega
      rw [← hb] at hnt hck
      clear hb hx
      obtain ⟨x, hxx⟩ : ∃ x, x = M.num (T.take k) := ⟨_, rfl⟩
      rw [← hxx] at hnt hx7 ⊢
      have Hnt := hide hnt
      clear hxx hnt
      have ho := or64 x b hx7 hbt
      rw [← unhide Hnt] at ho
      have Ho := hide ho
      clear ho Hnt
      go_wp2
      go_roundw
      case rel => exact ⟨k + 1, by omega, by go_num, by rw [unhide Ho], trivial⟩
      case measure => simp [intOf]; omega
    · have hkl : k = T.length := by omega
      subst hkl
      rw [List.take_length]
      have hz := hr1.lt
      have hr2 : Rd wr R s st' := hr1.kept (grown_of_below hbe none) (by simp)
      have hg2 := grown_trans hg1 (grown_of_below hbe (some R))
      clear hrun Hcell hr1 hg1 hbe
      go_wp2
      go_ret
      exact ⟨rfl, hr2, hg2⟩
set_option maxHeartbeats 400000 in
theorem Uint8_any (R : Nat) (s : ByteArray) (st : St) (w : World) (h : Rd w R s st) (hs : s.size ≤ 131072) (hp : st.pos ≤ s.size) :
    Calls Tryz.prog 102 #[.pointer (some ⟨R, 0, none⟩)] w fun x w' => Took R s (M.take s.data.toList 1 st).2 w (.int .u8 (M.num (M.take s.data.toList 1 st).1 : Nat)) x w' := by
  have hl := M.take_len s.data.toList 1 st
  have hc := Number_any R s st 1 w h hs (by omega) hp
  obtain ⟨T, st', hT⟩ : ∃ T st', M.take s.data.toList 1 st = (T, st') := ⟨_, _, rfl⟩
  rw [hT] at hl hc ⊢
  clear hT h
  simp only at hl hc ⊢
  have hx := M.num_lt T
  have hx2 : M.num T ≤ 255 := by have := Nat.pow_le_pow_right (show 0 < 256 by omega) hl; omega
  have Hc := hide hc
  clear hc hx hl
  go_enter Tryz.func102, Tryz.ntmps102
  go_wp2_with fail
  refine (unhide Hc).mono ?_
  clear Hc
  rintro e w1 ⟨rfl, hr1, hg1⟩
  go_wp2
  go_ret
  exact ⟨rfl, hr1, hg1⟩
end Go.Proofs.YtddhlphbbiihjaaGreatDoor.Dc
namespace Go.Proofs.YtddhlphbbiihjaaGreatDoor.Dc
open Go.RowKit
theorem shr1 (x : Nat) (h : x < 256 ^ 1) : wrap64 ((x : Int) * 72057594037927936) / 72057594037927936 = M.sgn 1 x := by
  unfold wrap64 M.sgn; split <;> simp only [Nat.reducePow] at * <;> omega
theorem shr2 (x : Nat) (h : x < 256 ^ 2) : wrap64 ((x : Int) * 281474976710656) / 281474976710656 = M.sgn 2 x := by
  unfold wrap64 M.sgn; split <;> simp only [Nat.reducePow] at * <;> omega
theorem shr4 (x : Nat) (h : x < 256 ^ 4) : wrap64 ((x : Int) * 4294967296) / 4294967296 = M.sgn 4 x := by
  unfold wrap64 M.sgn; split <;> simp only [Nat.reducePow] at * <;> omega
set_option maxHeartbeats 400000 in
theorem Signed1 (R : Nat) (s : ByteArray) (st : St) (w : World) (h : Rd w R s st) (hs : s.size ≤ 131072) (hp : st.pos ≤ s.size) :
    Calls Tryz.prog 148 #[.pointer (some ⟨R, 0, none⟩), .int .i64 1] w fun x w' => Took R s (M.take s.data.toList 1 st).2 w (.int .i64 (M.sgn 1 (M.num (M.take s.data.toList 1 st).1))) x w' := by
  have hl := M.num_le (M.take_len s.data.toList 1 st)
  have hc := Number_any R s st 1 w h hs (by omega) hp
  obtain ⟨T, st', hT⟩ : ∃ T st', M.take s.data.toList 1 st = (T, st') := ⟨_, _, rfl⟩
  rw [hT] at hl hc ⊢
  clear hT h
  simp only at hl hc ⊢
  obtain ⟨x, hx⟩ : ∃ x, x = M.num T := ⟨_, rfl⟩
  rw [← hx] at hl hc ⊢
  clear hx
  have Hc := hide hc
  clear hc
  go_enter Tryz.func148, Tryz.ntmps148
  go_wp2_with fail
  refine (unhide Hc).mono ?_
  clear Hc
  rintro e w1 ⟨rfl, hr1, hg1⟩
  go_wp2
  go_ret
  exact ⟨congrArg (fun z => Ending.returned (.int .i64 z)) (shr1 x hl), hr1, hg1⟩
set_option maxHeartbeats 400000 in
theorem Signed2 (R : Nat) (s : ByteArray) (st : St) (w : World) (h : Rd w R s st) (hs : s.size ≤ 131072) (hp : st.pos ≤ s.size) :
    Calls Tryz.prog 148 #[.pointer (some ⟨R, 0, none⟩), .int .i64 2] w fun x w' => Took R s (M.take s.data.toList 2 st).2 w (.int .i64 (M.sgn 2 (M.num (M.take s.data.toList 2 st).1))) x w' := by
  have hl := M.num_le (M.take_len s.data.toList 2 st)
  have hc := Number_any R s st 2 w h hs (by omega) hp
  obtain ⟨T, st', hT⟩ : ∃ T st', M.take s.data.toList 2 st = (T, st') := ⟨_, _, rfl⟩
  rw [hT] at hl hc ⊢
  clear hT h
  simp only at hl hc ⊢
  obtain ⟨x, hx⟩ : ∃ x, x = M.num T := ⟨_, rfl⟩
  rw [← hx] at hl hc ⊢
  clear hx
  have Hc := hide hc
  clear hc
  go_enter Tryz.func148, Tryz.ntmps148
  go_wp2_with fail
  refine (unhide Hc).mono ?_
  clear Hc
  rintro e w1 ⟨rfl, hr1, hg1⟩
  go_wp2
  go_ret
  exact ⟨congrArg (fun z => Ending.returned (.int .i64 z)) (shr2 x hl), hr1, hg1⟩
set_option maxHeartbeats 400000 in
theorem Signed4 (R : Nat) (s : ByteArray) (st : St) (w : World) (h : Rd w R s st) (hs : s.size ≤ 131072) (hp : st.pos ≤ s.size) :
    Calls Tryz.prog 148 #[.pointer (some ⟨R, 0, none⟩), .int .i64 4] w fun x w' => Took R s (M.take s.data.toList 4 st).2 w (.int .i64 (M.sgn 4 (M.num (M.take s.data.toList 4 st).1))) x w' := by
  have hl := M.num_le (M.take_len s.data.toList 4 st)
  have hc := Number_any R s st 4 w h hs (by omega) hp
  obtain ⟨T, st', hT⟩ : ∃ T st', M.take s.data.toList 4 st = (T, st') := ⟨_, _, rfl⟩
  rw [hT] at hl hc ⊢
  clear hT h
  simp only at hl hc ⊢
  obtain ⟨x, hx⟩ : ∃ x, x = M.num T := ⟨_, rfl⟩
  rw [← hx] at hl hc ⊢
  clear hx
  have Hc := hide hc
  clear hc
  go_enter Tryz.func148, Tryz.ntmps148
  go_wp2_with fail
  refine (unhide Hc).mono ?_
  clear Hc
  rintro e w1 ⟨rfl, hr1, hg1⟩
  go_wp2
  go_ret
  exact ⟨congrArg (fun z => Ending.returned (.int .i64 z)) (shr4 x hl), hr1, hg1⟩
theorem Signed_any (R : Nat) (s : ByteArray) (st : St) (n : Nat) (w : World) (h : Rd w R s st) (hs : s.size ≤ 131072) (hp : st.pos ≤ s.size) (hn : n = 1 ∨ n = 2 ∨ n = 4) :
    Calls Tryz.prog 148 #[.pointer (some ⟨R, 0, none⟩), .int .i64 (n : Int)] w fun x w' => Took R s (M.take s.data.toList n st).2 w (.int .i64 (M.sgn n (M.num (M.take s.data.toList n st).1))) x w' := by
  rcases hn with rfl | rfl | rfl
  · exact Signed1 R s st w h hs hp
  · exact Signed2 R s st w h hs hp
  · exact Signed4 R s st w h hs hp
/-- A field as it lies in the program. -/
def F.val (f : F) : Value := .agg #[.int .i64 (f.size : Int), .int .i64 f.low, .int .i64 f.high]
def F.Ok (f : F) : Prop := f.size ≤ 4 ∧ (f.low < 0 → f.size = 1 ∨ f.size = 2 ∨ f.size = 4)
theorem grown_drew {w w' : World} {row : Option Nat} (h : w.drew.grownBy w' row) : w.grownBy w' row := ⟨h.os, h.tape, h.output, h.size, h.block⟩
theorem Rd.alloc {w : World} {R : Nat} {s : ByteArray} {st : St} (h : Rd w R s st) (o : Obj) : Rd (w.alloc o) R s st := h.kept (World.grownBy_alloc w o none) (by simp)
set_option maxHeartbeats 400000 in
theorem operand_any (R : Nat) (s : ByteArray) (st : St) (f : F) (w : World) (h : Rd w R s st) (hs : s.size ≤ 131072) (hp : st.pos ≤ s.size) (hf : f.Ok) :
    Calls Tryz.prog 133 #[.pointer (some ⟨R, 0, none⟩), f.val] w fun x w' => Took R s (M.take s.data.toList f.size st).2 w (.int .i64 (M.rd f (M.take s.data.toList f.size st).1)) x w' := by
  obtain ⟨n, lo, hi⟩ := f
  obtain ⟨hn, hm⟩ := hf
  simp only [F.val, M.rd] at *
  have hr0 := h.alloc (.cells #[.int .i64 (n : Int), .int .i64 lo, .int .i64 hi] 156)
  have hg0 := World.grownBy_alloc w (.cells #[.int .i64 (n : Int), .int .i64 lo, .int .i64 hi] 156) (some R)
  by_cases hlo : lo < 0
  · rw [if_pos hlo]
    have Hc := hide (fun w1 h1 => Signed_any R s st n w1 h1 hs hp (hm hlo))
    clear hm h
    go_enter Tryz.func133, Tryz.ntmps133
    go_wp2_with fail
    go_region_with (go_at_call 148; refine (unhide Hc _ hr0.drew).mono ?_; rintro e w1 ⟨rfl, hr1, hg1⟩)
    go_wp2
    go_ret
    exact ⟨rfl, hr1, grown_trans hg0 (grown_drew hg1)⟩
  · have hl := M.num_le (M.take_len s.data.toList n st)
    have h2 : (256 ^ n : Nat) ≤ 256 ^ 4 := Nat.pow_le_pow_right (by omega) hn
    simp only [Nat.reducePow] at h2
    rw [if_neg hlo]
    have hc := fun w1 h1 => Number_any R s st n w1 h1 hs (by omega) hp
    obtain ⟨T, st', hT⟩ : ∃ T st', M.take s.data.toList n st = (T, st') := ⟨_, _, rfl⟩
    rw [hT] at hl hc ⊢
    simp only at hl hc ⊢
    obtain ⟨x, hx⟩ : ∃ x, x = M.num T := ⟨_, rfl⟩
    rw [← hx] at hl hc ⊢
    have hx4 : x < 4294967296 := by omega
    have hwr : IntKind.i64.wrap (x : Int) = (x : Int) := by rw [IntKind.wrap_i64, Int.emod_eq_of_lt (by omega) (by omega)]; omega
    have Hc := hide hc
    clear hx hT hl h2 hc hm h
    go_enter Tryz.func133, Tryz.ntmps133
    go_wp2_with fail
    go_region_with (go_at_call 130; refine (unhide Hc _ hr0.drew).mono ?_; rintro e w1 ⟨rfl, hr1, hg1⟩)
    go_wp2
    go_ret
    exact ⟨by rw [← hwr]; rfl, hr1, grown_trans hg0 (grown_drew hg1)⟩
set_option maxHeartbeats 400000 in
theorem target_any (R : Nat) (s : ByteArray) (st : St) (f : F) (a : Nat) (w : World) (h : Rd w R s st) (hs : s.size ≤ 131072) (hp : st.pos ≤ s.size) (hf : f.Ok) (ha : a ≤ 131072) :
    Calls Tryz.prog 134 #[.pointer (some ⟨R, 0, none⟩), .int .i64 (a : Int), f.val] w fun x w' => Took R s (M.take s.data.toList f.size st).2 w (.int .i64 ((a : Int) + M.rd f (M.take s.data.toList f.size st).1)) x w' := by
  have hc := fun w1 h1 => operand_any R s st f w1 h1 hs hp hf
  have hb := M.rd_bound f _ (M.take_len s.data.toList f.size st) hf.1
  obtain ⟨T, st', hT⟩ : ∃ T st', M.take s.data.toList f.size st = (T, st') := ⟨_, _, rfl⟩
  rw [hT] at hc hb ⊢
  simp only at hc hb ⊢
  obtain ⟨y, hy⟩ : ∃ y, y = M.rd f T := ⟨_, rfl⟩
  rw [← hy] at hc hb ⊢
  unfold F.val at *
  have Hc := hide hc
  have hr0 := h.alloc (.cells #[.int .i64 (f.size : Int), .int .i64 f.low, .int .i64 f.high] 156)
  have hg0 := World.grownBy_alloc w (.cells #[.int .i64 (f.size : Int), .int .i64 f.low, .int .i64 f.high] 156) (some R)
  clear hc hT hy h hf
  go_enter Tryz.func134, Tryz.ntmps134
  go_wp2_with fail
  refine (unhide Hc _ hr0).mono ?_
  clear Hc
  rintro e w1 ⟨rfl, hr1, hg1⟩
  go_wp2
  go_ret
  exact ⟨rfl, hr1, grown_trans hg0 hg1⟩
set_option maxHeartbeats 400000 in
theorem holds_any (f : F) (x : Int) (w : World) :
    Calls Tryz.prog 135 #[f.val, .int .i64 x] w fun e w' => e = .returned (.bool (M.holds f x)) ∧ w' = w.alloc (.cells #[.int .i64 (f.size : Int), .int .i64 f.low, .int .i64 f.high] 156) := by
  obtain ⟨n, lo, hi⟩ := f
  simp only [F.val, M.holds]
  have hd : (((n : Int) == 0) : Bool) = (n == 0) := by rw [Bool.eq_iff_iff]; simp
  by_cases hn : n = 0
  · subst hn
    clear hd
    go_enter Tryz.func135, Tryz.ntmps135
    go_wp2
    all_goals go_ret
    all_goals exact ⟨rfl, rfl⟩
  · have hn2 : (n == 0) = false := by simpa using hn
    rw [hn2] at hd ⊢
    clear hn hn2
    by_cases h1 : lo ≤ x
    · rw [decide_eq_true h1]
      go_enter Tryz.func135, Tryz.ntmps135
      go_wp2
      all_goals go_ret
      all_goals exact ⟨rfl, rfl⟩
    · rw [decide_eq_false h1]
      have h1' : x < lo := by omega
      clear h1
      go_enter Tryz.func135, Tryz.ntmps135
      go_wp2
      all_goals go_ret
      all_goals exact ⟨rfl, rfl⟩
end Go.Proofs.YtddhlphbbiihjaaGreatDoor.Dc
