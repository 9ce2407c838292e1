/-
  The reader of package wire, as it lies in package pool's reader: one block of six cells.
  Take, Number, Uint8, Uint16 of package wire.
  isText of package pool.
  Constants as data; a law for an append inside a statement that leaves its order open.
  What holds in the middle of constant(), and between two constants; skipOne.
-/
import Derived.Test.YtbgpkkbejbidlacMgC
import Derived.Deep.QuietTactic
import Derived.BigQuiet
import Derived.Laws.RangeAny
import Derived.Laws.DeepStrings4
import Derived.Laws.Slices
import Derived.Laws.Strings3
import Derived.Laws.BytesArg
import Derived.Lib.Strings
import Derived.Lib.Slices
import Derived.ProofKit
import Derived.WalkMore
import Derived.Deep.RegionWith
import Derived.Deep.LoopGhost
import Derived.Deep.RegionLaw
namespace Go.Proofs.Ytbgpkkbejbidlac.Po
set_option maxRecDepth 100000
open Go.RowKit
/-- A reader: the place of the next byte, the first error, its place. -/
structure St where
  pos : Nat
  e : Nat
  p : Nat
namespace M
def fail (st : St) (e p : Nat) : St := if st.e = 0 then ⟨st.pos, e, p⟩ else st
def take (s : List UInt8) (n : Nat) (st : St) : List UInt8 × St :=
  if st.e = 0 then (if s.length - st.pos < n then ([], ⟨st.pos, 1, s.length⟩) else ((s.drop st.pos).take n, ⟨st.pos + n, 0, st.p⟩)) else ([], st)
def num (l : List UInt8) : Nat := l.foldl (fun x b => x * 256 + b.toNat) 0
end M
/-- The block of a reader. -/
def Rd (w : World) (R : Nat) (s : ByteArray) (st : St) (c4 c5 : Value) : Prop :=
  w.heap[R]? = some (.cells #[.string s, .int .i64 (st.pos : Int), .int .i64 (st.e : Int), .int .i64 (st.p : Int), c4, c5] 178 (0, 0))
section
variable {w w' : World} {R : Nat} {s : ByteArray} {st : St} {c4 c5 : Value}
theorem Rd.lt (h : Rd w R s st c4 c5) : R < w.heap.size := (Array.getElem?_eq_some_iff.1 h).1
theorem Rd.cell (h : Rd w R s st c4 c5) (i : Nat) : w.cell? ⟨R, i, none⟩ = #[.string s, .int .i64 (st.pos : Int), .int .i64 (st.e : Int), .int .i64 (st.p : Int), c4, c5][i]? := cell_of_row w R i _ 178 (0, 0) h
theorem Rd.frozen (h : Rd w R s st c4 c5) (i : Nat) : w.frozen? ⟨R, i, none⟩ = false := by
  unfold World.frozen?; unfold Rd at h; simp only [h]; simp
theorem Rd.cells (h : Rd w R s st c4 c5) : w.cell? ⟨R, 0, none⟩ = some (.string s) ∧ w.cell? ⟨R, 1, none⟩ = some (.int .i64 (st.pos : Int)) ∧ w.cell? ⟨R, 2, none⟩ = some (.int .i64 (st.e : Int)) ∧
    w.cell? ⟨R, 3, none⟩ = some (.int .i64 (st.p : Int)) ∧ w.cell? ⟨R, 4, none⟩ = some c4 ∧ w.cell? ⟨R, 5, none⟩ = some c5 :=
  ⟨h.cell 0, h.cell 1, h.cell 2, h.cell 3, h.cell 4, h.cell 5⟩
theorem Rd.kept {row : Option Nat} (h : Rd w R s st c4 c5) (hg : w.grownBy w' row) (hne : some R ≠ row) : Rd w' R s st c4 c5 := by
  unfold Rd; rw [hg.block R h.lt hne]; exact h
theorem Rd.drewN (h : Rd w R s st c4 c5) (n : Nat) : Rd (w.drewN n) R s st c4 c5 := h
theorem Rd.drew (h : Rd w R s st c4 c5) : Rd w.drew R s st c4 c5 := h
theorem Rd.setPos (h : Rd w R s st c4 c5) (x : Nat) : Rd (w.setCell ⟨R, 1, none⟩ (.int .i64 (x : Int))) R s ⟨x, st.e, st.p⟩ c4 c5 := by
  unfold Rd; rw [heap_setCell_same w R 1 _ 178 _ h]; rfl
theorem Rd.setErr (h : Rd w R s st c4 c5) (e p : Nat) : Rd ((w.setCell ⟨R, 2, none⟩ (.int .i64 (e : Int))).setCell ⟨R, 3, none⟩ (.int .i64 (p : Int))) R s ⟨st.pos, e, p⟩ c4 c5 := by
  have h1 : (w.setCell ⟨R, 2, none⟩ (.int .i64 (e : Int))).heap[R]? = _ := heap_setCell_same w R 2 _ 178 _ h
  unfold Rd; rw [heap_setCell_same _ R 3 _ 178 _ h1]; rfl
theorem Rd.set4 (h : Rd w R s st c4 c5) (x : Value) : Rd (w.setCell ⟨R, 4, none⟩ x) R s st x c5 := by
  unfold Rd; rw [heap_setCell_same w R 4 _ 178 _ h]; rfl
theorem Rd.set5 (h : Rd w R s st c4 c5) (x : Value) : Rd (w.setCell ⟨R, 5, none⟩ x) R s st c4 x := by
  unfold Rd; rw [heap_setCell_same w R 5 _ 178 _ h]; rfl
end
theorem grown_set (w : World) (b i : Nat) (v : Value) : w.grownBy (w.setCell ⟨b, i, none⟩ v) (some b) :=
  ⟨rfl, rfl, rfl, by simp, fun k _ hne => Below.heap_setCell w ⟨b, i, none⟩ v k (by intro h; subst h; exact hne rfl)⟩
theorem grown_trans {w w1 w2 : World} {row : Option Nat} (h : w.grownBy w1 row) (g : w1.grownBy w2 row) : w.grownBy w2 row :=
  ⟨g.os.trans h.os, g.tape.trans h.tape, g.output.trans h.output, Nat.le_trans h.size g.size, fun k hk hne => (g.block k (Nat.lt_of_lt_of_le hk h.size) hne).trans (h.block k hk hne)⟩
theorem grown_refl (w : World) (row : Option Nat) : w.grownBy w row := ⟨rfl, rfl, rfl, Nat.le_refl _, fun _ _ _ => rfl⟩
theorem grown_drewN (w : World) (row : Option Nat) (n : Nat) : w.grownBy (w.drewN n) row := ⟨rfl, rfl, rfl, Nat.le_refl _, fun _ _ _ => rfl⟩
theorem grown_of_below {w w' : World} (h : Below w.heap.size w w') (row : Option Nat) : w.grownBy w' row := ⟨h.os, h.tape, h.output, h.size, fun k hk _ => h.block k hk⟩

set_option maxHeartbeats 400000 in
theorem Good_any (R : Nat) (s : ByteArray) (st : St) (c4 c5 : Value) (w : World) (h : Rd w R s st c4 c5) :
    Calls Try.prog 59 #[.pointer (some ⟨R, 0, none⟩)] w fun e w' => e = .returned (.bool (decide (st.e = 0))) ∧ w' = w := by
  obtain ⟨h0, h1, h2, h3, h4, h5⟩ := h.cells
  have hd : (((st.e : Int) == 0) : Bool) = decide (st.e = 0) := by rw [Bool.eq_iff_iff]; simp
  clear h
  go_enter Try.func59, Try.ntmps59
  go_wp2
  go_ret
  exact ⟨rfl, rfl⟩
set_option maxHeartbeats 400000 in
theorem At_any (R : Nat) (s : ByteArray) (st : St) (c4 c5 : Value) (w : World) (h : Rd w R s st c4 c5) :
    Calls Try.prog 88 #[.pointer (some ⟨R, 0, none⟩)] w fun e w' => e = .returned (.int .i64 (st.pos : Int)) ∧ w' = w := by
  obtain ⟨h0, h1, h2, h3, h4, h5⟩ := h.cells
  clear h
  go_enter Try.func88, Try.ntmps88
  go_wp2
  go_ret
  exact ⟨rfl, rfl⟩
set_option maxHeartbeats 400000 in
theorem Err_any (R : Nat) (s : ByteArray) (st : St) (c4 c5 : Value) (w : World) (h : Rd w R s st c4 c5) :
    Calls Try.prog 27 #[.pointer (some ⟨R, 0, none⟩)] w fun e w' => e = .returned (.tuple #[.int .i64 (st.e : Int), .int .i64 (st.p : Int)]) ∧ ∃ n, w' = w.drewN n := by
  obtain ⟨h0, h1, h2, h3, h4, h5⟩ := h.cells
  clear h
  go_enter Try.func27, Try.ntmps27
  go_wp2_with fail
  go_quiet (fail)
  go_wp2
  go_ret2
  exact ⟨rfl, _, rfl⟩
set_option maxHeartbeats 400000 in
theorem Fail_any (R : Nat) (s : ByteArray) (st : St) (c4 c5 : Value) (e p : Nat) (w : World) (h : Rd w R s st c4 c5) :
    Calls Try.prog 68 #[.pointer (some ⟨R, 0, none⟩), .int .i64 (e : Int), .int .i64 (p : Int)] w fun x w' => x = .returned (.tuple #[]) ∧ Rd w' R s (M.fail st e p) c4 c5 ∧ w.grownBy w' (some R) ∧ w'.heap.size = w.heap.size := by
  obtain ⟨h0, h1, h2, h3, h4, h5⟩ := h.cells
  have hf2 := h.frozen 2
  have hf3 := h.frozen 3
  by_cases he : st.e = 0
  · have hr := h.setErr e p
    rw [show M.fail st e p = ⟨st.pos, e, p⟩ by unfold M.fail; rw [if_pos he]]
    have hg := grown_trans (grown_set w R 2 (.int .i64 (e : Int))) (grown_set _ R 3 (.int .i64 (p : Int)))
    go_enter Try.func68, Try.ntmps68
    go_wp2_with fail
    refine (Good_any R s st c4 c5 w h).mono ?_
    rintro e1 w1 ⟨rfl, hw⟩
    subst w1
    rw [decide_eq_true he]
    clear he
    go_wp2
    go_end0
    exact ⟨rfl, hr, hg, by simp⟩
  · rw [show M.fail st e p = st by unfold M.fail; rw [if_neg he]]
    go_enter Try.func68, Try.ntmps68
    go_wp2_with fail
    refine (Good_any R s st c4 c5 w h).mono ?_
    rintro e1 w1 ⟨rfl, hw⟩
    subst w1
    rw [decide_eq_false he]
    clear he
    go_wp2
    go_end0
    exact ⟨rfl, h, grown_refl _ _, rfl⟩
end Go.Proofs.Ytbgpkkbejbidlac.Po
namespace Go.Proofs.Ytbgpkkbejbidlac.Po
set_option maxRecDepth 100000
open Go.RowKit
theorem extract_list (s : ByteArray) (a n : Nat) : s.extract a (a + n) = ⟨((s.data.toList.drop a).take n).toArray⟩ := by
  apply ByteArray.ext; apply Array.ext'
  rw [ByteArray.data_extract, Array.toList_extract, List.extract_eq_take_drop, show a + n - a = n by omega]
theorem Rd.setPosN {w : World} {R : Nat} {s : ByteArray} {st : St} {c4 c5 : Value} (h : Rd w R s st c4 c5) (k n : Nat) (he : st.e = 0) :
    Rd ((w.drewN k).setCell ⟨R, 1, none⟩ (.int .i64 ((st.pos : Int) + (n : Int)))) R s ⟨st.pos + n, 0, st.p⟩ c4 c5 := by
  have hq := (h.drewN k).setPos (st.pos + n)
  rw [he, Int.natCast_add] at hq
  exact hq
theorem or64 (x b : Nat) (hx : x ≤ 72057594037927935) (hb : b < 256) : bits BinOp.or IntKind.u64 ((x : Int) * 256) (b : Int) = ((x * 256 + b : Nat) : Int) := by
  have h := bits_or_u64_nat (x * 256) b (by omega) (by omega)
  have h2 := Nat.two_pow_add_eq_or_of_lt (i := 8) (b := b) (by omega) x
  simp only [Nat.reducePow] at h2
  rw [Nat.mul_comm 256 x] at h2
  rw [Int.natCast_mul] at h
  rw [h2]; exact h
def Took (R : Nat) (s : ByteArray) (st' : St) (c4 c5 : Value) (w : World) (x : Value) (e : Ending) (w' : World) : Prop :=
  e = .returned x ∧ Rd w' R s st' c4 c5 ∧ w.grownBy w' (some R)
set_option maxHeartbeats 400000 in
theorem Take_any (R : Nat) (s : ByteArray) (st : St) (c4 c5 : Value) (n : Nat) (w : World) (h : Rd w R s st c4 c5) (hs : s.size ≤ 131072) (hn : n ≤ 65535) (hp : st.pos ≤ s.size) :
    Calls Try.prog 96 #[.pointer (some ⟨R, 0, none⟩), .int .i64 (n : Int)] w fun x w' => Took R s (M.take s.data.toList n st).2 c4 c5 w (.string ⟨(M.take s.data.toList n st).1.toArray⟩) x w' := by
  obtain ⟨h0, h1, h2, h3, h4, h5⟩ := h.cells
  have hl : s.data.toList.length = s.size := by simp
  have hf1 := h.frozen 1
  by_cases hr : s.size - st.pos < n
  · have hri : (s.size : Int) - (st.pos : Int) < (n : Int) := by omega
    have hres : M.take s.data.toList n st = ([], M.fail st 1 s.size) := by
      unfold M.take M.fail; rw [hl]
      by_cases he : st.e = 0
      · rw [if_pos he, if_pos hr, if_pos he]
      · rw [if_neg he, if_neg he]
    rw [hres]
    have hbad : (M.fail st 1 s.size).e ≠ 0 := by
      unfold M.fail; split
      · simp
      · assumption
    clear hres hl hr
    go_enter Try.func96, Try.ntmps96
    go_wp2_with fail
    go_quiet (fail)
    go_wp2_with fail
    refine (Fail_any R s st c4 c5 1 s.size _ (h.drewN _)).mono ?_
    rintro e w1 ⟨rfl, hr1, hg1, hz1⟩
    clear h0 h1 h2 h3 h4 h5 hf1
    go_wp2_with fail
    refine (Good_any R s _ c4 c5 w1 hr1).mono ?_
    rintro e w2 ⟨rfl, hw⟩
    subst w2
    rw [decide_eq_false hbad]
    clear hbad
    go_wp2
    go_ret
    exact ⟨rfl, hr1, grown_trans (grown_drewN w (some R) _) hg1⟩
  · have hri : (n : Int) ≤ (s.size : Int) - (st.pos : Int) := by omega
    by_cases he : st.e = 0
    · have hres : M.take s.data.toList n st = ((s.data.toList.drop st.pos).take n, ⟨st.pos + n, 0, st.p⟩) := by
        unfold M.take; rw [hl, if_pos he, if_neg hr]
      rw [hres]
      have hx := extract_list s st.pos n
      have Hx := hide hx
      clear hres hl hx hr
      go_enter Try.func96, Try.ntmps96
      go_wp2_with fail
      go_quiet (fail)
      go_wp2_with fail
      refine (Good_any R s st c4 c5 _ (h.drewN _)).mono ?_
      rintro e w2 ⟨rfl, hw⟩
      subst w2
      rw [decide_eq_true he]
      have He := hide he
      clear he
      have hk1 : (st.pos : Int) + (n : Int) ≤ (s.size : Int) := by omega
      go_wp2_with fail
      go_quiet (fail)
      go_wp2
      go_ret
      exact ⟨congrArg (fun z => Ending.returned (.string z)) (unhide Hx), h.setPosN _ n (unhide He), grown_trans (grown_drewN w (some R) _) (grown_set _ R 1 _)⟩
    · have hres : M.take s.data.toList n st = ([], st) := by unfold M.take; rw [if_neg he]
      rw [hres]
      clear hres hl hr
      go_enter Try.func96, Try.ntmps96
      go_wp2_with fail
      go_quiet (fail)
      go_wp2_with fail
      refine (Good_any R s st c4 c5 _ (h.drewN _)).mono ?_
      rintro e w2 ⟨rfl, hw⟩
      subst w2
      rw [decide_eq_false he]
      clear he
      go_wp2
      go_ret
      exact ⟨rfl, h.drewN _, grown_drewN w (some R) _⟩
theorem num_snoc (l : List UInt8) (b : UInt8) : M.num (l ++ [b]) = M.num l * 256 + b.toNat := by simp [M.num]
theorem num_take (l : List UInt8) (k : Nat) (hk : k < l.length) : M.num (l.take (k + 1)) = M.num (l.take k) * 256 + (l.getD k 0).toNat := by
  rw [List.take_add_one, List.getElem?_eq_getElem hk]; simp only [Option.toList_some, num_snoc, List.getD, List.getElem?_eq_getElem hk, Option.getD_some]
theorem num_lt (l : List UInt8) : M.num l < 256 ^ l.length := by
  suffices ∀ n, ∀ l : List UInt8, l.length = n → M.num l < 256 ^ n from this _ l rfl
  intro n
  induction n with
  | zero => intro l hl; rw [List.length_eq_zero_iff.1 hl]; simp [M.num]
  | succ n ih =>
    intro l hl
    have h1 := num_take l n (by omega)
    rw [List.take_of_length_le (by omega)] at h1
    have h2 := ih (l.take n) (by simp; omega)
    have h3 := (l.getD n 0).toNat_lt
    rw [h1, Nat.pow_succ]; omega
theorem take_len (s : List UInt8) (n : Nat) (st : St) : (M.take s n st).1.length ≤ n := by
  unfold M.take; split
  · split
    · simp
    · simp; omega
  · simp
set_option maxHeartbeats 400000 in
theorem Number_any (R : Nat) (s : ByteArray) (st : St) (c4 c5 : Value) (n : Nat) (w : World) (h : Rd w R s st c4 c5) (hs : s.size ≤ 131072) (hn : n ≤ 8) (hp : st.pos ≤ s.size) :
    Calls Try.prog 67 #[.pointer (some ⟨R, 0, none⟩), .int .i64 (n : Int)] w fun x w' => Took R s (M.take s.data.toList n st).2 c4 c5 w (.int .u64 (M.num (M.take s.data.toList n st).1 : Nat)) x w' := by
  have hl := take_len s.data.toList n st
  have hc := Take_any R s st c4 c5 n w h hs (by omega) hp
  obtain ⟨T, st', hT⟩ : ∃ T st', M.take s.data.toList n st = (T, st') := ⟨_, _, rfl⟩
  rw [hT] at hl hc ⊢
  clear hT h
  simp only at hl hc ⊢
  have Hc := hide hc
  clear hc
  go_enter Try.func67, Try.ntmps67
  go_wp2_with fail
  refine (unhide Hc).mono ?_
  clear Hc
  rintro e w1 ⟨rfl, hr1, hg1⟩
  obtain ⟨cp, w2, hrun, hcell, hsz, hbe⟩ := conv_bytes w1 ⟨T.toArray⟩
  have hts : (⟨T.toArray⟩ : ByteArray).size = T.length := by show T.toArray.size = _; simp
  rw [hts] at hrun hcell
  have hcell' : ∀ j, j < T.length → w2.cell? ⟨w1.heap.size, j, none⟩ = some (.int .u8 ((T.getD j 0).toNat : Int)) := hcell
  have Hcell := hide hcell'
  clear hcell hcell' hts
  go_wp2_with fail
  go_loopw [5, 13] (fun x i wr => ∃ k : Nat, k ≤ T.length ∧ i = .int .i64 k ∧ x = .int .u64 (M.num (T.take k) : Nat) ∧ wr = w2) (fun _ i _ => T.length - (intOf i).toNat)
  case atStart => exact ⟨0, Nat.zero_le _, rfl, rfl, rfl⟩
  case round =>
    obtain ⟨k, hk, rfl, rfl, rfl⟩ := hrel
    by_cases hlt : k < T.length
    · have hck := unhide Hcell k hlt
      obtain ⟨b, hb⟩ : ∃ b : Nat, b = (T.getD k 0).toNat := ⟨_, rfl⟩
      have hnt := num_take T k hlt
      have hbt : b < 256 := by rw [hb]; exact (T.getD k 0).toNat_lt
      have hx := num_lt (T.take k)
      have hx7 : M.num (T.take k) ≤ 72057594037927935 := by
        have hlk : (T.take k).length ≤ 7 := by rw [List.length_take]; omega
        have := Nat.pow_le_pow_right (show 0 < 256 by omega) hlk
        have e7 : 256 ^ 7 = 72057594037927936 := by decide
        omega
      rw [← hb] at hnt hck
      clear hb hx
      obtain ⟨x, hxx⟩ : ∃ x, x = M.num (T.take k) := ⟨_, rfl⟩
      rw [← hxx] at hnt hx7 ⊢
      have Hnt := hide hnt
      clear hxx hnt
      have ho := or64 x b hx7 hbt
      rw [← unhide Hnt] at ho
      have Ho := hide ho
      clear ho Hnt
      go_wp2
      go_roundw
      case rel => exact ⟨k + 1, by omega, by go_num, by rw [unhide Ho], trivial⟩
      case measure => simp [intOf]; omega
    · have hkl : k = T.length := by omega
      subst hkl
      rw [List.take_length]
      have hz := hr1.lt
      have hr2 : Rd wr R s st' c4 c5 := hr1.kept (grown_of_below hbe none) (by simp)
      have hg2 := grown_trans hg1 (grown_of_below hbe (some R))
      clear hrun Hcell hr1 hg1 hbe
      go_wp2
      go_ret
      exact ⟨rfl, hr2, hg2⟩
set_option maxHeartbeats 400000 in
theorem Uint8_any (R : Nat) (s : ByteArray) (st : St) (c4 c5 : Value) (w : World) (h : Rd w R s st c4 c5) (hs : s.size ≤ 131072) (hp : st.pos ≤ s.size) :
    Calls Try.prog 89 #[.pointer (some ⟨R, 0, none⟩)] w fun x w' => Took R s (M.take s.data.toList 1 st).2 c4 c5 w (.int .u8 (M.num (M.take s.data.toList 1 st).1 : Nat)) x w' := by
  have hl := take_len s.data.toList 1 st
  have hc := Number_any R s st c4 c5 1 w h hs (by omega) hp
  obtain ⟨T, st', hT⟩ : ∃ T st', M.take s.data.toList 1 st = (T, st') := ⟨_, _, rfl⟩
  rw [hT] at hl hc ⊢
  clear hT h
  simp only at hl hc ⊢
  have hx := num_lt T
  have hx2 : M.num T ≤ 255 := by have := Nat.pow_le_pow_right (show 0 < 256 by omega) hl; omega
  have Hc := hide hc
  clear hc hx hl
  go_enter Try.func89, Try.ntmps89
  go_wp2_with fail
  refine (unhide Hc).mono ?_
  clear Hc
  rintro e w1 ⟨rfl, hr1, hg1⟩
  go_wp2
  go_ret
  exact ⟨rfl, hr1, hg1⟩
set_option maxHeartbeats 400000 in
theorem Uint16_any (R : Nat) (s : ByteArray) (st : St) (c4 c5 : Value) (w : World) (h : Rd w R s st c4 c5) (hs : s.size ≤ 131072) (hp : st.pos ≤ s.size) :
    Calls Try.prog 57 #[.pointer (some ⟨R, 0, none⟩)] w fun x w' => Took R s (M.take s.data.toList 2 st).2 c4 c5 w (.int .u16 (M.num (M.take s.data.toList 2 st).1 : Nat)) x w' := by
  have hl := take_len s.data.toList 2 st
  have hc := Number_any R s st c4 c5 2 w h hs (by omega) hp
  obtain ⟨T, st', hT⟩ : ∃ T st', M.take s.data.toList 2 st = (T, st') := ⟨_, _, rfl⟩
  rw [hT] at hl hc ⊢
  clear hT h
  simp only at hl hc ⊢
  have hx := num_lt T
  have hx2 : M.num T ≤ 65535 := by have := Nat.pow_le_pow_right (show 0 < 256 by omega) hl; omega
  have Hc := hide hc
  clear hc hx hl
  go_enter Try.func57, Try.ntmps57
  go_wp2_with fail
  refine (unhide Hc).mono ?_
  clear Hc
  rintro e w1 ⟨rfl, hr1, hg1⟩
  go_wp2
  go_ret
  exact ⟨rfl, hr1, hg1⟩
end Go.Proofs.Ytbgpkkbejbidlac.Po
namespace Go.Proofs.Ytbgpkkbejbidlac.Po
set_option maxRecDepth 100000
open Go.RowKit
def M.IsText (l : List UInt8) : Prop := ∃ L, M.Ok L ∧ M.text L = l
def TextAt (s : ByteArray) (w wr : World) (k : Nat) (L : List Nat) : Prop := M.Ok L ∧ M.text L = s.data.toList.take k ∧ Below w.heap.size w wr
theorem TextAt.step {s : ByteArray} {w wr w2 : World} {k : Nat} {L : List Nat} {u n : Nat} (h : TextAt s w wr k L) (hu : u < 65536) (hn : n = M.size u) (r : List UInt8) (hr : s.data.toList.drop k = M.enc u ++ r) (hk : k < s.size)
    (hb : Below wr.heap.size wr w2) : k + n ≤ s.size ∧ TextAt s w w2 (k + n) (L ++ [u]) := by
  obtain ⟨a1, a2, a7⟩ := h
  have hl : (s.data.toList.drop k).length = s.size - k := by simp
  have hl2 : (M.enc u).length ≤ s.size - k := by rw [← hl, hr]; simp
  rw [M.enc_length, ← hn] at hl2
  refine ⟨by omega, fun x hx => ?_, ?_, a7.trans (hb.mono a7.size)⟩
  · rcases List.mem_append.1 hx with q | q
    · exact a1 x q
    · simp at q; omega
  · rw [M.text_snoc, a2, List.take_add, hr, List.take_left' (by rw [M.enc_length, hn])]
theorem TextAt.stop {s : ByteArray} {w wr : World} {k : Nat} {L : List Nat} (h : TextAt s w wr k L) (hk : k < s.size) (hr : ∀ v, v < 65536 → ∀ r, s.data.toList.drop k ≠ M.enc v ++ r) : ¬ M.IsText s.data.toList := by
  obtain ⟨a1, a2, -⟩ := h
  have := M.stop_none (r := s.data.toList.drop k) a1 (by intro hh; have := congrArg List.length hh; simp at this; omega) hr
  rw [a2, List.take_append_drop] at this
  rintro ⟨m, hm, ht⟩
  rcases this with ⟨_, h, _⟩ | ⟨_, h⟩
  · cases h
  · exact h m hm ht
/-- What isText answers. -/
def Texted (s : ByteArray) (w : World) (e : Ending) (w' : World) : Prop :=
  ((e = .returned (.bool true) ∧ M.IsText s.data.toList) ∨ (e = .returned (.bool false) ∧ ¬ M.IsText s.data.toList)) ∧ Below w.heap.size w w'
set_option maxHeartbeats 400000 in
theorem skip_any (u : Nat) (w : World) : Calls Try.prog 127 #[.int .u16 u] w fun e w' => e = .returned (.tuple #[]) ∧ w' = w := by
  go_enter Try.func127, Try.ntmps127
  go_wp2
  go_end0
  exact ⟨rfl, rfl⟩
set_option maxHeartbeats 400000 in
theorem each_text (s : ByteArray) (w : World) (hs : s.size ≤ 131072) :
    Calls Try.prog 126 #[.string s, .func (.func 127) #[] #[]] w fun e w' => Texted s w e w' := by
  have hbox : TextAt s w w 0 [] := ⟨fun _ h => by simp at h, by simp [M.text], Below.refl _ _⟩
  go_enter Try.func126, Try.ntmps126
  go_wp2_with fail
  go_loopw [5] (fun i wr => ∃ k L, k ≤ s.size ∧ i = .int .i64 (k : Nat) ∧ TextAt s w wr k L) (fun i _ => s.size - (intOf i).toNat)
  case atStart => exact ⟨0, [], Nat.zero_le _, rfl, hbox⟩
  case round =>
    obtain ⟨k, L, hk, rfl, hbx⟩ := hrel
    clear hbox
    by_cases hlt : k < s.size
    · go_wp2_with fail
      refine (firstUnit_any (s.extract k s.size) wr (by simp; omega) (by simp; omega)).mono ?_
      rintro e w2 ⟨u, n, rfl, hF, hb2⟩
      rw [drop_extract] at hF
      rcases hF with ⟨hu, hn, r, hr⟩ | ⟨rfl, rfl, hno⟩
      · have hnp : 0 < n ∧ n ≤ 3 := by have := M.size_pos u; omega
        have hne : ((n : Int) == 0) = false := by rw [beq_eq_false_iff_ne]; omega
        obtain ⟨s1, s2⟩ := hbx.step hu hn r hr hlt hb2
        clear hn hr hbx hb2
        go_wp2_with fail
        refine (skip_any u w2).mono ?_
        rintro e w3 ⟨rfl, hww⟩
        subst w3
        go_wp2
        go_roundw
        case rel => exact ⟨k + n, L ++ [u], s1, by go_num, s2⟩
        case measure => simp [intOf]; omega
      · have hst := hbx.stop hlt hno
        have hbw : Below w.heap.size w w2 := hbx.2.2.trans (hb2.mono hbx.2.2.size)
        clear hno hbx
        go_wp2
        go_ret
        exact ⟨.inr ⟨rfl, hst⟩, hbw⟩
    · obtain ⟨a1, a2, a7⟩ := hbx
      have hks : k = s.size := by omega
      subst hks
      have a2' : M.text L = s.data.toList := by rw [a2, List.take_of_length_le]; simp
      have H1 : M.IsText s.data.toList := ⟨L, a1, a2'⟩
      clear a2 a2'
      go_wp2
      go_ret
      exact ⟨.inl ⟨rfl, H1⟩, a7⟩
set_option maxHeartbeats 400000 in
theorem isText_any (s : ByteArray) (w : World) (hs : s.size ≤ 131072) :
    Calls Try.prog 121 #[.string s] w fun e w' => Texted s w e w' := by
  go_enter Try.func121, Try.ntmps121
  go_wp2_with fail
  refine (each_text s w hs).mono ?_
  rintro e w1 ⟨⟨rfl, h⟩ | ⟨rfl, h⟩, hb⟩
  · go_wp2
    go_ret
    exact ⟨.inl ⟨rfl, h⟩, hb⟩
  · go_wp2
    go_ret
    exact ⟨.inr ⟨rfl, h⟩, hb⟩
end Go.Proofs.Ytbgpkkbejbidlac.Po
namespace Go.Proofs.Ytbgpkkbejbidlac.Po
set_option maxRecDepth 100000
open Go.RowKit
theorem step_append_own {P : Program} {ops : Array Oper} {o : Oper} {a : Act} {w : World} {K : Act → World → Prop} {Q : Exit → Act → World → Prop} {E : Prop} (hg : o.guard = none) (s x : Operand) (t : TypeId)
    (ho : o.op = .call { callee := .builtin .append, args := #[s, x], argTypes := #[t, t] })
    (base : Nat) (e : TypeId) (i : TypeInfo) (z : Value) (size bytes : Nat) (ht : P.underlying t = some (.slice e)) (hi : P.info? e = some i) (hz : i.zero = some z)
    (hsize : i.size = size) (hby : i.bytes = bytes) (hzs : z.cells.size = size) (hsz : 0 < size)
    (v : Value) (n : Nat) (xs : List Value) (hs : a.eval s = v) (hown : w.ownsRow base e size v n xs)
    (ad : Addr) (m c : Nat) (news : List Value) (hx : a.eval x = .slice (some ad) m c) (hl : news.length = m * size) (hnews : ∀ j u, news[j]? = some u → w.cell? (ad.add j) = some u) (h1 : ∀ u ∈ news, u.oneCell' = true)
    (h63 : n + m ≤ maxLen) (hbytes : (n + m) * bytes ≤ 140737488355328) (hbase : base ≤ w.heap.size)
    (h : ∀ v' w', w'.ownsRow base e size v' (n + m) (xs ++ news) → w.grownBy w' v.ownBlock → K (a.put o.dst v') w') :
    if Region.wanted o (yielded ops a.tmps) = true then Oper.wp P o a w K Q else E := by
  have hw : Region.wanted o (yielded ops a.tmps) = true := by simp [Region.wanted, hg]
  rw [if_pos hw]
  exact wp_append_own (P := P) w s x t ho base e i z size bytes ht hi hz hsize hby hzs hsz v n xs hs hown ad m c news hx hl hnews h1 h63 hbytes hbase (fun v' w' a b _ => h v' w' a b)
/-- A constant. -/
structure K where
  tag : Nat
  text : List UInt8
  bits : Nat
  a : Nat
  b : Nat
def K.zero : K := ⟨0, [], 0, 0, 0⟩
def K.cells (c : K) : List Value := [.int .u8 (c.tag : Int), .string ⟨c.text.toArray⟩, .int .u64 (c.bits : Int), .int .u16 (c.a : Int), .int .u16 (c.b : Int)]
def KC : List K → List Value
  | [] => []
  | c :: l => c.cells ++ KC l
theorem KC_append (a b : List K) : KC (a ++ b) = KC a ++ KC b := by
  induction a with
  | nil => rfl
  | cons c a ih => simp only [List.cons_append, KC, ih, List.append_assoc]
theorem KC_snoc (l : List K) (c : K) : KC (l ++ [c]) = KC l ++ c.cells := by rw [KC_append]; simp [KC]
theorem KC_length (l : List K) : (KC l).length = l.length * 5 := by
  induction l with
  | nil => rfl
  | cons c l ih => simp only [KC, List.length_append, List.length_cons, ih, K.cells, List.length_nil]; omega
theorem Try.info78 : (Try.prog.info? 78).map (fun i => (i.zero, i.size, i.bytes)) = some (some (.agg #[.int .u8 0, .string ⟨#[]⟩, .int .u64 0, .int .u16 0, .int .u16 0]), 5, 40) := by kernel_rfl
/-- A reader's list: its value owns the row of these constants. -/
def Own (w : World) (R : Nat) (v : Value) (l : List K) : Prop := w.ownsRow (R + 1) 78 5 v l.length (KC l)
theorem take_pos {s : List UInt8} {n : Nat} {st : St} (h : st.pos ≤ s.length) : (M.take s n st).2.pos ≤ s.length := by
  unfold M.take; split
  · split
    · exact h
    · simp only; omega
  · exact h
theorem fail_pos (st : St) (e p : Nat) : (M.fail st e p).pos = st.pos := by unfold M.fail; split <;> rfl
theorem one5 (c : K) : ∀ u ∈ c.cells, u.oneCell' = true := by
  intro u hu; simp [K.cells] at hu; rcases hu with rfl | rfl | rfl | rfl | rfl <;> rfl
theorem at5 {w : World} {g : Nat} {c : K} (h0 : w.cell? ⟨g, 0, none⟩ = some (.int .u8 (c.tag : Int))) (h1 : w.cell? ⟨g, 1, none⟩ = some (.string ⟨c.text.toArray⟩)) (h2 : w.cell? ⟨g, 2, none⟩ = some (.int .u64 (c.bits : Int)))
    (h3 : w.cell? ⟨g, 3, none⟩ = some (.int .u16 (c.a : Int))) (h4 : w.cell? ⟨g, 4, none⟩ = some (.int .u16 (c.b : Int))) : ∀ j u, c.cells[j]? = some u → w.cell? ((⟨g, 0, none⟩ : Addr).add j) = some u := by
  intro j u hj
  match j, hj with
  | 0, hj => simp [K.cells] at hj; subst hj; simpa [Addr.add] using h0
  | 1, hj => simp [K.cells] at hj; subst hj; simpa [Addr.add] using h1
  | 2, hj => simp [K.cells] at hj; subst hj; simpa [Addr.add] using h2
  | 3, hj => simp [K.cells] at hj; subst hj; simpa [Addr.add] using h3
  | 4, hj => simp [K.cells] at hj; subst hj; simpa [Addr.add] using h4
set_option maxHeartbeats 400000 in
theorem takesTwo_any (n : Nat) (w : World) (h : n < 256) : Calls Try.prog 107 #[.int .u8 (n : Int)] w fun e w' => e = .returned (.bool (decide (n = 5 ∨ n = 6))) ∧ w' = w := by
  by_cases h5 : n = 5
  · subst h5
    go_enter Try.func107, Try.ntmps107
    go_wp2
    go_ret
    exact ⟨rfl, rfl⟩
  · have e5 : ((n : Int) == 5) = false := by rw [beq_eq_false_iff_ne]; omega
    by_cases h6 : n = 6
    · subst h6
      go_enter Try.func107, Try.ntmps107
      go_wp2
      go_ret
      exact ⟨rfl, rfl⟩
    · have e6 : ((n : Int) == 6) = false := by rw [beq_eq_false_iff_ne]; omega
      rw [decide_eq_false (by omega)]
      clear h5 h6
      go_enter Try.func107, Try.ntmps107
      go_wp2
      go_ret
      exact ⟨rfl, rfl⟩
end Go.Proofs.Ytbgpkkbejbidlac.Po
namespace Go.Proofs.Ytbgpkkbejbidlac.Po
set_option maxRecDepth 100000
open Go.RowKit
/-- The block of a constant that is being made. -/
def Kb (w : World) (g : Nat) (c : K) : Prop := w.heap[g]? = some (.cells #[.int .u8 (c.tag : Int), .string ⟨c.text.toArray⟩, .int .u64 (c.bits : Int), .int .u16 (c.a : Int), .int .u16 (c.b : Int)] 78 (0, 0))
section
variable {w w' : World} {g : Nat} {c : K}
theorem Kb.lt (h : Kb w g c) : g < w.heap.size := (Array.getElem?_eq_some_iff.1 h).1
theorem Kb.cell (h : Kb w g c) (i : Nat) : w.cell? ⟨g, i, none⟩ = #[.int .u8 (c.tag : Int), .string ⟨c.text.toArray⟩, .int .u64 (c.bits : Int), .int .u16 (c.a : Int), .int .u16 (c.b : Int)][i]? := cell_of_row w g i _ 78 (0, 0) h
theorem Kb.frozen (h : Kb w g c) (i : Nat) : w.frozen? ⟨g, i, none⟩ = false := by
  unfold World.frozen?; unfold Kb at h; simp only [h]; simp
theorem Kb.kept {row : Option Nat} (h : Kb w g c) (hg : w.grownBy w' row) (hne : some g ≠ row) : Kb w' g c := by
  unfold Kb; rw [hg.block g h.lt hne]; exact h
theorem Kb.text (h : Kb w g c) (t : List UInt8) : Kb (w.setCell ⟨g, 1, none⟩ (.string ⟨t.toArray⟩)) g { c with text := t } := by
  unfold Kb; rw [heap_setCell_same w g 1 _ 78 _ h]; rfl
theorem Kb.bits (h : Kb w g c) (x : Nat) : Kb (w.setCell ⟨g, 2, none⟩ (.int .u64 (x : Int))) g { c with bits := x } := by
  unfold Kb; rw [heap_setCell_same w g 2 _ 78 _ h]; rfl
theorem Kb.a (h : Kb w g c) (x : Nat) : Kb (w.setCell ⟨g, 3, none⟩ (.int .u16 (x : Int))) g { c with a := x } := by
  unfold Kb; rw [heap_setCell_same w g 3 _ 78 _ h]; rfl
theorem Kb.b (h : Kb w g c) (x : Nat) : Kb (w.setCell ⟨g, 4, none⟩ (.int .u16 (x : Int))) g { c with b := x } := by
  unfold Kb; rw [heap_setCell_same w g 4 _ 78 _ h]; rfl
theorem Kb.new (w : World) (t : Nat) : Kb (w.alloc (.cells #[.int .u8 (t : Int), .string ⟨#[]⟩, .int .u64 0, .int .u16 0, .int .u16 0] 78)) w.heap.size ⟨t, [], 0, 0, 0⟩ := by
  unfold Kb; exact heap_alloc_new w _
end
/-- All that holds in the middle of constant(): the reader in R, the constant in g, the list, and what is old. -/
structure Mid (w0 W : World) (R g : Nat) (s : ByteArray) (st : St) (n : Nat) (v : Value) (l : List K) (c : K) : Prop where
  rd : Rd W R s st (.int .i64 (n : Int)) v
  kb : Kb W g c
  own : Own W R v l
  apart : ∀ k, v.ownBlock = some k → k < g
  lt : R < g
  old : Below R w0 W
theorem Mid.take {w0 W W' : World} {R g : Nat} {s : ByteArray} {st st' : St} {n : Nat} {v : Value} {l : List K} {c : K} (h : Mid w0 W R g s st n v l c) (hr : Rd W' R s st' (.int .i64 (n : Int)) v) (hg : W.grownBy W' (some R)) : Mid w0 W' R g s st' n v l c :=
  ⟨hr, h.kb.kept hg (by have := h.lt; simp; omega), h.own.kept hg (by
    rcases hv : v.ownBlock with _ | k
    · exact .inl rfl
    · refine .inr ?_
      have := (h.own.lt k hv).1
      simp; omega), h.apart, h.lt, h.old.grown hg (by have := h.rd.lt; omega) (fun k hk => by simp at hk; omega)⟩
theorem Mid.set {w0 W : World} {R g : Nat} {s : ByteArray} {st : St} {n : Nat} {v : Value} {l : List K} {c c' : K} (h : Mid w0 W R g s st n v l c) (i : Nat) (x : Value) (hk : Kb (W.setCell ⟨g, i, none⟩ x) g c') : Mid w0 (W.setCell ⟨g, i, none⟩ x) R g s st n v l c' :=
  ⟨h.rd.kept (grown_set W g i x) (by have := h.lt; simp; omega), hk, h.own.kept (grown_set W g i x) (by
    rcases hv : v.ownBlock with _ | k
    · exact .inl rfl
    · refine .inr ?_
      have := h.apart k hv
      simp; omega), h.apart, h.lt, h.old.setCell (by have := h.lt; show R ≤ g; omega) x⟩
theorem Mid.start {w0 W : World} {R : Nat} {s : ByteArray} {st : St} {n : Nat} {v : Value} {l : List K} (t : Nat) (hr : Rd W R s st (.int .i64 (n : Int)) v) (ho : Own W R v l) (hb : Below R w0 W) :
    Mid w0 (W.alloc (.cells #[.int .u8 (t : Int), .string ⟨#[]⟩, .int .u64 0, .int .u16 0, .int .u16 0] 78)) R W.heap.size s st n v l ⟨t, [], 0, 0, 0⟩ :=
  ⟨hr.kept (World.grownBy_alloc W _ none) (by simp), Kb.new W t, ho.alloc _, fun k hk => (ho.lt k hk).2, hr.lt, hb.alloc (by have := hr.lt; omega) _⟩
theorem Mid.drew {w0 W : World} {R g : Nat} {s : ByteArray} {st : St} {n : Nat} {v : Value} {l : List K} {c : K} (h : Mid w0 W R g s st n v l c) : Mid w0 W.drew R g s st n v l c :=
  ⟨h.rd, h.kb, h.own, h.apart, h.lt, h.old.drew⟩
/-- Between two constants. -/
structure At (w0 W : World) (R : Nat) (s : ByteArray) (st : St) (n : Nat) (v : Value) (l : List K) : Prop where
  rd : Rd W R s st (.int .i64 (n : Int)) v
  own : Own W R v l
  old : Below R w0 W
theorem Mid.grew {w0 W w' : World} {R g : Nat} {s : ByteArray} {st : St} {n : Nat} {v v' : Value} {l : List K} {c : K} {o : Obj} (h : Mid w0 W R g s st n v l c)
    (hown' : w'.ownsRow (R + 1) 78 5 v' (l.length + 1) (KC l ++ c.cells)) (hgrow : (W.alloc o).grownBy w' v.ownBlock) :
    Rd w' R s st (.int .i64 (n : Int)) v ∧ Kb w' g c ∧ Rd (w'.setCell ⟨R, 5, none⟩ v') R s st (.int .i64 (n : Int)) v' ∧ Kb (w'.setCell ⟨R, 5, none⟩ v') g c ∧ Own (w'.setCell ⟨R, 5, none⟩ v') R v' (l ++ [c]) ∧ Below R w0 (w'.setCell ⟨R, 5, none⟩ v') := by
  have hne : some R ≠ v.ownBlock := fun e => by have := (h.own.lt R e.symm).1; omega
  have hng : some g ≠ v.ownBlock := fun e => by have := h.apart g e.symm; omega
  have hsz := h.rd.lt
  have r1 : Rd w' R s st (.int .i64 (n : Int)) v := (h.rd.kept (World.grownBy_alloc W o none) (by simp)).kept hgrow hne
  have k1 : Kb w' g c := (h.kb.kept (World.grownBy_alloc W o none) (by simp)).kept hgrow hng
  refine ⟨r1, k1, r1.set5 v', k1.kept (grown_set w' R 5 v') (by have := h.lt; simp; omega), ?_, ?_⟩
  · unfold Own; rw [KC_snoc, List.length_append, List.length_singleton]; exact ownsRow_setCell_below hown' (by show R < R + 1; omega) v'
  · exact ((h.old.alloc (by omega) o).grown hgrow (by simp; omega) (fun k hk => by have := (h.own.lt k hk).1; omega)).setCell (Nat.le_refl R) v'
theorem own_kept {w w' : World} {R : Nat} {v : Value} {l : List K} (ho : Own w R v l) (hg : w.grownBy w' (some R)) : Own w' R v l :=
  ho.kept hg (by
    rcases hv : v.ownBlock with _ | k
    · exact .inl rfl
    · refine .inr ?_
      have := (ho.lt k hv).1
      simp; omega)
theorem below_kept {w0 w w' : World} {R : Nat} (hb : Below R w0 w) (hR : R < w.heap.size) (hg : w.grownBy w' (some R)) : Below R w0 w' :=
  hb.grown hg (by omega) (fun k hk => by simp at hk; omega)
theorem At.took {w0 W W' : World} {R : Nat} {s : ByteArray} {st st' : St} {n : Nat} {v : Value} {l : List K} (h : At w0 W R s st n v l) (hr : Rd W' R s st' (.int .i64 (n : Int)) v) (hg : W.grownBy W' (some R)) : At w0 W' R s st' n v l :=
  ⟨hr, own_kept h.own hg, below_kept h.old h.rd.lt hg⟩
/-- A constant as it is read, and the reader behind it. -/
def CM (s : List UInt8) (st : St) (c : K) (st' : St) : Prop :=
  (M.num (M.take s 1 st).1 = 1 ∧ c = ⟨1, (M.take s (M.num (M.take s 2 (M.take s 1 st).2).1) (M.take s 2 (M.take s 1 st).2).2).1, 0, 0, 0⟩ ∧
    ((M.IsText c.text ∧ st' = (M.take s (M.num (M.take s 2 (M.take s 1 st).2).1) (M.take s 2 (M.take s 1 st).2).2).2) ∨
     (¬ M.IsText c.text ∧ st' = M.fail (M.take s (M.num (M.take s 2 (M.take s 1 st).2).1) (M.take s 2 (M.take s 1 st).2).2).2 6 st.pos))) ∨
  ((M.num (M.take s 1 st).1 = 3 ∨ M.num (M.take s 1 st).1 = 4) ∧ c = ⟨M.num (M.take s 1 st).1, [], M.num (M.take s 4 (M.take s 1 st).2).1, 0, 0⟩ ∧ st' = (M.take s 4 (M.take s 1 st).2).2) ∨
  ((M.num (M.take s 1 st).1 = 5 ∨ M.num (M.take s 1 st).1 = 6) ∧ c = ⟨M.num (M.take s 1 st).1, [], M.num (M.take s 8 (M.take s 1 st).2).1, 0, 0⟩ ∧ st' = (M.take s 8 (M.take s 1 st).2).2) ∨
  ((M.num (M.take s 1 st).1 = 7 ∨ M.num (M.take s 1 st).1 = 8) ∧ c = ⟨M.num (M.take s 1 st).1, [], 0, M.num (M.take s 2 (M.take s 1 st).2).1, 0⟩ ∧ st' = (M.take s 2 (M.take s 1 st).2).2) ∨
  ((M.num (M.take s 1 st).1 = 9 ∨ M.num (M.take s 1 st).1 = 10 ∨ M.num (M.take s 1 st).1 = 11 ∨ M.num (M.take s 1 st).1 = 12) ∧
    c = ⟨M.num (M.take s 1 st).1, [], 0, M.num (M.take s 2 (M.take s 1 st).2).1, M.num (M.take s 2 (M.take s 2 (M.take s 1 st).2).2).1⟩ ∧ st' = (M.take s 2 (M.take s 2 (M.take s 1 st).2).2).2) ∨
  ((M.num (M.take s 1 st).1 = 0 ∨ M.num (M.take s 1 st).1 = 2 ∨ 12 < M.num (M.take s 1 st).1) ∧ c = ⟨M.num (M.take s 1 st).1, [], 0, 0, 0⟩ ∧ st' = M.fail (M.take s 1 st).2 5 st.pos)
/-- What stands behind a constant. -/
def Tail (c : K) (st' : St) (from_ n : Nat) (l l' : List K) (st'' : St) : Prop :=
  (¬ (c.tag = 5 ∨ c.tag = 6) ∧ l' = l ++ [c] ∧ st'' = st') ∨ ((c.tag = 5 ∨ c.tag = 6) ∧ l' = l ++ [c] ++ [K.zero] ∧ st'' = if l.length + 1 = n then M.fail st' 12 from_ else st')
def Step1 (w0 : World) (R : Nat) (s : ByteArray) (st : St) (n : Nat) (l : List K) (e : Ending) (w' : World) : Prop :=
  e = .returned (.tuple #[]) ∧ ∃ c st' st'' v' l', CM s.data.toList st c st' ∧ Tail c st' st.pos n l l' st'' ∧ At w0 w' R s st'' n v' l'
theorem At.grew {w0 W w' : World} {R : Nat} {s : ByteArray} {st : St} {n : Nat} {v v' : Value} {l : List K} {c : K} {o : Obj} (h : At w0 W R s st n v l)
    (hown' : w'.ownsRow (R + 1) 78 5 v' (l.length + 1) (KC l ++ c.cells)) (hgrow : (W.alloc o).grownBy w' v.ownBlock) :
    Rd w' R s st (.int .i64 (n : Int)) v ∧ At w0 (w'.setCell ⟨R, 5, none⟩ v') R s st n v' (l ++ [c]) := by
  have hne : some R ≠ v.ownBlock := fun e => by have := (h.own.lt R e.symm).1; omega
  have hsz := h.rd.lt
  have r1 : Rd w' R s st (.int .i64 (n : Int)) v := (h.rd.kept (World.grownBy_alloc W o none) (by simp)).kept hgrow hne
  refine ⟨r1, r1.set5 v', ?_, ?_⟩
  · unfold Own; rw [KC_snoc, List.length_append, List.length_singleton]; exact ownsRow_setCell_below hown' (by show R < R + 1; omega) v'
  · exact ((h.old.alloc (by omega) o).grown hgrow (by simp; omega) (fun k hk => by have := (h.own.lt k hk).1; omega)).setCell (Nat.le_refl R) v'
theorem own_len {w : World} {R : Nat} {v : Value} {l : List K} (h : Own w R v l) : ∃ a c, v = .slice a l.length c := by
  rcases h.2 with ⟨h1, h0⟩ | ⟨g, cap, cur, hv, _⟩
  · exact ⟨none, 0, by rw [h1, h0]⟩
  · exact ⟨_, cap, hv⟩
set_option maxRecDepth 100000 in
set_option maxHeartbeats 1000000 in
theorem skipOne_any (w0 : World) (R : Nat) (s : ByteArray) (st : St) (n : Nat) (v : Value) (l : List K) (f : Nat) (w : World) (h : At w0 w R s st n v l) (hl : l.length ≤ 65537) :
    Calls Try.prog 129 #[.pointer (some ⟨R, 0, none⟩), .int .i64 (f : Int)] w fun e w' => e = .returned (.tuple #[]) ∧ ∃ v', At w0 w' R s (if l.length = n then M.fail st 12 f else st) n v' (l ++ [K.zero]) := by
  obtain ⟨i0, hi, hz0, hz1, hz2⟩ := info_parts Try.info78
  obtain ⟨a, c, rfl⟩ := own_len h.own
  obtain ⟨h0, h1, h2, h3, h4, h5⟩ := h.rd.cells
  by_cases hc : l.length = n
  · rw [if_pos hc]
    have hcb : ((l.length : Int) == (n : Int)) = true := by rw [beq_iff_eq]; omega
    clear hc
    go_enter Try.func129, Try.ntmps129
    go_wp2_with fail
    go_quiet (fail)
    go_wp2_with fail
    clear hcb
    refine (Fail_any R s st _ _ 12 f _ (h.rd.drewN _)).mono ?_
    rintro e w1 ⟨rfl, hr1, hg1, -⟩
    have hA := h.took (st' := M.fail st 12 f) hr1 (grown_trans (grown_drewN w (some R) _) hg1)
    clear h0 h1 h2 h3 h4 h5 hr1 hg1 h
    obtain ⟨h0, h1, h2, h3, h4, h5⟩ := hA.rd.cells
    have hf5 := hA.rd.frozen 5
    have hsz := hA.rd.lt
    have hown := hA.own
    go_wp2_with (at_builtin; refine wpList_append_own _ rfl _ _ 22 rfl (R + 1) 78 i0 (.agg #[.int .u8 0, .string ⟨#[]⟩, .int .u64 0, .int .u16 0, .int .u16 0]) 5 40 Try.underlying22 hi hz0 hz1 hz2 rfl (by decide) _ _ _ rfl (hown.alloc _) ⟨w1.heap.size, 0, none⟩ 1 1 (K.cells K.zero) rfl rfl ?c1 ?c2 ?c3 ?c4 ?c5 ?_)
    case c1 => refine at5 ?_ ?_ ?_ ?_ ?_ <;> simp [K.zero]
    case c2 => exact one5 _
    case c3 => unfold maxLen; omega
    case c4 => omega
    case c5 => simp; omega
    intro v' w2 hown' hgrow _
    obtain ⟨q1, q2⟩ := hA.grew hown' hgrow
    obtain ⟨g', cap', rfl⟩ := own_form hown' (by omega)
    have r5' := q1.cells.2.2.2.2.2
    have rf' := q1.frozen 5
    have Hq := hide q2
    clear hown' hgrow q1 q2 h0 h1 h2 h3 h4 h5 hA hown
    go_wp2
    go_end0
    exact ⟨rfl, _, unhide Hq⟩
  · rw [if_neg hc]
    have hcb : ((l.length : Int) == (n : Int)) = false := by rw [beq_eq_false_iff_ne]; omega
    clear hc
    go_enter Try.func129, Try.ntmps129
    go_wp2_with fail
    go_quiet (fail)
    generalize hw1 : w.drewN nq = w1 at *
    have hA : At w0 w1 R s st n (.slice a l.length c) l := by rw [← hw1]; exact ⟨h.rd, h.own, below_drewN h.old _⟩
    clear h0 h1 h2 h3 h4 h5 h hw1
    obtain ⟨h0, h1, h2, h3, h4, h5⟩ := hA.rd.cells
    have hf5 := hA.rd.frozen 5
    have hsz := hA.rd.lt
    have hown := hA.own
    go_wp2_with (at_builtin; refine wpList_append_own _ rfl _ _ 22 rfl (R + 1) 78 i0 (.agg #[.int .u8 0, .string ⟨#[]⟩, .int .u64 0, .int .u16 0, .int .u16 0]) 5 40 Try.underlying22 hi hz0 hz1 hz2 rfl (by decide) _ _ _ rfl (hown.alloc _) ⟨w1.heap.size, 0, none⟩ 1 1 (K.cells K.zero) rfl rfl ?c1 ?c2 ?c3 ?c4 ?c5 ?_)
    case c1 => refine at5 ?_ ?_ ?_ ?_ ?_ <;> simp [K.zero]
    case c2 => exact one5 _
    case c3 => unfold maxLen; omega
    case c4 => omega
    case c5 => simp; omega
    intro v' w2 hown' hgrow _
    obtain ⟨q1, q2⟩ := hA.grew hown' hgrow
    obtain ⟨g', cap', rfl⟩ := own_form hown' (by omega)
    have r5' := q1.cells.2.2.2.2.2
    have rf' := q1.frozen 5
    have Hq := hide q2
    clear hown' hgrow q1 q2 h0 h1 h2 h3 h4 h5 hA hown
    go_wp2
    go_end0
    exact ⟨rfl, _, unhide Hq⟩
end Go.Proofs.Ytbgpkkbejbidlac.Po
