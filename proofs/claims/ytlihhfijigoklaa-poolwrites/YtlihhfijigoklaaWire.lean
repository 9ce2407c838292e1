/-
  The reader of package wire, as it lies in package pool's reader: one block of six cells.
-/
import Derived.Test.YtlihhfijigoklaaPoolTexts
namespace Go.Proofs.Ytlihhfijigoklaa
open Go.RowKit
/-- A reader: the place of the next byte, the first error, its place. -/
structure St where
  pos : Nat
  e : Nat
  p : Nat
namespace M
def fail (st : St) (e p : Nat) : St := if st.e = 0 then ⟨st.pos, e, p⟩ else st
def take (s : List UInt8) (n : Nat) (st : St) : List UInt8 × St :=
  if st.e = 0 then (if s.length - st.pos < n then ([], ⟨st.pos, 1, s.length⟩) else ((s.drop st.pos).take n, ⟨st.pos + n, 0, st.p⟩)) else ([], st)
def num (l : List UInt8) : Nat := l.foldl (fun x b => x * 256 + b.toNat) 0
end M
/-- The block of a reader. -/
def Rd (w : World) (R : Nat) (s : ByteArray) (st : St) (c4 c5 : Value) : Prop :=
  w.heap[R]? = some (.cells #[.string s, .int .i64 (st.pos : Int), .int .i64 (st.e : Int), .int .i64 (st.p : Int), c4, c5] 56 (0, 0))
section
variable {w w' : World} {R : Nat} {s : ByteArray} {st : St} {c4 c5 : Value}
theorem Rd.lt (h : Rd w R s st c4 c5) : R < w.heap.size := (Array.getElem?_eq_some_iff.1 h).1
theorem Rd.cell (h : Rd w R s st c4 c5) (i : Nat) : w.cell? ⟨R, i, none⟩ = #[.string s, .int .i64 (st.pos : Int), .int .i64 (st.e : Int), .int .i64 (st.p : Int), c4, c5][i]? := cell_of_row w R i _ 56 (0, 0) h
theorem Rd.frozen (h : Rd w R s st c4 c5) (i : Nat) : w.frozen? ⟨R, i, none⟩ = false := by
  unfold World.frozen?; unfold Rd at h; simp only [h]; simp
theorem Rd.cells (h : Rd w R s st c4 c5) : w.cell? ⟨R, 0, none⟩ = some (.string s) ∧ w.cell? ⟨R, 1, none⟩ = some (.int .i64 (st.pos : Int)) ∧ w.cell? ⟨R, 2, none⟩ = some (.int .i64 (st.e : Int)) ∧
    w.cell? ⟨R, 3, none⟩ = some (.int .i64 (st.p : Int)) ∧ w.cell? ⟨R, 4, none⟩ = some c4 ∧ w.cell? ⟨R, 5, none⟩ = some c5 :=
  ⟨h.cell 0, h.cell 1, h.cell 2, h.cell 3, h.cell 4, h.cell 5⟩
theorem Rd.kept {row : Option Nat} (h : Rd w R s st c4 c5) (hg : w.grownBy w' row) (hne : some R ≠ row) : Rd w' R s st c4 c5 := by
  unfold Rd; rw [hg.block R h.lt hne]; exact h
theorem Rd.drewN (h : Rd w R s st c4 c5) (n : Nat) : Rd (w.drewN n) R s st c4 c5 := h
theorem Rd.drew (h : Rd w R s st c4 c5) : Rd w.drew R s st c4 c5 := h
theorem Rd.setPos (h : Rd w R s st c4 c5) (x : Nat) : Rd (w.setCell ⟨R, 1, none⟩ (.int .i64 (x : Int))) R s ⟨x, st.e, st.p⟩ c4 c5 := by
  unfold Rd; rw [heap_setCell_same w R 1 _ 56 _ h]; rfl
theorem Rd.setErr (h : Rd w R s st c4 c5) (e p : Nat) : Rd ((w.setCell ⟨R, 2, none⟩ (.int .i64 (e : Int))).setCell ⟨R, 3, none⟩ (.int .i64 (p : Int))) R s ⟨st.pos, e, p⟩ c4 c5 := by
  have h1 : (w.setCell ⟨R, 2, none⟩ (.int .i64 (e : Int))).heap[R]? = _ := heap_setCell_same w R 2 _ 56 _ h
  unfold Rd; rw [heap_setCell_same _ R 3 _ 56 _ h1]; rfl
theorem Rd.set4 (h : Rd w R s st c4 c5) (x : Value) : Rd (w.setCell ⟨R, 4, none⟩ x) R s st x c5 := by
  unfold Rd; rw [heap_setCell_same w R 4 _ 56 _ h]; rfl
theorem Rd.set5 (h : Rd w R s st c4 c5) (x : Value) : Rd (w.setCell ⟨R, 5, none⟩ x) R s st c4 x := by
  unfold Rd; rw [heap_setCell_same w R 5 _ 56 _ h]; rfl
end
theorem grown_set (w : World) (b i : Nat) (v : Value) : w.grownBy (w.setCell ⟨b, i, none⟩ v) (some b) :=
  ⟨rfl, rfl, rfl, by simp, fun k _ hne => Below.heap_setCell w ⟨b, i, none⟩ v k (by intro h; subst h; exact hne rfl)⟩
theorem grown_trans {w w1 w2 : World} {row : Option Nat} (h : w.grownBy w1 row) (g : w1.grownBy w2 row) : w.grownBy w2 row :=
  ⟨g.os.trans h.os, g.tape.trans h.tape, g.output.trans h.output, Nat.le_trans h.size g.size, fun k hk hne => (g.block k (Nat.lt_of_lt_of_le hk h.size) hne).trans (h.block k hk hne)⟩
theorem grown_refl (w : World) (row : Option Nat) : w.grownBy w row := ⟨rfl, rfl, rfl, Nat.le_refl _, fun _ _ _ => rfl⟩
theorem grown_drewN (w : World) (row : Option Nat) (n : Nat) : w.grownBy (w.drewN n) row := ⟨rfl, rfl, rfl, Nat.le_refl _, fun _ _ _ => rfl⟩
theorem grown_of_below {w w' : World} (h : Below w.heap.size w w') (row : Option Nat) : w.grownBy w' row := ⟨h.os, h.tape, h.output, h.size, fun k hk _ => h.block k hk⟩

set_option maxHeartbeats 400000 in
theorem Good_any (R : Nat) (s : ByteArray) (st : St) (c4 c5 : Value) (w : World) (h : Rd w R s st c4 c5) :
    Calls Try.prog 36 #[.pointer (some ⟨R, 0, none⟩)] w fun e w' => e = .returned (.bool (decide (st.e = 0))) ∧ w' = w := by
  obtain ⟨h0, h1, h2, h3, h4, h5⟩ := h.cells
  have hd : (((st.e : Int) == 0) : Bool) = decide (st.e = 0) := by rw [Bool.eq_iff_iff]; simp
  clear h
  go_enter Try.func36, Try.ntmps36
  go_wp2
  go_ret
  exact ⟨rfl, rfl⟩
set_option maxHeartbeats 400000 in
theorem At_any (R : Nat) (s : ByteArray) (st : St) (c4 c5 : Value) (w : World) (h : Rd w R s st c4 c5) :
    Calls Try.prog 26 #[.pointer (some ⟨R, 0, none⟩)] w fun e w' => e = .returned (.int .i64 (st.pos : Int)) ∧ w' = w := by
  obtain ⟨h0, h1, h2, h3, h4, h5⟩ := h.cells
  clear h
  go_enter Try.func26, Try.ntmps26
  go_wp2
  go_ret
  exact ⟨rfl, rfl⟩
set_option maxHeartbeats 400000 in
theorem Err_any (R : Nat) (s : ByteArray) (st : St) (c4 c5 : Value) (w : World) (h : Rd w R s st c4 c5) :
    Calls Try.prog 25 #[.pointer (some ⟨R, 0, none⟩)] w fun e w' => e = .returned (.tuple #[.int .i64 (st.e : Int), .int .i64 (st.p : Int)]) ∧ ∃ n, w' = w.drewN n := by
  obtain ⟨h0, h1, h2, h3, h4, h5⟩ := h.cells
  clear h
  go_enter Try.func25, Try.ntmps25
  go_wp2_with fail
  go_quiet (fail)
  go_wp2
  go_ret2
  exact ⟨rfl, _, rfl⟩
set_option maxHeartbeats 400000 in
theorem Fail_any (R : Nat) (s : ByteArray) (st : St) (c4 c5 : Value) (e p : Nat) (w : World) (h : Rd w R s st c4 c5) :
    Calls Try.prog 35 #[.pointer (some ⟨R, 0, none⟩), .int .i64 (e : Int), .int .i64 (p : Int)] w fun x w' => x = .returned (.tuple #[]) ∧ Rd w' R s (M.fail st e p) c4 c5 ∧ w.grownBy w' (some R) ∧ w'.heap.size = w.heap.size := by
  obtain ⟨h0, h1, h2, h3, h4, h5⟩ := h.cells
  have hf2 := h.frozen 2
  have hf3 := h.frozen 3
  by_cases he : st.e = 0
  · have hr := h.setErr e p
    rw [show M.fail st e p = ⟨st.pos, e, p⟩ by unfold M.fail; rw [if_pos he]]
    have hg := grown_trans (grown_set w R 2 (.int .i64 (e : Int))) (grown_set _ R 3 (.int .i64 (p : Int)))
    go_enter Try.func35, Try.ntmps35
    go_wp2_with fail
    refine (Good_any R s st c4 c5 w h).mono ?_
    rintro e1 w1 ⟨rfl, hw⟩
    subst w1
    rw [decide_eq_true he]
    clear he
    go_wp2
    go_end0
    exact ⟨rfl, hr, hg, by simp⟩
  · rw [show M.fail st e p = st by unfold M.fail; rw [if_neg he]]
    go_enter Try.func35, Try.ntmps35
    go_wp2_with fail
    refine (Good_any R s st c4 c5 w h).mono ?_
    rintro e1 w1 ⟨rfl, hw⟩
    subst w1
    rw [decide_eq_false he]
    clear he
    go_wp2
    go_end0
    exact ⟨rfl, h, grown_refl _ _, rfl⟩
end Go.Proofs.Ytlihhfijigoklaa
