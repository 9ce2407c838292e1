/-
  eachUnit of package pool with each of the two functions that are handed to it; Units, isText.
  The reader of package wire, as it lies in package pool's reader: one block of six cells.
-/
import Derived.Test.YtgihfcjddkpkaaaPoFirst
import Derived.Deep.QuietTactic
import Derived.BigQuiet
import Derived.Laws.RangeAny
import Derived.Laws.DeepStrings4
import Derived.Laws.Slices
import Derived.Laws.Strings3
import Derived.Laws.BytesArg
import Derived.Lib.Strings
import Derived.Lib.Slices
import Derived.ProofKit
import Derived.WalkMore
import Derived.Deep.RegionWith
import Derived.Deep.LoopGhost
namespace Go.Proofs.Ytgihfcjddkpkaaa.Po
set_option maxRecDepth 100000
open Go.RowKit
theorem hide {p : Prop} (h : p) : Hid p := h
theorem unhide {p : Prop} (h : Hid p) : p := h
theorem Try.info39 : (Try.prog.info? 39).map (fun i => (i.zero, i.size, i.bytes)) = some (some (.int .u16 0), 1, 2) := by kernel_rfl
def U16 (l : List Nat) : List Value := l.map fun (u : Nat) => Value.int .u16 (u : Int)
theorem U16_snoc (l : List Nat) (u : Nat) : U16 (l ++ [u]) = U16 l ++ [.int .u16 (u : Int)] := by simp [U16]
theorem own_form {w : World} {base size n : Nat} {e : TypeId} {v : Value} {xs : List Value} (h : w.ownsRow base e size v n xs) (hn : 0 < n) : ∃ g cap, v = .slice (some ⟨g, 0, none⟩) n cap := by
  rcases h.2 with ⟨_, h0⟩ | ⟨g, cap, cur, hv, _⟩
  · omega
  · exact ⟨g, cap, hv⟩
theorem own_below {w w' : World} {base size n : Nat} {e : TypeId} {v : Value} {xs : List Value} (h : w.ownsRow base e size v n xs) {B : Nat} (hB : w.heap.size ≤ B) (hb : Below B w w') : w'.ownsRow base e size v n xs := by
  refine ⟨h.1, ?_⟩
  rcases h.2 with h2 | ⟨g, cap, cur, hv, h3, h4, h5⟩
  · exact .inl h2
  · refine .inr ⟨g, cap, cur, hv, h3, ?_, h5⟩
    rw [hb.block g ?_]
    · exact h4
    · rcases Nat.lt_or_ge g w.heap.size with hg | hg
      · omega
      · rw [Array.getElem?_eq_none hg] at h4; cases h4

/-- What holds of the box B at each head of the loop. -/
def Box (B : Nat) (s : ByteArray) (w wr : World) (k : Nat) (L : List Nat) : Prop :=
  M.Ok L ∧ M.text L = s.data.toList.take k ∧ L.length ≤ k ∧ ∃ v, wr.cell? ⟨B, 0, none⟩ = some v ∧ wr.frozen? ⟨B, 0, none⟩ = false ∧ wr.ownsRow (B + 1) 39 1 v L.length (U16 L) ∧ Below B w wr
theorem Box.step {B : Nat} {s : ByteArray} {w wr w2 w3 : World} {k : Nat} {L : List Nat} {u n : Nat} (h : Box B s w wr k L) (hu : u < 65536) (hn : n = M.size u) (r : List UInt8) (hr : s.data.toList.drop k = M.enc u ++ r) (hk : k < s.size)
    (hb : Below wr.heap.size wr w2) (hBw : B < wr.heap.size) (h3 : Below B w2 w3) (v' : Value) (e1 : w3.cell? ⟨B, 0, none⟩ = some v') (e2 : w3.frozen? ⟨B, 0, none⟩ = false) (e3 : w3.ownsRow (B + 1) 39 1 v' (L ++ [u]).length (U16 (L ++ [u]))) :
    k + n ≤ s.size ∧ Box B s w w3 (k + n) (L ++ [u]) := by
  obtain ⟨a1, a2, a3, v, a4, a5, a6, a7⟩ := h
  have hl : (s.data.toList.drop k).length = s.size - k := by simp
  have hl2 : (M.enc u).length ≤ s.size - k := by rw [← hl, hr]; simp
  rw [M.enc_length, ← hn] at hl2
  refine ⟨by omega, fun x hx => ?_, ?_, ?_, v', e1, e2, e3, a7.trans ((hb.mono (by omega)).trans h3)⟩
  · rcases List.mem_append.1 hx with q | q
    · exact a1 x q
    · simp at q; omega
  · rw [M.text_snoc, a2, List.take_add, hr, List.take_left' (by rw [M.enc_length, hn])]
  · have := (M.size_pos u).1
    rw [List.length_append, List.length_singleton]; omega
theorem Box.stop {B : Nat} {s : ByteArray} {w wr : World} {k : Nat} {L : List Nat} (h : Box B s w wr k L) (hk : k < s.size) (hr : ∀ v, v < 65536 → ∀ r, s.data.toList.drop k ≠ M.enc v ++ r) : M.Units s.data.toList none := by
  obtain ⟨a1, a2, -, -⟩ := h
  have := M.stop_none (r := s.data.toList.drop k) a1 (by intro hh; have := congrArg List.length hh; simp at this; omega) hr
  rwa [a2, List.take_append_drop] at this
theorem drop_extract (s : ByteArray) (k : Nat) : (s.extract k s.size).data.toList = s.data.toList.drop k := by
  rw [ByteArray.data_extract, Array.toList_extract, List.extract_eq_take_drop, List.take_of_length_le]
  simp

/-- What eachUnit leaves: true and the units in the box, or false. -/
def Eached (B : Nat) (s : ByteArray) (w : World) (e : Ending) (w' : World) : Prop :=
  (∃ L v, e = .returned (.bool true) ∧ M.Ok L ∧ M.text L = s.data.toList ∧ L.length ≤ s.size ∧ w'.cell? ⟨B, 0, none⟩ = some v ∧ w'.ownsRow (B + 1) 39 1 v L.length (U16 L) ∧ Below B w w') ∨
  (e = .returned (.bool false) ∧ M.Units s.data.toList none ∧ Below B w w')
/-- What pool.Units leaves. -/
def Unitsed (s : ByteArray) (w : World) (e : Ending) (w' : World) : Prop :=
  (∃ L v, M.Ok L ∧ M.text L = s.data.toList ∧ L.length ≤ s.size ∧ e = .returned (.tuple #[v, .bool true]) ∧ w'.ownsRow (w.heap.size + 1) 39 1 v L.length (U16 L) ∧ Below w.heap.size w w') ∨
  (M.Units s.data.toList none ∧ e = .returned (.tuple #[.slice none 0 0, .bool false]) ∧ Below w.heap.size w w')
end Go.Proofs.Ytgihfcjddkpkaaa.Po
namespace Go.Proofs.Ytgihfcjddkpkaaa.Po
set_option maxRecDepth 100000
open Go.RowKit
/-- A reader: the place of the next byte, the first error, its place. -/
structure St where
  pos : Nat
  e : Nat
  p : Nat
namespace M
def fail (st : St) (e p : Nat) : St := if st.e = 0 then ⟨st.pos, e, p⟩ else st
def take (s : List UInt8) (n : Nat) (st : St) : List UInt8 × St :=
  if st.e = 0 then (if s.length - st.pos < n then ([], ⟨st.pos, 1, s.length⟩) else ((s.drop st.pos).take n, ⟨st.pos + n, 0, st.p⟩)) else ([], st)
def num (l : List UInt8) : Nat := l.foldl (fun x b => x * 256 + b.toNat) 0
end M
/-- The block of a reader. -/
def Rd (w : World) (R : Nat) (s : ByteArray) (st : St) (c4 c5 : Value) : Prop :=
  w.heap[R]? = some (.cells #[.string s, .int .i64 (st.pos : Int), .int .i64 (st.e : Int), .int .i64 (st.p : Int), c4, c5] 178 (0, 0))
section
variable {w w' : World} {R : Nat} {s : ByteArray} {st : St} {c4 c5 : Value}
theorem Rd.lt (h : Rd w R s st c4 c5) : R < w.heap.size := (Array.getElem?_eq_some_iff.1 h).1
theorem Rd.cell (h : Rd w R s st c4 c5) (i : Nat) : w.cell? ⟨R, i, none⟩ = #[.string s, .int .i64 (st.pos : Int), .int .i64 (st.e : Int), .int .i64 (st.p : Int), c4, c5][i]? := cell_of_row w R i _ 178 (0, 0) h
theorem Rd.frozen (h : Rd w R s st c4 c5) (i : Nat) : w.frozen? ⟨R, i, none⟩ = false := by
  unfold World.frozen?; unfold Rd at h; simp only [h]; simp
theorem Rd.cells (h : Rd w R s st c4 c5) : w.cell? ⟨R, 0, none⟩ = some (.string s) ∧ w.cell? ⟨R, 1, none⟩ = some (.int .i64 (st.pos : Int)) ∧ w.cell? ⟨R, 2, none⟩ = some (.int .i64 (st.e : Int)) ∧
    w.cell? ⟨R, 3, none⟩ = some (.int .i64 (st.p : Int)) ∧ w.cell? ⟨R, 4, none⟩ = some c4 ∧ w.cell? ⟨R, 5, none⟩ = some c5 :=
  ⟨h.cell 0, h.cell 1, h.cell 2, h.cell 3, h.cell 4, h.cell 5⟩
theorem Rd.kept {row : Option Nat} (h : Rd w R s st c4 c5) (hg : w.grownBy w' row) (hne : some R ≠ row) : Rd w' R s st c4 c5 := by
  unfold Rd; rw [hg.block R h.lt hne]; exact h
theorem Rd.drewN (h : Rd w R s st c4 c5) (n : Nat) : Rd (w.drewN n) R s st c4 c5 := h
theorem Rd.drew (h : Rd w R s st c4 c5) : Rd w.drew R s st c4 c5 := h
theorem Rd.setPos (h : Rd w R s st c4 c5) (x : Nat) : Rd (w.setCell ⟨R, 1, none⟩ (.int .i64 (x : Int))) R s ⟨x, st.e, st.p⟩ c4 c5 := by
  unfold Rd; rw [heap_setCell_same w R 1 _ 178 _ h]; rfl
theorem Rd.setErr (h : Rd w R s st c4 c5) (e p : Nat) : Rd ((w.setCell ⟨R, 2, none⟩ (.int .i64 (e : Int))).setCell ⟨R, 3, none⟩ (.int .i64 (p : Int))) R s ⟨st.pos, e, p⟩ c4 c5 := by
  have h1 : (w.setCell ⟨R, 2, none⟩ (.int .i64 (e : Int))).heap[R]? = _ := heap_setCell_same w R 2 _ 178 _ h
  unfold Rd; rw [heap_setCell_same _ R 3 _ 178 _ h1]; rfl
theorem Rd.set4 (h : Rd w R s st c4 c5) (x : Value) : Rd (w.setCell ⟨R, 4, none⟩ x) R s st x c5 := by
  unfold Rd; rw [heap_setCell_same w R 4 _ 178 _ h]; rfl
theorem Rd.set5 (h : Rd w R s st c4 c5) (x : Value) : Rd (w.setCell ⟨R, 5, none⟩ x) R s st c4 x := by
  unfold Rd; rw [heap_setCell_same w R 5 _ 178 _ h]; rfl
end
theorem grown_set (w : World) (b i : Nat) (v : Value) : w.grownBy (w.setCell ⟨b, i, none⟩ v) (some b) :=
  ⟨rfl, rfl, rfl, by simp, fun k _ hne => Below.heap_setCell w ⟨b, i, none⟩ v k (by intro h; subst h; exact hne rfl)⟩
theorem grown_trans {w w1 w2 : World} {row : Option Nat} (h : w.grownBy w1 row) (g : w1.grownBy w2 row) : w.grownBy w2 row :=
  ⟨g.os.trans h.os, g.tape.trans h.tape, g.output.trans h.output, Nat.le_trans h.size g.size, fun k hk hne => (g.block k (Nat.lt_of_lt_of_le hk h.size) hne).trans (h.block k hk hne)⟩
theorem grown_refl (w : World) (row : Option Nat) : w.grownBy w row := ⟨rfl, rfl, rfl, Nat.le_refl _, fun _ _ _ => rfl⟩
theorem grown_drewN (w : World) (row : Option Nat) (n : Nat) : w.grownBy (w.drewN n) row := ⟨rfl, rfl, rfl, Nat.le_refl _, fun _ _ _ => rfl⟩
theorem grown_of_below {w w' : World} (h : Below w.heap.size w w') (row : Option Nat) : w.grownBy w' row := ⟨h.os, h.tape, h.output, h.size, fun k hk _ => h.block k hk⟩

set_option maxHeartbeats 400000 in
theorem Good_any (R : Nat) (s : ByteArray) (st : St) (c4 c5 : Value) (w : World) (h : Rd w R s st c4 c5) :
    Calls Try.prog 59 #[.pointer (some ⟨R, 0, none⟩)] w fun e w' => e = .returned (.bool (decide (st.e = 0))) ∧ w' = w := by
  obtain ⟨h0, h1, h2, h3, h4, h5⟩ := h.cells
  have hd : (((st.e : Int) == 0) : Bool) = decide (st.e = 0) := by rw [Bool.eq_iff_iff]; simp
  clear h
  go_enter Try.func59, Try.ntmps59
  go_wp2
  go_ret
  exact ⟨rfl, rfl⟩
set_option maxHeartbeats 400000 in
theorem At_any (R : Nat) (s : ByteArray) (st : St) (c4 c5 : Value) (w : World) (h : Rd w R s st c4 c5) :
    Calls Try.prog 88 #[.pointer (some ⟨R, 0, none⟩)] w fun e w' => e = .returned (.int .i64 (st.pos : Int)) ∧ w' = w := by
  obtain ⟨h0, h1, h2, h3, h4, h5⟩ := h.cells
  clear h
  go_enter Try.func88, Try.ntmps88
  go_wp2
  go_ret
  exact ⟨rfl, rfl⟩
set_option maxHeartbeats 400000 in
theorem Err_any (R : Nat) (s : ByteArray) (st : St) (c4 c5 : Value) (w : World) (h : Rd w R s st c4 c5) :
    Calls Try.prog 27 #[.pointer (some ⟨R, 0, none⟩)] w fun e w' => e = .returned (.tuple #[.int .i64 (st.e : Int), .int .i64 (st.p : Int)]) ∧ ∃ n, w' = w.drewN n := by
  obtain ⟨h0, h1, h2, h3, h4, h5⟩ := h.cells
  clear h
  go_enter Try.func27, Try.ntmps27
  go_wp2_with fail
  go_quiet (fail)
  go_wp2
  go_ret2
  exact ⟨rfl, _, rfl⟩
set_option maxHeartbeats 400000 in
theorem Fail_any (R : Nat) (s : ByteArray) (st : St) (c4 c5 : Value) (e p : Nat) (w : World) (h : Rd w R s st c4 c5) :
    Calls Try.prog 68 #[.pointer (some ⟨R, 0, none⟩), .int .i64 (e : Int), .int .i64 (p : Int)] w fun x w' => x = .returned (.tuple #[]) ∧ Rd w' R s (M.fail st e p) c4 c5 ∧ w.grownBy w' (some R) ∧ w'.heap.size = w.heap.size := by
  obtain ⟨h0, h1, h2, h3, h4, h5⟩ := h.cells
  have hf2 := h.frozen 2
  have hf3 := h.frozen 3
  by_cases he : st.e = 0
  · have hr := h.setErr e p
    rw [show M.fail st e p = ⟨st.pos, e, p⟩ by unfold M.fail; rw [if_pos he]]
    have hg := grown_trans (grown_set w R 2 (.int .i64 (e : Int))) (grown_set _ R 3 (.int .i64 (p : Int)))
    go_enter Try.func68, Try.ntmps68
    go_wp2_with fail
    refine (Good_any R s st c4 c5 w h).mono ?_
    rintro e1 w1 ⟨rfl, hw⟩
    subst w1
    rw [decide_eq_true he]
    clear he
    go_wp2
    go_end0
    exact ⟨rfl, hr, hg, by simp⟩
  · rw [show M.fail st e p = st by unfold M.fail; rw [if_neg he]]
    go_enter Try.func68, Try.ntmps68
    go_wp2_with fail
    refine (Good_any R s st c4 c5 w h).mono ?_
    rintro e1 w1 ⟨rfl, hw⟩
    subst w1
    rw [decide_eq_false he]
    clear he
    go_wp2
    go_end0
    exact ⟨rfl, h, grown_refl _ _, rfl⟩
end Go.Proofs.Ytgihfcjddkpkaaa.Po
