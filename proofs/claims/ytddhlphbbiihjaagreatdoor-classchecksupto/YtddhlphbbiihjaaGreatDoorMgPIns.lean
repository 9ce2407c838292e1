/-
  What stands behind an instruction's number: within, narrowKind, kindOf, layoutOf.
  The block of an instruction; the worlds that reading one leaves.
-/
import Derived.Test.YtddhlphbbiihjaaGreatDoorMgPOper
import Derived.Maps.AppendAt
import Derived.Deep.Cut
namespace Go.Proofs.YtddhlphbbiihjaaGreatDoor.Dc
open Go.RowKit
set_option maxHeartbeats 400000 in
theorem within_any (op lo hi : Int) (w : World) :
    Calls Tryz.prog 110 #[.int .u8 op, .int .u8 lo, .int .u8 hi] w fun e w' => e = .returned (.bool (decide (lo ≤ op ∧ op ≤ hi))) ∧ w' = w := by
  by_cases h1 : lo ≤ op
  · have hd : decide (lo ≤ op ∧ op ≤ hi) = decide (op ≤ hi) := by rw [Bool.eq_iff_iff]; simp [h1]
    rw [hd]; clear hd
    go_enter Tryz.func110, Tryz.ntmps110
    go_wp2
    all_goals go_ret
    all_goals exact ⟨rfl, rfl⟩
  · have hd : decide (lo ≤ op ∧ op ≤ hi) = false := by rw [decide_eq_false_iff_not]; omega
    rw [hd]
    have h1' : op < lo := by omega
    clear h1 hd
    go_enter Tryz.func110, Tryz.ntmps110
    go_wp2
    all_goals go_ret
    all_goals exact ⟨rfl, rfl⟩
set_option linter.unusedSimpArgs false in
set_option maxHeartbeats 4000000 in
theorem narrowKind_any (op : Nat) (w : World) (ho : op < 256) :
    Calls Tryz.prog 131 #[.int .u8 (op : Int)] w fun e w' => e = .returned (.int .i64 (M.kind op : Nat)) ∧ w' = w := by
  obtain ⟨k, hk⟩ : ∃ k, k = M.kind op := ⟨_, rfl⟩
  have Hk := hide hk
  rw [← hk]
  clear hk
  go_enter Tryz.func131, Tryz.ntmps131
  go_wp2_with (go_at_call 110; refine (within_any _ _ _ _).mono ?_; rintro e w' ⟨rfl, hww⟩; subst w')
  all_goals
    simp only [beq_iff_eq, beq_eq_false_iff_ne, ne_eq, decide_eq_true_eq, decide_eq_false_iff_not] at *
    go_ret
    refine ⟨?_, rfl⟩
    rw [unhide Hk]
    unfold M.kind
    repeat first | rw [if_neg (by omega)] | rw [if_pos (by omega)]
    rfl
set_option maxHeartbeats 400000 in
theorem kindOf_any (op : Nat) (b : Bool) (w : World) (ho : op < 256) :
    Calls Tryz.prog 103 #[.int .u8 (op : Int), .bool b] w fun e w' => e = .returned (.int .i64 (M.kindW op b : Nat)) ∧ w' = w := by
  have Hc := hide (fun w => narrowKind_any op w ho)
  unfold M.kindW
  obtain ⟨k, hk⟩ : ∃ k, k = M.kind op := ⟨_, rfl⟩
  rw [← hk] at Hc ⊢
  clear hk
  cases b
  · go_enter Tryz.func103, Tryz.ntmps103
    go_wp2_with fail
    refine (unhide Hc _).mono ?_
    rintro e w' ⟨rfl, hww⟩
    subst w'
    go_wp2
    go_ret
    exact ⟨rfl, rfl⟩
  · by_cases h6 : k = 6
    · subst h6
      go_enter Tryz.func103, Tryz.ntmps103
      go_wp2_with fail
      refine (unhide Hc _).mono ?_
      rintro e w' ⟨rfl, hww⟩
      subst w'
      go_wp2
      go_ret
      exact ⟨rfl, rfl⟩
    · by_cases h8 : k = 8
      · subst h8
        go_enter Tryz.func103, Tryz.ntmps103
        go_wp2_with fail
        refine (unhide Hc _).mono ?_
        rintro e w' ⟨rfl, hww⟩
        subst w'
        go_wp2
        go_ret
        exact ⟨rfl, rfl⟩
      · have d6 : ((k : Int) == 6) = false := by rw [beq_eq_false_iff_ne]; omega
        have d8 : ((k : Int) == 8) = false := by rw [beq_eq_false_iff_ne]; omega
        simp only [if_true, if_neg h6, if_neg h8]
        go_enter Tryz.func103, Tryz.ntmps103
        go_wp2_with fail
        refine (unhide Hc _).mono ?_
        rintro e w' ⟨rfl, hww⟩
        subst w'
        go_wp2
        go_ret
        exact ⟨rfl, rfl⟩
/-- The package-level variable word. -/
def Wd (w : World) : Prop := w.cell? ⟨0, 0, none⟩ = some (.int .i64 4) ∧ w.cell? ⟨0, 1, none⟩ = some (.int .i64 (-2147483648)) ∧ w.cell? ⟨0, 2, none⟩ = some (.int .i64 2147483647)
def Lay.val (L : Lay) : Value := .agg #[.int .i64 (L.a.size : Int), .int .i64 L.a.low, .int .i64 L.a.high, .int .i64 (L.b.size : Int), .int .i64 L.b.low, .int .i64 L.b.high, .int .i64 (L.z.size : Int), .int .i64 L.z.low, .int .i64 L.z.high, .int .i64 (L.t.size : Int), .int .i64 L.t.low, .int .i64 L.t.high]
theorem cell_lt {w : World} {a : Addr} {v : Value} (h : w.cell? a = some v) : a.block < w.heap.size := by
  rcases Nat.lt_or_ge a.block w.heap.size with g | g
  · exact g
  · unfold World.cell? at h; rw [Array.getElem?_eq_none g] at h; simp at h
theorem Wd.lt {w : World} (h : Wd w) : 0 < w.heap.size := cell_lt h.1
theorem Wd.kept {w w' : World} {row : Option Nat} (h : Wd w) (hg : w.grownBy w' row) (hr : some 0 ≠ row) : Wd w' := by
  have hb := hg.block 0 h.lt hr
  obtain ⟨h0, h1, h2⟩ := h
  unfold World.cell? at h0 h1 h2
  unfold Wd World.cell?
  rw [hb]
  exact ⟨h0, h1, h2⟩
theorem Wd.below {w w' : World} (h : Wd w) (hb : Below w.heap.size w w') : Wd w' := h.kept (grown_of_below hb none) (by simp)
theorem Wd.alloc {w : World} (h : Wd w) (o : Obj) : Wd (w.alloc o) := h.kept (World.grownBy_alloc w o none) (by simp)
set_option maxHeartbeats 1000000 in
theorem layoutOf_any (k : Nat) (w : World) (hw : Wd w) :
    Calls Tryz.prog 108 #[.int .i64 (k : Int)] w fun e w' => e = .returned (M.layOf k).val ∧ Below w.heap.size w w' := by
  have hz := hw.lt
  obtain ⟨w0, w1, w2⟩ := hw
  rcases (show k = 2 ∨ k = 3 ∨ k = 4 ∨ k = 5 ∨ k = 6 ∨ k = 7 ∨ k = 8 ∨ k = 9 ∨ k = 10 ∨ k = 11 ∨ k = 12 ∨ k = 13 ∨ k = 14 ∨ (k < 2 ∨ 14 < k) by omega) with rfl | rfl | rfl | rfl | rfl | rfl | rfl | rfl | rfl | rfl | rfl | rfl | rfl | h
  iterate 13
    · go_enter Tryz.func108, Tryz.ntmps108
      go_wp2
      refine bodyPost_ret (results_cell_row Tryz.results108 _ _ w.heap.size 158 _ (0, 0) _ rfl (heap_alloc_new _ _) Tryz.underlying158 rfl (by kernel_rfl)) rfl ?_
      exact ⟨rfl, (Below.refl _ _).alloc (Nat.le_refl _) _⟩
  have f2 : ((k : Int) == 2) = false := by rw [beq_eq_false_iff_ne]; omega
  have f3 : ((k : Int) == 3) = false := by rw [beq_eq_false_iff_ne]; omega
  have f4 : ((k : Int) == 4) = false := by rw [beq_eq_false_iff_ne]; omega
  have f5 : ((k : Int) == 5) = false := by rw [beq_eq_false_iff_ne]; omega
  have f6 : ((k : Int) == 6) = false := by rw [beq_eq_false_iff_ne]; omega
  have f7 : ((k : Int) == 7) = false := by rw [beq_eq_false_iff_ne]; omega
  have f8 : ((k : Int) == 8) = false := by rw [beq_eq_false_iff_ne]; omega
  have f9 : ((k : Int) == 9) = false := by rw [beq_eq_false_iff_ne]; omega
  have f10 : ((k : Int) == 10) = false := by rw [beq_eq_false_iff_ne]; omega
  have f11 : ((k : Int) == 11) = false := by rw [beq_eq_false_iff_ne]; omega
  have f12 : ((k : Int) == 12) = false := by rw [beq_eq_false_iff_ne]; omega
  have f13 : ((k : Int) == 13) = false := by rw [beq_eq_false_iff_ne]; omega
  have f14 : ((k : Int) == 14) = false := by rw [beq_eq_false_iff_ne]; omega
  have hl : M.layOf k = ⟨M.f0, M.f0, M.f0, M.f0⟩ := by
    unfold M.layOf; repeat rw [if_neg (by omega)]
  rw [hl]
  clear h hl
  go_enter Tryz.func108, Tryz.ntmps108
  go_wp2
  refine bodyPost_ret (results_cell_row Tryz.results108 _ _ w.heap.size 158 _ (0, 0) _ rfl (heap_alloc_new _ _) Tryz.underlying158 rfl (by kernel_rfl)) rfl ?_
  exact ⟨rfl, (Below.refl _ _).alloc (Nat.le_refl _) _⟩
end Go.Proofs.YtddhlphbbiihjaaGreatDoor.Dc
namespace Go.Proofs.YtddhlphbbiihjaaGreatDoor.Dc
open Go.RowKit
/-- An instruction's cells. -/
structure C where
  at_ : Nat
  op : Nat
  wide : Bool
  a : Int
  b : Int
  low : Int
  kv : Value
  tv : Value
def C.cells (c : C) : Array Value := #[.int .i64 (c.at_ : Int), .int .u8 (c.op : Int), .bool c.wide, .int .i64 c.a, .int .i64 c.b, .int .i64 c.low, c.kv, c.tv]
def Ib (w : World) (g : Nat) (c : C) : Prop := w.heap[g]? = some (.cells c.cells 112 (0, 0))
/-- Between two worlds nothing old has turned but two blocks. -/
structure Kp (R g : Nat) (w w' : World) : Prop where
  os : w'.os = w.os
  tape : w'.tape = w.tape
  output : w'.output = w.output
  size : w.heap.size ≤ w'.heap.size
  block : ∀ k, k < w.heap.size → k ≠ R → k ≠ g → w'.heap[k]? = w.heap[k]?
section
variable {w w' w1 w2 : World} {R g : Nat} {s : ByteArray} {st : St} {c : C}
theorem Kp.refl (R g : Nat) (w : World) : Kp R g w w := ⟨rfl, rfl, rfl, Nat.le_refl _, fun _ _ _ _ => rfl⟩
theorem Kp.trans (h : Kp R g w w1) (k : Kp R g w1 w2) : Kp R g w w2 :=
  ⟨k.os.trans h.os, k.tape.trans h.tape, k.output.trans h.output, Nat.le_trans h.size k.size, fun i hi a b => (k.block i (Nat.lt_of_lt_of_le hi h.size) a b).trans (h.block i hi a b)⟩
theorem Kp.rd (h : w.grownBy w' (some R)) : Kp R g w w' := ⟨h.os, h.tape, h.output, h.size, fun k hk a _ => h.block k hk (by simpa using a)⟩
theorem Kp.ib (h : w.grownBy w' (some g)) : Kp R g w w' := ⟨h.os, h.tape, h.output, h.size, fun k hk _ a => h.block k hk (by simpa using a)⟩
theorem Kp.drew (h : Kp R g w w') : Kp R g w w'.drew := ⟨h.os, h.tape, h.output, h.size, h.block⟩
theorem Kp.drewN (h : Kp R g w w') (n : Nat) : Kp R g w (w'.drewN n) := ⟨h.os, h.tape, h.output, h.size, h.block⟩
theorem Ib.lt (h : Ib w g c) : g < w.heap.size := (Array.getElem?_eq_some_iff.1 h).1
theorem Ib.cell (h : Ib w g c) (i : Nat) : w.cell? ⟨g, i, none⟩ = c.cells[i]? := cell_of_row w g i _ 112 (0, 0) h
theorem Ib.frozen (h : Ib w g c) (i : Nat) : w.frozen? ⟨g, i, none⟩ = false := by
  unfold World.frozen?; unfold Ib at h; simp only [h]; simp
theorem Ib.kept {row : Option Nat} (h : Ib w g c) (hg : w.grownBy w' row) (hne : some g ≠ row) : Ib w' g c := by
  unfold Ib; rw [hg.block g h.lt hne]; exact h
theorem Ib.setOp (h : Ib w g c) (x : Nat) : Ib (w.setCell ⟨g, 1, none⟩ (.int .u8 (x : Int))) g { c with op := x } := by
  unfold Ib; rw [heap_setCell_same w g 1 _ 112 _ h]; rfl
theorem Ib.setWide (h : Ib w g c) (x : Bool) : Ib (w.setCell ⟨g, 2, none⟩ (.bool x)) g { c with wide := x } := by
  unfold Ib; rw [heap_setCell_same w g 2 _ 112 _ h]; rfl
theorem Ib.setA (h : Ib w g c) (x : Int) : Ib (w.setCell ⟨g, 3, none⟩ (.int .i64 x)) g { c with a := x } := by
  unfold Ib; rw [heap_setCell_same w g 3 _ 112 _ h]; rfl
theorem Ib.setB (h : Ib w g c) (x : Int) : Ib (w.setCell ⟨g, 4, none⟩ (.int .i64 x)) g { c with b := x } := by
  unfold Ib; rw [heap_setCell_same w g 4 _ 112 _ h]; rfl
theorem Ib.setLow (h : Ib w g c) (x : Int) : Ib (w.setCell ⟨g, 5, none⟩ (.int .i64 x)) g { c with low := x } := by
  unfold Ib; rw [heap_setCell_same w g 5 _ 112 _ h]; rfl
theorem Ib.setK (h : Ib w g c) (x : Value) : Ib (w.setCell ⟨g, 6, none⟩ x) g { c with kv := x } := by
  unfold Ib; rw [heap_setCell_same w g 6 _ 112 _ h]; rfl
theorem Ib.setT (h : Ib w g c) (x : Value) : Ib (w.setCell ⟨g, 7, none⟩ x) g { c with tv := x } := by
  unfold Ib; rw [heap_setCell_same w g 7 _ 112 _ h]; rfl
end
/-- The reader's block and the instruction's, from a world on. -/
structure Mid (w0 w : World) (R g : Nat) (s : ByteArray) (st : St) (c : C) : Prop where
  rd : Rd w R s st
  ib : Ib w g c
  ne : R ≠ g
  wd : Wd w
  r0 : R ≠ 0
  g0 : g ≠ 0
  kp : Kp R g w0 w
section
variable {w0 w w' : World} {R g : Nat} {s : ByteArray} {st st' : St} {c : C}
theorem Mid.take (h : Mid w0 w R g s st c) (hr : Rd w' R s st') (hg : w.grownBy w' (some R)) : Mid w0 w' R g s st' c :=
  ⟨hr, h.ib.kept hg (by simpa using fun e => h.ne e.symm), h.ne, h.wd.kept hg (by simpa using fun e => h.r0 e.symm), h.r0, h.g0, h.kp.trans (Kp.rd hg)⟩
theorem Mid.grow {row : Option Nat} (h : Mid w0 w R g s st c) (hg : w.grownBy w' row) (h1 : some R ≠ row) (h2 : some g ≠ row) (h3 : some 0 ≠ row) (h4 : ∀ k, row = some k → w0.heap.size ≤ k) : Mid w0 w' R g s st c :=
  ⟨h.rd.kept hg h1, h.ib.kept hg h2, h.ne, h.wd.kept hg h3, h.r0, h.g0, hg.os.trans h.kp.os, hg.tape.trans h.kp.tape, hg.output.trans h.kp.output, Nat.le_trans h.kp.size hg.size,
    fun k hk a b => (hg.block k (Nat.lt_of_lt_of_le hk h.kp.size) (fun e => by have := h4 k e.symm; omega)).trans (h.kp.block k hk a b)⟩
theorem Mid.alloc (h : Mid w0 w R g s st c) (o : Obj) : Mid w0 (w.alloc o) R g s st c := h.grow (World.grownBy_alloc w o none) (by simp) (by simp) (by simp) (fun _ e => by cases e)
theorem Mid.below (h : Mid w0 w R g s st c) (hb : Below w.heap.size w w') : Mid w0 w' R g s st c := h.grow (grown_of_below hb none) (by simp) (by simp) (by simp) (fun _ e => by cases e)
theorem Mid.drew (h : Mid w0 w R g s st c) : Mid w0 w.drew R g s st c := ⟨h.rd, h.ib, h.ne, h.wd, h.r0, h.g0, h.kp.drew⟩
theorem Mid.drewN (h : Mid w0 w R g s st c) (n : Nat) : Mid w0 (w.drewN n) R g s st c := ⟨h.rd, h.ib, h.ne, h.wd, h.r0, h.g0, h.kp.drewN n⟩
theorem Mid.set {c' : C} (h : Mid w0 w R g s st c) (i : Nat) (x : Value) (hi : Ib (w.setCell ⟨g, i, none⟩ x) g c') : Mid w0 (w.setCell ⟨g, i, none⟩ x) R g s st c' :=
  ⟨h.rd.kept (grown_set w g i x) (by simpa using h.ne), hi, h.ne, h.wd.kept (grown_set w g i x) (by simpa using fun e => h.g0 e.symm), h.r0, h.g0, h.kp.trans (Kp.ib (grown_set w g i x))⟩
end
/-- The lists of an instruction: of their own, apart from each other. -/
structure Own2 (w : World) (B : Nat) (kv tv : Value) (ks ts : List Int) : Prop where
  k : w.ownsRow B 3 1 kv ks.length (ks.map (Value.int .i64))
  t : w.ownsRow B 3 1 tv ts.length (ts.map (Value.int .i64))
  apart : ∀ b, kv.ownBlock = some b → tv.ownBlock ≠ some b
theorem row_in {w : World} {B : Nat} {v : Value} {n : Nat} {xs : List Value} (h : w.ownsRow B 3 1 v n xs) {b : Nat} (hb : v.ownBlock = some b) : B ≤ b ∧ b < w.heap.size := by
  rcases h.2 with ⟨rfl, _⟩ | ⟨g, cap, cur, rfl, h1, h2, _⟩
  · cases hb
  · cases hb; exact ⟨h1, (Array.getElem?_eq_some_iff.1 h2).1⟩
theorem row_kept {w w' : World} {B : Nat} {v : Value} {n : Nat} {xs : List Value} {row : Option Nat} (h : w.ownsRow B 3 1 v n xs) (hg : w.grownBy w' row) (hr : ∀ b, row = some b → v.ownBlock ≠ some b) : w'.ownsRow B 3 1 v n xs := by
  refine ⟨h.1, ?_⟩
  rcases h.2 with h0 | ⟨g, cap, cur, rfl, h1, h2, h3⟩
  · exact .inl h0
  · refine .inr ⟨g, cap, cur, rfl, h1, ?_, h3⟩
    rw [hg.block g (Array.getElem?_eq_some_iff.1 h2).1 (fun e => hr g e.symm rfl)]; exact h2
theorem Own2.kept {w w' : World} {B : Nat} {kv tv : Value} {ks ts : List Int} {row : Option Nat} (h : Own2 w B kv tv ks ts) (hg : w.grownBy w' row) (hr : ∀ b, row = some b → b < B) : Own2 w' B kv tv ks ts :=
  ⟨row_kept h.k hg (fun b e e2 => by have := hr b e; have := (row_in h.k e2).1; omega), row_kept h.t hg (fun b e e2 => by have := hr b e; have := (row_in h.t e2).1; omega), h.apart⟩
theorem Own2.nil (w : World) (B : Nat) : Own2 w B (.slice none 0 0) (.slice none 0 0) [] [] := ⟨World.ownsRow_nil _ _ _ _, World.ownsRow_nil _ _ _ _, fun _ e => by cases e⟩
theorem Own2.lit {w w' : World} {B : Nat} (x : Int) (hB : B ≤ w.heap.size) (hw : w' = w.alloc (.cells #[.int .i64 x] 3)) : Own2 w' B (.slice none 0 0) (.slice (some ⟨w.heap.size, 0, none⟩) 1 1) [] [x] :=
  ⟨World.ownsRow_nil _ _ _ _, ⟨rfl, .inr ⟨w.heap.size, 1, _, rfl, hB, by rw [hw]; exact heap_alloc_new w _, Nat.le_refl _, by unfold maxLen; omega, rfl, rfl⟩⟩, fun _ e => by cases e⟩
/-- What stays of the layout's block. -/
def Lb (w : World) (b : Nat) (L : Lay) : Prop := w.heap[b]? = some (.cells #[.int .i64 (L.a.size : Int), .int .i64 L.a.low, .int .i64 L.a.high, .int .i64 (L.b.size : Int), .int .i64 L.b.low, .int .i64 L.b.high, .int .i64 (L.z.size : Int), .int .i64 L.z.low, .int .i64 L.z.high, .int .i64 (L.t.size : Int), .int .i64 L.t.low, .int .i64 L.t.high] 158 (0, 0))
theorem Lb.kept {w w' : World} {b : Nat} {L : Lay} {row : Option Nat} (h : Lb w b L) (hg : w.grownBy w' row) (hr : some b ≠ row) : Lb w' b L := by
  unfold Lb; rw [hg.block b (Array.getElem?_eq_some_iff.1 h).1 hr]; exact h
theorem Lb.cell {w : World} {b : Nat} {L : Lay} (h : Lb w b L) (i : Nat) : w.cell? ⟨b, i, none⟩ = #[.int .i64 (L.a.size : Int), .int .i64 L.a.low, .int .i64 L.a.high, .int .i64 (L.b.size : Int), .int .i64 L.b.low, .int .i64 L.b.high, .int .i64 (L.z.size : Int), .int .i64 L.z.low, .int .i64 L.z.high, .int .i64 (L.t.size : Int), .int .i64 L.t.low, .int .i64 L.t.high][i]? := cell_of_row w b i _ 158 (0, 0) h
end Go.Proofs.YtddhlphbbiihjaaGreatDoor.Dc
