/-
  What holds in the middle of constant(), and between two constants; skipOne.
  Reading a pool, as a relation: one constant, then the next, to the end or the first error.
-/
import Derived.Test.YtgihfcjddkpkaaaMgPoConst
namespace Go.Proofs.Ytgihfcjddkpkaaa.Po
set_option maxRecDepth 100000
open Go.RowKit
/-- The block of a constant that is being made. -/
def Kb (w : World) (g : Nat) (c : K) : Prop := w.heap[g]? = some (.cells #[.int .u8 (c.tag : Int), .string ⟨c.text.toArray⟩, .int .u64 (c.bits : Int), .int .u16 (c.a : Int), .int .u16 (c.b : Int)] 78 (0, 0))
section
variable {w w' : World} {g : Nat} {c : K}
theorem Kb.lt (h : Kb w g c) : g < w.heap.size := (Array.getElem?_eq_some_iff.1 h).1
theorem Kb.cell (h : Kb w g c) (i : Nat) : w.cell? ⟨g, i, none⟩ = #[.int .u8 (c.tag : Int), .string ⟨c.text.toArray⟩, .int .u64 (c.bits : Int), .int .u16 (c.a : Int), .int .u16 (c.b : Int)][i]? := cell_of_row w g i _ 78 (0, 0) h
theorem Kb.frozen (h : Kb w g c) (i : Nat) : w.frozen? ⟨g, i, none⟩ = false := by
  unfold World.frozen?; unfold Kb at h; simp only [h]; simp
theorem Kb.kept {row : Option Nat} (h : Kb w g c) (hg : w.grownBy w' row) (hne : some g ≠ row) : Kb w' g c := by
  unfold Kb; rw [hg.block g h.lt hne]; exact h
theorem Kb.text (h : Kb w g c) (t : List UInt8) : Kb (w.setCell ⟨g, 1, none⟩ (.string ⟨t.toArray⟩)) g { c with text := t } := by
  unfold Kb; rw [heap_setCell_same w g 1 _ 78 _ h]; rfl
theorem Kb.bits (h : Kb w g c) (x : Nat) : Kb (w.setCell ⟨g, 2, none⟩ (.int .u64 (x : Int))) g { c with bits := x } := by
  unfold Kb; rw [heap_setCell_same w g 2 _ 78 _ h]; rfl
theorem Kb.a (h : Kb w g c) (x : Nat) : Kb (w.setCell ⟨g, 3, none⟩ (.int .u16 (x : Int))) g { c with a := x } := by
  unfold Kb; rw [heap_setCell_same w g 3 _ 78 _ h]; rfl
theorem Kb.b (h : Kb w g c) (x : Nat) : Kb (w.setCell ⟨g, 4, none⟩ (.int .u16 (x : Int))) g { c with b := x } := by
  unfold Kb; rw [heap_setCell_same w g 4 _ 78 _ h]; rfl
theorem Kb.new (w : World) (t : Nat) : Kb (w.alloc (.cells #[.int .u8 (t : Int), .string ⟨#[]⟩, .int .u64 0, .int .u16 0, .int .u16 0] 78)) w.heap.size ⟨t, [], 0, 0, 0⟩ := by
  unfold Kb; exact heap_alloc_new w _
end
/-- All that holds in the middle of constant(): the reader in R, the constant in g, the list, and what is old. -/
structure Mid (w0 W : World) (R g : Nat) (s : ByteArray) (st : St) (n : Nat) (v : Value) (l : List K) (c : K) : Prop where
  rd : Rd W R s st (.int .i64 (n : Int)) v
  kb : Kb W g c
  own : Own W R v l
  apart : ∀ k, v.ownBlock = some k → k < g
  lt : R < g
  old : Below R w0 W
theorem Mid.take {w0 W W' : World} {R g : Nat} {s : ByteArray} {st st' : St} {n : Nat} {v : Value} {l : List K} {c : K} (h : Mid w0 W R g s st n v l c) (hr : Rd W' R s st' (.int .i64 (n : Int)) v) (hg : W.grownBy W' (some R)) : Mid w0 W' R g s st' n v l c :=
  ⟨hr, h.kb.kept hg (by have := h.lt; simp; omega), h.own.kept hg (by
    rcases hv : v.ownBlock with _ | k
    · exact .inl rfl
    · refine .inr ?_
      have := (h.own.lt k hv).1
      simp; omega), h.apart, h.lt, h.old.grown hg (by have := h.rd.lt; omega) (fun k hk => by simp at hk; omega)⟩
theorem Mid.set {w0 W : World} {R g : Nat} {s : ByteArray} {st : St} {n : Nat} {v : Value} {l : List K} {c c' : K} (h : Mid w0 W R g s st n v l c) (i : Nat) (x : Value) (hk : Kb (W.setCell ⟨g, i, none⟩ x) g c') : Mid w0 (W.setCell ⟨g, i, none⟩ x) R g s st n v l c' :=
  ⟨h.rd.kept (grown_set W g i x) (by have := h.lt; simp; omega), hk, h.own.kept (grown_set W g i x) (by
    rcases hv : v.ownBlock with _ | k
    · exact .inl rfl
    · refine .inr ?_
      have := h.apart k hv
      simp; omega), h.apart, h.lt, h.old.setCell (by have := h.lt; show R ≤ g; omega) x⟩
theorem Mid.start {w0 W : World} {R : Nat} {s : ByteArray} {st : St} {n : Nat} {v : Value} {l : List K} (t : Nat) (hr : Rd W R s st (.int .i64 (n : Int)) v) (ho : Own W R v l) (hb : Below R w0 W) :
    Mid w0 (W.alloc (.cells #[.int .u8 (t : Int), .string ⟨#[]⟩, .int .u64 0, .int .u16 0, .int .u16 0] 78)) R W.heap.size s st n v l ⟨t, [], 0, 0, 0⟩ :=
  ⟨hr.kept (World.grownBy_alloc W _ none) (by simp), Kb.new W t, ho.alloc _, fun k hk => (ho.lt k hk).2, hr.lt, hb.alloc (by have := hr.lt; omega) _⟩
theorem Mid.drew {w0 W : World} {R g : Nat} {s : ByteArray} {st : St} {n : Nat} {v : Value} {l : List K} {c : K} (h : Mid w0 W R g s st n v l c) : Mid w0 W.drew R g s st n v l c :=
  ⟨h.rd, h.kb, h.own, h.apart, h.lt, h.old.drew⟩
/-- Between two constants. -/
structure At (w0 W : World) (R : Nat) (s : ByteArray) (st : St) (n : Nat) (v : Value) (l : List K) : Prop where
  rd : Rd W R s st (.int .i64 (n : Int)) v
  own : Own W R v l
  old : Below R w0 W
theorem Mid.grew {w0 W w' : World} {R g : Nat} {s : ByteArray} {st : St} {n : Nat} {v v' : Value} {l : List K} {c : K} {o : Obj} (h : Mid w0 W R g s st n v l c)
    (hown' : w'.ownsRow (R + 1) 78 5 v' (l.length + 1) (KC l ++ c.cells)) (hgrow : (W.alloc o).grownBy w' v.ownBlock) :
    Rd w' R s st (.int .i64 (n : Int)) v ∧ Kb w' g c ∧ Rd (w'.setCell ⟨R, 5, none⟩ v') R s st (.int .i64 (n : Int)) v' ∧ Kb (w'.setCell ⟨R, 5, none⟩ v') g c ∧ Own (w'.setCell ⟨R, 5, none⟩ v') R v' (l ++ [c]) ∧ Below R w0 (w'.setCell ⟨R, 5, none⟩ v') := by
  have hne : some R ≠ v.ownBlock := fun e => by have := (h.own.lt R e.symm).1; omega
  have hng : some g ≠ v.ownBlock := fun e => by have := h.apart g e.symm; omega
  have hsz := h.rd.lt
  have r1 : Rd w' R s st (.int .i64 (n : Int)) v := (h.rd.kept (World.grownBy_alloc W o none) (by simp)).kept hgrow hne
  have k1 : Kb w' g c := (h.kb.kept (World.grownBy_alloc W o none) (by simp)).kept hgrow hng
  refine ⟨r1, k1, r1.set5 v', k1.kept (grown_set w' R 5 v') (by have := h.lt; simp; omega), ?_, ?_⟩
  · unfold Own; rw [KC_snoc, List.length_append, List.length_singleton]; exact ownsRow_setCell_below hown' (by show R < R + 1; omega) v'
  · exact ((h.old.alloc (by omega) o).grown hgrow (by simp; omega) (fun k hk => by have := (h.own.lt k hk).1; omega)).setCell (Nat.le_refl R) v'
theorem own_kept {w w' : World} {R : Nat} {v : Value} {l : List K} (ho : Own w R v l) (hg : w.grownBy w' (some R)) : Own w' R v l :=
  ho.kept hg (by
    rcases hv : v.ownBlock with _ | k
    · exact .inl rfl
    · refine .inr ?_
      have := (ho.lt k hv).1
      simp; omega)
theorem below_kept {w0 w w' : World} {R : Nat} (hb : Below R w0 w) (hR : R < w.heap.size) (hg : w.grownBy w' (some R)) : Below R w0 w' :=
  hb.grown hg (by omega) (fun k hk => by simp at hk; omega)
theorem At.took {w0 W W' : World} {R : Nat} {s : ByteArray} {st st' : St} {n : Nat} {v : Value} {l : List K} (h : At w0 W R s st n v l) (hr : Rd W' R s st' (.int .i64 (n : Int)) v) (hg : W.grownBy W' (some R)) : At w0 W' R s st' n v l :=
  ⟨hr, own_kept h.own hg, below_kept h.old h.rd.lt hg⟩
/-- A constant as it is read, and the reader behind it. -/
def CM (s : List UInt8) (st : St) (c : K) (st' : St) : Prop :=
  (M.num (M.take s 1 st).1 = 1 ∧ c = ⟨1, (M.take s (M.num (M.take s 2 (M.take s 1 st).2).1) (M.take s 2 (M.take s 1 st).2).2).1, 0, 0, 0⟩ ∧
    ((M.IsText c.text ∧ st' = (M.take s (M.num (M.take s 2 (M.take s 1 st).2).1) (M.take s 2 (M.take s 1 st).2).2).2) ∨
     (¬ M.IsText c.text ∧ st' = M.fail (M.take s (M.num (M.take s 2 (M.take s 1 st).2).1) (M.take s 2 (M.take s 1 st).2).2).2 6 st.pos))) ∨
  ((M.num (M.take s 1 st).1 = 3 ∨ M.num (M.take s 1 st).1 = 4) ∧ c = ⟨M.num (M.take s 1 st).1, [], M.num (M.take s 4 (M.take s 1 st).2).1, 0, 0⟩ ∧ st' = (M.take s 4 (M.take s 1 st).2).2) ∨
  ((M.num (M.take s 1 st).1 = 5 ∨ M.num (M.take s 1 st).1 = 6) ∧ c = ⟨M.num (M.take s 1 st).1, [], M.num (M.take s 8 (M.take s 1 st).2).1, 0, 0⟩ ∧ st' = (M.take s 8 (M.take s 1 st).2).2) ∨
  ((M.num (M.take s 1 st).1 = 7 ∨ M.num (M.take s 1 st).1 = 8) ∧ c = ⟨M.num (M.take s 1 st).1, [], 0, M.num (M.take s 2 (M.take s 1 st).2).1, 0⟩ ∧ st' = (M.take s 2 (M.take s 1 st).2).2) ∨
  ((M.num (M.take s 1 st).1 = 9 ∨ M.num (M.take s 1 st).1 = 10 ∨ M.num (M.take s 1 st).1 = 11 ∨ M.num (M.take s 1 st).1 = 12) ∧
    c = ⟨M.num (M.take s 1 st).1, [], 0, M.num (M.take s 2 (M.take s 1 st).2).1, M.num (M.take s 2 (M.take s 2 (M.take s 1 st).2).2).1⟩ ∧ st' = (M.take s 2 (M.take s 2 (M.take s 1 st).2).2).2) ∨
  ((M.num (M.take s 1 st).1 = 0 ∨ M.num (M.take s 1 st).1 = 2 ∨ 12 < M.num (M.take s 1 st).1) ∧ c = ⟨M.num (M.take s 1 st).1, [], 0, 0, 0⟩ ∧ st' = M.fail (M.take s 1 st).2 5 st.pos)
/-- What stands behind a constant. -/
def Tail (c : K) (st' : St) (from_ n : Nat) (l l' : List K) (st'' : St) : Prop :=
  (¬ (c.tag = 5 ∨ c.tag = 6) ∧ l' = l ++ [c] ∧ st'' = st') ∨ ((c.tag = 5 ∨ c.tag = 6) ∧ l' = l ++ [c] ++ [K.zero] ∧ st'' = if l.length + 1 = n then M.fail st' 12 from_ else st')
def Step1 (w0 : World) (R : Nat) (s : ByteArray) (st : St) (n : Nat) (l : List K) (e : Ending) (w' : World) : Prop :=
  e = .returned (.tuple #[]) ∧ ∃ c st' st'' v' l', CM s.data.toList st c st' ∧ Tail c st' st.pos n l l' st'' ∧ At w0 w' R s st'' n v' l'
theorem At.grew {w0 W w' : World} {R : Nat} {s : ByteArray} {st : St} {n : Nat} {v v' : Value} {l : List K} {c : K} {o : Obj} (h : At w0 W R s st n v l)
    (hown' : w'.ownsRow (R + 1) 78 5 v' (l.length + 1) (KC l ++ c.cells)) (hgrow : (W.alloc o).grownBy w' v.ownBlock) :
    Rd w' R s st (.int .i64 (n : Int)) v ∧ At w0 (w'.setCell ⟨R, 5, none⟩ v') R s st n v' (l ++ [c]) := by
  have hne : some R ≠ v.ownBlock := fun e => by have := (h.own.lt R e.symm).1; omega
  have hsz := h.rd.lt
  have r1 : Rd w' R s st (.int .i64 (n : Int)) v := (h.rd.kept (World.grownBy_alloc W o none) (by simp)).kept hgrow hne
  refine ⟨r1, r1.set5 v', ?_, ?_⟩
  · unfold Own; rw [KC_snoc, List.length_append, List.length_singleton]; exact ownsRow_setCell_below hown' (by show R < R + 1; omega) v'
  · exact ((h.old.alloc (by omega) o).grown hgrow (by simp; omega) (fun k hk => by have := (h.own.lt k hk).1; omega)).setCell (Nat.le_refl R) v'
theorem own_len {w : World} {R : Nat} {v : Value} {l : List K} (h : Own w R v l) : ∃ a c, v = .slice a l.length c := by
  rcases h.2 with ⟨h1, h0⟩ | ⟨g, cap, cur, hv, _⟩
  · exact ⟨none, 0, by rw [h1, h0]⟩
  · exact ⟨_, cap, hv⟩
set_option maxRecDepth 100000 in
set_option maxHeartbeats 1000000 in
theorem skipOne_any (w0 : World) (R : Nat) (s : ByteArray) (st : St) (n : Nat) (v : Value) (l : List K) (f : Nat) (w : World) (h : At w0 w R s st n v l) (hl : l.length ≤ 65537) :
    Calls Try.prog 129 #[.pointer (some ⟨R, 0, none⟩), .int .i64 (f : Int)] w fun e w' => e = .returned (.tuple #[]) ∧ ∃ v', At w0 w' R s (if l.length = n then M.fail st 12 f else st) n v' (l ++ [K.zero]) := by
  obtain ⟨i0, hi, hz0, hz1, hz2⟩ := info_parts Try.info78
  obtain ⟨a, c, rfl⟩ := own_len h.own
  obtain ⟨h0, h1, h2, h3, h4, h5⟩ := h.rd.cells
  by_cases hc : l.length = n
  · rw [if_pos hc]
    have hcb : ((l.length : Int) == (n : Int)) = true := by rw [beq_iff_eq]; omega
    clear hc
    go_enter Try.func129, Try.ntmps129
    go_wp2_with fail
    go_quiet (fail)
    go_wp2_with fail
    clear hcb
    refine (Fail_any R s st _ _ 12 f _ (h.rd.drewN _)).mono ?_
    rintro e w1 ⟨rfl, hr1, hg1, -⟩
    have hA := h.took (st' := M.fail st 12 f) hr1 (grown_trans (grown_drewN w (some R) _) hg1)
    clear h0 h1 h2 h3 h4 h5 hr1 hg1 h
    obtain ⟨h0, h1, h2, h3, h4, h5⟩ := hA.rd.cells
    have hf5 := hA.rd.frozen 5
    have hsz := hA.rd.lt
    have hown := hA.own
    go_wp2_with (at_builtin; refine wpList_append_own _ rfl _ _ 22 rfl (R + 1) 78 i0 (.agg #[.int .u8 0, .string ⟨#[]⟩, .int .u64 0, .int .u16 0, .int .u16 0]) 5 40 Try.underlying22 hi hz0 hz1 hz2 rfl (by decide) _ _ _ rfl (hown.alloc _) ⟨w1.heap.size, 0, none⟩ 1 1 (K.cells K.zero) rfl rfl ?c1 ?c2 ?c3 ?c4 ?c5 ?_)
    case c1 => refine at5 ?_ ?_ ?_ ?_ ?_ <;> simp [K.zero]
    case c2 => exact one5 _
    case c3 => unfold maxLen; omega
    case c4 => omega
    case c5 => simp; omega
    intro v' w2 hown' hgrow _
    obtain ⟨q1, q2⟩ := hA.grew hown' hgrow
    obtain ⟨g', cap', rfl⟩ := own_form hown' (by omega)
    have r5' := q1.cells.2.2.2.2.2
    have rf' := q1.frozen 5
    have Hq := hide q2
    clear hown' hgrow q1 q2 h0 h1 h2 h3 h4 h5 hA hown
    go_wp2
    go_end0
    exact ⟨rfl, _, unhide Hq⟩
  · rw [if_neg hc]
    have hcb : ((l.length : Int) == (n : Int)) = false := by rw [beq_eq_false_iff_ne]; omega
    clear hc
    go_enter Try.func129, Try.ntmps129
    go_wp2_with fail
    go_quiet (fail)
    generalize hw1 : w.drewN nq = w1 at *
    have hA : At w0 w1 R s st n (.slice a l.length c) l := by rw [← hw1]; exact ⟨h.rd, h.own, below_drewN h.old _⟩
    clear h0 h1 h2 h3 h4 h5 h hw1
    obtain ⟨h0, h1, h2, h3, h4, h5⟩ := hA.rd.cells
    have hf5 := hA.rd.frozen 5
    have hsz := hA.rd.lt
    have hown := hA.own
    go_wp2_with (at_builtin; refine wpList_append_own _ rfl _ _ 22 rfl (R + 1) 78 i0 (.agg #[.int .u8 0, .string ⟨#[]⟩, .int .u64 0, .int .u16 0, .int .u16 0]) 5 40 Try.underlying22 hi hz0 hz1 hz2 rfl (by decide) _ _ _ rfl (hown.alloc _) ⟨w1.heap.size, 0, none⟩ 1 1 (K.cells K.zero) rfl rfl ?c1 ?c2 ?c3 ?c4 ?c5 ?_)
    case c1 => refine at5 ?_ ?_ ?_ ?_ ?_ <;> simp [K.zero]
    case c2 => exact one5 _
    case c3 => unfold maxLen; omega
    case c4 => omega
    case c5 => simp; omega
    intro v' w2 hown' hgrow _
    obtain ⟨q1, q2⟩ := hA.grew hown' hgrow
    obtain ⟨g', cap', rfl⟩ := own_form hown' (by omega)
    have r5' := q1.cells.2.2.2.2.2
    have rf' := q1.frozen 5
    have Hq := hide q2
    clear hown' hgrow q1 q2 h0 h1 h2 h3 h4 h5 hA hown
    go_wp2
    go_end0
    exact ⟨rfl, _, unhide Hq⟩
end Go.Proofs.Ytgihfcjddkpkaaa.Po
namespace Go.Proofs.Ytgihfcjddkpkaaa.Po
set_option maxRecDepth 100000
open Go.RowKit
abbrev Res := List K × Nat × Nat × Nat
def Two (c : K) : Prop := c.tag = 5 ∨ c.tag = 6
def Fin' (s : List UInt8) (n : Nat) : Nat → List K → Nat → Res → Prop
  | 0, _, _, _ => False
  | f + 1, l, at_, r => (n ≤ l.length ∧ r = (l, at_, 0, 0)) ∨
      (l.length < n ∧ ∃ c st', CM s ⟨at_, 0, 0⟩ c st' ∧ ((st'.e ≠ 0 ∧ r = ([], 0, st'.e, st'.p)) ∨ (st'.e = 0 ∧ ((¬ Two c ∧ Fin' s n f (l ++ [c]) st'.pos r) ∨
        (Two c ∧ n < l.length + 2 ∧ r = ([], 0, 12, at_)) ∨ (Two c ∧ l.length + 2 ≤ n ∧ Fin' s n f (l ++ [c] ++ [K.zero]) st'.pos r)))))
def Final (s : List UInt8) (n : Nat) (l : List K) (at_ : Nat) (r : Res) : Prop := ∃ f, Fin' s n f l at_ r
def ReadRes (s : List UInt8) (r : Res) : Prop :=
  (s.length < 2 ∧ r = ([], 0, 1, s.length)) ∨ (2 ≤ s.length ∧ M.num (s.take 2) = 0 ∧ r = ([], 0, 12, 0)) ∨ (2 ≤ s.length ∧ M.num (s.take 2) ≠ 0 ∧ Final s (M.num (s.take 2)) [K.zero] 2 r)
theorem CM.uniq {s : List UInt8} {st : St} {c d : K} {x y : St} (h : CM s st c x) (g : CM s st d y) : c = d ∧ x = y := by
  unfold CM at h g
  generalize M.take s 1 st = q at *
  obtain ⟨t, st1⟩ := q
  simp only at h g
  generalize M.num t = tag at *
  rcases h with ⟨h1, h2, h3⟩ | ⟨h1, h2, h3⟩ | ⟨h1, h2, h3⟩ | ⟨h1, h2, h3⟩ | ⟨h1, h2, h3⟩ | ⟨h1, h2, h3⟩ <;>
  rcases g with ⟨g1, g2, g3⟩ | ⟨g1, g2, g3⟩ | ⟨g1, g2, g3⟩ | ⟨g1, g2, g3⟩ | ⟨g1, g2, g3⟩ | ⟨g1, g2, g3⟩ <;>
  first
  | (exfalso; omega)
  | exact ⟨h2.trans g2.symm, h3.trans g3.symm⟩
  | skip
  have hcd : c = d := h2.trans g2.symm
  subst hcd
  refine ⟨rfl, ?_⟩
  rcases h3 with ⟨a, b⟩ | ⟨a, b⟩ <;> rcases g3 with ⟨a', b'⟩ | ⟨a', b'⟩
  · exact b.trans b'.symm
  · exact absurd a a'
  · exact absurd a' a
  · exact b.trans b'.symm
theorem Fin'.uniq {s : List UInt8} {n : Nat} : ∀ {f g : Nat} {l : List K} {at_ : Nat} {r q : Res}, Fin' s n f l at_ r → Fin' s n g l at_ q → r = q
  | 0, _, _, _, _, _, h, _ => h.elim
  | _ + 1, 0, _, _, _, _, _, h => h.elim
  | f + 1, g + 1, l, at_, r, q, h, k => by
    rcases h with ⟨h1, h2⟩ | ⟨h1, c, x, hc, h2⟩ <;> rcases k with ⟨k1, k2⟩ | ⟨k1, d, y, hd, k2⟩
    · exact h2.trans k2.symm
    · omega
    · omega
    · obtain ⟨rfl, rfl⟩ := CM.uniq hc hd
      rcases h2 with ⟨a, h3⟩ | ⟨a, h3⟩ <;> rcases k2 with ⟨b, k3⟩ | ⟨b, k3⟩
      · exact h3.trans k3.symm
      · exact absurd b a
      · exact absurd a b
      · rcases h3 with ⟨t, h4⟩ | ⟨t, t', h4⟩ | ⟨t, t', h4⟩ <;> rcases k3 with ⟨u, k4⟩ | ⟨u, u', k4⟩ | ⟨u, u', k4⟩
        · exact Fin'.uniq h4 k4
        · exact absurd u t
        · exact absurd u t
        · exact absurd t u
        · exact h4.trans k4.symm
        · omega
        · exact absurd t u
        · omega
        · exact Fin'.uniq h4 k4
theorem ReadRes.uniq {s : List UInt8} {r q : Res} (h : ReadRes s r) (g : ReadRes s q) : r = q := by
  rcases h with ⟨h1, h2⟩ | ⟨h1, h2, h3⟩ | ⟨h1, h2, f, h3⟩ <;> rcases g with ⟨g1, g2⟩ | ⟨g1, g2, g3⟩ | ⟨g1, g2, f', g3⟩
  · exact h2.trans g2.symm
  · omega
  · omega
  · omega
  · exact h3.trans g3.symm
  · exact absurd h2 g2
  · omega
  · exact absurd g2 h2
  · exact Fin'.uniq h3 g3
/-- The step from one state to the next, backwards: what comes of the next comes of this one. -/
theorem Final.one {s : List UInt8} {n : Nat} {l : List K} {at_ : Nat} {r : Res} {c : K} {x : St} (hl : l.length < n) (hc : CM s ⟨at_, 0, 0⟩ c x) (he : x.e = 0) (ht : ¬ Two c) (h : Final s n (l ++ [c]) x.pos r) : Final s n l at_ r := by
  obtain ⟨f, hf⟩ := h
  exact ⟨f + 1, .inr ⟨hl, c, x, hc, .inr ⟨he, .inl ⟨ht, hf⟩⟩⟩⟩
theorem Final.two {s : List UInt8} {n : Nat} {l : List K} {at_ : Nat} {r : Res} {c : K} {x : St} (hl : l.length < n) (hc : CM s ⟨at_, 0, 0⟩ c x) (he : x.e = 0) (ht : Two c) (hn : l.length + 2 ≤ n) (h : Final s n (l ++ [c] ++ [K.zero]) x.pos r) : Final s n l at_ r := by
  obtain ⟨f, hf⟩ := h
  exact ⟨f + 1, .inr ⟨hl, c, x, hc, .inr ⟨he, .inr (.inr ⟨ht, hn, hf⟩)⟩⟩⟩
theorem Final.bad {s : List UInt8} {n : Nat} {l : List K} {at_ : Nat} {c : K} {x : St} (hl : l.length < n) (hc : CM s ⟨at_, 0, 0⟩ c x) (he : x.e ≠ 0) : Final s n l at_ ([], 0, x.e, x.p) :=
  ⟨1, .inr ⟨hl, c, x, hc, .inl ⟨he, rfl⟩⟩⟩
theorem Final.last {s : List UInt8} {n : Nat} {l : List K} {at_ : Nat} {c : K} {x : St} (hl : l.length < n) (hc : CM s ⟨at_, 0, 0⟩ c x) (he : x.e = 0) (ht : Two c) (hn : n < l.length + 2) : Final s n l at_ ([], 0, 12, at_) :=
  ⟨1, .inr ⟨hl, c, x, hc, .inr ⟨he, .inr (.inl ⟨ht, hn, rfl⟩)⟩⟩⟩
theorem Final.done {s : List UInt8} {n : Nat} {l : List K} {at_ : Nat} (hl : n ≤ l.length) : Final s n l at_ (l, at_, 0, 0) := ⟨1, .inl ⟨hl, rfl⟩⟩
end Go.Proofs.Ytgihfcjddkpkaaa.Po
