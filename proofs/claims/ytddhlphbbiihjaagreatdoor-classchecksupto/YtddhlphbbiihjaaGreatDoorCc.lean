/-
  CodeChecks: the program's dimensions and findMethod.
-/
import Derived.Test.YtddhlphbbiihjaaGreatDoorMgCa
import Derived.Test.YtddhlphbbiihjaaGreatDoorWm
set_option linter.unusedVariables false
set_option linter.unusedSimpArgs false
namespace Go.Proofs.YtddhlphbbiihjaaGreatDoor.Ck
open Go.RowKit Kn

/-- A method that is found. -/
structure Mt where
  name : List UInt8
  slots : Nat
  right : Bool
def Mt.val (m : Mt) : Value := .agg #[.string ⟨m.name.toArray⟩, .int .i64 (m.slots : Int), .bool m.right]
def fmt (P : List K) (i : Int) : Mt :=
  if M.tag P ((M.kAt P i).b : Int) = 12 then
    match W.meth (M.text P ((M.kAt P ((M.kAt P i).b : Int)).b : Int)) with
    | none => ⟨M.text P ((M.kAt P ((M.kAt P i).b : Int)).a : Int), 0, false⟩
    | some (L, _) => ⟨M.text P ((M.kAt P ((M.kAt P i).b : Int)).a : Int), W.slotsN L, true⟩
  else ⟨[], 0, false⟩
def Small (P : List K) : Prop := ∀ c ∈ P, c.text.length ≤ 1048576
theorem Small.text {P : List K} (h : Small P) (i : Int) : (M.text P i).length ≤ 1048576 := by
  unfold M.text
  split
  · unfold M.kAt
    split
    · rename_i hi
      rw [getD_at _ _ (by omega)]
      exact h _ (List.getElem_mem _)
    · simp [K.zero]
  · simp
theorem Small.cls {P : List K} (h : Small P) (i : Int) : (M.cls P i).length ≤ 1048576 := by
  unfold M.cls
  split
  · exact h.text _
  · simp

set_option maxRecDepth 100000 in
set_option maxHeartbeats 1000000 in
theorem dimensions_any (cb : Nat) (v : Value) (P : List K) (i : Int) (w : World) (hc : w.cell? ⟨cb, 0, none⟩ = some v) (h : KIn w v P) (hP : P.length ≤ 1048576) (hS : Small P) :
    Calls Tryz.prog 113 #[.pointer (some ⟨cb, 0, none⟩), .int .i64 i] w fun e w' => e = .returned (.int .i64 (dims (M.cls P i) : Nat)) ∧ Below w.heap.size w w' := by
  have HC := hide (Kn.Class_any v P i w h hP)
  have hl := hS.cls i
  generalize M.cls P i = l at *
  have HT := hide (fun w => Tryz.strings_TrimLeft_one ⟨l.toArray⟩ 91 (by decide) w)
  obtain ⟨E, hE⟩ : ∃ E : ByteArray, E = ⟨(Lib.trimLeftB (⟨l.toArray⟩ : ByteArray).data.toList 91).toArray⟩ := ⟨_, rfl⟩
  rw [← hE] at HT
  have hEz : (E.size : Int) = (l.length : Int) - (dims l : Int) := by
    have h1 := dims_le l
    have h2 : E.data.toList.length = E.size := by simp
    rw [← h2, hE, data_of, data_of, ← drop_dims, List.length_drop]
    omega
  have hsz : ((⟨l.toArray⟩ : ByteArray).size : Int) = (l.length : Int) := by rw [size_of]
  have hd : wrap64 ((l.length : Int) - ((l.length : Int) - (dims l : Int))) = (dims l : Int) := by have := dims_le l; unfold wrap64; omega
  obtain ⟨ad, cap, e, _⟩ := h.ex
  subst e
  generalize (dims l : Int) = d at *
  clear h hS hE hl hP
  go_enter Tryz.func113, Tryz.ntmps113
  go_wp2_with fail
  refine (unhide HC).mono ?_
  rintro e w1 ⟨⟨x, rfl⟩, hb1⟩
  go_wp2_with fail
  refine (unhide HT _).mono ?_
  rintro e w2 ⟨rfl, hw⟩
  subst hw
  go_wp2
  go_ret
  refine ⟨?_, hb1⟩
  show Ending.returned (Value.int .i64 (wrap64 _)) = _
  rw [hd]

/-- A block of cells. -/
def Bk (w : World) (g : Nat) (cs : Array Value) (t : TypeId) : Prop := w.heap[g]? = some (.cells cs t (0, 0))
section
variable {w w' : World} {g : Nat} {cs : Array Value} {t : TypeId}
theorem Bk.lt (h : Bk w g cs t) : g < w.heap.size := (Array.getElem?_eq_some_iff.1 h).1
theorem Bk.cell (h : Bk w g cs t) (i : Nat) : w.cell? ⟨g, i, none⟩ = cs[i]? := cell_of_row w g i _ t (0, 0) h
theorem Bk.frozen (h : Bk w g cs t) (i : Nat) : w.frozen? ⟨g, i, none⟩ = false := frozen_of_row w g i _ t h
theorem Bk.below (h : Bk w g cs t) (hg : Below w.heap.size w w') : Bk w' g cs t := by
  unfold Bk at h ⊢
  rw [hg.block _ (Array.getElem?_eq_some_iff.1 h).1]; exact h
theorem Bk.new (w : World) (cs : Array Value) (t : TypeId) : Bk (w.alloc (.cells cs t)) w.heap.size cs t := heap_alloc_new _ _
theorem Bk.alloc (h : Bk w g cs t) (c : Array Value) (u : TypeId) : Bk (w.alloc (.cells c u)) g cs t := h.below ((Below.refl _ _).alloc (Nat.le_refl _) _)
theorem Bk.set (h : Bk w g cs t) (i : Nat) (v : Value) : Bk (w.setCell ⟨g, i, none⟩ v) g (cs.setIfInBounds i v) t := by
  unfold Bk; rw [heap_setCell_same w g i _ t _ h]
theorem Bk.other (h : Bk w g cs t) {b : Nat} (i : Nat) (v : Value) (hne : g ≠ b) : Bk (w.setCell ⟨b, i, none⟩ v) g cs t := by
  unfold Bk at h ⊢
  rw [Below.heap_setCell w ⟨b, i, none⟩ v g hne, h]
end
/-- A world with more blocks. -/
structure Bw (w : World) where
  x : World
  h : Below w.heap.size w x
/-- A region that draws its order, whose operations only read, and whose callees lay blocks at the most: walked once, in the order of the text. -/
theorem wp_region_bw {P : Program} {id : Nat} {Q : Exit → Act → World → Prop} {a : Act} {w : World} {l : List Oper} (hm : P.follows .mixedOrders = true) (hB : Region.lexB .any l.toArray = true)
    (h : wpQuiet P l.toArray (fun w' => ∃ p : Bw w, w' = p.x) (fun a' => ∀ w', (∃ p : Bw w, w' = p.x) → Q .normal a' w') l a) : (Code.region id l.toArray true).wp P Q a w :=
  wp_region_quiet (C := fun w' => ∃ p : Bw w, w' = p.x) hm hB ⟨⟨w.drew, (Below.refl _ _).drew⟩, rfl⟩ (by simpa using h)

theorem meth_len {l : List UInt8} {L : List (List UInt8)} {g : List UInt8} (h : W.meth l = some (L, g)) : L.length ≤ l.length := by
  cases l with
  | nil => rw [W.meth] at h; cases h
  | cons b t =>
    rw [W.meth] at h
    have hc := W.V_count t.length t rfl
    split at h
    · cases hv : (W.V t).2 with
      | nil => rw [hv] at h; cases h
      | cons c g' =>
        rw [hv] at h
        simp only at h
        split at h
        · cases h
          simp only [List.length_cons]
          omega
        · cases h
    · cases h
set_option maxRecDepth 100000 in
set_option maxHeartbeats 2000000 in
theorem findMethod_any (cb : Nat) (v : Value) (P : List K) (i : Int) (w : World) (hm : Mx w) (hc : w.cell? ⟨cb, 0, none⟩ = some v) (h : KIn w v P) (hP : P.length ≤ 1048576) (hS : Small P) :
    Calls Tryz.prog 136 #[.pointer (some ⟨cb, 0, none⟩), .int .i64 i] w fun e w' => e = .returned (fmt P i).val ∧ Below w.heap.size w w' := by
  have hcb : cb < w.heap.size := cell_lt hc
  have hR0 : (w.alloc (.cells #[.string ⟨#[]⟩, .int .i64 0, .bool false] 166)).heap[w.heap.size]? = some (.cells #[.string ⟨#[]⟩, .int .i64 0, .bool false] 166 (0, 0)) := heap_alloc_new _ _
  have hb0 := (Below.refl w.heap.size w).alloc (Nat.le_refl _) (.cells #[.string ⟨#[]⟩, .int .i64 0, .bool false] 166)
  have hc0 : (w.alloc (.cells #[.string ⟨#[]⟩, .int .i64 0, .bool false] 166)).cell? ⟨cb, 0, none⟩ = some v := by rw [hb0.cell hcb]; exact hc
  have hk0 := h.below hb0
  go_enter Tryz.func136, Tryz.ntmps136
  go_wp2_with fail
  generalize w.alloc (.cells #[.string ⟨#[]⟩, .int .i64 0, .bool false] 166) = wA at *
  refine (Kn.KAt_any v P i wA hk0 hP).mono ?_
  rintro e w1 ⟨rfl, hb1⟩
  have hb01 := hb0.trans (hb1.mono hb0.size)
  have hc1 : w1.cell? ⟨cb, 0, none⟩ = some v := by rw [hb01.cell hcb]; exact hc
  have hR1 : w1.heap[w.heap.size]? = some (.cells #[.string ⟨#[]⟩, .int .i64 0, .bool false] 166 (0, 0)) := by rw [hb1.block _ (Array.getElem?_eq_some_iff.1 hR0).1]; exact hR0
  have hz1 : w.heap.size < w1.heap.size := (Array.getElem?_eq_some_iff.1 hR1).1
  have hk1 := h.below hb01
  have hm1 := hm.below hb01
  obtain ⟨f1, f2, f3⟩ := h.at_fit i
  have hF : fmt P i = fmt P i := rfl
  unfold fmt at hF
  generalize hq : M.kAt P i = c1 at *
  clear hb0 hb1 hc0 hk0 hR0 hc hm
  unfold K.val K.cells
  have hfB := fldB c1
  have hbA := (Below.refl w1.heap.size w1).alloc (Nat.le_refl _) (.cells #[.int .u8 12] 5)
  have HH := hide (Has_any v _ P [12] (c1.b : Int) (w1.alloc (.cells #[.int .u8 12] 5)) (hk1.below hbA) hP (UIn.made w1 12) (by simp))
  rw [contains_one] at HH
  go_wp2_with fail
  refine (unhide HH).mono ?_
  rintro e w2 ⟨rfl, hb2⟩
  have hb12 := hbA.trans (hb2.mono hbA.size)
  have hb02 := hb01.trans (hb12.mono hb01.size)
  have hc2 : w2.cell? ⟨cb, 0, none⟩ = some v := by rw [hb12.cell (cell_lt hc1)]; exact hc1
  have hR2 : w2.heap[w.heap.size]? = some (.cells #[.string ⟨#[]⟩, .int .i64 0, .bool false] 166 (0, 0)) := by rw [hb12.block _ hz1]; exact hR1
  have hk2 := hk1.below hb12
  have hm2 := hm1.below hb12
  clear hb01 hbA HH hb2 hc1 hR1 hk1 hm1
  have hB : Bk w2 w.heap.size #[.string ⟨#[]⟩, .int .i64 0, .bool false] 166 := hR2
  have s0 : w2.cell? ⟨w.heap.size, 0, none⟩ = some (.string ⟨#[]⟩) := hB.cell 0
  have s1 : w2.cell? ⟨w.heap.size, 1, none⟩ = some (.int .i64 0) := hB.cell 1
  have s2 : w2.cell? ⟨w.heap.size, 2, none⟩ = some (.bool false) := hB.cell 2
  have z0 := hB.frozen 0
  have z1 := hB.frozen 1
  have z2 := hB.frozen 2
  by_cases ht : M.tag P (c1.b : Int) = 12
  · rw [decide_eq_true ht]
    clear s0 s1 s2 z0 z1 z2
    obtain ⟨c2, e2⟩ : ∃ c2, c2 = M.kAt P (c1.b : Int) := ⟨_, rfl⟩
    have hft := h.at_fit (c1.b : Int)
    rw [← e2] at hft
    obtain ⟨g1, g2, g3⟩ := hft
    have hfA2 := fldA c2
    have hfB2 := fldB c2
    have hval : (M.kAt P (c1.b : Int)).val = .agg #[.int .u8 (c2.tag : Int), .string ⟨c2.text.toArray⟩, .int .u64 (c2.bits : Int), .int .u16 (c2.a : Int), .int .u16 (c2.b : Int)] := by rw [← e2]; rfl
    have hA : Hid (∀ W, KIn W v P → Calls Tryz.prog 53 #[v, .int .i64 (c1.b : Int)] W fun e w' => e = .returned (.agg #[.int .u8 (c2.tag : Int), .string ⟨c2.text.toArray⟩, .int .u64 (c2.bits : Int), .int .u16 (c2.a : Int), .int .u16 (c2.b : Int)]) ∧ Below W.heap.size W w') := fun W hW => by
      have := Kn.KAt_any v P (c1.b : Int) W hW hP
      rw [hval] at this
      exact this
    have E2 := hide e2
    clear hval e2
    go_wp2_with fail
    haveI : Nonempty (Bw w2) := ⟨⟨w2, Below.refl _ _⟩⟩
    have p0 : ∀ p : Bw w2, p.x.cell? ⟨cb, 0, none⟩ = some v := fun p => by rw [p.h.cell (cell_lt hc2)]; exact hc2
    refine wp_region_bw (by kernel_rfl) (by kernel_rfl) ?_
    repeat (refine wpQuiet_step (fun K hK => ?_)
            go_simp
            first
            | (refine hK _ ?_; clear hK K)
            | (apply Exists.intro
               refine ⟨fun p => ?_, hK _ ?_⟩
               · first
                 | (go_at_call 53; refine (unhide hA p.x (hk2.below p.h)).mono ?_; rintro r w3 ⟨rfl, hg3⟩; exact ⟨rfl, ⟨w3, p.h.trans (hg3.mono p.h.size)⟩, rfl⟩)
                 | (go_at_call 19; refine (Kn.Text_any v P _ p.x (hk2.below p.h) hP).mono ?_; rintro r w3 ⟨rfl, hg3⟩; exact ⟨rfl, ⟨w3, p.h.trans (hg3.mono p.h.size)⟩, rfl⟩)
               clear hK K))
    refine wpQuiet_nil ?_
    rintro _ ⟨p, rfl⟩
    obtain ⟨w3, hb3⟩ := p
    simp only
    have hc3 : w3.cell? ⟨cb, 0, none⟩ = some v := by rw [hb3.cell (cell_lt hc2)]; exact hc2
    have hk3 := hk2.below hb3
    have hB3 := hB.below hb3
    have hm3 := hm2.below hb3
    have hb03 := hb02.trans (hb3.mono hb02.size)
    clear this p0
    go_wp2_with fail
    haveI : Nonempty (Bw w3) := ⟨⟨w3, Below.refl _ _⟩⟩
    have p0 : ∀ p : Bw w3, p.x.cell? ⟨cb, 0, none⟩ = some v := fun p => by rw [p.h.cell (cell_lt hc3)]; exact hc3
    refine wp_region_bw (by kernel_rfl) (by kernel_rfl) ?_
    repeat (refine wpQuiet_step (fun K hK => ?_)
            go_simp
            first
            | (refine hK _ ?_; clear hK K)
            | (apply Exists.intro
               refine ⟨fun p => ?_, hK _ ?_⟩
               · first
                 | (go_at_call 53; refine (unhide hA p.x (hk3.below p.h)).mono ?_; rintro r w3 ⟨rfl, hg3⟩; exact ⟨rfl, ⟨w3, p.h.trans (hg3.mono p.h.size)⟩, rfl⟩)
                 | (go_at_call 19; refine (Kn.Text_any v P _ p.x (hk3.below p.h) hP).mono ?_; rintro r w3 ⟨rfl, hg3⟩; exact ⟨rfl, ⟨w3, p.h.trans (hg3.mono p.h.size)⟩, rfl⟩)
               clear hK K))
    refine wpQuiet_nil ?_
    rintro _ ⟨p, rfl⟩
    obtain ⟨w4, hb4⟩ := p
    simp only
    have hB4 := hB3.below hb4
    have hm4 := hm3.below hb4
    have hb04 := hb03.trans (hb4.mono hb03.size)
    clear this p0
    have hds := hS.text (c2.b : Int)
    have hfm : fmt P i = match W.meth (M.text P (c2.b : Int)) with
        | none => ⟨M.text P (c2.a : Int), 0, false⟩
        | some (L, _) => ⟨M.text P (c2.a : Int), W.slotsN L, true⟩ := by
      unfold fmt
      rw [hq, if_pos ht, ← unhide E2]
    obtain ⟨nm, hnm⟩ : ∃ nm, nm = M.text P (c2.a : Int) := ⟨_, rfl⟩
    obtain ⟨dt, hdt⟩ : ∃ dt, dt = M.text P (c2.b : Int) := ⟨_, rfl⟩
    have wa : IntKind.i64.wrap (c2.a : Int) = (c2.a : Int) := by rw [IntKind.wrap_i64]; omega
    have wb : IntKind.i64.wrap (c2.b : Int) = (c2.b : Int) := by rw [IntKind.wrap_i64]; omega
    rw [wa, wb]
    rw [← hnm, ← hdt] at hfm ⊢
    rw [← hdt] at hds
    have HM := hide (W.Method_any ⟨dt.toArray⟩ w4 hm4 (by rw [size_of]; exact hds))
    rw [data_of] at HM
    have Hf := hide hfm
    clear hfm hnm hdt wa wb hA E2 hfA2 hfB2 g1 g2 g3 hk3 hc3 hB3 hm3 hb3 hb4 hm4 hb03 hk2 hc2 hm2 hb12 hB hR2
    go_wp2_with fail
    refine (unhide HM).mono ?_
    rintro e w5 ⟨hb5, hres⟩
    have hB5 := hB4.below hb5
    have hb05 := hb04.trans (hb5.mono hb04.size)
    rcases hres with ⟨hn, rfl⟩ | ⟨L, g, tv, hn, rfl, hown⟩
    · have hv : fmt P i = ⟨nm, 0, false⟩ := by rw [unhide Hf, hn]
      have Hv := hide hv
      have hbx := (Below.refl w5.heap.size w5).alloc (Nat.le_refl _) (.cells #[.string ⟨nm.toArray⟩, .int .i64 0, .bool false] 166)
      have hB6 := hB5.below hbx
      have hM6 := Bk.new w5 #[.string ⟨nm.toArray⟩, .int .i64 0, .bool false] 166
      have hb06 := hb05.trans (hbx.mono hb05.size)
      clear hv hn Hf hb5 HM hbx
      go_wp2_with fail
      generalize w5.alloc (.cells #[.string ⟨nm.toArray⟩, .int .i64 0, .bool false] 166) = w6 at *
      have s0 : w6.cell? ⟨w.heap.size, 0, none⟩ = some (.string ⟨#[]⟩) := hB6.cell 0
      have s1 : w6.cell? ⟨w.heap.size, 1, none⟩ = some (.int .i64 0) := hB6.cell 1
      have s2 : w6.cell? ⟨w.heap.size, 2, none⟩ = some (.bool false) := hB6.cell 2
      have z0 := hB6.frozen 0
      have z1 := hB6.frozen 1
      have z2 := hB6.frozen 2
      have m0 : w6.cell? ⟨w5.heap.size, 0, none⟩ = some (.string ⟨nm.toArray⟩) := hM6.cell 0
      have m1 : w6.cell? ⟨w5.heap.size, 1, none⟩ = some (.int .i64 0) := hM6.cell 1
      have m2 : w6.cell? ⟨w5.heap.size, 2, none⟩ = some (.bool false) := hM6.cell 2
      have b3 := hB6.set 0 (.string ⟨nm.toArray⟩)
      have b4 := b3.set 1 (.int .i64 0)
      have b5 := b4.set 2 (.bool false)
      have hbe : Below w.heap.size w (((w6.setCell ⟨w.heap.size, 0, none⟩ (.string ⟨nm.toArray⟩)).setCell ⟨w.heap.size, 1, none⟩ (.int .i64 0)).setCell ⟨w.heap.size, 2, none⟩ (.bool false)) :=
        ((hb06.setCell (p := ⟨w.heap.size, 0, none⟩) (Nat.le_refl _) _).setCell (p := ⟨w.heap.size, 1, none⟩) (Nat.le_refl _) _).setCell (p := ⟨w.heap.size, 2, none⟩) (Nat.le_refl _) _
      have B5 := hide b5
      clear b3 b4 b5
      refine wp_loop_rounds 1 ?_
      rw [rounds_succ]
      go_wp2
      refine bodyPost_ret (results_cell_row Tryz.results136 _ _ w.heap.size 166 _ (0, 0) _ rfl (unhide B5) Tryz.underlying166 rfl (by kernel_rfl)) rfl ?_
      exact ⟨by rw [unhide Hv]; rfl, hbe⟩
    · have hv : fmt P i = ⟨nm, W.slotsN L, true⟩ := by rw [unhide Hf, hn]
      have Hv := hide hv
      have hLl : L.length ≤ 1048576 := Nat.le_trans (meth_len hn) hds
      have hbx := (Below.refl w5.heap.size w5).alloc (Nat.le_refl _) (.cells #[.string ⟨nm.toArray⟩, .int .i64 0, .bool true] 166)
      have hB6 := hB5.below hbx
      have hM6 := Bk.new w5 #[.string ⟨nm.toArray⟩, .int .i64 0, .bool true] 166
      have hb06 := hb05.trans (hbx.mono hb05.size)
      have hne : w.heap.size ≠ w5.heap.size := by have := hB5.lt; omega
      have hHas : W.Has w5 tv L := W.Has.of_own hown
      clear hv hn Hf hb5 HM
      rcases hHas with ⟨ta, tc, rfl, rfl⟩ | ⟨tg, tof, tc, rfl, htc⟩
      · clear hown hbx
        go_wp2_with fail
        generalize w5.alloc (.cells #[.string ⟨nm.toArray⟩, .int .i64 0, .bool true] 166) = w6 at *
        have s0 : w6.cell? ⟨w.heap.size, 0, none⟩ = some (.string ⟨#[]⟩) := hB6.cell 0
        have s1 : w6.cell? ⟨w.heap.size, 1, none⟩ = some (.int .i64 0) := hB6.cell 1
        have s2 : w6.cell? ⟨w.heap.size, 2, none⟩ = some (.bool false) := hB6.cell 2
        have z0 := hB6.frozen 0
        have z1 := hB6.frozen 1
        have z2 := hB6.frozen 2
        have m0 : w6.cell? ⟨w5.heap.size, 0, none⟩ = some (.string ⟨nm.toArray⟩) := hM6.cell 0
        have m1 : w6.cell? ⟨w5.heap.size, 1, none⟩ = some (.int .i64 0) := hM6.cell 1
        have m2 : w6.cell? ⟨w5.heap.size, 2, none⟩ = some (.bool true) := hM6.cell 2
        have b3 := hB6.set 0 (.string ⟨nm.toArray⟩)
        have b4 := b3.set 1 (.int .i64 0)
        have b5 := b4.set 2 (.bool true)
        have hbe : Below w.heap.size w (((w6.setCell ⟨w.heap.size, 0, none⟩ (.string ⟨nm.toArray⟩)).setCell ⟨w.heap.size, 1, none⟩ (.int .i64 0)).setCell ⟨w.heap.size, 2, none⟩ (.bool true)) :=
          ((hb06.setCell (p := ⟨w.heap.size, 0, none⟩) (Nat.le_refl _) _).setCell (p := ⟨w.heap.size, 1, none⟩) (Nat.le_refl _) _).setCell (p := ⟨w.heap.size, 2, none⟩) (Nat.le_refl _) _
        have B5 := hide b5
        clear b3 b4 b5
        refine wp_loop_rounds 1 ?_
        rw [rounds_succ]
        go_wp2
        refine bodyPost_ret (results_cell_row Tryz.results136 _ _ w.heap.size 166 _ (0, 0) _ rfl (unhide B5) Tryz.underlying166 rfl (by kernel_rfl)) rfl ?_
        exact ⟨by rw [unhide Hv]; rfl, hbe⟩
      · have htl : ∀ k, k < L.length → tg < w5.heap.size := fun k hk => by
          obtain ⟨l, hl1, hl2⟩ := W.SV_at hk
          exact cell_lt ((htc k hk).trans hl2)
        have Hcell := hide htc
        have htb := htl
        go_wp2_with fail
        generalize hw6 : w5.alloc (.cells #[.string ⟨nm.toArray⟩, .int .i64 0, .bool true] 166) = w6 at *
        go_loopw [76] (fun y wx => ∃ k : Nat, k ≤ L.length ∧ y = .int .i64 (k : Int) ∧ Bk wx w5.heap.size #[.string ⟨nm.toArray⟩, .int .i64 ((W.slotsN (L.take k) : Nat) : Int), .bool true] 166 ∧ Bk wx w.heap.size #[.string ⟨#[]⟩, .int .i64 0, .bool false] 166 ∧ Below w5.heap.size w5 wx ∧ Below w.heap.size w wx) (fun y _ => L.length - (intOf y).toNat)
        case atStart => exact ⟨0, Nat.zero_le _, rfl, hM6, hB6, hbx, hb06⟩
        case round =>
          obtain ⟨k, hk, rfl, hM, hBr, hbr5, hbr⟩ := hrel
          have hsl := W.slots_le (L.take k)
          rw [List.length_take] at hsl
          by_cases hlt : k < L.length
          · obtain ⟨l, hl1, hl2⟩ := W.SV_at hlt
            have hcell : wr.cell? ⟨tg, tof + k, none⟩ = some (.string ⟨l.toArray⟩) := by rw [hbr5.cell (htb k hlt)]; exact (unhide Hcell k hlt).trans hl2
            have hst := W.slots_take hl1
            have hln := W.slotN_le l
            have HS := hide (fun w => W.Slots_any ⟨l.toArray⟩ w)
            rw [data_of] at HS
            have Hst := hide hst
            generalize W.slotsN (L.take k) = A at *
            generalize W.slotN l = D at *
            have hki : (k : Int) < (L.length : Int) := by omega
            have hA : A ≤ 2097152 := by omega
            have q1 : wr.cell? ⟨w5.heap.size, 1, none⟩ = some (.int .i64 (A : Int)) := hM.cell 1
            have q2 := hM.frozen 1
            have hM2 := hM.set 1 (.int .i64 ((A : Int) + (D : Int)))
            have hB2 := hBr.other 1 (.int .i64 ((A : Int) + (D : Int))) hne
            have hq5 := hbr5.setCell (p := ⟨w5.heap.size, 1, none⟩) (Nat.le_refl _) (.int .i64 ((A : Int) + (D : Int)))
            have hq0 := hbr.setCell (p := ⟨w5.heap.size, 1, none⟩) (by have := hb05.size; exact this) (.int .i64 ((A : Int) + (D : Int)))
            have HM2 := hide (And.intro hM2 (And.intro hB2 (And.intro hq5 hq0)))
            clear hl1 hl2 hst hsl hM2 hB2 hq5 hq0 hM hBr hbr5 hbr hM6 hB6 hb06 hbx hw6 hown
            go_wp2_with fail
            go_region_with (go_at_call 63; refine (unhide HS _).mono ?_; rintro e w' ⟨rfl, hww⟩; subst w')
            all_goals
              go_wp2
              go_roundw
              case rel => exact ⟨k + 1, by omega, by simp, by rw [unhide Hst]; exact (unhide HM2).1, (unhide HM2).2.1, (unhide HM2).2.2.1.drew, (unhide HM2).2.2.2.drew⟩
              case measure => simp [intOf]; omega
          · obtain rfl : k = L.length := by omega
            rw [List.take_length] at hM
            have s0 : wr.cell? ⟨w.heap.size, 0, none⟩ = some (.string ⟨#[]⟩) := hBr.cell 0
            have s1 : wr.cell? ⟨w.heap.size, 1, none⟩ = some (.int .i64 0) := hBr.cell 1
            have s2 : wr.cell? ⟨w.heap.size, 2, none⟩ = some (.bool false) := hBr.cell 2
            have z0 := hBr.frozen 0
            have z1 := hBr.frozen 1
            have z2 := hBr.frozen 2
            have m0 : wr.cell? ⟨w5.heap.size, 0, none⟩ = some (.string ⟨nm.toArray⟩) := hM.cell 0
            have m1 : wr.cell? ⟨w5.heap.size, 1, none⟩ = some (.int .i64 (W.slotsN L : Nat)) := hM.cell 1
            have m2 : wr.cell? ⟨w5.heap.size, 2, none⟩ = some (.bool true) := hM.cell 2
            have b3 := hBr.set 0 (.string ⟨nm.toArray⟩)
            have b4 := b3.set 1 (.int .i64 (W.slotsN L : Nat))
            have b5 := b4.set 2 (.bool true)
            have hbe : Below w.heap.size w (((wr.setCell ⟨w.heap.size, 0, none⟩ (.string ⟨nm.toArray⟩)).setCell ⟨w.heap.size, 1, none⟩ (.int .i64 (W.slotsN L : Nat))).setCell ⟨w.heap.size, 2, none⟩ (.bool true)) :=
              ((hbr.setCell (p := ⟨w.heap.size, 0, none⟩) (Nat.le_refl _) _).setCell (p := ⟨w.heap.size, 1, none⟩) (Nat.le_refl _) _).setCell (p := ⟨w.heap.size, 2, none⟩) (Nat.le_refl _) _
            have B5 := hide b5
            clear b3 b4 b5 hM hBr hbr5 hbr hM6 hB6 hb06 hbx hw6 hown hsl
            go_wp2
            refine bodyPost_ret (results_cell_row Tryz.results136 _ _ w.heap.size 166 _ (0, 0) _ rfl (unhide B5) Tryz.underlying166 rfl (by kernel_rfl)) rfl ?_
            exact ⟨by rw [unhide Hv]; rfl, hbe⟩
  · rw [decide_eq_false ht]
    have hv : fmt P i = ⟨[], 0, false⟩ := by unfold fmt; rw [hq, if_neg ht]
    have Hv := hide hv
    have b3 := hB.set 0 (.string ⟨#[]⟩)
    have b4 := b3.set 1 (.int .i64 0)
    have b5 := b4.set 2 (.bool false)
    have hbe : Below w.heap.size w (((w2.setCell ⟨w.heap.size, 0, none⟩ (.string ⟨#[]⟩)).setCell ⟨w.heap.size, 1, none⟩ (.int .i64 0)).setCell ⟨w.heap.size, 2, none⟩ (.bool false)) :=
      ((hb02.setCell (p := ⟨w.heap.size, 0, none⟩) (Nat.le_refl _) _).setCell (p := ⟨w.heap.size, 1, none⟩) (Nat.le_refl _) _).setCell (p := ⟨w.heap.size, 2, none⟩) (Nat.le_refl _) _
    have B5 := hide b5
    clear hv b3 b4 b5
    go_wp2
    refine bodyPost_ret (results_cell_row Tryz.results136 _ _ w.heap.size 166 _ (0, 0) _ rfl (unhide B5) Tryz.underlying166 rfl (by kernel_rfl)) rfl ?_
    exact ⟨by rw [unhide Hv]; rfl, hbe⟩
end Go.Proofs.YtddhlphbbiihjaaGreatDoor.Ck
