/-
  slices.Grow, of bytes. (The walk is after the library's own of slices.Grow over any program.)
  Package class: what is written: texts.
  Package class: what is written: texts, whatever they are.
  Package class: what is written: no attribute.
-/
import Derived.Test.YtgihfcjddkpkaaaXa
import Derived.Lib.SliceRun
import Derived.Lib.AppendZerosOnto
import Derived.Lib.BufferWrite
namespace Go.Proofs.Ytgihfcjddkpkaaa.Cl
set_option linter.unusedVariables false
open Go.RowKit
set_option maxHeartbeats 2000000 in
set_option maxRecDepth 100000 in
theorem Grow_room (base : Option Addr) (l c n : Nat) (w : World) (hlc : l ≤ c) (hc : c ≤ maxLen) (hn : n ≤ 1000000) (hroom : l + n ≤ c) :
    Calls Try.prog 85 #[.slice base l c, .int .i64 (n : Int)] w fun e w' => e = .returned (.slice base l c) ∧ w' = w := by
  unfold maxLen at hc
  have h1 : ¬ ((n : Int) < 0) := by omega
  have h2 : IntKind.i64.wrap ((c : Int) - (l : Int)) = (c : Int) - (l : Int) := by rw [IntKind.wrap_i64]; omega
  have h3 : IntKind.i64.wrap ((n : Int) - ((c : Int) - (l : Int))) = (n : Int) - ((c : Int) - (l : Int)) := by rw [IntKind.wrap_i64]; omega
  have h4 : ¬ (0 < (n : Int) - ((c : Int) - (l : Int))) := by omega
  go_enter Try.func85, Try.ntmps85
  go_wp2
  go_ret
  exact ⟨rfl, rfl⟩
set_option maxHeartbeats 2000000 in
set_option maxRecDepth 100000 in
theorem Grow_grow (base : Option Addr) (l c n : Nat) (cs : List Value) (w : World) (hlc : l ≤ c) (hroom : c < l + n) (hln : l + n ≤ 2000000) (hcl : cs.length = c) (hnil : base = none → c = 0) (hcs : ∀ a, base = some a → ∀ j v, cs[j]? = some v → w.cell? (a.add j) = some v) :
    Calls Try.prog 85 #[.slice base l c, .int .i64 (n : Int)] w fun e w' =>
      e = .returned (.slice (some ⟨w.heap.size, 0, none⟩) l (grownCap w (l + n) c 5)) ∧
      w' = w.drew.alloc (.cells (cs.toArray ++ Builtin.zeroCells (Value.int .u8 0).cells (l + n - c) ++ Builtin.zeroCells (Value.int .u8 0).cells (grownCap w (l + n) c 5 - (l + n))) 5) := by
  obtain ⟨i0, hi0, hz0, hs0, hby⟩ := info_parts Try.info5
  have h1 : ¬ ((n : Int) < 0) := by omega
  have h2 : IntKind.i64.wrap ((c : Int) - (l : Int)) = (c : Int) - (l : Int) := by rw [IntKind.wrap_i64]; omega
  have h3 : IntKind.i64.wrap ((n : Int) - ((c : Int) - (l : Int))) = (n : Int) - ((c : Int) - (l : Int)) := by rw [IntKind.wrap_i64]; omega
  have h4 : 0 < (n : Int) - ((c : Int) - (l : Int)) := by omega
  have hck : c + (l + n - c) = l + n := by omega
  have hold : (Builtin.firstCells i0.size c (.slice base c c)).run Try.prog w.drew = .ok cs.toArray w.drew := by
    rw [hs0]
    cases base with
    | none =>
      have h0 := hnil rfl
      subst h0
      have hc0 : cs = [] := List.length_eq_zero_iff.1 (by simpa using hcl)
      rw [hc0]
      exact run_firstCells_none w.drew 1 0 0 0
    | some a => exact run_firstCells_some w.drew 1 c a c c cs (by omega) (fun j v hj => hcs a rfl j v hj)
  have hrz : ∀ ty, (Builtin.append_ #[67, 3] ty #[.slice base c c, .int .i64 ((n : Int) - ((c : Int) - (l : Int)))]).run Try.prog w =
      .ok (.slice (some ⟨w.heap.size, 0, none⟩) (l + n) (grownCap w (l + n) c 5)) (w.drew.alloc (.cells (cs.toArray ++ Builtin.zeroCells (Value.int .u8 0).cells (l + n - c) ++ Builtin.zeroCells (Value.int .u8 0).cells (grownCap w (l + n) c 5 - (l + n))) 5)) := fun ty => by
    have h := Lib.run_append_grow_zeros w 67 3 ty 5 i0 (.int .u8 0) .i64 .i64 Try.underlying67 Try.underlying3 hi0 hz0 base c c cs hold (l + n - c) (by omega) (by omega) (by omega) (by omega)
      (by rw [hby]; omega)
      (by rw [hck]; exact growslice_fits hroom (by rw [hby]; omega))
    rw [hck] at h
    rw [show (n : Int) - ((c : Int) - (l : Int)) = ((l + n - c : Nat) : Int) by omega]
    exact h
  have hGn : l + n ≤ grownCap w (l + n) c 5 := grownCap_ge w _ _ _
  obtain ⟨G, hG⟩ : ∃ G, G = grownCap w (l + n) c 5 := ⟨_, rfl⟩
  rw [← hG] at hrz hGn ⊢
  have hG63 : G ≤ 9223372036854775807 := by
    have := grownCap_le_maxLen w (l + n) c 5 (by unfold maxLen; omega)
    rw [← hG] at this
    unfold maxLen at this
    omega
  clear hold hck hG hcs hcl
  go_enter Try.func85, Try.ntmps85
  cases base with
  | none =>
    have h0 := hnil rfl
    subst h0
    obtain rfl : l = 0 := by omega
    go_wp2_with (at_builtin; refine Lib.wpList_append_run _ rfl _ _ _ _ rfl _ _ rfl rfl _ _ (hrz _) ?_)
    all_goals (go_ret; exact ⟨rfl, rfl⟩)
  | some a =>
    obtain ⟨ab, ao, asp⟩ := a
    go_wp2_with (at_builtin; refine Lib.wpList_append_run _ rfl _ _ _ _ rfl _ _ rfl rfl _ _ (hrz _) ?_)
    all_goals (go_ret; exact ⟨rfl, rfl⟩)
end Go.Proofs.Ytgihfcjddkpkaaa.Cl
namespace Go.Proofs.Ytgihfcjddkpkaaa.Cl
set_option linter.unusedVariables false
open Go.RowKit
theorem Grow_own (B : Nat) (v : Value) (l : List UInt8) (n : Nat) (w : World) (ho : w.ownsRow B 5 1 v l.length (U8 l)) (hB : B ≤ w.heap.size) (hln : l.length + n ≤ 1000000) (hn : 0 < n) :
    Calls Try.prog 85 #[v, .int .i64 (n : Int)] w fun e w' => ∃ g c cur, e = .returned (.slice (some ⟨g, 0, none⟩) l.length c) ∧ l.length + n ≤ c ∧ c ≤ maxLen ∧ B ≤ g ∧ w'.heap[g]? = some (.cells cur 5 (0, 0)) ∧ cur.size = c ∧ cur.toList.take l.length = U8 l ∧ Fb B w w' := by
  rcases ho.2 with ⟨rfl, h0⟩ | ⟨g, cap, cur, rfl, hg, hh, hlc, hcm, hsz, htk⟩
  · have hl : l = [] := List.length_eq_zero_iff.1 h0
    subst hl
    refine (Grow_grow none 0 0 n [] w (Nat.le_refl _) (by omega) (by omega) rfl (fun _ => rfl) (fun a e => by cases e)).mono ?_
    rintro e w' ⟨rfl, rfl⟩
    have hG := grownCap_ge w (0 + n) 0 5
    have hGm := grownCap_le_maxLen w (0 + n) 0 5 (by unfold maxLen; omega)
    refine ⟨_, _, _, rfl, by simpa using hG, hGm, hB, heap_alloc_new _ _, ?_, by simp [U8], ?_⟩
    · rw [Nat.zero_add] at hG ⊢
      simp [Builtin.zeroCells, Value.cells]; omega
    · exact (Fb.alloc (⟨⟨rfl, rfl, rfl, Nat.le_refl _, fun _ _ => rfl⟩, fun _ _ h _ => h⟩ : Fb B w w.drew) hB _)
  · by_cases hr : l.length + n ≤ cap
    · refine (Grow_room (some ⟨g, 0, none⟩) l.length cap n w hlc hcm (by omega) hr).mono ?_
      rintro e w' ⟨rfl, rfl⟩
      exact ⟨g, cap, cur, rfl, hr, hcm, hg, hh, by omega, by simpa using htk, Fb.refl _ _⟩
    · refine (Grow_grow (some ⟨g, 0, none⟩) l.length cap n cur.toList w hlc (by omega) (by omega) (by simp; omega) (fun e => by cases e) ?_).mono ?_
      · intro a e j u hj
        cases e
        rw [Addr.add_lit, Nat.zero_add, cell_of_row w g j cur 5 (0, 0) hh]
        simpa using hj
      · rintro e w' ⟨rfl, rfl⟩
        have hG := grownCap_ge w (l.length + n) cap 5
        have hGm := grownCap_le_maxLen w (l.length + n) cap 5 (by unfold maxLen; omega)
        refine ⟨_, _, _, rfl, hG, hGm, hB, heap_alloc_new _ _, ?_, ?_, ?_⟩
        · simp [Builtin.zeroCells, Value.cells]; omega
        · rw [Array.toList_append, Array.toList_append, List.append_assoc, List.take_append_of_le_length (by simp; omega)]
          simpa using htk
        · exact (Fb.alloc (⟨⟨rfl, rfl, rfl, Nat.le_refl _, fun _ _ => rfl⟩, fun _ _ h _ => h⟩ : Fb B w w.drew) hB _)
theorem wpList_copy_at {P : Program} {w w' : World} {ops : Array Oper} {rest : List Oper} {o : Oper} {a : Act} {Q : Exit → Act → World → Prop} (hgd : o.guard = none) (d s : Operand) (dT sT : TypeId)
    (ho : o.op = .call { callee := .builtin .copy, args := #[d, s], argTypes := #[dT, sT] }) (v u : Value) (hd : a.eval d = v) (hs : a.eval s = u) {r : Value} (hr : (Builtin.copy_ #[dT, sT] o.type #[v, u]).run P w = .ok r w')
    (h : wpList P ops Q rest (a.put o.dst r) w') : wpList P ops Q (o :: rest) a w := by
  refine wpList_plain hgd fun K hK => ?_
  unfold Oper.wp
  simp [execOp, ho, resolve, invoke, builtin, hd, hs, hr, Result.andThen]
  exact hK _ _ h
namespace M
/-- A text. -/
def wtext (o : Wo) (s : List UInt8) : Wo := if o.e = 0 then ⟨o.l ++ s, o.e⟩ else o
end M
set_option maxHeartbeats 2000000 in
set_option maxRecDepth 100000 in
theorem wtext_any (B W : Nat) (nm : Value) (o : M.Wo) (s : List UInt8) (w : World) (h : Wc B w W nm o) (hW : W < B) (hl : o.l.length + s.length ≤ 1000000) (hs0 : 0 < s.length) :
    Calls Try.prog 50 #[.pointer (some ⟨W, 0, none⟩), .string ⟨s.toArray⟩] w fun x w' => x = .returned (.tuple #[]) ∧ Wc B w' W nm (M.wtext o s) ∧ Fx B W w w' := by
  obtain ⟨v, hb, ho⟩ := h.ex
  have hB := h.hB
  have hsz : (⟨s.toArray⟩ : ByteArray).size = s.length := by show s.toArray.size = _; simp
  have k2 : w.cell? ⟨W, 2, none⟩ = some (.int .i64 (o.e : Int)) := hb.cell 2
  by_cases he : o.e = 0
  · have hd : (((o.e : Int) != 0) : Bool) = false := by rw [he]; rfl
    have hq : M.wtext o s = ⟨o.l ++ s, o.e⟩ := by unfold M.wtext; rw [if_pos he]
    rw [hq]
    have k0 : w.cell? ⟨W, 0, none⟩ = some v := hb.cell 0
    have HG := hide (Grow_own B v o.l s.length w ho hB hl hs0)
    obtain ⟨va, vc, ev⟩ : ∃ va vc, v = .slice va o.l.length vc := by
      rcases ho.2 with ⟨e, h0⟩ | ⟨g, cap, cur, e, _⟩
      · exact ⟨none, 0, by rw [e, h0]⟩
      · exact ⟨_, _, e⟩
    subst ev
    have Hb := hide hb
    have hwr : IntKind.i64.wrap ((o.l.length : Int) + (s.length : Int)) = (o.l.length : Int) + (s.length : Int) := by rw [IntKind.wrap_i64]; omega
    clear h he hq hb ho
    go_enter Try.func50, Try.ntmps50
    go_wp2_with fail
    refine (unhide HG).mono ?_
    rintro e w1 ⟨g, c, cur, rfl, hc, hcm, hBg, hh, hcs, htk, hf⟩
    clear HG k0 k2
    have hb1 : Bk w1 W #[.slice va o.l.length vc, nm, .int .i64 (o.e : Int)] 112 := hf.rest W _ (unhide Hb) (by intro c fr e; cases e)
    have j0 := hb1.cell 0
    have jf := hb1.frozen 0
    simp at j0
    obtain ⟨w2, hw2⟩ : ∃ w2, w2 = w1.setCell ⟨W, 0, none⟩ (.slice (some ⟨g, 0, none⟩) (o.l.length + s.length) c) := ⟨_, rfl⟩
    have hgW : W ≠ g := by omega
    have hh2 : w2.heap[g]? = some (.cells cur 5 (0, 0)) := by rw [hw2, (grown_set w1 W 0 _).block g (Array.getElem?_eq_some_iff.1 hh).1 (fun e => hgW (by cases e; rfl))]; exact hh
    have hb2 : Bk w2 W #[.slice (some ⟨g, 0, none⟩) (o.l.length + s.length) c, nm, .int .i64 (o.e : Int)] 112 := by
      have := hb1.set 0 (.slice (some ⟨g, 0, none⟩) (o.l.length + s.length) c)
      simp only [List.setIfInBounds_toArray, List.set_cons_zero] at this
      rw [hw2]; exact this
    have hcp := fun ty => Lib.run_copy_row_string (P := Try.prog) w2 67 9 ty 5 g o.l.length s.length (c - o.l.length) ⟨s.toArray⟩ cur 5 Try.underlying67 (by kernel_rfl) hh2 (by rw [hsz]; exact Nat.le_refl _) (by rw [hsz]; omega)
    obtain ⟨w3, hw3⟩ : ∃ w3, w3 = w2.setRow g (cur.toList.take o.l.length ++ Lib.byteCells (⟨s.toArray⟩ : ByteArray).data.toList ++ cur.toList.drop (o.l.length + (⟨s.toArray⟩ : ByteArray).size)).toArray := ⟨_, rfl⟩
    rw [← hw3] at hcp
    have Hcp := hide hcp
    have H3 : Hid (Wc B w3 W nm ⟨o.l ++ s, o.e⟩) := by
      have hg3 : w3.heap[g]? = some (.cells (cur.toList.take o.l.length ++ Lib.byteCells (⟨s.toArray⟩ : ByteArray).data.toList ++ cur.toList.drop (o.l.length + (⟨s.toArray⟩ : ByteArray).size)).toArray 5 (0, 0)) := by rw [hw3]; exact setRow_heap w2 g cur _ 5 (0, 0) hh2
      have hb3 : Bk w3 W #[.slice (some ⟨g, 0, none⟩) (o.l.length + s.length) c, nm, .int .i64 (o.e : Int)] 112 := by unfold Bk; rw [hw3, setRow_other w2 g W _ hgW]; exact hb2
      have hbc : Lib.byteCells (⟨s.toArray⟩ : ByteArray).data.toList = U8 s := rfl
      have hlu : (U8 s).length = s.length := by simp [U8]
      have hlu2 : (U8 o.l).length = o.l.length := by simp [U8]
      refine ⟨⟨_, hb3, ?_, .inr ⟨g, c, _, ?_, hBg, hg3, ?_, hcm, ?_, ?_⟩⟩, ?_⟩
      · simp [U8]
      · simp
      · simp; omega
      · rw [hbc, htk, hsz]
        simp [hlu, hlu2]
        have : cur.size = c := hcs
        omega
      · rw [hbc, htk]
        simp only [List.length_append, Nat.mul_one]
        rw [List.take_append_of_le_length (by rw [List.length_append, hlu, hlu2]; exact Nat.le_refl _), ← U8_append]
        rw [List.take_of_length_le (by simp [U8])]
      · rw [hw3]
        have h1 := (grown_set w1 W 0 (.slice (some ⟨g, 0, none⟩) (o.l.length + s.length) c)).size
        have h2 := hf.old.size
        rw [← hw2] at h1
        simp [World.setRow]
        omega
    have F3 : Hid (Fx B W w w3) := by
      have f1 : Fx B W w w2 := (Fx.fb hf hB).trans (by rw [hw2]; exact Fx.grown (grown_set w1 W 0 _))
      refine f1.trans ⟨by rw [hw3]; rfl, by rw [hw3]; rfl, by rw [hw3]; rfl, by rw [hw3]; simp [World.setRow], fun k x hx hk ht => ?_⟩
      rw [hw3, setRow_other w2 g k _ ?_]
      · exact hx
      · intro e
        subst e
        rcases ht with ht | ht
        · omega
        · rw [hh2] at hx
          cases hx
          exact ht _ _ rfl
    have HW2 := hide hw2
    have i0 := hb2.cell 0
    simp at i0
    have hgl := (Array.getElem?_eq_some_iff.1 hh).1
    clear hcp hw3 hw2 hb2 hb1 hh hh2 hf htk hcs Hb
    unfold maxLen at hcm
    have l1 : (o.l.length : Int) + (s.length : Int) ≤ (c : Int) := by omega
    have l2 : (o.l.length : Int) ≤ (c : Int) := by omega
    go_upto_region 3 with fail
    rw [← unhide HW2]
    clear HW2 j0 jf
    have hcp3 := unhide Hcp 3
    rw [hsz] at hcp3
    go_wp2
    go_end0
    exact ⟨rfl, unhide H3, unhide F3⟩
  · have hd : (((o.e : Int) != 0) : Bool) = true := by simpa using he
    have hq : M.wtext o s = o := by unfold M.wtext; rw [if_neg he]
    rw [hq]
    have H := hide h
    clear h he hq hb ho
    go_enter Try.func50, Try.ntmps50
    go_wp2
    refine bodyPost_ret (results_none rfl _ _ _) rfl ?_
    exact ⟨rfl, unhide H, Fx.refl _ _ _⟩
end Go.Proofs.Ytgihfcjddkpkaaa.Cl
namespace Go.Proofs.Ytgihfcjddkpkaaa.Cl
set_option linter.unusedVariables false
open Go.RowKit
set_option maxHeartbeats 2000000 in
set_option maxRecDepth 100000 in
theorem wtext_nil (B W : Nat) (nm : Value) (o : M.Wo) (w : World) (h : Wc B w W nm o) (hW : W < B) (hl : o.l.length ≤ 1000000) :
    Calls Try.prog 50 #[.pointer (some ⟨W, 0, none⟩), .string ⟨#[]⟩] w fun x w' => x = .returned (.tuple #[]) ∧ Wc B w' W nm o ∧ Fx B W w w' := by
  obtain ⟨v, hb, ho⟩ := h.ex
  have hB := h.hB
  have k2 : w.cell? ⟨W, 2, none⟩ = some (.int .i64 (o.e : Int)) := hb.cell 2
  by_cases he : o.e = 0
  · have hd : (((o.e : Int) != 0) : Bool) = false := by rw [he]; rfl
    have k0 : w.cell? ⟨W, 0, none⟩ = some v := hb.cell 0
    have kf := hb.frozen 0
    obtain ⟨va, vc, ev, hvc, hvm⟩ : ∃ va vc, v = .slice va o.l.length vc ∧ o.l.length ≤ vc ∧ vc ≤ maxLen := by
      rcases ho.2 with ⟨e, h0⟩ | ⟨g, cap, cur, e, _, _, h1, h2, _⟩
      · exact ⟨none, 0, by rw [e, h0], by omega, by unfold maxLen; omega⟩
      · exact ⟨_, _, e, h1, h2⟩
    subst ev
    have HG := hide (Grow_room va o.l.length vc 0 w hvc hvm (by omega) (by omega))
    have H3 : Hid (Wc B (w.setCell ⟨W, 0, none⟩ (.slice va o.l.length vc)) W nm o) := by
      refine ⟨⟨.slice va o.l.length vc, hb.set 0 _, ins_kept ho (grown_set w W 0 _) (fun b e1 e2 => ?_)⟩, by simpa using hB⟩
      cases e1
      have := (ins_in ho e2).1
      omega
    have F3 : Hid (Fx B W w (w.setCell ⟨W, 0, none⟩ (.slice va o.l.length vc))) := Fx.grown (grown_set w W 0 _)
    have hcp := fun (W2 : World) ty (d : Option Addr) (dl dc : Nat) => Lib.run_copy_empty_string (P := Try.prog) W2 67 9 ty 5 d dl dc ⟨#[]⟩ Try.underlying67 (by kernel_rfl) rfl
    unfold maxLen at hvm
    have l1 : (o.l.length : Int) ≤ (vc : Int) := by omega
    clear h he hb ho
    go_enter Try.func50, Try.ntmps50
    go_wp2_with fail
    refine (unhide HG).mono ?_
    rintro e w1 ⟨rfl, hw1⟩
    subst w1
    clear HG
    cases va with
    | none =>
      go_wp2
      all_goals go_end0
      all_goals exact ⟨rfl, unhide H3, unhide F3⟩
    | some a =>
      obtain ⟨ab, ao, asp⟩ := a
      by_cases hv : vc = o.l.length
      · subst hv
        go_wp2
        all_goals go_end0
        all_goals exact ⟨rfl, unhide H3, unhide F3⟩
      · have hv1 : ¬ (vc : Int) = (o.l.length : Int) := by omega
        have hv2 : ¬ o.l.length = vc := fun e => hv e.symm
        have hv3 : ¬ (o.l.length : Int) = (vc : Int) := by omega
        go_wp2
        all_goals go_end0
        all_goals exact ⟨rfl, unhide H3, unhide F3⟩
  · have hd : (((o.e : Int) != 0) : Bool) = true := by simpa using he
    have H := hide h
    clear h he hb ho
    go_enter Try.func50, Try.ntmps50
    go_wp2
    refine bodyPost_ret (results_none rfl _ _ _) rfl ?_
    exact ⟨rfl, unhide H, Fx.refl _ _ _⟩
theorem text_any (B W : Nat) (nm : Value) (o : M.Wo) (s : List UInt8) (w : World) (h : Wc B w W nm o) (hW : W < B) (hl : o.l.length + s.length ≤ 1000000) :
    Calls Try.prog 50 #[.pointer (some ⟨W, 0, none⟩), .string ⟨s.toArray⟩] w fun x w' => x = .returned (.tuple #[]) ∧ Wc B w' W nm (M.wtext o s) ∧ Fx B W w w' := by
  by_cases hs : 0 < s.length
  · exact wtext_any B W nm o s w h hW hl hs
  · have hs0 : s = [] := List.length_eq_zero_iff.1 (by omega)
    subst hs0
    have hq : M.wtext o [] = o := by
      unfold M.wtext
      split
      · rw [List.append_nil]
      · rfl
    rw [hq]
    exact wtext_nil B W nm o w h hW (by simpa using hl)
end Go.Proofs.Ytgihfcjddkpkaaa.Cl
namespace Go.Proofs.Ytgihfcjddkpkaaa.Cl
set_option linter.unusedVariables false
open Go.RowKit
theorem Wc.alloc {B W : Nat} {w : World} {nm : Value} {o : M.Wo} (h : Wc B w W nm o) (x : Obj) : Wc B (w.alloc x) W nm o := by
  obtain ⟨v, hb, ho⟩ := h.ex
  exact ⟨⟨v, hb.alloc x, ho.alloc x⟩, by have := h.hB; simp; omega⟩
theorem Wc.lt {B W : Nat} {w : World} {nm : Value} {o : M.Wo} (h : Wc B w W nm o) : W < w.heap.size := by
  obtain ⟨v, hb, _⟩ := h.ex
  exact hb.lt
set_option maxHeartbeats 1000000 in
set_option maxRecDepth 100000 in
/-- Two bytes' numbers, of a slice that was just laid. -/
theorem attributes_no (B W : Nat) (nm f : Value) (o : M.Wo) (name : ByteArray) (ln : Int) (w : World) (h : Wc B w W nm o) (hW : W < B) (hl : o.l.length + 2 ≤ 1000000) :
    Calls Try.prog 108 #[.pointer (some ⟨W, 0, none⟩), .bool false, .string name, .int .i64 ln, f] w fun x w' => x = .returned (.tuple #[]) ∧ Wc B w' W nm (M.wnums o 2 [0]) ∧ Fx B W w w' := by
  have hWl := h.lt
  have HN := hide (numbers2_any B W w.heap.size 1 nm o [0] (w.alloc (.cells #[.int .i64 0] 3)) (h.alloc _) hW (by simpa using hl) (by intro x hx; simp at hx; subst hx; omega) (by omega) (by have := heap_alloc_new w (.cells #[.int .i64 0] 3); simpa using this))
  have HF := hide (Fx.alloc B W w (.cells #[.int .i64 0] 3))
  clear h
  go_enter Try.func108, Try.ntmps108
  go_wp2_with fail
  refine (unhide HN).mono ?_
  rintro e w1 ⟨rfl, h1, f1⟩
  have H1 := hide h1
  have F1 := hide ((unhide HF).trans f1)
  clear HN HF h1 f1
  go_wp2
  refine bodyPost_ret (results_none rfl _ _ _) rfl ?_
  exact ⟨rfl, unhide H1, unhide F1⟩
end Go.Proofs.Ytgihfcjddkpkaaa.Cl
