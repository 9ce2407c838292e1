/-
  CodeChecks: the program's method.
-/
import Derived.Test.YtejbnbilbagkmaaDoorCg
namespace Go.Proofs.YtejbnbilbagkmaaDoor.Ck
open Go.RowKit Kn
set_option linter.unusedVariables false
set_option linter.unusedSimpArgs false

/-- The checker, its pool and its map. -/
structure Ch (w : World) (cb mb : Nat) (pv : Value) (P : List K) : Prop where
  c0 : w.cell? ⟨cb, 0, none⟩ = some pv
  c2 : w.cell? ⟨cb, 2, none⟩ = some (.map (some mb))
  mp : Mp P w mb
  k : KIn w pv P
  mx : Mx w
theorem Ch.below {w w' : World} {cb mb : Nat} {pv : Value} {P : List K} (h : Ch w cb mb pv P) (hb : Below w.heap.size w w') : Ch w' cb mb pv P :=
  ⟨by rw [hb.cell (cell_lt h.c0)]; exact h.c0, by rw [hb.cell (cell_lt h.c2)]; exact h.c2, h.mp.below hb, h.k.below hb, h.mx.below hb⟩
theorem Ch.bx {w w' : World} {cb mb : Nat} {pv : Value} {P : List K} (h : Ch w cb mb pv P) (hb : Bx mb w w') (hM : Mp P w' mb) : Ch w' cb mb pv P :=
  ⟨hb.cell h.mp h.c0, hb.cell h.mp h.c2, hM, KIn.bx h.k h.mp hb, Mx.bx h.mx h.mp hb⟩

set_option maxRecDepth 100000 in
set_option maxHeartbeats 2000000 in
theorem method_any (cb mb : Nat) (pv : Value) (P : List K) (i : Int) (w : World) (h : Ch w cb mb pv P) (hP : P.length ≤ 1048576) (hS : Small P) :
    Calls Tryd.prog 45 #[.pointer (some ⟨cb, 0, none⟩), .int .i64 i] w fun e w' => e = .returned (fmt P i).val ∧ Bx mb w w' ∧ Ch w' cb mb pv P := by
  have hb0 := (Below.refl w.heap.size w).alloc (Nat.le_refl _) (.cells #[.string ⟨#[]⟩, .int .i64 0, .bool false] 68)
  have hB0 := Bk.new w #[.string ⟨#[]⟩, .int .i64 0, .bool false] 68
  have h0 := h.below hb0
  have c2 := h0.c2
  have hF := fun (W : World) (hW : Ch W cb mb pv P) => findMethod_any cb pv P i W hW.mx hW.c0 hW.k hP hS
  have hlk := h0.mp.look i
  obtain ⟨m, hm⟩ : ∃ m, m = fmt P i := ⟨_, rfl⟩
  rw [← hm] at hlk hF ⊢
  obtain ⟨nm, sl, rt⟩ := m
  unfold Mt.val at *
  simp only at *
  have HF := hide hF
  clear hm hF
  rcases hlk with hl | ⟨hl, hu⟩
  · have hR := (Bk.new w #[.string ⟨nm.toArray⟩, .int .i64 (sl : Int), .bool rt] 68).alloc #[.string ⟨nm.toArray⟩, .int .i64 (sl : Int), .bool rt] 68
    have hbe := ((Below.refl w.heap.size w).alloc (Nat.le_refl _) (.cells #[.string ⟨nm.toArray⟩, .int .i64 (sl : Int), .bool rt] 68)).alloc (by simp) (.cells #[.string ⟨nm.toArray⟩, .int .i64 (sl : Int), .bool rt] 68)
    have hC := h.below hbe
    have HR := hide (And.intro hR (And.intro hbe hC))
    clear hR hbe hC HF hB0 hb0
    go_enter Tryd.func45, Tryd.ntmps45
    go_wp2
    refine bodyPost_ret (results_cell_row Tryd.results45 _ _ w.heap.size 68 _ (0, 0) _ rfl (unhide HR).1 Tryd.underlying68 rfl (by kernel_rfl)) rfl ?_
    exact ⟨rfl, Bx.of (unhide HR).2.1, (unhide HR).2.2⟩
  · have Hu := hide hu
    have hb1 := hb0.alloc (by simp) (.cells #[.string ⟨#[]⟩, .int .i64 0, .bool false] 68)
    have hC1 := h.below hb1
    have hR1 := hB0.alloc #[.string ⟨#[]⟩, .int .i64 0, .bool false] 68
    have hmb : ((w.alloc (.cells #[.string ⟨#[]⟩, .int .i64 0, .bool false] 68)).alloc (.cells #[.string ⟨#[]⟩, .int .i64 0, .bool false] 68)).heap[mb]? = (w.alloc (.cells #[.string ⟨#[]⟩, .int .i64 0, .bool false] 68)).heap[mb]? := by
      obtain ⟨es, ck, hm1, _⟩ := h0.mp
      obtain ⟨es2, ck2, hm2, _⟩ := h.mp
      have hlt := (Array.getElem?_eq_some_iff.1 hm2).1
      rw [hb1.block mb hlt, hb0.block mb hlt]
    have Hmb := hide hmb
    clear hu hmb
    go_enter Tryd.func45, Tryd.ntmps45
    go_wp2_with fail
    generalize hw2 : (w.alloc (.cells #[.string ⟨#[]⟩, .int .i64 0, .bool false] 68)).alloc (.cells #[.string ⟨#[]⟩, .int .i64 0, .bool false] 68) = w2 at *
    generalize w.alloc (.cells #[.string ⟨#[]⟩, .int .i64 0, .bool false] 68) = wA at *
    refine (unhide HF _ hC1).mono ?_
    rintro e w3 ⟨rfl, hb3⟩
    have hbx := (Below.refl w3.heap.size w3).alloc (Nat.le_refl _) (.cells #[.string ⟨nm.toArray⟩, .int .i64 (sl : Int), .bool rt] 68)
    have hb23 := hb3.trans (hbx.mono hb3.size)
    have hC3 := hC1.below hb23
    have hR3 := hR1.below hb23
    have hT3 := Bk.new w3 #[.string ⟨nm.toArray⟩, .int .i64 (sl : Int), .bool rt] 68
    have hmb3 : (w3.alloc (.cells #[.string ⟨nm.toArray⟩, .int .i64 (sl : Int), .bool rt] 68)).heap[mb]? = wA.heap[mb]? := by
      obtain ⟨es2, ck2, hm2, _⟩ := hC1.mp
      rw [hb23.block mb (Array.getElem?_eq_some_iff.1 hm2).1]; exact unhide Hmb
    obtain ⟨W', hrun, hM', hbW, hsz⟩ := unhide Hu (w3.alloc (.cells #[.string ⟨nm.toArray⟩, .int .i64 (sl : Int), .bool rt] 68)).drew hmb3
    replace hbW : Bx mb (w3.alloc (.cells #[.string ⟨nm.toArray⟩, .int .i64 (sl : Int), .bool rt] 68)) W' := ⟨hbW.os, hbW.tape, hbW.output, hbW.size, hbW.block⟩
    have hb03 := hb1.trans (hb23.mono hb1.size)
    have cc2 := hC3.c2
    have hne1 := hC3.mp.ne (hT3.cell 0)
    have hne2 := hC3.mp.ne (hR3.cell 0)
    have hTW : Bk W' w3.heap.size #[.string ⟨nm.toArray⟩, .int .i64 (sl : Int), .bool rt] 68 := by unfold Bk at hT3 ⊢; rw [hbW.block _ (Array.getElem?_eq_some_iff.1 hT3).1 hne1]; exact hT3
    have hRW : Bk W' w.heap.size #[.string ⟨#[]⟩, .int .i64 0, .bool false] 68 := by unfold Bk at hR3 ⊢; rw [hbW.block _ (Array.getElem?_eq_some_iff.1 hR3).1 hne2]; exact hR3
    have hCW := hC3.bx hbW hM'
    have hx := (Bx.of (mb := mb) hb03).trans hbW
    clear hb0 hB0 h0 c2 hl hb1 hC1 hR1 Hmb Hu hw2 hb3 hbx hb23 hmb3 HF hR3 hbW hb03
    have t0 : W'.cell? ⟨w3.heap.size, 0, none⟩ = some (.string ⟨nm.toArray⟩) := hTW.cell 0
    have t1 : W'.cell? ⟨w3.heap.size, 1, none⟩ = some (.int .i64 (sl : Int)) := hTW.cell 1
    have t2 : W'.cell? ⟨w3.heap.size, 2, none⟩ = some (.bool rt) := hTW.cell 2
    have s0 : W'.cell? ⟨w.heap.size, 0, none⟩ = some (.string ⟨#[]⟩) := hRW.cell 0
    have s1 : W'.cell? ⟨w.heap.size, 1, none⟩ = some (.int .i64 0) := hRW.cell 1
    have s2 : W'.cell? ⟨w.heap.size, 2, none⟩ = some (.bool false) := hRW.cell 2
    have z0 := hRW.frozen 0
    have z1 := hRW.frozen 1
    have z2 := hRW.frozen 2
    have b3 := hRW.set 0 (.string ⟨nm.toArray⟩)
    have b4 := b3.set 1 (.int .i64 (sl : Int))
    have b5 := b4.set 2 (.bool rt)
    have hbs : Below w.heap.size W' (((W'.setCell ⟨w.heap.size, 0, none⟩ (.string ⟨nm.toArray⟩)).setCell ⟨w.heap.size, 1, none⟩ (.int .i64 (sl : Int))).setCell ⟨w.heap.size, 2, none⟩ (.bool rt)) :=
      (((Below.refl _ _).setCell (p := ⟨w.heap.size, 0, none⟩) (Nat.le_refl _) _).setCell (p := ⟨w.heap.size, 1, none⟩) (Nat.le_refl _) _).setCell (p := ⟨w.heap.size, 2, none⟩) (Nat.le_refl _) _
    have B5 := hide b5
    have Hx := hide hx
    have Hbs := hide hbs
    have HCW := hide hCW
    clear b3 b4 b5 hx hbs hCW hTW hRW hne1 hne2 hC3 hT3 hM' hsz
    go_wp2
    go_region
    all_goals
      go_wp2
      refine bodyPost_ret (results_cell_row Tryd.results45 _ _ w.heap.size 68 _ (0, 0) _ rfl (unhide B5) Tryd.underlying68 rfl (by kernel_rfl)) rfl ?_
      have hxs : Bx mb w (((W'.setCell ⟨w.heap.size, 0, none⟩ (.string ⟨nm.toArray⟩)).setCell ⟨w.heap.size, 1, none⟩ (.int .i64 (sl : Int))).setCell ⟨w.heap.size, 2, none⟩ (.bool rt)) :=
        ⟨(unhide Hbs).os.trans (unhide Hx).os, (unhide Hbs).tape.trans (unhide Hx).tape, (unhide Hbs).output.trans (unhide Hx).output, Nat.le_trans (unhide Hx).size (unhide Hbs).size, fun k hk hne => ((unhide Hbs).block k hk).trans ((unhide Hx).block k hk hne)⟩
      have hmps : Mp P (((W'.setCell ⟨w.heap.size, 0, none⟩ (.string ⟨nm.toArray⟩)).setCell ⟨w.heap.size, 1, none⟩ (.int .i64 (sl : Int))).setCell ⟨w.heap.size, 2, none⟩ (.bool rt)) mb := by
        obtain ⟨es, ck, hm2, he⟩ := (unhide HCW).mp
        obtain ⟨es2, ck2, hm3, _⟩ := h.mp
        exact ⟨es, ck, by rw [(unhide Hbs).block mb (Array.getElem?_eq_some_iff.1 hm3).1]; exact hm2, he⟩
      exact ⟨rfl, hxs, h.bx hxs hmps⟩
end Go.Proofs.YtejbnbilbagkmaaDoor.Ck
