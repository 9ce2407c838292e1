/-
  CodeChecks: the program's Check, given what indexHolds answers.
-/
import Derived.Test.YtejbnbilbagkmaaDoorCn
import Derived.Test.YtejbnbilbagkmaaDoorCf
namespace Go.Proofs.YtejbnbilbagkmaaDoor.Ck
open Go.RowKit Kn
set_option linter.unusedVariables false
set_option linter.unusedSimpArgs false

/-- What indexHolds answers. -/
def IdxC : Prop := ∀ (c : Cw.V) (cb mb : Nat) (pv : Value) (P : List K) (w : World), c.g.op < 256 → Ch w cb mb pv P → P.length ≤ 1048576 → Small P →
  Calls Tryd.prog 32 #[.pointer (some ⟨cb, 0, none⟩), .agg c.arr] w fun e w' => e = .returned (.bool (opdB P c.g.op c.g.a c.g.b)) ∧ Bx mb w w' ∧ Ch w' cb mb pv P
theorem Bx.below {B mb : Nat} {w0 w w' : World} (h : Bx mb w w') (hb : Below B w0 w) (hB : B ≤ w.heap.size) (hm : B ≤ mb) : Below B w0 w' :=
  ⟨h.os.trans hb.os, h.tape.trans hb.tape, h.output.trans hb.output, Nat.le_trans hb.size h.size, fun k hk => (h.block k (by omega) (by omega)).trans (hb.block k hk)⟩

set_option maxRecDepth 100000 in
set_option maxHeartbeats 4000000 in
theorem Check_of (HI : IdxC) (L : List Cw.V) (v pv : Value) (P : List K) (locals : Int) (w : World) (hL : Cw.GHas w v L) (hl : L.length ≤ 100000) (hk : KIn w pv P) (hP : P.length ≤ 1048576) (hS : Small P) (hm : Mx w) (hwf : (Lit.int .i64 locals).wf = true) :
    Calls Tryd.prog 18 #[v, pv, .int .i64 locals] w fun e w' => e = .returned (.tuple #[.int .i64 (chkE (chk P locals (L.map Cw.V.g))).1, .int .i64 (chkE (chk P locals (L.map Cw.V.g))).2]) ∧ Below w.heap.size w w' := by
  obtain ⟨ad, cap, e, _⟩ := hL.form
  subst e
  obtain ⟨pa, pc, pe, _⟩ := hk.ex
  subst pe
  have HL := hide hL
  have HI2 := hide HI
  obtain ⟨R, hR⟩ : ∃ R, R = chk P locals (L.map Cw.V.g) := ⟨_, rfl⟩
  rw [← hR]
  have HR := hide hR
  have hb1 := (Below.refl w.heap.size w).alloc (Nat.le_refl _) (.map #[] 0)
  have hb2 := hb1.alloc (by simp) (.cells #[.slice pa P.length pc, .int .i64 locals, .map (some w.heap.size)] 54)
  have hB2 := Bk.new (w.alloc (.map #[] 0)) #[.slice pa P.length pc, .int .i64 locals, .map (some w.heap.size)] 54
  have hmap0 : ((w.alloc (.map #[] 0)).alloc (.cells #[.slice pa P.length pc, .int .i64 locals, .map (some w.heap.size)] 54)).heap[w.heap.size]? = some (.map #[] 0) := by
    have h1 := (MapKept.heap_alloc w (.map #[] 0)).1
    rw [(MapKept.heap_alloc (w.alloc (.map #[] 0)) _).2 _ (by simp)]
    exact h1
  have hmp : Mp P ((w.alloc (.map #[] 0)).alloc (.cells #[.slice pa P.length pc, .int .i64 locals, .map (some w.heap.size)] 54)) w.heap.size := ⟨#[], 0, hmap0, fun x hx => by simp at hx⟩
  have hC : Ch ((w.alloc (.map #[] 0)).alloc (.cells #[.slice pa P.length pc, .int .i64 locals, .map (some w.heap.size)] 54)) (w.heap.size + 1) w.heap.size (.slice pa P.length pc) P := by
    have h0 : (w.alloc (.map #[] 0)).heap.size = w.heap.size + 1 := by simp
    rw [h0] at hB2
    exact ⟨hB2.cell 0, hB2.cell 2, hmp, hk.below hb2, hm.below hb2⟩
  have hl1 : ((w.alloc (.map #[] 0)).alloc (.cells #[.slice pa P.length pc, .int .i64 locals, .map (some w.heap.size)] 54)).cell? ⟨w.heap.size + 1, 1, none⟩ = some (.int .i64 locals) := by
    have h0 : (w.alloc (.map #[] 0)).heap.size = w.heap.size + 1 := by simp
    rw [h0] at hB2
    exact hB2.cell 1
  have HC := hide (And.intro hC (And.intro hl1 hb2))
  have hmm := @run_makeMap Tryd.prog
  clear hR hL hk hb1 hb2 hB2 hmap0 hmp hC hl1 HI
  go_enter Tryd.func18, Tryd.ntmps18
  go_wp2_with fail
  generalize (w.alloc (.map #[] 0)).alloc (.cells #[.slice pa P.length pc, .int .i64 locals, .map (some w.heap.size)] 54) = wc at *
  go_loopw [17] (fun y wx => ∃ k : Nat, k ≤ L.length ∧ y = .int .i64 (k : Int) ∧ Hid (∀ j (h : j < (L.map Cw.V.g).length), j < k → okB P locals (L.map Cw.V.g)[j] = true) ∧ Ch wx (w.heap.size + 1) w.heap.size (.slice pa P.length pc) P ∧ wx.cell? ⟨w.heap.size + 1, 1, none⟩ = some (.int .i64 locals) ∧ Below w.heap.size w wx) (fun y _ => L.length - (intOf y).toNat)
  case atStart => exact ⟨0, Nat.zero_le _, rfl, fun j _ hj => absurd hj (Nat.not_lt_zero _), (unhide HC).1, (unhide HC).2.1, (unhide HC).2.2⟩
  case round =>
    obtain ⟨k, hkl, rfl, HN, hCr, hlr, hbe⟩ := hrel
    clear HC
    by_cases hlt : k < L.length
    · have hLr := GHas.below (unhide HL) hbe
      obtain ⟨ad2, cap2, e2, hc2⟩ := hLr.form
      obtain ⟨b, o, e3, hc3⟩ := hc2 (by intro e; subst e; simp at hlt)
      cases e2
      subst e3
      have hfit := hLr.fit _ (List.getElem_mem hlt)
      have ho := hfit.ok.op
      obtain ⟨q1, q2, ekv⟩ := hfit.ok.k.form
      obtain ⟨q3, q4, etv⟩ := hfit.ok.t.form
      obtain ⟨a0, a1, a2, a3, a4, a5, a6, a7⟩ := Cw.At8v.of (hc3 k hlt)
      have hml : k < (L.map Cw.V.g).length := by simpa using hlt
      have hg : (L.map Cw.V.g)[k] = (L[k]).g := by simp
      generalize hcc : L[k] = c at *
      clear hc2 hc3 hfit
      have hbx := (Below.refl wr.heap.size wr).alloc (Nat.le_refl _) (.cells c.arr 50)
      have hX := Bk.new wr c.arr 50
      have hCx := hCr.below hbx
      have hlx : (wr.alloc (.cells c.arr 50)).cell? ⟨w.heap.size + 1, 1, none⟩ = some (.int .i64 locals) := by rw [hbx.cell (cell_lt hlr)]; exact hlr
      have hbex := hbe.trans (hbx.mono hbe.size)
      have hRm := hide (fun W h => localHolds_any c (w.heap.size + 1) locals W ho h hwf)
      have hOp := hide (fun W (hW : Ch W (w.heap.size + 1) w.heap.size (.slice pa P.length pc) P) => unhide HI2 c (w.heap.size + 1) w.heap.size (.slice pa P.length pc) P W ho hW hP hS)
      have hok : okB P locals c.g = (locB c.g.op c.g.a locals && opdB P c.g.op c.g.a c.g.b) := rfl
      have hres : okB P locals c.g = false → R = some c.g.at_ := by
        intro hb
        rw [unhide HR, chk_at (unhide HN) (by simp; omega)]
        have := chk_bad hml (by rw [hg]; exact hb)
        rw [this, hg]
      have hnext : okB P locals c.g = true → Hid (∀ j (h : j < (L.map Cw.V.g).length), j < k + 1 → okB P locals (L.map Cw.V.g)[j] = true) := by
        intro ht j hj hjk
        by_cases e : j = k
        · subst e; rw [hg]; exact ht
        · exact unhide HN j hj (by omega)
      have Hres := hide hres
      have Hnext := hide hnext
      generalize locB c.g.op c.g.a locals = lb at *
      generalize opdB P c.g.op c.g.a c.g.b = ob at *
      have Hok := hide hok
      have hsz : w.heap.size ≤ wr.heap.size := hbe.size
      clear hres hnext hok hg hml hcc ho hbe HN hCr hlr HI2
      obtain ⟨⟨at_, op, wide, a, b', low, keys, tgts⟩, kv, tv⟩ := c
      unfold Cw.V.arr at *
      simp only at *
      subst ekv
      subst etv
      have hki : (k : Int) < (L.length : Int) := by omega
      go_wp2_with fail
      generalize hwx : wr.alloc (.cells #[.int .i64 at_, .int .u8 (op : Int), .bool wide, .int .i64 a, .int .i64 b', .int .i64 low, .slice q1 keys.length q2, .slice q3 tgts.length q4] 50) = wx at *
      refine (unhide hRm _ hlx).mono ?_
      rintro e w3 ⟨rfl, hb3⟩
      have hX3 := hX.below hb3
      have hC3 := hCx.below hb3
      have hl3 : w3.cell? ⟨w.heap.size + 1, 1, none⟩ = some (.int .i64 locals) := by rw [hb3.cell (cell_lt hlx)]; exact hlx
      have hbe3 := hbex.trans (hb3.mono hbex.size)
      have p0 := hX3.cell 0
      have p1 := hX3.cell 1
      have p2 := hX3.cell 2
      have p3 := hX3.cell 3
      have p4 := hX3.cell 4
      have p5 := hX3.cell 5
      have p6 := hX3.cell 6
      have p7 := hX3.cell 7
      simp only [List.getElem?_toArray, List.getElem?_cons_zero, List.getElem?_cons_succ] at p0 p1 p2 p3 p4 p5 p6 p7
      cases lb
      · have hv : R = some at_ := unhide Hres (by rw [unhide Hok]; rfl)
        subst hv
        go_wp2
        go_region
        all_goals
          go_wp2
          go_ret2
          exact ⟨rfl, hbe3.drew⟩
      · go_wp2_with fail
        refine (unhide hOp _ hC3).mono ?_
        rintro e w4 ⟨rfl, hb4, hC4⟩
        have hbe4 : Below w.heap.size w w4 := hb4.below hbe3 hbe3.size (Nat.le_refl _)
        have r0 : w4.cell? ⟨wr.heap.size, 0, none⟩ = some (.int .i64 at_) := hb4.cell hC3.mp p0
        have hl4 : w4.cell? ⟨w.heap.size + 1, 1, none⟩ = some (.int .i64 locals) := hb4.cell hC3.mp hl3
        clear p0 p1 p2 p3 p4 p5 p6 p7
        cases ob
        · have hv : R = some at_ := unhide Hres (by rw [unhide Hok]; rfl)
          subst hv
          go_wp2
          go_region
          all_goals
            go_wp2
            go_ret2
            exact ⟨rfl, hbe4.drew⟩
        · have hv := unhide Hnext (by rw [unhide Hok]; rfl)
          have Hv := hide hv
          have HC4 := hide hC4
          have HL4 := hide hl4
          clear hv hC4 hl4
          go_wp2
          go_roundw
          case rel => exact ⟨k + 1, by omega, by simp, unhide Hv, unhide HC4, unhide HL4, hbe4⟩
          case measure => simp [intOf]; omega
    · obtain rfl : k = L.length := by omega
      have hR2 : R = none := by
        rw [unhide HR, chk_at (unhide HN) (by simp), List.drop_eq_nil_of_le (by simp)]
        rfl
      subst hR2
      clear HN HR
      go_wp2
      go_ret2
      exact ⟨rfl, hbe⟩
end Go.Proofs.YtejbnbilbagkmaaDoor.Ck
