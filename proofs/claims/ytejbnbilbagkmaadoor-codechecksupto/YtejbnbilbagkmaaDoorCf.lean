/-
  CodeChecks: the reference's Check.
-/
import Derived.Test.YtejbnbilbagkmaaDoorCe
import Derived.Test.YtejbnbilbagkmaaDoorCb
namespace Go.Proofs.YtejbnbilbagkmaaDoor.Ck
open Go.RowKit Kn
set_option linter.unusedVariables false
set_option linter.unusedSimpArgs false

/-- The first instruction whose operand may not be. -/
def okB (P : List K) (locals : Int) (g : Cw.G) : Bool := locB g.op g.a locals && opdB P g.op g.a g.b
def chk (P : List K) (locals : Int) : List Cw.G → Option Int
  | [] => none
  | g :: l => if okB P locals g then chk P locals l else some g.at_
def chkE : Option Int → Int × Int
  | none => (0, 0)
  | some a => (15, a)
theorem chk_at {P : List K} {locals : Int} : ∀ {L : List Cw.G} {k : Nat}, (∀ j (h : j < L.length), j < k → okB P locals L[j] = true) → k ≤ L.length → chk P locals L = chk P locals (L.drop k)
  | L, 0, _, _ => by simp
  | [], k + 1, _, h => by simp at h
  | g :: L, k + 1, h, hk => by
    have h0 := h 0 (by simp) (by omega)
    simp only [List.getElem_cons_zero] at h0
    rw [chk, if_pos h0, List.drop_succ_cons]
    exact chk_at (fun j hj hjk => by have := h (j + 1) (by simp; omega) (by omega); simpa using this) (by simpa using hk)
theorem chk_bad {P : List K} {locals : Int} {L : List Cw.G} {k : Nat} (hk : k < L.length) (h : okB P locals L[k] = false) : chk P locals (L.drop k) = some (L[k]).at_ := by
  rw [List.drop_eq_getElem_cons hk, chk, if_neg (by rw [h]; simp)]

theorem GHas.below {w w' : World} {v : Value} {L : List Cw.V} (h : Cw.GHas w v L) (hb : Below w.heap.size w w') : Cw.GHas w' v L := by
  refine ⟨?_, fun c hc => (h.fit c hc).below hb⟩
  obtain ⟨ad, cap, e, hc⟩ := h.form
  refine ⟨ad, cap, e, fun hne => ?_⟩
  obtain ⟨b, o, e1, hk⟩ := hc hne
  refine ⟨b, o, e1, fun k hk1 i hi => ?_⟩
  have h5 := hk k hk1 i hi
  have hci : (L[k]).arr[i]? = some ((L[k]).arr[i]'(by show i < 8; exact hi)) := Array.getElem?_eq_getElem _
  rw [hci] at h5 ⊢
  rw [hb.cell (cell_lt h5)]; exact h5

set_option maxRecDepth 100000 in
set_option maxHeartbeats 4000000 in
theorem RCheck_any (L : List Cw.V) (v pv : Value) (P : List K) (locals : Int) (w : World) (hL : Cw.GHas w v L) (hl : L.length ≤ 100000) (hk : KIn w pv P) (hP : P.length ≤ 1048576) (hS : Small P) (hwf : (Lit.int .i64 locals).wf = true) :
    Calls Tryd.prog 19 #[v, pv, .int .i64 locals] w fun e w' => e = .returned (.tuple #[.int .i64 (chkE (chk P locals (L.map Cw.V.g))).1, .int .i64 (chkE (chk P locals (L.map Cw.V.g))).2]) ∧ Below w.heap.size w w' := by
  obtain ⟨ad, cap, e, _⟩ := hL.form
  subst e
  have HL := hide hL
  have HK := hide hk
  obtain ⟨R, hR⟩ : ∃ R, R = chk P locals (L.map Cw.V.g) := ⟨_, rfl⟩
  rw [← hR]
  have HR := hide hR
  clear hR hL hk
  go_enter Tryd.func19, Tryd.ntmps19
  go_wp2_with fail
  go_loopw [12] (fun y wx => ∃ k : Nat, k ≤ L.length ∧ y = .int .i64 (k : Int) ∧ Hid (∀ j (h : j < (L.map Cw.V.g).length), j < k → okB P locals (L.map Cw.V.g)[j] = true) ∧ Below w.heap.size w wx) (fun y _ => L.length - (intOf y).toNat)
  case atStart => exact ⟨0, Nat.zero_le _, rfl, fun j _ hj => absurd hj (Nat.not_lt_zero _), Below.refl _ _⟩
  case round =>
    obtain ⟨k, hkl, rfl, HN, hbe⟩ := hrel
    by_cases hlt : k < L.length
    · have hLr := GHas.below (unhide HL) hbe
      have hKr := (unhide HK).below hbe
      obtain ⟨ad2, cap2, e2, hc2⟩ := hLr.form
      obtain ⟨b, o, e3, hc3⟩ := hc2 (by intro e; subst e; simp at hlt)
      cases e2
      subst e3
      have hfit := hLr.fit _ (List.getElem_mem hlt)
      have ho := hfit.ok.op
      obtain ⟨q1, q2, ekv⟩ := hfit.ok.k.form
      obtain ⟨q3, q4, etv⟩ := hfit.ok.t.form
      obtain ⟨a0, a1, a2, a3, a4, a5, a6, a7⟩ := Cw.At8v.of (hc3 k hlt)
      have hml : k < (L.map Cw.V.g).length := by simpa using hlt
      have hg : (L.map Cw.V.g)[k] = (L[k]).g := by simp
      generalize hcc : L[k] = c at *
      clear hc2 hc3 hfit
      have hbx := (Below.refl wr.heap.size wr).alloc (Nat.le_refl _) (.cells c.arr 50)
      have hX := Bk.new wr c.arr 50
      have hKx := hKr.below hbx
      have hbex := hbe.trans (hbx.mono hbe.size)
      have hRm := hide (fun W => room_any c locals W ho hwf)
      have hOp := hide (fun W (hW : KIn W pv P) => operand_any c pv P W ⟨hW, hP, hS, ho⟩)
      have hok : okB P locals c.g = (locB c.g.op c.g.a locals && opdB P c.g.op c.g.a c.g.b) := rfl
      have hgat : ∀ z, z = c.g.at_ → z = c.g.at_ := fun _ h => h
      have hres : okB P locals c.g = false → R = some c.g.at_ := by
        intro hb
        rw [unhide HR, chk_at (unhide HN) (by simp; omega)]
        have := chk_bad hml (by rw [hg]; exact hb)
        rw [this, hg]
      have hnext : okB P locals c.g = true → Hid (∀ j (h : j < (L.map Cw.V.g).length), j < k + 1 → okB P locals (L.map Cw.V.g)[j] = true) := by
        intro ht j hj hjk
        by_cases e : j = k
        · subst e; rw [hg]; exact ht
        · exact unhide HN j hj (by omega)
      have Hres := hide hres
      have Hnext := hide hnext
      generalize locB c.g.op c.g.a locals = lb at *
      generalize opdB P c.g.op c.g.a c.g.b = ob at *
      have Hok := hide hok
      clear hgat hres hnext hok hg hml hcc ho hbe HN
      obtain ⟨⟨at_, op, wide, a, b', low, keys, tgts⟩, kv, tv⟩ := c
      unfold Cw.V.arr at *
      simp only at *
      subst ekv
      subst etv
      have hki : (k : Int) < (L.length : Int) := by omega
      go_wp2_with fail
      generalize wr.alloc (.cells #[.int .i64 at_, .int .u8 (op : Int), .bool wide, .int .i64 a, .int .i64 b', .int .i64 low, .slice q1 keys.length q2, .slice q3 tgts.length q4] 50) = wx at *
      refine (unhide hRm _).mono ?_
      rintro e w3 ⟨rfl, hb3⟩
      have hX3 := hX.below hb3
      have hK3 := hKx.below hb3
      have hbe3 := hbex.trans (hb3.mono hbex.size)
      have hg0 := wr.heap.size
      have p0 := hX3.cell 0
      have p1 := hX3.cell 1
      have p2 := hX3.cell 2
      have p3 := hX3.cell 3
      have p4 := hX3.cell 4
      have p5 := hX3.cell 5
      have p6 := hX3.cell 6
      have p7 := hX3.cell 7
      simp only [List.getElem?_toArray, List.getElem?_cons_zero, List.getElem?_cons_succ] at p0 p1 p2 p3 p4 p5 p6 p7
      cases lb
      · have hv : R = some at_ := unhide Hres (by rw [unhide Hok]; rfl)
        subst hv
        go_wp2
        go_region
        all_goals
          go_wp2
          go_ret2
          exact ⟨rfl, hbe3.drew⟩
      · go_wp2_with fail
        refine (unhide hOp _ hK3).mono ?_
        rintro e w4 ⟨rfl, hb4⟩
        have hbe4 := hbe3.trans (hb4.mono hbe3.size)
        have r0 := (hX3.below hb4).cell 0
        simp only [List.getElem?_toArray, List.getElem?_cons_zero] at r0
        clear p0 p1 p2 p3 p4 p5 p6 p7
        cases ob
        · have hv : R = some at_ := unhide Hres (by rw [unhide Hok]; rfl)
          subst hv
          go_wp2
          go_region
          all_goals
            go_wp2
            go_ret2
            exact ⟨rfl, hbe4.drew⟩
        · have hv := unhide Hnext (by rw [unhide Hok]; rfl)
          have Hv := hide hv
          clear hv
          go_wp2
          go_roundw
          case rel => exact ⟨k + 1, by omega, by simp, unhide Hv, hbe4⟩
          case measure => simp [intOf]; omega
    · obtain rfl : k = L.length := by omega
      have hR2 : R = none := by
        rw [unhide HR, chk_at (unhide HN) (by simp), List.drop_eq_nil_of_le (by simp)]
        rfl
      subst hR2
      clear HN HR
      go_wp2
      go_ret2
      exact ⟨rfl, hbe⟩
end Go.Proofs.YtejbnbilbagkmaaDoor.Ck
