/-
  CodeChecks: the local of an instruction, of the reference.
  CodeChecks: the reference's Check.
  CodeChecks: the program's Check, given what indexHolds answers.
-/
import Derived.Test.YtddhlphbbiihjaaGreatDoorCe
set_option linter.unusedVariables false
set_option linter.unusedSimpArgs false
namespace Go.Proofs.YtddhlphbbiihjaaGreatDoor.Ck
open Go.RowKit

theorem form_any (op : Nat) (w : World) (ho : op < 256) : Calls Tryz.prog 115 #[.int .i64 (op : Int)] w fun e w' => e = .returned (.string ⟨#[Fm.sign op]⟩) ∧ w' = w := by
  by_cases h : op < 201
  · exact Fm.form_low op w h
  · exact Fm.form_high op w (by omega) ho
def twoB (op : Nat) : Bool := decide (locT op = 1 ∨ locT op = 3)

set_option maxRecDepth 100000 in
set_option maxHeartbeats 4000000 in
theorem RLocal_any (c : Cw.V) (w : World) (hh : hasL c.g.op = true) :
    Calls Tryz.prog 118 #[.agg c.arr] w fun e w' => e = .returned (.tuple #[.int .i64 (locN c.g.op c.g.a), .bool (twoB c.g.op)]) ∧ Below w.heap.size w w' := by
  obtain ⟨⟨at_, op, wide, a, b, low, keys, tgts⟩, kv, tv⟩ := c
  unfold Cw.V.arr
  simp only at hh ⊢
  have hb0 := (Below.refl w.heap.size w).alloc (Nat.le_refl _) (.cells #[.int .i64 at_, .int .u8 (op : Int), .bool wide, .int .i64 a, .int .i64 b, .int .i64 low, kv, tv] 112)
  have hop : op = 21 ∨ op = 22 ∨ op = 23 ∨ op = 24 ∨ op = 25 ∨ op = 26 ∨ op = 27 ∨ op = 28 ∨ op = 29 ∨ op = 30 ∨ op = 31 ∨ op = 32 ∨ op = 33 ∨ op = 34 ∨ op = 35 ∨ op = 36 ∨ op = 37 ∨ op = 38 ∨ op = 39 ∨ op = 40 ∨ op = 41 ∨ op = 42 ∨ op = 43 ∨ op = 44 ∨ op = 45 ∨ op = 54 ∨ op = 55 ∨ op = 56 ∨ op = 57 ∨ op = 58 ∨ op = 59 ∨ op = 60 ∨ op = 61 ∨ op = 62 ∨ op = 63 ∨ op = 64 ∨ op = 65 ∨ op = 66 ∨ op = 67 ∨ op = 68 ∨ op = 69 ∨ op = 70 ∨ op = 71 ∨ op = 72 ∨ op = 73 ∨ op = 74 ∨ op = 75 ∨ op = 76 ∨ op = 77 ∨ op = 78 ∨ op = 132 := by
    unfold hasL at hh
    simp at hh
    omega
  clear hh
  rcases hop with rfl | rfl | rfl | rfl | rfl | rfl | rfl | rfl | rfl | rfl | rfl | rfl | rfl | rfl | rfl | rfl | rfl | rfl | rfl | rfl | rfl | rfl | rfl | rfl | rfl | rfl | rfl | rfl | rfl | rfl | rfl | rfl | rfl | rfl | rfl | rfl | rfl | rfl | rfl | rfl | rfl | rfl | rfl | rfl | rfl | rfl | rfl | rfl | rfl | rfl | rfl
  all_goals
    have Hb := hide hb0
    clear hb0
    go_enter Tryz.func118, Tryz.ntmps118
    go_wp2
    go_ret2
    exact ⟨rfl, unhide Hb⟩

theorem sign_no : ∀ k : Fin 256, hasL k.val = false → Fm.sign k.val = 119 ∨ Fm.sign k.val = 98 ∨ Fm.sign k.val = 115 ∨ Fm.sign k.val = 99 ∨ Fm.sign k.val = 105 ∨ Fm.sign k.val = 106 ∨ Fm.sign k.val = 74 ∨ Fm.sign k.val = 102 ∨ Fm.sign k.val = 97 ∨ Fm.sign k.val = 109 ∨ Fm.sign k.val = 116 ∨ Fm.sign k.val = 107 ∨ Fm.sign k.val = 120 ∨ Fm.sign k.val = 46 := by decide +kernel
theorem sign_yes : ∀ k : Fin 256, hasL k.val = true → Fm.sign k.val = 108 ∨ Fm.sign k.val = 110 ∨ (Fm.sign k.val = 46 ∧ 26 ≤ k.val ∧ k.val ≤ 45) ∨ (Fm.sign k.val = 46 ∧ 59 ≤ k.val ∧ k.val ≤ 78) := by decide +kernel

set_option maxRecDepth 100000 in
set_option maxHeartbeats 4000000 in
theorem room_no (c : Cw.V) (locals : Int) (w : World) (ho : c.g.op < 256) (hh : hasL c.g.op = false) :
    Calls Tryz.prog 96 #[.agg c.arr, .int .i64 locals] w fun e w' => e = .returned (.bool true) ∧ Below w.heap.size w w' := by
  obtain ⟨⟨at_, op, wide, a, b, low, keys, tgts⟩, kv, tv⟩ := c
  unfold Cw.V.arr
  simp only at hh ho ⊢
  have hb0 := (Below.refl w.heap.size w).alloc (Nat.le_refl _) (.cells #[.int .i64 at_, .int .u8 (op : Int), .bool wide, .int .i64 a, .int .i64 b, .int .i64 low, kv, tv] 112)
  have HF := fun w => form_any op w ho
  have hs := sign_no ⟨op, ho⟩ hh
  simp only at hs
  have r1 : (26 ≤ (op : Int) → ¬ (op : Int) ≤ 45) ∧ (59 ≤ (op : Int) → ¬ (op : Int) ≤ 78) := by
    unfold hasL at hh
    simp at hh
    omega
  obtain ⟨r1, r2⟩ := r1
  have Hb := hide hb0
  have hoi : (op : Int) < 256 := by omega
  clear hb0 hh ho
  obtain ⟨sg, hsg⟩ : ∃ sg, sg = Fm.sign op := ⟨_, rfl⟩
  rw [← hsg] at HF hs
  have hs1 : (sg == 108) = false := by rw [beq_eq_false_iff_ne]; rintro rfl; simp at hs
  have hs2 : (sg == 110) = false := by rw [beq_eq_false_iff_ne]; rintro rfl; simp at hs
  have HF2 := hide HF
  clear HF hs hsg
  by_cases p2 : 59 ≤ (op : Int)
  · have p1 : 26 ≤ (op : Int) := by omega
    have p3 : decide ((op : Int) ≤ 45) = false := decide_eq_false (r1 p1)
    have p4 : decide ((op : Int) ≤ 78) = false := decide_eq_false (r2 p2)
    clear r1 r2
    go_enter Tryz.func96, Tryz.ntmps96
    go_wp2_with fail
    refine (unhide HF2 _).mono ?_
    rintro e w' ⟨rfl, hww⟩
    subst w'
    go_wp2_with fail
    refine (unhide HF2 _).mono ?_
    rintro e w' ⟨rfl, hww⟩
    subst w'
    go_wp2
    go_ret
    exact ⟨rfl, unhide Hb⟩
  · by_cases p1 : 26 ≤ (op : Int)
    · have p3 : decide ((op : Int) ≤ 45) = false := decide_eq_false (r1 p1)
      clear r1 r2
      go_enter Tryz.func96, Tryz.ntmps96
      go_wp2_with fail
      refine (unhide HF2 _).mono ?_
      rintro e w' ⟨rfl, hww⟩
      subst w'
      go_wp2_with fail
      refine (unhide HF2 _).mono ?_
      rintro e w' ⟨rfl, hww⟩
      subst w'
      go_wp2
      go_ret
      exact ⟨rfl, unhide Hb⟩
    · clear r1 r2
      go_enter Tryz.func96, Tryz.ntmps96
      go_wp2_with fail
      refine (unhide HF2 _).mono ?_
      rintro e w' ⟨rfl, hww⟩
      subst w'
      go_wp2_with fail
      refine (unhide HF2 _).mono ?_
      rintro e w' ⟨rfl, hww⟩
      subst w'
      go_wp2
      go_ret
      exact ⟨rfl, unhide Hb⟩

set_option maxRecDepth 100000 in
set_option maxHeartbeats 4000000 in
theorem room_yes (c : Cw.V) (locals : Int) (w : World) (ho : c.g.op < 256) (hh : hasL c.g.op = true) (hlo : -9223372036854775808 ≤ locals) (hhi : locals ≤ 9223372036854775807) :
    Calls Tryz.prog 96 #[.agg c.arr, .int .i64 locals] w fun e w' => e = .returned (.bool (locB c.g.op c.g.a locals)) ∧ Below w.heap.size w w' := by
  have HR := hide (fun w => RLocal_any c w hh)
  have HF := hide (fun w => form_any c.g.op w ho)
  have hs := sign_yes ⟨c.g.op, ho⟩ hh
  simp only at hs
  obtain ⟨r, hr⟩ : ∃ r, r = locB c.g.op c.g.a locals := ⟨_, rfl⟩
  rw [← hr]
  unfold locB at hr
  rw [if_neg (by rw [hh]; simp)] at hr
  have htw : twoB c.g.op = decide (locT c.g.op = 1 ∨ locT c.g.op = 3) := rfl
  generalize twoB c.g.op = tw at *
  generalize locN c.g.op c.g.a = n at *
  generalize locT c.g.op = t at *
  generalize Fm.sign c.g.op = sg at *
  have hr2 : r = if n < 0 ∨ locals ≤ n then false else (!tw || decide (1 < locals - n)) := by
    rw [hr, htw]
    split
    · rfl
    · rw [Bool.eq_iff_iff]
      simp
      omega
  have hb0 := (Below.refl w.heap.size w).alloc (Nat.le_refl _) (.cells c.arr 112)
  obtain ⟨⟨at_, op, wide, a, b, low, keys, tgts⟩, kv, tv⟩ := c
  unfold Cw.V.arr at hb0 HR ⊢
  simp only at hb0 HR HF hs ho ⊢
  have hoi : (op : Int) < 256 := by omega
  have Hb := hide hb0
  have Hr := hide hr2
  clear hb0 hr hr2 htw hh ho
  have K : ∀ W : World, Below w.heap.size w W → ∀ (Q : Exit → Act → World → Prop), True := fun _ _ _ => trivial
  clear K
  have hn : n < 0 ∨ (0 ≤ n ∧ locals ≤ n) ∨ (0 ≤ n ∧ n < locals ∧ 1 < locals - n) ∨ (0 ≤ n ∧ n < locals ∧ ¬ 1 < locals - n) := by omega
  rcases hs with hs | hs | ⟨hs, hs3, hs4⟩ | ⟨hs, hs3, hs4⟩ <;> rcases hn with hn | ⟨hn0, hn1⟩ | ⟨hn0, hn1, hn2⟩ | ⟨hn0, hn1, hn2⟩ <;> cases tw
  all_goals
    subst hs
    first | (have i3 : (26 : Int) ≤ (op : Int) := by omega) | skip
    first | (have i4 : (op : Int) ≤ 45 := by omega) | (have i4 : ¬ (op : Int) ≤ 45 := by omega) | skip
    first | (have i5 : (59 : Int) ≤ (op : Int) := by omega) | skip
    first | (have i6 : (op : Int) ≤ 78 := by omega) | skip
    have h0 : 0 ≤ locals - n ∨ True := .inr trivial
    first | (have h1 : ¬ n < 0 := by omega) | skip
    first | (have h2 : ¬ locals ≤ n := by omega) | skip
    first | (have h3 : IntKind.i64.wrap (locals - n) = locals - n := by rw [IntKind.wrap_i64]; omega) | skip
    first | (have h4 : wrap64 (locals - n) = locals - n := by unfold wrap64; omega) | skip
    clear h0
    go_enter Tryz.func96, Tryz.ntmps96
    go_wp2_with (first
      | (go_at_call 115; refine (unhide HF _).mono ?_; rintro e w' ⟨rfl, hww⟩; subst w')
      | fail)
    refine (unhide HR _).mono ?_
    rintro e w1 ⟨rfl, hb1⟩
    have hbz := (unhide Hb).trans (hb1.mono (unhide Hb).size)
    go_wp2
    go_ret
    refine ⟨?_, hbz⟩
    rw [unhide Hr]
    first
    | rfl
    | (rw [if_pos (by omega)]; rfl)
    | (rw [if_neg (by omega)]; simp [hn2]; try rfl)
/-- The reference's room is the program's. -/
theorem room_any (c : Cw.V) (locals : Int) (w : World) (ho : c.g.op < 256) (hwf : (Lit.int .i64 locals).wf = true) :
    Calls Tryz.prog 96 #[.agg c.arr, .int .i64 locals] w fun e w' => e = .returned (.bool (locB c.g.op c.g.a locals)) ∧ Below w.heap.size w w' := by
  cases hh : hasL c.g.op with
  | false =>
    rw [show locB c.g.op c.g.a locals = true by unfold locB; rw [if_pos hh]]
    exact room_no c locals w ho hh
  | true =>
    have h : IntKind.i64.min ≤ locals ∧ locals ≤ IntKind.i64.max := by simpa [Lit.wf] using hwf
    exact room_yes c locals w ho hh h.1 h.2
end Go.Proofs.YtddhlphbbiihjaaGreatDoor.Ck
namespace Go.Proofs.YtddhlphbbiihjaaGreatDoor.Ck
open Go.RowKit Kn

/-- The first instruction whose operand may not be. -/
def okB (P : List K) (locals : Int) (g : Cw.G) : Bool := locB g.op g.a locals && opdB P g.op g.a g.b
def chk (P : List K) (locals : Int) : List Cw.G → Option Int
  | [] => none
  | g :: l => if okB P locals g then chk P locals l else some g.at_
def chkE : Option Int → Int × Int
  | none => (0, 0)
  | some a => (15, a)
theorem chk_at {P : List K} {locals : Int} : ∀ {L : List Cw.G} {k : Nat}, (∀ j (h : j < L.length), j < k → okB P locals L[j] = true) → k ≤ L.length → chk P locals L = chk P locals (L.drop k)
  | L, 0, _, _ => by simp
  | [], k + 1, _, h => by simp at h
  | g :: L, k + 1, h, hk => by
    have h0 := h 0 (by simp) (by omega)
    simp only [List.getElem_cons_zero] at h0
    rw [chk, if_pos h0, List.drop_succ_cons]
    exact chk_at (fun j hj hjk => by have := h (j + 1) (by simp; omega) (by omega); simpa using this) (by simpa using hk)
theorem chk_bad {P : List K} {locals : Int} {L : List Cw.G} {k : Nat} (hk : k < L.length) (h : okB P locals L[k] = false) : chk P locals (L.drop k) = some (L[k]).at_ := by
  rw [List.drop_eq_getElem_cons hk, chk, if_neg (by rw [h]; simp)]

theorem GHas.below {w w' : World} {v : Value} {L : List Cw.V} (h : Cw.GHas w v L) (hb : Below w.heap.size w w') : Cw.GHas w' v L := by
  refine ⟨?_, fun c hc => (h.fit c hc).below hb⟩
  obtain ⟨ad, cap, e, hc⟩ := h.form
  refine ⟨ad, cap, e, fun hne => ?_⟩
  obtain ⟨b, o, e1, hk⟩ := hc hne
  refine ⟨b, o, e1, fun k hk1 i hi => ?_⟩
  have h5 := hk k hk1 i hi
  have hci : (L[k]).arr[i]? = some ((L[k]).arr[i]'(by show i < 8; exact hi)) := Array.getElem?_eq_getElem _
  rw [hci] at h5 ⊢
  rw [hb.cell (cell_lt h5)]; exact h5

set_option maxRecDepth 100000 in
set_option maxHeartbeats 4000000 in
theorem RCheck_any (L : List Cw.V) (v pv : Value) (P : List K) (locals : Int) (w : World) (hL : Cw.GHas w v L) (hl : L.length ≤ 100000) (hk : KIn w pv P) (hP : P.length ≤ 1048576) (hS : Small P) (hwf : (Lit.int .i64 locals).wf = true) :
    Calls Tryz.prog 76 #[v, pv, .int .i64 locals] w fun e w' => e = .returned (.tuple #[.int .i64 (chkE (chk P locals (L.map Cw.V.g))).1, .int .i64 (chkE (chk P locals (L.map Cw.V.g))).2]) ∧ Below w.heap.size w w' := by
  obtain ⟨ad, cap, e, _⟩ := hL.form
  subst e
  have HL := hide hL
  have HK := hide hk
  obtain ⟨R, hR⟩ : ∃ R, R = chk P locals (L.map Cw.V.g) := ⟨_, rfl⟩
  rw [← hR]
  have HR := hide hR
  clear hR hL hk
  go_enter Tryz.func76, Tryz.ntmps76
  go_wp2_with fail
  go_loopw [12] (fun y wx => ∃ k : Nat, k ≤ L.length ∧ y = .int .i64 (k : Int) ∧ Hid (∀ j (h : j < (L.map Cw.V.g).length), j < k → okB P locals (L.map Cw.V.g)[j] = true) ∧ Below w.heap.size w wx) (fun y _ => L.length - (intOf y).toNat)
  case atStart => exact ⟨0, Nat.zero_le _, rfl, fun j _ hj => absurd hj (Nat.not_lt_zero _), Below.refl _ _⟩
  case round =>
    obtain ⟨k, hkl, rfl, HN, hbe⟩ := hrel
    by_cases hlt : k < L.length
    · have hLr := GHas.below (unhide HL) hbe
      have hKr := (unhide HK).below hbe
      obtain ⟨ad2, cap2, e2, hc2⟩ := hLr.form
      obtain ⟨b, o, e3, hc3⟩ := hc2 (by intro e; subst e; simp at hlt)
      cases e2
      subst e3
      have hfit := hLr.fit _ (List.getElem_mem hlt)
      have ho := hfit.ok.op
      obtain ⟨q1, q2, ekv⟩ := hfit.ok.k.form
      obtain ⟨q3, q4, etv⟩ := hfit.ok.t.form
      obtain ⟨a0, a1, a2, a3, a4, a5, a6, a7⟩ := Cw.At8v.of (hc3 k hlt)
      have hml : k < (L.map Cw.V.g).length := by simpa using hlt
      have hg : (L.map Cw.V.g)[k] = (L[k]).g := by simp
      generalize hcc : L[k] = c at *
      clear hc2 hc3 hfit
      have hbx := (Below.refl wr.heap.size wr).alloc (Nat.le_refl _) (.cells c.arr 112)
      have hX := Bk.new wr c.arr 112
      have hKx := hKr.below hbx
      have hbex := hbe.trans (hbx.mono hbe.size)
      have hRm := hide (fun W => room_any c locals W ho hwf)
      have hOp := hide (fun W (hW : KIn W pv P) => operand_any c pv P W ⟨hW, hP, hS, ho⟩)
      have hok : okB P locals c.g = (locB c.g.op c.g.a locals && opdB P c.g.op c.g.a c.g.b) := rfl
      have hgat : ∀ z, z = c.g.at_ → z = c.g.at_ := fun _ h => h
      have hres : okB P locals c.g = false → R = some c.g.at_ := by
        intro hb
        rw [unhide HR, chk_at (unhide HN) (by simp; omega)]
        have := chk_bad hml (by rw [hg]; exact hb)
        rw [this, hg]
      have hnext : okB P locals c.g = true → Hid (∀ j (h : j < (L.map Cw.V.g).length), j < k + 1 → okB P locals (L.map Cw.V.g)[j] = true) := by
        intro ht j hj hjk
        by_cases e : j = k
        · subst e; rw [hg]; exact ht
        · exact unhide HN j hj (by omega)
      have Hres := hide hres
      have Hnext := hide hnext
      generalize locB c.g.op c.g.a locals = lb at *
      generalize opdB P c.g.op c.g.a c.g.b = ob at *
      have Hok := hide hok
      clear hgat hres hnext hok hg hml hcc ho hbe HN
      obtain ⟨⟨at_, op, wide, a, b', low, keys, tgts⟩, kv, tv⟩ := c
      unfold Cw.V.arr at *
      simp only at *
      subst ekv
      subst etv
      have hki : (k : Int) < (L.length : Int) := by omega
      go_wp2_with fail
      generalize wr.alloc (.cells #[.int .i64 at_, .int .u8 (op : Int), .bool wide, .int .i64 a, .int .i64 b', .int .i64 low, .slice q1 keys.length q2, .slice q3 tgts.length q4] 112) = wx at *
      refine (unhide hRm _).mono ?_
      rintro e w3 ⟨rfl, hb3⟩
      have hX3 := hX.below hb3
      have hK3 := hKx.below hb3
      have hbe3 := hbex.trans (hb3.mono hbex.size)
      have hg0 := wr.heap.size
      have p0 := hX3.cell 0
      have p1 := hX3.cell 1
      have p2 := hX3.cell 2
      have p3 := hX3.cell 3
      have p4 := hX3.cell 4
      have p5 := hX3.cell 5
      have p6 := hX3.cell 6
      have p7 := hX3.cell 7
      simp only [List.getElem?_toArray, List.getElem?_cons_zero, List.getElem?_cons_succ] at p0 p1 p2 p3 p4 p5 p6 p7
      cases lb
      · have hv : R = some at_ := unhide Hres (by rw [unhide Hok]; rfl)
        subst hv
        go_wp2
        go_region
        all_goals
          go_wp2
          go_ret2
          exact ⟨rfl, hbe3.drew⟩
      · go_wp2_with fail
        refine (unhide hOp _ hK3).mono ?_
        rintro e w4 ⟨rfl, hb4⟩
        have hbe4 := hbe3.trans (hb4.mono hbe3.size)
        have r0 := (hX3.below hb4).cell 0
        simp only [List.getElem?_toArray, List.getElem?_cons_zero] at r0
        clear p0 p1 p2 p3 p4 p5 p6 p7
        cases ob
        · have hv : R = some at_ := unhide Hres (by rw [unhide Hok]; rfl)
          subst hv
          go_wp2
          go_region
          all_goals
            go_wp2
            go_ret2
            exact ⟨rfl, hbe4.drew⟩
        · have hv := unhide Hnext (by rw [unhide Hok]; rfl)
          have Hv := hide hv
          clear hv
          go_wp2
          go_roundw
          case rel => exact ⟨k + 1, by omega, by simp, unhide Hv, hbe4⟩
          case measure => simp [intOf]; omega
    · obtain rfl : k = L.length := by omega
      have hR2 : R = none := by
        rw [unhide HR, chk_at (unhide HN) (by simp), List.drop_eq_nil_of_le (by simp)]
        rfl
      subst hR2
      clear HN HR
      go_wp2
      go_ret2
      exact ⟨rfl, hbe⟩
end Go.Proofs.YtddhlphbbiihjaaGreatDoor.Ck
namespace Go.Proofs.YtddhlphbbiihjaaGreatDoor.Ck
open Go.RowKit Kn

/-- What indexHolds answers. -/
def IdxC : Prop := ∀ (c : Cw.V) (cb mb : Nat) (pv : Value) (P : List K) (w : World), c.g.op < 256 → Ch w cb mb pv P → P.length ≤ 1048576 → Small P →
  Calls Tryz.prog 92 #[.pointer (some ⟨cb, 0, none⟩), .agg c.arr] w fun e w' => e = .returned (.bool (opdB P c.g.op c.g.a c.g.b)) ∧ Bx mb w w' ∧ Ch w' cb mb pv P
theorem Bx.below {B mb : Nat} {w0 w w' : World} (h : Bx mb w w') (hb : Below B w0 w) (hB : B ≤ w.heap.size) (hm : B ≤ mb) : Below B w0 w' :=
  ⟨h.os.trans hb.os, h.tape.trans hb.tape, h.output.trans hb.output, Nat.le_trans hb.size h.size, fun k hk => (h.block k (by omega) (by omega)).trans (hb.block k hk)⟩

set_option maxRecDepth 100000 in
set_option maxHeartbeats 4000000 in
theorem Check_of (HI : IdxC) (L : List Cw.V) (v pv : Value) (P : List K) (locals : Int) (w : World) (hL : Cw.GHas w v L) (hl : L.length ≤ 100000) (hk : KIn w pv P) (hP : P.length ≤ 1048576) (hS : Small P) (hm : Mx w) (hwf : (Lit.int .i64 locals).wf = true) :
    Calls Tryz.prog 65 #[v, pv, .int .i64 locals] w fun e w' => e = .returned (.tuple #[.int .i64 (chkE (chk P locals (L.map Cw.V.g))).1, .int .i64 (chkE (chk P locals (L.map Cw.V.g))).2]) ∧ Below w.heap.size w w' := by
  obtain ⟨ad, cap, e, _⟩ := hL.form
  subst e
  obtain ⟨pa, pc, pe, _⟩ := hk.ex
  subst pe
  have HL := hide hL
  have HI2 := hide HI
  obtain ⟨R, hR⟩ : ∃ R, R = chk P locals (L.map Cw.V.g) := ⟨_, rfl⟩
  rw [← hR]
  have HR := hide hR
  have hb1 := (Below.refl w.heap.size w).alloc (Nat.le_refl _) (.map #[] 0)
  have hb2 := hb1.alloc (by simp) (.cells #[.slice pa P.length pc, .int .i64 locals, .map (some w.heap.size)] 135)
  have hB2 := Bk.new (w.alloc (.map #[] 0)) #[.slice pa P.length pc, .int .i64 locals, .map (some w.heap.size)] 135
  have hmap0 : ((w.alloc (.map #[] 0)).alloc (.cells #[.slice pa P.length pc, .int .i64 locals, .map (some w.heap.size)] 135)).heap[w.heap.size]? = some (.map #[] 0) := by
    have h1 := (MapKept.heap_alloc w (.map #[] 0)).1
    rw [(MapKept.heap_alloc (w.alloc (.map #[] 0)) _).2 _ (by simp)]
    exact h1
  have hmp : Mp P ((w.alloc (.map #[] 0)).alloc (.cells #[.slice pa P.length pc, .int .i64 locals, .map (some w.heap.size)] 135)) w.heap.size := ⟨#[], 0, hmap0, fun x hx => by simp at hx⟩
  have hC : Ch ((w.alloc (.map #[] 0)).alloc (.cells #[.slice pa P.length pc, .int .i64 locals, .map (some w.heap.size)] 135)) (w.heap.size + 1) w.heap.size (.slice pa P.length pc) P := by
    have h0 : (w.alloc (.map #[] 0)).heap.size = w.heap.size + 1 := by simp
    rw [h0] at hB2
    exact ⟨hB2.cell 0, hB2.cell 2, hmp, hk.below hb2, hm.below hb2⟩
  have hl1 : ((w.alloc (.map #[] 0)).alloc (.cells #[.slice pa P.length pc, .int .i64 locals, .map (some w.heap.size)] 135)).cell? ⟨w.heap.size + 1, 1, none⟩ = some (.int .i64 locals) := by
    have h0 : (w.alloc (.map #[] 0)).heap.size = w.heap.size + 1 := by simp
    rw [h0] at hB2
    exact hB2.cell 1
  have HC := hide (And.intro hC (And.intro hl1 hb2))
  have hmm := @run_makeMap Tryz.prog
  clear hR hL hk hb1 hb2 hB2 hmap0 hmp hC hl1 HI
  go_enter Tryz.func65, Tryz.ntmps65
  go_wp2_with fail
  generalize (w.alloc (.map #[] 0)).alloc (.cells #[.slice pa P.length pc, .int .i64 locals, .map (some w.heap.size)] 135) = wc at *
  go_loopw [17] (fun y wx => ∃ k : Nat, k ≤ L.length ∧ y = .int .i64 (k : Int) ∧ Hid (∀ j (h : j < (L.map Cw.V.g).length), j < k → okB P locals (L.map Cw.V.g)[j] = true) ∧ Ch wx (w.heap.size + 1) w.heap.size (.slice pa P.length pc) P ∧ wx.cell? ⟨w.heap.size + 1, 1, none⟩ = some (.int .i64 locals) ∧ Below w.heap.size w wx) (fun y _ => L.length - (intOf y).toNat)
  case atStart => exact ⟨0, Nat.zero_le _, rfl, fun j _ hj => absurd hj (Nat.not_lt_zero _), (unhide HC).1, (unhide HC).2.1, (unhide HC).2.2⟩
  case round =>
    obtain ⟨k, hkl, rfl, HN, hCr, hlr, hbe⟩ := hrel
    clear HC
    by_cases hlt : k < L.length
    · have hLr := GHas.below (unhide HL) hbe
      obtain ⟨ad2, cap2, e2, hc2⟩ := hLr.form
      obtain ⟨b, o, e3, hc3⟩ := hc2 (by intro e; subst e; simp at hlt)
      cases e2
      subst e3
      have hfit := hLr.fit _ (List.getElem_mem hlt)
      have ho := hfit.ok.op
      obtain ⟨q1, q2, ekv⟩ := hfit.ok.k.form
      obtain ⟨q3, q4, etv⟩ := hfit.ok.t.form
      obtain ⟨a0, a1, a2, a3, a4, a5, a6, a7⟩ := Cw.At8v.of (hc3 k hlt)
      have hml : k < (L.map Cw.V.g).length := by simpa using hlt
      have hg : (L.map Cw.V.g)[k] = (L[k]).g := by simp
      generalize hcc : L[k] = c at *
      clear hc2 hc3 hfit
      have hbx := (Below.refl wr.heap.size wr).alloc (Nat.le_refl _) (.cells c.arr 112)
      have hX := Bk.new wr c.arr 112
      have hCx := hCr.below hbx
      have hlx : (wr.alloc (.cells c.arr 112)).cell? ⟨w.heap.size + 1, 1, none⟩ = some (.int .i64 locals) := by rw [hbx.cell (cell_lt hlr)]; exact hlr
      have hbex := hbe.trans (hbx.mono hbe.size)
      have hRm := hide (fun W h => localHolds_any c (w.heap.size + 1) locals W ho h hwf)
      have hOp := hide (fun W (hW : Ch W (w.heap.size + 1) w.heap.size (.slice pa P.length pc) P) => unhide HI2 c (w.heap.size + 1) w.heap.size (.slice pa P.length pc) P W ho hW hP hS)
      have hok : okB P locals c.g = (locB c.g.op c.g.a locals && opdB P c.g.op c.g.a c.g.b) := rfl
      have hres : okB P locals c.g = false → R = some c.g.at_ := by
        intro hb
        rw [unhide HR, chk_at (unhide HN) (by simp; omega)]
        have := chk_bad hml (by rw [hg]; exact hb)
        rw [this, hg]
      have hnext : okB P locals c.g = true → Hid (∀ j (h : j < (L.map Cw.V.g).length), j < k + 1 → okB P locals (L.map Cw.V.g)[j] = true) := by
        intro ht j hj hjk
        by_cases e : j = k
        · subst e; rw [hg]; exact ht
        · exact unhide HN j hj (by omega)
      have Hres := hide hres
      have Hnext := hide hnext
      generalize locB c.g.op c.g.a locals = lb at *
      generalize opdB P c.g.op c.g.a c.g.b = ob at *
      have Hok := hide hok
      have hsz : w.heap.size ≤ wr.heap.size := hbe.size
      clear hres hnext hok hg hml hcc ho hbe HN hCr hlr HI2
      obtain ⟨⟨at_, op, wide, a, b', low, keys, tgts⟩, kv, tv⟩ := c
      unfold Cw.V.arr at *
      simp only at *
      subst ekv
      subst etv
      have hki : (k : Int) < (L.length : Int) := by omega
      go_wp2_with fail
      generalize hwx : wr.alloc (.cells #[.int .i64 at_, .int .u8 (op : Int), .bool wide, .int .i64 a, .int .i64 b', .int .i64 low, .slice q1 keys.length q2, .slice q3 tgts.length q4] 112) = wx at *
      refine (unhide hRm _ hlx).mono ?_
      rintro e w3 ⟨rfl, hb3⟩
      have hX3 := hX.below hb3
      have hC3 := hCx.below hb3
      have hl3 : w3.cell? ⟨w.heap.size + 1, 1, none⟩ = some (.int .i64 locals) := by rw [hb3.cell (cell_lt hlx)]; exact hlx
      have hbe3 := hbex.trans (hb3.mono hbex.size)
      have p0 := hX3.cell 0
      have p1 := hX3.cell 1
      have p2 := hX3.cell 2
      have p3 := hX3.cell 3
      have p4 := hX3.cell 4
      have p5 := hX3.cell 5
      have p6 := hX3.cell 6
      have p7 := hX3.cell 7
      simp only [List.getElem?_toArray, List.getElem?_cons_zero, List.getElem?_cons_succ] at p0 p1 p2 p3 p4 p5 p6 p7
      cases lb
      · have hv : R = some at_ := unhide Hres (by rw [unhide Hok]; rfl)
        subst hv
        go_wp2
        go_region
        all_goals
          go_wp2
          go_ret2
          exact ⟨rfl, hbe3.drew⟩
      · go_wp2_with fail
        refine (unhide hOp _ hC3).mono ?_
        rintro e w4 ⟨rfl, hb4, hC4⟩
        have hbe4 : Below w.heap.size w w4 := hb4.below hbe3 hbe3.size (Nat.le_refl _)
        have r0 : w4.cell? ⟨wr.heap.size, 0, none⟩ = some (.int .i64 at_) := hb4.cell hC3.mp p0
        have hl4 : w4.cell? ⟨w.heap.size + 1, 1, none⟩ = some (.int .i64 locals) := hb4.cell hC3.mp hl3
        clear p0 p1 p2 p3 p4 p5 p6 p7
        cases ob
        · have hv : R = some at_ := unhide Hres (by rw [unhide Hok]; rfl)
          subst hv
          go_wp2
          go_region
          all_goals
            go_wp2
            go_ret2
            exact ⟨rfl, hbe4.drew⟩
        · have hv := unhide Hnext (by rw [unhide Hok]; rfl)
          have Hv := hide hv
          have HC4 := hide hC4
          have HL4 := hide hl4
          clear hv hC4 hl4
          go_wp2
          go_roundw
          case rel => exact ⟨k + 1, by omega, by simp, unhide Hv, unhide HC4, unhide HL4, hbe4⟩
          case measure => simp [intOf]; omega
    · obtain rfl : k = L.length := by omega
      have hR2 : R = none := by
        rw [unhide HR, chk_at (unhide HN) (by simp), List.drop_eq_nil_of_le (by simp)]
        rfl
      subst hR2
      clear HN HR
      go_wp2
      go_ret2
      exact ⟨rfl, hbe⟩
/-- How a frame is written to, and read. -/
theorem pz : (∀ (a : Act) (d : Tmp) (v : Value), a.put (some d) v = { a with tmps := a.tmps.setIfInBounds d v }) ∧ (∀ (a : Act) (v : Value), a.put none v = a) ∧ (∀ (l : List Value) (i : Nat) (h : i < l.toArray.size), l.toArray[i] = l[i]'(by simpa using h)) ∧ (∀ (a : Value) (l : List Value) (h : 0 < (a :: l).length), (a :: l)[0] = a) ∧ (∀ (a : Value) (l : List Value) (i : Nat) (h : i + 1 < (a :: l).length), (a :: l)[i + 1] = l[i]'(by simpa using h)) ∧ (∀ (l : List Value) (i : Nat) (v : Value), l.toArray.setIfInBounds i v = (l.set i v).toArray) ∧ (∀ (a : Value) (l : List Value) (v : Value), (a :: l).set 0 v = v :: l) ∧ (∀ (a : Value) (l : List Value) (i : Nat) (v : Value), (a :: l).set (i + 1) v = a :: l.set i v) :=
  ⟨fun _ _ _ => rfl, fun _ _ => rfl, fun _ _ _ => by simp, fun _ _ _ => rfl, fun _ _ _ _ => rfl, fun _ _ _ => by simp, fun _ _ _ => rfl, fun _ _ _ _ => rfl⟩
end Go.Proofs.YtddhlphbbiihjaaGreatDoor.Ck
