/-
  CodeChecks: the local of an instruction, of the reference.
-/
import Derived.Test.YtejbnbilbagkmaaDoorCa
namespace Go.Proofs.YtejbnbilbagkmaaDoor.Ck
open Go.RowKit
set_option linter.unusedVariables false
set_option linter.unusedSimpArgs false

theorem form_any (op : Nat) (w : World) (ho : op < 256) : Calls Tryd.prog 47 #[.int .i64 (op : Int)] w fun e w' => e = .returned (.string ⟨#[Fm.sign op]⟩) ∧ w' = w := by
  by_cases h : op < 201
  · exact Fm.form_low op w h
  · exact Fm.form_high op w (by omega) ho
def twoB (op : Nat) : Bool := decide (locT op = 1 ∨ locT op = 3)

set_option maxRecDepth 100000 in
set_option maxHeartbeats 4000000 in
theorem RLocal_any (c : Cw.V) (w : World) (hh : hasL c.g.op = true) :
    Calls Tryd.prog 48 #[.agg c.arr] w fun e w' => e = .returned (.tuple #[.int .i64 (locN c.g.op c.g.a), .bool (twoB c.g.op)]) ∧ Below w.heap.size w w' := by
  obtain ⟨⟨at_, op, wide, a, b, low, keys, tgts⟩, kv, tv⟩ := c
  unfold Cw.V.arr
  simp only at hh ⊢
  have hb0 := (Below.refl w.heap.size w).alloc (Nat.le_refl _) (.cells #[.int .i64 at_, .int .u8 (op : Int), .bool wide, .int .i64 a, .int .i64 b, .int .i64 low, kv, tv] 50)
  have hop : op = 21 ∨ op = 22 ∨ op = 23 ∨ op = 24 ∨ op = 25 ∨ op = 26 ∨ op = 27 ∨ op = 28 ∨ op = 29 ∨ op = 30 ∨ op = 31 ∨ op = 32 ∨ op = 33 ∨ op = 34 ∨ op = 35 ∨ op = 36 ∨ op = 37 ∨ op = 38 ∨ op = 39 ∨ op = 40 ∨ op = 41 ∨ op = 42 ∨ op = 43 ∨ op = 44 ∨ op = 45 ∨ op = 54 ∨ op = 55 ∨ op = 56 ∨ op = 57 ∨ op = 58 ∨ op = 59 ∨ op = 60 ∨ op = 61 ∨ op = 62 ∨ op = 63 ∨ op = 64 ∨ op = 65 ∨ op = 66 ∨ op = 67 ∨ op = 68 ∨ op = 69 ∨ op = 70 ∨ op = 71 ∨ op = 72 ∨ op = 73 ∨ op = 74 ∨ op = 75 ∨ op = 76 ∨ op = 77 ∨ op = 78 ∨ op = 132 := by
    unfold hasL at hh
    simp at hh
    omega
  clear hh
  rcases hop with rfl | rfl | rfl | rfl | rfl | rfl | rfl | rfl | rfl | rfl | rfl | rfl | rfl | rfl | rfl | rfl | rfl | rfl | rfl | rfl | rfl | rfl | rfl | rfl | rfl | rfl | rfl | rfl | rfl | rfl | rfl | rfl | rfl | rfl | rfl | rfl | rfl | rfl | rfl | rfl | rfl | rfl | rfl | rfl | rfl | rfl | rfl | rfl | rfl | rfl | rfl
  all_goals
    have Hb := hide hb0
    clear hb0
    go_enter Tryd.func48, Tryd.ntmps48
    go_wp2
    go_ret2
    exact ⟨rfl, unhide Hb⟩

theorem sign_no : ∀ k : Fin 256, hasL k.val = false → Fm.sign k.val = 119 ∨ Fm.sign k.val = 98 ∨ Fm.sign k.val = 115 ∨ Fm.sign k.val = 99 ∨ Fm.sign k.val = 105 ∨ Fm.sign k.val = 106 ∨ Fm.sign k.val = 74 ∨ Fm.sign k.val = 102 ∨ Fm.sign k.val = 97 ∨ Fm.sign k.val = 109 ∨ Fm.sign k.val = 116 ∨ Fm.sign k.val = 107 ∨ Fm.sign k.val = 120 ∨ Fm.sign k.val = 46 := by decide +kernel
theorem sign_yes : ∀ k : Fin 256, hasL k.val = true → Fm.sign k.val = 108 ∨ Fm.sign k.val = 110 ∨ (Fm.sign k.val = 46 ∧ 26 ≤ k.val ∧ k.val ≤ 45) ∨ (Fm.sign k.val = 46 ∧ 59 ≤ k.val ∧ k.val ≤ 78) := by decide +kernel

set_option maxRecDepth 100000 in
set_option maxHeartbeats 4000000 in
theorem room_no (c : Cw.V) (locals : Int) (w : World) (ho : c.g.op < 256) (hh : hasL c.g.op = false) :
    Calls Tryd.prog 33 #[.agg c.arr, .int .i64 locals] w fun e w' => e = .returned (.bool true) ∧ Below w.heap.size w w' := by
  obtain ⟨⟨at_, op, wide, a, b, low, keys, tgts⟩, kv, tv⟩ := c
  unfold Cw.V.arr
  simp only at hh ho ⊢
  have hb0 := (Below.refl w.heap.size w).alloc (Nat.le_refl _) (.cells #[.int .i64 at_, .int .u8 (op : Int), .bool wide, .int .i64 a, .int .i64 b, .int .i64 low, kv, tv] 50)
  have HF := fun w => form_any op w ho
  have hs := sign_no ⟨op, ho⟩ hh
  simp only at hs
  have r1 : (26 ≤ (op : Int) → ¬ (op : Int) ≤ 45) ∧ (59 ≤ (op : Int) → ¬ (op : Int) ≤ 78) := by
    unfold hasL at hh
    simp at hh
    omega
  obtain ⟨r1, r2⟩ := r1
  have Hb := hide hb0
  have hoi : (op : Int) < 256 := by omega
  clear hb0 hh ho
  obtain ⟨sg, hsg⟩ : ∃ sg, sg = Fm.sign op := ⟨_, rfl⟩
  rw [← hsg] at HF hs
  have hs1 : (sg == 108) = false := by rw [beq_eq_false_iff_ne]; rintro rfl; simp at hs
  have hs2 : (sg == 110) = false := by rw [beq_eq_false_iff_ne]; rintro rfl; simp at hs
  have HF2 := hide HF
  clear HF hs hsg
  by_cases p2 : 59 ≤ (op : Int)
  · have p1 : 26 ≤ (op : Int) := by omega
    have p3 : decide ((op : Int) ≤ 45) = false := decide_eq_false (r1 p1)
    have p4 : decide ((op : Int) ≤ 78) = false := decide_eq_false (r2 p2)
    clear r1 r2
    go_enter Tryd.func33, Tryd.ntmps33
    go_wp2_with fail
    refine (unhide HF2 _).mono ?_
    rintro e w' ⟨rfl, hww⟩
    subst w'
    go_wp2_with fail
    refine (unhide HF2 _).mono ?_
    rintro e w' ⟨rfl, hww⟩
    subst w'
    go_wp2
    go_ret
    exact ⟨rfl, unhide Hb⟩
  · by_cases p1 : 26 ≤ (op : Int)
    · have p3 : decide ((op : Int) ≤ 45) = false := decide_eq_false (r1 p1)
      clear r1 r2
      go_enter Tryd.func33, Tryd.ntmps33
      go_wp2_with fail
      refine (unhide HF2 _).mono ?_
      rintro e w' ⟨rfl, hww⟩
      subst w'
      go_wp2_with fail
      refine (unhide HF2 _).mono ?_
      rintro e w' ⟨rfl, hww⟩
      subst w'
      go_wp2
      go_ret
      exact ⟨rfl, unhide Hb⟩
    · clear r1 r2
      go_enter Tryd.func33, Tryd.ntmps33
      go_wp2_with fail
      refine (unhide HF2 _).mono ?_
      rintro e w' ⟨rfl, hww⟩
      subst w'
      go_wp2_with fail
      refine (unhide HF2 _).mono ?_
      rintro e w' ⟨rfl, hww⟩
      subst w'
      go_wp2
      go_ret
      exact ⟨rfl, unhide Hb⟩

set_option maxRecDepth 100000 in
set_option maxHeartbeats 4000000 in
theorem room_yes (c : Cw.V) (locals : Int) (w : World) (ho : c.g.op < 256) (hh : hasL c.g.op = true) (hlo : -9223372036854775808 ≤ locals) (hhi : locals ≤ 9223372036854775807) :
    Calls Tryd.prog 33 #[.agg c.arr, .int .i64 locals] w fun e w' => e = .returned (.bool (locB c.g.op c.g.a locals)) ∧ Below w.heap.size w w' := by
  have HR := hide (fun w => RLocal_any c w hh)
  have HF := hide (fun w => form_any c.g.op w ho)
  have hs := sign_yes ⟨c.g.op, ho⟩ hh
  simp only at hs
  obtain ⟨r, hr⟩ : ∃ r, r = locB c.g.op c.g.a locals := ⟨_, rfl⟩
  rw [← hr]
  unfold locB at hr
  rw [if_neg (by rw [hh]; simp)] at hr
  have htw : twoB c.g.op = decide (locT c.g.op = 1 ∨ locT c.g.op = 3) := rfl
  generalize twoB c.g.op = tw at *
  generalize locN c.g.op c.g.a = n at *
  generalize locT c.g.op = t at *
  generalize Fm.sign c.g.op = sg at *
  have hr2 : r = if n < 0 ∨ locals ≤ n then false else (!tw || decide (1 < locals - n)) := by
    rw [hr, htw]
    split
    · rfl
    · rw [Bool.eq_iff_iff]
      simp
      omega
  have hb0 := (Below.refl w.heap.size w).alloc (Nat.le_refl _) (.cells c.arr 50)
  obtain ⟨⟨at_, op, wide, a, b, low, keys, tgts⟩, kv, tv⟩ := c
  unfold Cw.V.arr at hb0 HR ⊢
  simp only at hb0 HR HF hs ho ⊢
  have hoi : (op : Int) < 256 := by omega
  have Hb := hide hb0
  have Hr := hide hr2
  clear hb0 hr hr2 htw hh ho
  have K : ∀ W : World, Below w.heap.size w W → ∀ (Q : Exit → Act → World → Prop), True := fun _ _ _ => trivial
  clear K
  have hn : n < 0 ∨ (0 ≤ n ∧ locals ≤ n) ∨ (0 ≤ n ∧ n < locals ∧ 1 < locals - n) ∨ (0 ≤ n ∧ n < locals ∧ ¬ 1 < locals - n) := by omega
  rcases hs with hs | hs | ⟨hs, hs3, hs4⟩ | ⟨hs, hs3, hs4⟩ <;> rcases hn with hn | ⟨hn0, hn1⟩ | ⟨hn0, hn1, hn2⟩ | ⟨hn0, hn1, hn2⟩ <;> cases tw
  all_goals
    subst hs
    first | (have i3 : (26 : Int) ≤ (op : Int) := by omega) | skip
    first | (have i4 : (op : Int) ≤ 45 := by omega) | (have i4 : ¬ (op : Int) ≤ 45 := by omega) | skip
    first | (have i5 : (59 : Int) ≤ (op : Int) := by omega) | skip
    first | (have i6 : (op : Int) ≤ 78 := by omega) | skip
    have h0 : 0 ≤ locals - n ∨ True := .inr trivial
    first | (have h1 : ¬ n < 0 := by omega) | skip
    first | (have h2 : ¬ locals ≤ n := by omega) | skip
    first | (have h3 : IntKind.i64.wrap (locals - n) = locals - n := by rw [IntKind.wrap_i64]; omega) | skip
    first | (have h4 : wrap64 (locals - n) = locals - n := by unfold wrap64; omega) | skip
    clear h0
    go_enter Tryd.func33, Tryd.ntmps33
    go_wp2_with (first
      | (go_at_call 47; refine (unhide HF _).mono ?_; rintro e w' ⟨rfl, hww⟩; subst w')
      | fail)
    refine (unhide HR _).mono ?_
    rintro e w1 ⟨rfl, hb1⟩
    have hbz := (unhide Hb).trans (hb1.mono (unhide Hb).size)
    go_wp2
    go_ret
    refine ⟨?_, hbz⟩
    rw [unhide Hr]
    first
    | rfl
    | (rw [if_pos (by omega)]; rfl)
    | (rw [if_neg (by omega)]; simp [hn2]; try rfl)
/-- The reference's room is the program's. -/
theorem room_any (c : Cw.V) (locals : Int) (w : World) (ho : c.g.op < 256) (hwf : (Lit.int .i64 locals).wf = true) :
    Calls Tryd.prog 33 #[.agg c.arr, .int .i64 locals] w fun e w' => e = .returned (.bool (locB c.g.op c.g.a locals)) ∧ Below w.heap.size w w' := by
  cases hh : hasL c.g.op with
  | false =>
    rw [show locB c.g.op c.g.a locals = true by unfold locB; rw [if_pos hh]]
    exact room_no c locals w ho hh
  | true =>
    have h : IntKind.i64.min ≤ locals ∧ locals ≤ IntKind.i64.max := by simpa [Lit.wf] using hwf
    exact room_yes c locals w ho hh h.1 h.2
end Go.Proofs.YtejbnbilbagkmaaDoor.Ck
