/-
  within, and the form of an instruction (carried from 60cd14c).
  CodeChecks: the local of an instruction, of both.
-/
import Derived.Test.YtddhlphbbiihjaaGreatDoorKn
set_option linter.unusedVariables false
set_option linter.unusedSimpArgs false
namespace Go.Proofs.YtddhlphbbiihjaaGreatDoor.Fm
open Go.RowKit
namespace M
/-- What stands behind the number of an instruction that is not wide. -/
def kind (op : Nat) : Nat :=
  if op = 16 then 2 else if op = 17 then 3 else if op = 18 then 4
  else if op = 19 ∨ op = 20 ∨ (178 ≤ op ∧ op ≤ 184) ∨ op = 187 ∨ op = 189 ∨ op = 192 ∨ op = 193 then 5
  else if (21 ≤ op ∧ op ≤ 25) ∨ (54 ≤ op ∧ op ≤ 58) then 6
  else if op = 132 then 8
  else if (153 ≤ op ∧ op ≤ 167) ∨ op = 198 ∨ op = 199 then 10
  else if op = 200 then 11
  else if op = 170 then 15
  else if op = 171 then 16
  else if op = 185 then 12
  else if op = 188 then 13
  else if op = 197 then 14
  else if op = 168 ∨ op = 169 ∨ op = 186 ∨ op = 196 ∨ 200 < op then 0
  else 1
end M
set_option maxHeartbeats 400000 in
theorem within_any (op lo hi : Int) (w : World) :
    Calls Tryz.prog 110 #[.int .u8 op, .int .u8 lo, .int .u8 hi] w fun e w' => e = .returned (.bool (decide (lo ≤ op ∧ op ≤ hi))) ∧ w' = w := by
  by_cases h1 : lo ≤ op
  · have hd : decide (lo ≤ op ∧ op ≤ hi) = decide (op ≤ hi) := by rw [Bool.eq_iff_iff]; simp [h1]
    rw [hd]; clear hd
    go_enter Tryz.func110, Tryz.ntmps110
    go_wp2
    all_goals go_ret
    all_goals exact ⟨rfl, rfl⟩
  · have hd : decide (lo ≤ op ∧ op ≤ hi) = false := by rw [decide_eq_false_iff_not]; omega
    rw [hd]
    have h1' : op < lo := by omega
    clear h1 hd
    go_enter Tryz.func110, Tryz.ntmps110
    go_wp2
    all_goals go_ret
    all_goals exact ⟨rfl, rfl⟩
/-- The sign of an instruction's operands. -/
def sign (op : Nat) : UInt8 :=
  if op = 196 then 119 else if M.kind op = 2 then 98 else if M.kind op = 3 then 115 else if M.kind op = 4 then 99 else if M.kind op = 5 then 105 else if M.kind op = 6 then 108 else if M.kind op = 8 then 110
  else if M.kind op = 10 then 106 else if M.kind op = 11 then 74 else if M.kind op = 12 then 102 else if M.kind op = 13 then 97 else if M.kind op = 14 then 109 else if M.kind op = 15 then 116 else if M.kind op = 16 then 107
  else if M.kind op = 0 then 120 else 46
set_option maxRecDepth 100000 in
set_option maxHeartbeats 1000000 in
theorem form_low (op : Nat) (w : World) (ho : op < 201) : Calls Tryz.prog 115 #[.int .i64 (op : Int)] w fun e w' => e = .returned (.string ⟨#[sign op]⟩) ∧ w' = w := by
  have Ho := hide ho
  go_enter Tryz.func115, Tryz.ntmps115
  go_wp2
  go_ret
  refine ⟨congrArg (fun z => Ending.returned (.string z)) ?_, rfl⟩
  have ho := unhide Ho
  clear Ho
  rename_i h1
  clear h1
  revert op
  decide +kernel
set_option maxRecDepth 100000 in
set_option maxHeartbeats 1000000 in
theorem form_high (op : Nat) (w : World) (h1 : 201 ≤ op) (h2 : op < 256) : Calls Tryz.prog 115 #[.int .i64 (op : Int)] w fun e w' => e = .returned (.string ⟨#[sign op]⟩) ∧ w' = w := by
  have hs : sign op = 120 := by
    have h : ∀ k : Fin 256, 201 ≤ k.val → sign k.val = 120 := by decide +kernel
    exact h ⟨op, h2⟩ h1
  rw [hs]
  clear hs
  have h1' : (201 : Int) ≤ (op : Int) := by omega
  go_enter Tryz.func115, Tryz.ntmps115
  go_wp2
  go_ret
  exact ⟨rfl, rfl⟩

end Go.Proofs.YtddhlphbbiihjaaGreatDoor.Fm
namespace Go.Proofs.YtddhlphbbiihjaaGreatDoor.Ck
open Go.RowKit

/-- Has it a local? Which? Of which type? -/
def hasL (op : Nat) : Bool := decide (21 ≤ op ∧ op ≤ 45) || decide (54 ≤ op ∧ op ≤ 78) || decide (op = 132)
def locN (op : Nat) (a : Int) : Int := if 26 ≤ op ∧ op ≤ 45 then (((op - 26) % 4 : Nat) : Int) else if 59 ≤ op ∧ op ≤ 78 then (((op - 59) % 4 : Nat) : Int) else if hasL op then a else 0
def locT (op : Nat) : Nat := if 21 ≤ op ∧ op ≤ 25 then op - 21 else if 26 ≤ op ∧ op ≤ 45 then (op - 26) / 4 else if 54 ≤ op ∧ op ≤ 58 then op - 54 else if 59 ≤ op ∧ op ≤ 78 then (op - 59) / 4 else 0
/-- May its local be? -/
def locB (op : Nat) (a locals : Int) : Bool :=
  if hasL op = false then true else if locN op a < 0 ∨ locals ≤ locN op a then false else decide (¬ (locT op = 1 ∨ locT op = 3) ∨ locN op a < locals - 1)

set_option maxRecDepth 100000 in
set_option maxHeartbeats 2000000 in
theorem Local_any (c : Cw.V) (w : World) (ho : c.g.op < 256) :
    Calls Tryz.prog 109 #[.agg c.arr] w fun e w' => e = .returned (.tuple #[.int .i64 (locN c.g.op c.g.a), .int .i64 (locT c.g.op : Nat), .bool (hasL c.g.op)]) ∧ Below w.heap.size w w' := by
  obtain ⟨⟨at_, op, wide, a, b, low, keys, tgts⟩, kv, tv⟩ := c
  simp only at ho
  unfold Cw.V.arr
  simp only
  have HW := hide Fm.within_any
  have hb0 := (Below.refl w.heap.size w).alloc (Nat.le_refl _) (.cells #[.int .i64 at_, .int .u8 (op : Int), .bool wide, .int .i64 a, .int .i64 b, .int .i64 low, kv, tv] 112)
  have Hb := hide hb0
  clear hb0
  obtain ⟨n, hn⟩ : ∃ n, n = locN op a := ⟨_, rfl⟩
  obtain ⟨t, ht⟩ : ∃ t, t = locT op := ⟨_, rfl⟩
  obtain ⟨h, hh⟩ : ∃ h, h = hasL op := ⟨_, rfl⟩
  rw [← hn, ← ht, ← hh]
  have Hn := hide (And.intro hn (And.intro ht hh))
  clear hn ht hh
  by_cases c0 : 21 ≤ op ∧ op ≤ 25
  · have e1 : n = a := by rw [(unhide Hn).1]; unfold locN hasL; rw [if_neg (by omega), if_neg (by omega), if_pos (by simp; omega)]
    have e2 : (t : Int) = wrap64 ((op : Int) - 21) := by rw [(unhide Hn).2.1]; unfold locT wrap64; (repeat (first | rw [if_pos (by omega)] | rw [if_neg (by omega)])); omega
    have e3 : h = true := by rw [(unhide Hn).2.2]; unfold hasL; simp; omega
    rw [e1, e2, e3]
    have w0 : decide ((21 : Int) ≤ (op : Int) ∧ (op : Int) ≤ 25) = true := by simp; omega
    have u1 : IntKind.u8.wrap ((op : Int) - 21) = (op : Int) - 21 := by rw [IntKind.wrap_u8]; omega
    clear e1 e2 e3 Hn
    clear c0
    clear ho
    go_enter Tryz.func109, Tryz.ntmps109
    go_wp2_with (go_at_call 110; refine (unhide HW _ _ _ _).mono ?_; rintro e w' ⟨rfl, hww⟩; subst w')
    go_ret3
    exact ⟨rfl, unhide Hb⟩
  by_cases c1 : 26 ≤ op ∧ op ≤ 45
  · have e1 : n = ((op : Int) - 26).tmod 4 := by rw [(unhide Hn).1, Int.tmod_eq_emod_of_nonneg (by omega)]; unfold locN; (repeat (first | rw [if_pos (by omega)] | rw [if_neg (by omega)])); omega
    have e2 : (t : Int) = wrap64 (((op : Int) - 26).tdiv 4) := by rw [(unhide Hn).2.1, Int.tdiv_eq_ediv_of_nonneg (by omega)]; unfold locT wrap64; (repeat (first | rw [if_pos (by omega)] | rw [if_neg (by omega)])); omega
    have e3 : h = true := by rw [(unhide Hn).2.2]; unfold hasL; simp; omega
    rw [e1, e2, e3]
    have w0 : decide ((21 : Int) ≤ (op : Int) ∧ (op : Int) ≤ 25) = false := by simp; omega
    have w1 : decide ((26 : Int) ≤ (op : Int) ∧ (op : Int) ≤ 45) = true := by simp; omega
    have u4 : wrap64 ((op : Int) - 26) = (op : Int) - 26 := by unfold wrap64; omega
    have u1 : IntKind.u8.wrap ((op : Int) - 26) = (op : Int) - 26 := by rw [IntKind.wrap_u8]; omega
    clear e1 e2 e3 Hn
    clear c1 c0
    clear ho
    go_enter Tryz.func109, Tryz.ntmps109
    go_wp2_with (go_at_call 110; refine (unhide HW _ _ _ _).mono ?_; rintro e w' ⟨rfl, hww⟩; subst w')
    go_ret3
    exact ⟨rfl, unhide Hb⟩
  by_cases c2 : 54 ≤ op ∧ op ≤ 58
  · have e1 : n = a := by rw [(unhide Hn).1]; unfold locN hasL; rw [if_neg (by omega), if_neg (by omega), if_pos (by simp; omega)]
    have e2 : (t : Int) = wrap64 ((op : Int) - 54) := by rw [(unhide Hn).2.1]; unfold locT wrap64; (repeat (first | rw [if_pos (by omega)] | rw [if_neg (by omega)])); omega
    have e3 : h = true := by rw [(unhide Hn).2.2]; unfold hasL; simp; omega
    rw [e1, e2, e3]
    have w0 : decide ((21 : Int) ≤ (op : Int) ∧ (op : Int) ≤ 25) = false := by simp; omega
    have w1 : decide ((26 : Int) ≤ (op : Int) ∧ (op : Int) ≤ 45) = false := by simp; omega
    have w2 : decide ((54 : Int) ≤ (op : Int) ∧ (op : Int) ≤ 58) = true := by simp; omega
    have u1 : IntKind.u8.wrap ((op : Int) - 54) = (op : Int) - 54 := by rw [IntKind.wrap_u8]; omega
    clear e1 e2 e3 Hn
    clear c2 c0 c1
    clear ho
    go_enter Tryz.func109, Tryz.ntmps109
    go_wp2_with (go_at_call 110; refine (unhide HW _ _ _ _).mono ?_; rintro e w' ⟨rfl, hww⟩; subst w')
    go_ret3
    exact ⟨rfl, unhide Hb⟩
  by_cases c3 : 59 ≤ op ∧ op ≤ 78
  · have e1 : n = ((op : Int) - 59).tmod 4 := by rw [(unhide Hn).1, Int.tmod_eq_emod_of_nonneg (by omega)]; unfold locN; (repeat (first | rw [if_pos (by omega)] | rw [if_neg (by omega)])); omega
    have e2 : (t : Int) = wrap64 (((op : Int) - 59).tdiv 4) := by rw [(unhide Hn).2.1, Int.tdiv_eq_ediv_of_nonneg (by omega)]; unfold locT wrap64; (repeat (first | rw [if_pos (by omega)] | rw [if_neg (by omega)])); omega
    have e3 : h = true := by rw [(unhide Hn).2.2]; unfold hasL; simp; omega
    rw [e1, e2, e3]
    have w0 : decide ((21 : Int) ≤ (op : Int) ∧ (op : Int) ≤ 25) = false := by simp; omega
    have w1 : decide ((26 : Int) ≤ (op : Int) ∧ (op : Int) ≤ 45) = false := by simp; omega
    have w2 : decide ((54 : Int) ≤ (op : Int) ∧ (op : Int) ≤ 58) = false := by simp; omega
    have w3 : decide ((59 : Int) ≤ (op : Int) ∧ (op : Int) ≤ 78) = true := by simp; omega
    have u4 : wrap64 ((op : Int) - 59) = (op : Int) - 59 := by unfold wrap64; omega
    have u1 : IntKind.u8.wrap ((op : Int) - 59) = (op : Int) - 59 := by rw [IntKind.wrap_u8]; omega
    clear e1 e2 e3 Hn
    clear c3 c0 c1 c2
    clear ho
    go_enter Tryz.func109, Tryz.ntmps109
    go_wp2_with (go_at_call 110; refine (unhide HW _ _ _ _).mono ?_; rintro e w' ⟨rfl, hww⟩; subst w')
    go_ret3
    exact ⟨rfl, unhide Hb⟩
  by_cases c4 : op = 132
  · have e1 : n = a := by rw [(unhide Hn).1]; unfold locN hasL; rw [if_neg (by omega), if_neg (by omega), if_pos (by simp; omega)]
    have e2 : (t : Int) = 0 := by rw [(unhide Hn).2.1]; unfold locT; (repeat (rw [if_neg (by omega)])); rfl
    have e3 : h = true := by rw [(unhide Hn).2.2]; unfold hasL; simp; omega
    rw [e1, e2, e3]
    have w0 : decide ((21 : Int) ≤ (op : Int) ∧ (op : Int) ≤ 25) = false := by simp; omega
    have w1 : decide ((26 : Int) ≤ (op : Int) ∧ (op : Int) ≤ 45) = false := by simp; omega
    have w2 : decide ((54 : Int) ≤ (op : Int) ∧ (op : Int) ≤ 58) = false := by simp; omega
    have w3 : decide ((59 : Int) ≤ (op : Int) ∧ (op : Int) ≤ 78) = false := by simp; omega
    have q1 : ((op : Int) == 132) = true := by simp; omega
    clear e1 e2 e3 Hn
    clear c4 c0 c1 c2 c3
    clear ho
    go_enter Tryz.func109, Tryz.ntmps109
    go_wp2_with (go_at_call 110; refine (unhide HW _ _ _ _).mono ?_; rintro e w' ⟨rfl, hww⟩; subst w')
    go_ret3
    exact ⟨rfl, unhide Hb⟩
  · have e1 : n = 0 := by rw [(unhide Hn).1]; unfold locN hasL; rw [if_neg (by omega), if_neg (by omega), if_neg (by simp; omega)]
    have e2 : (t : Int) = 0 := by rw [(unhide Hn).2.1]; unfold locT; (repeat (rw [if_neg (by omega)])); rfl
    have e3 : h = false := by rw [(unhide Hn).2.2]; unfold hasL; simp; omega
    rw [e1, e2, e3]
    have w0 : decide ((21 : Int) ≤ (op : Int) ∧ (op : Int) ≤ 25) = false := by simp; omega
    have w1 : decide ((26 : Int) ≤ (op : Int) ∧ (op : Int) ≤ 45) = false := by simp; omega
    have w2 : decide ((54 : Int) ≤ (op : Int) ∧ (op : Int) ≤ 58) = false := by simp; omega
    have w3 : decide ((59 : Int) ≤ (op : Int) ∧ (op : Int) ≤ 78) = false := by simp; omega
    have q1 : ((op : Int) == 132) = false := by rw [beq_eq_false_iff_ne]; omega
    clear e1 e2 e3 Hn
    clear c0 c1 c2 c3 c4
    clear ho
    go_enter Tryz.func109, Tryz.ntmps109
    go_wp2_with (go_at_call 110; refine (unhide HW _ _ _ _).mono ?_; rintro e w' ⟨rfl, hww⟩; subst w')
    go_ret3
    exact ⟨rfl, unhide Hb⟩

set_option maxRecDepth 100000 in
set_option maxHeartbeats 2000000 in
theorem localHolds_any (c : Cw.V) (cb : Nat) (locals : Int) (w : World) (ho : c.g.op < 256) (hl : w.cell? ⟨cb, 1, none⟩ = some (.int .i64 locals)) (hwf : (Lit.int .i64 locals).wf = true) :
    Calls Tryz.prog 91 #[.pointer (some ⟨cb, 0, none⟩), .agg c.arr] w fun e w' => e = .returned (.bool (locB c.g.op c.g.a locals)) ∧ Below w.heap.size w w' := by
  have HL := hide (fun w => Local_any c w ho)
  have hlo : -9223372036854775808 ≤ locals := by have : IntKind.i64.min ≤ locals ∧ locals ≤ IntKind.i64.max := by simpa [Lit.wf] using hwf
                                                 exact this.1
  have hhi : locals ≤ 9223372036854775807 := by have : IntKind.i64.min ≤ locals ∧ locals ≤ IntKind.i64.max := by simpa [Lit.wf] using hwf
                                                exact this.2
  have hcl : cb < w.heap.size := cell_lt hl
  obtain ⟨r, hr⟩ : ∃ r, r = locB c.g.op c.g.a locals := ⟨_, rfl⟩
  rw [← hr]
  unfold locB at hr
  generalize locN c.g.op c.g.a = n at *
  generalize hasL c.g.op = hs at *
  have htb : locT c.g.op < 5 := by
    unfold locT
    repeat (split; · omega)
    omega
  generalize locT c.g.op = t at *
  have hb0 := (Below.refl w.heap.size w).alloc (Nat.le_refl _) (.cells c.arr 112)
  obtain ⟨⟨at_, op, wide, a, b, low, keys, tgts⟩, kv, tv⟩ := c
  unfold Cw.V.arr at hb0 HL ⊢
  simp only at hb0 HL ⊢
  have Hb := hide hb0
  clear hb0 hwf ho
  have hl1 : (w.alloc (.cells #[.int .i64 at_, .int .u8 (op : Int), .bool wide, .int .i64 a, .int .i64 b, .int .i64 low, kv, tv] 112)).cell? ⟨cb, 1, none⟩ = some (.int .i64 locals) := by rw [(unhide Hb).cell hcl]; exact hl
  have hcl1 : cb < (w.alloc (.cells #[.int .i64 at_, .int .u8 (op : Int), .bool wide, .int .i64 a, .int .i64 b, .int .i64 low, kv, tv] 112)).heap.size := by simp; omega
  have Hr := hide hr
  clear hr
  cases hs
  · have e : r = true := by rw [unhide Hr]; rfl
    subst e
    clear Hr
    go_enter Tryz.func91, Tryz.ntmps91
    go_wp2_with fail
    refine (unhide HL _).mono ?_
    rintro e w1 ⟨rfl, hb1⟩
    have hbz := (unhide Hb).trans (hb1.mono (unhide Hb).size)
    go_wp2
    go_ret
    exact ⟨rfl, hbz⟩
  · by_cases hn : n < 0 ∨ locals ≤ n
    · have e : r = false := by rw [unhide Hr, if_neg (by simp), if_pos hn]
      subst e
      clear Hr
      by_cases hn0 : n < 0
      · clear hn
        go_enter Tryz.func91, Tryz.ntmps91
        go_wp2_with fail
        refine (unhide HL _).mono ?_
        rintro e w1 ⟨rfl, hb1⟩
        have hbz := (unhide Hb).trans (hb1.mono (unhide Hb).size)
        have hl2 : w1.cell? ⟨cb, 1, none⟩ = some (.int .i64 locals) := by rw [hb1.cell hcl1]; exact hl1
        go_wp2
        go_ret
        exact ⟨rfl, hbz⟩
      · have hn1 : locals ≤ n := by omega
        clear hn
        go_enter Tryz.func91, Tryz.ntmps91
        go_wp2_with fail
        refine (unhide HL _).mono ?_
        rintro e w1 ⟨rfl, hb1⟩
        have hbz := (unhide Hb).trans (hb1.mono (unhide Hb).size)
        have hl2 : w1.cell? ⟨cb, 1, none⟩ = some (.int .i64 locals) := by rw [hb1.cell hcl1]; exact hl1
        go_wp2
        go_ret
        exact ⟨rfl, hbz⟩
    · have e : r = decide (¬ (t = 1 ∨ t = 3) ∨ n < locals - 1) := by rw [unhide Hr, if_neg (by simp), if_neg hn]
      have hn0 : ¬ n < 0 := by omega
      have hn1 : ¬ locals ≤ n := by omega
      have hn2 : IntKind.i64.wrap (locals - 1) = locals - 1 := by rw [IntKind.wrap_i64]; omega
      clear Hr hn
      rcases (show t = 0 ∨ t = 1 ∨ t = 2 ∨ t = 3 ∨ t = 4 by omega) with ht | ht | ht | ht | ht
      all_goals
        subst ht
        by_cases hq : n < locals - 1
        all_goals
          have e2 : r = true ∨ r = false := by cases r <;> simp
          have He := hide e
          clear e e2 htb
          go_enter Tryz.func91, Tryz.ntmps91
          go_wp2_with fail
          refine (unhide HL _).mono ?_
          rintro e w1 ⟨rfl, hb1⟩
          have hbz := (unhide Hb).trans (hb1.mono (unhide Hb).size)
          have hl2 : w1.cell? ⟨cb, 1, none⟩ = some (.int .i64 locals) := by rw [hb1.cell hcl1]; exact hl1
          go_wp2
          go_ret
          exact ⟨by rw [unhide He]; simp [hq]; try rfl, hbz⟩
end Go.Proofs.YtddhlphbbiihjaaGreatDoor.Ck
