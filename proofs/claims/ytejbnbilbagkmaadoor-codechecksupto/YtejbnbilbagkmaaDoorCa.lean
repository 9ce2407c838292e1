/-
  CodeChecks: the local of an instruction, of both.
-/
import Derived.Test.YtejbnbilbagkmaaDoorCw
import Derived.Test.YtejbnbilbagkmaaDoorKn
import Derived.Test.YtejbnbilbagkmaaDoorFm
namespace Go.Proofs.YtejbnbilbagkmaaDoor.Ck
open Go.RowKit
set_option linter.unusedVariables false
set_option linter.unusedSimpArgs false

/-- Has it a local? Which? Of which type? -/
def hasL (op : Nat) : Bool := decide (21 ≤ op ∧ op ≤ 45) || decide (54 ≤ op ∧ op ≤ 78) || decide (op = 132)
def locN (op : Nat) (a : Int) : Int := if 26 ≤ op ∧ op ≤ 45 then (((op - 26) % 4 : Nat) : Int) else if 59 ≤ op ∧ op ≤ 78 then (((op - 59) % 4 : Nat) : Int) else if hasL op then a else 0
def locT (op : Nat) : Nat := if 21 ≤ op ∧ op ≤ 25 then op - 21 else if 26 ≤ op ∧ op ≤ 45 then (op - 26) / 4 else if 54 ≤ op ∧ op ≤ 58 then op - 54 else if 59 ≤ op ∧ op ≤ 78 then (op - 59) / 4 else 0
/-- May its local be? -/
def locB (op : Nat) (a locals : Int) : Bool :=
  if hasL op = false then true else if locN op a < 0 ∨ locals ≤ locN op a then false else decide (¬ (locT op = 1 ∨ locT op = 3) ∨ locN op a < locals - 1)

set_option maxRecDepth 100000 in
set_option maxHeartbeats 2000000 in
theorem Local_any (c : Cw.V) (w : World) (ho : c.g.op < 256) :
    Calls Tryd.prog 41 #[.agg c.arr] w fun e w' => e = .returned (.tuple #[.int .i64 (locN c.g.op c.g.a), .int .i64 (locT c.g.op : Nat), .bool (hasL c.g.op)]) ∧ Below w.heap.size w w' := by
  obtain ⟨⟨at_, op, wide, a, b, low, keys, tgts⟩, kv, tv⟩ := c
  simp only at ho
  unfold Cw.V.arr
  simp only
  have HW := hide Fm.within_any
  have hb0 := (Below.refl w.heap.size w).alloc (Nat.le_refl _) (.cells #[.int .i64 at_, .int .u8 (op : Int), .bool wide, .int .i64 a, .int .i64 b, .int .i64 low, kv, tv] 50)
  have Hb := hide hb0
  clear hb0
  obtain ⟨n, hn⟩ : ∃ n, n = locN op a := ⟨_, rfl⟩
  obtain ⟨t, ht⟩ : ∃ t, t = locT op := ⟨_, rfl⟩
  obtain ⟨h, hh⟩ : ∃ h, h = hasL op := ⟨_, rfl⟩
  rw [← hn, ← ht, ← hh]
  have Hn := hide (And.intro hn (And.intro ht hh))
  clear hn ht hh
  by_cases c0 : 21 ≤ op ∧ op ≤ 25
  · have e1 : n = a := by rw [(unhide Hn).1]; unfold locN hasL; rw [if_neg (by omega), if_neg (by omega), if_pos (by simp; omega)]
    have e2 : (t : Int) = wrap64 ((op : Int) - 21) := by rw [(unhide Hn).2.1]; unfold locT wrap64; (repeat (first | rw [if_pos (by omega)] | rw [if_neg (by omega)])); omega
    have e3 : h = true := by rw [(unhide Hn).2.2]; unfold hasL; simp; omega
    rw [e1, e2, e3]
    have w0 : decide ((21 : Int) ≤ (op : Int) ∧ (op : Int) ≤ 25) = true := by simp; omega
    have u1 : IntKind.u8.wrap ((op : Int) - 21) = (op : Int) - 21 := by rw [IntKind.wrap_u8]; omega
    clear e1 e2 e3 Hn
    clear c0
    clear ho
    go_enter Tryd.func41, Tryd.ntmps41
    go_wp2_with (go_at_call 43; refine (unhide HW _ _ _ _).mono ?_; rintro e w' ⟨rfl, hww⟩; subst w')
    go_ret3
    exact ⟨rfl, unhide Hb⟩
  by_cases c1 : 26 ≤ op ∧ op ≤ 45
  · have e1 : n = ((op : Int) - 26).tmod 4 := by rw [(unhide Hn).1, Int.tmod_eq_emod_of_nonneg (by omega)]; unfold locN; (repeat (first | rw [if_pos (by omega)] | rw [if_neg (by omega)])); omega
    have e2 : (t : Int) = wrap64 (((op : Int) - 26).tdiv 4) := by rw [(unhide Hn).2.1, Int.tdiv_eq_ediv_of_nonneg (by omega)]; unfold locT wrap64; (repeat (first | rw [if_pos (by omega)] | rw [if_neg (by omega)])); omega
    have e3 : h = true := by rw [(unhide Hn).2.2]; unfold hasL; simp; omega
    rw [e1, e2, e3]
    have w0 : decide ((21 : Int) ≤ (op : Int) ∧ (op : Int) ≤ 25) = false := by simp; omega
    have w1 : decide ((26 : Int) ≤ (op : Int) ∧ (op : Int) ≤ 45) = true := by simp; omega
    have u4 : wrap64 ((op : Int) - 26) = (op : Int) - 26 := by unfold wrap64; omega
    have u1 : IntKind.u8.wrap ((op : Int) - 26) = (op : Int) - 26 := by rw [IntKind.wrap_u8]; omega
    clear e1 e2 e3 Hn
    clear c1 c0
    clear ho
    go_enter Tryd.func41, Tryd.ntmps41
    go_wp2_with (go_at_call 43; refine (unhide HW _ _ _ _).mono ?_; rintro e w' ⟨rfl, hww⟩; subst w')
    go_ret3
    exact ⟨rfl, unhide Hb⟩
  by_cases c2 : 54 ≤ op ∧ op ≤ 58
  · have e1 : n = a := by rw [(unhide Hn).1]; unfold locN hasL; rw [if_neg (by omega), if_neg (by omega), if_pos (by simp; omega)]
    have e2 : (t : Int) = wrap64 ((op : Int) - 54) := by rw [(unhide Hn).2.1]; unfold locT wrap64; (repeat (first | rw [if_pos (by omega)] | rw [if_neg (by omega)])); omega
    have e3 : h = true := by rw [(unhide Hn).2.2]; unfold hasL; simp; omega
    rw [e1, e2, e3]
    have w0 : decide ((21 : Int) ≤ (op : Int) ∧ (op : Int) ≤ 25) = false := by simp; omega
    have w1 : decide ((26 : Int) ≤ (op : Int) ∧ (op : Int) ≤ 45) = false := by simp; omega
    have w2 : decide ((54 : Int) ≤ (op : Int) ∧ (op : Int) ≤ 58) = true := by simp; omega
    have u1 : IntKind.u8.wrap ((op : Int) - 54) = (op : Int) - 54 := by rw [IntKind.wrap_u8]; omega
    clear e1 e2 e3 Hn
    clear c2 c0 c1
    clear ho
    go_enter Tryd.func41, Tryd.ntmps41
    go_wp2_with (go_at_call 43; refine (unhide HW _ _ _ _).mono ?_; rintro e w' ⟨rfl, hww⟩; subst w')
    go_ret3
    exact ⟨rfl, unhide Hb⟩
  by_cases c3 : 59 ≤ op ∧ op ≤ 78
  · have e1 : n = ((op : Int) - 59).tmod 4 := by rw [(unhide Hn).1, Int.tmod_eq_emod_of_nonneg (by omega)]; unfold locN; (repeat (first | rw [if_pos (by omega)] | rw [if_neg (by omega)])); omega
    have e2 : (t : Int) = wrap64 (((op : Int) - 59).tdiv 4) := by rw [(unhide Hn).2.1, Int.tdiv_eq_ediv_of_nonneg (by omega)]; unfold locT wrap64; (repeat (first | rw [if_pos (by omega)] | rw [if_neg (by omega)])); omega
    have e3 : h = true := by rw [(unhide Hn).2.2]; unfold hasL; simp; omega
    rw [e1, e2, e3]
    have w0 : decide ((21 : Int) ≤ (op : Int) ∧ (op : Int) ≤ 25) = false := by simp; omega
    have w1 : decide ((26 : Int) ≤ (op : Int) ∧ (op : Int) ≤ 45) = false := by simp; omega
    have w2 : decide ((54 : Int) ≤ (op : Int) ∧ (op : Int) ≤ 58) = false := by simp; omega
    have w3 : decide ((59 : Int) ≤ (op : Int) ∧ (op : Int) ≤ 78) = true := by simp; omega
    have u4 : wrap64 ((op : Int) - 59) = (op : Int) - 59 := by unfold wrap64; omega
    have u1 : IntKind.u8.wrap ((op : Int) - 59) = (op : Int) - 59 := by rw [IntKind.wrap_u8]; omega
    clear e1 e2 e3 Hn
    clear c3 c0 c1 c2
    clear ho
    go_enter Tryd.func41, Tryd.ntmps41
    go_wp2_with (go_at_call 43; refine (unhide HW _ _ _ _).mono ?_; rintro e w' ⟨rfl, hww⟩; subst w')
    go_ret3
    exact ⟨rfl, unhide Hb⟩
  by_cases c4 : op = 132
  · have e1 : n = a := by rw [(unhide Hn).1]; unfold locN hasL; rw [if_neg (by omega), if_neg (by omega), if_pos (by simp; omega)]
    have e2 : (t : Int) = 0 := by rw [(unhide Hn).2.1]; unfold locT; (repeat (rw [if_neg (by omega)])); rfl
    have e3 : h = true := by rw [(unhide Hn).2.2]; unfold hasL; simp; omega
    rw [e1, e2, e3]
    have w0 : decide ((21 : Int) ≤ (op : Int) ∧ (op : Int) ≤ 25) = false := by simp; omega
    have w1 : decide ((26 : Int) ≤ (op : Int) ∧ (op : Int) ≤ 45) = false := by simp; omega
    have w2 : decide ((54 : Int) ≤ (op : Int) ∧ (op : Int) ≤ 58) = false := by simp; omega
    have w3 : decide ((59 : Int) ≤ (op : Int) ∧ (op : Int) ≤ 78) = false := by simp; omega
    have q1 : ((op : Int) == 132) = true := by simp; omega
    clear e1 e2 e3 Hn
    clear c4 c0 c1 c2 c3
    clear ho
    go_enter Tryd.func41, Tryd.ntmps41
    go_wp2_with (go_at_call 43; refine (unhide HW _ _ _ _).mono ?_; rintro e w' ⟨rfl, hww⟩; subst w')
    go_ret3
    exact ⟨rfl, unhide Hb⟩
  · have e1 : n = 0 := by rw [(unhide Hn).1]; unfold locN hasL; rw [if_neg (by omega), if_neg (by omega), if_neg (by simp; omega)]
    have e2 : (t : Int) = 0 := by rw [(unhide Hn).2.1]; unfold locT; (repeat (rw [if_neg (by omega)])); rfl
    have e3 : h = false := by rw [(unhide Hn).2.2]; unfold hasL; simp; omega
    rw [e1, e2, e3]
    have w0 : decide ((21 : Int) ≤ (op : Int) ∧ (op : Int) ≤ 25) = false := by simp; omega
    have w1 : decide ((26 : Int) ≤ (op : Int) ∧ (op : Int) ≤ 45) = false := by simp; omega
    have w2 : decide ((54 : Int) ≤ (op : Int) ∧ (op : Int) ≤ 58) = false := by simp; omega
    have w3 : decide ((59 : Int) ≤ (op : Int) ∧ (op : Int) ≤ 78) = false := by simp; omega
    have q1 : ((op : Int) == 132) = false := by rw [beq_eq_false_iff_ne]; omega
    clear e1 e2 e3 Hn
    clear c0 c1 c2 c3 c4
    clear ho
    go_enter Tryd.func41, Tryd.ntmps41
    go_wp2_with (go_at_call 43; refine (unhide HW _ _ _ _).mono ?_; rintro e w' ⟨rfl, hww⟩; subst w')
    go_ret3
    exact ⟨rfl, unhide Hb⟩

set_option maxRecDepth 100000 in
set_option maxHeartbeats 2000000 in
theorem localHolds_any (c : Cw.V) (cb : Nat) (locals : Int) (w : World) (ho : c.g.op < 256) (hl : w.cell? ⟨cb, 1, none⟩ = some (.int .i64 locals)) (hwf : (Lit.int .i64 locals).wf = true) :
    Calls Tryd.prog 31 #[.pointer (some ⟨cb, 0, none⟩), .agg c.arr] w fun e w' => e = .returned (.bool (locB c.g.op c.g.a locals)) ∧ Below w.heap.size w w' := by
  have HL := hide (fun w => Local_any c w ho)
  have hlo : -9223372036854775808 ≤ locals := by have : IntKind.i64.min ≤ locals ∧ locals ≤ IntKind.i64.max := by simpa [Lit.wf] using hwf
                                                 exact this.1
  have hhi : locals ≤ 9223372036854775807 := by have : IntKind.i64.min ≤ locals ∧ locals ≤ IntKind.i64.max := by simpa [Lit.wf] using hwf
                                                exact this.2
  have hcl : cb < w.heap.size := cell_lt hl
  obtain ⟨r, hr⟩ : ∃ r, r = locB c.g.op c.g.a locals := ⟨_, rfl⟩
  rw [← hr]
  unfold locB at hr
  generalize locN c.g.op c.g.a = n at *
  generalize hasL c.g.op = hs at *
  have htb : locT c.g.op < 5 := by
    unfold locT
    repeat (split; · omega)
    omega
  generalize locT c.g.op = t at *
  have hb0 := (Below.refl w.heap.size w).alloc (Nat.le_refl _) (.cells c.arr 50)
  obtain ⟨⟨at_, op, wide, a, b, low, keys, tgts⟩, kv, tv⟩ := c
  unfold Cw.V.arr at hb0 HL ⊢
  simp only at hb0 HL ⊢
  have Hb := hide hb0
  clear hb0 hwf ho
  have hl1 : (w.alloc (.cells #[.int .i64 at_, .int .u8 (op : Int), .bool wide, .int .i64 a, .int .i64 b, .int .i64 low, kv, tv] 50)).cell? ⟨cb, 1, none⟩ = some (.int .i64 locals) := by rw [(unhide Hb).cell hcl]; exact hl
  have hcl1 : cb < (w.alloc (.cells #[.int .i64 at_, .int .u8 (op : Int), .bool wide, .int .i64 a, .int .i64 b, .int .i64 low, kv, tv] 50)).heap.size := by simp; omega
  have Hr := hide hr
  clear hr
  cases hs
  · have e : r = true := by rw [unhide Hr]; rfl
    subst e
    clear Hr
    go_enter Tryd.func31, Tryd.ntmps31
    go_wp2_with fail
    refine (unhide HL _).mono ?_
    rintro e w1 ⟨rfl, hb1⟩
    have hbz := (unhide Hb).trans (hb1.mono (unhide Hb).size)
    go_wp2
    go_ret
    exact ⟨rfl, hbz⟩
  · by_cases hn : n < 0 ∨ locals ≤ n
    · have e : r = false := by rw [unhide Hr, if_neg (by simp), if_pos hn]
      subst e
      clear Hr
      by_cases hn0 : n < 0
      · clear hn
        go_enter Tryd.func31, Tryd.ntmps31
        go_wp2_with fail
        refine (unhide HL _).mono ?_
        rintro e w1 ⟨rfl, hb1⟩
        have hbz := (unhide Hb).trans (hb1.mono (unhide Hb).size)
        have hl2 : w1.cell? ⟨cb, 1, none⟩ = some (.int .i64 locals) := by rw [hb1.cell hcl1]; exact hl1
        go_wp2
        go_ret
        exact ⟨rfl, hbz⟩
      · have hn1 : locals ≤ n := by omega
        clear hn
        go_enter Tryd.func31, Tryd.ntmps31
        go_wp2_with fail
        refine (unhide HL _).mono ?_
        rintro e w1 ⟨rfl, hb1⟩
        have hbz := (unhide Hb).trans (hb1.mono (unhide Hb).size)
        have hl2 : w1.cell? ⟨cb, 1, none⟩ = some (.int .i64 locals) := by rw [hb1.cell hcl1]; exact hl1
        go_wp2
        go_ret
        exact ⟨rfl, hbz⟩
    · have e : r = decide (¬ (t = 1 ∨ t = 3) ∨ n < locals - 1) := by rw [unhide Hr, if_neg (by simp), if_neg hn]
      have hn0 : ¬ n < 0 := by omega
      have hn1 : ¬ locals ≤ n := by omega
      have hn2 : IntKind.i64.wrap (locals - 1) = locals - 1 := by rw [IntKind.wrap_i64]; omega
      clear Hr hn
      rcases (show t = 0 ∨ t = 1 ∨ t = 2 ∨ t = 3 ∨ t = 4 by omega) with ht | ht | ht | ht | ht
      all_goals
        subst ht
        by_cases hq : n < locals - 1
        all_goals
          have e2 : r = true ∨ r = false := by cases r <;> simp
          have He := hide e
          clear e e2 htb
          go_enter Tryd.func31, Tryd.ntmps31
          go_wp2_with fail
          refine (unhide HL _).mono ?_
          rintro e w1 ⟨rfl, hb1⟩
          have hbz := (unhide Hb).trans (hb1.mono (unhide Hb).size)
          have hl2 : w1.cell? ⟨cb, 1, none⟩ = some (.int .i64 locals) := by rw [hb1.cell hcl1]; exact hl1
          go_wp2
          go_ret
          exact ⟨by rw [unhide He]; simp [hq]; try rfl, hbz⟩
end Go.Proofs.YtejbnbilbagkmaaDoor.Ck
