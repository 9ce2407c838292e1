/-
  within, and the form of an instruction (carried from 60cd14c).
-/
import Derived.Test.YtejbnbilbagkmaaDoorBase
import Derived.Laws.BitsAllLaws
namespace Go.Proofs.YtejbnbilbagkmaaDoor.Fm
open Go.RowKit
set_option linter.unusedVariables false
set_option linter.unusedSimpArgs false
namespace M
/-- What stands behind the number of an instruction that is not wide. -/
def kind (op : Nat) : Nat :=
  if op = 16 then 2 else if op = 17 then 3 else if op = 18 then 4
  else if op = 19 ∨ op = 20 ∨ (178 ≤ op ∧ op ≤ 184) ∨ op = 187 ∨ op = 189 ∨ op = 192 ∨ op = 193 then 5
  else if (21 ≤ op ∧ op ≤ 25) ∨ (54 ≤ op ∧ op ≤ 58) then 6
  else if op = 132 then 8
  else if (153 ≤ op ∧ op ≤ 167) ∨ op = 198 ∨ op = 199 then 10
  else if op = 200 then 11
  else if op = 170 then 15
  else if op = 171 then 16
  else if op = 185 then 12
  else if op = 188 then 13
  else if op = 197 then 14
  else if op = 168 ∨ op = 169 ∨ op = 186 ∨ op = 196 ∨ 200 < op then 0
  else 1
end M
set_option maxHeartbeats 400000 in
theorem within_any (op lo hi : Int) (w : World) :
    Calls Tryd.prog 43 #[.int .u8 op, .int .u8 lo, .int .u8 hi] w fun e w' => e = .returned (.bool (decide (lo ≤ op ∧ op ≤ hi))) ∧ w' = w := by
  by_cases h1 : lo ≤ op
  · have hd : decide (lo ≤ op ∧ op ≤ hi) = decide (op ≤ hi) := by rw [Bool.eq_iff_iff]; simp [h1]
    rw [hd]; clear hd
    go_enter Tryd.func43, Tryd.ntmps43
    go_wp2
    all_goals go_ret
    all_goals exact ⟨rfl, rfl⟩
  · have hd : decide (lo ≤ op ∧ op ≤ hi) = false := by rw [decide_eq_false_iff_not]; omega
    rw [hd]
    have h1' : op < lo := by omega
    clear h1 hd
    go_enter Tryd.func43, Tryd.ntmps43
    go_wp2
    all_goals go_ret
    all_goals exact ⟨rfl, rfl⟩
/-- The sign of an instruction's operands. -/
def sign (op : Nat) : UInt8 :=
  if op = 196 then 119 else if M.kind op = 2 then 98 else if M.kind op = 3 then 115 else if M.kind op = 4 then 99 else if M.kind op = 5 then 105 else if M.kind op = 6 then 108 else if M.kind op = 8 then 110
  else if M.kind op = 10 then 106 else if M.kind op = 11 then 74 else if M.kind op = 12 then 102 else if M.kind op = 13 then 97 else if M.kind op = 14 then 109 else if M.kind op = 15 then 116 else if M.kind op = 16 then 107
  else if M.kind op = 0 then 120 else 46
set_option maxRecDepth 100000 in
set_option maxHeartbeats 1000000 in
theorem form_low (op : Nat) (w : World) (ho : op < 201) : Calls Tryd.prog 47 #[.int .i64 (op : Int)] w fun e w' => e = .returned (.string ⟨#[sign op]⟩) ∧ w' = w := by
  have Ho := hide ho
  go_enter Tryd.func47, Tryd.ntmps47
  go_wp2
  go_ret
  refine ⟨congrArg (fun z => Ending.returned (.string z)) ?_, rfl⟩
  have ho := unhide Ho
  clear Ho
  rename_i h1
  clear h1
  revert op
  decide +kernel
set_option maxRecDepth 100000 in
set_option maxHeartbeats 1000000 in
theorem form_high (op : Nat) (w : World) (h1 : 201 ≤ op) (h2 : op < 256) : Calls Tryd.prog 47 #[.int .i64 (op : Int)] w fun e w' => e = .returned (.string ⟨#[sign op]⟩) ∧ w' = w := by
  have hs : sign op = 120 := by
    have h : ∀ k : Fin 256, 201 ≤ k.val → sign k.val = 120 := by decide +kernel
    exact h ⟨op, h2⟩ h1
  rw [hs]
  clear hs
  have h1' : (201 : Int) ≤ (op : Int) := by omega
  go_enter Tryd.func47, Tryd.ntmps47
  go_wp2
  go_ret
  exact ⟨rfl, rfl⟩

end Go.Proofs.YtejbnbilbagkmaaDoor.Fm
