/-
  jvmcoreref2's form; a cut's signed numbers.
-/
import Derived.Test.YtpmonoenppfekabDoorCut
namespace Go.Proofs.YtpmonoenppfekabDoor
open Go.RowKit
set_option maxHeartbeats 400000 in
theorem csigned_any (R n : Nat) (s : ByteArray) (st : St) (w : World) (h : Rc w R s st) (hs : s.size ≤ 131072) (hn : n = 1 ∨ n = 2 ∨ n = 4) (hp : st.pos ≤ s.size) :
    Calls Tryd.prog 59 #[.pointer (some ⟨R, 0, none⟩), .int .i64 (n : Int)] w fun x w' => TookC R s (M.take s.data.toList n st).2 w (.int .i64 (M.sgn n (M.num (M.take s.data.toList n st).1))) x w' := by
  have hc := ctake_any R n s st w h hs (by omega) hp
  have hz := took_size s.data.toList n st
  have hN := fun w1 => signed_any (took s.data.toList n st) w1 (by rw [hz]; exact hn)
  rw [took_num, hz] at hN
  obtain ⟨x, hx⟩ : ∃ x, x = M.sgn n (M.num (M.take s.data.toList n st).1) := ⟨_, rfl⟩
  rw [← hx] at hN ⊢
  have Hc := hide hc
  have HN := hide hN
  clear hc hN hx hz h
  go_enter Tryd.func59, Tryd.ntmps59
  go_wp2_with fail
  refine (unhide Hc).mono ?_
  rintro e w1 ⟨rfl, hr1, hg1⟩
  go_wp2_with fail
  refine (unhide HN _).mono ?_
  rintro e w2 ⟨rfl, hww⟩
  subst w2
  go_wp2
  go_ret
  exact ⟨rfl, hr1, hg1⟩
/-- The sign of an instruction's operands. -/
def sign (op : Nat) : UInt8 :=
  if op = 196 then 119 else if M.kind op = 2 then 98 else if M.kind op = 3 then 115 else if M.kind op = 4 then 99 else if M.kind op = 5 then 105 else if M.kind op = 6 then 108 else if M.kind op = 8 then 110
  else if M.kind op = 10 then 106 else if M.kind op = 11 then 74 else if M.kind op = 12 then 102 else if M.kind op = 13 then 97 else if M.kind op = 14 then 109 else if M.kind op = 15 then 116 else if M.kind op = 16 then 107
  else if M.kind op = 0 then 120 else 46
set_option maxRecDepth 100000 in
set_option maxHeartbeats 1000000 in
theorem form_low (op : Nat) (w : World) (ho : op < 201) : Calls Tryd.prog 40 #[.int .i64 (op : Int)] w fun e w' => e = .returned (.string ⟨#[sign op]⟩) ∧ w' = w := by
  have Ho := hide ho
  go_enter Tryd.func40, Tryd.ntmps40
  go_wp2
  go_ret
  refine ⟨congrArg (fun z => Ending.returned (.string z)) ?_, rfl⟩
  have ho := unhide Ho
  clear Ho
  rename_i h1
  clear h1
  revert op
  decide +kernel
set_option maxRecDepth 100000 in
set_option maxHeartbeats 1000000 in
theorem form_high (op : Nat) (w : World) (h1 : 201 ≤ op) (h2 : op < 256) : Calls Tryd.prog 40 #[.int .i64 (op : Int)] w fun e w' => e = .returned (.string ⟨#[sign op]⟩) ∧ w' = w := by
  have hs : sign op = 120 := by
    have h : ∀ k : Fin 256, 201 ≤ k.val → sign k.val = 120 := by decide +kernel
    exact h ⟨op, h2⟩ h1
  rw [hs]
  clear hs
  have h1' : (201 : Int) ≤ (op : Int) := by omega
  go_enter Tryd.func40, Tryd.ntmps40
  go_wp2
  go_ret
  exact ⟨rfl, rfl⟩
theorem form_any (op : Nat) (w : World) (ho : op < 256) : Calls Tryd.prog 40 #[.int .i64 (op : Int)] w fun e w' => e = .returned (.string ⟨#[sign op]⟩) ∧ w' = w := by
  by_cases h : op < 201
  · exact form_low op w h
  · exact form_high op w (by omega) ho
end Go.Proofs.YtpmonoenppfekabDoor
