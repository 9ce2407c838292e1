/-
  CodeChecks: the program's indexHolds.
-/
import Derived.Test.YtddhlphbbiihjaaGreatDoorCr
set_option linter.unusedVariables false
set_option linter.unusedSimpArgs false
namespace Go.Proofs.YtddhlphbbiihjaaGreatDoor.Ck
open Go.RowKit Kn


set_option maxRecDepth 100000 in
set_option maxHeartbeats 4000000 in
theorem idx_other (c : Cw.V) (cb mb : Nat) (pv : Value) (P : List K) (w : World) (ho : c.g.op < 256) (hop : c.g.op ≠ 18 ∧ c.g.op ≠ 19 ∧ c.g.op ≠ 20 ∧ c.g.op ≠ 178 ∧ c.g.op ≠ 179 ∧ c.g.op ≠ 180 ∧ c.g.op ≠ 181 ∧ c.g.op ≠ 182 ∧ c.g.op ≠ 183 ∧ c.g.op ≠ 184 ∧ c.g.op ≠ 185 ∧ c.g.op ≠ 187 ∧ c.g.op ≠ 189 ∧ c.g.op ≠ 192 ∧ c.g.op ≠ 193 ∧ c.g.op ≠ 197) (h : Ch w cb mb pv P) :
    Calls Tryz.prog 92 #[.pointer (some ⟨cb, 0, none⟩), .agg c.arr] w fun e w' => e = .returned (.bool true) ∧ Bx mb w w' ∧ Ch w' cb mb pv P := by
  have hbx := (Below.refl w.heap.size w).alloc (Nat.le_refl _) (.cells c.arr 112)
  have hC0 := h.below hbx
  obtain ⟨⟨at_, op, wide, a, b, low, keys, tgts⟩, kv, tv⟩ := c
  unfold Cw.V.arr at *
  simp only at *
  have y18 : ((op : Int) == 18) = false := by rw [beq_eq_false_iff_ne]; omega
  have y19 : ((op : Int) == 19) = false := by rw [beq_eq_false_iff_ne]; omega
  have y20 : ((op : Int) == 20) = false := by rw [beq_eq_false_iff_ne]; omega
  have y185 : ((op : Int) == 185) = false := by rw [beq_eq_false_iff_ne]; omega
  have y187 : ((op : Int) == 187) = false := by rw [beq_eq_false_iff_ne]; omega
  have y189 : ((op : Int) == 189) = false := by rw [beq_eq_false_iff_ne]; omega
  have y192 : ((op : Int) == 192) = false := by rw [beq_eq_false_iff_ne]; omega
  have y193 : ((op : Int) == 193) = false := by rw [beq_eq_false_iff_ne]; omega
  have y197 : ((op : Int) == 197) = false := by rw [beq_eq_false_iff_ne]; omega
  have z1 : decide ((178 : Int) ≤ (op : Int) ∧ (op : Int) ≤ 181) = false := by rw [decide_eq_false_iff_not]; omega
  have z2 : decide ((182 : Int) ≤ (op : Int) ∧ (op : Int) ≤ 184) = false := by rw [decide_eq_false_iff_not]; omega
  have HW1 : Hid (∀ w : World, Calls Tryz.prog 110 #[.int .u8 (op : Int), .int .u8 178, .int .u8 181] w fun e w' => e = .returned (.bool false) ∧ w' = w) := fun w => by have := Fm.within_any (op : Int) 178 181 w; rw [z1] at this; exact this
  have HW2 : Hid (∀ w : World, Calls Tryz.prog 110 #[.int .u8 (op : Int), .int .u8 182, .int .u8 184] w fun e w' => e = .returned (.bool false) ∧ w' = w) := fun w => by have := Fm.within_any (op : Int) 182 184 w; rw [z2] at this; exact this
  have HK := hide (And.intro hbx hC0)
  clear hop z1 z2 hbx hC0 h ho
  go_enter Tryz.func92, Tryz.ntmps92
  go_wp2_with fail
  refine (unhide HW1 _).mono ?_
  rintro e w2 ⟨rfl, hw⟩
  subst hw
  go_wp2_with fail
  refine (unhide HW2 _).mono ?_
  rintro e w2 ⟨rfl, hw⟩
  subst hw
  go_wp2
  go_ret
  exact ⟨rfl, Bx.of (unhide HK).1, (unhide HK).2⟩
/-- indexHolds, of any instruction. -/
theorem idx_all : IdxC := by
  intro c cb mb pv P w ho h hP hS
  by_cases h18 : c.g.op = 18
  · rw [h18]; exact idx_18 c cb mb pv P w h18 h hP hS
  by_cases h19 : c.g.op = 19
  · rw [h19]; exact idx_19 c cb mb pv P w h19 h hP hS
  by_cases h20 : c.g.op = 20
  · rw [h20]; exact idx_20 c cb mb pv P w h20 h hP hS
  by_cases h178 : c.g.op = 178
  · rw [h178]; exact idx_178 c cb mb pv P w h178 h hP hS
  by_cases h179 : c.g.op = 179
  · rw [h179]; exact idx_179 c cb mb pv P w h179 h hP hS
  by_cases h180 : c.g.op = 180
  · rw [h180]; exact idx_180 c cb mb pv P w h180 h hP hS
  by_cases h181 : c.g.op = 181
  · rw [h181]; exact idx_181 c cb mb pv P w h181 h hP hS
  by_cases h182 : c.g.op = 182
  · rw [h182]; exact idx_182 c cb mb pv P w h182 h hP hS
  by_cases h183 : c.g.op = 183
  · rw [h183]; exact idx_183 c cb mb pv P w h183 h hP hS
  by_cases h184 : c.g.op = 184
  · rw [h184]; exact idx_184 c cb mb pv P w h184 h hP hS
  by_cases h185 : c.g.op = 185
  · rw [h185]; exact idx_185 c cb mb pv P w h185 h hP hS
  by_cases h187 : c.g.op = 187
  · rw [h187]; exact idx_187 c cb mb pv P w h187 h hP hS
  by_cases h189 : c.g.op = 189
  · rw [h189]; exact idx_189 c cb mb pv P w h189 h hP hS
  by_cases h192 : c.g.op = 192
  · rw [h192]; exact idx_192 c cb mb pv P w h192 h hP hS
  by_cases h193 : c.g.op = 193
  · rw [h193]; exact idx_193 c cb mb pv P w h193 h hP hS
  by_cases h197 : c.g.op = 197
  · rw [h197]; exact idx_197 c cb mb pv P w h197 h hP hS
  have hv : opdB P c.g.op c.g.a c.g.b = true := by
    unfold opdB
    rw [if_neg (by omega), if_neg (by omega), if_neg (by omega), if_neg (by omega), if_neg (by omega), if_neg (by omega), if_neg (by omega), if_neg (by omega), if_neg (by omega)]
  rw [hv]
  exact idx_other c cb mb pv P w ho ⟨h18, h19, h20, h178, h179, h180, h181, h182, h183, h184, h185, h187, h189, h192, h193, h197⟩ h

end Go.Proofs.YtddhlphbbiihjaaGreatDoor.Ck
