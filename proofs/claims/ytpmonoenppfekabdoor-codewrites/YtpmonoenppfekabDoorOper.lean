/-
  Signed, operand, target, holds.
-/
import Derived.Test.YtpmonoenppfekabDoorWire
namespace Go.Proofs.YtpmonoenppfekabDoor
open Go.RowKit
theorem shr1 (x : Nat) (h : x < 256 ^ 1) : wrap64 ((x : Int) * 72057594037927936) / 72057594037927936 = M.sgn 1 x := by
  unfold wrap64 M.sgn; split <;> simp only [Nat.reducePow] at * <;> omega
theorem shr2 (x : Nat) (h : x < 256 ^ 2) : wrap64 ((x : Int) * 281474976710656) / 281474976710656 = M.sgn 2 x := by
  unfold wrap64 M.sgn; split <;> simp only [Nat.reducePow] at * <;> omega
theorem shr4 (x : Nat) (h : x < 256 ^ 4) : wrap64 ((x : Int) * 4294967296) / 4294967296 = M.sgn 4 x := by
  unfold wrap64 M.sgn; split <;> simp only [Nat.reducePow] at * <;> omega
set_option maxHeartbeats 400000 in
theorem Signed1 (R : Nat) (s : ByteArray) (st : St) (w : World) (h : Rd w R s st) (hs : s.size ≤ 131072) (hp : st.pos ≤ s.size) :
    Calls Tryd.prog 110 #[.pointer (some ⟨R, 0, none⟩), .int .i64 1] w fun x w' => Took R s (M.take s.data.toList 1 st).2 w (.int .i64 (M.sgn 1 (M.num (M.take s.data.toList 1 st).1))) x w' := by
  have hl := M.num_le (M.take_len s.data.toList 1 st)
  have hc := Number_any R s st 1 w h hs (by omega) hp
  obtain ⟨T, st', hT⟩ : ∃ T st', M.take s.data.toList 1 st = (T, st') := ⟨_, _, rfl⟩
  rw [hT] at hl hc ⊢
  clear hT h
  simp only at hl hc ⊢
  obtain ⟨x, hx⟩ : ∃ x, x = M.num T := ⟨_, rfl⟩
  rw [← hx] at hl hc ⊢
  clear hx
  have Hc := hide hc
  clear hc
  go_enter Tryd.func110, Tryd.ntmps110
  go_wp2_with fail
  refine (unhide Hc).mono ?_
  clear Hc
  rintro e w1 ⟨rfl, hr1, hg1⟩
  go_wp2
  go_ret
  exact ⟨congrArg (fun z => Ending.returned (.int .i64 z)) (shr1 x hl), hr1, hg1⟩
set_option maxHeartbeats 400000 in
theorem Signed2 (R : Nat) (s : ByteArray) (st : St) (w : World) (h : Rd w R s st) (hs : s.size ≤ 131072) (hp : st.pos ≤ s.size) :
    Calls Tryd.prog 110 #[.pointer (some ⟨R, 0, none⟩), .int .i64 2] w fun x w' => Took R s (M.take s.data.toList 2 st).2 w (.int .i64 (M.sgn 2 (M.num (M.take s.data.toList 2 st).1))) x w' := by
  have hl := M.num_le (M.take_len s.data.toList 2 st)
  have hc := Number_any R s st 2 w h hs (by omega) hp
  obtain ⟨T, st', hT⟩ : ∃ T st', M.take s.data.toList 2 st = (T, st') := ⟨_, _, rfl⟩
  rw [hT] at hl hc ⊢
  clear hT h
  simp only at hl hc ⊢
  obtain ⟨x, hx⟩ : ∃ x, x = M.num T := ⟨_, rfl⟩
  rw [← hx] at hl hc ⊢
  clear hx
  have Hc := hide hc
  clear hc
  go_enter Tryd.func110, Tryd.ntmps110
  go_wp2_with fail
  refine (unhide Hc).mono ?_
  clear Hc
  rintro e w1 ⟨rfl, hr1, hg1⟩
  go_wp2
  go_ret
  exact ⟨congrArg (fun z => Ending.returned (.int .i64 z)) (shr2 x hl), hr1, hg1⟩
set_option maxHeartbeats 400000 in
theorem Signed4 (R : Nat) (s : ByteArray) (st : St) (w : World) (h : Rd w R s st) (hs : s.size ≤ 131072) (hp : st.pos ≤ s.size) :
    Calls Tryd.prog 110 #[.pointer (some ⟨R, 0, none⟩), .int .i64 4] w fun x w' => Took R s (M.take s.data.toList 4 st).2 w (.int .i64 (M.sgn 4 (M.num (M.take s.data.toList 4 st).1))) x w' := by
  have hl := M.num_le (M.take_len s.data.toList 4 st)
  have hc := Number_any R s st 4 w h hs (by omega) hp
  obtain ⟨T, st', hT⟩ : ∃ T st', M.take s.data.toList 4 st = (T, st') := ⟨_, _, rfl⟩
  rw [hT] at hl hc ⊢
  clear hT h
  simp only at hl hc ⊢
  obtain ⟨x, hx⟩ : ∃ x, x = M.num T := ⟨_, rfl⟩
  rw [← hx] at hl hc ⊢
  clear hx
  have Hc := hide hc
  clear hc
  go_enter Tryd.func110, Tryd.ntmps110
  go_wp2_with fail
  refine (unhide Hc).mono ?_
  clear Hc
  rintro e w1 ⟨rfl, hr1, hg1⟩
  go_wp2
  go_ret
  exact ⟨congrArg (fun z => Ending.returned (.int .i64 z)) (shr4 x hl), hr1, hg1⟩
theorem Signed_any (R : Nat) (s : ByteArray) (st : St) (n : Nat) (w : World) (h : Rd w R s st) (hs : s.size ≤ 131072) (hp : st.pos ≤ s.size) (hn : n = 1 ∨ n = 2 ∨ n = 4) :
    Calls Tryd.prog 110 #[.pointer (some ⟨R, 0, none⟩), .int .i64 (n : Int)] w fun x w' => Took R s (M.take s.data.toList n st).2 w (.int .i64 (M.sgn n (M.num (M.take s.data.toList n st).1))) x w' := by
  rcases hn with rfl | rfl | rfl
  · exact Signed1 R s st w h hs hp
  · exact Signed2 R s st w h hs hp
  · exact Signed4 R s st w h hs hp
/-- A field as it lies in the program. -/
def F.val (f : F) : Value := .agg #[.int .i64 (f.size : Int), .int .i64 f.low, .int .i64 f.high]
def F.Ok (f : F) : Prop := f.size ≤ 4 ∧ (f.low < 0 → f.size = 1 ∨ f.size = 2 ∨ f.size = 4)
theorem grown_drew {w w' : World} {row : Option Nat} (h : w.drew.grownBy w' row) : w.grownBy w' row := ⟨h.os, h.tape, h.output, h.size, h.block⟩
theorem Rd.alloc {w : World} {R : Nat} {s : ByteArray} {st : St} (h : Rd w R s st) (o : Obj) : Rd (w.alloc o) R s st := h.kept (World.grownBy_alloc w o none) (by simp)
set_option maxHeartbeats 400000 in
theorem operand_any (R : Nat) (s : ByteArray) (st : St) (f : F) (w : World) (h : Rd w R s st) (hs : s.size ≤ 131072) (hp : st.pos ≤ s.size) (hf : f.Ok) :
    Calls Tryd.prog 86 #[.pointer (some ⟨R, 0, none⟩), f.val] w fun x w' => Took R s (M.take s.data.toList f.size st).2 w (.int .i64 (M.rd f (M.take s.data.toList f.size st).1)) x w' := by
  obtain ⟨n, lo, hi⟩ := f
  obtain ⟨hn, hm⟩ := hf
  simp only [F.val, M.rd] at *
  have hr0 := h.alloc (.cells #[.int .i64 (n : Int), .int .i64 lo, .int .i64 hi] 92)
  have hg0 := World.grownBy_alloc w (.cells #[.int .i64 (n : Int), .int .i64 lo, .int .i64 hi] 92) (some R)
  by_cases hlo : lo < 0
  · rw [if_pos hlo]
    have Hc := hide (fun w1 h1 => Signed_any R s st n w1 h1 hs hp (hm hlo))
    clear hm h
    go_enter Tryd.func86, Tryd.ntmps86
    go_wp2_with fail
    go_region_with (go_at_call 110; refine (unhide Hc _ hr0.drew).mono ?_; rintro e w1 ⟨rfl, hr1, hg1⟩)
    go_wp2
    go_ret
    exact ⟨rfl, hr1, grown_trans hg0 (grown_drew hg1)⟩
  · have hl := M.num_le (M.take_len s.data.toList n st)
    have h2 : (256 ^ n : Nat) ≤ 256 ^ 4 := Nat.pow_le_pow_right (by omega) hn
    simp only [Nat.reducePow] at h2
    rw [if_neg hlo]
    have hc := fun w1 h1 => Number_any R s st n w1 h1 hs (by omega) hp
    obtain ⟨T, st', hT⟩ : ∃ T st', M.take s.data.toList n st = (T, st') := ⟨_, _, rfl⟩
    rw [hT] at hl hc ⊢
    simp only at hl hc ⊢
    obtain ⟨x, hx⟩ : ∃ x, x = M.num T := ⟨_, rfl⟩
    rw [← hx] at hl hc ⊢
    have hx4 : x < 4294967296 := by omega
    have hwr : IntKind.i64.wrap (x : Int) = (x : Int) := by rw [IntKind.wrap_i64, Int.emod_eq_of_lt (by omega) (by omega)]; omega
    have Hc := hide hc
    clear hx hT hl h2 hc hm h
    go_enter Tryd.func86, Tryd.ntmps86
    go_wp2_with fail
    go_region_with (go_at_call 83; refine (unhide Hc _ hr0.drew).mono ?_; rintro e w1 ⟨rfl, hr1, hg1⟩)
    go_wp2
    go_ret
    exact ⟨by rw [← hwr]; rfl, hr1, grown_trans hg0 (grown_drew hg1)⟩
set_option maxHeartbeats 400000 in
theorem target_any (R : Nat) (s : ByteArray) (st : St) (f : F) (a : Nat) (w : World) (h : Rd w R s st) (hs : s.size ≤ 131072) (hp : st.pos ≤ s.size) (hf : f.Ok) (ha : a ≤ 131072) :
    Calls Tryd.prog 87 #[.pointer (some ⟨R, 0, none⟩), .int .i64 (a : Int), f.val] w fun x w' => Took R s (M.take s.data.toList f.size st).2 w (.int .i64 ((a : Int) + M.rd f (M.take s.data.toList f.size st).1)) x w' := by
  have hc := fun w1 h1 => operand_any R s st f w1 h1 hs hp hf
  have hb := M.rd_bound f _ (M.take_len s.data.toList f.size st) hf.1
  obtain ⟨T, st', hT⟩ : ∃ T st', M.take s.data.toList f.size st = (T, st') := ⟨_, _, rfl⟩
  rw [hT] at hc hb ⊢
  simp only at hc hb ⊢
  obtain ⟨y, hy⟩ : ∃ y, y = M.rd f T := ⟨_, rfl⟩
  rw [← hy] at hc hb ⊢
  unfold F.val at *
  have Hc := hide hc
  have hr0 := h.alloc (.cells #[.int .i64 (f.size : Int), .int .i64 f.low, .int .i64 f.high] 92)
  have hg0 := World.grownBy_alloc w (.cells #[.int .i64 (f.size : Int), .int .i64 f.low, .int .i64 f.high] 92) (some R)
  clear hc hT hy h hf
  go_enter Tryd.func87, Tryd.ntmps87
  go_wp2_with fail
  refine (unhide Hc _ hr0).mono ?_
  clear Hc
  rintro e w1 ⟨rfl, hr1, hg1⟩
  go_wp2
  go_ret
  exact ⟨rfl, hr1, grown_trans hg0 hg1⟩
set_option maxHeartbeats 400000 in
theorem holds_any (f : F) (x : Int) (w : World) :
    Calls Tryd.prog 88 #[f.val, .int .i64 x] w fun e w' => e = .returned (.bool (M.holds f x)) ∧ w' = w.alloc (.cells #[.int .i64 (f.size : Int), .int .i64 f.low, .int .i64 f.high] 92) := by
  obtain ⟨n, lo, hi⟩ := f
  simp only [F.val, M.holds]
  have hd : (((n : Int) == 0) : Bool) = (n == 0) := by rw [Bool.eq_iff_iff]; simp
  by_cases hn : n = 0
  · subst hn
    clear hd
    go_enter Tryd.func88, Tryd.ntmps88
    go_wp2
    all_goals go_ret
    all_goals exact ⟨rfl, rfl⟩
  · have hn2 : (n == 0) = false := by simpa using hn
    rw [hn2] at hd ⊢
    clear hn hn2
    by_cases h1 : lo ≤ x
    · rw [decide_eq_true h1]
      go_enter Tryd.func88, Tryd.ntmps88
      go_wp2
      all_goals go_ret
      all_goals exact ⟨rfl, rfl⟩
    · rw [decide_eq_false h1]
      have h1' : x < lo := by omega
      clear h1
      go_enter Tryd.func88, Tryd.ntmps88
      go_wp2
      all_goals go_ret
      all_goals exact ⟨rfl, rfl⟩
end Go.Proofs.YtpmonoenppfekabDoor
