/-
  jvmcoreref1's Num and sizes; one constant, as the reference sees it.
-/
import Derived.Test.YtbgpkkbejbidlacMgE
namespace Go.Proofs.Ytbgpkkbejbidlac.Po
set_option maxRecDepth 100000
open Go.RowKit
set_option maxHeartbeats 400000 in
theorem Num_any (t : ByteArray) (w : World) (ht : t.size ≤ 8) :
    Calls Try.prog 77 #[.string t] w fun e w' => e = .returned (.int .u64 (M.num t.data.toList : Nat)) ∧ w' = w := by
  have hlen : t.data.toList.length = t.size := by simp
  go_enter Try.func77, Try.ntmps77
  go_wp2_with fail
  go_loop [3, 4] (fun x i => ∃ k : Nat, k ≤ t.size ∧ i = .int .i64 k ∧ x = .int .u64 (M.num (t.data.toList.take k) : Nat)) (fun _ i => t.size - (intOf i).toNat)
  case atStart => exact ⟨0, Nat.zero_le _, rfl, rfl⟩
  case round =>
    obtain ⟨k, hk, rfl, rfl⟩ := hrel
    by_cases hlt : k < t.size
    · obtain ⟨b, hb⟩ : ∃ b : Nat, b = (t.data.toList.getD k 0).toNat := ⟨_, rfl⟩
      have hbi : ((t[k]'hlt).toNat : Int) = (b : Int) := by rw [hb, at_of_list rfl k hlt]
      have hnt := num_take t.data.toList k (by omega)
      have hbt : b < 256 := by rw [hb]; exact (t.data.toList.getD k 0).toNat_lt
      have hx := num_lt (t.data.toList.take k)
      have hx7 : M.num (t.data.toList.take k) ≤ 72057594037927935 := by
        have hlk : (t.data.toList.take k).length ≤ 7 := by rw [List.length_take]; omega
        have := Nat.pow_le_pow_right (show 0 < 256 by omega) hlk
        have e7 : 256 ^ 7 = 72057594037927936 := by decide
        omega
      rw [← hb] at hnt
      clear hb hx
      obtain ⟨x, hxx⟩ : ∃ x, x = M.num (t.data.toList.take k) := ⟨_, rfl⟩
      rw [← hxx] at hnt hx7 ⊢
      have Hnt := hide hnt
      clear hxx hnt
      go_wp2
      go_round
      case rel => exact ⟨k + 1, by omega, by go_num, by rw [unhide Hnt]; go_num⟩
      case measure => simp [intOf]; omega
    · have hkl : k = t.size := by omega
      subst hkl
      rw [List.take_of_length_le (by omega)]
      go_wp2
      go_ret
      exact ⟨rfl, rfl⟩
/-- How many bytes stand behind a tag. -/
def szOf (t : Nat) : Int := if t = 1 ∨ t = 7 ∨ t = 8 then 2 else if t = 3 ∨ t = 4 ∨ t = 9 ∨ t = 10 ∨ t = 11 ∨ t = 12 then 4 else if t = 5 ∨ t = 6 then 8 else -1
set_option maxHeartbeats 400000 in
theorem sizes_any (t : Nat) (w : World) (ht : t < 256) : Calls Try.prog 78 #[.int .u8 (t : Int)] w fun e w' => e = .returned (.int .i64 (szOf t)) ∧ w' = w := by
  rcases (show t = 1 ∨ t = 7 ∨ t = 8 ∨ t = 3 ∨ t = 4 ∨ t = 9 ∨ t = 10 ∨ t = 11 ∨ t = 12 ∨ t = 5 ∨ t = 6 ∨ (t = 0 ∨ t = 2 ∨ 12 < t) by omega) with rfl | rfl | rfl | rfl | rfl | rfl | rfl | rfl | rfl | rfl | rfl | h
  iterate 11
    · go_enter Try.func78, Try.ntmps78
      go_wp2
      go_ret
      exact ⟨rfl, rfl⟩
  have f1 : ((t : Int) == 1) = false := by rw [beq_eq_false_iff_ne]; omega
  have f3 : ((t : Int) == 3) = false := by rw [beq_eq_false_iff_ne]; omega
  have f4 : ((t : Int) == 4) = false := by rw [beq_eq_false_iff_ne]; omega
  have f5 : ((t : Int) == 5) = false := by rw [beq_eq_false_iff_ne]; omega
  have f6 : ((t : Int) == 6) = false := by rw [beq_eq_false_iff_ne]; omega
  have f7 : ((t : Int) == 7) = false := by rw [beq_eq_false_iff_ne]; omega
  have f8 : ((t : Int) == 8) = false := by rw [beq_eq_false_iff_ne]; omega
  have f9 : ((t : Int) == 9) = false := by rw [beq_eq_false_iff_ne]; omega
  have f10 : ((t : Int) == 10) = false := by rw [beq_eq_false_iff_ne]; omega
  have f11 : ((t : Int) == 11) = false := by rw [beq_eq_false_iff_ne]; omega
  have f12 : ((t : Int) == 12) = false := by rw [beq_eq_false_iff_ne]; omega
  have hsz : szOf t = -1 := by unfold szOf; rw [if_neg (by omega), if_neg (by omega), if_neg (by omega)]
  rw [hsz]
  clear h hsz
  go_enter Try.func78, Try.ntmps78
  go_wp2
  go_ret
  exact ⟨rfl, rfl⟩
section
variable {s : List UInt8} {a : Nat}
theorem take_ok {k p : Nat} (h : a + k ≤ s.length) : M.take s k ⟨a, 0, p⟩ = ((s.drop a).take k, ⟨a + k, 0, p⟩) := by
  unfold M.take; rw [if_pos rfl, if_neg (by simp only; omega)]
theorem take_no {k p : Nat} (h : s.length - a < k) : M.take s k ⟨a, 0, p⟩ = ([], ⟨a, 1, s.length⟩) := by
  unfold M.take; rw [if_pos rfl, if_pos (by simp only; omega)]
theorem take_bad {k : Nat} {st : St} (h : st.e ≠ 0) : M.take s k st = ([], st) := by unfold M.take; rw [if_neg h]
theorem num_one (h : a < s.length) : M.num ((s.drop a).take 1) = (s.getD a 0).toNat := by
  rw [List.drop_eq_getElem_cons h, List.take_succ_cons, List.take_zero]; simp only [M.num, List.foldl_cons, List.foldl_nil, List.getD, List.getElem?_eq_getElem h, Option.getD_some]; omega
theorem cm_end (h : s.length ≤ a) : CM s ⟨a, 0, 0⟩ ⟨0, [], 0, 0, 0⟩ ⟨a, 1, s.length⟩ := by
  unfold CM; rw [take_no (by omega)]
  exact .inr (.inr (.inr (.inr (.inr ⟨.inl rfl, rfl, rfl⟩))))
theorem cm_other (h : a < s.length) (ht : (s.getD a 0).toNat = 0 ∨ (s.getD a 0).toNat = 2 ∨ 12 < (s.getD a 0).toNat) : CM s ⟨a, 0, 0⟩ ⟨(s.getD a 0).toNat, [], 0, 0, 0⟩ ⟨a + 1, 5, a⟩ := by
  unfold CM; rw [take_ok (by omega), num_one h]
  exact .inr (.inr (.inr (.inr (.inr ⟨ht, rfl, rfl⟩))))
theorem cm_34 (h : a + 5 ≤ s.length) (ht : (s.getD a 0).toNat = 3 ∨ (s.getD a 0).toNat = 4) : CM s ⟨a, 0, 0⟩ ⟨(s.getD a 0).toNat, [], M.num ((s.drop (a + 1)).take 4), 0, 0⟩ ⟨a + 5, 0, 0⟩ := by
  unfold CM; rw [take_ok (by omega), num_one (by omega)]; simp only; rw [take_ok (k := 4) (by omega)]
  exact .inr (.inl ⟨ht, rfl, rfl⟩)
theorem cm_56 (h : a + 9 ≤ s.length) (ht : (s.getD a 0).toNat = 5 ∨ (s.getD a 0).toNat = 6) : CM s ⟨a, 0, 0⟩ ⟨(s.getD a 0).toNat, [], M.num ((s.drop (a + 1)).take 8), 0, 0⟩ ⟨a + 9, 0, 0⟩ := by
  unfold CM; rw [take_ok (by omega), num_one (by omega)]; simp only; rw [take_ok (k := 8) (by omega)]
  exact .inr (.inr (.inl ⟨ht, rfl, rfl⟩))
theorem cm_78 (h : a + 3 ≤ s.length) (ht : (s.getD a 0).toNat = 7 ∨ (s.getD a 0).toNat = 8) : CM s ⟨a, 0, 0⟩ ⟨(s.getD a 0).toNat, [], 0, M.num ((s.drop (a + 1)).take 2), 0⟩ ⟨a + 3, 0, 0⟩ := by
  unfold CM; rw [take_ok (by omega), num_one (by omega)]; simp only; rw [take_ok (k := 2) (by omega)]
  exact .inr (.inr (.inr (.inl ⟨ht, rfl, rfl⟩)))
theorem cm_9 (h : a + 5 ≤ s.length) (ht : (s.getD a 0).toNat = 9 ∨ (s.getD a 0).toNat = 10 ∨ (s.getD a 0).toNat = 11 ∨ (s.getD a 0).toNat = 12) :
    CM s ⟨a, 0, 0⟩ ⟨(s.getD a 0).toNat, [], 0, M.num ((s.drop (a + 1)).take 2), M.num ((s.drop (a + 3)).take 2)⟩ ⟨a + 5, 0, 0⟩ := by
  unfold CM; rw [take_ok (by omega), num_one (by omega)]; simp only; rw [take_ok (k := 2) (a := a + 1) (by omega)]; simp only; rw [take_ok (k := 2) (by omega)]
  exact .inr (.inr (.inr (.inr (.inl ⟨ht, rfl, rfl⟩))))
theorem cm_1 (h : a + 3 ≤ s.length) (ht : (s.getD a 0).toNat = 1) (hk : a + 3 + M.num ((s.drop (a + 1)).take 2) ≤ s.length) (hx : M.IsText ((s.drop (a + 3)).take (M.num ((s.drop (a + 1)).take 2)))) :
    CM s ⟨a, 0, 0⟩ ⟨1, (s.drop (a + 3)).take (M.num ((s.drop (a + 1)).take 2)), 0, 0, 0⟩ ⟨a + 3 + M.num ((s.drop (a + 1)).take 2), 0, 0⟩ := by
  unfold CM; rw [take_ok (by omega), num_one (by omega)]; simp only; rw [take_ok (k := 2) (a := a + 1) (by omega)]; simp only; rw [take_ok (by omega)]
  exact .inl ⟨ht, rfl, .inl ⟨hx, rfl⟩⟩
theorem cm_1x (h : a + 3 ≤ s.length) (ht : (s.getD a 0).toNat = 1) (hk : a + 3 + M.num ((s.drop (a + 1)).take 2) ≤ s.length) (hx : ¬ M.IsText ((s.drop (a + 3)).take (M.num ((s.drop (a + 1)).take 2)))) :
    CM s ⟨a, 0, 0⟩ ⟨1, (s.drop (a + 3)).take (M.num ((s.drop (a + 1)).take 2)), 0, 0, 0⟩ ⟨a + 3 + M.num ((s.drop (a + 1)).take 2), 6, a⟩ := by
  unfold CM; rw [take_ok (by omega), num_one (by omega)]; simp only; rw [take_ok (k := 2) (a := a + 1) (by omega)]; simp only; rw [take_ok (by omega)]
  exact .inl ⟨ht, rfl, .inr ⟨hx, rfl⟩⟩
theorem text_nil : M.IsText [] := ⟨[], (fun _ h => by cases h), rfl⟩
theorem cm_1e (h : a + 3 ≤ s.length) (ht : (s.getD a 0).toNat = 1) (hk : s.length < a + 3 + M.num ((s.drop (a + 1)).take 2)) : CM s ⟨a, 0, 0⟩ ⟨1, [], 0, 0, 0⟩ ⟨a + 3, 1, s.length⟩ := by
  unfold CM; rw [take_ok (by omega), num_one (by omega)]; simp only; rw [take_ok (k := 2) (a := a + 1) (by omega)]; simp only; rw [take_no (by omega)]
  exact .inl ⟨ht, rfl, .inl ⟨text_nil, rfl⟩⟩
/-- A tag that is one, and too few bytes behind it. -/
theorem cm_short (h : a < s.length) (h0 : 0 ≤ szOf (s.getD a 0).toNat) (hk : (s.length : Int) < (a : Int) + 1 + szOf (s.getD a 0).toNat) : ∃ c x, CM s ⟨a, 0, 0⟩ c x ∧ x.e = 1 ∧ x.p = s.length := by
  obtain ⟨t, et⟩ : ∃ t, t = (s.getD a 0).toNat := ⟨_, rfl⟩
  rw [← et] at h0 hk
  have hn : M.num ((s.drop a).take 1) = t := by rw [num_one h, et]
  rcases (show t = 1 ∨ (t = 3 ∨ t = 4) ∨ (t = 5 ∨ t = 6) ∨ (t = 7 ∨ t = 8) ∨ (t = 9 ∨ t = 10 ∨ t = 11 ∨ t = 12) ∨ (t = 0 ∨ t = 2 ∨ 12 < t) by omega) with h1 | h1 | h1 | h1 | h1 | h1
  · have hz : szOf t = 2 := by unfold szOf; rw [if_pos (by omega)]
    refine ⟨⟨1, [], 0, 0, 0⟩, ⟨a + 1, 1, s.length⟩, ?_, rfl, rfl⟩
    unfold CM; rw [take_ok (by omega), hn]; simp only; rw [take_no (k := 2) (by omega)]; simp only; rw [take_bad (by simp)]
    exact .inl ⟨h1, rfl, .inl ⟨text_nil, rfl⟩⟩
  · have hz : szOf t = 4 := by unfold szOf; rw [if_neg (by omega), if_pos (by omega)]
    refine ⟨⟨t, [], M.num [], 0, 0⟩, ⟨a + 1, 1, s.length⟩, ?_, rfl, rfl⟩
    unfold CM; rw [take_ok (by omega), hn]; simp only; rw [take_no (k := 4) (by omega)]
    exact .inr (.inl ⟨h1, rfl, rfl⟩)
  · have hz : szOf t = 8 := by unfold szOf; rw [if_neg (by omega), if_neg (by omega), if_pos (by omega)]
    refine ⟨⟨t, [], M.num [], 0, 0⟩, ⟨a + 1, 1, s.length⟩, ?_, rfl, rfl⟩
    unfold CM; rw [take_ok (by omega), hn]; simp only; rw [take_no (k := 8) (by omega)]
    exact .inr (.inr (.inl ⟨h1, rfl, rfl⟩))
  · have hz : szOf t = 2 := by unfold szOf; rw [if_pos (by omega)]
    refine ⟨⟨t, [], 0, M.num [], 0⟩, ⟨a + 1, 1, s.length⟩, ?_, rfl, rfl⟩
    unfold CM; rw [take_ok (by omega), hn]; simp only; rw [take_no (k := 2) (by omega)]
    exact .inr (.inr (.inr (.inl ⟨h1, rfl, rfl⟩)))
  · have hz : szOf t = 4 := by unfold szOf; rw [if_neg (by omega), if_pos (by omega)]
    by_cases h2 : a + 3 ≤ s.length
    · refine ⟨⟨t, [], 0, M.num ((s.drop (a + 1)).take 2), M.num []⟩, ⟨a + 3, 1, s.length⟩, ?_, rfl, rfl⟩
      unfold CM; rw [take_ok (by omega), hn]; simp only; rw [take_ok (k := 2) (a := a + 1) (by omega)]; simp only; rw [take_no (k := 2) (by omega)]
      exact .inr (.inr (.inr (.inr (.inl ⟨h1, rfl, rfl⟩))))
    · refine ⟨⟨t, [], 0, M.num [], M.num []⟩, ⟨a + 1, 1, s.length⟩, ?_, rfl, rfl⟩
      unfold CM; rw [take_ok (by omega), hn]; simp only; rw [take_no (k := 2) (a := a + 1) (by omega)]; simp only; rw [take_bad (by simp)]
      exact .inr (.inr (.inr (.inr (.inl ⟨h1, rfl, rfl⟩))))
  · exfalso; unfold szOf at h0; rw [if_neg (by omega), if_neg (by omega), if_neg (by omega)] at h0; omega
end
end Go.Proofs.Ytbgpkkbejbidlac.Po
