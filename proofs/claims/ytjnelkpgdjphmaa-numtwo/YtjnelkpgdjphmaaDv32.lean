import Derived.Test.YtjnelkpgdjphmaaPi
import Derived.Test.YtjnelkpgdjphmaaNN
namespace Go.Proofs.Ytjnelkpgdjphmaa
open Go.RowKit
set_option linter.unusedVariables false
set_option linter.unusedSimpArgs false

/-- A quotient's next digit. -/
theorem dv_lt (X B : Nat) (hB : 0 < B) (h : 2 * (X % B) < B) : 2 * X / B = 2 * (X / B) ∧ 2 * X % B = 2 * (X % B) := by
  have hd := Nat.div_add_mod X B
  have e : 2 * X = B * (2 * (X / B)) + 2 * (X % B) := by rw [Nat.mul_left_comm]; omega
  rw [e, Nat.mul_add_div hB, Nat.div_eq_of_lt h, Nat.mul_add_mod, Nat.mod_eq_of_lt h]
  exact ⟨by omega, rfl⟩
theorem dv_ge (X B : Nat) (hB : 0 < B) (h : B ≤ 2 * (X % B)) : 2 * X / B = 2 * (X / B) + 1 ∧ 2 * X % B = 2 * (X % B) - B := by
  have hd := Nat.div_add_mod X B
  have hm := Nat.mod_lt X hB
  have e : 2 * X = B * (2 * (X / B) + 1) + (2 * (X % B) - B) := by rw [Nat.mul_add, Nat.mul_left_comm]; omega
  have hl : 2 * (X % B) - B < B := by omega
  rw [e, Nat.mul_add_div hB, Nat.div_eq_of_lt hl, Nat.mul_add_mod, Nat.mod_eq_of_lt hl]
  exact ⟨by omega, rfl⟩
theorem len_lt (q n : Nat) (h : len q < n) : q < 2 ^ (n - 1) := by
  unfold len at h
  split at h
  · rename_i h0
    rw [h0]
    exact Nat.two_pow_pos _
  · rename_i h0
    exact (Nat.log2_lt h0).1 (by omega)
theorem le_len (q n : Nat) (h : n ≤ len q) (hn : 0 < n) : 2 ^ (n - 1) ≤ q := by
  unfold len at h
  split at h
  · omega
  · rename_i h0
    exact (Nat.le_log2 h0).1 (by omega)
theorem len_mono (q n : Nat) (h : 2 ^ (n - 1) ≤ q) (hn : 0 < n) : n ≤ len q := by
  unfold len
  have hp := Nat.two_pow_pos (n - 1)
  rw [if_neg (by omega)]
  have := (Nat.le_log2 (show q ≠ 0 by omega)).2 h
  omega

set_option maxHeartbeats 2000000 in
set_option maxRecDepth 20000 in
theorem div32_fin (s t : Bool) (A B : Nat) (i j : Int) (w : World) (hA : A < 16777216) (hB : B < 16777216) (hA0 : A ≠ 0) (hB0 : B ≠ 0) (hi0 : -149 ≤ i) (hi1 : i ≤ 1000) (hj0 : -149 ≤ j) (hj1 : j ≤ 1000) :
    Calls Try.prog 45 #[.agg #[.int .i64 23, .int .i64 8], .agg #[.bool false, .bool false, .bool s, .int .u64 (A : Int), .int .i64 i], .agg #[.bool false, .bool false, .bool t, .int .u64 (B : Int), .int .i64 j]] w fun r w' =>
      (∃ v, ((Ieee.Datum.number s A i).quotient (Ieee.single.fractionBits + 2) (.number t B j)).map Ieee.single.write = some v ∧ r = .returned (.int .u64 (v : Nat))) ∧ Grown w w' := by
  obtain ⟨ng, hng⟩ : ∃ ng : Bool, (s != t) = ng := ⟨_, rfl⟩
  have hng2 : (s ^^ t) = ng := by rw [← hng]
  have hng3 : (!(s == t)) = ng := by rw [← hng]; rfl
  have z1 : ((A : Int) == 0) = false := by rw [beq_eq_false_iff_ne]; omega
  have z2 : ((B : Int) == 0) = false := by rw [beq_eq_false_iff_ne]; omega
  have HN := hide (fun (q : Nat) (hq : q < 18446744073709551616) (w : World) => length_any q w hq)
  have Hng := hide hng2
  clear hng2
  have hstart : A / B < 576460752303423488 := by have := Nat.div_le_self A B; omega
  have Hst := hide hstart
  have Hw0 := hide (show IntKind.u64.wrap ((A : Int) / (B : Int)) = ((A / B : Nat) : Int) by rw [IntKind.wrap_u64, ← Int.natCast_ediv]; generalize A / B = zz at *; omega)
  clear hstart
  go_enter Try.func45, Try.ntmps45
  go_wp2_with fail
  go_loop [10, 11, 12] (fun q r e => ∃ n : Nat, q = .int .u64 (A * 2 ^ n / B : Nat) ∧ r = .int .u64 (A * 2 ^ n % B : Nat) ∧ e = .int .i64 (i - j - (n : Int)) ∧ n ≤ 112 ∧ A * 2 ^ n / B < 1152921504606846976) (fun _ _ e => (intOf e - (i - j - 1000)).toNat)
  case atStart => exact ⟨0, by rw [Nat.pow_zero, Nat.mul_one, ← unhide Hw0], by simp, by simp, by omega, by rw [Nat.pow_zero, Nat.mul_one]; have := unhide Hst; omega⟩
  case round =>
    obtain ⟨n, rfl, rfl, rfl, hn, hq60⟩ := hrel
    have hml := Nat.mod_lt (A * 2 ^ n) (show 0 < B by omega)
    have hdm := Nat.div_add_mod (A * 2 ^ n) B
    have hX2 : A * 2 ^ (n + 1) = 2 * (A * 2 ^ n) := by rw [Nat.pow_succ, ← Nat.mul_assoc, Nat.mul_comm]
    have hlo : 2 ^ n ≤ A * 2 ^ n := Nat.le_mul_of_pos_left _ (by omega)
    have hfin0 := fun h => Nm.quotient_eq Ieee.single s t A B n i j (by omega) (by omega) h
    obtain ⟨X, hX⟩ : ∃ X, X = A * 2 ^ n := ⟨_, rfl⟩
    rw [← hX] at hml hdm hX2 hlo hq60 hfin0 ⊢
    have d1 := dv_lt X B (by omega)
    have d2 := dv_ge X B (by omega)
    rw [← hX2] at d1 d2
    obtain ⟨q, hq⟩ : ∃ q, q = X / B := ⟨_, rfl⟩
    obtain ⟨r, hr⟩ : ∃ r, r = X % B := ⟨_, rfl⟩
    rw [← hq, ← hr] at d1 d2 hdm
    rw [← hr] at hml
    rw [← hq] at hq60
    rw [← hq, ← hr] at hfin0
    rw [← hq, ← hr]
    have HN1 := hide (unhide HN q (by omega))
    by_cases hc : len q < 60
    · have hql := len_lt q 60 hc
      have hn2 : n + 1 ≤ 112 := by
        apply Decidable.byContradiction
        intro hcon
        have h112 : n = 112 := by omega
        rw [h112] at hlo
        have hb2 : B * q ≤ 9007199254740991 * 576460752303423487 := Nat.mul_le_mul (by omega) (by omega)
        omega
      have g1 : decide (((len q : Nat) : Int) < 60) = true := by simp; omega
      have g2 : decide (len q < 60) = true := by simp; omega
      clear hX hX2 hlo hdm hfin0 hc hq hr
      generalize len q = lq at *
      by_cases hc2 : 2 * r < B
      · obtain ⟨e1, e2⟩ := d1 hc2
        have He := hide (And.intro e1 e2)
        clear d1 d2 e1 e2
        go_wp2_with fail
        refine (unhide HN1 _).mono ?_
        rintro rr w0 ⟨rfl, hw0⟩
        subst hw0
        go_wp2
        all_goals first | omega | skip
        go_round
        case rel => exact ⟨n + 1, by rw [(unhide He).1]; simp, by rw [(unhide He).2]; simp, by go_num, hn2, by rw [(unhide He).1]; omega⟩
        case measure => simp [intOf]; omega
      · obtain ⟨e1, e2⟩ := d2 (by omega)
        have He := hide (And.intro e1 e2)
        clear d1 d2 e1 e2
        go_wp2_with fail
        refine (unhide HN1 _).mono ?_
        rintro rr w0 ⟨rfl, hw0⟩
        subst hw0
        go_wp2
        all_goals first | omega | skip
        go_round
        case rel => exact ⟨n + 1, by rw [(unhide He).1]; simp, by rw [(unhide He).2]; go_num, by go_num, hn2, by rw [(unhide He).1]; omega⟩
        case measure => simp [intOf]; omega
    · have hql := le_len q 60 (by omega) (by omega)
      have hfin := hfin0 (by have : 2 ^ (Ieee.single.fractionBits + 1) ≤ 2 ^ 59 := by decide
                             omega)
      rw [unhide Hng] at hfin
      simp only [ne_eq, decide_not] at hfin
      have Hfin := hide hfin
      have HC := hide (fun w => close32 ng q (i - j - (n : Int)) (!decide (r = 0)) w (by omega) (by omega) (by omega))
      have g1 : decide (((len q : Nat) : Int) < 60) = false := by simp; omega
      have g2 : decide (len q < 60) = false := by simp; omega
      have g3 : decide ((0 : Int) < (r : Int)) = decide (r ≠ 0) := by rw [decide_eq_decide]; omega
      have g4 : decide (0 < r) = decide (r ≠ 0) := by rw [decide_eq_decide]; omega
      clear hX hX2 hlo hdm hfin0 hc hq hr d1 d2 hfin
      generalize len q = lq at *
      go_wp2_with fail
      refine (unhide HN1 _).mono ?_
      rintro rr w0 ⟨rfl, hw0⟩
      subst hw0
      go_wp2_with fail
      refine (unhide HC _).mono ?_
      rintro rr w1 ⟨rfl, hg⟩
      go_wp2
      go_ret
      exact ⟨⟨_, unhide Hfin, rfl⟩, gtrans (by repeat (first | exact Grown.refl _ | apply Grown.drew | apply Grown.alloc)) hg⟩

set_option maxHeartbeats 2000000 in
set_option maxRecDepth 20000 in
theorem rem32_ge (s t : Bool) (A B : Nat) (i j : Int) (w : World) (hA : A < 16777216) (hB : B < 16777216) (hA0 : A ≠ 0) (hB0 : B ≠ 0) (hi1 : i ≤ 1000) (hj0 : -149 ≤ j) (hij : j ≤ i) :
    Calls Try.prog 46 #[.agg #[.int .i64 23, .int .i64 8], .agg #[.bool false, .bool false, .bool s, .int .u64 (A : Int), .int .i64 i], .agg #[.bool false, .bool false, .bool t, .int .u64 (B : Int), .int .i64 j]] w fun r w' =>
      r = .returned (.int .u64 (Nm.close Ieee.single s (A * 2 ^ (i - j).toNat % B) j false : Nat)) ∧ Grown w w' := by
  have z1 : ((A : Int) == 0) = false := by rw [beq_eq_false_iff_ne]; omega
  have z2 : ((B : Int) == 0) = false := by rw [beq_eq_false_iff_ne]; omega
  obtain ⟨c, hc⟩ : ∃ c : Nat, i - j = (c : Int) := ⟨(i - j).toNat, by omega⟩
  have hct : (i - j).toNat = c := by omega
  rw [hct]
  have HB0 := hide hB0
  have HC := hide (fun w => close32 s (A * 2 ^ c % B) j false w (by have := Nat.mod_lt (A * 2 ^ c) (show 0 < B by omega); omega) (by omega) (by omega))
  clear hct
  go_enter Try.func46, Try.ntmps46
  go_wp2_with fail
  go_loop [7, 8] (fun r n => ∃ k : Nat, r = .int .u64 (A * 2 ^ k % B : Nat) ∧ n = .int .i64 ((c : Int) - (k : Int)) ∧ k ≤ c) (fun _ n => (intOf n).toNat)
  case atStart => exact ⟨0, by simp, by simp, by omega⟩
  case round =>
    obtain ⟨k, rfl, rfl, hk⟩ := hrel
    have hml := Nat.mod_lt (A * 2 ^ k) (show 0 < B by omega)
    have hX2 : A * 2 ^ (k + 1) % B = 2 * (A * 2 ^ k % B) % B := by
      rw [Nat.pow_succ, ← Nat.mul_assoc, Nat.mul_comm, Nat.mul_mod 2 (A * 2 ^ k % B), Nat.mod_mod, ← Nat.mul_mod]
    by_cases hkc : k < c
    · obtain ⟨r, hr⟩ : ∃ r, r = A * 2 ^ k % B := ⟨_, rfl⟩
      rw [← hr] at hml hX2 ⊢
      have He := hide hX2
      clear hX2 hr
      go_wp2
      all_goals first | omega | skip
      go_round
      case rel => exact ⟨k + 1, by rw [unhide He]; simp, by go_num, by omega⟩
      case measure => simp [intOf]; omega
    · have hkl : k = c := by omega
      subst hkl
      clear hX2 hml
      obtain ⟨r, hr⟩ : ∃ r, r = A * 2 ^ k % B := ⟨_, rfl⟩
      have Hr := hide hr
      rw [← hr] at HC ⊢
      clear hr
      go_wp2_with fail
      refine (unhide HC _).mono ?_
      rintro rr w1 ⟨rfl, hg⟩
      go_wp2
      go_ret
      exact ⟨by rw [← unhide Hr]; rfl, gtrans (by repeat (first | exact Grown.refl _ | apply Grown.drew | apply Grown.alloc)) hg⟩
end Go.Proofs.Ytjnelkpgdjphmaa
