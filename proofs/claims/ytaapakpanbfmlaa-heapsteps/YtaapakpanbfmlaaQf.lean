/-
  The program's Space: Get, Word, Set, Put: the walks.
-/
import Derived.Test.YtaapakpanbfmlaaQe
namespace Go.Proofs.Ytaapakpanbfmlaa
namespace Rs
open Go.RowKit Hp
set_option linter.unusedVariables false
set_option linter.unusedSimpArgs false
set_option maxRecDepth 100000 in
set_option maxHeartbeats 2000000 in
theorem set11_walk (a k x : Int) (sb : Nat) (ro : List Int) (w : World) {bk : Bool} {Q : World → Prop} (h : Pla w sb ro) (HS : Hid (at16 a = true → ∀ q, Calls Try.prog 35 #[.pointer (some ⟨sb, 0, none⟩), .int .i64 (ro.getD a.toNat 0), .int .i64 k, .int .u64 x] (w.drewN q) fun e w' => e = .returned (.bool bk) ∧ Q w')) :
    Calls Try.prog 11 #[.pointer (some ⟨sb, 0, none⟩), .int .i64 a, .int .i64 k, .int .u64 x] w fun e w' => if at16 a = true then e = .returned (.int .i64 (if bk = true then 0 else 7)) ∧ Q w' else e = .returned (.int .i64 7) ∧ w' = w := by
  have HA := hide (has32_any a (.pointer (some ⟨sb, 9, none⟩)) w)
  have HF := hide (found34_any bk)
  by_cases hk : at16 a = true
  · simp only [if_pos hk]
    have HS2 := hide (unhide HS hk)
    generalize (if bk = true then (0 : Int) else 7) = er at HF ⊢
    rw [hk] at HA
    obtain ⟨n, rfl, hn⟩ := at16_nat hk
    have c2 := h.c n hn
    have hni : (n : Int) < 16 := by omega
    rw [show (((n : Nat) : Int)).toNat = n from rfl] at HS2
    generalize ro.getD n 0 = z at c2 HS2
    clear h hk HS
    go_enter Try.func11, Try.ntmps11
    go_wp2_with fail
    refine (unhide HA).mono ?_
    rintro e w1 ⟨rfl, hw1⟩
    subst w1
    go_wp2_with fail
    go_region_law (first | (go_simp; refine (unhide HS2 _).mono ?_; rintro e wx ⟨rfl, hq⟩; have HQ := hide hq; clear hq) | (go_simp; refine (unhide HF _).mono ?_; rintro e wy ⟨rfl, hwy⟩; subst wy))
    all_goals
      go_wp2
      go_ret
      exact ⟨rfl, unhide HQ⟩
  · have hk' : at16 a = false := by simpa using hk
    simp only [if_neg hk]
    rw [hk'] at HA
    clear h hk hk' HS
    go_enter Try.func11, Try.ntmps11
    go_wp2_with fail
    refine (unhide HA).mono ?_
    rintro e w1 ⟨rfl, hw1⟩
    subst w1
    go_wp2
    go_ret
    exact ⟨rfl, rfl⟩
set_option maxRecDepth 100000 in
set_option maxHeartbeats 2000000 in
theorem word12_walk (a k x : Int) (sb : Nat) (ro : List Int) (w : World) {bk : Bool} (h : Pla w sb ro) (HS : Hid (at16 a = true → ∀ q, Calls Try.prog 36 #[.pointer (some ⟨sb, 0, none⟩), .int .i64 (ro.getD a.toNat 0), .int .i64 k] (w.drewN q) fun e w' => e = .returned (.tuple #[.int .u64 x, .bool bk]) ∧ w' = w.drewN q)) :
    Calls Try.prog 12 #[.pointer (some ⟨sb, 0, none⟩), .int .i64 a, .int .i64 k] w fun e w' => (if at16 a = true then e = .returned (.tuple #[.int .u64 x, .int .i64 (if bk = true then 0 else 7)]) else e = .returned (.tuple #[.int .u64 0, .int .i64 7])) ∧ ∃ q, w' = w.drewN q := by
  have HA := hide (has32_any a (.pointer (some ⟨sb, 9, none⟩)) w)
  have HF := hide (found34_any bk)
  by_cases hk : at16 a = true
  · simp only [if_pos hk]
    have HS2 := hide (unhide HS hk)
    generalize (if bk = true then (0 : Int) else 7) = er at HF ⊢
    rw [hk] at HA
    obtain ⟨n, rfl, hn⟩ := at16_nat hk
    have c2 := h.c n hn
    have hni : (n : Int) < 16 := by omega
    rw [show (((n : Nat) : Int)).toNat = n from rfl] at HS2
    generalize ro.getD n 0 = z at c2 HS2
    clear h hk HS
    go_enter Try.func12, Try.ntmps12
    go_wp2_with fail
    refine (unhide HA).mono ?_
    rintro e w1 ⟨rfl, hw1⟩
    subst w1
    go_wp2_with fail
    go_quiet ((go_at_call 36; exact Calls.quiet_of_same (unhide HS2 _)))
    go_wp2_with fail
    refine (unhide HF _).mono ?_
    rintro e wy ⟨rfl, hwy⟩
    subst wy
    go_wp2
    go_ret2
    exact ⟨rfl, _, rfl⟩
  · have hk' : at16 a = false := by simpa using hk
    simp only [if_neg hk]
    rw [hk'] at HA
    clear h hk hk' HS
    go_enter Try.func12, Try.ntmps12
    go_wp2_with fail
    refine (unhide HA).mono ?_
    rintro e w1 ⟨rfl, hw1⟩
    subst w1
    go_wp2
    go_ret2
    exact ⟨rfl, 0, rfl⟩
set_option maxRecDepth 100000 in
set_option maxHeartbeats 2000000 in
theorem put14_walk (a k f : Int) (sb : Nat) (ro : List Int) (w : World) {bk : Bool} {Q : World → Prop} (h : Pla w sb ro) (HS : Hid (at16 a = true → at16 f = true → ∀ q, Calls Try.prog 37 #[.pointer (some ⟨sb, 0, none⟩), .int .i64 (ro.getD a.toNat 0), .int .i64 k, .int .i64 (ro.getD f.toNat 0)] (w.drewN q) fun e w' => e = .returned (.bool bk) ∧ Q w')) :
    Calls Try.prog 14 #[.pointer (some ⟨sb, 0, none⟩), .int .i64 a, .int .i64 k, .int .i64 f] w fun e w' => if at16 a = true ∧ at16 f = true then e = .returned (.int .i64 (if bk = true then 0 else 7)) ∧ Q w' else e = .returned (.int .i64 7) ∧ w' = w := by
  have HA := hide (has32_any a (.pointer (some ⟨sb, 9, none⟩)) w)
  have HB := hide (has32_any f (.pointer (some ⟨sb, 9, none⟩)) w)
  have HF := hide (found34_any bk)
  by_cases hk : at16 a = true
  · rw [hk] at HA
    by_cases hb : at16 f = true
    · simp only [if_pos (And.intro hk hb)]
      have HS2 := hide (unhide HS hk hb)
      generalize (if bk = true then (0 : Int) else 7) = er at HF ⊢
      rw [hb] at HB
      obtain ⟨n, rfl, hn⟩ := at16_nat hk
      obtain ⟨m, rfl, hm⟩ := at16_nat hb
      have c2 := h.c n hn
      have c4 := h.c m hm
      have hni : (n : Int) < 16 := by omega
      have hmi : (m : Int) < 16 := by omega
      rw [show (((n : Nat) : Int)).toNat = n from rfl, show (((m : Nat) : Int)).toNat = m from rfl] at HS2
      generalize ro.getD n 0 = z at c2 HS2
      generalize ro.getD m 0 = y at c4 HS2
      clear h hk hb HS
      go_enter Try.func14, Try.ntmps14
      go_wp2_with fail
      refine (unhide HA).mono ?_
      rintro e w1 ⟨rfl, hw1⟩
      subst w1
      go_wp2_with fail
      refine (unhide HB).mono ?_
      rintro e w1 ⟨rfl, hw1⟩
      subst w1
      go_wp2_with fail
      go_region_law (first | (go_simp; refine (unhide HS2 _).mono ?_; rintro e wx ⟨rfl, hq⟩; have HQ := hide hq; clear hq) | (go_simp; refine (unhide HF _).mono ?_; rintro e wy ⟨rfl, hwy⟩; subst wy))
      all_goals
        go_wp2
        go_ret
        exact ⟨rfl, unhide HQ⟩
    · have hb' : at16 f = false := by simpa using hb
      simp only [if_neg (fun e : at16 a = true ∧ at16 f = true => hb e.2)]
      rw [hb'] at HB
      clear h hk hb hb' HS
      go_enter Try.func14, Try.ntmps14
      go_wp2_with fail
      refine (unhide HA).mono ?_
      rintro e w1 ⟨rfl, hw1⟩
      subst w1
      go_wp2_with fail
      refine (unhide HB).mono ?_
      rintro e w1 ⟨rfl, hw1⟩
      subst w1
      go_wp2
      go_ret
      exact ⟨rfl, rfl⟩
  · have hk' : at16 a = false := by simpa using hk
    simp only [if_neg (fun e : at16 a = true ∧ at16 f = true => hk e.1)]
    rw [hk'] at HA
    clear h hk hk' HS HB
    go_enter Try.func14, Try.ntmps14
    go_wp2_with fail
    refine (unhide HA).mono ?_
    rintro e w1 ⟨rfl, hw1⟩
    subst w1
    go_wp2
    go_ret
    exact ⟨rfl, rfl⟩
set_option maxRecDepth 100000 in
set_option maxHeartbeats 2000000 in
theorem get23_walk (t a k x : Int) (sb : Nat) (ro : List Int) (w : World) {bk : Bool} (h : Pla w sb ro) (HS : Hid (at16 t = true → at16 a = true → ∀ q, Calls Try.prog 40 #[.pointer (some ⟨sb, 0, none⟩), .int .i64 (ro.getD a.toNat 0), .int .i64 k] (w.drewN q) fun e w' => e = .returned (.tuple #[.int .i64 x, .bool bk]) ∧ w' = w.drewN q)) :
    Calls Try.prog 23 #[.pointer (some ⟨sb, 0, none⟩), .int .i64 t, .int .i64 a, .int .i64 k] w fun e w' => if at16 t = true ∧ at16 a = true then e = .returned (.int .i64 (if bk = true then 0 else 7)) ∧ ∃ q, w' = if bk = true then (w.drewN q).setCell ⟨sb, 9 + t.toNat, none⟩ (.int .i64 x) else w.drewN q else e = .returned (.int .i64 7) ∧ w' = w := by
  have HA := hide (has32_any t (.pointer (some ⟨sb, 9, none⟩)) w)
  have HB := hide (has32_any a (.pointer (some ⟨sb, 9, none⟩)) w)
  have HF := hide (found34_any bk)
  by_cases hk : at16 t = true
  · rw [hk] at HA
    by_cases hb : at16 a = true
    · simp only [if_pos (And.intro hk hb)]
      have HS2 := hide (unhide HS hk hb)
      rw [hb] at HB
      obtain ⟨n, rfl, hn⟩ := at16_nat hk
      obtain ⟨m, rfl, hm⟩ := at16_nat hb
      have c2 := h.c n hn
      have c3 := h.f (9 + n)
      have c4 := h.c m hm
      have hni : (n : Int) < 16 := by omega
      have hmi : (m : Int) < 16 := by omega
      rw [show (((m : Nat) : Int)).toNat = m from rfl] at HS2
      generalize ro.getD n 0 = z at c2
      generalize ro.getD m 0 = y at c4 HS2
      clear h hk hb HS
      cases bk
      · go_enter Try.func23, Try.ntmps23
        go_wp2_with fail
        refine (unhide HA).mono ?_
        rintro e w1 ⟨rfl, hw1⟩
        subst w1
        go_wp2_with fail
        refine (unhide HB).mono ?_
        rintro e w1 ⟨rfl, hw1⟩
        subst w1
        go_wp2_with fail
        go_quiet ((go_at_call 40; exact Calls.quiet_of_same (unhide HS2 _)))
        go_wp2_with fail
        refine (unhide HF _).mono ?_
        rintro e wy ⟨rfl, hwy⟩
        subst wy
        go_wp2
        go_ret
        exact ⟨rfl, nq, by simp⟩
      · go_enter Try.func23, Try.ntmps23
        go_wp2_with fail
        refine (unhide HA).mono ?_
        rintro e w1 ⟨rfl, hw1⟩
        subst w1
        go_wp2_with fail
        refine (unhide HB).mono ?_
        rintro e w1 ⟨rfl, hw1⟩
        subst w1
        go_wp2_with fail
        go_quiet ((go_at_call 40; exact Calls.quiet_of_same (unhide HS2 _)))
        go_wp2_with fail
        refine (unhide HF _).mono ?_
        rintro e wy ⟨rfl, hwy⟩
        subst wy
        go_wp2
        go_ret
        exact ⟨rfl, nq, by simp⟩
    · have hb' : at16 a = false := by simpa using hb
      simp only [if_neg (fun e : at16 t = true ∧ at16 a = true => hb e.2)]
      rw [hb'] at HB
      clear h hk hb hb' HS
      go_enter Try.func23, Try.ntmps23
      go_wp2_with fail
      refine (unhide HA).mono ?_
      rintro e w1 ⟨rfl, hw1⟩
      subst w1
      go_wp2_with fail
      refine (unhide HB).mono ?_
      rintro e w1 ⟨rfl, hw1⟩
      subst w1
      go_wp2
      go_ret
      exact ⟨rfl, rfl⟩
  · have hk' : at16 t = false := by simpa using hk
    simp only [if_neg (fun e : at16 t = true ∧ at16 a = true => hk e.1)]
    rw [hk'] at HA
    clear h hk hk' HS HB
    go_enter Try.func23, Try.ntmps23
    go_wp2_with fail
    refine (unhide HA).mono ?_
    rintro e w1 ⟨rfl, hw1⟩
    subst w1
    go_wp2
    go_ret
    exact ⟨rfl, rfl⟩
end Rs
end Go.Proofs.Ytaapakpanbfmlaa
