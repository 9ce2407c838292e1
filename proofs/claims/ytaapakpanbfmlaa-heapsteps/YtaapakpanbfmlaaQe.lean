/-
  The program's Space: has, found, Drop, Copy, Same: the walks.
-/
import Derived.Test.YtaapakpanbfmlaaQa
namespace Go.Proofs.Ytaapakpanbfmlaa
namespace Rs
open Go.RowKit Hp
set_option linter.unusedVariables false
set_option linter.unusedSimpArgs false
set_option maxHeartbeats 1000000 in
theorem has32_any (k : Int) (p : Value) (w : World) : Calls Try.prog 32 #[p, .int .i64 k] w fun e w' => e = .returned (.bool (at16 k)) ∧ w' = w := by
  unfold at16
  by_cases h1 : 0 ≤ k
  · rw [decide_eq_true h1, Bool.true_and]
    go_enter Try.func32, Try.ntmps32
    go_wp2
    go_ret
    exact ⟨rfl, rfl⟩
  · rw [decide_eq_false h1, Bool.false_and]
    go_enter Try.func32, Try.ntmps32
    go_wp2
    go_ret
    exact ⟨rfl, rfl⟩
set_option maxHeartbeats 1000000 in
theorem found34_any (b : Bool) (w : World) : Calls Try.prog 34 #[.bool b] w fun e w' => e = .returned (.int .i64 (if b = true then 0 else 7)) ∧ w' = w := by
  cases b
  · go_enter Try.func34, Try.ntmps34
    go_wp2
    go_ret
    exact ⟨rfl, rfl⟩
  · go_enter Try.func34, Try.ntmps34
    go_wp2
    go_ret
    exact ⟨rfl, rfl⟩
/-- The places, in memory. -/
structure Pla (w : World) (sb : Nat) (ro : List Int) : Prop where
  c : ∀ n, n < 16 → w.cell? ⟨sb, 9 + n, none⟩ = some (.int .i64 (ro.getD n 0))
  f : ∀ i, w.frozen? ⟨sb, i, none⟩ = false
theorem Cl.pla {c : Cf} {w : World} {s : St} (h : Cl c w s) : Pla w c.sb s.ro := ⟨h.place, h.fz⟩
set_option maxRecDepth 100000 in
set_option maxHeartbeats 2000000 in
theorem drop20_any (k : Int) (sb : Nat) (ro : List Int) (w : World) (h : Pla w sb ro) :
    Calls Try.prog 20 #[.pointer (some ⟨sb, 0, none⟩), .int .i64 k] w fun e w' => e = .returned (.int .i64 (if at16 k = true then 0 else 7)) ∧ w' = if at16 k = true then w.setCell ⟨sb, 9 + k.toNat, none⟩ (.int .i64 0) else w := by
  have HA := hide (has32_any k (.pointer (some ⟨sb, 9, none⟩)) w)
  by_cases hk : at16 k = true
  · obtain ⟨n, rfl, hn⟩ := at16_nat hk
    rw [hk] at HA ⊢
    have c2 := h.c n hn
    have c3 := h.f (9 + n)
    have hni : (n : Int) < 16 := by omega
    clear h hk
    go_enter Try.func20, Try.ntmps20
    go_wp2_with fail
    refine (unhide HA).mono ?_
    rintro e w1 ⟨rfl, hw1⟩
    subst w1
    go_wp2
    go_ret
    exact ⟨rfl, by simp⟩
  · have hk' : at16 k = false := by simpa using hk
    rw [hk'] at HA ⊢
    clear h hk hk'
    go_enter Try.func20, Try.ntmps20
    go_wp2_with fail
    refine (unhide HA).mono ?_
    rintro e w1 ⟨rfl, hw1⟩
    subst w1
    go_wp2
    go_ret
    exact ⟨rfl, rfl⟩
set_option maxRecDepth 100000 in
set_option maxHeartbeats 2000000 in
theorem copy18_any (a b : Int) (sb : Nat) (ro : List Int) (w : World) (h : Pla w sb ro) :
    Calls Try.prog 18 #[.pointer (some ⟨sb, 0, none⟩), .int .i64 a, .int .i64 b] w fun e w' => e = .returned (.int .i64 (if at16 a = true ∧ at16 b = true then 0 else 7)) ∧ ∃ q, w' = if at16 a = true ∧ at16 b = true then (w.drewN q).setCell ⟨sb, 9 + a.toNat, none⟩ (.int .i64 (ro.getD b.toNat 0)) else w := by
  have HA := hide (has32_any a (.pointer (some ⟨sb, 9, none⟩)) w)
  have HB := hide (has32_any b (.pointer (some ⟨sb, 9, none⟩)) w)
  by_cases hk : at16 a = true
  · by_cases hb : at16 b = true
    · rw [if_pos ⟨hk, hb⟩]
      simp only [if_pos (And.intro hk hb)]
      rw [hk] at HA
      rw [hb] at HB
      obtain ⟨n, rfl, hn⟩ := at16_nat hk
      obtain ⟨m, rfl, hm⟩ := at16_nat hb
      have c2 := h.c n hn
      have c4 := h.c m hm
      have c3 := h.f (9 + n)
      have hni : (n : Int) < 16 := by omega
      have hmi : (m : Int) < 16 := by omega
      generalize hy : ro.getD m 0 = y at c4
      generalize ro.getD n 0 = z at c2
      have Hy := hide hy
      clear h hk hb hy
      go_enter Try.func18, Try.ntmps18
      go_wp2_with fail
      refine (unhide HA).mono ?_
      rintro e w1 ⟨rfl, hw1⟩
      subst w1
      go_wp2_with fail
      refine (unhide HB).mono ?_
      rintro e w1 ⟨rfl, hw1⟩
      subst w1
      go_wp2_with fail
      go_region
      all_goals
        go_wp2
        go_ret
        refine ⟨rfl, 1, ?_⟩
        rw [show (((m : Nat) : Int)).toNat = m from rfl, unhide Hy]
        rfl
    · have hb' : at16 b = false := by simpa using hb
      rw [if_neg (fun e => hb e.2)]
      simp only [if_neg (fun e : at16 a = true ∧ at16 b = true => hb e.2)]
      rw [hk] at HA
      rw [hb'] at HB
      clear h hk hb hb'
      go_enter Try.func18, Try.ntmps18
      go_wp2_with fail
      refine (unhide HA).mono ?_
      rintro e w1 ⟨rfl, hw1⟩
      subst w1
      go_wp2_with fail
      refine (unhide HB).mono ?_
      rintro e w1 ⟨rfl, hw1⟩
      subst w1
      go_wp2
      go_ret
      exact ⟨rfl, 0, rfl⟩
  · have hk' : at16 a = false := by simpa using hk
    rw [if_neg (fun e => hk e.1)]
    simp only [if_neg (fun e : at16 a = true ∧ at16 b = true => hk e.1)]
    rw [hk'] at HA
    clear h hk hk' HB
    go_enter Try.func18, Try.ntmps18
    go_wp2_with fail
    refine (unhide HA).mono ?_
    rintro e w1 ⟨rfl, hw1⟩
    subst w1
    go_wp2
    go_ret
    exact ⟨rfl, 0, rfl⟩
set_option maxRecDepth 100000 in
set_option maxHeartbeats 2000000 in
theorem same13_any (a b : Int) (sb : Nat) (ro : List Int) (w : World) (h : Pla w sb ro) :
    Calls Try.prog 13 #[.pointer (some ⟨sb, 0, none⟩), .int .i64 a, .int .i64 b] w fun e w' => e = .returned (.tuple #[.bool (if at16 a = true ∧ at16 b = true then decide (ro.getD a.toNat 0 = ro.getD b.toNat 0) else false), .int .i64 (if at16 a = true ∧ at16 b = true then 0 else 7)]) ∧ ∃ q, w' = w.drewN q := by
  have HA := hide (has32_any a (.pointer (some ⟨sb, 9, none⟩)) w)
  have HB := hide (has32_any b (.pointer (some ⟨sb, 9, none⟩)) w)
  by_cases hk : at16 a = true
  · by_cases hb : at16 b = true
    · rw [if_pos ⟨hk, hb⟩, if_pos ⟨hk, hb⟩]
      rw [hk] at HA
      rw [hb] at HB
      obtain ⟨n, rfl, hn⟩ := at16_nat hk
      obtain ⟨m, rfl, hm⟩ := at16_nat hb
      have c2 := h.c n hn
      have c4 := h.c m hm
      have hni : (n : Int) < 16 := by omega
      have hmi : (m : Int) < 16 := by omega
      rw [show (((m : Nat) : Int)).toNat = m from rfl, show (((n : Nat) : Int)).toNat = n from rfl]
      generalize ro.getD m 0 = y at c4 ⊢
      generalize ro.getD n 0 = z at c2 ⊢
      have hd : decide (z = y) = (z == y) := by rw [Bool.eq_iff_iff]; simp
      rw [hd]
      clear h hk hb hd
      go_enter Try.func13, Try.ntmps13
      go_wp2_with fail
      refine (unhide HA).mono ?_
      rintro e w1 ⟨rfl, hw1⟩
      subst w1
      go_wp2_with fail
      refine (unhide HB).mono ?_
      rintro e w1 ⟨rfl, hw1⟩
      subst w1
      go_wp2_with fail
      go_quiet (fail)
      go_wp2
      go_ret2
      exact ⟨rfl, _, rfl⟩
    · have hb' : at16 b = false := by simpa using hb
      rw [if_neg (fun e => hb e.2), if_neg (fun e => hb e.2)]
      rw [hk] at HA
      rw [hb'] at HB
      clear h hk hb hb'
      go_enter Try.func13, Try.ntmps13
      go_wp2_with fail
      refine (unhide HA).mono ?_
      rintro e w1 ⟨rfl, hw1⟩
      subst w1
      go_wp2_with fail
      refine (unhide HB).mono ?_
      rintro e w1 ⟨rfl, hw1⟩
      subst w1
      go_wp2
      go_ret2
      exact ⟨rfl, 0, rfl⟩
  · have hk' : at16 a = false := by simpa using hk
    rw [if_neg (fun e => hk e.1), if_neg (fun e => hk e.1)]
    rw [hk'] at HA
    clear h hk hk' HB
    go_enter Try.func13, Try.ntmps13
    go_wp2_with fail
    refine (unhide HA).mono ?_
    rintro e w1 ⟨rfl, hw1⟩
    subst w1
    go_wp2
    go_ret2
    exact ⟨rfl, 0, rfl⟩
end Rs
end Go.Proofs.Ytaapakpanbfmlaa
