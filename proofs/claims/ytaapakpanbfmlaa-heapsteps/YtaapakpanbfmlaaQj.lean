/-
  The program's Make: the walks.
-/
import Derived.Test.YtaapakpanbfmlaaQi
namespace Go.Proofs.Ytaapakpanbfmlaa
namespace Rs
open Go.RowKit Hp
set_option linter.unusedVariables false
set_option linter.unusedSimpArgs false
set_option maxRecDepth 100000 in
set_option maxHeartbeats 2000000 in
theorem fits45_any (lim : Nat) (r q : Int) (w : World) (hl : lim ≤ 16384) (hr : 0 ≤ r) (hq : 0 ≤ q) :
    Calls Try.prog 45 #[.int .i64 (lim : Int), .int .i64 r, .int .i64 q] w fun e w' => e = .returned (.bool (decide (2 + r + q ≤ (lim : Int)))) ∧ w' = w := by
  have hli : (lim : Int) ≤ 16384 := by omega
  have w1 : IntKind.i64.wrap ((lim : Int) - 2) = (lim : Int) - 2 := wrap_id _ (by omega) (by omega)
  by_cases h1 : r ≤ (lim : Int) - 2
  · have w2 : IntKind.i64.wrap ((lim : Int) - 2 - r) = (lim : Int) - 2 - r := wrap_id _ (by omega) (by omega)
    by_cases h2 : q ≤ (lim : Int) - 2 - r
    · rw [decide_eq_true (by omega)]
      go_enter Try.func45, Try.ntmps45
      go_wp2
      go_ret
      exact ⟨rfl, rfl⟩
    · rw [decide_eq_false (by omega)]
      go_enter Try.func45, Try.ntmps45
      go_wp2
      go_ret
      exact ⟨rfl, rfl⟩
  · rw [decide_eq_false (by omega)]
    go_enter Try.func45, Try.ntmps45
    go_wp2
    go_ret
    exact ⟨rfl, rfl⟩
set_option maxRecDepth 100000 in
set_option maxHeartbeats 2000000 in
/-- Make, where a thing of that size can't be. -/
theorem make33_bad (sb lim : Nat) (r q : Int) (fr : Value) (w : World) (c0 : w.cell? ⟨sb, 0, none⟩ = some (.int .i64 (lim : Int))) (hl : lim ≤ 16384) (hr : 0 ≤ r) (hq : 0 ≤ q) (hb : (lim : Int) < 2 + r + q) :
    Calls Try.prog 33 #[.pointer (some ⟨sb, 0, none⟩), fr, .int .i64 r, .int .i64 q] w fun e w' => e = .returned (.tuple #[.int .i64 0, .bool false]) ∧ w' = w := by
  have HF := hide (fits45_any lim r q w hl hr hq)
  rw [decide_eq_false (by omega)] at HF
  have hli : (lim : Int) ≤ 16384 := by omega
  by_cases h2 : (lim : Int) < 2
  · have h2n : lim < 2 := by omega
    go_enter Try.func33, Try.ntmps33
    go_wp2
    go_ret2
    exact ⟨rfl, rfl⟩
  · have h2n : ¬ lim < 2 := by omega
    go_enter Try.func33, Try.ntmps33
    go_wp2_with fail
    refine (unhide HF).mono ?_
    rintro e w1 ⟨rfl, hw1⟩
    subst w1
    go_wp2
    go_ret2
    exact ⟨rfl, rfl⟩
set_option maxRecDepth 100000 in
set_option maxHeartbeats 4000000 in
/-- Make, where it can. -/
theorem make33_walk (sb lim room r q : Nat) (fr : Value) (w : World) {R : Bool → World → Prop} {R2 : Int → World → Prop} (c0 : w.cell? ⟨sb, 0, none⟩ = some (.int .i64 (lim : Int))) (hl : lim ≤ 16384) (hrm : room ≤ 16384) (hb : 2 + r + q ≤ lim)
    (HM : Hid (∀ n, Calls Try.prog 46 #[.pointer (some ⟨sb, 0, none⟩), fr, .int .i64 ((2 + r + q : Nat) : Int)] ((w.alloc (.cells #[.int .i64 (r : Int), .slice none 0 0, .map none, .int .i64 (q : Int), .slice none 0 0, .map none, .int .i64 0, .nilIface, .int .i64 0] 96)).drewN n) fun e w1 => ∃ b, e = .returned (.bool b) ∧ R b w1))
    (HR : Hid (∀ w1, R true w1 → w1.heap[w.heap.size]? = some (.cells #[.int .i64 (r : Int), .slice none 0 0, .map none, .int .i64 (q : Int), .slice none 0 0, .map none, .int .i64 0, .nilIface, .int .i64 0] 96 (0, 0)) ∧ w1.cell? ⟨sb, 1, none⟩ = some (.int .i64 (room : Int))))
    (HA : Hid (∀ w1, R true w1 → ∃ n : Nat, n ≤ 1073741824 ∧ ∀ k, Calls Try.prog 48 #[.pointer (some ⟨sb, if room < 2 + r + q then 5 else 3, none⟩), .agg #[.int .i64 (r : Int), .slice none 0 0, .map none, .int .i64 (q : Int), .slice none 0 0, .map none, .int .i64 0, .nilIface, .int .i64 0]] (w1.drewN k) fun e w2 => e = .returned (.int .i64 ((n : Int) + 1)) ∧ R2 (if room < 2 + r + q then (n : Int) + 1 else -((n : Int) + 1)) w2)) :
    Calls Try.prog 33 #[.pointer (some ⟨sb, 0, none⟩), fr, .int .i64 (r : Int), .int .i64 (q : Int)] w fun e w' => (e = .returned (.tuple #[.int .i64 0, .bool false]) ∧ R false w') ∨ ∃ x, e = .returned (.tuple #[.int .i64 x, .bool true]) ∧ R2 x w' := by
  have HF := hide (fits45_any lim (r : Int) (q : Int) w hl (by omega) (by omega))
  rw [decide_eq_true (by omega)] at HF
  have hli : (lim : Int) ≤ 16384 := by omega
  have h2 : ¬ ((lim : Int) < 2) := by omega
  have h2n : ¬ lim < 2 := by omega
  have hbx : (w.alloc (.cells #[.int .i64 (r : Int), .slice none 0 0, .map none, .int .i64 (q : Int), .slice none 0 0, .map none, .int .i64 0, .nilIface, .int .i64 0] 96)).heap[w.heap.size]? = some (.cells #[.int .i64 (r : Int), .slice none 0 0, .map none, .int .i64 (q : Int), .slice none 0 0, .map none, .int .i64 0, .nilIface, .int .i64 0] 96 (0, 0)) := heap_alloc_new w _
  have HZ := hide (size47_any (w.alloc (.cells #[.int .i64 (r : Int), .slice none 0 0, .map none, .int .i64 (q : Int), .slice none 0 0, .map none, .int .i64 0, .nilIface, .int .i64 0] 96)) (b := w.heap.size) (o := 0) (r := r) (q := q) (by omega) (by omega) (by rw [cell_of_row _ _ 0 _ 96 (0, 0) hbx]; rfl) (by rw [cell_of_row _ _ (0 + 3) _ 96 (0, 0) hbx]; rfl))
  generalize hzz : ((2 + r + q : Nat) : Int) = zz at HM HZ
  have Hzz := hide hzz
  have hzn : zz = ((2 + r + q : Nat) : Int) := hzz.symm
  clear hbx hzz hzn
  have HE := hide (Nat.le_trans hb hl)
  clear hb
  go_enter Try.func33, Try.ntmps33
  go_wp2_with fail
  refine (unhide HF).mono ?_
  rintro e w1 ⟨rfl, hw1⟩
  subst w1
  go_wp2_with fail
  refine (unhide HZ).mono ?_
  rintro e w1 ⟨rfl, n1, hw1⟩
  subst w1
  go_wp2_with fail
  refine (unhide HM _).mono ?_
  rintro e w2 ⟨b, rfl, hr2⟩
  have HR2 := hide hr2
  clear hr2
  cases b
  · go_wp2
    go_ret2
    exact .inl ⟨rfl, unhide HR2⟩
  · obtain ⟨g1, g2⟩ := unhide HR w2 (unhide HR2)
    have x0 := cell_of_row w2 w.heap.size 0 _ 96 (0, 0) g1
    have x1 := cell_of_row w2 w.heap.size 1 _ 96 (0, 0) g1
    have x2 := cell_of_row w2 w.heap.size 2 _ 96 (0, 0) g1
    have x3 := cell_of_row w2 w.heap.size 3 _ 96 (0, 0) g1
    have x4 := cell_of_row w2 w.heap.size 4 _ 96 (0, 0) g1
    have x5 := cell_of_row w2 w.heap.size 5 _ 96 (0, 0) g1
    have x6 := cell_of_row w2 w.heap.size 6 _ 96 (0, 0) g1
    have x7 := cell_of_row w2 w.heap.size 7 _ 96 (0, 0) g1
    have x8 := cell_of_row w2 w.heap.size 8 _ 96 (0, 0) g1
    simp at x0 x1 x2 x3 x4 x5 x6 x7 x8
    have HZ2 : Hid (∀ k, Calls Try.prog 47 #[.pointer (some ⟨w.heap.size, 0, none⟩)] (w2.drewN k) fun e w' => e = .returned (.int .i64 zz) ∧ ∃ m, w' = (w2.drewN k).drewN m) := fun k => by
      have := size47_any (w2.drewN k) (b := w.heap.size) (o := 0) (r := r) (q := q) (by have := unhide HE; omega) (by have := unhide HE; omega) x0 x3
      rw [unhide Hzz] at this; exact this
    obtain ⟨n, hn, hc⟩ := unhide HA w2 (unhide HR2)
    have HA2 := hide hc
    have hni : (n : Int) ≤ 1073741824 := by omega
    have hwn : IntKind.i64.wrap ((n : Int) + 1) = (n : Int) + 1 := wrap_id _ (by omega) (by omega)
    have hwm : IntKind.i64.wrap (-((n : Int) + 1)) = -((n : Int) + 1) := wrap_id _ (by omega) (by omega)
    clear hc
    have hzb : zz ≤ 16384 := by rw [← unhide Hzz]; have := unhide HE; omega
    have hzp : 0 ≤ zz := by rw [← unhide Hzz]; omega
    have hrm2 : (room : Int) ≤ 16384 := by omega
    by_cases hbig : room < 2 + r + q
    · have hbi : (room : Int) < zz := by rw [← unhide Hzz]; omega
      simp only [if_pos hbig] at HA2
      clear hbig HA HM HR HF HZ g1
      go_wp2_with fail
      go_quiet ((go_at_call 47; exact Calls.quiet_of (unhide HZ2 _)))
      go_wp2_with fail
      go_region_law (go_simp; refine (unhide HA2 _).mono ?_; rintro e w3 ⟨rfl, hr3⟩; have HR3 := hide hr3; clear hr3)
      all_goals
        go_wp2
        go_ret2
        exact .inr ⟨_, rfl, unhide HR3⟩
    · have Hbi : Hid (decide ((room : Int) < zz) = false) := decide_eq_false (by rw [← unhide Hzz]; omega)
      simp only [if_neg hbig] at HA2
      clear hbig HA HM HR HF HZ g1
      go_wp2_with fail
      go_quiet ((go_at_call 47; exact Calls.quiet_of (unhide HZ2 _)))
      rw [unhide Hbi]
      go_wp2_with fail
      go_region_law (go_simp; refine (unhide HA2 _).mono ?_; rintro e w3 ⟨rfl, hr3⟩; have HR3 := hide hr3; clear hr3)
      all_goals
        go_wp2
        go_ret2
        exact .inr ⟨_, rfl, unhide HR3⟩
set_option maxRecDepth 100000 in
set_option maxHeartbeats 4000000 in
/-- Space.Make, the walk. -/
theorem make10_bad (k r q : Int) (sb : Nat) (w : World) (hb : ¬ (at16 k = true ∧ 0 ≤ r ∧ 0 ≤ q)) :
    Calls Try.prog 10 #[.pointer (some ⟨sb, 0, none⟩), .int .i64 k, .int .i64 r, .int .i64 q] w fun e w' => e = .returned (.int .i64 7) ∧ w' = w := by
  have HA := hide (has32_any k (.pointer (some ⟨sb, 9, none⟩)) w)
  generalize hk : at16 k = bk at *
  cases bk
  · clear hb hk
    go_enter Try.func10, Try.ntmps10
    go_wp2_with fail
    refine (unhide HA).mono ?_
    rintro e w1 ⟨rfl, hw1⟩
    subst w1
    go_wp2
    go_ret
    exact ⟨rfl, rfl⟩
  · by_cases h1 : r < 0
    · clear hb hk
      go_enter Try.func10, Try.ntmps10
      go_wp2_with fail
      refine (unhide HA).mono ?_
      rintro e w1 ⟨rfl, hw1⟩
      subst w1
      go_wp2
      go_ret
      exact ⟨rfl, rfl⟩
    · have h2 : q < 0 := by
        rcases Int.lt_or_le q 0 with h | h
        · exact h
        · exact absurd ⟨rfl, by omega, h⟩ hb
      clear hb hk
      go_enter Try.func10, Try.ntmps10
      go_wp2_with fail
      refine (unhide HA).mono ?_
      rintro e w1 ⟨rfl, hw1⟩
      subst w1
      go_wp2
      go_ret
      exact ⟨rfl, rfl⟩
set_option maxRecDepth 100000 in
set_option maxHeartbeats 4000000 in
theorem make10_walk (n : Nat) (r q : Int) (sb : Nat) (w : World) {R : Int → Bool → World → Prop} (hn : n < 16) (hr : 0 ≤ r) (hq : 0 ≤ q)
    (HM : Hid (∀ k, Calls Try.prog 33 #[.pointer (some ⟨sb, 0, none⟩), .iface 61 (.pointer (some ⟨sb, 9, none⟩)), .int .i64 r, .int .i64 q] (w.drewN k) fun e w' => ∃ x b, e = .returned (.tuple #[.int .i64 x, .bool b]) ∧ R x b w')) (HR2 : Hid (∀ x w', R x true w' → (∃ u, w'.cell? ⟨sb, 9 + n, none⟩ = some u) ∧ w'.frozen? ⟨sb, 9 + n, none⟩ = false)) :
    Calls Try.prog 10 #[.pointer (some ⟨sb, 0, none⟩), .int .i64 (n : Int), .int .i64 r, .int .i64 q] w fun e w' => (∃ x, e = .returned (.int .i64 28) ∧ R x false w') ∨ ∃ x w1, e = .returned (.int .i64 0) ∧ R x true w1 ∧ w' = w1.setCell ⟨sb, 9 + n, none⟩ (.int .i64 x) := by
  have HA := hide (has32_any (n : Int) (.pointer (some ⟨sb, 9, none⟩)) w)
  have hk : at16 (n : Int) = true := by unfold at16; simp; omega
  rw [hk] at HA
  have h1 : ¬ (r < 0) := by omega
  have h2 : ¬ (q < 0) := by omega
  have hni : (n : Int) < 16 := by omega
  clear hk
  go_enter Try.func10, Try.ntmps10
  go_wp2_with fail
  refine (unhide HA).mono ?_
  rintro e w1 ⟨rfl, hw1⟩
  subst w1
  go_wp2_with fail
  go_region_law (go_simp; refine (unhide HM _).mono ?_; rintro e w3 ⟨x, b, rfl, hr3⟩; have HR3 := hide hr3; clear hr3)
  all_goals
    cases b
    · go_wp2
      go_ret
      exact .inl ⟨x, rfl, unhide HR3⟩
    · obtain ⟨⟨u, g1⟩, g2⟩ := unhide HR2 _ _ (unhide HR3)
      go_wp2
      go_ret
      exact .inr ⟨x, w3, rfl, unhide HR3, rfl⟩
end Rs
end Go.Proofs.Ytaapakpanbfmlaa
