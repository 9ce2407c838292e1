/-
  HeapQuiet: the walk.
-/
import Derived.Test.YtaapakpanbfmlaaUa
namespace Go.Proofs.Ytaapakpanbfmlaa
namespace Rs
open Go.RowKit Hp
set_option linter.unusedVariables false
set_option linter.unusedSimpArgs false
/-- The steps that came in. -/
def Scr (w : World) (ad : Option Addr) (n : Nat) : Prop := ∀ k, k < n → ∃ g off, ad = some ⟨g, off, none⟩ ∧ g < w.heap.size ∧ ∃ (kd a b cc : Int) (x : Nat), w.cell? ⟨g, off + k * 5, none⟩ = some (.int .i64 kd) ∧ w.cell? ⟨g, off + k * 5 + 1, none⟩ = some (.int .i64 a) ∧ w.cell? ⟨g, off + k * 5 + 2, none⟩ = some (.int .i64 b) ∧ w.cell? ⟨g, off + k * 5 + 3, none⟩ = some (.int .i64 cc) ∧ w.cell? ⟨g, off + k * 5 + 4, none⟩ = some (.int .u64 (x : Int))
set_option maxRecDepth 100000 in
set_option maxHeartbeats 4000000 in
/-- Where there is nothing to show. -/
theorem quiet4_out (lim room : Int) (ad : Option Addr) (n cap : Nat) (w : World) (h : lim < 0 ∨ 16384 < lim ∨ room < 0 ∨ lim < room ∨ 16384 < (n : Int)) :
    Calls Try.prog 4 #[.int .i64 lim, .int .i64 room, .slice ad n cap] w fun e w' => e = .returned (.bool true) ∧ Below w.heap.size w w' := by
  by_cases h1 : lim < 0
  · clear h
    go_enter Try.func4, Try.ntmps4
    go_wp2
    go_ret
    exact ⟨rfl, Below.refl _ _⟩
  by_cases h2 : 16384 < lim
  · clear h
    go_enter Try.func4, Try.ntmps4
    go_wp2
    go_ret
    exact ⟨rfl, Below.refl _ _⟩
  by_cases h3 : room < 0
  · clear h
    go_enter Try.func4, Try.ntmps4
    go_wp2
    go_ret
    exact ⟨rfl, Below.refl _ _⟩
  by_cases h4 : lim < room
  · clear h
    go_enter Try.func4, Try.ntmps4
    go_wp2
    go_ret
    exact ⟨rfl, Below.refl _ _⟩
  have h5 : 16384 < (n : Int) := by omega
  clear h
  go_enter Try.func4, Try.ntmps4
  go_wp2
  go_ret
  exact ⟨rfl, Below.refl _ _⟩
def QC (lim room : Nat) (c c' : Cf) : Prop := c.lim ≤ 16384 ∧ c.room ≤ 16384 ∧ c'.lim = c.lim ∧ c'.room ≤ 16384
set_option maxRecDepth 100000 in
set_option maxHeartbeats 4000000 in
theorem quiet4_main (lim room : Nat) (ad : Option Addr) (n cap : Nat) (w : World) (hl : lim ≤ 16384) (hr : room ≤ lim) (hn : n ≤ 16384) (hs : Scr w ad n) :
    Calls Try.prog 4 #[.int .i64 (lim : Int), .int .i64 (room : Int), .slice ad n cap] w fun e w' => e = .returned (.bool true) ∧ Below w.heap.size w w' := by
  have HS := hide hs
  have Hn := hide hn
  have hli : (lim : Int) ≤ 16384 := by omega
  have hri : (room : Int) ≤ (lim : Int) := by omega
  have hni : (n : Int) ≤ 16384 := by omega
  have HLR := hide (And.intro hl hr)
  clear hs hl hr hn
  by_cases h5 : 5 < (lim : Int)
  · have h5n : 5 < lim := by omega
    have H5 := hide h5n
    clear h5n
    go_enter Try.func4, Try.ntmps4
    go_wp2_with fail
    refine (pnew lim room w (unhide HLR).1 (unhide HLR).2).mono ?_
    rintro e w1 ⟨sb, rfl, hf1, hs1, hre1⟩
    have HP1 := hide (And.intro hf1 (And.intro hs1 hre1))
    clear hf1 hs1 hre1
    go_wp2_with fail
    refine (pnew lim lim w1 (unhide HLR).1 (Nat.le_refl _)).mono ?_
    rintro e w2 ⟨sb', rfl, hf2, hs2, hre2⟩
    have HI := hide (ini0 (unhide HP1).1 (unhide HP1).2.1 (unhide HP1).2.2 hf2 hs2 hre2)
    have HC : Hid (QC lim room ⟨w.heap.size, sb, lim, room⟩ ⟨w1.heap.size, sb', lim, lim⟩) := ⟨(unhide HLR).1, Nat.le_trans (unhide HLR).2 (unhide HLR).1, rfl, (unhide HLR).1⟩
    clear hf2 hs2 hre2 HP1
    have H5C : Hid (5 < (⟨w.heap.size, sb, lim, room⟩ : Cf).lim) := H5
    generalize hC : (⟨w.heap.size, sb, lim, room⟩ : Cf) = C at HC HI H5C
    generalize hC' : (⟨w1.heap.size, sb', lim, lim⟩ : Cf) = C' at HC HI
    obtain rfl : C.sb = sb := by rw [← hC]
    obtain rfl : C'.sb = sb' := by rw [← hC']
    clear hC hC' H5
    go_wp2_with fail
    refine (Ini0.make (unhide HI) (unhide HC).1 (unhide HC).2.1 (unhide H5C)).mono ?_
    rintro e w3 ⟨rfl, hx⟩
    have HI1 := hide hx
    clear hx HI
    go_wp2_with fail
    refine (IniA.make (unhide HI1) (unhide HC).2.2.1 (unhide HC).1 (unhide HC).2.2.2 (unhide H5C)).mono ?_
    rintro e w4 ⟨rfl, hx⟩
    have HI2 := hide hx
    clear hx HI1
    go_wp2_with fail
    refine (IniB.set (unhide HI2)).mono ?_
    rintro e w5 ⟨rfl, hx⟩
    have HI3 := hide hx
    clear hx HI2
    go_wp2_with fail
    refine (IniC.set (unhide HI3) (unhide HC).2.2.1).mono ?_
    rintro e w6 ⟨rfl, hx⟩
    have HI4 := hide hx
    clear hx HI3
    go_wp2_with fail
    refine (IniB.word (unhide HI4)).mono ?_
    rintro e w7 ⟨rfl, hx⟩
    have HI5 := hide hx.symm
    clear hx HI4
    go_wp2_with fail
    refine (IniB.word (unhide HI5)).mono ?_
    rintro e w8 ⟨rfl, hx⟩
    have HI6 := hide hx.symm
    clear hx HI5
    go_wp2_with fail
    refine (IniB.same (unhide HI6)).mono ?_
    rintro e w9 ⟨rfl, hx⟩
    have HI7 := hide hx
    clear hx HI6
    go_wp2_with fail
    refine (IniB.put (unhide HI7)).mono ?_
    rintro e w10 ⟨rfl, hx⟩
    have HR := hide hx.run
    clear hx HI7
    go_wp2_with fail
    go_loopw [120] (fun i wr => ∃ k : Nat, k ≤ n ∧ i = .int .i64 (k : Nat) ∧ Hid (Run w C C' (k + 1) wr)) (fun i _ => n - (intOf i).toNat)
    case atStart => exact ⟨0, Nat.zero_le _, rfl, HR⟩
    case round =>
      clear HR
      obtain ⟨k, hk, rfl, hrun⟩ := hrel
      by_cases hlt : k < n
      · obtain ⟨g, off, rfl, hg, kd, a, b, cc, x, x0, x1, x2, x3, x4⟩ := unhide HS k hlt
        have hbe := (unhide hrun).below
        rw [← hbe.cell hg] at x0 x1 x2 x3 x4
        have HA := hide ((unhide hrun).fresh (fr_alloc wr (.cells #[.int .i64 kd, .int .i64 a, .int .i64 b, .int .i64 cc, .int .u64 (x : Int)] 32) []))
        have hki : (k : Int) < (n : Int) := by omega
        have HKN := hide hlt
        clear hbe hk hlt hg HS
        by_cases k9 : kd = 9
        · subst k9
          go_wp2_with fail
          clear hrun
          refine (Run.collect (unhide HA) (by have := unhide HKN; have := unhide Hn; omega) false).mono ?_
          rintro e w5 ⟨v, rfl, hr5⟩
          have HR5 := hide hr5
          clear hr5 HA
          go_wp2
          go_roundw
          case rel => exact ⟨k + 1, unhide HKN, by go_num, HR5⟩
          case measure => have := unhide HKN; simp [intOf]; omega
        by_cases k10 : kd = 10
        · subst k10
          go_wp2_with fail
          clear hrun
          refine (Run.collect (unhide HA) (by have := unhide HKN; have := unhide Hn; omega) true).mono ?_
          rintro e w5 ⟨v, rfl, hr5⟩
          have HR5 := hide hr5
          clear hr5 HA
          go_wp2
          go_roundw
          case rel => exact ⟨k + 1, unhide HKN, by go_num, HR5⟩
          case measure => have := unhide HKN; simp [intOf]; omega
        have q9 : (kd == 9) = false := by rw [beq_eq_false_iff_ne]; exact k9
        have q10 : (kd == 10) = false := by rw [beq_eq_false_iff_ne]; exact k10
        clear k9 k10
        have HA0 := hrun
        clear HA
        go_wp2_with fail
        refine (Run.ansA (unhide HA0) _ (unhide HC).1 (unhide HC).2.1 (by have := unhide HKN; have := unhide Hn; omega) kd a b cc x).mono ?_
        rintro e w5 ⟨u, v, rfl, hm, hbx⟩
        have HM := hide hm
        have y0 := cell_of_row w5 wr.heap.size 0 _ 32 (0, 0) hbx
        have y1 := cell_of_row w5 wr.heap.size 1 _ 32 (0, 0) hbx
        have y2 := cell_of_row w5 wr.heap.size 2 _ 32 (0, 0) hbx
        have y3 := cell_of_row w5 wr.heap.size 3 _ 32 (0, 0) hbx
        have y4 := cell_of_row w5 wr.heap.size 4 _ 32 (0, 0) hbx
        simp at y0 y1 y2 y3 y4
        clear hm hbx HA0 hrun x0 x1 x2 x3 x4
        go_wp2_with fail
        refine (Mid.ansB (unhide HM) (unhide HC).2.2.1 (unhide HC).1 (unhide HC).2.2.2 (by have := unhide HKN; have := unhide Hn; omega)).mono ?_
        rintro e w6 ⟨rfl, hr6⟩
        have HR6 := hide hr6
        have u1 : (u != u) = false := by simp
        have v1 : (v != v) = false := by simp
        clear hr6 HM y0 y1 y2 y3 y4
        go_wp2
        go_roundw
        case rel => exact ⟨k + 1, unhide HKN, by go_num, HR6⟩
        case measure => have := unhide HKN; simp [intOf]; omega
      · have hkn : k = n := by omega
        subst hkn
        have hki : ¬ (k : Int) < (k : Int) := by omega
        clear HS hlt hk
        go_wp2_with fail
        refine (Run.endA (unhide hrun)).mono ?_
        rintro e w5 ⟨v, rfl, hm⟩
        have HM := hide hm
        clear hm hrun
        go_wp2_with fail
        refine (EndM.endB (unhide HM)).mono ?_
        rintro e w6 ⟨rfl, hb6⟩
        have HB6 := hide hb6
        clear hb6 HM
        have v1 : (v == v) = true := by simp
        go_wp2
        go_ret
        exact ⟨rfl, unhide HB6⟩
  · go_enter Try.func4, Try.ntmps4
    go_wp2_with fail
    refine (pnew lim room w (unhide HLR).1 (unhide HLR).2).mono ?_
    rintro e w1 ⟨sb, rfl, hf1, hs1, hre1⟩
    have HP1 := hide (And.intro hf1 (And.intro hs1 hre1))
    clear hf1 hs1 hre1
    go_wp2_with fail
    refine (pnew lim lim w1 (unhide HLR).1 (Nat.le_refl _)).mono ?_
    rintro e w2 ⟨sb', rfl, hf2, hs2, hre2⟩
    have HI := hide (ini0 (unhide HP1).1 (unhide HP1).2.1 (unhide HP1).2.2 hf2 hs2 hre2)
    have HC : Hid (QC lim room ⟨w.heap.size, sb, lim, room⟩ ⟨w1.heap.size, sb', lim, lim⟩) := ⟨(unhide HLR).1, Nat.le_trans (unhide HLR).2 (unhide HLR).1, rfl, (unhide HLR).1⟩
    clear hf2 hs2 hre2 HP1
    have HR := hide (unhide HI).run
    generalize hC : (⟨w.heap.size, sb, lim, room⟩ : Cf) = C at HC HI HR
    generalize hC' : (⟨w1.heap.size, sb', lim, lim⟩ : Cf) = C' at HC HI HR
    obtain rfl : C.sb = sb := by rw [← hC]
    obtain rfl : C'.sb = sb' := by rw [← hC']
    clear HI hC hC'
    go_wp2_with fail
    go_loopw [120] (fun i wr => ∃ k : Nat, k ≤ n ∧ i = .int .i64 (k : Nat) ∧ Hid (Run w C C' (k + 1) wr)) (fun i _ => n - (intOf i).toNat)
    case atStart => exact ⟨0, Nat.zero_le _, rfl, HR⟩
    case round =>
      clear HR
      obtain ⟨k, hk, rfl, hrun⟩ := hrel
      by_cases hlt : k < n
      · obtain ⟨g, off, rfl, hg, kd, a, b, cc, x, x0, x1, x2, x3, x4⟩ := unhide HS k hlt
        have hbe := (unhide hrun).below
        rw [← hbe.cell hg] at x0 x1 x2 x3 x4
        have HA := hide ((unhide hrun).fresh (fr_alloc wr (.cells #[.int .i64 kd, .int .i64 a, .int .i64 b, .int .i64 cc, .int .u64 (x : Int)] 32) []))
        have hki : (k : Int) < (n : Int) := by omega
        have HKN := hide hlt
        clear hbe hk hlt hg HS
        by_cases k9 : kd = 9
        · subst k9
          go_wp2_with fail
          clear hrun
          refine (Run.collect (unhide HA) (by have := unhide HKN; have := unhide Hn; omega) false).mono ?_
          rintro e w5 ⟨v, rfl, hr5⟩
          have HR5 := hide hr5
          clear hr5 HA
          go_wp2
          go_roundw
          case rel => exact ⟨k + 1, unhide HKN, by go_num, HR5⟩
          case measure => have := unhide HKN; simp [intOf]; omega
        by_cases k10 : kd = 10
        · subst k10
          go_wp2_with fail
          clear hrun
          refine (Run.collect (unhide HA) (by have := unhide HKN; have := unhide Hn; omega) true).mono ?_
          rintro e w5 ⟨v, rfl, hr5⟩
          have HR5 := hide hr5
          clear hr5 HA
          go_wp2
          go_roundw
          case rel => exact ⟨k + 1, unhide HKN, by go_num, HR5⟩
          case measure => have := unhide HKN; simp [intOf]; omega
        have q9 : (kd == 9) = false := by rw [beq_eq_false_iff_ne]; exact k9
        have q10 : (kd == 10) = false := by rw [beq_eq_false_iff_ne]; exact k10
        clear k9 k10
        have HA0 := hrun
        clear HA
        go_wp2_with fail
        refine (Run.ansA (unhide HA0) _ (unhide HC).1 (unhide HC).2.1 (by have := unhide HKN; have := unhide Hn; omega) kd a b cc x).mono ?_
        rintro e w5 ⟨u, v, rfl, hm, hbx⟩
        have HM := hide hm
        have y0 := cell_of_row w5 wr.heap.size 0 _ 32 (0, 0) hbx
        have y1 := cell_of_row w5 wr.heap.size 1 _ 32 (0, 0) hbx
        have y2 := cell_of_row w5 wr.heap.size 2 _ 32 (0, 0) hbx
        have y3 := cell_of_row w5 wr.heap.size 3 _ 32 (0, 0) hbx
        have y4 := cell_of_row w5 wr.heap.size 4 _ 32 (0, 0) hbx
        simp at y0 y1 y2 y3 y4
        clear hm hbx HA0 hrun x0 x1 x2 x3 x4
        go_wp2_with fail
        refine (Mid.ansB (unhide HM) (unhide HC).2.2.1 (unhide HC).1 (unhide HC).2.2.2 (by have := unhide HKN; have := unhide Hn; omega)).mono ?_
        rintro e w6 ⟨rfl, hr6⟩
        have HR6 := hide hr6
        have u1 : (u != u) = false := by simp
        have v1 : (v != v) = false := by simp
        clear hr6 HM y0 y1 y2 y3 y4
        go_wp2
        go_roundw
        case rel => exact ⟨k + 1, unhide HKN, by go_num, HR6⟩
        case measure => have := unhide HKN; simp [intOf]; omega
      · have hkn : k = n := by omega
        subst hkn
        have hki : ¬ (k : Int) < (k : Int) := by omega
        clear HS hlt hk
        go_wp2_with fail
        refine (Run.endA (unhide hrun)).mono ?_
        rintro e w5 ⟨v, rfl, hm⟩
        have HM := hide hm
        clear hm hrun
        go_wp2_with fail
        refine (EndM.endB (unhide HM)).mono ?_
        rintro e w6 ⟨rfl, hb6⟩
        have HB6 := hide hb6
        clear hb6 HM
        have v1 : (v == v) = true := by simp
        go_wp2
        go_ret
        exact ⟨rfl, unhide HB6⟩
end Rs
end Go.Proofs.Ytaapakpanbfmlaa
