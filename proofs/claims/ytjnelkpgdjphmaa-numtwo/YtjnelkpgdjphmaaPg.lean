import Derived.Test.YtjnelkpgdjphmaaPP
namespace Go.Proofs.Ytjnelkpgdjphmaa
open Go.RowKit
set_option linter.unusedVariables false

/-- A number as the reference has it. -/
def nv (nan inf neg : Bool) (m : Nat) (e : Int) : Array Value := #[.bool nan, .bool inf, .bool neg, .int .u64 (m : Int), .int .i64 e]
def z62 : Array Value := #[.bool false, .bool false, .bool false, .int .u64 0, .int .i64 0]

theorem five_set {w w1 : World} {g : Nat} {a b c d f : Value} {t : TypeId} (hgw : Grown w w1) (hz : Bk w1 g #[a, b, c, d, f] t) (hg : w.heap.size ≤ g) (x y z u v : Value) :
    Bk (((((w1.setCell ⟨g, 0, none⟩ x).setCell ⟨g, 1, none⟩ y).setCell ⟨g, 2, none⟩ z).setCell ⟨g, 3, none⟩ u).setCell ⟨g, 4, none⟩ v) g #[x, y, z, u, v] t ∧
      Grown w (((((w1.setCell ⟨g, 0, none⟩ x).setCell ⟨g, 1, none⟩ y).setCell ⟨g, 2, none⟩ z).setCell ⟨g, 3, none⟩ u).setCell ⟨g, 4, none⟩ v) :=
  ⟨((((hz.set 0 x).set 1 y).set 2 z).set 3 u).set 4 v, ((((hgw.setCell hg x).setCell hg y).setCell hg z).setCell hg u).setCell hg v⟩
theorem five_other {w1 : World} {g h : Nat} {cs : Array Value} {t : TypeId} (hb : Bk w1 h cs t) (hne : h ≠ g) (x y z u v : Value) :
    Bk (((((w1.setCell ⟨g, 0, none⟩ x).setCell ⟨g, 1, none⟩ y).setCell ⟨g, 2, none⟩ z).setCell ⟨g, 3, none⟩ u).setCell ⟨g, 4, none⟩ v) h cs t :=
  ((((hb.other 0 x hne).other 1 y hne).other 2 z hne).other 3 u hne).other 4 v hne

set_option maxHeartbeats 1000000 in
set_option maxRecDepth 20000 in
/-- What has been read of the bits, ahead of the three ways. -/
theorem open32 (x fr ex : Nat) (sg : Bool) (w : World) (r : Array Value) (h1 : bits .and .u64 (x : Int) 8388607 = (fr : Int)) (h2 : bits .and .i64 ((x : Int) / 8388608) 255 = (ex : Int))
   (h3 : bits .and .u64 ((x : Int) / 2147483648) 1 = if sg then 1 else 0) (hx : x < 4294967296) (hf : fr < 8388608)
   (hr : (ex = 255 ∧ r = nv (fr != 0) (fr == 0) sg fr (-149)) ∨ (0 < ex ∧ ex < 255 ∧ r = nv false false sg (fr + 8388608) ((ex : Int) - 1 + (-149))) ∨ (ex = 0 ∧ r = nv false false sg fr (-149))) :
    Calls Try.prog 42 #[.agg #[.int .i64 23, .int .i64 8], .int .u64 (x : Int)] w fun e w' => e = .returned (.agg r) ∧ Grown w w' := by
  have a1 : IntKind.u64.wrap 8388608 = 8388608 := by decide
  have a2 : IntKind.i64.wrap 256 = 256 := by decide
  have a3 : IntKind.i64.wrap 255 = 255 := by decide
  have a4 : IntKind.i64.wrap 31 = 31 := by decide
  have a5 : IntKind.i64.wrap ((x : Int) / 8388608) = (x : Int) / 8388608 := by rw [IntKind.wrap_i64]; omega
  have h3' : (bits .and .u64 ((x : Int) / 2147483648) 1 == 1) = sg := by rw [h3]; cases sg <;> rfl
  clear h3
  have HL := hide least32
  have HR := hide hr
  clear hr
  have hkA : Bk ((w.alloc (.cells #[.int .i64 23, .int .i64 8] 33)).alloc (.cells #[.bool false, .bool false, .bool false, .int .u64 0, .int .i64 0] 62)).drew w.heap.size #[.int .i64 23, .int .i64 8] 33 := (Bk.new w _ _).alloc _ _
  have hrA : Bk ((w.alloc (.cells #[.int .i64 23, .int .i64 8] 33)).alloc (.cells #[.bool false, .bool false, .bool false, .int .u64 0, .int .i64 0] 62)).drew (w.heap.size + 1) #[.bool false, .bool false, .bool false, .int .u64 0, .int .i64 0] 62 := by
    have := Bk.new (w.alloc (.cells #[.int .i64 23, .int .i64 8] 33)) #[.bool false, .bool false, .bool false, .int .u64 0, .int .i64 0] 62
    simp at this
    exact this
  have hgA : Grown w ((w.alloc (.cells #[.int .i64 23, .int .i64 8] 33)).alloc (.cells #[.bool false, .bool false, .bool false, .int .u64 0, .int .i64 0] 62)).drew := (((Grown.refl w).alloc _ _).alloc _ _).drew
  have hsA : ((w.alloc (.cells #[.int .i64 23, .int .i64 8] 33)).alloc (.cells #[.bool false, .bool false, .bool false, .int .u64 0, .int .i64 0] 62)).drew.heap.size = w.heap.size + 2 := by simp
  go_enter Try.func42, Try.ntmps42
  go_wp2_with fail
  go_region
  go_simp
  go_wp2_with fail
  generalize ((w.alloc (.cells #[.int .i64 23, .int .i64 8] 33)).alloc (.cells #[.bool false, .bool false, .bool false, .int .u64 0, .int .i64 0] 62)).drew = wA at *
  have HsA := hide hsA
  clear hsA
  have k1 : wA.cell? ⟨w.heap.size, 0, none⟩ = some (.int .i64 23) := hkA.cell 0
  have k2 : wA.cell? ⟨w.heap.size, 1, none⟩ = some (.int .i64 8) := hkA.cell 1
  go_cut [7] (fun p w' => ∃ bf, p = .pointer (some ⟨bf, 0, none⟩) ∧ Hid (Bk w' bf #[.bool false, .bool false, .bool sg, .int .u64 (fr : Int), .int .i64 (-149)] 62 ∧ w.heap.size + 2 ≤ bf ∧ Grown w w' ∧ Bk w' w.heap.size #[.int .i64 23, .int .i64 8] 33 ∧ Bk w' (w.heap.size + 1) #[.bool false, .bool false, .bool false, .int .u64 0, .int .i64 0] 62))
  case first =>
    go_region_held3 (fun w' => w'.cell? ⟨w.heap.size, 0, none⟩ = some (.int .i64 23) ∧ w'.cell? ⟨w.heap.size, 1, none⟩ = some (.int .i64 8)) (go_keep)
      ((go_at_call 62; first
        | (refine (unhide HL wA.drew).mono ?_; rintro e w1 ⟨rfl, hg⟩; have hk1 := Bk.grown (w := wA.drew) hkA hg; have hr1 := Bk.grown (w := wA.drew) hrA hg; have k1 := hk1.cell 0; have k2 := hk1.cell 1; have hs1 : w.heap.size + 2 ≤ w1.heap.size := Nat.le_trans (Nat.le_of_eq (unhide HsA).symm) hg.2.2; have hn1 : ¬ w1.heap.size = w.heap.size := (by omega); have hn2 : ¬ w.heap.size = w1.heap.size := (by omega); have hg1 : Grown w w1 := gtrans hgA hg; simp at k1 k2)
        | (refine (unhide HL _).mono ?_; rintro e w1 ⟨rfl, hg⟩; have hk1 := Bk.grown (Bk.alloc (w := wA.drew) hkA _ _) hg; have hr1 := Bk.grown (Bk.alloc (w := wA.drew) hrA _ _) hg; have hz1 : Bk w1 wA.heap.size #[.bool false, .bool false, .bool false, .int .u64 0, .int .i64 0] 62 := Bk.grown (Bk.new wA.drew _ _) hg; have k1 := hk1.cell 0; have k2 := hk1.cell 1; have q0 := hz1.cell 0; have q1 := hz1.cell 1; have q2 := hz1.cell 2; have q3 := hz1.cell 3; have q4 := hz1.cell 4; have qf := hz1.frozen; have hn1 : ¬ wA.heap.size = w.heap.size := (by have := unhide HsA; omega); have hn2 : ¬ w.heap.size = wA.heap.size := (by have := unhide HsA; omega); have hg1 : Grown w w1 := gtrans ((show Grown w wA.drew from hgA).alloc _ _) hg; simp at k1 k2 q0 q1 q2 q3 q4)
        | fail))
    all_goals go_wp2
    all_goals go_meet
    · exact ⟨_, rfl, Bk.new _ _ _, hs1, hg1.alloc _ _, hk1.alloc _ _, hr1.alloc _ _⟩
    · have hsz : w.heap.size + 2 ≤ wA.heap.size := Nat.le_of_eq (unhide HsA).symm
      exact ⟨_, rfl, (five_set hg1 hz1 (by omega) _ _ _ _ _).1, hsz, (five_set hg1 hz1 (by omega) _ _ _ _ _).2, five_other hk1 hn2 _ _ _ _ _, five_other hr1 (by omega) _ _ _ _ _⟩
  case rest =>
    obtain ⟨bf, rfl, hX⟩ := hcut
    obtain ⟨hz, hbf, hgw, hk, hrs⟩ := unhide hX
    clear hX hkA hrA hgA k1 k2 HsA
    have k1 := hk.cell 0
    have k2 := hk.cell 1
    have q0 := hz.cell 0
    have q1 := hz.cell 1
    have q2 := hz.cell 2
    have q3 := hz.cell 3
    have q4 := hz.cell 4
    have qf := hz.frozen
    have r0 := hrs.cell 0
    have r1 := hrs.cell 1
    have r2 := hrs.cell 2
    have r3 := hrs.cell 3
    have r4 := hrs.cell 4
    have rf := hrs.frozen
    have n1 : ¬ bf = w.heap.size := by omega
    have n2 : ¬ w.heap.size = bf := by omega
    have n3 : ¬ bf = w.heap.size + 1 := by omega
    have n4 : ¬ w.heap.size + 1 = bf := by omega
    simp at k1 k2 q0 q1 q2 q3 q4 r0 r1 r2 r3 r4
    rcases unhide HR with ⟨rfl, rfl⟩ | ⟨hlo, hhi, rfl⟩ | ⟨rfl, rfl⟩
    · go_wp2
      have hE := five_set ((hgw.setCell (a := ⟨bf, 0, none⟩) (by show w.heap.size ≤ bf; omega) (.bool ((fr : Int) != 0))).setCell (a := ⟨bf, 1, none⟩) (by show w.heap.size ≤ bf; omega) (.bool ((fr : Int) == 0))) ((hrs.other 0 _ n4).other 1 _ n4) (by omega) (.bool ((fr : Int) != 0)) (.bool ((fr : Int) == 0)) (.bool sg) (.int .u64 (fr : Int)) (.int .i64 (-149))
      refine bodyPost_ret (results_cell_row Try.results42 _ _ (w.heap.size + 1) 62 _ (0, 0) _ rfl hE.1 Try.underlying62 rfl (by kernel_rfl)) rfl ?_
      have c0 : ((fr : Int) == 0) = (fr == 0) := by rw [Bool.eq_iff_iff, beq_iff_eq, beq_iff_eq]; omega
      have c1 : ((fr : Int) != 0) = (fr != 0) := by unfold bne; rw [c0]
      exact ⟨by unfold nv; rw [c0, c1], hE.2⟩
    · go_wp2_with fail
      refine (unhide HL _).mono ?_
      rintro e w2 ⟨rfl, hg2⟩
      have hz2 := Bk.grown (hz.set 3 (.int .u64 ((fr : Int) + 8388608))) hg2
      have hk2 := Bk.grown (hk.other 3 _ n2) hg2
      have hrs2 := Bk.grown (hrs.other 3 _ n4) hg2
      have hgw2 : Grown w w2 := gtrans (hgw.setCell (a := ⟨bf, 3, none⟩) (by show w.heap.size ≤ bf; omega) (.int .u64 ((fr : Int) + 8388608))) hg2
      clear k1 k2 q0 q1 q2 q3 q4 r0 r1 r2 r3 r4 qf rf hz hk hrs hg2 hgw
      have q0 := hz2.cell 0
      have q1 := hz2.cell 1
      have q2 := hz2.cell 2
      have q3 := hz2.cell 3
      have q4 := hz2.cell 4
      have qf := hz2.frozen
      have r0 := hrs2.cell 0
      have r1 := hrs2.cell 1
      have r2 := hrs2.cell 2
      have r3 := hrs2.cell 3
      have r4 := hrs2.cell 4
      have rf := hrs2.frozen
      simp at q0 q1 q2 q3 q4 r0 r1 r2 r3 r4
      go_wp2
      have hE := five_set (hgw2.setCell (a := ⟨bf, 4, none⟩) (by show w.heap.size ≤ bf; omega) (.int .i64 ((ex : Int) - 1 + (-149)))) (hrs2.other 4 _ n4) (by omega) (.bool false) (.bool false) (.bool sg) (.int .u64 ((fr : Int) + 8388608)) (.int .i64 ((ex : Int) - 1 + (-149)))
      refine bodyPost_ret (results_cell_row Try.results42 _ _ (w.heap.size + 1) 62 _ (0, 0) _ rfl hE.1 Try.underlying62 rfl (by kernel_rfl)) rfl ?_
      exact ⟨by unfold nv; simp, hE.2⟩
    · go_wp2
      have hE := five_set hgw hrs (by omega) (.bool false) (.bool false) (.bool sg) (.int .u64 (fr : Int)) (.int .i64 (-149))
      refine bodyPost_ret (results_cell_row Try.results42 _ _ (w.heap.size + 1) 62 _ (0, 0) _ rfl hE.1 Try.underlying62 rfl (by kernel_rfl)) rfl ?_
      exact ⟨by unfold nv; rfl, hE.2⟩

set_option maxHeartbeats 1000000 in
set_option maxRecDepth 20000 in
/-- What has been read of the bits, ahead of the three ways. -/
theorem open64 (x fr ex : Nat) (sg : Bool) (w : World) (r : Array Value) (h1 : bits .and .u64 (x : Int) 4503599627370495 = (fr : Int)) (h2 : bits .and .i64 ((x : Int) / 4503599627370496) 2047 = (ex : Int))
   (h3 : bits .and .u64 ((x : Int) / 9223372036854775808) 1 = if sg then 1 else 0) (hx : x < 18446744073709551616) (hf : fr < 4503599627370496)
   (hr : (ex = 2047 ∧ r = nv (fr != 0) (fr == 0) sg fr (-1074)) ∨ (0 < ex ∧ ex < 2047 ∧ r = nv false false sg (fr + 4503599627370496) ((ex : Int) - 1 + (-1074))) ∨ (ex = 0 ∧ r = nv false false sg fr (-1074))) :
    Calls Try.prog 42 #[.agg #[.int .i64 52, .int .i64 11], .int .u64 (x : Int)] w fun e w' => e = .returned (.agg r) ∧ Grown w w' := by
  have a1 : IntKind.u64.wrap 4503599627370496 = 4503599627370496 := by decide
  have a2 : IntKind.i64.wrap 2048 = 2048 := by decide
  have a3 : IntKind.i64.wrap 2047 = 2047 := by decide
  have a4 : IntKind.i64.wrap 63 = 63 := by decide
  have a5 : IntKind.i64.wrap ((x : Int) / 4503599627370496) = (x : Int) / 4503599627370496 := by rw [IntKind.wrap_i64]; omega
  have h3' : (bits .and .u64 ((x : Int) / 9223372036854775808) 1 == 1) = sg := by rw [h3]; cases sg <;> rfl
  clear h3
  have HL := hide least64
  have HR := hide hr
  clear hr
  have hkA : Bk ((w.alloc (.cells #[.int .i64 52, .int .i64 11] 33)).alloc (.cells #[.bool false, .bool false, .bool false, .int .u64 0, .int .i64 0] 62)).drew w.heap.size #[.int .i64 52, .int .i64 11] 33 := (Bk.new w _ _).alloc _ _
  have hrA : Bk ((w.alloc (.cells #[.int .i64 52, .int .i64 11] 33)).alloc (.cells #[.bool false, .bool false, .bool false, .int .u64 0, .int .i64 0] 62)).drew (w.heap.size + 1) #[.bool false, .bool false, .bool false, .int .u64 0, .int .i64 0] 62 := by
    have := Bk.new (w.alloc (.cells #[.int .i64 52, .int .i64 11] 33)) #[.bool false, .bool false, .bool false, .int .u64 0, .int .i64 0] 62
    simp at this
    exact this
  have hgA : Grown w ((w.alloc (.cells #[.int .i64 52, .int .i64 11] 33)).alloc (.cells #[.bool false, .bool false, .bool false, .int .u64 0, .int .i64 0] 62)).drew := (((Grown.refl w).alloc _ _).alloc _ _).drew
  have hsA : ((w.alloc (.cells #[.int .i64 52, .int .i64 11] 33)).alloc (.cells #[.bool false, .bool false, .bool false, .int .u64 0, .int .i64 0] 62)).drew.heap.size = w.heap.size + 2 := by simp
  go_enter Try.func42, Try.ntmps42
  go_wp2_with fail
  go_region
  go_simp
  go_wp2_with fail
  generalize ((w.alloc (.cells #[.int .i64 52, .int .i64 11] 33)).alloc (.cells #[.bool false, .bool false, .bool false, .int .u64 0, .int .i64 0] 62)).drew = wA at *
  have HsA := hide hsA
  clear hsA
  have k1 : wA.cell? ⟨w.heap.size, 0, none⟩ = some (.int .i64 52) := hkA.cell 0
  have k2 : wA.cell? ⟨w.heap.size, 1, none⟩ = some (.int .i64 11) := hkA.cell 1
  go_cut [7] (fun p w' => ∃ bf, p = .pointer (some ⟨bf, 0, none⟩) ∧ Hid (Bk w' bf #[.bool false, .bool false, .bool sg, .int .u64 (fr : Int), .int .i64 (-1074)] 62 ∧ w.heap.size + 2 ≤ bf ∧ Grown w w' ∧ Bk w' w.heap.size #[.int .i64 52, .int .i64 11] 33 ∧ Bk w' (w.heap.size + 1) #[.bool false, .bool false, .bool false, .int .u64 0, .int .i64 0] 62))
  case first =>
    go_region_held3 (fun w' => w'.cell? ⟨w.heap.size, 0, none⟩ = some (.int .i64 52) ∧ w'.cell? ⟨w.heap.size, 1, none⟩ = some (.int .i64 11)) (go_keep)
      ((go_at_call 62; first
        | (refine (unhide HL wA.drew).mono ?_; rintro e w1 ⟨rfl, hg⟩; have hk1 := Bk.grown (w := wA.drew) hkA hg; have hr1 := Bk.grown (w := wA.drew) hrA hg; have k1 := hk1.cell 0; have k2 := hk1.cell 1; have hs1 : w.heap.size + 2 ≤ w1.heap.size := Nat.le_trans (Nat.le_of_eq (unhide HsA).symm) hg.2.2; have hn1 : ¬ w1.heap.size = w.heap.size := (by omega); have hn2 : ¬ w.heap.size = w1.heap.size := (by omega); have hg1 : Grown w w1 := gtrans hgA hg; simp at k1 k2)
        | (refine (unhide HL _).mono ?_; rintro e w1 ⟨rfl, hg⟩; have hk1 := Bk.grown (Bk.alloc (w := wA.drew) hkA _ _) hg; have hr1 := Bk.grown (Bk.alloc (w := wA.drew) hrA _ _) hg; have hz1 : Bk w1 wA.heap.size #[.bool false, .bool false, .bool false, .int .u64 0, .int .i64 0] 62 := Bk.grown (Bk.new wA.drew _ _) hg; have k1 := hk1.cell 0; have k2 := hk1.cell 1; have q0 := hz1.cell 0; have q1 := hz1.cell 1; have q2 := hz1.cell 2; have q3 := hz1.cell 3; have q4 := hz1.cell 4; have qf := hz1.frozen; have hn1 : ¬ wA.heap.size = w.heap.size := (by have := unhide HsA; omega); have hn2 : ¬ w.heap.size = wA.heap.size := (by have := unhide HsA; omega); have hg1 : Grown w w1 := gtrans ((show Grown w wA.drew from hgA).alloc _ _) hg; simp at k1 k2 q0 q1 q2 q3 q4)
        | fail))
    all_goals go_wp2
    all_goals go_meet
    · exact ⟨_, rfl, Bk.new _ _ _, hs1, hg1.alloc _ _, hk1.alloc _ _, hr1.alloc _ _⟩
    · have hsz : w.heap.size + 2 ≤ wA.heap.size := Nat.le_of_eq (unhide HsA).symm
      exact ⟨_, rfl, (five_set hg1 hz1 (by omega) _ _ _ _ _).1, hsz, (five_set hg1 hz1 (by omega) _ _ _ _ _).2, five_other hk1 hn2 _ _ _ _ _, five_other hr1 (by omega) _ _ _ _ _⟩
  case rest =>
    obtain ⟨bf, rfl, hX⟩ := hcut
    obtain ⟨hz, hbf, hgw, hk, hrs⟩ := unhide hX
    clear hX hkA hrA hgA k1 k2 HsA
    have k1 := hk.cell 0
    have k2 := hk.cell 1
    have q0 := hz.cell 0
    have q1 := hz.cell 1
    have q2 := hz.cell 2
    have q3 := hz.cell 3
    have q4 := hz.cell 4
    have qf := hz.frozen
    have r0 := hrs.cell 0
    have r1 := hrs.cell 1
    have r2 := hrs.cell 2
    have r3 := hrs.cell 3
    have r4 := hrs.cell 4
    have rf := hrs.frozen
    have n1 : ¬ bf = w.heap.size := by omega
    have n2 : ¬ w.heap.size = bf := by omega
    have n3 : ¬ bf = w.heap.size + 1 := by omega
    have n4 : ¬ w.heap.size + 1 = bf := by omega
    simp at k1 k2 q0 q1 q2 q3 q4 r0 r1 r2 r3 r4
    rcases unhide HR with ⟨rfl, rfl⟩ | ⟨hlo, hhi, rfl⟩ | ⟨rfl, rfl⟩
    · go_wp2
      have hE := five_set ((hgw.setCell (a := ⟨bf, 0, none⟩) (by show w.heap.size ≤ bf; omega) (.bool ((fr : Int) != 0))).setCell (a := ⟨bf, 1, none⟩) (by show w.heap.size ≤ bf; omega) (.bool ((fr : Int) == 0))) ((hrs.other 0 _ n4).other 1 _ n4) (by omega) (.bool ((fr : Int) != 0)) (.bool ((fr : Int) == 0)) (.bool sg) (.int .u64 (fr : Int)) (.int .i64 (-1074))
      refine bodyPost_ret (results_cell_row Try.results42 _ _ (w.heap.size + 1) 62 _ (0, 0) _ rfl hE.1 Try.underlying62 rfl (by kernel_rfl)) rfl ?_
      have c0 : ((fr : Int) == 0) = (fr == 0) := by rw [Bool.eq_iff_iff, beq_iff_eq, beq_iff_eq]; omega
      have c1 : ((fr : Int) != 0) = (fr != 0) := by unfold bne; rw [c0]
      exact ⟨by unfold nv; rw [c0, c1], hE.2⟩
    · go_wp2_with fail
      refine (unhide HL _).mono ?_
      rintro e w2 ⟨rfl, hg2⟩
      have hz2 := Bk.grown (hz.set 3 (.int .u64 ((fr : Int) + 4503599627370496))) hg2
      have hk2 := Bk.grown (hk.other 3 _ n2) hg2
      have hrs2 := Bk.grown (hrs.other 3 _ n4) hg2
      have hgw2 : Grown w w2 := gtrans (hgw.setCell (a := ⟨bf, 3, none⟩) (by show w.heap.size ≤ bf; omega) (.int .u64 ((fr : Int) + 4503599627370496))) hg2
      clear k1 k2 q0 q1 q2 q3 q4 r0 r1 r2 r3 r4 qf rf hz hk hrs hg2 hgw
      have q0 := hz2.cell 0
      have q1 := hz2.cell 1
      have q2 := hz2.cell 2
      have q3 := hz2.cell 3
      have q4 := hz2.cell 4
      have qf := hz2.frozen
      have r0 := hrs2.cell 0
      have r1 := hrs2.cell 1
      have r2 := hrs2.cell 2
      have r3 := hrs2.cell 3
      have r4 := hrs2.cell 4
      have rf := hrs2.frozen
      simp at q0 q1 q2 q3 q4 r0 r1 r2 r3 r4
      go_wp2
      have hE := five_set (hgw2.setCell (a := ⟨bf, 4, none⟩) (by show w.heap.size ≤ bf; omega) (.int .i64 ((ex : Int) - 1 + (-1074)))) (hrs2.other 4 _ n4) (by omega) (.bool false) (.bool false) (.bool sg) (.int .u64 ((fr : Int) + 4503599627370496)) (.int .i64 ((ex : Int) - 1 + (-1074)))
      refine bodyPost_ret (results_cell_row Try.results42 _ _ (w.heap.size + 1) 62 _ (0, 0) _ rfl hE.1 Try.underlying62 rfl (by kernel_rfl)) rfl ?_
      exact ⟨by unfold nv; simp, hE.2⟩
    · go_wp2
      have hE := five_set hgw hrs (by omega) (.bool false) (.bool false) (.bool sg) (.int .u64 (fr : Int)) (.int .i64 (-1074))
      refine bodyPost_ret (results_cell_row Try.results42 _ _ (w.heap.size + 1) 62 _ (0, 0) _ rfl hE.1 Try.underlying62 rfl (by kernel_rfl)) rfl ?_
      exact ⟨by unfold nv; rfl, hE.2⟩

theorem i64_mask (a n : Nat) (ha : a < 9223372036854775808) (hn : n < 63) : bits .and .i64 (a : Int) ((2 ^ n - 1 : Nat) : Int) = ((a % 2 ^ n : Nat) : Int) := by
  have h1 : (2 : Nat) ^ n ≤ 2 ^ 62 := Nat.pow_le_pow_right (by omega) (by omega)
  have h2 := Nat.two_pow_pos n
  have h3 : a % 2 ^ n < 2 ^ n := Nat.mod_lt _ h2
  have e : (BitVec.ofInt 64 (a : Int) &&& BitVec.ofInt 64 ((2 ^ n - 1 : Nat) : Int)).toNat = a % 2 ^ n := by
    rw [BitVec.toNat_and, BitVec.ofInt_natCast, BitVec.ofInt_natCast, BitVec.toNat_ofNat, BitVec.toNat_ofNat, Nat.mod_eq_of_lt (show a < 2 ^ 64 by omega), Nat.mod_eq_of_lt (show 2 ^ n - 1 < 2 ^ 64 by omega), Nat.and_two_pow_sub_one_eq_mod]
  show IntKind.i64.wrap ((BitVec.ofInt 64 (a : Int) &&& BitVec.ofInt 64 ((2 ^ n - 1 : Nat) : Int)).toNat : Nat) = _
  rw [e, IntKind.wrap_i64]
  omega
theorem u64_mask (a n : Nat) (ha : a < 18446744073709551616) (hn : n < 64) : bits .and .u64 (a : Int) ((2 ^ n - 1 : Nat) : Int) = ((a % 2 ^ n : Nat) : Int) := by
  have h1 : (2 : Nat) ^ n ≤ 2 ^ 63 := Nat.pow_le_pow_right (by omega) (by omega)
  have h2 := Nat.two_pow_pos n
  have h3 : a % 2 ^ n < 2 ^ n := Nat.mod_lt _ h2
  have e : (BitVec.ofInt 64 (a : Int) &&& BitVec.ofInt 64 ((2 ^ n - 1 : Nat) : Int)).toNat = a % 2 ^ n := by
    rw [BitVec.toNat_and, BitVec.ofInt_natCast, BitVec.ofInt_natCast, BitVec.toNat_ofNat, BitVec.toNat_ofNat, Nat.mod_eq_of_lt (show a < 2 ^ 64 by omega), Nat.mod_eq_of_lt (show 2 ^ n - 1 < 2 ^ 64 by omega), Nat.and_two_pow_sub_one_eq_mod]
  show IntKind.u64.wrap ((BitVec.ofInt 64 (a : Int) &&& BitVec.ofInt 64 ((2 ^ n - 1 : Nat) : Int)).toNat : Nat) = _
  rw [e, IntKind.wrap_u64]
  omega

/-- A number, by its bits. -/
theorem open32_fin (x : Nat) (w : World) (hx : x < 4294967296) (hf : x % 2147483648 < 2139095040) :
    Calls Try.prog 42 #[.agg #[.int .i64 23, .int .i64 8], .int .u64 (x : Int)] w fun e w' => e = .returned (.agg (nv false false (x / 2147483648 % 2 == 1) (Nm.mag Ieee.single (x % 2147483648)) (-149 + (Nm.up Ieee.single (x % 2147483648) : Nat)))) ∧ Grown w w' := by
  refine open32 x (x % 8388608) (x / 8388608 % 256) (x / 2147483648 % 2 == 1) w _ ?_ ?_ ?_ hx (by omega) ?_
  · exact u64_mask x 23 (by omega) (by omega)
  · have := i64_mask (x / 8388608) 8 (by omega) (by omega)
    rw [Int.natCast_ediv] at this
    exact this
  · rw [mask1 _ (by omega) (by omega)]
    by_cases h : x / 2147483648 % 2 = 1
    · simp only [h, beq_self_eq_true, if_true]; omega
    · have h' : (x / 2147483648 % 2 == 1) = false := by rw [beq_eq_false_iff_ne]; exact h
      simp only [h', Bool.false_eq_true, if_false]; omega
  · by_cases h0 : x / 8388608 % 256 = 0
    · refine .inr (.inr ⟨h0, ?_⟩)
      unfold Nm.mag Nm.up
      rw [Nm.s_binade, if_pos (by omega), if_pos (by omega)]
      congr 1
      omega
    · refine .inr (.inl ⟨by omega, by omega, ?_⟩)
      unfold Nm.mag Nm.up
      rw [Nm.s_binade, if_neg (by omega), if_neg (by omega)]
      congr 1
      · omega
      · omega
theorem open32_inf (x : Nat) (w : World) (hx : x < 4294967296) (hf : x % 2147483648 = 2139095040) :
    Calls Try.prog 42 #[.agg #[.int .i64 23, .int .i64 8], .int .u64 (x : Int)] w fun e w' => e = .returned (.agg (nv false true (x / 2147483648 % 2 == 1) 0 (-149))) ∧ Grown w w' := by
  refine open32 x (x % 8388608) (x / 8388608 % 256) (x / 2147483648 % 2 == 1) w _ ?_ ?_ ?_ hx (by omega) ?_
  · exact u64_mask x 23 (by omega) (by omega)
  · have := i64_mask (x / 8388608) 8 (by omega) (by omega)
    rw [Int.natCast_ediv] at this
    exact this
  · rw [mask1 _ (by omega) (by omega)]
    by_cases h : x / 2147483648 % 2 = 1
    · simp only [h, beq_self_eq_true, if_true]; omega
    · have h' : (x / 2147483648 % 2 == 1) = false := by rw [beq_eq_false_iff_ne]; exact h
      simp only [h', Bool.false_eq_true, if_false]; omega
  · refine .inl ⟨by omega, ?_⟩
    have h0 : x % 8388608 = 0 := by omega
    rw [h0]
    rfl
theorem open32_nan (x : Nat) (w : World) (hx : x < 4294967296) (hf : 2139095040 < x % 2147483648) :
    Calls Try.prog 42 #[.agg #[.int .i64 23, .int .i64 8], .int .u64 (x : Int)] w fun e w' => ∃ m, e = .returned (.agg (nv true false (x / 2147483648 % 2 == 1) m (-149))) ∧ Grown w w' := by
  refine (open32 x (x % 8388608) (x / 8388608 % 256) (x / 2147483648 % 2 == 1) w (nv true false (x / 2147483648 % 2 == 1) (x % 8388608) (-149)) ?_ ?_ ?_ hx (by omega) ?_).mono (fun e w' h => ⟨_, h⟩)
  · exact u64_mask x 23 (by omega) (by omega)
  · have := i64_mask (x / 8388608) 8 (by omega) (by omega)
    rw [Int.natCast_ediv] at this
    exact this
  · rw [mask1 _ (by omega) (by omega)]
    by_cases h : x / 2147483648 % 2 = 1
    · simp only [h, beq_self_eq_true, if_true]; omega
    · have h' : (x / 2147483648 % 2 == 1) = false := by rw [beq_eq_false_iff_ne]; exact h
      simp only [h', Bool.false_eq_true, if_false]; omega
  · refine .inl ⟨by omega, ?_⟩
    have h0 : x % 8388608 ≠ 0 := by omega
    have h1 : (x % 8388608 != 0) = true := by simpa using h0
    have h2 : (x % 8388608 == 0) = false := by simpa using h0
    rw [h1, h2]

/-- A number, by its bits. -/
theorem open64_fin (x : Nat) (w : World) (hx : x < 18446744073709551616) (hf : x % 9223372036854775808 < 9218868437227405312) :
    Calls Try.prog 42 #[.agg #[.int .i64 52, .int .i64 11], .int .u64 (x : Int)] w fun e w' => e = .returned (.agg (nv false false (x / 9223372036854775808 % 2 == 1) (Nm.mag Ieee.double (x % 9223372036854775808)) (-1074 + (Nm.up Ieee.double (x % 9223372036854775808) : Nat)))) ∧ Grown w w' := by
  refine open64 x (x % 4503599627370496) (x / 4503599627370496 % 2048) (x / 9223372036854775808 % 2 == 1) w _ ?_ ?_ ?_ hx (by omega) ?_
  · exact u64_mask x 52 (by omega) (by omega)
  · have := i64_mask (x / 4503599627370496) 11 (by omega) (by omega)
    rw [Int.natCast_ediv] at this
    exact this
  · rw [mask1 _ (by omega) (by omega)]
    by_cases h : x / 9223372036854775808 % 2 = 1
    · simp only [h, beq_self_eq_true, if_true]; omega
    · have h' : (x / 9223372036854775808 % 2 == 1) = false := by rw [beq_eq_false_iff_ne]; exact h
      simp only [h', Bool.false_eq_true, if_false]; omega
  · by_cases h0 : x / 4503599627370496 % 2048 = 0
    · refine .inr (.inr ⟨h0, ?_⟩)
      unfold Nm.mag Nm.up
      rw [Nm.d_binade, if_pos (by omega), if_pos (by omega)]
      congr 1
      omega
    · refine .inr (.inl ⟨by omega, by omega, ?_⟩)
      unfold Nm.mag Nm.up
      rw [Nm.d_binade, if_neg (by omega), if_neg (by omega)]
      congr 1
      · omega
      · omega
theorem open64_inf (x : Nat) (w : World) (hx : x < 18446744073709551616) (hf : x % 9223372036854775808 = 9218868437227405312) :
    Calls Try.prog 42 #[.agg #[.int .i64 52, .int .i64 11], .int .u64 (x : Int)] w fun e w' => e = .returned (.agg (nv false true (x / 9223372036854775808 % 2 == 1) 0 (-1074))) ∧ Grown w w' := by
  refine open64 x (x % 4503599627370496) (x / 4503599627370496 % 2048) (x / 9223372036854775808 % 2 == 1) w _ ?_ ?_ ?_ hx (by omega) ?_
  · exact u64_mask x 52 (by omega) (by omega)
  · have := i64_mask (x / 4503599627370496) 11 (by omega) (by omega)
    rw [Int.natCast_ediv] at this
    exact this
  · rw [mask1 _ (by omega) (by omega)]
    by_cases h : x / 9223372036854775808 % 2 = 1
    · simp only [h, beq_self_eq_true, if_true]; omega
    · have h' : (x / 9223372036854775808 % 2 == 1) = false := by rw [beq_eq_false_iff_ne]; exact h
      simp only [h', Bool.false_eq_true, if_false]; omega
  · refine .inl ⟨by omega, ?_⟩
    have h0 : x % 4503599627370496 = 0 := by omega
    rw [h0]
    rfl
theorem open64_nan (x : Nat) (w : World) (hx : x < 18446744073709551616) (hf : 9218868437227405312 < x % 9223372036854775808) :
    Calls Try.prog 42 #[.agg #[.int .i64 52, .int .i64 11], .int .u64 (x : Int)] w fun e w' => ∃ m, e = .returned (.agg (nv true false (x / 9223372036854775808 % 2 == 1) m (-1074))) ∧ Grown w w' := by
  refine (open64 x (x % 4503599627370496) (x / 4503599627370496 % 2048) (x / 9223372036854775808 % 2 == 1) w (nv true false (x / 9223372036854775808 % 2 == 1) (x % 4503599627370496) (-1074)) ?_ ?_ ?_ hx (by omega) ?_).mono (fun e w' h => ⟨_, h⟩)
  · exact u64_mask x 52 (by omega) (by omega)
  · have := i64_mask (x / 4503599627370496) 11 (by omega) (by omega)
    rw [Int.natCast_ediv] at this
    exact this
  · rw [mask1 _ (by omega) (by omega)]
    by_cases h : x / 9223372036854775808 % 2 = 1
    · simp only [h, beq_self_eq_true, if_true]; omega
    · have h' : (x / 9223372036854775808 % 2 == 1) = false := by rw [beq_eq_false_iff_ne]; exact h
      simp only [h', Bool.false_eq_true, if_false]; omega
  · refine .inl ⟨by omega, ?_⟩
    have h0 : x % 4503599627370496 ≠ 0 := by omega
    have h1 : (x % 4503599627370496 != 0) = true := by simpa using h0
    have h2 : (x % 4503599627370496 == 0) = false := by simpa using h0
    rw [h1, h2]
end Go.Proofs.Ytjnelkpgdjphmaa
