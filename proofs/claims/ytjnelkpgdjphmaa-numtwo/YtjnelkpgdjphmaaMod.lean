import Derived.Test.YtjnelkpgdjphmaaMA
namespace Go.Proofs.Ytjnelkpgdjphmaa
open Go.RowKit
set_option linter.unusedVariables false
set_option linter.unusedSimpArgs false

theorem xor_hi (X : Nat) (h : X < 9223372036854775808) : X ^^^ 9223372036854775808 = 9223372036854775808 + X := by
  have h1 : (X ^^^ 9223372036854775808) % 2 ^ 63 = (X % 2 ^ 63) ^^^ (9223372036854775808 % 2 ^ 63) := Nat.xor_mod_two_pow
  have h2 : (X ^^^ 9223372036854775808) / 2 ^ 63 = (X / 2 ^ 63) ^^^ (9223372036854775808 / 2 ^ 63) := Nat.xor_div_two_pow
  have h3 := Nat.div_add_mod (X ^^^ 9223372036854775808) (2 ^ 63)
  rw [h1, h2, Nat.mod_eq_of_lt (show X < 2 ^ 63 by omega), Nat.div_eq_of_lt (show X < 2 ^ 63 by omega), show 9223372036854775808 % 2 ^ 63 = 0 from by decide, show 9223372036854775808 / 2 ^ 63 = 1 from by decide, Nat.xor_zero, Nat.zero_xor] at h3
  omega
theorem xor_back (X : Nat) (h : X < 9223372036854775808) : (9223372036854775808 + X) ^^^ 9223372036854775808 = X := by
  rw [← xor_hi X h, Nat.xor_assoc, Nat.xor_self, Nat.xor_zero]
theorem neg_run (z : Nat) (w : World) : (Op.unary UnOp.neg (Value.float .f64 z)).run Try.prog w = .ok (.float .f64 (z ^^^ 9223372036854775808)) w := rfl

def flOf (v : Value) : Nat := match v with | .float _ b => b | _ => 0

/-- One step of what is left, in plain numbers. -/
theorem mod_step {g y ng cg ny cy : Nat} (hg : g < 9218868437227405312) (hy0 : 0 < y) (hyi : y < 9218868437227405312) (hle : y ≤ g) (Hg : Nm.Norm g ng cg) (Hy : Nm.Norm y ny cy) :
    ∃ k : Nat, (k : Int) = ((ng / 4503599627370496 : Nat) - 1022 - (cg : Int)) - (if ng % 4503599627370496 < ny % 4503599627370496 then 1 else 0) - ((ny / 4503599627370496 : Nat) - 1022 - (cy : Int)) ∧
      k ≤ 5000 ∧ Nm.V Ieee.double y * 2 ^ k < 2 ^ 2098 ∧
      ∀ s, s < 9218868437227405312 → Nm.V Ieee.double s = Nm.V Ieee.double y * 2 ^ k →
        ∃ d, d < g ∧ Ieee.double.sub g s = some d ∧ Nm.V Ieee.double d % Nm.V Ieee.double y = Nm.V Ieee.double g % Nm.V Ieee.double y := by
  have hpy := Hy.pos
  have hpg := Hg.pos
  have hv : Nm.V Ieee.double y ≤ Nm.V Ieee.double g := by
    rcases Nat.lt_or_ge y g with h | h
    · exact Nat.le_of_lt (Nm.V_mono _ h)
    · have : y = g := by omega
      rw [this]; exact Nat.le_refl _
  have hst := Nm.step_k (Nm.V Ieee.double g) (Nm.V Ieee.double y) hpy hv
  have hcm := Hg.cmp Hy
  have lg := Hg.log2
  have ly := Hy.log2
  have hgV : Nm.V Ieee.double g < 2 ^ 2098 := by
    have := Nm.V_mono Ieee.double hg
    rw [Nm.V_inf] at this
    exact this
  have hlg : (Nm.V Ieee.double g).log2 < 2098 := (Nat.log2_lt (by omega)).2 hgV
  have hif : (if Nm.V Ieee.double g * 2 ^ (Nm.V Ieee.double y).log2 < Nm.V Ieee.double y * 2 ^ (Nm.V Ieee.double g).log2 then 1 else 0) = (if ng % 4503599627370496 < ny % 4503599627370496 then 1 else 0) := by
    by_cases h : ng % 4503599627370496 < ny % 4503599627370496
    · rw [if_pos h, if_pos (hcm.1 h)]
    · rw [if_neg h, if_neg (fun h' => h (hcm.2 h'))]
  rw [hif] at hst
  obtain ⟨s1, s2, s3⟩ := hst
  generalize hb : (if ng % 4503599627370496 < ny % 4503599627370496 then 1 else 0) = b at *
  have hbi : ((if ng % 4503599627370496 < ny % 4503599627370496 then 1 else 0 : Int)) = (b : Int) := by rw [← hb]; split <;> rfl
  rw [hbi]
  refine ⟨(Nm.V Ieee.double g).log2 - (Nm.V Ieee.double y).log2 - b, ?_, by omega, by omega, ?_⟩
  · generalize (Nm.V Ieee.double g).log2 = a1 at *
    generalize (Nm.V Ieee.double y).log2 = a2 at *
    generalize ng / 4503599627370496 = q1 at *
    generalize ny / 4503599627370496 = q2 at *
    omega
  · intro s hs hsV
    obtain ⟨d, hd1, hd2⟩ := Nm.diff_rep Ieee.double g s (by rw [Nm.d_inf]; exact hg) (by rw [hsV]; exact s2) (by rw [hsV]; exact s3)
    have hsub := Nm.sub_exact Ieee.double g s d (by decide) (by rw [Nm.d_inf]; exact hg) (by rw [Nm.d_inf]; exact hs) hd1 (by rw [hsV]; exact s2) hd2
    refine ⟨d, ?_, hsub, ?_⟩
    · apply (Nm.V_lt_iff Ieee.double d g).1
      have : 0 < Nm.V Ieee.double s := by rw [hsV]; exact Nat.mul_pos hpy (Nat.two_pow_pos _)
      omega
    · rw [hd2, hsV]
      have hle2 := s2
      generalize 2 ^ ((Nm.V Ieee.double g).log2 - (Nm.V Ieee.double y).log2 - b) = p at *
      obtain ⟨u, hu⟩ := Nat.le.dest hle2
      rw [← hu, Nat.add_sub_cancel_left, Nat.mul_add_mod]

set_option maxHeartbeats 2000000 in
set_option maxRecDepth 20000 in
theorem mod_core (x y X : Nat) (neg : Bool) (w : World) (hX : X < 9218868437227405312) (hY : y % 9223372036854775808 < 9218868437227405312) (hY0 : y % 9223372036854775808 ≠ 0) (hy : y < 18446744073709551616)
    (hx : x = if neg then 9223372036854775808 + X else X) (hX0 : neg = true → X ≠ 0) :
    Calls Try.prog 65 #[.float .f64 x, .float .f64 y] w fun e w' => (∃ g, g < 9218868437227405312 ∧ Nm.V Ieee.double g = Nm.V Ieee.double X % Nm.V Ieee.double (y % 9223372036854775808) ∧ e = .returned (.float .f64 (if neg then g ^^^ 9223372036854775808 else g))) ∧ Grown w w' := by
  have HAb := hide (fun w => abs_any y w hy)
  have HFr := hide Frexp_any
  have HLd := hide Ldexp_any
  obtain ⟨Y, hYe⟩ : ∃ Y, Y = y % 9223372036854775808 := ⟨_, rfl⟩
  rw [← hYe] at hY hY0 HAb ⊢
  have hxr : Nm.rank Ieee.double x = if neg then -(X : Int) else (X : Int) := by
    unfold Nm.rank
    rw [Nm.d_sign]
    cases neg
    · simp only [Bool.false_eq_true, if_false] at hx ⊢
      rw [if_neg (by omega), hx]
    · simp only [if_true] at hx ⊢
      rw [if_pos (by omega)]
      omega
  have hmx : x % 9223372036854775808 = X := by
    cases neg
    · simp only [Bool.false_eq_true, if_false] at hx
      rw [hx, Nat.mod_eq_of_lt (by omega)]
    · simp only [if_true] at hx
      rw [hx]; omega
  have hxl : x < 18446744073709551616 := by cases neg <;> simp at hx <;> omega
  have oxy : ∀ z, z < 18446744073709551616 → z % 9223372036854775808 < 9218868437227405312 → ∀ u, u < 18446744073709551616 → u % 9223372036854775808 < 9218868437227405312 → Ieee.double.order z u = some (compare (Nm.rank Ieee.double z) (Nm.rank Ieee.double u)) := by
    intro z hz hz2 u hu hu2
    exact Nm.order_any Ieee.double z u (by decide) (by rw [Nm.d_sign]; omega) (by rw [Nm.d_sign]; omega) (by rw [Nm.d_sign, Nm.d_inf]; omega) (by rw [Nm.d_sign, Nm.d_inf]; omega)
  have hr0 : Nm.rank Ieee.double 0 = 0 := by unfold Nm.rank; rw [Nm.d_sign]; rfl
  have hyy : Ieee.double.order y y = some .eq := by rw [oxy y hy (by omega) y hy (by omega), cmp_eq]
  have hxx : Ieee.double.order x x = some .eq := by rw [oxy x hxl (by omega) x hxl (by omega), cmp_eq]
  have hyr : Nm.rank Ieee.double y = (Y : Int) ∨ Nm.rank Ieee.double y = -(Y : Int) := by
    unfold Nm.rank
    rw [Nm.d_sign]
    split
    · right; omega
    · left; omega
  have hyz : Ieee.double.order y 0 = some .gt ∨ Ieee.double.order y 0 = some .lt := by
    rw [oxy y hy (by omega) 0 (by omega) (by omega), hr0]
    rcases hyr with h | h
    · left; rw [h, cmp_gt (by omega)]
    · right; rw [h, cmp_lt (by omega)]
  have hxz : Ieee.double.order x 0 = some (if neg then .lt else if X = 0 then .eq else .gt) := by
    rw [oxy x hxl (by omega) 0 (by omega) (by omega), hr0, hxr]
    cases neg
    · simp only [Bool.false_eq_true, if_false]
      by_cases h0 : X = 0
      · rw [if_pos h0, h0]; rfl
      · rw [if_neg h0, cmp_gt (by omega)]
    · simp only [if_true]
      have := hX0 rfl
      rw [cmp_lt (by omega)]
  have hlt : (Ieee.double.order x 0 == some Ordering.lt) = neg := by
    rw [hxz]
    cases neg
    · simp only [Bool.false_eq_true, if_false]; split <;> rfl
    · rfl
  have hxb : neg = true → x ^^^ 9223372036854775808 = X := by
    intro h
    rw [h, if_pos rfl] at hx
    rw [hx]
    exact xor_back X (by omega)
  clear hxz
  have HI := hide (fun w => isInf_any x false w hxl (by
    rw [hmx, ord_pos X 9218868437227405311 (by omega) (by omega)]
    rcases Nat.lt_or_ge X 9218868437227405311 with h | h
    · rw [cmp_lt (by omega)]; rfl
    · have : X = 9218868437227405311 := by omega
      rw [this, cmp_eq]; rfl))
  have HA1 := hide (fun w => isNaN_any x w)
  have HA2 := hide (fun w => isNaN_any y w)
  rw [hxx] at HA1
  rw [hyy] at HA2
  rw [← f64fmt] at hyz hlt
  clear hxx hyy hyr hr0 hxr oxy hYe
  have Hx := hide (And.intro hx (And.intro hmx hxl))
  clear hx hmx hxl
  have hnr := neg_run
  rcases hyz with hyz | hyz <;> cases neg
  · have hx1 : x = X := by have := (unhide Hx).1; simpa using this
    subst hx1
    clear hxb
    simp only [Bool.false_eq_true, if_false, if_true]
    go_enter Try.func65, Try.ntmps65
    go_wp2_with fail
    refine (unhide HI _).mono ?_
    rintro e w1 ⟨rfl, hw⟩
    subst hw
    go_wp2_with fail
    refine (unhide HA1 _).mono ?_
    rintro e w1 ⟨rfl, hw⟩
    subst hw
    rw [show (some Ordering.eq != some Ordering.eq) = false from rfl]
    go_wp2_with fail
    refine (unhide HA2 _).mono ?_
    rintro e w1 ⟨rfl, hw⟩
    subst hw
    rw [show (some Ordering.eq != some Ordering.eq) = false from rfl]
    go_wp2_with fail
    refine (unhide HAb _).mono ?_
    rintro e w1 ⟨rfl, hw⟩
    subst hw
    go_wp2_with fail
    refine (unhide HFr Y _ (by omega) hY).mono ?_
    rintro e w2 ⟨⟨ny, cy, hny, rfl⟩, hg1⟩
    obtain ⟨fy, hfy⟩ : ∃ z, z = 1022 * 4503599627370496 + ny % 4503599627370496 := ⟨_, rfl⟩
    obtain ⟨ey, hey⟩ : ∃ z : Int, z = (ny / 4503599627370496 : Nat) - 1022 - (cy : Int) := ⟨_, rfl⟩
    rw [← hfy, ← hey]
    have hey1 : -2000 ≤ ey ∧ ey ≤ 2000 := by have := hny.lo; have := hny.hi; have := hny.c0; omega
    have HY := hide (And.intro hny (And.intro hfy hey))
    clear hny hfy hey HI HA1 HA2 HAb
    go_wp2_with fail
    go_loopw [7] (fun r wr => ∃ g : Nat, r = .float .f64 g ∧ g < 9218868437227405312 ∧ Nm.V Ieee.double g % Nm.V Ieee.double Y = Nm.V Ieee.double x % Nm.V Ieee.double Y ∧ Grown w1 wr) (fun r _ => flOf r)
    case atStart => exact ⟨x, rfl, hX, rfl, hg1⟩
    case round =>
      obtain ⟨g, rfl, hg, hmod, hgr⟩ := hrel
      by_cases hle : Y ≤ g
      · have ho : Ieee.double.order g Y = some .gt ∨ Ieee.double.order g Y = some .eq := by
          rw [ord_pos g Y (by omega) (by omega)]
          rcases Nat.lt_or_ge Y g with h | h
          · left; rw [cmp_gt (by omega)]
          · right
            have : g = Y := by omega
            rw [this, cmp_eq]
        rw [← f64fmt] at ho
        rcases ho with ho | ho
        all_goals
          go_wp2_with fail
          refine (unhide HFr g _ (by omega) hg).mono ?_
          rintro e w3 ⟨⟨ng, cg, hng, rfl⟩, hg3⟩
          obtain ⟨k, hk, hk5, hkv, hstep⟩ := mod_step hg (by omega) hY hle hng (unhide HY).1
          obtain ⟨fr, hfr⟩ : ∃ z, z = 1022 * 4503599627370496 + ng % 4503599627370496 := ⟨_, rfl⟩
          obtain ⟨er, her⟩ : ∃ z : Int, z = (ng / 4503599627370496 : Nat) - 1022 - (cg : Int) := ⟨_, rfl⟩
          rw [← hfr, ← her]
          rw [← her, ← (unhide HY).2.2] at hk
          have her1 : -2000 ≤ er ∧ er ≤ 2000 := by have := hng.lo; have := hng.hi; have := hng.c0; omega
          have hfy := (unhide HY).2.1
          have hof := ord_pos fr fy (by omega) (by omega)
          by_cases hc : ng % 4503599627370496 < ny % 4503599627370496
          · rw [if_pos hc] at hk
            rw [cmp_lt (by omega), ← f64fmt] at hof
            have hki : er - 1 - ey = (k : Int) := by omega
            have Hst := hide hstep
            have Hkv := hide hkv
            clear hk hstep hkv hfy hfr her hng hc
            go_wp2_with fail
            refine (unhide HLd Y k _ (by omega) hY hk5 (unhide Hkv)).mono ?_
            rintro e w4 ⟨⟨s, hs1, hs2, rfl⟩, hg4⟩
            obtain ⟨d, hd1, hd2, hd3⟩ := unhide Hst s hs1 hs2
            have hr := fun w => run_float_arith (P := Try.prog) w .sub 53 .f64 g s d hd2
            have Hd := hide hd3
            have Hmod := hide hmod
            clear hd2 hd3 hs2 Hst Hkv hmod
            go_wp2
            go_roundw
            case rel => exact ⟨d, rfl, by omega, by rw [unhide Hd, unhide Hmod], gtrans hgr (gtrans hg3 hg4)⟩
            case measure => simp [flOf]; omega
          · rw [if_neg hc] at hk
            have hof2 : Ieee.double.order fr fy = some .gt ∨ Ieee.double.order fr fy = some .eq := by
              rcases Nat.lt_or_ge fy fr with h | h
              · left; rw [hof, cmp_gt (by omega)]
              · right
                have : fr = fy := by omega
                rw [this] at hof
                rw [this, hof, cmp_eq]
            clear hof
            rw [← f64fmt] at hof2
            have hki : er - ey = (k : Int) := by omega
            have Hst := hide hstep
            have Hkv := hide hkv
            clear hk hstep hkv hfy hfr her hng hc
            rcases hof2 with hof | hof
            all_goals
              go_wp2_with fail
              refine (unhide HLd Y k _ (by omega) hY hk5 (unhide Hkv)).mono ?_
              rintro e w4 ⟨⟨s, hs1, hs2, rfl⟩, hg4⟩
              obtain ⟨d, hd1, hd2, hd3⟩ := unhide Hst s hs1 hs2
              have hr := fun w => run_float_arith (P := Try.prog) w .sub 53 .f64 g s d hd2
              have Hd := hide hd3
              have Hmod := hide hmod
              clear hd2 hd3 hs2 Hst Hkv hmod
              go_wp2
              go_roundw
              case rel => exact ⟨d, rfl, by omega, by rw [unhide Hd, unhide Hmod], gtrans hgr (gtrans hg3 hg4)⟩
              case measure => simp [flOf]; omega
      · have ho := ord_pos g Y (by omega) (by omega)
        rw [cmp_lt (by omega), ← f64fmt] at ho
        have hfin : Nm.V Ieee.double g = Nm.V Ieee.double x % Nm.V Ieee.double Y := by
          rw [← hmod, Nat.mod_eq_of_lt (Nm.V_mono _ (by omega))]
        have Hfin := hide hfin
        clear hfin hmod
        go_wp2
        go_ret
        exact ⟨⟨g, hg, unhide Hfin, rfl⟩, hgr⟩
  · have hxb2 := hxb rfl
    clear hxb
    simp only [Bool.false_eq_true, if_false, if_true]
    go_enter Try.func65, Try.ntmps65
    go_wp2_with fail
    refine (unhide HI _).mono ?_
    rintro e w1 ⟨rfl, hw⟩
    subst hw
    go_wp2_with fail
    refine (unhide HA1 _).mono ?_
    rintro e w1 ⟨rfl, hw⟩
    subst hw
    rw [show (some Ordering.eq != some Ordering.eq) = false from rfl]
    go_wp2_with fail
    refine (unhide HA2 _).mono ?_
    rintro e w1 ⟨rfl, hw⟩
    subst hw
    rw [show (some Ordering.eq != some Ordering.eq) = false from rfl]
    go_wp2_with fail
    refine (unhide HAb _).mono ?_
    rintro e w1 ⟨rfl, hw⟩
    subst hw
    go_wp2_with fail
    refine (unhide HFr Y _ (by omega) hY).mono ?_
    rintro e w2 ⟨⟨ny, cy, hny, rfl⟩, hg1⟩
    obtain ⟨fy, hfy⟩ : ∃ z, z = 1022 * 4503599627370496 + ny % 4503599627370496 := ⟨_, rfl⟩
    obtain ⟨ey, hey⟩ : ∃ z : Int, z = (ny / 4503599627370496 : Nat) - 1022 - (cy : Int) := ⟨_, rfl⟩
    rw [← hfy, ← hey]
    have hey1 : -2000 ≤ ey ∧ ey ≤ 2000 := by have := hny.lo; have := hny.hi; have := hny.c0; omega
    have HY := hide (And.intro hny (And.intro hfy hey))
    clear hny hfy hey HI HA1 HA2 HAb
    go_wp2_with fail
    go_loopw [7] (fun r wr => ∃ g : Nat, r = .float .f64 g ∧ g < 9218868437227405312 ∧ Nm.V Ieee.double g % Nm.V Ieee.double Y = Nm.V Ieee.double X % Nm.V Ieee.double Y ∧ Grown w1 wr) (fun r _ => flOf r)
    case atStart => exact ⟨X, rfl, hX, rfl, hg1⟩
    case round =>
      obtain ⟨g, rfl, hg, hmod, hgr⟩ := hrel
      by_cases hle : Y ≤ g
      · have ho : Ieee.double.order g Y = some .gt ∨ Ieee.double.order g Y = some .eq := by
          rw [ord_pos g Y (by omega) (by omega)]
          rcases Nat.lt_or_ge Y g with h | h
          · left; rw [cmp_gt (by omega)]
          · right
            have : g = Y := by omega
            rw [this, cmp_eq]
        rw [← f64fmt] at ho
        rcases ho with ho | ho
        all_goals
          go_wp2_with fail
          refine (unhide HFr g _ (by omega) hg).mono ?_
          rintro e w3 ⟨⟨ng, cg, hng, rfl⟩, hg3⟩
          obtain ⟨k, hk, hk5, hkv, hstep⟩ := mod_step hg (by omega) hY hle hng (unhide HY).1
          obtain ⟨fr, hfr⟩ : ∃ z, z = 1022 * 4503599627370496 + ng % 4503599627370496 := ⟨_, rfl⟩
          obtain ⟨er, her⟩ : ∃ z : Int, z = (ng / 4503599627370496 : Nat) - 1022 - (cg : Int) := ⟨_, rfl⟩
          rw [← hfr, ← her]
          rw [← her, ← (unhide HY).2.2] at hk
          have her1 : -2000 ≤ er ∧ er ≤ 2000 := by have := hng.lo; have := hng.hi; have := hng.c0; omega
          have hfy := (unhide HY).2.1
          have hof := ord_pos fr fy (by omega) (by omega)
          by_cases hc : ng % 4503599627370496 < ny % 4503599627370496
          · rw [if_pos hc] at hk
            rw [cmp_lt (by omega), ← f64fmt] at hof
            have hki : er - 1 - ey = (k : Int) := by omega
            have Hst := hide hstep
            have Hkv := hide hkv
            clear hk hstep hkv hfy hfr her hng hc
            go_wp2_with fail
            refine (unhide HLd Y k _ (by omega) hY hk5 (unhide Hkv)).mono ?_
            rintro e w4 ⟨⟨s, hs1, hs2, rfl⟩, hg4⟩
            obtain ⟨d, hd1, hd2, hd3⟩ := unhide Hst s hs1 hs2
            have hr := fun w => run_float_arith (P := Try.prog) w .sub 53 .f64 g s d hd2
            have Hd := hide hd3
            have Hmod := hide hmod
            clear hd2 hd3 hs2 Hst Hkv hmod
            go_wp2
            go_roundw
            case rel => exact ⟨d, rfl, by omega, by rw [unhide Hd, unhide Hmod], gtrans hgr (gtrans hg3 hg4)⟩
            case measure => simp [flOf]; omega
          · rw [if_neg hc] at hk
            have hof2 : Ieee.double.order fr fy = some .gt ∨ Ieee.double.order fr fy = some .eq := by
              rcases Nat.lt_or_ge fy fr with h | h
              · left; rw [hof, cmp_gt (by omega)]
              · right
                have : fr = fy := by omega
                rw [this] at hof
                rw [this, hof, cmp_eq]
            clear hof
            rw [← f64fmt] at hof2
            have hki : er - ey = (k : Int) := by omega
            have Hst := hide hstep
            have Hkv := hide hkv
            clear hk hstep hkv hfy hfr her hng hc
            rcases hof2 with hof | hof
            all_goals
              go_wp2_with fail
              refine (unhide HLd Y k _ (by omega) hY hk5 (unhide Hkv)).mono ?_
              rintro e w4 ⟨⟨s, hs1, hs2, rfl⟩, hg4⟩
              obtain ⟨d, hd1, hd2, hd3⟩ := unhide Hst s hs1 hs2
              have hr := fun w => run_float_arith (P := Try.prog) w .sub 53 .f64 g s d hd2
              have Hd := hide hd3
              have Hmod := hide hmod
              clear hd2 hd3 hs2 Hst Hkv hmod
              go_wp2
              go_roundw
              case rel => exact ⟨d, rfl, by omega, by rw [unhide Hd, unhide Hmod], gtrans hgr (gtrans hg3 hg4)⟩
              case measure => simp [flOf]; omega
      · have ho := ord_pos g Y (by omega) (by omega)
        rw [cmp_lt (by omega), ← f64fmt] at ho
        have hfin : Nm.V Ieee.double g = Nm.V Ieee.double X % Nm.V Ieee.double Y := by
          rw [← hmod, Nat.mod_eq_of_lt (Nm.V_mono _ (by omega))]
        have Hfin := hide hfin
        clear hfin hmod
        go_wp2
        go_ret
        exact ⟨⟨g, hg, unhide Hfin, rfl⟩, hgr⟩
  · have hx1 : x = X := by have := (unhide Hx).1; simpa using this
    subst hx1
    clear hxb
    simp only [Bool.false_eq_true, if_false, if_true]
    go_enter Try.func65, Try.ntmps65
    go_wp2_with fail
    refine (unhide HI _).mono ?_
    rintro e w1 ⟨rfl, hw⟩
    subst hw
    go_wp2_with fail
    refine (unhide HA1 _).mono ?_
    rintro e w1 ⟨rfl, hw⟩
    subst hw
    rw [show (some Ordering.eq != some Ordering.eq) = false from rfl]
    go_wp2_with fail
    refine (unhide HA2 _).mono ?_
    rintro e w1 ⟨rfl, hw⟩
    subst hw
    rw [show (some Ordering.eq != some Ordering.eq) = false from rfl]
    go_wp2_with fail
    refine (unhide HAb _).mono ?_
    rintro e w1 ⟨rfl, hw⟩
    subst hw
    go_wp2_with fail
    refine (unhide HFr Y _ (by omega) hY).mono ?_
    rintro e w2 ⟨⟨ny, cy, hny, rfl⟩, hg1⟩
    obtain ⟨fy, hfy⟩ : ∃ z, z = 1022 * 4503599627370496 + ny % 4503599627370496 := ⟨_, rfl⟩
    obtain ⟨ey, hey⟩ : ∃ z : Int, z = (ny / 4503599627370496 : Nat) - 1022 - (cy : Int) := ⟨_, rfl⟩
    rw [← hfy, ← hey]
    have hey1 : -2000 ≤ ey ∧ ey ≤ 2000 := by have := hny.lo; have := hny.hi; have := hny.c0; omega
    have HY := hide (And.intro hny (And.intro hfy hey))
    clear hny hfy hey HI HA1 HA2 HAb
    go_wp2_with fail
    go_loopw [7] (fun r wr => ∃ g : Nat, r = .float .f64 g ∧ g < 9218868437227405312 ∧ Nm.V Ieee.double g % Nm.V Ieee.double Y = Nm.V Ieee.double x % Nm.V Ieee.double Y ∧ Grown w1 wr) (fun r _ => flOf r)
    case atStart => exact ⟨x, rfl, hX, rfl, hg1⟩
    case round =>
      obtain ⟨g, rfl, hg, hmod, hgr⟩ := hrel
      by_cases hle : Y ≤ g
      · have ho : Ieee.double.order g Y = some .gt ∨ Ieee.double.order g Y = some .eq := by
          rw [ord_pos g Y (by omega) (by omega)]
          rcases Nat.lt_or_ge Y g with h | h
          · left; rw [cmp_gt (by omega)]
          · right
            have : g = Y := by omega
            rw [this, cmp_eq]
        rw [← f64fmt] at ho
        rcases ho with ho | ho
        all_goals
          go_wp2_with fail
          refine (unhide HFr g _ (by omega) hg).mono ?_
          rintro e w3 ⟨⟨ng, cg, hng, rfl⟩, hg3⟩
          obtain ⟨k, hk, hk5, hkv, hstep⟩ := mod_step hg (by omega) hY hle hng (unhide HY).1
          obtain ⟨fr, hfr⟩ : ∃ z, z = 1022 * 4503599627370496 + ng % 4503599627370496 := ⟨_, rfl⟩
          obtain ⟨er, her⟩ : ∃ z : Int, z = (ng / 4503599627370496 : Nat) - 1022 - (cg : Int) := ⟨_, rfl⟩
          rw [← hfr, ← her]
          rw [← her, ← (unhide HY).2.2] at hk
          have her1 : -2000 ≤ er ∧ er ≤ 2000 := by have := hng.lo; have := hng.hi; have := hng.c0; omega
          have hfy := (unhide HY).2.1
          have hof := ord_pos fr fy (by omega) (by omega)
          by_cases hc : ng % 4503599627370496 < ny % 4503599627370496
          · rw [if_pos hc] at hk
            rw [cmp_lt (by omega), ← f64fmt] at hof
            have hki : er - 1 - ey = (k : Int) := by omega
            have Hst := hide hstep
            have Hkv := hide hkv
            clear hk hstep hkv hfy hfr her hng hc
            go_wp2_with fail
            refine (unhide HLd Y k _ (by omega) hY hk5 (unhide Hkv)).mono ?_
            rintro e w4 ⟨⟨s, hs1, hs2, rfl⟩, hg4⟩
            obtain ⟨d, hd1, hd2, hd3⟩ := unhide Hst s hs1 hs2
            have hr := fun w => run_float_arith (P := Try.prog) w .sub 53 .f64 g s d hd2
            have Hd := hide hd3
            have Hmod := hide hmod
            clear hd2 hd3 hs2 Hst Hkv hmod
            go_wp2
            go_roundw
            case rel => exact ⟨d, rfl, by omega, by rw [unhide Hd, unhide Hmod], gtrans hgr (gtrans hg3 hg4)⟩
            case measure => simp [flOf]; omega
          · rw [if_neg hc] at hk
            have hof2 : Ieee.double.order fr fy = some .gt ∨ Ieee.double.order fr fy = some .eq := by
              rcases Nat.lt_or_ge fy fr with h | h
              · left; rw [hof, cmp_gt (by omega)]
              · right
                have : fr = fy := by omega
                rw [this] at hof
                rw [this, hof, cmp_eq]
            clear hof
            rw [← f64fmt] at hof2
            have hki : er - ey = (k : Int) := by omega
            have Hst := hide hstep
            have Hkv := hide hkv
            clear hk hstep hkv hfy hfr her hng hc
            rcases hof2 with hof | hof
            all_goals
              go_wp2_with fail
              refine (unhide HLd Y k _ (by omega) hY hk5 (unhide Hkv)).mono ?_
              rintro e w4 ⟨⟨s, hs1, hs2, rfl⟩, hg4⟩
              obtain ⟨d, hd1, hd2, hd3⟩ := unhide Hst s hs1 hs2
              have hr := fun w => run_float_arith (P := Try.prog) w .sub 53 .f64 g s d hd2
              have Hd := hide hd3
              have Hmod := hide hmod
              clear hd2 hd3 hs2 Hst Hkv hmod
              go_wp2
              go_roundw
              case rel => exact ⟨d, rfl, by omega, by rw [unhide Hd, unhide Hmod], gtrans hgr (gtrans hg3 hg4)⟩
              case measure => simp [flOf]; omega
      · have ho := ord_pos g Y (by omega) (by omega)
        rw [cmp_lt (by omega), ← f64fmt] at ho
        have hfin : Nm.V Ieee.double g = Nm.V Ieee.double x % Nm.V Ieee.double Y := by
          rw [← hmod, Nat.mod_eq_of_lt (Nm.V_mono _ (by omega))]
        have Hfin := hide hfin
        clear hfin hmod
        go_wp2
        go_ret
        exact ⟨⟨g, hg, unhide Hfin, rfl⟩, hgr⟩
  · have hxb2 := hxb rfl
    clear hxb
    simp only [Bool.false_eq_true, if_false, if_true]
    go_enter Try.func65, Try.ntmps65
    go_wp2_with fail
    refine (unhide HI _).mono ?_
    rintro e w1 ⟨rfl, hw⟩
    subst hw
    go_wp2_with fail
    refine (unhide HA1 _).mono ?_
    rintro e w1 ⟨rfl, hw⟩
    subst hw
    rw [show (some Ordering.eq != some Ordering.eq) = false from rfl]
    go_wp2_with fail
    refine (unhide HA2 _).mono ?_
    rintro e w1 ⟨rfl, hw⟩
    subst hw
    rw [show (some Ordering.eq != some Ordering.eq) = false from rfl]
    go_wp2_with fail
    refine (unhide HAb _).mono ?_
    rintro e w1 ⟨rfl, hw⟩
    subst hw
    go_wp2_with fail
    refine (unhide HFr Y _ (by omega) hY).mono ?_
    rintro e w2 ⟨⟨ny, cy, hny, rfl⟩, hg1⟩
    obtain ⟨fy, hfy⟩ : ∃ z, z = 1022 * 4503599627370496 + ny % 4503599627370496 := ⟨_, rfl⟩
    obtain ⟨ey, hey⟩ : ∃ z : Int, z = (ny / 4503599627370496 : Nat) - 1022 - (cy : Int) := ⟨_, rfl⟩
    rw [← hfy, ← hey]
    have hey1 : -2000 ≤ ey ∧ ey ≤ 2000 := by have := hny.lo; have := hny.hi; have := hny.c0; omega
    have HY := hide (And.intro hny (And.intro hfy hey))
    clear hny hfy hey HI HA1 HA2 HAb
    go_wp2_with fail
    go_loopw [7] (fun r wr => ∃ g : Nat, r = .float .f64 g ∧ g < 9218868437227405312 ∧ Nm.V Ieee.double g % Nm.V Ieee.double Y = Nm.V Ieee.double X % Nm.V Ieee.double Y ∧ Grown w1 wr) (fun r _ => flOf r)
    case atStart => exact ⟨X, rfl, hX, rfl, hg1⟩
    case round =>
      obtain ⟨g, rfl, hg, hmod, hgr⟩ := hrel
      by_cases hle : Y ≤ g
      · have ho : Ieee.double.order g Y = some .gt ∨ Ieee.double.order g Y = some .eq := by
          rw [ord_pos g Y (by omega) (by omega)]
          rcases Nat.lt_or_ge Y g with h | h
          · left; rw [cmp_gt (by omega)]
          · right
            have : g = Y := by omega
            rw [this, cmp_eq]
        rw [← f64fmt] at ho
        rcases ho with ho | ho
        all_goals
          go_wp2_with fail
          refine (unhide HFr g _ (by omega) hg).mono ?_
          rintro e w3 ⟨⟨ng, cg, hng, rfl⟩, hg3⟩
          obtain ⟨k, hk, hk5, hkv, hstep⟩ := mod_step hg (by omega) hY hle hng (unhide HY).1
          obtain ⟨fr, hfr⟩ : ∃ z, z = 1022 * 4503599627370496 + ng % 4503599627370496 := ⟨_, rfl⟩
          obtain ⟨er, her⟩ : ∃ z : Int, z = (ng / 4503599627370496 : Nat) - 1022 - (cg : Int) := ⟨_, rfl⟩
          rw [← hfr, ← her]
          rw [← her, ← (unhide HY).2.2] at hk
          have her1 : -2000 ≤ er ∧ er ≤ 2000 := by have := hng.lo; have := hng.hi; have := hng.c0; omega
          have hfy := (unhide HY).2.1
          have hof := ord_pos fr fy (by omega) (by omega)
          by_cases hc : ng % 4503599627370496 < ny % 4503599627370496
          · rw [if_pos hc] at hk
            rw [cmp_lt (by omega), ← f64fmt] at hof
            have hki : er - 1 - ey = (k : Int) := by omega
            have Hst := hide hstep
            have Hkv := hide hkv
            clear hk hstep hkv hfy hfr her hng hc
            go_wp2_with fail
            refine (unhide HLd Y k _ (by omega) hY hk5 (unhide Hkv)).mono ?_
            rintro e w4 ⟨⟨s, hs1, hs2, rfl⟩, hg4⟩
            obtain ⟨d, hd1, hd2, hd3⟩ := unhide Hst s hs1 hs2
            have hr := fun w => run_float_arith (P := Try.prog) w .sub 53 .f64 g s d hd2
            have Hd := hide hd3
            have Hmod := hide hmod
            clear hd2 hd3 hs2 Hst Hkv hmod
            go_wp2
            go_roundw
            case rel => exact ⟨d, rfl, by omega, by rw [unhide Hd, unhide Hmod], gtrans hgr (gtrans hg3 hg4)⟩
            case measure => simp [flOf]; omega
          · rw [if_neg hc] at hk
            have hof2 : Ieee.double.order fr fy = some .gt ∨ Ieee.double.order fr fy = some .eq := by
              rcases Nat.lt_or_ge fy fr with h | h
              · left; rw [hof, cmp_gt (by omega)]
              · right
                have : fr = fy := by omega
                rw [this] at hof
                rw [this, hof, cmp_eq]
            clear hof
            rw [← f64fmt] at hof2
            have hki : er - ey = (k : Int) := by omega
            have Hst := hide hstep
            have Hkv := hide hkv
            clear hk hstep hkv hfy hfr her hng hc
            rcases hof2 with hof | hof
            all_goals
              go_wp2_with fail
              refine (unhide HLd Y k _ (by omega) hY hk5 (unhide Hkv)).mono ?_
              rintro e w4 ⟨⟨s, hs1, hs2, rfl⟩, hg4⟩
              obtain ⟨d, hd1, hd2, hd3⟩ := unhide Hst s hs1 hs2
              have hr := fun w => run_float_arith (P := Try.prog) w .sub 53 .f64 g s d hd2
              have Hd := hide hd3
              have Hmod := hide hmod
              clear hd2 hd3 hs2 Hst Hkv hmod
              go_wp2
              go_roundw
              case rel => exact ⟨d, rfl, by omega, by rw [unhide Hd, unhide Hmod], gtrans hgr (gtrans hg3 hg4)⟩
              case measure => simp [flOf]; omega
      · have ho := ord_pos g Y (by omega) (by omega)
        rw [cmp_lt (by omega), ← f64fmt] at ho
        have hfin : Nm.V Ieee.double g = Nm.V Ieee.double X % Nm.V Ieee.double Y := by
          rw [← hmod, Nat.mod_eq_of_lt (Nm.V_mono _ (by omega))]
        have Hfin := hide hfin
        clear hfin hmod
        go_wp2
        go_ret
        exact ⟨⟨g, hg, unhide Hfin, rfl⟩, hgr⟩
end Go.Proofs.Ytjnelkpgdjphmaa
