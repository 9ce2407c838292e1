/-
  Method of package desc.
-/
import Derived.Test.YtejbnbilbagkmaaDoorCuts
namespace Go.Proofs.YtejbnbilbagkmaaDoor
open Go.RowKit
/-- What Method gives, on either side. -/
def MethRes (l : List UInt8) (w : World) (e : Ending) (w' : World) : Prop :=
  Below w.heap.size w w' ∧ ((meth l = none ∧ e = .returned (.tuple #[.slice none 0 0, .string ⟨#[]⟩, .bool false])) ∨
    ∃ L g v, meth l = some (L, g) ∧ e = .returned (.tuple #[v, .string ⟨g.toArray⟩, .bool true]) ∧ w'.ownsRow w.heap.size 9 1 v L.length (SV L))
theorem prefix_no {b c : UInt8} {t : List UInt8} (h : b ≠ c) : Lib.hasPrefix (b :: t) [c] = false := by
  simp [Lib.hasPrefix, List.isPrefixOf]; exact fun e => h e.symm
set_option maxRecDepth 100000 in
set_option maxHeartbeats 2000000 in
theorem Method_any (s : ByteArray) (w : World) (hm : Mx w) (hs : s.size ≤ 32768) :
    Calls Tryd.prog 10 #[.string s] w fun e w' => MethRes s.data.toList w e w' := by
  have hP := Tryd.strings_HasPrefix s ⟨#[40]⟩ w
  have hsl : s.data.toList.length = s.size := by simp
  cases hl : s.data.toList with
  | nil =>
    rw [hl] at hP
    have HP := hide hP
    have HR : Hid (meth [] = none) := rfl
    clear hP hl hsl
    go_enter Tryd.func10, Tryd.ntmps10
    go_wp2_with fail
    refine (unhide HP).mono ?_
    rintro e w1 ⟨rfl, hww⟩
    subst w1
    have hq : Lib.hasPrefix [] (⟨#[40]⟩ : ByteArray).data.toList = false := rfl
    rw [hq]
    go_wp2
    go_ret3
    exact ⟨Below.refl _ _, .inl ⟨unhide HR, rfl⟩⟩
  | cons b t =>
    by_cases hb : b = 40
    · subst hb
      have hx1 := ext1 hl
      have htl : t.length + 1 = s.size := by rw [← hsl, hl]; rfl
      have q1 := slice_from s 1 (by omega)
      have hC := cutValues_any (s.extract 1 s.size) w hm (by simp; omega)
      rw [hx1] at hC
      have hVf := V_flat t.length t rfl
      have hVc := V_count t.length t rfl
      rw [hl] at hP
      have hq : Lib.hasPrefix (40 :: t) (⟨#[40]⟩ : ByteArray).data.toList = true := rfl
      rw [hq] at hP
      have HP := hide hP
      have HC := hide hC
      have Hm := hide hm
      clear hP hq hl hx1 hC hsl hm
      obtain ⟨L, r, hV⟩ : ∃ L r, V t = (L, r) := ⟨_, _, rfl⟩
      rw [hV] at HC hVf hVc
      have hLl : L.length ≤ 32768 := by simp only at hVc; omega
      have hrl : r.length ≤ 32768 := by have := congrArg List.length hVf; simp only [List.length_append] at this; omega
      have HV := hide hV
      clear hV hVf hVc
      simp only at HC
      have hcase : (r = [] ∨ ∃ c g, r = c :: g ∧ c ≠ 41) ∨ ∃ g, r = 41 :: g := by
        cases r with
        | nil => exact .inl (.inl rfl)
        | cons c g =>
          by_cases hc : c = 41
          · exact .inr ⟨g, by rw [hc]⟩
          · exact .inl (.inr ⟨c, g, rfl, hc⟩)
      rcases hcase with hno | ⟨g, rfl⟩
      · have HR : Hid (meth (40 :: t) = none) := by
          show meth (40 :: t) = none
          rcases hno with h | ⟨c, g, h, hc⟩
          · rw [h] at HV; exact meth_end (unhide HV)
          · rw [h] at HV; rw [meth_cons (unhide HV), if_neg (fun h => hc h.1)]
        have hpf : Lib.hasPrefix r [41] = false := by
          rcases hno with h | ⟨c, g, h, hc⟩
          · rw [h]; rfl
          · rw [h]; exact prefix_no hc
        have hQ := fun W : World => Tryd.strings_HasPrefix ⟨r.toArray⟩ ⟨#[41]⟩ W
        simp only [hpf] at hQ
        have HQ := hide hQ
        clear hno hpf hQ HV
        go_enter Tryd.func10, Tryd.ntmps10
        go_wp2_with fail
        refine (unhide HP).mono ?_
        rintro e w1 ⟨rfl, hww⟩
        subst w1
        go_wp2_with fail
        refine (unhide HC).mono ?_
        rintro e w2 ⟨v, rfl, ho, hb2⟩
        go_wp2_with fail
        refine (unhide HQ _).mono ?_
        rintro e w3 ⟨rfl, hww⟩
        subst w3
        go_wp2
        go_ret3
        exact ⟨hb2, .inl ⟨unhide HR, rfl⟩⟩
      · have hQ := fun W : World => Tryd.strings_HasPrefix ⟨(41 :: g).toArray⟩ ⟨#[41]⟩ W
        have hpf : Lib.hasPrefix (41 :: g) [41] = true := rfl
        simp only [hpf] at hQ
        have HQ := hide hQ
        obtain ⟨R, eR⟩ : ∃ R : ByteArray, R = ⟨(41 :: g).toArray⟩ := ⟨_, rfl⟩
        have hRd : R.data.toList = 41 :: g := by rw [eR, data_of]
        have hRz : R.size = g.length + 1 := by rw [eR, size_of]; rfl
        have hGd : (R.extract 1 R.size).data.toList = g := ext1 hRd
        have eG : R.extract 1 R.size = ⟨g.toArray⟩ := bytes_ext (by rw [hGd, data_of])
        have hGz : (R.extract 1 R.size).size ≤ 32768 := by rw [eG, size_of]; simp at hrl; omega
        have hR1 : 1 ≤ R.size := by omega
        have hR2 : (1 : Int) ≤ (R.size : Int) := by omega
        rw [← eR] at HC HQ
        have hF := fun (W : World) (hW : Mx W) => Field_any (R.extract 1 R.size) W hW hGz
        rw [hGd] at hF
        have HF := hide hF
        have hM := meth_cons (unhide HV)
        have HM := hide hM
        have EG := hide eG
        have HGd := hide hGd
        clear hpf hQ eR eG hRd hRz hF hM HV hGd hGz
        have hfit := fun (W : World) (v : Value) (h : Has W v L) => fit_any v L W hLl h
        have HFit := hide hfit
        clear hfit
        by_cases hslots : slotsN L ≤ 254
        · have hd : decide (slotsN L ≤ 254) = true := decide_eq_true hslots
          rw [hd] at HFit
          by_cases hgV : g = [86]
          · have n1 : ((R.extract 1 R.size).toList == [86]) = true := by rw [Lib.toList_data, unhide HGd, hgV]; rfl
            have HR : Hid (meth (40 :: t) = some (L, g)) := by
              show meth (40 :: t) = some (L, g)
              rw [unhide HM, if_pos ⟨rfl, hslots, by rw [hgV]; rfl⟩]
            clear hd hslots hgV HF HM
            go_enter Tryd.func10, Tryd.ntmps10
            go_wp2_with fail
            refine (unhide HP).mono ?_
            rintro e w1 ⟨rfl, hww⟩
            subst w1
            go_wp2_with fail
            refine (unhide HC).mono ?_
            rintro e w2 ⟨v, rfl, ho, hb2⟩
            go_wp2_with fail
            refine (unhide HQ _).mono ?_
            rintro e w3 ⟨rfl, hww⟩
            subst w3
            go_wp2_with fail
            refine (unhide HFit _ _ (Has.of_own ho)).mono ?_
            rintro e w4 ⟨rfl, hb4⟩
            have hb5 := hb2.trans (hb4.mono hb2.size)
            have ho5 := own_below ho (Nat.le_refl _) hb4
            clear ho hb2 hb4
            go_wp2
            go_ret3
            exact ⟨hb5, .inr ⟨L, g, v, unhide HR, by rw [← unhide EG]; rfl, ho5⟩⟩
          · have n1 : ((R.extract 1 R.size).toList == [86]) = false := by rw [Lib.toList_data, unhide HGd, beq_eq_false_iff_ne]; exact hgV
            have hgive : giveB g = fieldB g := by unfold giveB; rw [show (g == [86]) = false by rw [beq_eq_false_iff_ne]; exact hgV]; rfl
            cases hfb : fieldB g with
            | true =>
              have HR : Hid (meth (40 :: t) = some (L, g)) := by
                show meth (40 :: t) = some (L, g)
                rw [unhide HM, if_pos ⟨rfl, hslots, by rw [hgive, hfb]⟩]
              rw [hfb] at HF
              clear hd hslots hgV HM hgive hfb
              go_enter Tryd.func10, Tryd.ntmps10
              go_wp2_with fail
              refine (unhide HP).mono ?_
              rintro e w1 ⟨rfl, hww⟩
              subst w1
              go_wp2_with fail
              refine (unhide HC).mono ?_
              rintro e w2 ⟨v, rfl, ho, hb2⟩
              go_wp2_with fail
              refine (unhide HQ _).mono ?_
              rintro e w3 ⟨rfl, hww⟩
              subst w3
              go_wp2_with fail
              refine (unhide HFit _ _ (Has.of_own ho)).mono ?_
              rintro e w4 ⟨rfl, hb4⟩
              have hb5 := hb2.trans (hb4.mono hb2.size)
              have ho5 := own_below ho (Nat.le_refl _) hb4
              clear ho hb2 hb4
              go_wp2_with fail
              refine (unhide HF _ ((unhide Hm).below hb5)).mono ?_
              rintro e w5 ⟨rfl, hb6⟩
              have hb7 := hb5.trans (hb6.mono hb5.size)
              have ho7 := own_below ho5 (Nat.le_refl _) hb6
              clear ho5 hb5 hb6
              go_wp2
              go_ret3
              exact ⟨hb7, .inr ⟨L, g, v, unhide HR, by rw [← unhide EG]; rfl, ho7⟩⟩
            | false =>
              have HR : Hid (meth (40 :: t) = none) := by
                show meth (40 :: t) = none
                rw [unhide HM, if_neg (fun h => by rw [hgive, hfb] at h; cases h.2.2)]
              rw [hfb] at HF
              clear hd hslots hgV HM hgive hfb
              go_enter Tryd.func10, Tryd.ntmps10
              go_wp2_with fail
              refine (unhide HP).mono ?_
              rintro e w1 ⟨rfl, hww⟩
              subst w1
              go_wp2_with fail
              refine (unhide HC).mono ?_
              rintro e w2 ⟨v, rfl, ho, hb2⟩
              go_wp2_with fail
              refine (unhide HQ _).mono ?_
              rintro e w3 ⟨rfl, hww⟩
              subst w3
              go_wp2_with fail
              refine (unhide HFit _ _ (Has.of_own ho)).mono ?_
              rintro e w4 ⟨rfl, hb4⟩
              have hb5 := hb2.trans (hb4.mono hb2.size)
              clear ho hb2 hb4
              go_wp2_with fail
              refine (unhide HF _ ((unhide Hm).below hb5)).mono ?_
              rintro e w5 ⟨rfl, hb6⟩
              have hb7 := hb5.trans (hb6.mono hb5.size)
              clear hb5 hb6
              go_wp2
              go_ret3
              exact ⟨hb7, .inl ⟨unhide HR, rfl⟩⟩
        · have hd : decide (slotsN L ≤ 254) = false := decide_eq_false hslots
          rw [hd] at HFit
          have HR : Hid (meth (40 :: t) = none) := by
            show meth (40 :: t) = none
            rw [unhide HM, if_neg (fun h => hslots h.2.1)]
          clear hd hslots HF HM
          go_enter Tryd.func10, Tryd.ntmps10
          go_wp2_with fail
          refine (unhide HP).mono ?_
          rintro e w1 ⟨rfl, hww⟩
          subst w1
          go_wp2_with fail
          refine (unhide HC).mono ?_
          rintro e w2 ⟨v, rfl, ho, hb2⟩
          go_wp2_with fail
          refine (unhide HQ _).mono ?_
          rintro e w3 ⟨rfl, hww⟩
          subst w3
          go_wp2_with fail
          refine (unhide HFit _ _ (Has.of_own ho)).mono ?_
          rintro e w4 ⟨rfl, hb4⟩
          have hb5 := hb2.trans (hb4.mono hb2.size)
          clear ho hb2 hb4
          go_wp2
          go_ret3
          exact ⟨hb5, .inl ⟨unhide HR, rfl⟩⟩
    · have HR : Hid (meth (b :: t) = none) := meth_no hb
      have hq : Lib.hasPrefix (b :: t) (⟨#[40]⟩ : ByteArray).data.toList = false := prefix_no hb
      rw [hl, hq] at hP
      have HP := hide hP
      clear hP hl hsl hb hq
      go_enter Tryd.func10, Tryd.ntmps10
      go_wp2_with fail
      refine (unhide HP).mono ?_
      rintro e w1 ⟨rfl, hww⟩
      subst w1
      go_wp2
      go_ret3
      exact ⟨Below.refl _ _, .inl ⟨unhide HR, rfl⟩⟩
end Go.Proofs.YtejbnbilbagkmaaDoor
