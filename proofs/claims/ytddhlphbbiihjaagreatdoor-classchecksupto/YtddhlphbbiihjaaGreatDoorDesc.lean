/-
  Package desc: isPart, isClassName, valueLength, Field, Class, Member.
-/
import Derived.Test.YtddhlphbbiihjaaGreatDoorMgAny
import Derived.Test.YtddhlphbbiihjaaGreatDoorPath
namespace Go.Proofs.YtddhlphbbiihjaaGreatDoor
open Go.RowKit
theorem below_drewN {B : Nat} {a w : World} (h : Below B a w) : ∀ n, Below B a (w.drewN n)
  | 0 => h
  | n + 1 => (below_drewN h n).drew
/-- What strings.Cut gives at one byte. -/
theorem Cut_any (s : ByteArray) (c : UInt8) (w : World) (hm : Mx w) (hs : s.size ≤ 32768) :
    Calls Tryz.prog 99 #[.string s, .string ⟨#[c]⟩] w fun e w' => ((∃ p r, s.data.toList = p ++ c :: r ∧ c ∉ p ∧ e = .returned (.tuple #[.string ⟨p.toArray⟩, .string ⟨r.toArray⟩, .bool true])) ∨
      (c ∉ s.data.toList ∧ e = .returned (.tuple #[.string ⟨s.data.toList.toArray⟩, .string ⟨#[]⟩, .bool false]))) ∧ Below w.heap.size w w' := by
  obtain ⟨m, hm⟩ := hm
  refine (Tryz.strings_Cut s ⟨#[c]⟩ m w (by omega) hm).mono ?_
  rintro e w' ⟨rfl, n, rfl⟩
  refine ⟨?_, below_drewN (Below.refl _ _) n⟩
  rcases cut_byte c s.data.toList with ⟨p, r, h1, h2, h3⟩ | ⟨h1, h2⟩
  · exact .inl ⟨p, r, h1, h2, by rw [show (⟨#[c]⟩ : ByteArray).data.toList = [c] from rfl, h3]⟩
  · exact .inr ⟨h1, by rw [show (⟨#[c]⟩ : ByteArray).data.toList = [c] from rfl, h2]⟩
set_option linter.unusedVariables false in
theorem okp_drop {l : List UInt8} {i : Nat} {b : UInt8} (ne : Bool) (h : l[i]? = some b) : okp ne (l.drop i) = if b = 47 then ne && okp false (l.drop (i + 1)) else if [46, 59, 91].contains b then false else okp true (l.drop (i + 1)) := by
  have hi := (List.getElem?_eq_some_iff.1 h).1
  have hb := (List.getElem?_eq_some_iff.1 h).2
  rw [List.drop_eq_getElem_cons hi, hb]
  rfl
set_option maxRecDepth 100000 in
set_option maxHeartbeats 1000000 in
theorem isClassName_any (s : ByteArray) (w : World) (hm : Mx w) (hs : s.size ≤ 32768) :
    Calls Tryz.prog 56 #[.string s] w fun e w' => e = .returned (.bool (pathB s.data.toList)) ∧ Below w.heap.size w w' := by
  have _ := hm
  clear hm
  have hl : s.data.toList.length = s.size := by simp
  go_enter Tryz.func56, Tryz.ntmps56
  go_wp2_with fail
  go_loopw [3, 8] (fun y x wx => ∃ (i : Nat) (a : UInt8), i ≤ s.size ∧ x = .int .i64 (i : Int) ∧ y = .int .u8 (a.toNat : Int) ∧ Hid (pathB s.data.toList = okp (a != 47) (s.data.toList.drop i)) ∧ Below w.heap.size w wx) (fun _ x _ => s.size - (intOf x).toNat)
  case atStart => exact ⟨0, 47, Nat.zero_le _, rfl, rfl, rfl, Below.refl _ _⟩
  case round =>
    obtain ⟨i, a, hi, rfl, rfl, HN, hbe⟩ := hrel
    by_cases hlt : i < s.size
    · obtain ⟨b, eb⟩ : ∃ b, b = s[i]'hlt := ⟨_, rfl⟩
      have hb0 : s.data.toList[i]? = some b := by rw [eb]; exact data_at s i hlt
      have hxi : ∀ h : i < s.size, s[i]'h = b := fun _ => eb.symm
      have hk := (unhide HN).trans (okp_drop (a != 47) hb0)
      clear eb hb0 HN
      by_cases h47 : b = 47
      · subst h47
        by_cases ha : a = 47
        · subst ha
          have hy : pathB s.data.toList = false := by rw [hk]; rfl
          have Hy := hide hy
          clear hy hk
          go_wp2
          go_ret
          exact ⟨by rw [unhide Hy]; rfl, hbe⟩
        · have hy : Hid (pathB s.data.toList = okp ((47 : UInt8) != 47) (s.data.toList.drop (i + 1))) := by
            refine hide ?_
            rw [hk, if_pos rfl, show (a != 47) = true by simpa using ha]
            rfl
          have hne := byte_ne2 (a := a) (b := 47) ha
          have hne2 : ((a.toNat : Int) == 47) = false := hne
          clear hk hne
          go_wp2
          go_roundw
          case rel => exact ⟨i + 1, 47, by omega, by simp, rfl, hy, hbe⟩
          case measure => simp [intOf]; omega
      · by_cases h3 : b = 46 ∨ b = 59 ∨ b = 91
        · have hy : pathB s.data.toList = false := by
            rw [hk, if_neg h47, if_pos (by rcases h3 with rfl | rfl | rfl <;> rfl)]
          have Hy := hide hy
          clear hy hk h47
          rcases h3 with rfl | rfl | rfl
          all_goals
            go_wp2
            go_ret
            exact ⟨by rw [unhide Hy]; rfl, hbe⟩
        · have hcn : [46, 59, 91].contains b = false := by
            simp only [List.contains_cons, List.contains_nil, Bool.or_false, Bool.or_eq_false_iff, beq_eq_false_iff_ne]
            exact ⟨fun e => h3 (.inl e), fun e => h3 (.inr (.inl e)), fun e => h3 (.inr (.inr e))⟩
          have hy : Hid (pathB s.data.toList = okp (b != 47) (s.data.toList.drop (i + 1))) := by
            refine hide ?_
            rw [hk, if_neg h47, hcn, show (b != 47) = true by simpa using h47]
            rfl
          have n1 : ((b.toNat : Int) == 47) = false := byte_ne2 (b := 47) h47
          have n2 : ((b.toNat : Int) == 46) = false := byte_ne2 (b := 46) (fun e => h3 (.inl e))
          have n3 : ((b.toNat : Int) == 59) = false := byte_ne2 (b := 59) (fun e => h3 (.inr (.inl e)))
          have n4 : ((b.toNat : Int) == 91) = false := byte_ne2 (b := 91) (fun e => h3 (.inr (.inr e)))
          clear hk hcn h3 h47
          go_wp2
          go_roundw
          case rel => exact ⟨i + 1, b, by omega, by simp, rfl, hy, hbe⟩
          case measure => simp [intOf]; omega
    · obtain rfl : i = s.size := by omega
      have hy : pathB s.data.toList = (a != 47) := by
        have := unhide HN
        rw [List.drop_eq_nil_of_le (by omega)] at this
        exact this
      by_cases ha : a = 47
      · subst ha
        have Hy := hide hy
        clear hy HN
        go_wp2
        go_ret
        exact ⟨by rw [unhide Hy]; rfl, hbe⟩
      · have hne2 : ((a.toNat : Int) != 47) = true := by
          have h := byte_ne2 (b := 47) ha
          rw [bne, show ((a.toNat : Int) == 47) = false from h]
          rfl
        rw [show (a != 47) = true by simpa using ha] at hy
        have Hy := hide hy
        clear hy HN
        go_wp2
        go_ret
        exact ⟨by rw [unhide Hy]; rfl, hbe⟩
theorem slash_part (l : List UInt8) : (pathB l && !decide (0 ≤ Lib.indexByte l 47)) = partM l := by
  by_cases h : (47 : UInt8) ∈ l
  · have h1 : decide (0 ≤ Lib.indexByte l 47) = true := by rw [← Lib.contains_iff_indexByte]; simpa using h
    have h2 : partM l = false := by
      unfold partM
      have : hasAny l [46, 59, 91, 47] = true := by
        unfold hasAny
        rw [List.any_eq_true]
        exact ⟨47, h, rfl⟩
      rw [this]
      simp
    rw [h1, h2]
    simp
  · have h1 : decide (0 ≤ Lib.indexByte l 47) = false := by rw [← Lib.contains_iff_indexByte]; simpa using h
    rw [h1, partM_no h, path_part h]
    simp
set_option maxRecDepth 100000 in
set_option maxHeartbeats 1000000 in
theorem isPart_any (s : ByteArray) (w : World) (hm : Mx w) (hs : s.size ≤ 32768) :
    Calls Tryz.prog 80 #[.string s] w fun e w' => e = .returned (.bool (partM s.data.toList)) ∧ Below w.heap.size w w' := by
  have hr := slash_part s.data.toList
  have H1 := hide (fun w hm => isClassName_any s w hm hs)
  have H2 := hide (fun w => Tryz.strings_Contains_one s 47 w)
  have Hm := hide hm
  rw [← hr]
  clear hm hr
  generalize pathB s.data.toList = p at *
  generalize decide (0 ≤ Lib.indexByte s.data.toList 47) = q at *
  cases p with
  | false =>
    go_enter Tryz.func80, Tryz.ntmps80
    go_wp2_with fail
    refine (unhide H1 _ (unhide Hm)).mono ?_
    rintro e w1 ⟨rfl, hb⟩
    go_wp2
    go_ret
    exact ⟨rfl, hb⟩
  | true =>
    go_enter Tryz.func80, Tryz.ntmps80
    go_wp2_with fail
    refine (unhide H1 _ (unhide Hm)).mono ?_
    rintro e w1 ⟨rfl, hb⟩
    go_wp2_with fail
    refine (unhide H2 _).mono ?_
    rintro e w2 ⟨rfl, hw⟩
    subst hw
    go_wp2
    go_ret
    exact ⟨by simp; try rfl, hb⟩
def Len (l : List UInt8) (w : World) (e : Ending) (w' : World) : Prop := e = .returned (.int .i64 (valLen l : Nat)) ∧ Below w.heap.size w w'
set_option maxRecDepth 100000 in
set_option maxHeartbeats 2000000 in
theorem valueLength_any (s : ByteArray) (w : World) (hm : Mx w) (hs : s.size ≤ 32768) :
    Calls Tryz.prog 78 #[.string s] w fun e w' => Len s.data.toList w e w' := by
  have hl : s.data.toList.length = s.size := by simp
  obtain ⟨E, hE, hEd⟩ : ∃ E : ByteArray, E = ⟨(Lib.trimLeftB s.data.toList 91).toArray⟩ ∧ E.data.toList = s.data.toList.drop (dims s.data.toList) := ⟨_, rfl, by rw [data_of, drop_dims]⟩
  have hdl := dims_le s.data.toList
  have hEz : E.size = s.size - dims s.data.toList := by
    have : E.data.toList.length = E.size := by simp
    rw [← this, hEd, List.length_drop, hl]
  have hTrim := Tryz.strings_TrimLeft_one s 91 (by decide) w
  rw [← hE] at hTrim
  have HT := hide hTrim
  have Hm := hide hm
  have hbg := @val_big s.data.toList
  have hnn := @val_none s.data.toList
  have hvv := @val_of s.data.toList
  rw [hl] at hdl
  rw [← hEd] at hnn hvv
  unfold Len
  generalize valLen s.data.toList = v at hbg hnn hvv ⊢
  generalize dims s.data.toList = d at hbg hvv hEz hdl hEd
  have hd : (s.size : Int) - (E.size : Int) = (d : Int) := by omega
  have hez : E.size ≤ 32768 := by omega
  have hdz : d ≤ 32768 := by omega
  clear hE hTrim hm hEd hl hEz hs
  by_cases hbig : 255 < d
  · have hv := hbg hbig
    subst hv
    clear hbg hnn hvv
    go_enter Tryz.func78, Tryz.ntmps78
    go_wp2_with fail
    refine (unhide HT).mono ?_
    rintro e w1 ⟨rfl, hww⟩
    subst w1
    go_wp2
    go_ret
    exact ⟨rfl, Below.refl _ _⟩
  · have hd255 : d ≤ 255 := by omega
    have hdi : ¬ ((255 : Int) < (d : Int)) := by omega
    replace hvv := hvv hd255
    clear hbg hbig
    cases hEl : E.data.toList with
    | nil =>
      have hemp : E.toList.isEmpty = true := by rw [empty_of, hEl]; rfl
      have hv := hnn (by rw [hEl]; rfl)
      subst hv
      clear hnn hvv hEl
      go_enter Tryz.func78, Tryz.ntmps78
      go_wp2_with fail
      refine (unhide HT).mono ?_
      rintro e w1 ⟨rfl, hww⟩
      subst w1
      go_wp2
      go_ret
      exact ⟨rfl, Below.refl _ _⟩
    | cons b r =>
      have hemp : E.toList.isEmpty = false := by rw [empty_of, hEl]; rfl
      have ha0 := at0 hEl
      have hx1 := ext1 hEl
      have hEz : E.size = r.length + 1 := by have : E.data.toList.length = E.size := by simp
                                             rw [← this, hEl]; rfl
      have hEp : 0 < E.size := by omega
      have hEp1 : 1 ≤ E.size := by omega
      have hEpi : (1 : Int) ≤ (E.size : Int) := by omega
      rw [hEl] at hnn hvv
      clear hEl hEz
      by_cases hp : prim b = true
      · have hv := hvv (by rw [elem_prim hp]; omega)
        rw [elem_prim hp] at hv
        clear hnn hvv hx1
        subst hv
        rcases prim_cases hp with rfl | rfl | rfl | rfl | rfl | rfl | rfl | rfl
        all_goals
          clear hp
          go_enter Tryz.func78, Tryz.ntmps78
          go_wp2_with fail
          refine (unhide HT).mono ?_
          rintro e w1 ⟨rfl, hww⟩
          subst w1
          go_wp2
          go_ret
          exact ⟨by simp, Below.refl _ _⟩
      · have hp' : prim b = false := by simpa using hp
        obtain ⟨p1, p2, p3, p4, p5, p6, p7, p8⟩ := prim_not hp'
        have f1 := byte_ne (n := 66) (by omega) p1
        have f2 := byte_ne (n := 67) (by omega) p2
        have f3 := byte_ne (n := 68) (by omega) p3
        have f4 := byte_ne (n := 70) (by omega) p4
        have f5 := byte_ne (n := 73) (by omega) p5
        have f6 := byte_ne (n := 74) (by omega) p6
        have f7 := byte_ne (n := 83) (by omega) p7
        have f8 := byte_ne (n := 90) (by omega) p8
        clear p1 p2 p3 p4 p5 p6 p7 p8 hp
        by_cases hL : b = 76
        · subst hL
          clear f1 f2 f3 f4 f5 f6 f7 f8 hp'
          have Hx1 := hide hx1
          have hxs : (E.extract 1 E.size).size ≤ 32768 := by simp; omega
          have hC := Cut_any (E.extract 1 E.size) 59 w (unhide Hm) hxs
          rw [hx1] at hC
          have HC := hide hC
          have Hnn := hide hnn
          have Hvv := hide hvv
          clear hx1 hC hnn hvv
          go_enter Tryz.func78, Tryz.ntmps78
          go_wp2_with fail
          refine (unhide HT).mono ?_
          rintro e w1 ⟨rfl, hww⟩
          subst w1
          go_wp2_with fail
          refine (unhide HC).mono ?_
          rintro e w1 ⟨hc, hb1⟩
          rcases hc with ⟨p, q, h1, h2, rfl⟩ | ⟨h1, rfl⟩
          · have hpl : p.length ≤ 32768 := by
              have : r.length = p.length + (q.length + 1) := by rw [h1]; simp
              have h3 : (E.extract 1 E.size).data.toList.length = (E.extract 1 E.size).size := by simp
              rw [unhide Hx1] at h3
              omega
            have he := elem_name (p := p) (r := q) h2
            rw [← h1] at he
            have hI := isClassName_any ⟨p.toArray⟩ w1 ((unhide Hm).below hb1) (by rw [size_of]; exact hpl)
            rw [data_of] at hI
            have HI := hide hI
            have He := hide he
            have hps := size_of p
            clear hI he h1 h2 Hx1
            cases hpb : pathB p with
            | false =>
              have hv := unhide Hnn (by rw [unhide He, hpb]; rfl)
              subst hv
              rw [hpb] at HI
              clear Hnn Hvv He
              go_wp2_with fail
              refine (unhide HI).mono ?_
              rintro e w2 ⟨rfl, hb2⟩
              have hbz := hb1.trans (hb2.mono hb1.size)
              go_wp2
              go_ret
              exact ⟨rfl, hbz⟩
            | true =>
              have hv := unhide Hvv (by rw [unhide He, hpb]; simp)
              rw [unhide He, hpb, if_pos rfl] at hv
              rw [hpb] at HI
              clear Hnn Hvv He
              subst hv
              go_wp2_with fail
              refine (unhide HI).mono ?_
              rintro e w2 ⟨rfl, hb2⟩
              have hbz := hb1.trans (hb2.mono hb1.size)
              go_wp2
              go_ret
              exact ⟨by simp; omega, hbz⟩
          · have hv := unhide Hnn (elem_none h1)
            subst hv
            clear Hnn Hvv h1 Hx1
            go_wp2
            go_ret
            exact ⟨rfl, hb1⟩
        · have f9 := byte_ne (n := 76) (by omega) hL
          have hv := hnn (elem_other hp' hL)
          subst hv
          clear hnn hvv hL hp' hx1
          go_enter Tryz.func78, Tryz.ntmps78
          go_wp2_with fail
          refine (unhide HT).mono ?_
          rintro e w1 ⟨rfl, hww⟩
          subst w1
          go_wp2
          go_ret
          exact ⟨rfl, Below.refl _ _⟩
set_option maxRecDepth 100000 in
set_option maxHeartbeats 1000000 in
theorem Field_any (s : ByteArray) (w : World) (hm : Mx w) (hs : s.size ≤ 32768) :
    Calls Tryz.prog 55 #[.string s] w fun e w' => e = .returned (.bool (fieldB s.data.toList)) ∧ Below w.heap.size w w' := by
  have hl : s.data.toList.length = s.size := by simp
  cases he : s.data.toList.isEmpty with
  | true =>
    have hr : fieldB s.data.toList = false := by unfold fieldB; rw [he]; rfl
    have he2 := (empty_of (s := s)).trans he
    have Hr := hide hr
    clear he hr hl
    go_enter Tryz.func55, Tryz.ntmps55
    go_wp2_with fail
    go_ret
    exact ⟨by rw [unhide Hr]; rfl, Below.refl _ _⟩
  | false =>
    have hr : fieldB s.data.toList = decide (valLen s.data.toList = s.size) := by unfold fieldB; rw [he, hl]; rfl
    have he2 := (empty_of (s := s)).trans he
    have hV := valueLength_any s w hm hs
    unfold Len at hV
    generalize valLen s.data.toList = v at hV hr
    have HV := hide hV
    have Hr := hide hr
    clear he hr hl hV
    by_cases hvs : v = s.size
    · subst hvs
      go_enter Tryz.func55, Tryz.ntmps55
      go_wp2_with fail
      refine (unhide HV).mono ?_
      rintro e w' ⟨rfl, hb⟩
      go_wp2
      go_ret
      exact ⟨by rw [unhide Hr]; simp, hb⟩
    · have hvb : ((v : Int) == (s.size : Int)) = false := by rw [beq_eq_false_iff_ne]; omega
      have hd : decide (v = s.size) = false := decide_eq_false hvs
      rw [hd] at Hr
      clear hvs hd
      go_enter Tryz.func55, Tryz.ntmps55
      go_wp2_with fail
      refine (unhide HV).mono ?_
      rintro e w' ⟨rfl, hb⟩
      go_wp2
      go_ret
      exact ⟨by rw [unhide Hr]; rfl, hb⟩
set_option maxRecDepth 100000 in
set_option maxHeartbeats 1000000 in
theorem Class_any (s : ByteArray) (w : World) (hm : Mx w) (hs : s.size ≤ 32768) :
    Calls Tryz.prog 20 #[.string s] w fun e w' => e = .returned (.bool (classB s.data.toList)) ∧ Below w.heap.size w w' := by
  have hP := Tryz.strings_HasPrefix s ⟨#[91]⟩ w
  have hF := Field_any s w hm hs
  have hN := isClassName_any s w hm hs
  have hp : Lib.hasPrefix s.data.toList (⟨#[91]⟩ : ByteArray).data.toList = [(91 : UInt8)].isPrefixOf s.data.toList := rfl
  rw [hp] at hP
  unfold classB
  generalize [(91 : UInt8)].isPrefixOf s.data.toList = q at hP ⊢
  have HP := hide hP
  have HF := hide hF
  have HN := hide hN
  clear hP hF hN hp
  cases q with
  | true =>
    go_enter Tryz.func20, Tryz.ntmps20
    go_wp2_with fail
    refine (unhide HP).mono ?_
    rintro e w' ⟨rfl, hww⟩
    subst w'
    go_wp2_with fail
    refine (unhide HF).mono ?_
    rintro e w' ⟨rfl, hb⟩
    go_wp2
    go_ret
    exact ⟨by simp, hb⟩
  | false =>
    go_enter Tryz.func20, Tryz.ntmps20
    go_wp2_with fail
    refine (unhide HP).mono ?_
    rintro e w' ⟨rfl, hww⟩
    subst w'
    go_wp2_with fail
    refine (unhide HN).mono ?_
    rintro e w' ⟨rfl, hb⟩
    go_wp2
    go_ret
    exact ⟨by simp, hb⟩
set_option maxRecDepth 100000 in
set_option maxHeartbeats 1000000 in
theorem Member_any (s : ByteArray) (m : Bool) (w : World) (hm : Mx w) (hs : s.size ≤ 32768) :
    Calls Tryz.prog 58 #[.string s, .bool m] w fun e w' => e = .returned (.int .i64 (memB s.data.toList m : Nat)) ∧ Below w.heap.size w w' := by
  have hI := isPart_any s w hm hs
  clear hm
  have hC := fun W : World => ContainsAny_any s ⟨#[60, 62]⟩ W (by decide) (by omega) (by decide) (by decide)
  simp only at hC
  obtain ⟨z, ez⟩ : ∃ z, z = memB s.data.toList m := ⟨_, rfl⟩
  rw [← ez]
  unfold memB at ez
  generalize partM s.data.toList = p at hI ez
  generalize hasAny s.data.toList [60, 62] = h at hC ez
  have HI := hide hI
  have HC := hide hC
  have He := hide ez
  clear hI hC ez
  cases p with
  | false =>
    have hz : z = 0 := by rw [unhide He]; simp
    subst hz
    clear He
    go_enter Tryz.func58, Tryz.ntmps58
    go_wp2_with fail
    refine (unhide HI).mono ?_
    rintro e w' ⟨rfl, hb⟩
    go_wp2
    go_ret
    exact ⟨rfl, hb⟩
  | true =>
    cases m with
    | false =>
      have hz : z = 1 := by rw [unhide He]; simp
      subst hz
      clear He
      go_enter Tryz.func58, Tryz.ntmps58
      go_wp2_with fail
      refine (unhide HI).mono ?_
      rintro e w' ⟨rfl, hb⟩
      go_wp2
      go_ret
      exact ⟨rfl, hb⟩
    | true =>
      by_cases h1 : s.data.toList = initB
      · have hz : z = 2 := by rw [unhide He]; simp [h1]
        subst hz
        have hs2 : s = ⟨#[60, 105, 110, 105, 116, 62]⟩ := by
          have : s.data = #[60, 105, 110, 105, 116, 62] := by rw [← Array.toList_inj]; exact h1
          cases s; simp_all
        subst hs2
        clear He h1
        go_enter Tryz.func58, Tryz.ntmps58
        go_wp2_with fail
        refine (unhide HI).mono ?_
        rintro e w' ⟨rfl, hb⟩
        go_wp2
        go_ret
        exact ⟨rfl, hb⟩
      · by_cases h2 : s.data.toList = clinitB
        · have hz : z = 3 := by rw [unhide He]; simp [h2, clinitB, initB]
          subst hz
          have hs2 : s = ⟨#[60, 99, 108, 105, 110, 105, 116, 62]⟩ := by
            have : s.data = #[60, 99, 108, 105, 110, 105, 116, 62] := by rw [← Array.toList_inj]; exact h2
            cases s; simp_all
          subst hs2
          clear He h1 h2
          go_enter Tryz.func58, Tryz.ntmps58
          go_wp2_with fail
          refine (unhide HI).mono ?_
          rintro e w' ⟨rfl, hb⟩
          go_wp2
          go_ret
          exact ⟨rfl, hb⟩
        · have hz : z = if h then 0 else 1 := by rw [unhide He]; simp [h1, h2]
          have n1 : (s.toList == [60, 105, 110, 105, 116, 62]) = false := by rw [Lib.toList_data, beq_eq_false_iff_ne]; exact h1
          have n2 : (s.toList == [60, 99, 108, 105, 110, 105, 116, 62]) = false := by rw [Lib.toList_data, beq_eq_false_iff_ne]; exact h2
          clear He h1 h2
          subst hz
          go_enter Tryz.func58, Tryz.ntmps58
          go_wp2_with fail
          refine (unhide HI).mono ?_
          rintro e w' ⟨rfl, hb⟩
          go_wp2_with fail
          refine (unhide HC w').mono ?_
          rintro e w2 ⟨rfl, hb2⟩
          have hbz := hb.trans (hb2.mono hb.size)
          cases h
          all_goals
            go_wp2
            go_ret
            exact ⟨rfl, hbz⟩
end Go.Proofs.YtddhlphbbiihjaaGreatDoor
