/-
  Package desc: isPart, isClassName, valueLength, Field, Class, Member.
-/
import Derived.Test.YtlihhfijigoklabDoorAny
import Derived.Test.YtlihhfijigoklabDoorBase
import Derived.Laws.DeepStrings4
import Derived.Deep.LoopGhost
namespace Go.Proofs.YtlihhfijigoklabDoor
open Go.RowKit
theorem below_drewN {B : Nat} {a w : World} (h : Below B a w) : ∀ n, Below B a (w.drewN n)
  | 0 => h
  | n + 1 => (below_drewN h n).drew
set_option maxRecDepth 100000 in
set_option maxHeartbeats 1000000 in
theorem isPart_any (s : ByteArray) (w : World) (hs : s.size ≤ 32768) :
    Calls Tryd.prog 26 #[.string s] w fun e w' => e = .returned (.bool (partM s.data.toList)) ∧ Below w.heap.size w w' := by
  cases he : s.data.toList.isEmpty with
  | true =>
    have hr : partM s.data.toList = false := by unfold partM; rw [he]; rfl
    have he2 := (empty_of (s := s)).trans he
    have Hr := hide hr
    clear he hr
    go_enter Tryd.func26, Tryd.ntmps26
    go_wp2_with fail
    go_ret
    exact ⟨by rw [unhide Hr]; rfl, Below.refl _ _⟩
  | false =>
    have hr : partM s.data.toList = !hasAny s.data.toList [46, 59, 91, 47] := by unfold partM; rw [he]; rfl
    have he2 := (empty_of (s := s)).trans he
    have Hr := hide hr
    clear he hr
    have hC := ContainsAny_any s ⟨#[46, 59, 91, 47]⟩ w (by decide) (by omega) (by decide) (by decide)
    have HC := hide hC
    clear hC
    go_enter Tryd.func26, Tryd.ntmps26
    go_wp2_with fail
    refine (unhide HC).mono ?_
    rintro e w' ⟨rfl, hb⟩
    go_wp2
    go_ret
    exact ⟨by rw [unhide Hr]; rfl, hb⟩
/-- What strings.Cut gives at one byte. -/
theorem Cut_any (s : ByteArray) (c : UInt8) (w : World) (hm : Mx w) (hs : s.size ≤ 32768) :
    Calls Tryd.prog 18 #[.string s, .string ⟨#[c]⟩] w fun e w' => ((∃ p r, s.data.toList = p ++ c :: r ∧ c ∉ p ∧ e = .returned (.tuple #[.string ⟨p.toArray⟩, .string ⟨r.toArray⟩, .bool true])) ∨
      (c ∉ s.data.toList ∧ e = .returned (.tuple #[.string ⟨s.data.toList.toArray⟩, .string ⟨#[]⟩, .bool false]))) ∧ Below w.heap.size w w' := by
  obtain ⟨m, hm⟩ := hm
  refine (Tryd.strings_Cut s ⟨#[c]⟩ m w (by omega) hm).mono ?_
  rintro e w' ⟨rfl, n, rfl⟩
  refine ⟨?_, below_drewN (Below.refl _ _) n⟩
  rcases cut_byte c s.data.toList with ⟨p, r, h1, h2, h3⟩ | ⟨h1, h2⟩
  · exact .inl ⟨p, r, h1, h2, by rw [show (⟨#[c]⟩ : ByteArray).data.toList = [c] from rfl, h3]⟩
  · exact .inr ⟨h1, by rw [show (⟨#[c]⟩ : ByteArray).data.toList = [c] from rfl, h2]⟩
/-- What is known of a class's name that is cut. -/
def CutAt (l p r : List UInt8) (more : Bool) : Prop := (47 : UInt8) ∉ p ∧ p.length ≤ 32768 ∧ r.length ≤ 32768 ∧ pathB l = (if more then partB p && pathB r else partB p)
theorem CutAt.of {l : List UInt8} (hl : l.length ≤ 32768) {e : Ending} (h : (∃ p r, l = p ++ 47 :: r ∧ (47 : UInt8) ∉ p ∧ e = .returned (.tuple #[.string ⟨p.toArray⟩, .string ⟨r.toArray⟩, .bool true])) ∨
      ((47 : UInt8) ∉ l ∧ e = .returned (.tuple #[.string ⟨l.toArray⟩, .string ⟨#[]⟩, .bool false]))) :
    ∃ p r more, e = .returned (.tuple #[.string ⟨p.toArray⟩, .string ⟨r.toArray⟩, .bool more]) ∧ CutAt l p r more ∧ (more = true → r.length < l.length) ∧ (more = false → r = []) := by
  rcases h with ⟨p, r, rfl, h2, rfl⟩ | ⟨h1, rfl⟩
  · simp only [List.length_append, List.length_cons] at hl
    exact ⟨p, r, true, rfl, ⟨h2, by omega, by omega, by rw [path_slash h2]; rfl⟩, (fun _ => by simp; omega), fun h => by cases h⟩
  · exact ⟨l, [], false, rfl, ⟨h1, hl, by simp, by rw [path_part h1]; rfl⟩, (fun h => by cases h), fun _ => rfl⟩
set_option maxRecDepth 100000 in
set_option maxHeartbeats 1000000 in
theorem isClassName_any (s : ByteArray) (w : World) (hm : Mx w) (hs : s.size ≤ 32768) :
    Calls Tryd.prog 19 #[.string s] w fun e w' => e = .returned (.bool (pathB s.data.toList)) ∧ Below w.heap.size w w' := by
  have hl : s.data.toList.length ≤ 32768 := by simpa using hs
  go_enter Tryd.func19, Tryd.ntmps19
  go_wp2_with fail
  refine (Cut_any s 47 w hm hs).mono ?_
  rintro e w1 ⟨hc, hb1⟩
  obtain ⟨p, r, more, rfl, hC, hm1, hm2⟩ := CutAt.of hl hc
  have Hm := hide hm
  clear hc hl hm
  go_wp2_with fail
  go_loopg [3, 4, 5] (r.length + 1) (fun g a b c wx => ∃ p r more, a = .string ⟨(p : List UInt8).toArray⟩ ∧ b = .string ⟨(r : List UInt8).toArray⟩ ∧ c = .bool more ∧ Hid (CutAt s.data.toList p r more) ∧ (if more then r.length + 1 else 0) ≤ g ∧ Below w.heap.size w wx)
  case atStart => exact ⟨p, r, more, rfl, rfl, rfl, hC, by split <;> omega, hb1⟩
  case round =>
    clear hb1 hC hm1 hm2
    obtain ⟨p, r, more, rfl, rfl, rfl, HC, hrg, hbe⟩ := hrel
    have hmx := hide ((unhide Hm).below hbe)
    have hpl := (unhide HC).2.1
    have hrl := (unhide HC).2.2.1
    have hP : partM p = partB p := partM_no (unhide HC).1
    have HP := hide hP
    clear hP
    cases more with
    | false =>
      have hres : pathB s.data.toList = partM p := by rw [unhide HP]; exact (unhide HC).2.2.2
      have Hres := hide hres
      clear hres
      go_wp2_with fail
      refine (isPart_any ⟨p.toArray⟩ wr (by rw [size_of]; exact hpl)).mono ?_
      rintro e w2 ⟨rfl, hb2⟩
      rw [data_of]
      have hbz := hbe.trans (hb2.mono hbe.size)
      go_wp2
      go_ret
      exact ⟨by rw [unhide Hres]; rfl, hbz⟩
    | true =>
      have hres : pathB s.data.toList = (partM p && pathB r) := by rw [unhide HP]; exact (unhide HC).2.2.2
      have Hres := hide hres
      clear hres
      go_wp2_with fail
      refine (isPart_any ⟨p.toArray⟩ wr (by rw [size_of]; exact hpl)).mono ?_
      rintro e w2 ⟨rfl, hb2⟩
      rw [data_of]
      have hbz := hbe.trans (hb2.mono hbe.size)
      have hmx2 := hide ((unhide hmx).below hb2)
      clear hb2 hbe hmx
      cases hpp : partM p with
      | false =>
        go_wp2_with fail
        refine (isPart_any ⟨p.toArray⟩ w2 (by rw [size_of]; exact hpl)).mono ?_
        rintro e w3 ⟨rfl, hb3⟩
        rw [data_of, hpp]
        have hby := hbz.trans (hb3.mono hbz.size)
        go_wp2
        go_ret
        exact ⟨by rw [unhide Hres, hpp]; rfl, hby⟩
      | true =>
        go_wp2_with fail
        refine (Cut_any ⟨r.toArray⟩ 47 w2 (unhide hmx2) (by rw [size_of]; exact hrl)).mono ?_
        rintro e w3 ⟨hc, hb3⟩
        rw [data_of] at hc
        have hby := hbz.trans (hb3.mono hbz.size)
        obtain ⟨p2, r2, more2, rfl, hC2, hm3, hm4⟩ := CutAt.of hrl hc
        have hC3 : Hid (CutAt s.data.toList p2 r2 more2) := ⟨hC2.1, hC2.2.1, hC2.2.2.1, by rw [unhide Hres, hpp, Bool.true_and]; exact hC2.2.2.2⟩
        simp only [if_true] at hrg
        have hlt : (if more2 then r2.length + 1 else 0) ≤ gk - 1 := by
          cases more2 with
          | true => have := hm3 rfl; simp only [if_true]; omega
          | false => simp
        have Hlt := hide hlt
        clear hC2 hm3 hm4 hc hlt hb3 hbz
        go_wp2
        go_roundg (gk - 1)
        case measure => omega
        case rel => exact ⟨p2, r2, more2, rfl, rfl, rfl, hC3, unhide Hlt, hby⟩
def Len (l : List UInt8) (w : World) (e : Ending) (w' : World) : Prop := e = .returned (.int .i64 (valLen l : Nat)) ∧ Below w.heap.size w w'
set_option maxRecDepth 100000 in
set_option maxHeartbeats 2000000 in
theorem valueLength_any (s : ByteArray) (w : World) (hm : Mx w) (hs : s.size ≤ 32768) :
    Calls Tryd.prog 14 #[.string s] w fun e w' => Len s.data.toList w e w' := by
  have hl : s.data.toList.length = s.size := by simp
  obtain ⟨E, hE, hEd⟩ : ∃ E : ByteArray, E = ⟨(Lib.trimLeftB s.data.toList 91).toArray⟩ ∧ E.data.toList = s.data.toList.drop (dims s.data.toList) := ⟨_, rfl, by rw [data_of, drop_dims]⟩
  have hdl := dims_le s.data.toList
  have hEz : E.size = s.size - dims s.data.toList := by
    have : E.data.toList.length = E.size := by simp
    rw [← this, hEd, List.length_drop, hl]
  have hTrim := Tryd.strings_TrimLeft_one s 91 (by decide) w
  rw [← hE] at hTrim
  have HT := hide hTrim
  have Hm := hide hm
  have hbg := @val_big s.data.toList
  have hnn := @val_none s.data.toList
  have hvv := @val_of s.data.toList
  rw [hl] at hdl
  rw [← hEd] at hnn hvv
  unfold Len
  generalize valLen s.data.toList = v at hbg hnn hvv ⊢
  generalize dims s.data.toList = d at hbg hvv hEz hdl hEd
  have hd : (s.size : Int) - (E.size : Int) = (d : Int) := by omega
  have hez : E.size ≤ 32768 := by omega
  have hdz : d ≤ 32768 := by omega
  clear hE hTrim hm hEd hl hEz hs
  by_cases hbig : 255 < d
  · have hv := hbg hbig
    subst hv
    clear hbg hnn hvv
    go_enter Tryd.func14, Tryd.ntmps14
    go_wp2_with fail
    refine (unhide HT).mono ?_
    rintro e w1 ⟨rfl, hww⟩
    subst w1
    go_wp2
    go_ret
    exact ⟨rfl, Below.refl _ _⟩
  · have hd255 : d ≤ 255 := by omega
    have hdi : ¬ ((255 : Int) < (d : Int)) := by omega
    replace hvv := hvv hd255
    clear hbg hbig
    cases hEl : E.data.toList with
    | nil =>
      have hemp : E.toList.isEmpty = true := by rw [empty_of, hEl]; rfl
      have hv := hnn (by rw [hEl]; rfl)
      subst hv
      clear hnn hvv hEl
      go_enter Tryd.func14, Tryd.ntmps14
      go_wp2_with fail
      refine (unhide HT).mono ?_
      rintro e w1 ⟨rfl, hww⟩
      subst w1
      go_wp2
      go_ret
      exact ⟨rfl, Below.refl _ _⟩
    | cons b r =>
      have hemp : E.toList.isEmpty = false := by rw [empty_of, hEl]; rfl
      have ha0 := at0 hEl
      have hx1 := ext1 hEl
      have hEz : E.size = r.length + 1 := by have : E.data.toList.length = E.size := by simp
                                             rw [← this, hEl]; rfl
      have hEp : 0 < E.size := by omega
      have hEp1 : 1 ≤ E.size := by omega
      have hEpi : (1 : Int) ≤ (E.size : Int) := by omega
      rw [hEl] at hnn hvv
      clear hEl hEz
      by_cases hp : prim b = true
      · have hv := hvv (by rw [elem_prim hp]; omega)
        rw [elem_prim hp] at hv
        clear hnn hvv hx1
        subst hv
        rcases prim_cases hp with rfl | rfl | rfl | rfl | rfl | rfl | rfl | rfl
        all_goals
          clear hp
          go_enter Tryd.func14, Tryd.ntmps14
          go_wp2_with fail
          refine (unhide HT).mono ?_
          rintro e w1 ⟨rfl, hww⟩
          subst w1
          go_wp2
          go_ret
          exact ⟨by simp, Below.refl _ _⟩
      · have hp' : prim b = false := by simpa using hp
        obtain ⟨p1, p2, p3, p4, p5, p6, p7, p8⟩ := prim_not hp'
        have f1 := byte_ne (n := 66) (by omega) p1
        have f2 := byte_ne (n := 67) (by omega) p2
        have f3 := byte_ne (n := 68) (by omega) p3
        have f4 := byte_ne (n := 70) (by omega) p4
        have f5 := byte_ne (n := 73) (by omega) p5
        have f6 := byte_ne (n := 74) (by omega) p6
        have f7 := byte_ne (n := 83) (by omega) p7
        have f8 := byte_ne (n := 90) (by omega) p8
        clear p1 p2 p3 p4 p5 p6 p7 p8 hp
        by_cases hL : b = 76
        · subst hL
          clear f1 f2 f3 f4 f5 f6 f7 f8 hp'
          have Hx1 := hide hx1
          have hxs : (E.extract 1 E.size).size ≤ 32768 := by simp; omega
          have hC := Cut_any (E.extract 1 E.size) 59 w (unhide Hm) hxs
          rw [hx1] at hC
          have HC := hide hC
          have Hnn := hide hnn
          have Hvv := hide hvv
          clear hx1 hC hnn hvv
          go_enter Tryd.func14, Tryd.ntmps14
          go_wp2_with fail
          refine (unhide HT).mono ?_
          rintro e w1 ⟨rfl, hww⟩
          subst w1
          go_wp2_with fail
          refine (unhide HC).mono ?_
          rintro e w1 ⟨hc, hb1⟩
          rcases hc with ⟨p, q, h1, h2, rfl⟩ | ⟨h1, rfl⟩
          · have hpl : p.length ≤ 32768 := by
              have : r.length = p.length + (q.length + 1) := by rw [h1]; simp
              have h3 : (E.extract 1 E.size).data.toList.length = (E.extract 1 E.size).size := by simp
              rw [unhide Hx1] at h3
              omega
            have he := elem_name (p := p) (r := q) h2
            rw [← h1] at he
            have hI := isClassName_any ⟨p.toArray⟩ w1 ((unhide Hm).below hb1) (by rw [size_of]; exact hpl)
            rw [data_of] at hI
            have HI := hide hI
            have He := hide he
            have hps := size_of p
            clear hI he h1 h2 Hx1
            cases hpb : pathB p with
            | false =>
              have hv := unhide Hnn (by rw [unhide He, hpb]; rfl)
              subst hv
              rw [hpb] at HI
              clear Hnn Hvv He
              go_wp2_with fail
              refine (unhide HI).mono ?_
              rintro e w2 ⟨rfl, hb2⟩
              have hbz := hb1.trans (hb2.mono hb1.size)
              go_wp2
              go_ret
              exact ⟨rfl, hbz⟩
            | true =>
              have hv := unhide Hvv (by rw [unhide He, hpb]; simp)
              rw [unhide He, hpb, if_pos rfl] at hv
              rw [hpb] at HI
              clear Hnn Hvv He
              subst hv
              go_wp2_with fail
              refine (unhide HI).mono ?_
              rintro e w2 ⟨rfl, hb2⟩
              have hbz := hb1.trans (hb2.mono hb1.size)
              go_wp2
              go_ret
              exact ⟨by simp; omega, hbz⟩
          · have hv := unhide Hnn (elem_none h1)
            subst hv
            clear Hnn Hvv h1 Hx1
            go_wp2
            go_ret
            exact ⟨rfl, hb1⟩
        · have f9 := byte_ne (n := 76) (by omega) hL
          have hv := hnn (elem_other hp' hL)
          subst hv
          clear hnn hvv hL hp' hx1
          go_enter Tryd.func14, Tryd.ntmps14
          go_wp2_with fail
          refine (unhide HT).mono ?_
          rintro e w1 ⟨rfl, hww⟩
          subst w1
          go_wp2
          go_ret
          exact ⟨rfl, Below.refl _ _⟩
set_option maxRecDepth 100000 in
set_option maxHeartbeats 1000000 in
theorem Field_any (s : ByteArray) (w : World) (hm : Mx w) (hs : s.size ≤ 32768) :
    Calls Tryd.prog 6 #[.string s] w fun e w' => e = .returned (.bool (fieldB s.data.toList)) ∧ Below w.heap.size w w' := by
  have hl : s.data.toList.length = s.size := by simp
  cases he : s.data.toList.isEmpty with
  | true =>
    have hr : fieldB s.data.toList = false := by unfold fieldB; rw [he]; rfl
    have he2 := (empty_of (s := s)).trans he
    have Hr := hide hr
    clear he hr hl
    go_enter Tryd.func6, Tryd.ntmps6
    go_wp2_with fail
    go_ret
    exact ⟨by rw [unhide Hr]; rfl, Below.refl _ _⟩
  | false =>
    have hr : fieldB s.data.toList = decide (valLen s.data.toList = s.size) := by unfold fieldB; rw [he, hl]; rfl
    have he2 := (empty_of (s := s)).trans he
    have hV := valueLength_any s w hm hs
    unfold Len at hV
    generalize valLen s.data.toList = v at hV hr
    have HV := hide hV
    have Hr := hide hr
    clear he hr hl hV
    by_cases hvs : v = s.size
    · subst hvs
      go_enter Tryd.func6, Tryd.ntmps6
      go_wp2_with fail
      refine (unhide HV).mono ?_
      rintro e w' ⟨rfl, hb⟩
      go_wp2
      go_ret
      exact ⟨by rw [unhide Hr]; simp, hb⟩
    · have hvb : ((v : Int) == (s.size : Int)) = false := by rw [beq_eq_false_iff_ne]; omega
      have hd : decide (v = s.size) = false := decide_eq_false hvs
      rw [hd] at Hr
      clear hvs hd
      go_enter Tryd.func6, Tryd.ntmps6
      go_wp2_with fail
      refine (unhide HV).mono ?_
      rintro e w' ⟨rfl, hb⟩
      go_wp2
      go_ret
      exact ⟨by rw [unhide Hr]; rfl, hb⟩
end Go.Proofs.YtlihhfijigoklabDoor
