/-
  jvmcoreref1's Field, Class and Member.
-/
import Derived.Test.YtejbnbilbagkmaaDoorOne
namespace Go.Proofs.YtejbnbilbagkmaaDoor
open Go.RowKit
theorem OneRes.cases {l : List UInt8} {e : Ending} (h : OneRes l 0 e) : (valLen l ≠ 0 ∧ e = .returned (.tuple #[.string ⟨(l.take (valLen l)).toArray⟩, .string ⟨(l.drop (valLen l)).toArray⟩, .bool true])) ∨
    (valLen l = 0 ∧ ∃ t r : ByteArray, e = .returned (.tuple #[.string t, .string r, .bool false])) := by
  unfold OneRes at h
  unfold valLen
  by_cases hc : dims l ≤ 255 ∧ elemLen (l.drop (dims l)) ≠ 0
  · rw [if_pos (by omega)] at h
    rw [if_pos hc]
    exact .inl ⟨by omega, h⟩
  · rw [if_neg (by omega)] at h
    rw [if_neg hc]
    obtain ⟨t, r, _, h⟩ := h
    exact .inr ⟨rfl, t, r, h⟩
theorem toList_mk (l : List UInt8) : (⟨l.toArray⟩ : ByteArray).toList = l := by rw [Lib.toList_data]
set_option maxRecDepth 100000 in
set_option maxHeartbeats 1000000 in
theorem RField_any (s : ByteArray) (w : World) (hs : s.size ≤ 32768) :
    Calls Tryd.prog 13 #[.string s] w fun e w' => e = .returned (.bool (fieldB s.data.toList)) ∧ Below w.heap.size w w' := by
  have hl : s.data.toList.length = s.size := by simp
  have hO := one_any s.size s 0 w rfl hs (by omega)
  have hle := val_le s.data.toList
  have hz : ((0 : Nat) : Int) = 0 := rfl
  rw [hz] at hO
  have HO := hide hO
  clear hO hz
  obtain ⟨L, eL⟩ : ∃ L, L = s.data.toList := ⟨_, rfl⟩
  rw [← eL] at HO hl hle ⊢
  clear eL
  go_enter Tryd.func13, Tryd.ntmps13
  go_wp2_with fail
  refine (unhide HO).mono ?_
  rintro e w' ⟨h1, hb⟩
  rcases h1.cases with ⟨hv, rfl⟩ | ⟨hv, t, r, rfl⟩
  · have hf : fieldB L = (L.drop (valLen L)).isEmpty := by
      have hne : L.isEmpty = false := by
        cases L with
        | nil => exact absurd rfl hv
        | cons _ _ => rfl
      unfold fieldB
      rw [hne, Bool.not_false, Bool.true_and, Bool.eq_iff_iff, decide_eq_true_iff, List.isEmpty_iff, List.drop_eq_nil_iff]
      omega
    have Hf := hide hf
    have htl := toList_mk (L.drop (valLen L))
    generalize L.drop (valLen L) = R at *
    generalize L.take (valLen L) = T at *
    clear hf h1 hv hl hle HO
    cases hR : R.isEmpty with
    | true =>
      rw [hR] at Hf
      go_wp2
      go_ret
      exact ⟨by rw [unhide Hf]; rfl, hb⟩
    | false =>
      rw [hR] at Hf
      go_wp2
      go_ret
      exact ⟨by rw [unhide Hf]; rfl, hb⟩
  · have hf : fieldB L = false := by
      unfold fieldB
      cases hL : L with
      | nil => rfl
      | cons b r => rw [← hL, hv, hL]; rfl
    have Hf := hide hf
    clear hf h1 hv hl hle HO
    go_wp2
    go_ret
    exact ⟨by rw [unhide Hf]; rfl, hb⟩
set_option maxRecDepth 100000 in
set_option maxHeartbeats 1000000 in
theorem RClass_any (s : ByteArray) (w : World) (hs : s.size ≤ 32768) :
    Calls Tryd.prog 9 #[.string s] w fun e w' => e = .returned (.bool (classB s.data.toList)) ∧ Below w.heap.size w w' := by
  have hF := RField_any s w hs
  have hP := path_any s w hs
  have HF := hide hF
  have HP := hide hP
  clear hF hP
  cases hl : s.data.toList with
  | nil =>
    have hemp : s.toList.isEmpty = true := by rw [empty_of, hl]; rfl
    rw [hl] at HP
    clear hl HF
    go_enter Tryd.func9, Tryd.ntmps9
    go_wp2_with fail
    refine (unhide HP).mono ?_
    rintro e w' ⟨rfl, hb⟩
    go_wp2
    go_ret
    exact ⟨rfl, hb⟩
  | cons b r =>
    have hemp : s.toList.isEmpty = false := by rw [empty_of, hl]; rfl
    have ha0 := at0 hl
    have hsz : 0 < s.size := by
      have : s.data.toList.length = s.size := by simp
      rw [hl] at this; simp at this; omega
    rw [hl] at HP HF
    by_cases h91 : b = 91
    · subst h91
      have hc : classB (91 :: r) = fieldB (91 :: r) := rfl
      rw [hc]
      clear hl HP hc
      go_enter Tryd.func9, Tryd.ntmps9
      go_wp2_with fail
      refine (unhide HF).mono ?_
      rintro e w' ⟨rfl, hb⟩
      go_wp2
      go_ret
      exact ⟨rfl, hb⟩
    · have hc : classB (b :: r) = pathB (b :: r) := by
        unfold classB
        rw [if_neg]
        simp [List.isPrefixOf]
        exact fun e => h91 e.symm
      have f91 := byte_ne (n := 91) (by omega) h91
      rw [hc]
      clear hl HF hc
      go_enter Tryd.func9, Tryd.ntmps9
      go_wp2_with fail
      refine (unhide HP).mono ?_
      rintro e w' ⟨rfl, hb⟩
      go_wp2
      go_ret
      exact ⟨rfl, hb⟩
set_option maxRecDepth 100000 in
set_option maxHeartbeats 1000000 in
theorem RMember_any (s : ByteArray) (m : Bool) (w : World) (hs : s.size ≤ 32768) :
    Calls Tryd.prog 7 #[.string s, .bool m] w fun e w' => e = .returned (.int .i64 (memB s.data.toList m : Nat)) ∧ Below w.heap.size w w' := by
  have hA := fun W : World => without_any s ⟨#[46, 59, 91, 47]⟩ W hs (by decide)
  have hB := fun W : World => without_any s ⟨#[60, 62]⟩ W hs (by decide)
  have hp : withoutB s.data.toList (⟨#[46, 59, 91, 47]⟩ : ByteArray).data.toList = partM s.data.toList := rfl
  have hq : withoutB s.data.toList (⟨#[60, 62]⟩ : ByteArray).data.toList = (!s.data.toList.isEmpty && !hasAny s.data.toList [60, 62]) := rfl
  rw [hp] at hA
  rw [hq] at hB
  clear hp hq
  obtain ⟨z, ez⟩ : ∃ z, z = memB s.data.toList m := ⟨_, rfl⟩
  rw [← ez]
  unfold memB at ez
  have He := hide ez
  clear ez
  cases m with
  | true =>
    by_cases h1 : s.data.toList = initB
    · have hz : z = 2 := by rw [unhide He, h1]; decide
      subst hz
      have hs2 : s = ⟨#[60, 105, 110, 105, 116, 62]⟩ := by
        have : s.data = #[60, 105, 110, 105, 116, 62] := by rw [← Array.toList_inj]; exact h1
        cases s; simp_all
      subst hs2
      clear He h1 hA hB
      go_enter Tryd.func7, Tryd.ntmps7
      go_wp2
      go_ret
      exact ⟨rfl, Below.refl _ _⟩
    · by_cases h2 : s.data.toList = clinitB
      · have hz : z = 3 := by rw [unhide He, h2]; decide
        subst hz
        have hs2 : s = ⟨#[60, 99, 108, 105, 110, 105, 116, 62]⟩ := by
          have : s.data = #[60, 99, 108, 105, 110, 105, 116, 62] := by rw [← Array.toList_inj]; exact h2
          cases s; simp_all
        subst hs2
        clear He h1 h2 hA hB
        go_enter Tryd.func7, Tryd.ntmps7
        go_wp2
        go_ret
        exact ⟨rfl, Below.refl _ _⟩
      · have hz : z = if partM s.data.toList = false then 0 else if hasAny s.data.toList [60, 62] then 0 else 1 := by rw [unhide He]; simp [h1, h2]
        have n1 : (s.toList == [60, 105, 110, 105, 116, 62]) = false := by rw [Lib.toList_data, beq_eq_false_iff_ne]; exact h1
        have n2 : (s.toList == [60, 99, 108, 105, 110, 105, 116, 62]) = false := by rw [Lib.toList_data, beq_eq_false_iff_ne]; exact h2
        clear He h1 h2
        have hne : partM s.data.toList = true → s.data.toList.isEmpty = false := fun h => by
          unfold partM at h
          cases hE : s.data.toList.isEmpty with
          | false => rfl
          | true => rw [hE] at h; cases h
        generalize partM s.data.toList = p at hA hz hne
        cases p with
        | false =>
          have HA := hide hA
          clear hA hB hne
          subst hz
          go_enter Tryd.func7, Tryd.ntmps7
          go_wp2_with fail
          refine (unhide HA _).mono ?_
          rintro e w' ⟨rfl, hb⟩
          go_wp2
          go_ret
          exact ⟨rfl, hb⟩
        | true =>
          rw [hne rfl] at hB
          generalize hasAny s.data.toList [60, 62] = q at hB hz
          have HA := hide hA
          have HB := hide hB
          clear hA hB hne
          subst hz
          cases q
          all_goals
            go_enter Tryd.func7, Tryd.ntmps7
            go_wp2_with fail
            refine (unhide HA _).mono ?_
            rintro e w' ⟨rfl, hb⟩
            go_wp2_with fail
            refine (unhide HB _).mono ?_
            rintro e w2 ⟨rfl, hb2⟩
            have hbz := hb.trans (hb2.mono hb.size)
            go_wp2
            go_ret
            exact ⟨rfl, hbz⟩
  | false =>
    have hz : z = if partM s.data.toList = false then 0 else 1 := by rw [unhide He]; simp
    generalize partM s.data.toList = p at hA hz
    have HA := hide hA
    clear He hA hB
    subst hz
    cases p
    all_goals
      go_enter Tryd.func7, Tryd.ntmps7
      go_wp2_with fail
      refine (unhide HA _).mono ?_
      rintro e w' ⟨rfl, hb⟩
      go_wp2
      go_ret
      exact ⟨rfl, hb⟩
end Go.Proofs.YtejbnbilbagkmaaDoor
