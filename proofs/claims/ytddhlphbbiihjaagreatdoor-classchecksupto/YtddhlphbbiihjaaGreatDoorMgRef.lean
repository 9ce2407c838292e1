/-
  jvmcoreref1's one.
  jvmcoreref1's Field, Class and Member.
-/
import Derived.Test.YtddhlphbbiihjaaGreatDoorPath
namespace Go.Proofs.YtddhlphbbiihjaaGreatDoor
open Go.RowKit
theorem bytes_ext {a b : ByteArray} (h : a.data.toList = b.data.toList) : a = b := by
  cases a; cases b; simp only [Array.toList_inj] at h; subst h; rfl
theorem slice_to (s : ByteArray) (i : Nat) (hi : i ≤ s.size) (W : World) :
    (Instr.sliceAt 9 (.string s) none (some (.int .i64 (i : Int))) none).run Tryz.prog W = .ok (.string (s.extract 0 i)) W := by
  rw [run_sliceAt_string W 9 _ _ _ _ Tryz.underlying9, run_slice_string_h]
  · simp
  all_goals first | exact Tryz.underlying9 | omega
theorem slice_from (s : ByteArray) (i : Nat) (hi : i ≤ s.size) (W : World) :
    (Instr.sliceAt 9 (.string s) (some (.int .i64 (i : Int))) none none).run Tryz.prog W = .ok (.string (s.extract i s.size)) W := by
  rw [run_sliceAt_string W 9 _ _ _ _ Tryz.underlying9, run_slice_string_l]
  · simp
  all_goals first | exact Tryz.underlying9 | omega
/-- What the reference's one gives. -/
def OneRes (l : List UInt8) (k : Nat) (e : Ending) : Prop :=
  if k + dims l ≤ 255 ∧ elemLen (l.drop (dims l)) ≠ 0 then e = .returned (.tuple #[.string ⟨(l.take (dims l + elemLen (l.drop (dims l)))).toArray⟩, .string ⟨(l.drop (dims l + elemLen (l.drop (dims l)))).toArray⟩, .bool true])
  else ∃ t r : ByteArray, t.size ≤ l.length ∧ e = .returned (.tuple #[.string t, .string r, .bool false])
set_option maxRecDepth 100000 in
set_option maxHeartbeats 2000000 in
theorem one_any : ∀ (n : Nat) (s : ByteArray) (k : Nat) (w : World), s.size = n → n ≤ 32768 → k ≤ 65536 →
    Calls Tryz.prog 72 #[.string s, .int .i64 (k : Int)] w fun e w' => OneRes s.data.toList k e ∧ Below w.heap.size w w' := by
  intro n
  induction n with
  | zero =>
    intro s k w hs _ hk
    have hl : s.data.toList = [] := by
      have : s.data.toList.length = s.size := by simp
      exact List.length_eq_zero_iff.1 (by omega)
    have hemp : s.toList.isEmpty = true := by rw [empty_of, hl]; rfl
    rw [hl]
    have HR : Hid (∀ t r : ByteArray, t.size ≤ 0 → OneRes [] k (.returned (.tuple #[.string t, .string r, .bool false]))) := fun t r ht => by
      unfold OneRes
      rw [if_neg (by simp [elemLen])]
      exact ⟨t, r, ht, rfl⟩
    clear hl
    go_enter Tryz.func72, Tryz.ntmps72
    go_wp2
    go_ret3
    exact ⟨unhide HR _ _ (Nat.zero_le _), Below.refl _ _⟩
  | succ n ih =>
    intro s k w hs hn hk
    have hsl : s.data.toList.length = s.size := by simp
    obtain ⟨b, r, hl⟩ : ∃ b r, s.data.toList = b :: r := by
      cases h : s.data.toList with
      | nil => rw [h] at hsl; simp at hsl; omega
      | cons b r => exact ⟨b, r, rfl⟩
    have hrl : r.length = n := by rw [hl] at hsl; simp at hsl; omega
    have hemp : s.toList.isEmpty = false := by rw [empty_of, hl]; rfl
    have ha0 := at0 hl
    have hx1 := ext1 hl
    have hsp : 0 < s.size := by omega
    have hsz : s.size ≤ 32768 := by omega
    rw [hl]
    have Hl := hide hl
    have Hx1 := hide hx1
    have Hih := hide ih
    have hxz : (s.extract 1 s.size).size = n := by simp; omega
    have Hxz := hide hxz
    have hs1 : s.size ≤ n + 1 := by omega
    have hs2 : n + 1 ≤ s.size := by omega
    clear hl hx1 ih hsl hxz hs
    have HF : Hid ((¬ (k + dims (b :: r) ≤ 255 ∧ elemLen ((b :: r).drop (dims (b :: r))) ≠ 0)) → ∀ t u : ByteArray, t.size ≤ n + 1 → OneRes (b :: r) k (.returned (.tuple #[.string t, .string u, .bool false]))) := fun h t u ht => by
      unfold OneRes
      rw [if_neg h]
      exact ⟨t, u, by rw [List.length_cons, hrl]; exact ht, rfl⟩
    by_cases hbig : 255 < k
    · have HR := hide (unhide HF (by omega))
      clear HF
      have hki : (255 : Int) < (k : Int) := by omega
      go_enter Tryz.func72, Tryz.ntmps72
      go_wp2
      go_ret3
      exact ⟨unhide HR _ _ (Nat.zero_le _), Below.refl _ _⟩
    · have hki : ¬ ((255 : Int) < (k : Int)) := by omega
      have hk255 : k ≤ 255 := by omega
      clear hbig hk
      by_cases hp : prim b = true
      · have hb91 : b ≠ 91 := fun e => by subst e; revert hp; decide
        have HR : Hid (OneRes (b :: r) k (.returned (.tuple #[.string (s.extract 0 1), .string (s.extract 1 s.size), .bool true]))) := by
          show OneRes _ _ _
          unfold OneRes
          rw [dims_other hb91, List.drop_zero, elem_prim hp, if_pos (by omega)]
          have e1 : s.extract 0 1 = ⟨((b :: r).take 1).toArray⟩ := by
            rw [← unhide Hl]; exact bytes_ext (by rw [seg_data, data_of, List.drop_zero])
          have e2 : s.extract 1 s.size = ⟨((b :: r).drop 1).toArray⟩ := bytes_ext (by rw [unhide Hx1, data_of]; rfl)
          rw [e1, e2]
        have q1 := slice_to s 1 (by omega)
        have q2 := slice_from s 1 (by omega)
        clear HF Hx1 Hl Hih
        rcases prim_cases hp with rfl | rfl | rfl | rfl | rfl | rfl | rfl | rfl
        all_goals
          clear hp hb91
          go_enter Tryz.func72, Tryz.ntmps72
          go_wp2
          go_region
          go_wp2
          go_ret3
          exact ⟨unhide HR, (Below.refl _ _).drew⟩
      · have hp' : prim b = false := by simpa using hp
        obtain ⟨p1, p2, p3, p4, p5, p6, p7, p8⟩ := prim_not hp'
        have f1 := byte_ne (n := 66) (by omega) p1
        have f2 := byte_ne (n := 67) (by omega) p2
        have f3 := byte_ne (n := 68) (by omega) p3
        have f4 := byte_ne (n := 70) (by omega) p4
        have f5 := byte_ne (n := 73) (by omega) p5
        have f6 := byte_ne (n := 74) (by omega) p6
        have f7 := byte_ne (n := 83) (by omega) p7
        have f8 := byte_ne (n := 90) (by omega) p8
        clear p1 p2 p3 p4 p5 p6 p7 p8 hp
        by_cases h91 : b = 91
        · subst h91
          clear f1 f2 f3 f4 f5 f6 f7 f8 hp'
          have hI := fun W : World => unhide Hih (s.extract 1 s.size) (k + 1) W (unhide Hxz) (by omega) (by omega)
          rw [unhide Hx1] at hI
          have hcast : ((k + 1 : Nat) : Int) = (k : Int) + 1 := by omega
          rw [hcast] at hI
          have HI := hide hI
          have q2 := slice_from s 1 (by omega)
          have hwr : IntKind.i64.wrap ((k : Int) + 1) = (k : Int) + 1 := by rw [IntKind.wrap_i64, Int.emod_eq_of_lt (by omega) (by omega)]; omega
          clear hI hcast Hih HF
          go_enter Tryz.func72, Tryz.ntmps72
          go_wp2_with fail
          refine (unhide HI _).mono ?_
          rintro e w' ⟨hone, hb⟩
          unfold OneRes at hone
          by_cases hc : k + 1 + dims r ≤ 255 ∧ elemLen (r.drop (dims r)) ≠ 0
          · rw [if_pos hc] at hone
            subst hone
            have HR : Hid (∀ t : ByteArray, t.data.toList = 91 :: r.take (dims r + elemLen (r.drop (dims r))) → OneRes (91 :: r) k (.returned (.tuple #[.string t, .string ⟨(r.drop (dims r + elemLen (r.drop (dims r)))).toArray⟩, .bool true]))) := fun t ht => by
              show OneRes _ _ _
              unfold OneRes
              rw [dims_cons, List.drop_succ_cons, if_pos (by omega), show dims r + 1 + elemLen (r.drop (dims r)) = (dims r + elemLen (r.drop (dims r))) + 1 by omega, List.take_succ_cons, List.drop_succ_cons]
              rw [show t = ⟨(91 :: r.take (dims r + elemLen (r.drop (dims r)))).toArray⟩ from bytes_ext (by rw [ht, data_of])]
            obtain ⟨T, eT⟩ : ∃ T, T = r.take (dims r + elemLen (r.drop (dims r))) := ⟨_, rfl⟩
            obtain ⟨R, eR⟩ : ∃ R, R = r.drop (dims r + elemLen (r.drop (dims r))) := ⟨_, rfl⟩
            rw [← eT] at HR ⊢
            rw [← eR] at HR ⊢
            have hTl : T.length ≤ 32768 := by rw [eT, List.length_take]; omega
            clear hc eT eR
            go_wp2
            go_ret3
            exact ⟨unhide HR _ (by simp), hb⟩
          · rw [if_neg hc] at hone
            obtain ⟨t, u, htz, rfl⟩ := hone
            have htl : t.size ≤ 32768 := by omega
            have HR : Hid (∀ t u : ByteArray, t.size ≤ n + 1 → OneRes (91 :: r) k (.returned (.tuple #[.string t, .string u, .bool false]))) := fun t u ht => by
              show OneRes _ _ _
              unfold OneRes
              rw [dims_cons, List.drop_succ_cons, if_neg (by omega)]
              exact ⟨t, u, by rw [List.length_cons, hrl]; exact ht, rfl⟩
            clear hc
            rw [hrl] at htz
            go_wp2
            go_ret3
            exact ⟨unhide HR _ _ (by rw [ByteArray.size_append]; show 1 + t.size ≤ _; omega), hb⟩
        · have f9 := byte_ne (n := 91) (by omega) h91
          by_cases hL : b = 76
          · subst hL
            clear f1 f2 f3 f4 f5 f6 f7 f8 f9 h91 hp' Hih
            have hd0 : dims (76 :: r) = 0 := dims_other (by decide)
            have Hd0 := hide hd0
            clear hd0
            go_enter Tryz.func72, Tryz.ntmps72
            go_wp2_with fail
            go_loopw [10] (fun x wx => ∃ i : Nat, 1 ≤ i ∧ i ≤ s.size ∧ x = .int .i64 (i : Int) ∧ Hid ((59 : UInt8) ∉ r.take (i - 1)) ∧ Below w.heap.size w wx) (fun x _ => s.size - (intOf x).toNat)
            case atStart => exact ⟨1, by omega, by omega, rfl, hide (by simp), Below.refl _ _⟩
            case round =>
              obtain ⟨i, h1i, his, rfl, Hno, hbe⟩ := hrel
              by_cases hlt : i < s.size
              · obtain ⟨d, ed⟩ : ∃ d, d = s[i]'hlt := ⟨_, rfl⟩
                have hd1 : (76 :: r)[i]? = some d := by rw [← unhide Hl, ed]; exact data_at s i hlt
                have hd2 : r[i - 1]? = some d := by
                  obtain ⟨i', rfl⟩ : ∃ i', i = i' + 1 := ⟨i - 1, by omega⟩
                  simpa using hd1
                have Hd2 := hide hd2
                have hxi : ∀ h : i < s.size, s[i]'h = d := fun _ => ed.symm
                clear ed hd1 hd2
                have hsplit := seg_split (l := r) (f := 0) (i := i - 1) (Nat.zero_le _) (unhide Hd2)
                rw [List.drop_zero, Nat.sub_zero, show i - 1 + 1 = i by omega] at hsplit
                have Hsplit := hide hsplit
                clear hsplit
                by_cases hsc : d = 59
                · subst hsc
                  have hel := elem_name (p := r.take (i - 1)) (r := r.drop i) (unhide Hno)
                  rw [← unhide Hsplit] at hel
                  have htl : (r.take (i - 1)).length = i - 1 := by rw [List.length_take]; omega
                  rw [htl] at hel
                  have hseg : (s.extract 1 i).data.toList = r.take (i - 1) := by rw [seg_data, unhide Hl]; rfl
                  have hP := fun W : World => path_any (s.extract 1 i) W (by simp; omega)
                  rw [hseg] at hP
                  have HP := hide hP
                  have Hel := hide hel
                  have q1 := slice_to s (i + 1) (by omega)
                  have q2 := slice_from s (i + 1) (by omega)
                  have q3 := slice_run s 1 i h1i his
                  have hcast : ((i + 1 : Nat) : Int) = (i : Int) + 1 := by omega
                  rw [hcast] at q1 q2
                  have hwr : IntKind.i64.wrap ((i : Int) + 1) = (i : Int) + 1 := by rw [IntKind.wrap_i64, Int.emod_eq_of_lt (by omega) (by omega)]; omega
                  have HR : Hid (OneRes (76 :: r) k (.returned (.tuple #[.string (s.extract 0 (i + 1)), .string (s.extract (i + 1) s.size), .bool (pathB (r.take (i - 1)))]))) := by
                    show OneRes _ _ _
                    cases hpb : pathB (r.take (i - 1)) with
                    | false =>
                      have he0 : elemLen (76 :: r) = 0 := by rw [unhide Hel, hpb]; rfl
                      exact unhide HF (by rw [unhide Hd0, List.drop_zero, he0]; omega) _ _ (by simp; omega)
                    | true =>
                      have he0 : elemLen (76 :: r) = i + 1 := by rw [unhide Hel, hpb]; simp; omega
                      unfold OneRes
                      rw [unhide Hd0, List.drop_zero, he0, if_pos (by omega), Nat.zero_add]
                      have e1 : s.extract 0 (i + 1) = ⟨((76 :: r).take (i + 1)).toArray⟩ := bytes_ext (by rw [seg_data, data_of, unhide Hl, List.drop_zero]; rfl)
                      have e2 : s.extract (i + 1) s.size = ⟨((76 :: r).drop (i + 1)).toArray⟩ := bytes_ext (by
                        rw [seg_data, data_of, ← unhide Hl]
                        exact List.take_of_length_le (by simp))
                      rw [e1, e2]
                  generalize pathB (r.take (i - 1)) = pb at HP HR
                  clear hP hel htl hseg hcast Hel HF Hno Hsplit Hd2 Hx1 Hxz Hl Hd0
                  go_wp2
                  go_region_with (go_at_call 71; refine (unhide HP _).mono ?_; rintro e w' ⟨rfl, hb⟩)
                  go_wp2
                  go_ret3
                  exact ⟨unhide HR, hbe.drew.trans (hb.mono hbe.drew.size)⟩
                · have f59 := byte_ne (n := 59) (by omega) hsc
                  have Hno2 : Hid ((59 : UInt8) ∉ r.take (i + 1 - 1)) := by
                    have := seg_snoc (l := r) (f := 0) (i := i - 1) (Nat.zero_le _) (unhide Hd2)
                    rw [List.drop_zero, Nat.sub_zero, Nat.sub_zero, show i - 1 + 1 = i + 1 - 1 by omega] at this
                    show ¬ _
                    rw [this]
                    intro m
                    rcases List.mem_append.1 m with m | m
                    · exact unhide Hno m
                    · exact hsc (List.mem_singleton.1 m).symm
                  clear hsc Hsplit Hd2 Hno HF Hx1 Hxz Hl
                  go_wp2
                  go_roundw
                  case rel => exact ⟨i + 1, by omega, by omega, by simp, Hno2, hbe⟩
                  case measure => simp [intOf]; omega
              · obtain rfl : i = s.size := by omega
                have hno2 : (59 : UInt8) ∉ r := by
                  have := unhide Hno
                  rw [List.take_of_length_le (by have := unhide Hxz; simp at this; omega)] at this
                  exact this
                have HR := hide (unhide HF (by rw [unhide Hd0, List.drop_zero, elem_none hno2]; omega))
                clear HF hno2 Hno Hd0
                go_wp2
                go_ret3
                exact ⟨unhide HR _ _ (Nat.zero_le _), hbe⟩
          · have f10 := byte_ne (n := 76) (by omega) hL
            have HR := hide (unhide HF (by rw [dims_other h91, List.drop_zero, elem_other hp' hL]; omega))
            clear HF hp' hL h91 Hih
            go_enter Tryz.func72, Tryz.ntmps72
            go_wp2
            go_ret3
            exact ⟨unhide HR _ _ (Nat.zero_le _), Below.refl _ _⟩
end Go.Proofs.YtddhlphbbiihjaaGreatDoor
namespace Go.Proofs.YtddhlphbbiihjaaGreatDoor
open Go.RowKit
theorem OneRes.cases {l : List UInt8} {e : Ending} (h : OneRes l 0 e) : (valLen l ≠ 0 ∧ e = .returned (.tuple #[.string ⟨(l.take (valLen l)).toArray⟩, .string ⟨(l.drop (valLen l)).toArray⟩, .bool true])) ∨
    (valLen l = 0 ∧ ∃ t r : ByteArray, e = .returned (.tuple #[.string t, .string r, .bool false])) := by
  unfold OneRes at h
  unfold valLen
  by_cases hc : dims l ≤ 255 ∧ elemLen (l.drop (dims l)) ≠ 0
  · rw [if_pos (by omega)] at h
    rw [if_pos hc]
    exact .inl ⟨by omega, h⟩
  · rw [if_neg (by omega)] at h
    rw [if_neg hc]
    obtain ⟨t, r, _, h⟩ := h
    exact .inr ⟨rfl, t, r, h⟩
theorem toList_mk (l : List UInt8) : (⟨l.toArray⟩ : ByteArray).toList = l := by rw [Lib.toList_data]
set_option maxRecDepth 100000 in
set_option maxHeartbeats 1000000 in
theorem RField_any (s : ByteArray) (w : World) (hs : s.size ≤ 32768) :
    Calls Tryz.prog 43 #[.string s] w fun e w' => e = .returned (.bool (fieldB s.data.toList)) ∧ Below w.heap.size w w' := by
  have hl : s.data.toList.length = s.size := by simp
  have hO := one_any s.size s 0 w rfl hs (by omega)
  have hle := val_le s.data.toList
  have hz : ((0 : Nat) : Int) = 0 := rfl
  rw [hz] at hO
  have HO := hide hO
  clear hO hz
  obtain ⟨L, eL⟩ : ∃ L, L = s.data.toList := ⟨_, rfl⟩
  rw [← eL] at HO hl hle ⊢
  clear eL
  go_enter Tryz.func43, Tryz.ntmps43
  go_wp2_with fail
  refine (unhide HO).mono ?_
  rintro e w' ⟨h1, hb⟩
  rcases h1.cases with ⟨hv, rfl⟩ | ⟨hv, t, r, rfl⟩
  · have hf : fieldB L = (L.drop (valLen L)).isEmpty := by
      have hne : L.isEmpty = false := by
        cases L with
        | nil => exact absurd rfl hv
        | cons _ _ => rfl
      unfold fieldB
      rw [hne, Bool.not_false, Bool.true_and, Bool.eq_iff_iff, decide_eq_true_iff, List.isEmpty_iff, List.drop_eq_nil_iff]
      omega
    have Hf := hide hf
    have htl := toList_mk (L.drop (valLen L))
    generalize L.drop (valLen L) = R at *
    generalize L.take (valLen L) = T at *
    clear hf h1 hv hl hle HO
    cases hR : R.isEmpty with
    | true =>
      rw [hR] at Hf
      go_wp2
      go_ret
      exact ⟨by rw [unhide Hf]; rfl, hb⟩
    | false =>
      rw [hR] at Hf
      go_wp2
      go_ret
      exact ⟨by rw [unhide Hf]; rfl, hb⟩
  · have hf : fieldB L = false := by
      unfold fieldB
      cases hL : L with
      | nil => rfl
      | cons b r => rw [← hL, hv, hL]; rfl
    have Hf := hide hf
    clear hf h1 hv hl hle HO
    go_wp2
    go_ret
    exact ⟨by rw [unhide Hf]; rfl, hb⟩
set_option maxRecDepth 100000 in
set_option maxHeartbeats 1000000 in
theorem RClass_any (s : ByteArray) (w : World) (hs : s.size ≤ 32768) :
    Calls Tryz.prog 40 #[.string s] w fun e w' => e = .returned (.bool (classB s.data.toList)) ∧ Below w.heap.size w w' := by
  have hF := RField_any s w hs
  have hP := path_any s w hs
  have HF := hide hF
  have HP := hide hP
  clear hF hP
  cases hl : s.data.toList with
  | nil =>
    have hemp : s.toList.isEmpty = true := by rw [empty_of, hl]; rfl
    rw [hl] at HP
    clear hl HF
    go_enter Tryz.func40, Tryz.ntmps40
    go_wp2_with fail
    refine (unhide HP).mono ?_
    rintro e w' ⟨rfl, hb⟩
    go_wp2
    go_ret
    exact ⟨rfl, hb⟩
  | cons b r =>
    have hemp : s.toList.isEmpty = false := by rw [empty_of, hl]; rfl
    have ha0 := at0 hl
    have hsz : 0 < s.size := by
      have : s.data.toList.length = s.size := by simp
      rw [hl] at this; simp at this; omega
    rw [hl] at HP HF
    by_cases h91 : b = 91
    · subst h91
      have hc : classB (91 :: r) = fieldB (91 :: r) := rfl
      rw [hc]
      clear hl HP hc
      go_enter Tryz.func40, Tryz.ntmps40
      go_wp2_with fail
      refine (unhide HF).mono ?_
      rintro e w' ⟨rfl, hb⟩
      go_wp2
      go_ret
      exact ⟨rfl, hb⟩
    · have hc : classB (b :: r) = pathB (b :: r) := by
        unfold classB
        rw [if_neg]
        simp [List.isPrefixOf]
        exact fun e => h91 e.symm
      have f91 := byte_ne (n := 91) (by omega) h91
      rw [hc]
      clear hl HF hc
      go_enter Tryz.func40, Tryz.ntmps40
      go_wp2_with fail
      refine (unhide HP).mono ?_
      rintro e w' ⟨rfl, hb⟩
      go_wp2
      go_ret
      exact ⟨rfl, hb⟩
set_option maxRecDepth 100000 in
set_option maxHeartbeats 1000000 in
theorem RMember_any (s : ByteArray) (m : Bool) (w : World) (hs : s.size ≤ 32768) :
    Calls Tryz.prog 42 #[.string s, .bool m] w fun e w' => e = .returned (.int .i64 (memB s.data.toList m : Nat)) ∧ Below w.heap.size w w' := by
  have hA := fun W : World => without_any s ⟨#[46, 59, 91, 47]⟩ W hs (by decide)
  have hB := fun W : World => without_any s ⟨#[60, 62]⟩ W hs (by decide)
  have hp : withoutB s.data.toList (⟨#[46, 59, 91, 47]⟩ : ByteArray).data.toList = partM s.data.toList := rfl
  have hq : withoutB s.data.toList (⟨#[60, 62]⟩ : ByteArray).data.toList = (!s.data.toList.isEmpty && !hasAny s.data.toList [60, 62]) := rfl
  rw [hp] at hA
  rw [hq] at hB
  clear hp hq
  obtain ⟨z, ez⟩ : ∃ z, z = memB s.data.toList m := ⟨_, rfl⟩
  rw [← ez]
  unfold memB at ez
  have He := hide ez
  clear ez
  cases m with
  | true =>
    by_cases h1 : s.data.toList = initB
    · have hz : z = 2 := by rw [unhide He, h1]; decide
      subst hz
      have hs2 : s = ⟨#[60, 105, 110, 105, 116, 62]⟩ := by
        have : s.data = #[60, 105, 110, 105, 116, 62] := by rw [← Array.toList_inj]; exact h1
        cases s; simp_all
      subst hs2
      clear He h1 hA hB
      go_enter Tryz.func42, Tryz.ntmps42
      go_wp2
      go_ret
      exact ⟨rfl, Below.refl _ _⟩
    · by_cases h2 : s.data.toList = clinitB
      · have hz : z = 3 := by rw [unhide He, h2]; decide
        subst hz
        have hs2 : s = ⟨#[60, 99, 108, 105, 110, 105, 116, 62]⟩ := by
          have : s.data = #[60, 99, 108, 105, 110, 105, 116, 62] := by rw [← Array.toList_inj]; exact h2
          cases s; simp_all
        subst hs2
        clear He h1 h2 hA hB
        go_enter Tryz.func42, Tryz.ntmps42
        go_wp2
        go_ret
        exact ⟨rfl, Below.refl _ _⟩
      · have hz : z = if partM s.data.toList = false then 0 else if hasAny s.data.toList [60, 62] then 0 else 1 := by rw [unhide He]; simp [h1, h2]
        have n1 : (s.toList == [60, 105, 110, 105, 116, 62]) = false := by rw [Lib.toList_data, beq_eq_false_iff_ne]; exact h1
        have n2 : (s.toList == [60, 99, 108, 105, 110, 105, 116, 62]) = false := by rw [Lib.toList_data, beq_eq_false_iff_ne]; exact h2
        clear He h1 h2
        have hne : partM s.data.toList = true → s.data.toList.isEmpty = false := fun h => by
          unfold partM at h
          cases hE : s.data.toList.isEmpty with
          | false => rfl
          | true => rw [hE] at h; cases h
        generalize partM s.data.toList = p at hA hz hne
        cases p with
        | false =>
          have HA := hide hA
          clear hA hB hne
          subst hz
          go_enter Tryz.func42, Tryz.ntmps42
          go_wp2_with fail
          refine (unhide HA _).mono ?_
          rintro e w' ⟨rfl, hb⟩
          go_wp2
          go_ret
          exact ⟨rfl, hb⟩
        | true =>
          rw [hne rfl] at hB
          generalize hasAny s.data.toList [60, 62] = q at hB hz
          have HA := hide hA
          have HB := hide hB
          clear hA hB hne
          subst hz
          cases q
          all_goals
            go_enter Tryz.func42, Tryz.ntmps42
            go_wp2_with fail
            refine (unhide HA _).mono ?_
            rintro e w' ⟨rfl, hb⟩
            go_wp2_with fail
            refine (unhide HB _).mono ?_
            rintro e w2 ⟨rfl, hb2⟩
            have hbz := hb.trans (hb2.mono hb.size)
            go_wp2
            go_ret
            exact ⟨rfl, hbz⟩
  | false =>
    have hz : z = if partM s.data.toList = false then 0 else 1 := by rw [unhide He]; simp
    generalize partM s.data.toList = p at hA hz
    have HA := hide hA
    clear He hA hB
    subst hz
    cases p
    all_goals
      go_enter Tryz.func42, Tryz.ntmps42
      go_wp2_with fail
      refine (unhide HA _).mono ?_
      rintro e w' ⟨rfl, hb⟩
      go_wp2
      go_ret
      exact ⟨rfl, hb⟩
end Go.Proofs.YtddhlphbbiihjaaGreatDoor
