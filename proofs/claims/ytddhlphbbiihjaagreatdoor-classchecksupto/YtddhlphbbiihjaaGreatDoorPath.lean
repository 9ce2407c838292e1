/-
  jvmcoreref1's without and path.
-/
import Derived.Test.YtddhlphbbiihjaaGreatDoorMgCw
namespace Go.Proofs.YtddhlphbbiihjaaGreatDoor
open Go.RowKit
def withoutB (l cs : List UInt8) : Bool := !l.isEmpty && !hasAny l cs
theorem byte_ne2 {a b : UInt8} (h : a ≠ b) : ((a.toNat : Int) == (b.toNat : Int)) = false := by
  rw [beq_eq_false_iff_ne]
  intro e
  apply h
  have : a.toNat = b.toNat := by omega
  exact UInt8.toNat_inj.1 this
theorem data_at (s : ByteArray) (j : Nat) (hj : j < s.size) : s.data.toList[j]? = some (s[j]'hj) := Lib.data_getElem? s j hj
theorem not_con {c : ByteArray} {b : UInt8} (h : ∀ j b', j < c.size → c.data.toList[j]? = some b' → b' ≠ b) : c.data.toList.contains b = false := by
  cases hc : c.data.toList.contains b with
  | false => rfl
  | true =>
    exfalso
    have hm : b ∈ c.data.toList := by simpa using hc
    obtain ⟨j, hj, e⟩ := List.mem_iff_getElem.1 hm
    have : j < c.size := by simpa using hj
    exact h j b this (by rw [List.getElem?_eq_getElem hj, e]) rfl
set_option maxRecDepth 100000 in
set_option maxHeartbeats 1000000 in
theorem without_any (s c : ByteArray) (w : World) (hs : s.size ≤ 32768) (hc : c.size ≤ 8) :
    Calls Tryz.prog 73 #[.string s, .string c] w fun e w' => e = .returned (.bool (withoutB s.data.toList c.data.toList)) ∧ Below w.heap.size w w' := by
  go_enter Tryz.func73, Tryz.ntmps73
  go_wp2_with fail
  go_loopw [5] (fun x wx => ∃ i : Nat, i ≤ s.size ∧ x = .int .i64 (i : Int) ∧ Hid (Lib.NoAny s.data.toList c.data.toList i) ∧ Below w.heap.size w wx) (fun x _ => s.size - (intOf x).toNat)
  case atStart => exact ⟨0, Nat.zero_le _, rfl, hide (Lib.NoAny.zero _ _), Below.refl _ _⟩
  case round =>
    obtain ⟨i, hi, rfl, HN, hbe⟩ := hrel
    by_cases hlt : i < s.size
    · obtain ⟨b, eb⟩ : ∃ b, b = s[i]'hlt := ⟨_, rfl⟩
      have hb0 : s.data.toList[i]? = some b := by rw [eb]; exact data_at s i hlt
      have Hb := hide hb0
      clear hb0
      have hxi : ∀ h : i < s.size, s[i]'h = b := fun _ => eb.symm
      clear eb
      go_wp2_with fail
      go_loopw [6] (fun x wx => ∃ k : Nat, k ≤ c.size ∧ x = .int .i64 (k : Int) ∧ Hid (∀ j b', j < k → c.data.toList[j]? = some b' → b' ≠ b) ∧ Below w.heap.size w wx) (fun x _ => c.size - (intOf x).toNat)
      case atStart => exact ⟨0, Nat.zero_le _, rfl, hide (fun _ _ h => absurd h (Nat.not_lt_zero _)), hbe⟩
      case round =>
        clear hbe
        obtain ⟨k, hk, rfl, HK, hbe⟩ := hrel
        by_cases hkt : k < c.size
        · obtain ⟨d, ed⟩ : ∃ d, d = c[k]'hkt := ⟨_, rfl⟩
          have hd0 : c.data.toList[k]? = some d := by rw [ed]; exact data_at c k hkt
          have Hd := hide hd0
          have hxk : ∀ h : k < c.size, c[k]'h = d := fun _ => ed.symm
          clear ed hd0
          by_cases hbd : d = b
          · subst hbd
            have hy : withoutB s.data.toList c.data.toList = false := by
              unfold withoutB
              rw [hasAny_yes (unhide Hb) (by simpa using List.mem_of_getElem? (unhide Hd))]
              simp
            have Hy := hide hy
            clear hy
            go_wp2
            go_region
            go_wp2
            go_ret
            exact ⟨by rw [unhide Hy]; rfl, hbe.drew⟩
          · have hne := byte_ne2 (fun e => hbd e.symm)
            have HK2 : Hid (∀ j b', j < k + 1 → c.data.toList[j]? = some b' → b' ≠ b) := fun j b' hj hb' => by
              by_cases e : j = k
              · subst e
                have := (unhide Hd).symm.trans hb'
                cases this
                exact hbd
              · exact unhide HK j b' (by omega) hb'
            clear HK Hd hbd
            go_wp2
            go_region
            go_wp2
            go_roundw
            case rel => exact ⟨k + 1, by omega, by simp, HK2, hbe.drew⟩
            case measure => simp [intOf]; omega
        · obtain rfl : k = c.size := by omega
          have HN2 := hide ((unhide HN).succ (unhide Hb) (not_con (unhide HK)))
          go_wp2
          go_roundw
          case rel => exact ⟨i + 1, by omega, by simp, HN2, hbe⟩
          case measure => simp [intOf]; omega
    · obtain rfl : i = s.size := by omega
      have hn := hasAny_no (l := s.data.toList) (cs := c.data.toList) (by rw [← Lib.size_eq]; exact unhide HN)
      have hy : withoutB s.data.toList c.data.toList = !s.toList.isEmpty := by unfold withoutB; rw [hn, empty_of]; simp
      have Hy := hide hy
      clear hy hn
      go_wp2
      go_ret
      exact ⟨by rw [unhide Hy]; rfl, hbe⟩
theorem seg_data (s : ByteArray) (f i : Nat) : (s.extract f i).data.toList = (s.data.toList.drop f).take (i - f) := by
  simp only [ByteArray.data_extract, Array.toList_extract, List.extract_eq_take_drop]
theorem seg_split {l : List UInt8} {f i : Nat} {b : UInt8} (hf : f ≤ i) (h : l[i]? = some b) : l.drop f = (l.drop f).take (i - f) ++ b :: l.drop (i + 1) := by
  have hi := (List.getElem?_eq_some_iff.1 h).1
  have hb := (List.getElem?_eq_some_iff.1 h).2
  conv => lhs; rw [← List.take_append_drop (i - f) (l.drop f)]
  rw [List.drop_drop, show f + (i - f) = i by omega, List.drop_eq_getElem_cons hi, hb]
theorem seg_snoc {l : List UInt8} {f i : Nat} {b : UInt8} (hf : f ≤ i) (h : l[i]? = some b) : (l.drop f).take (i + 1 - f) = (l.drop f).take (i - f) ++ [b] := by
  have hi := (List.getElem?_eq_some_iff.1 h).1
  rw [show i + 1 - f = (i - f) + 1 by omega, List.take_add_one, List.getElem?_drop, show f + (i - f) = i by omega, h]
  rfl
theorem slice_run (s : ByteArray) (f i : Nat) (hf : f ≤ i) (hi : i ≤ s.size) (W : World) :
    (Instr.sliceAt 9 (.string s) (some (.int .i64 (f : Int))) (some (.int .i64 (i : Int))) none).run Tryz.prog W = .ok (.string (s.extract f i)) W := by
  rw [run_sliceAt_string W 9 _ _ _ _ Tryz.underlying9, run_slice_string]
  · simp
  all_goals first | exact Tryz.underlying9 | omega
/-- What the reference's path knows as it looks at byte i, a part having begun at f. -/
def PathAt (l : List UInt8) (f i : Nat) : Prop := (i ≤ l.length ∧ f ≤ i ∧ (47 : UInt8) ∉ (l.drop f).take (i - f) ∧ pathB l = pathB (l.drop f)) ∨ (i = l.length + 1 ∧ pathB l = true)
set_option maxRecDepth 100000 in
set_option maxHeartbeats 1000000 in
theorem path_any (s : ByteArray) (w : World) (hs : s.size ≤ 32768) :
    Calls Tryz.prog 71 #[.string s] w fun e w' => e = .returned (.bool (pathB s.data.toList)) ∧ Below w.heap.size w w' := by
  have hl : s.data.toList.length = s.size := by simp
  obtain ⟨L, eL⟩ : ∃ L, L = s.data.toList := ⟨_, rfl⟩
  rw [← eL]
  have HL := hide eL
  rw [← eL] at hl
  clear eL
  go_enter Tryz.func71, Tryz.ntmps71
  go_wp2_with fail
  go_loopw [3, 4] (fun x y wx => ∃ f i : Nat, f ≤ s.size + 1 ∧ i ≤ s.size + 1 ∧ x = .int .i64 (f : Int) ∧ y = .int .i64 (i : Int) ∧ Hid (PathAt L f i) ∧ Below w.heap.size w wx) (fun _ y _ => s.size + 1 - (intOf y).toNat)
  case atStart => exact ⟨0, 0, by omega, by omega, rfl, rfl, hide (.inl ⟨by omega, by omega, by simp, rfl⟩), Below.refl _ _⟩
  case round =>
    obtain ⟨f, i, hf1, hi1, rfl, rfl, HP, hbe⟩ := hrel
    by_cases hend : i = s.size + 1
    · subst hend
      have hr : pathB L = true := by
        rcases unhide HP with ⟨h, _⟩ | ⟨_, h⟩
        · omega
        · exact h
      have Hr := hide hr
      clear hr
      go_wp2
      go_ret
      exact ⟨by rw [unhide Hr]; rfl, hbe⟩
    · obtain ⟨hil, hfi, hno, hp⟩ : i ≤ L.length ∧ f ≤ i ∧ (47 : UInt8) ∉ (L.drop f).take (i - f) ∧ pathB L = pathB (L.drop f) := by
        rcases unhide HP with h | ⟨h, _⟩
        · exact h
        · omega
      rw [hl] at hil
      have hfz : (f : Int) ≤ (i : Int) := by omega
      have hiz : (i : Int) ≤ (s.size : Int) := by omega
      have hW := fun W : World => without_any (s.extract f i) ⟨#[46, 59, 91]⟩ W (by simp; omega) (by decide)
      rw [seg_data, ← unhide HL] at hW
      have hWp : withoutB ((L.drop f).take (i - f)) (⟨#[46, 59, 91]⟩ : ByteArray).data.toList = partB ((L.drop f).take (i - f)) := rfl
      rw [hWp] at hW
      have hsr := slice_run s f i hfi hil
      have HW := hide hW
      have Hno := hide hno
      have Hp := hide hp
      clear hW hWp hno hp HP
      by_cases hin : i = s.size
      · subst hin
        have ht : (L.drop f).take (s.size - f) = L.drop f := List.take_of_length_le (by rw [List.length_drop]; omega)
        rw [ht] at HW Hno
        have hpb : pathB L = partB (L.drop f) := by rw [unhide Hp, path_part (unhide Hno)]
        have Hpb := hide hpb
        clear hpb ht Hno Hp
        cases hq : partB (L.drop f) with
        | false =>
          rw [hq] at HW Hpb
          clear hq
          go_wp2_with fail
          refine (unhide HW _).mono ?_
          rintro e w' ⟨rfl, hb⟩
          have hbz := hbe.trans (hb.mono hbe.size)
          go_wp2
          go_ret
          exact ⟨by rw [unhide Hpb]; rfl, hbz⟩
        | true =>
          rw [hq] at HW Hpb
          clear hq
          go_wp2_with fail
          refine (unhide HW _).mono ?_
          rintro e w' ⟨rfl, hb⟩
          have hbz := hbe.trans (hb.mono hbe.size)
          go_wp2
          go_roundw
          case rel => exact ⟨s.size + 1, s.size + 1, by omega, by omega, by simp, by simp, hide (.inr ⟨by omega, unhide Hpb⟩), hbz⟩
          case measure => simp [intOf]
      · have hlt : i < s.size := by omega
        have hne : ((i : Int) == (s.size : Int)) = false := by rw [beq_eq_false_iff_ne]; omega
        obtain ⟨b, eb⟩ : ∃ b, b = s[i]'hlt := ⟨_, rfl⟩
        have hb0 : L[i]? = some b := by rw [unhide HL, eb]; exact data_at s i hlt
        have Hb := hide hb0
        have hxi : ∀ h : i < s.size, s[i]'h = b := fun _ => eb.symm
        clear eb hb0
        by_cases hsl : b = 47
        · subst hsl
          have hpb : pathB L = (partB ((L.drop f).take (i - f)) && pathB (L.drop (i + 1))) := by
            rw [unhide Hp]
            conv => lhs; rw [seg_split hfi (unhide Hb)]
            rw [path_slash (unhide Hno)]
          have Hpb := hide hpb
          clear hpb Hno Hp
          cases hq : partB ((L.drop f).take (i - f)) with
          | false =>
            rw [hq] at HW Hpb
            clear hq
            go_wp2_with fail
            refine (unhide HW _).mono ?_
            rintro e w' ⟨rfl, hb⟩
            have hbz := hbe.trans (hb.mono hbe.size)
            go_wp2
            go_ret
            exact ⟨by rw [unhide Hpb]; rfl, hbz⟩
          | true =>
            rw [hq] at HW Hpb
            clear hq
            go_wp2_with fail
            refine (unhide HW _).mono ?_
            rintro e w' ⟨rfl, hb⟩
            have hbz := hbe.trans (hb.mono hbe.size)
            go_wp2
            go_roundw
            case rel => exact ⟨i + 1, i + 1, by omega, by omega, by simp, by simp, hide (.inl ⟨by omega, by omega, by simp, by rw [unhide Hpb]; rfl⟩), hbz⟩
            case measure => simp [intOf]; omega
        · have f47 := byte_ne (n := 47) (by omega) hsl
          have hno2 : (47 : UInt8) ∉ (L.drop f).take (i + 1 - f) := by
            rw [seg_snoc hfi (unhide Hb)]
            intro m
            rcases List.mem_append.1 m with m | m
            · exact unhide Hno m
            · exact hsl (List.mem_singleton.1 m).symm
          have HP2 : Hid (PathAt L f (i + 1)) := hide (.inl ⟨by omega, by omega, hno2, unhide Hp⟩)
          clear hno2 Hno Hp hsl HW
          go_wp2
          go_roundw
          case rel => exact ⟨f, i + 1, by omega, by omega, rfl, by simp, HP2, hbe⟩
          case measure => simp [intOf]; omega
end Go.Proofs.YtddhlphbbiihjaaGreatDoor
