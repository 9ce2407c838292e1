/-
  Descriptors of longer texts: Method and Slots, of both.
-/
import Derived.Test.YtddhlphbbiihjaaGreatDoorMgCw
import Derived.Test.YtddhlphbbiihjaaGreatDoorShelf
set_option linter.unusedVariables false
set_option linter.unusedSimpArgs false
namespace Go.Proofs.YtddhlphbbiihjaaGreatDoor.W
open Go.RowKit
def withoutB (l cs : List UInt8) : Bool := !l.isEmpty && !hasAny l cs
theorem byte_ne2 {a b : UInt8} (h : a ≠ b) : ((a.toNat : Int) == (b.toNat : Int)) = false := by
  rw [beq_eq_false_iff_ne]
  intro e
  apply h
  have : a.toNat = b.toNat := by omega
  exact UInt8.toNat_inj.1 this
theorem data_at (s : ByteArray) (j : Nat) (hj : j < s.size) : s.data.toList[j]? = some (s[j]'hj) := Lib.data_getElem? s j hj
theorem not_con {c : ByteArray} {b : UInt8} (h : ∀ j b', j < c.size → c.data.toList[j]? = some b' → b' ≠ b) : c.data.toList.contains b = false := by
  cases hc : c.data.toList.contains b with
  | false => rfl
  | true =>
    exfalso
    have hm : b ∈ c.data.toList := by simpa using hc
    obtain ⟨j, hj, e⟩ := List.mem_iff_getElem.1 hm
    have : j < c.size := by simpa using hj
    exact h j b this (by rw [List.getElem?_eq_getElem hj, e]) rfl
set_option maxRecDepth 100000 in
set_option maxHeartbeats 1000000 in
theorem without_any (s c : ByteArray) (w : World) (hs : s.size ≤ 1048576) (hc : c.size ≤ 8) :
    Calls Tryz.prog 73 #[.string s, .string c] w fun e w' => e = .returned (.bool (withoutB s.data.toList c.data.toList)) ∧ Below w.heap.size w w' := by
  go_enter Tryz.func73, Tryz.ntmps73
  go_wp2_with fail
  go_loopw [5] (fun x wx => ∃ i : Nat, i ≤ s.size ∧ x = .int .i64 (i : Int) ∧ Hid (Lib.NoAny s.data.toList c.data.toList i) ∧ Below w.heap.size w wx) (fun x _ => s.size - (intOf x).toNat)
  case atStart => exact ⟨0, Nat.zero_le _, rfl, hide (Lib.NoAny.zero _ _), Below.refl _ _⟩
  case round =>
    obtain ⟨i, hi, rfl, HN, hbe⟩ := hrel
    by_cases hlt : i < s.size
    · obtain ⟨b, eb⟩ : ∃ b, b = s[i]'hlt := ⟨_, rfl⟩
      have hb0 : s.data.toList[i]? = some b := by rw [eb]; exact data_at s i hlt
      have Hb := hide hb0
      clear hb0
      have hxi : ∀ h : i < s.size, s[i]'h = b := fun _ => eb.symm
      clear eb
      go_wp2_with fail
      go_loopw [6] (fun x wx => ∃ k : Nat, k ≤ c.size ∧ x = .int .i64 (k : Int) ∧ Hid (∀ j b', j < k → c.data.toList[j]? = some b' → b' ≠ b) ∧ Below w.heap.size w wx) (fun x _ => c.size - (intOf x).toNat)
      case atStart => exact ⟨0, Nat.zero_le _, rfl, hide (fun _ _ h => absurd h (Nat.not_lt_zero _)), hbe⟩
      case round =>
        clear hbe
        obtain ⟨k, hk, rfl, HK, hbe⟩ := hrel
        by_cases hkt : k < c.size
        · obtain ⟨d, ed⟩ : ∃ d, d = c[k]'hkt := ⟨_, rfl⟩
          have hd0 : c.data.toList[k]? = some d := by rw [ed]; exact data_at c k hkt
          have Hd := hide hd0
          have hxk : ∀ h : k < c.size, c[k]'h = d := fun _ => ed.symm
          clear ed hd0
          by_cases hbd : d = b
          · subst hbd
            have hy : withoutB s.data.toList c.data.toList = false := by
              unfold withoutB
              rw [hasAny_yes (unhide Hb) (by simpa using List.mem_of_getElem? (unhide Hd))]
              simp
            have Hy := hide hy
            clear hy
            go_wp2
            go_region
            go_wp2
            go_ret
            exact ⟨by rw [unhide Hy]; rfl, hbe.drew⟩
          · have hne := byte_ne2 (fun e => hbd e.symm)
            have HK2 : Hid (∀ j b', j < k + 1 → c.data.toList[j]? = some b' → b' ≠ b) := fun j b' hj hb' => by
              by_cases e : j = k
              · subst e
                have := (unhide Hd).symm.trans hb'
                cases this
                exact hbd
              · exact unhide HK j b' (by omega) hb'
            clear HK Hd hbd
            go_wp2
            go_region
            go_wp2
            go_roundw
            case rel => exact ⟨k + 1, by omega, by simp, HK2, hbe.drew⟩
            case measure => simp [intOf]; omega
        · obtain rfl : k = c.size := by omega
          have HN2 := hide ((unhide HN).succ (unhide Hb) (not_con (unhide HK)))
          go_wp2
          go_roundw
          case rel => exact ⟨i + 1, by omega, by simp, HN2, hbe⟩
          case measure => simp [intOf]; omega
    · obtain rfl : i = s.size := by omega
      have hn := hasAny_no (l := s.data.toList) (cs := c.data.toList) (by rw [← Lib.size_eq]; exact unhide HN)
      have hy : withoutB s.data.toList c.data.toList = !s.toList.isEmpty := by unfold withoutB; rw [hn, empty_of]; simp
      have Hy := hide hy
      clear hy hn
      go_wp2
      go_ret
      exact ⟨by rw [unhide Hy]; rfl, hbe⟩
theorem seg_data (s : ByteArray) (f i : Nat) : (s.extract f i).data.toList = (s.data.toList.drop f).take (i - f) := by
  simp only [ByteArray.data_extract, Array.toList_extract, List.extract_eq_take_drop]
theorem seg_split {l : List UInt8} {f i : Nat} {b : UInt8} (hf : f ≤ i) (h : l[i]? = some b) : l.drop f = (l.drop f).take (i - f) ++ b :: l.drop (i + 1) := by
  have hi := (List.getElem?_eq_some_iff.1 h).1
  have hb := (List.getElem?_eq_some_iff.1 h).2
  conv => lhs; rw [← List.take_append_drop (i - f) (l.drop f)]
  rw [List.drop_drop, show f + (i - f) = i by omega, List.drop_eq_getElem_cons hi, hb]
theorem seg_snoc {l : List UInt8} {f i : Nat} {b : UInt8} (hf : f ≤ i) (h : l[i]? = some b) : (l.drop f).take (i + 1 - f) = (l.drop f).take (i - f) ++ [b] := by
  have hi := (List.getElem?_eq_some_iff.1 h).1
  rw [show i + 1 - f = (i - f) + 1 by omega, List.take_add_one, List.getElem?_drop, show f + (i - f) = i by omega, h]
  rfl
theorem slice_run (s : ByteArray) (f i : Nat) (hf : f ≤ i) (hi : i ≤ s.size) (W : World) :
    (Instr.sliceAt 9 (.string s) (some (.int .i64 (f : Int))) (some (.int .i64 (i : Int))) none).run Tryz.prog W = .ok (.string (s.extract f i)) W := by
  rw [run_sliceAt_string W 9 _ _ _ _ Tryz.underlying9, run_slice_string]
  · simp
  all_goals first | exact Tryz.underlying9 | omega
/-- What the reference's path knows as it looks at byte i, a part having begun at f. -/
def PathAt (l : List UInt8) (f i : Nat) : Prop := (i ≤ l.length ∧ f ≤ i ∧ (47 : UInt8) ∉ (l.drop f).take (i - f) ∧ pathB l = pathB (l.drop f)) ∨ (i = l.length + 1 ∧ pathB l = true)
set_option maxRecDepth 100000 in
set_option maxHeartbeats 1000000 in
theorem path_any (s : ByteArray) (w : World) (hs : s.size ≤ 1048576) :
    Calls Tryz.prog 71 #[.string s] w fun e w' => e = .returned (.bool (pathB s.data.toList)) ∧ Below w.heap.size w w' := by
  have hl : s.data.toList.length = s.size := by simp
  obtain ⟨L, eL⟩ : ∃ L, L = s.data.toList := ⟨_, rfl⟩
  rw [← eL]
  have HL := hide eL
  rw [← eL] at hl
  clear eL
  go_enter Tryz.func71, Tryz.ntmps71
  go_wp2_with fail
  go_loopw [3, 4] (fun x y wx => ∃ f i : Nat, f ≤ s.size + 1 ∧ i ≤ s.size + 1 ∧ x = .int .i64 (f : Int) ∧ y = .int .i64 (i : Int) ∧ Hid (PathAt L f i) ∧ Below w.heap.size w wx) (fun _ y _ => s.size + 1 - (intOf y).toNat)
  case atStart => exact ⟨0, 0, by omega, by omega, rfl, rfl, hide (.inl ⟨by omega, by omega, by simp, rfl⟩), Below.refl _ _⟩
  case round =>
    obtain ⟨f, i, hf1, hi1, rfl, rfl, HP, hbe⟩ := hrel
    by_cases hend : i = s.size + 1
    · subst hend
      have hr : pathB L = true := by
        rcases unhide HP with ⟨h, _⟩ | ⟨_, h⟩
        · omega
        · exact h
      have Hr := hide hr
      clear hr
      go_wp2
      go_ret
      exact ⟨by rw [unhide Hr]; rfl, hbe⟩
    · obtain ⟨hil, hfi, hno, hp⟩ : i ≤ L.length ∧ f ≤ i ∧ (47 : UInt8) ∉ (L.drop f).take (i - f) ∧ pathB L = pathB (L.drop f) := by
        rcases unhide HP with h | ⟨h, _⟩
        · exact h
        · omega
      rw [hl] at hil
      have hfz : (f : Int) ≤ (i : Int) := by omega
      have hiz : (i : Int) ≤ (s.size : Int) := by omega
      have hW := fun W : World => without_any (s.extract f i) ⟨#[46, 59, 91]⟩ W (by simp; omega) (by decide)
      rw [seg_data, ← unhide HL] at hW
      have hWp : withoutB ((L.drop f).take (i - f)) (⟨#[46, 59, 91]⟩ : ByteArray).data.toList = partB ((L.drop f).take (i - f)) := rfl
      rw [hWp] at hW
      have hsr := slice_run s f i hfi hil
      have HW := hide hW
      have Hno := hide hno
      have Hp := hide hp
      clear hW hWp hno hp HP
      by_cases hin : i = s.size
      · subst hin
        have ht : (L.drop f).take (s.size - f) = L.drop f := List.take_of_length_le (by rw [List.length_drop]; omega)
        rw [ht] at HW Hno
        have hpb : pathB L = partB (L.drop f) := by rw [unhide Hp, path_part (unhide Hno)]
        have Hpb := hide hpb
        clear hpb ht Hno Hp
        cases hq : partB (L.drop f) with
        | false =>
          rw [hq] at HW Hpb
          clear hq
          go_wp2_with fail
          refine (unhide HW _).mono ?_
          rintro e w' ⟨rfl, hb⟩
          have hbz := hbe.trans (hb.mono hbe.size)
          go_wp2
          go_ret
          exact ⟨by rw [unhide Hpb]; rfl, hbz⟩
        | true =>
          rw [hq] at HW Hpb
          clear hq
          go_wp2_with fail
          refine (unhide HW _).mono ?_
          rintro e w' ⟨rfl, hb⟩
          have hbz := hbe.trans (hb.mono hbe.size)
          go_wp2
          go_roundw
          case rel => exact ⟨s.size + 1, s.size + 1, by omega, by omega, by simp, by simp, hide (.inr ⟨by omega, unhide Hpb⟩), hbz⟩
          case measure => simp [intOf]
      · have hlt : i < s.size := by omega
        have hne : ((i : Int) == (s.size : Int)) = false := by rw [beq_eq_false_iff_ne]; omega
        obtain ⟨b, eb⟩ : ∃ b, b = s[i]'hlt := ⟨_, rfl⟩
        have hb0 : L[i]? = some b := by rw [unhide HL, eb]; exact data_at s i hlt
        have Hb := hide hb0
        have hxi : ∀ h : i < s.size, s[i]'h = b := fun _ => eb.symm
        clear eb hb0
        by_cases hsl : b = 47
        · subst hsl
          have hpb : pathB L = (partB ((L.drop f).take (i - f)) && pathB (L.drop (i + 1))) := by
            rw [unhide Hp]
            conv => lhs; rw [seg_split hfi (unhide Hb)]
            rw [path_slash (unhide Hno)]
          have Hpb := hide hpb
          clear hpb Hno Hp
          cases hq : partB ((L.drop f).take (i - f)) with
          | false =>
            rw [hq] at HW Hpb
            clear hq
            go_wp2_with fail
            refine (unhide HW _).mono ?_
            rintro e w' ⟨rfl, hb⟩
            have hbz := hbe.trans (hb.mono hbe.size)
            go_wp2
            go_ret
            exact ⟨by rw [unhide Hpb]; rfl, hbz⟩
          | true =>
            rw [hq] at HW Hpb
            clear hq
            go_wp2_with fail
            refine (unhide HW _).mono ?_
            rintro e w' ⟨rfl, hb⟩
            have hbz := hbe.trans (hb.mono hbe.size)
            go_wp2
            go_roundw
            case rel => exact ⟨i + 1, i + 1, by omega, by omega, by simp, by simp, hide (.inl ⟨by omega, by omega, by simp, by rw [unhide Hpb]; rfl⟩), hbz⟩
            case measure => simp [intOf]; omega
        · have f47 := byte_ne (n := 47) (by omega) hsl
          have hno2 : (47 : UInt8) ∉ (L.drop f).take (i + 1 - f) := by
            rw [seg_snoc hfi (unhide Hb)]
            intro m
            rcases List.mem_append.1 m with m | m
            · exact unhide Hno m
            · exact hsl (List.mem_singleton.1 m).symm
          have HP2 : Hid (PathAt L f (i + 1)) := hide (.inl ⟨by omega, by omega, hno2, unhide Hp⟩)
          clear hno2 Hno Hp hsl HW
          go_wp2
          go_roundw
          case rel => exact ⟨f, i + 1, by omega, by omega, rfl, by simp, HP2, hbe⟩
          case measure => simp [intOf]; omega
theorem below_drewN {B : Nat} {a w : World} (h : Below B a w) : ∀ n, Below B a (w.drewN n)
  | 0 => h
  | n + 1 => (below_drewN h n).drew
/-- What strings.Cut gives at one byte. -/
theorem Cut_any (s : ByteArray) (c : UInt8) (w : World) (hm : Mx w) (hs : s.size ≤ 1048576) :
    Calls Tryz.prog 99 #[.string s, .string ⟨#[c]⟩] w fun e w' => ((∃ p r, s.data.toList = p ++ c :: r ∧ c ∉ p ∧ e = .returned (.tuple #[.string ⟨p.toArray⟩, .string ⟨r.toArray⟩, .bool true])) ∨
      (c ∉ s.data.toList ∧ e = .returned (.tuple #[.string ⟨s.data.toList.toArray⟩, .string ⟨#[]⟩, .bool false]))) ∧ Below w.heap.size w w' := by
  obtain ⟨m, hm⟩ := hm
  refine (Tryz.strings_Cut s ⟨#[c]⟩ m w (by omega) hm).mono ?_
  rintro e w' ⟨rfl, n, rfl⟩
  refine ⟨?_, below_drewN (Below.refl _ _) n⟩
  rcases cut_byte c s.data.toList with ⟨p, r, h1, h2, h3⟩ | ⟨h1, h2⟩
  · exact .inl ⟨p, r, h1, h2, by rw [show (⟨#[c]⟩ : ByteArray).data.toList = [c] from rfl, h3]⟩
  · exact .inr ⟨h1, by rw [show (⟨#[c]⟩ : ByteArray).data.toList = [c] from rfl, h2]⟩
set_option linter.unusedVariables false in
theorem okp_drop {l : List UInt8} {i : Nat} {b : UInt8} (ne : Bool) (h : l[i]? = some b) : okp ne (l.drop i) = if b = 47 then ne && okp false (l.drop (i + 1)) else if [46, 59, 91].contains b then false else okp true (l.drop (i + 1)) := by
  have hi := (List.getElem?_eq_some_iff.1 h).1
  have hb := (List.getElem?_eq_some_iff.1 h).2
  rw [List.drop_eq_getElem_cons hi, hb]
  rfl
set_option maxRecDepth 100000 in
set_option maxHeartbeats 1000000 in
theorem isClassName_any (s : ByteArray) (w : World) (hm : Mx w) (hs : s.size ≤ 1048576) :
    Calls Tryz.prog 56 #[.string s] w fun e w' => e = .returned (.bool (pathB s.data.toList)) ∧ Below w.heap.size w w' := by
  have _ := hm
  clear hm
  have hl : s.data.toList.length = s.size := by simp
  go_enter Tryz.func56, Tryz.ntmps56
  go_wp2_with fail
  go_loopw [3, 8] (fun y x wx => ∃ (i : Nat) (a : UInt8), i ≤ s.size ∧ x = .int .i64 (i : Int) ∧ y = .int .u8 (a.toNat : Int) ∧ Hid (pathB s.data.toList = okp (a != 47) (s.data.toList.drop i)) ∧ Below w.heap.size w wx) (fun _ x _ => s.size - (intOf x).toNat)
  case atStart => exact ⟨0, 47, Nat.zero_le _, rfl, rfl, rfl, Below.refl _ _⟩
  case round =>
    obtain ⟨i, a, hi, rfl, rfl, HN, hbe⟩ := hrel
    by_cases hlt : i < s.size
    · obtain ⟨b, eb⟩ : ∃ b, b = s[i]'hlt := ⟨_, rfl⟩
      have hb0 : s.data.toList[i]? = some b := by rw [eb]; exact data_at s i hlt
      have hxi : ∀ h : i < s.size, s[i]'h = b := fun _ => eb.symm
      have hk := (unhide HN).trans (okp_drop (a != 47) hb0)
      clear eb hb0 HN
      by_cases h47 : b = 47
      · subst h47
        by_cases ha : a = 47
        · subst ha
          have hy : pathB s.data.toList = false := by rw [hk]; rfl
          have Hy := hide hy
          clear hy hk
          go_wp2
          go_ret
          exact ⟨by rw [unhide Hy]; rfl, hbe⟩
        · have hy : Hid (pathB s.data.toList = okp ((47 : UInt8) != 47) (s.data.toList.drop (i + 1))) := by
            refine hide ?_
            rw [hk, if_pos rfl, show (a != 47) = true by simpa using ha]
            rfl
          have hne := byte_ne2 (a := a) (b := 47) ha
          have hne2 : ((a.toNat : Int) == 47) = false := hne
          clear hk hne
          go_wp2
          go_roundw
          case rel => exact ⟨i + 1, 47, by omega, by simp, rfl, hy, hbe⟩
          case measure => simp [intOf]; omega
      · by_cases h3 : b = 46 ∨ b = 59 ∨ b = 91
        · have hy : pathB s.data.toList = false := by
            rw [hk, if_neg h47, if_pos (by rcases h3 with rfl | rfl | rfl <;> rfl)]
          have Hy := hide hy
          clear hy hk h47
          rcases h3 with rfl | rfl | rfl
          all_goals
            go_wp2
            go_ret
            exact ⟨by rw [unhide Hy]; rfl, hbe⟩
        · have hcn : [46, 59, 91].contains b = false := by
            simp only [List.contains_cons, List.contains_nil, Bool.or_false, Bool.or_eq_false_iff, beq_eq_false_iff_ne]
            exact ⟨fun e => h3 (.inl e), fun e => h3 (.inr (.inl e)), fun e => h3 (.inr (.inr e))⟩
          have hy : Hid (pathB s.data.toList = okp (b != 47) (s.data.toList.drop (i + 1))) := by
            refine hide ?_
            rw [hk, if_neg h47, hcn, show (b != 47) = true by simpa using h47]
            rfl
          have n1 : ((b.toNat : Int) == 47) = false := byte_ne2 (b := 47) h47
          have n2 : ((b.toNat : Int) == 46) = false := byte_ne2 (b := 46) (fun e => h3 (.inl e))
          have n3 : ((b.toNat : Int) == 59) = false := byte_ne2 (b := 59) (fun e => h3 (.inr (.inl e)))
          have n4 : ((b.toNat : Int) == 91) = false := byte_ne2 (b := 91) (fun e => h3 (.inr (.inr e)))
          clear hk hcn h3 h47
          go_wp2
          go_roundw
          case rel => exact ⟨i + 1, b, by omega, by simp, rfl, hy, hbe⟩
          case measure => simp [intOf]; omega
    · obtain rfl : i = s.size := by omega
      have hy : pathB s.data.toList = (a != 47) := by
        have := unhide HN
        rw [List.drop_eq_nil_of_le (by omega)] at this
        exact this
      by_cases ha : a = 47
      · subst ha
        have Hy := hide hy
        clear hy HN
        go_wp2
        go_ret
        exact ⟨by rw [unhide Hy]; rfl, hbe⟩
      · have hne2 : ((a.toNat : Int) != 47) = true := by
          have h := byte_ne2 (b := 47) ha
          rw [bne, show ((a.toNat : Int) == 47) = false from h]
          rfl
        rw [show (a != 47) = true by simpa using ha] at hy
        have Hy := hide hy
        clear hy HN
        go_wp2
        go_ret
        exact ⟨by rw [unhide Hy]; rfl, hbe⟩
def Len (l : List UInt8) (w : World) (e : Ending) (w' : World) : Prop := e = .returned (.int .i64 (valLen l : Nat)) ∧ Below w.heap.size w w'
set_option maxRecDepth 100000 in
set_option maxHeartbeats 2000000 in
theorem valueLength_any (s : ByteArray) (w : World) (hm : Mx w) (hs : s.size ≤ 1048576) :
    Calls Tryz.prog 78 #[.string s] w fun e w' => Len s.data.toList w e w' := by
  have hl : s.data.toList.length = s.size := by simp
  obtain ⟨E, hE, hEd⟩ : ∃ E : ByteArray, E = ⟨(Lib.trimLeftB s.data.toList 91).toArray⟩ ∧ E.data.toList = s.data.toList.drop (dims s.data.toList) := ⟨_, rfl, by rw [data_of, drop_dims]⟩
  have hdl := dims_le s.data.toList
  have hEz : E.size = s.size - dims s.data.toList := by
    have : E.data.toList.length = E.size := by simp
    rw [← this, hEd, List.length_drop, hl]
  have hTrim := Tryz.strings_TrimLeft_one s 91 (by decide) w
  rw [← hE] at hTrim
  have HT := hide hTrim
  have Hm := hide hm
  have hbg := @val_big s.data.toList
  have hnn := @val_none s.data.toList
  have hvv := @val_of s.data.toList
  rw [hl] at hdl
  rw [← hEd] at hnn hvv
  unfold Len
  generalize valLen s.data.toList = v at hbg hnn hvv ⊢
  generalize dims s.data.toList = d at hbg hvv hEz hdl hEd
  have hd : (s.size : Int) - (E.size : Int) = (d : Int) := by omega
  have hez : E.size ≤ 1048576 := by omega
  have hdz : d ≤ 1048576 := by omega
  clear hE hTrim hm hEd hl hEz hs
  by_cases hbig : 255 < d
  · have hv := hbg hbig
    subst hv
    clear hbg hnn hvv
    go_enter Tryz.func78, Tryz.ntmps78
    go_wp2_with fail
    refine (unhide HT).mono ?_
    rintro e w1 ⟨rfl, hww⟩
    subst w1
    go_wp2
    go_ret
    exact ⟨rfl, Below.refl _ _⟩
  · have hd255 : d ≤ 255 := by omega
    have hdi : ¬ ((255 : Int) < (d : Int)) := by omega
    replace hvv := hvv hd255
    clear hbg hbig
    cases hEl : E.data.toList with
    | nil =>
      have hemp : E.toList.isEmpty = true := by rw [empty_of, hEl]; rfl
      have hv := hnn (by rw [hEl]; rfl)
      subst hv
      clear hnn hvv hEl
      go_enter Tryz.func78, Tryz.ntmps78
      go_wp2_with fail
      refine (unhide HT).mono ?_
      rintro e w1 ⟨rfl, hww⟩
      subst w1
      go_wp2
      go_ret
      exact ⟨rfl, Below.refl _ _⟩
    | cons b r =>
      have hemp : E.toList.isEmpty = false := by rw [empty_of, hEl]; rfl
      have ha0 := at0 hEl
      have hx1 := ext1 hEl
      have hEz : E.size = r.length + 1 := by have : E.data.toList.length = E.size := by simp
                                             rw [← this, hEl]; rfl
      have hEp : 0 < E.size := by omega
      have hEp1 : 1 ≤ E.size := by omega
      have hEpi : (1 : Int) ≤ (E.size : Int) := by omega
      rw [hEl] at hnn hvv
      clear hEl hEz
      by_cases hp : prim b = true
      · have hv := hvv (by rw [elem_prim hp]; omega)
        rw [elem_prim hp] at hv
        clear hnn hvv hx1
        subst hv
        rcases prim_cases hp with rfl | rfl | rfl | rfl | rfl | rfl | rfl | rfl
        all_goals
          clear hp
          go_enter Tryz.func78, Tryz.ntmps78
          go_wp2_with fail
          refine (unhide HT).mono ?_
          rintro e w1 ⟨rfl, hww⟩
          subst w1
          go_wp2
          go_ret
          exact ⟨by simp, Below.refl _ _⟩
      · have hp' : prim b = false := by simpa using hp
        obtain ⟨p1, p2, p3, p4, p5, p6, p7, p8⟩ := prim_not hp'
        have f1 := byte_ne (n := 66) (by omega) p1
        have f2 := byte_ne (n := 67) (by omega) p2
        have f3 := byte_ne (n := 68) (by omega) p3
        have f4 := byte_ne (n := 70) (by omega) p4
        have f5 := byte_ne (n := 73) (by omega) p5
        have f6 := byte_ne (n := 74) (by omega) p6
        have f7 := byte_ne (n := 83) (by omega) p7
        have f8 := byte_ne (n := 90) (by omega) p8
        clear p1 p2 p3 p4 p5 p6 p7 p8 hp
        by_cases hL : b = 76
        · subst hL
          clear f1 f2 f3 f4 f5 f6 f7 f8 hp'
          have Hx1 := hide hx1
          have hxs : (E.extract 1 E.size).size ≤ 1048576 := by simp; omega
          have hC := Cut_any (E.extract 1 E.size) 59 w (unhide Hm) hxs
          rw [hx1] at hC
          have HC := hide hC
          have Hnn := hide hnn
          have Hvv := hide hvv
          clear hx1 hC hnn hvv
          go_enter Tryz.func78, Tryz.ntmps78
          go_wp2_with fail
          refine (unhide HT).mono ?_
          rintro e w1 ⟨rfl, hww⟩
          subst w1
          go_wp2_with fail
          refine (unhide HC).mono ?_
          rintro e w1 ⟨hc, hb1⟩
          rcases hc with ⟨p, q, h1, h2, rfl⟩ | ⟨h1, rfl⟩
          · have hpl : p.length ≤ 1048576 := by
              have : r.length = p.length + (q.length + 1) := by rw [h1]; simp
              have h3 : (E.extract 1 E.size).data.toList.length = (E.extract 1 E.size).size := by simp
              rw [unhide Hx1] at h3
              omega
            have he := elem_name (p := p) (r := q) h2
            rw [← h1] at he
            have hI := isClassName_any ⟨p.toArray⟩ w1 ((unhide Hm).below hb1) (by rw [size_of]; exact hpl)
            rw [data_of] at hI
            have HI := hide hI
            have He := hide he
            have hps := size_of p
            clear hI he h1 h2 Hx1
            cases hpb : pathB p with
            | false =>
              have hv := unhide Hnn (by rw [unhide He, hpb]; rfl)
              subst hv
              rw [hpb] at HI
              clear Hnn Hvv He
              go_wp2_with fail
              refine (unhide HI).mono ?_
              rintro e w2 ⟨rfl, hb2⟩
              have hbz := hb1.trans (hb2.mono hb1.size)
              go_wp2
              go_ret
              exact ⟨rfl, hbz⟩
            | true =>
              have hv := unhide Hvv (by rw [unhide He, hpb]; simp)
              rw [unhide He, hpb, if_pos rfl] at hv
              rw [hpb] at HI
              clear Hnn Hvv He
              subst hv
              go_wp2_with fail
              refine (unhide HI).mono ?_
              rintro e w2 ⟨rfl, hb2⟩
              have hbz := hb1.trans (hb2.mono hb1.size)
              go_wp2
              go_ret
              exact ⟨by simp; omega, hbz⟩
          · have hv := unhide Hnn (elem_none h1)
            subst hv
            clear Hnn Hvv h1 Hx1
            go_wp2
            go_ret
            exact ⟨rfl, hb1⟩
        · have f9 := byte_ne (n := 76) (by omega) hL
          have hv := hnn (elem_other hp' hL)
          subst hv
          clear hnn hvv hL hp' hx1
          go_enter Tryz.func78, Tryz.ntmps78
          go_wp2_with fail
          refine (unhide HT).mono ?_
          rintro e w1 ⟨rfl, hww⟩
          subst w1
          go_wp2
          go_ret
          exact ⟨rfl, Below.refl _ _⟩
set_option maxRecDepth 100000 in
set_option maxHeartbeats 1000000 in
theorem Field_any (s : ByteArray) (w : World) (hm : Mx w) (hs : s.size ≤ 1048576) :
    Calls Tryz.prog 55 #[.string s] w fun e w' => e = .returned (.bool (fieldB s.data.toList)) ∧ Below w.heap.size w w' := by
  have hl : s.data.toList.length = s.size := by simp
  cases he : s.data.toList.isEmpty with
  | true =>
    have hr : fieldB s.data.toList = false := by unfold fieldB; rw [he]; rfl
    have he2 := (empty_of (s := s)).trans he
    have Hr := hide hr
    clear he hr hl
    go_enter Tryz.func55, Tryz.ntmps55
    go_wp2_with fail
    go_ret
    exact ⟨by rw [unhide Hr]; rfl, Below.refl _ _⟩
  | false =>
    have hr : fieldB s.data.toList = decide (valLen s.data.toList = s.size) := by unfold fieldB; rw [he, hl]; rfl
    have he2 := (empty_of (s := s)).trans he
    have hV := valueLength_any s w hm hs
    unfold Len at hV
    generalize valLen s.data.toList = v at hV hr
    have HV := hide hV
    have Hr := hide hr
    clear he hr hl hV
    by_cases hvs : v = s.size
    · subst hvs
      go_enter Tryz.func55, Tryz.ntmps55
      go_wp2_with fail
      refine (unhide HV).mono ?_
      rintro e w' ⟨rfl, hb⟩
      go_wp2
      go_ret
      exact ⟨by rw [unhide Hr]; simp, hb⟩
    · have hvb : ((v : Int) == (s.size : Int)) = false := by rw [beq_eq_false_iff_ne]; omega
      have hd : decide (v = s.size) = false := decide_eq_false hvs
      rw [hd] at Hr
      clear hvs hd
      go_enter Tryz.func55, Tryz.ntmps55
      go_wp2_with fail
      refine (unhide HV).mono ?_
      rintro e w' ⟨rfl, hb⟩
      go_wp2
      go_ret
      exact ⟨by rw [unhide Hr]; rfl, hb⟩
theorem bytes_ext {a b : ByteArray} (h : a.data.toList = b.data.toList) : a = b := by
  cases a; cases b; simp only [Array.toList_inj] at h; subst h; rfl
theorem slice_to (s : ByteArray) (i : Nat) (hi : i ≤ s.size) (W : World) :
    (Instr.sliceAt 9 (.string s) none (some (.int .i64 (i : Int))) none).run Tryz.prog W = .ok (.string (s.extract 0 i)) W := by
  rw [run_sliceAt_string W 9 _ _ _ _ Tryz.underlying9, run_slice_string_h]
  · simp
  all_goals first | exact Tryz.underlying9 | omega
theorem slice_from (s : ByteArray) (i : Nat) (hi : i ≤ s.size) (W : World) :
    (Instr.sliceAt 9 (.string s) (some (.int .i64 (i : Int))) none none).run Tryz.prog W = .ok (.string (s.extract i s.size)) W := by
  rw [run_sliceAt_string W 9 _ _ _ _ Tryz.underlying9, run_slice_string_l]
  · simp
  all_goals first | exact Tryz.underlying9 | omega
/-- What the reference's one gives. -/
def OneRes (l : List UInt8) (k : Nat) (e : Ending) : Prop :=
  if k + dims l ≤ 255 ∧ elemLen (l.drop (dims l)) ≠ 0 then e = .returned (.tuple #[.string ⟨(l.take (dims l + elemLen (l.drop (dims l)))).toArray⟩, .string ⟨(l.drop (dims l + elemLen (l.drop (dims l)))).toArray⟩, .bool true])
  else ∃ t r : ByteArray, t.size ≤ l.length ∧ e = .returned (.tuple #[.string t, .string r, .bool false])
set_option maxRecDepth 100000 in
set_option maxHeartbeats 2000000 in
theorem one_any : ∀ (n : Nat) (s : ByteArray) (k : Nat) (w : World), s.size = n → n ≤ 1048576 → k ≤ 2097152 →
    Calls Tryz.prog 72 #[.string s, .int .i64 (k : Int)] w fun e w' => OneRes s.data.toList k e ∧ Below w.heap.size w w' := by
  intro n
  induction n with
  | zero =>
    intro s k w hs _ hk
    have hl : s.data.toList = [] := by
      have : s.data.toList.length = s.size := by simp
      exact List.length_eq_zero_iff.1 (by omega)
    have hemp : s.toList.isEmpty = true := by rw [empty_of, hl]; rfl
    rw [hl]
    have HR : Hid (∀ t r : ByteArray, t.size ≤ 0 → OneRes [] k (.returned (.tuple #[.string t, .string r, .bool false]))) := fun t r ht => by
      unfold OneRes
      rw [if_neg (by simp [elemLen])]
      exact ⟨t, r, ht, rfl⟩
    clear hl
    go_enter Tryz.func72, Tryz.ntmps72
    go_wp2
    go_ret3
    exact ⟨unhide HR _ _ (Nat.zero_le _), Below.refl _ _⟩
  | succ n ih =>
    intro s k w hs hn hk
    have hsl : s.data.toList.length = s.size := by simp
    obtain ⟨b, r, hl⟩ : ∃ b r, s.data.toList = b :: r := by
      cases h : s.data.toList with
      | nil => rw [h] at hsl; simp at hsl; omega
      | cons b r => exact ⟨b, r, rfl⟩
    have hrl : r.length = n := by rw [hl] at hsl; simp at hsl; omega
    have hemp : s.toList.isEmpty = false := by rw [empty_of, hl]; rfl
    have ha0 := at0 hl
    have hx1 := ext1 hl
    have hsp : 0 < s.size := by omega
    have hsz : s.size ≤ 1048576 := by omega
    rw [hl]
    have Hl := hide hl
    have Hx1 := hide hx1
    have Hih := hide ih
    have hxz : (s.extract 1 s.size).size = n := by simp; omega
    have Hxz := hide hxz
    have hs1 : s.size ≤ n + 1 := by omega
    have hs2 : n + 1 ≤ s.size := by omega
    clear hl hx1 ih hsl hxz hs
    have HF : Hid ((¬ (k + dims (b :: r) ≤ 255 ∧ elemLen ((b :: r).drop (dims (b :: r))) ≠ 0)) → ∀ t u : ByteArray, t.size ≤ n + 1 → OneRes (b :: r) k (.returned (.tuple #[.string t, .string u, .bool false]))) := fun h t u ht => by
      unfold OneRes
      rw [if_neg h]
      exact ⟨t, u, by rw [List.length_cons, hrl]; exact ht, rfl⟩
    by_cases hbig : 255 < k
    · have HR := hide (unhide HF (by omega))
      clear HF
      have hki : (255 : Int) < (k : Int) := by omega
      go_enter Tryz.func72, Tryz.ntmps72
      go_wp2
      go_ret3
      exact ⟨unhide HR _ _ (Nat.zero_le _), Below.refl _ _⟩
    · have hki : ¬ ((255 : Int) < (k : Int)) := by omega
      have hk255 : k ≤ 255 := by omega
      clear hbig hk
      by_cases hp : prim b = true
      · have hb91 : b ≠ 91 := fun e => by subst e; revert hp; decide
        have HR : Hid (OneRes (b :: r) k (.returned (.tuple #[.string (s.extract 0 1), .string (s.extract 1 s.size), .bool true]))) := by
          show OneRes _ _ _
          unfold OneRes
          rw [dims_other hb91, List.drop_zero, elem_prim hp, if_pos (by omega)]
          have e1 : s.extract 0 1 = ⟨((b :: r).take 1).toArray⟩ := by
            rw [← unhide Hl]; exact bytes_ext (by rw [seg_data, data_of, List.drop_zero])
          have e2 : s.extract 1 s.size = ⟨((b :: r).drop 1).toArray⟩ := bytes_ext (by rw [unhide Hx1, data_of]; rfl)
          rw [e1, e2]
        have q1 := slice_to s 1 (by omega)
        have q2 := slice_from s 1 (by omega)
        clear HF Hx1 Hl Hih
        rcases prim_cases hp with rfl | rfl | rfl | rfl | rfl | rfl | rfl | rfl
        all_goals
          clear hp hb91
          go_enter Tryz.func72, Tryz.ntmps72
          go_wp2
          go_region
          go_wp2
          go_ret3
          exact ⟨unhide HR, (Below.refl _ _).drew⟩
      · have hp' : prim b = false := by simpa using hp
        obtain ⟨p1, p2, p3, p4, p5, p6, p7, p8⟩ := prim_not hp'
        have f1 := byte_ne (n := 66) (by omega) p1
        have f2 := byte_ne (n := 67) (by omega) p2
        have f3 := byte_ne (n := 68) (by omega) p3
        have f4 := byte_ne (n := 70) (by omega) p4
        have f5 := byte_ne (n := 73) (by omega) p5
        have f6 := byte_ne (n := 74) (by omega) p6
        have f7 := byte_ne (n := 83) (by omega) p7
        have f8 := byte_ne (n := 90) (by omega) p8
        clear p1 p2 p3 p4 p5 p6 p7 p8 hp
        by_cases h91 : b = 91
        · subst h91
          clear f1 f2 f3 f4 f5 f6 f7 f8 hp'
          have hI := fun W : World => unhide Hih (s.extract 1 s.size) (k + 1) W (unhide Hxz) (by omega) (by omega)
          rw [unhide Hx1] at hI
          have hcast : ((k + 1 : Nat) : Int) = (k : Int) + 1 := by omega
          rw [hcast] at hI
          have HI := hide hI
          have q2 := slice_from s 1 (by omega)
          have hwr : IntKind.i64.wrap ((k : Int) + 1) = (k : Int) + 1 := by rw [IntKind.wrap_i64, Int.emod_eq_of_lt (by omega) (by omega)]; omega
          clear hI hcast Hih HF
          go_enter Tryz.func72, Tryz.ntmps72
          go_wp2_with fail
          refine (unhide HI _).mono ?_
          rintro e w' ⟨hone, hb⟩
          unfold OneRes at hone
          by_cases hc : k + 1 + dims r ≤ 255 ∧ elemLen (r.drop (dims r)) ≠ 0
          · rw [if_pos hc] at hone
            subst hone
            have HR : Hid (∀ t : ByteArray, t.data.toList = 91 :: r.take (dims r + elemLen (r.drop (dims r))) → OneRes (91 :: r) k (.returned (.tuple #[.string t, .string ⟨(r.drop (dims r + elemLen (r.drop (dims r)))).toArray⟩, .bool true]))) := fun t ht => by
              show OneRes _ _ _
              unfold OneRes
              rw [dims_cons, List.drop_succ_cons, if_pos (by omega), show dims r + 1 + elemLen (r.drop (dims r)) = (dims r + elemLen (r.drop (dims r))) + 1 by omega, List.take_succ_cons, List.drop_succ_cons]
              rw [show t = ⟨(91 :: r.take (dims r + elemLen (r.drop (dims r)))).toArray⟩ from bytes_ext (by rw [ht, data_of])]
            obtain ⟨T, eT⟩ : ∃ T, T = r.take (dims r + elemLen (r.drop (dims r))) := ⟨_, rfl⟩
            obtain ⟨R, eR⟩ : ∃ R, R = r.drop (dims r + elemLen (r.drop (dims r))) := ⟨_, rfl⟩
            rw [← eT] at HR ⊢
            rw [← eR] at HR ⊢
            have hTl : T.length ≤ 1048576 := by rw [eT, List.length_take]; omega
            clear hc eT eR
            go_wp2
            go_ret3
            exact ⟨unhide HR _ (by simp), hb⟩
          · rw [if_neg hc] at hone
            obtain ⟨t, u, htz, rfl⟩ := hone
            have htl : t.size ≤ 1048576 := by omega
            have HR : Hid (∀ t u : ByteArray, t.size ≤ n + 1 → OneRes (91 :: r) k (.returned (.tuple #[.string t, .string u, .bool false]))) := fun t u ht => by
              show OneRes _ _ _
              unfold OneRes
              rw [dims_cons, List.drop_succ_cons, if_neg (by omega)]
              exact ⟨t, u, by rw [List.length_cons, hrl]; exact ht, rfl⟩
            clear hc
            rw [hrl] at htz
            go_wp2
            go_ret3
            exact ⟨unhide HR _ _ (by rw [ByteArray.size_append]; show 1 + t.size ≤ _; omega), hb⟩
        · have f9 := byte_ne (n := 91) (by omega) h91
          by_cases hL : b = 76
          · subst hL
            clear f1 f2 f3 f4 f5 f6 f7 f8 f9 h91 hp' Hih
            have hd0 : dims (76 :: r) = 0 := dims_other (by decide)
            have Hd0 := hide hd0
            clear hd0
            go_enter Tryz.func72, Tryz.ntmps72
            go_wp2_with fail
            go_loopw [10] (fun x wx => ∃ i : Nat, 1 ≤ i ∧ i ≤ s.size ∧ x = .int .i64 (i : Int) ∧ Hid ((59 : UInt8) ∉ r.take (i - 1)) ∧ Below w.heap.size w wx) (fun x _ => s.size - (intOf x).toNat)
            case atStart => exact ⟨1, by omega, by omega, rfl, hide (by simp), Below.refl _ _⟩
            case round =>
              obtain ⟨i, h1i, his, rfl, Hno, hbe⟩ := hrel
              by_cases hlt : i < s.size
              · obtain ⟨d, ed⟩ : ∃ d, d = s[i]'hlt := ⟨_, rfl⟩
                have hd1 : (76 :: r)[i]? = some d := by rw [← unhide Hl, ed]; exact data_at s i hlt
                have hd2 : r[i - 1]? = some d := by
                  obtain ⟨i', rfl⟩ : ∃ i', i = i' + 1 := ⟨i - 1, by omega⟩
                  simpa using hd1
                have Hd2 := hide hd2
                have hxi : ∀ h : i < s.size, s[i]'h = d := fun _ => ed.symm
                clear ed hd1 hd2
                have hsplit := seg_split (l := r) (f := 0) (i := i - 1) (Nat.zero_le _) (unhide Hd2)
                rw [List.drop_zero, Nat.sub_zero, show i - 1 + 1 = i by omega] at hsplit
                have Hsplit := hide hsplit
                clear hsplit
                by_cases hsc : d = 59
                · subst hsc
                  have hel := elem_name (p := r.take (i - 1)) (r := r.drop i) (unhide Hno)
                  rw [← unhide Hsplit] at hel
                  have htl : (r.take (i - 1)).length = i - 1 := by rw [List.length_take]; omega
                  rw [htl] at hel
                  have hseg : (s.extract 1 i).data.toList = r.take (i - 1) := by rw [seg_data, unhide Hl]; rfl
                  have hP := fun W : World => path_any (s.extract 1 i) W (by simp; omega)
                  rw [hseg] at hP
                  have HP := hide hP
                  have Hel := hide hel
                  have q1 := slice_to s (i + 1) (by omega)
                  have q2 := slice_from s (i + 1) (by omega)
                  have q3 := slice_run s 1 i h1i his
                  have hcast : ((i + 1 : Nat) : Int) = (i : Int) + 1 := by omega
                  rw [hcast] at q1 q2
                  have hwr : IntKind.i64.wrap ((i : Int) + 1) = (i : Int) + 1 := by rw [IntKind.wrap_i64, Int.emod_eq_of_lt (by omega) (by omega)]; omega
                  have HR : Hid (OneRes (76 :: r) k (.returned (.tuple #[.string (s.extract 0 (i + 1)), .string (s.extract (i + 1) s.size), .bool (pathB (r.take (i - 1)))]))) := by
                    show OneRes _ _ _
                    cases hpb : pathB (r.take (i - 1)) with
                    | false =>
                      have he0 : elemLen (76 :: r) = 0 := by rw [unhide Hel, hpb]; rfl
                      exact unhide HF (by rw [unhide Hd0, List.drop_zero, he0]; omega) _ _ (by simp; omega)
                    | true =>
                      have he0 : elemLen (76 :: r) = i + 1 := by rw [unhide Hel, hpb]; simp; omega
                      unfold OneRes
                      rw [unhide Hd0, List.drop_zero, he0, if_pos (by omega), Nat.zero_add]
                      have e1 : s.extract 0 (i + 1) = ⟨((76 :: r).take (i + 1)).toArray⟩ := bytes_ext (by rw [seg_data, data_of, unhide Hl, List.drop_zero]; rfl)
                      have e2 : s.extract (i + 1) s.size = ⟨((76 :: r).drop (i + 1)).toArray⟩ := bytes_ext (by
                        rw [seg_data, data_of, ← unhide Hl]
                        exact List.take_of_length_le (by simp))
                      rw [e1, e2]
                  generalize pathB (r.take (i - 1)) = pb at HP HR
                  clear hP hel htl hseg hcast Hel HF Hno Hsplit Hd2 Hx1 Hxz Hl Hd0
                  go_wp2
                  go_region_with (go_at_call 71; refine (unhide HP _).mono ?_; rintro e w' ⟨rfl, hb⟩)
                  go_wp2
                  go_ret3
                  exact ⟨unhide HR, hbe.drew.trans (hb.mono hbe.drew.size)⟩
                · have f59 := byte_ne (n := 59) (by omega) hsc
                  have Hno2 : Hid ((59 : UInt8) ∉ r.take (i + 1 - 1)) := by
                    have := seg_snoc (l := r) (f := 0) (i := i - 1) (Nat.zero_le _) (unhide Hd2)
                    rw [List.drop_zero, Nat.sub_zero, Nat.sub_zero, show i - 1 + 1 = i + 1 - 1 by omega] at this
                    show ¬ _
                    rw [this]
                    intro m
                    rcases List.mem_append.1 m with m | m
                    · exact unhide Hno m
                    · exact hsc (List.mem_singleton.1 m).symm
                  clear hsc Hsplit Hd2 Hno HF Hx1 Hxz Hl
                  go_wp2
                  go_roundw
                  case rel => exact ⟨i + 1, by omega, by omega, by simp, Hno2, hbe⟩
                  case measure => simp [intOf]; omega
              · obtain rfl : i = s.size := by omega
                have hno2 : (59 : UInt8) ∉ r := by
                  have := unhide Hno
                  rw [List.take_of_length_le (by have := unhide Hxz; simp at this; omega)] at this
                  exact this
                have HR := hide (unhide HF (by rw [unhide Hd0, List.drop_zero, elem_none hno2]; omega))
                clear HF hno2 Hno Hd0
                go_wp2
                go_ret3
                exact ⟨unhide HR _ _ (Nat.zero_le _), hbe⟩
          · have f10 := byte_ne (n := 76) (by omega) hL
            have HR := hide (unhide HF (by rw [dims_other h91, List.drop_zero, elem_other hp' hL]; omega))
            clear HF hp' hL h91 Hih
            go_enter Tryz.func72, Tryz.ntmps72
            go_wp2
            go_ret3
            exact ⟨unhide HR _ _ (Nat.zero_le _), Below.refl _ _⟩
theorem OneRes.cases {l : List UInt8} {e : Ending} (h : OneRes l 0 e) : (valLen l ≠ 0 ∧ e = .returned (.tuple #[.string ⟨(l.take (valLen l)).toArray⟩, .string ⟨(l.drop (valLen l)).toArray⟩, .bool true])) ∨
    (valLen l = 0 ∧ ∃ t r : ByteArray, e = .returned (.tuple #[.string t, .string r, .bool false])) := by
  unfold OneRes at h
  unfold valLen
  by_cases hc : dims l ≤ 255 ∧ elemLen (l.drop (dims l)) ≠ 0
  · rw [if_pos (by omega)] at h
    rw [if_pos hc]
    exact .inl ⟨by omega, h⟩
  · rw [if_neg (by omega)] at h
    rw [if_neg hc]
    obtain ⟨t, r, _, h⟩ := h
    exact .inr ⟨rfl, t, r, h⟩
theorem toList_mk (l : List UInt8) : (⟨l.toArray⟩ : ByteArray).toList = l := by rw [Lib.toList_data]
set_option maxRecDepth 100000 in
set_option maxHeartbeats 1000000 in
theorem RField_any (s : ByteArray) (w : World) (hs : s.size ≤ 1048576) :
    Calls Tryz.prog 43 #[.string s] w fun e w' => e = .returned (.bool (fieldB s.data.toList)) ∧ Below w.heap.size w w' := by
  have hl : s.data.toList.length = s.size := by simp
  have hO := one_any s.size s 0 w rfl hs (by omega)
  have hle := val_le s.data.toList
  have hz : ((0 : Nat) : Int) = 0 := rfl
  rw [hz] at hO
  have HO := hide hO
  clear hO hz
  obtain ⟨L, eL⟩ : ∃ L, L = s.data.toList := ⟨_, rfl⟩
  rw [← eL] at HO hl hle ⊢
  clear eL
  go_enter Tryz.func43, Tryz.ntmps43
  go_wp2_with fail
  refine (unhide HO).mono ?_
  rintro e w' ⟨h1, hb⟩
  rcases h1.cases with ⟨hv, rfl⟩ | ⟨hv, t, r, rfl⟩
  · have hf : fieldB L = (L.drop (valLen L)).isEmpty := by
      have hne : L.isEmpty = false := by
        cases L with
        | nil => exact absurd rfl hv
        | cons _ _ => rfl
      unfold fieldB
      rw [hne, Bool.not_false, Bool.true_and, Bool.eq_iff_iff, decide_eq_true_iff, List.isEmpty_iff, List.drop_eq_nil_iff]
      omega
    have Hf := hide hf
    have htl := toList_mk (L.drop (valLen L))
    generalize L.drop (valLen L) = R at *
    generalize L.take (valLen L) = T at *
    clear hf h1 hv hl hle HO
    cases hR : R.isEmpty with
    | true =>
      rw [hR] at Hf
      go_wp2
      go_ret
      exact ⟨by rw [unhide Hf]; rfl, hb⟩
    | false =>
      rw [hR] at Hf
      go_wp2
      go_ret
      exact ⟨by rw [unhide Hf]; rfl, hb⟩
  · have hf : fieldB L = false := by
      unfold fieldB
      cases hL : L with
      | nil => rfl
      | cons b r => rw [← hL, hv, hL]; rfl
    have Hf := hide hf
    clear hf h1 hv hl hle HO
    go_wp2
    go_ret
    exact ⟨by rw [unhide Hf]; rfl, hb⟩
/-- The descriptors of values with which it begins, and what is behind. -/
def V (l : List UInt8) : List (List UInt8) × List UInt8 :=
  if _h : valLen l = 0 then ([], l) else (l.take (valLen l) :: (V (l.drop (valLen l))).1, (V (l.drop (valLen l))).2)
  termination_by l.length
  decreasing_by all_goals (simp only [List.length_drop]; have := val_le l; omega)
theorem V_none {l : List UInt8} (h : valLen l = 0) : V l = ([], l) := by rw [V, dif_pos h]
theorem V_some {l : List UInt8} (h : valLen l ≠ 0) : V l = (l.take (valLen l) :: (V (l.drop (valLen l))).1, (V (l.drop (valLen l))).2) := by rw [V, dif_neg h]
theorem V_flat (n : Nat) : ∀ l : List UInt8, l.length = n → (V l).1.flatten ++ (V l).2 = l := by
  induction n using Nat.strongRecOn with
  | ind n ih =>
    intro l hl
    by_cases h : valLen l = 0
    · rw [V_none h]; simp
    · have hv := val_le l
      rw [V_some h]
      simp only [List.flatten_cons, List.append_assoc]
      rw [ih _ (by rw [List.length_drop]; omega) (l.drop (valLen l)) rfl, List.take_append_drop]
def slotN (l : List UInt8) : Nat := if l = [74] ∨ l = [68] then 2 else if l = [86] then 0 else 1
def slotsN (L : List (List UInt8)) : Nat := (L.map slotN).sum
theorem slotN_le (l : List UInt8) : slotN l ≤ 2 := by unfold slotN; split <;> (try split) <;> omega
theorem slots_snoc (L : List (List UInt8)) (l : List UInt8) : slotsN (L ++ [l]) = slotsN L + slotN l := by simp [slotsN]
theorem slots_le (L : List (List UInt8)) : slotsN L ≤ 2 * L.length := by
  induction L with
  | nil => simp [slotsN]
  | cons l L ih => have := slotN_le l; simp only [slotsN, List.map_cons, List.sum_cons, List.length_cons] at ih ⊢; omega
theorem slots_take {L : List (List UInt8)} {k : Nat} {l : List UInt8} (h : L[k]? = some l) : slotsN (L.take (k + 1)) = slotsN (L.take k) + slotN l := by
  rw [List.take_add_one, h]; exact slots_snoc _ _
/-- What is left to be cut, and what is cut. -/
def Cut (l : List UInt8) (L : List (List UInt8)) (t : List UInt8) : Prop := V l = (L ++ (V t).1, (V t).2) ∧ L.length + t.length ≤ l.length
theorem Cut.zero (l : List UInt8) : Cut l [] l := ⟨by simp, by simp⟩
theorem Cut.step {l t : List UInt8} {L : List (List UInt8)} (h : Cut l L t) (hv : valLen t ≠ 0) : Cut l (L ++ [t.take (valLen t)]) (t.drop (valLen t)) := by
  refine ⟨?_, ?_⟩
  · rw [h.1, V_some hv]; simp
  · have := h.2
    have := val_le t
    simp only [List.length_append, List.length_singleton, List.length_drop]; omega
theorem Cut.done {l t : List UInt8} {L : List (List UInt8)} (h : Cut l L t) (hv : valLen t = 0) : V l = (L, t) := by
  rw [h.1, V_none hv]; simp
/-- The descriptor of a method. -/
def giveB (g : List UInt8) : Bool := (g == [86]) || fieldB g
def meth : List UInt8 → Option (List (List UInt8) × List UInt8)
  | [] => none
  | b :: t => if b = 40 then (match (V t).2 with
    | [] => none
    | c :: g => if c = 41 ∧ slotsN (V t).1 ≤ 254 ∧ giveB g = true then some ((V t).1, g) else none) else none
theorem meth_no {b : UInt8} {t : List UInt8} (h : b ≠ 40) : meth (b :: t) = none := by rw [meth, if_neg h]
theorem meth_end {t : List UInt8} {L : List (List UInt8)} (h : V t = (L, [])) : meth (40 :: t) = none := by rw [meth, if_pos rfl, h]
theorem meth_cons {t : List UInt8} {L : List (List UInt8)} {c : UInt8} {g : List UInt8} (h : V t = (L, c :: g)) : meth (40 :: t) = if c = 41 ∧ slotsN L ≤ 254 ∧ giveB g = true then some (L, g) else none := by rw [meth, if_pos rfl, h]
theorem V_count (n : Nat) : ∀ l : List UInt8, l.length = n → (V l).1.length ≤ l.length := by
  induction n using Nat.strongRecOn with
  | ind n ih =>
    intro l hl
    by_cases h : valLen l = 0
    · rw [V_none h]; simp
    · have hv := val_le l
      rw [V_some h]
      have := ih _ (by rw [List.length_drop]; omega) (l.drop (valLen l)) rfl
      simp only [List.length_drop, List.length_cons] at this ⊢
      omega
/-- A list of texts, as cells hold it. -/
def SV (L : List (List UInt8)) : List Value := L.map fun l => Value.string ⟨l.toArray⟩
theorem SV_snoc (L : List (List UInt8)) (l : List UInt8) : SV (L ++ [l]) = SV L ++ [.string ⟨l.toArray⟩] := by simp [SV]
theorem own_below {w w' : World} {base size n : Nat} {e : TypeId} {v : Value} {xs : List Value} (h : w.ownsRow base e size v n xs) {B : Nat} (hB : w.heap.size ≤ B) (hb : Below B w w') : w'.ownsRow base e size v n xs := by
  refine ⟨h.1, ?_⟩
  rcases h.2 with h2 | ⟨g, cap, cur, hv, h3, h4, h5⟩
  · exact .inl h2
  · refine .inr ⟨g, cap, cur, hv, h3, ?_, h5⟩
    rw [hb.block g ?_]
    · exact h4
    · rcases Nat.lt_or_ge g w.heap.size with hg | hg
      · omega
      · rw [Array.getElem?_eq_none hg] at h4; cases h4
theorem slotN_cases (l : List UInt8) : (l = [74] ∧ slotN l = 2) ∨ (l = [68] ∧ slotN l = 2) ∨ (l = [86] ∧ slotN l = 0) ∨ (l ≠ [74] ∧ l ≠ [68] ∧ l ≠ [86] ∧ slotN l = 1) := by
  unfold slotN
  by_cases h1 : l = [74]
  · exact .inl ⟨h1, by simp [h1]⟩
  · by_cases h2 : l = [68]
    · exact .inr (.inl ⟨h2, by simp [h2]⟩)
    · by_cases h3 : l = [86]
      · exact .inr (.inr (.inl ⟨h3, by simp [h3]⟩))
      · exact .inr (.inr (.inr ⟨h1, h2, h3, by simp [h1, h2, h3]⟩))
theorem of_data {s : ByteArray} {l : List UInt8} (h : s.data.toList = l) : s = ⟨l.toArray⟩ := by
  cases s; subst h; simp
set_option maxRecDepth 100000 in
set_option maxHeartbeats 1000000 in
theorem Slots_any (s : ByteArray) (w : World) :
    Calls Tryz.prog 63 #[.string s] w fun e w' => e = .returned (.int .i64 (slotN s.data.toList : Nat)) ∧ w' = w := by
  rcases slotN_cases s.data.toList with ⟨h, e⟩ | ⟨h, e⟩ | ⟨h, e⟩ | ⟨h1, h2, h3, e⟩
  · rw [e, of_data h]
    clear h e
    go_enter Tryz.func63, Tryz.ntmps63
    go_wp2
    go_ret
    exact ⟨rfl, rfl⟩
  · rw [e, of_data h]
    clear h e
    go_enter Tryz.func63, Tryz.ntmps63
    go_wp2
    go_ret
    exact ⟨rfl, rfl⟩
  · rw [e, of_data h]
    clear h e
    go_enter Tryz.func63, Tryz.ntmps63
    go_wp2
    go_ret
    exact ⟨rfl, rfl⟩
  · rw [e]
    have n1 : (s.toList == [74]) = false := by rw [Lib.toList_data, beq_eq_false_iff_ne]; exact h1
    have n2 : (s.toList == [68]) = false := by rw [Lib.toList_data, beq_eq_false_iff_ne]; exact h2
    have n3 : (s.toList == [86]) = false := by rw [Lib.toList_data, beq_eq_false_iff_ne]; exact h3
    clear h1 h2 h3 e
    go_enter Tryz.func63, Tryz.ntmps63
    go_wp2
    go_ret
    exact ⟨rfl, rfl⟩
set_option maxRecDepth 100000 in
set_option maxHeartbeats 1000000 in
theorem RSlots_any (s : ByteArray) (w : World) :
    Calls Tryz.prog 51 #[.string s] w fun e w' => e = .returned (.int .i64 (slotN s.data.toList : Nat)) ∧ w' = w := by
  rcases slotN_cases s.data.toList with ⟨h, e⟩ | ⟨h, e⟩ | ⟨h, e⟩ | ⟨h1, h2, h3, e⟩
  · rw [e, of_data h]
    clear h e
    go_enter Tryz.func51, Tryz.ntmps51
    go_wp2
    go_ret
    exact ⟨rfl, rfl⟩
  · rw [e, of_data h]
    clear h e
    go_enter Tryz.func51, Tryz.ntmps51
    go_wp2
    go_ret
    exact ⟨rfl, rfl⟩
  · rw [e, of_data h]
    clear h e
    go_enter Tryz.func51, Tryz.ntmps51
    go_wp2
    go_ret
    exact ⟨rfl, rfl⟩
  · rw [e]
    have n1 : (s.toList == [74]) = false := by rw [Lib.toList_data, beq_eq_false_iff_ne]; exact h1
    have n2 : (s.toList == [68]) = false := by rw [Lib.toList_data, beq_eq_false_iff_ne]; exact h2
    have n3 : (s.toList == [86]) = false := by rw [Lib.toList_data, beq_eq_false_iff_ne]; exact h3
    clear h1 h2 h3 e
    go_enter Tryz.func51, Tryz.ntmps51
    go_wp2
    go_ret
    exact ⟨rfl, rfl⟩
/-- A slice value that reads as these texts. -/
def Has (w : World) (v : Value) (L : List (List UInt8)) : Prop :=
  (∃ a c, v = .slice a 0 c ∧ L = []) ∨ ∃ g off c, v = .slice (some ⟨g, off, none⟩) L.length c ∧ ∀ j, j < L.length → w.cell? ⟨g, off + j, none⟩ = (SV L)[j]?
theorem Has.of_own {w : World} {B : Nat} {v : Value} {L : List (List UInt8)} (h : w.ownsRow B 9 1 v L.length (SV L)) : Has w v L := by
  rcases h.2 with ⟨h1, h0⟩ | ⟨g, cap, cur, hv, _⟩
  · exact .inl ⟨none, 0, h1, List.length_eq_zero_iff.1 h0⟩
  · subst hv; exact .inr ⟨g, 0, cap, rfl, fun j hj => by rw [Nat.zero_add]; exact h.cellAt j (by omega)⟩
theorem SV_at {L : List (List UInt8)} {k : Nat} (hk : k < L.length) : ∃ l, L[k]? = some l ∧ (SV L)[k]? = some (.string ⟨l.toArray⟩) := by
  refine ⟨L[k], List.getElem?_eq_getElem hk, ?_⟩
  simp [SV, hk]
set_option maxRecDepth 100000 in
set_option maxHeartbeats 1000000 in
theorem fit_any (v : Value) (L : List (List UInt8)) (w : World) (hL : L.length ≤ 1048576) (h : Has w v L) :
    Calls Tryz.prog 83 #[v] w fun e w' => e = .returned (.bool (decide (slotsN L ≤ 254))) ∧ Below w.heap.size w w' := by
  rcases h with ⟨a, c, rfl, rfl⟩ | ⟨g, off, c, rfl, hc⟩
  · go_enter Tryz.func83, Tryz.ntmps83
    go_wp2_with fail
    refine wp_loop_rounds 1 ?_
    rw [rounds_succ]
    go_wp2
    go_ret
    exact ⟨rfl, Below.refl _ _⟩
  · have Hc := hide hc
    clear hc
    go_enter Tryz.func83, Tryz.ntmps83
    go_wp2_with fail
    go_loopw [3, 8] (fun x y wx => ∃ k : Nat, k ≤ L.length ∧ x = .int .i64 ((slotsN (L.take k) : Nat) : Int) ∧ y = .int .i64 (k : Int) ∧ wx = w) (fun _ y _ => L.length - (intOf y).toNat)
    case atStart => exact ⟨0, Nat.zero_le _, rfl, rfl, rfl⟩
    case round =>
      obtain ⟨k, hk, rfl, rfl, hww⟩ := hrel
      subst wr
      have hsl := slots_le (L.take k)
      rw [List.length_take] at hsl
      by_cases hlt : k < L.length
      · obtain ⟨l, hl1, hl2⟩ := SV_at hlt
        have hcell : w.cell? ⟨g, off + k, none⟩ = some (.string ⟨l.toArray⟩) := (unhide Hc k hlt).trans hl2
        have hst := slots_take hl1
        have hln := slotN_le l
        have hS := Slots_any ⟨l.toArray⟩ w
        rw [data_of] at hS
        have HS := hide hS
        have Hst := hide hst
        generalize slotsN (L.take k) = A at *
        generalize slotN l = D at *
        have hki : (k : Int) < (L.length : Int) := by omega
        have hA : A ≤ 2097152 := by omega
        clear hl1 hl2 hst hS hsl
        go_wp2_with fail
        refine (unhide HS).mono ?_
        rintro e w' ⟨rfl, hww⟩
        subst w'
        go_wp2
        go_roundw
        case rel => exact ⟨k + 1, by omega, by rw [unhide Hst]; simp, by simp, trivial⟩
        case measure => simp [intOf]; omega
      · obtain rfl : k = L.length := by omega
        rw [List.take_length]
        rw [List.take_length] at hsl
        have hS := slots_le L
        have hq : decide ((slotsN L : Int) ≤ 254) = decide (slotsN L ≤ 254) := by congr 1; apply propext; omega
        have Hq := hide hq
        clear hq hsl
        go_wp2
        go_ret
        exact ⟨by rw [← unhide Hq]; rfl, Below.refl _ _⟩
theorem Tryz.info9 : (Tryz.prog.info? 9).map (fun i => (i.zero, i.size, i.bytes)) = some (some (.string ⟨#[]⟩), 1, 16) := by kernel_rfl
def strSize : Value → Nat | .string q => q.size | _ => 0
/-- The list that grows, and what is left. -/
def CBox (s : ByteArray) (w wr : World) (t : ByteArray) (v : Value) (L : List (List UInt8)) : Prop :=
  Cut s.data.toList L t.data.toList ∧ wr.ownsRow w.heap.size 9 1 v L.length (SV L) ∧ Below w.heap.size w wr
theorem ext_to (t : ByteArray) (n : Nat) : t.extract 0 n = ⟨(t.data.toList.take n).toArray⟩ := bytes_ext (by rw [seg_data, data_of, List.drop_zero, Nat.sub_zero])
theorem ext_from (t : ByteArray) (n : Nat) : (t.extract n t.size).data.toList = t.data.toList.drop n := by
  rw [seg_data]; exact List.take_of_length_le (by simp)
set_option maxRecDepth 100000 in
set_option maxHeartbeats 2000000 in
theorem cutValues_any (s : ByteArray) (w : World) (hm : Mx w) (hs : s.size ≤ 1048576) :
    Calls Tryz.prog 82 #[.string s] w fun e w' => ∃ v, e = .returned (.tuple #[v, .string ⟨(V s.data.toList).2.toArray⟩]) ∧ w'.ownsRow w.heap.size 9 1 v (V s.data.toList).1.length (SV (V s.data.toList).1) ∧ Below w.heap.size w w' := by
  have hl : s.data.toList.length = s.size := by simp
  obtain ⟨i0, hi, hz0, hz1, hz2⟩ := info_parts Tryz.info9
  have hV0 := valueLength_any s w hm hs
  have H0 := hide hV0
  have Hm := hide hm
  clear hV0 hm
  go_enter Tryz.func82, Tryz.ntmps82
  go_wp2_with fail
  refine (unhide H0).mono ?_
  rintro e w0 ⟨rfl, hb0⟩
  go_wp2_with fail
  go_loopw [0, 4, 5] (fun x v n wr => ∃ t L, x = .string t ∧ n = .int .i64 (valLen t.data.toList : Nat) ∧ Hid (CBox s w wr t v L)) (fun x _ _ _ => strSize x)
  case atStart => exact ⟨s, [], rfl, rfl, hide ⟨Cut.zero _, World.ownsRow_nil _ _ _ _, hb0⟩⟩
  case round =>
    clear hb0 H0
    obtain ⟨t, L, rfl, rfl, HB⟩ := hrel
    obtain ⟨hC, ho, hbe⟩ := id (unhide HB)
    have htl : t.data.toList.length = t.size := by simp
    have hc2 := hC.2
    rw [htl, hl] at hc2
    have hvl := val_le t.data.toList
    rw [htl] at hvl
    by_cases hv : valLen t.data.toList = 0
    · have hd := hC.done hv
      have Hd := hide hd
      rw [hv]
      clear hv hvl htl hd hC HB
      go_wp2
      go_ret2
      rw [unhide Hd]
      exact ⟨_, rfl, ho, hbe⟩
    · have hst := hC.step hv
      have e1 := ext_to t (valLen t.data.toList)
      have e2 := ext_from t (valLen t.data.toList)
      obtain ⟨n, en⟩ : ∃ n, n = valLen t.data.toList := ⟨_, rfl⟩
      rw [← en] at hst e1 e2 hvl hv ⊢
      have q1 := slice_to t n hvl
      have q2 := slice_from t n hvl
      have hn0 : (0 : Int) < (n : Int) := by omega
      have hts : (t.extract n t.size).size ≤ 1048576 := by simp; omega
      have htz : t.size ≤ 1048576 := by omega
      have E1 := hide e1
      have E2 := hide e2
      have Hst := hide hst
      have Hmr := hide ((unhide Hm).below hbe)
      clear e1 e2 hst hC HB en htl
      have hz4 := hbe.size
      go_wp2_with (at_builtin; refine wpList_append_own _ rfl _ _ 88 rfl w.heap.size 9 i0 (.string ⟨#[]⟩) 1 16 Tryz.underlying88 hi hz0 hz1 hz2 rfl (by decide) _ _ _ rfl (ho.alloc _) ⟨wr.heap.size, 0, none⟩ 1 1 [.string (t.extract 0 n)] rfl rfl ?c1 ?c2 ?c3 ?c4 ?c5 ?_)
      case c1 =>
        intro j u hj
        match j, hj with
        | 0, hj => simp at hj; subst hj; simp [Addr.add]
      case c2 => intro u hu; simp at hu; subst hu; rfl
      case c3 => unfold maxLen; omega
      case c4 => omega
      case c5 => simp; omega
      intro v' w1 hown' hgrow _
      have hb3 : Below w.heap.size w w1 := (hbe.alloc (by omega) _).grown hgrow (by simp; omega) (fun j hj => by have := (ho.lt j hj).1; omega)
      rw [unhide E1] at hown'
      have ho3 : w1.ownsRow w.heap.size 9 1 v' (L ++ [t.data.toList.take n]).length (SV (L ++ [t.data.toList.take n])) := by rw [SV_snoc, List.length_append, List.length_singleton]; exact hown'
      have hVn := valueLength_any (t.extract n t.size) w1 ((unhide Hm).below hb3) hts
      have HV := hide hVn
      clear hown' hgrow ho hVn E1 Hmr
      go_wp2_with fail
      refine (unhide HV).mono ?_
      rintro e w2 ⟨rfl, hb4⟩
      have hb5 := hb3.trans (hb4.mono hb3.size)
      have ho5 := own_below ho3 (Nat.le_refl _) hb4
      have hst2 : Hid (CBox s w w2 (t.extract n t.size) v' (L ++ [t.data.toList.take n])) := ⟨by rw [unhide E2]; exact unhide Hst, ho5, hb5⟩
      clear ho5 hb5 hb4 ho3 hb3 HV E2 Hst
      go_wp2
      go_roundw
      case rel => exact ⟨_, L ++ [t.data.toList.take n], rfl, by rw [seg_data], hst2⟩
      case measure => simp only [strSize]; simp; omega
/-- What Method gives, on either side. -/
def MethRes (l : List UInt8) (w : World) (e : Ending) (w' : World) : Prop :=
  Below w.heap.size w w' ∧ ((meth l = none ∧ e = .returned (.tuple #[.slice none 0 0, .string ⟨#[]⟩, .bool false])) ∨
    ∃ L g v, meth l = some (L, g) ∧ e = .returned (.tuple #[v, .string ⟨g.toArray⟩, .bool true]) ∧ w'.ownsRow w.heap.size 9 1 v L.length (SV L))
theorem prefix_no {b c : UInt8} {t : List UInt8} (h : b ≠ c) : Lib.hasPrefix (b :: t) [c] = false := by
  simp [Lib.hasPrefix, List.isPrefixOf]; exact fun e => h e.symm
set_option maxRecDepth 100000 in
set_option maxHeartbeats 2000000 in
theorem Method_any (s : ByteArray) (w : World) (hm : Mx w) (hs : s.size ≤ 1048576) :
    Calls Tryz.prog 59 #[.string s] w fun e w' => MethRes s.data.toList w e w' := by
  have hP := Tryz.strings_HasPrefix s ⟨#[40]⟩ w
  have hsl : s.data.toList.length = s.size := by simp
  cases hl : s.data.toList with
  | nil =>
    rw [hl] at hP
    have HP := hide hP
    have HR : Hid (meth [] = none) := rfl
    clear hP hl hsl
    go_enter Tryz.func59, Tryz.ntmps59
    go_wp2_with fail
    refine (unhide HP).mono ?_
    rintro e w1 ⟨rfl, hww⟩
    subst w1
    have hq : Lib.hasPrefix [] (⟨#[40]⟩ : ByteArray).data.toList = false := rfl
    rw [hq]
    go_wp2
    go_ret3
    exact ⟨Below.refl _ _, .inl ⟨unhide HR, rfl⟩⟩
  | cons b t =>
    by_cases hb : b = 40
    · subst hb
      have hx1 := ext1 hl
      have htl : t.length + 1 = s.size := by rw [← hsl, hl]; rfl
      have q1 := slice_from s 1 (by omega)
      have hC := cutValues_any (s.extract 1 s.size) w hm (by simp; omega)
      rw [hx1] at hC
      have hVf := V_flat t.length t rfl
      have hVc := V_count t.length t rfl
      rw [hl] at hP
      have hq : Lib.hasPrefix (40 :: t) (⟨#[40]⟩ : ByteArray).data.toList = true := rfl
      rw [hq] at hP
      have HP := hide hP
      have HC := hide hC
      have Hm := hide hm
      clear hP hq hl hx1 hC hsl hm
      obtain ⟨L, r, hV⟩ : ∃ L r, V t = (L, r) := ⟨_, _, rfl⟩
      rw [hV] at HC hVf hVc
      have hLl : L.length ≤ 1048576 := by simp only at hVc; omega
      have hrl : r.length ≤ 1048576 := by have := congrArg List.length hVf; simp only [List.length_append] at this; omega
      have HV := hide hV
      clear hV hVf hVc
      simp only at HC
      have hcase : (r = [] ∨ ∃ c g, r = c :: g ∧ c ≠ 41) ∨ ∃ g, r = 41 :: g := by
        cases r with
        | nil => exact .inl (.inl rfl)
        | cons c g =>
          by_cases hc : c = 41
          · exact .inr ⟨g, by rw [hc]⟩
          · exact .inl (.inr ⟨c, g, rfl, hc⟩)
      rcases hcase with hno | ⟨g, rfl⟩
      · have HR : Hid (meth (40 :: t) = none) := by
          show meth (40 :: t) = none
          rcases hno with h | ⟨c, g, h, hc⟩
          · rw [h] at HV; exact meth_end (unhide HV)
          · rw [h] at HV; rw [meth_cons (unhide HV), if_neg (fun h => hc h.1)]
        have hpf : Lib.hasPrefix r [41] = false := by
          rcases hno with h | ⟨c, g, h, hc⟩
          · rw [h]; rfl
          · rw [h]; exact prefix_no hc
        have hQ := fun W : World => Tryz.strings_HasPrefix ⟨r.toArray⟩ ⟨#[41]⟩ W
        simp only [hpf] at hQ
        have HQ := hide hQ
        clear hno hpf hQ HV
        go_enter Tryz.func59, Tryz.ntmps59
        go_wp2_with fail
        refine (unhide HP).mono ?_
        rintro e w1 ⟨rfl, hww⟩
        subst w1
        go_wp2_with fail
        refine (unhide HC).mono ?_
        rintro e w2 ⟨v, rfl, ho, hb2⟩
        go_wp2_with fail
        refine (unhide HQ _).mono ?_
        rintro e w3 ⟨rfl, hww⟩
        subst w3
        go_wp2
        go_ret3
        exact ⟨hb2, .inl ⟨unhide HR, rfl⟩⟩
      · have hQ := fun W : World => Tryz.strings_HasPrefix ⟨(41 :: g).toArray⟩ ⟨#[41]⟩ W
        have hpf : Lib.hasPrefix (41 :: g) [41] = true := rfl
        simp only [hpf] at hQ
        have HQ := hide hQ
        obtain ⟨R, eR⟩ : ∃ R : ByteArray, R = ⟨(41 :: g).toArray⟩ := ⟨_, rfl⟩
        have hRd : R.data.toList = 41 :: g := by rw [eR, data_of]
        have hRz : R.size = g.length + 1 := by rw [eR, size_of]; rfl
        have hGd : (R.extract 1 R.size).data.toList = g := ext1 hRd
        have eG : R.extract 1 R.size = ⟨g.toArray⟩ := bytes_ext (by rw [hGd, data_of])
        have hGz : (R.extract 1 R.size).size ≤ 1048576 := by rw [eG, size_of]; simp at hrl; omega
        have hR1 : 1 ≤ R.size := by omega
        have hR2 : (1 : Int) ≤ (R.size : Int) := by omega
        rw [← eR] at HC HQ
        have hF := fun (W : World) (hW : Mx W) => Field_any (R.extract 1 R.size) W hW hGz
        rw [hGd] at hF
        have HF := hide hF
        have hM := meth_cons (unhide HV)
        have HM := hide hM
        have EG := hide eG
        have HGd := hide hGd
        clear hpf hQ eR eG hRd hRz hF hM HV hGd hGz
        have hfit := fun (W : World) (v : Value) (h : Has W v L) => fit_any v L W hLl h
        have HFit := hide hfit
        clear hfit
        by_cases hslots : slotsN L ≤ 254
        · have hd : decide (slotsN L ≤ 254) = true := decide_eq_true hslots
          rw [hd] at HFit
          by_cases hgV : g = [86]
          · have n1 : ((R.extract 1 R.size).toList == [86]) = true := by rw [Lib.toList_data, unhide HGd, hgV]; rfl
            have HR : Hid (meth (40 :: t) = some (L, g)) := by
              show meth (40 :: t) = some (L, g)
              rw [unhide HM, if_pos ⟨rfl, hslots, by rw [hgV]; rfl⟩]
            clear hd hslots hgV HF HM
            go_enter Tryz.func59, Tryz.ntmps59
            go_wp2_with fail
            refine (unhide HP).mono ?_
            rintro e w1 ⟨rfl, hww⟩
            subst w1
            go_wp2_with fail
            refine (unhide HC).mono ?_
            rintro e w2 ⟨v, rfl, ho, hb2⟩
            go_wp2_with fail
            refine (unhide HQ _).mono ?_
            rintro e w3 ⟨rfl, hww⟩
            subst w3
            go_wp2_with fail
            refine (unhide HFit _ _ (Has.of_own ho)).mono ?_
            rintro e w4 ⟨rfl, hb4⟩
            have hb5 := hb2.trans (hb4.mono hb2.size)
            have ho5 := own_below ho (Nat.le_refl _) hb4
            clear ho hb2 hb4
            go_wp2
            go_ret3
            exact ⟨hb5, .inr ⟨L, g, v, unhide HR, by rw [← unhide EG]; rfl, ho5⟩⟩
          · have n1 : ((R.extract 1 R.size).toList == [86]) = false := by rw [Lib.toList_data, unhide HGd, beq_eq_false_iff_ne]; exact hgV
            have hgive : giveB g = fieldB g := by unfold giveB; rw [show (g == [86]) = false by rw [beq_eq_false_iff_ne]; exact hgV]; rfl
            cases hfb : fieldB g with
            | true =>
              have HR : Hid (meth (40 :: t) = some (L, g)) := by
                show meth (40 :: t) = some (L, g)
                rw [unhide HM, if_pos ⟨rfl, hslots, by rw [hgive, hfb]⟩]
              rw [hfb] at HF
              clear hd hslots hgV HM hgive hfb
              go_enter Tryz.func59, Tryz.ntmps59
              go_wp2_with fail
              refine (unhide HP).mono ?_
              rintro e w1 ⟨rfl, hww⟩
              subst w1
              go_wp2_with fail
              refine (unhide HC).mono ?_
              rintro e w2 ⟨v, rfl, ho, hb2⟩
              go_wp2_with fail
              refine (unhide HQ _).mono ?_
              rintro e w3 ⟨rfl, hww⟩
              subst w3
              go_wp2_with fail
              refine (unhide HFit _ _ (Has.of_own ho)).mono ?_
              rintro e w4 ⟨rfl, hb4⟩
              have hb5 := hb2.trans (hb4.mono hb2.size)
              have ho5 := own_below ho (Nat.le_refl _) hb4
              clear ho hb2 hb4
              go_wp2_with fail
              refine (unhide HF _ ((unhide Hm).below hb5)).mono ?_
              rintro e w5 ⟨rfl, hb6⟩
              have hb7 := hb5.trans (hb6.mono hb5.size)
              have ho7 := own_below ho5 (Nat.le_refl _) hb6
              clear ho5 hb5 hb6
              go_wp2
              go_ret3
              exact ⟨hb7, .inr ⟨L, g, v, unhide HR, by rw [← unhide EG]; rfl, ho7⟩⟩
            | false =>
              have HR : Hid (meth (40 :: t) = none) := by
                show meth (40 :: t) = none
                rw [unhide HM, if_neg (fun h => by rw [hgive, hfb] at h; cases h.2.2)]
              rw [hfb] at HF
              clear hd hslots hgV HM hgive hfb
              go_enter Tryz.func59, Tryz.ntmps59
              go_wp2_with fail
              refine (unhide HP).mono ?_
              rintro e w1 ⟨rfl, hww⟩
              subst w1
              go_wp2_with fail
              refine (unhide HC).mono ?_
              rintro e w2 ⟨v, rfl, ho, hb2⟩
              go_wp2_with fail
              refine (unhide HQ _).mono ?_
              rintro e w3 ⟨rfl, hww⟩
              subst w3
              go_wp2_with fail
              refine (unhide HFit _ _ (Has.of_own ho)).mono ?_
              rintro e w4 ⟨rfl, hb4⟩
              have hb5 := hb2.trans (hb4.mono hb2.size)
              clear ho hb2 hb4
              go_wp2_with fail
              refine (unhide HF _ ((unhide Hm).below hb5)).mono ?_
              rintro e w5 ⟨rfl, hb6⟩
              have hb7 := hb5.trans (hb6.mono hb5.size)
              clear hb5 hb6
              go_wp2
              go_ret3
              exact ⟨hb7, .inl ⟨unhide HR, rfl⟩⟩
        · have hd : decide (slotsN L ≤ 254) = false := decide_eq_false hslots
          rw [hd] at HFit
          have HR : Hid (meth (40 :: t) = none) := by
            show meth (40 :: t) = none
            rw [unhide HM, if_neg (fun h => hslots h.2.1)]
          clear hd hslots HF HM
          go_enter Tryz.func59, Tryz.ntmps59
          go_wp2_with fail
          refine (unhide HP).mono ?_
          rintro e w1 ⟨rfl, hww⟩
          subst w1
          go_wp2_with fail
          refine (unhide HC).mono ?_
          rintro e w2 ⟨v, rfl, ho, hb2⟩
          go_wp2_with fail
          refine (unhide HQ _).mono ?_
          rintro e w3 ⟨rfl, hww⟩
          subst w3
          go_wp2_with fail
          refine (unhide HFit _ _ (Has.of_own ho)).mono ?_
          rintro e w4 ⟨rfl, hb4⟩
          have hb5 := hb2.trans (hb4.mono hb2.size)
          clear ho hb2 hb4
          go_wp2
          go_ret3
          exact ⟨hb5, .inl ⟨unhide HR, rfl⟩⟩
    · have HR : Hid (meth (b :: t) = none) := meth_no hb
      have hq : Lib.hasPrefix (b :: t) (⟨#[40]⟩ : ByteArray).data.toList = false := prefix_no hb
      rw [hl, hq] at hP
      have HP := hide hP
      clear hP hl hsl hb hq
      go_enter Tryz.func59, Tryz.ntmps59
      go_wp2_with fail
      refine (unhide HP).mono ?_
      rintro e w1 ⟨rfl, hww⟩
      subst w1
      go_wp2
      go_ret3
      exact ⟨Below.refl _ _, .inl ⟨unhide HR, rfl⟩⟩
theorem val_close (g : List UInt8) : valLen (41 :: g) = 0 := val_none (by rw [dims_other (by decide), List.drop_zero, elem_other (by decide) (by decide)])
theorem val_nil : valLen [] = 0 := val_none (by simp [elemLen])
set_option maxRecDepth 100000 in
set_option maxHeartbeats 2000000 in
theorem RMethod_any (s : ByteArray) (w : World) (hs : s.size ≤ 1048576) :
    Calls Tryz.prog 41 #[.string s] w fun e w' => MethRes s.data.toList w e w' := by
  have hsl : s.data.toList.length = s.size := by simp
  cases hl : s.data.toList with
  | nil =>
    have hemp : s.toList.isEmpty = true := by rw [empty_of, hl]; rfl
    have HR : Hid (meth [] = none) := rfl
    clear hl hsl
    go_enter Tryz.func41, Tryz.ntmps41
    go_wp2_with fail
    go_ret3
    exact ⟨Below.refl _ _, .inl ⟨unhide HR, rfl⟩⟩
  | cons b t0 =>
    have hemp : s.toList.isEmpty = false := by rw [empty_of, hl]; rfl
    have ha0 := at0 hl
    have htl : t0.length + 1 = s.size := by rw [← hsl, hl]; rfl
    have hsp : 0 < s.size := by omega
    have hsp1 : 1 ≤ s.size := by omega
    have hsp2 : (1 : Int) ≤ (s.size : Int) := by omega
    by_cases hb : b = 40
    · subst hb
      have hx1 := ext1 hl
      have Hx1 := hide hx1
      have hc0 : Cut t0 [] (s.extract 1 s.size).data.toList := by rw [hx1]; exact Cut.zero _
      have HC0 := hide hc0
      have htl2 : t0.length ≤ 1048576 := by omega
      clear hl hsl hx1 hc0 htl
      obtain ⟨i0, hi, hz0, hz1, hz2⟩ := info_parts Tryz.info9
      go_enter Tryz.func41, Tryz.ntmps41
      go_wp2_with fail
      go_loopw [0, 5, 6] (fun x v z wr => ∃ t L, x = .string t ∧ z = .int .i64 ((slotsN L : Nat) : Int) ∧ Hid (Cut t0 L t.data.toList) ∧ Hid (wr.ownsRow w.heap.size 9 1 v L.length (SV L)) ∧ Below w.heap.size w wr) (fun x _ _ _ => strSize x)
      case atStart => exact ⟨_, [], rfl, rfl, HC0, hide (World.ownsRow_nil _ _ _ _), Below.refl _ _⟩
      case round =>
        clear HC0 Hx1
        obtain ⟨t, L, rfl, rfl, HC, Ho, hbe⟩ := hrel
        have htz : t.data.toList.length = t.size := by simp
        have hc2 := (unhide HC).2
        rw [htz] at hc2
        have hLl : L.length ≤ 1048576 := by omega
        have htsz : t.size ≤ 1048576 := by omega
        have hsn := slots_le L
        cases htd : t.data.toList with
        | nil =>
          have hemp2 : t.toList.isEmpty = true := by rw [empty_of, htd]; rfl
          rw [htd] at HC
          have HR : Hid (meth (40 :: t0) = none) := meth_end ((unhide HC).done val_nil)
          clear htd HC htz hc2
          go_wp2
          go_ret3
          exact ⟨hbe, .inl ⟨unhide HR, rfl⟩⟩
        | cons c g =>
          have hemp2 : t.toList.isEmpty = false := by rw [empty_of, htd]; rfl
          have hb0 := at0 htd
          have htz2 : g.length + 1 = t.size := by rw [← htz, htd]; rfl
          have ht1 : 0 < t.size := by omega
          have ht2 : 1 ≤ t.size := by omega
          have ht3 : (1 : Int) ≤ (t.size : Int) := by omega
          by_cases hc41 : c = 41
          · subst hc41
            have hV : V t0 = (L, 41 :: g) := by
              have := (unhide HC).done (by rw [htd]; exact val_close g)
              rw [htd] at this; exact this
            have hM := meth_cons hV
            have HM := hide hM
            have hGd : (t.extract 1 t.size).data.toList = g := ext1 htd
            have eG : t.extract 1 t.size = ⟨g.toArray⟩ := bytes_ext (by rw [hGd, data_of])
            have hF := fun (W : World) => RField_any (t.extract 1 t.size) W (by simp; omega)
            rw [hGd] at hF
            have HF := hide hF
            have EG := hide eG
            have Htd := hide htd
            clear hV hM hGd eG hF HC htz hc2 htd htz2
            generalize slotsN L = S at *
            by_cases hslots : S ≤ 254
            · have hsi : ¬ ((254 : Int) < (S : Int)) := by omega
              by_cases hgV : g = [86]
              · have n1 : (t.toList == [41, 86]) = true := by rw [Lib.toList_data, unhide Htd, hgV]; rfl
                have HR : Hid (meth (40 :: t0) = some (L, g)) := by
                  show meth (40 :: t0) = some (L, g)
                  rw [unhide HM, if_pos ⟨rfl, hslots, by rw [hgV]; rfl⟩]
                clear hslots hgV HF HM Htd
                go_wp2
                go_region
                go_wp2
                go_ret3
                exact ⟨hbe.drew, .inr ⟨L, g, _, unhide HR, by rw [← unhide EG]; rfl, unhide Ho⟩⟩
              · have n1 : (t.toList == [41, 86]) = false := by rw [Lib.toList_data, unhide Htd, beq_eq_false_iff_ne]; intro e; cases e; exact hgV rfl
                have hgive : giveB g = fieldB g := by unfold giveB; rw [show (g == [86]) = false by rw [beq_eq_false_iff_ne]; exact hgV]; rfl
                cases hfb : fieldB g with
                | true =>
                  have HR : Hid (meth (40 :: t0) = some (L, g)) := by
                    show meth (40 :: t0) = some (L, g)
                    rw [unhide HM, if_pos ⟨rfl, hslots, by rw [hgive, hfb]⟩]
                  rw [hfb] at HF
                  clear hslots hgV HM hgive hfb Htd
                  go_wp2_with fail
                  refine (unhide HF _).mono ?_
                  rintro e w5 ⟨rfl, hb6⟩
                  have hb7 := hbe.trans (hb6.mono hbe.size)
                  have Ho7 := hide (own_below (unhide Ho) (Nat.le_refl _) hb6)
                  clear Ho hbe hb6
                  go_wp2
                  go_region
                  go_wp2
                  go_ret3
                  exact ⟨hb7.drew, .inr ⟨L, g, _, unhide HR, by rw [← unhide EG]; rfl, unhide Ho7⟩⟩
                | false =>
                  have HR : Hid (meth (40 :: t0) = none) := by
                    show meth (40 :: t0) = none
                    rw [unhide HM, if_neg (fun h => by rw [hgive, hfb] at h; cases h.2.2)]
                  rw [hfb] at HF
                  clear hslots hgV HM hgive hfb Htd
                  go_wp2_with fail
                  refine (unhide HF _).mono ?_
                  rintro e w5 ⟨rfl, hb6⟩
                  have hb7 := hbe.trans (hb6.mono hbe.size)
                  go_wp2
                  go_ret3
                  exact ⟨hb7, .inl ⟨unhide HR, rfl⟩⟩
            · have hsi : (254 : Int) < (S : Int) := by omega
              have HR : Hid (meth (40 :: t0) = none) := by
                show meth (40 :: t0) = none
                rw [unhide HM, if_neg (fun h => hslots h.2.1)]
              clear hslots HF HM Htd
              go_wp2
              go_ret3
              exact ⟨hbe, .inl ⟨unhide HR, rfl⟩⟩
          · have f41 := byte_ne (n := 41) (by omega) hc41
            have hO := one_any t.size t 0 wr rfl htsz (by omega)
            have hz : ((0 : Nat) : Int) = 0 := rfl
            rw [hz] at hO
            have HO := hide hO
            have Htd := hide htd
            clear hO hz htd
            go_wp2_with fail
            refine (unhide HO).mono ?_
            rintro e w1 ⟨h1, hb1⟩
            have hb2 := hbe.trans (hb1.mono hbe.size)
            have Ho2 := hide (own_below (unhide Ho) (Nat.le_refl _) hb1)
            clear Ho HO
            rcases h1.cases with ⟨hv, rfl⟩ | ⟨hv, tt, rr, rfl⟩
            · have hst := (unhide HC).step hv
              have hvl := val_le t.data.toList
              rw [htz] at hvl
              have hss := slots_snoc L (t.data.toList.take (valLen t.data.toList))
              have hsb := slotN_le (t.data.toList.take (valLen t.data.toList))
              have hdl : (t.data.toList.drop (valLen t.data.toList)).length < t.size := by rw [List.length_drop, htz]; omega
              have hRS := fun W : World => RSlots_any ⟨(t.data.toList.take (valLen t.data.toList)).toArray⟩ W
              simp only at hRS
              have HRS := hide hRS
              have Hst := hide hst
              have Hss := hide hss
              clear hRS hst hss h1 hv hvl HC htz hc2 Htd hbe hb1
              generalize t.data.toList.take (valLen t.data.toList) = T at *
              generalize t.data.toList.drop (valLen t.data.toList) = D at *
              generalize slotN T = B at *
              obtain ⟨S, eS⟩ : ∃ S, S = slotsN L := ⟨_, rfl⟩
              rw [← eS] at Hss hsn ⊢
              have hS : S ≤ 2097152 := by omega
              have ho := unhide Ho2
              have hz4 := hb2.size
              clear Ho2 eS
              go_wp2_with (at_builtin; refine wpList_append_own _ rfl _ _ 88 rfl w.heap.size 9 i0 (.string ⟨#[]⟩) 1 16 Tryz.underlying88 hi hz0 hz1 hz2 rfl (by decide) _ _ _ rfl (ho.alloc _) ⟨w1.heap.size, 0, none⟩ 1 1 [.string ⟨T.toArray⟩] rfl rfl ?c1 ?c2 ?c3 ?c4 ?c5 ?_)
              case c1 =>
                intro j u hj
                match j, hj with
                | 0, hj => simp at hj; subst hj; simp [Addr.add]
              case c2 => intro u hu; simp at hu; subst hu; rfl
              case c3 => unfold maxLen; omega
              case c4 => omega
              case c5 => simp; omega
              intro v' w2 hown' hgrow _
              have hb3 : Below w.heap.size w w2 := (hb2.alloc (by omega) _).grown hgrow (by simp; omega) (fun j hj => by have := (ho.lt j hj).1; omega)
              have ho3 : Hid (w2.ownsRow w.heap.size 9 1 v' (L ++ [T]).length (SV (L ++ [T]))) := by
                show World.ownsRow _ _ _ _ _ _ _
                rw [SV_snoc, List.length_append, List.length_singleton]; exact hown'
              clear hown' hgrow ho
              go_wp2_with fail
              refine (unhide HRS _).mono ?_
              rintro e w3 ⟨rfl, hww⟩
              subst w3
              go_wp2
              go_roundw
              case rel => exact ⟨_, L ++ [T], rfl, by rw [unhide Hss]; simp, by rw [data_of]; exact Hst, ho3, hb3⟩
              case measure => simp only [strSize]; rw [size_of]; omega
            · have HR : Hid (meth (40 :: t0) = none) := by
                show meth (40 :: t0) = none
                have hV := (unhide HC).done hv
                rw [unhide Htd] at hV
                rw [meth_cons hV, if_neg (fun h => hc41 h.1)]
              clear h1 hv HC Htd
              go_wp2
              go_ret3
              exact ⟨hb2, .inl ⟨unhide HR, rfl⟩⟩
    · have HR : Hid (meth (b :: t0) = none) := meth_no hb
      have f40 := byte_ne (n := 40) (by omega) hb
      clear hl hsl hb htl
      go_enter Tryz.func41, Tryz.ntmps41
      go_wp2_with fail
      go_ret3
      exact ⟨Below.refl _ _, .inl ⟨unhide HR, rfl⟩⟩

end Go.Proofs.YtddhlphbbiihjaaGreatDoor.W
