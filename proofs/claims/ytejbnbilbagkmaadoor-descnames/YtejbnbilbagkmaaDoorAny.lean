/-
  strings.IndexAny, strings.ContainsAny: whatever bytes the text holds; the bytes that are looked for are ASCII.
-/
import Derived.Test.YtejbnbilbagkmaaDoorRune
import Derived.Lib.OthersKept
namespace Go.Proofs.YtejbnbilbagkmaaDoor
open Go.RowKit
theorem get_bang (s : ByteArray) (j : Nat) (b : UInt8) (h : s.data.toList[j]? = some b) : s.get! j = b := by
  have hj : j < s.size := by
    have := (List.getElem?_eq_some_iff.1 h).1
    simpa using this
  have h2 := get_at s j hj
  rw [Nat.add_zero] at h2
  rw [h2]
  have h3 := (List.getElem?_eq_some_iff.1 h).2
  simp at h3
  exact h3
set_option maxRecDepth 1000000 in
set_option maxHeartbeats 4000000 in
theorem IndexAny_small (s c : ByteArray) (w : World) (h2 : 2 ≤ c.size) (h8 : s.size ≤ 8) (hca : ∀ b ∈ c.data.toList, b.toNat < 128) :
    Calls Tryd.prog 37 #[.string s, .string c] w fun e w' => (∃ z : Int, e = .returned (.int .i64 z) ∧ decide (0 ≤ z) = hasAny s.data.toList c.data.toList) ∧ Below w.heap.size w w' := by
  have Hca := hide hca
  clear hca
  have hemp : c.toList.isEmpty = false := by
    rw [Lib.toList_data]
    cases h : c.data.toList with
    | nil => have := Lib.size_eq c; rw [h, List.length_nil] at this; omega
    | cons _ _ => rfl
  have hn1 : ((c.size : Int) == 1) = false := beq_eq_false_iff_ne.2 (by omega)
  have h8z : decide ((8 : Int) < (s.size : Int)) = false := decide_eq_false (by omega)
  go_enter Tryd.func37, Tryd.ntmps37
  go_wp2_with (go_at_call 54; refine (Tryd.strings_shouldUseASCIISet _ _).mono ?_; rintro e w' ⟨rfl, hw⟩; subst w'; rw [h8z])
  clear h8z hn1 hemp
  go_loopg [9, 10] s.size (fun g _ _ wx => ∃ i : Nat, i ≤ s.size ∧ s.size - i ≤ g ∧ wx.heap[w.heap.size]? = some (.stringIter s i) ∧ Below w.heap.size w wx ∧ Hid (Lib.NoAny s.data.toList c.data.toList i))
  case atStart => exact ⟨0, by omega, by omega, World.iter_heap w s 0, (Below.refl _ _).alloc (Nat.le_refl _) _, hide (Lib.NoAny.zero _ _)⟩
  case round =>
    obtain ⟨i, hi0, hig, hk, hbe, HN⟩ := hrel
    by_cases hi : i < s.size
    · obtain ⟨g, rfl⟩ : ∃ g, gk = g + 1 := ⟨gk - 1, by omega⟩
      obtain ⟨x, hx⟩ : ∃ x : UInt8, s[i]'hi = x := ⟨_, rfl⟩
      have hxl : s.data.toList[i]? = some x := by rw [← hx]; exact Lib.data_getElem? s i hi
      have Hxl := hide hxl
      clear hxl
      by_cases hx128 : x.toNat < 128
      · have hnx := fun ty => Go.Lib.run_next_ascii_at (P := Tryd.prog) wr w.heap.size s i ty hk hi (by rw [hx]; exact hx128)
        rw [hx] at hnx
        have hb2 : Below w.heap.size w (wr.iterAt w.heap.size s (i + 1)) := Go.Lib.below_iterAt hbe (Nat.le_refl _) s (i + 1)
        have hk2 := Go.Lib.iterAt_heap wr w.heap.size s i (i + 1) hk
        generalize wr.iterAt w.heap.size s (i + 1) = wn at hnx hb2 hk2
        clear hx hk hbe
        have hcon := Lib.contains_iff_indexByte c.data.toList x
        have hback : ((x.toNat : Int)).toNat.toUInt8 = x := by simp
        have HB := hide hback
        clear hback
        cases hin : c.data.toList.contains x
        · rw [hin] at hcon
          have hlt : ¬ ((0 : Int) ≤ Lib.indexByte c.data.toList x) := of_decide_eq_false hcon.symm
          have HN2 := hide ((unhide HN).succ (unhide Hxl) hin)
          clear hcon hin HN Hxl
          go_wp2_with (go_at_call 53; refine (Tryd.strings_IndexRune_ascii _ _ _ (by omega) (by omega)).mono ?_; rintro e w' ⟨rfl, hw⟩; subst w'; rw [unhide HB])
          go_roundg g
          case measure => omega
          case rel => exact ⟨i + 1, by omega, by omega, hk2, hb2, HN2⟩
        · rw [hin] at hcon
          have hge : (0 : Int) ≤ Lib.indexByte c.data.toList x := of_decide_eq_true hcon.symm
          have hy := hide (hasAny_yes (unhide Hxl) hin)
          clear hcon hin HN Hxl
          go_wp2_with (go_at_call 53; refine (Tryd.strings_IndexRune_ascii _ _ _ (by omega) (by omega)).mono ?_; rintro e w' ⟨rfl, hw⟩; subst w'; rw [unhide HB])
          go_ret
          exact ⟨⟨_, rfl, by rw [unhide hy]; simp⟩, hb2⟩
      · have hnx := fun ty => Go.Lib.run_next_any_at (P := Tryd.prog) wr w.heap.size s i ty hk hi
        have hd := decode_high s i hi (by rw [hx]; omega)
        have hd2 := decode_le s i
        obtain ⟨k1, k2, k3⟩ := decode_skip s i hi
        obtain ⟨r, er⟩ : ∃ r, r = (Utf8.decode s i).1 := ⟨_, rfl⟩
        obtain ⟨n, en⟩ : ∃ n, n = (Utf8.decode s i).2 := ⟨_, rfl⟩
        rw [← er] at hnx hd hd2
        rw [← en] at hnx hd k1 k2 k3
        have hno : Lib.NoAny s.data.toList c.data.toList (i + n) := fun j b hj hb => by
          by_cases hji : j < i
          · exact unhide HN j b hji hb
          · have hb128 : 128 ≤ b.toNat := by
              by_cases e : j = i
              · subst e
                have := (unhide Hxl).symm.trans hb
                cases this
                omega
              · have := k3 (j - i) (by omega) (by omega)
                rw [show i + (j - i) = j by omega, get_bang s j b hb] at this
                exact this
            cases hc : c.data.toList.contains b with
            | false => rfl
            | true => have := unhide Hca b (by simpa using hc); omega
        have hb2 : Below w.heap.size w (wr.iterAt w.heap.size s (i + n)) := Go.Lib.below_iterAt hbe (Nat.le_refl _) s (i + n)
        have hk2 := Go.Lib.iterAt_heap wr w.heap.size s i (i + n) hk
        generalize wr.iterAt w.heap.size s (i + n) = wn at hnx hb2 hk2
        have HN2 := hide hno
        clear hno k3 er en hx hk hbe HN Hxl
        have hcall := rune_high c r wn (unhide Hca) hd.1 hd2
        have HC := hide hcall
        clear hcall
        go_wp2_with (go_at_call 53; refine (unhide HC).mono ?_; rintro e w' ⟨rfl, hbw⟩)
        have hb3 : Below w.heap.size w w' := hb2.trans (hbw.mono hb2.size)
        have hk3 : w'.heap[w.heap.size]? = some (.stringIter s (i + n)) := (hbw.block _ (by
          have := (Array.getElem?_eq_some_iff.1 hk2).1
          exact this)).trans hk2
        go_roundg g
        case measure => omega
        case rel => exact ⟨i + n, by omega, by omega, hk3, hb3, HN2⟩
    · obtain rfl : i = s.size := by omega
      have hnx := fun ty => Go.Lib.run_next_end_at (P := Tryd.prog) wr w.heap.size s s.size ty hk hi
      have hN := hide (hasAny_no (by rw [← Lib.size_eq]; exact unhide HN))
      clear HN hk
      go_wp2
      go_ret
      exact ⟨⟨_, rfl, by rw [unhide hN]; rfl⟩, hbe⟩
theorem info79 : (Tryd.prog.info? 79).map (fun i => (i.zero, i.size)) = some (some (.agg (Array.replicate 256 (.bool false))), 256) := by kernel_rfl
theorem zero79 : ∀ w, (zeroValue 79).run Tryd.prog w = .ok (.agg (Array.replicate 256 (.bool false))) w := (zero_of_info info79).1
set_option maxRecDepth 1000000 in
set_option maxHeartbeats 4000000 in
/-- strings.ContainsAny. -/
theorem ContainsAny_any (s c : ByteArray) (w : World) (h2 : 2 ≤ c.size) (hs : s.size < 4294967281) (hc : c.size < 4294967281) (hca : ∀ b ∈ c.data.toList, b.toNat < 128) :
    Calls Tryd.prog 22 #[.string s, .string c] w fun e w' => e = .returned (.bool (hasAny s.data.toList c.data.toList)) ∧ Below w.heap.size w w' := by
  have hI : Calls Tryd.prog 37 #[.string s, .string c] w fun e w' => (∃ z : Int, e = .returned (.int .i64 z) ∧ decide (0 ≤ z) = hasAny s.data.toList c.data.toList) ∧ Below w.heap.size w w' := by
    by_cases h8 : s.size ≤ 8
    · exact IndexAny_small s c w h2 h8 hca
    · refine (Tryd.strings_IndexAny_long zero79 s c w h2 (by omega) hs hc (fun j b hb => hca b (List.mem_of_getElem? hb))).mono ?_
      rintro e w' ⟨rfl, rfl⟩
      exact ⟨⟨_, rfl, (hasAny_index _ _).symm⟩, ((Below.refl _ _).alloc (Nat.le_refl _) _).alloc (by simp) _⟩
  have HI := hide hI
  clear hI hca h2 hs hc
  go_enter Tryd.func22, Tryd.ntmps22
  go_wp2_with fail
  refine (unhide HI).mono ?_
  rintro e w' ⟨⟨z, rfl, hz⟩, hb⟩
  have Hz := hide hz
  clear hz
  go_wp2
  go_ret
  exact ⟨by rw [← unhide Hz]; rfl, hb⟩
end Go.Proofs.YtejbnbilbagkmaaDoor
