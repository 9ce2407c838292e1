/-
  strings.IndexRune at a code point that is not ASCII, in a text that is.
  strings.IndexAny, strings.ContainsAny: whatever bytes the text holds; the bytes that are looked for are ASCII.
-/
import Derived.Test.YtddhlphbbiihjaaGreatDoorShelf
import Derived.Test.YtddhlphbbiihjaaGreatDoorMgCw
import Derived.Lib.OthersKept
namespace Go.Proofs.YtddhlphbbiihjaaGreatDoor
open Go.RowKit
theorem indexByte_none {l : List UInt8} {x : UInt8} (h : x ∉ l) : Lib.indexByte l x = -1 := by
  induction l with
  | nil => rfl
  | cons b l ih =>
    have hb : (b == x) = false := by rw [beq_eq_false_iff_ne]; intro e; exact h (by rw [e]; exact List.mem_cons_self ..)
    rw [Lib.indexByte, hb, ih (fun m => h (List.mem_cons_of_mem _ m))]; simp
theorem enc_form (r : Nat) (h : 128 ≤ r) (hv : Lib.validRune (r : Int) = true) : (∃ x0 x1 : UInt8, Utf8.encode (r : Int) = ⟨#[x0, x1]⟩ ∧ 128 ≤ x1.toNat) ∨ (∃ x0 x1 x2 : UInt8, Utf8.encode (r : Int) = ⟨#[x0, x1, x2]⟩ ∧ 128 ≤ x2.toNat) ∨
    ∃ x0 x1 x2 x3 : UInt8, Utf8.encode (r : Int) = ⟨#[x0, x1, x2, x3]⟩ ∧ 128 ≤ x3.toNat := by
  have hv2 : Utf8.valid (r : Int) = true := by
    simp only [Lib.validRune, decide_eq_true_eq] at hv
    simp [Utf8.valid]; omega
  have hl : 128 ≤ (UInt8.ofNat (128 + r % 64)).toNat := by rw [UInt8.toNat_ofNat', Nat.mod_eq_of_lt (by omega)]; omega
  unfold Utf8.encode
  simp only [hv2, if_true, Int.toNat_natCast]
  rw [if_neg (by omega)]
  split
  · exact .inl ⟨_, _, rfl, hl⟩
  · split
    · exact .inr (.inl ⟨_, _, _, rfl, hl⟩)
    · exact .inr (.inr ⟨_, _, _, _, rfl, hl⟩)
set_option maxRecDepth 1000000 in
set_option maxHeartbeats 8000000 in
theorem rune_valid (c T : ByteArray) (n r : Nat) (x : UInt8) (w : World) (hca : ∀ b ∈ c.data.toList, b.toNat < 128) (h : 128 ≤ r) (h2 : r ≤ 2147483647) (hne : r ≠ 65533) (hv : Lib.validRune (r : Int) = true)
    (he : Utf8.encode (r : Int) = T) (hT : T.size = n + 1) (hn4 : n ≤ 3) (hx : 128 ≤ x.toNat) (hTx : ∀ h : n < T.size, T[n] = x) :
    Calls Tryz.prog 127 #[.string c, .int .i32 (r : Int)] w fun e w' => e = .returned (.int .i64 (-1)) ∧ Below w.heap.size w w' := by
  have hin : ∀ a b, Lib.indexByte (c.extract a b).data.toList x = -1 := fun a b => indexByte_none (fun m => by
    have h1 : x ∈ c.data.toList := by
      simp only [ByteArray.data_extract, Array.toList_extract, List.extract_eq_take_drop] at m
      exact List.mem_of_mem_drop (List.mem_of_mem_take m)
    have := hca x h1
    omega)
  have Hin := hide hin
  have n1 : decide ((r : Int) < 128) = false := by simp; omega
  have n2 : ((r : Int) == 65533) = false := by rw [beq_eq_false_iff_ne]; omega
  have hback : ((x.toNat : Int)).toNat.toUInt8 = x := by simp
  have HB := hide hback
  clear hin hback
  by_cases hlt : n < c.size
  · obtain ⟨y, hy⟩ : ∃ y, ∀ h : n < c.size, c[n] = y := ⟨c[n], fun _ => rfl⟩
    have hy8 : y.toNat < 128 := by rw [← hy hlt]; exact hca _ (by show c.data[n] ∈ _; simp)
    have hnn : ((y.toNat : Int) != (x.toNat : Int)) = true := by rw [bne_iff_ne]; omega
    have hlti : (n : Int) < (c.size : Int) := by omega
    have hle : (n : Int) + 1 ≤ (c.size : Int) := by omega
    have hle2 : n + 1 ≤ c.size := by omega
    have hnn0 : (0 : Int) ≤ (n : Int) + 1 := by omega
    have q1 : IntKind.i64.wrap ((n : Int) + 1) = (n : Int) + 1 := by rw [IntKind.wrap_i64, Int.emod_eq_of_lt (by omega) (by omega)]; omega
    have q3 : ((n : Int) + 1).toNat = n + 1 := by omega
    clear hca
    go_enter Tryz.func127, Tryz.ntmps127
    go_wp2_with (go_at_call 144; refine (Tryz.utf8_ValidRune _ _).mono ?_; rintro e w' ⟨rfl, hw⟩; subst w'; rw [hv])
    go_step3
    go_wp2_with fail
    refine wp_loop_rounds 1 ?_
    rw [rounds_succ]
    go_wp2_with fail
    go_step3
    go_wp2_with fail
    go_region
    go_wp2_with fail
    go_region_with (go_at_call 143; refine (Tryz.strings_IndexByte _ _ _).mono ?_; rintro e w' ⟨rfl, hw⟩; subst w'; rw [unhide HB, unhide Hin])
    all_goals
      go_wp2
      first
        | (change Exit.noGoto (Exit.inBlock 0 _) Exit.ret _ _; rw [Exit.noGoto_ret]; go_ret; exact ⟨rfl, (Below.refl _ _).drew.drew⟩)
        | (rw [Exit.noGoto_ret]; change Exit.noGoto (Exit.inBlock 0 _) Exit.ret _ _; rw [Exit.noGoto_ret]; go_ret; exact ⟨rfl, (Below.refl _ _).drew.drew⟩)
        | (rw [Exit.noGoto_ret]; simp only [Exit.inBlock, Exit.then, Exit.noGoto_ret]; go_ret; exact ⟨rfl, (Below.refl _ _).drew.drew⟩)
        | (simp only [Exit.noGoto, Exit.inBlock, Exit.then]; go_ret; exact ⟨rfl, (Below.refl _ _).drew.drew⟩)
  · clear hca
    go_enter Tryz.func127, Tryz.ntmps127
    go_wp2_with (go_at_call 144; refine (Tryz.utf8_ValidRune _ _).mono ?_; rintro e w' ⟨rfl, hw⟩; subst w'; rw [hv])
    go_step3
    go_wp2_with fail
    refine wp_loop_rounds 1 ?_
    rw [rounds_succ]
    go_wp2
    rw [Exit.noGoto_ret]
    go_ret
    exact ⟨rfl, Below.refl _ _⟩
/-- Decoding steps over no byte below 128 but the first, and not past the end. -/
theorem decode_skip (s : ByteArray) (pos : Nat) (h : pos < s.size) : pos + (Utf8.decode s pos).2 ≤ s.size ∧ 1 ≤ (Utf8.decode s pos).2 ∧ ∀ k, 1 ≤ k → k < (Utf8.decode s pos).2 → 128 ≤ (s.get! (pos + k)).toNat := by
  simp only [Utf8.decode]
  repeat' split
  all_goals simp only [Bool.and_eq_true, decide_eq_true_eq, beq_iff_eq] at *
  all_goals refine ⟨by omega, by omega, fun k h1 h2 => ?_⟩
  all_goals (have hk : k = 1 ∨ k = 2 ∨ k = 3 := by omega)
  all_goals (rcases hk with rfl | rfl | rfl <;> omega)
set_option maxRecDepth 1000000 in
set_option maxHeartbeats 4000000 in
theorem rune_error (c : ByteArray) (w : World) (hca : ∀ b ∈ c.data.toList, b.toNat < 128) :
    Calls Tryz.prog 127 #[.string c, .int .i32 65533] w fun e w' => e = .returned (.int .i64 (-1)) ∧ Below w.heap.size w w' := by
  have Hca := hide hca
  clear hca
  go_enter Tryz.func127, Tryz.ntmps127
  go_wp2_with fail
  go_loopg [5, 6] c.size (fun g _ _ wx => ∃ i : Nat, i + g = c.size ∧ wx = w.iter c i)
  case atStart => exact ⟨0, by omega, rfl⟩
  case round =>
    obtain ⟨i, hig, rfl⟩ := hrel
    cases gk with
    | zero =>
      obtain rfl : i = c.size := by omega
      have hnx := run_next_end (P := Tryz.prog) w c c.size
      go_wp2
      go_ret
      exact ⟨rfl, (Below.refl _ _).alloc (Nat.le_refl _) _⟩
    | succ g =>
      have hi : i < c.size := by omega
      obtain ⟨x, hx⟩ : ∃ x : UInt8, c[i]'hi = x := ⟨_, rfl⟩
      have hx128 : x.toNat < 128 := by rw [← hx]; exact unhide Hca _ (by show c.data[i] ∈ _; simp)
      have hnx := fun ty => run_next_ascii (P := Tryz.prog) w c i ty hi (by rw [hx]; exact hx128)
      rw [hx] at hnx
      have hne : ((x.toNat : Int) == 65533) = false := by rw [beq_eq_false_iff_ne]; omega
      clear hx
      go_wp2
      go_roundg g
      case measure => omega
      case rel => exact ⟨i + 1, by omega, rfl⟩
set_option maxRecDepth 1000000 in
set_option maxHeartbeats 4000000 in
theorem rune_bad (c : ByteArray) (r : Nat) (w : World) (h : 128 ≤ r) (hne : r ≠ 65533) (hv : Lib.validRune (r : Int) = false) :
    Calls Tryz.prog 127 #[.string c, .int .i32 (r : Int)] w fun e w' => e = .returned (.int .i64 (-1)) ∧ Below w.heap.size w w' := by
  have n1 : decide ((r : Int) < 128) = false := by simp; omega
  have n2 : ((r : Int) == 65533) = false := by rw [beq_eq_false_iff_ne]; omega
  go_enter Tryz.func127, Tryz.ntmps127
  go_wp2_with (go_at_call 144; refine (Tryz.utf8_ValidRune _ _).mono ?_; rintro e w' ⟨rfl, hw⟩; subst w'; rw [hv])
  go_ret
  exact ⟨rfl, Below.refl _ _⟩
theorem rune_high (c : ByteArray) (r : Nat) (w : World) (hca : ∀ b ∈ c.data.toList, b.toNat < 128) (h : 128 ≤ r) (h2 : r ≤ 2147483647) :
    Calls Tryz.prog 127 #[.string c, .int .i32 (r : Int)] w fun e w' => e = .returned (.int .i64 (-1)) ∧ Below w.heap.size w w' := by
  by_cases he : r = 65533
  · subst he; exact rune_error c w hca
  · cases hv : Lib.validRune (r : Int) with
    | false => exact rune_bad c r w h he hv
    | true =>
      rcases enc_form r h hv with ⟨x0, x1, e, hx⟩ | ⟨x0, x1, x2, e, hx⟩ | ⟨x0, x1, x2, x3, e, hx⟩
      · exact rune_valid c _ 1 r x1 w hca h h2 he hv e rfl (by omega) hx (fun _ => rfl)
      · exact rune_valid c _ 2 r x2 w hca h h2 he hv e rfl (by omega) hx (fun _ => rfl)
      · exact rune_valid c _ 3 r x3 w hca h h2 he hv e rfl (by omega) hx (fun _ => rfl)
end Go.Proofs.YtddhlphbbiihjaaGreatDoor
namespace Go.Proofs.YtddhlphbbiihjaaGreatDoor
open Go.RowKit
theorem get_bang (s : ByteArray) (j : Nat) (b : UInt8) (h : s.data.toList[j]? = some b) : s.get! j = b := by
  have hj : j < s.size := by
    have := (List.getElem?_eq_some_iff.1 h).1
    simpa using this
  have h2 := get_at s j hj
  rw [Nat.add_zero] at h2
  rw [h2]
  have h3 := (List.getElem?_eq_some_iff.1 h).2
  simp at h3
  exact h3
set_option maxRecDepth 1000000 in
set_option maxHeartbeats 4000000 in
theorem IndexAny_small (s c : ByteArray) (w : World) (h2 : 2 ≤ c.size) (h8 : s.size ≤ 8) (hca : ∀ b ∈ c.data.toList, b.toNat < 128) :
    Calls Tryz.prog 101 #[.string s, .string c] w fun e w' => (∃ z : Int, e = .returned (.int .i64 z) ∧ decide (0 ≤ z) = hasAny s.data.toList c.data.toList) ∧ Below w.heap.size w w' := by
  have Hca := hide hca
  clear hca
  have hemp : c.toList.isEmpty = false := by
    rw [Lib.toList_data]
    cases h : c.data.toList with
    | nil => have := Lib.size_eq c; rw [h, List.length_nil] at this; omega
    | cons _ _ => rfl
  have hn1 : ((c.size : Int) == 1) = false := beq_eq_false_iff_ne.2 (by omega)
  have h8z : decide ((8 : Int) < (s.size : Int)) = false := decide_eq_false (by omega)
  go_enter Tryz.func101, Tryz.ntmps101
  go_wp2_with (go_at_call 128; refine (Tryz.strings_shouldUseASCIISet _ _).mono ?_; rintro e w' ⟨rfl, hw⟩; subst w'; rw [h8z])
  clear h8z hn1 hemp
  go_loopg [9, 10] s.size (fun g _ _ wx => ∃ i : Nat, i ≤ s.size ∧ s.size - i ≤ g ∧ wx.heap[w.heap.size]? = some (.stringIter s i) ∧ Below w.heap.size w wx ∧ Hid (Lib.NoAny s.data.toList c.data.toList i))
  case atStart => exact ⟨0, by omega, by omega, World.iter_heap w s 0, (Below.refl _ _).alloc (Nat.le_refl _) _, hide (Lib.NoAny.zero _ _)⟩
  case round =>
    obtain ⟨i, hi0, hig, hk, hbe, HN⟩ := hrel
    by_cases hi : i < s.size
    · obtain ⟨g, rfl⟩ : ∃ g, gk = g + 1 := ⟨gk - 1, by omega⟩
      obtain ⟨x, hx⟩ : ∃ x : UInt8, s[i]'hi = x := ⟨_, rfl⟩
      have hxl : s.data.toList[i]? = some x := by rw [← hx]; exact Lib.data_getElem? s i hi
      have Hxl := hide hxl
      clear hxl
      by_cases hx128 : x.toNat < 128
      · have hnx := fun ty => Go.Lib.run_next_ascii_at (P := Tryz.prog) wr w.heap.size s i ty hk hi (by rw [hx]; exact hx128)
        rw [hx] at hnx
        have hb2 : Below w.heap.size w (wr.iterAt w.heap.size s (i + 1)) := Go.Lib.below_iterAt hbe (Nat.le_refl _) s (i + 1)
        have hk2 := Go.Lib.iterAt_heap wr w.heap.size s i (i + 1) hk
        generalize wr.iterAt w.heap.size s (i + 1) = wn at hnx hb2 hk2
        clear hx hk hbe
        have hcon := Lib.contains_iff_indexByte c.data.toList x
        have hback : ((x.toNat : Int)).toNat.toUInt8 = x := by simp
        have HB := hide hback
        clear hback
        cases hin : c.data.toList.contains x
        · rw [hin] at hcon
          have hlt : ¬ ((0 : Int) ≤ Lib.indexByte c.data.toList x) := of_decide_eq_false hcon.symm
          have HN2 := hide ((unhide HN).succ (unhide Hxl) hin)
          clear hcon hin HN Hxl
          go_wp2_with (go_at_call 127; refine (Tryz.strings_IndexRune_ascii _ _ _ (by omega) (by omega)).mono ?_; rintro e w' ⟨rfl, hw⟩; subst w'; rw [unhide HB])
          go_roundg g
          case measure => omega
          case rel => exact ⟨i + 1, by omega, by omega, hk2, hb2, HN2⟩
        · rw [hin] at hcon
          have hge : (0 : Int) ≤ Lib.indexByte c.data.toList x := of_decide_eq_true hcon.symm
          have hy := hide (hasAny_yes (unhide Hxl) hin)
          clear hcon hin HN Hxl
          go_wp2_with (go_at_call 127; refine (Tryz.strings_IndexRune_ascii _ _ _ (by omega) (by omega)).mono ?_; rintro e w' ⟨rfl, hw⟩; subst w'; rw [unhide HB])
          go_ret
          exact ⟨⟨_, rfl, by rw [unhide hy]; simp⟩, hb2⟩
      · have hnx := fun ty => Go.Lib.run_next_any_at (P := Tryz.prog) wr w.heap.size s i ty hk hi
        have hd := decode_high s i hi (by rw [hx]; omega)
        have hd2 := decode_le s i
        obtain ⟨k1, k2, k3⟩ := decode_skip s i hi
        obtain ⟨r, er⟩ : ∃ r, r = (Utf8.decode s i).1 := ⟨_, rfl⟩
        obtain ⟨n, en⟩ : ∃ n, n = (Utf8.decode s i).2 := ⟨_, rfl⟩
        rw [← er] at hnx hd hd2
        rw [← en] at hnx hd k1 k2 k3
        have hno : Lib.NoAny s.data.toList c.data.toList (i + n) := fun j b hj hb => by
          by_cases hji : j < i
          · exact unhide HN j b hji hb
          · have hb128 : 128 ≤ b.toNat := by
              by_cases e : j = i
              · subst e
                have := (unhide Hxl).symm.trans hb
                cases this
                omega
              · have := k3 (j - i) (by omega) (by omega)
                rw [show i + (j - i) = j by omega, get_bang s j b hb] at this
                exact this
            cases hc : c.data.toList.contains b with
            | false => rfl
            | true => have := unhide Hca b (by simpa using hc); omega
        have hb2 : Below w.heap.size w (wr.iterAt w.heap.size s (i + n)) := Go.Lib.below_iterAt hbe (Nat.le_refl _) s (i + n)
        have hk2 := Go.Lib.iterAt_heap wr w.heap.size s i (i + n) hk
        generalize wr.iterAt w.heap.size s (i + n) = wn at hnx hb2 hk2
        have HN2 := hide hno
        clear hno k3 er en hx hk hbe HN Hxl
        have hcall := rune_high c r wn (unhide Hca) hd.1 hd2
        have HC := hide hcall
        clear hcall
        go_wp2_with (go_at_call 127; refine (unhide HC).mono ?_; rintro e w' ⟨rfl, hbw⟩)
        have hb3 : Below w.heap.size w w' := hb2.trans (hbw.mono hb2.size)
        have hk3 : w'.heap[w.heap.size]? = some (.stringIter s (i + n)) := (hbw.block _ (by
          have := (Array.getElem?_eq_some_iff.1 hk2).1
          exact this)).trans hk2
        go_roundg g
        case measure => omega
        case rel => exact ⟨i + n, by omega, by omega, hk3, hb3, HN2⟩
    · obtain rfl : i = s.size := by omega
      have hnx := fun ty => Go.Lib.run_next_end_at (P := Tryz.prog) wr w.heap.size s s.size ty hk hi
      have hN := hide (hasAny_no (by rw [← Lib.size_eq]; exact unhide HN))
      clear HN hk
      go_wp2
      go_ret
      exact ⟨⟨_, rfl, by rw [unhide hN]; rfl⟩, hbe⟩
theorem info174 : (Tryz.prog.info? 174).map (fun i => (i.zero, i.size)) = some (some (.agg (Array.replicate 256 (.bool false))), 256) := by kernel_rfl
theorem zero174 : ∀ w, (zeroValue 174).run Tryz.prog w = .ok (.agg (Array.replicate 256 (.bool false))) w := (zero_of_info info174).1
set_option maxRecDepth 1000000 in
set_option maxHeartbeats 4000000 in
/-- strings.ContainsAny. -/
theorem ContainsAny_any (s c : ByteArray) (w : World) (h2 : 2 ≤ c.size) (hs : s.size < 4294967281) (hc : c.size < 4294967281) (hca : ∀ b ∈ c.data.toList, b.toNat < 128) :
    Calls Tryz.prog 81 #[.string s, .string c] w fun e w' => e = .returned (.bool (hasAny s.data.toList c.data.toList)) ∧ Below w.heap.size w w' := by
  have hI : Calls Tryz.prog 101 #[.string s, .string c] w fun e w' => (∃ z : Int, e = .returned (.int .i64 z) ∧ decide (0 ≤ z) = hasAny s.data.toList c.data.toList) ∧ Below w.heap.size w w' := by
    by_cases h8 : s.size ≤ 8
    · exact IndexAny_small s c w h2 h8 hca
    · refine (Tryz.strings_IndexAny_long zero174 s c w h2 (by omega) hs hc (fun j b hb => hca b (List.mem_of_getElem? hb))).mono ?_
      rintro e w' ⟨rfl, rfl⟩
      exact ⟨⟨_, rfl, (hasAny_index _ _).symm⟩, ((Below.refl _ _).alloc (Nat.le_refl _) _).alloc (by simp) _⟩
  have HI := hide hI
  clear hI hca h2 hs hc
  go_enter Tryz.func81, Tryz.ntmps81
  go_wp2_with fail
  refine (unhide HI).mono ?_
  rintro e w' ⟨⟨z, rfl, hz⟩, hb⟩
  have Hz := hide hz
  clear hz
  go_wp2
  go_ret
  exact ⟨by rw [← unhide Hz]; rfl, hb⟩
end Go.Proofs.YtddhlphbbiihjaaGreatDoor
