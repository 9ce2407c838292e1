/-
  strings.IndexRune at a code point that is not ASCII, in a text that is.
-/
import Derived.Test.YtejbnbilbagkmaaDoorShelf
import Derived.Test.YtejbnbilbagkmaaDoorMath
import Derived.Laws.RangeAny
import Derived.ProofKit
import Derived.WalkMore
import Derived.Deep.RegionWith
import Derived.Deep.LoopGhost
namespace Go.Proofs.YtejbnbilbagkmaaDoor
open Go.RowKit
theorem indexByte_none {l : List UInt8} {x : UInt8} (h : x ∉ l) : Lib.indexByte l x = -1 := by
  induction l with
  | nil => rfl
  | cons b l ih =>
    have hb : (b == x) = false := by rw [beq_eq_false_iff_ne]; intro e; exact h (by rw [e]; exact List.mem_cons_self ..)
    rw [Lib.indexByte, hb, ih (fun m => h (List.mem_cons_of_mem _ m))]; simp
theorem enc_form (r : Nat) (h : 128 ≤ r) (hv : Lib.validRune (r : Int) = true) : (∃ x0 x1 : UInt8, Utf8.encode (r : Int) = ⟨#[x0, x1]⟩ ∧ 128 ≤ x1.toNat) ∨ (∃ x0 x1 x2 : UInt8, Utf8.encode (r : Int) = ⟨#[x0, x1, x2]⟩ ∧ 128 ≤ x2.toNat) ∨
    ∃ x0 x1 x2 x3 : UInt8, Utf8.encode (r : Int) = ⟨#[x0, x1, x2, x3]⟩ ∧ 128 ≤ x3.toNat := by
  have hv2 : Utf8.valid (r : Int) = true := by
    simp only [Lib.validRune, decide_eq_true_eq] at hv
    simp [Utf8.valid]; omega
  have hl : 128 ≤ (UInt8.ofNat (128 + r % 64)).toNat := by rw [UInt8.toNat_ofNat', Nat.mod_eq_of_lt (by omega)]; omega
  unfold Utf8.encode
  simp only [hv2, if_true, Int.toNat_natCast]
  rw [if_neg (by omega)]
  split
  · exact .inl ⟨_, _, rfl, hl⟩
  · split
    · exact .inr (.inl ⟨_, _, _, rfl, hl⟩)
    · exact .inr (.inr ⟨_, _, _, _, rfl, hl⟩)
set_option maxRecDepth 1000000 in
set_option maxHeartbeats 8000000 in
theorem rune_valid (c T : ByteArray) (n r : Nat) (x : UInt8) (w : World) (hca : ∀ b ∈ c.data.toList, b.toNat < 128) (h : 128 ≤ r) (h2 : r ≤ 2147483647) (hne : r ≠ 65533) (hv : Lib.validRune (r : Int) = true)
    (he : Utf8.encode (r : Int) = T) (hT : T.size = n + 1) (hn4 : n ≤ 3) (hx : 128 ≤ x.toNat) (hTx : ∀ h : n < T.size, T[n] = x) :
    Calls Tryd.prog 53 #[.string c, .int .i32 (r : Int)] w fun e w' => e = .returned (.int .i64 (-1)) ∧ Below w.heap.size w w' := by
  have hin : ∀ a b, Lib.indexByte (c.extract a b).data.toList x = -1 := fun a b => indexByte_none (fun m => by
    have h1 : x ∈ c.data.toList := by
      simp only [ByteArray.data_extract, Array.toList_extract, List.extract_eq_take_drop] at m
      exact List.mem_of_mem_drop (List.mem_of_mem_take m)
    have := hca x h1
    omega)
  have Hin := hide hin
  have n1 : decide ((r : Int) < 128) = false := by simp; omega
  have n2 : ((r : Int) == 65533) = false := by rw [beq_eq_false_iff_ne]; omega
  have hback : ((x.toNat : Int)).toNat.toUInt8 = x := by simp
  have HB := hide hback
  clear hin hback
  by_cases hlt : n < c.size
  · obtain ⟨y, hy⟩ : ∃ y, ∀ h : n < c.size, c[n] = y := ⟨c[n], fun _ => rfl⟩
    have hy8 : y.toNat < 128 := by rw [← hy hlt]; exact hca _ (by show c.data[n] ∈ _; simp)
    have hnn : ((y.toNat : Int) != (x.toNat : Int)) = true := by rw [bne_iff_ne]; omega
    have hlti : (n : Int) < (c.size : Int) := by omega
    have hle : (n : Int) + 1 ≤ (c.size : Int) := by omega
    have hle2 : n + 1 ≤ c.size := by omega
    have hnn0 : (0 : Int) ≤ (n : Int) + 1 := by omega
    have q1 : IntKind.i64.wrap ((n : Int) + 1) = (n : Int) + 1 := by rw [IntKind.wrap_i64, Int.emod_eq_of_lt (by omega) (by omega)]; omega
    have q3 : ((n : Int) + 1).toNat = n + 1 := by omega
    clear hca
    go_enter Tryd.func53, Tryd.ntmps53
    go_wp2_with (go_at_call 69; refine (Tryd.utf8_ValidRune _ _).mono ?_; rintro e w' ⟨rfl, hw⟩; subst w'; rw [hv])
    go_step3
    go_wp2_with fail
    refine wp_loop_rounds 1 ?_
    rw [rounds_succ]
    go_wp2_with fail
    go_step3
    go_wp2_with fail
    go_region
    go_wp2_with fail
    go_region_with (go_at_call 68; refine (Tryd.strings_IndexByte _ _ _).mono ?_; rintro e w' ⟨rfl, hw⟩; subst w'; rw [unhide HB, unhide Hin])
    all_goals
      go_wp2
      first
        | (change Exit.noGoto (Exit.inBlock 0 _) Exit.ret _ _; rw [Exit.noGoto_ret]; go_ret; exact ⟨rfl, (Below.refl _ _).drew.drew⟩)
        | (rw [Exit.noGoto_ret]; change Exit.noGoto (Exit.inBlock 0 _) Exit.ret _ _; rw [Exit.noGoto_ret]; go_ret; exact ⟨rfl, (Below.refl _ _).drew.drew⟩)
        | (rw [Exit.noGoto_ret]; simp only [Exit.inBlock, Exit.then, Exit.noGoto_ret]; go_ret; exact ⟨rfl, (Below.refl _ _).drew.drew⟩)
        | (simp only [Exit.noGoto, Exit.inBlock, Exit.then]; go_ret; exact ⟨rfl, (Below.refl _ _).drew.drew⟩)
  · clear hca
    go_enter Tryd.func53, Tryd.ntmps53
    go_wp2_with (go_at_call 69; refine (Tryd.utf8_ValidRune _ _).mono ?_; rintro e w' ⟨rfl, hw⟩; subst w'; rw [hv])
    go_step3
    go_wp2_with fail
    refine wp_loop_rounds 1 ?_
    rw [rounds_succ]
    go_wp2
    rw [Exit.noGoto_ret]
    go_ret
    exact ⟨rfl, Below.refl _ _⟩
/-- Decoding steps over no byte below 128 but the first, and not past the end. -/
theorem decode_skip (s : ByteArray) (pos : Nat) (h : pos < s.size) : pos + (Utf8.decode s pos).2 ≤ s.size ∧ 1 ≤ (Utf8.decode s pos).2 ∧ ∀ k, 1 ≤ k → k < (Utf8.decode s pos).2 → 128 ≤ (s.get! (pos + k)).toNat := by
  simp only [Utf8.decode]
  repeat' split
  all_goals simp only [Bool.and_eq_true, decide_eq_true_eq, beq_iff_eq] at *
  all_goals refine ⟨by omega, by omega, fun k h1 h2 => ?_⟩
  all_goals (have hk : k = 1 ∨ k = 2 ∨ k = 3 := by omega)
  all_goals (rcases hk with rfl | rfl | rfl <;> omega)
set_option maxRecDepth 1000000 in
set_option maxHeartbeats 4000000 in
theorem rune_error (c : ByteArray) (w : World) (hca : ∀ b ∈ c.data.toList, b.toNat < 128) :
    Calls Tryd.prog 53 #[.string c, .int .i32 65533] w fun e w' => e = .returned (.int .i64 (-1)) ∧ Below w.heap.size w w' := by
  have Hca := hide hca
  clear hca
  go_enter Tryd.func53, Tryd.ntmps53
  go_wp2_with fail
  go_loopg [5, 6] c.size (fun g _ _ wx => ∃ i : Nat, i + g = c.size ∧ wx = w.iter c i)
  case atStart => exact ⟨0, by omega, rfl⟩
  case round =>
    obtain ⟨i, hig, rfl⟩ := hrel
    cases gk with
    | zero =>
      obtain rfl : i = c.size := by omega
      have hnx := run_next_end (P := Tryd.prog) w c c.size
      go_wp2
      go_ret
      exact ⟨rfl, (Below.refl _ _).alloc (Nat.le_refl _) _⟩
    | succ g =>
      have hi : i < c.size := by omega
      obtain ⟨x, hx⟩ : ∃ x : UInt8, c[i]'hi = x := ⟨_, rfl⟩
      have hx128 : x.toNat < 128 := by rw [← hx]; exact unhide Hca _ (by show c.data[i] ∈ _; simp)
      have hnx := fun ty => run_next_ascii (P := Tryd.prog) w c i ty hi (by rw [hx]; exact hx128)
      rw [hx] at hnx
      have hne : ((x.toNat : Int) == 65533) = false := by rw [beq_eq_false_iff_ne]; omega
      clear hx
      go_wp2
      go_roundg g
      case measure => omega
      case rel => exact ⟨i + 1, by omega, rfl⟩
set_option maxRecDepth 1000000 in
set_option maxHeartbeats 4000000 in
theorem rune_bad (c : ByteArray) (r : Nat) (w : World) (h : 128 ≤ r) (hne : r ≠ 65533) (hv : Lib.validRune (r : Int) = false) :
    Calls Tryd.prog 53 #[.string c, .int .i32 (r : Int)] w fun e w' => e = .returned (.int .i64 (-1)) ∧ Below w.heap.size w w' := by
  have n1 : decide ((r : Int) < 128) = false := by simp; omega
  have n2 : ((r : Int) == 65533) = false := by rw [beq_eq_false_iff_ne]; omega
  go_enter Tryd.func53, Tryd.ntmps53
  go_wp2_with (go_at_call 69; refine (Tryd.utf8_ValidRune _ _).mono ?_; rintro e w' ⟨rfl, hw⟩; subst w'; rw [hv])
  go_ret
  exact ⟨rfl, Below.refl _ _⟩
theorem rune_high (c : ByteArray) (r : Nat) (w : World) (hca : ∀ b ∈ c.data.toList, b.toNat < 128) (h : 128 ≤ r) (h2 : r ≤ 2147483647) :
    Calls Tryd.prog 53 #[.string c, .int .i32 (r : Int)] w fun e w' => e = .returned (.int .i64 (-1)) ∧ Below w.heap.size w w' := by
  by_cases he : r = 65533
  · subst he; exact rune_error c w hca
  · cases hv : Lib.validRune (r : Int) with
    | false => exact rune_bad c r w h he hv
    | true =>
      rcases enc_form r h hv with ⟨x0, x1, e, hx⟩ | ⟨x0, x1, x2, e, hx⟩ | ⟨x0, x1, x2, x3, e, hx⟩
      · exact rune_valid c _ 1 r x1 w hca h h2 he hv e rfl (by omega) hx (fun _ => rfl)
      · exact rune_valid c _ 2 r x2 w hca h h2 he hv e rfl (by omega) hx (fun _ => rfl)
      · exact rune_valid c _ 3 r x3 w hca h h2 he hv e rfl (by omega) hx (fun _ => rfl)
end Go.Proofs.YtejbnbilbagkmaaDoor
