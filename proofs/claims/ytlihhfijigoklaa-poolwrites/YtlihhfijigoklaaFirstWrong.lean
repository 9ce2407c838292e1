/-
  firstWrong of package pool.
-/
import Derived.Test.YtlihhfijigoklaaWrong
namespace Go.Proofs.Ytlihhfijigoklaa
open Go.RowKit
theorem two_any (n : Nat) (w : World) (h : n < 256) : Calls Try.prog 39 #[.int .u8 (n : Int)] w fun e w' => e = .returned (.bool (twoB n)) ∧ w' = w := takesTwo_any n w h
theorem drop_cons {l : List K} {k : Nat} (h : k < l.length) : l.drop k = l.getD k K.zero :: l.drop (k + 1) := by
  rw [List.drop_eq_getElem_cons h]; simp [List.getD, List.getElem?_eq_getElem h]
set_option maxRecDepth 100000 in
set_option maxHeartbeats 4000000 in
theorem firstWrong_main (b off cap : Nat) (l : List K) (w : World) (h1 : 1 ≤ l.length) (h2 : l.length ≤ 65535) (hf : AllFit l) (hin : In w b off l) :
    Calls Try.prog 29 #[.slice (some ⟨b, off, none⟩) l.length cap] w fun e w' => ∃ x k, Scan l 0 true (x, k) ∧ e = .returned (.tuple #[.int .i64 (x : Nat), .int .i64 (k : Nat)]) ∧ Below w.heap.size w w' := by
  have hnz : ((l.length : Int) == 0) = false := by rw [beq_eq_false_iff_ne]; omega
  go_enter Try.func29, Try.ntmps29
  go_wp2_with fail
  go_loopw [4, 18] (fun v i wr => ∃ k bl, k ≤ l.length ∧ i = .int .i64 (k : Nat) ∧ v = .bool bl ∧ (∀ r, Scan (l.drop k) k bl r → Scan l 0 true r) ∧ Below w.heap.size w wr) (fun _ i _ => l.length - (intOf i).toNat)
  case atStart => exact ⟨0, true, Nat.zero_le _, rfl, rfl, fun r hr => hr, Below.refl _ _⟩
  case round =>
    obtain ⟨k, bl, hk, rfl, rfl, hS, hbe⟩ := hrel
    have HS := hide hS
    clear hS
    by_cases hlt : k < l.length
    · obtain ⟨x0, x1, x2, x3, x4⟩ := hin.at hbe k hlt
      have hdr := drop_cons hlt
      obtain ⟨c, ec⟩ : ∃ c, c = l.getD k K.zero := ⟨_, rfl⟩
      rw [← ec] at x0 x1 x2 x3 x4 hdr
      have hfc : Fits c := by rw [ec]; exact hf _ (by simp [List.getD, List.getElem?_eq_getElem hlt])
      have hwc := fun w1 => wrongConst_any c w1 hfc
      have hti := hfc.tag
      have Hdr := hide hdr
      have Hwc := hide hwc
      have hsz := hbe.size
      clear hdr hwc ec hfc
      have hkb : Kb (wr.alloc (.cells #[.int .u8 (c.tag : Int), .string ⟨c.text.toArray⟩, .int .u64 (c.bits : Int), .int .u16 (c.a : Int), .int .u16 (c.b : Int)] 43)) wr.heap.size c := heap_alloc_new wr _
      have hb1 : Below w.heap.size w (wr.alloc (.cells #[.int .u8 (c.tag : Int), .string ⟨c.text.toArray⟩, .int .u64 (c.bits : Int), .int .u16 (c.a : Int), .int .u16 (c.b : Int)] 43)) := hbe.alloc hsz _
      have Hkb := hide hkb
      clear hkb
      by_cases hz : c.tag = 0
      · obtain ⟨tg, tx, bt, ca, cb⟩ := c
        simp only at hz hti
        subst hz
        cases bl with
        | true =>
          go_wp2_with fail
          refine (unhide Hwc _).mono ?_
          rintro e w2 ⟨x, hx, rfl, hb2⟩
          have hbz := hb1.trans (hb2.mono hb1.size)
          have hkb2 := (unhide Hkb).kept (grown_of_below hb2 none) (by simp)
          clear Hkb hb2 hb1 Hwc x0 x1 x2 x3 x4
          have q0 := hkb2.cell 0
          simp at q0
          by_cases hx0 : x = 0
          · subst hx0
            have hS2 : ∀ r, Scan (l.drop (k + 1)) (k + 1) (twoB 0) r → Scan l 0 true r := fun r hr => unhide HS r (by rw [unhide Hdr]; exact .inr ⟨rfl, 0, hx, .inr ⟨rfl, hr⟩⟩)
            have HS2 := hide hS2
            clear hS2 hx HS Hdr
            go_wp2_with fail
            refine (two_any 0 _ (by omega)).mono ?_
            rintro e w3 ⟨rfl, hww⟩
            subst w3
            go_wp2
            go_roundw
            case rel => exact ⟨k + 1, _, by omega, by go_num, rfl, unhide HS2, hbz⟩
            case measure => simp [intOf]; omega
          · have hxb : ((x : Int) != 0) = true := by rw [bne_iff_ne]; omega
            have hS2 := unhide HS (x, k) (by rw [unhide Hdr]; exact .inr ⟨rfl, x, hx, .inl ⟨hx0, rfl⟩⟩)
            clear hx0 hx HS Hdr
            go_wp2
            go_ret2
            exact ⟨x, k, hS2, rfl, hbz⟩
        | false =>
          have hS2 := unhide HS (5, k) (by rw [unhide Hdr]; exact .inl ⟨by simp, rfl⟩)
          clear HS Hdr Hwc Hkb
          go_wp2
          go_ret2
          exact ⟨5, k, hS2, rfl, hb1⟩
      · have hzi : ((c.tag : Int) == 0) = false := by rw [beq_eq_false_iff_ne]; omega
        have hdz : decide (c.tag = 0) = false := decide_eq_false hz
        have Hdz := hide hdz
        clear hz hdz
        cases bl with
        | true =>
          have hS2 := unhide HS (5, k) (by rw [unhide Hdr]; exact .inl ⟨by rw [unhide Hdz]; simp, rfl⟩)
          clear HS Hdr Hwc Hkb Hdz
          go_wp2
          go_ret2
          exact ⟨5, k, hS2, rfl, hb1⟩
        | false =>
          go_wp2_with fail
          refine (unhide Hwc _).mono ?_
          rintro e w2 ⟨x, hx, rfl, hb2⟩
          have hbz := hb1.trans (hb2.mono hb1.size)
          have hkb2 := (unhide Hkb).kept (grown_of_below hb2 none) (by simp)
          clear Hkb hb2 hb1 Hwc x0 x1 x2 x3 x4
          have q0 := hkb2.cell 0
          simp at q0
          by_cases hx0 : x = 0
          · subst hx0
            have hS2 : ∀ r, Scan (l.drop (k + 1)) (k + 1) (twoB c.tag) r → Scan l 0 true r := fun r hr => unhide HS r (by rw [unhide Hdr]; exact .inr ⟨(unhide Hdz).symm, 0, hx, .inr ⟨rfl, hr⟩⟩)
            have HS2 := hide hS2
            clear hS2 hx HS Hdr Hdz
            go_wp2_with fail
            refine (two_any c.tag _ hti).mono ?_
            rintro e w3 ⟨rfl, hww⟩
            subst w3
            go_wp2
            go_roundw
            case rel => exact ⟨k + 1, _, by omega, by go_num, rfl, unhide HS2, hbz⟩
            case measure => simp [intOf]; omega
          · have hxb : ((x : Int) != 0) = true := by rw [bne_iff_ne]; omega
            have hS2 := unhide HS (x, k) (by rw [unhide Hdr]; exact .inr ⟨(unhide Hdz).symm, x, hx, .inl ⟨hx0, rfl⟩⟩)
            clear hx0 hx HS Hdr Hdz
            go_wp2
            go_ret2
            exact ⟨x, k, hS2, rfl, hbz⟩
    · have hkl : k = l.length := by omega
      subst hkl
      have hdn : l.drop l.length = [] := List.drop_length
      cases bl with
      | true =>
        have hS2 := unhide HS (5, l.length) (by rw [hdn]; exact .inl ⟨rfl, rfl⟩)
        clear hdn HS
        go_wp2
        go_ret2
        exact ⟨5, l.length, hS2, rfl, hbe⟩
      | false =>
        have hS2 := unhide HS (0, 0) (by rw [hdn]; exact .inr ⟨rfl, rfl⟩)
        clear hdn HS
        go_wp2
        go_ret2
        exact ⟨0, 0, hS2, rfl, hbe⟩
set_option maxRecDepth 100000 in
set_option maxHeartbeats 1000000 in
theorem firstWrong_len (a : Option Addr) (n cap : Nat) (w : World) (hm : n ≤ maxLen) (hn : n = 0 ∨ 65535 < n) :
    Calls Try.prog 29 #[.slice a n cap] w fun e w' => e = .returned (.tuple #[.int .i64 12, .int .i64 0]) ∧ w' = w := by
  unfold maxLen at hm
  rcases hn with rfl | hn
  · go_enter Try.func29, Try.ntmps29
    go_wp2
    go_ret2
    exact ⟨rfl, rfl⟩
  · have hnz : ((n : Int) == 0) = false := by rw [beq_eq_false_iff_ne]; omega
    go_enter Try.func29, Try.ntmps29
    go_wp2
    go_ret2
    exact ⟨rfl, rfl⟩
end Go.Proofs.Ytlihhfijigoklaa
