/-
  The reference: told.
-/
import Derived.Test.YtbgpkkbejbidlacTd
namespace Go.Proofs.Ytbgpkkbejbidlac
open Go.RowKit Go.Maps
theorem u64_wrap_eq (x : Int) : IntKind.u64.wrap x = x % 18446744073709551616 := by simp [IntKind.wrap_u64]
theorem Big2_any (x : Nat) (y : Int) (w : World) (hy : (x : Int) = y) (hx : x < 2 ^ 64) : Calls Try.prog 31 #[.int .u64 y, .int .i64 2] w fun e w' => e = .returned (.string ⟨(M.big x 2).toArray⟩) ∧ Below w.heap.size w w' := by
  subst hy
  exact Big_any x 2 w (by omega) hx
theorem Td.ok0 {P : List K} {t : T} {b : List UInt8} (h : M.vt P t = .ok b) : M.Td (M.vt P t) b 0 := by rw [h]; exact ⟨rfl, rfl⟩
theorem Td.no {P : List K} {t : T} {b : List UInt8} {e : Nat} (h : M.vt P t = .error e) (he : e ≠ 0) : M.Td (M.vt P t) b e := by rw [h]; exact ⟨rfl, he⟩
set_option maxRecDepth 100000 in
set_option maxHeartbeats 4000000 in
theorem told_any (lv pv : Value) (L : List T) (P : List K) (w : World) (h1 : TIn w lv L) (h2 : KIn w pv P) (hP : P.length ≤ 65535) (hL : L.length ≤ 100000) (htk : Tok L) :
    Calls Try.prog 32 #[lv, pv] w fun e w' => ∃ (b : List UInt8) (x : Nat), e = .returned (.tuple #[.string ⟨b.toArray⟩, .int .i64 (x : Int)]) ∧ M.Td (M.vts P L) b x ∧ b.length ≤ 3 * L.length ∧ Below w.heap.size w w' := by
  obtain ⟨i0, hi, hz0, hz1, hz2⟩ := info_parts Try.info5
  have H2 := hide h2
  obtain ⟨ad, cap, rfl, hc⟩ := h1
  obtain ⟨pad, pcap, epv, _⟩ := h2.ex
  subst epv
  have Hc := hide hc
  have Htk := hide htk
  clear hc h2 htk
  obtain ⟨wS, hwS⟩ : ∃ wS, wS = w.alloc (.cells #[] 5) := ⟨_, rfl⟩
  have hbS : Below w.heap.size w wS := by rw [hwS]; exact (Below.refl _ _).alloc (Nat.le_refl _) _
  have hoS : wS.ownsRow w.heap.size 5 1 (.slice (some ⟨w.heap.size, 0, none⟩) 0 0) 0 [] := ⟨rfl, .inr ⟨w.heap.size, 0, #[], rfl, Nat.le_refl _, by rw [hwS]; exact heap_alloc_new _ _, Nat.le_refl _, Nat.zero_le _, rfl, rfl⟩⟩
  have HwS := hide hwS
  have HoS := hide hoS
  have HbS := hide hbS
  clear hwS hoS hbS
  go_enter Try.func32, Try.ntmps32
  go_upto_region 2 with fail
  rw [← unhide HwS]
  clear HwS
  go_wp2_with fail
  go_loopw [6, 7, 18] (fun v x i wr => ∃ (k : Nat) (l : List UInt8) (xn : Nat) (va : Option Addr) (vc : Nat), k ≤ L.length ∧ i = .int .i64 k ∧ x = .int .i64 (xn : Int) ∧ v = .slice va l.length vc ∧ Hid (M.Td (M.vts P (L.take k)) l xn) ∧ Hid (wr.ownsRow w.heap.size 5 1 v l.length (U8 l)) ∧ l.length ≤ 3 * k ∧ Hid (Below w.heap.size w wr)) (fun _ _ i _ => L.length - (intOf i).toNat)
  case atStart => exact ⟨0, [], 0, some ⟨w.heap.size, 0, none⟩, 0, Nat.zero_le _, rfl, rfl, rfl, ⟨rfl, rfl⟩, unhide HoS, Nat.le_refl _, unhide HbS⟩
  case round =>
    clear HoS HbS
    obtain ⟨k, l, xn, va, vc, hk, rfl, rfl, rfl, HT, HO, hll, HB⟩ := hrel
    by_cases hlt : k < L.length
    · have ki : (k : Int) < (L.length : Int) := by omega
      obtain ⟨b0, o0, rfl, q⟩ := unhide Hc (by rintro rfl; simp at hlt)
      have r0 := q k hlt 0 (by omega)
      have r1 := q k hlt 1 (by omega)
      have r2 := q k hlt 2 (by omega)
      have htk1 : L.take (k + 1) = L.take k ++ [L.getD k T.zero] := by
        rw [List.take_add_one, List.getElem?_eq_getElem hlt]; simp [List.getD, List.getElem?_eq_getElem hlt]
      have htm : L.getD k T.zero ∈ L := by simp [List.getD, List.getElem?_eq_getElem hlt]
      have htg := (unhide Htk _ htm).1
      generalize L.getD k T.zero = t at *
      simp [T.cells] at r0 r1 r2
      rw [← (unhide HB).cell (cell_lt r0)] at r0
      rw [← (unhide HB).cell (cell_lt r1)] at r1
      rw [← (unhide HB).cell (cell_lt r2)] at r2
      have Htk1 := hide htk1
      obtain ⟨X, hX⟩ : ∃ X, X = wr.heap.size := ⟨_, rfl⟩
      obtain ⟨wA, hwA⟩ : ∃ wA, wA = wr.alloc (.cells #[.int .u8 (t.tag : Int), .string ⟨t.name.toArray⟩, .int .i64 t.at_] 76) := ⟨_, rfl⟩
      have hXA : Bk wA X #[.int .u8 (t.tag : Int), .string ⟨t.name.toArray⟩, .int .i64 t.at_] 76 := by rw [hwA, hX]; exact Bk.new _ _ _
      have hoA : wA.ownsRow w.heap.size 5 1 (.slice va l.length vc) l.length (U8 l) := by rw [hwA]; exact (unhide HO).alloc _
      have hbA : Below w.heap.size w wA := by rw [hwA]; exact (unhide HB).alloc (unhide HB).size _
      have hszA := hbA.size
      have x0 : wA.cell? ⟨X, 0, none⟩ = some (.int .u8 (t.tag : Int)) := hXA.cell 0
      have HwA := hide hwA
      have HX := hide hX
      clear hwA hX q htk1 htm HO HB
      go_upto_region 6 with fail
      rw [← unhide HwA, ← unhide HX]
      clear HwA HX r0 r1 r2
      go_upto_region 8 with (at_builtin; refine wpList_append_own_at _ rfl _ _ 67 rfl w.heap.size 5 i0 (.int .u8 0) 1 1 Try.underlying67 hi hz0 hz1 hz2 rfl (by decide) _ l.length (U8 l) rfl (hoA.alloc _) ⟨wA.heap.size, 0, none⟩ 1 1 [.int .u8 (t.tag : Int)] rfl rfl (cell_one wA _ 5) (one_u8 _) (by unfold maxLen; omega) (by omega) (by simp; omega) ?_; intro v1 w1 hown1 hg1 _ _; obtain ⟨a1, c1, e1⟩ := own5_slice hown1; subst e1)
      have hf1 : Fb w.heap.size wA w1 := fb_app (Fb.refl _ _) hszA (hoA.alloc _) hg1
      have hX1 := hXA.fb hf1 (by decide)
      have hb1 := hbA.trans hf1.old
      obtain ⟨l1, hl1⟩ : ∃ l1, l1 = l ++ [UInt8.ofNat t.tag] := ⟨_, rfl⟩
      have hl1l : l1.length = l.length + 1 := by rw [hl1]; simp
      have ho1 : w1.ownsRow w.heap.size 5 1 (.slice a1 (l.length + 1) c1) l1.length (U8 l1) := by rw [hl1l, hl1, U8_one l t.tag htg]; exact hown1
      have y0 : w1.cell? ⟨X, 0, none⟩ = some (.int .u8 (t.tag : Int)) := hX1.cell 0
      have y1 : w1.cell? ⟨X, 1, none⟩ = some (.string ⟨t.name.toArray⟩) := hX1.cell 1
      have y2 : w1.cell? ⟨X, 2, none⟩ = some (.int .i64 t.at_) := hX1.cell 2
      have Hl1 := hide hl1
      have Ho1 := hide ho1
      have Hb1 := hide hb1
      have hsz1 := hb1.size
      have HX1 := hide hX1
      clear hown1 hg1 hf1 hX1 hb1 hl1 ho1 x0 hXA hoA hbA hszA
      rcases (show 8 < t.tag ∨ t.tag < 7 ∨ t.tag = 8 ∨ t.tag = 7 by omega) with g | g | g | g
      · have g1 : (8 : Int) < (t.tag : Int) := by omega
        have hv : M.vt P t = .error 17 := by unfold M.vt; rw [if_neg (by omega), if_neg (by omega), if_pos g]
        have HT2 := hide ((unhide HT).step (Td.no (b := [UInt8.ofNat t.tag]) hv (by decide)))
        rw [← unhide Htk1] at HT2
        by_cases hx0 : xn = 0
        · have qx : (((xn : Int) == 0) : Bool) = true := by rw [hx0]; rfl
          rw [if_pos hx0] at HT2
          clear hx0
          go_wp2
          go_roundw
          case rel => exact ⟨k + 1, _, 17, _, _, by omega, by go_num, rfl, by rw [← unhide Hl1, hl1l], HT2, by rw [← unhide Hl1]; exact unhide Ho1, by rw [← unhide Hl1]; omega, Hb1⟩
          case measure => simp [intOf]; omega
        · have qx : (((xn : Int) == 0) : Bool) = false := by rw [beq_eq_false_iff_ne]; omega
          rw [if_neg hx0] at HT2
          clear hx0
          go_wp2
          go_roundw
          case rel => exact ⟨k + 1, _, xn, _, _, by omega, by go_num, rfl, by rw [← unhide Hl1, hl1l], HT2, by rw [← unhide Hl1]; exact unhide Ho1, by rw [← unhide Hl1]; omega, Hb1⟩
          case measure => simp [intOf]; omega
      · have g1 : ¬ (8 : Int) < (t.tag : Int) := by omega
        have g2 : (((t.tag : Int) == 8) : Bool) = false := by rw [beq_eq_false_iff_ne]; omega
        have g3 : (((t.tag : Int) == 7) : Bool) = false := by rw [beq_eq_false_iff_ne]; omega
        have hv : M.vt P t = .ok [UInt8.ofNat t.tag] := by unfold M.vt; rw [if_neg (by omega), if_neg (by omega), if_neg (by omega)]
        have HT2 := hide ((unhide HT).step (Td.ok0 hv))
        rw [← unhide Htk1] at HT2
        by_cases hx0 : xn = 0
        · have qx : (((xn : Int) == 0) : Bool) = true := by rw [hx0]; rfl
          rw [if_pos hx0] at HT2
          clear hx0
          go_wp2
          go_roundw
          case rel => exact ⟨k + 1, _, 0, _, _, by omega, by go_num, rfl, by rw [← unhide Hl1, hl1l], HT2, by rw [← unhide Hl1]; exact unhide Ho1, by rw [← unhide Hl1]; omega, Hb1⟩
          case measure => simp [intOf]; omega
        · have qx : (((xn : Int) == 0) : Bool) = false := by rw [beq_eq_false_iff_ne]; omega
          rw [if_neg hx0] at HT2
          clear hx0
          go_wp2
          go_roundw
          case rel => exact ⟨k + 1, _, xn, _, _, by omega, by go_num, rfl, by rw [← unhide Hl1, hl1l], HT2, by rw [← unhide Hl1]; exact unhide Ho1, by rw [← unhide Hl1]; omega, Hb1⟩
          case measure => simp [intOf]; omega
      · rcases (show (0 ≤ t.at_ ∧ t.at_ ≤ 65535) ∨ t.at_ < 0 ∨ 65535 < t.at_ by omega) with g9 | g9 | g9
        · have g1 : ¬ (8 : Int) < (t.tag : Int) := by omega
          have g2 : (((t.tag : Int) == 8) : Bool) = true := by rw [beq_iff_eq]; omega
          have q1 : ¬ t.at_ < 0 := by omega
          have q2 : ¬ 65535 < t.at_ := by omega
          have HBg := hide (fun W => Big2_any (t.at_ % 18446744073709551616).toNat t.at_ W (by omega) (by omega))
          have hsb : (⟨(M.big (t.at_ % 18446744073709551616).toNat 2).toArray⟩ : ByteArray).size = 2 := by show (M.big (t.at_ % 18446744073709551616).toNat 2).toArray.size = 2; rw [List.size_toArray, M.big_len]
          obtain ⟨bg, hbg⟩ : ∃ bg, bg = M.big (t.at_ % 18446744073709551616).toNat 2 := ⟨_, rfl⟩
          rw [← hbg] at HBg hsb
          have Hbg := hide hbg
          clear hbg
          have hv : M.vt P t = .ok (UInt8.ofNat t.tag :: bg) := by rw [unhide Hbg]; unfold M.vt; rw [if_neg (by omega), if_pos g, if_pos g9]; rw [show t.at_ % 18446744073709551616 = t.at_ by omega]
          have Hv := hide hv
          clear hv g g9
          go_wp2_with fail
          refine (unhide HBg w1).mono ?_
          rintro e w2 ⟨rfl, hb2⟩
          have ho2 := ins_kept (unhide Ho1) (grown_of_below hb2 none) (fun _ e => by cases e)
          have hbw2 := (unhide Hb1).trans (hb2.mono hsz1)
          have hsz2 := hbw2.size
          clear HBg
          go_upto_region 25 with (at_builtin; refine Lib.wpList_append_own_string _ rfl _ _ 67 9 rfl w.heap.size 5 i0 Try.underlying67 Try.underlying9 hi hz0 hz1 hz2 _ l1.length (U8 l1) rfl ho2 ⟨bg.toArray⟩ rfl (by rw [hsb]; unfold maxLen; omega) (by rw [hsb]; omega) hsz2 ?_; intro v3 w3 hown3 hg3 _; obtain ⟨a3, c3, e3⟩ := own5_slice hown3; subst e3)
          have hb3 := hbw2.grown hg3 hbw2.size (fun k e => (ins_in ho2 e).1)
          rw [hsb, U8_str, ← U8_append] at hown3
          have hbl : bg.length = 2 := by rw [unhide Hbg, M.big_len]
          have hlen3 : (l1 ++ bg).length = l.length + 1 + 2 := by rw [List.length_append, hbl, hl1l]
          rw [hl1l] at hown3
          have hown4 : w3.ownsRow w.heap.size 5 1 (.slice a3 (l.length + 1 + 2) c3) (l1 ++ bg).length (U8 (l1 ++ bg)) := by rw [hlen3]; exact hown3
          have hcat : l ++ (UInt8.ofNat t.tag :: bg) = l1 ++ bg := by rw [unhide Hl1]; simp
          have Hcat := hide hcat
          have Hown3 := hide hown4
          have Hb3 := hide hb3
          have Hlen3 := hide hlen3
          clear hown4 hown3 hb3 hg3 hcat hlen3 ho2
          have hv := unhide Hv
          have HT2 := hide ((unhide HT).step (Td.ok0 hv))
          rw [← unhide Htk1] at HT2
          by_cases hx0 : xn = 0
          · have qx : (((xn : Int) == 0) : Bool) = true := by rw [hx0]; rfl
            rw [if_pos hx0] at HT2
            clear hx0
            go_wp2
            go_roundw
            case rel => exact ⟨k + 1, _, 0, _, _, by omega, by go_num, rfl, by rw [unhide Hcat, unhide Hlen3], HT2, by rw [unhide Hcat]; exact unhide Hown3, by rw [unhide Hcat, unhide Hlen3]; omega, Hb3⟩
            case measure => simp [intOf]; omega
          · have qx : (((xn : Int) == 0) : Bool) = false := by rw [beq_eq_false_iff_ne]; omega
            rw [if_neg hx0] at HT2
            clear hx0
            go_wp2
            go_roundw
            case rel => exact ⟨k + 1, _, xn, _, _, by omega, by go_num, rfl, by rw [unhide Hcat, unhide Hlen3], HT2, by rw [unhide Hcat]; exact unhide Hown3, by rw [unhide Hcat, unhide Hlen3]; omega, Hb3⟩
            case measure => simp [intOf]; omega
        · have g1 : ¬ (8 : Int) < (t.tag : Int) := by omega
          have g2 : (((t.tag : Int) == 8) : Bool) = true := by rw [beq_iff_eq]; omega
          have q1 : t.at_ < 0 := by omega
          have HBg := hide (fun W => Big2_any (t.at_ % 18446744073709551616).toNat (IntKind.u64.wrap t.at_) W (by rw [u64_wrap_eq]; omega) (by omega))
          have hsb : (⟨(M.big (t.at_ % 18446744073709551616).toNat 2).toArray⟩ : ByteArray).size = 2 := by show (M.big (t.at_ % 18446744073709551616).toNat 2).toArray.size = 2; rw [List.size_toArray, M.big_len]
          obtain ⟨bg, hbg⟩ : ∃ bg, bg = M.big (t.at_ % 18446744073709551616).toNat 2 := ⟨_, rfl⟩
          rw [← hbg] at HBg hsb
          have Hbg := hide hbg
          clear hbg
          have hv : M.vt P t = .error 17 := by unfold M.vt; rw [if_neg (by omega), if_pos g, if_neg (by omega)]
          have Hv := hide hv
          clear hv g g9
          go_wp2_with fail
          refine (unhide HBg w1).mono ?_
          rintro e w2 ⟨rfl, hb2⟩
          have ho2 := ins_kept (unhide Ho1) (grown_of_below hb2 none) (fun _ e => by cases e)
          have hbw2 := (unhide Hb1).trans (hb2.mono hsz1)
          have hsz2 := hbw2.size
          clear HBg
          go_upto_region 25 with (at_builtin; refine Lib.wpList_append_own_string _ rfl _ _ 67 9 rfl w.heap.size 5 i0 Try.underlying67 Try.underlying9 hi hz0 hz1 hz2 _ l1.length (U8 l1) rfl ho2 ⟨bg.toArray⟩ rfl (by rw [hsb]; unfold maxLen; omega) (by rw [hsb]; omega) hsz2 ?_; intro v3 w3 hown3 hg3 _; obtain ⟨a3, c3, e3⟩ := own5_slice hown3; subst e3)
          have hb3 := hbw2.grown hg3 hbw2.size (fun k e => (ins_in ho2 e).1)
          rw [hsb, U8_str, ← U8_append] at hown3
          have hbl : bg.length = 2 := by rw [unhide Hbg, M.big_len]
          have hlen3 : (l1 ++ bg).length = l.length + 1 + 2 := by rw [List.length_append, hbl, hl1l]
          rw [hl1l] at hown3
          have hown4 : w3.ownsRow w.heap.size 5 1 (.slice a3 (l.length + 1 + 2) c3) (l1 ++ bg).length (U8 (l1 ++ bg)) := by rw [hlen3]; exact hown3
          have hcat : l ++ (UInt8.ofNat t.tag :: bg) = l1 ++ bg := by rw [unhide Hl1]; simp
          have Hcat := hide hcat
          have Hown3 := hide hown4
          have Hb3 := hide hb3
          have Hlen3 := hide hlen3
          clear hown4 hown3 hb3 hg3 hcat hlen3 ho2
          have hv := unhide Hv
          have HT2 := hide ((unhide HT).step (Td.no (b := UInt8.ofNat t.tag :: bg) hv (by decide)))
          rw [← unhide Htk1] at HT2
          by_cases hx0 : xn = 0
          · have qx : (((xn : Int) == 0) : Bool) = true := by rw [hx0]; rfl
            rw [if_pos hx0] at HT2
            clear hx0
            go_wp2
            go_roundw
            case rel => exact ⟨k + 1, _, 17, _, _, by omega, by go_num, rfl, by rw [unhide Hcat, unhide Hlen3], HT2, by rw [unhide Hcat]; exact unhide Hown3, by rw [unhide Hcat, unhide Hlen3]; omega, Hb3⟩
            case measure => simp [intOf]; omega
          · have qx : (((xn : Int) == 0) : Bool) = false := by rw [beq_eq_false_iff_ne]; omega
            rw [if_neg hx0] at HT2
            clear hx0
            go_wp2
            go_roundw
            case rel => exact ⟨k + 1, _, xn, _, _, by omega, by go_num, rfl, by rw [unhide Hcat, unhide Hlen3], HT2, by rw [unhide Hcat]; exact unhide Hown3, by rw [unhide Hcat, unhide Hlen3]; omega, Hb3⟩
            case measure => simp [intOf]; omega
        · have g1 : ¬ (8 : Int) < (t.tag : Int) := by omega
          have g2 : (((t.tag : Int) == 8) : Bool) = true := by rw [beq_iff_eq]; omega
          have q1 : ¬ t.at_ < 0 := by omega
          have q2 : 65535 < t.at_ := by omega
          have HBg := hide (fun W => Big2_any (t.at_ % 18446744073709551616).toNat (IntKind.u64.wrap t.at_) W (by rw [u64_wrap_eq]; omega) (by omega))
          have hsb : (⟨(M.big (t.at_ % 18446744073709551616).toNat 2).toArray⟩ : ByteArray).size = 2 := by show (M.big (t.at_ % 18446744073709551616).toNat 2).toArray.size = 2; rw [List.size_toArray, M.big_len]
          obtain ⟨bg, hbg⟩ : ∃ bg, bg = M.big (t.at_ % 18446744073709551616).toNat 2 := ⟨_, rfl⟩
          rw [← hbg] at HBg hsb
          have Hbg := hide hbg
          clear hbg
          have hv : M.vt P t = .error 17 := by unfold M.vt; rw [if_neg (by omega), if_pos g, if_neg (by omega)]
          have Hv := hide hv
          clear hv g g9
          go_wp2_with fail
          refine (unhide HBg w1).mono ?_
          rintro e w2 ⟨rfl, hb2⟩
          have ho2 := ins_kept (unhide Ho1) (grown_of_below hb2 none) (fun _ e => by cases e)
          have hbw2 := (unhide Hb1).trans (hb2.mono hsz1)
          have hsz2 := hbw2.size
          clear HBg
          go_upto_region 25 with (at_builtin; refine Lib.wpList_append_own_string _ rfl _ _ 67 9 rfl w.heap.size 5 i0 Try.underlying67 Try.underlying9 hi hz0 hz1 hz2 _ l1.length (U8 l1) rfl ho2 ⟨bg.toArray⟩ rfl (by rw [hsb]; unfold maxLen; omega) (by rw [hsb]; omega) hsz2 ?_; intro v3 w3 hown3 hg3 _; obtain ⟨a3, c3, e3⟩ := own5_slice hown3; subst e3)
          have hb3 := hbw2.grown hg3 hbw2.size (fun k e => (ins_in ho2 e).1)
          rw [hsb, U8_str, ← U8_append] at hown3
          have hbl : bg.length = 2 := by rw [unhide Hbg, M.big_len]
          have hlen3 : (l1 ++ bg).length = l.length + 1 + 2 := by rw [List.length_append, hbl, hl1l]
          rw [hl1l] at hown3
          have hown4 : w3.ownsRow w.heap.size 5 1 (.slice a3 (l.length + 1 + 2) c3) (l1 ++ bg).length (U8 (l1 ++ bg)) := by rw [hlen3]; exact hown3
          have hcat : l ++ (UInt8.ofNat t.tag :: bg) = l1 ++ bg := by rw [unhide Hl1]; simp
          have Hcat := hide hcat
          have Hown3 := hide hown4
          have Hb3 := hide hb3
          have Hlen3 := hide hlen3
          clear hown4 hown3 hb3 hg3 hcat hlen3 ho2
          have hv := unhide Hv
          have HT2 := hide ((unhide HT).step (Td.no (b := UInt8.ofNat t.tag :: bg) hv (by decide)))
          rw [← unhide Htk1] at HT2
          by_cases hx0 : xn = 0
          · have qx : (((xn : Int) == 0) : Bool) = true := by rw [hx0]; rfl
            rw [if_pos hx0] at HT2
            clear hx0
            go_wp2
            go_roundw
            case rel => exact ⟨k + 1, _, 17, _, _, by omega, by go_num, rfl, by rw [unhide Hcat, unhide Hlen3], HT2, by rw [unhide Hcat]; exact unhide Hown3, by rw [unhide Hcat, unhide Hlen3]; omega, Hb3⟩
            case measure => simp [intOf]; omega
          · have qx : (((xn : Int) == 0) : Bool) = false := by rw [beq_eq_false_iff_ne]; omega
            rw [if_neg hx0] at HT2
            clear hx0
            go_wp2
            go_roundw
            case rel => exact ⟨k + 1, _, xn, _, _, by omega, by go_num, rfl, by rw [unhide Hcat, unhide Hlen3], HT2, by rw [unhide Hcat]; exact unhide Hown3, by rw [unhide Hcat, unhide Hlen3]; omega, Hb3⟩
            case measure => simp [intOf]; omega
      · have g1 : ¬ (8 : Int) < (t.tag : Int) := by omega
        have g2 : (((t.tag : Int) == 8) : Bool) = false := by rw [beq_eq_false_iff_ne]; omega
        have g3 : (((t.tag : Int) == 7) : Bool) = true := by rw [beq_iff_eq]; omega
        have HCl := hide (fun (i : Int) => ClassOf2_any (.slice pad P.length pcap) P i w1 ((unhide H2).below (unhide Hb1)) (by omega))
        go_wp2_with fail
        go_loopw [11, 12] (fun a i wr => ∃ (an : Nat) (ii : Int) (m : Nat), a = .int .i64 (an : Int) ∧ i = .int .i64 ii ∧ ii.toNat = m ∧ ii ≤ 65535 ∧ -1 ≤ ii ∧ an ≤ 65535 ∧ Hid (M.Sn P t.name m an) ∧ ii < (P.length : Int) ∧ wr = w1) (fun _ i _ => (intOf i).toNat)
        case atStart => exact ⟨0, (P.length : Int) - 1, P.length - 1, rfl, rfl, by omega, by omega, by omega, by omega, M.Sn.start P t.name, by omega, rfl⟩
        case round =>
          obtain ⟨an, ii, m, rfl, rfl, hm, hi1, hi2, han, HSn, hi3, hwr⟩ := hrel
          subst wr
          by_cases hpos : 0 < ii
          · obtain ⟨m', rfl⟩ : ∃ m', m = m' + 1 := ⟨m - 1, by omega⟩
            have hii : ii = ((m' + 1 : Nat) : Int) := by omega
            subst hii
            have HC1 := hide (unhide HCl ((m' + 1 : Nat) : Int))
            by_cases hgd : M.good P t.name (m' + 1)
            · have h1 : M.cok P ((m' + 1 : Nat) : Int) = true := hgd.1
              have h2 : M.cls P ((m' + 1 : Nat) : Int) = t.name := hgd.2
              rw [h1, h2] at HC1
              have HS2 := hide (M.Sn.hit (i := m') (by omega) hgd)
              clear hgd h1 h2
              go_wp2_with fail
              refine (unhide HC1).mono ?_
              rintro e w2 ⟨rfl, hw2⟩
              subst w2
              clear HC1
              go_wp2
              go_roundw
              case rel => exact ⟨m' + 1, (m' : Int), m', by go_num, by go_num, by omega, by omega, by omega, by omega, HS2, by omega, by first | rfl | trivial⟩
              case measure => (simp [intOf]; try omega)
            · have HS2 := hide ((unhide HSn).miss hgd)
              obtain ⟨ck, hck⟩ : ∃ ck, ck = M.cok P ((m' + 1 : Nat) : Int) := ⟨_, rfl⟩
              obtain ⟨cn, hcn⟩ : ∃ cn, cn = M.cls P ((m' + 1 : Nat) : Int) := ⟨_, rfl⟩
              rw [← hck, ← hcn] at HC1
              have hne : ck = true → cn ≠ t.name := fun e1 e2 => hgd ⟨by rw [← hck]; exact e1, by rw [← hcn]; exact e2⟩
              clear hgd hck hcn
              cases ck with
              | false =>
                clear hne
                go_wp2_with fail
                refine (unhide HC1).mono ?_
                rintro e w2 ⟨rfl, hw2⟩
                subst w2
                clear HC1
                go_wp2
                go_roundw
                case rel => exact ⟨an, (m' : Int), m', by go_num, by go_num, by omega, by omega, by omega, by omega, HS2, by omega, by first | rfl | trivial⟩
                case measure => (simp [intOf]; try omega)
              | true =>
                have hbb : (cn == t.name) = false := by rw [beq_eq_false_iff_ne]; exact hne rfl
                clear hne
                go_wp2_with fail
                refine (unhide HC1).mono ?_
                rintro e w2 ⟨rfl, hw2⟩
                subst w2
                clear HC1
                go_wp2
                go_roundw
                case rel => exact ⟨an, (m' : Int), m', by go_num, by go_num, by omega, by omega, by omega, by omega, HS2, by omega, by first | rfl | trivial⟩
                case measure => (simp [intOf]; try omega)
          · have hm0 : m = 0 := by omega
            subst hm0
            have hdn := (unhide HSn).done
            have hlim : M.lim P = P.length := by unfold M.lim; omega
            have HBg := hide (fun W => Big2_any an (an : Int) W rfl (by omega))
            by_cases hq : an = 0
            · have qa : (((an : Int) == 0) : Bool) = true := by rw [hq]; rfl
              have hsb : (⟨(M.big an 2).toArray⟩ : ByteArray).size = 2 := by show (M.big an 2).toArray.size = 2; rw [List.size_toArray, M.big_len]
              obtain ⟨bg, hbg⟩ : ∃ bg, bg = M.big an 2 := ⟨_, rfl⟩
              rw [← hbg] at HBg hsb
              have Hbg := hide hbg
              clear hbg
              have hv : M.vt P t = .error 7 := by unfold M.vt; rw [if_pos g, hlim, hdn, if_pos hq]
              have Hv := hide hv
              clear hv g hq hdn hlim
              go_wp2_with fail
              refine (unhide HBg w1).mono ?_
              rintro e w2 ⟨rfl, hb2⟩
              have ho2 := ins_kept (unhide Ho1) (grown_of_below hb2 none) (fun _ e => by cases e)
              have hbw2 := (unhide Hb1).trans (hb2.mono hsz1)
              have hsz2 := hbw2.size
              clear HBg
              go_upto_region 25 with (at_builtin; refine Lib.wpList_append_own_string _ rfl _ _ 67 9 rfl w.heap.size 5 i0 Try.underlying67 Try.underlying9 hi hz0 hz1 hz2 _ l1.length (U8 l1) rfl ho2 ⟨bg.toArray⟩ rfl (by rw [hsb]; unfold maxLen; omega) (by rw [hsb]; omega) hsz2 ?_; intro v3 w3 hown3 hg3 _; obtain ⟨a3, c3, e3⟩ := own5_slice hown3; subst e3)
              have hb3 := hbw2.grown hg3 hbw2.size (fun k e => (ins_in ho2 e).1)
              rw [hsb, U8_str, ← U8_append] at hown3
              have hbl : bg.length = 2 := by rw [unhide Hbg, M.big_len]
              have hlen3 : (l1 ++ bg).length = l.length + 1 + 2 := by rw [List.length_append, hbl, hl1l]
              rw [hl1l] at hown3
              have hown4 : w3.ownsRow w.heap.size 5 1 (.slice a3 (l.length + 1 + 2) c3) (l1 ++ bg).length (U8 (l1 ++ bg)) := by rw [hlen3]; exact hown3
              have hcat : l ++ (UInt8.ofNat t.tag :: bg) = l1 ++ bg := by rw [unhide Hl1]; simp
              have Hcat := hide hcat
              have Hown3 := hide hown4
              have Hb3 := hide hb3
              have Hlen3 := hide hlen3
              clear hown4 hown3 hb3 hg3 hcat hlen3 ho2
              have hv := unhide Hv
              have HT2 := hide ((unhide HT).step (Td.no (b := UInt8.ofNat t.tag :: bg) hv (by decide)))
              rw [← unhide Htk1] at HT2
              by_cases hx0 : xn = 0
              · have qx : (((xn : Int) == 0) : Bool) = true := by rw [hx0]; rfl
                rw [if_pos hx0] at HT2
                clear hx0
                go_wp2
                go_roundw
                case rel => exact ⟨k + 1, _, 7, _, _, by omega, by go_num, rfl, by rw [unhide Hcat, unhide Hlen3], HT2, by rw [unhide Hcat]; exact unhide Hown3, by rw [unhide Hcat, unhide Hlen3]; omega, Hb3⟩
                case measure => simp [intOf]; omega
              · have qx : (((xn : Int) == 0) : Bool) = false := by rw [beq_eq_false_iff_ne]; omega
                rw [if_neg hx0] at HT2
                clear hx0
                go_wp2
                go_roundw
                case rel => exact ⟨k + 1, _, xn, _, _, by omega, by go_num, rfl, by rw [unhide Hcat, unhide Hlen3], HT2, by rw [unhide Hcat]; exact unhide Hown3, by rw [unhide Hcat, unhide Hlen3]; omega, Hb3⟩
                case measure => simp [intOf]; omega
            · have qa : (((an : Int) == 0) : Bool) = false := by rw [beq_eq_false_iff_ne]; omega
              have hsb : (⟨(M.big an 2).toArray⟩ : ByteArray).size = 2 := by show (M.big an 2).toArray.size = 2; rw [List.size_toArray, M.big_len]
              obtain ⟨bg, hbg⟩ : ∃ bg, bg = M.big an 2 := ⟨_, rfl⟩
              rw [← hbg] at HBg hsb
              have Hbg := hide hbg
              clear hbg
              have hv : M.vt P t = .ok (UInt8.ofNat t.tag :: bg) := by rw [unhide Hbg]; unfold M.vt; rw [if_pos g, hlim, hdn, if_neg hq]
              have Hv := hide hv
              clear hv g hq hdn hlim
              go_wp2_with fail
              refine (unhide HBg w1).mono ?_
              rintro e w2 ⟨rfl, hb2⟩
              have ho2 := ins_kept (unhide Ho1) (grown_of_below hb2 none) (fun _ e => by cases e)
              have hbw2 := (unhide Hb1).trans (hb2.mono hsz1)
              have hsz2 := hbw2.size
              clear HBg
              go_upto_region 25 with (at_builtin; refine Lib.wpList_append_own_string _ rfl _ _ 67 9 rfl w.heap.size 5 i0 Try.underlying67 Try.underlying9 hi hz0 hz1 hz2 _ l1.length (U8 l1) rfl ho2 ⟨bg.toArray⟩ rfl (by rw [hsb]; unfold maxLen; omega) (by rw [hsb]; omega) hsz2 ?_; intro v3 w3 hown3 hg3 _; obtain ⟨a3, c3, e3⟩ := own5_slice hown3; subst e3)
              have hb3 := hbw2.grown hg3 hbw2.size (fun k e => (ins_in ho2 e).1)
              rw [hsb, U8_str, ← U8_append] at hown3
              have hbl : bg.length = 2 := by rw [unhide Hbg, M.big_len]
              have hlen3 : (l1 ++ bg).length = l.length + 1 + 2 := by rw [List.length_append, hbl, hl1l]
              rw [hl1l] at hown3
              have hown4 : w3.ownsRow w.heap.size 5 1 (.slice a3 (l.length + 1 + 2) c3) (l1 ++ bg).length (U8 (l1 ++ bg)) := by rw [hlen3]; exact hown3
              have hcat : l ++ (UInt8.ofNat t.tag :: bg) = l1 ++ bg := by rw [unhide Hl1]; simp
              have Hcat := hide hcat
              have Hown3 := hide hown4
              have Hb3 := hide hb3
              have Hlen3 := hide hlen3
              clear hown4 hown3 hb3 hg3 hcat hlen3 ho2
              have hv := unhide Hv
              have HT2 := hide ((unhide HT).step (Td.ok0 hv))
              rw [← unhide Htk1] at HT2
              by_cases hx0 : xn = 0
              · have qx : (((xn : Int) == 0) : Bool) = true := by rw [hx0]; rfl
                rw [if_pos hx0] at HT2
                clear hx0
                go_wp2
                go_roundw
                case rel => exact ⟨k + 1, _, 0, _, _, by omega, by go_num, rfl, by rw [unhide Hcat, unhide Hlen3], HT2, by rw [unhide Hcat]; exact unhide Hown3, by rw [unhide Hcat, unhide Hlen3]; omega, Hb3⟩
                case measure => simp [intOf]; omega
              · have qx : (((xn : Int) == 0) : Bool) = false := by rw [beq_eq_false_iff_ne]; omega
                rw [if_neg hx0] at HT2
                clear hx0
                go_wp2
                go_roundw
                case rel => exact ⟨k + 1, _, xn, _, _, by omega, by go_num, rfl, by rw [unhide Hcat, unhide Hlen3], HT2, by rw [unhide Hcat]; exact unhide Hown3, by rw [unhide Hcat, unhide Hlen3]; omega, Hb3⟩
                case measure => simp [intOf]; omega
    · have hkl : k = L.length := by omega
      subst hkl
      have ki : ¬ (L.length : Int) < (L.length : Int) := by omega
      have hT := unhide HT
      rw [List.take_length] at hT
      have hcv := own_string (unhide HO)
      have HT2 := hide hT
      clear hT HT HO
      go_wp2
      go_ret2
      exact ⟨l, xn, rfl, unhide HT2, hll, unhide HB⟩
end Go.Proofs.Ytbgpkkbejbidlac
