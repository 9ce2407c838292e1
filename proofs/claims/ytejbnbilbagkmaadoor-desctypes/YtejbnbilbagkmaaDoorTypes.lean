/-
  DescTypes: the walk.
-/
import Derived.Test.YtejbnbilbagkmaaDoorRMethod
namespace Go.Proofs.YtejbnbilbagkmaaDoor
open Go.RowKit
theorem Has.form {w : World} {v : Value} {L : List (List UInt8)} (h : Has w v L) : ∃ a c, v = .slice a L.length c ∧ (L.length ≠ 0 → ∃ g off, a = some ⟨g, off, none⟩ ∧ ∀ j, j < L.length → w.cell? ⟨g, off + j, none⟩ = (SV L)[j]?) := by
  rcases h with ⟨a, c, rfl, rfl⟩ | ⟨g, off, c, rfl, h⟩
  · exact ⟨a, c, rfl, fun h => absurd rfl h⟩
  · exact ⟨_, c, rfl, fun _ => ⟨g, off, rfl, h⟩⟩
theorem cat_bytes (a b : List UInt8) : (⟨a.toArray⟩ : ByteArray) ++ ⟨b.toArray⟩ = ⟨(a ++ b).toArray⟩ := bytes_ext (by simp)
theorem flat_take {L : List (List UInt8)} {k : Nat} {l : List UInt8} (h : L[k]? = some l) : (L.take (k + 1)).flatten = (L.take k).flatten ++ l := by
  rw [List.take_add_one, h]; simp
theorem flat_le (L : List (List UInt8)) (k : Nat) : (L.take k).flatten.length ≤ L.flatten.length := by
  conv => rhs; rw [← List.take_append_drop k L]
  rw [List.flatten_append, List.length_append]; omega
set_option maxRecDepth 100000 in
set_option maxHeartbeats 2000000 in
theorem types_walk (s : ByteArray) (w : World) (hm : Mx w) :
    Calls Tryd.prog 4 #[.string s] w fun e w' => e = .returned (.bool true) ∧ Below w.heap.size w w' := by
  by_cases hbig : 32768 < s.size
  · have hbi : (32768 : Int) < (s.size : Int) := by omega
    go_enter Tryd.func4, Tryd.ntmps4
    go_wp2_with fail
    go_ret
    exact ⟨rfl, Below.refl _ _⟩
  · have hs : s.size ≤ 32768 := by omega
    have hbi : ¬ ((32768 : Int) < (s.size : Int)) := by omega
    have h1 := Method_any s w hm hs
    have h2 := fun W : World => RMethod_any s W hs
    have h3 := fun (W : World) (hW : Mx W) => Field_any s W hW hs
    have h4 := fun W : World => RField_any s W hs
    have h5 := fun W : World => Slots_any s W
    have h6 := fun W : World => RSlots_any s W
    have hlen : s.data.toList.length = s.size := by simp
    generalize fieldB s.data.toList = F at h3 h4
    generalize slotN s.data.toList = N at h5 h6
    have H1 := hide h1
    have H2 := hide h2
    have H3 := hide h3
    have H4 := hide h4
    have H5 := hide h5
    have H6 := hide h6
    have Hm := hide hm
    have Hl := hide hlen
    clear h1 h2 h3 h4 h5 h6 hm hlen
    go_enter Tryd.func4, Tryd.ntmps4
    go_wp2_with fail
    refine (unhide H1).mono ?_
    rintro e w1 ⟨hb1, h1⟩
    rcases h1 with ⟨hme, rfl⟩ | ⟨L, g, v, hme, rfl, ho⟩
    · have Hme := hide hme
      clear hme
      go_wp2_with fail
      refine (unhide H2 _).mono ?_
      rintro e w2 ⟨hb2, h2⟩
      rcases h2 with ⟨_, rfl⟩ | ⟨L, g, v, hme, rfl, ho⟩
      · have hb12 := hb1.trans (hb2.mono hb1.size)
        have S0 := fun W : World => Slots_any ⟨#[]⟩ W
        have R0 := fun W : World => RSlots_any ⟨#[]⟩ W
        generalize slotN (⟨#[]⟩ : ByteArray).data.toList = M at S0 R0
        have HS0 := hide S0
        have HR0 := hide R0
        clear S0 R0 hb1 hb2
        go_wp2_with fail
        refine (unhide H3 _ ((unhide Hm).below hb12)).mono ?_
        rintro e w3 ⟨rfl, hb3⟩
        have hb13 := hb12.trans (hb3.mono hb12.size)
        go_wp2_with fail
        refine (unhide H4 _).mono ?_
        rintro e w4 ⟨rfl, hb4⟩
        have hb14 := hb13.trans (hb4.mono hb13.size)
        go_wp2_with fail
        refine (unhide H5 _).mono ?_
        rintro e w5 ⟨rfl, hww⟩
        subst w5
        go_wp2_with fail
        refine (unhide H6 _).mono ?_
        rintro e w5 ⟨rfl, hww⟩
        subst w5
        go_wp2_with fail
        refine (unhide HS0 _).mono ?_
        rintro e w5 ⟨rfl, hww⟩
        subst w5
        go_wp2_with fail
        refine (unhide HR0 _).mono ?_
        rintro e w5 ⟨rfl, hww⟩
        subst w5
        go_wp2_with fail
        refine wp_loop_rounds 1 ?_
        rw [rounds_succ]
        go_wp2
        go_ret
        exact ⟨rfl, hb14⟩
      · rw [unhide Hme] at hme; cases hme
    · have Hme := hide hme
      clear hme
      go_wp2_with fail
      refine (unhide H2 _).mono ?_
      rintro e w2 ⟨hb2, h2⟩
      rcases h2 with ⟨hme2, rfl⟩ | ⟨L2, g2, v2, hme2, rfl, ho2⟩
      · rw [unhide Hme] at hme2; cases hme2
      · have hb12 := hb1.trans (hb2.mono hb1.size)
        obtain ⟨rfl, rfl⟩ : L = L2 ∧ g = g2 := by
          have := (unhide Hme).symm.trans hme2
          cases this; exact ⟨rfl, rfl⟩
        have ho1 := own_below ho (Nat.le_refl _) hb2
        have hLc := meth_count hme2
        rw [unhide Hl] at hLc
        have hLl : L.length ≤ 32768 := by omega
        have hs1 : Has w2 v L := Has.of_own ho1
        have hs2 : Has w2 v2 L := Has.of_own ho2
        have S0 := fun W : World => Slots_any ⟨g.toArray⟩ W
        have R0 := fun W : World => RSlots_any ⟨g.toArray⟩ W
        generalize slotN (⟨g.toArray⟩ : ByteArray).data.toList = M at S0 R0
        have HS0 := hide S0
        have HR0 := hide R0
        have hml := meth_len hme2
        rw [unhide Hl] at hml
        have hgl : g.length ≤ 32768 := by omega
        have hfl : L.flatten.length + 1 ≤ 32768 := by omega
        have hwh := meth_whole hme2
        have Hwh := hide hwh
        clear S0 R0 hb1 hb2 ho ho1 ho2 hme2 hLc hml hwh
        obtain ⟨a1, c1, rfl, x1⟩ := hs1.form
        obtain ⟨a2, c2, rfl, x2⟩ := hs2.form
        have X1 := hide x1
        have X2 := hide x2
        clear x1 x2 hs1 hs2
        go_wp2_with fail
        refine (unhide H3 _ ((unhide Hm).below hb12)).mono ?_
        rintro e w3 ⟨rfl, hb3⟩
        have hb13 := hb12.trans (hb3.mono hb12.size)
        go_wp2_with fail
        refine (unhide H4 _).mono ?_
        rintro e w4 ⟨rfl, hb4⟩
        have hb14 := hb13.trans (hb4.mono hb13.size)
        have hb24 := hb3.trans (hb4.mono hb3.size)
        go_wp2_with fail
        refine (unhide H5 _).mono ?_
        rintro e w5 ⟨rfl, hww⟩
        subst w5
        go_wp2_with fail
        refine (unhide H6 _).mono ?_
        rintro e w5 ⟨rfl, hww⟩
        subst w5
        go_wp2_with fail
        refine (unhide HS0 _).mono ?_
        rintro e w5 ⟨rfl, hww⟩
        subst w5
        go_wp2_with fail
        refine (unhide HR0 _).mono ?_
        rintro e w5 ⟨rfl, hww⟩
        subst w5
        go_wp2_with fail
        go_loopw [9, 10, 64] (fun x _ y wr => ∃ k : Nat, k ≤ L.length ∧ x = .string ⟨(40 :: (L.take k).flatten).toArray⟩ ∧ y = .int .i64 (k : Int) ∧ Below w2.heap.size w2 wr) (fun _ _ y _ => L.length - (intOf y).toNat)
        case atStart => exact ⟨0, Nat.zero_le _, rfl, rfl, hb24⟩
        case round =>
          clear hb13 hb14 hb24 hb3 hb4 H1 H2 H3 H4 H5 H6 HS0 HR0
          obtain ⟨k, hk, rfl, rfl, hbr⟩ := hrel
          have hbw : Below w.heap.size w wr := hb12.trans (hbr.mono hb12.size)
          have hfk := flat_le L k
          by_cases hlt : k < L.length
          · obtain ⟨g1, o1, rfl, y1⟩ := unhide X1 (by omega)
            obtain ⟨g2, o2, rfl, y2⟩ := unhide X2 (by omega)
            obtain ⟨l, hl1, hl2⟩ := SV_at hlt
            have z1 := (y1 k hlt).trans hl2
            have z2 := (y2 k hlt).trans hl2
            have u1 : wr.cell? ⟨g1, o1 + k, none⟩ = some (.string ⟨l.toArray⟩) := by rw [hbr.cell (cell_lt z1)]; exact z1
            have u2 : wr.cell? ⟨g2, o2 + k, none⟩ = some (.string ⟨l.toArray⟩) := by rw [hbr.cell (cell_lt z2)]; exact z2
            have hft := flat_take hl1
            have hfk2 := flat_le L (k + 1)
            rw [hft, List.length_append] at hfk2
            have hll : l.length ≤ 32768 := by omega
            have hAl : (40 :: (L.take k).flatten).length ≤ 32768 := by simp only [List.length_cons]; omega
            have hft2 : 40 :: (L.take (k + 1)).flatten = 40 :: (L.take k).flatten ++ l := by rw [hft]; rfl
            have Hft := hide hft2
            have S1 := fun W : World => Slots_any ⟨l.toArray⟩ W
            have R1 := fun W : World => RSlots_any ⟨l.toArray⟩ W
            generalize slotN (⟨l.toArray⟩ : ByteArray).data.toList = M2 at S1 R1
            have HS1 := hide S1
            have HR1 := hide R1
            have hki : (k : Int) < (L.length : Int) := by omega
            clear hft2 hft y1 y2 z1 z2 hl1 hl2 X1 X2 S1 R1 hfk hfk2
            generalize 40 :: (L.take k).flatten = A at *
            go_wp2_with fail
            go_quiet (first
              | (go_at_call 14; exact Calls.quiet_of_same (unhide HS1 _))
              | (go_at_call 15; exact Calls.quiet_of_same (unhide HR1 _)))
            have hbq := below_drewN hbr nq
            go_wp2
            go_roundw
            case rel => exact ⟨k + 1, by omega, by rw [unhide Hft, ← cat_bytes], by simp, hbq⟩
            case measure => simp [intOf]; omega
          · obtain rfl : k = L.length := by omega
            rw [List.take_length]
            have hAl : (40 :: L.flatten).length ≤ 32768 := by simp only [List.length_cons]; omega
            have hend : ((⟨(40 :: L.flatten).toArray⟩ : ByteArray) ++ ⟨#[41]⟩ ++ ⟨g.toArray⟩).toList = s.toList := by
              rw [Lib.toList_data, Lib.toList_data, ← unhide Hwh]
              simp
            have Hend := hide hend
            clear hend hfk X1 X2 hlt
            generalize 40 :: L.flatten = A at *
            go_wp2
            go_ret
            exact ⟨by rw [unhide Hend]; simp, hbw⟩
end Go.Proofs.YtejbnbilbagkmaaDoor
