/-
  jvmcoreref1's Method.
-/
import Derived.Test.YtejbnbilbagkmaaDoorMethod
namespace Go.Proofs.YtejbnbilbagkmaaDoor
open Go.RowKit
theorem val_close (g : List UInt8) : valLen (41 :: g) = 0 := val_none (by rw [dims_other (by decide), List.drop_zero, elem_other (by decide) (by decide)])
theorem val_nil : valLen [] = 0 := val_none (by simp [elemLen])
set_option maxRecDepth 100000 in
set_option maxHeartbeats 2000000 in
theorem RMethod_any (s : ByteArray) (w : World) (hs : s.size ≤ 32768) :
    Calls Tryd.prog 11 #[.string s] w fun e w' => MethRes s.data.toList w e w' := by
  have hsl : s.data.toList.length = s.size := by simp
  cases hl : s.data.toList with
  | nil =>
    have hemp : s.toList.isEmpty = true := by rw [empty_of, hl]; rfl
    have HR : Hid (meth [] = none) := rfl
    clear hl hsl
    go_enter Tryd.func11, Tryd.ntmps11
    go_wp2_with fail
    go_ret3
    exact ⟨Below.refl _ _, .inl ⟨unhide HR, rfl⟩⟩
  | cons b t0 =>
    have hemp : s.toList.isEmpty = false := by rw [empty_of, hl]; rfl
    have ha0 := at0 hl
    have htl : t0.length + 1 = s.size := by rw [← hsl, hl]; rfl
    have hsp : 0 < s.size := by omega
    have hsp1 : 1 ≤ s.size := by omega
    have hsp2 : (1 : Int) ≤ (s.size : Int) := by omega
    by_cases hb : b = 40
    · subst hb
      have hx1 := ext1 hl
      have Hx1 := hide hx1
      have hc0 : Cut t0 [] (s.extract 1 s.size).data.toList := by rw [hx1]; exact Cut.zero _
      have HC0 := hide hc0
      have htl2 : t0.length ≤ 32768 := by omega
      clear hl hsl hx1 hc0 htl
      obtain ⟨i0, hi, hz0, hz1, hz2⟩ := info_parts Tryd.info9
      go_enter Tryd.func11, Tryd.ntmps11
      go_wp2_with fail
      go_loopw [0, 5, 6] (fun x v z wr => ∃ t L, x = .string t ∧ z = .int .i64 ((slotsN L : Nat) : Int) ∧ Hid (Cut t0 L t.data.toList) ∧ Hid (wr.ownsRow w.heap.size 9 1 v L.length (SV L)) ∧ Below w.heap.size w wr) (fun x _ _ _ => strSize x)
      case atStart => exact ⟨_, [], rfl, rfl, HC0, hide (World.ownsRow_nil _ _ _ _), Below.refl _ _⟩
      case round =>
        clear HC0 Hx1
        obtain ⟨t, L, rfl, rfl, HC, Ho, hbe⟩ := hrel
        have htz : t.data.toList.length = t.size := by simp
        have hc2 := (unhide HC).2
        rw [htz] at hc2
        have hLl : L.length ≤ 32768 := by omega
        have htsz : t.size ≤ 32768 := by omega
        have hsn := slots_le L
        cases htd : t.data.toList with
        | nil =>
          have hemp2 : t.toList.isEmpty = true := by rw [empty_of, htd]; rfl
          rw [htd] at HC
          have HR : Hid (meth (40 :: t0) = none) := meth_end ((unhide HC).done val_nil)
          clear htd HC htz hc2
          go_wp2
          go_ret3
          exact ⟨hbe, .inl ⟨unhide HR, rfl⟩⟩
        | cons c g =>
          have hemp2 : t.toList.isEmpty = false := by rw [empty_of, htd]; rfl
          have hb0 := at0 htd
          have htz2 : g.length + 1 = t.size := by rw [← htz, htd]; rfl
          have ht1 : 0 < t.size := by omega
          have ht2 : 1 ≤ t.size := by omega
          have ht3 : (1 : Int) ≤ (t.size : Int) := by omega
          by_cases hc41 : c = 41
          · subst hc41
            have hV : V t0 = (L, 41 :: g) := by
              have := (unhide HC).done (by rw [htd]; exact val_close g)
              rw [htd] at this; exact this
            have hM := meth_cons hV
            have HM := hide hM
            have hGd : (t.extract 1 t.size).data.toList = g := ext1 htd
            have eG : t.extract 1 t.size = ⟨g.toArray⟩ := bytes_ext (by rw [hGd, data_of])
            have hF := fun (W : World) => RField_any (t.extract 1 t.size) W (by simp; omega)
            rw [hGd] at hF
            have HF := hide hF
            have EG := hide eG
            have Htd := hide htd
            clear hV hM hGd eG hF HC htz hc2 htd htz2
            generalize slotsN L = S at *
            by_cases hslots : S ≤ 254
            · have hsi : ¬ ((254 : Int) < (S : Int)) := by omega
              by_cases hgV : g = [86]
              · have n1 : (t.toList == [41, 86]) = true := by rw [Lib.toList_data, unhide Htd, hgV]; rfl
                have HR : Hid (meth (40 :: t0) = some (L, g)) := by
                  show meth (40 :: t0) = some (L, g)
                  rw [unhide HM, if_pos ⟨rfl, hslots, by rw [hgV]; rfl⟩]
                clear hslots hgV HF HM Htd
                go_wp2
                go_region
                go_wp2
                go_ret3
                exact ⟨hbe.drew, .inr ⟨L, g, _, unhide HR, by rw [← unhide EG]; rfl, unhide Ho⟩⟩
              · have n1 : (t.toList == [41, 86]) = false := by rw [Lib.toList_data, unhide Htd, beq_eq_false_iff_ne]; intro e; cases e; exact hgV rfl
                have hgive : giveB g = fieldB g := by unfold giveB; rw [show (g == [86]) = false by rw [beq_eq_false_iff_ne]; exact hgV]; rfl
                cases hfb : fieldB g with
                | true =>
                  have HR : Hid (meth (40 :: t0) = some (L, g)) := by
                    show meth (40 :: t0) = some (L, g)
                    rw [unhide HM, if_pos ⟨rfl, hslots, by rw [hgive, hfb]⟩]
                  rw [hfb] at HF
                  clear hslots hgV HM hgive hfb Htd
                  go_wp2_with fail
                  refine (unhide HF _).mono ?_
                  rintro e w5 ⟨rfl, hb6⟩
                  have hb7 := hbe.trans (hb6.mono hbe.size)
                  have Ho7 := hide (own_below (unhide Ho) (Nat.le_refl _) hb6)
                  clear Ho hbe hb6
                  go_wp2
                  go_region
                  go_wp2
                  go_ret3
                  exact ⟨hb7.drew, .inr ⟨L, g, _, unhide HR, by rw [← unhide EG]; rfl, unhide Ho7⟩⟩
                | false =>
                  have HR : Hid (meth (40 :: t0) = none) := by
                    show meth (40 :: t0) = none
                    rw [unhide HM, if_neg (fun h => by rw [hgive, hfb] at h; cases h.2.2)]
                  rw [hfb] at HF
                  clear hslots hgV HM hgive hfb Htd
                  go_wp2_with fail
                  refine (unhide HF _).mono ?_
                  rintro e w5 ⟨rfl, hb6⟩
                  have hb7 := hbe.trans (hb6.mono hbe.size)
                  go_wp2
                  go_ret3
                  exact ⟨hb7, .inl ⟨unhide HR, rfl⟩⟩
            · have hsi : (254 : Int) < (S : Int) := by omega
              have HR : Hid (meth (40 :: t0) = none) := by
                show meth (40 :: t0) = none
                rw [unhide HM, if_neg (fun h => hslots h.2.1)]
              clear hslots HF HM Htd
              go_wp2
              go_ret3
              exact ⟨hbe, .inl ⟨unhide HR, rfl⟩⟩
          · have f41 := byte_ne (n := 41) (by omega) hc41
            have hO := one_any t.size t 0 wr rfl htsz (by omega)
            have hz : ((0 : Nat) : Int) = 0 := rfl
            rw [hz] at hO
            have HO := hide hO
            have Htd := hide htd
            clear hO hz htd
            go_wp2_with fail
            refine (unhide HO).mono ?_
            rintro e w1 ⟨h1, hb1⟩
            have hb2 := hbe.trans (hb1.mono hbe.size)
            have Ho2 := hide (own_below (unhide Ho) (Nat.le_refl _) hb1)
            clear Ho HO
            rcases h1.cases with ⟨hv, rfl⟩ | ⟨hv, tt, rr, rfl⟩
            · have hst := (unhide HC).step hv
              have hvl := val_le t.data.toList
              rw [htz] at hvl
              have hss := slots_snoc L (t.data.toList.take (valLen t.data.toList))
              have hsb := slotN_le (t.data.toList.take (valLen t.data.toList))
              have hdl : (t.data.toList.drop (valLen t.data.toList)).length < t.size := by rw [List.length_drop, htz]; omega
              have hRS := fun W : World => RSlots_any ⟨(t.data.toList.take (valLen t.data.toList)).toArray⟩ W
              simp only at hRS
              have HRS := hide hRS
              have Hst := hide hst
              have Hss := hide hss
              clear hRS hst hss h1 hv hvl HC htz hc2 Htd hbe hb1
              generalize t.data.toList.take (valLen t.data.toList) = T at *
              generalize t.data.toList.drop (valLen t.data.toList) = D at *
              generalize slotN T = B at *
              obtain ⟨S, eS⟩ : ∃ S, S = slotsN L := ⟨_, rfl⟩
              rw [← eS] at Hss hsn ⊢
              have hS : S ≤ 65536 := by omega
              have ho := unhide Ho2
              have hz4 := hb2.size
              clear Ho2 eS
              go_wp2_with (at_builtin; refine wpList_append_own _ rfl _ _ 25 rfl w.heap.size 9 i0 (.string ⟨#[]⟩) 1 16 Tryd.underlying25 hi hz0 hz1 hz2 rfl (by decide) _ _ _ rfl (ho.alloc _) ⟨w1.heap.size, 0, none⟩ 1 1 [.string ⟨T.toArray⟩] rfl rfl ?c1 ?c2 ?c3 ?c4 ?c5 ?_)
              case c1 =>
                intro j u hj
                match j, hj with
                | 0, hj => simp at hj; subst hj; simp [Addr.add]
              case c2 => intro u hu; simp at hu; subst hu; rfl
              case c3 => unfold maxLen; omega
              case c4 => omega
              case c5 => simp; omega
              intro v' w2 hown' hgrow _
              have hb3 : Below w.heap.size w w2 := (hb2.alloc (by omega) _).grown hgrow (by simp; omega) (fun j hj => by have := (ho.lt j hj).1; omega)
              have ho3 : Hid (w2.ownsRow w.heap.size 9 1 v' (L ++ [T]).length (SV (L ++ [T]))) := by
                show World.ownsRow _ _ _ _ _ _ _
                rw [SV_snoc, List.length_append, List.length_singleton]; exact hown'
              clear hown' hgrow ho
              go_wp2_with fail
              refine (unhide HRS _).mono ?_
              rintro e w3 ⟨rfl, hww⟩
              subst w3
              go_wp2
              go_roundw
              case rel => exact ⟨_, L ++ [T], rfl, by rw [unhide Hss]; simp, by rw [data_of]; exact Hst, ho3, hb3⟩
              case measure => simp only [strSize]; rw [size_of]; omega
            · have HR : Hid (meth (40 :: t0) = none) := by
                show meth (40 :: t0) = none
                have hV := (unhide HC).done hv
                rw [unhide Htd] at hV
                rw [meth_cons hV, if_neg (fun h => hc41 h.1)]
              clear h1 hv HC Htd
              go_wp2
              go_ret3
              exact ⟨hb2, .inl ⟨unhide HR, rfl⟩⟩
    · have HR : Hid (meth (b :: t0) = none) := meth_no hb
      have f40 := byte_ne (n := 40) (by omega) hb
      clear hl hsl hb htl
      go_enter Tryd.func11, Tryd.ntmps11
      go_wp2_with fail
      go_ret3
      exact ⟨Below.refl _ _, .inl ⟨unhide HR, rfl⟩⟩
end Go.Proofs.YtejbnbilbagkmaaDoor
