/-
  jvmcoreref2's choice: a switch.
-/
import Derived.Test.YtddhlphbbiihjaaGreatDoorMgPOneM
namespace Go.Proofs.YtddhlphbbiihjaaGreatDoor.Dc
open Go.RowKit
theorem fail_ne (st : St) (a : Nat) : (M.fail st 15 a).e ≠ 0 := by
  unfold M.fail; split
  · simp
  · assumption
set_option maxRecDepth 100000 in
set_option maxHeartbeats 2000000 in
theorem choice_tab (R g b : Nat) (s : ByteArray) (c : C) (w : World) (h : MidC w w R g s ⟨b, 0, 0⟩ c) (hs : s.size ≤ 131072) (hp : b ≤ s.size)
    (hkv : c.kv = .slice none 0 0) (htv : c.tv = .slice none 0 0) (hlow : c.low = 0) (hat : c.at_ ≤ 131072) :
    Calls Tryz.prog 117 #[.pointer (some ⟨R, 0, none⟩), .pointer (some ⟨g, 0, none⟩), .bool false] w fun x w' => x = .returned (.tuple #[]) ∧
      ∃ st kv tv low ks ts, DoneC w w' R g w.heap.size s st { c with kv := kv, tv := tv, low := low } ks ts ∧ ReadTo s.data.toList st (M.sw s.data.toList c.at_ c.op b false) low 0 0 ks ts := by
  obtain ⟨i0, hi, hz0, hz1, hz2⟩ := info_parts Tryz.info3
  have hlen : s.data.toList.length = s.size := by simp
  have Hlen := hide hlen
  have hg0 := h.ib.lt
  have hR0 := h.rd.lt
  clear hlen
  go_enter Tryz.func117, Tryz.ntmps117
  go_wp2_with fail
  go_loopg [8] 5 (fun k _ wr => ∃ st, Hid (PadAt s.data.toList c.at_ b st k) ∧ MidC w wr R g s st c)
  case atStart => exact ⟨⟨b, 0, 0⟩, .inl ⟨rfl, rfl, by rw [unhide Hlen]; exact hp, by simp only; unfold M.padN; omega, rfl⟩, h⟩
  case round =>
    obtain ⟨st, Hpad, hm⟩ := hrel
    have hpos : st.pos ≤ s.size := by have := (unhide Hpad).pos; rwa [unhide Hlen] at this
    obtain ⟨x0, x1, x2, x3⟩ := hm.rd.cells
    by_cases hx : st.e = 0 ∧ st.pos % 4 ≠ 0
    · obtain ⟨hx1, hx2⟩ := hx
      have hx3 : (((st.pos : Int) % 4) != 0) = true := by rw [bne_iff_ne]; omega
      have hx4 : ((st.e : Int) == 0) = true := by rw [beq_iff_eq]; omega
      obtain ⟨g', hg', hn⟩ := (unhide Hpad).next hx1 hx2
      have hb := M.num_le (M.take_len s.data.toList 1 st)
      have CU := cnum1 R s st hs hpos
      obtain ⟨T, s1, hT⟩ : ∃ T s1, M.take s.data.toList 1 st = (T, s1) := ⟨_, _, rfl⟩
      rw [hT] at hb hn
      simp only [hT] at CU
      simp only at hb hn CU
      obtain ⟨x, hxx⟩ : ∃ x, x = M.num T := ⟨_, rfl⟩
      rw [← hxx] at hb hn
      simp only [← hxx] at CU
      have Hn := hide hn
      have HU := hide CU
      clear hn hx1 hx2 Hpad CU hT hxx
      go_wp2_with fail
      refine (unhide HU _ hm.rd).mono ?_
      rintro e w1 ⟨rfl, hr1, hg1⟩
      have hm1 := hm.take hr1 hg1
      clear hm hr1 hg1 HU x0 x1 x2 x3
      by_cases hz : x = 0
      · have hn1 := unhide Hn
        rw [if_pos hz] at hn1
        subst hz
        go_wp2
        go_roundg g'
        case measure => exact hg'
        case rel => exact ⟨s1, hn1, hm1⟩
      · have hn1 := unhide Hn
        rw [if_neg hz] at hn1
        have hz1 : (((x : Nat) : Int) != 0) = true := by rw [bne_iff_ne]; omega
        have Hn1 := hide hn1
        clear hn1 Hn hz
        have i0 := hm1.ib.cell 0
        simp [C.cells] at i0
        go_wp2_with fail
        refine (cfail_any R s s1 15 c.at_ _ hm1.rd).mono ?_
        rintro e w5 ⟨rfl, hr5, hg5, hz5⟩
        have hm5 := hm1.take hr5 hg5
        clear hr5 hg5 hm1
        go_wp2
        go_roundg g'
        case measure => exact hg'
        case rel => exact ⟨_, unhide Hn1, hm5⟩
    · have hxo : st.e ≠ 0 ∨ st.pos % 4 = 0 := by
        by_cases h1 : st.e = 0
        · exact .inr (by have := not_and.1 hx h1; omega)
        · exact .inl h1
      have hres := (unhide Hpad).res hxo
      have CT := csigned4 R s st hs hpos
      have bt := M.rd_bound M.fw _ (M.take_len s.data.toList 4 st) (by decide)
      obtain ⟨T, s1, hT⟩ : ∃ T s1, M.take s.data.toList 4 st = (T, s1) := ⟨_, _, rfl⟩
      rw [hT] at hres bt
      simp only [hT] at CT
      simp only at hres CT bt
      obtain ⟨y, hyy⟩ : ∃ y, y = M.rd M.fw T := ⟨_, rfl⟩
      rw [← hyy] at hres bt
      simp only [← hyy] at CT
      have Hres := hide hres
      have HT := hide CT
      clear hres CT hT hyy Hpad hx
      have k7 := hm.ib.cell 7
      have i0c := hm.ib.cell 0
      simp [C.cells, htv] at k7 i0c
      have hexit : ((((st.pos : Int) % 4) != 0) = false) ∨ ((((st.pos : Int) % 4) != 0) = true ∧ ((st.e : Int) == 0) = false) := by
        rcases Nat.eq_zero_or_pos (st.pos % 4) with h1 | h1
        · exact .inl (by rw [bne_eq_false_iff_eq]; omega)
        · exact .inr ⟨by rw [bne_iff_ne]; omega, by rw [beq_eq_false_iff_ne]; omega⟩
      have hwr : IntKind.i64.wrap ((c.at_ : Int) + y) = (c.at_ : Int) + y := by rw [IntKind.wrap_i64, Int.emod_eq_of_lt (by omega) (by omega)]; omega
      have hmd := hm.drew
      rcases hexit with he1 | ⟨he1, he2⟩
      · go_wp2_with fail
        go_cut [] (fun w' => ∃ g7, MidC w w' R g s s1 { c with tv := .slice (some ⟨g7, 0, none⟩) 1 1 } ∧ Own2 w' w.heap.size c.kv (.slice (some ⟨g7, 0, none⟩) 1 1) [] [(c.at_ : Int) + y])
        case first =>
          go_region_with (go_at_call 116; refine (unhide HT _ hmd.rd).mono ?_; rintro e w5 ⟨rfl, hr5, hg5⟩; have hm6 := (hmd.take hr5 hg5).alloc (.cells #[.int .i64 ((c.at_ : Int) + y)] 3); have j0 := (hmd.take hr5 hg5).ib.cell 0; have k7 := hm6.ib.cell 7; have f7 := hm6.ib.frozen 7; simp [C.cells] at k7 j0)
          all_goals
            have ho6 := Own2.lit (w := w5) (B := w.heap.size) ((c.at_ : Int) + y) (hmd.take hr5 hg5).kp.size rfl
            have hm7 := hm6.set 7 _ (hm6.ib.setT (.slice (some ⟨w5.heap.size, 0, none⟩) 1 1))
            have ho7 := Own2.kept ho6 (grown_set (w5.alloc (.cells #[.int .i64 ((c.at_ : Int) + y)] 3)) g 7 (.slice (some ⟨w5.heap.size, 0, none⟩) 1 1)) (fun b e => by cases e; exact hg0)
            go_wp2
            go_meet
            case rel => exact ⟨w5.heap.size, hm7, by rw [hkv]; exact ho7⟩
        case rest =>
          obtain ⟨g7, hmA, hoA⟩ := hcut
          clear hm hmd k7 i0c HT
          have hstart := tab_start (op := c.op) (unhide Hres) (by rw [unhide Hlen]; exact hp)
          have hpos1 : s1.pos ≤ s.size := by have := (unhide Hres).pos; rwa [unhide Hlen] at this
          have hp2 := M.take_pos (n := 4) (s := s.data.toList) (st := s1) (by rw [unhide Hlen]; exact hpos1)
          have C2 := csigned4 R s s1 hs hpos1
          have b2 := M.rd_bound M.fw _ (M.take_len s.data.toList 4 s1) (by decide)
          obtain ⟨T2, s2, e2⟩ : ∃ T s2, M.take s.data.toList 4 s1 = (T, s2) := ⟨_, _, rfl⟩
          rw [e2] at hstart hp2 b2
          simp only [e2] at C2
          simp only at hstart hp2 C2 b2
          have hpos2 : s2.pos ≤ s.size := by rw [unhide Hlen] at hp2; exact hp2
          have C3 := csigned4 R s s2 hs hpos2
          have b3 := M.rd_bound M.fw _ (M.take_len s.data.toList 4 s2) (by decide)
          obtain ⟨T3, s3, e3⟩ : ∃ T s3, M.take s.data.toList 4 s2 = (T, s3) := ⟨_, _, rfl⟩
          rw [e3] at hstart b3
          simp only [e3] at C3
          simp only at hstart C3 b3
          obtain ⟨lo, hlo⟩ : ∃ x, x = M.rd M.fw T2 := ⟨_, rfl⟩
          obtain ⟨hi', hhi⟩ : ∃ x, x = M.rd M.fw T3 := ⟨_, rfl⟩
          rw [← hlo] at hstart b2
          rw [← hhi] at hstart b3
          simp only [← hlo] at C2
          simp only [← hhi] at C3
          have H2 := hide C2
          have H3 := hide C3
          have HS := hide hstart
          clear C2 C3 hstart e2 e3 hlo hhi Hres hp2
          go_wp2_with fail
          refine (unhide H2 _ hmA.rd).mono ?_
          rintro e w2 ⟨rfl, hr2, hg2⟩
          have hm2 := hmA.take hr2 hg2
          have ho2 := hoA.kept hg2 (fun b e => by cases e; exact hR0)
          clear hmA hoA hr2 hg2 H2
          have k5 := hm2.ib.cell 5
          have f5 := hm2.ib.frozen 5
          simp [C.cells] at k5
          have hm3 := hm2.set 5 _ (hm2.ib.setLow lo)
          have ho3 := ho2.kept (grown_set w2 g 5 (.int .i64 lo)) (fun b e => by cases e; exact hg0)
          clear hm2 ho2
          go_upto_region 7 with fail
          clear k5 f5
          generalize w2.setCell ⟨g, 5, none⟩ (.int .i64 lo) = W3 at *
          go_wp2_with fail
          refine (unhide H3 _ hm3.rd).mono ?_
          rintro e w4 ⟨rfl, hr4, hg4⟩
          have hm4 := hm3.take hr4 hg4
          have ho4 := ho3.kept hg4 (fun b e => by cases e; exact hR0)
          clear hm3 ho3 hr4 hg4 H3
          have k0 := hm4.ib.cell 0
          simp [C.cells] at k0
          have hS := unhide HS
          by_cases hlt : hi' < lo
          · rw [if_pos hlt] at hS
            have HD := hide (hS.done (.inl (fail_ne s3 c.at_)))
            clear hS HS
            have n1 : hi' - lo + 1 < 1 := by omega
            by_cases hn0 : hi' - lo + 1 < 0
            · go_wp2_with fail
              refine (cfail_any R s s3 15 c.at_ _ hm4.rd).mono ?_
              rintro e w5 ⟨rfl, hr5, hg5, hz5⟩
              have hm5 := hm4.take hr5 hg5
              have ho5 := ho4.kept hg5 (fun b e => by cases e; exact hR0)
              clear hr5 hg5 hz5 hm4 ho4 k0
              have k0 := hm5.ib.cell 0
              simp [C.cells] at k0
              go_wp2_with fail
              refine (cfail_any R s _ 15 c.at_ _ hm5.rd).mono ?_
              rintro e w6 ⟨rfl, hr6, hg6, hz6⟩
              rw [M.fail_bad (fail_ne s3 c.at_)] at hr6
              have hm6 := hm5.take hr6 hg6
              have ho6 := ho5.kept hg6 (fun b e => by cases e; exact hR0)
              clear hr6 hg6 hz6 hm5 ho5 k0
              go_wp2_with fail
              refine wp_loop_rounds 1 ?_
              rw [rounds_succ]
              go_wp2
              go_end0
              exact ⟨rfl, _, _, _, _, [], _, ⟨hm6, ho6⟩, unhide HD⟩
            · have hn1 : 0 ≤ hi' - lo + 1 := by omega
              go_wp2_with fail
              refine (cfail_any R s s3 15 c.at_ _ hm4.rd).mono ?_
              rintro e w5 ⟨rfl, hr5, hg5, hz5⟩
              have hm5 := hm4.take hr5 hg5
              have ho5 := ho4.kept hg5 (fun b e => by cases e; exact hR0)
              clear hr5 hg5 hz5 hm4 ho4 k0
              go_wp2_with fail
              refine wp_loop_rounds 1 ?_
              rw [rounds_succ]
              go_wp2
              go_end0
              exact ⟨rfl, _, _, _, _, [], _, ⟨hm5, ho5⟩, unhide HD⟩
          · rw [if_neg hlt] at hS
            have HT := hide hS
            clear hS HS
            have n1 : 1 ≤ hi' - lo + 1 := by omega
            go_wp2_with fail
            go_loopw [7] (fun k wr => ∃ (kk : Nat) (st : St) (tv : Value) (ts : List Int), k = .int .i64 kk ∧ (kk : Int) ≤ 8589934592 ∧ Hid (TabAt s.data.toList c.at_ c.op b lo hi' st (lo + kk) ts) ∧ MidC w wr R g s st { c with tv := tv, low := lo } ∧ Own2 wr w.heap.size c.kv tv [] ts) (fun k _ => (hi' - lo + 1 - intOf k).toNat)
            case atStart => exact ⟨0, s3, _, _, rfl, by omega, by simpa using HT, hm4, ho4⟩
            case round =>
              clear HT hm4 ho4 k0
              obtain ⟨kk, st', tv, ts, rfl, hk2, HT, hmA, hoA⟩ := hrel
              have hpp := (unhide HT).pos
              rw [unhide Hlen] at hpp
              obtain ⟨hpos', hts⟩ := hpp
              obtain ⟨x0, x1, x2, x3⟩ := hmA.rd.cells
              by_cases hx : st'.e = 0 ∧ (kk : Int) < hi' - lo + 1
              · obtain ⟨hx1, hx2⟩ := hx
                have hx4 : ((st'.e : Int) == 0) = true := by rw [beq_iff_eq]; omega
                have hn := (unhide HT).next hx1 (by omega)
                have CT := csigned4 R s st' hs hpos'
                have bt := M.rd_bound M.fw _ (M.take_len s.data.toList 4 st') (by decide)
                obtain ⟨T, s4, hT⟩ : ∃ T s4, M.take s.data.toList 4 st' = (T, s4) := ⟨_, _, rfl⟩
                rw [hT] at hn bt
                simp only [hT] at CT
                simp only at hn CT bt
                obtain ⟨z, hzz⟩ : ∃ x, x = M.rd M.fw T := ⟨_, rfl⟩
                rw [← hzz] at hn bt
                simp only [← hzz] at CT
                rw [show lo + (kk : Int) + 1 = lo + ((kk + 1 : Nat) : Int) by omega] at hn
                have HN := hide hn
                have HC := hide CT
                have hwz : IntKind.i64.wrap ((c.at_ : Int) + z) = (c.at_ : Int) + z := by rw [IntKind.wrap_i64, Int.emod_eq_of_lt (by omega) (by omega)]; omega
                clear hn CT hT hzz HT hx1
                have hmd := hmA.drew
                have k0 := hmA.ib.cell 7
                have i0c := hmA.ib.cell 0
                simp [C.cells] at k0 i0c
                go_wp2_with fail
                go_region_law (first
                  | (refine step_call rfl 116 #[.tmp 129, .const (.int .i64 4)] #[138, 3] rfl #[.pointer (some ⟨R, 0, none⟩), .int .i64 4] (by simp [Act.eval, Act.put]) enter116 (unhide HC _ hmd.rd) ?_; rintro e w5 ⟨rfl, hr5, hg5⟩; refine ⟨_, rfl, ?_⟩; have hm5 := hmd.take hr5 hg5; have ho5 := Own2.kept (w' := w5) (show Own2 wr.drew w.heap.size _ _ _ _ from ⟨hoA.k, hoA.t, hoA.apart⟩) hg5 (fun b e => by cases e; exact hR0); have k5 := hm5.ib.cell 7; have j5 := hm5.ib.cell 0; simp [C.cells] at k5 j5; have hm6 := hm5.alloc (.cells #[.int .i64 ((c.at_ : Int) + z)] 3); have ho6 := ho5.grow (World.grownBy_alloc w5 (.cells #[.int .i64 ((c.at_ : Int) + z)] 3) none); have k6 := hm6.ib.cell 7; simp [C.cells] at k6; clear hr5 hg5 hm5 ho5)
                  | (refine step_append_at rfl (.tmp 124) (.tmp 132) 110 rfl w.heap.size 3 i0 (.int .i64 0) 1 8 Tryz.underlying110 hi hz0 hz1 hz2 rfl (by decide) tv ts.length (ts.map (Value.int .i64)) (by simp [Act.eval]) ho6.t ⟨w5.heap.size, 0, none⟩ 1 1 [.int .i64 ((c.at_ : Int) + z)] (by simp [Act.eval]) rfl (cell_one_new _ _ _) (ints_oneCell .i64 [(c.at_ : Int) + z]) (by unfold maxLen; omega) (by omega) hm6.kp.size ?_; intro v' w7 hown7 hgrow7 hloc7; have ho7 := ho6.appT hown7 hgrow7 hloc7; have hm7 := hm6.app ho6.t hgrow7 (Nat.le_refl _) hR0 hg0; obtain ⟨g8, c8, rfl⟩ := own_form hown7 (by omega); have k7 := hm7.ib.cell 7; have f7 := hm7.ib.frozen 7; simp [C.cells] at k7; clear hgrow7 hm6 ho6 hown7 hloc7))
                all_goals
                  have hm8 := hm7.set 7 _ (hm7.ib.setT (.slice (some ⟨g8, 0, none⟩) (ts.length + 1) c8))
                  have ho8 := ho7.kept (grown_set w7 g 7 (.slice (some ⟨g8, 0, none⟩) (ts.length + 1) c8)) (fun b e => by cases e; exact hg0)
                  clear hm7 ho7 hmd hmA hoA
                  go_wp2
                  go_roundw
                  case rel => exact ⟨kk + 1, s4, _, ts ++ [(c.at_ : Int) + z], by go_num, by omega, HN, hm8, ho8⟩
                  case measure => simp [intOf]; omega
              · have hxo : st'.e ≠ 0 ∨ hi' < lo + (kk : Int) := by
                  by_cases h1 : st'.e = 0
                  · exact .inr (by have := not_and.1 hx h1; omega)
                  · exact .inl h1
                have HD := hide ((unhide HT).done hxo)
                clear HT hx
                by_cases h2 : (kk : Int) < hi' - lo + 1
                · have h3 : ((st'.e : Int) == 0) = false := by rw [beq_eq_false_iff_ne]; omega
                  go_wp2
                  go_end0
                  exact ⟨rfl, _, _, _, _, [], _, ⟨hmA, hoA⟩, unhide HD⟩
                · have h3 : hi' - lo + 1 ≤ (kk : Int) := by omega
                  go_wp2
                  go_end0
                  exact ⟨rfl, _, _, _, _, [], _, ⟨hmA, hoA⟩, unhide HD⟩
      · go_wp2_with fail
        go_cut [] (fun w' => ∃ g7, MidC w w' R g s s1 { c with tv := .slice (some ⟨g7, 0, none⟩) 1 1 } ∧ Own2 w' w.heap.size c.kv (.slice (some ⟨g7, 0, none⟩) 1 1) [] [(c.at_ : Int) + y])
        case first =>
          go_region_with (go_at_call 116; refine (unhide HT _ hmd.rd).mono ?_; rintro e w5 ⟨rfl, hr5, hg5⟩; have hm6 := (hmd.take hr5 hg5).alloc (.cells #[.int .i64 ((c.at_ : Int) + y)] 3); have j0 := (hmd.take hr5 hg5).ib.cell 0; have k7 := hm6.ib.cell 7; have f7 := hm6.ib.frozen 7; simp [C.cells] at k7 j0)
          all_goals
            have ho6 := Own2.lit (w := w5) (B := w.heap.size) ((c.at_ : Int) + y) (hmd.take hr5 hg5).kp.size rfl
            have hm7 := hm6.set 7 _ (hm6.ib.setT (.slice (some ⟨w5.heap.size, 0, none⟩) 1 1))
            have ho7 := Own2.kept ho6 (grown_set (w5.alloc (.cells #[.int .i64 ((c.at_ : Int) + y)] 3)) g 7 (.slice (some ⟨w5.heap.size, 0, none⟩) 1 1)) (fun b e => by cases e; exact hg0)
            go_wp2
            go_meet
            case rel => exact ⟨w5.heap.size, hm7, by rw [hkv]; exact ho7⟩
        case rest =>
          obtain ⟨g7, hmA, hoA⟩ := hcut
          clear hm hmd k7 i0c HT
          have hstart := tab_start (op := c.op) (unhide Hres) (by rw [unhide Hlen]; exact hp)
          have hpos1 : s1.pos ≤ s.size := by have := (unhide Hres).pos; rwa [unhide Hlen] at this
          have hp2 := M.take_pos (n := 4) (s := s.data.toList) (st := s1) (by rw [unhide Hlen]; exact hpos1)
          have C2 := csigned4 R s s1 hs hpos1
          have b2 := M.rd_bound M.fw _ (M.take_len s.data.toList 4 s1) (by decide)
          obtain ⟨T2, s2, e2⟩ : ∃ T s2, M.take s.data.toList 4 s1 = (T, s2) := ⟨_, _, rfl⟩
          rw [e2] at hstart hp2 b2
          simp only [e2] at C2
          simp only at hstart hp2 C2 b2
          have hpos2 : s2.pos ≤ s.size := by rw [unhide Hlen] at hp2; exact hp2
          have C3 := csigned4 R s s2 hs hpos2
          have b3 := M.rd_bound M.fw _ (M.take_len s.data.toList 4 s2) (by decide)
          obtain ⟨T3, s3, e3⟩ : ∃ T s3, M.take s.data.toList 4 s2 = (T, s3) := ⟨_, _, rfl⟩
          rw [e3] at hstart b3
          simp only [e3] at C3
          simp only at hstart C3 b3
          obtain ⟨lo, hlo⟩ : ∃ x, x = M.rd M.fw T2 := ⟨_, rfl⟩
          obtain ⟨hi', hhi⟩ : ∃ x, x = M.rd M.fw T3 := ⟨_, rfl⟩
          rw [← hlo] at hstart b2
          rw [← hhi] at hstart b3
          simp only [← hlo] at C2
          simp only [← hhi] at C3
          have H2 := hide C2
          have H3 := hide C3
          have HS := hide hstart
          clear C2 C3 hstart e2 e3 hlo hhi Hres hp2
          go_wp2_with fail
          refine (unhide H2 _ hmA.rd).mono ?_
          rintro e w2 ⟨rfl, hr2, hg2⟩
          have hm2 := hmA.take hr2 hg2
          have ho2 := hoA.kept hg2 (fun b e => by cases e; exact hR0)
          clear hmA hoA hr2 hg2 H2
          have k5 := hm2.ib.cell 5
          have f5 := hm2.ib.frozen 5
          simp [C.cells] at k5
          have hm3 := hm2.set 5 _ (hm2.ib.setLow lo)
          have ho3 := ho2.kept (grown_set w2 g 5 (.int .i64 lo)) (fun b e => by cases e; exact hg0)
          clear hm2 ho2
          go_upto_region 7 with fail
          clear k5 f5
          generalize w2.setCell ⟨g, 5, none⟩ (.int .i64 lo) = W3 at *
          go_wp2_with fail
          refine (unhide H3 _ hm3.rd).mono ?_
          rintro e w4 ⟨rfl, hr4, hg4⟩
          have hm4 := hm3.take hr4 hg4
          have ho4 := ho3.kept hg4 (fun b e => by cases e; exact hR0)
          clear hm3 ho3 hr4 hg4 H3
          have k0 := hm4.ib.cell 0
          simp [C.cells] at k0
          have hS := unhide HS
          by_cases hlt : hi' < lo
          · rw [if_pos hlt] at hS
            have HD := hide (hS.done (.inl (fail_ne s3 c.at_)))
            clear hS HS
            have n1 : hi' - lo + 1 < 1 := by omega
            by_cases hn0 : hi' - lo + 1 < 0
            · go_wp2_with fail
              refine (cfail_any R s s3 15 c.at_ _ hm4.rd).mono ?_
              rintro e w5 ⟨rfl, hr5, hg5, hz5⟩
              have hm5 := hm4.take hr5 hg5
              have ho5 := ho4.kept hg5 (fun b e => by cases e; exact hR0)
              clear hr5 hg5 hz5 hm4 ho4 k0
              have k0 := hm5.ib.cell 0
              simp [C.cells] at k0
              go_wp2_with fail
              refine (cfail_any R s _ 15 c.at_ _ hm5.rd).mono ?_
              rintro e w6 ⟨rfl, hr6, hg6, hz6⟩
              rw [M.fail_bad (fail_ne s3 c.at_)] at hr6
              have hm6 := hm5.take hr6 hg6
              have ho6 := ho5.kept hg6 (fun b e => by cases e; exact hR0)
              clear hr6 hg6 hz6 hm5 ho5 k0
              go_wp2_with fail
              refine wp_loop_rounds 1 ?_
              rw [rounds_succ]
              go_wp2
              go_end0
              exact ⟨rfl, _, _, _, _, [], _, ⟨hm6, ho6⟩, unhide HD⟩
            · have hn1 : 0 ≤ hi' - lo + 1 := by omega
              go_wp2_with fail
              refine (cfail_any R s s3 15 c.at_ _ hm4.rd).mono ?_
              rintro e w5 ⟨rfl, hr5, hg5, hz5⟩
              have hm5 := hm4.take hr5 hg5
              have ho5 := ho4.kept hg5 (fun b e => by cases e; exact hR0)
              clear hr5 hg5 hz5 hm4 ho4 k0
              go_wp2_with fail
              refine wp_loop_rounds 1 ?_
              rw [rounds_succ]
              go_wp2
              go_end0
              exact ⟨rfl, _, _, _, _, [], _, ⟨hm5, ho5⟩, unhide HD⟩
          · rw [if_neg hlt] at hS
            have HT := hide hS
            clear hS HS
            have n1 : 1 ≤ hi' - lo + 1 := by omega
            go_wp2_with fail
            go_loopw [7] (fun k wr => ∃ (kk : Nat) (st : St) (tv : Value) (ts : List Int), k = .int .i64 kk ∧ (kk : Int) ≤ 8589934592 ∧ Hid (TabAt s.data.toList c.at_ c.op b lo hi' st (lo + kk) ts) ∧ MidC w wr R g s st { c with tv := tv, low := lo } ∧ Own2 wr w.heap.size c.kv tv [] ts) (fun k _ => (hi' - lo + 1 - intOf k).toNat)
            case atStart => exact ⟨0, s3, _, _, rfl, by omega, by simpa using HT, hm4, ho4⟩
            case round =>
              clear HT hm4 ho4 k0
              obtain ⟨kk, st', tv, ts, rfl, hk2, HT, hmA, hoA⟩ := hrel
              have hpp := (unhide HT).pos
              rw [unhide Hlen] at hpp
              obtain ⟨hpos', hts⟩ := hpp
              obtain ⟨x0, x1, x2, x3⟩ := hmA.rd.cells
              by_cases hx : st'.e = 0 ∧ (kk : Int) < hi' - lo + 1
              · obtain ⟨hx1, hx2⟩ := hx
                have hx4 : ((st'.e : Int) == 0) = true := by rw [beq_iff_eq]; omega
                have hn := (unhide HT).next hx1 (by omega)
                have CT := csigned4 R s st' hs hpos'
                have bt := M.rd_bound M.fw _ (M.take_len s.data.toList 4 st') (by decide)
                obtain ⟨T, s4, hT⟩ : ∃ T s4, M.take s.data.toList 4 st' = (T, s4) := ⟨_, _, rfl⟩
                rw [hT] at hn bt
                simp only [hT] at CT
                simp only at hn CT bt
                obtain ⟨z, hzz⟩ : ∃ x, x = M.rd M.fw T := ⟨_, rfl⟩
                rw [← hzz] at hn bt
                simp only [← hzz] at CT
                rw [show lo + (kk : Int) + 1 = lo + ((kk + 1 : Nat) : Int) by omega] at hn
                have HN := hide hn
                have HC := hide CT
                have hwz : IntKind.i64.wrap ((c.at_ : Int) + z) = (c.at_ : Int) + z := by rw [IntKind.wrap_i64, Int.emod_eq_of_lt (by omega) (by omega)]; omega
                clear hn CT hT hzz HT hx1
                have hmd := hmA.drew
                have k0 := hmA.ib.cell 7
                have i0c := hmA.ib.cell 0
                simp [C.cells] at k0 i0c
                go_wp2_with fail
                go_region_law (first
                  | (refine step_call rfl 116 #[.tmp 129, .const (.int .i64 4)] #[138, 3] rfl #[.pointer (some ⟨R, 0, none⟩), .int .i64 4] (by simp [Act.eval, Act.put]) enter116 (unhide HC _ hmd.rd) ?_; rintro e w5 ⟨rfl, hr5, hg5⟩; refine ⟨_, rfl, ?_⟩; have hm5 := hmd.take hr5 hg5; have ho5 := Own2.kept (w' := w5) (show Own2 wr.drew w.heap.size _ _ _ _ from ⟨hoA.k, hoA.t, hoA.apart⟩) hg5 (fun b e => by cases e; exact hR0); have k5 := hm5.ib.cell 7; have j5 := hm5.ib.cell 0; simp [C.cells] at k5 j5; have hm6 := hm5.alloc (.cells #[.int .i64 ((c.at_ : Int) + z)] 3); have ho6 := ho5.grow (World.grownBy_alloc w5 (.cells #[.int .i64 ((c.at_ : Int) + z)] 3) none); have k6 := hm6.ib.cell 7; simp [C.cells] at k6; clear hr5 hg5 hm5 ho5)
                  | (refine step_append_at rfl (.tmp 124) (.tmp 132) 110 rfl w.heap.size 3 i0 (.int .i64 0) 1 8 Tryz.underlying110 hi hz0 hz1 hz2 rfl (by decide) tv ts.length (ts.map (Value.int .i64)) (by simp [Act.eval]) ho6.t ⟨w5.heap.size, 0, none⟩ 1 1 [.int .i64 ((c.at_ : Int) + z)] (by simp [Act.eval]) rfl (cell_one_new _ _ _) (ints_oneCell .i64 [(c.at_ : Int) + z]) (by unfold maxLen; omega) (by omega) hm6.kp.size ?_; intro v' w7 hown7 hgrow7 hloc7; have ho7 := ho6.appT hown7 hgrow7 hloc7; have hm7 := hm6.app ho6.t hgrow7 (Nat.le_refl _) hR0 hg0; obtain ⟨g8, c8, rfl⟩ := own_form hown7 (by omega); have k7 := hm7.ib.cell 7; have f7 := hm7.ib.frozen 7; simp [C.cells] at k7; clear hgrow7 hm6 ho6 hown7 hloc7))
                all_goals
                  have hm8 := hm7.set 7 _ (hm7.ib.setT (.slice (some ⟨g8, 0, none⟩) (ts.length + 1) c8))
                  have ho8 := ho7.kept (grown_set w7 g 7 (.slice (some ⟨g8, 0, none⟩) (ts.length + 1) c8)) (fun b e => by cases e; exact hg0)
                  clear hm7 ho7 hmd hmA hoA
                  go_wp2
                  go_roundw
                  case rel => exact ⟨kk + 1, s4, _, ts ++ [(c.at_ : Int) + z], by go_num, by omega, HN, hm8, ho8⟩
                  case measure => simp [intOf]; omega
              · have hxo : st'.e ≠ 0 ∨ hi' < lo + (kk : Int) := by
                  by_cases h1 : st'.e = 0
                  · exact .inr (by have := not_and.1 hx h1; omega)
                  · exact .inl h1
                have HD := hide ((unhide HT).done hxo)
                clear HT hx
                by_cases h2 : (kk : Int) < hi' - lo + 1
                · have h3 : ((st'.e : Int) == 0) = false := by rw [beq_eq_false_iff_ne]; omega
                  go_wp2
                  go_end0
                  exact ⟨rfl, _, _, _, _, [], _, ⟨hmA, hoA⟩, unhide HD⟩
                · have h3 : hi' - lo + 1 ≤ (kk : Int) := by omega
                  go_wp2
                  go_end0
                  exact ⟨rfl, _, _, _, _, [], _, ⟨hmA, hoA⟩, unhide HD⟩
end Go.Proofs.YtddhlphbbiihjaaGreatDoor.Dc
