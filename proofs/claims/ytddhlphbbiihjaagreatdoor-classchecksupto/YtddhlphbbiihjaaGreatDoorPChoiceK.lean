/-
  jvmcoreref2's choice: a switch by keys.
-/
import Derived.Test.YtddhlphbbiihjaaGreatDoorMgPOneM
namespace Go.Proofs.YtddhlphbbiihjaaGreatDoor.Dc
open Go.RowKit
theorem fail_neK (st : St) (a : Nat) : (M.fail st 15 a).e ≠ 0 := by
  unfold M.fail; split
  · simp
  · assumption
set_option maxRecDepth 100000 in
set_option maxHeartbeats 10000000 in
theorem choice_key (R g b : Nat) (s : ByteArray) (c : C) (w : World) (h : MidC w w R g s ⟨b, 0, 0⟩ c) (hs : s.size ≤ 131072) (hp : b ≤ s.size)
    (hkv : c.kv = .slice none 0 0) (htv : c.tv = .slice none 0 0) (hlow : c.low = 0) (hat : c.at_ ≤ 131072) :
    Calls Tryz.prog 117 #[.pointer (some ⟨R, 0, none⟩), .pointer (some ⟨g, 0, none⟩), .bool true] w fun x w' => x = .returned (.tuple #[]) ∧
      ∃ st kv tv low ks ts, DoneC w w' R g w.heap.size s st { c with kv := kv, tv := tv, low := low } ks ts ∧ ReadTo s.data.toList st (M.sw s.data.toList c.at_ c.op b true) low 0 0 ks ts := by
  obtain ⟨i0, hi, hz0, hz1, hz2⟩ := info_parts Tryz.info3
  have hlen : s.data.toList.length = s.size := by simp
  have Hlen := hide hlen
  have hg0 := h.ib.lt
  have hR0 := h.rd.lt
  clear hlen
  go_enter Tryz.func117, Tryz.ntmps117
  go_wp2_with fail
  go_loopg [8] 5 (fun k _ wr => ∃ st, Hid (PadAt s.data.toList c.at_ b st k) ∧ MidC w wr R g s st c)
  case atStart => exact ⟨⟨b, 0, 0⟩, .inl ⟨rfl, rfl, by rw [unhide Hlen]; exact hp, by simp only; unfold M.padN; omega, rfl⟩, h⟩
  case round =>
    obtain ⟨st, Hpad, hm⟩ := hrel
    have hpos : st.pos ≤ s.size := by have := (unhide Hpad).pos; rwa [unhide Hlen] at this
    obtain ⟨x0, x1, x2, x3⟩ := hm.rd.cells
    by_cases hx : st.e = 0 ∧ st.pos % 4 ≠ 0
    · obtain ⟨hx1, hx2⟩ := hx
      have hx3 : (((st.pos : Int) % 4) != 0) = true := by rw [bne_iff_ne]; omega
      have hx4 : ((st.e : Int) == 0) = true := by rw [beq_iff_eq]; omega
      obtain ⟨g', hg', hn⟩ := (unhide Hpad).next hx1 hx2
      have hb := M.num_le (M.take_len s.data.toList 1 st)
      have CU := cnum1 R s st hs hpos
      obtain ⟨T, s1, hT⟩ : ∃ T s1, M.take s.data.toList 1 st = (T, s1) := ⟨_, _, rfl⟩
      rw [hT] at hb hn
      simp only [hT] at CU
      simp only at hb hn CU
      obtain ⟨x, hxx⟩ : ∃ x, x = M.num T := ⟨_, rfl⟩
      rw [← hxx] at hb hn
      simp only [← hxx] at CU
      have Hn := hide hn
      have HU := hide CU
      clear hn hx1 hx2 Hpad CU hT hxx
      go_wp2_with fail
      refine (unhide HU _ hm.rd).mono ?_
      rintro e w1 ⟨rfl, hr1, hg1⟩
      have hm1 := hm.take hr1 hg1
      clear hm hr1 hg1 HU x0 x1 x2 x3
      by_cases hz : x = 0
      · have hn1 := unhide Hn
        rw [if_pos hz] at hn1
        subst hz
        go_wp2
        go_roundg g'
        case measure => exact hg'
        case rel => exact ⟨s1, hn1, hm1⟩
      · have hn1 := unhide Hn
        rw [if_neg hz] at hn1
        have hz1 : (((x : Nat) : Int) != 0) = true := by rw [bne_iff_ne]; omega
        have Hn1 := hide hn1
        clear hn1 Hn hz
        have i0 := hm1.ib.cell 0
        simp [C.cells] at i0
        go_wp2_with fail
        refine (cfail_any R s s1 15 c.at_ _ hm1.rd).mono ?_
        rintro e w5 ⟨rfl, hr5, hg5, hz5⟩
        have hm5 := hm1.take hr5 hg5
        clear hr5 hg5 hm1
        go_wp2
        go_roundg g'
        case measure => exact hg'
        case rel => exact ⟨_, unhide Hn1, hm5⟩
    · have hxo : st.e ≠ 0 ∨ st.pos % 4 = 0 := by
        by_cases h1 : st.e = 0
        · exact .inr (by have := not_and.1 hx h1; omega)
        · exact .inl h1
      have hres := (unhide Hpad).res hxo
      have CT := csigned4 R s st hs hpos
      have bt := M.rd_bound M.fw _ (M.take_len s.data.toList 4 st) (by decide)
      obtain ⟨T, s1, hT⟩ : ∃ T s1, M.take s.data.toList 4 st = (T, s1) := ⟨_, _, rfl⟩
      rw [hT] at hres bt
      simp only [hT] at CT
      simp only at hres CT bt
      obtain ⟨y, hyy⟩ : ∃ y, y = M.rd M.fw T := ⟨_, rfl⟩
      rw [← hyy] at hres bt
      simp only [← hyy] at CT
      have Hres := hide hres
      have HT := hide CT
      clear hres CT hT hyy Hpad hx
      have k7 := hm.ib.cell 7
      have i0c := hm.ib.cell 0
      simp [C.cells, htv] at k7 i0c
      have hexit : ((((st.pos : Int) % 4) != 0) = false) ∨ ((((st.pos : Int) % 4) != 0) = true ∧ ((st.e : Int) == 0) = false) := by
        rcases Nat.eq_zero_or_pos (st.pos % 4) with h1 | h1
        · exact .inl (by rw [bne_eq_false_iff_eq]; omega)
        · exact .inr ⟨by rw [bne_iff_ne]; omega, by rw [beq_eq_false_iff_ne]; omega⟩
      have hwr : IntKind.i64.wrap ((c.at_ : Int) + y) = (c.at_ : Int) + y := by rw [IntKind.wrap_i64, Int.emod_eq_of_lt (by omega) (by omega)]; omega
      have hmd := hm.drew
      rcases hexit with he1 | ⟨he1, he2⟩
      · go_wp2_with fail
        go_cut [] (fun w' => ∃ g7, MidC w w' R g s s1 { c with tv := .slice (some ⟨g7, 0, none⟩) 1 1 } ∧ Own2 w' w.heap.size c.kv (.slice (some ⟨g7, 0, none⟩) 1 1) [] [(c.at_ : Int) + y])
        case first =>
          go_region_with (go_at_call 116; refine (unhide HT _ hmd.rd).mono ?_; rintro e w5 ⟨rfl, hr5, hg5⟩; have hm6 := (hmd.take hr5 hg5).alloc (.cells #[.int .i64 ((c.at_ : Int) + y)] 3); have j0 := (hmd.take hr5 hg5).ib.cell 0; have k7 := hm6.ib.cell 7; have f7 := hm6.ib.frozen 7; simp [C.cells] at k7 j0)
          all_goals
            have ho6 := Own2.lit (w := w5) (B := w.heap.size) ((c.at_ : Int) + y) (hmd.take hr5 hg5).kp.size rfl
            have hm7 := hm6.set 7 _ (hm6.ib.setT (.slice (some ⟨w5.heap.size, 0, none⟩) 1 1))
            have ho7 := Own2.kept ho6 (grown_set (w5.alloc (.cells #[.int .i64 ((c.at_ : Int) + y)] 3)) g 7 (.slice (some ⟨w5.heap.size, 0, none⟩) 1 1)) (fun b e => by cases e; exact hg0)
            go_wp2
            go_meet
            case rel => exact ⟨w5.heap.size, hm7, by rw [hkv]; exact ho7⟩
        case rest =>
          obtain ⟨g7, hmA, hoA⟩ := hcut
          clear hm hmd k7 i0c HT
          have hstart := key_start (op := c.op) (unhide Hres) (by rw [unhide Hlen]; exact hp)
          have hpos1 : s1.pos ≤ s.size := by have := (unhide Hres).pos; rwa [unhide Hlen] at this
          have C2 := csigned4 R s s1 hs hpos1
          have b2 := M.rd_bound M.fw _ (M.take_len s.data.toList 4 s1) (by decide)
          obtain ⟨T2, s3, e2⟩ : ∃ T s2, M.take s.data.toList 4 s1 = (T, s2) := ⟨_, _, rfl⟩
          rw [e2] at hstart b2
          simp only [e2] at C2
          simp only at hstart C2 b2
          obtain ⟨cnt, hcnt⟩ : ∃ x, x = M.rd M.fw T2 := ⟨_, rfl⟩
          rw [← hcnt] at hstart b2
          simp only [← hcnt] at C2
          have H2 := hide C2
          have HS := hide hstart
          clear C2 hstart e2 hcnt Hres
          go_wp2_with fail
          refine (unhide H2 _ hmA.rd).mono ?_
          rintro e w2 ⟨rfl, hr2, hg2⟩
          have hm4 := hmA.take hr2 hg2
          have ho4 := hoA.kept hg2 (fun b e => by cases e; exact hR0)
          clear hmA hoA hr2 hg2 H2
          have k0 := hm4.ib.cell 0
          simp [C.cells] at k0
          have hS := unhide HS
          by_cases hlt : cnt < 0
          · rw [if_pos hlt] at hS
            have HD := hide (hS.done (.inl (fail_neK s3 c.at_)))
            clear hS HS
            go_wp2_with fail
            refine (cfail_any R s s3 15 c.at_ _ hm4.rd).mono ?_
            rintro e w5 ⟨rfl, hr5, hg5, hz5⟩
            have hm5 := hm4.take hr5 hg5
            have ho5 := ho4.kept hg5 (fun b e => by cases e; exact hR0)
            clear hr5 hg5 hz5 hm4 ho4 k0
            go_wp2_with fail
            refine wp_loop_rounds 1 ?_
            rw [rounds_succ]
            go_wp2
            go_end0
            exact ⟨rfl, _, c.kv, _, 0, [], _, ⟨by rw [← hlow]; exact hm5, ho5⟩, unhide HD⟩
          · rw [if_neg hlt] at hS
            have HT := hide hS
            clear hS HS
            have n1 : 0 ≤ cnt := by omega
            go_wp2_with fail
            go_loopw [7] (fun k wr => ∃ (kk : Nat) (st : St) (kv tv : Value) (ks ts : List Int), k = .int .i64 kk ∧ (kk : Int) ≤ 8589934592 ∧ Hid (KeyAt s.data.toList c.at_ c.op b cnt st kk ks ts) ∧ MidC w wr R g s st { c with kv := kv, tv := tv } ∧ Own2 wr w.heap.size kv tv ks ts) (fun k _ => (cnt - intOf k).toNat)
            case atStart => exact ⟨0, s3, c.kv, _, [], _, rfl, by omega, HT, hm4, ho4⟩
            case round =>
              clear HT hm4 ho4 k0
              obtain ⟨kk, st', kv, tv, ks, ts, rfl, hk2, HT, hmA, hoA⟩ := hrel
              have hpp := (unhide HT).pos
              rw [unhide Hlen] at hpp
              obtain ⟨hpos', hks, hts⟩ := hpp
              obtain ⟨x0, x1, x2, x3⟩ := hmA.rd.cells
              by_cases hx : st'.e = 0 ∧ (kk : Int) < cnt
              · obtain ⟨hx1, hx2⟩ := hx
                have hx4 : ((st'.e : Int) == 0) = true := by rw [beq_iff_eq]; omega
                obtain ⟨hn, hpk, hkl⟩ := (unhide HT).next hx1 hx2
                subst hkl
                have CK := csigned4 R s st' hs hpos'
                have bk := M.rd_bound M.fw _ (M.take_len s.data.toList 4 st') (by decide)
                rw [unhide Hlen] at hpk
                have CT := csigned4 R s (keyed s.data.toList c.at_ st' ks) hs hpk
                have bt := M.rd_bound M.fw _ (M.take_len s.data.toList 4 (keyed s.data.toList c.at_ st' ks)) (by decide)
                have hkd : keyed s.data.toList c.at_ st' ks = if ks ≠ [] ∧ M.rd M.fw (M.take s.data.toList 4 st').1 ≤ ks.getLastD 0 then M.fail (M.take s.data.toList 4 st').2 15 c.at_ else (M.take s.data.toList 4 st').2 := rfl
                obtain ⟨sk, hsk⟩ : ∃ x, x = keyed s.data.toList c.at_ st' ks := ⟨_, rfl⟩
                rw [← hsk] at hn hpk CT hkd bt
                obtain ⟨T, s4, hT⟩ : ∃ T s1, M.take s.data.toList 4 st' = (T, s1) := ⟨_, _, rfl⟩
                rw [hT] at hn hkd bk
                simp only [hT] at CK
                simp only at hn CK hkd bk
                obtain ⟨x, hxx⟩ : ∃ x, x = M.rd M.fw T := ⟨_, rfl⟩
                rw [← hxx] at hn hkd bk
                simp only [← hxx] at CK
                obtain ⟨U, s5, hU⟩ : ∃ U s2, M.take s.data.toList 4 sk = (U, s2) := ⟨_, _, rfl⟩
                rw [hU] at hn bt
                simp only [hU] at CT
                simp only at hn CT bt
                obtain ⟨z, hzz⟩ : ∃ y, y = M.rd M.fw U := ⟨_, rfl⟩
                rw [← hzz] at hn bt
                simp only [← hzz] at CT
                have HN := hide hn
                have HK := hide CK
                have HC := hide CT
                have HDk := hide hkd
                have hwz : IntKind.i64.wrap ((c.at_ : Int) + z) = (c.at_ : Int) + z := by rw [IntKind.wrap_i64, Int.emod_eq_of_lt (by omega) (by omega)]; omega
                clear hn CK CT hkd hT hU hxx hzz hsk HT hx1
                have hmd := hmA.drew
                have k0 := hmA.ib.cell 6
                simp [C.cells] at k0
                go_wp2_with fail
                go_cut [7] (fun v w' => v = .int .i64 (ks.length : Int) ∧ ∃ g9 c9, MidC w w' R g s s4 { c with kv := .slice (some ⟨g9, 0, none⟩) (ks.length + 1) c9, tv := tv } ∧ Own2 w' w.heap.size (.slice (some ⟨g9, 0, none⟩) (ks.length + 1) c9) tv (ks ++ [x]) ts)
                case first =>
                  go_region_law (first
                    | (refine step_call rfl 116 #[.tmp 88, .const (.int .i64 4)] #[138, 3] rfl #[.pointer (some ⟨R, 0, none⟩), .int .i64 4] (by simp [Act.eval, Act.put]) enter116 (unhide HK _ hmd.rd) ?_; rintro e w5 ⟨rfl, hr5, hg5⟩; refine ⟨_, rfl, ?_⟩; have hm5 := hmd.take hr5 hg5; have ho5 := Own2.kept (w' := w5) (show Own2 wr.drew w.heap.size _ _ _ _ from ⟨hoA.k, hoA.t, hoA.apart⟩) hg5 (fun b e => by cases e; exact hR0); have k5 := hm5.ib.cell 6; simp [C.cells] at k5; have hm6 := hm5.alloc (.cells #[.int .i64 x] 3); have ho6 := ho5.grow (World.grownBy_alloc w5 (.cells #[.int .i64 x] 3) none); have k6 := hm6.ib.cell 6; simp [C.cells] at k6; clear hr5 hg5 hm5 ho5)
                    | (refine step_append_at rfl (.tmp 87) (.tmp 90) 110 rfl w.heap.size 3 i0 (.int .i64 0) 1 8 Tryz.underlying110 hi hz0 hz1 hz2 rfl (by decide) kv ks.length (ks.map (Value.int .i64)) (by simp [Act.eval]) ho6.k ⟨w5.heap.size, 0, none⟩ 1 1 [.int .i64 x] (by simp [Act.eval]) rfl (cell_one_new _ _ _) (ints_oneCell .i64 [x]) (by unfold maxLen; omega) (by omega) hm6.kp.size ?_; intro v' w7 hown7 hgrow7 hloc7; have ho7 := ho6.appK hown7 hgrow7 hloc7; have hm7 := hm6.app ho6.k hgrow7 (Nat.le_refl _) hR0 hg0; obtain ⟨g9, c9, rfl⟩ := own_form hown7 (by omega); have k7 := hm7.ib.cell 6; have f7 := hm7.ib.frozen 6; simp [C.cells] at k7; clear hgrow7 hm6 ho6 hown7 hloc7))
                  all_goals
                    have hm8 := hm7.set 6 _ (hm7.ib.setK (.slice (some ⟨g9, 0, none⟩) (ks.length + 1) c9))
                    have ho8 := ho7.kept (grown_set w7 g 6 (.slice (some ⟨g9, 0, none⟩) (ks.length + 1) c9)) (fun b e => by cases e; exact hg0)
                    clear hm7 ho7 hmd hmA hoA
                    go_wp2
                    go_meet
                    case rel => exact ⟨rfl, g9, c9, hm8, ho8⟩
                case rest =>
                  obtain ⟨rfl, g9, c9, hmB, hoB⟩ := hcut
                  clear hmA hoA hmd k0 HK x0 x1 x2 x3
                  have k6 := hmB.ib.cell 6
                  have k0 := hmB.ib.cell 0
                  simp [C.cells] at k6 k0
                  go_wp2_with fail
                  go_cut [7, 113] (fun v b w' => v = .int .i64 (ks.length : Int) ∧ b = .bool (decide (ks ≠ [] ∧ x ≤ ks.getLastD 0)) ∧ MidC w w' R g s s4 { c with kv := .slice (some ⟨g9, 0, none⟩) (ks.length + 1) c9, tv := tv } ∧ Own2 w' w.heap.size (.slice (some ⟨g9, 0, none⟩) (ks.length + 1) c9) tv (ks ++ [x]) ts)
                  case first =>
                    by_cases hk0 : ks = []
                    · subst hk0
                      go_quiet (fail)
                      go_wp2
                      go_meet
                      case rel => exact ⟨rfl, rfl, hmB.drewN _, ⟨hoB.k, hoB.t, hoB.apart⟩⟩
                    · have hl0 : 0 < ks.length := List.length_pos_iff.2 hk0
                      have hrow : wc.ownsRow w.heap.size 3 1 (.slice (some ⟨g9, 0, none⟩) (ks.length + 1) c9) (ks.length + 1) ((ks ++ [x]).map (Value.int .i64)) := by have := hoB.k; simpa using this
                      have c1 := row_at hrow ks.length (by simp)
                      have c2 := row_at hrow (ks.length - 1) (by simp; omega)
                      have e1 : (ks ++ [x]).getD ks.length 0 = x := by simp [List.getD]
                      have e2 : (ks ++ [x]).getD (ks.length - 1) 0 = ks.getLastD 0 := by
                        rw [List.getD, List.getElem?_append_left (by omega), List.getLastD_eq_getLast?, List.getLast?_eq_getElem?]
                      rw [e1] at c1
                      rw [e2] at c2
                      clear e1 e2 hrow
                      have hdec : decide (ks ≠ [] ∧ x ≤ ks.getLastD 0) = decide (x ≤ ks.getLastD 0) := by rw [Bool.eq_iff_iff]; simp [hk0]
                      have i1 : (0 : Int) < (ks.length : Int) := by omega
                      have i2 : (ks.length : Int) < ((ks.length + 1 : Nat) : Int) := by omega
                      have Hd := hide hdec
                      clear hdec hk0
                      go_quiet (fail)
                      go_wp2
                      go_meet
                      case rel => exact ⟨rfl, by rw [unhide Hd, List.getLastD_eq_getLast?], hmB.drewN _, ⟨hoB.k, hoB.t, hoB.apart⟩⟩
                  case rest =>
                    obtain ⟨rfl, rfl, hmC, hoC⟩ := hcut
                    clear hmB hoB k6 k0
                    have hd := unhide HDk
                    have k0 := hmC.ib.cell 0
                    simp [C.cells] at k0
                    go_upto_if 113 with fail
                    by_cases hc : ks ≠ [] ∧ x ≤ ks.getLastD 0
                    · rw [if_pos hc] at hd
                      rw [decide_eq_true hc]
                      have Hd := hide hd
                      clear hd hc HDk
                      go_wp2_with fail
                      refine (cfail_any R s s4 15 c.at_ _ hmC.rd).mono ?_
                      rintro e WE ⟨rfl, hr5, hg5, hz5⟩
                      rw [← unhide Hd] at hr5
                      have hmE := hmC.take hr5 hg5
                      have hoE := hoC.kept hg5 (fun b e => by cases e; exact hR0)
                      clear hr5 hg5 hz5 hmC hoC k0
                      have hmd := hmE.drew
                      have k0 := hmE.ib.cell 7
                      have i0c := hmE.ib.cell 0
                      simp [C.cells] at k0 i0c
                      go_wp2_with fail
                      go_region_law (first
                        | (refine step_call rfl 116 #[.tmp 129, .const (.int .i64 4)] #[138, 3] rfl #[.pointer (some ⟨R, 0, none⟩), .int .i64 4] (by simp [Act.eval, Act.put]) enter116 (unhide HC _ hmd.rd) ?_; rintro e w5 ⟨rfl, hr5, hg5⟩; refine ⟨_, rfl, ?_⟩; have hm5 := hmd.take hr5 hg5; have ho5 := Own2.kept (w' := w5) (show Own2 WE.drew w.heap.size _ _ _ _ from ⟨hoE.k, hoE.t, hoE.apart⟩) hg5 (fun b e => by cases e; exact hR0); have k5 := hm5.ib.cell 7; have j5 := hm5.ib.cell 0; simp [C.cells] at k5 j5; have hm6 := hm5.alloc (.cells #[.int .i64 ((c.at_ : Int) + z)] 3); have ho6 := ho5.grow (World.grownBy_alloc w5 (.cells #[.int .i64 ((c.at_ : Int) + z)] 3) none); have k6 := hm6.ib.cell 7; simp [C.cells] at k6; clear hr5 hg5 hm5 ho5)
                        | (refine step_append_at rfl (.tmp 124) (.tmp 132) 110 rfl w.heap.size 3 i0 (.int .i64 0) 1 8 Tryz.underlying110 hi hz0 hz1 hz2 rfl (by decide) tv ts.length (ts.map (Value.int .i64)) (by simp [Act.eval]) ho6.t ⟨w5.heap.size, 0, none⟩ 1 1 [.int .i64 ((c.at_ : Int) + z)] (by simp [Act.eval]) rfl (cell_one_new _ _ _) (ints_oneCell .i64 [(c.at_ : Int) + z]) (by unfold maxLen; omega) (by omega) hm6.kp.size ?_; intro v' w7 hown7 hgrow7 hloc7; have ho7 := ho6.appT hown7 hgrow7 hloc7; have hm7 := hm6.app ho6.t hgrow7 (Nat.le_refl _) hR0 hg0; obtain ⟨g8, c8, rfl⟩ := own_form hown7 (by omega); have k7 := hm7.ib.cell 7; have f7 := hm7.ib.frozen 7; simp [C.cells] at k7; clear hgrow7 hm6 ho6 hown7 hloc7))
                      all_goals
                        have hm8 := hm7.set 7 _ (hm7.ib.setT (.slice (some ⟨g8, 0, none⟩) (ts.length + 1) c8))
                        have ho8 := ho7.kept (grown_set w7 g 7 (.slice (some ⟨g8, 0, none⟩) (ts.length + 1) c8)) (fun b e => by cases e; exact hg0)
                        clear hm7 ho7 hmd hmE hoE
                        go_wp2
                        go_roundw
                        case rel => exact ⟨ks.length + 1, s5, _, _, ks ++ [x], ts ++ [(c.at_ : Int) + z], by go_num, by omega, HN, hm8, ho8⟩
                        case measure => simp [intOf]; omega
                    · rw [if_neg hc] at hd
                      rw [decide_eq_false hc]
                      have Hd := hide hd
                      clear hd hc HDk
                      obtain ⟨WE, hWE⟩ : ∃ W, W = wc := ⟨_, rfl⟩
                      rw [← hWE] at hmC hoC ⊢
                      clear hWE k0
                      have hmE : MidC w WE R g s sk { c with kv := .slice (some ⟨g9, 0, none⟩) (ks.length + 1) c9, tv := tv } := by rw [unhide Hd]; exact hmC
                      have hoE := hoC
                      clear hmC hoC
                      have hmd := hmE.drew
                      have k0 := hmE.ib.cell 7
                      have i0c := hmE.ib.cell 0
                      simp [C.cells] at k0 i0c
                      go_wp2_with fail
                      go_region_law (first
                        | (refine step_call rfl 116 #[.tmp 129, .const (.int .i64 4)] #[138, 3] rfl #[.pointer (some ⟨R, 0, none⟩), .int .i64 4] (by simp [Act.eval, Act.put]) enter116 (unhide HC _ hmd.rd) ?_; rintro e w5 ⟨rfl, hr5, hg5⟩; refine ⟨_, rfl, ?_⟩; have hm5 := hmd.take hr5 hg5; have ho5 := Own2.kept (w' := w5) (show Own2 WE.drew w.heap.size _ _ _ _ from ⟨hoE.k, hoE.t, hoE.apart⟩) hg5 (fun b e => by cases e; exact hR0); have k5 := hm5.ib.cell 7; have j5 := hm5.ib.cell 0; simp [C.cells] at k5 j5; have hm6 := hm5.alloc (.cells #[.int .i64 ((c.at_ : Int) + z)] 3); have ho6 := ho5.grow (World.grownBy_alloc w5 (.cells #[.int .i64 ((c.at_ : Int) + z)] 3) none); have k6 := hm6.ib.cell 7; simp [C.cells] at k6; clear hr5 hg5 hm5 ho5)
                        | (refine step_append_at rfl (.tmp 124) (.tmp 132) 110 rfl w.heap.size 3 i0 (.int .i64 0) 1 8 Tryz.underlying110 hi hz0 hz1 hz2 rfl (by decide) tv ts.length (ts.map (Value.int .i64)) (by simp [Act.eval]) ho6.t ⟨w5.heap.size, 0, none⟩ 1 1 [.int .i64 ((c.at_ : Int) + z)] (by simp [Act.eval]) rfl (cell_one_new _ _ _) (ints_oneCell .i64 [(c.at_ : Int) + z]) (by unfold maxLen; omega) (by omega) hm6.kp.size ?_; intro v' w7 hown7 hgrow7 hloc7; have ho7 := ho6.appT hown7 hgrow7 hloc7; have hm7 := hm6.app ho6.t hgrow7 (Nat.le_refl _) hR0 hg0; obtain ⟨g8, c8, rfl⟩ := own_form hown7 (by omega); have k7 := hm7.ib.cell 7; have f7 := hm7.ib.frozen 7; simp [C.cells] at k7; clear hgrow7 hm6 ho6 hown7 hloc7))
                      all_goals
                        have hm8 := hm7.set 7 _ (hm7.ib.setT (.slice (some ⟨g8, 0, none⟩) (ts.length + 1) c8))
                        have ho8 := ho7.kept (grown_set w7 g 7 (.slice (some ⟨g8, 0, none⟩) (ts.length + 1) c8)) (fun b e => by cases e; exact hg0)
                        clear hm7 ho7 hmd hmE hoE
                        go_wp2
                        go_roundw
                        case rel => exact ⟨ks.length + 1, s5, _, _, ks ++ [x], ts ++ [(c.at_ : Int) + z], by go_num, by omega, HN, hm8, ho8⟩
                        case measure => simp [intOf]; omega
              · have hxo : st'.e ≠ 0 ∨ cnt ≤ (kk : Int) := by
                  by_cases h1 : st'.e = 0
                  · exact .inr (by have := not_and.1 hx h1; omega)
                  · exact .inl h1
                have HD := hide ((unhide HT).done hxo)
                clear HT hx
                by_cases h2 : (kk : Int) < cnt
                · have h3 : ((st'.e : Int) == 0) = false := by rw [beq_eq_false_iff_ne]; omega
                  go_wp2
                  go_end0
                  exact ⟨rfl, _, _, _, 0, _, _, ⟨by rw [← hlow]; exact hmA, hoA⟩, unhide HD⟩
                · have h3 : cnt ≤ (kk : Int) := by omega
                  go_wp2
                  go_end0
                  exact ⟨rfl, _, _, _, 0, _, _, ⟨by rw [← hlow]; exact hmA, hoA⟩, unhide HD⟩
      · go_wp2_with fail
        go_cut [] (fun w' => ∃ g7, MidC w w' R g s s1 { c with tv := .slice (some ⟨g7, 0, none⟩) 1 1 } ∧ Own2 w' w.heap.size c.kv (.slice (some ⟨g7, 0, none⟩) 1 1) [] [(c.at_ : Int) + y])
        case first =>
          go_region_with (go_at_call 116; refine (unhide HT _ hmd.rd).mono ?_; rintro e w5 ⟨rfl, hr5, hg5⟩; have hm6 := (hmd.take hr5 hg5).alloc (.cells #[.int .i64 ((c.at_ : Int) + y)] 3); have j0 := (hmd.take hr5 hg5).ib.cell 0; have k7 := hm6.ib.cell 7; have f7 := hm6.ib.frozen 7; simp [C.cells] at k7 j0)
          all_goals
            have ho6 := Own2.lit (w := w5) (B := w.heap.size) ((c.at_ : Int) + y) (hmd.take hr5 hg5).kp.size rfl
            have hm7 := hm6.set 7 _ (hm6.ib.setT (.slice (some ⟨w5.heap.size, 0, none⟩) 1 1))
            have ho7 := Own2.kept ho6 (grown_set (w5.alloc (.cells #[.int .i64 ((c.at_ : Int) + y)] 3)) g 7 (.slice (some ⟨w5.heap.size, 0, none⟩) 1 1)) (fun b e => by cases e; exact hg0)
            go_wp2
            go_meet
            case rel => exact ⟨w5.heap.size, hm7, by rw [hkv]; exact ho7⟩
        case rest =>
          obtain ⟨g7, hmA, hoA⟩ := hcut
          clear hm hmd k7 i0c HT
          have hstart := key_start (op := c.op) (unhide Hres) (by rw [unhide Hlen]; exact hp)
          have hpos1 : s1.pos ≤ s.size := by have := (unhide Hres).pos; rwa [unhide Hlen] at this
          have C2 := csigned4 R s s1 hs hpos1
          have b2 := M.rd_bound M.fw _ (M.take_len s.data.toList 4 s1) (by decide)
          obtain ⟨T2, s3, e2⟩ : ∃ T s2, M.take s.data.toList 4 s1 = (T, s2) := ⟨_, _, rfl⟩
          rw [e2] at hstart b2
          simp only [e2] at C2
          simp only at hstart C2 b2
          obtain ⟨cnt, hcnt⟩ : ∃ x, x = M.rd M.fw T2 := ⟨_, rfl⟩
          rw [← hcnt] at hstart b2
          simp only [← hcnt] at C2
          have H2 := hide C2
          have HS := hide hstart
          clear C2 hstart e2 hcnt Hres
          go_wp2_with fail
          refine (unhide H2 _ hmA.rd).mono ?_
          rintro e w2 ⟨rfl, hr2, hg2⟩
          have hm4 := hmA.take hr2 hg2
          have ho4 := hoA.kept hg2 (fun b e => by cases e; exact hR0)
          clear hmA hoA hr2 hg2 H2
          have k0 := hm4.ib.cell 0
          simp [C.cells] at k0
          have hS := unhide HS
          by_cases hlt : cnt < 0
          · rw [if_pos hlt] at hS
            have HD := hide (hS.done (.inl (fail_neK s3 c.at_)))
            clear hS HS
            go_wp2_with fail
            refine (cfail_any R s s3 15 c.at_ _ hm4.rd).mono ?_
            rintro e w5 ⟨rfl, hr5, hg5, hz5⟩
            have hm5 := hm4.take hr5 hg5
            have ho5 := ho4.kept hg5 (fun b e => by cases e; exact hR0)
            clear hr5 hg5 hz5 hm4 ho4 k0
            go_wp2_with fail
            refine wp_loop_rounds 1 ?_
            rw [rounds_succ]
            go_wp2
            go_end0
            exact ⟨rfl, _, c.kv, _, 0, [], _, ⟨by rw [← hlow]; exact hm5, ho5⟩, unhide HD⟩
          · rw [if_neg hlt] at hS
            have HT := hide hS
            clear hS HS
            have n1 : 0 ≤ cnt := by omega
            go_wp2_with fail
            go_loopw [7] (fun k wr => ∃ (kk : Nat) (st : St) (kv tv : Value) (ks ts : List Int), k = .int .i64 kk ∧ (kk : Int) ≤ 8589934592 ∧ Hid (KeyAt s.data.toList c.at_ c.op b cnt st kk ks ts) ∧ MidC w wr R g s st { c with kv := kv, tv := tv } ∧ Own2 wr w.heap.size kv tv ks ts) (fun k _ => (cnt - intOf k).toNat)
            case atStart => exact ⟨0, s3, c.kv, _, [], _, rfl, by omega, HT, hm4, ho4⟩
            case round =>
              clear HT hm4 ho4 k0
              obtain ⟨kk, st', kv, tv, ks, ts, rfl, hk2, HT, hmA, hoA⟩ := hrel
              have hpp := (unhide HT).pos
              rw [unhide Hlen] at hpp
              obtain ⟨hpos', hks, hts⟩ := hpp
              obtain ⟨x0, x1, x2, x3⟩ := hmA.rd.cells
              by_cases hx : st'.e = 0 ∧ (kk : Int) < cnt
              · obtain ⟨hx1, hx2⟩ := hx
                have hx4 : ((st'.e : Int) == 0) = true := by rw [beq_iff_eq]; omega
                obtain ⟨hn, hpk, hkl⟩ := (unhide HT).next hx1 hx2
                subst hkl
                have CK := csigned4 R s st' hs hpos'
                have bk := M.rd_bound M.fw _ (M.take_len s.data.toList 4 st') (by decide)
                rw [unhide Hlen] at hpk
                have CT := csigned4 R s (keyed s.data.toList c.at_ st' ks) hs hpk
                have bt := M.rd_bound M.fw _ (M.take_len s.data.toList 4 (keyed s.data.toList c.at_ st' ks)) (by decide)
                have hkd : keyed s.data.toList c.at_ st' ks = if ks ≠ [] ∧ M.rd M.fw (M.take s.data.toList 4 st').1 ≤ ks.getLastD 0 then M.fail (M.take s.data.toList 4 st').2 15 c.at_ else (M.take s.data.toList 4 st').2 := rfl
                obtain ⟨sk, hsk⟩ : ∃ x, x = keyed s.data.toList c.at_ st' ks := ⟨_, rfl⟩
                rw [← hsk] at hn hpk CT hkd bt
                obtain ⟨T, s4, hT⟩ : ∃ T s1, M.take s.data.toList 4 st' = (T, s1) := ⟨_, _, rfl⟩
                rw [hT] at hn hkd bk
                simp only [hT] at CK
                simp only at hn CK hkd bk
                obtain ⟨x, hxx⟩ : ∃ x, x = M.rd M.fw T := ⟨_, rfl⟩
                rw [← hxx] at hn hkd bk
                simp only [← hxx] at CK
                obtain ⟨U, s5, hU⟩ : ∃ U s2, M.take s.data.toList 4 sk = (U, s2) := ⟨_, _, rfl⟩
                rw [hU] at hn bt
                simp only [hU] at CT
                simp only at hn CT bt
                obtain ⟨z, hzz⟩ : ∃ y, y = M.rd M.fw U := ⟨_, rfl⟩
                rw [← hzz] at hn bt
                simp only [← hzz] at CT
                have HN := hide hn
                have HK := hide CK
                have HC := hide CT
                have HDk := hide hkd
                have hwz : IntKind.i64.wrap ((c.at_ : Int) + z) = (c.at_ : Int) + z := by rw [IntKind.wrap_i64, Int.emod_eq_of_lt (by omega) (by omega)]; omega
                clear hn CK CT hkd hT hU hxx hzz hsk HT hx1
                have hmd := hmA.drew
                have k0 := hmA.ib.cell 6
                simp [C.cells] at k0
                go_wp2_with fail
                go_cut [7] (fun v w' => v = .int .i64 (ks.length : Int) ∧ ∃ g9 c9, MidC w w' R g s s4 { c with kv := .slice (some ⟨g9, 0, none⟩) (ks.length + 1) c9, tv := tv } ∧ Own2 w' w.heap.size (.slice (some ⟨g9, 0, none⟩) (ks.length + 1) c9) tv (ks ++ [x]) ts)
                case first =>
                  go_region_law (first
                    | (refine step_call rfl 116 #[.tmp 88, .const (.int .i64 4)] #[138, 3] rfl #[.pointer (some ⟨R, 0, none⟩), .int .i64 4] (by simp [Act.eval, Act.put]) enter116 (unhide HK _ hmd.rd) ?_; rintro e w5 ⟨rfl, hr5, hg5⟩; refine ⟨_, rfl, ?_⟩; have hm5 := hmd.take hr5 hg5; have ho5 := Own2.kept (w' := w5) (show Own2 wr.drew w.heap.size _ _ _ _ from ⟨hoA.k, hoA.t, hoA.apart⟩) hg5 (fun b e => by cases e; exact hR0); have k5 := hm5.ib.cell 6; simp [C.cells] at k5; have hm6 := hm5.alloc (.cells #[.int .i64 x] 3); have ho6 := ho5.grow (World.grownBy_alloc w5 (.cells #[.int .i64 x] 3) none); have k6 := hm6.ib.cell 6; simp [C.cells] at k6; clear hr5 hg5 hm5 ho5)
                    | (refine step_append_at rfl (.tmp 87) (.tmp 90) 110 rfl w.heap.size 3 i0 (.int .i64 0) 1 8 Tryz.underlying110 hi hz0 hz1 hz2 rfl (by decide) kv ks.length (ks.map (Value.int .i64)) (by simp [Act.eval]) ho6.k ⟨w5.heap.size, 0, none⟩ 1 1 [.int .i64 x] (by simp [Act.eval]) rfl (cell_one_new _ _ _) (ints_oneCell .i64 [x]) (by unfold maxLen; omega) (by omega) hm6.kp.size ?_; intro v' w7 hown7 hgrow7 hloc7; have ho7 := ho6.appK hown7 hgrow7 hloc7; have hm7 := hm6.app ho6.k hgrow7 (Nat.le_refl _) hR0 hg0; obtain ⟨g9, c9, rfl⟩ := own_form hown7 (by omega); have k7 := hm7.ib.cell 6; have f7 := hm7.ib.frozen 6; simp [C.cells] at k7; clear hgrow7 hm6 ho6 hown7 hloc7))
                  all_goals
                    have hm8 := hm7.set 6 _ (hm7.ib.setK (.slice (some ⟨g9, 0, none⟩) (ks.length + 1) c9))
                    have ho8 := ho7.kept (grown_set w7 g 6 (.slice (some ⟨g9, 0, none⟩) (ks.length + 1) c9)) (fun b e => by cases e; exact hg0)
                    clear hm7 ho7 hmd hmA hoA
                    go_wp2
                    go_meet
                    case rel => exact ⟨rfl, g9, c9, hm8, ho8⟩
                case rest =>
                  obtain ⟨rfl, g9, c9, hmB, hoB⟩ := hcut
                  clear hmA hoA hmd k0 HK x0 x1 x2 x3
                  have k6 := hmB.ib.cell 6
                  have k0 := hmB.ib.cell 0
                  simp [C.cells] at k6 k0
                  go_wp2_with fail
                  go_cut [7, 113] (fun v b w' => v = .int .i64 (ks.length : Int) ∧ b = .bool (decide (ks ≠ [] ∧ x ≤ ks.getLastD 0)) ∧ MidC w w' R g s s4 { c with kv := .slice (some ⟨g9, 0, none⟩) (ks.length + 1) c9, tv := tv } ∧ Own2 w' w.heap.size (.slice (some ⟨g9, 0, none⟩) (ks.length + 1) c9) tv (ks ++ [x]) ts)
                  case first =>
                    by_cases hk0 : ks = []
                    · subst hk0
                      go_quiet (fail)
                      go_wp2
                      go_meet
                      case rel => exact ⟨rfl, rfl, hmB.drewN _, ⟨hoB.k, hoB.t, hoB.apart⟩⟩
                    · have hl0 : 0 < ks.length := List.length_pos_iff.2 hk0
                      have hrow : wc.ownsRow w.heap.size 3 1 (.slice (some ⟨g9, 0, none⟩) (ks.length + 1) c9) (ks.length + 1) ((ks ++ [x]).map (Value.int .i64)) := by have := hoB.k; simpa using this
                      have c1 := row_at hrow ks.length (by simp)
                      have c2 := row_at hrow (ks.length - 1) (by simp; omega)
                      have e1 : (ks ++ [x]).getD ks.length 0 = x := by simp [List.getD]
                      have e2 : (ks ++ [x]).getD (ks.length - 1) 0 = ks.getLastD 0 := by
                        rw [List.getD, List.getElem?_append_left (by omega), List.getLastD_eq_getLast?, List.getLast?_eq_getElem?]
                      rw [e1] at c1
                      rw [e2] at c2
                      clear e1 e2 hrow
                      have hdec : decide (ks ≠ [] ∧ x ≤ ks.getLastD 0) = decide (x ≤ ks.getLastD 0) := by rw [Bool.eq_iff_iff]; simp [hk0]
                      have i1 : (0 : Int) < (ks.length : Int) := by omega
                      have i2 : (ks.length : Int) < ((ks.length + 1 : Nat) : Int) := by omega
                      have Hd := hide hdec
                      clear hdec hk0
                      go_quiet (fail)
                      go_wp2
                      go_meet
                      case rel => exact ⟨rfl, by rw [unhide Hd, List.getLastD_eq_getLast?], hmB.drewN _, ⟨hoB.k, hoB.t, hoB.apart⟩⟩
                  case rest =>
                    obtain ⟨rfl, rfl, hmC, hoC⟩ := hcut
                    clear hmB hoB k6 k0
                    have hd := unhide HDk
                    have k0 := hmC.ib.cell 0
                    simp [C.cells] at k0
                    go_upto_if 113 with fail
                    by_cases hc : ks ≠ [] ∧ x ≤ ks.getLastD 0
                    · rw [if_pos hc] at hd
                      rw [decide_eq_true hc]
                      have Hd := hide hd
                      clear hd hc HDk
                      go_wp2_with fail
                      refine (cfail_any R s s4 15 c.at_ _ hmC.rd).mono ?_
                      rintro e WE ⟨rfl, hr5, hg5, hz5⟩
                      rw [← unhide Hd] at hr5
                      have hmE := hmC.take hr5 hg5
                      have hoE := hoC.kept hg5 (fun b e => by cases e; exact hR0)
                      clear hr5 hg5 hz5 hmC hoC k0
                      have hmd := hmE.drew
                      have k0 := hmE.ib.cell 7
                      have i0c := hmE.ib.cell 0
                      simp [C.cells] at k0 i0c
                      go_wp2_with fail
                      go_region_law (first
                        | (refine step_call rfl 116 #[.tmp 129, .const (.int .i64 4)] #[138, 3] rfl #[.pointer (some ⟨R, 0, none⟩), .int .i64 4] (by simp [Act.eval, Act.put]) enter116 (unhide HC _ hmd.rd) ?_; rintro e w5 ⟨rfl, hr5, hg5⟩; refine ⟨_, rfl, ?_⟩; have hm5 := hmd.take hr5 hg5; have ho5 := Own2.kept (w' := w5) (show Own2 WE.drew w.heap.size _ _ _ _ from ⟨hoE.k, hoE.t, hoE.apart⟩) hg5 (fun b e => by cases e; exact hR0); have k5 := hm5.ib.cell 7; have j5 := hm5.ib.cell 0; simp [C.cells] at k5 j5; have hm6 := hm5.alloc (.cells #[.int .i64 ((c.at_ : Int) + z)] 3); have ho6 := ho5.grow (World.grownBy_alloc w5 (.cells #[.int .i64 ((c.at_ : Int) + z)] 3) none); have k6 := hm6.ib.cell 7; simp [C.cells] at k6; clear hr5 hg5 hm5 ho5)
                        | (refine step_append_at rfl (.tmp 124) (.tmp 132) 110 rfl w.heap.size 3 i0 (.int .i64 0) 1 8 Tryz.underlying110 hi hz0 hz1 hz2 rfl (by decide) tv ts.length (ts.map (Value.int .i64)) (by simp [Act.eval]) ho6.t ⟨w5.heap.size, 0, none⟩ 1 1 [.int .i64 ((c.at_ : Int) + z)] (by simp [Act.eval]) rfl (cell_one_new _ _ _) (ints_oneCell .i64 [(c.at_ : Int) + z]) (by unfold maxLen; omega) (by omega) hm6.kp.size ?_; intro v' w7 hown7 hgrow7 hloc7; have ho7 := ho6.appT hown7 hgrow7 hloc7; have hm7 := hm6.app ho6.t hgrow7 (Nat.le_refl _) hR0 hg0; obtain ⟨g8, c8, rfl⟩ := own_form hown7 (by omega); have k7 := hm7.ib.cell 7; have f7 := hm7.ib.frozen 7; simp [C.cells] at k7; clear hgrow7 hm6 ho6 hown7 hloc7))
                      all_goals
                        have hm8 := hm7.set 7 _ (hm7.ib.setT (.slice (some ⟨g8, 0, none⟩) (ts.length + 1) c8))
                        have ho8 := ho7.kept (grown_set w7 g 7 (.slice (some ⟨g8, 0, none⟩) (ts.length + 1) c8)) (fun b e => by cases e; exact hg0)
                        clear hm7 ho7 hmd hmE hoE
                        go_wp2
                        go_roundw
                        case rel => exact ⟨ks.length + 1, s5, _, _, ks ++ [x], ts ++ [(c.at_ : Int) + z], by go_num, by omega, HN, hm8, ho8⟩
                        case measure => simp [intOf]; omega
                    · rw [if_neg hc] at hd
                      rw [decide_eq_false hc]
                      have Hd := hide hd
                      clear hd hc HDk
                      obtain ⟨WE, hWE⟩ : ∃ W, W = wc := ⟨_, rfl⟩
                      rw [← hWE] at hmC hoC ⊢
                      clear hWE k0
                      have hmE : MidC w WE R g s sk { c with kv := .slice (some ⟨g9, 0, none⟩) (ks.length + 1) c9, tv := tv } := by rw [unhide Hd]; exact hmC
                      have hoE := hoC
                      clear hmC hoC
                      have hmd := hmE.drew
                      have k0 := hmE.ib.cell 7
                      have i0c := hmE.ib.cell 0
                      simp [C.cells] at k0 i0c
                      go_wp2_with fail
                      go_region_law (first
                        | (refine step_call rfl 116 #[.tmp 129, .const (.int .i64 4)] #[138, 3] rfl #[.pointer (some ⟨R, 0, none⟩), .int .i64 4] (by simp [Act.eval, Act.put]) enter116 (unhide HC _ hmd.rd) ?_; rintro e w5 ⟨rfl, hr5, hg5⟩; refine ⟨_, rfl, ?_⟩; have hm5 := hmd.take hr5 hg5; have ho5 := Own2.kept (w' := w5) (show Own2 WE.drew w.heap.size _ _ _ _ from ⟨hoE.k, hoE.t, hoE.apart⟩) hg5 (fun b e => by cases e; exact hR0); have k5 := hm5.ib.cell 7; have j5 := hm5.ib.cell 0; simp [C.cells] at k5 j5; have hm6 := hm5.alloc (.cells #[.int .i64 ((c.at_ : Int) + z)] 3); have ho6 := ho5.grow (World.grownBy_alloc w5 (.cells #[.int .i64 ((c.at_ : Int) + z)] 3) none); have k6 := hm6.ib.cell 7; simp [C.cells] at k6; clear hr5 hg5 hm5 ho5)
                        | (refine step_append_at rfl (.tmp 124) (.tmp 132) 110 rfl w.heap.size 3 i0 (.int .i64 0) 1 8 Tryz.underlying110 hi hz0 hz1 hz2 rfl (by decide) tv ts.length (ts.map (Value.int .i64)) (by simp [Act.eval]) ho6.t ⟨w5.heap.size, 0, none⟩ 1 1 [.int .i64 ((c.at_ : Int) + z)] (by simp [Act.eval]) rfl (cell_one_new _ _ _) (ints_oneCell .i64 [(c.at_ : Int) + z]) (by unfold maxLen; omega) (by omega) hm6.kp.size ?_; intro v' w7 hown7 hgrow7 hloc7; have ho7 := ho6.appT hown7 hgrow7 hloc7; have hm7 := hm6.app ho6.t hgrow7 (Nat.le_refl _) hR0 hg0; obtain ⟨g8, c8, rfl⟩ := own_form hown7 (by omega); have k7 := hm7.ib.cell 7; have f7 := hm7.ib.frozen 7; simp [C.cells] at k7; clear hgrow7 hm6 ho6 hown7 hloc7))
                      all_goals
                        have hm8 := hm7.set 7 _ (hm7.ib.setT (.slice (some ⟨g8, 0, none⟩) (ts.length + 1) c8))
                        have ho8 := ho7.kept (grown_set w7 g 7 (.slice (some ⟨g8, 0, none⟩) (ts.length + 1) c8)) (fun b e => by cases e; exact hg0)
                        clear hm7 ho7 hmd hmE hoE
                        go_wp2
                        go_roundw
                        case rel => exact ⟨ks.length + 1, s5, _, _, ks ++ [x], ts ++ [(c.at_ : Int) + z], by go_num, by omega, HN, hm8, ho8⟩
                        case measure => simp [intOf]; omega
              · have hxo : st'.e ≠ 0 ∨ cnt ≤ (kk : Int) := by
                  by_cases h1 : st'.e = 0
                  · exact .inr (by have := not_and.1 hx h1; omega)
                  · exact .inl h1
                have HD := hide ((unhide HT).done hxo)
                clear HT hx
                by_cases h2 : (kk : Int) < cnt
                · have h3 : ((st'.e : Int) == 0) = false := by rw [beq_eq_false_iff_ne]; omega
                  go_wp2
                  go_end0
                  exact ⟨rfl, _, _, _, 0, _, _, ⟨by rw [← hlow]; exact hmA, hoA⟩, unhide HD⟩
                · have h3 : cnt ≤ (kk : Int) := by omega
                  go_wp2
                  go_end0
                  exact ⟨rfl, _, _, _, 0, _, _, ⟨by rw [← hlow]; exact hmA, hoA⟩, unhide HD⟩
end Go.Proofs.YtddhlphbbiihjaaGreatDoor.Dc
