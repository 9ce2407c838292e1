/-
  The reference's ReadMap.
-/
import Derived.Test.YtbgpkkbejbidlabRl
namespace Go.Proofs.Ytbgpkkbejbidlab
open Go.RowKit
set_option maxRecDepth 100000 in
set_option maxHeartbeats 4000000 in
theorem ReadMap_any (pv lv : Value) (s : ByteArray) (P : List K) (F : List T) (w : World) (hs : s.size ≤ 131072) (hP : P.length ≤ 1048576) (hp : KIn w pv P) (hl : TIn w lv F) (hL : F.length ≤ 65536) :
    Calls Try.prog 5 #[.string s, pv, lv] w fun x w' =>
      RmR (M.frames s.data.toList P (M.rd s.data.toList 2 ⟨0, 0, 0⟩).1 ⟨-1, F, []⟩ (M.rd s.data.toList 2 ⟨0, 0, 0⟩).2).1 (M.fin s.data.toList (M.frames s.data.toList P (M.rd s.data.toList 2 ⟨0, 0, 0⟩).1 ⟨-1, F, []⟩ (M.rd s.data.toList 2 ⟨0, 0, 0⟩).2).2) w x w' := by
  obtain ⟨i0, hi, hz0, hz1, hz2⟩ := info_parts Try.info42
  obtain ⟨j0, hj, hy0, hy1, hy2⟩ := info_parts Try.info25
  obtain ⟨wA, hwA⟩ : ∃ wA, wA = w.alloc (.cells #[.string s, .int .i64 0, .int .i64 0, .int .i64 0] 48) := ⟨_, rfl⟩
  have hbA : Below w.heap.size w wA := by rw [hwA]; exact (Below.refl _ _).alloc (Nat.le_refl _) _
  have hCA : Cx wA w.heap.size pv s P ⟨0, 0, 0⟩ := ⟨by rw [hwA]; exact heap_alloc_new _ _, hp.below hbA, fun hne b o n c e => by
    obtain ⟨ad, cap, e1, h1⟩ := hp.ex
    obtain ⟨b', o', e2, h2⟩ := h1 hne
    rw [e] at e1
    cases e1
    cases e2
    have hpos : 0 < P.length := List.length_pos_iff.2 hne
    have h3 := h2 0 hpos 0 (by omega)
    have hlt := cell_lt (show w.cell? _ = some _ from h3)
    simp only at hlt
    omega, Nat.zero_le _⟩
  have HU := hide (cN_any w.heap.size pv s P ⟨0, 0, 0⟩ wA 2 (by decide) hCA hs)
  have hx := M.rd2 s.data.toList ⟨0, 0, 0⟩
  have hx0 := fun g => M.rd_none (s := s.data.toList) (n := 2) (st := ⟨0, 0, 0⟩) g
  obtain ⟨x, st1, hT⟩ : ∃ x st1, M.rd s.data.toList 2 ⟨0, 0, 0⟩ = (x, st1) := ⟨_, _, rfl⟩
  rw [hT] at hx HU hx0 ⊢
  simp only at hx HU hx0 ⊢
  have Hx0 := hide hx0
  obtain ⟨C, hC⟩ : ∃ C, C = w.heap.size := ⟨_, rfl⟩
  rw [← hC] at HU
  have HC := hide hC
  have Hhl := hide hl
  have Hhp := hide hp
  obtain ⟨lad, lcap, elv, _⟩ := hl
  obtain ⟨pad, pcap, epv, _⟩ := hp.ex
  subst elv epv
  clear hT hCA hp hC hx0
  go_enter Try.func5, Try.ntmps5
  go_upto_region 2 with fail
  rw [← hwA]
  clear hwA
  rw [← unhide HC]
  go_wp2_with fail
  refine (unhide HU).mono ?_
  rintro e w1 ⟨rfl, hr1, hg1⟩
  go_wp2_with fail
  go_loopw [10, 11, 12, 13] (fun nv lo pl ou wr => ∃ (m : Nat) (st2 : St), m ≤ x ∧ nv = .int .i64 m ∧ Hid (Cx wr C (.slice pad P.length pcap) s P st2) ∧ Hid (Below w.heap.size w wr) ∧
      Hid ((st2.e = 0 ∧ ∃ A a1 ad1 n1 c1, Rg w wr C (.slice pad P.length pcap) s P x ⟨-1, F, []⟩ st1 m st2 lo pl ou A a1 ad1 n1 c1) ∨ (st2.e ≠ 0 ∧ (M.frames s.data.toList P x ⟨-1, F, []⟩ st1).2 = st2))) (fun nv _ _ _ _ => (intOf nv).toNat)
  case atStart =>
    have hb1 : Below w.heap.size w w1 := hbA.grown hg1 (by have := hbA.size; omega) (fun k e => by cases e; rw [unhide HC]; exact Nat.le_refl _)
    refine ⟨x, st1, Nat.le_refl _, rfl, hr1, hb1, ?_⟩
    by_cases he : st1.e = 0
    · exact .inl ⟨he, [], ⟨-1, F, []⟩, lad, _, lcap, rfl, rfl, by simp, M.Fs.zero _ _ _ _ _, Lst.nil _ _, (unhide Hhl).below hb1, by simp only; omega, by simp, fun hp b o n c e => by
        obtain ⟨ad', cap', e1, h1⟩ := unhide Hhl
        obtain ⟨b', o', e2, h2⟩ := h1 hp
        rw [e] at e1
        cases e1
        cases e2
        have hlt := cell_lt (show w.cell? _ = some _ from h2 0 (List.length_pos_iff.2 hp) 0 (by omega))
        simp only at hlt
        rw [unhide HC]; omega, by simp only; omega, by simp only; omega⟩
    · exact .inr ⟨he, by rw [unhide Hx0 he]; rfl⟩
  case round =>
    clear hr1 hg1 hbA
    obtain ⟨m, st2, hmx, rfl, HCx, HB, HD⟩ := hrel
    have hcx := unhide HCx
    have c2 : wr.cell? ⟨C, 2, none⟩ = some (.int .i64 (st2.e : Int)) := hcx.cd.cell 2
    by_cases hgo : m ≠ 0 ∧ st2.e = 0
    · obtain ⟨hm, he⟩ := hgo
      have hd : (((st2.e : Int) == 0) : Bool) = true := by rw [he]; rfl
      rcases unhide HD with ⟨_, A, a1, ad1, n1, c1, hrg⟩ | ⟨hn, _⟩
      · ·
          have hm0 : (0 : Int) < (m : Int) := by omega
          obtain ⟨elo, epl, hlen, hfs, hls, hti, hl1, hs1, hne, ha0, ha2⟩ := hrg
          subst elo epl
          have k1 : wr.cell? ⟨C, 1, none⟩ = some (.int .i64 (st2.pos : Int)) := hcx.cd.cell 1
          have HN := hide (cN_any C (.slice pad P.length pcap) s P st2 wr 1 (by decide) hcx hs)
          have hfr := M.frR_eq s.data.toList P a1 st2
          have hfl := M.frame_len (s := s.data.toList) (P := P) (a := a1) (st := st2) hl1 hs1 (by omega)
          have hfa := M.frame_at (s := s.data.toList) (P := P) (a := a1) (st := st2)
          obtain ⟨m', rfl⟩ : ∃ m', m = m' + 1 := ⟨m - 1, by omega⟩
          have HSt := hide (fun g => hfs.step g)
          have HSp := hide (fun g => hfs.stop g)
          obtain ⟨G, stG, hGG⟩ : ∃ G stG, M.frame s.data.toList P a1 st2 = (G, stG) := ⟨_, _, rfl⟩
          rw [hGG] at hfr hfl hfa HSt HSp
          simp only at hfr hfl hfa HSt HSp
          unfold M.frR at hfr
          have hy := M.rd1 s.data.toList st2
          obtain ⟨y, s1, hT⟩ : ∃ y s1, M.rd s.data.toList 1 st2 = (y, s1) := ⟨_, _, rfl⟩
          rw [hT] at hy HN hfr
          simp only at hy HN hfr
          obtain ⟨q, hq⟩ : ∃ q, q = st2.pos := ⟨_, rfl⟩
          rw [← hq] at hfr k1
          obtain ⟨at1, hat1⟩ : ∃ z, z = a1.at_ := ⟨_, rfl⟩
          obtain ⟨Ls, hLs⟩ : ∃ z, z = a1.locals := ⟨_, rfl⟩
          rw [← hat1] at hfr hfa ha0 ha2 ⊢
          rw [← hLs] at hfr hti hl1 hne
          have HFr := hide hfr
          have HFl := hide hfl
          have HFa := hide hfa
          have Hls := hide hls
          have hCl : C ≤ w.heap.size := Nat.le_of_eq (unhide HC)
          have hCg : w.heap.size ≤ C := Nat.le_of_eq (unhide HC).symm
          have hwz := (unhide HB).size
          have HB0 := HB
          have hn1 : n1 = Ls.length := by obtain ⟨_, _, e, _⟩ := hti; simp only [Value.slice.injEq] at e; exact e.2.1
          have Hn1 := hide hn1
          have Hti := hide hti
          have Hne := hide hne
          clear hfr hfl hfa hls hfs hGG hT hq hat1 hLs hti hne HD hn1
          go_wp2_with fail
          refine (unhide HN).mono ?_
          rintro e w2 ⟨rfl, hr2, hg2⟩
          have HLi := hide (list_any (.slice ad1 n1 c1) Ls w2 ((unhide Hti).kept hg2 (fun hp b o n c e => by have := unhide Hne hp b o n c e; simpa using this)) (by omega))
          clear HN k1 c2
          go_wp2_with fail
          refine (unhide HLi).mono ?_
          rintro e w3 ⟨lv2, rfl, ho3, hb3⟩
          obtain ⟨a4, n4, c4, e4⟩ := own_slice ho3
          subst e4
          obtain ⟨p, hp⟩ : ∃ p, p = w3.heap.size := ⟨_, rfl⟩
          obtain ⟨W0, hW0⟩ : ∃ W0, W0 = w3.alloc (.cells #[.int .i64 0, .slice a4 n4 c4, .slice none 0 0] 42) := ⟨_, rfl⟩
          have hMd : Md wr W0 C p (.slice pad P.length pcap) s P s1 (.slice a4 n4 c4) (.slice none 0 0) := by
            rw [hW0, hp]
            exact ⟨(hr2.below hb3).below ((Below.refl _ _).alloc (Nat.le_refl _) _), grown_alloc (grown_trans hg2 (grown_of_below hb3 _)) _, Bk.new _ _ _⟩
          have ho0 : W0.ownsRow wr.heap.size 25 3 (.slice a4 n4 c4) Ls.length (TC Ls) := by rw [hW0]; exact own_mono (ho3.alloc _) hg2.size
          have hpo : (Value.slice a4 n4 c4).ownBlock ≠ some p := fun e => by have := (ins_in ho3 e).2; omega
          have hpr : wr.heap.size ≤ p := by have := hg2.size; have := hb3.size; omega
          have HW0 := hide hW0
          have HP := hide hp
          have HMd := hide hMd
          have Ho0 := hide ho0
          have Hpo := hide hpo
          clear hW0 hp hMd ho0 hpo ho3 hb3 hg2 hr2 HLi Hti Hne
          go_upto_region 12 with fail
          rw [← unhide HW0, ← unhide HP]
          clear HW0 HP
          go_cut [51] (fun v w' => v = .bool (decide (64 ≤ y ∧ y < 128)) ∧ w' = W0)
          case first =>
            by_cases h1 : 64 ≤ y
            · have f1 : (64 : Int) ≤ (y : Int) := by omega
              by_cases h2 : y < 128
              · have f2 : (y : Int) < 128 := by omega
                have Hd := hide (decide_eq_true (p := 64 ≤ y ∧ y < 128) ⟨h1, h2⟩)
                clear h1 h2
                go_wp2
                go_meet
                exact ⟨by rw [unhide Hd], rfl⟩
              · have f2 : ¬ (y : Int) < 128 := by omega
                have Hd := hide (decide_eq_false (p := 64 ≤ y ∧ y < 128) (fun g => h2 g.2))
                clear h1 h2
                go_wp2
                go_meet
                exact ⟨by rw [unhide Hd], rfl⟩
            · have f1 : ¬ (64 : Int) ≤ (y : Int) := by omega
              have Hd := hide (decide_eq_false (p := 64 ≤ y ∧ y < 128) (fun g => h1 g.1))
              clear h1
              go_wp2
              go_meet
              exact ⟨by rw [unhide Hd], rfl⟩
          case rest =>
            obtain ⟨rfl, hwc⟩ := hcut
            subst hwc
            go_upto_if 51 with fail
            go_cut [17] (fun v w' => v = .int .i64 (M.d1 y : Nat) ∧ w' = wc)
            case first =>
              by_cases h1 : 64 ≤ y ∧ y < 128
              · rw [decide_eq_true h1]
                have h64 : (64 : Int) ≤ (y : Int) := by omega
                have Hd := hide (show ((M.d1 y : Nat) : Int) = (y : Int) - 64 by unfold M.d1; rw [if_pos h1]; omega)
                clear h1
                go_wp2
                go_meet
                exact ⟨by rw [unhide Hd], rfl⟩
              · rw [decide_eq_false h1]
                have Hd := hide (show ((M.d1 y : Nat) : Int) = (y : Int) by unfold M.d1; rw [if_neg h1])
                clear h1
                go_wp2
                go_meet
                exact ⟨by rw [unhide Hd], rfl⟩
            case rest =>
              obtain ⟨rfl, hwc⟩ := hcut
              subst hwc
              have hd1 : M.d1 y ≤ 255 := by unfold M.d1; split <;> omega
              go_upto_if 55 with fail
              go_cut [17] (fun v w' => ∃ (d : Nat) (s2 : St), v = .int .i64 (d : Int) ∧ Hid (M.dR s.data.toList y s1 = (d, s2) ∧ Md wr w' C p (.slice pad P.length pcap) s P s2 (.slice a4 n4 c4) (.slice none 0 0) ∧ w'.ownsRow wr.heap.size 25 3 (.slice a4 n4 c4) Ls.length (TC Ls)))
              case first =>
                by_cases h1 : 247 ≤ y
                · have f1 : (247 : Int) ≤ (y : Int) := by omega
                  have HU := hide (cN_any C (.slice pad P.length pcap) s P s1 wc 2 (by decide) (unhide HMd).cx hs)
                  have hde : M.dR s.data.toList y s1 = M.rd s.data.toList 2 s1 := by unfold M.dR; rw [if_pos h1]
                  obtain ⟨d, s2, hT⟩ : ∃ d s2, M.rd s.data.toList 2 s1 = (d, s2) := ⟨_, _, rfl⟩
                  rw [hT] at HU hde
                  simp only at HU
                  have Hde := hide hde
                  clear h1 hT hde
                  go_wp2_with fail
                  refine (unhide HU).mono ?_
                  rintro e w4 ⟨rfl, hr4, hg4⟩
                  clear HU
                  go_wp2
                  go_meet
                  have hCr := (unhide HCx).cd.lt
                  exact ⟨d, s2, rfl, unhide Hde, ⟨hr4, grown_trans (unhide HMd).g hg4, (unhide HMd).bk.kept hg4 (by simp; omega)⟩, own_grown (unhide Ho0) hg4 hCr⟩
                · have f1 : ¬ (247 : Int) ≤ (y : Int) := by omega
                  have Hde := hide (show M.dR s.data.toList y s1 = (M.d1 y, s1) by unfold M.dR; rw [if_neg h1])
                  clear h1
                  go_wp2
                  go_meet
                  exact ⟨_, s1, rfl, unhide Hde, unhide HMd, unhide Ho0⟩
              case rest =>
                clear HMd Ho0
                obtain ⟨d, s2, rfl, H2⟩ := hcut
                obtain ⟨hde, hMd, ho0⟩ := unhide H2
                clear H2
                obtain ⟨B1, B2, s3, hB⟩ : ∃ B1 B2 s3, M.bR s.data.toList P Ls y q s2 = (B1, B2, s3) := ⟨_, _, _, rfl⟩
                rw [hde] at HFr
                simp only at HFr
                rw [hB] at HFr
                simp only at HFr
                have hdl := M.dR_lt s.data.toList s1 hy
                rw [hde] at hdl
                simp only at hdl
                have hCr := (unhide HCx).cd.lt
                have HMd := hide hMd
                have Ho0 := hide ho0
                have hn4 := own_cap ho0
                obtain ⟨hn4, hc4⟩ := hn4
                have Hn4 := hide hn4
                have HB := hide hB
                clear hde hMd ho0 hn4 hB
                go_upto_block 2 with fail
                go_cut [] (fun w' => ∃ (e1 : Option Addr) (m1 z1 : Nat) (e2 : Option Addr) (m2 z2 : Nat), Hid (Md wr w' C p (.slice pad P.length pcap) s P s3 (.slice e1 m1 z1) (.slice e2 m2 z2) ∧ (s3.e = 0 → Own2 w' wr.heap.size (.slice e1 m1 z1) (.slice e2 m2 z2) B1 B2)))
                case first =>
                  have hbB := unhide HB
                  by_cases y1 : y < 64
                  · have f1 : (y : Int) < 64 := by omega
                    have e0 : (Ls, [], s2) = (B1, B2, s3) := by rw [← hbB]; unfold M.bR; rw [if_pos (.inl y1)]
                    have E0 := hide e0
                    clear hbB y1 e0
                    go_wp2
                    go_meet
                    have e0 := unhide E0
                    cases e0
                    exact ⟨_, _, _, _, _, _, unhide HMd, fun _ => ⟨unhide Ho0, World.ownsRow_nil _ _ _ _, fun _ _ e => by cases e⟩⟩
                  · have f1 : ¬ (y : Int) < 64 := by omega
                    by_cases y2 : y = 251
                    · have f2 : (((y : Int) == 251) : Bool) = true := by rw [y2]; rfl
                      have e0 : (Ls, [], s2) = (B1, B2, s3) := by rw [← hbB]; unfold M.bR; rw [if_pos (.inr y2)]
                      have E0 := hide e0
                      clear hbB y1 y2 e0
                      go_wp2
                      go_meet
                      have e0 := unhide E0
                      cases e0
                      exact ⟨_, _, _, _, _, _, unhide HMd, fun _ => ⟨unhide Ho0, World.ownsRow_nil _ _ _ _, fun _ _ e => by cases e⟩⟩
                    · have f2 : (((y : Int) == 251) : Bool) = false := by rw [beq_eq_false_iff_ne]; omega
                      by_cases y3 : y < 128 ∨ y = 247
                      · have e0 : (Ls, M.vals s.data.toList P 1 s2) = (B1, B2, s3) := by rw [← hbB]; unfold M.bR; rw [if_neg (by omega), if_pos y3]
                        have HV := hide (cvals_any C (.slice pad P.length pcap) s P 1 s2 wc (unhide HMd).cx hs hP (by decide))
                        obtain ⟨V, s4, hV⟩ : ∃ V s4, M.vals s.data.toList P 1 s2 = (V, s4) := ⟨_, _, rfl⟩
                        rw [hV] at HV e0
                        have E0 := hide e0
                        have f3 : (y : Int) < 128 ∨ (¬ (y : Int) < 128 ∧ (((y : Int) == 247) : Bool) = true) := by
                          rcases y3 with g | g
                          · exact .inl (by omega)
                          · exact .inr ⟨by omega, by rw [g]; rfl⟩
                        clear hbB y1 y2 y3 e0 hV
                        rcases f3 with f3 | ⟨f3, f4⟩
                        all_goals
                          go_wp2_with fail
                          refine (unhide HV).mono ?_
                          rintro e w4 ⟨v4, rfl, hx4, hg4, ⟨A4, ho4, hA4, hA5⟩, ad4, n5, c5, ev4⟩
                          subst ev4
                          have hM4 := (unhide HMd).take hx4 hg4 hpr hCr
                          obtain ⟨_, _, k2, kf⟩ := hM4.cells
                          clear HV
                          go_wp2
                          go_meet
                          have e0 := unhide E0
                          cases e0
                          refine ⟨_, _, _, _, _, _, hM4.set2 (unhide HCx) hpr _, fun g => ?_⟩
                          have hAV := hA5 g
                          subst hAV
                          have hpw := (unhide HMd).lt
                          refine ⟨own_keptX (own_grown (unhide Ho0) hg4 hCr) (grown_set w4 p 2 _) (fun b e e2 => by cases e; exact unhide Hpo e2), own_mono (own_keptX ho4 (grown_set w4 p 2 _) (fun b e e2 => by cases e; have := (ins_in ho4 e2).1; omega)) (unhide HMd).g.size, fun b e e2 => ?_⟩
                          have q1 := (ins_in (unhide Ho0) e).2
                          have q2 := (ins_in ho4 e2).1
                          omega
                      · have f3 : ¬ (y : Int) < 128 := by omega
                        have f4 : (((y : Int) == 247) : Bool) = false := by rw [beq_eq_false_iff_ne]; omega
                        by_cases y4 : y < 247
                        · have f5 : (y : Int) < 247 := by omega
                          have e0 : (Ls, [], M.fail s2 17 q) = (B1, B2, s3) := by rw [← hbB]; unfold M.bR; rw [if_neg (by omega), if_neg y3, if_pos y4]
                          have HF := hide (cF_any C (.slice pad P.length pcap) s P s2 wc 17 q (unhide HMd).cx)
                          have E0 := hide e0
                          clear hbB y1 y2 y3 y4 e0
                          go_wp2_with fail
                          refine (unhide HF).mono ?_
                          rintro e w4 ⟨rfl, hx4, hg4⟩
                          have hM4 := (unhide HMd).take hx4 hg4 hpr hCr
                          clear HF
                          go_wp2
                          go_meet
                          have e0 := unhide E0
                          cases e0
                          exact ⟨_, _, _, _, _, _, hM4, fun g => absurd g (M.fail_e (by decide))⟩
                        · have f5 : ¬ (y : Int) < 247 := by omega
                          by_cases y5 : y < 251
                          · have f6 : (y : Int) < 251 := by omega
                            have hn1' := unhide Hn1
                            have hn4' := unhide Hn4
                            have k1 : wc.cell? ⟨p, 1, none⟩ = some (.slice a4 n4 c4) := (unhide HMd).cells.2.1
                            have c2 : wc.cell? ⟨C, 2, none⟩ = some (.int .i64 (s2.e : Int)) := (unhide HMd).cx.cd.cell 2
                            by_cases hk : Ls.length < 251 - y
                            · have e0 : ([], [], M.fail s2 17 q) = (B1, B2, s3) := by rw [← hbB]; unfold M.bR; rw [if_neg (by omega), if_neg y3, if_neg y4, if_pos y5, if_pos hk]
                              have hkn : (n1 : Int) - 251 + (y : Int) < 0 := by omega
                              have E0 := hide e0
                              by_cases he2 : s2.e = 0
                              · have hd2 : (((s2.e : Int) == 0) : Bool) = true := by rw [he2]; rfl
                                have HF := hide (cF_any C (.slice pad P.length pcap) s P s2 wc 17 q (unhide HMd).cx)
                                clear hbB y1 y2 y3 y4 y5 e0 hn1' hn4' he2 hk
                                go_wp2_with fail
                                refine (unhide HF).mono ?_
                                rintro e w4 ⟨rfl, hx4, hg4⟩
                                have hM4 := (unhide HMd).take hx4 hg4 hpr hCr
                                obtain ⟨_, k1, _, kf⟩ := hM4.cells
                                clear HF
                                go_wp2
                                go_meet
                                have e0 := unhide E0
                                cases e0
                                exact ⟨_, _, _, _, _, _, hM4.set1 (unhide HCx) hpr _, fun g => absurd g (M.fail_e (by decide))⟩
                              · have hd2 : (((s2.e : Int) == 0) : Bool) = false := by rw [beq_eq_false_iff_ne]; omega
                                have He2 := hide he2
                                have kf := (unhide HMd).cells.2.2.2
                                clear hbB y1 y2 y3 y4 y5 e0 hn1' hn4' he2 hk
                                go_wp2
                                go_meet
                                have e0 := unhide E0
                                rw [M.fail_bad (unhide He2)] at e0
                                cases e0
                                exact ⟨_, _, _, _, _, _, (unhide HMd).set1 (unhide HCx) hpr _, fun g => absurd g (unhide He2)⟩
                            · have e0 : (Ls.take (Ls.length - (251 - y)), [], s2) = (B1, B2, s3) := by rw [← hbB]; unfold M.bR; rw [if_neg (by omega), if_neg y3, if_neg y4, if_pos y5, if_neg hk]
                              have hkn : ¬ (n1 : Int) - 251 + (y : Int) < 0 := by omega
                              have hkc : (n1 : Int) - 251 + (y : Int) ≤ (c4 : Int) := by omega
                              have hkb : (n1 : Int) ≤ 300000 := by omega
                              have hkt : (max ((n1 : Int) - 251 + (y : Int)) 0).toNat = Ls.length - (251 - y) := by omega
                              have E0 := hide e0
                              have Hkt := hide hkt
                              have kf := (unhide HMd).cells.2.2.2
                              clear hbB y1 y2 y3 y4 y5 e0 hn1' hn4' hk hkt
                              go_wp2
                              go_meet
                              have e0 := unhide E0
                              cases e0
                              refine ⟨_, _, _, _, _, _, (unhide HMd).set1 (unhide HCx) hpr _, fun g => ?_⟩
                              rw [unhide Hkt]
                              exact ⟨own_keptX (own_take (unhide Ho0) _ (by omega)) (grown_set _ p 1 _) (fun b e e2 => by cases e; exact unhide Hpo ((slice_block _ _ _ _ _).trans e2)), World.ownsRow_nil _ _ _ _, fun _ _ e => by cases e⟩
                          · have f6 : ¬ (y : Int) < 251 := by omega
                            by_cases y6 : y < 255
                            · have f7 : (y : Int) < 255 := by omega
                              have e0 : (Ls ++ (M.vals s.data.toList P (y - 251) s2).1, [], (M.vals s.data.toList P (y - 251) s2).2) = (B1, B2, s3) := by rw [← hbB]; unfold M.bR; rw [if_neg (by omega), if_neg y3, if_neg y4, if_neg y5, if_pos y6]
                              have hMd0 := (unhide HMd).drew
                              have HV := hide (cvals_any C (.slice pad P.length pcap) s P (y - 251) s2 wc.drew hMd0.cx hs hP (by omega))
                              obtain ⟨V, s4, hV⟩ : ∃ V s4, M.vals s.data.toList P (y - 251) s2 = (V, s4) := ⟨_, _, rfl⟩
                              rw [hV] at HV e0
                              have E0 := hide e0
                              have hwy : IntKind.i64.wrap ((y : Int) - 251) = ((y - 251 : Nat) : Int) := by
                                rw [IntKind.wrap_i64, Int.emod_eq_of_lt (by omega) (by omega)]; omega
                              have ho00 : wc.drew.ownsRow wr.heap.size 25 3 (.slice a4 n4 c4) Ls.length (TC Ls) := unhide Ho0
                              obtain ⟨_, k1, _, kf⟩ := (unhide HMd).cells
                              have hLl : Ls.length ≤ 300000 := by omega
                              have hy3 : y - 251 ≤ 3 := by omega
                              clear hbB y1 y2 y3 y4 y5 y6 e0 hV
                              go_wp2_with fail
                              go_region_law (first
                                | (refine step_call rfl 15 #[.tmp 125, .tmp 126, .tmp 128] #[46, 22, 3] rfl #[.pointer (some ⟨C, 0, none⟩), .slice pad P.length pcap, .int .i64 ((y - 251 : Nat) : Int)] (by simp [Act.eval, Act.put]) enter15 (unhide HV) ?_; rintro e w5 ⟨v5, rfl, hx5, hg5, ⟨A5, ho5, hA5, hA5'⟩, ad5, n5, c5, ev5⟩; subst ev5; refine ⟨_, rfl, ?_⟩; have hM5 := hMd0.take hx5 hg5 hpr hCr; have hL5 := own_grown ho00 hg5 hCr; obtain ⟨_, k5, _, kf5⟩ := hM5.cells)
                                | (refine step_app rfl (.tmp 124) (.tmp 129) rfl wr.heap.size (.slice a4 n4 c4) (.slice ad5 n5 c5) Ls A5 (by simp [Act.eval]) (by simp [Act.eval]) hL5 (TIn.of_own ho5) (own_none ho5) (by omega) hM5.g.size ?_; intro v' w7 hown7 hgrow7 hbv7; obtain ⟨a7, n7, c7, e7⟩ := own_slice hown7; subst e7; have hM7 := hM5.grow (unhide HCx) hgrow7 (fun b e => ⟨(ins_in hL5 e).1, fun e2 => unhide Hpo (by rw [← e2]; exact e)⟩); obtain ⟨_, k7, _, kf7⟩ := hM7.cells; have hb7 := app_ne hL5 (unhide Hpo) hM5.lt hbv7))
                              all_goals
                                have hM8 := hM7.set1 (unhide HCx) hpr (.slice a7 n7 c7)
                                go_wp2
                                go_meet
                                have e0 := unhide E0
                                cases e0
                                refine ⟨_, _, _, _, _, _, hM8, fun g => ?_⟩
                                have hAV := hA5' g
                                subst hAV
                                exact ⟨own_keptX hown7 (grown_set w7 p 1 _) (fun b e e2 => by
                                  cases e
                                  exact hb7 e2), World.ownsRow_nil _ _ _ _, fun _ _ e => by cases e⟩
                            · have f7 : ¬ (y : Int) < 255 := by omega
                              have e0 : ((M.vals s.data.toList P (M.rd s.data.toList 2 s2).1 (M.rd s.data.toList 2 s2).2).1, M.vals s.data.toList P (M.rd s.data.toList 2 (M.vals s.data.toList P (M.rd s.data.toList 2 s2).1 (M.rd s.data.toList 2 s2).2).2).1 (M.rd s.data.toList 2 (M.vals s.data.toList P (M.rd s.data.toList 2 s2).1 (M.rd s.data.toList 2 s2).2).2).2) = (B1, B2, s3) := by
                                rw [← hbB]; unfold M.bR; rw [if_neg (by omega), if_neg y3, if_neg y4, if_neg y5, if_neg y6]
                              have hr2 := M.rd2 s.data.toList s2
                              have HN1 := hide (cN_any C (.slice pad P.length pcap) s P s2 wc 2 (by decide) (unhide HMd).cx hs)
                              obtain ⟨u1, t1, hT1⟩ : ∃ u1 t1, M.rd s.data.toList 2 s2 = (u1, t1) := ⟨_, _, rfl⟩
                              rw [hT1] at hr2 HN1 e0
                              simp only at hr2 HN1 e0
                              have HV1 := hide (fun (W : World) (hc : Cx W C (.slice pad P.length pcap) s P t1) => cvals_any C (.slice pad P.length pcap) s P u1 t1 W hc hs hP (by omega))
                              obtain ⟨V1, t2, hT2⟩ : ∃ V1 t2, M.vals s.data.toList P u1 t1 = (V1, t2) := ⟨_, _, rfl⟩
                              rw [hT2] at HV1 e0
                              simp only at HV1 e0
                              have hr3 := M.rd2 s.data.toList t2
                              have HN2 := hide (fun (W : World) (hc : Cx W C (.slice pad P.length pcap) s P t2) => cN_any C (.slice pad P.length pcap) s P t2 W 2 (by decide) hc hs)
                              obtain ⟨u3, t3, hT3⟩ : ∃ u3 t3, M.rd s.data.toList 2 t2 = (u3, t3) := ⟨_, _, rfl⟩
                              rw [hT3] at hr3 HN2 e0
                              simp only at hr3 HN2 e0
                              have HV2 := hide (fun (W : World) (hc : Cx W C (.slice pad P.length pcap) s P t3) => cvals_any C (.slice pad P.length pcap) s P u3 t3 W hc hs hP (by omega))
                              obtain ⟨V2, t4, hT4⟩ : ∃ V2 t4, M.vals s.data.toList P u3 t3 = (V2, t4) := ⟨_, _, rfl⟩
                              rw [hT4] at HV2 e0
                              simp only at HV2 e0
                              have h42 : t4.e = 0 → t2.e = 0 := fun g => by
                                have a := M.vals_good (s := s.data.toList) (P := P) (n := u3) (st := t3) (by rw [hT4]; exact g)
                                exact M.rd_good (s := s.data.toList) (n := 2) (by rw [hT3]; exact a)
                              have H42 := hide h42
                              have E0 := hide e0
                              clear hbB y1 y2 y3 y4 y5 y6 e0 hT1 hT2 hT3 hT4 h42
                              go_wp2_with fail
                              refine (unhide HN1).mono ?_
                              rintro e w4 ⟨rfl, hx4, hg4⟩
                              have hM4 := (unhide HMd).take hx4 hg4 hpr hCr
                              clear HN1
                              go_wp2_with fail
                              refine (unhide HV1 _ hx4).mono ?_
                              rintro e w5 ⟨v5, rfl, hx5, hg5, ⟨A5, ho5, hA5, hA5'⟩, ad5, n5, c5, ev5⟩
                              subst ev5
                              have hM5 := hM4.take hx5 hg5 hpr hCr
                              obtain ⟨_, k1, _, kf⟩ := hM5.cells
                              have hM6 := hM5.set1 (unhide HCx) hpr (.slice ad5 n5 c5)
                              have hp4 := hM4.lt
                              have hwr4 := hM4.g.size
                              have hwr5 := hM5.g.size
                              have ho6 : (w5.setCell ⟨p, 1, none⟩ (.slice ad5 n5 c5)).ownsRow w4.heap.size 25 3 (.slice ad5 n5 c5) A5.length (TC A5) := own_keptX ho5 (grown_set w5 p 1 _) (fun b e e2 => by cases e; have := (ins_in ho5 e2).1; omega)
                              obtain ⟨w6, hw6⟩ : ∃ w6, w6 = w5.setCell ⟨p, 1, none⟩ (.slice ad5 n5 c5) := ⟨_, rfl⟩
                              rw [← hw6] at hM6 ho6
                              have hz6 : w6.heap.size = w5.heap.size := by rw [hw6]; simp
                              have HW6 := hide hw6
                              have Hz6 := hide hz6
                              clear HV1 hx5 hM4 hx4 hg4 hM5 hw6 hz6
                              go_upto_region 17 with fail
                              rw [← unhide HW6]
                              clear HW6 k1 kf
                              go_wp2_with fail
                              refine (unhide HN2 _ hM6.cx).mono ?_
                              rintro e w7 ⟨rfl, hx7, hg7⟩
                              have hM7 := hM6.take hx7 hg7 hpr hCr
                              clear HN2
                              go_wp2_with fail
                              refine (unhide HV2 _ hx7).mono ?_
                              rintro e w8 ⟨v8, rfl, hx8, hg8, ⟨A8, ho8, hA8, hA8'⟩, ad8, n8, c8, ev8⟩
                              subst ev8
                              have hM8 := hM7.take hx8 hg8 hpr hCr
                              obtain ⟨_, _, k2, kf⟩ := hM8.cells
                              clear HV2
                              go_wp2
                              go_meet
                              have e0 := unhide E0
                              cases e0
                              refine ⟨_, _, _, _, _, _, hM8.set2 (unhide HCx) hpr _, fun g => ?_⟩
                              have hAV := hA8' g
                              have hAW := hA5' (unhide H42 g)
                              subst hAV hAW
                              have hp7 := hM7.lt
                              have hC6 : C < w4.heap.size := by omega
                              have ho9 := own_grown (own_grown ho6 hg7 hC6) hg8 hC6
                              refine ⟨own_mono (own_keptX ho9 (grown_set w8 p 2 _) (fun b e e2 => by cases e; have := (ins_in ho9 e2).1; omega)) hwr4, own_mono (own_keptX ho8 (grown_set w8 p 2 _) (fun b e e2 => by cases e; have := (ins_in ho8 e2).1; omega)) hM7.g.size, fun b e e2 => ?_⟩
                              have q1 := (ins_in (own_grown ho6 hg7 hC6) e).2
                              have q2 := (ins_in ho8 e2).1
                              omega
                case rest =>
                  clear HMd Ho0 HB
                  obtain ⟨e1, m1, z1, e2, m2, z2, H3⟩ := hcut
                  obtain ⟨hM3, hO3⟩ := unhide H3
                  clear H3
                  obtain ⟨k0, k1, k2, kf⟩ := hM3.cells
                  have hMz := hM3.g.size
                  have hpl := hM3.lt
                  have hlsr := ((unhide Hls).kept hM3.g (fun b e => by cases e; omega))
                  obtain ⟨pz, hpz⟩ : ∃ pz, pz = at1 + (1 + (d : Int)) := ⟨_, rfl⟩
                  obtain ⟨W5, hW5⟩ : ∃ W5, W5 = wc.setCell ⟨p, 0, none⟩ (.int .i64 pz) := ⟨_, rfl⟩
                  have hb5 : Bk W5 p #[.int .i64 pz, .slice e1 m1 z1, .slice e2 m2 z2] 42 := by rw [hW5]; exact hM3.bk.set 0 _
                  have hg5 : wr.grownBy W5 (some C) := by rw [hW5]; exact grown_new hM3.g hpr 0 _
                  have hc5 : Cd W5 C s s3 := by rw [hW5]; exact hM3.cx.cd.kept (grown_set _ p 0 _) (by simp; omega)
                  have hls5 := ((unhide Hls).kept hg5 (fun b e => by cases e; omega))
                  have hO5 : s3.e = 0 → Own2 W5 wr.heap.size (.slice e1 m1 z1) (.slice e2 m2 z2) B1 B2 := fun g => by
                    have := hO3 g
                    rw [hW5]
                    exact this.keptX (grown_set _ p 0 _) (fun b e e2 => by cases e; exact own_off this.l hM3.bk e2) (fun b e e2 => by cases e; exact own_off this.s hM3.bk e2)
                  have hz5 : W5.heap.size = wc.heap.size := by rw [hW5]; simp
                  have hpos3 := hM3.cx.pos
                  have HW5 := hide hW5
                  have Hpz := hide hpz
                  have Hz5 := hide hz5
                  have hAx : A.length ≤ 65536 := by omega
                  have hz5' : wc.heap.size ≤ W5.heap.size := by omega
                  have hsum : at1 + (1 + (d : Int)) ≤ 9000000000 := by omega
                  have hsum2 : -1 ≤ at1 + (1 + (d : Int)) := by omega
                  clear hM3 hO3 hlsr hW5 hz5 hpz
                  go_upto_region 32 with fail
                  rw [← unhide Hpz, ← unhide HW5]
                  clear HW5 k0 k1 k2 kf
                  have k0 := hb5.cell 0
                  have k1 := hb5.cell 1
                  have k2 := hb5.cell 2
                  simp at k0 k1 k2
                  have hrow := hls5.row
                  obtain ⟨N, hN⟩ : ∃ N, N = A.length := ⟨_, rfl⟩
                  rw [← hN] at hrow hAx
                  have HNn := hide hN
                  clear hN
                  go_wp2_with (at_builtin; refine wpList_append_own_at _ rfl _ _ 26 rfl (w.heap.size + 1) 42 i0 (.agg #[.int .i64 0, .slice none 0 0, .slice none 0 0]) 3 56 Try.underlying26 hi hz0 hz1 hz2 rfl (by decide) _ N (JC A) rfl (hrow.alloc _) ⟨W5.heap.size, 0, none⟩ 1 1 [.int .i64 pz, .slice e1 m1 z1, .slice e2 m2 z2] rfl rfl ?c1 ?c2 ?c3 ?c4 ?c5 ?_)
                  case c1 =>
                    intro j u hj
                    rw [Addr.add_lit, Nat.zero_add, (Bk.new W5 _ 42).cell j]
                    simpa using hj
                  case c2 => intro u hu; simp at hu; rcases hu with rfl | rfl | rfl <;> rfl
                  case c3 => unfold maxLen; omega
                  case c4 => omega
                  case c5 => simp; omega
                  intro v' w6 hown' hgrow _ hbv
                  have hlt2 := (hrow.alloc (.cells #[.int .i64 pz, .slice e1 m1 z1, .slice e2 m2 z2] 42)).lt
                  have hbW5 : Below w.heap.size w W5 := (unhide HB0).grown hg5 hwz (fun k e => by cases e; exact hCg)
                  have hb6 : Below w.heap.size w w6 := (hbW5.alloc (by omega) (.cells #[.int .i64 pz, .slice e1 m1 z1, .slice e2 m2 z2] 42)).grown hgrow (by simp; omega) (fun k e => by have := (hlt2 k e).1; omega)
                  have hcd6 : Cd w6 C s s3 := (hc5.below ((Below.refl _ _).alloc (Nat.le_refl _) _)).kept hgrow (fun e => by have := (hlt2 C e.symm).1; omega)
                  have hcx6 : Cx w6 C (.slice pad P.length pcap) s P s3 := ⟨hcd6, (unhide Hhp).below hb6, (unhide HCx).ne, hpos3⟩
                  have hrel : (s3.e = 0 ∧ ∃ A' a' ad' n' c', Rg w w6 C (.slice pad P.length pcap) s P x ⟨-1, F, []⟩ st1 m' s3 (.slice e1 m1 z1) (.int .i64 pz) v' A' a' ad' n' c') ∨ (s3.e ≠ 0 ∧ (M.frames s.data.toList P x ⟨-1, F, []⟩ st1).2 = s3) := by
                    obtain ⟨hs3, hG⟩ := unhide HFr
                    by_cases he3 : s3.e = 0
                    · have hG2 := hG he3
                      have hstG : stG = s3 := hs3.symm
                      subst hstG
                      have hGe : G = ⟨at1 + 1 + (d : Int), B1, B2⟩ := (congrArg Prod.fst hG2).symm
                      have hpzG : pz = G.at_ := by rw [hGe, unhide Hpz]; simp only; omega
                      have hOG : Own2 W5 wr.heap.size (.slice e1 m1 z1) (.slice e2 m2 z2) G.locals G.stack := by rw [hGe]; exact hO5 he3
                      have hL6 : Lst w6 (w.heap.size + 1) v' (A ++ [⟨G, .slice e1 m1 z1, .slice e2 m2 z2⟩]) :=
                        hls5.push2 (N := wr.heap.size) (by omega) (fun b hb => ((unhide Hls).blocks_in hb).2) hOG (by rw [← unhide HNn]; rw [hpzG] at hown'; exact hown') (by rw [hpzG] at hgrow; exact hgrow) (by simpa using hbv)
                      have hl6 := (hL6.own ⟨G, .slice e1 m1 z1, .slice e2 m2 z2⟩ (by simp)).l
                      have hfl' := unhide HFl
                      have hfa' := unhide HFa
                      have hlen' : (A ++ [(⟨G, .slice e1 m1 z1, .slice e2 m2 z2⟩ : J)]).length + m' = x := by simp; omega
                      exact .inl ⟨he3, _, G, e1, m1, z1, rfl, by rw [hpzG], hlen', by rw [List.map_append]; exact unhide HSt he3, hL6, TIn.of_own hl6, by omega, by omega, fun _ b o n c e => by
                        have := (ins_in hl6 (b := b) (by rw [e]; rfl)).1
                        omega, by omega, by omega⟩
                    · exact .inr ⟨he3, by rw [← hs3] at HSp; exact unhide HSp he3⟩
                  have Hrel := hide hrel
                  have Hcx6 := hide hcx6
                  have Hb6 := hide hb6
                  clear hown' hgrow hbv hlt2 hbW5 hb6 hcd6 hcx6 hrel hrow hls5 hb5 hg5 hc5 hO5
                  have hsubm : ((m' + 1 : Nat) : Int) - 1 = (m' : Int) := by omega
                  go_wp2
                  go_roundw
                  case rel => exact ⟨m', s3, by omega, by go_num, Hcx6, Hb6, Hrel⟩
                  case measure => simp [intOf]
      · exact absurd he hn
    · have hX : (M.frames s.data.toList P x ⟨-1, F, []⟩ st1).2 = st2 ∧ (st2.e = 0 → ∃ A, A.map J.f = (M.frames s.data.toList P x ⟨-1, F, []⟩ st1).1 ∧ Lst wr (w.heap.size + 1) u13 A) := by
        rcases unhide HD with ⟨he, A, a1, ad1, n1, c1, hrg⟩ | ⟨hn, hf⟩
        · have hm : m = 0 := by
            by_cases g : m = 0
            · exact g
            · exact absurd ⟨g, he⟩ hgo
          subst hm
          have := hrg.fs.done
          rw [this]
          exact ⟨rfl, fun _ => ⟨A, rfl, hrg.ls⟩⟩
        · exact ⟨hf, fun g => absurd g hn⟩
      have htest : ¬ (0 : Int) < (m : Int) ∨ ((0 : Int) < (m : Int) ∧ (((st2.e : Int) == 0) : Bool) = false) := by
        by_cases g : m = 0
        · exact .inl (by omega)
        · refine .inr ⟨by omega, ?_⟩
          have : st2.e ≠ 0 := fun e => hgo ⟨g, e⟩
          rw [beq_eq_false_iff_ne]; omega
      have HX := hide hX
      have k1 : wr.cell? ⟨C, 1, none⟩ = some (.int .i64 (st2.pos : Int)) := hcx.cd.cell 1
      have k3 : wr.cell? ⟨C, 3, none⟩ = some (.int .i64 (st2.p : Int)) := hcx.cd.cell 3
      have hl : s.data.toList.length = s.size := by simp
      have hCg : w.heap.size ≤ C := Nat.le_of_eq (unhide HC).symm
      by_cases hps : st2.pos < s.size
      · have fps : (st2.pos : Int) < (s.size : Int) := by omega
        have HF := hide (cF_any C (.slice pad P.length pcap) s P st2 wr 2 st2.pos hcx)
        have hfin : M.fin s.data.toList (M.frames s.data.toList P x ⟨-1, F, []⟩ st1).2 = M.fail st2 2 st2.pos := by rw [hX.1]; unfold M.fin; rw [hl, if_pos hps]
        obtain ⟨sf, hsf⟩ : ∃ sf, sf = M.fail st2 2 st2.pos := ⟨_, rfl⟩
        have hsfe : sf.e ≠ 0 := by rw [hsf]; exact M.fail_e (by decide)
        rw [← hsf] at HF hfin
        have hd2 : (((sf.e : Int) != 0) : Bool) = true := by simpa using hsfe
        have HFin := hide hfin
        have Hsfe := hide hsfe
        clear hX hl hps hfin hsf hsfe hgo HD
        rcases htest with f1 | ⟨f1, f2⟩
        all_goals
          go_wp2_with fail
          refine (unhide HF).mono ?_
          rintro e w2 ⟨rfl, hx2, hg2⟩
          have c2 : w2.cell? ⟨C, 2, none⟩ = some (.int .i64 (sf.e : Int)) := hx2.cd.cell 2
          have c3 : w2.cell? ⟨C, 3, none⟩ = some (.int .i64 (sf.p : Int)) := hx2.cd.cell 3
          have hb2 : Below w.heap.size w w2 := (unhide HB).grown hg2 (by have := (unhide HB).size; omega) (fun k e => by cases e; exact hCg)
          clear HF k1 k3
          go_wp2_with fail
          go_quiet (fail)
          go_wp2
          go_ret3
          refine ⟨none, 0, 0, by rw [unhide HFin, if_neg (unhide Hsfe)]; rfl, ⟨hb2.os, hb2.tape, hb2.output, hb2.size, hb2.block⟩, fun g => absurd (by rw [unhide HFin] at g; exact g) (unhide Hsfe), fun _ => ⟨rfl, rfl, rfl⟩⟩
      · have fps : ¬ (st2.pos : Int) < (s.size : Int) := by omega
        have hfin : M.fin s.data.toList (M.frames s.data.toList P x ⟨-1, F, []⟩ st1).2 = st2 := by rw [hX.1]; unfold M.fin; rw [hl, if_neg hps]
        have HFin := hide hfin
        by_cases he : st2.e = 0
        · have hd2 : (((st2.e : Int) != 0) : Bool) = false := by rw [he]; rfl
          obtain ⟨A, hA, hLA⟩ := hX.2 he
          obtain ⟨vd, vc, ev⟩ := hLA.slice
          have HA := hide hA
          rw [ev] at hLA ⊢
          have hLA2 := hLA.base (Nat.le_succ _)
          have HLA := hide hLA2
          have He := hide he
          clear hX hl hps hfin hgo HD hA hLA hLA2 ev HX he
          rcases htest with f1 | ⟨f1, f2⟩
          all_goals
            go_wp2
            go_ret3
            exact ⟨vd, _, vc, by rw [unhide HFin, if_pos (unhide He), unhide He]; rfl, unhide HB, fun _ => ⟨A, unhide HA, unhide HLA⟩, fun g => absurd (unhide He) (by rw [unhide HFin] at g; exact g)⟩
        · have hd2 : (((st2.e : Int) != 0) : Bool) = true := by simpa using he
          have He := hide he
          clear hX hl hps hfin hgo HD he
          rcases htest with f1 | ⟨f1, f2⟩
          all_goals
            go_wp2_with fail
            go_quiet (fail)
            go_wp2
            go_ret3
            refine ⟨none, 0, 0, by rw [unhide HFin, if_neg (unhide He)]; rfl, ⟨(unhide HB).os, (unhide HB).tape, (unhide HB).output, (unhide HB).size, (unhide HB).block⟩, fun g => absurd (by rw [unhide HFin] at g; exact g) (unhide He), fun _ => ⟨rfl, rfl, rfl⟩⟩
end Go.Proofs.Ytbgpkkbejbidlab
