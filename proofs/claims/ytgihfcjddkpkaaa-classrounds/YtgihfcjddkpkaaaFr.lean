/-
  Package maps: frame.
-/
import Derived.Test.YtgihfcjddkpkaaaTs
namespace Go.Proofs.Ytgihfcjddkpkaaa
open Go.RowKit
/-- What frame leaves. -/
def FrR (R : Nat) (pv : Value) (s : ByteArray) (P : List K) (F : Fm) (st' : St) (w : World) (e : Ending) (w' : World) : Prop :=
  ∃ z a1 n1 c1 a2 n2 c2, e = .returned (.agg #[.int .i64 z, .slice a1 n1 c1, .slice a2 n2 c2]) ∧ Rx w' R pv s P st' ∧ w.grownBy w' (some R) ∧
    (st'.e = 0 → z = F.at_ ∧ w'.ownsRow w.heap.size 76 3 (.slice a1 n1 c1) F.locals.length (TC F.locals) ∧ w'.ownsRow w.heap.size 76 3 (.slice a2 n2 c2) F.stack.length (TC F.stack) ∧ ∀ b, (Value.slice a1 n1 c1).ownBlock = some b → (Value.slice a2 n2 c2).ownBlock ≠ some b)
theorem own_mono {w : World} {B B' n : Nat} {e : TypeId} {size : Nat} {v : Value} {xs : List Value} (h : w.ownsRow B e size v n xs) (hb : B' ≤ B) : w.ownsRow B' e size v n xs :=
  ⟨h.1, h.2.imp id fun ⟨g, cap, cur, h1, h2, h3⟩ => ⟨g, cap, cur, h1, Nat.le_trans hb h2, h3⟩⟩
theorem own_set {w : World} {B n p : Nat} {e : TypeId} {size : Nat} {v : Value} {xs : List Value} (h : w.ownsRow B e size v n xs) (hp : p < B) (i : Nat) (u : Value) : (w.setCell ⟨p, i, none⟩ u).ownsRow B e size v n xs :=
  h.kept (grown_set w p i u) (.inr fun e => by have := (h.lt p e).1; omega)
theorem own_off {w : World} {B n g : Nat} {v : Value} {xs : List Value} {cs : Array Value} (h : w.ownsRow B 76 3 v n xs) (hg : Bk w g cs 29) : v.ownBlock ≠ some g := by
  intro e
  rcases h.2 with ⟨rfl, _⟩ | ⟨g', cap, cur, rfl, _, hg', _⟩
  · cases e
  · cases e
    unfold Bk at hg
    rw [hg'] at hg
    simp at hg
theorem own_set3 {w : World} {B n Q : Nat} {v x y z : Value} {xs : List Value} (h : w.ownsRow B 76 3 v n xs) (hq : v.ownBlock ≠ some Q) : (((w.setCell ⟨Q, 0, none⟩ x).setCell ⟨Q, 1, none⟩ y).setCell ⟨Q, 2, none⟩ z).ownsRow B 76 3 v n xs :=
  ((h.kept (grown_set w Q 0 x) (.inr hq)).kept (grown_set _ Q 1 y) (.inr hq)).kept (grown_set _ Q 2 z) (.inr hq)
theorem frm_mid {w wA : World} {at_ : Int} {lv sv : Value} (hwA : wA = (w.alloc (.cells #[.int .i64 at_, lv, sv] 29)).alloc (.cells #[.int .i64 0, .slice none 0 0, .slice none 0 0] 29)) :
    Below w.heap.size w wA ∧ Bk wA w.heap.size #[.int .i64 at_, lv, sv] 29 ∧ Bk wA (w.heap.size + 1) #[.int .i64 0, .slice none 0 0, .slice none 0 0] 29 := by
  subst hwA
  refine ⟨((Below.refl _ _).alloc (Nat.le_refl _) _).alloc (by simp) _, (Bk.new _ _ _).alloc _, ?_⟩
  have := Bk.new (w.alloc (.cells #[.int .i64 at_, lv, sv] 29)) #[.int .i64 0, .slice none 0 0, .slice none 0 0] 29
  simpa using this
set_option maxRecDepth 100000 in
set_option maxHeartbeats 4000000 in
theorem frame_any (R : Nat) (pv lv sv : Value) (s : ByteArray) (P : List K) (a : Fm) (st : St) (w : World) (h : Rx w R pv s P st) (hs : s.size ≤ 131072) (hP : P.length ≤ 1048576)
    (hl : TIn w lv a.locals) (hne : a.locals ≠ [] → ∀ b o n c, lv = .slice (some ⟨b, o, none⟩) n c → b ≠ R) (hcap : ∀ ad n c, lv = .slice ad n c → n ≤ c) (hsv : ∃ ad n c, sv = .slice ad n c) (hL : a.locals.length ≤ 900000) (ha : -1 ≤ a.at_) (ha2 : a.at_ ≤ 1099511627776) :
    Calls Try.prog 58 #[.pointer (some ⟨R, 0, none⟩), .agg #[.int .i64 a.at_, lv, sv]] w fun x w' => FrR R pv s P (M.frame s.data.toList P a st).1 (M.frame s.data.toList P a st).2 w x w' := by
  obtain ⟨wA, hwA⟩ : ∃ wA, wA = (w.alloc (.cells #[.int .i64 a.at_, lv, sv] 29)).alloc (.cells #[.int .i64 0, .slice none 0 0, .slice none 0 0] 29) := ⟨_, rfl⟩
  obtain ⟨hbA, hAA, hQA⟩ := frm_mid hwA
  have hrA := h.below hbA
  have hgA := grown_of_below hbA (some R)
  have H0 := hide h
  have hRl := h.rd.lt
  have HL := hide hl
  have HN := hide hne
  obtain ⟨ad, lcap, elv, _⟩ := hl
  have hcap2 := hcap _ _ _ elv
  clear hcap
  obtain ⟨sd, sn, sc, esv⟩ := hsv
  have hx := M.rd1 s.data.toList st
  have HAt := hide (At_any R pv s st wA hrA.rd)
  have HU := hide (U8_any R pv s P st wA hrA hs)
  have hfp := M.frP_eq s.data.toList P a st
  have HFP := hide hfp
  obtain ⟨F, stF, hFF⟩ : ∃ F stF, M.frame s.data.toList P a st = (F, stF) := ⟨_, _, rfl⟩
  rw [hFF] at HFP ⊢
  simp only at HFP ⊢
  unfold M.frP at HFP
  simp only at HFP
  obtain ⟨x, st1, hT⟩ : ∃ x st1, M.rd s.data.toList 1 st = (x, st1) := ⟨_, _, rfl⟩
  obtain ⟨q, hq⟩ : ∃ q, q = st.pos := ⟨_, rfl⟩
  rw [hT, ← hq] at HFP
  rw [hT] at HU hx
  rw [← hq] at HAt
  simp only at HFP HU hx
  obtain ⟨at0, hat0⟩ : ∃ z, z = a.at_ := ⟨_, rfl⟩
  obtain ⟨Ls, hLs⟩ : ∃ z, z = a.locals := ⟨_, rfl⟩
  rw [← hat0] at HFP ha ha2 hwA hAA ⊢
  rw [← hLs] at HFP hL HL elv hcap2 HN
  subst elv esv
  clear h hrA hfp hFF hT hq hat0 hLs hne
  go_enter Try.func58, Try.ntmps58
  go_upto_region 1 with fail
  rw [← hwA]
  clear hwA
  go_wp2_with fail
  refine (unhide HAt).mono ?_
  rintro e w1 ⟨rfl, hw⟩
  subst w1
  go_wp2_with fail
  refine (unhide HU).mono ?_
  rintro e w1 ⟨rfl, hr1, hg1⟩
  have hg1' := grown_trans hgA hg1
  have hA1 := hAA.kept hg1 (by simp; omega)
  have hQ1 := hQA.kept hg1 (by simp; omega)
  clear HAt HU hgA hg1 hAA hQA hbA
  go_upto_region 3 with fail
  go_cut [24] (fun v w' => v = .bool (decide (128 ≤ x ∧ x < 247)) ∧ w' = w1)
  case first =>
    by_cases h1 : 128 ≤ x
    · have f1 : (128 : Int) ≤ (x : Int) := by omega
      by_cases h2 : x < 247
      · have f2 : (x : Int) < 247 := by omega
        have Hd := hide (decide_eq_true (p := 128 ≤ x ∧ x < 247) ⟨h1, h2⟩)
        clear h1 h2
        go_wp2
        go_meet
        exact ⟨by rw [unhide Hd], rfl⟩
      · have f2 : ¬ (x : Int) < 247 := by omega
        have Hd := hide (decide_eq_false (p := 128 ≤ x ∧ x < 247) (fun g => h2 g.2))
        clear h1 h2
        go_wp2
        go_meet
        exact ⟨by rw [unhide Hd], rfl⟩
    · have f1 : ¬ (128 : Int) ≤ (x : Int) := by omega
      have Hd := hide (decide_eq_false (p := 128 ≤ x ∧ x < 247) (fun g => h1 g.1))
      clear h1
      go_wp2
      go_meet
      exact ⟨by rw [unhide Hd], rfl⟩
  case rest =>
    obtain ⟨rfl, hwc⟩ := hcut
    subst hwc
    go_upto_if 24 with fail
    go_cut [] (fun w' => Hid (Rx w' R pv s P (M.sB x q st1) ∧ w.grownBy w' (some R) ∧ Bk w' w.heap.size #[.int .i64 at0, .slice ad Ls.length lcap, .slice sd sn sc] 29 ∧ Bk w' (w.heap.size + 1) #[.int .i64 0, .slice none 0 0, .slice none 0 0] 29))
    case first =>
      by_cases h1 : 128 ≤ x ∧ x < 247
      · rw [decide_eq_true h1]
        have HF := hide (Fl_any R pv s P st1 _ hr1 17 q)
        rw [show M.fail st1 17 q = M.sB x q st1 by unfold M.sB; rw [if_pos h1]] at HF
        clear h1
        go_wp2_with fail
        refine (unhide HF).mono ?_
        rintro e w2 ⟨rfl, hr2, hg2⟩
        clear HF
        go_wp2
        go_meet
        exact ⟨hr2, grown_trans hg1' hg2, hA1.kept hg2 (by simp; omega), hQ1.kept hg2 (by simp; omega)⟩
      · rw [decide_eq_false h1]
        have Hst := hide (show M.sB x q st1 = st1 by unfold M.sB; rw [if_neg h1])
        clear h1
        go_wp2
        go_meet
        exact ⟨by rw [unhide Hst]; exact hr1, hg1', hA1, hQ1⟩
    case rest =>
      clear hr1 hg1' hA1 hQ1
      obtain ⟨hr2, hg2, hA2, hQ2⟩ := unhide hcut
      clear hcut
      generalize M.sB x q st1 = stB at *
      have hd := dlt_lt s.data.toList x stB
      have HD := hide (fun (W : World) (hb : Below wc.heap.size wc W) => (delta_any R pv s P x stB W (hr2.below hb) hs).mono (R' := fun e w3 => e = .returned (.int .i64 ((M.dlt s.data.toList x stB).1 : Nat)) ∧ Rx w3 R pv s P (M.dlt s.data.toList x stB).2 ∧ w.grownBy w3 (some R) ∧ Bk w3 w.heap.size #[.int .i64 at0, .slice ad Ls.length lcap, .slice sd sn sc] 29 ∧ Bk w3 (w.heap.size + 1) #[.int .i64 0, .slice none 0 0, .slice none 0 0] 29 ∧ W.heap.size ≤ w3.heap.size ∧ ∀ g cs, Bk W g cs 29 → w.heap.size ≤ g → Bk w3 g cs 29)
        (fun e w3 ⟨h1, h2, h3⟩ => ⟨h1, h2, grown_trans (grown_trans hg2 (grown_of_below hb _)) h3, (hA2.below hb).kept h3 (by simp; omega), (hQ2.below hb).kept h3 (by simp; omega), h3.size, fun g cs hg hle => hg.kept h3 (by simp; omega)⟩))
      obtain ⟨d, st2, hDD⟩ : ∃ d st2, M.dlt s.data.toList x stB = (d, st2) := ⟨_, _, rfl⟩
      rw [hDD] at HD hd HFP
      simp only at HD hd HFP
      clear hDD
      go_upto_region 5 with fail
      go_cut [7] (fun v w' => ∃ p, v = .pointer (some ⟨p, 0, none⟩) ∧ Hid (w.heap.size + 1 < p ∧ Bk w' p #[.int .i64 (at0 + 1 + (d : Int)), .slice none 0 0, .slice none 0 0] 29 ∧ Rx w' R pv s P st2 ∧ w.grownBy w' (some R) ∧ Bk w' w.heap.size #[.int .i64 at0, .slice ad Ls.length lcap, .slice sd sn sc] 29 ∧ Bk w' (w.heap.size + 1) #[.int .i64 0, .slice none 0 0, .slice none 0 0] 29))
      case first =>
        have k0 : wc.cell? ⟨w.heap.size, 0, none⟩ = some (.int .i64 at0) := hA2.cell 0
        have hAl := hA2.lt
        have hQl := hQ2.lt
        have hsum : IntKind.i64.wrap (IntKind.i64.wrap (at0 + 1) + (d : Int)) = at0 + 1 + (d : Int) := by
          rw [IntKind.wrap_i64, IntKind.wrap_i64, Int.emod_eq_of_lt (a := at0 + 1 + _) (by omega) (by omega)]; omega
        go_region_with (go_at_call 90; refine (unhide HD _ (by first | exact (Below.refl _ _).drew | exact ((Below.refl _ _).alloc (Nat.le_refl _) _).drew)).mono ?_; rintro e w3 ⟨rfl, hr3, hg3, hA3, hQ3, hsz3, hB3⟩; have k3 := hA3.cell 0; have l3 := hA3.lt; try (have b3 := hB3 wc.heap.size #[.int .i64 0, .slice none 0 0, .slice none 0 0] (Bk.new wc _ 29) (by omega); have g0 := b3.cell 0; have g1 := b3.cell 1; have g2 := b3.cell 2; have gf := b3.frozen))
        all_goals
          go_wp2
          go_meet
          first
          | exact ⟨_, rfl, by have := hQ3.lt; omega, Bk.new _ _ _, hr3.below ((Below.refl _ _).alloc (Nat.le_refl _) _), grown_alloc hg3 _, hA3.alloc _, hQ3.alloc _⟩
          | exact ⟨_, rfl, hQl, (end3 (unhide H0) hg3 hr3.rd hr3.pos b3 (by omega) _ _ _).1, (end3 (unhide H0) hg3 hr3.rd hr3.pos b3 (by omega) _ _ _).2.1, (end3 (unhide H0) hg3 hr3.rd hr3.pos b3 (by omega) _ _ _).2.2, ((hA3.other 0 _ (by omega)).other 1 _ (by omega)).other 2 _ (by omega), ((hQ3.other 0 _ (by omega)).other 1 _ (by omega)).other 2 _ (by omega)⟩
      case rest =>
        clear HD hr2 hg2 hA2 hQ2
        obtain ⟨p, rfl, H5⟩ := hcut
        obtain ⟨hpp, hp5, hr5, hg5, hA5, hQ5⟩ := unhide H5
        clear H5
        have k1 := hA5.cell 1
        simp at k1
        have hkm : (M.km s.data.toList Ls.length x st2).2.1 ≤ 65535 := by
          have := M.rd2 s.data.toList st2
          unfold M.km; split
          · simp only; omega
          · split
            · simp only; omega
            · split <;> (simp only; omega)
        have hkp := M.km_pos (len := Ls.length) (x := x) hr5.pos
        go_upto_block 0 with fail
        go_cut [8, 9] (fun kv mv w' => ∃ (k : Int) (n : Nat) (st3 : St), kv = .int .i64 k ∧ mv = .int .i64 (n : Int) ∧ Hid (M.km s.data.toList Ls.length x st2 = (k, n, st3) ∧ Rx w' R pv s P st3 ∧ w.grownBy w' (some R) ∧ Bk w' p #[.int .i64 (at0 + 1 + (d : Int)), .slice none 0 0, .slice none 0 0] 29 ∧ Bk w' w.heap.size #[.int .i64 at0, .slice ad Ls.length lcap, .slice sd sn sc] 29 ∧ Bk w' (w.heap.size + 1) #[.int .i64 0, .slice none 0 0, .slice none 0 0] 29))
        case first =>
          by_cases h255 : x = 255
          · have f1 : (((x : Int) == 255) : Bool) = true := by rw [h255]; rfl
            have hk : M.km s.data.toList Ls.length x st2 = (0, M.rd s.data.toList 2 st2) := by unfold M.km; rw [if_pos h255]
            have HU := hide (U16_any R pv s P st2 _ hr5 hs)
            have hy := M.rd2 s.data.toList st2
            obtain ⟨y, st3, hT⟩ : ∃ y st3, M.rd s.data.toList 2 st2 = (y, st3) := ⟨_, _, rfl⟩
            rw [hT] at HU hk hy
            simp only at HU hy
            have Hk := hide hk
            clear hT hk h255 hkm hkp
            go_wp2_with fail
            refine (unhide HU).mono ?_
            rintro e w6 ⟨rfl, hr6, hg6⟩
            clear HU
            go_wp2
            go_meet
            exact ⟨0, y, st3, rfl, rfl, unhide Hk, hr6, grown_trans hg5 hg6, hp5.kept hg6 (by simp; omega), hA5.kept hg6 (by simp; omega), hQ5.kept hg6 (by simp; omega)⟩
          · have f1 : (((x : Int) == 255) : Bool) = false := by rw [beq_eq_false_iff_ne]; omega
            by_cases h251 : 251 < x
            · have f2 : (251 : Int) < (x : Int) := by omega
              have hk : M.km s.data.toList Ls.length x st2 = ((Ls.length : Int), x - 251, st2) := by unfold M.km; rw [if_neg h255, if_pos h251]
              have hsub : ((x - 251 : Nat) : Int) = (x : Int) - 251 := by omega
              have Hk := hide hk
              have Hs := hide hsub
              clear hk hsub h255 h251 hkm hkp
              go_wp2
              go_meet
              exact ⟨_, _, st2, rfl, by rw [unhide Hs], unhide Hk, hr5, hg5, hp5, hA5, hQ5⟩
            · have f2 : ¬ (251 : Int) < (x : Int) := by omega
              by_cases h247 : 247 < x
              · have f3 : (247 : Int) < (x : Int) := by omega
                have hk : M.km s.data.toList Ls.length x st2 = ((Ls.length : Int) - (251 - (x : Int)), 0, st2) := by unfold M.km; rw [if_neg h255, if_neg h251, if_pos h247]
                have Hk := hide hk
                clear hk h255 h251 h247 hkm hkp
                go_wp2
                go_meet
                exact ⟨_, 0, st2, rfl, rfl, unhide Hk, hr5, hg5, hp5, hA5, hQ5⟩
              · have f3 : ¬ (247 : Int) < (x : Int) := by omega
                have hk : M.km s.data.toList Ls.length x st2 = ((Ls.length : Int), 0, st2) := by unfold M.km; rw [if_neg h255, if_neg h251, if_neg h247]
                have Hk := hide hk
                clear hk h255 h251 h247 hkm hkp
                go_wp2
                go_meet
                exact ⟨_, 0, st2, rfl, rfl, unhide Hk, hr5, hg5, hp5, hA5, hQ5⟩
        case rest =>
          clear hp5 hr5 hg5 hA5 hQ5 k1
          obtain ⟨k, n, st3, rfl, rfl, H6⟩ := hcut
          obtain ⟨hK, hr6, hg6, hp6, hA6, hQ6⟩ := unhide H6
          have hbd : M.bodyP s.data.toList P Ls x q st2 = M.tailP s.data.toList P Ls x k n (M.s4 k q st3) := by unfold M.bodyP; rw [hK]
          rw [hK] at hkm hkp
          simp only at hkm hkp
          have hkb := M.km_le (s := s.data.toList) (len := Ls.length) (x := x) (st := st2)
          rw [hK] at hkb
          simp only at hkb
          rw [hbd] at HFP
          clear H6 hK hbd
          go_upto_if 62 with fail
          go_cut [] (fun w' => Hid (Rx w' R pv s P (M.s4 k q st3) ∧ w.grownBy w' (some R) ∧ Bk w' p #[.int .i64 (at0 + 1 + (d : Int)), .slice none 0 0, .slice none 0 0] 29 ∧ Bk w' w.heap.size #[.int .i64 at0, .slice ad Ls.length lcap, .slice sd sn sc] 29 ∧ Bk w' (w.heap.size + 1) #[.int .i64 0, .slice none 0 0, .slice none 0 0] 29))
          case first =>
            by_cases h0 : k < 0
            · have HF := hide (Fl_any R pv s P st3 _ hr6 17 q)
              rw [show M.fail st3 17 q = M.s4 k q st3 by unfold M.s4; rw [if_pos h0]] at HF
              go_wp2_with fail
              refine (unhide HF).mono ?_
              rintro e w7 ⟨rfl, hr7, hg7⟩
              clear HF
              go_wp2
              go_meet
              exact ⟨hr7, grown_trans hg6 hg7, hp6.kept hg7 (by simp; omega), hA6.kept hg7 (by simp; omega), hQ6.kept hg7 (by simp; omega)⟩
            · have Hst := hide (show M.s4 k q st3 = st3 by unfold M.s4; rw [if_neg h0])
              go_wp2
              go_meet
              exact ⟨by rw [unhide Hst]; exact hr6, hg6, hp6, hA6, hQ6⟩
          case rest =>
            clear hr6 hg6 hp6 hA6 hQ6
            obtain ⟨hr7, hg7, hp7, hA7, hQ7⟩ := unhide hcut
            clear hcut
            have hk0 : (M.s4 k q st3).e = 0 → 0 ≤ k := fun h => by
              rcases Int.lt_or_le k 0 with g | g
              · unfold M.s4 at h; rw [if_pos g] at h; exact absurd h (M.fail_e (by decide))
              · exact g
            generalize M.s4 k q st3 = s4 at *
            have HG := hide (Gd_any R pv s P s4 _ hr7)
            go_wp2_with fail
            refine (unhide HG).mono ?_
            rintro e w8 ⟨rfl, hw8⟩
            subst hw8
            clear HG
            by_cases he4 : s4.e = 0
            · rw [decide_eq_true he4]
              obtain ⟨m, rfl⟩ : ∃ m : Nat, k = (m : Int) := ⟨k.toNat, by have := hk0 he4; omega⟩
              have hml : m ≤ Ls.length := by omega
              have hmc : m ≤ lcap := by omega
              have k1 := hA7.cell 1
              simp at k1
              rw [M.tailP_ok he4, Int.toNat_natCast] at HFP
              have hT7 := ((unhide HL).kept hg7 (fun hp b o n c e => by have := unhide HN hp b o n c e; simpa using this)).take (cap' := lcap) m hml
              have HTy := hide (types_any R pv (.slice ad m lcap) s P (Ls.take m) n s4 _ hr7 hs hP hkm (by simp; omega) hT7)
              obtain ⟨L5, st5, h5⟩ : ∃ L5 st5, M.vals s.data.toList P n s4 = (L5, st5) := ⟨_, _, rfl⟩
              rw [h5] at HTy HFP
              simp only at HTy HFP
              have hh := hgt_lt s.data.toList x st5
              have HHt := hide (fun (W : World) (hr : Rx W R pv s P st5) => height_any R pv s P x st5 W hr hs)
              obtain ⟨y, st6, h6⟩ : ∃ y st6, M.hgt s.data.toList x st5 = (y, st6) := ⟨_, _, rfl⟩
              rw [h6] at HHt hh HFP
              simp only at HHt hh HFP
              have HTz := hide (fun (W : World) (hr : Rx W R pv s P st6) => types_any R pv (.slice none 0 0) s P [] y st6 W hr hs hP (by omega) (by simp) (TIn.nil W none 0))
              simp only [List.nil_append] at HTz
              obtain ⟨S7, st7, h7⟩ : ∃ S7 st7, M.vals s.data.toList P y st6 = (S7, st7) := ⟨_, _, rfl⟩
              rw [h7] at HTz HFP
              simp only at HTz HFP
              obtain ⟨hsF, hFF⟩ := unhide HFP
              have HsF := hide hsF
              have HFF := hide hFF
              have HT7 := hide hT7
              have h65 : st7.e = 0 → st5.e = 0 := fun h => by
                have a := M.vals_good (s := s.data.toList) (P := P) (n := y) (st := st6) (by rw [h7]; exact h)
                by_cases g : st5.e = 0
                · exact g
                · have b := M.hgt_bad (s := s.data.toList) (x := x) g
                  rw [h6] at b
                  simp only at b
                  rw [b] at a; exact a
              have H65 := hide h65
              generalize Ls.take m = Lm at *
              clear hk0 hkb he4 hT7 h5 h6 h7 HFP hsF hFF h65 hA7
              go_wp2_with fail
              refine (unhide HTy).mono ?_
              rintro e w9 ⟨v9, rfl, hr9, hg9, ho9, af, nf, cf, hf9⟩
              subst hf9
              have hz8 := hg7.size
              have hp9 := hp7.kept hg9 (by simp; omega)
              have hQ9 := hQ7.kept hg9 (by simp; omega)
              have hgw9 := grown_trans hg7 hg9
              have j1 := hp9.cell 1
              simp at j1
              have jf := hp9.frozen 1
              have hpl := hp7.lt
              obtain ⟨W, hW⟩ : ∃ W, W = w9.setCell ⟨p, 1, none⟩ (.slice af nf cf) := ⟨_, rfl⟩
              have hgW : w.grownBy W (some R) := by rw [hW]; exact grown_new hgw9 (by omega) 1 _
              have hrW : Rx W R pv s P st5 := (unhide H0).step (by rw [hW]; exact hr9.rd.other 1 _ (by omega)) hgW hr9.pos
              have hpW : Bk W p #[.int .i64 (at0 + 1 + (d : Int)), .slice af nf cf, .slice none 0 0] 29 := by rw [hW]; exact hp9.set 1 _
              have hQW : Bk W (w.heap.size + 1) #[.int .i64 0, .slice none 0 0, .slice none 0 0] 29 := by rw [hW]; exact hQ9.other 1 _ (by omega)
              have hoW : st5.e = 0 → W.ownsRow w8.heap.size 76 3 (.slice af nf cf) (Lm ++ L5).length (TC (Lm ++ L5)) := fun h => by rw [hW]; exact own_set (ho9 h) hpl 1 _
              have hR8 : R < w8.heap.size := by omega
              have HW := hide hW
              clear HTy hr9 hg9 ho9 hgw9 hp9 hQ9 hW hp7 hQ7 k1
              go_upto_region 17 with fail
              rw [← unhide HW]
              clear HW j1 jf
              go_wp2_with fail
              refine (unhide HHt _ hrW).mono ?_
              rintro e wh ⟨rfl, hrh, hgh⟩
              have hph := hpW.kept hgh (by simp; omega)
              have hQh := hQW.kept hgh (by simp; omega)
              have hgwh := grown_trans hgW hgh
              have hoh := fun h => own_grown (hoW h) hgh hR8
              clear HHt hpW hQW hgW hoW hrW hgh
              go_wp2_with fail
              refine (unhide HTz _ hrh).mono ?_
              rintro e wt ⟨vt, rfl, hrt, hgt, hot, ag, ng, cg, hft⟩
              subst hft
              have hpt := hph.kept hgt (by simp; omega)
              have hQt := hQh.kept hgt (by simp; omega)
              have hgwt := grown_trans hgwh hgt
              have hol := fun h => own_grown (hoh h) hgt hR8
              have hzh := hgwh.size
              have j2 := hpt.cell 2
              simp at j2
              have jf2 := hpt.frozen 2
              have hdis : st7.e = 0 → ∀ b, (Value.slice af nf cf).ownBlock = some b → (Value.slice ag ng cg).ownBlock ≠ some b := fun h b hb hb2 => by
                have q1 := ((hoh (unhide H65 h)).lt b hb).2
                have q2 := ((hot h).lt b hb2).1
                omega
              obtain ⟨W2, hW2⟩ : ∃ W2, W2 = wt.setCell ⟨p, 2, none⟩ (.slice ag ng cg) := ⟨_, rfl⟩
              have hphl := hph.lt
              have hgW2 : w.grownBy W2 (some R) := by rw [hW2]; exact grown_new hgwt (by omega) 2 _
              have hrW2 : Rd W2 R pv s st7 := by rw [hW2]; exact hrt.rd.other 2 _ (by omega)
              have hpW2 : Bk W2 p #[.int .i64 (at0 + 1 + (d : Int)), .slice af nf cf, .slice ag ng cg] 29 := by rw [hW2]; exact hpt.set 2 _
              have hQW2 : Bk W2 (w.heap.size + 1) #[.int .i64 0, .slice none 0 0, .slice none 0 0] 29 := by rw [hW2]; exact hQt.other 2 _ (by omega)
              have hoS : st7.e = 0 → W2.ownsRow w.heap.size 76 3 (.slice ag ng cg) S7.length (TC S7) := fun h => by rw [hW2]; exact own_mono (own_set (hot h) hphl 2 _) hzh
              have hoL : st7.e = 0 → W2.ownsRow w.heap.size 76 3 (.slice af nf cf) (Lm ++ L5).length (TC (Lm ++ L5)) := fun h => by
                rw [hW2]
                exact own_mono (own_set (hol (unhide H65 h)) hpl 2 _) hz8
              have HW2 := hide hW2
              have hps7 : st7.pos ≤ s.data.toList.length := hrt.pos
              clear HTz hrh hph hQh hgwh hoh hgt hot hpt hQt hgwt hol hW2 hrt
              go_upto_region 18 with fail
              rw [← unhide HW2]
              clear HW2 j2 jf2
              have k0 := hpW2.cell 0
              have k1 := hpW2.cell 1
              have k2 := hpW2.cell 2
              have q0 := hQW2.cell 0
              have q1 := hQW2.cell 1
              have q2 := hQW2.cell 2
              have qf := hQW2.frozen
              simp at k0 k1 k2 q0 q1 q2
              have HE := hide (end3 (unhide H0) hgW2 hrW2 hps7 hQW2 (by omega) (.int .i64 (at0 + 1 + (d : Int))) (.slice af nf cf) (.slice ag ng cg))
              have HZ := hide (fun (h : st7.e = 0) => (⟨own_off (hoL h) hQW2, own_off (hoS h) hQW2⟩ : (Value.slice af nf cf).ownBlock ≠ some (w.heap.size + 1) ∧ (Value.slice ag ng cg).ownBlock ≠ some (w.heap.size + 1)))
              have HoL := hide hoL
              have HoS := hide hoS
              clear hpW2 hQW2 hgW2 hrW2 hoL hoS
              go_wp2
              obtain ⟨e1, e2, e3⟩ := unhide HE
              refine bodyPost_ret (results_cell_row Try.results58 _ _ (w.heap.size + 1) 29 _ (0, 0) _ rfl e1 Try.underlying29 rfl (by kernel_rfl)) rfl ?_
              refine ⟨_, _, _, _, _, _, _, rfl, by rw [← unhide HsF]; exact e2, e3, fun h => ?_⟩
              have h7 : st7.e = 0 := by rw [unhide HsF]; exact h
              have hF := congrArg Prod.fst (unhide HFF h7)
              simp only at hF
              rw [← hF]
              have z := unhide HZ h7
              exact ⟨rfl, own_set3 (unhide HoL h7) z.1, own_set3 (unhide HoS h7) z.2, hdis h7⟩
            · rw [decide_eq_false he4]
              have hsF : stF = s4 := by have := (unhide HFP).1; rw [M.tailP_bad he4] at this; exact this.symm
              have He4 := hide he4
              have HsF := hide hsF
              clear he4 hsF HFP hk0
              have k0 := hp7.cell 0
              have k1 := hp7.cell 1
              have k2 := hp7.cell 2
              have q0 := hQ7.cell 0
              have q1 := hQ7.cell 1
              have q2 := hQ7.cell 2
              have qf := hQ7.frozen
              simp at k0 k1 k2 q0 q1 q2
              have HE := hide (end3 (unhide H0) hg7 hr7.rd hr7.pos hQ7 (by omega) (.int .i64 (at0 + 1 + (d : Int))) (.slice none 0 0) (.slice none 0 0))
              clear hp7 hQ7 hA7
              go_wp2
              obtain ⟨e1, e2, e3⟩ := unhide HE
              refine bodyPost_ret (results_cell_row Try.results58 _ _ (w.heap.size + 1) 29 _ (0, 0) _ rfl e1 Try.underlying29 rfl (by kernel_rfl)) rfl ?_
              exact ⟨_, _, _, _, _, _, _, rfl, by rw [unhide HsF]; exact e2, e3, fun h => absurd (by rw [unhide HsF] at h; exact h) (unhide He4)⟩
end Go.Proofs.Ytgihfcjddkpkaaa
