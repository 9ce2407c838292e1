/-
  Package maps: a writer's frame.
-/
import Derived.Test.YtgihfcjddkpkaaaWf
namespace Go.Proofs.Ytgihfcjddkpkaaa
open Go.RowKit Go.Maps
theorem TIn.drop {w : World} {ad ad' : Option Addr} {n cap cap' : Nat} {L : List T} (h : TIn w (.slice ad n cap) L) (k : Nat) (hk : k ≤ L.length) (ha : k < L.length → ∀ b o, ad = some ⟨b, o, none⟩ → ad' = some ⟨b, o + k * 3, none⟩) : TIn w (.slice ad' (L.length - k) cap') (L.drop k) := by
  obtain ⟨ad1, cap1, e, h1⟩ := h
  cases e
  refine ⟨ad', cap', by simp, fun hne => ?_⟩
  have hlt : k < L.length := by
    rcases Nat.lt_or_ge k L.length with g | g
    · exact g
    · rw [List.drop_of_length_le g] at hne; exact absurd rfl hne
  obtain ⟨b, o, e1, h2⟩ := h1 (by rintro rfl; simp at hlt)
  refine ⟨b, o + k * 3, ha hlt b o e1, fun j hj i hi => ?_⟩
  have hj' : k + j < L.length := by simp at hj; omega
  have := h2 (k + j) hj' i hi
  rw [show o + k * 3 + j * 3 + i = o + (k + j) * 3 + i by omega, this]
  congr 2
  simp [List.getD]
theorem vts_len {P : List K} : ∀ {L : List T} {b : List UInt8}, M.vts P L = .ok b → b.length ≤ 3 * L.length
  | [], b, h => by cases h; simp
  | t :: L, b, h => by
    rw [M.vts] at h
    cases hv : M.vt P t with
    | error e => rw [hv] at h; cases h
    | ok c =>
      rw [hv] at h
      simp only at h
      cases hw : M.vts P L with
      | error e => rw [hw] at h; cases h
      | ok d =>
        rw [hw] at h
        cases h
        have h1 := vt_len hv
        have h2 := vts_len hw
        simp only [List.length_append, List.length_cons]; omega
theorem Wt.drewN {w0 w : World} {W Kb Pb : Nat} {pv : Value} {P : List K} {l : List UInt8} (h : Wt w0 w W Kb Pb pv P l) (n : Nat) : Wt w0 (w.drewN n) W Kb Pb pv P l :=
  ⟨h.blk, h.kst, h.pb, ⟨h.bel.os, h.bel.tape, h.bel.output, h.bel.size, h.bel.block⟩, h.neW, h.geW, h.geK⟩
theorem Fw.drewN {W Kb : Nat} {a w : World} (h : Fw W Kb a w) (n : Nat) : Fw W Kb a (w.drewN n) := ⟨h.size, h.rest⟩
set_option maxRecDepth 100000 in
set_option maxHeartbeats 4000000 in
theorem wframe_any (w0 w : World) (W Kb Pb : Nat) (pv flv fsv alv asv : Value) (P : List K) (l : List UInt8) (f a : Fm) (h : Wt w0 w W Kb Pb pv P l) (hpool : KIn w0 pv P) (hP : P.length ≤ 1048576) (htx : Txt P)
    (hfl : TIn w0 flv f.locals) (hfs : TIn w0 fsv f.stack) (hal : TIn w0 alv a.locals) (has : ∃ ad n c, asv = .slice ad n c) (hcap : ∀ ad n c, flv = .slice ad n c → n ≤ c) (hokl : Tok f.locals) (hoks : Tok f.stack)
    (hll : f.locals.length ≤ 100000) (hls : f.stack.length ≤ 100000) (hla : a.locals.length ≤ 100000) (hl : l.length + 3 * f.locals.length + 3 * f.stack.length ≤ 800000) (ha : -1 ≤ a.at_) (ha2 : a.at_ ≤ 65535) :
    Calls Try.prog 30 #[.pointer (some ⟨W, 0, none⟩), .agg #[.int .i64 f.at_, flv, fsv], .agg #[.int .i64 a.at_, alv, asv]] w fun e w' => VtR w0 W Kb Pb pv P (M.frw P f a) l w e w' := by
  obtain ⟨i0, hi, hz0, hz1, hz2⟩ := info_parts Try.info5
  have H := hide h
  have hbs := h.bel.size
  have hbel := h.bel
  have HTfl := hide hfl
  have HTfs := hide hfs
  have HTal := hide hal
  obtain ⟨fad, fcap, e1, _⟩ := hfl
  have hfc := hcap _ _ _ e1
  obtain ⟨sad, scap, e2, _⟩ := hfs
  obtain ⟨aad, acap, e3, _⟩ := hal
  obtain ⟨tad, tn, tcap, e4⟩ := has
  subst e1 e2 e3 e4
  obtain ⟨wA, hwA⟩ : ∃ wA, wA = (w.alloc (.cells #[.int .i64 f.at_, .slice fad f.locals.length fcap, .slice sad f.stack.length scap] 29)).alloc (.cells #[.int .i64 a.at_, .slice aad a.locals.length acap, .slice tad tn tcap] 29) := ⟨_, rfl⟩
  have hWA : Wt w0 wA W Kb Pb pv P l := by rw [hwA]; exact (h.alloc _).alloc _
  have hFA : Fw W Kb w wA := by rw [hwA]; exact ((Fw.refl W Kb w).alloc _).alloc _
  obtain ⟨X, hX⟩ : ∃ X, X = w.heap.size := ⟨_, rfl⟩
  have hbX : Bk wA X #[.int .i64 f.at_, .slice fad f.locals.length fcap, .slice sad f.stack.length scap] 29 := by rw [hwA, hX]; exact (Bk.new _ _ _).alloc _
  have hbY : Bk wA (X + 1) #[.int .i64 a.at_, .slice aad a.locals.length acap, .slice tad tn tcap] 29 := by
    rw [hwA, hX]
    have := Bk.new (w.alloc (.cells #[.int .i64 f.at_, .slice fad f.locals.length fcap, .slice sad f.stack.length scap] 29)) #[.int .i64 a.at_, .slice aad a.locals.length acap, .slice tad tn tcap] 29
    simpa using this
  have hWl : W < w.heap.size := by obtain ⟨bv, hb, _⟩ := h.blk; exact hb.lt
  have hKl := h.kst.lt
  have hXW : X ≠ W := by omega
  have hXK : X ≠ Kb := by omega
  have hYW : X + 1 ≠ W := by omega
  have hYK : X + 1 ≠ Kb := by omega
  have x0 : wA.cell? ⟨X, 0, none⟩ = some (.int .i64 f.at_) := hbX.cell 0
  have x1 : wA.cell? ⟨X, 1, none⟩ = some (.slice fad f.locals.length fcap) := hbX.cell 1
  have x2 : wA.cell? ⟨X, 2, none⟩ = some (.slice sad f.stack.length scap) := hbX.cell 2
  have y0 : wA.cell? ⟨X + 1, 0, none⟩ = some (.int .i64 a.at_) := hbY.cell 0
  have y1 : wA.cell? ⟨X + 1, 1, none⟩ = some (.slice aad a.locals.length acap) := hbY.cell 1
  have HwA := hide hwA
  have HX := hide hX
  have HWA := hide hWA
  have HFA := hide hFA
  have HbX := hide hbX
  have HbY := hide hbY
  clear hwA hX hWA hFA hbX hbY h hcap
  by_cases hbad : f.at_ ≤ a.at_ ∨ 65535 < f.at_ ∨ 65535 < f.locals.length ∨ 65535 < f.stack.length
  · have Hr := hide (show M.frw P f a = .error 17 by unfold M.frw; rw [if_pos hbad])
    have hb2 : f.at_ ≤ a.at_ ∨ (¬ f.at_ ≤ a.at_ ∧ 65535 < f.at_) ∨ (¬ f.at_ ≤ a.at_ ∧ ¬ 65535 < f.at_ ∧ (65535 : Int) < (f.locals.length : Int)) ∨ (¬ f.at_ ≤ a.at_ ∧ ¬ 65535 < f.at_ ∧ ¬ (65535 : Int) < (f.locals.length : Int) ∧ (65535 : Int) < (f.stack.length : Int)) := by omega
    clear hbad
    rcases hb2 with g1 | ⟨g1, g2⟩ | ⟨g1, g2, g3⟩ | ⟨g1, g2, g3, g4⟩
    all_goals
      go_enter Try.func30, Try.ntmps30
      go_upto_region 1 with fail
      rw [← unhide HwA, ← unhide HX]
      clear HwA HX
      go_wp2
      go_ret
      exact ⟨17, rfl, (unhide HWA).bel, unhide HFA, .inr ⟨unhide Hr, by decide⟩⟩
  · have g1 : ¬ f.at_ ≤ a.at_ := fun g => hbad (.inl g)
    have g2 : ¬ 65535 < f.at_ := fun g => hbad (.inr (.inl g))
    have g3 : ¬ (65535 : Int) < (f.locals.length : Int) := by omega
    have g4 : ¬ (65535 : Int) < (f.stack.length : Int) := by omega
    obtain ⟨d, hd⟩ : ∃ d : Nat, (d : Int) = f.at_ - a.at_ - 1 := ⟨(f.at_ - a.at_ - 1).toNat, by omega⟩
    have hdt : (f.at_ - a.at_ - 1).toNat = d := by omega
    have hd6 : d ≤ 65535 := by omega
    have hshl := M.sh_le f.locals a.locals
    have HSh := hide (shared_any (.slice fad f.locals.length fcap) (.slice aad a.locals.length acap) f.locals a.locals wA ((unhide HTfl).below (unhide HWA).bel) ((unhide HTal).below (unhide HWA).bel) (by omega) (by omega))
    have hfr : M.frw P f a = (match M.vts P (f.locals.drop (if M.ftag f a = 255 then 0 else M.sh f.locals a.locals)) with
      | .error e => .error e
      | .ok b => match M.vts P f.stack with
        | .error e => .error e
        | .ok c => .ok (UInt8.ofNat (M.ftag f a) :: (if 247 ≤ M.ftag f a then M.big d 2 else []) ++ (if M.ftag f a = 255 then M.big f.locals.length 2 else []) ++ b ++ (if M.ftag f a = 255 then M.big f.stack.length 2 else []) ++ c)) := by
      unfold M.frw; rw [if_neg hbad, hdt]
      cases M.vts P (f.locals.drop (if M.ftag f a = 255 then 0 else M.sh f.locals a.locals)) with
      | error e => rfl
      | ok b => cases M.vts P f.stack <;> rfl
    have hft : M.ftag f a = M.form f.stack.length (a.locals.length - M.sh f.locals a.locals) (f.locals.length - M.sh f.locals a.locals) d := by unfold M.ftag; rw [hdt]
    obtain ⟨k, hk⟩ : ∃ k, k = M.sh f.locals a.locals := ⟨_, rfl⟩
    rw [← hk] at hft hfr hshl HSh
    have HFo := hide (fun (W1 : World) => formOf_any f.stack.length (a.locals.length - k) (f.locals.length - k) d W1 (by omega) (by omega) (by omega) (by omega))
    simp only [← hft] at HFo
    have htl : M.ftag f a < 256 := by rw [hft]; exact M.form_lt _ _ _ _
    obtain ⟨tg, htg⟩ : ∃ tg, tg = M.ftag f a := ⟨_, rfl⟩
    rw [← htg] at HFo hfr htl
    have Hfr := hide hfr
    have hdl : (a.locals.length - k : Nat) = (a.locals.length : Int) - (k : Int) := by omega
    have hdm : (f.locals.length - k : Nat) = (f.locals.length : Int) - (k : Int) := by omega
    rw [hdl, hdm] at HFo
    have hde : f.at_ - a.at_ - 1 = (d : Int) := hd.symm
    have Hde := hide hde
    clear hbad hd hdt hfr hft hk htg hdl hdm hde
    go_enter Try.func30, Try.ntmps30
    go_upto_region 1 with fail
    rw [← unhide HwA, ← unhide HX]
    clear HwA HX
    go_wp2_with fail
    refine (unhide HSh).mono ?_
    rintro e w1 ⟨rfl, n1, hw1⟩
    subst w1
    rw [unhide Hde]
    go_wp2_with fail
    refine (unhide HFo _).mono ?_
    rintro e w2 ⟨rfl, hw2⟩
    subst w2
    clear HSh HFo x0 x1 x2 y0 y1
    have hWB := (unhide HWA).drewN n1
    have hFB := (unhide HFA).drewN n1
    have hXB : Bk (wA.drewN n1) X #[.int .i64 f.at_, .slice fad f.locals.length fcap, .slice sad f.stack.length scap] 29 := unhide HbX
    generalize wA.drewN n1 = wB at *
    clear HWA HFA HbX HbY
    obtain ⟨bv, hb, ho⟩ := hWB.blk
    obtain ⟨bad, bc, ev⟩ := own5_slice ho
    subst ev
    have k0 : wB.cell? ⟨W, 0, none⟩ = some (.slice bad l.length bc) := hb.cell 0
    have hbsB := hWB.bel.size
    have HWB := hide hWB
    have HFB := hide hFB
    have HXB := hide hXB
    go_wp2_with (at_builtin; refine wpList_append_own_at _ rfl _ _ 67 rfl w0.heap.size 5 i0 (.int .u8 0) 1 1 Try.underlying67 hi hz0 hz1 hz2 rfl (by decide) _ l.length (U8 l) rfl (ho.alloc _) ⟨wB.heap.size, 0, none⟩ 1 1 [.int .u8 (tg : Int)] rfl rfl (cell_one wB _ 5) (one_u8 _) (by unfold maxLen; omega) (by omega) (by simp; omega) ?_)
    intro v' w3 hown' hgrow _ _
    have hf3 : Fb w0.heap.size wB w3 := fb_app (Fb.refl _ _) hbsB (ho.alloc _) hgrow
    obtain ⟨a3, c3, e3⟩ := own5_slice hown'
    subst e3
    have hb3 := hb.fb hf3 (by decide)
    have k3 : w3.cell? ⟨W, 0, none⟩ = some (.slice bad l.length bc) := hb3.cell 0
    have kf3 := hb3.frozen 0
    have ho3 : w3.ownsRow w0.heap.size 5 1 (.slice a3 (l.length + 1) c3) (l ++ [UInt8.ofNat tg]).length (U8 (l ++ [UInt8.ofNat tg])) := by rw [U8_one l tg htl, List.length_append]; exact hown'
    have hput := (unhide HWB).put hf3 ho3
    have hX3 := ((unhide HXB).fb hf3 (by decide)).other 0 (.slice a3 (l.length + 1) c3) hXW
    have HPu := hide hput
    have HX3 := hide hX3
    clear hput hX3 hown' hgrow hf3 ho3 hb3 hb ho hWB hFB hXB k0
    go_upto_if 71 with fail
    obtain ⟨w4, hw4⟩ : ∃ w4, w4 = w3.setCell ⟨W, 0, none⟩ (.slice a3 (l.length + 1) c3) := ⟨_, rfl⟩
    rw [← hw4] at HPu HX3 ⊢
    obtain ⟨hW4, hF4⟩ := unhide HPu
    have hF4 := (unhide HFB).trans hF4
    have hX4 := unhide HX3
    clear hw4 HPu HX3 HWB HFB HXB k3 kf3
    obtain ⟨l1, hl1⟩ : ∃ l1, l1 = l ++ [UInt8.ofNat tg] := ⟨_, rfl⟩
    rw [← hl1] at hW4
    have hl1l : l1.length = l.length + 1 := by rw [hl1]; simp
    obtain ⟨l2, hl2⟩ : ∃ l2, l2 = l1 ++ (if 247 ≤ tg then M.big d 2 else []) := ⟨_, rfl⟩
    have hl2l : l2.length ≤ l.length + 3 := by
      rw [hl2]; split
      · simp [M.big_len]; omega
      · simp; omega
    go_cut [] (fun w' => Hid (Wt w0 w' W Kb Pb pv P l2 ∧ Fw W Kb w w' ∧ Bk w' X #[.int .i64 f.at_, .slice fad f.locals.length fcap, .slice sad f.stack.length scap] 29))
    case first =>
      by_cases h247 : 247 ≤ tg
      · have q1 : (247 : Int) ≤ (tg : Int) := by omega
        have HNu := hide (number_any w0 w4 W Kb Pb pv P l1 d hW4 (by omega) (by omega))
        rw [if_pos h247] at hl2
        rw [← hl2] at HNu
        clear h247 hl1 hl2 hl1l
        go_wp2_with fail
        refine (unhide HNu).mono ?_
        rintro e w5 ⟨rfl, hW5, hF5⟩
        clear HNu
        go_wp2
        go_meet
        exact ⟨hW5, hF4.trans hF5, hX4.fw hF5 (by decide) hXW hXK⟩
      · have q1 : ¬ (247 : Int) ≤ (tg : Int) := by omega
        rw [if_neg h247, List.append_nil] at hl2
        have Hl2 := hide hl2
        clear h247 hl1 hl2 hl1l
        go_wp2
        go_meet
        exact ⟨by rw [unhide Hl2]; exact hW4, hF4, hX4⟩
    case rest =>
      clear hW4 hF4 hX4
      obtain ⟨hW5, hF5, hX5⟩ := unhide hcut
      clear hcut
      have Hl1 := hide hl1
      have Hl2 := hide hl2
      clear hl1 hl2 hl1l
      obtain ⟨l3, hl3⟩ : ∃ l3, l3 = l2 ++ (if tg = 255 then M.big f.locals.length 2 else []) := ⟨_, rfl⟩
      have hl3l : l3.length ≤ l.length + 5 := by
        rw [hl3]; split
        · simp [M.big_len]; omega
        · simp; omega
      have x1 : wc.cell? ⟨X, 1, none⟩ = some (.slice fad f.locals.length fcap) := hX5.cell 1
      go_upto_if 76 with fail
      go_cut [8] (fun v w' => v = .int .i64 ((if tg = 255 then 0 else k : Nat) : Int) ∧ Hid (Wt w0 w' W Kb Pb pv P l3 ∧ Fw W Kb w w' ∧ Bk w' X #[.int .i64 f.at_, .slice fad f.locals.length fcap, .slice sad f.stack.length scap] 29))
      case first =>
        by_cases h255 : tg = 255
        · have q1 : (((tg : Int) == 255) : Bool) = true := by rw [h255]; rfl
          have HNu := hide (number_any w0 wc W Kb Pb pv P l2 f.locals.length hW5 (by omega) (by omega))
          rw [if_pos h255] at hl3
          rw [← hl3] at HNu
          have Hk := hide (show (if tg = 255 then 0 else k) = 0 by rw [if_pos h255])
          clear h255 hl3 hl3l
          go_wp2_with fail
          refine (unhide HNu).mono ?_
          rintro e w6 ⟨rfl, hW6, hF6⟩
          clear HNu
          go_wp2
          go_meet
          exact ⟨by rw [unhide Hk]; rfl, hW6, hF5.trans hF6, hX5.fw hF6 (by decide) hXW hXK⟩
        · have q1 : (((tg : Int) == 255) : Bool) = false := by rw [beq_eq_false_iff_ne]; omega
          rw [if_neg h255, List.append_nil] at hl3
          have Hk := hide (show (if tg = 255 then 0 else k) = k by rw [if_neg h255])
          have Hl3 := hide hl3
          clear h255 hl3 hl3l
          go_wp2
          go_meet
          exact ⟨by rw [unhide Hk], by rw [unhide Hl3]; exact hW5, hF5, hX5⟩
      case rest =>
        clear hW5 hF5 hX5 x1
        obtain ⟨rfl, H6⟩ := hcut
        obtain ⟨hW6, hF6, hX6⟩ := unhide H6
        clear H6
        have Hl3 := hide hl3
        clear hl3
        obtain ⟨j, hj⟩ : ∃ j, j = (if tg = 255 then 0 else k) := ⟨_, rfl⟩
        have hjl : j ≤ f.locals.length := by rw [hj]; split <;> omega
        rw [← hj] at Hfr ⊢
        have Hj := hide hj
        clear hj
        have ji : (j : Int) ≤ (f.locals.length : Int) := by omega
        have x1 : wc.cell? ⟨X, 1, none⟩ = some (.slice fad f.locals.length fcap) := hX6.cell 1
        have hl3k : l3.length + 3 * (f.locals.drop j).length ≤ 900000 := by simp; omega
        have hokd : Tok (f.locals.drop j) := fun t ht => hokl t (List.mem_of_mem_drop ht)
        have HTy := hide (fun (ad' : Option Addr) (c' : Nat) (hc' : j < f.locals.length → ∀ b o, fad = some ⟨b, o, none⟩ → ad' = some ⟨b, o + j * 3, none⟩) => wtypes_any w0 wc W Kb Pb pv (.slice ad' (f.locals.length - j) c') P l3 (f.locals.drop j) hW6 hpool hl3k hP htx ((unhide HTfl).drop j hjl hc') hokd)
        have HX6 := hide hX6
        have HF6 := hide hF6
        clear hW6 hX6 hF6
        go_upto_region 12 with fail
        go_cut [10] (fun v w' => ∃ z : Nat, v = .int .i64 (z : Int) ∧ Hid (Below w0.heap.size w0 w' ∧ Fw W Kb w w' ∧ Bk w' X #[.int .i64 f.at_, .slice fad f.locals.length fcap, .slice sad f.stack.length scap] 29 ∧ ((∃ b, M.vts P (f.locals.drop j) = .ok b ∧ z = 0 ∧ Wt w0 w' W Kb Pb pv P (l3 ++ b)) ∨ (M.vts P (f.locals.drop j) = .error z ∧ z ≠ 0))))
        case first =>
          go_wp2_with fail
          all_goals
            refine (unhide HTy _ _ ?hcc).mono ?_
            case hcc =>
              intro hlt b o e
              first
              | (subst e; simp [Addr.add_lit]; done)
              | omega
            rintro e w7 ⟨z, rfl, hb7, hF7, hres⟩
            try (have hfj : fcap = j := by assumption
                 subst hfj)
            go_wp2
            go_meet
            exact ⟨z, rfl, hb7, (unhide HF6).trans hF7, (unhide HX6).fw hF7 (by decide) hXW hXK, hres⟩
        case rest =>
          clear HTy HX6 HF6 x1 hl3k hokd
          obtain ⟨z, rfl, H7⟩ := hcut
          obtain ⟨hb7, hF7, hX7, hres⟩ := unhide H7
          clear H7
          rcases hres with ⟨bs, hv, rfl, hW7⟩ | ⟨hv, hz⟩
          · have hbl : bs.length ≤ 3 * f.locals.length := by
              have := vts_len hv
              have h2 : (f.locals.drop j).length ≤ f.locals.length := by simp
              omega
            have Hv := hide hv
            have x2 : wc.cell? ⟨X, 2, none⟩ = some (.slice sad f.stack.length scap) := hX7.cell 2
            obtain ⟨l4, hl4⟩ : ∃ l4, l4 = l3 ++ bs := ⟨_, rfl⟩
            rw [← hl4] at hW7
            have hl4l : l4.length ≤ l.length + 5 + 3 * f.locals.length := by rw [hl4]; simp; omega
            obtain ⟨l5, hl5⟩ : ∃ l5, l5 = l4 ++ (if tg = 255 then M.big f.stack.length 2 else []) := ⟨_, rfl⟩
            have hl5l : l5.length ≤ l.length + 7 + 3 * f.locals.length := by
              rw [hl5]; split
              · simp [M.big_len]; omega
              · simp; omega
            have Hl4 := hide hl4
            clear hv hl4
            go_upto_if 92 with fail
            go_cut [] (fun w' => Hid (Wt w0 w' W Kb Pb pv P l5 ∧ Fw W Kb w w' ∧ Bk w' X #[.int .i64 f.at_, .slice fad f.locals.length fcap, .slice sad f.stack.length scap] 29))
            case first =>
              by_cases h255 : tg = 255
              · have q1 : (((tg : Int) == 255) : Bool) = true := by rw [h255]; rfl
                have HNu := hide (number_any w0 wc W Kb Pb pv P l4 f.stack.length hW7 (by omega) (by omega))
                rw [if_pos h255] at hl5
                rw [← hl5] at HNu
                clear h255 hl5 hl5l
                go_wp2_with fail
                refine (unhide HNu).mono ?_
                rintro e w8 ⟨rfl, hW8, hF8⟩
                clear HNu
                go_wp2
                go_meet
                exact ⟨hW8, hF7.trans hF8, hX7.fw hF8 (by decide) hXW hXK⟩
              · have q1 : (((tg : Int) == 255) : Bool) = false := by rw [beq_eq_false_iff_ne]; omega
                rw [if_neg h255, List.append_nil] at hl5
                have Hl5 := hide hl5
                clear h255 hl5 hl5l
                go_wp2
                go_meet
                exact ⟨by rw [unhide Hl5]; exact hW7, hF7, hX7⟩
            case rest =>
              clear hW7 hF7 hX7 x2 hb7
              obtain ⟨hW8, hF8, hX8⟩ := unhide hcut
              clear hcut
              have Hl5 := hide hl5
              have x2 : wc.cell? ⟨X, 2, none⟩ = some (.slice sad f.stack.length scap) := hX8.cell 2
              have HTs := hide (wtypes_any w0 wc W Kb Pb pv (.slice sad f.stack.length scap) P l5 f.stack hW8 hpool (by omega) hP htx (unhide HTfs) hoks)
              have HF8 := hide hF8
              clear hl5 hW8 hF8 hX8
              go_wp2_with fail
              refine (unhide HTs).mono ?_
              rintro e w9 ⟨z, rfl, hb9, hF9, hres⟩
              clear HTs
              go_wp2
              go_ret
              refine ⟨z, rfl, hb9, (unhide HF8).trans hF9, ?_⟩
              rw [unhide Hfr, unhide Hv]
              rcases hres with ⟨cs, hv2, hz2', hW9⟩ | ⟨hv2, hz2'⟩
              · refine .inl ⟨_, by rw [hv2], hz2', ?_⟩
                have e5 : l5 ++ cs = l ++ (UInt8.ofNat tg :: (if 247 ≤ tg then M.big d 2 else []) ++ (if tg = 255 then M.big f.locals.length 2 else []) ++ bs ++ (if tg = 255 then M.big f.stack.length 2 else []) ++ cs) := by
                  rw [unhide Hl5, unhide Hl4, unhide Hl3, unhide Hl2, unhide Hl1]
                  simp only [List.append_assoc, List.cons_append, List.nil_append]
                rw [← e5]; exact hW9
              · exact .inr ⟨by rw [hv2], hz2'⟩
          · have Hv := hide hv
            have hz1' : (((z : Int) != 0) : Bool) = true := by simpa using hz
            have Hz := hide hz
            have Hb7 := hide hb7
            have HF7 := hide hF7
            clear hv hz hb7 hF7 hX7
            go_wp2
            go_ret
            exact ⟨z, rfl, unhide Hb7, unhide HF7, .inr ⟨by rw [unhide Hfr, unhide Hv], unhide Hz⟩⟩
end Go.Proofs.Ytgihfcjddkpkaaa
