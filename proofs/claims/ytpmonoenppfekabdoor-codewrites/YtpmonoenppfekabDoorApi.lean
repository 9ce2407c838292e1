/-
  appendIns: an instruction with which nothing is wrong, behind bytes.
-/
import Derived.Test.YtpmonoenppfekabDoorAps
import Derived.Test.YtpmonoenppfekabDoorRound
namespace Go.Proofs.YtpmonoenppfekabDoor
open Go.RowKit
theorem u8_nat {n : Nat} (h : n < 256) : ((UInt8.ofNat n).toNat : Int) = (n : Int) := by
  rw [UInt8.toNat_ofNat']; omega
theorem ops_switch {g : G} (h : M.hasOps g = true) (hk : M.kindW g.op g.wide = 15 ∨ M.kindW g.op g.wide = 16) : 1 ≤ g.tgts.length ∧ (M.kindW g.op g.wide = 16 → g.tgts.length = g.keys.length + 1) ∧ (M.kindW g.op g.wide = 15 → -2147483648 ≤ g.low ∧ g.low ≤ 2147483647) := by
  unfold M.hasOps at h
  rcases hk with hk | hk
  · rw [if_pos hk, Bool.and_eq_true] at h
    obtain ⟨h1, _⟩ := h
    unfold M.hasTable at h1
    simp only [Bool.and_eq_true, decide_eq_true_eq] at h1
    obtain ⟨a, b, _⟩ := h1
    refine ⟨by omega, fun e => by omega, fun _ => ?_⟩
    unfold M.holds M.fw at b
    simp at b
    exact b
  · rw [if_neg (by omega), if_pos hk, Bool.and_eq_true] at h
    obtain ⟨h1, _⟩ := h
    unfold M.hasKeys at h1
    simp only [Bool.and_eq_true, decide_eq_true_eq] at h1
    exact ⟨by omega, fun _ => h1.1, fun e => by omega⟩
/-- The second half: behind the number. -/
theorem enc1_eq (g : G) (n : Nat) (l : List UInt8) (hn : n = l.length) : l ++ M.enc1 g n = (l ++ (if g.wide then [196] else []) ++ [UInt8.ofNat g.op]) ++ (if M.kindW g.op g.wide = 15 then M.swB g (l ++ (if g.wide then [196] else []) ++ [UInt8.ofNat g.op]).length false else if M.kindW g.op g.wide = 16 then M.swB g (l ++ (if g.wide then [196] else []) ++ [UInt8.ofNat g.op]).length true else M.plainB g (M.layOf (M.kindW g.op g.wide))) := by
  unfold M.enc1
  cases g.wide <;> simp [hn]
set_option maxRecDepth 100000 in
set_option maxHeartbeats 4000000 in
theorem appendIns_any (c : V) (W0 w : World) (v : Value) (l : List UInt8) (hwr : Wr W0 w v l) (hw : Wd W0) (h : c.Ok W0) (hl : l.length ≤ 69000) (ht : c.g.tgts.length ≤ 100000) (hops : M.hasOps c.g = true) (hcap : ∀ ad n cap, c.tv = .slice ad n cap → n ≤ cap) :
    Calls Tryd.prog 39 #[v, c.val] w fun e w' => ∃ v', e = .returned v' ∧ Wr W0 w' v' (l ++ M.enc1 c.g l.length) ∧ Fr W0.heap.size w w' := by
  obtain ⟨i0, hi, hz0, hz1, hz2⟩ := info_parts Tryd.info5
  have hop := h.op
  have hsw := ops_switch hops
  have hcS := fun (k : Nat) (hk : k = 15 ∨ k = 16) (hke : k = M.kindW c.g.op c.g.wide) (w1 : World) (v1 : Value) (l1 : List UInt8) (hw1 : Wr W0 w1 v1 l1) (hl1 : l1.length ≤ 70000) =>
    appendSwitch_any c k hk W0 w1 v1 l1 hw1 hw h hl1 ht (hsw (by rw [← hke]; exact hk)).1 (fun e => (hsw (by rw [← hke]; exact hk)).2.1 (by rw [← hke]; exact e)) (fun e => (hsw (by rw [← hke]; exact hk)).2.2 (by rw [← hke]; exact e)) hcap
  have hcP := fun (L : Lay) (hL : L.a.size ≤ 4 ∧ L.b.size ≤ 4 ∧ L.z.size ≤ 4 ∧ L.t.size ≤ 4) (w1 : World) (v1 : Value) (l1 : List UInt8) (hw1 : Wr W0 w1 v1 l1) (hl1 : l1.length ≤ 70000) =>
    appendOperands_any c L W0 w1 v1 l1 hw1 h hl1 ht hL
  have hcN := fun (w1 : World) => kindOf_any c.g.op c.g.wide w1 hop
  have hcL := fun (k : Nat) (w1 : World) (hb : Below W0.heap.size W0 w1) => layoutOf_any k w1 (hw.below hb)
  obtain ⟨r, hr⟩ : ∃ r, r = l ++ M.enc1 c.g l.length := ⟨_, rfl⟩
  rw [← hr]
  rw [enc1_eq c.g l.length l rfl] at hr
  obtain ⟨at2, cap2, et, _⟩ := h.t
  obtain ⟨ak2, capk, ek, _⟩ := h.k
  obtain ⟨⟨at_, op, wide, a, b, low, keys, tgts⟩, kv, tv⟩ := c
  simp only at et ek hop hcN hr hcS hcP
  subst et
  subst ek
  obtain ⟨W1, hW1⟩ : ∃ W1, W1 = w.alloc (.cells #[.int .i64 at_, .int .u8 (op : Int), .bool wide, .int .i64 a, .int .i64 b, .int .i64 low, .slice ak2 keys.length capk, .slice at2 tgts.length cap2] 35) := ⟨_, rfl⟩
  have v1 : Vb W1 w.heap.size ⟨⟨at_, op, wide, a, b, low, keys, tgts⟩, .slice ak2 keys.length capk, .slice at2 tgts.length cap2⟩ := by rw [hW1]; exact heap_alloc_new w _
  have hs := hwr.old.size
  have f1 : Fr W0.heap.size w W1 := by rw [hW1]; exact (Fr.refl _ w).alloc hs _
  have r1 : Wr W0 W1 v l := by rw [hW1]; exact hwr.alloc _
  obtain ⟨p, ep⟩ : ∃ p, p = w.heap.size := ⟨_, rfl⟩
  rw [← ep] at v1
  simp only [V.val, V.arr] at hcS hcP ⊢
  have HS := hide hcS
  have HP := hide hcP
  have HN := hide hcN
  have HL := hide hcL
  have Hr := hide hr
  have R1 := hide r1
  have F1 := hide f1
  clear hcS hcP hcN hcL hr hsw hops h hcap r1 f1
  go_enter Tryd.func39, Tryd.ntmps39
  go_upto_region 1 with fail
  rw [← hW1, ← ep]
  clear hW1 ep hwr
  have z2 := v1.cell 2
  simp [V.arr] at z2
  go_upto_if 7 with fail
  go_cut [0] (fun v w' => Hid (Wr W0 w' v (l ++ (if wide then [196] else []))) ∧ Hid (Fr W0.heap.size W1 w') ∧ ∃ o n c, v = .slice o n c)
  case first =>
    obtain ⟨vo, vc, rfl⟩ := (unhide R1).form
    have hown := (unhide R1).own
    have hws := (unhide R1).old.size
    cases wide with
    | false =>
      go_wp2
      go_meet
      case rel => exact ⟨by unfold Hid; simpa using unhide R1, Fr.refl _ _, _, _, _, rfl⟩
    | true =>
      go_wp2_with (at_builtin; refine wpList_append_own_at _ rfl _ _ 69 rfl W0.heap.size 5 i0 (.int .u8 0) 1 1 Tryd.underlying69 hi hz0 hz1 hz2 rfl (by decide) (.slice vo l.length vc) l.length _ rfl (hown.alloc _) ⟨W1.heap.size, 0, none⟩ 1 1 [.int .u8 196] rfl rfl (cell_one_new _ _ _) (by intro u hu; simp at hu; subst hu; rfl) (by unfold maxLen; omega) (by omega) (by simp; omega) ?_; intro v' w5 hown' hgrow _ _)
      obtain ⟨r5, f5⟩ := (unhide R1).byte (b := 196) hown' hgrow
      obtain ⟨o5, c5, e5⟩ := r5.form
      go_meet
      case rel => exact ⟨r5, f5, _, _, _, e5⟩
  case rest =>
    obtain ⟨HW2, HF2, vo, vn, vc, rfl⟩ := hcut
    have hW2 := unhide HW2
    obtain ⟨Z, eZ⟩ : ∃ Z, Z = l ++ (if wide then [196] else []) := ⟨_, rfl⟩
    have hZl : Z.length ≤ 69001 := by rw [eZ]; cases wide <;> simp <;> omega
    rw [← eZ] at hW2
    have HeZ := hide eZ
    obtain ⟨o1, c1, e1⟩ := hW2.form
    cases e1
    have hown := hW2.own
    have hws := hW2.old.size
    have vr2 := v1.fr (unhide HF2)
    have y1 := vr2.cell 1
    simp [V.arr] at y1
    have HWZ := hide hW2
    clear eZ hW2 HW2 z2
    go_upto_region 4 with (at_builtin; refine wpList_append_own_at _ rfl _ _ 69 rfl W0.heap.size 5 i0 (.int .u8 0) 1 1 Tryd.underlying69 hi hz0 hz1 hz2 rfl (by decide) (.slice vo Z.length vc) Z.length _ rfl (hown.alloc _) ⟨wc.heap.size, 0, none⟩ 1 1 [.int .u8 (op : Int)] rfl rfl (cell_one_new _ _ _) (by intro u hu; simp at hu; subst hu; rfl) (by unfold maxLen; omega) (by omega) (by simp; omega) ?_; intro v' w5 hown' hgrow _ _)
    obtain ⟨r5, f5⟩ := (unhide HWZ).byte (b := UInt8.ofNat op) (by rw [u8_nat hop]; exact hown') hgrow
    rw [unhide HeZ] at r5
    obtain ⟨Y, eY⟩ : ∃ Y, Y = l ++ (if wide then [196] else []) ++ [UInt8.ofNat op] := ⟨_, rfl⟩
    have hYl : Y.length ≤ 69002 := by rw [eY]; cases wide <;> simp <;> omega
    rw [← eY] at r5 Hr
    obtain ⟨o5, c5, e5⟩ := r5.form
    subst e5
    have R5 := hide r5
    have vr5 := vr2.fr f5
    have F5 := hide (((unhide F1).trans (unhide HF2)).trans f5)
    have HeY := hide eY
    obtain ⟨k, hk⟩ : ∃ k, k = M.kindW op wide := ⟨_, rfl⟩
    rw [← hk] at HN Hr HS
    have Hk := hide hk
    clear eY hown' hgrow hown HWZ HeZ y1 r5 f5 hk
    have z0 := vr5.cell 0
    have z1 := vr5.cell 1
    have z2 := vr5.cell 2
    have z3 := vr5.cell 3
    have z4 := vr5.cell 4
    have z5 := vr5.cell 5
    have z6 := vr5.cell 6
    have z7 := vr5.cell 7
    simp [V.arr] at z0 z1 z2 z3 z4 z5 z6 z7
    go_wp2_with fail
    refine (unhide HN _).mono ?_
    clear HN
    rintro e w6 ⟨rfl, hww⟩
    subst w6
    by_cases h15 : k = 15
    · have hb : (((k : Nat) : Int) == 15) = true := by rw [beq_iff_eq]; omega
      have HC := hide (unhide HS k (.inl h15) rfl _ _ _ (unhide R5) (by omega))
      have hr := unhide Hr
      rw [if_pos h15] at hr
      have hd : decide (k = 16) = false := by rw [decide_eq_false_iff_not]; omega
      rw [hd] at HC
      have Hr2 := hide hr
      clear hr Hr HS HP HL h15 hd
      go_wp2_with fail
      refine (unhide HC).mono ?_
      clear HC
      rintro e w7 ⟨v7, rfl, r7, f7⟩
      rw [← unhide Hr2] at r7
      go_wp2
      go_ret
      exact ⟨_, rfl, r7, (unhide F5).trans f7⟩
    · have hb : (((k : Nat) : Int) == 15) = false := by rw [beq_eq_false_iff_ne]; omega
      by_cases h16 : k = 16
      · have hb2 : (((k : Nat) : Int) == 16) = true := by rw [beq_iff_eq]; omega
        have HC := hide (unhide HS k (.inr h16) rfl _ _ _ (unhide R5) (by omega))
        have hr := unhide Hr
        rw [if_neg h15, if_pos h16] at hr
        have hd : decide (k = 16) = true := by rw [decide_eq_true_eq]; exact h16
        rw [hd] at HC
        have Hr2 := hide hr
        clear hr Hr HS HP HL h15 h16 hd
        go_wp2_with fail
        refine (unhide HC).mono ?_
        clear HC
        rintro e w7 ⟨v7, rfl, r7, f7⟩
        rw [← unhide Hr2] at r7
        go_wp2
        go_ret
        exact ⟨_, rfl, r7, (unhide F5).trans f7⟩
      · have hb2 : (((k : Nat) : Int) == 16) = false := by rw [beq_eq_false_iff_ne]; omega
        have hr := unhide Hr
        rw [if_neg h15, if_neg h16] at hr
        have hls := M.layOf_sizes k
        have HC := hide (unhide HL k)
        obtain ⟨L, hL⟩ : ∃ L, L = M.layOf k := ⟨_, rfl⟩
        rw [← hL] at HC hr hls
        have Hr2 := hide hr
        have HD := hide (unhide HP L hls)
        have hpz : p < w5.heap.size := vr5.lt
        clear hr Hr HS HP HL h15 h16 hL hls
        have hWd := (unhide R5).drew
        have vrd : Vb w5.drew p _ := vr5
        go_wp2_with fail
        go_region_with (first
          | (go_at_call 57; refine (unhide HC _ hWd.old).mono ?_; rintro e w6 ⟨rfl, hb6⟩; have hW6 := hWd.below hb6; have vr6 := vrd.below hb6; have y0 := vr6.cell 0; have y1 := vr6.cell 1; have y2 := vr6.cell 2; have y3 := vr6.cell 3; have y4 := vr6.cell 4; have y5 := vr6.cell 5; have y6 := vr6.cell 6; have y7 := vr6.cell 7; simp [V.arr] at y0 y1 y2 y3 y4 y5 y6 y7)
          | (go_at_call 63; refine (unhide HD _ _ _ hW6 (by omega)).mono ?_; rintro e w7 ⟨v7, rfl, r7, f7⟩))
        all_goals
          rw [← unhide Hr2] at r7
          go_wp2
          go_ret
          have hs5 := (unhide R5).old.size
          have f6 : Fr W0.heap.size w5 w6 := Fr.drew (Fr.of_below (w := w5.drew) hs5 hb6)
          exact ⟨_, rfl, r7, (unhide F5).trans (f6.trans f7)⟩
end Go.Proofs.YtpmonoenppfekabDoor
