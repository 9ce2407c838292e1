/-
  hasOperands and wrongIns.
-/
import Derived.Test.YtpmonoenppfekabDoorGv
namespace Go.Proofs.YtpmonoenppfekabDoor
open Go.RowKit
set_option maxRecDepth 100000 in
set_option maxHeartbeats 4000000 in
theorem hasOperands_any (c : V) (k : Nat) (hk : k = M.kindW c.g.op c.g.wide) (w : World) (hw : Wd w) (h : c.Ok w) : Calls Tryd.prog 61 #[c.val, .int .i64 (k : Int)] w fun e w' => e = .returned (.bool (M.hasOps c.g)) ∧ Below w.heap.size w w' := by
  have hcT := fun f (w1 : World) (hb : Below w.heap.size w w1) => hasTargets_any c f w1 (h.below hb)
  have hcA := fun (w1 : World) (hb : Below w.heap.size w w1) => hasTable_any c w1 (hw.below hb) (h.below hb)
  have hcK := fun (w1 : World) (hb : Below w.heap.size w w1) => hasKeys_any c w1 (hw.below hb) (h.below hb)
  have hcL := fun (w1 : World) (hb : Below w.heap.size w w1) => layoutOf_any k w1 (hw.below hb)
  obtain ⟨at2, cap2, et, ht⟩ := h.t
  obtain ⟨ak2, capk, ek, hkk⟩ := h.k
  have hlen := h.tl
  obtain ⟨⟨at_, op, wide, a, b, low, keys, tgts⟩, kv, tv⟩ := c
  simp only at et ek hlen hk
  subst et
  subst ek
  obtain ⟨W1, hW1⟩ : ∃ W1, W1 = w.alloc (.cells #[.int .i64 at_, .int .u8 (op : Int), .bool wide, .int .i64 a, .int .i64 b, .int .i64 low, .slice ak2 keys.length capk, .slice at2 tgts.length cap2] 35) := ⟨_, rfl⟩
  have v1 : Vb W1 w.heap.size ⟨⟨at_, op, wide, a, b, low, keys, tgts⟩, .slice ak2 keys.length capk, .slice at2 tgts.length cap2⟩ := by rw [hW1]; exact heap_alloc_new w _
  have b1 : Below w.heap.size w W1 := by rw [hW1]; exact (Below.refl _ _).alloc (Nat.le_refl _) _
  obtain ⟨r, hr⟩ : ∃ r, r = M.hasOps ⟨at_, op, wide, a, b, low, keys, tgts⟩ := ⟨_, rfl⟩
  simp only [V.val, V.arr] at hcT hcA hcK ⊢
  rw [← hr]
  obtain ⟨p, ep⟩ : ∃ p, p = w.heap.size := ⟨_, rfl⟩
  have v1p := v1
  rw [← ep] at v1p
  have hw1 := hw.below b1
  have HcT := hide hcT
  have HcA := hide hcA
  have HcK := hide hcK
  have HcL := hide hcL
  clear h ht hkk hw v1 hcT hcA hcK hcL
  unfold M.hasOps at hr
  simp only [← hk] at hr
  go_enter Tryd.func61, Tryd.ntmps61
  go_upto_region 1 with fail
  rw [← hW1, ← ep]
  clear hW1 ep
  have z0 := v1p.cell 0
  have z1 := v1p.cell 1
  have z2 := v1p.cell 2
  have z3 := v1p.cell 3
  have z4 := v1p.cell 4
  have z5 := v1p.cell 5
  have z6 := v1p.cell 6
  have z7 := v1p.cell 7
  simp [V.arr] at z0 z1 z2 z3 z4 z5 z6 z7
  by_cases h15 : k = 15
  · rw [if_pos h15] at hr
    have hb : (((k : Nat) : Int) == 15) = true := by rw [beq_iff_eq]; omega
    have Hr := hide hr
    clear hr hk h15
    go_wp2_with fail
    refine (unhide HcA _ b1).mono ?_
    rintro e w3 ⟨rfl, hb3⟩
    have c3 := b1.trans (hb3.mono b1.size)
    have v3 := v1p.below hb3
    clear z0 z1 z2 z3 z4 z5 z6 z7
    cases h1 : M.hasTable ⟨at_, op, wide, a, b, low, keys, tgts⟩ with
    | false =>
      have hrf : r = false := by rw [unhide Hr, h1]; simp
      subst hrf
      clear Hr h1
      go_wp2
      go_ret
      exact ⟨rfl, c3⟩
    | true =>
      have hrt : r = M.hasTgts ⟨at_, op, wide, a, b, low, keys, tgts⟩ M.fw := by rw [unhide Hr, h1]; simp
      have z0 := v3.cell 0
      have z1 := v3.cell 1
      have z2 := v3.cell 2
      have z3 := v3.cell 3
      have z4 := v3.cell 4
      have z5 := v3.cell 5
      have z6 := v3.cell 6
      have z7 := v3.cell 7
      simp [V.arr] at z0 z1 z2 z3 z4 z5 z6 z7
      obtain ⟨u0, u1, u2⟩ := hw1.below hb3
      have Hrt := hide hrt
      clear Hr h1 hrt
      go_wp2_with fail
      refine (unhide HcT M.fw _ c3).mono ?_
      rintro e w5 ⟨rfl, hb5⟩
      rw [← unhide Hrt]
      go_wp2
      go_ret
      exact ⟨rfl, c3.trans (hb5.mono c3.size)⟩
  · rw [if_neg h15] at hr
    have hb : (((k : Nat) : Int) == 15) = false := by rw [beq_eq_false_iff_ne]; omega
    by_cases h16 : k = 16
    · rw [if_pos h16] at hr
      have hb2 : (((k : Nat) : Int) == 16) = true := by rw [beq_iff_eq]; omega
      have Hr := hide hr
      clear hr hk h15 h16
      go_wp2_with fail
      refine (unhide HcK _ b1).mono ?_
      rintro e w3 ⟨rfl, hb3⟩
      have c3 := b1.trans (hb3.mono b1.size)
      have v3 := v1p.below hb3
      clear z0 z1 z2 z3 z4 z5 z6 z7
      cases h1 : M.hasKeys ⟨at_, op, wide, a, b, low, keys, tgts⟩ with
      | false =>
        have hrf : r = false := by rw [unhide Hr, h1]; simp
        subst hrf
        clear Hr h1
        go_wp2
        go_ret
        exact ⟨rfl, c3⟩
      | true =>
        have hrt : r = M.hasTgts ⟨at_, op, wide, a, b, low, keys, tgts⟩ M.fw := by rw [unhide Hr, h1]; simp
        have z0 := v3.cell 0
        have z1 := v3.cell 1
        have z2 := v3.cell 2
        have z3 := v3.cell 3
        have z4 := v3.cell 4
        have z5 := v3.cell 5
        have z6 := v3.cell 6
        have z7 := v3.cell 7
        simp [V.arr] at z0 z1 z2 z3 z4 z5 z6 z7
        obtain ⟨u0, u1, u2⟩ := hw1.below hb3
        have Hrt := hide hrt
        clear Hr h1 hrt
        go_wp2_with fail
        refine (unhide HcT M.fw _ c3).mono ?_
        rintro e w5 ⟨rfl, hb5⟩
        rw [← unhide Hrt]
        go_wp2
        go_ret
        exact ⟨rfl, c3.trans (hb5.mono c3.size)⟩
    · rw [if_neg h16] at hr
      have hb2 : (((k : Nat) : Int) == 16) = false := by rw [beq_eq_false_iff_ne]; omega
      obtain ⟨L, hL⟩ : ∃ L, L = M.layOf k := ⟨_, rfl⟩
      rw [← hL] at hr HcL
      have Hr := hide hr
      have HA := hide (fun w => holds_below L.a a w)
      have HB := hide (fun w => holds_below L.b b w)
      have HT := hide (unhide HcT L.t)
      simp only [F.val] at HA HB HT
      clear hr hk h15 h16 HcT HcA HcK hL z0 z1 z2 z4 z5 z6 z7
      go_wp2_with fail
      refine (unhide HcL _ b1).mono ?_
      clear HcL
      rintro e w1 ⟨rfl, hb1⟩
      have b1' := b1.trans (hb1.mono b1.size)
      have v1' := v1p.below hb1
      unfold Lay.val
      obtain ⟨W2, hW2⟩ : ∃ W2, W2 = w1.alloc (.cells #[.int .i64 (L.a.size : Int), .int .i64 L.a.low, .int .i64 L.a.high, .int .i64 (L.b.size : Int), .int .i64 L.b.low, .int .i64 L.b.high, .int .i64 (L.z.size : Int), .int .i64 L.z.low, .int .i64 L.z.high, .int .i64 (L.t.size : Int), .int .i64 L.t.low, .int .i64 L.t.high] 94) := ⟨_, rfl⟩
      have l2 : Lb W2 w1.heap.size L := by rw [hW2]; exact heap_alloc_new w1 _
      have b2 : Below w.heap.size w W2 := by rw [hW2]; exact b1'.alloc b1'.size _
      have v2 : Vb W2 p _ := v1'.below (by rw [hW2]; exact (Below.refl _ _).alloc (Nat.le_refl _) _)
      go_upto_region 7 with fail
      rw [← hW2]
      obtain ⟨lb, elb⟩ : ∃ lb, lb = w1.heap.size := ⟨_, rfl⟩
      rw [← elb] at l2 ⊢
      clear hW2 elb z3 v1p v1'
      have z3 := v2.cell 3
      have q0 := l2.cell 0
      have q1 := l2.cell 1
      have q2 := l2.cell 2
      have q9 := l2.cell 9
      simp [V.arr] at q0 q1 q2 q9 z3
      by_cases hts : L.t.size = 0
      · have htz : ¬ (0 : Int) < (L.t.size : Int) := by omega
        have Hts := hide hts
        clear hts
        go_wp2_with fail
        refine (unhide HA _).mono ?_
        rintro e w3 ⟨rfl, hb3⟩
        have c3 := b2.trans (hb3.mono b2.size)
        have v3 := v2.below hb3
        have l3 := l2.kept (grown_of_below hb3 none) (by simp)
        cases h1 : M.holds L.a a with
        | false =>
          have hrf : r = false := by rw [unhide Hr, h1]; simp
          subst hrf
          clear Hr h1
          go_wp2
          go_ret
          exact ⟨rfl, c3⟩
        | true =>
          have q3 := l3.cell 3
          have q4 := l3.cell 4
          have q5 := l3.cell 5
          have z4 := v3.cell 4
          simp [V.arr] at q3 q4 q5 z4
          go_wp2_with fail
          refine (unhide HB _).mono ?_
          rintro e w4 ⟨rfl, hb4⟩
          have c4 := c3.trans (hb4.mono c3.size)
          have v4 := v3.below hb4
          have l4 := l3.kept (grown_of_below hb4 none) (by simp)
          clear q3 q4 q5 z4
          cases h2 : M.holds L.b b with
          | false =>
            have hrf : r = false := by rw [unhide Hr, h2]; simp
            subst hrf
            clear Hr h1 h2
            go_wp2
            go_ret
            exact ⟨rfl, c4⟩
          | true =>
            have z7 := v4.cell 7
            simp [V.arr] at z7
            by_cases hl : tgts.length = 0
            · have hli : (((tgts.length : Nat) : Int) == 0) = true := by rw [beq_iff_eq]; omega
              have hrt : r = M.hasTgts ⟨at_, op, wide, a, b, low, keys, tgts⟩ L.t := by rw [unhide Hr, h1, h2, if_pos (unhide Hts)]; simp [hl]
              have z0 := v4.cell 0
              have z1 := v4.cell 1
              have z2 := v4.cell 2
              have z3 := v4.cell 3
              have z4 := v4.cell 4
              have z5 := v4.cell 5
              have z6 := v4.cell 6
              have q9 := l4.cell 9
              have q10 := l4.cell 10
              have q11 := l4.cell 11
              simp [V.arr] at z0 z1 z2 z3 z4 z5 z6 q9 q10 q11
              have Hrt := hide hrt
              have Hl := hide hl
              clear Hr h1 h2 hrt hl
              go_wp2_with fail
              refine (unhide HT _ c4).mono ?_
              rintro e w5 ⟨rfl, hb5⟩
              rw [← unhide Hrt]
              go_wp2
              go_ret
              exact ⟨rfl, c4.trans (hb5.mono c4.size)⟩
            · have hli : (((tgts.length : Nat) : Int) == 0) = false := by rw [beq_eq_false_iff_ne]; omega
              have hrf : r = false := by rw [unhide Hr, if_pos (unhide Hts)]; simp [hl]
              subst hrf
              clear Hr h1 h2 hl
              go_wp2
              go_ret
              exact ⟨rfl, c4⟩
      · have htz : (0 : Int) < (L.t.size : Int) := by omega
        have Hts := hide hts
        clear hts
        go_wp2_with fail
        refine (unhide HA _).mono ?_
        rintro e w3 ⟨rfl, hb3⟩
        have c3 := b2.trans (hb3.mono b2.size)
        have v3 := v2.below hb3
        have l3 := l2.kept (grown_of_below hb3 none) (by simp)
        cases h1 : M.holds L.a a with
        | false =>
          have hrf : r = false := by rw [unhide Hr, h1]; simp
          subst hrf
          clear Hr h1
          go_wp2
          go_ret
          exact ⟨rfl, c3⟩
        | true =>
          have q3 := l3.cell 3
          have q4 := l3.cell 4
          have q5 := l3.cell 5
          have z4 := v3.cell 4
          simp [V.arr] at q3 q4 q5 z4
          go_wp2_with fail
          refine (unhide HB _).mono ?_
          rintro e w4 ⟨rfl, hb4⟩
          have c4 := c3.trans (hb4.mono c3.size)
          have v4 := v3.below hb4
          have l4 := l3.kept (grown_of_below hb4 none) (by simp)
          clear q3 q4 q5 z4
          cases h2 : M.holds L.b b with
          | false =>
            have hrf : r = false := by rw [unhide Hr, h2]; simp
            subst hrf
            clear Hr h1 h2
            go_wp2
            go_ret
            exact ⟨rfl, c4⟩
          | true =>
            have z7 := v4.cell 7
            simp [V.arr] at z7
            by_cases hl : tgts.length = 1
            · have hli : (((tgts.length : Nat) : Int) == 1) = true := by rw [beq_iff_eq]; omega
              have hrt : r = M.hasTgts ⟨at_, op, wide, a, b, low, keys, tgts⟩ L.t := by rw [unhide Hr, h1, h2, if_neg (unhide Hts)]; simp [hl]
              have z0 := v4.cell 0
              have z1 := v4.cell 1
              have z2 := v4.cell 2
              have z3 := v4.cell 3
              have z4 := v4.cell 4
              have z5 := v4.cell 5
              have z6 := v4.cell 6
              have q9 := l4.cell 9
              have q10 := l4.cell 10
              have q11 := l4.cell 11
              simp [V.arr] at z0 z1 z2 z3 z4 z5 z6 q9 q10 q11
              have Hrt := hide hrt
              have Hl := hide hl
              clear Hr h1 h2 hrt hl
              go_wp2_with fail
              refine (unhide HT _ c4).mono ?_
              rintro e w5 ⟨rfl, hb5⟩
              rw [← unhide Hrt]
              go_wp2
              go_ret
              exact ⟨rfl, c4.trans (hb5.mono c4.size)⟩
            · have hli : (((tgts.length : Nat) : Int) == 1) = false := by rw [beq_eq_false_iff_ne]; omega
              have hrf : r = false := by rw [unhide Hr, if_neg (unhide Hts)]; simp [hl]
              subst hrf
              clear Hr h1 h2 hl
              go_wp2
              go_ret
              exact ⟨rfl, c4⟩
set_option maxRecDepth 100000 in
set_option maxHeartbeats 2000000 in
/-- WHAT IS WRONG WITH AN INSTRUCTION AT A PLACE. -/
theorem wrongIns_any (c : V) (n : Nat) (w : World) (hw : Wd w) (h : c.Ok w) : Calls Tryd.prog 38 #[c.val, .int .i64 (n : Int)] w fun e w' => e = .returned (.int .i64 ((M.wrong c.g n : Nat) : Int)) ∧ Below w.heap.size w w' := by
  have hcO := fun (w1 : World) (hb : Below w.heap.size w w1) => hasOperands_any c _ rfl w1 (hw.below hb) (h.below hb)
  have hcN := fun (w1 : World) => kindOf_any c.g.op c.g.wide w1 h.op
  obtain ⟨⟨at_, op, wide, a, b, low, keys, tgts⟩, kv, tv⟩ := c
  obtain ⟨at2, cap2, et, _⟩ := h.t
  obtain ⟨ak2, capk, ek, _⟩ := h.k
  simp only at et ek hcN hcO
  subst et
  subst ek
  obtain ⟨W1, hW1⟩ : ∃ W1, W1 = w.alloc (.cells #[.int .i64 at_, .int .u8 (op : Int), .bool wide, .int .i64 a, .int .i64 b, .int .i64 low, .slice ak2 keys.length capk, .slice at2 tgts.length cap2] 35) := ⟨_, rfl⟩
  have v1 : Vb W1 w.heap.size ⟨⟨at_, op, wide, a, b, low, keys, tgts⟩, .slice ak2 keys.length capk, .slice at2 tgts.length cap2⟩ := by rw [hW1]; exact heap_alloc_new w _
  have b1 : Below w.heap.size w W1 := by rw [hW1]; exact (Below.refl _ _).alloc (Nat.le_refl _) _
  obtain ⟨r, hr⟩ : ∃ r, r = M.wrong ⟨at_, op, wide, a, b, low, keys, tgts⟩ n := ⟨_, rfl⟩
  simp only [V.val, V.arr] at hcO ⊢
  rw [← hr]
  unfold M.wrong at hr
  simp only at hr
  obtain ⟨k, hk⟩ : ∃ k, k = M.kindW op wide := ⟨_, rfl⟩
  rw [← hk] at hcO hcN hr
  obtain ⟨o, ho⟩ : ∃ o, o = M.hasOps ⟨at_, op, wide, a, b, low, keys, tgts⟩ := ⟨_, rfl⟩
  rw [← ho] at hcO hr
  obtain ⟨p, ep⟩ : ∃ p, p = w.heap.size := ⟨_, rfl⟩
  have v1p := v1
  rw [← ep] at v1p
  have HcO := hide hcO
  have HcN := hide hcN
  clear h hw v1 hcO hcN hk ho
  go_enter Tryd.func38, Tryd.ntmps38
  go_upto_region 1 with fail
  rw [← hW1, ← ep]
  clear hW1 ep
  have z0 := v1p.cell 0
  have z1 := v1p.cell 1
  have z2 := v1p.cell 2
  have z3 := v1p.cell 3
  have z4 := v1p.cell 4
  have z5 := v1p.cell 5
  have z6 := v1p.cell 6
  have z7 := v1p.cell 7
  simp [V.arr] at z0 z1 z2 z3 z4 z5 z6 z7
  clear v1p
  by_cases hat : at_ = (n : Int)
  · have hb0 : (at_ != (n : Int)) = false := by rw [bne_eq_false_iff_eq]; exact hat
    rw [if_neg (by simpa using hat)] at hr
    by_cases h0 : k = 0
    · rw [if_pos h0] at hr
      have hb1 : (((k : Nat) : Int) == 0) = true := by rw [beq_iff_eq]; omega
      clear hat h0
      subst hr
      go_wp2_with fail
      refine (unhide HcN _).mono ?_
      rintro e w3 ⟨rfl, hww⟩
      subst w3
      go_wp2
      go_ret
      exact ⟨rfl, b1⟩
    · rw [if_neg h0] at hr
      have hb1 : (((k : Nat) : Int) == 0) = false := by rw [beq_eq_false_iff_ne]; omega
      clear hat h0
      have Hr := hide hr
      clear hr
      go_wp2_with fail
      refine (unhide HcN _).mono ?_
      rintro e w3 ⟨rfl, hww⟩
      subst w3
      go_wp2_with fail
      refine (unhide HcO _ b1).mono ?_
      rintro e w4 ⟨rfl, hb4⟩
      cases o with
      | false =>
        have hrf : r = 15 := by rw [unhide Hr]; simp
        subst hrf
        clear Hr
        go_wp2
        go_ret
        exact ⟨rfl, b1.trans (hb4.mono b1.size)⟩
      | true =>
        have hrf : r = 0 := by rw [unhide Hr]; simp
        subst hrf
        clear Hr
        go_wp2
        go_ret
        exact ⟨rfl, b1.trans (hb4.mono b1.size)⟩
  · have hb0 : (at_ != (n : Int)) = true := by rw [bne_iff_ne]; exact hat
    rw [if_pos (by simpa using hat)] at hr
    subst hr
    clear hat
    go_wp2_with fail
    refine (unhide HcN _).mono ?_
    rintro e w3 ⟨rfl, hww⟩
    subst w3
    go_wp2
    go_ret
    exact ⟨rfl, b1⟩
end Go.Proofs.YtpmonoenppfekabDoor
