/-
  encode of the reference: the other kinds.
-/
import Derived.Test.YtpmonoenppfekabDoorRea
namespace Go.Proofs.YtpmonoenppfekabDoor
open Go.RowKit
set_option maxRecDepth 100000 in
set_option maxHeartbeats 2000000 in
theorem refEnc_k8 (c : V) (n : Nat) (w : World) (h : c.Ok w) (hk : M.kindW c.g.op c.g.wide = 8) : Calls Tryd.prog 41 #[c.val, .string ⟨#[110]⟩] w fun e w' => REnc c n w e w' := by
  have hop := h.op
  have hwd : c.g.wide = false := wide_of (by rw [hk]; decide) (by rw [hk]; decide) (by rw [hk]; decide)
  have hops := plain_ops hk (by decide) (by decide)
  have henc := plain_enc1 (n := n) hk (by decide) (by decide)
  have hHB0 := fun (x : Int) (w : World) => bytes_any ⟨1, 0, 255⟩ (.inr (.inr (.inr (.inl rfl)))) x w
  have hHB1 := fun (x : Int) (w : World) => bytes_any ⟨1, -128, 127⟩ (.inl rfl) x w
  unfold REnc
  obtain ⟨r, hr⟩ : ∃ r, r = M.hasOps c.g := ⟨_, rfl⟩
  obtain ⟨Tx, hTx⟩ : ∃ Tx, Tx = M.enc1 c.g n := ⟨_, rfl⟩
  rw [← hr, ← hTx]
  rw [← hr] at hops
  rw [← hTx] at henc
  obtain ⟨at2, cap2, et, htc⟩ := h.t
  obtain ⟨ak2, capk, ek, hkc⟩ := h.k
  obtain ⟨⟨at_, op, wide, a, b, low, keys, tgts⟩, kv, tv⟩ := c
  simp only at et ek hwd hop hops henc htc
  subst et
  subst ek
  subst hwd
  have Hops := hide hops
  have Henc := hide henc
  have HB0 := hide hHB0
  have HB1 := hide hHB1
  obtain ⟨W1, hW1⟩ : ∃ W1, W1 = w.alloc (.cells #[.int .i64 at_, .int .u8 (op : Int), .bool false, .int .i64 a, .int .i64 b, .int .i64 low, .slice ak2 keys.length capk, .slice at2 tgts.length cap2] 35) := ⟨_, rfl⟩
  have v1 : Vb W1 w.heap.size ⟨⟨at_, op, false, a, b, low, keys, tgts⟩, .slice ak2 keys.length capk, .slice at2 tgts.length cap2⟩ := by rw [hW1]; exact heap_alloc_new w _
  have b1 : Below w.heap.size w W1 := by rw [hW1]; exact (Below.refl _ _).alloc (Nat.le_refl _) _
  obtain ⟨p, ep⟩ : ∃ p, p = w.heap.size := ⟨_, rfl⟩
  have v1p := v1
  rw [← ep] at v1p
  have hcv := bytes_new W1 [UInt8.ofNat op] #[.int .u8 (op : Int)] 1 (by simp only [List.map_cons, List.map_nil]; rw [u8_nat hop]) rfl
  have hb1' : Below W1.heap.size W1 (W1.alloc (.cells #[.int .u8 (op : Int)] 5)) := (Below.refl _ _).alloc (Nat.le_refl _) _
  have y1 := v1p.cell 1
  simp [V.arr] at y1
  obtain ⟨O, eO⟩ : ∃ O : ByteArray, O = ⟨([UInt8.ofNat op] : List UInt8).toArray⟩ := ⟨_, rfl⟩
  have hO : O.size = 1 := by rw [eO]; rfl
  rw [← eO] at hcv
  have HeO := hide eO
  simp only [V.val, V.arr]
  clear h htc hkc hr hTx v1 hops henc eO hk hHB0 hHB1
  go_enter Tryd.func41, Tryd.ntmps41
  go_upto_region 1 with fail
  rw [← hW1, ← ep]
  clear hW1 ep
  go_upto_region 2 with fail
  have b2 : Below w.heap.size w (W1.alloc (.cells #[.int .u8 (op : Int)] 5)) := b1.trans (hb1'.mono b1.size)
  have v2 := v1p.below hb1'
  generalize W1.alloc (.cells #[.int .u8 (op : Int)] 5) = W2 at *
  clear hcv y1 v1p hb1' b1
  have y0 := v2.cell 0
  have y2 := v2.cell 2
  have y3 := v2.cell 3
  have y4 := v2.cell 4
  have y7 := v2.cell 7
  simp [V.arr] at y0 y2 y3 y4 y7
  by_cases hl : tgts.length = 0
  · have hli : (((tgts.length : Nat) : Int) != 0) = false := by rw [bne_eq_false_iff_eq]; omega
    have Hl := hide hl
    have htn : tgts = [] := List.length_eq_zero_iff.1 hl
    have Htn := hide htn
    clear htn
    obtain ⟨A0, eA0⟩ : ∃ A0 : ByteArray, A0 = ⟨(M.nb ⟨1, 0, 255⟩ a).toArray⟩ := ⟨_, rfl⟩
    have hA0 : A0.size = 1 := by rw [eA0]; simp [ByteArray.size, M.nb_len]
    obtain ⟨ok0, hok0⟩ : ∃ ok0, ok0 = M.holds ⟨1, 0, 255⟩ a := ⟨_, rfl⟩
    obtain ⟨A1, eA1⟩ : ∃ A1 : ByteArray, A1 = ⟨(M.nb ⟨1, -128, 127⟩ b).toArray⟩ := ⟨_, rfl⟩
    have hA1 : A1.size = 1 := by rw [eA1]; simp [ByteArray.size, M.nb_len]
    obtain ⟨ok1, hok1⟩ : ∃ ok1, ok1 = M.holds ⟨1, -128, 127⟩ b := ⟨_, rfl⟩
    have hstr : O ++ A0 ++ A1 = ⟨([UInt8.ofNat op] ++ M.nb ⟨1, 0, 255⟩ a ++ M.nb ⟨1, -128, 127⟩ b).toArray⟩ := by
      rw [unhide HeO, eA0, eA1]
      simp only [cat_text]
      try simp
    have hTt : Tx = [UInt8.ofNat op] ++ M.nb ⟨1, 0, 255⟩ a ++ M.nb ⟨1, -128, 127⟩ b := by
      rw [unhide Henc, unhide Htn]
      simp [M.plainB, M.layOf, M.f0, M.nb, M.big, M.u64]
    have hr1 : r = (ok0 && ok1) := by
      rw [unhide Hops, tgts_nil (g := ⟨at_, op, false, a, b, low, keys, tgts⟩) (unhide Hl), hok0, hok1, unhide Hl, Bool.eq_iff_iff]
      simp [M.holds, M.f0, M.layOf]
      try omega
    have Hstr := hide hstr
    have HTt := hide hTt
    have Hr1 := hide hr1
    have HeA0 := hide eA0
    have Hok0 := hide hok0
    have HeA1 := hide eA1
    have Hok1 := hide hok1
    clear hstr hTt hr1 hl Hops Henc eA0 hok0 eA1 hok1
    have HC0 := hide (unhide HB0 a W2)
    rw [← unhide Hok0, ← unhide HeA0] at HC0
    go_wp2_with fail
    refine (unhide HC0).mono ?_
    clear HC0
    rintro e w3 ⟨rfl, hb3⟩
    have b3 := b2.trans (hb3.mono b2.size)
    have v3 := v2.below hb3
    have y3 := v3.cell 3
    have y4 := v3.cell 4
    simp [V.arr] at y3 y4
    have HC1 := hide (unhide HB1 b w3)
    rw [← unhide Hok1, ← unhide HeA1] at HC1
    go_wp2_with fail
    refine (unhide HC1).mono ?_
    clear HC1
    rintro e w4 ⟨rfl, hb4⟩
    have b4 := b3.trans (hb4.mono b3.size)
    have v4 := v3.below hb4
    have y4' := v4.cell 4
    simp [V.arr] at y4'
    cases ok0 <;> cases ok1
    · go_wp2
      refine bodyPost_ret (v := .tuple #[.string (O ++ A0 ++ A1), .bool false]) (by simp [results, Tryd.results41, go_sem]) rfl ?_
      exact ⟨⟨_, by rw [unhide Hstr, unhide Hr1] <;> rfl, fun _ => (unhide HTt).symm⟩, b4⟩
    · go_wp2
      refine bodyPost_ret (v := .tuple #[.string (O ++ A0 ++ A1), .bool false]) (by simp [results, Tryd.results41, go_sem]) rfl ?_
      exact ⟨⟨_, by rw [unhide Hstr, unhide Hr1] <;> rfl, fun _ => (unhide HTt).symm⟩, b4⟩
    · go_wp2
      refine bodyPost_ret (v := .tuple #[.string (O ++ A0 ++ A1), .bool false]) (by simp [results, Tryd.results41, go_sem]) rfl ?_
      exact ⟨⟨_, by rw [unhide Hstr, unhide Hr1] <;> rfl, fun _ => (unhide HTt).symm⟩, b4⟩
    · go_wp2
      refine bodyPost_ret (v := .tuple #[.string (O ++ A0 ++ A1), .bool true]) (by simp [results, Tryd.results41, go_sem]) rfl ?_
      exact ⟨⟨_, by rw [unhide Hstr, unhide Hr1] <;> rfl, fun _ => (unhide HTt).symm⟩, b4⟩
  · have hli : (((tgts.length : Nat) : Int) != 0) = true := by rw [bne_iff_ne]; omega
    have hrf : r = false := by
      rw [unhide Hops]
      have hd : decide (tgts.length = if (M.layOf 8).t.size = 0 then 0 else 1) = false := by rw [decide_eq_false_iff_not]; exact hl
      rw [hd]; simp
    subst hrf
    clear Hops hl
    go_wp2
    refine bodyPost_ret (v := .tuple #[.string ⟨#[]⟩, .bool false]) (by simp [results, Tryd.results41, go_sem]) rfl ?_
    first | exact ⟨⟨[], rfl, fun e => by cases e⟩, b2⟩ | exact ⟨⟨[], rfl⟩, b2⟩
set_option maxRecDepth 100000 in
set_option maxHeartbeats 2000000 in
theorem refEnc_k9 (c : V) (n : Nat) (w : World) (h : c.Ok w) (hk : M.kindW c.g.op c.g.wide = 9) : Calls Tryd.prog 41 #[c.val, .string ⟨#[110]⟩] w fun e w' => REnc c n w e w' := by
  have hop := h.op
  have hwd : c.g.wide = true := wide_is hop hk (by decide)
  have hops := plain_ops hk (by decide) (by decide)
  have henc := plain_enc1 (n := n) hk (by decide) (by decide)
  have hHB0 := fun (x : Int) (w : World) => bytes_any ⟨2, 0, 65535⟩ (.inr (.inr (.inr (.inr rfl)))) x w
  have hHB1 := fun (x : Int) (w : World) => bytes_any ⟨2, -32768, 32767⟩ (.inr (.inl rfl)) x w
  unfold REnc
  obtain ⟨r, hr⟩ : ∃ r, r = M.hasOps c.g := ⟨_, rfl⟩
  obtain ⟨Tx, hTx⟩ : ∃ Tx, Tx = M.enc1 c.g n := ⟨_, rfl⟩
  rw [← hr, ← hTx]
  rw [← hr] at hops
  rw [← hTx] at henc
  obtain ⟨at2, cap2, et, htc⟩ := h.t
  obtain ⟨ak2, capk, ek, hkc⟩ := h.k
  obtain ⟨⟨at_, op, wide, a, b, low, keys, tgts⟩, kv, tv⟩ := c
  simp only at et ek hwd hop hops henc htc
  subst et
  subst ek
  subst hwd
  have Hops := hide hops
  have Henc := hide henc
  have HB0 := hide hHB0
  have HB1 := hide hHB1
  obtain ⟨W1, hW1⟩ : ∃ W1, W1 = w.alloc (.cells #[.int .i64 at_, .int .u8 (op : Int), .bool true, .int .i64 a, .int .i64 b, .int .i64 low, .slice ak2 keys.length capk, .slice at2 tgts.length cap2] 35) := ⟨_, rfl⟩
  have v1 : Vb W1 w.heap.size ⟨⟨at_, op, true, a, b, low, keys, tgts⟩, .slice ak2 keys.length capk, .slice at2 tgts.length cap2⟩ := by rw [hW1]; exact heap_alloc_new w _
  have b1 : Below w.heap.size w W1 := by rw [hW1]; exact (Below.refl _ _).alloc (Nat.le_refl _) _
  obtain ⟨p, ep⟩ : ∃ p, p = w.heap.size := ⟨_, rfl⟩
  have v1p := v1
  rw [← ep] at v1p
  have hcv := bytes_new W1 [UInt8.ofNat op] #[.int .u8 (op : Int)] 1 (by simp only [List.map_cons, List.map_nil]; rw [u8_nat hop]) rfl
  have hb1' : Below W1.heap.size W1 (W1.alloc (.cells #[.int .u8 (op : Int)] 5)) := (Below.refl _ _).alloc (Nat.le_refl _) _
  have y1 := v1p.cell 1
  simp [V.arr] at y1
  obtain ⟨O, eO⟩ : ∃ O : ByteArray, O = ⟨([UInt8.ofNat op] : List UInt8).toArray⟩ := ⟨_, rfl⟩
  have hO : O.size = 1 := by rw [eO]; rfl
  rw [← eO] at hcv
  have HeO := hide eO
  simp only [V.val, V.arr]
  clear h htc hkc hr hTx v1 hops henc eO hk hHB0 hHB1
  go_enter Tryd.func41, Tryd.ntmps41
  go_upto_region 1 with fail
  rw [← hW1, ← ep]
  clear hW1 ep
  go_upto_region 2 with fail
  have b2 : Below w.heap.size w (W1.alloc (.cells #[.int .u8 (op : Int)] 5)) := b1.trans (hb1'.mono b1.size)
  have v2 := v1p.below hb1'
  generalize W1.alloc (.cells #[.int .u8 (op : Int)] 5) = W2 at *
  clear hcv y1 v1p hb1' b1
  have y0 := v2.cell 0
  have y2 := v2.cell 2
  have y3 := v2.cell 3
  have y4 := v2.cell 4
  have y7 := v2.cell 7
  simp [V.arr] at y0 y2 y3 y4 y7
  obtain ⟨O2, eO2⟩ : ∃ O2 : ByteArray, O2 = ⟨#[196]⟩ ++ O := ⟨_, rfl⟩
  have hO2 : O2.size = 2 := by rw [eO2, ByteArray.size_append, hO]; rfl
  have HeO2 := hide (show O2 = ⟨([196, UInt8.ofNat op] : List UInt8).toArray⟩ by rw [eO2, unhide HeO, show (⟨#[196]⟩ : ByteArray) = ⟨([196] : List UInt8).toArray⟩ from rfl, cat_text]; rfl)
  have hcat0 : (⟨#[196]⟩ : ByteArray) ++ O = O2 := eO2.symm
  clear eO2
  by_cases hl : tgts.length = 0
  · have hli : (((tgts.length : Nat) : Int) != 0) = false := by rw [bne_eq_false_iff_eq]; omega
    have Hl := hide hl
    have htn : tgts = [] := List.length_eq_zero_iff.1 hl
    have Htn := hide htn
    clear htn
    obtain ⟨A0, eA0⟩ : ∃ A0 : ByteArray, A0 = ⟨(M.nb ⟨2, 0, 65535⟩ a).toArray⟩ := ⟨_, rfl⟩
    have hA0 : A0.size = 2 := by rw [eA0]; simp [ByteArray.size, M.nb_len]
    obtain ⟨ok0, hok0⟩ : ∃ ok0, ok0 = M.holds ⟨2, 0, 65535⟩ a := ⟨_, rfl⟩
    obtain ⟨A1, eA1⟩ : ∃ A1 : ByteArray, A1 = ⟨(M.nb ⟨2, -32768, 32767⟩ b).toArray⟩ := ⟨_, rfl⟩
    have hA1 : A1.size = 2 := by rw [eA1]; simp [ByteArray.size, M.nb_len]
    obtain ⟨ok1, hok1⟩ : ∃ ok1, ok1 = M.holds ⟨2, -32768, 32767⟩ b := ⟨_, rfl⟩
    have hstr : O2 ++ A0 ++ A1 = ⟨([196, UInt8.ofNat op] ++ M.nb ⟨2, 0, 65535⟩ a ++ M.nb ⟨2, -32768, 32767⟩ b).toArray⟩ := by
      rw [unhide HeO2, eA0, eA1]
      simp only [cat_text]
      try simp
    have hTt : Tx = [196, UInt8.ofNat op] ++ M.nb ⟨2, 0, 65535⟩ a ++ M.nb ⟨2, -32768, 32767⟩ b := by
      rw [unhide Henc, unhide Htn]
      simp [M.plainB, M.layOf, M.f0, M.nb, M.big, M.u64]
    have hr1 : r = (ok0 && ok1) := by
      rw [unhide Hops, tgts_nil (g := ⟨at_, op, true, a, b, low, keys, tgts⟩) (unhide Hl), hok0, hok1, unhide Hl, Bool.eq_iff_iff]
      simp [M.holds, M.f0, M.layOf]
      try omega
    have Hstr := hide hstr
    have HTt := hide hTt
    have Hr1 := hide hr1
    have HeA0 := hide eA0
    have Hok0 := hide hok0
    have HeA1 := hide eA1
    have Hok1 := hide hok1
    clear hstr hTt hr1 hl Hops Henc eA0 hok0 eA1 hok1
    have HC0 := hide (unhide HB0 a W2)
    rw [← unhide Hok0, ← unhide HeA0] at HC0
    go_wp2_with fail
    refine (unhide HC0).mono ?_
    clear HC0
    rintro e w3 ⟨rfl, hb3⟩
    have b3 := b2.trans (hb3.mono b2.size)
    have v3 := v2.below hb3
    have y3 := v3.cell 3
    have y4 := v3.cell 4
    simp [V.arr] at y3 y4
    have HC1 := hide (unhide HB1 b w3)
    rw [← unhide Hok1, ← unhide HeA1] at HC1
    go_wp2_with fail
    refine (unhide HC1).mono ?_
    clear HC1
    rintro e w4 ⟨rfl, hb4⟩
    have b4 := b3.trans (hb4.mono b3.size)
    have v4 := v3.below hb4
    have y4' := v4.cell 4
    simp [V.arr] at y4'
    cases ok0 <;> cases ok1
    · go_wp2
      refine bodyPost_ret (v := .tuple #[.string (O2 ++ A0 ++ A1), .bool false]) (by simp [results, Tryd.results41, go_sem]) rfl ?_
      exact ⟨⟨_, by rw [unhide Hstr, unhide Hr1] <;> rfl, fun _ => (unhide HTt).symm⟩, b4⟩
    · go_wp2
      refine bodyPost_ret (v := .tuple #[.string (O2 ++ A0 ++ A1), .bool false]) (by simp [results, Tryd.results41, go_sem]) rfl ?_
      exact ⟨⟨_, by rw [unhide Hstr, unhide Hr1] <;> rfl, fun _ => (unhide HTt).symm⟩, b4⟩
    · go_wp2
      refine bodyPost_ret (v := .tuple #[.string (O2 ++ A0 ++ A1), .bool false]) (by simp [results, Tryd.results41, go_sem]) rfl ?_
      exact ⟨⟨_, by rw [unhide Hstr, unhide Hr1] <;> rfl, fun _ => (unhide HTt).symm⟩, b4⟩
    · go_wp2
      refine bodyPost_ret (v := .tuple #[.string (O2 ++ A0 ++ A1), .bool true]) (by simp [results, Tryd.results41, go_sem]) rfl ?_
      exact ⟨⟨_, by rw [unhide Hstr, unhide Hr1] <;> rfl, fun _ => (unhide HTt).symm⟩, b4⟩
  · have hli : (((tgts.length : Nat) : Int) != 0) = true := by rw [bne_iff_ne]; omega
    have hrf : r = false := by
      rw [unhide Hops]
      have hd : decide (tgts.length = if (M.layOf 9).t.size = 0 then 0 else 1) = false := by rw [decide_eq_false_iff_not]; exact hl
      rw [hd]; simp
    subst hrf
    clear Hops hl
    go_wp2
    refine bodyPost_ret (v := .tuple #[.string ⟨#[]⟩, .bool false]) (by simp [results, Tryd.results41, go_sem]) rfl ?_
    first | exact ⟨⟨[], rfl, fun e => by cases e⟩, b2⟩ | exact ⟨⟨[], rfl⟩, b2⟩
set_option maxRecDepth 100000 in
set_option maxHeartbeats 2000000 in
theorem refEnc_k10 (c : V) (n : Nat) (w : World) (h : c.Ok w) (hk : M.kindW c.g.op c.g.wide = 10) : Calls Tryd.prog 41 #[c.val, .string ⟨#[106]⟩] w fun e w' => REnc c n w e w' := by
  have hop := h.op
  have hwd : c.g.wide = false := wide_of (by rw [hk]; decide) (by rw [hk]; decide) (by rw [hk]; decide)
  have hops := plain_ops hk (by decide) (by decide)
  have henc := plain_enc1 (n := n) hk (by decide) (by decide)
  have hHB0 := fun (x : Int) (w : World) => bytes_any ⟨2, -32768, 32767⟩ (.inr (.inl rfl)) x w
  unfold REnc
  obtain ⟨r, hr⟩ : ∃ r, r = M.hasOps c.g := ⟨_, rfl⟩
  obtain ⟨Tx, hTx⟩ : ∃ Tx, Tx = M.enc1 c.g n := ⟨_, rfl⟩
  rw [← hr, ← hTx]
  rw [← hr] at hops
  rw [← hTx] at henc
  obtain ⟨at2, cap2, et, htc⟩ := h.t
  obtain ⟨ak2, capk, ek, hkc⟩ := h.k
  obtain ⟨⟨at_, op, wide, a, b, low, keys, tgts⟩, kv, tv⟩ := c
  simp only at et ek hwd hop hops henc htc
  subst et
  subst ek
  subst hwd
  have Hops := hide hops
  have Henc := hide henc
  have HT := hide htc
  have HB0 := hide hHB0
  obtain ⟨W1, hW1⟩ : ∃ W1, W1 = w.alloc (.cells #[.int .i64 at_, .int .u8 (op : Int), .bool false, .int .i64 a, .int .i64 b, .int .i64 low, .slice ak2 keys.length capk, .slice at2 tgts.length cap2] 35) := ⟨_, rfl⟩
  have v1 : Vb W1 w.heap.size ⟨⟨at_, op, false, a, b, low, keys, tgts⟩, .slice ak2 keys.length capk, .slice at2 tgts.length cap2⟩ := by rw [hW1]; exact heap_alloc_new w _
  have b1 : Below w.heap.size w W1 := by rw [hW1]; exact (Below.refl _ _).alloc (Nat.le_refl _) _
  obtain ⟨p, ep⟩ : ∃ p, p = w.heap.size := ⟨_, rfl⟩
  have v1p := v1
  rw [← ep] at v1p
  have hcv := bytes_new W1 [UInt8.ofNat op] #[.int .u8 (op : Int)] 1 (by simp only [List.map_cons, List.map_nil]; rw [u8_nat hop]) rfl
  have hb1' : Below W1.heap.size W1 (W1.alloc (.cells #[.int .u8 (op : Int)] 5)) := (Below.refl _ _).alloc (Nat.le_refl _) _
  have y1 := v1p.cell 1
  simp [V.arr] at y1
  obtain ⟨O, eO⟩ : ∃ O : ByteArray, O = ⟨([UInt8.ofNat op] : List UInt8).toArray⟩ := ⟨_, rfl⟩
  have hO : O.size = 1 := by rw [eO]; rfl
  rw [← eO] at hcv
  have HeO := hide eO
  simp only [V.val, V.arr]
  clear h htc hkc hr hTx v1 hops henc eO hk hHB0
  go_enter Tryd.func41, Tryd.ntmps41
  go_upto_region 1 with fail
  rw [← hW1, ← ep]
  clear hW1 ep
  go_upto_region 2 with fail
  have b2 : Below w.heap.size w (W1.alloc (.cells #[.int .u8 (op : Int)] 5)) := b1.trans (hb1'.mono b1.size)
  have v2 := v1p.below hb1'
  generalize W1.alloc (.cells #[.int .u8 (op : Int)] 5) = W2 at *
  clear hcv y1 v1p hb1' b1
  have y0 := v2.cell 0
  have y2 := v2.cell 2
  have y3 := v2.cell 3
  have y4 := v2.cell 4
  have y7 := v2.cell 7
  simp [V.arr] at y0 y2 y3 y4 y7
  by_cases hl : tgts.length = 1
  · have hli : (((tgts.length : Nat) : Int) != 1) = false := by rw [bne_eq_false_iff_eq]; omega
    have Hl := hide hl
    have hne : tgts ≠ [] := by rintro rfl; simp at hl
    obtain ⟨bt, ot, rfl, hcell⟩ := unhide HT hne
    have x0 := hcell 0 (by omega)
    rw [← b2.cell (cell_lt x0), Nat.add_zero] at x0
    obtain ⟨t0, ht0⟩ : ∃ t0, t0 = tgts.getD 0 0 := ⟨_, rfl⟩
    rw [← ht0] at x0
    have hone := tgts_one (g := ⟨at_, op, false, a, b, low, keys, tgts⟩) (f := ⟨2, -32768, 32767⟩) hl
    simp only [← ht0] at hone
    have Hone := hide hone
    have hi0 : (0 : Int) < (tgts.length : Int) := by omega
    clear hne hcell ht0 hone
    obtain ⟨A0, eA0⟩ : ∃ A0 : ByteArray, A0 = ⟨(M.nb ⟨2, -32768, 32767⟩ (t0 - at_)).toArray⟩ := ⟨_, rfl⟩
    have hA0 : A0.size = 2 := by rw [eA0]; simp [ByteArray.size, M.nb_len]
    obtain ⟨ok0, hok0⟩ : ∃ ok0, ok0 = M.holds ⟨2, -32768, 32767⟩ (wrap64 (t0 - at_)) := ⟨_, rfl⟩
    have hstr : O ++ A0 ++ ⟨#[]⟩ = ⟨([UInt8.ofNat op] ++ M.nb ⟨2, -32768, 32767⟩ (t0 - at_)).toArray⟩ := by
      rw [unhide HeO, eA0, (show (⟨#[]⟩ : ByteArray) = ⟨([] : List UInt8).toArray⟩ from rfl)]
      simp only [cat_text]
      try simp
    have hTt : Tx = [UInt8.ofNat op] ++ M.nb ⟨2, -32768, 32767⟩ (t0 - at_) := by
      rw [unhide Henc]
      unfold M.plainB
      simp only
      rw [(unhide Hone).2]
      simp [M.layOf, M.f0, M.nb, M.big]
    have hr1 : r = ok0 := by
      rw [unhide Hops, hok0]
      show (M.holds M.f0 a && M.holds M.f0 b && decide (tgts.length = _) && M.hasTgts ⟨at_, op, false, a, b, low, keys, tgts⟩ ⟨2, -32768, 32767⟩) = _
      rw [(unhide Hone).1, unhide Hl]
      simp [M.holds, M.f0, M.layOf]
    have Hstr := hide hstr
    have HTt := hide hTt
    have Hr1 := hide hr1
    have HeA0 := hide eA0
    have Hok0 := hide hok0
    clear hstr hTt hr1 hl Hops Henc eA0 hok0
    have X0 := cell_regrown x0
    have Y0 := cell_regrown y0
    have Y7 := cell_regrown y7
    have HC0 := hide (unhide HB0 (wrap64 (t0 - at_)))
    rw [← unhide Hok0, nb_wrap, ← unhide HeA0] at HC0
    go_wp2_with fail
    refine wp_region_quiet_below (by kernel_rfl) (by kernel_rfl) ?_
    repeat (go_big_quiet_step (first | (go_at_call 65; exact Calls.regrown_of (unhide HC0 _))))
    refine wpQuiet_nil ?_
    intro _ hw'
    obtain ⟨⟨dq, osq⟩, hw2⟩ := hw'
    subst hw2
    have hbq := below_regrown W2 dq osq
    clear X0 Y0 Y7
    generalize Sort.grow (redrawn W2 dq) osq = W3 at *
    have b3 := b2.trans (hbq.mono b2.size)
    cases ok0
    · go_wp2
      refine bodyPost_ret (v := .tuple #[.string (O ++ A0 ++ ⟨#[]⟩), .bool false]) (by simp [results, Tryd.results41, go_sem]) rfl ?_
      exact ⟨⟨_, by rw [unhide Hstr, unhide Hr1] <;> rfl, fun _ => (unhide HTt).symm⟩, b3⟩
    · go_wp2
      refine bodyPost_ret (v := .tuple #[.string (O ++ A0 ++ ⟨#[]⟩), .bool true]) (by simp [results, Tryd.results41, go_sem]) rfl ?_
      exact ⟨⟨_, by rw [unhide Hstr, unhide Hr1] <;> rfl, fun _ => (unhide HTt).symm⟩, b3⟩
  · have hli : (((tgts.length : Nat) : Int) != 1) = true := by rw [bne_iff_ne]; omega
    have hrf : r = false := by
      rw [unhide Hops]
      have hd : decide (tgts.length = if (M.layOf 10).t.size = 0 then 0 else 1) = false := by rw [decide_eq_false_iff_not]; exact hl
      rw [hd]; simp
    subst hrf
    clear Hops hl
    go_wp2
    refine bodyPost_ret (v := .tuple #[.string ⟨#[]⟩, .bool false]) (by simp [results, Tryd.results41, go_sem]) rfl ?_
    first | exact ⟨⟨[], rfl, fun e => by cases e⟩, b2⟩ | exact ⟨⟨[], rfl⟩, b2⟩
set_option maxRecDepth 100000 in
set_option maxHeartbeats 2000000 in
theorem refEnc_k11 (c : V) (n : Nat) (w : World) (h : c.Ok w) (hk : M.kindW c.g.op c.g.wide = 11) : Calls Tryd.prog 41 #[c.val, .string ⟨#[74]⟩] w fun e w' => REnc c n w e w' := by
  have hop := h.op
  have hwd : c.g.wide = false := wide_of (by rw [hk]; decide) (by rw [hk]; decide) (by rw [hk]; decide)
  have hops := plain_ops hk (by decide) (by decide)
  have henc := plain_enc1 (n := n) hk (by decide) (by decide)
  have hHB0 := fun (x : Int) (w : World) => bytes_any M.fw (.inr (.inr (.inl rfl))) x w
  unfold REnc
  obtain ⟨r, hr⟩ : ∃ r, r = M.hasOps c.g := ⟨_, rfl⟩
  obtain ⟨Tx, hTx⟩ : ∃ Tx, Tx = M.enc1 c.g n := ⟨_, rfl⟩
  rw [← hr, ← hTx]
  rw [← hr] at hops
  rw [← hTx] at henc
  obtain ⟨at2, cap2, et, htc⟩ := h.t
  obtain ⟨ak2, capk, ek, hkc⟩ := h.k
  obtain ⟨⟨at_, op, wide, a, b, low, keys, tgts⟩, kv, tv⟩ := c
  simp only at et ek hwd hop hops henc htc
  subst et
  subst ek
  subst hwd
  have Hops := hide hops
  have Henc := hide henc
  have HT := hide htc
  have HB0 := hide hHB0
  obtain ⟨W1, hW1⟩ : ∃ W1, W1 = w.alloc (.cells #[.int .i64 at_, .int .u8 (op : Int), .bool false, .int .i64 a, .int .i64 b, .int .i64 low, .slice ak2 keys.length capk, .slice at2 tgts.length cap2] 35) := ⟨_, rfl⟩
  have v1 : Vb W1 w.heap.size ⟨⟨at_, op, false, a, b, low, keys, tgts⟩, .slice ak2 keys.length capk, .slice at2 tgts.length cap2⟩ := by rw [hW1]; exact heap_alloc_new w _
  have b1 : Below w.heap.size w W1 := by rw [hW1]; exact (Below.refl _ _).alloc (Nat.le_refl _) _
  obtain ⟨p, ep⟩ : ∃ p, p = w.heap.size := ⟨_, rfl⟩
  have v1p := v1
  rw [← ep] at v1p
  have hcv := bytes_new W1 [UInt8.ofNat op] #[.int .u8 (op : Int)] 1 (by simp only [List.map_cons, List.map_nil]; rw [u8_nat hop]) rfl
  have hb1' : Below W1.heap.size W1 (W1.alloc (.cells #[.int .u8 (op : Int)] 5)) := (Below.refl _ _).alloc (Nat.le_refl _) _
  have y1 := v1p.cell 1
  simp [V.arr] at y1
  obtain ⟨O, eO⟩ : ∃ O : ByteArray, O = ⟨([UInt8.ofNat op] : List UInt8).toArray⟩ := ⟨_, rfl⟩
  have hO : O.size = 1 := by rw [eO]; rfl
  rw [← eO] at hcv
  have HeO := hide eO
  simp only [V.val, V.arr]
  clear h htc hkc hr hTx v1 hops henc eO hk hHB0
  go_enter Tryd.func41, Tryd.ntmps41
  go_upto_region 1 with fail
  rw [← hW1, ← ep]
  clear hW1 ep
  go_upto_region 2 with fail
  have b2 : Below w.heap.size w (W1.alloc (.cells #[.int .u8 (op : Int)] 5)) := b1.trans (hb1'.mono b1.size)
  have v2 := v1p.below hb1'
  generalize W1.alloc (.cells #[.int .u8 (op : Int)] 5) = W2 at *
  clear hcv y1 v1p hb1' b1
  have y0 := v2.cell 0
  have y2 := v2.cell 2
  have y3 := v2.cell 3
  have y4 := v2.cell 4
  have y7 := v2.cell 7
  simp [V.arr] at y0 y2 y3 y4 y7
  by_cases hl : tgts.length = 1
  · have hli : (((tgts.length : Nat) : Int) != 1) = false := by rw [bne_eq_false_iff_eq]; omega
    have Hl := hide hl
    have hne : tgts ≠ [] := by rintro rfl; simp at hl
    obtain ⟨bt, ot, rfl, hcell⟩ := unhide HT hne
    have x0 := hcell 0 (by omega)
    rw [← b2.cell (cell_lt x0), Nat.add_zero] at x0
    obtain ⟨t0, ht0⟩ : ∃ t0, t0 = tgts.getD 0 0 := ⟨_, rfl⟩
    rw [← ht0] at x0
    have hone := tgts_one (g := ⟨at_, op, false, a, b, low, keys, tgts⟩) (f := M.fw) hl
    simp only [← ht0] at hone
    have Hone := hide hone
    have hi0 : (0 : Int) < (tgts.length : Int) := by omega
    clear hne hcell ht0 hone
    obtain ⟨A0, eA0⟩ : ∃ A0 : ByteArray, A0 = ⟨(M.nb M.fw (t0 - at_)).toArray⟩ := ⟨_, rfl⟩
    have hA0 : A0.size = 4 := by rw [eA0]; simp [ByteArray.size, M.nb_len, M.fw]
    obtain ⟨ok0, hok0⟩ : ∃ ok0, ok0 = M.holds M.fw (wrap64 (t0 - at_)) := ⟨_, rfl⟩
    have hstr : O ++ A0 ++ ⟨#[]⟩ = ⟨([UInt8.ofNat op] ++ M.nb M.fw (t0 - at_)).toArray⟩ := by
      rw [unhide HeO, eA0, (show (⟨#[]⟩ : ByteArray) = ⟨([] : List UInt8).toArray⟩ from rfl)]
      simp only [cat_text]
      try simp
    have hTt : Tx = [UInt8.ofNat op] ++ M.nb M.fw (t0 - at_) := by
      rw [unhide Henc]
      unfold M.plainB
      simp only
      rw [(unhide Hone).2]
      simp [M.layOf, M.f0, M.nb, M.big]
    have hr1 : r = ok0 := by
      rw [unhide Hops, hok0]
      show (M.holds M.f0 a && M.holds M.f0 b && decide (tgts.length = _) && M.hasTgts ⟨at_, op, false, a, b, low, keys, tgts⟩ M.fw) = _
      rw [(unhide Hone).1, unhide Hl]
      simp [M.holds, M.f0, M.layOf, M.fw]
    have Hstr := hide hstr
    have HTt := hide hTt
    have Hr1 := hide hr1
    have HeA0 := hide eA0
    have Hok0 := hide hok0
    clear hstr hTt hr1 hl Hops Henc eA0 hok0
    have X0 := cell_regrown x0
    have Y0 := cell_regrown y0
    have Y7 := cell_regrown y7
    have HC0 := hide (unhide HB0 (wrap64 (t0 - at_)))
    rw [← unhide Hok0, nb_wrap, ← unhide HeA0] at HC0
    go_wp2_with fail
    refine wp_region_quiet_below (by kernel_rfl) (by kernel_rfl) ?_
    repeat (go_big_quiet_step (first | (go_at_call 65; exact Calls.regrown_of (unhide HC0 _))))
    refine wpQuiet_nil ?_
    intro _ hw'
    obtain ⟨⟨dq, osq⟩, hw2⟩ := hw'
    subst hw2
    have hbq := below_regrown W2 dq osq
    clear X0 Y0 Y7
    generalize Sort.grow (redrawn W2 dq) osq = W3 at *
    have b3 := b2.trans (hbq.mono b2.size)
    cases ok0
    · go_wp2
      refine bodyPost_ret (v := .tuple #[.string (O ++ A0 ++ ⟨#[]⟩), .bool false]) (by simp [results, Tryd.results41, go_sem]) rfl ?_
      exact ⟨⟨_, by rw [unhide Hstr, unhide Hr1] <;> rfl, fun _ => (unhide HTt).symm⟩, b3⟩
    · go_wp2
      refine bodyPost_ret (v := .tuple #[.string (O ++ A0 ++ ⟨#[]⟩), .bool true]) (by simp [results, Tryd.results41, go_sem]) rfl ?_
      exact ⟨⟨_, by rw [unhide Hstr, unhide Hr1] <;> rfl, fun _ => (unhide HTt).symm⟩, b3⟩
  · have hli : (((tgts.length : Nat) : Int) != 1) = true := by rw [bne_iff_ne]; omega
    have hrf : r = false := by
      rw [unhide Hops]
      have hd : decide (tgts.length = if (M.layOf 11).t.size = 0 then 0 else 1) = false := by rw [decide_eq_false_iff_not]; exact hl
      rw [hd]; simp
    subst hrf
    clear Hops hl
    go_wp2
    refine bodyPost_ret (v := .tuple #[.string ⟨#[]⟩, .bool false]) (by simp [results, Tryd.results41, go_sem]) rfl ?_
    first | exact ⟨⟨[], rfl, fun e => by cases e⟩, b2⟩ | exact ⟨⟨[], rfl⟩, b2⟩
set_option maxRecDepth 100000 in
set_option maxHeartbeats 2000000 in
theorem refEnc_k12 (c : V) (n : Nat) (w : World) (h : c.Ok w) (hk : M.kindW c.g.op c.g.wide = 12) : Calls Tryd.prog 41 #[c.val, .string ⟨#[102]⟩] w fun e w' => REnc c n w e w' := by
  have hop := h.op
  have hwd : c.g.wide = false := wide_of (by rw [hk]; decide) (by rw [hk]; decide) (by rw [hk]; decide)
  have hops := plain_ops hk (by decide) (by decide)
  have henc := plain_enc1 (n := n) hk (by decide) (by decide)
  have hHB0 := fun (x : Int) (w : World) => bytes_any ⟨2, 0, 65535⟩ (.inr (.inr (.inr (.inr rfl)))) x w
  have hHB1 := fun (x : Int) (w : World) => bytes_any ⟨1, 0, 255⟩ (.inr (.inr (.inr (.inl rfl)))) x w
  unfold REnc
  obtain ⟨r, hr⟩ : ∃ r, r = M.hasOps c.g := ⟨_, rfl⟩
  obtain ⟨Tx, hTx⟩ : ∃ Tx, Tx = M.enc1 c.g n := ⟨_, rfl⟩
  rw [← hr, ← hTx]
  rw [← hr] at hops
  rw [← hTx] at henc
  obtain ⟨at2, cap2, et, htc⟩ := h.t
  obtain ⟨ak2, capk, ek, hkc⟩ := h.k
  obtain ⟨⟨at_, op, wide, a, b, low, keys, tgts⟩, kv, tv⟩ := c
  simp only at et ek hwd hop hops henc htc
  subst et
  subst ek
  subst hwd
  have Hops := hide hops
  have Henc := hide henc
  have HB0 := hide hHB0
  have HB1 := hide hHB1
  obtain ⟨W1, hW1⟩ : ∃ W1, W1 = w.alloc (.cells #[.int .i64 at_, .int .u8 (op : Int), .bool false, .int .i64 a, .int .i64 b, .int .i64 low, .slice ak2 keys.length capk, .slice at2 tgts.length cap2] 35) := ⟨_, rfl⟩
  have v1 : Vb W1 w.heap.size ⟨⟨at_, op, false, a, b, low, keys, tgts⟩, .slice ak2 keys.length capk, .slice at2 tgts.length cap2⟩ := by rw [hW1]; exact heap_alloc_new w _
  have b1 : Below w.heap.size w W1 := by rw [hW1]; exact (Below.refl _ _).alloc (Nat.le_refl _) _
  obtain ⟨p, ep⟩ : ∃ p, p = w.heap.size := ⟨_, rfl⟩
  have v1p := v1
  rw [← ep] at v1p
  have hcv := bytes_new W1 [UInt8.ofNat op] #[.int .u8 (op : Int)] 1 (by simp only [List.map_cons, List.map_nil]; rw [u8_nat hop]) rfl
  have hb1' : Below W1.heap.size W1 (W1.alloc (.cells #[.int .u8 (op : Int)] 5)) := (Below.refl _ _).alloc (Nat.le_refl _) _
  have y1 := v1p.cell 1
  simp [V.arr] at y1
  obtain ⟨O, eO⟩ : ∃ O : ByteArray, O = ⟨([UInt8.ofNat op] : List UInt8).toArray⟩ := ⟨_, rfl⟩
  have hO : O.size = 1 := by rw [eO]; rfl
  rw [← eO] at hcv
  have HeO := hide eO
  simp only [V.val, V.arr]
  clear h htc hkc hr hTx v1 hops henc eO hk hHB0 hHB1
  go_enter Tryd.func41, Tryd.ntmps41
  go_upto_region 1 with fail
  rw [← hW1, ← ep]
  clear hW1 ep
  go_upto_region 2 with fail
  have b2 : Below w.heap.size w (W1.alloc (.cells #[.int .u8 (op : Int)] 5)) := b1.trans (hb1'.mono b1.size)
  have v2 := v1p.below hb1'
  generalize W1.alloc (.cells #[.int .u8 (op : Int)] 5) = W2 at *
  clear hcv y1 v1p hb1' b1
  have y0 := v2.cell 0
  have y2 := v2.cell 2
  have y3 := v2.cell 3
  have y4 := v2.cell 4
  have y7 := v2.cell 7
  simp [V.arr] at y0 y2 y3 y4 y7
  by_cases hl : tgts.length = 0
  · have hli : (((tgts.length : Nat) : Int) != 0) = false := by rw [bne_eq_false_iff_eq]; omega
    have Hl := hide hl
    have htn : tgts = [] := List.length_eq_zero_iff.1 hl
    have Htn := hide htn
    clear htn
    obtain ⟨A0, eA0⟩ : ∃ A0 : ByteArray, A0 = ⟨(M.nb ⟨2, 0, 65535⟩ a).toArray⟩ := ⟨_, rfl⟩
    have hA0 : A0.size = 2 := by rw [eA0]; simp [ByteArray.size, M.nb_len]
    obtain ⟨ok0, hok0⟩ : ∃ ok0, ok0 = M.holds ⟨2, 0, 65535⟩ a := ⟨_, rfl⟩
    obtain ⟨A1, eA1⟩ : ∃ A1 : ByteArray, A1 = ⟨(M.nb ⟨1, 0, 255⟩ b).toArray⟩ := ⟨_, rfl⟩
    have hA1 : A1.size = 1 := by rw [eA1]; simp [ByteArray.size, M.nb_len]
    obtain ⟨ok1, hok1⟩ : ∃ ok1, ok1 = M.holds ⟨1, 0, 255⟩ b := ⟨_, rfl⟩
    have hstr : O ++ A0 ++ (A1 ++ ⟨#[0]⟩) = ⟨([UInt8.ofNat op] ++ M.nb ⟨2, 0, 65535⟩ a ++ M.nb ⟨1, 0, 255⟩ b ++ [0]).toArray⟩ := by
      rw [unhide HeO, eA0, eA1, (show (⟨#[0]⟩ : ByteArray) = ⟨([0] : List UInt8).toArray⟩ from rfl)]
      simp only [cat_text]
      try simp
    have hTt : Tx = [UInt8.ofNat op] ++ M.nb ⟨2, 0, 65535⟩ a ++ M.nb ⟨1, 0, 255⟩ b ++ [0] := by
      rw [unhide Henc, unhide Htn]
      simp [M.plainB, M.layOf, M.f0, M.nb, M.big, M.u64]
    have hr1 : r = (ok0 && (ok1 && decide (0 < b))) := by
      rw [unhide Hops, tgts_nil (g := ⟨at_, op, false, a, b, low, keys, tgts⟩) (unhide Hl), hok0, hok1, unhide Hl, Bool.eq_iff_iff]
      simp [M.holds, M.f0, M.layOf]
      try omega
    have Hstr := hide hstr
    have HTt := hide hTt
    have Hr1 := hide hr1
    have HeA0 := hide eA0
    have Hok0 := hide hok0
    have HeA1 := hide eA1
    have Hok1 := hide hok1
    clear hstr hTt hr1 hl Hops Henc eA0 hok0 eA1 hok1
    have HC0 := hide (unhide HB0 a W2)
    rw [← unhide Hok0, ← unhide HeA0] at HC0
    go_wp2_with fail
    refine (unhide HC0).mono ?_
    clear HC0
    rintro e w3 ⟨rfl, hb3⟩
    have b3 := b2.trans (hb3.mono b2.size)
    have v3 := v2.below hb3
    have y3 := v3.cell 3
    have y4 := v3.cell 4
    simp [V.arr] at y3 y4
    have HC1 := hide (unhide HB1 b w3)
    rw [← unhide Hok1, ← unhide HeA1] at HC1
    go_wp2_with fail
    refine (unhide HC1).mono ?_
    clear HC1
    rintro e w4 ⟨rfl, hb4⟩
    have b4 := b3.trans (hb4.mono b3.size)
    have v4 := v3.below hb4
    have y4' := v4.cell 4
    simp [V.arr] at y4'
    by_cases hb0 : 0 < b
    · rw [decide_eq_true hb0] at Hr1
      cases ok0 <;> cases ok1
      · go_wp2
        refine bodyPost_ret (v := .tuple #[.string (O ++ A0 ++ (A1 ++ ⟨#[0]⟩)), .bool false]) (by simp [results, Tryd.results41, go_sem]; try omega) rfl ?_
        exact ⟨⟨_, by rw [unhide Hstr, unhide Hr1] <;> rfl, fun _ => (unhide HTt).symm⟩, b4⟩
      · go_wp2
        refine bodyPost_ret (v := .tuple #[.string (O ++ A0 ++ (A1 ++ ⟨#[0]⟩)), .bool false]) (by simp [results, Tryd.results41, go_sem]; try omega) rfl ?_
        exact ⟨⟨_, by rw [unhide Hstr, unhide Hr1] <;> rfl, fun _ => (unhide HTt).symm⟩, b4⟩
      · go_wp2
        refine bodyPost_ret (v := .tuple #[.string (O ++ A0 ++ (A1 ++ ⟨#[0]⟩)), .bool false]) (by simp [results, Tryd.results41, go_sem]; try omega) rfl ?_
        exact ⟨⟨_, by rw [unhide Hstr, unhide Hr1] <;> rfl, fun _ => (unhide HTt).symm⟩, b4⟩
      · go_wp2
        refine bodyPost_ret (v := .tuple #[.string (O ++ A0 ++ (A1 ++ ⟨#[0]⟩)), .bool true]) (by simp [results, Tryd.results41, go_sem]; try omega) rfl ?_
        exact ⟨⟨_, by rw [unhide Hstr, unhide Hr1] <;> rfl, fun _ => (unhide HTt).symm⟩, b4⟩
    · rw [decide_eq_false hb0] at Hr1
      have hb0' : b ≤ 0 := by omega
      cases ok0 <;> cases ok1
      · go_wp2
        refine bodyPost_ret (v := .tuple #[.string (O ++ A0 ++ (A1 ++ ⟨#[0]⟩)), .bool false]) (by simp [results, Tryd.results41, go_sem]; try omega) rfl ?_
        exact ⟨⟨_, by rw [unhide Hstr, unhide Hr1] <;> rfl, fun _ => (unhide HTt).symm⟩, b4⟩
      · go_wp2
        refine bodyPost_ret (v := .tuple #[.string (O ++ A0 ++ (A1 ++ ⟨#[0]⟩)), .bool false]) (by simp [results, Tryd.results41, go_sem]; try omega) rfl ?_
        exact ⟨⟨_, by rw [unhide Hstr, unhide Hr1] <;> rfl, fun _ => (unhide HTt).symm⟩, b4⟩
      · go_wp2
        refine bodyPost_ret (v := .tuple #[.string (O ++ A0 ++ (A1 ++ ⟨#[0]⟩)), .bool false]) (by simp [results, Tryd.results41, go_sem]; try omega) rfl ?_
        exact ⟨⟨_, by rw [unhide Hstr, unhide Hr1] <;> rfl, fun _ => (unhide HTt).symm⟩, b4⟩
      · go_wp2
        refine bodyPost_ret (v := .tuple #[.string (O ++ A0 ++ (A1 ++ ⟨#[0]⟩)), .bool false]) (by simp [results, Tryd.results41, go_sem]; try omega) rfl ?_
        exact ⟨⟨_, by rw [unhide Hstr, unhide Hr1] <;> rfl, fun _ => (unhide HTt).symm⟩, b4⟩
  · have hli : (((tgts.length : Nat) : Int) != 0) = true := by rw [bne_iff_ne]; omega
    have hrf : r = false := by
      rw [unhide Hops]
      have hd : decide (tgts.length = if (M.layOf 12).t.size = 0 then 0 else 1) = false := by rw [decide_eq_false_iff_not]; exact hl
      rw [hd]; simp
    subst hrf
    clear Hops hl
    go_wp2
    refine bodyPost_ret (v := .tuple #[.string ⟨#[]⟩, .bool false]) (by simp [results, Tryd.results41, go_sem]) rfl ?_
    first | exact ⟨⟨[], rfl, fun e => by cases e⟩, b2⟩ | exact ⟨⟨[], rfl⟩, b2⟩
set_option maxRecDepth 100000 in
set_option maxHeartbeats 2000000 in
theorem refEnc_k13 (c : V) (n : Nat) (w : World) (h : c.Ok w) (hk : M.kindW c.g.op c.g.wide = 13) : Calls Tryd.prog 41 #[c.val, .string ⟨#[97]⟩] w fun e w' => REnc c n w e w' := by
  have hop := h.op
  have hwd : c.g.wide = false := wide_of (by rw [hk]; decide) (by rw [hk]; decide) (by rw [hk]; decide)
  have hops := plain_ops hk (by decide) (by decide)
  have henc := plain_enc1 (n := n) hk (by decide) (by decide)
  have hHB0 := fun (x : Int) (w : World) => bytes_any ⟨1, 0, 255⟩ (.inr (.inr (.inr (.inl rfl)))) x w
  unfold REnc
  obtain ⟨r, hr⟩ : ∃ r, r = M.hasOps c.g := ⟨_, rfl⟩
  obtain ⟨Tx, hTx⟩ : ∃ Tx, Tx = M.enc1 c.g n := ⟨_, rfl⟩
  rw [← hr, ← hTx]
  rw [← hr] at hops
  rw [← hTx] at henc
  obtain ⟨at2, cap2, et, htc⟩ := h.t
  obtain ⟨ak2, capk, ek, hkc⟩ := h.k
  obtain ⟨⟨at_, op, wide, a, b, low, keys, tgts⟩, kv, tv⟩ := c
  simp only at et ek hwd hop hops henc htc
  subst et
  subst ek
  subst hwd
  have Hops := hide hops
  have Henc := hide henc
  have HB0 := hide hHB0
  obtain ⟨W1, hW1⟩ : ∃ W1, W1 = w.alloc (.cells #[.int .i64 at_, .int .u8 (op : Int), .bool false, .int .i64 a, .int .i64 b, .int .i64 low, .slice ak2 keys.length capk, .slice at2 tgts.length cap2] 35) := ⟨_, rfl⟩
  have v1 : Vb W1 w.heap.size ⟨⟨at_, op, false, a, b, low, keys, tgts⟩, .slice ak2 keys.length capk, .slice at2 tgts.length cap2⟩ := by rw [hW1]; exact heap_alloc_new w _
  have b1 : Below w.heap.size w W1 := by rw [hW1]; exact (Below.refl _ _).alloc (Nat.le_refl _) _
  obtain ⟨p, ep⟩ : ∃ p, p = w.heap.size := ⟨_, rfl⟩
  have v1p := v1
  rw [← ep] at v1p
  have hcv := bytes_new W1 [UInt8.ofNat op] #[.int .u8 (op : Int)] 1 (by simp only [List.map_cons, List.map_nil]; rw [u8_nat hop]) rfl
  have hb1' : Below W1.heap.size W1 (W1.alloc (.cells #[.int .u8 (op : Int)] 5)) := (Below.refl _ _).alloc (Nat.le_refl _) _
  have y1 := v1p.cell 1
  simp [V.arr] at y1
  obtain ⟨O, eO⟩ : ∃ O : ByteArray, O = ⟨([UInt8.ofNat op] : List UInt8).toArray⟩ := ⟨_, rfl⟩
  have hO : O.size = 1 := by rw [eO]; rfl
  rw [← eO] at hcv
  have HeO := hide eO
  simp only [V.val, V.arr]
  clear h htc hkc hr hTx v1 hops henc eO hk hHB0
  go_enter Tryd.func41, Tryd.ntmps41
  go_upto_region 1 with fail
  rw [← hW1, ← ep]
  clear hW1 ep
  go_upto_region 2 with fail
  have b2 : Below w.heap.size w (W1.alloc (.cells #[.int .u8 (op : Int)] 5)) := b1.trans (hb1'.mono b1.size)
  have v2 := v1p.below hb1'
  generalize W1.alloc (.cells #[.int .u8 (op : Int)] 5) = W2 at *
  clear hcv y1 v1p hb1' b1
  have y0 := v2.cell 0
  have y2 := v2.cell 2
  have y3 := v2.cell 3
  have y4 := v2.cell 4
  have y7 := v2.cell 7
  simp [V.arr] at y0 y2 y3 y4 y7
  by_cases hl : tgts.length = 0
  · have hli : (((tgts.length : Nat) : Int) != 0) = false := by rw [bne_eq_false_iff_eq]; omega
    have Hl := hide hl
    have htn : tgts = [] := List.length_eq_zero_iff.1 hl
    have Htn := hide htn
    clear htn
    obtain ⟨A0, eA0⟩ : ∃ A0 : ByteArray, A0 = ⟨(M.nb ⟨1, 0, 255⟩ a).toArray⟩ := ⟨_, rfl⟩
    have hA0 : A0.size = 1 := by rw [eA0]; simp [ByteArray.size, M.nb_len]
    obtain ⟨ok0, hok0⟩ : ∃ ok0, ok0 = M.holds ⟨1, 0, 255⟩ a := ⟨_, rfl⟩
    have hstr : O ++ A0 ++ ⟨#[]⟩ = ⟨([UInt8.ofNat op] ++ M.nb ⟨1, 0, 255⟩ a).toArray⟩ := by
      rw [unhide HeO, eA0, (show (⟨#[]⟩ : ByteArray) = ⟨([] : List UInt8).toArray⟩ from rfl)]
      simp only [cat_text]
      try simp
    have hTt : Tx = [UInt8.ofNat op] ++ M.nb ⟨1, 0, 255⟩ a := by
      rw [unhide Henc, unhide Htn]
      simp [M.plainB, M.layOf, M.f0, M.nb, M.big, M.u64]
    have hr1 : r = (ok0 && (decide (4 ≤ a) && decide (a ≤ 11))) := by
      rw [unhide Hops, tgts_nil (g := ⟨at_, op, false, a, b, low, keys, tgts⟩) (unhide Hl), hok0, unhide Hl, Bool.eq_iff_iff]
      simp [M.holds, M.f0, M.layOf]
      try omega
    have Hstr := hide hstr
    have HTt := hide hTt
    have Hr1 := hide hr1
    have HeA0 := hide eA0
    have Hok0 := hide hok0
    clear hstr hTt hr1 hl Hops Henc eA0 hok0
    have HC0 := hide (unhide HB0 a W2)
    rw [← unhide Hok0, ← unhide HeA0] at HC0
    go_wp2_with fail
    refine (unhide HC0).mono ?_
    clear HC0
    rintro e w3 ⟨rfl, hb3⟩
    have b3 := b2.trans (hb3.mono b2.size)
    have v3 := v2.below hb3
    have y3 := v3.cell 3
    have y4 := v3.cell 4
    simp [V.arr] at y3 y4
    have hd : (decide (4 ≤ a) && decide (a ≤ 11)) = decide (4 ≤ a ∧ a ≤ 11) := by rw [Bool.eq_iff_iff]; simp
    rw [hd] at Hr1
    by_cases h4 : 4 ≤ a
    · by_cases h11 : a ≤ 11
      · rw [decide_eq_true (⟨h4, h11⟩ : 4 ≤ a ∧ a ≤ 11)] at Hr1
        cases ok0
        · go_wp2
          refine bodyPost_ret (v := .tuple #[.string (O ++ A0 ++ ⟨#[]⟩), .bool false]) (by simp [results, Tryd.results41, go_sem]; try omega) rfl ?_
          exact ⟨⟨_, by rw [unhide Hstr, unhide Hr1] <;> rfl, fun _ => (unhide HTt).symm⟩, b3⟩
        · go_wp2
          refine bodyPost_ret (v := .tuple #[.string (O ++ A0 ++ ⟨#[]⟩), .bool true]) (by simp [results, Tryd.results41, go_sem]; try omega) rfl ?_
          exact ⟨⟨_, by rw [unhide Hstr, unhide Hr1] <;> rfl, fun _ => (unhide HTt).symm⟩, b3⟩
      · rw [decide_eq_false (fun h => h11 h.2 : ¬ (4 ≤ a ∧ a ≤ 11))] at Hr1
        have h11' : 11 < a := by omega
        cases ok0
        · go_wp2
          refine bodyPost_ret (v := .tuple #[.string (O ++ A0 ++ ⟨#[]⟩), .bool false]) (by simp [results, Tryd.results41, go_sem]; try omega) rfl ?_
          exact ⟨⟨_, by rw [unhide Hstr, unhide Hr1] <;> rfl, fun _ => (unhide HTt).symm⟩, b3⟩
        · go_wp2
          refine bodyPost_ret (v := .tuple #[.string (O ++ A0 ++ ⟨#[]⟩), .bool false]) (by simp [results, Tryd.results41, go_sem]; try omega) rfl ?_
          exact ⟨⟨_, by rw [unhide Hstr, unhide Hr1] <;> rfl, fun _ => (unhide HTt).symm⟩, b3⟩
    · rw [decide_eq_false (fun h => h4 h.1 : ¬ (4 ≤ a ∧ a ≤ 11))] at Hr1
      have h4' : a < 4 := by omega
      cases ok0
      · go_wp2
        refine bodyPost_ret (v := .tuple #[.string (O ++ A0 ++ ⟨#[]⟩), .bool false]) (by simp [results, Tryd.results41, go_sem]; try omega) rfl ?_
        exact ⟨⟨_, by rw [unhide Hstr, unhide Hr1] <;> rfl, fun _ => (unhide HTt).symm⟩, b3⟩
      · go_wp2
        refine bodyPost_ret (v := .tuple #[.string (O ++ A0 ++ ⟨#[]⟩), .bool false]) (by simp [results, Tryd.results41, go_sem]; try omega) rfl ?_
        exact ⟨⟨_, by rw [unhide Hstr, unhide Hr1] <;> rfl, fun _ => (unhide HTt).symm⟩, b3⟩
  · have hli : (((tgts.length : Nat) : Int) != 0) = true := by rw [bne_iff_ne]; omega
    have hrf : r = false := by
      rw [unhide Hops]
      have hd : decide (tgts.length = if (M.layOf 13).t.size = 0 then 0 else 1) = false := by rw [decide_eq_false_iff_not]; exact hl
      rw [hd]; simp
    subst hrf
    clear Hops hl
    go_wp2
    refine bodyPost_ret (v := .tuple #[.string ⟨#[]⟩, .bool false]) (by simp [results, Tryd.results41, go_sem]) rfl ?_
    first | exact ⟨⟨[], rfl, fun e => by cases e⟩, b2⟩ | exact ⟨⟨[], rfl⟩, b2⟩
set_option maxRecDepth 100000 in
set_option maxHeartbeats 2000000 in
theorem refEnc_k14 (c : V) (n : Nat) (w : World) (h : c.Ok w) (hk : M.kindW c.g.op c.g.wide = 14) : Calls Tryd.prog 41 #[c.val, .string ⟨#[109]⟩] w fun e w' => REnc c n w e w' := by
  have hop := h.op
  have hwd : c.g.wide = false := wide_of (by rw [hk]; decide) (by rw [hk]; decide) (by rw [hk]; decide)
  have hops := plain_ops hk (by decide) (by decide)
  have henc := plain_enc1 (n := n) hk (by decide) (by decide)
  have hHB0 := fun (x : Int) (w : World) => bytes_any ⟨2, 0, 65535⟩ (.inr (.inr (.inr (.inr rfl)))) x w
  have hHB1 := fun (x : Int) (w : World) => bytes_any ⟨1, 0, 255⟩ (.inr (.inr (.inr (.inl rfl)))) x w
  unfold REnc
  obtain ⟨r, hr⟩ : ∃ r, r = M.hasOps c.g := ⟨_, rfl⟩
  obtain ⟨Tx, hTx⟩ : ∃ Tx, Tx = M.enc1 c.g n := ⟨_, rfl⟩
  rw [← hr, ← hTx]
  rw [← hr] at hops
  rw [← hTx] at henc
  obtain ⟨at2, cap2, et, htc⟩ := h.t
  obtain ⟨ak2, capk, ek, hkc⟩ := h.k
  obtain ⟨⟨at_, op, wide, a, b, low, keys, tgts⟩, kv, tv⟩ := c
  simp only at et ek hwd hop hops henc htc
  subst et
  subst ek
  subst hwd
  have Hops := hide hops
  have Henc := hide henc
  have HB0 := hide hHB0
  have HB1 := hide hHB1
  obtain ⟨W1, hW1⟩ : ∃ W1, W1 = w.alloc (.cells #[.int .i64 at_, .int .u8 (op : Int), .bool false, .int .i64 a, .int .i64 b, .int .i64 low, .slice ak2 keys.length capk, .slice at2 tgts.length cap2] 35) := ⟨_, rfl⟩
  have v1 : Vb W1 w.heap.size ⟨⟨at_, op, false, a, b, low, keys, tgts⟩, .slice ak2 keys.length capk, .slice at2 tgts.length cap2⟩ := by rw [hW1]; exact heap_alloc_new w _
  have b1 : Below w.heap.size w W1 := by rw [hW1]; exact (Below.refl _ _).alloc (Nat.le_refl _) _
  obtain ⟨p, ep⟩ : ∃ p, p = w.heap.size := ⟨_, rfl⟩
  have v1p := v1
  rw [← ep] at v1p
  have hcv := bytes_new W1 [UInt8.ofNat op] #[.int .u8 (op : Int)] 1 (by simp only [List.map_cons, List.map_nil]; rw [u8_nat hop]) rfl
  have hb1' : Below W1.heap.size W1 (W1.alloc (.cells #[.int .u8 (op : Int)] 5)) := (Below.refl _ _).alloc (Nat.le_refl _) _
  have y1 := v1p.cell 1
  simp [V.arr] at y1
  obtain ⟨O, eO⟩ : ∃ O : ByteArray, O = ⟨([UInt8.ofNat op] : List UInt8).toArray⟩ := ⟨_, rfl⟩
  have hO : O.size = 1 := by rw [eO]; rfl
  rw [← eO] at hcv
  have HeO := hide eO
  simp only [V.val, V.arr]
  clear h htc hkc hr hTx v1 hops henc eO hk hHB0 hHB1
  go_enter Tryd.func41, Tryd.ntmps41
  go_upto_region 1 with fail
  rw [← hW1, ← ep]
  clear hW1 ep
  go_upto_region 2 with fail
  have b2 : Below w.heap.size w (W1.alloc (.cells #[.int .u8 (op : Int)] 5)) := b1.trans (hb1'.mono b1.size)
  have v2 := v1p.below hb1'
  generalize W1.alloc (.cells #[.int .u8 (op : Int)] 5) = W2 at *
  clear hcv y1 v1p hb1' b1
  have y0 := v2.cell 0
  have y2 := v2.cell 2
  have y3 := v2.cell 3
  have y4 := v2.cell 4
  have y7 := v2.cell 7
  simp [V.arr] at y0 y2 y3 y4 y7
  by_cases hl : tgts.length = 0
  · have hli : (((tgts.length : Nat) : Int) != 0) = false := by rw [bne_eq_false_iff_eq]; omega
    have Hl := hide hl
    have htn : tgts = [] := List.length_eq_zero_iff.1 hl
    have Htn := hide htn
    clear htn
    obtain ⟨A0, eA0⟩ : ∃ A0 : ByteArray, A0 = ⟨(M.nb ⟨2, 0, 65535⟩ a).toArray⟩ := ⟨_, rfl⟩
    have hA0 : A0.size = 2 := by rw [eA0]; simp [ByteArray.size, M.nb_len]
    obtain ⟨ok0, hok0⟩ : ∃ ok0, ok0 = M.holds ⟨2, 0, 65535⟩ a := ⟨_, rfl⟩
    obtain ⟨A1, eA1⟩ : ∃ A1 : ByteArray, A1 = ⟨(M.nb ⟨1, 0, 255⟩ b).toArray⟩ := ⟨_, rfl⟩
    have hA1 : A1.size = 1 := by rw [eA1]; simp [ByteArray.size, M.nb_len]
    obtain ⟨ok1, hok1⟩ : ∃ ok1, ok1 = M.holds ⟨1, 0, 255⟩ b := ⟨_, rfl⟩
    have hstr : O ++ A0 ++ A1 = ⟨([UInt8.ofNat op] ++ M.nb ⟨2, 0, 65535⟩ a ++ M.nb ⟨1, 0, 255⟩ b).toArray⟩ := by
      rw [unhide HeO, eA0, eA1]
      simp only [cat_text]
      try simp
    have hTt : Tx = [UInt8.ofNat op] ++ M.nb ⟨2, 0, 65535⟩ a ++ M.nb ⟨1, 0, 255⟩ b := by
      rw [unhide Henc, unhide Htn]
      simp [M.plainB, M.layOf, M.f0, M.nb, M.big, M.u64]
    have hr1 : r = (ok0 && (ok1 && decide (0 < b))) := by
      rw [unhide Hops, tgts_nil (g := ⟨at_, op, false, a, b, low, keys, tgts⟩) (unhide Hl), hok0, hok1, unhide Hl, Bool.eq_iff_iff]
      simp [M.holds, M.f0, M.layOf]
      try omega
    have Hstr := hide hstr
    have HTt := hide hTt
    have Hr1 := hide hr1
    have HeA0 := hide eA0
    have Hok0 := hide hok0
    have HeA1 := hide eA1
    have Hok1 := hide hok1
    clear hstr hTt hr1 hl Hops Henc eA0 hok0 eA1 hok1
    have HC0 := hide (unhide HB0 a W2)
    rw [← unhide Hok0, ← unhide HeA0] at HC0
    go_wp2_with fail
    refine (unhide HC0).mono ?_
    clear HC0
    rintro e w3 ⟨rfl, hb3⟩
    have b3 := b2.trans (hb3.mono b2.size)
    have v3 := v2.below hb3
    have y3 := v3.cell 3
    have y4 := v3.cell 4
    simp [V.arr] at y3 y4
    have HC1 := hide (unhide HB1 b w3)
    rw [← unhide Hok1, ← unhide HeA1] at HC1
    go_wp2_with fail
    refine (unhide HC1).mono ?_
    clear HC1
    rintro e w4 ⟨rfl, hb4⟩
    have b4 := b3.trans (hb4.mono b3.size)
    have v4 := v3.below hb4
    have y4' := v4.cell 4
    simp [V.arr] at y4'
    by_cases hb0 : 0 < b
    · rw [decide_eq_true hb0] at Hr1
      cases ok0 <;> cases ok1
      · go_wp2
        refine bodyPost_ret (v := .tuple #[.string (O ++ A0 ++ A1), .bool false]) (by simp [results, Tryd.results41, go_sem]; try omega) rfl ?_
        exact ⟨⟨_, by rw [unhide Hstr, unhide Hr1] <;> rfl, fun _ => (unhide HTt).symm⟩, b4⟩
      · go_wp2
        refine bodyPost_ret (v := .tuple #[.string (O ++ A0 ++ A1), .bool false]) (by simp [results, Tryd.results41, go_sem]; try omega) rfl ?_
        exact ⟨⟨_, by rw [unhide Hstr, unhide Hr1] <;> rfl, fun _ => (unhide HTt).symm⟩, b4⟩
      · go_wp2
        refine bodyPost_ret (v := .tuple #[.string (O ++ A0 ++ A1), .bool false]) (by simp [results, Tryd.results41, go_sem]; try omega) rfl ?_
        exact ⟨⟨_, by rw [unhide Hstr, unhide Hr1] <;> rfl, fun _ => (unhide HTt).symm⟩, b4⟩
      · go_wp2
        refine bodyPost_ret (v := .tuple #[.string (O ++ A0 ++ A1), .bool true]) (by simp [results, Tryd.results41, go_sem]; try omega) rfl ?_
        exact ⟨⟨_, by rw [unhide Hstr, unhide Hr1] <;> rfl, fun _ => (unhide HTt).symm⟩, b4⟩
    · rw [decide_eq_false hb0] at Hr1
      have hb0' : b ≤ 0 := by omega
      cases ok0 <;> cases ok1
      · go_wp2
        refine bodyPost_ret (v := .tuple #[.string (O ++ A0 ++ A1), .bool false]) (by simp [results, Tryd.results41, go_sem]; try omega) rfl ?_
        exact ⟨⟨_, by rw [unhide Hstr, unhide Hr1] <;> rfl, fun _ => (unhide HTt).symm⟩, b4⟩
      · go_wp2
        refine bodyPost_ret (v := .tuple #[.string (O ++ A0 ++ A1), .bool false]) (by simp [results, Tryd.results41, go_sem]; try omega) rfl ?_
        exact ⟨⟨_, by rw [unhide Hstr, unhide Hr1] <;> rfl, fun _ => (unhide HTt).symm⟩, b4⟩
      · go_wp2
        refine bodyPost_ret (v := .tuple #[.string (O ++ A0 ++ A1), .bool false]) (by simp [results, Tryd.results41, go_sem]; try omega) rfl ?_
        exact ⟨⟨_, by rw [unhide Hstr, unhide Hr1] <;> rfl, fun _ => (unhide HTt).symm⟩, b4⟩
      · go_wp2
        refine bodyPost_ret (v := .tuple #[.string (O ++ A0 ++ A1), .bool false]) (by simp [results, Tryd.results41, go_sem]; try omega) rfl ?_
        exact ⟨⟨_, by rw [unhide Hstr, unhide Hr1] <;> rfl, fun _ => (unhide HTt).symm⟩, b4⟩
  · have hli : (((tgts.length : Nat) : Int) != 0) = true := by rw [bne_iff_ne]; omega
    have hrf : r = false := by
      rw [unhide Hops]
      have hd : decide (tgts.length = if (M.layOf 14).t.size = 0 then 0 else 1) = false := by rw [decide_eq_false_iff_not]; exact hl
      rw [hd]; simp
    subst hrf
    clear Hops hl
    go_wp2
    refine bodyPost_ret (v := .tuple #[.string ⟨#[]⟩, .bool false]) (by simp [results, Tryd.results41, go_sem]) rfl ?_
    first | exact ⟨⟨[], rfl, fun e => by cases e⟩, b2⟩ | exact ⟨⟨[], rfl⟩, b2⟩
end Go.Proofs.YtpmonoenppfekabDoor
