/-
  An instruction as bytes, by the reference: encode.
-/
import Derived.Test.YtpmonoenppfekabDoorRsw
namespace Go.Proofs.YtpmonoenppfekabDoor
open Go.RowKit
/-- What encode leaves. -/
def REnc (c : V) (n : Nat) (w : World) (e : Ending) (w' : World) : Prop :=
  (∃ t : List UInt8, e = .returned (.tuple #[.string ⟨t.toArray⟩, .bool (M.hasOps c.g)]) ∧ (M.hasOps c.g = true → t = M.enc1 c.g n)) ∧ Below w.heap.size w w'
theorem wide_of {op : Nat} {b : Bool} (h : M.kindW op b ≠ 7) (h2 : M.kindW op b ≠ 9) (h3 : M.kindW op b ≠ 0) : b = false := by
  cases b
  · rfl
  · unfold M.kindW at h h2 h3
    simp only [if_true] at h h2 h3
    by_cases h6 : M.kind op = 6
    · rw [if_pos h6] at h; exact absurd rfl h
    · rw [if_neg h6] at h2 h3
      by_cases h8 : M.kind op = 8
      · rw [if_pos h8] at h2; exact absurd rfl h2
      · rw [if_neg h8] at h3; exact absurd rfl h3
theorem plain_ops {g : G} {k : Nat} (hk : M.kindW g.op g.wide = k) (h15 : k ≠ 15) (h16 : k ≠ 16) : M.hasOps g = (M.holds (M.layOf k).a g.a && M.holds (M.layOf k).b g.b && decide (g.tgts.length = if (M.layOf k).t.size = 0 then 0 else 1) && M.hasTgts g (M.layOf k).t) := by
  unfold M.hasOps; rw [hk, if_neg h15, if_neg h16]
theorem plain_enc1 {g : G} {k n : Nat} (hk : M.kindW g.op g.wide = k) (h15 : k ≠ 15) (h16 : k ≠ 16) : M.enc1 g n = (if g.wide then [196] else []) ++ UInt8.ofNat g.op :: M.plainB g (M.layOf k) := by
  unfold M.enc1; rw [hk, if_neg h15, if_neg h16]
theorem tgts_nil {g : G} {f : F} (h : g.tgts.length = 0) : M.hasTgts g f = true := by
  unfold M.hasTgts; rw [List.length_eq_zero_iff.1 h]; rfl
theorem tgts_one {g : G} {f : F} (h : g.tgts.length = 1) : M.hasTgts g f = M.holds f (wrap64 (g.tgts.getD 0 0 - g.at_)) ∧ g.tgts = [g.tgts.getD 0 0] := by
  unfold M.hasTgts
  obtain ⟨at_, op, wide, a, b, low, keys, tgts⟩ := g
  simp only at *
  match tgts, h with
  | [x], _ => exact ⟨by simp, rfl⟩
theorem wide_is {op : Nat} {b : Bool} {k : Nat} (ho : op < 256) (h : M.kindW op b = k) (hk : k = 7 ∨ k = 9) : b = true := by
  cases b
  · have hq := (by decide +kernel : ∀ m : Fin 256, M.kind m.val ≠ 7 ∧ M.kind m.val ≠ 9) ⟨op, ho⟩
    have h' : M.kind op = k := h
    simp only at hq
    omega
  · rfl
set_option maxRecDepth 100000 in
set_option maxHeartbeats 2000000 in
theorem refEnc_k1 (c : V) (n : Nat) (w : World) (h : c.Ok w) (hk : M.kindW c.g.op c.g.wide = 1) : Calls Tryd.prog 41 #[c.val, .string ⟨#[46]⟩] w fun e w' => REnc c n w e w' := by
  have hop := h.op
  have hwd : c.g.wide = false := wide_of (by rw [hk]; decide) (by rw [hk]; decide) (by rw [hk]; decide)
  have hops := plain_ops hk (by decide) (by decide)
  have henc := plain_enc1 (n := n) hk (by decide) (by decide)
  unfold REnc
  obtain ⟨r, hr⟩ : ∃ r, r = M.hasOps c.g := ⟨_, rfl⟩
  obtain ⟨Tx, hTx⟩ : ∃ Tx, Tx = M.enc1 c.g n := ⟨_, rfl⟩
  rw [← hr, ← hTx]
  rw [← hr] at hops
  rw [← hTx] at henc
  obtain ⟨at2, cap2, et, htc⟩ := h.t
  obtain ⟨ak2, capk, ek, hkc⟩ := h.k
  obtain ⟨⟨at_, op, wide, a, b, low, keys, tgts⟩, kv, tv⟩ := c
  simp only at et ek hwd hop hops henc htc
  subst et
  subst ek
  subst hwd
  have Hops := hide hops
  have Henc := hide henc
  obtain ⟨W1, hW1⟩ : ∃ W1, W1 = w.alloc (.cells #[.int .i64 at_, .int .u8 (op : Int), .bool false, .int .i64 a, .int .i64 b, .int .i64 low, .slice ak2 keys.length capk, .slice at2 tgts.length cap2] 35) := ⟨_, rfl⟩
  have v1 : Vb W1 w.heap.size ⟨⟨at_, op, false, a, b, low, keys, tgts⟩, .slice ak2 keys.length capk, .slice at2 tgts.length cap2⟩ := by rw [hW1]; exact heap_alloc_new w _
  have b1 : Below w.heap.size w W1 := by rw [hW1]; exact (Below.refl _ _).alloc (Nat.le_refl _) _
  obtain ⟨p, ep⟩ : ∃ p, p = w.heap.size := ⟨_, rfl⟩
  have v1p := v1
  rw [← ep] at v1p
  have hcv := bytes_new W1 [UInt8.ofNat op] #[.int .u8 (op : Int)] 1 (by simp only [List.map_cons, List.map_nil]; rw [u8_nat hop]) rfl
  have hb1' : Below W1.heap.size W1 (W1.alloc (.cells #[.int .u8 (op : Int)] 5)) := (Below.refl _ _).alloc (Nat.le_refl _) _
  have y1 := v1p.cell 1
  simp [V.arr] at y1
  obtain ⟨O, eO⟩ : ∃ O : ByteArray, O = ⟨([UInt8.ofNat op] : List UInt8).toArray⟩ := ⟨_, rfl⟩
  have hO : O.size = 1 := by rw [eO]; rfl
  rw [← eO] at hcv
  have HeO := hide eO
  simp only [V.val, V.arr]
  clear h htc hkc hr hTx v1 hops henc eO hk 
  go_enter Tryd.func41, Tryd.ntmps41
  go_upto_region 1 with fail
  rw [← hW1, ← ep]
  clear hW1 ep
  go_upto_region 2 with fail
  have b2 : Below w.heap.size w (W1.alloc (.cells #[.int .u8 (op : Int)] 5)) := b1.trans (hb1'.mono b1.size)
  have v2 := v1p.below hb1'
  generalize W1.alloc (.cells #[.int .u8 (op : Int)] 5) = W2 at *
  clear hcv y1 v1p hb1' b1
  have y0 := v2.cell 0
  have y2 := v2.cell 2
  have y3 := v2.cell 3
  have y4 := v2.cell 4
  have y7 := v2.cell 7
  simp [V.arr] at y0 y2 y3 y4 y7
  by_cases hl : tgts.length = 0
  · have hli : (((tgts.length : Nat) : Int) != 0) = false := by rw [bne_eq_false_iff_eq]; omega
    have Hl := hide hl
    have htn : tgts = [] := List.length_eq_zero_iff.1 hl
    have Htn := hide htn
    clear htn
    have hstr : O ++ ⟨#[]⟩ ++ ⟨#[]⟩ = ⟨([UInt8.ofNat op]).toArray⟩ := by
      rw [unhide HeO, (show (⟨#[]⟩ : ByteArray) = ⟨([] : List UInt8).toArray⟩ from rfl)]
      simp only [cat_text]
      try simp
    have hTt : Tx = [UInt8.ofNat op] := by
      rw [unhide Henc, unhide Htn]
      simp [M.plainB, M.layOf, M.f0, M.nb, M.big, M.u64]
    have hr1 : r = true := by
      rw [unhide Hops, tgts_nil (g := ⟨at_, op, false, a, b, low, keys, tgts⟩) (unhide Hl), unhide Hl, Bool.eq_iff_iff]
      simp [M.holds, M.f0, M.layOf]
      try omega
    have Hstr := hide hstr
    have HTt := hide hTt
    have Hr1 := hide hr1
    clear hstr hTt hr1 hl Hops Henc 
    go_wp2
    refine bodyPost_ret (v := .tuple #[.string (O ++ ⟨#[]⟩ ++ ⟨#[]⟩), .bool true]) (by simp [results, Tryd.results41, go_sem]) rfl ?_
    exact ⟨⟨_, by rw [unhide Hstr, unhide Hr1] <;> rfl, fun _ => (unhide HTt).symm⟩, b2⟩
  · have hli : (((tgts.length : Nat) : Int) != 0) = true := by rw [bne_iff_ne]; omega
    have hrf : r = false := by
      rw [unhide Hops]
      have hd : decide (tgts.length = if (M.layOf 1).t.size = 0 then 0 else 1) = false := by rw [decide_eq_false_iff_not]; exact hl
      rw [hd]; simp
    subst hrf
    clear Hops hl
    go_wp2
    refine bodyPost_ret (v := .tuple #[.string ⟨#[]⟩, .bool false]) (by simp [results, Tryd.results41, go_sem]) rfl ?_
    first | exact ⟨⟨[], rfl, fun e => by cases e⟩, b2⟩ | exact ⟨⟨[], rfl⟩, b2⟩
set_option maxRecDepth 100000 in
set_option maxHeartbeats 2000000 in
theorem refEnc_k2 (c : V) (n : Nat) (w : World) (h : c.Ok w) (hk : M.kindW c.g.op c.g.wide = 2) : Calls Tryd.prog 41 #[c.val, .string ⟨#[98]⟩] w fun e w' => REnc c n w e w' := by
  have hop := h.op
  have hwd : c.g.wide = false := wide_of (by rw [hk]; decide) (by rw [hk]; decide) (by rw [hk]; decide)
  have hops := plain_ops hk (by decide) (by decide)
  have henc := plain_enc1 (n := n) hk (by decide) (by decide)
  have hHB0 := fun (x : Int) (w : World) => bytes_any ⟨1, -128, 127⟩ (.inl rfl) x w
  unfold REnc
  obtain ⟨r, hr⟩ : ∃ r, r = M.hasOps c.g := ⟨_, rfl⟩
  obtain ⟨Tx, hTx⟩ : ∃ Tx, Tx = M.enc1 c.g n := ⟨_, rfl⟩
  rw [← hr, ← hTx]
  rw [← hr] at hops
  rw [← hTx] at henc
  obtain ⟨at2, cap2, et, htc⟩ := h.t
  obtain ⟨ak2, capk, ek, hkc⟩ := h.k
  obtain ⟨⟨at_, op, wide, a, b, low, keys, tgts⟩, kv, tv⟩ := c
  simp only at et ek hwd hop hops henc htc
  subst et
  subst ek
  subst hwd
  have Hops := hide hops
  have Henc := hide henc
  have HB0 := hide hHB0
  obtain ⟨W1, hW1⟩ : ∃ W1, W1 = w.alloc (.cells #[.int .i64 at_, .int .u8 (op : Int), .bool false, .int .i64 a, .int .i64 b, .int .i64 low, .slice ak2 keys.length capk, .slice at2 tgts.length cap2] 35) := ⟨_, rfl⟩
  have v1 : Vb W1 w.heap.size ⟨⟨at_, op, false, a, b, low, keys, tgts⟩, .slice ak2 keys.length capk, .slice at2 tgts.length cap2⟩ := by rw [hW1]; exact heap_alloc_new w _
  have b1 : Below w.heap.size w W1 := by rw [hW1]; exact (Below.refl _ _).alloc (Nat.le_refl _) _
  obtain ⟨p, ep⟩ : ∃ p, p = w.heap.size := ⟨_, rfl⟩
  have v1p := v1
  rw [← ep] at v1p
  have hcv := bytes_new W1 [UInt8.ofNat op] #[.int .u8 (op : Int)] 1 (by simp only [List.map_cons, List.map_nil]; rw [u8_nat hop]) rfl
  have hb1' : Below W1.heap.size W1 (W1.alloc (.cells #[.int .u8 (op : Int)] 5)) := (Below.refl _ _).alloc (Nat.le_refl _) _
  have y1 := v1p.cell 1
  simp [V.arr] at y1
  obtain ⟨O, eO⟩ : ∃ O : ByteArray, O = ⟨([UInt8.ofNat op] : List UInt8).toArray⟩ := ⟨_, rfl⟩
  have hO : O.size = 1 := by rw [eO]; rfl
  rw [← eO] at hcv
  have HeO := hide eO
  simp only [V.val, V.arr]
  clear h htc hkc hr hTx v1 hops henc eO hk hHB0
  go_enter Tryd.func41, Tryd.ntmps41
  go_upto_region 1 with fail
  rw [← hW1, ← ep]
  clear hW1 ep
  go_upto_region 2 with fail
  have b2 : Below w.heap.size w (W1.alloc (.cells #[.int .u8 (op : Int)] 5)) := b1.trans (hb1'.mono b1.size)
  have v2 := v1p.below hb1'
  generalize W1.alloc (.cells #[.int .u8 (op : Int)] 5) = W2 at *
  clear hcv y1 v1p hb1' b1
  have y0 := v2.cell 0
  have y2 := v2.cell 2
  have y3 := v2.cell 3
  have y4 := v2.cell 4
  have y7 := v2.cell 7
  simp [V.arr] at y0 y2 y3 y4 y7
  by_cases hl : tgts.length = 0
  · have hli : (((tgts.length : Nat) : Int) != 0) = false := by rw [bne_eq_false_iff_eq]; omega
    have Hl := hide hl
    have htn : tgts = [] := List.length_eq_zero_iff.1 hl
    have Htn := hide htn
    clear htn
    obtain ⟨A0, eA0⟩ : ∃ A0 : ByteArray, A0 = ⟨(M.nb ⟨1, -128, 127⟩ a).toArray⟩ := ⟨_, rfl⟩
    have hA0 : A0.size = 1 := by rw [eA0]; simp [ByteArray.size, M.nb_len]
    obtain ⟨ok0, hok0⟩ : ∃ ok0, ok0 = M.holds ⟨1, -128, 127⟩ a := ⟨_, rfl⟩
    have hstr : O ++ A0 ++ ⟨#[]⟩ = ⟨([UInt8.ofNat op] ++ M.nb ⟨1, -128, 127⟩ a).toArray⟩ := by
      rw [unhide HeO, eA0, (show (⟨#[]⟩ : ByteArray) = ⟨([] : List UInt8).toArray⟩ from rfl)]
      simp only [cat_text]
      try simp
    have hTt : Tx = [UInt8.ofNat op] ++ M.nb ⟨1, -128, 127⟩ a := by
      rw [unhide Henc, unhide Htn]
      simp [M.plainB, M.layOf, M.f0, M.nb, M.big, M.u64]
    have hr1 : r = ok0 := by
      rw [unhide Hops, tgts_nil (g := ⟨at_, op, false, a, b, low, keys, tgts⟩) (unhide Hl), hok0, unhide Hl, Bool.eq_iff_iff]
      simp [M.holds, M.f0, M.layOf]
      try omega
    have Hstr := hide hstr
    have HTt := hide hTt
    have Hr1 := hide hr1
    have HeA0 := hide eA0
    have Hok0 := hide hok0
    clear hstr hTt hr1 hl Hops Henc eA0 hok0
    have HC0 := hide (unhide HB0 a W2)
    rw [← unhide Hok0, ← unhide HeA0] at HC0
    go_wp2_with fail
    refine (unhide HC0).mono ?_
    clear HC0
    rintro e w3 ⟨rfl, hb3⟩
    have b3 := b2.trans (hb3.mono b2.size)
    have v3 := v2.below hb3
    have y3 := v3.cell 3
    have y4 := v3.cell 4
    simp [V.arr] at y3 y4
    cases ok0
    · go_wp2
      refine bodyPost_ret (v := .tuple #[.string (O ++ A0 ++ ⟨#[]⟩), .bool false]) (by simp [results, Tryd.results41, go_sem]) rfl ?_
      exact ⟨⟨_, by rw [unhide Hstr, unhide Hr1] <;> rfl, fun _ => (unhide HTt).symm⟩, b3⟩
    · go_wp2
      refine bodyPost_ret (v := .tuple #[.string (O ++ A0 ++ ⟨#[]⟩), .bool true]) (by simp [results, Tryd.results41, go_sem]) rfl ?_
      exact ⟨⟨_, by rw [unhide Hstr, unhide Hr1] <;> rfl, fun _ => (unhide HTt).symm⟩, b3⟩
  · have hli : (((tgts.length : Nat) : Int) != 0) = true := by rw [bne_iff_ne]; omega
    have hrf : r = false := by
      rw [unhide Hops]
      have hd : decide (tgts.length = if (M.layOf 2).t.size = 0 then 0 else 1) = false := by rw [decide_eq_false_iff_not]; exact hl
      rw [hd]; simp
    subst hrf
    clear Hops hl
    go_wp2
    refine bodyPost_ret (v := .tuple #[.string ⟨#[]⟩, .bool false]) (by simp [results, Tryd.results41, go_sem]) rfl ?_
    first | exact ⟨⟨[], rfl, fun e => by cases e⟩, b2⟩ | exact ⟨⟨[], rfl⟩, b2⟩
set_option maxRecDepth 100000 in
set_option maxHeartbeats 2000000 in
theorem refEnc_k3 (c : V) (n : Nat) (w : World) (h : c.Ok w) (hk : M.kindW c.g.op c.g.wide = 3) : Calls Tryd.prog 41 #[c.val, .string ⟨#[115]⟩] w fun e w' => REnc c n w e w' := by
  have hop := h.op
  have hwd : c.g.wide = false := wide_of (by rw [hk]; decide) (by rw [hk]; decide) (by rw [hk]; decide)
  have hops := plain_ops hk (by decide) (by decide)
  have henc := plain_enc1 (n := n) hk (by decide) (by decide)
  have hHB0 := fun (x : Int) (w : World) => bytes_any ⟨2, -32768, 32767⟩ (.inr (.inl rfl)) x w
  unfold REnc
  obtain ⟨r, hr⟩ : ∃ r, r = M.hasOps c.g := ⟨_, rfl⟩
  obtain ⟨Tx, hTx⟩ : ∃ Tx, Tx = M.enc1 c.g n := ⟨_, rfl⟩
  rw [← hr, ← hTx]
  rw [← hr] at hops
  rw [← hTx] at henc
  obtain ⟨at2, cap2, et, htc⟩ := h.t
  obtain ⟨ak2, capk, ek, hkc⟩ := h.k
  obtain ⟨⟨at_, op, wide, a, b, low, keys, tgts⟩, kv, tv⟩ := c
  simp only at et ek hwd hop hops henc htc
  subst et
  subst ek
  subst hwd
  have Hops := hide hops
  have Henc := hide henc
  have HB0 := hide hHB0
  obtain ⟨W1, hW1⟩ : ∃ W1, W1 = w.alloc (.cells #[.int .i64 at_, .int .u8 (op : Int), .bool false, .int .i64 a, .int .i64 b, .int .i64 low, .slice ak2 keys.length capk, .slice at2 tgts.length cap2] 35) := ⟨_, rfl⟩
  have v1 : Vb W1 w.heap.size ⟨⟨at_, op, false, a, b, low, keys, tgts⟩, .slice ak2 keys.length capk, .slice at2 tgts.length cap2⟩ := by rw [hW1]; exact heap_alloc_new w _
  have b1 : Below w.heap.size w W1 := by rw [hW1]; exact (Below.refl _ _).alloc (Nat.le_refl _) _
  obtain ⟨p, ep⟩ : ∃ p, p = w.heap.size := ⟨_, rfl⟩
  have v1p := v1
  rw [← ep] at v1p
  have hcv := bytes_new W1 [UInt8.ofNat op] #[.int .u8 (op : Int)] 1 (by simp only [List.map_cons, List.map_nil]; rw [u8_nat hop]) rfl
  have hb1' : Below W1.heap.size W1 (W1.alloc (.cells #[.int .u8 (op : Int)] 5)) := (Below.refl _ _).alloc (Nat.le_refl _) _
  have y1 := v1p.cell 1
  simp [V.arr] at y1
  obtain ⟨O, eO⟩ : ∃ O : ByteArray, O = ⟨([UInt8.ofNat op] : List UInt8).toArray⟩ := ⟨_, rfl⟩
  have hO : O.size = 1 := by rw [eO]; rfl
  rw [← eO] at hcv
  have HeO := hide eO
  simp only [V.val, V.arr]
  clear h htc hkc hr hTx v1 hops henc eO hk hHB0
  go_enter Tryd.func41, Tryd.ntmps41
  go_upto_region 1 with fail
  rw [← hW1, ← ep]
  clear hW1 ep
  go_upto_region 2 with fail
  have b2 : Below w.heap.size w (W1.alloc (.cells #[.int .u8 (op : Int)] 5)) := b1.trans (hb1'.mono b1.size)
  have v2 := v1p.below hb1'
  generalize W1.alloc (.cells #[.int .u8 (op : Int)] 5) = W2 at *
  clear hcv y1 v1p hb1' b1
  have y0 := v2.cell 0
  have y2 := v2.cell 2
  have y3 := v2.cell 3
  have y4 := v2.cell 4
  have y7 := v2.cell 7
  simp [V.arr] at y0 y2 y3 y4 y7
  by_cases hl : tgts.length = 0
  · have hli : (((tgts.length : Nat) : Int) != 0) = false := by rw [bne_eq_false_iff_eq]; omega
    have Hl := hide hl
    have htn : tgts = [] := List.length_eq_zero_iff.1 hl
    have Htn := hide htn
    clear htn
    obtain ⟨A0, eA0⟩ : ∃ A0 : ByteArray, A0 = ⟨(M.nb ⟨2, -32768, 32767⟩ a).toArray⟩ := ⟨_, rfl⟩
    have hA0 : A0.size = 2 := by rw [eA0]; simp [ByteArray.size, M.nb_len]
    obtain ⟨ok0, hok0⟩ : ∃ ok0, ok0 = M.holds ⟨2, -32768, 32767⟩ a := ⟨_, rfl⟩
    have hstr : O ++ A0 ++ ⟨#[]⟩ = ⟨([UInt8.ofNat op] ++ M.nb ⟨2, -32768, 32767⟩ a).toArray⟩ := by
      rw [unhide HeO, eA0, (show (⟨#[]⟩ : ByteArray) = ⟨([] : List UInt8).toArray⟩ from rfl)]
      simp only [cat_text]
      try simp
    have hTt : Tx = [UInt8.ofNat op] ++ M.nb ⟨2, -32768, 32767⟩ a := by
      rw [unhide Henc, unhide Htn]
      simp [M.plainB, M.layOf, M.f0, M.nb, M.big, M.u64]
    have hr1 : r = ok0 := by
      rw [unhide Hops, tgts_nil (g := ⟨at_, op, false, a, b, low, keys, tgts⟩) (unhide Hl), hok0, unhide Hl, Bool.eq_iff_iff]
      simp [M.holds, M.f0, M.layOf]
      try omega
    have Hstr := hide hstr
    have HTt := hide hTt
    have Hr1 := hide hr1
    have HeA0 := hide eA0
    have Hok0 := hide hok0
    clear hstr hTt hr1 hl Hops Henc eA0 hok0
    have HC0 := hide (unhide HB0 a W2)
    rw [← unhide Hok0, ← unhide HeA0] at HC0
    go_wp2_with fail
    refine (unhide HC0).mono ?_
    clear HC0
    rintro e w3 ⟨rfl, hb3⟩
    have b3 := b2.trans (hb3.mono b2.size)
    have v3 := v2.below hb3
    have y3 := v3.cell 3
    have y4 := v3.cell 4
    simp [V.arr] at y3 y4
    cases ok0
    · go_wp2
      refine bodyPost_ret (v := .tuple #[.string (O ++ A0 ++ ⟨#[]⟩), .bool false]) (by simp [results, Tryd.results41, go_sem]) rfl ?_
      exact ⟨⟨_, by rw [unhide Hstr, unhide Hr1] <;> rfl, fun _ => (unhide HTt).symm⟩, b3⟩
    · go_wp2
      refine bodyPost_ret (v := .tuple #[.string (O ++ A0 ++ ⟨#[]⟩), .bool true]) (by simp [results, Tryd.results41, go_sem]) rfl ?_
      exact ⟨⟨_, by rw [unhide Hstr, unhide Hr1] <;> rfl, fun _ => (unhide HTt).symm⟩, b3⟩
  · have hli : (((tgts.length : Nat) : Int) != 0) = true := by rw [bne_iff_ne]; omega
    have hrf : r = false := by
      rw [unhide Hops]
      have hd : decide (tgts.length = if (M.layOf 3).t.size = 0 then 0 else 1) = false := by rw [decide_eq_false_iff_not]; exact hl
      rw [hd]; simp
    subst hrf
    clear Hops hl
    go_wp2
    refine bodyPost_ret (v := .tuple #[.string ⟨#[]⟩, .bool false]) (by simp [results, Tryd.results41, go_sem]) rfl ?_
    first | exact ⟨⟨[], rfl, fun e => by cases e⟩, b2⟩ | exact ⟨⟨[], rfl⟩, b2⟩
set_option maxRecDepth 100000 in
set_option maxHeartbeats 2000000 in
theorem refEnc_k4 (c : V) (n : Nat) (w : World) (h : c.Ok w) (hk : M.kindW c.g.op c.g.wide = 4) : Calls Tryd.prog 41 #[c.val, .string ⟨#[99]⟩] w fun e w' => REnc c n w e w' := by
  have hop := h.op
  have hwd : c.g.wide = false := wide_of (by rw [hk]; decide) (by rw [hk]; decide) (by rw [hk]; decide)
  have hops := plain_ops hk (by decide) (by decide)
  have henc := plain_enc1 (n := n) hk (by decide) (by decide)
  have hHB0 := fun (x : Int) (w : World) => bytes_any ⟨1, 0, 255⟩ (.inr (.inr (.inr (.inl rfl)))) x w
  unfold REnc
  obtain ⟨r, hr⟩ : ∃ r, r = M.hasOps c.g := ⟨_, rfl⟩
  obtain ⟨Tx, hTx⟩ : ∃ Tx, Tx = M.enc1 c.g n := ⟨_, rfl⟩
  rw [← hr, ← hTx]
  rw [← hr] at hops
  rw [← hTx] at henc
  obtain ⟨at2, cap2, et, htc⟩ := h.t
  obtain ⟨ak2, capk, ek, hkc⟩ := h.k
  obtain ⟨⟨at_, op, wide, a, b, low, keys, tgts⟩, kv, tv⟩ := c
  simp only at et ek hwd hop hops henc htc
  subst et
  subst ek
  subst hwd
  have Hops := hide hops
  have Henc := hide henc
  have HB0 := hide hHB0
  obtain ⟨W1, hW1⟩ : ∃ W1, W1 = w.alloc (.cells #[.int .i64 at_, .int .u8 (op : Int), .bool false, .int .i64 a, .int .i64 b, .int .i64 low, .slice ak2 keys.length capk, .slice at2 tgts.length cap2] 35) := ⟨_, rfl⟩
  have v1 : Vb W1 w.heap.size ⟨⟨at_, op, false, a, b, low, keys, tgts⟩, .slice ak2 keys.length capk, .slice at2 tgts.length cap2⟩ := by rw [hW1]; exact heap_alloc_new w _
  have b1 : Below w.heap.size w W1 := by rw [hW1]; exact (Below.refl _ _).alloc (Nat.le_refl _) _
  obtain ⟨p, ep⟩ : ∃ p, p = w.heap.size := ⟨_, rfl⟩
  have v1p := v1
  rw [← ep] at v1p
  have hcv := bytes_new W1 [UInt8.ofNat op] #[.int .u8 (op : Int)] 1 (by simp only [List.map_cons, List.map_nil]; rw [u8_nat hop]) rfl
  have hb1' : Below W1.heap.size W1 (W1.alloc (.cells #[.int .u8 (op : Int)] 5)) := (Below.refl _ _).alloc (Nat.le_refl _) _
  have y1 := v1p.cell 1
  simp [V.arr] at y1
  obtain ⟨O, eO⟩ : ∃ O : ByteArray, O = ⟨([UInt8.ofNat op] : List UInt8).toArray⟩ := ⟨_, rfl⟩
  have hO : O.size = 1 := by rw [eO]; rfl
  rw [← eO] at hcv
  have HeO := hide eO
  simp only [V.val, V.arr]
  clear h htc hkc hr hTx v1 hops henc eO hk hHB0
  go_enter Tryd.func41, Tryd.ntmps41
  go_upto_region 1 with fail
  rw [← hW1, ← ep]
  clear hW1 ep
  go_upto_region 2 with fail
  have b2 : Below w.heap.size w (W1.alloc (.cells #[.int .u8 (op : Int)] 5)) := b1.trans (hb1'.mono b1.size)
  have v2 := v1p.below hb1'
  generalize W1.alloc (.cells #[.int .u8 (op : Int)] 5) = W2 at *
  clear hcv y1 v1p hb1' b1
  have y0 := v2.cell 0
  have y2 := v2.cell 2
  have y3 := v2.cell 3
  have y4 := v2.cell 4
  have y7 := v2.cell 7
  simp [V.arr] at y0 y2 y3 y4 y7
  by_cases hl : tgts.length = 0
  · have hli : (((tgts.length : Nat) : Int) != 0) = false := by rw [bne_eq_false_iff_eq]; omega
    have Hl := hide hl
    have htn : tgts = [] := List.length_eq_zero_iff.1 hl
    have Htn := hide htn
    clear htn
    obtain ⟨A0, eA0⟩ : ∃ A0 : ByteArray, A0 = ⟨(M.nb ⟨1, 0, 255⟩ a).toArray⟩ := ⟨_, rfl⟩
    have hA0 : A0.size = 1 := by rw [eA0]; simp [ByteArray.size, M.nb_len]
    obtain ⟨ok0, hok0⟩ : ∃ ok0, ok0 = M.holds ⟨1, 0, 255⟩ a := ⟨_, rfl⟩
    have hstr : O ++ A0 ++ ⟨#[]⟩ = ⟨([UInt8.ofNat op] ++ M.nb ⟨1, 0, 255⟩ a).toArray⟩ := by
      rw [unhide HeO, eA0, (show (⟨#[]⟩ : ByteArray) = ⟨([] : List UInt8).toArray⟩ from rfl)]
      simp only [cat_text]
      try simp
    have hTt : Tx = [UInt8.ofNat op] ++ M.nb ⟨1, 0, 255⟩ a := by
      rw [unhide Henc, unhide Htn]
      simp [M.plainB, M.layOf, M.f0, M.nb, M.big, M.u64]
    have hr1 : r = ok0 := by
      rw [unhide Hops, tgts_nil (g := ⟨at_, op, false, a, b, low, keys, tgts⟩) (unhide Hl), hok0, unhide Hl, Bool.eq_iff_iff]
      simp [M.holds, M.f0, M.layOf]
      try omega
    have Hstr := hide hstr
    have HTt := hide hTt
    have Hr1 := hide hr1
    have HeA0 := hide eA0
    have Hok0 := hide hok0
    clear hstr hTt hr1 hl Hops Henc eA0 hok0
    have HC0 := hide (unhide HB0 a W2)
    rw [← unhide Hok0, ← unhide HeA0] at HC0
    go_wp2_with fail
    refine (unhide HC0).mono ?_
    clear HC0
    rintro e w3 ⟨rfl, hb3⟩
    have b3 := b2.trans (hb3.mono b2.size)
    have v3 := v2.below hb3
    have y3 := v3.cell 3
    have y4 := v3.cell 4
    simp [V.arr] at y3 y4
    cases ok0
    · go_wp2
      refine bodyPost_ret (v := .tuple #[.string (O ++ A0 ++ ⟨#[]⟩), .bool false]) (by simp [results, Tryd.results41, go_sem]) rfl ?_
      exact ⟨⟨_, by rw [unhide Hstr, unhide Hr1] <;> rfl, fun _ => (unhide HTt).symm⟩, b3⟩
    · go_wp2
      refine bodyPost_ret (v := .tuple #[.string (O ++ A0 ++ ⟨#[]⟩), .bool true]) (by simp [results, Tryd.results41, go_sem]) rfl ?_
      exact ⟨⟨_, by rw [unhide Hstr, unhide Hr1] <;> rfl, fun _ => (unhide HTt).symm⟩, b3⟩
  · have hli : (((tgts.length : Nat) : Int) != 0) = true := by rw [bne_iff_ne]; omega
    have hrf : r = false := by
      rw [unhide Hops]
      have hd : decide (tgts.length = if (M.layOf 4).t.size = 0 then 0 else 1) = false := by rw [decide_eq_false_iff_not]; exact hl
      rw [hd]; simp
    subst hrf
    clear Hops hl
    go_wp2
    refine bodyPost_ret (v := .tuple #[.string ⟨#[]⟩, .bool false]) (by simp [results, Tryd.results41, go_sem]) rfl ?_
    first | exact ⟨⟨[], rfl, fun e => by cases e⟩, b2⟩ | exact ⟨⟨[], rfl⟩, b2⟩
set_option maxRecDepth 100000 in
set_option maxHeartbeats 2000000 in
theorem refEnc_k5 (c : V) (n : Nat) (w : World) (h : c.Ok w) (hk : M.kindW c.g.op c.g.wide = 5) : Calls Tryd.prog 41 #[c.val, .string ⟨#[105]⟩] w fun e w' => REnc c n w e w' := by
  have hop := h.op
  have hwd : c.g.wide = false := wide_of (by rw [hk]; decide) (by rw [hk]; decide) (by rw [hk]; decide)
  have hops := plain_ops hk (by decide) (by decide)
  have henc := plain_enc1 (n := n) hk (by decide) (by decide)
  have hHB0 := fun (x : Int) (w : World) => bytes_any ⟨2, 0, 65535⟩ (.inr (.inr (.inr (.inr rfl)))) x w
  unfold REnc
  obtain ⟨r, hr⟩ : ∃ r, r = M.hasOps c.g := ⟨_, rfl⟩
  obtain ⟨Tx, hTx⟩ : ∃ Tx, Tx = M.enc1 c.g n := ⟨_, rfl⟩
  rw [← hr, ← hTx]
  rw [← hr] at hops
  rw [← hTx] at henc
  obtain ⟨at2, cap2, et, htc⟩ := h.t
  obtain ⟨ak2, capk, ek, hkc⟩ := h.k
  obtain ⟨⟨at_, op, wide, a, b, low, keys, tgts⟩, kv, tv⟩ := c
  simp only at et ek hwd hop hops henc htc
  subst et
  subst ek
  subst hwd
  have Hops := hide hops
  have Henc := hide henc
  have HB0 := hide hHB0
  obtain ⟨W1, hW1⟩ : ∃ W1, W1 = w.alloc (.cells #[.int .i64 at_, .int .u8 (op : Int), .bool false, .int .i64 a, .int .i64 b, .int .i64 low, .slice ak2 keys.length capk, .slice at2 tgts.length cap2] 35) := ⟨_, rfl⟩
  have v1 : Vb W1 w.heap.size ⟨⟨at_, op, false, a, b, low, keys, tgts⟩, .slice ak2 keys.length capk, .slice at2 tgts.length cap2⟩ := by rw [hW1]; exact heap_alloc_new w _
  have b1 : Below w.heap.size w W1 := by rw [hW1]; exact (Below.refl _ _).alloc (Nat.le_refl _) _
  obtain ⟨p, ep⟩ : ∃ p, p = w.heap.size := ⟨_, rfl⟩
  have v1p := v1
  rw [← ep] at v1p
  have hcv := bytes_new W1 [UInt8.ofNat op] #[.int .u8 (op : Int)] 1 (by simp only [List.map_cons, List.map_nil]; rw [u8_nat hop]) rfl
  have hb1' : Below W1.heap.size W1 (W1.alloc (.cells #[.int .u8 (op : Int)] 5)) := (Below.refl _ _).alloc (Nat.le_refl _) _
  have y1 := v1p.cell 1
  simp [V.arr] at y1
  obtain ⟨O, eO⟩ : ∃ O : ByteArray, O = ⟨([UInt8.ofNat op] : List UInt8).toArray⟩ := ⟨_, rfl⟩
  have hO : O.size = 1 := by rw [eO]; rfl
  rw [← eO] at hcv
  have HeO := hide eO
  simp only [V.val, V.arr]
  clear h htc hkc hr hTx v1 hops henc eO hk hHB0
  go_enter Tryd.func41, Tryd.ntmps41
  go_upto_region 1 with fail
  rw [← hW1, ← ep]
  clear hW1 ep
  go_upto_region 2 with fail
  have b2 : Below w.heap.size w (W1.alloc (.cells #[.int .u8 (op : Int)] 5)) := b1.trans (hb1'.mono b1.size)
  have v2 := v1p.below hb1'
  generalize W1.alloc (.cells #[.int .u8 (op : Int)] 5) = W2 at *
  clear hcv y1 v1p hb1' b1
  have y0 := v2.cell 0
  have y2 := v2.cell 2
  have y3 := v2.cell 3
  have y4 := v2.cell 4
  have y7 := v2.cell 7
  simp [V.arr] at y0 y2 y3 y4 y7
  by_cases hl : tgts.length = 0
  · have hli : (((tgts.length : Nat) : Int) != 0) = false := by rw [bne_eq_false_iff_eq]; omega
    have Hl := hide hl
    have htn : tgts = [] := List.length_eq_zero_iff.1 hl
    have Htn := hide htn
    clear htn
    obtain ⟨A0, eA0⟩ : ∃ A0 : ByteArray, A0 = ⟨(M.nb ⟨2, 0, 65535⟩ a).toArray⟩ := ⟨_, rfl⟩
    have hA0 : A0.size = 2 := by rw [eA0]; simp [ByteArray.size, M.nb_len]
    obtain ⟨ok0, hok0⟩ : ∃ ok0, ok0 = M.holds ⟨2, 0, 65535⟩ a := ⟨_, rfl⟩
    have hstr : O ++ A0 ++ ⟨#[]⟩ = ⟨([UInt8.ofNat op] ++ M.nb ⟨2, 0, 65535⟩ a).toArray⟩ := by
      rw [unhide HeO, eA0, (show (⟨#[]⟩ : ByteArray) = ⟨([] : List UInt8).toArray⟩ from rfl)]
      simp only [cat_text]
      try simp
    have hTt : Tx = [UInt8.ofNat op] ++ M.nb ⟨2, 0, 65535⟩ a := by
      rw [unhide Henc, unhide Htn]
      simp [M.plainB, M.layOf, M.f0, M.nb, M.big, M.u64]
    have hr1 : r = ok0 := by
      rw [unhide Hops, tgts_nil (g := ⟨at_, op, false, a, b, low, keys, tgts⟩) (unhide Hl), hok0, unhide Hl, Bool.eq_iff_iff]
      simp [M.holds, M.f0, M.layOf]
      try omega
    have Hstr := hide hstr
    have HTt := hide hTt
    have Hr1 := hide hr1
    have HeA0 := hide eA0
    have Hok0 := hide hok0
    clear hstr hTt hr1 hl Hops Henc eA0 hok0
    have HC0 := hide (unhide HB0 a W2)
    rw [← unhide Hok0, ← unhide HeA0] at HC0
    go_wp2_with fail
    refine (unhide HC0).mono ?_
    clear HC0
    rintro e w3 ⟨rfl, hb3⟩
    have b3 := b2.trans (hb3.mono b2.size)
    have v3 := v2.below hb3
    have y3 := v3.cell 3
    have y4 := v3.cell 4
    simp [V.arr] at y3 y4
    cases ok0
    · go_wp2
      refine bodyPost_ret (v := .tuple #[.string (O ++ A0 ++ ⟨#[]⟩), .bool false]) (by simp [results, Tryd.results41, go_sem]) rfl ?_
      exact ⟨⟨_, by rw [unhide Hstr, unhide Hr1] <;> rfl, fun _ => (unhide HTt).symm⟩, b3⟩
    · go_wp2
      refine bodyPost_ret (v := .tuple #[.string (O ++ A0 ++ ⟨#[]⟩), .bool true]) (by simp [results, Tryd.results41, go_sem]) rfl ?_
      exact ⟨⟨_, by rw [unhide Hstr, unhide Hr1] <;> rfl, fun _ => (unhide HTt).symm⟩, b3⟩
  · have hli : (((tgts.length : Nat) : Int) != 0) = true := by rw [bne_iff_ne]; omega
    have hrf : r = false := by
      rw [unhide Hops]
      have hd : decide (tgts.length = if (M.layOf 5).t.size = 0 then 0 else 1) = false := by rw [decide_eq_false_iff_not]; exact hl
      rw [hd]; simp
    subst hrf
    clear Hops hl
    go_wp2
    refine bodyPost_ret (v := .tuple #[.string ⟨#[]⟩, .bool false]) (by simp [results, Tryd.results41, go_sem]) rfl ?_
    first | exact ⟨⟨[], rfl, fun e => by cases e⟩, b2⟩ | exact ⟨⟨[], rfl⟩, b2⟩
set_option maxRecDepth 100000 in
set_option maxHeartbeats 2000000 in
theorem refEnc_k6 (c : V) (n : Nat) (w : World) (h : c.Ok w) (hk : M.kindW c.g.op c.g.wide = 6) : Calls Tryd.prog 41 #[c.val, .string ⟨#[108]⟩] w fun e w' => REnc c n w e w' := by
  have hop := h.op
  have hwd : c.g.wide = false := wide_of (by rw [hk]; decide) (by rw [hk]; decide) (by rw [hk]; decide)
  have hops := plain_ops hk (by decide) (by decide)
  have henc := plain_enc1 (n := n) hk (by decide) (by decide)
  have hHB0 := fun (x : Int) (w : World) => bytes_any ⟨1, 0, 255⟩ (.inr (.inr (.inr (.inl rfl)))) x w
  unfold REnc
  obtain ⟨r, hr⟩ : ∃ r, r = M.hasOps c.g := ⟨_, rfl⟩
  obtain ⟨Tx, hTx⟩ : ∃ Tx, Tx = M.enc1 c.g n := ⟨_, rfl⟩
  rw [← hr, ← hTx]
  rw [← hr] at hops
  rw [← hTx] at henc
  obtain ⟨at2, cap2, et, htc⟩ := h.t
  obtain ⟨ak2, capk, ek, hkc⟩ := h.k
  obtain ⟨⟨at_, op, wide, a, b, low, keys, tgts⟩, kv, tv⟩ := c
  simp only at et ek hwd hop hops henc htc
  subst et
  subst ek
  subst hwd
  have Hops := hide hops
  have Henc := hide henc
  have HB0 := hide hHB0
  obtain ⟨W1, hW1⟩ : ∃ W1, W1 = w.alloc (.cells #[.int .i64 at_, .int .u8 (op : Int), .bool false, .int .i64 a, .int .i64 b, .int .i64 low, .slice ak2 keys.length capk, .slice at2 tgts.length cap2] 35) := ⟨_, rfl⟩
  have v1 : Vb W1 w.heap.size ⟨⟨at_, op, false, a, b, low, keys, tgts⟩, .slice ak2 keys.length capk, .slice at2 tgts.length cap2⟩ := by rw [hW1]; exact heap_alloc_new w _
  have b1 : Below w.heap.size w W1 := by rw [hW1]; exact (Below.refl _ _).alloc (Nat.le_refl _) _
  obtain ⟨p, ep⟩ : ∃ p, p = w.heap.size := ⟨_, rfl⟩
  have v1p := v1
  rw [← ep] at v1p
  have hcv := bytes_new W1 [UInt8.ofNat op] #[.int .u8 (op : Int)] 1 (by simp only [List.map_cons, List.map_nil]; rw [u8_nat hop]) rfl
  have hb1' : Below W1.heap.size W1 (W1.alloc (.cells #[.int .u8 (op : Int)] 5)) := (Below.refl _ _).alloc (Nat.le_refl _) _
  have y1 := v1p.cell 1
  simp [V.arr] at y1
  obtain ⟨O, eO⟩ : ∃ O : ByteArray, O = ⟨([UInt8.ofNat op] : List UInt8).toArray⟩ := ⟨_, rfl⟩
  have hO : O.size = 1 := by rw [eO]; rfl
  rw [← eO] at hcv
  have HeO := hide eO
  simp only [V.val, V.arr]
  clear h htc hkc hr hTx v1 hops henc eO hk hHB0
  go_enter Tryd.func41, Tryd.ntmps41
  go_upto_region 1 with fail
  rw [← hW1, ← ep]
  clear hW1 ep
  go_upto_region 2 with fail
  have b2 : Below w.heap.size w (W1.alloc (.cells #[.int .u8 (op : Int)] 5)) := b1.trans (hb1'.mono b1.size)
  have v2 := v1p.below hb1'
  generalize W1.alloc (.cells #[.int .u8 (op : Int)] 5) = W2 at *
  clear hcv y1 v1p hb1' b1
  have y0 := v2.cell 0
  have y2 := v2.cell 2
  have y3 := v2.cell 3
  have y4 := v2.cell 4
  have y7 := v2.cell 7
  simp [V.arr] at y0 y2 y3 y4 y7
  by_cases hl : tgts.length = 0
  · have hli : (((tgts.length : Nat) : Int) != 0) = false := by rw [bne_eq_false_iff_eq]; omega
    have Hl := hide hl
    have htn : tgts = [] := List.length_eq_zero_iff.1 hl
    have Htn := hide htn
    clear htn
    obtain ⟨A0, eA0⟩ : ∃ A0 : ByteArray, A0 = ⟨(M.nb ⟨1, 0, 255⟩ a).toArray⟩ := ⟨_, rfl⟩
    have hA0 : A0.size = 1 := by rw [eA0]; simp [ByteArray.size, M.nb_len]
    obtain ⟨ok0, hok0⟩ : ∃ ok0, ok0 = M.holds ⟨1, 0, 255⟩ a := ⟨_, rfl⟩
    have hstr : O ++ A0 ++ ⟨#[]⟩ = ⟨([UInt8.ofNat op] ++ M.nb ⟨1, 0, 255⟩ a).toArray⟩ := by
      rw [unhide HeO, eA0, (show (⟨#[]⟩ : ByteArray) = ⟨([] : List UInt8).toArray⟩ from rfl)]
      simp only [cat_text]
      try simp
    have hTt : Tx = [UInt8.ofNat op] ++ M.nb ⟨1, 0, 255⟩ a := by
      rw [unhide Henc, unhide Htn]
      simp [M.plainB, M.layOf, M.f0, M.nb, M.big, M.u64]
    have hr1 : r = ok0 := by
      rw [unhide Hops, tgts_nil (g := ⟨at_, op, false, a, b, low, keys, tgts⟩) (unhide Hl), hok0, unhide Hl, Bool.eq_iff_iff]
      simp [M.holds, M.f0, M.layOf]
      try omega
    have Hstr := hide hstr
    have HTt := hide hTt
    have Hr1 := hide hr1
    have HeA0 := hide eA0
    have Hok0 := hide hok0
    clear hstr hTt hr1 hl Hops Henc eA0 hok0
    have HC0 := hide (unhide HB0 a W2)
    rw [← unhide Hok0, ← unhide HeA0] at HC0
    go_wp2_with fail
    refine (unhide HC0).mono ?_
    clear HC0
    rintro e w3 ⟨rfl, hb3⟩
    have b3 := b2.trans (hb3.mono b2.size)
    have v3 := v2.below hb3
    have y3 := v3.cell 3
    have y4 := v3.cell 4
    simp [V.arr] at y3 y4
    cases ok0
    · go_wp2
      refine bodyPost_ret (v := .tuple #[.string (O ++ A0 ++ ⟨#[]⟩), .bool false]) (by simp [results, Tryd.results41, go_sem]) rfl ?_
      exact ⟨⟨_, by rw [unhide Hstr, unhide Hr1] <;> rfl, fun _ => (unhide HTt).symm⟩, b3⟩
    · go_wp2
      refine bodyPost_ret (v := .tuple #[.string (O ++ A0 ++ ⟨#[]⟩), .bool true]) (by simp [results, Tryd.results41, go_sem]) rfl ?_
      exact ⟨⟨_, by rw [unhide Hstr, unhide Hr1] <;> rfl, fun _ => (unhide HTt).symm⟩, b3⟩
  · have hli : (((tgts.length : Nat) : Int) != 0) = true := by rw [bne_iff_ne]; omega
    have hrf : r = false := by
      rw [unhide Hops]
      have hd : decide (tgts.length = if (M.layOf 6).t.size = 0 then 0 else 1) = false := by rw [decide_eq_false_iff_not]; exact hl
      rw [hd]; simp
    subst hrf
    clear Hops hl
    go_wp2
    refine bodyPost_ret (v := .tuple #[.string ⟨#[]⟩, .bool false]) (by simp [results, Tryd.results41, go_sem]) rfl ?_
    first | exact ⟨⟨[], rfl, fun e => by cases e⟩, b2⟩ | exact ⟨⟨[], rfl⟩, b2⟩
set_option maxRecDepth 100000 in
set_option maxHeartbeats 2000000 in
theorem refEnc_k7 (c : V) (n : Nat) (w : World) (h : c.Ok w) (hk : M.kindW c.g.op c.g.wide = 7) : Calls Tryd.prog 41 #[c.val, .string ⟨#[108]⟩] w fun e w' => REnc c n w e w' := by
  have hop := h.op
  have hwd : c.g.wide = true := wide_is hop hk (by decide)
  have hops := plain_ops hk (by decide) (by decide)
  have henc := plain_enc1 (n := n) hk (by decide) (by decide)
  have hHB0 := fun (x : Int) (w : World) => bytes_any ⟨2, 0, 65535⟩ (.inr (.inr (.inr (.inr rfl)))) x w
  unfold REnc
  obtain ⟨r, hr⟩ : ∃ r, r = M.hasOps c.g := ⟨_, rfl⟩
  obtain ⟨Tx, hTx⟩ : ∃ Tx, Tx = M.enc1 c.g n := ⟨_, rfl⟩
  rw [← hr, ← hTx]
  rw [← hr] at hops
  rw [← hTx] at henc
  obtain ⟨at2, cap2, et, htc⟩ := h.t
  obtain ⟨ak2, capk, ek, hkc⟩ := h.k
  obtain ⟨⟨at_, op, wide, a, b, low, keys, tgts⟩, kv, tv⟩ := c
  simp only at et ek hwd hop hops henc htc
  subst et
  subst ek
  subst hwd
  have Hops := hide hops
  have Henc := hide henc
  have HB0 := hide hHB0
  obtain ⟨W1, hW1⟩ : ∃ W1, W1 = w.alloc (.cells #[.int .i64 at_, .int .u8 (op : Int), .bool true, .int .i64 a, .int .i64 b, .int .i64 low, .slice ak2 keys.length capk, .slice at2 tgts.length cap2] 35) := ⟨_, rfl⟩
  have v1 : Vb W1 w.heap.size ⟨⟨at_, op, true, a, b, low, keys, tgts⟩, .slice ak2 keys.length capk, .slice at2 tgts.length cap2⟩ := by rw [hW1]; exact heap_alloc_new w _
  have b1 : Below w.heap.size w W1 := by rw [hW1]; exact (Below.refl _ _).alloc (Nat.le_refl _) _
  obtain ⟨p, ep⟩ : ∃ p, p = w.heap.size := ⟨_, rfl⟩
  have v1p := v1
  rw [← ep] at v1p
  have hcv := bytes_new W1 [UInt8.ofNat op] #[.int .u8 (op : Int)] 1 (by simp only [List.map_cons, List.map_nil]; rw [u8_nat hop]) rfl
  have hb1' : Below W1.heap.size W1 (W1.alloc (.cells #[.int .u8 (op : Int)] 5)) := (Below.refl _ _).alloc (Nat.le_refl _) _
  have y1 := v1p.cell 1
  simp [V.arr] at y1
  obtain ⟨O, eO⟩ : ∃ O : ByteArray, O = ⟨([UInt8.ofNat op] : List UInt8).toArray⟩ := ⟨_, rfl⟩
  have hO : O.size = 1 := by rw [eO]; rfl
  rw [← eO] at hcv
  have HeO := hide eO
  simp only [V.val, V.arr]
  clear h htc hkc hr hTx v1 hops henc eO hk hHB0
  go_enter Tryd.func41, Tryd.ntmps41
  go_upto_region 1 with fail
  rw [← hW1, ← ep]
  clear hW1 ep
  go_upto_region 2 with fail
  have b2 : Below w.heap.size w (W1.alloc (.cells #[.int .u8 (op : Int)] 5)) := b1.trans (hb1'.mono b1.size)
  have v2 := v1p.below hb1'
  generalize W1.alloc (.cells #[.int .u8 (op : Int)] 5) = W2 at *
  clear hcv y1 v1p hb1' b1
  have y0 := v2.cell 0
  have y2 := v2.cell 2
  have y3 := v2.cell 3
  have y4 := v2.cell 4
  have y7 := v2.cell 7
  simp [V.arr] at y0 y2 y3 y4 y7
  obtain ⟨O2, eO2⟩ : ∃ O2 : ByteArray, O2 = ⟨#[196]⟩ ++ O := ⟨_, rfl⟩
  have hO2 : O2.size = 2 := by rw [eO2, ByteArray.size_append, hO]; rfl
  have HeO2 := hide (show O2 = ⟨([196, UInt8.ofNat op] : List UInt8).toArray⟩ by rw [eO2, unhide HeO, show (⟨#[196]⟩ : ByteArray) = ⟨([196] : List UInt8).toArray⟩ from rfl, cat_text]; rfl)
  have hcat0 : (⟨#[196]⟩ : ByteArray) ++ O = O2 := eO2.symm
  clear eO2
  by_cases hl : tgts.length = 0
  · have hli : (((tgts.length : Nat) : Int) != 0) = false := by rw [bne_eq_false_iff_eq]; omega
    have Hl := hide hl
    have htn : tgts = [] := List.length_eq_zero_iff.1 hl
    have Htn := hide htn
    clear htn
    obtain ⟨A0, eA0⟩ : ∃ A0 : ByteArray, A0 = ⟨(M.nb ⟨2, 0, 65535⟩ a).toArray⟩ := ⟨_, rfl⟩
    have hA0 : A0.size = 2 := by rw [eA0]; simp [ByteArray.size, M.nb_len]
    obtain ⟨ok0, hok0⟩ : ∃ ok0, ok0 = M.holds ⟨2, 0, 65535⟩ a := ⟨_, rfl⟩
    have hstr : O2 ++ A0 ++ ⟨#[]⟩ = ⟨([196, UInt8.ofNat op] ++ M.nb ⟨2, 0, 65535⟩ a).toArray⟩ := by
      rw [unhide HeO2, eA0, (show (⟨#[]⟩ : ByteArray) = ⟨([] : List UInt8).toArray⟩ from rfl)]
      simp only [cat_text]
      try simp
    have hTt : Tx = [196, UInt8.ofNat op] ++ M.nb ⟨2, 0, 65535⟩ a := by
      rw [unhide Henc, unhide Htn]
      simp [M.plainB, M.layOf, M.f0, M.nb, M.big, M.u64]
    have hr1 : r = ok0 := by
      rw [unhide Hops, tgts_nil (g := ⟨at_, op, true, a, b, low, keys, tgts⟩) (unhide Hl), hok0, unhide Hl, Bool.eq_iff_iff]
      simp [M.holds, M.f0, M.layOf]
      try omega
    have Hstr := hide hstr
    have HTt := hide hTt
    have Hr1 := hide hr1
    have HeA0 := hide eA0
    have Hok0 := hide hok0
    clear hstr hTt hr1 hl Hops Henc eA0 hok0
    have HC0 := hide (unhide HB0 a W2)
    rw [← unhide Hok0, ← unhide HeA0] at HC0
    go_wp2_with fail
    refine (unhide HC0).mono ?_
    clear HC0
    rintro e w3 ⟨rfl, hb3⟩
    have b3 := b2.trans (hb3.mono b2.size)
    have v3 := v2.below hb3
    have y3 := v3.cell 3
    have y4 := v3.cell 4
    simp [V.arr] at y3 y4
    cases ok0
    · go_wp2
      refine bodyPost_ret (v := .tuple #[.string (O2 ++ A0 ++ ⟨#[]⟩), .bool false]) (by simp [results, Tryd.results41, go_sem]) rfl ?_
      exact ⟨⟨_, by rw [unhide Hstr, unhide Hr1] <;> rfl, fun _ => (unhide HTt).symm⟩, b3⟩
    · go_wp2
      refine bodyPost_ret (v := .tuple #[.string (O2 ++ A0 ++ ⟨#[]⟩), .bool true]) (by simp [results, Tryd.results41, go_sem]) rfl ?_
      exact ⟨⟨_, by rw [unhide Hstr, unhide Hr1] <;> rfl, fun _ => (unhide HTt).symm⟩, b3⟩
  · have hli : (((tgts.length : Nat) : Int) != 0) = true := by rw [bne_iff_ne]; omega
    have hrf : r = false := by
      rw [unhide Hops]
      have hd : decide (tgts.length = if (M.layOf 7).t.size = 0 then 0 else 1) = false := by rw [decide_eq_false_iff_not]; exact hl
      rw [hd]; simp
    subst hrf
    clear Hops hl
    go_wp2
    refine bodyPost_ret (v := .tuple #[.string ⟨#[]⟩, .bool false]) (by simp [results, Tryd.results41, go_sem]) rfl ?_
    first | exact ⟨⟨[], rfl, fun e => by cases e⟩, b2⟩ | exact ⟨⟨[], rfl⟩, b2⟩
end Go.Proofs.YtpmonoenppfekabDoor
