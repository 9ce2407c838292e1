/-
  encode of the reference: the switches, and all.
-/
import Derived.Test.YtpmonoenppfekabDoorReb
import Derived.Test.YtpmonoenppfekabDoorOne
namespace Go.Proofs.YtpmonoenppfekabDoor
open Go.RowKit
set_option maxRecDepth 100000 in
set_option maxHeartbeats 2000000 in
theorem refEnc_k15 (c : V) (n : Nat) (w : World) (h : c.Ok w) (hat : c.g.at_ = (n : Int)) (hn : n ≤ 70000) (ht : c.g.tgts.length ≤ 100000) (hk : M.kindW c.g.op c.g.wide = 15) : Calls Tryd.prog 41 #[c.val, .string ⟨#[116]⟩] w fun e w' => REnc c n w e w' := by
  have hop := h.op
  have hwd : c.g.wide = false := wide_of (by rw [hk]; decide) (by rw [hk]; decide) (by rw [hk]; decide)
  have hops : M.hasOps c.g = M.swOk c.g false := by unfold M.hasOps M.swOk; rw [if_pos hk]; rfl
  have henc : M.enc1 c.g n = UInt8.ofNat c.g.op :: M.swB c.g (n + 1) false := by unfold M.enc1; rw [if_pos hk, hwd]; rfl
  have hHC := fun (w1 : World) (hb : Below w.heap.size w w1) => refChoice_any c n false w1 (h.below hb) hat hn ht
  rw [← hops, ← henc] at hHC
  unfold REnc
  obtain ⟨r, hr⟩ : ∃ r, r = M.hasOps c.g := ⟨_, rfl⟩
  obtain ⟨Tx, hTx⟩ : ∃ Tx, Tx = M.enc1 c.g n := ⟨_, rfl⟩
  rw [← hr, ← hTx] at hHC ⊢
  obtain ⟨at2, cap2, et, _⟩ := h.t
  obtain ⟨ak2, capk, ek, _⟩ := h.k
  obtain ⟨⟨at_, op, wide, a, b, low, keys, tgts⟩, kv, tv⟩ := c
  simp only at et ek hwd hop
  subst et
  subst ek
  subst hwd
  obtain ⟨W1, hW1⟩ : ∃ W1, W1 = w.alloc (.cells #[.int .i64 at_, .int .u8 (op : Int), .bool false, .int .i64 a, .int .i64 b, .int .i64 low, .slice ak2 keys.length capk, .slice at2 tgts.length cap2] 35) := ⟨_, rfl⟩
  have v1 : Vb W1 w.heap.size ⟨⟨at_, op, false, a, b, low, keys, tgts⟩, .slice ak2 keys.length capk, .slice at2 tgts.length cap2⟩ := by rw [hW1]; exact heap_alloc_new w _
  have b1 : Below w.heap.size w W1 := by rw [hW1]; exact (Below.refl _ _).alloc (Nat.le_refl _) _
  obtain ⟨p, ep⟩ : ∃ p, p = w.heap.size := ⟨_, rfl⟩
  have v1p := v1
  rw [← ep] at v1p
  have hcv := bytes_new W1 [UInt8.ofNat op] #[.int .u8 (op : Int)] 1 (by simp only [List.map_cons, List.map_nil]; rw [u8_nat hop]) rfl
  have hb1' : Below W1.heap.size W1 (W1.alloc (.cells #[.int .u8 (op : Int)] 5)) := (Below.refl _ _).alloc (Nat.le_refl _) _
  have y1 := v1p.cell 1
  simp [V.arr] at y1
  obtain ⟨O, eO⟩ : ∃ O : ByteArray, O = ⟨([UInt8.ofNat op] : List UInt8).toArray⟩ := ⟨_, rfl⟩
  have hO : O.size = 1 := by rw [eO]; rfl
  rw [← eO] at hcv
  simp only [V.val, V.arr] at hHC ⊢
  have HC := hide hHC
  clear h hr hTx v1 hops henc hHC eO hk hat
  go_enter Tryd.func41, Tryd.ntmps41
  go_upto_region 1 with fail
  rw [← hW1, ← ep]
  clear hW1 ep
  go_upto_region 2 with fail
  have b2 : Below w.heap.size w (W1.alloc (.cells #[.int .u8 (op : Int)] 5)) := b1.trans (hb1'.mono b1.size)
  have v2 := v1p.below hb1'
  generalize W1.alloc (.cells #[.int .u8 (op : Int)] 5) = W2 at *
  clear hcv y1 v1p hb1' b1
  have y0 := v2.cell 0
  have y1 := v2.cell 1
  have y2 := v2.cell 2
  have y3 := v2.cell 3
  have y4 := v2.cell 4
  have y5 := v2.cell 5
  have y6 := v2.cell 6
  have y7 := v2.cell 7
  simp [V.arr] at y0 y1 y2 y3 y4 y5 y6 y7
  go_wp2_with fail
  refine (unhide HC _ b2).mono ?_
  rintro e w3 ⟨⟨t, rfl, hte⟩, hb3⟩
  have Hte := hide hte
  clear hte
  go_wp2
  refine bodyPost_ret (v := .tuple #[.string ⟨t.toArray⟩, .bool r]) (by simp [results, Tryd.results41, go_sem]) rfl ?_
  exact ⟨⟨t, rfl, unhide Hte⟩, b2.trans (hb3.mono b2.size)⟩
set_option maxRecDepth 100000 in
set_option maxHeartbeats 2000000 in
theorem refEnc_k16 (c : V) (n : Nat) (w : World) (h : c.Ok w) (hat : c.g.at_ = (n : Int)) (hn : n ≤ 70000) (ht : c.g.tgts.length ≤ 100000) (hk : M.kindW c.g.op c.g.wide = 16) : Calls Tryd.prog 41 #[c.val, .string ⟨#[107]⟩] w fun e w' => REnc c n w e w' := by
  have hop := h.op
  have hwd : c.g.wide = false := wide_of (by rw [hk]; decide) (by rw [hk]; decide) (by rw [hk]; decide)
  have hops : M.hasOps c.g = M.swOk c.g true := by unfold M.hasOps M.swOk; rw [if_neg (by rw [hk]; decide), if_pos hk]; rfl
  have henc : M.enc1 c.g n = UInt8.ofNat c.g.op :: M.swB c.g (n + 1) true := by unfold M.enc1; rw [hk, hwd]; rfl
  have hHC := fun (w1 : World) (hb : Below w.heap.size w w1) => refChoice_any c n true w1 (h.below hb) hat hn ht
  rw [← hops, ← henc] at hHC
  unfold REnc
  obtain ⟨r, hr⟩ : ∃ r, r = M.hasOps c.g := ⟨_, rfl⟩
  obtain ⟨Tx, hTx⟩ : ∃ Tx, Tx = M.enc1 c.g n := ⟨_, rfl⟩
  rw [← hr, ← hTx] at hHC ⊢
  obtain ⟨at2, cap2, et, _⟩ := h.t
  obtain ⟨ak2, capk, ek, _⟩ := h.k
  obtain ⟨⟨at_, op, wide, a, b, low, keys, tgts⟩, kv, tv⟩ := c
  simp only at et ek hwd hop
  subst et
  subst ek
  subst hwd
  obtain ⟨W1, hW1⟩ : ∃ W1, W1 = w.alloc (.cells #[.int .i64 at_, .int .u8 (op : Int), .bool false, .int .i64 a, .int .i64 b, .int .i64 low, .slice ak2 keys.length capk, .slice at2 tgts.length cap2] 35) := ⟨_, rfl⟩
  have v1 : Vb W1 w.heap.size ⟨⟨at_, op, false, a, b, low, keys, tgts⟩, .slice ak2 keys.length capk, .slice at2 tgts.length cap2⟩ := by rw [hW1]; exact heap_alloc_new w _
  have b1 : Below w.heap.size w W1 := by rw [hW1]; exact (Below.refl _ _).alloc (Nat.le_refl _) _
  obtain ⟨p, ep⟩ : ∃ p, p = w.heap.size := ⟨_, rfl⟩
  have v1p := v1
  rw [← ep] at v1p
  have hcv := bytes_new W1 [UInt8.ofNat op] #[.int .u8 (op : Int)] 1 (by simp only [List.map_cons, List.map_nil]; rw [u8_nat hop]) rfl
  have hb1' : Below W1.heap.size W1 (W1.alloc (.cells #[.int .u8 (op : Int)] 5)) := (Below.refl _ _).alloc (Nat.le_refl _) _
  have y1 := v1p.cell 1
  simp [V.arr] at y1
  obtain ⟨O, eO⟩ : ∃ O : ByteArray, O = ⟨([UInt8.ofNat op] : List UInt8).toArray⟩ := ⟨_, rfl⟩
  have hO : O.size = 1 := by rw [eO]; rfl
  rw [← eO] at hcv
  simp only [V.val, V.arr] at hHC ⊢
  have HC := hide hHC
  clear h hr hTx v1 hops henc hHC eO hk hat
  go_enter Tryd.func41, Tryd.ntmps41
  go_upto_region 1 with fail
  rw [← hW1, ← ep]
  clear hW1 ep
  go_upto_region 2 with fail
  have b2 : Below w.heap.size w (W1.alloc (.cells #[.int .u8 (op : Int)] 5)) := b1.trans (hb1'.mono b1.size)
  have v2 := v1p.below hb1'
  generalize W1.alloc (.cells #[.int .u8 (op : Int)] 5) = W2 at *
  clear hcv y1 v1p hb1' b1
  have y0 := v2.cell 0
  have y1 := v2.cell 1
  have y2 := v2.cell 2
  have y3 := v2.cell 3
  have y4 := v2.cell 4
  have y5 := v2.cell 5
  have y6 := v2.cell 6
  have y7 := v2.cell 7
  simp [V.arr] at y0 y1 y2 y3 y4 y5 y6 y7
  go_wp2_with fail
  refine (unhide HC _ b2).mono ?_
  rintro e w3 ⟨⟨t, rfl, hte⟩, hb3⟩
  have Hte := hide hte
  clear hte
  go_wp2
  refine bodyPost_ret (v := .tuple #[.string ⟨t.toArray⟩, .bool r]) (by simp [results, Tryd.results41, go_sem]) rfl ?_
  exact ⟨⟨t, rfl, unhide Hte⟩, b2.trans (hb3.mono b2.size)⟩
/-- THE REFERENCE's INSTRUCTION AS BYTES. -/
theorem refEncode_any (c : V) (n : Nat) (w : World) (h : c.Ok w) (hat : c.g.at_ = (n : Int)) (hn : n ≤ 70000) (ht : c.g.tgts.length ≤ 100000) (hk : M.kindW c.g.op c.g.wide ≠ 0) : Calls Tryd.prog 41 #[c.val, .string ⟨#[sign c.g.op]⟩] w fun e w' => REnc c n w e w' := by
  have hop := h.op
  have h196 : c.g.op ≠ 196 := by
    intro e
    apply hk
    rw [e]
    cases c.g.wide <;> rfl
  cases hw : c.g.wide with
  | true =>
    have hkk : M.kindW c.g.op true = (if M.kind c.g.op = 6 then 7 else if M.kind c.g.op = 8 then 9 else 0) := rfl
    rw [hw, hkk] at hk
    by_cases h6 : M.kind c.g.op = 6
    · have hs : sign c.g.op = 108 := by unfold sign; rw [if_neg h196, h6]; rfl
      rw [hs]
      exact refEnc_k7 c n w h (by rw [hw, hkk, if_pos h6])
    · rw [if_neg h6] at hk
      by_cases h8 : M.kind c.g.op = 8
      · have hs : sign c.g.op = 110 := by unfold sign; rw [if_neg h196, h8]; rfl
        rw [hs]
        exact refEnc_k9 c n w h (by rw [hw, hkk, if_neg h6, if_pos h8])
      · rw [if_neg h8] at hk; exact absurd rfl hk
  | false =>
    have hkk : M.kindW c.g.op false = M.kind c.g.op := rfl
    rw [hw, hkk] at hk
    have hs : sign c.g.op = if M.kind c.g.op = 2 then 98 else if M.kind c.g.op = 3 then 115 else if M.kind c.g.op = 4 then 99 else if M.kind c.g.op = 5 then 105 else if M.kind c.g.op = 6 then 108 else if M.kind c.g.op = 8 then 110 else if M.kind c.g.op = 10 then 106 else if M.kind c.g.op = 11 then 74 else if M.kind c.g.op = 12 then 102 else if M.kind c.g.op = 13 then 97 else if M.kind c.g.op = 14 then 109 else if M.kind c.g.op = 15 then 116 else if M.kind c.g.op = 16 then 107 else if M.kind c.g.op = 0 then 120 else 46 := by unfold sign; rw [if_neg h196]
    have hkw : M.kindW c.g.op c.g.wide = M.kind c.g.op := by rw [hw]; rfl
    rcases kind_cases hop with e | e | e | e | e | e | e | e | e | e | e | e | e | e | e
    all_goals
      rw [e] at hs hkw
      first
        | exact absurd e hk
        | (rw [show sign c.g.op = 46 from hs]; exact refEnc_k1 c n w h hkw)
        | (rw [show sign c.g.op = 98 from hs]; exact refEnc_k2 c n w h hkw)
        | (rw [show sign c.g.op = 115 from hs]; exact refEnc_k3 c n w h hkw)
        | (rw [show sign c.g.op = 99 from hs]; exact refEnc_k4 c n w h hkw)
        | (rw [show sign c.g.op = 105 from hs]; exact refEnc_k5 c n w h hkw)
        | (rw [show sign c.g.op = 108 from hs]; exact refEnc_k6 c n w h hkw)
        | (rw [show sign c.g.op = 110 from hs]; exact refEnc_k8 c n w h hkw)
        | (rw [show sign c.g.op = 106 from hs]; exact refEnc_k10 c n w h hkw)
        | (rw [show sign c.g.op = 74 from hs]; exact refEnc_k11 c n w h hkw)
        | (rw [show sign c.g.op = 102 from hs]; exact refEnc_k12 c n w h hkw)
        | (rw [show sign c.g.op = 97 from hs]; exact refEnc_k13 c n w h hkw)
        | (rw [show sign c.g.op = 109 from hs]; exact refEnc_k14 c n w h hkw)
        | (rw [show sign c.g.op = 116 from hs]; exact refEnc_k15 c n w h hat hn ht hkw)
        | (rw [show sign c.g.op = 107 from hs]; exact refEnc_k16 c n w h hat hn ht hkw)
end Go.Proofs.YtpmonoenppfekabDoor
