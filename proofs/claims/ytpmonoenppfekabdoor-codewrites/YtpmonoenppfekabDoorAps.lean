/-
  An instruction as bytes: appendOperands, appendSwitch, appendIns.
-/
import Derived.Test.YtpmonoenppfekabDoorGo
import Derived.Maps.AppendAt
namespace Go.Proofs.YtpmonoenppfekabDoor
open Go.RowKit
/-- The bytes that are being written, since a world. -/
structure Wr (W0 w : World) (v : Value) (l : List UInt8) : Prop where
  old : Below W0.heap.size W0 w
  own : w.ownsRow W0.heap.size 5 1 v l.length (U8 l)
theorem Wr.alloc {W0 w : World} {v : Value} {l : List UInt8} (h : Wr W0 w v l) (o : Obj) : Wr W0 (w.alloc o) v l := ⟨h.old.alloc h.old.size o, h.own.alloc o⟩
theorem Wr.fr {W0 w w' : World} {v v' : Value} {l l' : List UInt8} (h : Wr W0 w v l) (hf : Fr W0.heap.size w w') (ho : w'.ownsRow W0.heap.size 5 1 v' l'.length (U8 l')) : Wr W0 w' v' l' :=
  ⟨h.old.trans hf.old, ho⟩
theorem Wr.below {W0 w w' : World} {v : Value} {l : List UInt8} (h : Wr W0 w v l) (hb : Below w.heap.size w w') : Wr W0 w' v l := by
  refine ⟨h.old.trans (hb.mono h.old.size), h.own.1, ?_⟩
  rcases h.own.2 with h0 | ⟨g, cap, cur, rfl, h1, h2, h3⟩
  · exact .inl h0
  · refine .inr ⟨g, cap, cur, rfl, h1, ?_, h3⟩
    rw [hb.block g (Array.getElem?_eq_some_iff.1 h2).1]; exact h2
theorem Lb.fr {w w' : World} {b B : Nat} {L : Lay} (h : Lb w b L) (hf : Fr B w w') : Lb w' b L := by
  unfold Lb; rw [hf.rest b _ 94 _ h (by decide)]; exact h
theorem Fr.of_below {B : Nat} {w w' : World} (hB : B ≤ w.heap.size) (h : Below w.heap.size w w') : Fr B w w' :=
  ⟨h.mono hB, fun k _ _ _ hk _ => h.block k (Array.getElem?_eq_some_iff.1 hk).1⟩
theorem Wr.drew {W0 w : World} {v : Value} {l : List UInt8} (h : Wr W0 w v l) : Wr W0 w.drew v l := ⟨⟨h.old.os, h.old.tape, h.old.output, h.old.size, h.old.block⟩, h.own⟩
theorem Fr.drew {B : Nat} {w w' : World} (h : Fr B w.drew w') : Fr B w w' := ⟨⟨h.old.os, h.old.tape, h.old.output, h.old.size, h.old.block⟩, h.rest⟩
theorem nb_wrap (f : F) (x : Int) : M.nb f (wrap64 x) = M.nb f x := by unfold M.nb; rw [M.u64_wrap]
theorem nb_kwrap (f : F) (x : Int) : M.nb f (IntKind.i64.wrap x) = M.nb f x := by
  unfold M.nb
  congr 1
  rw [IntKind.wrap_i64]
  unfold M.u64
  omega
/-- One number. -/
theorem append_one {W0 w : World} {v : Value} {l : List UInt8} (h : Wr W0 w v l) (f : F) (x : Int) (hf : f.size ≤ 4) (hl : l.length ≤ 900000) :
    Calls Tryd.prog 95 #[v, f.val, .slice (some ⟨w.heap.size, 0, none⟩) 1 1] (w.alloc (.cells #[.int .i64 x] 3)) fun e w' => ∃ v', e = .returned v' ∧ Wr W0 w' v' (l ++ M.nb f x) ∧ Fr W0.heap.size w w' := by
  have hs := h.old.size
  refine (appendNumbers_any W0.heap.size v l f w.heap.size 1 [x] _ hf hl (by simp; omega) (by simp) (h.own.alloc _) (heap_alloc_new w _)).mono ?_
  rintro e w' ⟨v', rfl, ho, hfr⟩
  rw [List.flatMap_singleton] at ho
  exact ⟨v', rfl, (h.alloc _).fr hfr ho, ((Fr.refl _ w).alloc hs _).trans hfr⟩
/-- Two numbers. -/
theorem append_two {W0 w : World} {v : Value} {l : List UInt8} (h : Wr W0 w v l) (f : F) (x y : Int) (hf : f.size ≤ 4) (hl : l.length ≤ 900000) :
    Calls Tryd.prog 95 #[v, f.val, .slice (some ⟨w.heap.size, 0, none⟩) 2 2] (w.alloc (.cells #[.int .i64 x, .int .i64 y] 3)) fun e w' => ∃ v', e = .returned v' ∧ Wr W0 w' v' (l ++ (M.nb f x ++ M.nb f y)) ∧ Fr W0.heap.size w w' := by
  have hs := h.old.size
  refine (appendNumbers_any W0.heap.size v l f w.heap.size 2 [x, y] _ hf hl (by simp; omega) (by simp) (h.own.alloc _) (heap_alloc_new w _)).mono ?_
  rintro e w' ⟨v', rfl, ho, hfr⟩
  have e2 : [x, y].flatMap (M.nb f) = M.nb f x ++ M.nb f y := by simp
  rw [e2] at ho
  exact ⟨v', rfl, (h.alloc _).fr hfr ho, ((Fr.refl _ w).alloc hs _).trans hfr⟩
theorem take_flat {xs : List Int} {k : Nat} (hk : k < xs.length) (f : Int → List UInt8) : (xs.take (k + 1)).flatMap f = (xs.take k).flatMap f ++ f (xs.getD k 0) := by
  have h1 : xs.take (k + 1) = xs.take k ++ [xs.getD k 0] := by
    rw [List.take_add_one, List.getElem?_eq_getElem hk]; simp only [Option.toList_some, List.getD, List.getElem?_eq_getElem hk, Option.getD_some]
  rw [h1, List.flatMap_append, List.flatMap_singleton]
theorem flat_len {α : Type} (xs : List α) (f : α → List UInt8) (m : Nat) (h : ∀ x, (f x).length ≤ m) : (xs.flatMap f).length ≤ xs.length * m := by
  induction xs with
  | nil => simp
  | cons a xs ih => simp only [List.flatMap_cons, List.length_append, List.length_cons, Nat.add_mul]; have := h a; omega
set_option maxRecDepth 100000 in
set_option maxHeartbeats 4000000 in
theorem appendOperands_any (c : V) (L : Lay) (W0 w : World) (v : Value) (l : List UInt8) (hwr : Wr W0 w v l) (h : c.Ok W0) (hl : l.length ≤ 70000) (ht : c.g.tgts.length ≤ 100000) (hL : L.a.size ≤ 4 ∧ L.b.size ≤ 4 ∧ L.z.size ≤ 4 ∧ L.t.size ≤ 4) :
    Calls Tryd.prog 63 #[v, c.val, L.val] w fun e w' => ∃ v', e = .returned v' ∧ Wr W0 w' v' (l ++ M.plainB c.g L) ∧ Fr W0.heap.size w w' := by
  obtain ⟨at2, cap2, et, htc⟩ := h.t
  obtain ⟨ak2, capk, ek, _⟩ := h.k
  obtain ⟨⟨at_, op, wide, a, b, low, keys, tgts⟩, kv, tv⟩ := c
  simp only at et ek ht htc
  subst et
  subst ek
  have HT := hide htc
  obtain ⟨hL1, hL2, hL3, hL4⟩ := hL
  obtain ⟨W1, hW1⟩ : ∃ W1, W1 = w.alloc (.cells #[.int .i64 at_, .int .u8 (op : Int), .bool wide, .int .i64 a, .int .i64 b, .int .i64 low, .slice ak2 keys.length capk, .slice at2 tgts.length cap2] 35) := ⟨_, rfl⟩
  obtain ⟨W2, hW2⟩ : ∃ W2, W2 = W1.alloc (.cells #[.int .i64 (L.a.size : Int), .int .i64 L.a.low, .int .i64 L.a.high, .int .i64 (L.b.size : Int), .int .i64 L.b.low, .int .i64 L.b.high, .int .i64 (L.z.size : Int), .int .i64 L.z.low, .int .i64 L.z.high, .int .i64 (L.t.size : Int), .int .i64 L.t.low, .int .i64 L.t.high] 94) := ⟨_, rfl⟩
  have v1 : Vb W1 w.heap.size ⟨⟨at_, op, wide, a, b, low, keys, tgts⟩, .slice ak2 keys.length capk, .slice at2 tgts.length cap2⟩ := by rw [hW1]; exact heap_alloc_new w _
  have z1 : W1.heap.size = w.heap.size + 1 := by rw [hW1]; simp
  have l2 : Lb W2 (w.heap.size + 1) L := by rw [hW2, ← z1]; exact heap_alloc_new W1 _
  have v2 : Vb W2 w.heap.size _ := v1.below (by rw [hW2]; exact (Below.refl _ _).alloc (Nat.le_refl _) _)
  have hs := hwr.old.size
  have f2 : Fr W0.heap.size w W2 := by rw [hW2, hW1]; exact ((Fr.refl _ w).alloc hs _).alloc (by simp; omega) _
  have r2 : Wr W0 W2 v l := by rw [hW2, hW1]; exact (hwr.alloc _).alloc _
  obtain ⟨p, ep⟩ : ∃ p, p = w.heap.size := ⟨_, rfl⟩
  rw [← ep] at v2 l2
  simp only [V.val, V.arr, Lay.val] at *
  have ha := l2.cell
  have q0 := ha 0
  have q1 := ha 1
  have q2 := ha 2
  have z3 := v2.cell 3
  simp [V.arr] at q0 q1 q2 z3
  have HA := hide (append_one r2 L.a a hL1 (by omega))
  simp only [F.val] at HA
  clear h htc v1 ha
  go_enter Tryd.func63, Tryd.ntmps63
  go_upto_region 1 with fail
  rw [← hW1, ← hW2, ← ep]
  clear hW1 hW2 ep z1
  go_wp2_with fail
  refine (unhide HA).mono ?_
  clear HA q0 q1 q2 z3
  rintro e w3 ⟨v3', rfl, r3, f3⟩
  have fb3 := f2.trans f3
  have l3 := l2.fr f3
  have v3 := v2.fr f3
  have q3 := l3.cell 3
  have q4 := l3.cell 4
  have q5 := l3.cell 5
  have z4 := v3.cell 4
  simp [V.arr] at q3 q4 q5 z4
  have HB := hide (append_one r3 L.b b hL2 (by rw [List.length_append, M.nb_len]; omega))
  simp only [F.val] at HB
  go_wp2_with fail
  refine (unhide HB).mono ?_
  clear HB q3 q4 q5 z4
  rintro e w4 ⟨v4', rfl, r4, f4⟩
  have fb4 := fb3.trans f4
  have l4 := l3.fr f4
  have v4 := v3.fr f4
  have q6 := l4.cell 6
  have q7 := l4.cell 7
  have q8 := l4.cell 8
  simp at q6 q7 q8
  have HZ := hide (append_one r4 L.z 0 hL3 (by rw [List.length_append, List.length_append, M.nb_len, M.nb_len]; omega))
  simp only [F.val] at HZ
  go_wp2_with fail
  refine (unhide HZ).mono ?_
  clear HZ q6 q7 q8
  rintro e w5 ⟨v5', rfl, r5, f5⟩
  have fb5 := fb4.trans f5
  have l5 := l4.fr f5
  have v5 := v4.fr f5
  obtain ⟨P, eP⟩ : ∃ P, P = l ++ M.nb L.a a ++ M.nb L.b b ++ M.nb L.z 0 := ⟨_, rfl⟩
  have hPl : P.length ≤ 70012 := by rw [eP]; simp only [List.length_append, M.nb_len]; omega
  rw [← eP] at r5
  have HeP := hide eP
  have z7 := v5.cell 7
  simp [V.arr] at z7
  clear eP r3 r4 f3 f4 f5 v3 v4 l3 l4 v2 l2 r2 f2 fb3 fb4
  go_wp2_with fail
  go_loopw [0, 31] (fun v i wr => ∃ k : Nat, k ≤ tgts.length ∧ i = .int .i64 k ∧ Hid (Wr W0 wr v (P ++ (tgts.take k).flatMap fun t => M.nb L.t (t - at_))) ∧ Hid (Fr W0.heap.size w5 wr)) (fun _ i _ => tgts.length - (intOf i).toNat)
  case atStart => exact ⟨0, Nat.zero_le _, rfl, by unfold Hid; simpa using r5, Fr.refl _ _⟩
  case round =>
    obtain ⟨k, hk, rfl, HW, HF⟩ := hrel
    by_cases hlt : k < tgts.length
    · have hW := unhide HW
      have hF := unhide HF
      have hne : tgts ≠ [] := by rintro rfl; simp at hlt
      obtain ⟨bt, ot, rfl, hcell⟩ := unhide HT hne
      have x0 := hcell k hlt
      rw [← hW.old.cell (cell_lt x0)] at x0
      have hbl : (P ++ (tgts.take k).flatMap fun t => M.nb L.t (t - at_)).length ≤ 900000 := by
        have h1 := flat_len (tgts.take k) (fun t => M.nb L.t (t - at_)) 4 (fun x => by rw [M.nb_len]; exact hL4)
        rw [List.length_take] at h1
        rw [List.length_append]; omega
      have htk := take_flat hlt (fun t => M.nb L.t (t - at_))
      obtain ⟨x, hx⟩ : ∃ x, x = tgts.getD k 0 := ⟨_, rfl⟩
      rw [← hx] at x0 htk
      have HC := hide (append_one hW L.t (wrap64 (x - at_)) hL4 hbl)
      simp only [F.val] at HC
      have Htk := hide htk
      have lr := l5.fr hF
      have vr := v5.fr hF
      have q9 := lr.cell 9
      have q10 := lr.cell 10
      have q11 := lr.cell 11
      have y0 := vr.cell 0
      simp [V.arr] at q9 q10 q11 y0
      have ki : (k : Int) < (tgts.length : Int) := by omega
      clear hcell hne hx htk hW hF lr vr z7 HT
      go_wp2_with fail
      refine (unhide HC).mono ?_
      clear HC q9 q10 q11 y0 x0
      rintro e w6 ⟨v6, rfl, r6, f6⟩
      rw [nb_wrap, List.append_assoc, ← unhide Htk] at r6
      have R6 := hide r6
      have F6 := hide ((unhide HF).trans f6)
      clear r6 f6 Htk
      go_wp2
      go_roundw
      case rel => exact ⟨k + 1, by omega, by go_num, R6, F6⟩
      case measure => simp [intOf]; omega
    · have hkl : k = tgts.length := by omega
      subst hkl
      have hW := unhide HW
      rw [List.take_length, unhide HeP] at hW
      have HW2 := hide hW
      clear hW HW HeP
      go_wp2
      go_ret
      refine ⟨_, rfl, ?_, fb5.trans (unhide HF)⟩
      have e : l ++ M.plainB ⟨at_, op, wide, a, b, low, keys, tgts⟩ L = l ++ M.nb L.a a ++ M.nb L.b b ++ M.nb L.z 0 ++ tgts.flatMap fun t => M.nb L.t (t - at_) := by
        unfold M.plainB; simp only [List.append_assoc]
      rw [e]; exact unhide HW2
theorem range_flat (f : Nat → List UInt8) (n : Nat) : (List.range (n + 1)).flatMap f = (List.range n).flatMap f ++ f n := by rw [List.range_succ, List.flatMap_append, List.flatMap_singleton]
theorem Wr.form {W0 w : World} {v : Value} {l : List UInt8} (h : Wr W0 w v l) : ∃ o c, v = .slice o l.length c := by
  rcases h.own.2 with ⟨rfl, h0⟩ | ⟨g, cap, cur, rfl, _⟩
  · exact ⟨none, 0, by rw [h0]⟩
  · exact ⟨_, _, rfl⟩
theorem pad_end {n m : Nat} (h : m = M.padN n) : (n + m) % 4 = 0 := by rw [h]; unfold M.padN; omega
theorem pad_not {n m : Nat} (h : m < M.padN n) : (n + m) % 4 ≠ 0 := by unfold M.padN at h; omega
theorem Wr.byte {W0 w w1 : World} {v v' : Value} {l : List UInt8} {b : UInt8} {o : Obj} (h : Wr W0 w v l) (ho : w1.ownsRow W0.heap.size 5 1 v' (l.length + 1) (U8 l ++ [.int .u8 (b.toNat : Int)])) (hg : (w.alloc o).grownBy w1 v.ownBlock) : Wr W0 w1 v' (l ++ [b]) ∧ Fr W0.heap.size w w1 := by
  have hs := h.old.size
  have hf : Fr W0.heap.size w w1 := ((Fr.refl _ w).alloc hs o).grown (h.own.alloc o) (by simp; omega) hg
  refine ⟨h.fr hf ?_, hf⟩
  rw [U8_append, List.length_append]; exact ho
set_option maxRecDepth 100000 in
set_option maxHeartbeats 8000000 in
theorem appendSwitch_any (c : V) (k : Nat) (hk : k = 15 ∨ k = 16) (W0 w : World) (v : Value) (l : List UInt8) (hwr : Wr W0 w v l) (hw : Wd W0) (h : c.Ok W0) (hl : l.length ≤ 70000) (ht : c.g.tgts.length ≤ 100000) (h1 : 1 ≤ c.g.tgts.length) (hkl : k = 16 → c.g.tgts.length = c.g.keys.length + 1) (hlow : k = 15 → -2147483648 ≤ c.g.low ∧ c.g.low ≤ 2147483647) (hcap : ∀ ad n cap, c.tv = .slice ad n cap → n ≤ cap) :
    Calls Tryd.prog 62 #[v, c.val, .int .i64 (k : Int)] w fun e w' => ∃ v', e = .returned v' ∧ Wr W0 w' v' (l ++ M.swB c.g l.length (decide (k = 16))) ∧ Fr W0.heap.size w w' := by
  obtain ⟨i0, hi, hz0, hz1, hz2⟩ := info_parts Tryd.info5
  obtain ⟨at2, cap2, et, htc⟩ := h.t
  obtain ⟨ak2, capk, ek, hkc⟩ := h.k
  have hcap2 := hcap _ _ _ et
  clear hcap
  obtain ⟨⟨at_, op, wide, a, b, low, keys, tgts⟩, kv, tv⟩ := c
  simp only at et ek ht htc hkc hkl h1 hcap2 hlow
  subst et
  subst ek
  have HT := hide htc
  have HK := hide hkc
  have Hkl := hide hkl
  obtain ⟨W1, hW1⟩ : ∃ W1, W1 = w.alloc (.cells #[.int .i64 at_, .int .u8 (op : Int), .bool wide, .int .i64 a, .int .i64 b, .int .i64 low, .slice ak2 keys.length capk, .slice at2 tgts.length cap2] 35) := ⟨_, rfl⟩
  have v1 : Vb W1 w.heap.size ⟨⟨at_, op, wide, a, b, low, keys, tgts⟩, .slice ak2 keys.length capk, .slice at2 tgts.length cap2⟩ := by rw [hW1]; exact heap_alloc_new w _
  have hs := hwr.old.size
  have f1 : Fr W0.heap.size w W1 := by rw [hW1]; exact (Fr.refl _ w).alloc hs _
  have r1 : Wr W0 W1 v l := by rw [hW1]; exact hwr.alloc _
  obtain ⟨p, ep⟩ : ∃ p, p = w.heap.size := ⟨_, rfl⟩
  rw [← ep] at v1
  simp only [V.val, V.arr] at *
  have R1 := hide r1
  clear h htc hkc hkl r1 hwr
  go_enter Tryd.func62, Tryd.ntmps62
  go_upto_region 1 with fail
  rw [← hW1, ← ep]
  clear hW1 ep
  have hp3 : M.padN l.length ≤ 3 := by unfold M.padN; omega
  go_loopg [0] (M.padN l.length) (fun n v wr => ∃ m : Nat, Hid (n + m = M.padN l.length) ∧ Hid (Wr W0 wr v (l ++ List.replicate m 0)) ∧ Hid (Fr W0.heap.size W1 wr) ∧ (∃ o c, v = .slice o (l.length + m) c))
  case atStart =>
    obtain ⟨o, c, e⟩ := (unhide R1).form
    exact ⟨0, rfl, by unfold Hid; simpa using unhide R1, Fr.refl _ _, o, c, e⟩
  case round =>
    obtain ⟨m, Hm, HW, HF, vo, vc, rfl⟩ := hrel
    have hm3 : m ≤ 3 := by have := unhide Hm; omega
    by_cases hlt : m < M.padN l.length
    · have hrem : (((l.length + m : Nat) : Int) % 4 != 0) = true := by rw [bne_iff_ne]; have := pad_not hlt; omega
      have hW := unhide HW
      have hown := hW.own
      have hws := hW.old.size
      have ell : (l ++ List.replicate m (0 : UInt8)).length = l.length + m := by simp
      rw [ell] at hown
      clear hW
      go_wp2_with (at_builtin; refine wpList_append_own_at _ rfl _ _ 69 rfl W0.heap.size 5 i0 (.int .u8 0) 1 1 Tryd.underlying69 hi hz0 hz1 hz2 rfl (by decide) (.slice vo (l.length + m) vc) (l.length + m) _ rfl (hown.alloc _) ⟨wr.heap.size, 0, none⟩ 1 1 [.int .u8 0] rfl rfl (cell_one_new _ _ _) (by intro u hu; simp at hu; subst hu; rfl) (by unfold maxLen; omega) (by omega) (by simp; omega) ?_; intro v' w5 hown' hgrow _ _)
      obtain ⟨r5, f5⟩ := (unhide HW).byte (b := 0) (by rw [ell]; exact hown') hgrow
      rw [List.append_assoc, ← List.replicate_succ'] at r5
      have R5 := hide r5
      have F5 := hide ((unhide HF).trans f5)
      have hF5 := r5.form
      have em : l.length + (m + 1) = (l ++ List.replicate (m + 1) (0 : UInt8)).length := by simp
      clear r5 f5 hown' hgrow hown
      go_roundg (gk - 1)
      case measure => have := unhide Hm; omega
      case rel => exact ⟨m + 1, by have := unhide Hm; unfold Hid; omega, R5, F5, by rw [em]; exact hF5⟩
    · have hme : m = M.padN l.length := by have := unhide Hm; omega
      have hrem : (((l.length + m : Nat) : Int) % 4 != 0) = false := by rw [bne_eq_false_iff_eq]; have := pad_end hme; omega
      have Hme := hide hme
      have hF := unhide HF
      have vr := v1.fr hF
      have z0 := vr.cell 0
      have z7 := vr.cell 7
      simp [V.arr] at z0 z7
      have hne : tgts ≠ [] := by rintro rfl; simp at h1
      obtain ⟨bt, ot, rfl, hcell⟩ := unhide HT hne
      have hW := unhide HW
      have x0 := hcell 0 (by omega)
      rw [← hW.old.cell (cell_lt x0)] at x0
      obtain ⟨u0, u1, u2⟩ := hw.below hW.old
      have HC := hide (append_one hW.drew M.fw (IntKind.i64.wrap (tgts.getD 0 0 - at_)) (by decide) (by simp; omega))
      have hfw : M.fw.val = .agg #[.int .i64 4, .int .i64 (-2147483648), .int .i64 2147483647] := rfl
      rw [hfw] at HC
      obtain ⟨t0, ht0⟩ : ∃ t0, t0 = tgts.getD 0 0 := ⟨_, rfl⟩
      rw [← ht0] at HC x0
      rw [Nat.add_zero] at x0
      have Ht0 := hide ht0
      have hzp : p < wr.heap.size := vr.lt
      have hzb : bt < wr.heap.size := cell_lt x0
      have hz0' : 0 < wr.heap.size := cell_lt u0
      have hi0 : (0 : Int) < (tgts.length : Int) := by omega
      have hi1 : 0 < tgts.length := by omega
      clear hme hne hcell hW hF vr hfw ht0
      go_upto_region 4 with fail
      generalize hsv : (if cap2 = 1 then some (⟨bt, ot, none⟩ : Addr) else some ⟨bt, ot + 1, none⟩) = sv
      have Hsv := hide hsv
      clear hsv
      go_cut [0] (fun v w' => Hid (Wr W0 w' v (l ++ List.replicate m 0 ++ M.nb M.fw (t0 - at_))) ∧ Hid (Fr W0.heap.size wr w'))
      case first =>
        go_region_with (go_at_call 95; refine (unhide HC).mono ?_; rintro e w5 ⟨v5, rfl, r5, f5⟩)
        all_goals
          go_wp2
          go_meet
          case rel =>
            rw [nb_kwrap] at r5
            exact ⟨r5, f5.drew⟩
      case rest =>
        obtain ⟨HW2, HF2⟩ := hcut
        obtain ⟨vo2, vc2, evo⟩ := (unhide HW2).form
        subst evo
        have hF2 := ((unhide HF).trans (unhide HF2))
        have vr2 := v1.fr hF2
        have HF3 := hide (f1.trans hF2)
        obtain ⟨P, eP⟩ : ∃ P, P = l ++ List.replicate m 0 ++ M.nb M.fw (t0 - at_) := ⟨_, rfl⟩
        have hPl : P.length ≤ 70007 := by rw [eP]; simp only [List.length_append, List.length_replicate, M.nb_len, M.fw]; omega
        rw [← eP] at HW2 ⊢
        have HeP := hide eP
        have h0 := (unhide HW2).old
        have hw2 := hw.below h0
        have hws := h0.size
        clear eP hF2 HF2 HF HW x0 z0 z7 hzp hzb hz0' HC hrem hlt R1
        obtain ⟨u0', u1', u2'⟩ := hw2
        rcases hk with rfl | rfl
        · have hlo := hlow rfl
          have z5 := vr2.cell 5
          simp [V.arr] at z5
          have hHC := append_two (unhide HW2) M.fw low (low + ((tgts.length - 1 : Nat) : Int) - 1) (by decide) (by omega)
          have hfw : M.fw.val = .agg #[.int .i64 4, .int .i64 (-2147483648), .int .i64 2147483647] := rfl
          rw [hfw] at hHC
          have HC := hide hHC
          clear hHC hfw
          go_wp2_with fail
          refine (unhide HC).mono ?_
          clear HC u0' u1' u2' z5
          rintro e w6 ⟨v6, rfl, r6, f6⟩
          have R6 := hide r6
          have F6 := hide f6
          have vr6 := vr2.fr f6
          obtain ⟨Q, eQ⟩ : ∃ Q, Q = P ++ (M.nb M.fw low ++ M.nb M.fw (low + ((tgts.length - 1 : Nat) : Int) - 1)) := ⟨_, rfl⟩
          have hQl : Q.length ≤ 70015 := by rw [eQ]; simp only [List.length_append, M.nb_len, M.fw]; omega
          rw [← eQ] at R6
          have HeQ := hide eQ
          obtain ⟨n1, en1⟩ : ∃ n1, n1 = tgts.length - 1 := ⟨_, rfl⟩
          have hn1 : n1 ≤ 100000 := by omega
          rw [← en1]
          have Hn1 := hide en1
          clear r6 f6 eQ en1
          go_wp2_with fail
          go_loopw [0, 53] (fun v i wr' => ∃ j : Nat, j ≤ n1 ∧ i = .int .i64 j ∧ Hid (Wr W0 wr' v (Q ++ (List.range j).flatMap fun i => M.nb M.fw (tgts.getD (i + 1) 0 - at_))) ∧ Hid (Fr W0.heap.size w6 wr')) (fun _ i _ => n1 - (intOf i).toNat)
          case atStart => exact ⟨0, Nat.zero_le _, rfl, by unfold Hid; simpa using unhide R6, Fr.refl _ _⟩
          case round =>
            obtain ⟨j, hj, rfl, HWj, HFj⟩ := hrel
            by_cases hjlt : j < n1
            · have hsv := unhide Hsv
              have hn := unhide Hn1
              rw [if_neg (by omega)] at hsv
              subst hsv
              have hne : tgts ≠ [] := by rintro rfl; simp at h1
              obtain ⟨bt', ot', ebt, hcell⟩ := unhide HT hne
              cases ebt
              have hW := unhide HWj
              have x0 := hcell (j + 1) (by omega)
              rw [← hW.old.cell (cell_lt x0), show ot + (j + 1) = ot + 1 + j by omega] at x0
              obtain ⟨x, hx⟩ : ∃ x, x = tgts.getD (j + 1) 0 := ⟨_, rfl⟩
              rw [← hx] at x0
              have Hx := hide hx
              have hbl : (Q ++ (List.range j).flatMap fun i => M.nb M.fw (tgts.getD (i + 1) 0 - at_)).length ≤ 900000 := by
                have h1 := flat_len (List.range j) (fun i => M.nb M.fw (tgts.getD (i + 1) 0 - at_)) 4 (fun x => by rw [M.nb_len]; decide)
                rw [List.length_range] at h1
                rw [List.length_append]; omega
              obtain ⟨Z, eZ⟩ : ∃ Z, Z = Q ++ (List.range j).flatMap fun i => M.nb M.fw (tgts.getD (i + 1) 0 - at_) := ⟨_, rfl⟩
              rw [← eZ] at hW hbl
              have HeZ := hide eZ
              have hHC := append_one hW M.fw (wrap64 (x - at_)) (by decide) hbl
              have hfw : M.fw.val = .agg #[.int .i64 4, .int .i64 (-2147483648), .int .i64 2147483647] := rfl
              rw [hfw] at hHC
              have HC := hide hHC
              obtain ⟨u0', u1', u2'⟩ := hw.below hW.old
              have y0 := (vr6.fr (unhide HFj)).cell 0
              simp [V.arr] at y0
              have ji : (j : Int) < (n1 : Int) := by omega
              obtain ⟨vo3, vc3, evo⟩ := hW.form
              subst evo
              clear hHC hfw hcell hne hx hW hn eZ
              go_wp2_with fail
              refine (unhide HC).mono ?_
              clear HC u0' u1' u2' y0 x0
              rintro e w7 ⟨v7, rfl, r7, f7⟩
              rw [nb_wrap, unhide Hx, unhide HeZ, List.append_assoc, ← range_flat (fun i => M.nb M.fw (tgts.getD (i + 1) 0 - at_)) j] at r7
              have R7 := hide r7
              have F7 := hide ((unhide HFj).trans f7)
              clear r7 f7
              go_wp2
              go_roundw
              case rel => exact ⟨j + 1, by omega, by go_num, R7, F7⟩
              case measure => simp [intOf]; omega
            · have hjn : j = n1 := by omega
              subst hjn
              have ji : ¬ (j : Int) < (j : Int) := by omega
              go_wp2
              go_ret
              refine ⟨_, rfl, ?_, (unhide HF3).trans ((unhide F6).trans (unhide HFj))⟩
              have hb := unhide HWj
              have e : l ++ M.swB ⟨at_, op, wide, a, b, low, keys, tgts⟩ l.length false = Q ++ (List.range j).flatMap fun i => M.nb M.fw (tgts.getD (i + 1) 0 - at_) := by
                have hc : (((tgts.length - 1 : Nat) : Int)) = (tgts.length : Int) - 1 := by omega
                unfold M.swB M.restT
                rw [unhide HeQ, unhide HeP, unhide Hme, unhide Ht0, unhide Hn1, hc]
                simp [List.append_assoc]
              rw [e]; exact hb
        · have hkt := unhide Hkl rfl
          have hHC := append_one (unhide HW2) M.fw ((tgts.length - 1 : Nat) : Int) (by decide) (by omega)
          have hfw : M.fw.val = .agg #[.int .i64 4, .int .i64 (-2147483648), .int .i64 2147483647] := rfl
          rw [hfw] at hHC
          have HC := hide hHC
          have Hkt := hide hkt
          clear hHC hfw hkt
          go_wp2_with fail
          refine (unhide HC).mono ?_
          clear HC u0' u1' u2'
          rintro e w6 ⟨v6, rfl, r6, f6⟩
          have R6 := hide r6
          have F6 := hide f6
          have vr6 := vr2.fr f6
          obtain ⟨Q, eQ⟩ : ∃ Q, Q = P ++ M.nb M.fw ((tgts.length - 1 : Nat) : Int) := ⟨_, rfl⟩
          have hQl : Q.length ≤ 70015 := by rw [eQ]; simp only [List.length_append, M.nb_len, M.fw]; omega
          rw [← eQ] at R6
          have HeQ := hide eQ
          obtain ⟨n1, en1⟩ : ∃ n1, n1 = tgts.length - 1 := ⟨_, rfl⟩
          have hn1 : n1 ≤ 100000 := by omega
          rw [← en1]
          have Hn1 := hide en1
          clear r6 f6 eQ en1
          go_wp2_with fail
          go_loopw [0, 53] (fun v i wr' => ∃ j : Nat, j ≤ n1 ∧ i = .int .i64 j ∧ Hid (Wr W0 wr' v (Q ++ (List.range j).flatMap fun i => M.nb M.fw (keys.getD i 0) ++ M.nb M.fw (tgts.getD (i + 1) 0 - at_))) ∧ Hid (Fr W0.heap.size w6 wr')) (fun _ i _ => n1 - (intOf i).toNat)
          case atStart => exact ⟨0, Nat.zero_le _, rfl, by unfold Hid; simpa using unhide R6, Fr.refl _ _⟩
          case round =>
            obtain ⟨j, hj, rfl, HWj, HFj⟩ := hrel
            by_cases hjlt : j < n1
            · have hsv := unhide Hsv
              have hn := unhide Hn1
              have hkt := unhide Hkt
              rw [if_neg (by omega)] at hsv
              subst hsv
              have hne : tgts ≠ [] := by rintro rfl; simp at h1
              have hnk : keys ≠ [] := by rintro rfl; simp at hkt; omega
              obtain ⟨bt', ot', ebt, hcell⟩ := unhide HT hne
              cases ebt
              obtain ⟨bk, ok, rfl, hcellk⟩ := unhide HK hnk
              have hW := unhide HWj
              have x0 := hcell (j + 1) (by omega)
              rw [← hW.old.cell (cell_lt x0), show ot + (j + 1) = ot + 1 + j by omega] at x0
              have xk := hcellk j (by omega)
              rw [← hW.old.cell (cell_lt xk)] at xk
              obtain ⟨x, hx⟩ : ∃ x, x = tgts.getD (j + 1) 0 := ⟨_, rfl⟩
              obtain ⟨y, hy⟩ : ∃ y, y = keys.getD j 0 := ⟨_, rfl⟩
              rw [← hx] at x0
              rw [← hy] at xk
              have Hx := hide hx
              have Hy := hide hy
              have hbl : (Q ++ (List.range j).flatMap fun i => M.nb M.fw (keys.getD i 0) ++ M.nb M.fw (tgts.getD (i + 1) 0 - at_)).length ≤ 880000 := by
                have h1 := flat_len (List.range j) (fun i => M.nb M.fw (keys.getD i 0) ++ M.nb M.fw (tgts.getD (i + 1) 0 - at_)) 8 (fun x => by rw [List.length_append, M.nb_len, M.nb_len]; decide)
                rw [List.length_range] at h1
                rw [List.length_append]; omega
              obtain ⟨Z, eZ⟩ : ∃ Z, Z = Q ++ (List.range j).flatMap fun i => M.nb M.fw (keys.getD i 0) ++ M.nb M.fw (tgts.getD (i + 1) 0 - at_) := ⟨_, rfl⟩
              rw [← eZ] at hW hbl
              have HeZ := hide eZ
              have HWZ := hide hW
              have hHC := append_one hW.drew M.fw y (by decide) (by omega)
              have hfw : M.fw.val = .agg #[.int .i64 4, .int .i64 (-2147483648), .int .i64 2147483647] := rfl
              rw [hfw] at hHC
              have HC := hide hHC
              obtain ⟨u0', u1', u2'⟩ := hw.below hW.old
              have vrj := vr6.fr (unhide HFj)
              have y6 := vrj.cell 6
              simp [V.arr] at y6
              have ji : (j : Int) < (n1 : Int) := by omega
              have jk : (j : Int) < (keys.length : Int) := by omega
              have jk' : j < keys.length := by omega
              have hzp : p < wr.heap.size := vrj.lt
              have hzb : bk < wr.heap.size := cell_lt xk
              have hz0' : 0 < wr.heap.size := cell_lt u0'
              obtain ⟨vo3, vc3, evo⟩ := hW.form
              subst evo
              clear hHC hfw hcell hcellk hne hnk hx hy hW hn eZ hkt
              go_upto_region 12 with fail
              go_cut [0] (fun v w' => Hid (Wr W0 w' v (Z ++ M.nb M.fw y)) ∧ Hid (Fr W0.heap.size wr w'))
              case first =>
                go_region_with (go_at_call 95; refine (unhide HC).mono ?_; rintro e w5 ⟨v5, rfl, r5, f5⟩)
                all_goals
                  go_wp2
                  go_meet
                  case rel => exact ⟨r5, f5.drew⟩
              case rest =>
                obtain ⟨HWc, HFc⟩ := hcut
                clear HC u0' u1' u2' y6 xk x0 hzp hzb hz0'
                have hWc := unhide HWc
                obtain ⟨Y, eY⟩ : ∃ Y, Y = Z ++ M.nb M.fw y := ⟨_, rfl⟩
                have hYl : Y.length ≤ 900000 := by rw [eY, List.length_append, M.nb_len]; simp only [M.fw]; omega
                rw [← eY] at hWc
                have HeY := hide eY
                have hHC := append_one hWc M.fw (wrap64 (x - at_)) (by decide) hYl
                have hfw : M.fw.val = .agg #[.int .i64 4, .int .i64 (-2147483648), .int .i64 2147483647] := rfl
                rw [hfw] at hHC
                have HC := hide hHC
                obtain ⟨u0', u1', u2'⟩ := hw.below hWc.old
                have y0 := (vrj.fr (unhide HFc)).cell 0
                simp [V.arr] at y0
                obtain ⟨vo4, vc4, evo⟩ := hWc.form
                subst evo
                clear hHC hfw hWc eY HWc
                go_wp2_with fail
                refine (unhide HC).mono ?_
                clear HC u0' u1' u2' y0
                rintro e w7 ⟨v7, rfl, r7, f7⟩
                rw [nb_wrap, unhide HeY, unhide Hx, unhide Hy, unhide HeZ, List.append_assoc, List.append_assoc, ← range_flat (fun i => M.nb M.fw (keys.getD i 0) ++ M.nb M.fw (tgts.getD (i + 1) 0 - at_)) j] at r7
                have R7 := hide r7
                have F7 := hide (((unhide HFj).trans (unhide HFc)).trans f7)
                clear r7 f7
                go_wp2
                go_roundw
                case rel => exact ⟨j + 1, by omega, by go_num, R7, F7⟩
                case measure => simp [intOf]; omega
            · have hjn : j = n1 := by omega
              subst hjn
              have ji : ¬ (j : Int) < (j : Int) := by omega
              go_wp2
              go_ret
              refine ⟨_, rfl, ?_, (unhide HF3).trans ((unhide F6).trans (unhide HFj))⟩
              have hb := unhide HWj
              have e : l ++ M.swB ⟨at_, op, wide, a, b, low, keys, tgts⟩ l.length true = Q ++ (List.range j).flatMap fun i => M.nb M.fw (keys.getD i 0) ++ M.nb M.fw (tgts.getD (i + 1) 0 - at_) := by
                have hc : (((tgts.length - 1 : Nat) : Int)) = (tgts.length : Int) - 1 := by omega
                unfold M.swB M.restK
                rw [unhide HeQ, unhide HeP, unhide Hme, unhide Ht0, unhide Hn1, hc]
                simp [List.append_assoc]
              rw [e]; exact hb
end Go.Proofs.YtpmonoenppfekabDoor
