/-
  An instruction as it is handed in: are its operands such as its bytes can have?
-/
import Derived.Test.YtpmonoenppfekabDoorSameL
import Derived.Test.YtpmonoenppfekabDoorApp
namespace Go.Proofs.YtpmonoenppfekabDoor
open Go.RowKit
/-- An instruction, and where its lists lie. -/
structure V where
  g : G
  kv : Value
  tv : Value
def V.arr (c : V) : Array Value := #[.int .i64 c.g.at_, .int .u8 (c.g.op : Int), .bool c.g.wide, .int .i64 c.g.a, .int .i64 c.g.b, .int .i64 c.g.low, c.kv, c.tv]
def V.val (c : V) : Value := .agg c.arr
structure V.Ok (w : World) (c : V) : Prop where
  k : HasI w c.kv c.g.keys
  t : HasI w c.tv c.g.tgts
  op : c.g.op < 256
  kl : c.g.keys.length ≤ 1048576
  tl : c.g.tgts.length ≤ 1048576
theorem V.Ok.below {w w' : World} {c : V} (h : c.Ok w) (hb : Below w.heap.size w w') : c.Ok w' := ⟨h.k.below hb, h.t.below hb, h.op, h.kl, h.tl⟩
/-- The block of a copy. -/
def Vb (w : World) (p : Nat) (c : V) : Prop := w.heap[p]? = some (.cells c.arr 35 (0, 0))
theorem Vb.cell {w : World} {p : Nat} {c : V} (h : Vb w p c) (i : Nat) : w.cell? ⟨p, i, none⟩ = c.arr[i]? := cell_of_row w p i _ 35 (0, 0) h
theorem Vb.lt {w : World} {p : Nat} {c : V} (h : Vb w p c) : p < w.heap.size := (Array.getElem?_eq_some_iff.1 h).1
theorem Vb.below {w w' : World} {p : Nat} {c : V} (h : Vb w p c) (hb : Below w.heap.size w w') : Vb w' p c := by
  unfold Vb; rw [hb.block p h.lt]; exact h
theorem Vb.fr {w w' : World} {p B : Nat} {c : V} (h : Vb w p c) (hf : Fr B w w') : Vb w' p c := by
  unfold Vb; rw [hf.rest p _ 35 _ h (by decide)]; exact h
def Fb (w : World) (p : Nat) (f : F) : Prop := w.heap[p]? = some (.cells #[.int .i64 (f.size : Int), .int .i64 f.low, .int .i64 f.high] 92 (0, 0))
theorem Fb.cell {w : World} {p : Nat} {f : F} (h : Fb w p f) (i : Nat) : w.cell? ⟨p, i, none⟩ = (#[Value.int .i64 (f.size : Int), .int .i64 f.low, .int .i64 f.high])[i]? := cell_of_row w p i _ 92 (0, 0) h
theorem Fb.lt {w : World} {p : Nat} {f : F} (h : Fb w p f) : p < w.heap.size := (Array.getElem?_eq_some_iff.1 h).1
theorem Fb.below {w w' : World} {p : Nat} {f : F} (h : Fb w p f) (hb : Below w.heap.size w w') : Fb w' p f := by
  unfold Fb; rw [hb.block p h.lt]; exact h
theorem all_take {xs : List Int} {p : Int → Bool} (h : ∀ j, j < xs.length → p (xs.getD j 0) = true) : xs.all p = true := by
  rw [List.all_eq_true]
  intro x hx
  obtain ⟨i, hi, rfl⟩ := List.getElem_of_mem hx
  have := h i hi
  rwa [List.getD_eq_getElem?_getD, List.getElem?_eq_getElem hi] at this
theorem all_not {xs : List Int} {p : Int → Bool} {j : Nat} (hj : j < xs.length) (h : p (xs.getD j 0) = false) : xs.all p = false := by
  rw [List.all_eq_false]
  refine ⟨xs.getD j 0, ?_, by rw [h]; simp⟩
  rw [List.getD_eq_getElem?_getD, List.getElem?_eq_getElem hj]; exact List.getElem_mem hj
set_option maxRecDepth 100000 in
set_option maxHeartbeats 2000000 in
theorem hasTargets_any (c : V) (f : F) (w : World) (h : c.Ok w) : Calls Tryd.prog 93 #[c.val, f.val] w fun e w' => e = .returned (.bool (M.hasTgts c.g f)) ∧ Below w.heap.size w w' := by
  obtain ⟨at2, cap2, et, ht⟩ := h.t
  have hlen := h.tl
  obtain ⟨⟨at_, op, wide, a, b, low, keys, tgts⟩, kv, tv⟩ := c
  simp only at et
  subst et
  have HT := hide ht
  have HH := hide (fun x w => holds_below f x w)
  obtain ⟨r, hr⟩ : ∃ r, r = M.hasTgts ⟨at_, op, wide, a, b, low, keys, tgts⟩ f := ⟨_, rfl⟩
  have Hr := hide hr
  simp only [V.val, V.arr, F.val] at *
  rw [← hr]
  clear h ht hr
  obtain ⟨W1, hW1⟩ : ∃ W1, W1 = w.alloc (.cells #[.int .i64 at_, .int .u8 (op : Int), .bool wide, .int .i64 a, .int .i64 b, .int .i64 low, kv, .slice at2 tgts.length cap2] 35) := ⟨_, rfl⟩
  obtain ⟨W2, hW2⟩ : ∃ W2, W2 = W1.alloc (.cells #[.int .i64 (f.size : Int), .int .i64 f.low, .int .i64 f.high] 92) := ⟨_, rfl⟩
  have v1 : Vb W1 w.heap.size ⟨⟨at_, op, wide, a, b, low, keys, tgts⟩, kv, .slice at2 tgts.length cap2⟩ := by rw [hW1]; exact heap_alloc_new w _
  have z1 : W1.heap.size = w.heap.size + 1 := by rw [hW1]; simp
  have f2 : Fb W2 (w.heap.size + 1) f := by rw [hW2, ← z1]; exact heap_alloc_new W1 _
  have b1 : Below w.heap.size w W1 := by rw [hW1]; exact (Below.refl _ _).alloc (Nat.le_refl _) _
  have b2 : Below w.heap.size w W2 := by rw [hW2]; exact b1.alloc (by omega) _
  have v2 : Vb W2 w.heap.size ⟨⟨at_, op, wide, a, b, low, keys, tgts⟩, kv, .slice at2 tgts.length cap2⟩ := v1.below (by rw [hW2]; exact (Below.refl _ _).alloc (Nat.le_refl _) _)
  clear v1 b1
  go_enter Tryd.func93, Tryd.ntmps93
  go_wp2_with fail
  rw [← hW1, ← hW2]
  clear hW1 hW2 z1
  obtain ⟨p, ep⟩ : ∃ p, p = w.heap.size := ⟨_, rfl⟩
  rw [← ep] at v2 f2 ⊢
  clear ep
  go_loopw [10] (fun i wr => ∃ k : Nat, k ≤ tgts.length ∧ i = .int .i64 k ∧ Below W2.heap.size W2 wr ∧ Hid (∀ j, j < k → M.holds f (wrap64 (tgts.getD j 0 - at_)) = true)) (fun i _ => tgts.length - (intOf i).toNat)
  case atStart => exact ⟨0, Nat.zero_le _, rfl, Below.refl _ _, fun j hj => by omega⟩
  case round =>
    obtain ⟨k, hk, rfl, hbw, Hall⟩ := hrel
    by_cases hlt : k < tgts.length
    · have hne : tgts ≠ [] := by rintro rfl; simp at hlt
      obtain ⟨b2', o2, rfl, hcell⟩ := unhide HT hne
      have x0 := hcell k hlt
      have hbl := cell_lt x0
      rw [← b2.cell hbl, ← hbw.cell (Nat.lt_of_lt_of_le hbl b2.size)] at x0
      obtain ⟨x, hx⟩ : ∃ x, x = tgts.getD k 0 := ⟨_, rfl⟩
      have Hx := hide hx
      rw [← hx] at x0
      clear hx
      have fc := (f2.below hbw).cell
      have y0 := fc 0
      have y1 := fc 1
      have y2 := fc 2
      have y3 := ((v2.below hbw).cell 0)
      simp [V.arr] at y0 y1 y2 y3
      have ki : (k : Int) < (tgts.length : Int) := by omega
      clear hcell hne fc hbl HT
      go_wp2_with fail
      refine (unhide HH _ _).mono ?_
      rintro e w3 ⟨rfl, hb3⟩
      have hb4 : Below W2.heap.size W2 w3 := hbw.trans (hb3.mono hbw.size)
      cases hh : M.holds f (wrap64 (x - at_)) with
      | false =>
        have hrf : r = false := by
          rw [unhide Hr]
          exact all_not (p := fun t => M.holds f (wrap64 (t - at_))) hlt (by rw [← unhide Hx]; exact hh)
        subst hrf
        clear Hr
        go_wp2
        go_ret
        exact ⟨rfl, b2.trans (hb4.mono b2.size)⟩
      | true =>
        have hall := unhide Hall
        have Hh : Hid (∀ j, j < k + 1 → M.holds f (wrap64 (tgts.getD j 0 - at_)) = true) := fun j hj => by
          rcases Nat.lt_or_ge j k with h | h
          · exact hall j h
          · have : j = k := by omega
            subst this; rw [← unhide Hx]; exact hh
        clear hall hh
        go_wp2
        go_roundw
        case rel => exact ⟨k + 1, by omega, by go_num, hb4, Hh⟩
        case measure => simp [intOf]; omega
    · have hkl : k = tgts.length := by omega
      subst hkl
      have hrt : r = true := by
        rw [unhide Hr]
        exact all_take (unhide Hall)
      subst hrt
      clear Hr
      go_wp2
      go_ret
      exact ⟨rfl, b2.trans (hbw.mono b2.size)⟩
/-- A word of the program. -/
theorem word_holds (x : Int) (w : World) : Calls Tryd.prog 88 #[.agg #[.int .i64 4, .int .i64 (-2147483648), .int .i64 2147483647], .int .i64 x] w fun e w' => e = .returned (.bool (M.holds M.fw x)) ∧ Below w.heap.size w w' := holds_below M.fw x w
set_option maxRecDepth 100000 in
set_option maxHeartbeats 2000000 in
theorem hasTable_any (c : V) (w : World) (hw : Wd w) (h : c.Ok w) : Calls Tryd.prog 92 #[c.val] w fun e w' => e = .returned (.bool (M.hasTable c.g)) ∧ Below w.heap.size w w' := by
  obtain ⟨at2, cap2, et, ht⟩ := h.t
  have hlen := h.tl
  obtain ⟨⟨at_, op, wide, a, b, low, keys, tgts⟩, kv, tv⟩ := c
  simp only at et hlen
  subst et
  have HH := hide word_holds
  obtain ⟨W1, hW1⟩ : ∃ W1, W1 = w.alloc (.cells #[.int .i64 at_, .int .u8 (op : Int), .bool wide, .int .i64 a, .int .i64 b, .int .i64 low, kv, .slice at2 tgts.length cap2] 35) := ⟨_, rfl⟩
  have v1 : Vb W1 w.heap.size ⟨⟨at_, op, wide, a, b, low, keys, tgts⟩, kv, .slice at2 tgts.length cap2⟩ := by rw [hW1]; exact heap_alloc_new w _
  have b1 : Below w.heap.size w W1 := by rw [hW1]; exact (Below.refl _ _).alloc (Nat.le_refl _) _
  obtain ⟨u0, u1, u2⟩ := hw.below b1
  have y5 := v1.cell 5
  obtain ⟨r, hr⟩ : ∃ r, r = M.hasTable ⟨at_, op, wide, a, b, low, keys, tgts⟩ := ⟨_, rfl⟩
  have Hr := hide hr
  simp only [V.val, V.arr] at *
  rw [← hr]
  have hy5 : W1.cell? ⟨w.heap.size, 5, none⟩ = some (.int .i64 low) := by simpa using y5
  have y7 := v1.cell 7
  simp only [V.arr] at y7
  have hy7 : W1.cell? ⟨w.heap.size, 7, none⟩ = some (.slice at2 tgts.length cap2) := by simpa using y7
  have hw1 := hw.below b1
  have Hb1 := hide b1
  have hpz := v1.lt
  obtain ⟨p, ep⟩ : ∃ p, p = w.heap.size := ⟨_, rfl⟩
  rw [← ep] at hy5 hy7 hpz
  clear h ht y5 y7 hw b1 v1 hr
  go_enter Tryd.func92, Tryd.ntmps92
  go_upto_region 1 with fail
  rw [← hW1, ← ep]
  clear hW1 ep
  by_cases h2 : 2 ≤ tgts.length
  · have h2i : (0 : Int) ≤ (tgts.length : Int) - 2 := by omega
    cases h3 : M.holds M.fw low with
    | false =>
      have hrf : r = false := by rw [unhide Hr]; unfold M.hasTable; simp [h3]
      subst hrf
      clear Hr
      go_wp2_with fail
      refine (unhide HH _ _).mono ?_
      rintro e w3 ⟨rfl, hb3⟩
      rw [h3]
      clear h3
      go_wp2
      go_ret
      exact ⟨rfl, (unhide Hb1).trans (hb3.mono (unhide Hb1).size)⟩
    | true =>
      have hlow : -2147483648 ≤ low ∧ low ≤ 2147483647 := by
        unfold M.holds M.fw at h3; simp at h3; omega
      have hxr : r = M.holds M.fw (low + ((tgts.length : Int) - 2)) := by rw [unhide Hr]; unfold M.hasTable; simp [h3, h2]
      have Hxr := hide hxr
      clear Hr hxr
      go_wp2_with fail
      refine (unhide HH _ _).mono ?_
      rintro e w3 ⟨rfl, hb3⟩
      rw [h3]
      rw [← hb3.cell hpz] at hy5
      have hw3 := hw1.below hb3
      obtain ⟨u0, u1, u2⟩ := hw3
      clear h3 hw1
      go_wp2_with fail
      refine (unhide HH _ _).mono ?_
      rintro e w4 ⟨rfl, hb4⟩
      rw [← unhide Hxr]
      go_wp2
      go_ret
      have hb5 := (unhide Hb1).trans (hb3.mono (unhide Hb1).size)
      exact ⟨rfl, hb5.trans (hb4.mono hb5.size)⟩
  · have h2i : (tgts.length : Int) - 2 < 0 := by omega
    have hrf : r = false := by rw [unhide Hr]; unfold M.hasTable; simp [h2]
    subst hrf
    clear Hr
    go_wp2
    go_ret
    exact ⟨rfl, unhide Hb1⟩
theorem keys_all {ks : List Int} (h : ∀ j, j < ks.length → M.keyOk ks j = true) : (List.range ks.length).all (M.keyOk ks) = true := by
  rw [List.all_eq_true]; intro j hj; exact h j (List.mem_range.1 hj)
theorem keys_not {ks : List Int} {j : Nat} (hj : j < ks.length) (h : M.keyOk ks j = false) : (List.range ks.length).all (M.keyOk ks) = false := by
  rw [List.all_eq_false]; exact ⟨j, List.mem_range.2 hj, by rw [h]; simp⟩
set_option maxRecDepth 100000 in
set_option maxHeartbeats 2000000 in
theorem hasKeys_any (c : V) (w : World) (hw : Wd w) (h : c.Ok w) : Calls Tryd.prog 94 #[c.val] w fun e w' => e = .returned (.bool (M.hasKeys c.g)) ∧ Below w.heap.size w w' := by
  obtain ⟨at2, cap2, et, ht⟩ := h.t
  obtain ⟨ak2, capk, ek, hk⟩ := h.k
  have hlen := h.tl
  have hlek := h.kl
  obtain ⟨⟨at_, op, wide, a, b, low, keys, tgts⟩, kv, tv⟩ := c
  simp only at et ek hlen hlek hk
  subst et
  subst ek
  have HH := hide word_holds
  have HK := hide hk
  obtain ⟨W1, hW1⟩ : ∃ W1, W1 = w.alloc (.cells #[.int .i64 at_, .int .u8 (op : Int), .bool wide, .int .i64 a, .int .i64 b, .int .i64 low, .slice ak2 keys.length capk, .slice at2 tgts.length cap2] 35) := ⟨_, rfl⟩
  have v1 : Vb W1 w.heap.size ⟨⟨at_, op, wide, a, b, low, keys, tgts⟩, .slice ak2 keys.length capk, .slice at2 tgts.length cap2⟩ := by rw [hW1]; exact heap_alloc_new w _
  have b1 : Below w.heap.size w W1 := by rw [hW1]; exact (Below.refl _ _).alloc (Nat.le_refl _) _
  obtain ⟨r, hr⟩ : ∃ r, r = M.hasKeys ⟨at_, op, wide, a, b, low, keys, tgts⟩ := ⟨_, rfl⟩
  have Hr := hide hr
  have y6 := v1.cell 6
  have y7 := v1.cell 7
  simp only [V.val, V.arr] at *
  rw [← hr]
  have hy6 : W1.cell? ⟨w.heap.size, 6, none⟩ = some (.slice ak2 keys.length capk) := by simpa using y6
  have hy7 : W1.cell? ⟨w.heap.size, 7, none⟩ = some (.slice at2 tgts.length cap2) := by simpa using y7
  have hw1 := hw.below b1
  have hpz := v1.lt
  obtain ⟨p, ep⟩ : ∃ p, p = w.heap.size := ⟨_, rfl⟩
  rw [← ep] at hy6 hy7 hpz
  clear h ht hk y6 y7 hw v1 hr
  go_enter Tryd.func94, Tryd.ntmps94
  go_upto_region 1 with fail
  rw [← hW1, ← ep]
  clear hW1 ep
  by_cases h2 : tgts.length = keys.length + 1
  · have h2i : (((tgts.length : Nat) : Int) != ((keys.length : Nat) : Int) + 1) = false := by rw [bne_eq_false_iff_eq]; omega
    have Hh2 := hide h2
    clear h2
    go_wp2_with fail
    go_loopw [16] (fun i wr => ∃ k : Nat, k ≤ keys.length ∧ i = .int .i64 k ∧ Below W1.heap.size W1 wr ∧ Hid (∀ j, j < k → M.keyOk keys j = true)) (fun i _ => keys.length - (intOf i).toNat)
    case atStart => exact ⟨0, Nat.zero_le _, rfl, Below.refl _ _, fun j hj => by omega⟩
    case round =>
      obtain ⟨k, hk, rfl, hbw, Hall⟩ := hrel
      by_cases hlt : k < keys.length
      · have hne : keys ≠ [] := by rintro rfl; simp at hlt
        obtain ⟨bk, ok, rfl, hcell⟩ := unhide HK hne
        have x0 := hcell k hlt
        have hbl := cell_lt x0
        have xp := hcell (k - 1) (by omega)
        rw [← b1.cell hbl, ← hbw.cell (Nat.lt_of_lt_of_le hbl b1.size)] at x0
        rw [← b1.cell (cell_lt xp)] at xp
        rw [← hbw.cell (cell_lt xp)] at xp
        obtain ⟨x, hx⟩ : ∃ x, x = keys.getD k 0 := ⟨_, rfl⟩
        obtain ⟨xq, hxq⟩ : ∃ xq, xq = keys.getD (k - 1) 0 := ⟨_, rfl⟩
        have hko : M.keyOk keys k = (M.holds M.fw x && (decide (k = 0) || decide (xq < x))) := by unfold M.keyOk; rw [← hx, ← hxq]
        rw [← hx] at x0
        rw [← hxq] at xp
        have Hko := hide hko
        have hy6r := hy6
        rw [← hbw.cell (show (⟨p, 6, none⟩ : Addr).block < W1.heap.size from hpz)] at hy6r
        have hwr := hw1.below hbw
        have Hwr := hide hwr
        obtain ⟨u0, u1, u2⟩ := hwr
        have ki : (k : Int) < (keys.length : Int) := by omega
        have hpzr : (⟨p, 6, none⟩ : Addr).block < wr.heap.size := Nat.lt_of_lt_of_le hpz hbw.size
        have hblr : (⟨bk, ok + (k - 1), none⟩ : Addr).block < wr.heap.size := Nat.lt_of_lt_of_le (Nat.lt_of_lt_of_le hbl b1.size) hbw.size
        clear hcell hne hbl HK hx hxq hko hy6 hy7 hw1
        go_wp2_with fail
        refine (unhide HH _ _).mono ?_
        rintro e w3 ⟨rfl, hb3⟩
        have hb4 : Below W1.heap.size W1 w3 := hbw.trans (hb3.mono hbw.size)
        rw [← hb3.cell hblr] at xp
        rw [← hb3.cell hpzr] at hy6r
        clear x0 u0 u1 u2
        cases hh : M.holds M.fw x with
        | false =>
          have hrf : r = false := by
            rw [unhide Hr]; unfold M.hasKeys
            rw [keys_not hlt (by rw [unhide Hko, hh]; rfl), Bool.and_false]
          subst hrf
          clear Hr Hko hh
          go_wp2
          go_ret
          exact ⟨rfl, b1.trans (hb4.mono b1.size)⟩
        | true =>
          rcases Nat.eq_zero_or_pos k with h0 | h0
          · have h0i : ¬ (0 : Int) < (k : Int) := by omega
            have Hh : Hid (∀ j, j < k + 1 → M.keyOk keys j = true) := fun j hj => by
              have : j = k := by omega
              subst this; rw [unhide Hko, hh]; simp [h0]
            clear hh Hko Hall h0
            go_wp2
            go_roundw
            case rel => exact ⟨k + 1, by omega, by go_num, hb4, Hh⟩
            case measure => simp [intOf]; omega
          · have h0i : (0 : Int) < (k : Int) := by omega
            have hsub : (k : Int) - 1 = ((k - 1 : Nat) : Int) := by omega
            by_cases hlq : xq < x
            · have hlq' : ¬ x ≤ xq := by omega
              have hall := unhide Hall
              have Hh : Hid (∀ j, j < k + 1 → M.keyOk keys j = true) := fun j hj => by
                rcases Nat.lt_or_ge j k with h | h
                · exact hall j h
                · have : j = k := by omega
                  subst this; rw [unhide Hko, hh]; simp [hlq]
              clear hh Hko hall
              go_wp2
              go_roundw
              case rel => exact ⟨k + 1, by omega, by go_num, hb4, Hh⟩
              case measure => simp [intOf]; omega
            · have hlq' : x ≤ xq := by omega
              have hrf : r = false := by
                rw [unhide Hr]; unfold M.hasKeys
                rw [keys_not hlt (by rw [unhide Hko, hh]; simp; omega), Bool.and_false]
              subst hrf
              clear Hr Hko hh
              go_wp2
              go_ret
              exact ⟨rfl, b1.trans (hb4.mono b1.size)⟩
      · have hkl : k = keys.length := by omega
        subst hkl
        have hrt : r = true := by
          rw [unhide Hr]; unfold M.hasKeys
          simp only
          rw [keys_all (unhide Hall), unhide Hh2]; simp
        subst hrt
        clear Hr
        go_wp2
        go_ret
        exact ⟨rfl, b1.trans (hbw.mono b1.size)⟩
  · have h2i : (((tgts.length : Nat) : Int) != ((keys.length : Nat) : Int) + 1) = true := by rw [bne_iff_ne]; omega
    have hrf : r = false := by rw [unhide Hr]; unfold M.hasKeys; simp [h2]
    subst hrf
    clear Hr
    go_wp2
    go_ret
    exact ⟨rfl, b1⟩
end Go.Proofs.YtpmonoenppfekabDoor
