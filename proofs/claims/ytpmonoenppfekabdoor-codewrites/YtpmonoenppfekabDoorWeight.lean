/-
  weight: of instructions.
-/
import Derived.Test.YtpmonoenppfekabDoorTwin
namespace Go.Proofs.YtpmonoenppfekabDoor
open Go.RowKit
/-- What is known of an instruction that is handed in, before it is weighed. -/
structure V.Wk (w : World) (c : V) : Prop where
  k : HasI w c.kv c.g.keys
  t : HasI w c.tv c.g.tgts
  op : c.g.op < 256
  kb : c.g.keys.length ≤ 35184372088832
  tb : c.g.tgts.length ≤ 35184372088832
  wf : ∀ t ∈ c.g.tgts, (Lit.int .i64 t).wf = true
  cap : ∀ ad n cap, c.tv = .slice ad n cap → n ≤ cap
structure WHas (w : World) (v : Value) (L : List V) : Prop where
  form : ∃ ad cap, v = .slice ad L.length cap ∧ (L ≠ [] → ∃ b o, ad = some ⟨b, o, none⟩ ∧ ∀ k (hk : k < L.length), ∀ i, i < 8 → w.cell? ⟨b, o + k * 8 + i, none⟩ = (L[k]).arr[i]?)
  wk : ∀ c ∈ L, c.Wk w
theorem WHas.has {w : World} {v : Value} {L : List V} (h : WHas w v L) (hb : ∀ c ∈ L, c.g.keys.length + c.g.tgts.length ≤ 32768) : GHas w v L :=
  ⟨h.form, fun c hc => ⟨⟨(h.wk c hc).k, (h.wk c hc).t, (h.wk c hc).op, by have := hb c hc; omega, by have := hb c hc; omega⟩, by have := hb c hc; omega, (h.wk c hc).wf, (h.wk c hc).cap⟩⟩
theorem WHas.below {w w' : World} {v : Value} {L : List V} (h : WHas w v L) (hb : Below w.heap.size w w') : WHas w' v L := by
  refine ⟨?_, fun c hc => ⟨(h.wk c hc).k.below hb, (h.wk c hc).t.below hb, (h.wk c hc).op, (h.wk c hc).kb, (h.wk c hc).tb, (h.wk c hc).wf, (h.wk c hc).cap⟩⟩
  obtain ⟨ad, cap, e, hc⟩ := h.form
  refine ⟨ad, cap, e, fun hne => ?_⟩
  obtain ⟨b, o, e1, hk⟩ := hc hne
  refine ⟨b, o, e1, fun k hk1 i hi => ?_⟩
  have h5 := hk k hk1 i hi
  have hci : (L[k]).arr[i]? = some ((L[k]).arr[i]'(by show i < 8; exact hi)) := Array.getElem?_eq_getElem _
  rw [hci] at h5 ⊢
  rw [hb.cell (cell_lt h5)]; exact h5
set_option maxRecDepth 100000 in
set_option maxHeartbeats 2000000 in
theorem weight_any (L : List V) (v : Value) (w : World) (h : WHas w v L) (hl : L.length ≤ 35184372088832) : Calls Tryd.prog 19 #[v] w fun e w' =>
    ∃ r : Nat, e = .returned (.int .i64 (r : Int)) ∧ r ≤ 140737488355328 ∧ (r ≤ 32768 → L.length ≤ 32768 ∧ ∀ c ∈ L, c.g.keys.length + c.g.tgts.length ≤ 32768) ∧ Below w.heap.size w w' := by
  obtain ⟨ad, cap, rfl, hc⟩ := h.form
  have HH := hide h
  have HC := hide hc
  clear h hc
  go_enter Tryd.func19, Tryd.ntmps19
  go_wp2_with fail
  go_loopw [3, 10] (fun nv i wr => ∃ (k r : Nat), k ≤ L.length ∧ i = .int .i64 k ∧ nv = .int .i64 (r : Int) ∧ Hid (L.length ≤ r) ∧ r ≤ 35184372088832 ∧ Hid (∀ j (hj : j < L.length), j < k → (L[j]).g.keys.length + (L[j]).g.tgts.length ≤ r) ∧ Hid (Below w.heap.size w wr)) (fun _ i _ => L.length - (intOf i).toNat)
  case atStart => exact ⟨0, L.length, Nat.zero_le _, rfl, rfl, Nat.le_refl _, hl, fun j _ hj => by omega, Below.refl _ _⟩
  case round =>
    obtain ⟨k, r, hk, rfl, rfl, HL, hr, HA, HB⟩ := hrel
    by_cases hlt : k < L.length
    · have hB := unhide HB
      have hwk := (unhide HH).wk _ (List.getElem_mem hlt)
      have hne : L ≠ [] := by rintro rfl; simp at hlt
      obtain ⟨b0, o0, rfl, hcell⟩ := unhide HC hne
      have hcl := hcell k hlt
      obtain ⟨c, hcL⟩ : ∃ c, c = L[k] := ⟨_, rfl⟩
      simp only [← hcL] at hwk hcl
      have HcL := hide hcL
      obtain ⟨at2, cap2, et, _⟩ := hwk.t
      obtain ⟨ak2, capk, ek, _⟩ := hwk.k
      have hkb := hwk.kb
      have htb := hwk.tb
      obtain ⟨⟨at_, op, wide, a, bb, low, keys, tgts⟩, kv, tv⟩ := c
      simp only at et ek hkb htb
      subst et
      subst ek
      have x0 := hcl 0 (by omega)
      have x1 := hcl 1 (by omega)
      have x2 := hcl 2 (by omega)
      have x3 := hcl 3 (by omega)
      have x4 := hcl 4 (by omega)
      have x5 := hcl 5 (by omega)
      have x6 := hcl 6 (by omega)
      have x7 := hcl 7 (by omega)
      simp only [V.arr] at x0 x1 x2 x3 x4 x5 x6 x7
      simp at x0 x1 x2 x3 x4 x5 x6 x7
      have hb0 : b0 < w.heap.size := cell_lt x0
      have hcw : ∀ o, wr.cell? ⟨b0, o, none⟩ = w.cell? ⟨b0, o, none⟩ := fun o => hB.cell hb0
      rw [← hcw] at x0 x1 x2 x3 x4 x5 x6 x7
      obtain ⟨W2, hW2⟩ : ∃ W2, W2 = wr.alloc (.cells #[.int .i64 at_, .int .u8 (op : Int), .bool wide, .int .i64 a, .int .i64 bb, .int .i64 low, .slice ak2 keys.length capk, .slice at2 tgts.length cap2] 35) := ⟨_, rfl⟩
      have v2 : Vb W2 wr.heap.size ⟨⟨at_, op, wide, a, bb, low, keys, tgts⟩, .slice ak2 keys.length capk, .slice at2 tgts.length cap2⟩ := by rw [hW2]; exact heap_alloc_new wr _
      have hB2 : Below w.heap.size w W2 := by rw [hW2]; exact hB.alloc hB.size _
      have y6 := v2.cell 6
      have y7 := v2.cell 7
      simp [V.arr] at y6 y7
      have HB2 := hide hB2
      have ki : (k : Int) < (L.length : Int) := by omega
      clear hcl hcell hne hwk hcw hcL hB v2 hB2
      go_upto_region 5 with fail
      rw [← hW2]
      obtain ⟨p, ep⟩ : ∃ p, p = wr.heap.size := ⟨_, rfl⟩
      rw [← ep] at y6 y7 ⊢
      clear hW2 ep x0 x1 x2 x3 x4 x5 x6 x7
      by_cases hbig : 32768 < r + (keys.length + tgts.length)
      · have hbi : (32768 : Int) < (r : Int) + ((keys.length : Int) + (tgts.length : Int)) := by omega
        go_wp2
        go_ret
        refine ⟨r + (keys.length + tgts.length), ?_, by omega, fun e => by omega, unhide HB2⟩
        go_num
      · have hbi : ¬ (32768 : Int) < (r : Int) + ((keys.length : Int) + (tgts.length : Int)) := by omega
        have HL2 : Hid (L.length ≤ r + (keys.length + tgts.length)) := by have := unhide HL; unfold Hid; omega
        have HA2 : Hid (∀ j (hj : j < L.length), j < k + 1 → (L[j]).g.keys.length + (L[j]).g.tgts.length ≤ r + (keys.length + tgts.length)) := fun j hj h1 => by
          rcases Nat.lt_or_ge j k with h | h
          · have := unhide HA j hj h; omega
          · have : j = k := by omega
            subst this; rw [← unhide HcL]; simp only; omega
        go_wp2
        go_roundw
        case rel => exact ⟨k + 1, r + (keys.length + tgts.length), by omega, by go_num, by go_num, HL2, by omega, HA2, HB2⟩
        case measure => simp [intOf]; omega
    · have hkl : k = L.length := by omega
      subst hkl
      have ki : ¬ (L.length : Int) < (L.length : Int) := by omega
      go_wp2
      go_ret
      refine ⟨r, rfl, by omega, fun e => ⟨by have := unhide HL; omega, fun c hc => ?_⟩, unhide HB⟩
      obtain ⟨q, hq, rfl⟩ := List.getElem_of_mem hc
      have := unhide HA q hq hq
      omega
end Go.Proofs.YtpmonoenppfekabDoor
