/-
  ClassChecks: another class of the same, and room in its lists.
-/
import Derived.Test.YtddhlphbbiihjaaGreatDoorDa
set_option linter.unusedVariables false
set_option linter.unusedSimpArgs false
namespace Go.Proofs.YtddhlphbbiihjaaGreatDoor.Cl
open Go.RowKit Go.Maps Kn
/-- A slice is no longer than its room. -/
def Cap (v : Value) : Prop := ∀ ad n cp, v = .slice ad n cp → n ≤ cp
theorem cap_of {w : World} {B e z n : Nat} {v : Value} {xs : List Value} (h : w.ownsRow B e z v n xs) : Cap v := by
  intro ad m cp ev
  rcases h.2 with ⟨h0, _⟩ | ⟨g, cap, cur, h1, _, _, h4, _⟩
  · rw [h0] at ev; cases ev; exact Nat.le_refl _
  · rw [h1] at ev; cases ev; exact h4
set_option maxRecDepth 1000000 in
set_option maxHeartbeats 16000000 in
theorem another2_any (c : Csi) (vp vi vf vm : Value) (L : List Mv) (w : World) (hC : Cin w c vp vi vf vm L) (hs : c.size ≤ 4000000) :
    Calls Tryz.prog 5 #[clv c vp vi vf vm] w fun r w' => ∃ vp' vi' vf' vm' L', r = .returned (clv c vp' vi' vf' vm') ∧ Cin w' c vp' vi' vf' vm' L' ∧ Below w.heap.size w w' ∧ Cap vi' ∧ Cap vf' ∧ Cap vm' := by
  unfold clv
  have HC := hide hC
  have hfit := hC.p.fit
  have hfm := Fm_of hC
  obtain ⟨T, hT⟩ : ∃ T, T = L.map mtOf := ⟨_, rfl⟩
  rw [← hT] at hfm
  have hTe : T.map Prod.fst = c.methods := by rw [hT, List.map_map, ← hC.e]; rfl
  have hTl : T.length = c.methods.length := by rw [← hTe, List.length_map]
  have hTh : ∀ (j : Nat) (x : Mi × Option Addr × Nat), T[j]? = some x → FIn Hi.cells 4 Hi.zero w (.slice x.2.1 x.1.code.handlers.length x.2.2) x.1.code.handlers := fun j x hx => by
    rw [hT, List.getElem?_map] at hx
    obtain ⟨y, hy, rfl⟩ := Option.map_eq_some_iff.1 hx
    have hm : y ∈ L := List.mem_of_getElem? hy
    have := hC.h y hm
    have e : mvOf (mtOf y) = y := mv_mt this
    have e2 : (mvOf (mtOf y)).hv = y.hv := by rw [e]
    rw [← e2] at this
    exact this
  have hhl : ∀ x ∈ T, x.1.code.handlers.length ≤ 4000000 := fun x hx => by
    have h1 : x.1 ∈ c.methods := by rw [← hTe]; exact List.mem_map_of_mem hx
    have h2 := sum_mem msz h1
    have h3 : msz x.1 = x.1.code.bytes.length + x.1.code.map.length + x.1.code.handlers.length := rfl
    have h4 : c.size = c.pool.length + c.ifaces.length + c.fields.length + c.methods.length + (c.pool.map ksz).sum + (c.methods.map msz).sum := rfl
    omega
  have hsz : c.size = c.pool.length + c.ifaces.length + c.fields.length + c.methods.length + (c.pool.map ksz).sum + (c.methods.map msz).sum := rfl
  have n1 : c.pool.length ≤ 4000000 := by omega
  have n2 : c.ifaces.length ≤ 4000000 := by omega
  have n3 : c.fields.length ≤ 4000000 := by omega
  have n4 : T.length ≤ 4000000 := by omega
  obtain ⟨pa, pc, rfl, _⟩ := hC.p.ex
  obtain ⟨ia, ic, rfl, _⟩ := hC.i
  obtain ⟨fa, fc, rfl, _⟩ := hC.f
  obtain ⟨ma, mc, rfl, _⟩ := id hfm
  obtain ⟨wA, hwA⟩ : ∃ wA, wA = (w.alloc (.cells #[.int .u16 (c.minor : Int), .int .u16 (c.major : Int), .int .u16 (c.flags : Int), .int .u16 (c.this : Int), .int .u16 (c.super : Int), (.slice pa c.pool.length pc), (.slice ia c.ifaces.length ic), (.slice fa c.fields.length fc), (.slice ma T.length mc)] 28)).alloc (.cells #[.int .u16 0, .int .u16 0, .int .u16 0, .int .u16 0, .int .u16 0, .slice none 0 0, .slice none 0 0, .slice none 0 0, .slice none 0 0] 28) := ⟨_, rfl⟩
  have hbA : Below w.heap.size w wA := by rw [hwA]; exact ((Below.refl _ _).alloc (Nat.le_refl _) _).alloc (by simp) _
  have b0 : Bk wA w.heap.size #[.int .u16 (c.minor : Int), .int .u16 (c.major : Int), .int .u16 (c.flags : Int), .int .u16 (c.this : Int), .int .u16 (c.super : Int), (.slice pa c.pool.length pc), (.slice ia c.ifaces.length ic), (.slice fa c.fields.length fc), (.slice ma T.length mc)] 28 := by rw [hwA]; exact (Bk.new w _ _).alloc _
  have r0 : Bk wA (w.heap.size + 1) #[.int .u16 0, .int .u16 0, .int .u16 0, .int .u16 0, .int .u16 0, .slice none 0 0, .slice none 0 0, .slice none 0 0, .slice none 0 0] 28 := by
    have := Bk.new (w.alloc (.cells #[.int .u16 (c.minor : Int), .int .u16 (c.major : Int), .int .u16 (c.flags : Int), .int .u16 (c.this : Int), .int .u16 (c.super : Int), (.slice pa c.pool.length pc), (.slice ia c.ifaces.length ic), (.slice fa c.fields.length fc), (.slice ma T.length mc)] 28)) #[.int .u16 0, .int .u16 0, .int .u16 0, .int .u16 0, .int .u16 0, .slice none 0 0, .slice none 0 0, .slice none 0 0, .slice none 0 0] 28
    rw [hwA]; simpa using this
  have HA := hide hwA
  have HB := hide b0
  have HR := hide r0
  have HU := hide hbA
  have HFm := hide hfm
  have HTe := hide hTe
  have HTh := hide hTh
  have Hhl := hide hhl
  have Hfit := hide hfit
  clear hwA b0 r0 hbA hfm hC hT hTe hTl hTh hhl hsz hs hfit
  go_enter Tryz.func5, Tryz.ntmps5
  go_upto_region 1 with fail
  rw [← unhide HA]
  clear HA
  have k5 := (unhide HB).cell 5
  simp at k5
  have hF5 := FIn.below Kc_len (KIn_F (unhide HC).p) (unhide HU)
  have hsU5 := (unhide HU).size
  go_upto_region 2 with (at_builtin; refine wpList_copyF K.cells 5 K.zero 23 38 _ _ Tryz.underlying23 infoK rfl (by decide) Kc_len one_K _ rfl _ _ rfl _ c.pool rfl rfl hF5 (by omega) (by decide) ?_; intro v5 w5 ho5 hb5; obtain ⟨pa1, pc1, e5⟩ := own_slice ho5; subst e5; have B5 := (unhide HB).below hb5; have q5 := B5.cell 5; have qf5 := B5.frozen 5; simp at q5)
  have hgn5 : w.heap.size ≠ w.heap.size + 1 := by omega
  have ho5b := own_base ho5 hsU5
  have gs5 := grown_set w5 w.heap.size 5 (.slice pa1 c.pool.length pc1)
  have B5s := B5.set 5 (.slice pa1 c.pool.length pc1)
  simp only [List.setIfInBounds_toArray, List.set_cons_zero, List.set_cons_succ] at B5s
  have R5 := ((unhide HR).below hb5).kept gs5 (by simp)
  have U5 : Below w.heap.size w (w5.setCell ⟨w.heap.size, 5, none⟩ (.slice pa1 c.pool.length pc1)) := ((unhide HU).trans (hb5.mono hsU5)).setCell (p := ⟨w.heap.size, 5, none⟩) (Nat.le_refl _) _
  have O5 := hide (ins_kept ho5b gs5 (fun b e => by cases e; exact own_type (cs := []) ho5b B5 (by decide)))
  have HB := hide B5s
  have HR := hide R5
  have HU := hide U5
  generalize hwg5 : w5.setCell ⟨w.heap.size, 5, none⟩ (.slice pa1 c.pool.length pc1) = y5 at *
  clear hwg5 k5 hF5 hsU5 B5 q5 qf5 ho5 ho5b gs5 B5s R5 U5 hb5
  have k6 := (unhide HB).cell 6
  simp at k6
  have hF6 := FIn.below Uc_len (unhide HC).i (unhide HU)
  have hsU6 := (unhide HU).size
  go_upto_region 3 with (at_builtin; refine wpList_copyF Uc 1 0 24 22 _ _ Tryz.underlying24 infoU rfl (by decide) Uc_len one_U _ rfl _ _ rfl _ c.ifaces rfl rfl hF6 (by omega) (by decide) ?_; intro v6 w6 ho6 hb6; obtain ⟨ia1, ic1, e6⟩ := own_slice ho6; subst e6; have B6 := (unhide HB).below hb6; have q6 := B6.cell 6; have qf6 := B6.frozen 6; simp at q6)
  have hgn6 : w.heap.size ≠ w.heap.size + 1 := by omega
  have ho6b := own_base ho6 hsU6
  have gs6 := grown_set w6 w.heap.size 6 (.slice ia1 c.ifaces.length ic1)
  have B6s := B6.set 6 (.slice ia1 c.ifaces.length ic1)
  simp only [List.setIfInBounds_toArray, List.set_cons_zero, List.set_cons_succ] at B6s
  have R6 := ((unhide HR).below hb6).kept gs6 (by simp)
  have U6 : Below w.heap.size w (w6.setCell ⟨w.heap.size, 6, none⟩ (.slice ia1 c.ifaces.length ic1)) := ((unhide HU).trans (hb6.mono hsU6)).setCell (p := ⟨w.heap.size, 6, none⟩) (Nat.le_refl _) _
  have O6 := hide (ins_kept ho6b gs6 (fun b e => by cases e; exact own_type (cs := []) ho6b B6 (by decide)))
  have O5 := hide (ins_kept (ins_kept (unhide O5) (grown_of_below hb6 none) (fun _ e => by cases e)) gs6 (fun b e => by cases e; exact own_type (cs := []) (ins_kept (unhide O5) (grown_of_below hb6 none) (fun _ e => by cases e)) B6 (by decide)))
  have HB := hide B6s
  have HR := hide R6
  have HU := hide U6
  generalize hwg6 : w6.setCell ⟨w.heap.size, 6, none⟩ (.slice ia1 c.ifaces.length ic1) = y6 at *
  clear hwg6 k6 hF6 hsU6 B6 q6 qf6 ho6 ho6b gs6 B6s R6 U6 hb6
  have k7 := (unhide HB).cell 7
  simp at k7
  have hF7 := FIn.below Fc_len (unhide HC).f (unhide HU)
  have hsU7 := (unhide HU).size
  go_upto_region 4 with (at_builtin; refine wpList_copyF Fc 4 Fz 25 52 _ _ Tryz.underlying25 infoF rfl (by decide) Fc_len one_F _ rfl _ _ rfl _ c.fields rfl rfl hF7 (by omega) (by decide) ?_; intro v7 w7 ho7 hb7; obtain ⟨fa1, fc1, e7⟩ := own_slice ho7; subst e7; have B7 := (unhide HB).below hb7; have q7 := B7.cell 7; have qf7 := B7.frozen 7; simp at q7)
  have hgn7 : w.heap.size ≠ w.heap.size + 1 := by omega
  have ho7b := own_base ho7 hsU7
  have gs7 := grown_set w7 w.heap.size 7 (.slice fa1 c.fields.length fc1)
  have B7s := B7.set 7 (.slice fa1 c.fields.length fc1)
  simp only [List.setIfInBounds_toArray, List.set_cons_zero, List.set_cons_succ] at B7s
  have R7 := ((unhide HR).below hb7).kept gs7 (by simp)
  have U7 : Below w.heap.size w (w7.setCell ⟨w.heap.size, 7, none⟩ (.slice fa1 c.fields.length fc1)) := ((unhide HU).trans (hb7.mono hsU7)).setCell (p := ⟨w.heap.size, 7, none⟩) (Nat.le_refl _) _
  have O7 := hide (ins_kept ho7b gs7 (fun b e => by cases e; exact own_type (cs := []) ho7b B7 (by decide)))
  have O5 := hide (ins_kept (ins_kept (unhide O5) (grown_of_below hb7 none) (fun _ e => by cases e)) gs7 (fun b e => by cases e; exact own_type (cs := []) (ins_kept (unhide O5) (grown_of_below hb7 none) (fun _ e => by cases e)) B7 (by decide)))
  have O6 := hide (ins_kept (ins_kept (unhide O6) (grown_of_below hb7 none) (fun _ e => by cases e)) gs7 (fun b e => by cases e; exact own_type (cs := []) (ins_kept (unhide O6) (grown_of_below hb7 none) (fun _ e => by cases e)) B7 (by decide)))
  have HB := hide B7s
  have HR := hide R7
  have HU := hide U7
  generalize hwg7 : w7.setCell ⟨w.heap.size, 7, none⟩ (.slice fa1 c.fields.length fc1) = y7 at *
  clear hwg7 k7 hF7 hsU7 B7 q7 qf7 ho7 ho7b gs7 B7s R7 U7 hb7
  have k8 := (unhide HB).cell 8
  simp at k8
  have hF8 := FIn.below Mc_len (unhide HFm) (unhide HU)
  have hsU8 := (unhide HU).size
  go_upto_region 5 with (at_builtin; refine wpList_copyF Mc 9 Mz 26 43 _ _ Tryz.underlying26 infoM rfl (by decide) Mc_len one_M _ rfl _ _ rfl _ T rfl rfl hF8 (by omega) (by decide) ?_; intro v8 w8 ho8 hb8; obtain ⟨ma1, mc1, e8⟩ := own_slice ho8; subst e8; have B8 := (unhide HB).below hb8; have q8 := B8.cell 8; have qf8 := B8.frozen 8; simp at q8)
  have hgn8 : w.heap.size ≠ w.heap.size + 1 := by omega
  have ho8b := own_base ho8 hsU8
  have gs8 := grown_set w8 w.heap.size 8 (.slice ma1 T.length mc1)
  have B8s := B8.set 8 (.slice ma1 T.length mc1)
  simp only [List.setIfInBounds_toArray, List.set_cons_zero, List.set_cons_succ] at B8s
  have R8 := ((unhide HR).below hb8).kept gs8 (by simp)
  have U8 : Below w.heap.size w (w8.setCell ⟨w.heap.size, 8, none⟩ (.slice ma1 T.length mc1)) := ((unhide HU).trans (hb8.mono hsU8)).setCell (p := ⟨w.heap.size, 8, none⟩) (Nat.le_refl _) _
  have O8 := hide (ins_kept ho8b gs8 (fun b e => by cases e; exact own_type (cs := []) ho8b B8 (by decide)))
  have O5 := hide (ins_kept (ins_kept (unhide O5) (grown_of_below hb8 none) (fun _ e => by cases e)) gs8 (fun b e => by cases e; exact own_type (cs := []) (ins_kept (unhide O5) (grown_of_below hb8 none) (fun _ e => by cases e)) B8 (by decide)))
  have O6 := hide (ins_kept (ins_kept (unhide O6) (grown_of_below hb8 none) (fun _ e => by cases e)) gs8 (fun b e => by cases e; exact own_type (cs := []) (ins_kept (unhide O6) (grown_of_below hb8 none) (fun _ e => by cases e)) B8 (by decide)))
  have O7 := hide (ins_kept (ins_kept (unhide O7) (grown_of_below hb8 none) (fun _ e => by cases e)) gs8 (fun b e => by cases e; exact own_type (cs := []) (ins_kept (unhide O7) (grown_of_below hb8 none) (fun _ e => by cases e)) B8 (by decide)))
  have HB := hide B8s
  have HR := hide R8
  have HU := hide U8
  generalize hwg8 : w8.setCell ⟨w.heap.size, 8, none⟩ (.slice ma1 T.length mc1) = y8 at *
  clear hwg8 k8 hF8 hsU8 B8 q8 qf8 ho8 ho8b gs8 B8s R8 U8 hb8

  have HAn : Hid (An w y8 c (.slice pa1 c.pool.length pc1) (.slice ia1 c.ifaces.length ic1) (.slice fa1 c.fields.length fc1) (.slice ma1 T.length mc1) T T 0) := ⟨unhide HB, unhide HR, unhide O5, unhide O6, unhide O7, unhide O8, fun j hj => by omega, fun j _ => rfl, unhide HTe, unhide HU⟩
  have k8 := (unhide HB).cell 8
  simp at k8
  clear HB HR HU O5 O6 O7 O8 HFm
  go_wp2_with fail
  clear k8
  go_loopw [23] (fun i wr => ∃ (k : Nat) (Tk : List (Mi × Option Addr × Nat)), k ≤ T.length ∧ i = .int .i64 k ∧ Hid (Tk.length = T.length) ∧ Hid (An w wr c (.slice pa1 c.pool.length pc1) (.slice ia1 c.ifaces.length ic1) (.slice fa1 c.fields.length fc1) (.slice ma1 T.length mc1) T Tk k)) (fun i _ => T.length - (intOf i).toNat)
  case atStart => exact ⟨0, T, Nat.zero_le _, rfl, rfl, unhide HAn⟩
  case round =>
    clear HAn
    obtain ⟨k, Tk, hk, rfl, HTl, HAr⟩ := hrel
    by_cases hlt : k < T.length
    · have ki : (k : Int) < (T.length : Int) := by omega
      have hkT : k < Tk.length := by rw [unhide HTl]; exact hlt
      obtain ⟨x, hxk⟩ : ∃ x, Tk[k]? = some x := ⟨_, List.getElem?_eq_getElem hkT⟩
      have hxT : T[k]? = some x := by rw [← (unhide HAr).r k (Nat.le_refl _)]; exact hxk
      have hxl := unhide Hhl x (List.mem_of_getElem? hxT)
      have hAr := unhide HAr
      rw [← unhide HTl] at hAr
      obtain ⟨g, eg⟩ := own_adr (B := w.heap.size) hAr.m (by omega)
      subst eg
      have HAd : Hid (An w wr.drew c (.slice pa1 c.pool.length pc1) (.slice ia1 c.ifaces.length ic1) (.slice fa1 c.fields.length fc1) (.slice (some ⟨g, 0, none⟩) Tk.length mc1) T Tk k) := ⟨hAr.cb, hAr.rb, ⟨hAr.p.1, hAr.p.2⟩, ⟨hAr.i.1, hAr.i.2⟩, ⟨hAr.f.1, hAr.f.2⟩, ⟨hAr.m.1, hAr.m.2⟩, fun j hj y hy => ⟨(hAr.h j hj y hy).1, (hAr.h j hj y hy).2⟩, hAr.r, hAr.e, hAr.u.drew⟩
      have hc7 : wr.drew.cell? ⟨g, k * 9 + 7, none⟩ = some (.slice x.2.1 x.1.code.handlers.length x.2.2) := by
        have e1 := flat_at Mc 9 Mc_len Mz Tk k 7 hkT (by decide)
        have e2 : Tk.getD k Mz = x := by simp [List.getD, hxk]
        rw [e2] at e1
        have e3 : (Mc x)[7]? = some (.slice x.2.1 x.1.code.handlers.length x.2.2) := rfl
        have := (unhide HAd).m.cells (g := g) rfl (k * 9 + 7) _ (e1.trans e3)
        rw [Addr.add_lit, Nat.zero_add] at this
        exact this
      have cd7 := hc7
      have hFH : FIn Hi.cells 4 Hi.zero wr.drew (.slice x.2.1 x.1.code.handlers.length x.2.2) x.1.code.handlers := FIn.below Hi.len (unhide HTh k x hxT) (unhide HAd).u
      have hszr : w.heap.size ≤ wr.drew.heap.size := (unhide HAd).u.size
      have h8 : wr.drew.cell? ⟨w.heap.size, 8, none⟩ = some (.slice (some ⟨g, 0, none⟩) Tk.length mc1) := (unhide HAd).cb.cell 8
      have kiT : (k : Int) < (Tk.length : Int) := by omega
      rw [← unhide HTl] at ki
      have HTl2 := HTl
      clear hAr HAr
      go_wp2_with fail
      refine wp_region_held_drew (S := fun X => X.cell? ⟨w.heap.size, 8, none⟩ = some (.slice (some ⟨g, 0, none⟩) Tk.length mc1)) (by kernel_rfl) h8 (fun hHeld => ?_)
      refine wpAnyH_take (i := 0) (oi := _) (v := ?_) rfl (by kernel_rfl) (by kernel_rfl) (by kernel_rfl) (fun _ _ _ h => h) (Or.inl ⟨by rfl, ?_⟩) (by assumption) ?_
      rotate_left
      · intro X hX
        go_simp
        try rfl
      try simp only [Act.put, List.getElem_toArray, List.getElem_cons_zero, List.getElem_cons_succ, List.setIfInBounds_toArray, List.set_cons_zero, List.set_cons_succ]
      refine wpAnyH_take (i := 1) (oi := _) (v := ?_) rfl (by kernel_rfl) (by kernel_rfl) (by kernel_rfl) (fun _ _ _ h => h) (Or.inl ⟨by rfl, ?_⟩) (by assumption) ?_
      rotate_left
      · intro X hX
        have q8 := hX
        go_simp
        try rfl
      try simp only [Act.put, List.getElem_toArray, List.getElem_cons_zero, List.getElem_cons_succ, List.setIfInBounds_toArray, List.set_cons_zero, List.set_cons_succ]
      refine wpAnyH_take (i := 2) (oi := _) (v := ?_) rfl (by kernel_rfl) (by kernel_rfl) (by kernel_rfl) (fun _ _ _ h => h) (Or.inl ⟨by rfl, ?_⟩) (by assumption) ?_
      rotate_left
      · intro X hX
        go_simp
        try rfl
      try simp only [Act.put, List.getElem_toArray, List.getElem_cons_zero, List.getElem_cons_succ, List.setIfInBounds_toArray, List.set_cons_zero, List.set_cons_succ]
      refine wpAnyH_take (i := 3) (oi := _) (v := ?_) rfl (by kernel_rfl) (by kernel_rfl) (by kernel_rfl) (fun _ _ _ h => h) (Or.inl ⟨by rfl, ?_⟩) (by assumption) ?_
      rotate_left
      · intro X hX
        go_simp
        try rfl
      try simp only [Act.put, List.getElem_toArray, List.getElem_cons_zero, List.getElem_cons_succ, List.setIfInBounds_toArray, List.set_cons_zero, List.set_cons_succ]
      refine wpAnyH_take (i := 4) (oi := _) (v := ?_) rfl (by kernel_rfl) (by kernel_rfl) (by kernel_rfl) (fun _ _ _ h => h) (Or.inl ⟨by rfl, ?_⟩) (by assumption) ?_
      rotate_left
      · intro X hX
        have q8 := hX
        go_simp
        try rfl
      try simp only [Act.put, List.getElem_toArray, List.getElem_cons_zero, List.getElem_cons_succ, List.setIfInBounds_toArray, List.set_cons_zero, List.set_cons_succ]
      refine wpAnyH_take (i := 5) (oi := _) (v := ?_) rfl (by kernel_rfl) (by kernel_rfl) (by kernel_rfl) (fun _ _ _ h => h) (Or.inl ⟨by rfl, ?_⟩) (by assumption) ?_
      rotate_left
      · intro X hX
        go_simp
        try rfl
      try simp only [Act.put, List.getElem_toArray, List.getElem_cons_zero, List.getElem_cons_succ, List.setIfInBounds_toArray, List.set_cons_zero, List.set_cons_succ]
      refine wpAnyH_take (i := 6) (oi := _) (v := ?_) rfl (by kernel_rfl) (by kernel_rfl) (by kernel_rfl) (fun _ _ _ h => h) (Or.inl ⟨by rfl, ?_⟩) (by assumption) ?_
      rotate_left
      · intro X hX
        go_simp
        try rfl
      try simp only [Act.put, List.getElem_toArray, List.getElem_cons_zero, List.getElem_cons_succ, List.setIfInBounds_toArray, List.set_cons_zero, List.set_cons_succ]
      refine wpAnyH_take (i := 7) (oi := _) (v := ?_) rfl (by kernel_rfl) (by kernel_rfl) (by kernel_rfl) (fun _ _ _ h => h) (Or.inl ⟨by rfl, ?_⟩) (by assumption) ?_
      rotate_left
      · intro X hX
        go_simp
        try rfl
      try simp only [Act.put, List.getElem_toArray, List.getElem_cons_zero, List.getElem_cons_succ, List.setIfInBounds_toArray, List.set_cons_zero, List.set_cons_succ]
      refine wpAnyH_take (i := 8) (oi := _) (v := ?_) rfl (by kernel_rfl) (by kernel_rfl) (by kernel_rfl) (fun _ _ _ h => h) (Or.inl ⟨by rfl, ?_⟩) (by assumption) ?_
      rotate_left
      · intro X hX
        go_simp
        try rfl
      try simp only [Act.put, List.getElem_toArray, List.getElem_cons_zero, List.getElem_cons_succ, List.setIfInBounds_toArray, List.set_cons_zero, List.set_cons_succ]
      refine wpAnyH_ready (rs := [9]) (by kernel_rfl) (by simp) ?_
      refine AllReadyH.cons (o := _) rfl (fun K hK => ?_) AllReadyH.nil
      go_simp
      refine hK.out _ _ hHeld (fun hHeld => ?_)
      clear hK K
      try simp only [Act.put, List.getElem_toArray, List.getElem_cons_zero, List.getElem_cons_succ, List.setIfInBounds_toArray, List.set_cons_zero, List.set_cons_succ]
      refine wpAnyH_ready (rs := [10]) (by kernel_rfl) (by simp) ?_
      refine AllReadyH.cons (o := _) rfl (fun K hK => ?_) AllReadyH.nil
      rw [if_pos (by rfl)]
      refine oper_copyF Hi.cells 4 Hi.zero 39 98 _ _ Tryz.underlying39 infoH rfl (by decide) Hi.len one_H (.const (.slice none 0 0)) (.tmp 35) rfl _ x.1.code.handlers rfl rfl hFH (by omega) (by decide) ?_
      intro v9 w9 ho9 hb9
      obtain ⟨ha9, hc9, e9⟩ := own_slice ho9
      subst e9
      have hA9 := (unhide HAd).below hb9
      have s9 : w9.cell? ⟨w9.heap.size, 0, none⟩ = w9.cell? ⟨w9.heap.size, 0, none⟩ := rfl
      have t9 : w9.cell? ⟨g, k * 9 + 7, none⟩ = some (.slice x.2.1 x.1.code.handlers.length x.2.2) := by rw [hb9.cell (cell_lt cd7)]; exact cd7
      have tf9 := own_frozen hA9.m (k * 9 + 7)
      have h8' : w9.cell? ⟨w.heap.size, 8, none⟩ = some (.slice (some ⟨g, 0, none⟩) Tk.length mc1) := hA9.cb.cell 8
      refine hK.out _ _ h8' (fun hHeld => ?_)
      clear hK K s9
      try simp only [Act.put, List.getElem_toArray, List.getElem_cons_zero, List.getElem_cons_succ, List.setIfInBounds_toArray, List.set_cons_zero, List.set_cons_succ]
      refine wpAnyH_take (i := 11) (oi := _) (v := ?_) rfl (by kernel_rfl) (by kernel_rfl) (by kernel_rfl) (fun _ _ _ h => h) (Or.inl ⟨by rfl, ?_⟩) (by assumption) ?_
      rotate_left
      · intro X hX
        go_simp
        try rfl
      try simp only [Act.put, List.getElem_toArray, List.getElem_cons_zero, List.getElem_cons_succ, List.setIfInBounds_toArray, List.set_cons_zero, List.set_cons_succ]
      refine wpAnyH_take (i := 12) (oi := _) (v := ?_) rfl (by kernel_rfl) (by kernel_rfl) (by kernel_rfl) (fun _ _ _ h => h) (Or.inl ⟨by rfl, ?_⟩) (by assumption) ?_
      rotate_left
      · intro X hX
        go_simp
        try rfl
      try simp only [Act.put, List.getElem_toArray, List.getElem_cons_zero, List.getElem_cons_succ, List.setIfInBounds_toArray, List.set_cons_zero, List.set_cons_succ]
      refine wpAnyH_take (i := 13) (oi := _) (v := ?_) rfl (by kernel_rfl) (by kernel_rfl) (by kernel_rfl) (fun _ _ _ h => h) (Or.inl ⟨by rfl, ?_⟩) (by assumption) ?_
      rotate_left
      · intro X hX
        go_simp
        try rfl
      try simp only [Act.put, List.getElem_toArray, List.getElem_cons_zero, List.getElem_cons_succ, List.setIfInBounds_toArray, List.set_cons_zero, List.set_cons_succ]
      refine wpAnyH_ready (rs := [14]) (by kernel_rfl) (by simp) ?_
      refine AllReadyH.cons (o := _) rfl (fun K hK => ?_) AllReadyH.nil
      go_simp
      have hAs := hA9.step hkT hxk (own_base ho9 hszr)
      refine hK.out _ _ (by have := hAs.cb.cell 8; rw [List.length_set] at this; exact this) (fun hHeld => ?_)
      clear hK K
      try simp only [Act.put, List.getElem_toArray, List.getElem_cons_zero, List.getElem_cons_succ, List.setIfInBounds_toArray, List.set_cons_zero, List.set_cons_succ]
      refine wpAnyH_done (by kernel_rfl) ?_ _

      have HAs : Hid (An w (w9.setCell ⟨g, k * 9 + 7, none⟩ (.slice ha9 x.1.code.handlers.length hc9)) c (.slice pa1 c.pool.length pc1) (.slice ia1 c.ifaces.length ic1) (.slice fa1 c.fields.length fc1) (.slice (some ⟨g, 0, none⟩) T.length mc1) T (Tk.set k (x.1, ha9, hc9)) (k + 1)) := by
        have h1 := hAs
        rw [List.length_set, unhide HTl2] at h1
        exact h1
      have HTl3 : Hid ((Tk.set k (x.1, ha9, hc9)).length = T.length) := by unfold Hid; rw [List.length_set]; exact unhide HTl2
      clear hAs hA9 ho9 hb9 t9 tf9 h8' hFH cd7 hc7 h8 HAd
      go_wp2
      go_roundw
      case rel => exact ⟨k + 1, Tk.set k (x.1, ha9, hc9), by omega, by go_num, HTl3, HAs⟩
      case measure => simp [intOf]; omega
    · have hkl : k = T.length := by omega
      subst hkl
      have ki : ¬ ((T.length : Nat) : Int) < ((T.length : Nat) : Int) := by omega
      have hA := unhide HAr
      have a0 := hA.cb.cell 0
      have z0 := hA.rb.cell 0
      have y0 := hA.rb.frozen 0
      have a1 := hA.cb.cell 1
      have z1 := hA.rb.cell 1
      have y1 := hA.rb.frozen 1
      have a2 := hA.cb.cell 2
      have z2 := hA.rb.cell 2
      have y2 := hA.rb.frozen 2
      have a3 := hA.cb.cell 3
      have z3 := hA.rb.cell 3
      have y3 := hA.rb.frozen 3
      have a4 := hA.cb.cell 4
      have z4 := hA.rb.cell 4
      have y4 := hA.rb.frozen 4
      have a5 := hA.cb.cell 5
      have z5 := hA.rb.cell 5
      have y5 := hA.rb.frozen 5
      have a6 := hA.cb.cell 6
      have z6 := hA.rb.cell 6
      have y6 := hA.rb.frozen 6
      have a7 := hA.cb.cell 7
      have z7 := hA.rb.cell 7
      have y7 := hA.rb.frozen 7
      have a8 := hA.cb.cell 8
      have z8 := hA.rb.cell 8
      have y8 := hA.rb.frozen 8
      simp at a0 z0 a1 z1 a2 z2 a3 z3 a4 z4 a5 z5 a6 z6 a7 z7 a8 z8
      have t0 := hA.rb.set 0 (.int .u16 (c.minor : Int))
      have t1 := t0.set 1 (.int .u16 (c.major : Int))
      have t2 := t1.set 2 (.int .u16 (c.flags : Int))
      have t3 := t2.set 3 (.int .u16 (c.this : Int))
      have t4 := t3.set 4 (.int .u16 (c.super : Int))
      have t5 := t4.set 5 ((.slice pa1 c.pool.length pc1))
      have t6 := t5.set 6 ((.slice ia1 c.ifaces.length ic1))
      have t7 := t6.set 7 ((.slice fa1 c.fields.length fc1))
      have t8 := t7.set 8 ((.slice ma1 T.length mc1))
      simp only [List.setIfInBounds_toArray, List.set_cons_zero, List.set_cons_succ] at t8
      have hbe : Below w.heap.size w (((((((((wr.setCell ⟨w.heap.size + 1, 0, none⟩ (.int .u16 (c.minor : Int))).setCell ⟨w.heap.size + 1, 1, none⟩ (.int .u16 (c.major : Int))).setCell ⟨w.heap.size + 1, 2, none⟩ (.int .u16 (c.flags : Int))).setCell ⟨w.heap.size + 1, 3, none⟩ (.int .u16 (c.this : Int))).setCell ⟨w.heap.size + 1, 4, none⟩ (.int .u16 (c.super : Int))).setCell ⟨w.heap.size + 1, 5, none⟩ ((.slice pa1 c.pool.length pc1))).setCell ⟨w.heap.size + 1, 6, none⟩ ((.slice ia1 c.ifaces.length ic1))).setCell ⟨w.heap.size + 1, 7, none⟩ ((.slice fa1 c.fields.length fc1))).setCell ⟨w.heap.size + 1, 8, none⟩ ((.slice ma1 T.length mc1))) := (((((((((hA.u.setCell (p := ⟨w.heap.size + 1, 0, none⟩) (Nat.le_succ _) _).setCell (p := ⟨w.heap.size + 1, 1, none⟩) (Nat.le_succ _) _).setCell (p := ⟨w.heap.size + 1, 2, none⟩) (Nat.le_succ _) _).setCell (p := ⟨w.heap.size + 1, 3, none⟩) (Nat.le_succ _) _).setCell (p := ⟨w.heap.size + 1, 4, none⟩) (Nat.le_succ _) _).setCell (p := ⟨w.heap.size + 1, 5, none⟩) (Nat.le_succ _) _).setCell (p := ⟨w.heap.size + 1, 6, none⟩) (Nat.le_succ _) _).setCell (p := ⟨w.heap.size + 1, 7, none⟩) (Nat.le_succ _) _).setCell (p := ⟨w.heap.size + 1, 8, none⟩) (Nat.le_succ _) _)
      have hcin : Cin (((((((((wr.setCell ⟨w.heap.size + 1, 0, none⟩ (.int .u16 (c.minor : Int))).setCell ⟨w.heap.size + 1, 1, none⟩ (.int .u16 (c.major : Int))).setCell ⟨w.heap.size + 1, 2, none⟩ (.int .u16 (c.flags : Int))).setCell ⟨w.heap.size + 1, 3, none⟩ (.int .u16 (c.this : Int))).setCell ⟨w.heap.size + 1, 4, none⟩ (.int .u16 (c.super : Int))).setCell ⟨w.heap.size + 1, 5, none⟩ ((.slice pa1 c.pool.length pc1))).setCell ⟨w.heap.size + 1, 6, none⟩ ((.slice ia1 c.ifaces.length ic1))).setCell ⟨w.heap.size + 1, 7, none⟩ ((.slice fa1 c.fields.length fc1))).setCell ⟨w.heap.size + 1, 8, none⟩ ((.slice ma1 T.length mc1))) c (.slice pa1 c.pool.length pc1) (.slice ia1 c.ifaces.length ic1) (.slice fa1 c.fields.length fc1) (.slice ma1 T.length mc1) (Tk.map mvOf) := by
        have gr : ∀ {e z m : Nat} {v : Value} {xs : List Value}, e ≠ 28 → wr.ownsRow w.heap.size e z v m xs → (((((((((wr.setCell ⟨w.heap.size + 1, 0, none⟩ (.int .u16 (c.minor : Int))).setCell ⟨w.heap.size + 1, 1, none⟩ (.int .u16 (c.major : Int))).setCell ⟨w.heap.size + 1, 2, none⟩ (.int .u16 (c.flags : Int))).setCell ⟨w.heap.size + 1, 3, none⟩ (.int .u16 (c.this : Int))).setCell ⟨w.heap.size + 1, 4, none⟩ (.int .u16 (c.super : Int))).setCell ⟨w.heap.size + 1, 5, none⟩ ((.slice pa1 c.pool.length pc1))).setCell ⟨w.heap.size + 1, 6, none⟩ ((.slice ia1 c.ifaces.length ic1))).setCell ⟨w.heap.size + 1, 7, none⟩ ((.slice fa1 c.fields.length fc1))).setCell ⟨w.heap.size + 1, 8, none⟩ ((.slice ma1 T.length mc1))).ownsRow w.heap.size e z v m xs := fun {e z m v xs} he ho => by
          have h1 : ∀ (y : World) (q : Nat) (u : Value), (∃ cs, Bk y (w.heap.size + 1) cs 28) → y.ownsRow w.heap.size e z v m xs → (y.setCell ⟨w.heap.size + 1, q, none⟩ u).ownsRow w.heap.size e z v m xs ∧ ∃ cs, Bk (y.setCell ⟨w.heap.size + 1, q, none⟩ u) (w.heap.size + 1) cs 28 := fun y q u hb ho => by
            obtain ⟨cs, hb⟩ := hb
            exact ⟨ins_kept ho (grown_set y (w.heap.size + 1) q u) (fun b e => by cases e; exact own_type (cs := []) ho hb he), _, hb.set q u⟩
          obtain ⟨o0, p0⟩ := h1 _ 0 _ ⟨_, hA.rb⟩ ho
          obtain ⟨o1, p1⟩ := h1 _ 1 _ p0 o0
          obtain ⟨o2, p2⟩ := h1 _ 2 _ p1 o1
          obtain ⟨o3, p3⟩ := h1 _ 3 _ p2 o2
          obtain ⟨o4, p4⟩ := h1 _ 4 _ p3 o3
          obtain ⟨o5, p5⟩ := h1 _ 5 _ p4 o4
          obtain ⟨o6, p6⟩ := h1 _ 6 _ p5 o5
          obtain ⟨o7, p7⟩ := h1 _ 7 _ p6 o6
          exact (h1 _ 8 _ p7 o7).1
        have hMr := FIn.of_row (d := Mz) Mc_len (gr (by decide) hA.m)
        refine ⟨KIn_of (unhide Hfit) (FIn.of_row Kc_len (gr (by decide) hA.p)), FIn.of_row Uc_len (gr (by decide) hA.i), FIn.of_row Fc_len (gr (by decide) hA.f), ?_, fun j hj => ?_, ?_⟩
        · obtain ⟨ad, cap, e, h1⟩ := hMr
          refine ⟨ad, cap, by rw [List.length_map]; exact e, fun hne => ?_⟩
          obtain ⟨b, o, e1, h2⟩ := h1 (by intro q; rw [q] at hne; exact hne rfl)
          refine ⟨b, o, e1, fun q hq i hi => ?_⟩
          have hq' : q < Tk.length := by simpa using hq
          rw [h2 q hq' i hi]
          have e2 : (Tk.map mvOf).getD q Mv.zero = mvOf (Tk.getD q Mz) := by simp [List.getD, List.getElem?_eq_getElem hq']
          rw [e2]
          rfl
        · obtain ⟨y, hy, rfl⟩ := List.mem_map.1 hj
          obtain ⟨q, hq⟩ := List.getElem?_of_mem hy
          have hqT : q < T.length := by rw [← unhide HTl]; exact (List.getElem?_eq_some_iff.1 hq).1
          exact FIn.of_row Hi.len (gr (by decide) (hA.h q hqT y hq))
        · rw [List.map_map, ← hA.e]; rfl
      have hcap := hide (And.intro (cap_of hA.i) (And.intro (cap_of hA.f) (cap_of hA.m)))
      have T8 := hide t8
      have Hbe := hide hbe
      have Hcin := hide hcin
      clear t0 t1 t2 t3 t4 t5 t6 t7 t8 hbe hcin hA
      go_wp2
      refine bodyPost_ret (results_cell_row Tryz.results5 _ _ (w.heap.size + 1) 28 _ (0, 0) _ rfl (unhide T8) Tryz.underlying28 rfl (by kernel_rfl)) rfl ?_
      exact ⟨_, _, _, _, rfl, ⟨_, unhide Hcin⟩, unhide Hbe, unhide hcap⟩

end Go.Proofs.YtddhlphbbiihjaaGreatDoor.Cl
