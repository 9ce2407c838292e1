/-
  ClassChecks: the program's set of names; nothing of no tags; slots.
  ClassChecks: the program looks at a constant: nameType.
-/
import Derived.Test.YtddhlphbbiihjaaGreatDoorEe
import Derived.Test.YtddhlphbbiihjaaGreatDoorMgCn
set_option linter.unusedVariables false
set_option linter.unusedSimpArgs false
namespace Go.Proofs.YtddhlphbbiihjaaGreatDoor.Cl
open Go.RowKit Go.Maps Kn
theorem laid_out : laidOutB Tryz.prog = true := by kernel_rfl
theorem law75 : Keyed Tryz.prog 75 := Keyed.of_law (deep_law_laid laid_out (m := 2) (by omega) (of_decide_eq_true (by kernel_rfl)) (by kernel_rfl) (by kernel_rfl))
def keyL (x : List UInt8 × List UInt8) : Lit := .string (keyBytes [.string x.1, .string x.2])
theorem key_sg (a b : List UInt8) (ha : a.length ≤ 32768) (hb : b.length ≤ 32768) : keyOf Tryz.prog 75 (sgv a b) = some (keyL (a, b)) := by
  obtain ⟨m, hm⟩ : ∃ m, Tryz.prog.types.size = m + 1 := ⟨214, by kernel_rfl⟩
  have hkt : Tryz.prog.keyType 75 = true := by kernel_rfl
  have c75 : Tryz.prog.cellsOf 75 = 2 := by kernel_rfl
  have c9 : Tryz.prog.cellsOf 9 = 1 := by kernel_rfl
  have u9 : Tryz.prog.underlying 9 = some .string := by kernel_rfl
  have u75 : Tryz.prog.underlying 75 = some (.array 2 9) := Tryz.underlying75
  have sa : (⟨a.toArray⟩ : ByteArray).size ≤ maxLen := by rw [sz_of]; unfold maxLen; omega
  have sb : (⟨b.toArray⟩ : ByteArray).size ≤ maxLen := by rw [sz_of]; unfold maxLen; omega
  unfold keyOf sgv
  simp only [u75]
  rw [if_pos (by simp [hkt, Value.formed, u75, c75]), hm]
  unfold Program.keyLits
  simp only [u75, Value.cells]
  rw [if_pos (by rw [c75]; rfl), show List.range 2 = [0, 1] from rfl, List.mapM_cons, List.mapM_cons, List.mapM_nil]
  simp [c9, Program.keyLits, u9, sa, sb, keyL]
theorem keyL_inj (x y : List UInt8 × List UInt8) (hx : x.1.length ≤ 32768 ∧ x.2.length ≤ 32768) (hy : y.1.length ≤ 32768 ∧ y.2.length ≤ 32768) (h : keyL x = keyL y) : x = y := by
  have h1 := key_sg x.1 x.2 hx.1 hx.2
  have h2 := key_sg y.1 y.2 hy.1 hy.2
  rw [show ((x.1, x.2) : List UInt8 × List UInt8) = x from rfl, h] at h1
  have h3 := keyOf_inj_deep (P := Tryz.prog) (m := 2) (k := 75) (by kernel_rfl) (by kernel_rfl) h1 h2
  unfold sgv at h3
  simp only [Value.agg.injEq, Array.mk.injEq, List.cons.injEq, Value.string.injEq, ByteArray.mk.injEq, and_true] at h3
  have q1 : x.1 = y.1 := h3.1
  have q2 : x.2 = y.2 := h3.2
  exact Prod.ext q1 q2
/-- The set of names holds these. -/
structure Told (w : World) (mb : Nat) (ks : List (List UInt8 × List UInt8)) : Prop where
  own : w.ownsMap Tryz.prog 75 (unitElem (H := Unit)) mb ks.length (setOf (.agg []) (ks.map keyL))
  fit : ∀ x ∈ ks, x.1.length ≤ 32768 ∧ x.2.length ≤ 32768
theorem Told.below {w w' : World} {mb : Nat} {ks : List (List UInt8 × List UInt8)} (h : Told w mb ks) (hb : Below w.heap.size w w') : Told w' mb ks :=
  ⟨h.own.kept (grown_of_below hb none) (by simp), h.fit⟩
theorem Told.made (w : World) : Told (w.alloc (.map #[] 0)) w.heap.size [] := ⟨World.ownsMap_made w _ _ _, fun x hx => by cases hx⟩
theorem Told.lt {w : World} {mb : Nat} {ks : List (List UInt8 × List UInt8)} (h : Told w mb ks) : mb < w.heap.size := h.own.lt
/-- No cell lies in the set's block. -/
theorem Told.ne {w : World} {mb : Nat} {ks : List (List UInt8 × List UInt8)} (h : Told w mb ks) {a : Addr} {v : Value} (hc : w.cell? a = some v) : a.block ≠ mb := by
  intro e
  obtain ⟨es, c, hb, _⟩ := h.own
  unfold World.cell? at hc
  rw [e, hb] at hc
  cases hc
theorem Told.has {w : World} {mb : Nat} {ks : List (List UInt8 × List UInt8)} (h : Told w mb ks) (x : List UInt8 × List UInt8) (hx : x.1.length ≤ 32768 ∧ x.2.length ≤ 32768) :
    Maps.has (setOf (H := Unit) (.agg []) (ks.map keyL)) (keyL x) = ks.contains x := by
  rw [has_setOf _ _ _ (fun y hy => by obtain ⟨j, _, rfl⟩ := List.mem_map.1 hy; trivial), List.any_map, Bool.eq_iff_iff, List.any_eq_true, List.contains_iff_mem]
  constructor
  · rintro ⟨y, hy, he⟩
    have : keyL y = keyL x := (WideAt.sameKey_iff (b := keyL x) trivial).1 he
    rw [← keyL_inj y x (h.fit y hy) hx this]; exact hy
  · intro hm
    exact ⟨x, hm, (WideAt.sameKey_iff (b := keyL x) trivial).2 rfl⟩
/-- What names.add leaves. -/
def toldOf (ks : List (List UInt8 × List UInt8)) (x : List UInt8 × List UInt8) : List (List UInt8 × List UInt8) := if ks.contains x then ks else ks ++ [x]
theorem zero102c (w : World) : (zeroValue 102).run Tryz.prog w = .ok (.agg #[]) w := by kernel_rfl
theorem bx_grown {mb : Nat} {w w' : World} (h : w.grownBy w' (some mb)) : Ck.Bx mb w w' := by
  obtain ⟨h1, h2, h3, h4, h5⟩ := h
  exact ⟨h1, h2, h3, h4, fun k hk hne => h5 k hk (fun e => hne (by cases e; rfl))⟩
set_option maxRecDepth 100000 in
set_option maxHeartbeats 4000000 in
theorem add_any (mb : Nat) (ks : List (List UInt8 × List UInt8)) (a b : List UInt8) (w : World) (hT : Told w mb ks) (hn : ks.length ≤ 100000) (ha : a.length ≤ 32768) (hb : b.length ≤ 32768) :
    Calls Tryz.prog 31 #[.map (some mb), sgv a b] w fun e w' => e = .returned (.bool (!ks.contains (a, b))) ∧ Told w' mb (toldOf ks (a, b)) ∧ Ck.Bx mb w w' := by
  have hkey := key_sg a b ha hb
  have hhas := hT.has (a, b) ⟨ha, hb⟩
  unfold sgv at hkey ⊢
  obtain ⟨w0, hw0⟩ : ∃ w0, w0 = w.alloc (.cells #[.string ⟨a.toArray⟩, .string ⟨b.toArray⟩] 75) := ⟨_, rfl⟩
  have hb0 : Below w.heap.size w w0 := by rw [hw0]; exact (Below.refl _ _).alloc (Nat.le_refl _) _
  have hk : Bk w0 w.heap.size #[.string ⟨a.toArray⟩, .string ⟨b.toArray⟩] 75 := by rw [hw0]; exact Bk.new _ _ _
  have hT0 := hT.below hb0
  have c0 := hk.cell 0
  have c1 := hk.cell 1
  simp at c0 c1
  obtain ⟨w1, hw1⟩ : ∃ w1, w1 = w0.alloc (.cells #[] 102) := ⟨_, rfl⟩
  have hb1 : Below w0.heap.size w0 w1 := by rw [hw1]; exact (Below.refl _ _).alloc (Nat.le_refl _) _
  have hT1 := hT0.below hb1
  have k1 := hk.below hb1
  have d0 := k1.cell 0
  have d1 := k1.cell 1
  simp at d0 d1
  have hz := zero102c
  have hown0 := hT0.own
  have hown1 := hT1.own
  have HB := hide (hb0.trans (hb1.mono hb0.size))
  have HT1 := hide hT1
  have Hfit := hide hT.fit
  clear hT hT0 hT1 hb0 hb1 hk k1
  subst hw1
  have hown0' := hide hown0
  have hown1' := hide hown1
  have Hkey := hide hkey
  clear hown0 hown1 hkey
  by_cases hc : ks.contains (a, b) = true
  · rw [hc] at hhas
    have HC := hide hc
    have Hhas := hide hhas
    clear hhas
    rw [hc]
    go_enter Tryz.func31, Tryz.ntmps31
    go_upto_region 1 with fail
    rw [← hw0]
    clear hw0 hc
    go_wp2_with (first | (at_lookup; refine wpList_lookup_own_unit _ rfl _ _ 50 rfl 75 102 law75 Tryz.underlying50 (zero102c _) mb ks.length _ rfl (unhide hown0') _ _ rfl (unhide Hkey) ?_; rw [unhide Hhas]) | fail)
    go_ret
    exact ⟨rfl, by unfold toldOf; rw [if_pos (unhide HC)]; exact unhide HT1, Ck.Bx.of (unhide HB)⟩
  · have hc' : ks.contains (a, b) = false := by simpa using hc
    rw [hc'] at hhas ⊢
    have HC := hide hc
    have Hhas := hide hhas
    clear hhas hc'
    go_enter Tryz.func31, Tryz.ntmps31
    go_upto_region 1 with fail
    rw [← hw0]
    clear hw0 hc
    go_wp2_with (first | (at_lookup; refine wpList_lookup_own_unit _ rfl _ _ 50 rfl 75 102 law75 Tryz.underlying50 (zero102c _) mb ks.length _ rfl (unhide hown0') _ _ rfl (unhide Hkey) ?_; rw [unhide Hhas]) | (at_mapUpdate; refine wpList_mapUpdate_own _ rfl _ _ _ 50 rfl 75 102 law75 Tryz.underlying50 (unitElem (H := Unit)) mb ks.length _ rfl (unhide hown1') (by unfold maxLen; omega) _ _ _ rfl rfl (unhide Hkey) _ [] unitElem_mk ?_; intro w2 hown2 hgrow2) | go_in)
    go_ret
    refine ⟨rfl, ⟨?_, ?_⟩, (Ck.Bx.of (unhide HB)).trans (bx_grown hgrow2)⟩
    · unfold toldOf
      rw [if_neg (unhide HC), List.length_append, List.map_append, List.map_cons, List.map_nil, setOf_snoc]
      exact hown2
    · unfold toldOf
      rw [if_neg (unhide HC)]
      intro x hx
      rcases List.mem_append.1 hx with h | h
      · exact unhide Hfit x h
      · rw [List.mem_singleton.1 h]; exact ⟨ha, hb⟩
set_option maxHeartbeats 1000000 in
theorem SIndex_nil (t : Nat) (w : World) : Calls Tryz.prog 79 #[.slice none 0 0, .int .u8 (t : Int)] w fun e w' => e = .returned (.int .i64 (-1)) ∧ w' = w := by
  go_enter Tryz.func79, Tryz.ntmps79
  go_wp2_with fail
  refine wp_loop_rounds 1 ?_
  rw [rounds_succ]
  go_wp2
  go_ret
  exact ⟨rfl, rfl⟩
set_option maxHeartbeats 1000000 in
theorem SContains_nil (t : Nat) (w : World) : Calls Tryz.prog 57 #[.slice none 0 0, .int .u8 (t : Int)] w fun e w' => e = .returned (.bool false) ∧ w' = w := by
  have HI := hide (SIndex_nil t w)
  go_enter Tryz.func57, Tryz.ntmps57
  go_wp2_with fail
  refine (unhide HI).mono ?_
  rintro e w1 ⟨rfl, rfl⟩
  go_wp2
  go_ret
  exact ⟨rfl, rfl⟩
set_option maxHeartbeats 1000000 in
theorem Has_nil (v : Value) (P : List K) (i : Int) (w : World) (h : KIn w v P) (hP : P.length ≤ 1048576) :
    Calls Tryz.prog 21 #[v, .int .i64 i, .slice none 0 0] w fun e w' => e = .returned (.bool false) ∧ Below w.heap.size w w' := by
  have HA := hide (KAt_any v P i w h hP)
  generalize M.kAt P i = c at *
  have HC := hide (fun (w1 : World) => SContains_nil c.tag w1)
  clear h
  go_enter Tryz.func21, Tryz.ntmps21
  go_wp2_with fail
  refine (unhide HA).mono ?_
  rintro e w1 ⟨rfl, hb1⟩
  clear HA
  unfold K.val K.cells
  have hfd := fldTag c
  go_wp2_with fail
  refine (unhide HC _).mono ?_
  rintro e w2 ⟨rfl, hw⟩
  subst w2
  go_wp2
  go_ret
  exact ⟨rfl, hb1⟩
/-- The slots of what a method takes. -/
def mslots (b : List UInt8) : Nat := match W.meth b with
  | none => 0
  | some (L, _) => W.slotsN L
set_option maxRecDepth 100000 in
set_option maxHeartbeats 2000000 in
theorem slots_any (a b : List UInt8) (w : World) (hm : Mx w) (hb : b.length ≤ 32768) :
    Calls Tryz.prog 35 #[sgv a b] w fun e w' => e = .returned (.int .i64 (mslots b : Nat)) ∧ Below w.heap.size w w' := by
  obtain ⟨w0, hw0⟩ : ∃ w0, w0 = w.alloc (.cells #[.string ⟨a.toArray⟩, .string ⟨b.toArray⟩] 75) := ⟨_, rfl⟩
  have hb0 : Below w.heap.size w w0 := by rw [hw0]; exact (Below.refl _ _).alloc (Nat.le_refl _) _
  have hk : Bk w0 w.heap.size #[.string ⟨a.toArray⟩, .string ⟨b.toArray⟩] 75 := by rw [hw0]; exact Bk.new _ _ _
  have c1 := hk.cell 1
  simp at c1
  have hf1 := W.Method_any ⟨b.toArray⟩ w0 (hm.below hb0) (by rw [sz_of]; omega)
  rw [dt_of] at hf1
  have HF := hide hf1
  have HB := hide hb0
  clear hf1 hk hb0 hm
  generalize hr : mslots b = r
  have Hr := hide hr
  clear hr
  unfold sgv
  go_enter Tryz.func35, Tryz.ntmps35
  go_upto_region 1 with fail
  rw [← hw0]
  clear hw0
  go_wp2_with fail
  refine (unhide HF).mono ?_
  rintro e w2 ⟨hb2, hR⟩
  have HB2 := hide ((unhide HB).trans (hb2.mono (unhide HB).size))
  clear HF hb2 c1
  rcases hR with ⟨hn, rfl⟩ | ⟨L, g, v, hn, rfl, ho⟩
  · have hE : r = 0 := by rw [← unhide Hr]; unfold mslots; rw [hn]
    subst hE
    clear hn Hr
    go_wp2_with fail
    refine wp_loop_rounds 1 ?_
    rw [rounds_succ]
    go_wp2
    go_ret
    exact ⟨rfl, unhide HB2⟩
  · have hE : r = W.slotsN L := by rw [← unhide Hr]; unfold mslots; rw [hn]
    have hLl : L.length ≤ 1048576 := Nat.le_trans (Ck.meth_len hn) (by omega)
    subst hE
    clear hn Hr
    rcases W.Has.of_own ho with ⟨ta, tc, rfl, rfl⟩ | ⟨tg, tof, tc, rfl, htc⟩
    · clear ho
      go_wp2_with fail
      refine wp_loop_rounds 1 ?_
      rw [rounds_succ]
      go_wp2
      go_ret
      exact ⟨rfl, unhide HB2⟩
    · clear ho
      have Hcell := hide htc
      clear htc
      go_wp2_with fail
      go_loopw [6, 18] (fun s y wx => ∃ k : Nat, k ≤ L.length ∧ y = .int .i64 (k : Int) ∧ s = .int .i64 ((W.slotsN (L.take k) : Nat) : Int) ∧ wx = w2) (fun _ y _ => L.length - (intOf y).toNat)
      case atStart => exact ⟨0, Nat.zero_le _, rfl, rfl, rfl⟩
      case round =>
        obtain ⟨k, hk, rfl, rfl, rfl⟩ := hrel
        have hsl := W.slots_le (L.take k)
        rw [List.length_take] at hsl
        by_cases hlt : k < L.length
        · obtain ⟨l, hl1, hl2⟩ := W.SV_at hlt
          have hcell := (unhide Hcell k hlt).trans hl2
          have hst := W.slots_take hl1
          have hln := W.slotN_le l
          have HS := hide (fun w => W.Slots_any ⟨l.toArray⟩ w)
          rw [data_of] at HS
          have Hst := hide hst
          generalize W.slotsN (L.take k) = A at *
          generalize W.slotN l = D at *
          have hki : (k : Int) < (L.length : Int) := by omega
          have hA : A ≤ 2097152 := by omega
          clear hl1 hl2 hst hsl
          go_wp2_with fail
          refine (unhide HS _).mono ?_
          rintro e w' ⟨rfl, hww⟩
          subst w'
          go_wp2
          go_roundw
          case rel => exact ⟨k + 1, by omega, by simp, by rw [unhide Hst]; simp, trivial⟩
          case measure => simp [intOf]; omega
        · obtain rfl : k = L.length := by omega
          rw [List.take_length]
          clear hsl
          go_wp2
          go_ret
          exact ⟨rfl, unhide HB2⟩
end Go.Proofs.YtddhlphbbiihjaaGreatDoor.Cl
namespace Go.Proofs.YtddhlphbbiihjaaGreatDoor.Cl
open Go.RowKit Go.Maps Kn
/-- No text of a pool is long. -/
def Sml (P : List K) : Prop := ∀ c ∈ P, c.text.length ≤ 32768
theorem Sml.text {P : List K} (h : Sml P) (i : Int) : (M.text P i).length ≤ 32768 := by
  unfold M.text
  split
  · unfold M.kAt
    split
    · rename_i hi
      rw [getD_at _ _ (by omega)]
      exact h _ (List.getElem_mem _)
    · simp [K.zero]
  · simp
theorem Sml.cls {P : List K} (h : Sml P) (i : Int) : (M.cls P i).length ≤ 32768 := by
  unfold M.cls
  split
  · exact h.text _
  · simp
def ntE (P : List K) (c : K) : Nat :=
  if isT P c.a && isT P c.b then (if memB (M.text P c.a) false = 0 then 8 else if (W.meth (M.text P c.b)).isSome || fieldB (M.text P c.b) then 0 else 9) else 7
def refE (P : List K) (c : K) : Nat :=
  if M.tag P c.a = 7 ∧ M.tag P c.b = 12 ∧ (isT P (M.kAt P c.b).a && isT P (M.kAt P c.b).b) = true then
    (if c.tag = 9 then wfE (M.text P (M.kAt P c.b).a) (M.text P (M.kAt P c.b).b)
    else if M.text P (M.kAt P c.b).a = clinitB then 8
    else if c.tag = 11 ∧ M.text P (M.kAt P c.b).a = initB then 8
    else wmE (M.text P (M.kAt P c.b).a) (M.text P (M.kAt P c.b).b)) else 7
/-- What is wrong with a constant. -/
def conE (P : List K) (c : K) : Nat :=
  if c.tag = 7 then (if isT P c.a then (if classB (M.text P c.a) then 0 else 8) else 7)
  else if c.tag = 8 then (if isT P c.a then 0 else 7)
  else if c.tag = 12 then ntE P c
  else if c.tag = 9 ∨ c.tag = 10 ∨ c.tag = 11 then refE P c else 0
set_option maxHeartbeats 4000000 in
theorem nameType_any (cb fl : Nat) (pv : Value) (P : List K) (c : K) (w : World) (h : Kc w cb pv P fl) (hP : P.length ≤ 1048576) (hS : Sml P) (ha : c.a < 65536) (hb : c.b < 65536) :
    Calls Tryz.prog 22 #[.pointer (some ⟨cb, 0, none⟩), c.val] w fun e w' => e = .returned (.int .i64 (ntE P c : Nat)) ∧ Below w.heap.size w w' := by
  have hsg := fun (w1 : World) (hb1 : Below w.heap.size w w1) => signature_any cb fl c.a c.b pv P w1 (h.below hb1) hP ha hb
  have hme := fun (w1 : World) (hb1 : Below w.heap.size w w1) => Member_any ⟨(M.text P c.a).toArray⟩ false w1 (h.below hb1).mx (by rw [sz_of]; exact hS.text _)
  have hmt := fun (w1 : World) (hb1 : Below w.heap.size w w1) => W.Method_any ⟨(M.text P c.b).toArray⟩ w1 (h.below hb1).mx (by rw [sz_of]; exact Nat.le_trans (hS.text _) (by omega))
  have hfi := fun (w1 : World) (hb1 : Below w.heap.size w w1) => Field_any ⟨(M.text P c.b).toArray⟩ w1 (h.below hb1).mx (by rw [sz_of]; exact hS.text _)
  rw [dt_of] at hme hmt hfi
  have HS := hide hsg
  have HM := hide hme
  have HD := hide hmt
  have HF := hide hfi
  generalize hr : ntE P c = r
  have Hr := hide (show (if isT P c.a && isT P c.b then (if memB (M.text P c.a) false = 0 then 8 else if (W.meth (M.text P c.b)).isSome || fieldB (M.text P c.b) then 0 else 9) else 7) = r from hr)
  clear hsg hme hmt hfi hr h hS
  generalize M.text P (c.a : Int) = nm at *
  generalize M.text P (c.b : Int) = of at *
  generalize (isT P c.a && isT P c.b) = ok at *
  obtain ⟨w0, hw0⟩ : ∃ w0, w0 = w.alloc (.cells #[.int .u8 (c.tag : Int), .string ⟨c.text.toArray⟩, .int .u64 (c.bits : Int), .int .u16 (c.a : Int), .int .u16 (c.b : Int)] 38) := ⟨_, rfl⟩
  have hb0 : Below w.heap.size w w0 := by rw [hw0]; exact (Below.refl _ _).alloc (Nat.le_refl _) _
  have hk : Bk w0 w.heap.size #[.int .u8 (c.tag : Int), .string ⟨c.text.toArray⟩, .int .u64 (c.bits : Int), .int .u16 (c.a : Int), .int .u16 (c.b : Int)] 38 := by rw [hw0]; exact Bk.new _ _ _
  have c3 := hk.cell 3
  have c4 := hk.cell 4
  simp at c3 c4
  have HB := hide hb0
  clear hk hb0
  have hz : ∀ W : World, (zeroValue 75).run Tryz.prog W = .ok (.agg #[.string ⟨#[]⟩, .string ⟨#[]⟩]) W := fun W => by kernel_rfl
  have n0 := nat_zero (memB nm false)
  unfold K.val K.cells
  cases ok
  · have hE : r = 7 := by rw [← unhide Hr]; rfl
    subst hE
    clear Hr HM HD HF n0
    go_enter Tryz.func22, Tryz.ntmps22
    go_upto_region 1 with fail
    rw [← hw0]
    clear hw0
    go_wp2_with fail
    refine (unhide HS _ (unhide HB)).mono ?_
    rintro e w1 ⟨rfl, hb1⟩
    have HB1 := hide ((unhide HB).trans (hb1.mono (unhide HB).size))
    clear HS hb1
    unfold sgv
    go_wp2
    go_ret
    exact ⟨rfl, (unhide HB1).alloc (unhide HB1).size _⟩
  · go_enter Tryz.func22, Tryz.ntmps22
    go_upto_region 1 with fail
    rw [← hw0]
    clear hw0
    go_wp2_with fail
    refine (unhide HS _ (unhide HB)).mono ?_
    rintro e w1 ⟨rfl, hb1⟩
    have HB1 := hide ((unhide HB).trans (hb1.mono (unhide HB).size))
    clear HS hb1
    unfold sgv
    go_wp2_with fail
    refine (unhide HM _ ((unhide HB1).alloc (unhide HB1).size _)).mono ?_
    rintro e w2 ⟨rfl, hb2⟩
    have hk2 := (Bk.new w1 #[.string ⟨nm.toArray⟩, .string ⟨of.toArray⟩] 75).below hb2
    have hB2 := (((unhide HB1).alloc (unhide HB1).size (.cells #[.string ⟨nm.toArray⟩, .string ⟨of.toArray⟩] 75))).trans (hb2.mono ((unhide HB1).alloc (unhide HB1).size _).size)
    have d1 := hk2.cell 1
    simp at d1
    have HK := hide hk2
    have HB2 := hide hB2
    clear HM hb2 hk2 hB2
    by_cases h0 : memB nm false = 0
    · rw [decide_eq_true h0] at n0
      have hE : r = 8 := by rw [← unhide Hr, if_pos trivial, if_pos h0]
      subst hE
      clear Hr HD HF h0 HK
      go_wp2
      go_ret
      exact ⟨rfl, unhide HB2⟩
    rw [decide_eq_false h0] at n0
    have H0 := hide h0
    clear h0
    go_wp2_with fail
    refine (unhide HD _ (unhide HB2)).mono ?_
    rintro e w3 ⟨hb3, hR⟩
    have hB3 := (unhide HB2).trans (hb3.mono (unhide HB2).size)
    have d2 := ((unhide HK).below hb3).cell 1
    simp at d2
    have HB3 := hide hB3
    clear HD hb3 hB3 HK d1
    rcases hR with ⟨hn, rfl⟩ | ⟨L, g, v, hn, rfl, ho⟩
    · generalize hf : fieldB of = f at *
      cases f
      · have hE : r = 9 := by rw [← unhide Hr, if_pos trivial, if_neg (unhide H0), hn]; rfl
        subst hE
        clear Hr hn hf
        go_wp2_with fail
        refine (unhide HF _ (unhide HB3)).mono ?_
        rintro e w4 ⟨rfl, hb4⟩
        have HB4 := hide ((unhide HB3).trans (hb4.mono (unhide HB3).size))
        clear HF hb4
        go_wp2
        go_ret
        exact ⟨rfl, unhide HB4⟩
      · have hE : r = 0 := by rw [← unhide Hr, if_pos trivial, if_neg (unhide H0), hn]; rfl
        subst hE
        clear Hr hn hf
        go_wp2_with fail
        refine (unhide HF _ (unhide HB3)).mono ?_
        rintro e w4 ⟨rfl, hb4⟩
        have HB4 := hide ((unhide HB3).trans (hb4.mono (unhide HB3).size))
        clear HF hb4
        go_wp2
        go_ret
        exact ⟨rfl, unhide HB4⟩
    · have hE : r = 0 := by rw [← unhide Hr, if_pos trivial, if_neg (unhide H0), hn]; rfl
      obtain ⟨ad, cp, rfl⟩ := own_slice ho
      subst hE
      clear Hr hn HF ho
      go_wp2
      go_ret
      exact ⟨rfl, unhide HB3⟩
end Go.Proofs.YtddhlphbbiihjaaGreatDoor.Cl
