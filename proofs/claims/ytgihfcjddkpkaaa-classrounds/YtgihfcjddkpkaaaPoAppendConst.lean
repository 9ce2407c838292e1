/-
  appendConst of package pool.
-/
import Derived.Test.YtgihfcjddkpkaaaMgPoFirstWrong
import Derived.Lib.AppendStr
import Derived.Deep.Cut
namespace Go.Proofs.Ytgihfcjddkpkaaa.Po
open Go.RowKit
namespace M
/-- The bytes behind a tag. -/
def cbody (c : K) : List UInt8 :=
  if c.tag = 1 then big c.text.length 2 ++ c.text else if c.tag = 3 ∨ c.tag = 4 then big c.bits 4 else if c.tag = 5 ∨ c.tag = 6 then big c.bits 8
  else if c.tag = 7 ∨ c.tag = 8 then big c.a 2 else big c.a 2 ++ big c.b 2
/-- A constant as bytes. -/
def cb (c : K) : List UInt8 := if c.tag = 0 then [] else UInt8.ofNat c.tag :: cbody c
end M
theorem Kb.fr {w w' : World} {g B : Nat} {c : K} (h : Kb w g c) (hf : Fr B w w') : Kb w' g c := (hf.rest g _ 78 _ h (by decide)).trans h
def Put (B : Nat) (l m : List UInt8) (w : World) (e : Ending) (w' : World) : Prop :=
  ∃ v', e = .returned v' ∧ w'.ownsRow B 5 1 v' (l ++ m).length (U8 (l ++ m)) ∧ Fr B w w'
theorem U8_str (t : List UInt8) : Lib.strCells ⟨t.toArray⟩ = U8 t := by simp [Lib.strCells, U8]
set_option maxRecDepth 100000 in
set_option maxHeartbeats 1000000 in
theorem ac_0 (B : Nat) (v : Value) (l : List UInt8) (c : K) (w : World) (hc : Fits c) (_hl : l.length ≤ 800000) (hB : B ≤ w.heap.size) (ho : w.ownsRow B 5 1 v l.length (U8 l)) (ht : c.tag = 0) :
    Calls Try.prog 83 #[v, c.val] w fun e w' => Put B l (M.cb c) w e w' := by
  obtain ⟨i0, hi, hz0, hz1, hz2⟩ := info_parts Try.info5
  obtain ⟨t, tx, bt, ca, cb⟩ := c
  obtain ⟨f1, f2, f3, f4, f5⟩ := hc
  simp only at f1 f2 f3 f4 f5 ht
  subst ht
  rw [show M.cb ⟨0, tx, bt, ca, cb⟩ = [] from rfl]
  clear f3
  go_enter Try.func83, Try.ntmps83
  go_wp2
  go_ret
  exact ⟨v, rfl, by simpa using ho.alloc _, (Fr.refl _ _).alloc hB _⟩
set_option maxRecDepth 100000 in
set_option maxHeartbeats 1000000 in
theorem ac_1 (B : Nat) (v : Value) (l : List UInt8) (c : K) (w : World) (hc : Fits c) (hl : l.length ≤ 800000) (hB : B ≤ w.heap.size) (ho : w.ownsRow B 5 1 v l.length (U8 l)) (ht : c.tag = 1) :
    Calls Try.prog 83 #[v, c.val] w fun e w' => Put B l (M.cb c) w e w' := by
  obtain ⟨i0, hi, hz0, hz1, hz2⟩ := info_parts Try.info5
  obtain ⟨t, tx, bt, ca, cb⟩ := c
  obtain ⟨f1, f2, f3, f4, f5⟩ := hc
  simp only at f1 f2 f3 f4 f5 ht
  subst ht
  rw [show M.cb ⟨1, tx, bt, ca, cb⟩ = UInt8.ofNat 1 :: (M.big tx.length 2 ++ tx) from rfl]
  have hkb0 : Kb (w.alloc (.cells #[.int .u8 (1 : Nat), .string ⟨tx.toArray⟩, .int .u64 (bt : Int), .int .u16 (ca : Int), .int .u16 (cb : Int)] 78)) w.heap.size ⟨1, tx, bt, ca, cb⟩ := heap_alloc_new w _
  have hfr0 : Fr B w (w.alloc (.cells #[.int .u8 (1 : Nat), .string ⟨tx.toArray⟩, .int .u64 (bt : Int), .int .u16 (ca : Int), .int .u16 (cb : Int)] 78)) := (Fr.refl _ _).alloc hB _
  have ho0 := ho.alloc (.cells #[.int .u8 (1 : Nat), .string ⟨tx.toArray⟩, .int .u64 (bt : Int), .int .u16 (ca : Int), .int .u16 (cb : Int)] 78)
  have F3 := hide f3
  clear f3 ho
  go_enter Try.func83, Try.ntmps83
  go_upto_region 1 with fail
  generalize w.alloc (.cells #[.int .u8 (1 : Int), .string ⟨tx.toArray⟩, .int .u64 (bt : Int), .int .u16 (ca : Int), .int .u16 (cb : Int)] 78) = W0 at *
  obtain ⟨g, hg⟩ : ∃ g, g = w.heap.size := ⟨_, rfl⟩
  rw [← hg] at hkb0 ⊢
  clear hg
  have hz := hfr0.old.size
  have k0 := hkb0.cell 0
  simp at k0
  go_wp2_with (at_builtin; refine wpList_append_own _ rfl (.tmp 9) (.tmp 12) 67 rfl B 5 i0 (.int .u8 0) 1 1 Try.underlying67 hi hz0 hz1 hz2 rfl (by decide) _ _ _ rfl (ho0.alloc _) ⟨W0.heap.size, 0, none⟩ 1 1 [.int .u8 (1 : Int)] rfl rfl ?c1 ?c2 ?c3 ?c4 ?c5 ?_)
  case c1 =>
    intro j u hj
    match j, hj with
    | 0, hj => simp at hj; subst hj; simp [Addr.add]
  case c2 => intro u hu; simp at hu; subst hu; rfl
  case c3 => unfold maxLen; omega
  case c4 => omega
  case c5 => simp; omega
  intro v1 w1 hown1 hgrow1 _
  have hfr1 : Fr B w w1 := (hfr0.alloc (by omega) _).grown (ho0.alloc _) (by simp; omega) hgrow1
  have hkb1 : Kb w1 g _ := (((hkb0.kept (World.grownBy_alloc W0 (.cells #[.int .u8 (1 : Int)] 5) none) (by simp))).fr (B := B) ((Fr.refl _ _).grown (ho0.alloc _) (by simp; omega) hgrow1))
  have ho1 : w1.ownsRow B 5 1 v1 (l ++ [UInt8.ofNat 1]).length (U8 (l ++ [UInt8.ofNat 1])) := by
    rw [U8_append, List.length_append, show U8 [UInt8.ofNat 1] = [.int .u8 (1 : Int)] from rfl]; exact hown1
  clear hown1 hgrow1 k0 hkb0 hfr0 ho0
  obtain ⟨L1, eL⟩ : ∃ L1, L1 = l ++ [UInt8.ofNat 1] := ⟨_, rfl⟩
  have hL1 : L1.length ≤ 800001 := by rw [eL]; simp; omega
  rw [← eL] at ho1
  have EL := hide eL
  clear eL
  have k0 := hkb1.cell 0
  have k1 := hkb1.cell 1
  have k2 := hkb1.cell 2
  have k3 := hkb1.cell 3
  have k4 := hkb1.cell 4
  simp at k0 k1 k2 k3 k4
  have ha := fun (g2 : Nat) (W : World) (hgr : W.ownsRow B 5 1 v1 L1.length (U8 L1)) hWB hg2 => Append_any B v1 L1 2 g2 1 [tx.length] W (by omega) (by omega) hWB (by intro y hy; simp at hy; subst hy; omega) (by simp) hgr hg2
  have Ha := hide ha
  clear ha
  have hs1 := hfr1.old.size
  have htz : (⟨tx.toArray⟩ : ByteArray).size = tx.length := by show tx.toArray.size = _; simp
  go_wp2_with fail
  refine (unhide Ha w1.heap.size _ (ho1.alloc _) (by simp; omega) (heap_alloc_new w1 _)).mono ?_
  rintro e w2 ⟨v2, rfl, ho2, hfr2⟩
  have hfrA := (hfr1.alloc (by omega) (.cells #[.int .u64 (tx.length : Int)] 73)).trans hfr2
  have hkb2 := (hkb1.kept (World.grownBy_alloc w1 (.cells #[.int .u64 (tx.length : Int)] 73) none) (by simp)).fr hfr2
  clear hfr2 hfr1 ho1 k0 k1 k2 k3 k4 hkb1 Ha
  have k1 := hkb2.cell 1
  simp at k1
  have hs2 := hfrA.old.size
  obtain ⟨L2, eL2⟩ : ∃ L2, L2 = L1 ++ [tx.length].flatMap (fun x => M.big x 2) := ⟨_, rfl⟩
  rw [← eL2] at ho2
  have hL2 : L2.length ≤ 800003 := by rw [eL2]; simp [M.big_len]; omega
  have EL2 := hide eL2
  clear eL2
  go_wp2_with (at_builtin; refine Lib.wpList_append_own_string _ rfl (.tmp 34) (.tmp 36) 67 9 rfl B 5 i0 Try.underlying67 Try.underlying9 hi hz0 hz1 hz2 _ _ _ rfl ho2 ⟨tx.toArray⟩ rfl ?d1 ?d2 ?d3 ?_)
  case d1 => rw [htz]; unfold maxLen; omega
  case d2 => rw [htz]; omega
  case d3 => omega
  intro v3 w3 hown3 hgrow3 _
  have hfin : Put B l (UInt8.ofNat 1 :: (M.big tx.length 2 ++ tx)) w (.returned v3) w3 := by
    refine ⟨v3, rfl, ?_, hfrA.grown ho2 (by omega) hgrow3⟩
    rw [show l ++ (UInt8.ofNat 1 :: (M.big tx.length 2 ++ tx)) = L2 ++ tx by rw [unhide EL2, unhide EL]; simp, U8_append, List.length_append, ← U8_str, ← htz]
    exact hown3
  clear hown3 hgrow3 hfrA hkb2 k1 ho2
  go_wp2
  go_ret
  exact hfin
set_option maxRecDepth 100000 in
set_option maxHeartbeats 1000000 in
theorem ac_3 (B : Nat) (v : Value) (l : List UInt8) (c : K) (w : World) (hc : Fits c) (hl : l.length ≤ 800000) (hB : B ≤ w.heap.size) (ho : w.ownsRow B 5 1 v l.length (U8 l)) (ht : c.tag = 3) :
    Calls Try.prog 83 #[v, c.val] w fun e w' => Put B l (M.cb c) w e w' := by
  obtain ⟨i0, hi, hz0, hz1, hz2⟩ := info_parts Try.info5
  obtain ⟨t, tx, bt, ca, cb⟩ := c
  obtain ⟨f1, f2, f3, f4, f5⟩ := hc
  simp only at f1 f2 f3 f4 f5 ht
  subst ht
  rw [show M.cb ⟨3, tx, bt, ca, cb⟩ = UInt8.ofNat 3 :: M.big bt 4 from rfl]
  have hkb0 : Kb (w.alloc (.cells #[.int .u8 (3 : Nat), .string ⟨tx.toArray⟩, .int .u64 (bt : Int), .int .u16 (ca : Int), .int .u16 (cb : Int)] 78)) w.heap.size ⟨3, tx, bt, ca, cb⟩ := heap_alloc_new w _
  have hfr0 : Fr B w (w.alloc (.cells #[.int .u8 (3 : Nat), .string ⟨tx.toArray⟩, .int .u64 (bt : Int), .int .u16 (ca : Int), .int .u16 (cb : Int)] 78)) := (Fr.refl _ _).alloc hB _
  have ho0 := ho.alloc (.cells #[.int .u8 (3 : Nat), .string ⟨tx.toArray⟩, .int .u64 (bt : Int), .int .u16 (ca : Int), .int .u16 (cb : Int)] 78)
  have F3 := hide f3
  clear f3 ho
  go_enter Try.func83, Try.ntmps83
  go_upto_region 1 with fail
  generalize w.alloc (.cells #[.int .u8 (3 : Int), .string ⟨tx.toArray⟩, .int .u64 (bt : Int), .int .u16 (ca : Int), .int .u16 (cb : Int)] 78) = W0 at *
  obtain ⟨g, hg⟩ : ∃ g, g = w.heap.size := ⟨_, rfl⟩
  rw [← hg] at hkb0 ⊢
  clear hg
  have hz := hfr0.old.size
  have k0 := hkb0.cell 0
  simp at k0
  go_wp2_with (at_builtin; refine wpList_append_own _ rfl (.tmp 9) (.tmp 12) 67 rfl B 5 i0 (.int .u8 0) 1 1 Try.underlying67 hi hz0 hz1 hz2 rfl (by decide) _ _ _ rfl (ho0.alloc _) ⟨W0.heap.size, 0, none⟩ 1 1 [.int .u8 (3 : Int)] rfl rfl ?c1 ?c2 ?c3 ?c4 ?c5 ?_)
  case c1 =>
    intro j u hj
    match j, hj with
    | 0, hj => simp at hj; subst hj; simp [Addr.add]
  case c2 => intro u hu; simp at hu; subst hu; rfl
  case c3 => unfold maxLen; omega
  case c4 => omega
  case c5 => simp; omega
  intro v1 w1 hown1 hgrow1 _
  have hfr1 : Fr B w w1 := (hfr0.alloc (by omega) _).grown (ho0.alloc _) (by simp; omega) hgrow1
  have hkb1 : Kb w1 g _ := (((hkb0.kept (World.grownBy_alloc W0 (.cells #[.int .u8 (3 : Int)] 5) none) (by simp))).fr (B := B) ((Fr.refl _ _).grown (ho0.alloc _) (by simp; omega) hgrow1))
  have ho1 : w1.ownsRow B 5 1 v1 (l ++ [UInt8.ofNat 3]).length (U8 (l ++ [UInt8.ofNat 3])) := by
    rw [U8_append, List.length_append, show U8 [UInt8.ofNat 3] = [.int .u8 (3 : Int)] from rfl]; exact hown1
  clear hown1 hgrow1 k0 hkb0 hfr0 ho0
  obtain ⟨L1, eL⟩ : ∃ L1, L1 = l ++ [UInt8.ofNat 3] := ⟨_, rfl⟩
  have hL1 : L1.length ≤ 800001 := by rw [eL]; simp; omega
  rw [← eL] at ho1
  have EL := hide eL
  clear eL
  have k0 := hkb1.cell 0
  have k1 := hkb1.cell 1
  have k2 := hkb1.cell 2
  have k3 := hkb1.cell 3
  have k4 := hkb1.cell 4
  simp at k0 k1 k2 k3 k4
  have ha := fun (g2 : Nat) (W : World) (hgr : W.ownsRow B 5 1 v1 L1.length (U8 L1)) hWB hg2 => Append_any B v1 L1 4 g2 1 [bt] W (by omega) (by omega) hWB (by intro y hy; simp at hy; subst hy; exact unhide F3) (by simp) hgr hg2
  have Ha := hide ha
  clear ha
  have hs1 := hfr1.old.size
  go_wp2_with fail
  refine (unhide Ha w1.heap.size _ (ho1.alloc _) (by simp; omega) (heap_alloc_new w1 _)).mono ?_
  rintro e w2 ⟨v2, rfl, ho2, hfr2⟩
  have hfin : Put B l (UInt8.ofNat 3 :: M.big bt 4) w (.returned v2) w2 := by
    refine ⟨v2, rfl, ?_, (hfr1.alloc (by omega) _).trans hfr2⟩
    rw [show l ++ (UInt8.ofNat 3 :: M.big bt 4) = L1 ++ [bt].flatMap (fun x => M.big x 4) by rw [unhide EL]; simp]
    exact ho2
  clear ho2 hfr2 hfr1 ho1 k0 k1 k2 k3 k4 hkb1 Ha
  go_wp2
  go_ret
  exact hfin
set_option maxRecDepth 100000 in
set_option maxHeartbeats 1000000 in
theorem ac_4 (B : Nat) (v : Value) (l : List UInt8) (c : K) (w : World) (hc : Fits c) (hl : l.length ≤ 800000) (hB : B ≤ w.heap.size) (ho : w.ownsRow B 5 1 v l.length (U8 l)) (ht : c.tag = 4) :
    Calls Try.prog 83 #[v, c.val] w fun e w' => Put B l (M.cb c) w e w' := by
  obtain ⟨i0, hi, hz0, hz1, hz2⟩ := info_parts Try.info5
  obtain ⟨t, tx, bt, ca, cb⟩ := c
  obtain ⟨f1, f2, f3, f4, f5⟩ := hc
  simp only at f1 f2 f3 f4 f5 ht
  subst ht
  rw [show M.cb ⟨4, tx, bt, ca, cb⟩ = UInt8.ofNat 4 :: M.big bt 4 from rfl]
  have hkb0 : Kb (w.alloc (.cells #[.int .u8 (4 : Nat), .string ⟨tx.toArray⟩, .int .u64 (bt : Int), .int .u16 (ca : Int), .int .u16 (cb : Int)] 78)) w.heap.size ⟨4, tx, bt, ca, cb⟩ := heap_alloc_new w _
  have hfr0 : Fr B w (w.alloc (.cells #[.int .u8 (4 : Nat), .string ⟨tx.toArray⟩, .int .u64 (bt : Int), .int .u16 (ca : Int), .int .u16 (cb : Int)] 78)) := (Fr.refl _ _).alloc hB _
  have ho0 := ho.alloc (.cells #[.int .u8 (4 : Nat), .string ⟨tx.toArray⟩, .int .u64 (bt : Int), .int .u16 (ca : Int), .int .u16 (cb : Int)] 78)
  have F3 := hide f3
  clear f3 ho
  go_enter Try.func83, Try.ntmps83
  go_upto_region 1 with fail
  generalize w.alloc (.cells #[.int .u8 (4 : Int), .string ⟨tx.toArray⟩, .int .u64 (bt : Int), .int .u16 (ca : Int), .int .u16 (cb : Int)] 78) = W0 at *
  obtain ⟨g, hg⟩ : ∃ g, g = w.heap.size := ⟨_, rfl⟩
  rw [← hg] at hkb0 ⊢
  clear hg
  have hz := hfr0.old.size
  have k0 := hkb0.cell 0
  simp at k0
  go_wp2_with (at_builtin; refine wpList_append_own _ rfl (.tmp 9) (.tmp 12) 67 rfl B 5 i0 (.int .u8 0) 1 1 Try.underlying67 hi hz0 hz1 hz2 rfl (by decide) _ _ _ rfl (ho0.alloc _) ⟨W0.heap.size, 0, none⟩ 1 1 [.int .u8 (4 : Int)] rfl rfl ?c1 ?c2 ?c3 ?c4 ?c5 ?_)
  case c1 =>
    intro j u hj
    match j, hj with
    | 0, hj => simp at hj; subst hj; simp [Addr.add]
  case c2 => intro u hu; simp at hu; subst hu; rfl
  case c3 => unfold maxLen; omega
  case c4 => omega
  case c5 => simp; omega
  intro v1 w1 hown1 hgrow1 _
  have hfr1 : Fr B w w1 := (hfr0.alloc (by omega) _).grown (ho0.alloc _) (by simp; omega) hgrow1
  have hkb1 : Kb w1 g _ := (((hkb0.kept (World.grownBy_alloc W0 (.cells #[.int .u8 (4 : Int)] 5) none) (by simp))).fr (B := B) ((Fr.refl _ _).grown (ho0.alloc _) (by simp; omega) hgrow1))
  have ho1 : w1.ownsRow B 5 1 v1 (l ++ [UInt8.ofNat 4]).length (U8 (l ++ [UInt8.ofNat 4])) := by
    rw [U8_append, List.length_append, show U8 [UInt8.ofNat 4] = [.int .u8 (4 : Int)] from rfl]; exact hown1
  clear hown1 hgrow1 k0 hkb0 hfr0 ho0
  obtain ⟨L1, eL⟩ : ∃ L1, L1 = l ++ [UInt8.ofNat 4] := ⟨_, rfl⟩
  have hL1 : L1.length ≤ 800001 := by rw [eL]; simp; omega
  rw [← eL] at ho1
  have EL := hide eL
  clear eL
  have k0 := hkb1.cell 0
  have k1 := hkb1.cell 1
  have k2 := hkb1.cell 2
  have k3 := hkb1.cell 3
  have k4 := hkb1.cell 4
  simp at k0 k1 k2 k3 k4
  have ha := fun (g2 : Nat) (W : World) (hgr : W.ownsRow B 5 1 v1 L1.length (U8 L1)) hWB hg2 => Append_any B v1 L1 4 g2 1 [bt] W (by omega) (by omega) hWB (by intro y hy; simp at hy; subst hy; exact unhide F3) (by simp) hgr hg2
  have Ha := hide ha
  clear ha
  have hs1 := hfr1.old.size
  go_wp2_with fail
  refine (unhide Ha w1.heap.size _ (ho1.alloc _) (by simp; omega) (heap_alloc_new w1 _)).mono ?_
  rintro e w2 ⟨v2, rfl, ho2, hfr2⟩
  have hfin : Put B l (UInt8.ofNat 4 :: M.big bt 4) w (.returned v2) w2 := by
    refine ⟨v2, rfl, ?_, (hfr1.alloc (by omega) _).trans hfr2⟩
    rw [show l ++ (UInt8.ofNat 4 :: M.big bt 4) = L1 ++ [bt].flatMap (fun x => M.big x 4) by rw [unhide EL]; simp]
    exact ho2
  clear ho2 hfr2 hfr1 ho1 k0 k1 k2 k3 k4 hkb1 Ha
  go_wp2
  go_ret
  exact hfin
set_option maxRecDepth 100000 in
set_option maxHeartbeats 1000000 in
theorem ac_5 (B : Nat) (v : Value) (l : List UInt8) (c : K) (w : World) (hc : Fits c) (hl : l.length ≤ 800000) (hB : B ≤ w.heap.size) (ho : w.ownsRow B 5 1 v l.length (U8 l)) (ht : c.tag = 5) :
    Calls Try.prog 83 #[v, c.val] w fun e w' => Put B l (M.cb c) w e w' := by
  obtain ⟨i0, hi, hz0, hz1, hz2⟩ := info_parts Try.info5
  obtain ⟨t, tx, bt, ca, cb⟩ := c
  obtain ⟨f1, f2, f3, f4, f5⟩ := hc
  simp only at f1 f2 f3 f4 f5 ht
  subst ht
  rw [show M.cb ⟨5, tx, bt, ca, cb⟩ = UInt8.ofNat 5 :: M.big bt 8 from rfl]
  have hkb0 : Kb (w.alloc (.cells #[.int .u8 (5 : Nat), .string ⟨tx.toArray⟩, .int .u64 (bt : Int), .int .u16 (ca : Int), .int .u16 (cb : Int)] 78)) w.heap.size ⟨5, tx, bt, ca, cb⟩ := heap_alloc_new w _
  have hfr0 : Fr B w (w.alloc (.cells #[.int .u8 (5 : Nat), .string ⟨tx.toArray⟩, .int .u64 (bt : Int), .int .u16 (ca : Int), .int .u16 (cb : Int)] 78)) := (Fr.refl _ _).alloc hB _
  have ho0 := ho.alloc (.cells #[.int .u8 (5 : Nat), .string ⟨tx.toArray⟩, .int .u64 (bt : Int), .int .u16 (ca : Int), .int .u16 (cb : Int)] 78)
  have F3 := hide f3
  clear f3 ho
  go_enter Try.func83, Try.ntmps83
  go_upto_region 1 with fail
  generalize w.alloc (.cells #[.int .u8 (5 : Int), .string ⟨tx.toArray⟩, .int .u64 (bt : Int), .int .u16 (ca : Int), .int .u16 (cb : Int)] 78) = W0 at *
  obtain ⟨g, hg⟩ : ∃ g, g = w.heap.size := ⟨_, rfl⟩
  rw [← hg] at hkb0 ⊢
  clear hg
  have hz := hfr0.old.size
  have k0 := hkb0.cell 0
  simp at k0
  go_wp2_with (at_builtin; refine wpList_append_own _ rfl (.tmp 9) (.tmp 12) 67 rfl B 5 i0 (.int .u8 0) 1 1 Try.underlying67 hi hz0 hz1 hz2 rfl (by decide) _ _ _ rfl (ho0.alloc _) ⟨W0.heap.size, 0, none⟩ 1 1 [.int .u8 (5 : Int)] rfl rfl ?c1 ?c2 ?c3 ?c4 ?c5 ?_)
  case c1 =>
    intro j u hj
    match j, hj with
    | 0, hj => simp at hj; subst hj; simp [Addr.add]
  case c2 => intro u hu; simp at hu; subst hu; rfl
  case c3 => unfold maxLen; omega
  case c4 => omega
  case c5 => simp; omega
  intro v1 w1 hown1 hgrow1 _
  have hfr1 : Fr B w w1 := (hfr0.alloc (by omega) _).grown (ho0.alloc _) (by simp; omega) hgrow1
  have hkb1 : Kb w1 g _ := (((hkb0.kept (World.grownBy_alloc W0 (.cells #[.int .u8 (5 : Int)] 5) none) (by simp))).fr (B := B) ((Fr.refl _ _).grown (ho0.alloc _) (by simp; omega) hgrow1))
  have ho1 : w1.ownsRow B 5 1 v1 (l ++ [UInt8.ofNat 5]).length (U8 (l ++ [UInt8.ofNat 5])) := by
    rw [U8_append, List.length_append, show U8 [UInt8.ofNat 5] = [.int .u8 (5 : Int)] from rfl]; exact hown1
  clear hown1 hgrow1 k0 hkb0 hfr0 ho0
  obtain ⟨L1, eL⟩ : ∃ L1, L1 = l ++ [UInt8.ofNat 5] := ⟨_, rfl⟩
  have hL1 : L1.length ≤ 800001 := by rw [eL]; simp; omega
  rw [← eL] at ho1
  have EL := hide eL
  clear eL
  have k0 := hkb1.cell 0
  have k1 := hkb1.cell 1
  have k2 := hkb1.cell 2
  have k3 := hkb1.cell 3
  have k4 := hkb1.cell 4
  simp at k0 k1 k2 k3 k4
  have ha := fun (g2 : Nat) (W : World) (hgr : W.ownsRow B 5 1 v1 L1.length (U8 L1)) hWB hg2 => Append_any B v1 L1 8 g2 1 [bt] W (by omega) (by omega) hWB (by intro y hy; simp at hy; subst hy; exact unhide F3) (by simp) hgr hg2
  have Ha := hide ha
  clear ha
  have hs1 := hfr1.old.size
  go_wp2_with fail
  refine (unhide Ha w1.heap.size _ (ho1.alloc _) (by simp; omega) (heap_alloc_new w1 _)).mono ?_
  rintro e w2 ⟨v2, rfl, ho2, hfr2⟩
  have hfin : Put B l (UInt8.ofNat 5 :: M.big bt 8) w (.returned v2) w2 := by
    refine ⟨v2, rfl, ?_, (hfr1.alloc (by omega) _).trans hfr2⟩
    rw [show l ++ (UInt8.ofNat 5 :: M.big bt 8) = L1 ++ [bt].flatMap (fun x => M.big x 8) by rw [unhide EL]; simp]
    exact ho2
  clear ho2 hfr2 hfr1 ho1 k0 k1 k2 k3 k4 hkb1 Ha
  go_wp2
  go_ret
  exact hfin
set_option maxRecDepth 100000 in
set_option maxHeartbeats 1000000 in
theorem ac_6 (B : Nat) (v : Value) (l : List UInt8) (c : K) (w : World) (hc : Fits c) (hl : l.length ≤ 800000) (hB : B ≤ w.heap.size) (ho : w.ownsRow B 5 1 v l.length (U8 l)) (ht : c.tag = 6) :
    Calls Try.prog 83 #[v, c.val] w fun e w' => Put B l (M.cb c) w e w' := by
  obtain ⟨i0, hi, hz0, hz1, hz2⟩ := info_parts Try.info5
  obtain ⟨t, tx, bt, ca, cb⟩ := c
  obtain ⟨f1, f2, f3, f4, f5⟩ := hc
  simp only at f1 f2 f3 f4 f5 ht
  subst ht
  rw [show M.cb ⟨6, tx, bt, ca, cb⟩ = UInt8.ofNat 6 :: M.big bt 8 from rfl]
  have hkb0 : Kb (w.alloc (.cells #[.int .u8 (6 : Nat), .string ⟨tx.toArray⟩, .int .u64 (bt : Int), .int .u16 (ca : Int), .int .u16 (cb : Int)] 78)) w.heap.size ⟨6, tx, bt, ca, cb⟩ := heap_alloc_new w _
  have hfr0 : Fr B w (w.alloc (.cells #[.int .u8 (6 : Nat), .string ⟨tx.toArray⟩, .int .u64 (bt : Int), .int .u16 (ca : Int), .int .u16 (cb : Int)] 78)) := (Fr.refl _ _).alloc hB _
  have ho0 := ho.alloc (.cells #[.int .u8 (6 : Nat), .string ⟨tx.toArray⟩, .int .u64 (bt : Int), .int .u16 (ca : Int), .int .u16 (cb : Int)] 78)
  have F3 := hide f3
  clear f3 ho
  go_enter Try.func83, Try.ntmps83
  go_upto_region 1 with fail
  generalize w.alloc (.cells #[.int .u8 (6 : Int), .string ⟨tx.toArray⟩, .int .u64 (bt : Int), .int .u16 (ca : Int), .int .u16 (cb : Int)] 78) = W0 at *
  obtain ⟨g, hg⟩ : ∃ g, g = w.heap.size := ⟨_, rfl⟩
  rw [← hg] at hkb0 ⊢
  clear hg
  have hz := hfr0.old.size
  have k0 := hkb0.cell 0
  simp at k0
  go_wp2_with (at_builtin; refine wpList_append_own _ rfl (.tmp 9) (.tmp 12) 67 rfl B 5 i0 (.int .u8 0) 1 1 Try.underlying67 hi hz0 hz1 hz2 rfl (by decide) _ _ _ rfl (ho0.alloc _) ⟨W0.heap.size, 0, none⟩ 1 1 [.int .u8 (6 : Int)] rfl rfl ?c1 ?c2 ?c3 ?c4 ?c5 ?_)
  case c1 =>
    intro j u hj
    match j, hj with
    | 0, hj => simp at hj; subst hj; simp [Addr.add]
  case c2 => intro u hu; simp at hu; subst hu; rfl
  case c3 => unfold maxLen; omega
  case c4 => omega
  case c5 => simp; omega
  intro v1 w1 hown1 hgrow1 _
  have hfr1 : Fr B w w1 := (hfr0.alloc (by omega) _).grown (ho0.alloc _) (by simp; omega) hgrow1
  have hkb1 : Kb w1 g _ := (((hkb0.kept (World.grownBy_alloc W0 (.cells #[.int .u8 (6 : Int)] 5) none) (by simp))).fr (B := B) ((Fr.refl _ _).grown (ho0.alloc _) (by simp; omega) hgrow1))
  have ho1 : w1.ownsRow B 5 1 v1 (l ++ [UInt8.ofNat 6]).length (U8 (l ++ [UInt8.ofNat 6])) := by
    rw [U8_append, List.length_append, show U8 [UInt8.ofNat 6] = [.int .u8 (6 : Int)] from rfl]; exact hown1
  clear hown1 hgrow1 k0 hkb0 hfr0 ho0
  obtain ⟨L1, eL⟩ : ∃ L1, L1 = l ++ [UInt8.ofNat 6] := ⟨_, rfl⟩
  have hL1 : L1.length ≤ 800001 := by rw [eL]; simp; omega
  rw [← eL] at ho1
  have EL := hide eL
  clear eL
  have k0 := hkb1.cell 0
  have k1 := hkb1.cell 1
  have k2 := hkb1.cell 2
  have k3 := hkb1.cell 3
  have k4 := hkb1.cell 4
  simp at k0 k1 k2 k3 k4
  have ha := fun (g2 : Nat) (W : World) (hgr : W.ownsRow B 5 1 v1 L1.length (U8 L1)) hWB hg2 => Append_any B v1 L1 8 g2 1 [bt] W (by omega) (by omega) hWB (by intro y hy; simp at hy; subst hy; exact unhide F3) (by simp) hgr hg2
  have Ha := hide ha
  clear ha
  have hs1 := hfr1.old.size
  go_wp2_with fail
  refine (unhide Ha w1.heap.size _ (ho1.alloc _) (by simp; omega) (heap_alloc_new w1 _)).mono ?_
  rintro e w2 ⟨v2, rfl, ho2, hfr2⟩
  have hfin : Put B l (UInt8.ofNat 6 :: M.big bt 8) w (.returned v2) w2 := by
    refine ⟨v2, rfl, ?_, (hfr1.alloc (by omega) _).trans hfr2⟩
    rw [show l ++ (UInt8.ofNat 6 :: M.big bt 8) = L1 ++ [bt].flatMap (fun x => M.big x 8) by rw [unhide EL]; simp]
    exact ho2
  clear ho2 hfr2 hfr1 ho1 k0 k1 k2 k3 k4 hkb1 Ha
  go_wp2
  go_ret
  exact hfin
set_option maxRecDepth 100000 in
set_option maxHeartbeats 1000000 in
theorem ac_7 (B : Nat) (v : Value) (l : List UInt8) (c : K) (w : World) (hc : Fits c) (hl : l.length ≤ 800000) (hB : B ≤ w.heap.size) (ho : w.ownsRow B 5 1 v l.length (U8 l)) (ht : c.tag = 7) :
    Calls Try.prog 83 #[v, c.val] w fun e w' => Put B l (M.cb c) w e w' := by
  obtain ⟨i0, hi, hz0, hz1, hz2⟩ := info_parts Try.info5
  obtain ⟨t, tx, bt, ca, cb⟩ := c
  obtain ⟨f1, f2, f3, f4, f5⟩ := hc
  simp only at f1 f2 f3 f4 f5 ht
  subst ht
  rw [show M.cb ⟨7, tx, bt, ca, cb⟩ = UInt8.ofNat 7 :: M.big ca 2 from rfl]
  have hkb0 : Kb (w.alloc (.cells #[.int .u8 (7 : Nat), .string ⟨tx.toArray⟩, .int .u64 (bt : Int), .int .u16 (ca : Int), .int .u16 (cb : Int)] 78)) w.heap.size ⟨7, tx, bt, ca, cb⟩ := heap_alloc_new w _
  have hfr0 : Fr B w (w.alloc (.cells #[.int .u8 (7 : Nat), .string ⟨tx.toArray⟩, .int .u64 (bt : Int), .int .u16 (ca : Int), .int .u16 (cb : Int)] 78)) := (Fr.refl _ _).alloc hB _
  have ho0 := ho.alloc (.cells #[.int .u8 (7 : Nat), .string ⟨tx.toArray⟩, .int .u64 (bt : Int), .int .u16 (ca : Int), .int .u16 (cb : Int)] 78)
  have F3 := hide f3
  clear f3 ho
  go_enter Try.func83, Try.ntmps83
  go_upto_region 1 with fail
  generalize w.alloc (.cells #[.int .u8 (7 : Int), .string ⟨tx.toArray⟩, .int .u64 (bt : Int), .int .u16 (ca : Int), .int .u16 (cb : Int)] 78) = W0 at *
  obtain ⟨g, hg⟩ : ∃ g, g = w.heap.size := ⟨_, rfl⟩
  rw [← hg] at hkb0 ⊢
  clear hg
  have hz := hfr0.old.size
  have k0 := hkb0.cell 0
  simp at k0
  go_wp2_with (at_builtin; refine wpList_append_own _ rfl (.tmp 9) (.tmp 12) 67 rfl B 5 i0 (.int .u8 0) 1 1 Try.underlying67 hi hz0 hz1 hz2 rfl (by decide) _ _ _ rfl (ho0.alloc _) ⟨W0.heap.size, 0, none⟩ 1 1 [.int .u8 (7 : Int)] rfl rfl ?c1 ?c2 ?c3 ?c4 ?c5 ?_)
  case c1 =>
    intro j u hj
    match j, hj with
    | 0, hj => simp at hj; subst hj; simp [Addr.add]
  case c2 => intro u hu; simp at hu; subst hu; rfl
  case c3 => unfold maxLen; omega
  case c4 => omega
  case c5 => simp; omega
  intro v1 w1 hown1 hgrow1 _
  have hfr1 : Fr B w w1 := (hfr0.alloc (by omega) _).grown (ho0.alloc _) (by simp; omega) hgrow1
  have hkb1 : Kb w1 g _ := (((hkb0.kept (World.grownBy_alloc W0 (.cells #[.int .u8 (7 : Int)] 5) none) (by simp))).fr (B := B) ((Fr.refl _ _).grown (ho0.alloc _) (by simp; omega) hgrow1))
  have ho1 : w1.ownsRow B 5 1 v1 (l ++ [UInt8.ofNat 7]).length (U8 (l ++ [UInt8.ofNat 7])) := by
    rw [U8_append, List.length_append, show U8 [UInt8.ofNat 7] = [.int .u8 (7 : Int)] from rfl]; exact hown1
  clear hown1 hgrow1 k0 hkb0 hfr0 ho0
  obtain ⟨L1, eL⟩ : ∃ L1, L1 = l ++ [UInt8.ofNat 7] := ⟨_, rfl⟩
  have hL1 : L1.length ≤ 800001 := by rw [eL]; simp; omega
  rw [← eL] at ho1
  have EL := hide eL
  clear eL
  have k0 := hkb1.cell 0
  have k1 := hkb1.cell 1
  have k2 := hkb1.cell 2
  have k3 := hkb1.cell 3
  have k4 := hkb1.cell 4
  simp at k0 k1 k2 k3 k4
  have ha := fun (g2 : Nat) (W : World) (hgr : W.ownsRow B 5 1 v1 L1.length (U8 L1)) hWB hg2 => Append_any B v1 L1 2 g2 1 [ca] W (by omega) (by omega) hWB (by intro y hy; simp at hy; subst hy; omega) (by simp) hgr hg2
  have Ha := hide ha
  clear ha
  have hs1 := hfr1.old.size
  go_wp2_with fail
  refine (unhide Ha w1.heap.size _ (ho1.alloc _) (by simp; omega) (heap_alloc_new w1 _)).mono ?_
  rintro e w2 ⟨v2, rfl, ho2, hfr2⟩
  have hfin : Put B l (UInt8.ofNat 7 :: M.big ca 2) w (.returned v2) w2 := by
    refine ⟨v2, rfl, ?_, (hfr1.alloc (by omega) _).trans hfr2⟩
    rw [show l ++ (UInt8.ofNat 7 :: M.big ca 2) = L1 ++ [ca].flatMap (fun x => M.big x 2) by rw [unhide EL]; simp]
    exact ho2
  clear ho2 hfr2 hfr1 ho1 k0 k1 k2 k3 k4 hkb1 Ha
  go_wp2
  go_ret
  exact hfin
set_option maxRecDepth 100000 in
set_option maxHeartbeats 1000000 in
theorem ac_8 (B : Nat) (v : Value) (l : List UInt8) (c : K) (w : World) (hc : Fits c) (hl : l.length ≤ 800000) (hB : B ≤ w.heap.size) (ho : w.ownsRow B 5 1 v l.length (U8 l)) (ht : c.tag = 8) :
    Calls Try.prog 83 #[v, c.val] w fun e w' => Put B l (M.cb c) w e w' := by
  obtain ⟨i0, hi, hz0, hz1, hz2⟩ := info_parts Try.info5
  obtain ⟨t, tx, bt, ca, cb⟩ := c
  obtain ⟨f1, f2, f3, f4, f5⟩ := hc
  simp only at f1 f2 f3 f4 f5 ht
  subst ht
  rw [show M.cb ⟨8, tx, bt, ca, cb⟩ = UInt8.ofNat 8 :: M.big ca 2 from rfl]
  have hkb0 : Kb (w.alloc (.cells #[.int .u8 (8 : Nat), .string ⟨tx.toArray⟩, .int .u64 (bt : Int), .int .u16 (ca : Int), .int .u16 (cb : Int)] 78)) w.heap.size ⟨8, tx, bt, ca, cb⟩ := heap_alloc_new w _
  have hfr0 : Fr B w (w.alloc (.cells #[.int .u8 (8 : Nat), .string ⟨tx.toArray⟩, .int .u64 (bt : Int), .int .u16 (ca : Int), .int .u16 (cb : Int)] 78)) := (Fr.refl _ _).alloc hB _
  have ho0 := ho.alloc (.cells #[.int .u8 (8 : Nat), .string ⟨tx.toArray⟩, .int .u64 (bt : Int), .int .u16 (ca : Int), .int .u16 (cb : Int)] 78)
  have F3 := hide f3
  clear f3 ho
  go_enter Try.func83, Try.ntmps83
  go_upto_region 1 with fail
  generalize w.alloc (.cells #[.int .u8 (8 : Int), .string ⟨tx.toArray⟩, .int .u64 (bt : Int), .int .u16 (ca : Int), .int .u16 (cb : Int)] 78) = W0 at *
  obtain ⟨g, hg⟩ : ∃ g, g = w.heap.size := ⟨_, rfl⟩
  rw [← hg] at hkb0 ⊢
  clear hg
  have hz := hfr0.old.size
  have k0 := hkb0.cell 0
  simp at k0
  go_wp2_with (at_builtin; refine wpList_append_own _ rfl (.tmp 9) (.tmp 12) 67 rfl B 5 i0 (.int .u8 0) 1 1 Try.underlying67 hi hz0 hz1 hz2 rfl (by decide) _ _ _ rfl (ho0.alloc _) ⟨W0.heap.size, 0, none⟩ 1 1 [.int .u8 (8 : Int)] rfl rfl ?c1 ?c2 ?c3 ?c4 ?c5 ?_)
  case c1 =>
    intro j u hj
    match j, hj with
    | 0, hj => simp at hj; subst hj; simp [Addr.add]
  case c2 => intro u hu; simp at hu; subst hu; rfl
  case c3 => unfold maxLen; omega
  case c4 => omega
  case c5 => simp; omega
  intro v1 w1 hown1 hgrow1 _
  have hfr1 : Fr B w w1 := (hfr0.alloc (by omega) _).grown (ho0.alloc _) (by simp; omega) hgrow1
  have hkb1 : Kb w1 g _ := (((hkb0.kept (World.grownBy_alloc W0 (.cells #[.int .u8 (8 : Int)] 5) none) (by simp))).fr (B := B) ((Fr.refl _ _).grown (ho0.alloc _) (by simp; omega) hgrow1))
  have ho1 : w1.ownsRow B 5 1 v1 (l ++ [UInt8.ofNat 8]).length (U8 (l ++ [UInt8.ofNat 8])) := by
    rw [U8_append, List.length_append, show U8 [UInt8.ofNat 8] = [.int .u8 (8 : Int)] from rfl]; exact hown1
  clear hown1 hgrow1 k0 hkb0 hfr0 ho0
  obtain ⟨L1, eL⟩ : ∃ L1, L1 = l ++ [UInt8.ofNat 8] := ⟨_, rfl⟩
  have hL1 : L1.length ≤ 800001 := by rw [eL]; simp; omega
  rw [← eL] at ho1
  have EL := hide eL
  clear eL
  have k0 := hkb1.cell 0
  have k1 := hkb1.cell 1
  have k2 := hkb1.cell 2
  have k3 := hkb1.cell 3
  have k4 := hkb1.cell 4
  simp at k0 k1 k2 k3 k4
  have ha := fun (g2 : Nat) (W : World) (hgr : W.ownsRow B 5 1 v1 L1.length (U8 L1)) hWB hg2 => Append_any B v1 L1 2 g2 1 [ca] W (by omega) (by omega) hWB (by intro y hy; simp at hy; subst hy; omega) (by simp) hgr hg2
  have Ha := hide ha
  clear ha
  have hs1 := hfr1.old.size
  go_wp2_with fail
  refine (unhide Ha w1.heap.size _ (ho1.alloc _) (by simp; omega) (heap_alloc_new w1 _)).mono ?_
  rintro e w2 ⟨v2, rfl, ho2, hfr2⟩
  have hfin : Put B l (UInt8.ofNat 8 :: M.big ca 2) w (.returned v2) w2 := by
    refine ⟨v2, rfl, ?_, (hfr1.alloc (by omega) _).trans hfr2⟩
    rw [show l ++ (UInt8.ofNat 8 :: M.big ca 2) = L1 ++ [ca].flatMap (fun x => M.big x 2) by rw [unhide EL]; simp]
    exact ho2
  clear ho2 hfr2 hfr1 ho1 k0 k1 k2 k3 k4 hkb1 Ha
  go_wp2
  go_ret
  exact hfin
set_option maxRecDepth 100000 in
set_option maxHeartbeats 1000000 in
theorem ac_rest (B : Nat) (v : Value) (l : List UInt8) (c : K) (w : World) (hc : Fits c) (hl : l.length ≤ 800000) (hB : B ≤ w.heap.size) (ho : w.ownsRow B 5 1 v l.length (U8 l)) (ht : 9 ≤ c.tag) :
    Calls Try.prog 83 #[v, c.val] w fun e w' => Put B l (M.cb c) w e w' := by
  obtain ⟨i0, hi, hz0, hz1, hz2⟩ := info_parts Try.info5
  obtain ⟨t, tx, bt, ca, cb⟩ := c
  obtain ⟨f1, f2, f3, f4, f5⟩ := hc
  simp only at f1 f2 f3 f4 f5 ht
  rw [show M.cb ⟨t, tx, bt, ca, cb⟩ = UInt8.ofNat t :: (M.big ca 2 ++ M.big cb 2) by
    unfold M.cb M.cbody; simp only; rw [if_neg (by omega), if_neg (by omega), if_neg (by omega), if_neg (by omega), if_neg (by omega)]]
  have e0 : ((t : Int) == 0) = false := by rw [beq_eq_false_iff_ne]; omega
  have e1 : ((t : Int) == 1) = false := by rw [beq_eq_false_iff_ne]; omega
  have e3 : ((t : Int) == 3) = false := by rw [beq_eq_false_iff_ne]; omega
  have e4 : ((t : Int) == 4) = false := by rw [beq_eq_false_iff_ne]; omega
  have e5 : ((t : Int) == 5) = false := by rw [beq_eq_false_iff_ne]; omega
  have e6 : ((t : Int) == 6) = false := by rw [beq_eq_false_iff_ne]; omega
  have e7 : ((t : Int) == 7) = false := by rw [beq_eq_false_iff_ne]; omega
  have e8 : ((t : Int) == 8) = false := by rw [beq_eq_false_iff_ne]; omega
  have hkb0 : Kb (w.alloc (.cells #[.int .u8 (t : Nat), .string ⟨tx.toArray⟩, .int .u64 (bt : Int), .int .u16 (ca : Int), .int .u16 (cb : Int)] 78)) w.heap.size ⟨t, tx, bt, ca, cb⟩ := heap_alloc_new w _
  have hfr0 : Fr B w (w.alloc (.cells #[.int .u8 (t : Nat), .string ⟨tx.toArray⟩, .int .u64 (bt : Int), .int .u16 (ca : Int), .int .u16 (cb : Int)] 78)) := (Fr.refl _ _).alloc hB _
  have ho0 := ho.alloc (.cells #[.int .u8 (t : Nat), .string ⟨tx.toArray⟩, .int .u64 (bt : Int), .int .u16 (ca : Int), .int .u16 (cb : Int)] 78)
  have F3 := hide f3
  clear f3 ho
  go_enter Try.func83, Try.ntmps83
  go_upto_region 1 with fail
  generalize w.alloc (.cells #[.int .u8 (t : Int), .string ⟨tx.toArray⟩, .int .u64 (bt : Int), .int .u16 (ca : Int), .int .u16 (cb : Int)] 78) = W0 at *
  obtain ⟨g, hg⟩ : ∃ g, g = w.heap.size := ⟨_, rfl⟩
  rw [← hg] at hkb0 ⊢
  clear hg
  have hz := hfr0.old.size
  have k0 := hkb0.cell 0
  simp at k0
  go_wp2_with (at_builtin; refine wpList_append_own _ rfl (.tmp 9) (.tmp 12) 67 rfl B 5 i0 (.int .u8 0) 1 1 Try.underlying67 hi hz0 hz1 hz2 rfl (by decide) _ _ _ rfl (ho0.alloc _) ⟨W0.heap.size, 0, none⟩ 1 1 [.int .u8 (t : Int)] rfl rfl ?c1 ?c2 ?c3 ?c4 ?c5 ?_)
  case c1 =>
    intro j u hj
    match j, hj with
    | 0, hj => simp at hj; subst hj; simp [Addr.add]
  case c2 => intro u hu; simp at hu; subst hu; rfl
  case c3 => unfold maxLen; omega
  case c4 => omega
  case c5 => simp; omega
  intro v1 w1 hown1 hgrow1 _
  have hfr1 : Fr B w w1 := (hfr0.alloc (by omega) _).grown (ho0.alloc _) (by simp; omega) hgrow1
  have hkb1 : Kb w1 g _ := (((hkb0.kept (World.grownBy_alloc W0 (.cells #[.int .u8 (t : Int)] 5) none) (by simp))).fr (B := B) ((Fr.refl _ _).grown (ho0.alloc _) (by simp; omega) hgrow1))
  have ho1 : w1.ownsRow B 5 1 v1 (l ++ [UInt8.ofNat t]).length (U8 (l ++ [UInt8.ofNat t])) := by
    rw [U8_append, List.length_append, show U8 [UInt8.ofNat t] = [.int .u8 (t : Int)] from by simp only [U8, List.map_cons, List.map_nil]; rw [of_lt f1]]; exact hown1
  clear hown1 hgrow1 k0 hkb0 hfr0 ho0
  obtain ⟨L1, eL⟩ : ∃ L1, L1 = l ++ [UInt8.ofNat t] := ⟨_, rfl⟩
  have hL1 : L1.length ≤ 800001 := by rw [eL]; simp; omega
  rw [← eL] at ho1
  have EL := hide eL
  clear eL
  have k0 := hkb1.cell 0
  have k1 := hkb1.cell 1
  have k2 := hkb1.cell 2
  have k3 := hkb1.cell 3
  have k4 := hkb1.cell 4
  simp at k0 k1 k2 k3 k4
  have ha := fun (g2 : Nat) (W : World) (hgr : W.ownsRow B 5 1 v1 L1.length (U8 L1)) hWB hg2 => Append_any B v1 L1 2 g2 2 [ca, cb] W (by omega) (by omega) hWB (by intro y hy; simp at hy; rcases hy with rfl | rfl <;> omega) (by simp) hgr hg2
  have Ha := hide ha
  clear ha
  have hs1 := hfr1.old.size
  go_wp2_with fail
  refine (unhide Ha w1.heap.size _ (ho1.alloc _) (by simp; omega) (heap_alloc_new w1 _)).mono ?_
  rintro e w2 ⟨v2, rfl, ho2, hfr2⟩
  have hfin : Put B l (UInt8.ofNat t :: (M.big ca 2 ++ M.big cb 2)) w (.returned v2) w2 := by
    refine ⟨v2, rfl, ?_, (hfr1.alloc (by omega) _).trans hfr2⟩
    rw [show l ++ (UInt8.ofNat t :: (M.big ca 2 ++ M.big cb 2)) = L1 ++ [ca, cb].flatMap (fun x => M.big x 2) by rw [unhide EL]; simp]
    exact ho2
  clear ho2 hfr2 hfr1 ho1 k0 k1 k2 k3 k4 hkb1 Ha
  go_wp2
  go_ret
  exact hfin
theorem appendConst_any (B : Nat) (v : Value) (l : List UInt8) (c : K) (w : World) (hc : Fits c) (hl : l.length ≤ 800000) (hB : B ≤ w.heap.size) (ho : w.ownsRow B 5 1 v l.length (U8 l)) (ht : c.tag ≠ 2) :
    Calls Try.prog 83 #[v, c.val] w fun e w' => Put B l (M.cb c) w e w' := by
  rcases (show c.tag = 0 ∨ c.tag = 1 ∨ c.tag = 3 ∨ c.tag = 4 ∨ c.tag = 5 ∨ c.tag = 6 ∨ c.tag = 7 ∨ c.tag = 8 ∨ 9 ≤ c.tag by omega) with h | h | h | h | h | h | h | h | h
  · exact ac_0 B v l c w hc hl hB ho h
  · exact ac_1 B v l c w hc hl hB ho h
  · exact ac_3 B v l c w hc hl hB ho h
  · exact ac_4 B v l c w hc hl hB ho h
  · exact ac_5 B v l c w hc hl hB ho h
  · exact ac_6 B v l c w hc hl hB ho h
  · exact ac_7 B v l c w hc hl hB ho h
  · exact ac_8 B v l c w hc hl hB ho h
  · exact ac_rest B v l c w hc hl hB ho h
end Go.Proofs.Ytgihfcjddkpkaaa.Po
