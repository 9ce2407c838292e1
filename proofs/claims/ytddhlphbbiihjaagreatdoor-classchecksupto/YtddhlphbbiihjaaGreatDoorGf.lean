/-
  ClassChecks: the reference looks at a method.
-/
import Derived.Test.YtddhlphbbiihjaaGreatDoorGd
import Derived.Test.YtddhlphbbiihjaaGreatDoorGe
set_option linter.unusedVariables false
set_option linter.unusedSimpArgs false
namespace Go.Proofs.YtddhlphbbiihjaaGreatDoor.Cl
open Go.RowKit Go.Maps Kn
theorem meth_void : W.meth [40, 41, 86] = some ([], [86]) := by
  have hv : W.V [41, 86] = ([], [41, 86]) := W.V_none (by first | rfl | decide | simp [valLen])
  rw [W.meth_cons hv, if_pos ⟨rfl, by decide, by decide⟩]
theorem meth_some {nm of : List UInt8} (h : wmE nm of = 0) : W.meth of ≠ none := by
  intro hn
  unfold wmE at h
  rw [hn] at h
  split at h
  · cases h
  · cases h
theorem wmE_ref (nm of : List UInt8) : wmE nm of = if nm = clinitB then (if of = [40, 41, 86] then 0 else 9) else mkE nm of true := by
  by_cases h1 : nm = clinitB
  · rw [if_pos h1]
    unfold wmE
    have hc : memB clinitB true = 3 := by decide
    rw [h1, hc, if_neg (by decide)]
    by_cases h2 : of = [40, 41, 86]
    · rw [if_pos h2, h2, meth_void]
      simp [show ¬ clinitB = initB by decide]
    · rw [if_neg h2]
      cases W.meth of with
      | none => rfl
      | some x =>
        obtain ⟨L, g⟩ := x
        simp [h2, show ¬ clinitB = initB by decide]
  · rw [if_neg h1, mkE_ref, if_neg h1, if_neg (by simp)]
set_option maxRecDepth 100000 in
set_option maxHeartbeats 8000000 in
theorem rmethod_any (kb i : Nat) (c : Csi) (vp vi vf vm : Value) (L : List Mv) (w : World) (h : Qk w kb c vp vi vf vm L) (hok : c.Ok) (hs : Csm c) (hA : AllOk c.pool) (hcm : Cap vm) (hi : i < L.length) :
    Calls Tryz.prog 16 #[.pointer (some ⟨kb, 0, none⟩), .int .i64 (i : Int)] w fun e w' => e = .returned (.tuple #[.int .i64 (mthE c.pool c.flags ((L.take i).map fun j => sgM c.pool j.m) (L.getD i Mv.zero).m).1, .int .i64 (mthE c.pool c.flags ((L.take i).map fun j => sgM c.pool j.m) (L.getD i Mv.zero).m).2]) ∧ Below w.heap.size w w' := by
  have hpl : c.pool.length ≤ 1048576 := by have := hs.p; omega
  have hLl : L.length ≤ 32768 := by have h1 := hs.m; rw [← h.c.e, List.length_map] at h1; exact h1
  have HTx := hide (fun (x : Nat) (hx : x < 65536) (w1 : World) (hb1 : Below w.heap.size w w1) => text37_any kb x c vp vi vf vm L w1 (h.below hb1) hpl hx)
  have HK := hide (fun (w1 : World) (hb1 : Below w.heap.size w w1) => (h.below hb1).b)
  have hmem : (L.getD i Mv.zero) ∈ L := mem_m hi
  have hmc : (L.getD i Mv.zero).m ∈ c.methods := by rw [← h.c.e]; exact List.mem_map_of_mem hmem
  have hmo := hok.xm _ hmc
  have hms := hs.h _ hmc
  have HCo := hide (fun (w1 : World) (hb1 : Below w.heap.size w w1) => rcode_any kb c vp vi vf vm (L.getD i Mv.zero).hv L (L.getD i Mv.zero).m.code w1 (h.below hb1) hs hA hmo.d (FIn.below Hi.len (h.c.h _ hmem) hb1) (by have := hms.1; omega) (by have := hms.2; omega))
  have hff := fun (s : ByteArray) (w1 : World) (hb1 : Below w.heap.size w w1) => flags_any kb (L.getD i Mv.zero).m.flags s c vp vi vf vm L w1 (h.below hb1) hok.x3 hmo.a
  obtain ⟨hva, hvc, hve, _⟩ := h.c.h _ hmem
  obtain ⟨pa, pc, rfl, _⟩ := h.c.p.ex
  obtain ⟨ia, ic, rfl, _⟩ := h.c.i
  obtain ⟨fa, fc, rfl, _⟩ := h.c.f
  obtain ⟨ma, mc, rfl, hmcell⟩ := h.c.m
  have hcap : L.length ≤ mc := hcm _ _ _ rfl
  obtain ⟨gb, go, rfl, hcell⟩ := hmcell (by intro e; rw [e] at hi; simp at hi)
  have HcW : Hid (∀ j, j < L.length → ∀ w9 : World, Below w.heap.size w w9 → ∀ q (hq : q < 9), w9.cell? ⟨gb, go + j * 9 + q, none⟩ = ((L.getD j Mv.zero).cells)[q]?) := hide (fun j hj w9 hb9 q hq => by
    have h0 := hcell j hj q hq
    have hc : ((L.getD j Mv.zero).cells)[q]? = some (((L.getD j Mv.zero).cells)[q]'(by rw [Mv.len]; exact hq)) := List.getElem?_eq_getElem _
    rw [hb9.cell (cell_lt (h0.trans hc))]; exact h0)
  have HHv : Hid (∀ j, j < L.length → ∃ a n cp, (L.getD j Mv.zero).hv = .slice a n cp) := hide (fun j hj => by
    obtain ⟨a, cp, e, _⟩ := h.c.h _ (mem_m hj)
    exact ⟨_, _, _, e⟩)
  have e0 : w.cell? ⟨gb, go + i * 9, none⟩ = some (.int .u16 ((L.getD i Mv.zero).m.flags : Int)) := hcell i hi 0 (by omega)
  have e1 : w.cell? ⟨gb, go + i * 9 + 1, none⟩ = some (.int .u16 ((L.getD i Mv.zero).m.name : Int)) := hcell i hi 1 (by omega)
  have e2 : w.cell? ⟨gb, go + i * 9 + 2, none⟩ = some (.int .u16 ((L.getD i Mv.zero).m.type_ : Int)) := hcell i hi 2 (by omega)
  have e3 : w.cell? ⟨gb, go + i * 9 + 3, none⟩ = some (.bool (L.getD i Mv.zero).m.has) := hcell i hi 3 (by omega)
  have e4 : w.cell? ⟨gb, go + i * 9 + 4, none⟩ = some (.int .i64 (L.getD i Mv.zero).m.code.stack) := hcell i hi 4 (by omega)
  have e5 : w.cell? ⟨gb, go + i * 9 + 5, none⟩ = some (.int .i64 (L.getD i Mv.zero).m.code.locals) := hcell i hi 5 (by omega)
  have e6 : w.cell? ⟨gb, go + i * 9 + 6, none⟩ = some (.string ⟨(L.getD i Mv.zero).m.code.bytes.toArray⟩) := hcell i hi 6 (by omega)
  have e7 : w.cell? ⟨gb, go + i * 9 + 7, none⟩ = some (L.getD i Mv.zero).hv := hcell i hi 7 (by omega)
  have e8 : w.cell? ⟨gb, go + i * 9 + 8, none⟩ = some (.string ⟨(L.getD i Mv.zero).m.code.map.toArray⟩) := hcell i hi 8 (by omega)
  have HXj := hide (fun j (hj : j < L.length) => show (L.getD j Mv.zero).m.Ok from hok.xm _ (by rw [← h.c.e]; exact List.mem_map_of_mem (mem_m hj)))
  have HM := hide (con_take (fun j : Mv => sgM c.pool j.m) L Mv.zero i (by omega) (sgM c.pool (L.getD i Mv.zero).m))
  have k8 := h.b.cell 8
  simp at k8
  have hii : (i : Int) < (L.length : Int) := by omega
  have hif : (i : Int) ≤ (mc : Int) := by omega
  have HSm := hide hs.s
  generalize hr : mthE c.pool c.flags ((L.take i).map fun j => sgM c.pool j.m) (L.getD i Mv.zero).m = r
  unfold mthE at hr
  have Hr := hide hr
  clear hr h hok hs hcell hmcell hcm hmem hmc hms hA
  generalize hfe : L.getD i Mv.zero = f at *
  clear hfe
  rw [hve] at e7 HCo
  have hsg : sgM c.pool f.m = (M.text c.pool f.m.name, M.text c.pool f.m.type_) := rfl
  rw [hsg] at HM Hr
  clear hsg hve
  have hft := hff ⟨(M.text c.pool f.m.name).toArray⟩
  rw [dt_of] at hft
  have HFl := hide hft
  have HMe := hide (fun (w1 : World) => member_method (M.text c.pool f.m.name) (M.text c.pool f.m.type_) true w1 ((unhide HSm).text _) ((unhide HSm).text _))
  have hmt := fun w1 : World => W.RMethod_any ⟨(M.text c.pool f.m.type_).toArray⟩ w1 (by rw [sz_of]; have := (unhide HSm).text (f.m.type_ : Int); omega)
  rw [dt_of] at hmt
  have HMt := hide hmt
  have htl := (unhide HSm).text (f.m.type_ : Int)
  have g1 : (bits BinOp.and IntKind.u16 (f.m.flags : Int) 1280 != 0) = hasF f.m.flags 1280 := and_ne f.m.flags 1280 hmo.a (by omega)
  have g2 : (bits BinOp.and IntKind.u16 (f.m.flags : Int) 8 == 8) = hasF f.m.flags 8 := one_bit (a := f.m.flags) (b := 8) 3 rfl hmo.a (by omega)
  have HTn := hide (unhide HTx f.m.name hmo.b)
  have HTt := hide (unhide HTx f.m.type_ hmo.c)
  have hlo := hmo.d.b
  have hwr := wmE_ref (M.text c.pool f.m.name) (M.text c.pool f.m.type_)
  clear hff hft hmt
  generalize M.text c.pool (f.m.name : Int) = nm at *
  generalize M.text c.pool (f.m.type_ : Int) = of at *
  generalize isT c.pool (f.m.name : Int) = okn at *
  generalize isT c.pool (f.m.type_ : Int) = okt at *
  have Hwr := hide hwr
  obtain ⟨bc, hbc⟩ : ∃ bc, bc = decide (nm = clinitB) := ⟨_, rfl⟩
  obtain ⟨bo, hbo⟩ : ∃ bo, bo = decide (of = [40, 41, 86]) := ⟨_, rfl⟩
  have n1 : (nm == [60, 99, 108, 105, 110, 105, 116, 62]) = bc := by rw [hbc]; exact lst_eq _ _
  have n2 : (of == [40, 41, 86]) = bo := by rw [hbo]; exact lst_eq _ _
  have n2' : (of != [40, 41, 86]) = !bo := by rw [hbo, Bool.eq_iff_iff]; simp
  have Hbc := hide hbc
  have Hbo := hide hbo
  clear hbc hbo
  obtain ⟨w0, hw0⟩ : ∃ w0, w0 = w.alloc (.cells #[.int .u16 (f.m.flags : Int), .int .u16 (f.m.name : Int), .int .u16 (f.m.type_ : Int), .bool f.m.has, .int .i64 f.m.code.stack, .int .i64 f.m.code.locals, .string ⟨f.m.code.bytes.toArray⟩, .slice hva f.m.code.handlers.length hvc, .string ⟨f.m.code.map.toArray⟩] 43) := ⟨_, rfl⟩
  have hb0 : Below w.heap.size w w0 := by rw [hw0]; exact (Below.refl _ _).alloc (Nat.le_refl _) _
  have hk : Bk w0 w.heap.size #[.int .u16 (f.m.flags : Int), .int .u16 (f.m.name : Int), .int .u16 (f.m.type_ : Int), .bool f.m.has, .int .i64 f.m.code.stack, .int .i64 f.m.code.locals, .string ⟨f.m.code.bytes.toArray⟩, .slice hva f.m.code.handlers.length hvc, .string ⟨f.m.code.map.toArray⟩] 43 := by rw [hw0]; exact Bk.new _ _ _
  have c1 := hk.cell 1
  have c2 := hk.cell 2
  simp at c1 c2
  have HB0 := hide hb0
  have HF := hide hk
  clear hb0 hk hmo hwr
  go_enter Tryz.func16, Tryz.ntmps16
  go_upto_region 2 with fail
  rw [← hw0]
  clear hw0 e0 e1 e2 e3 e4 e5 e6 e7 e8 k8
  go_wp2_with fail
  refine (unhide HTn _ (unhide HB0)).mono ?_
  rintro e w1 ⟨rfl, hw1⟩
  subst w1
  go_wp2_with fail
  refine (unhide HTt _ (unhide HB0)).mono ?_
  rintro e w1 ⟨rfl, hw1⟩
  subst w1
  clear HTn HTt c1 c2
  obtain ⟨ok, hokk⟩ : ∃ ok, ok = (okn && okt) := ⟨_, rfl⟩
  have hE := unhide Hr
  rw [← hokk] at hE
  have HE := hide hE
  clear hE Hr
  cases ok
  · have hE := unhide HE
    simp only [Bool.false_eq_true, reduceIte] at hE
    subst hE
    clear HE
    cases okn <;> cases okt <;> simp at hokk
    all_goals
      go_wp2
      go_ret2
      exact ⟨rfl, unhide HB0⟩
  have hE := unhide HE
  simp only [reduceIte] at hE
  have HE := hide hE
  clear hE
  obtain rfl : okn = true := by cases okn <;> simp at hokk ⊢
  obtain rfl : okt = true := by cases okt <;> simp at hokk ⊢
  clear hokk
  have HMe1 := hide (unhide HMe w0)
  clear HMe
  have n3 := nat_ne0 (mkE nm of true)
  go_upto_if 54 with fail
  go_cut [11] from 55 to 63 (fun v11 wx => wmE nm of = 0 ∧ ∃ wy, wy = wx ∧ Below w0.heap.size w0 wy)
  case first =>
    have hE := unhide HE
    rw [unhide Hwr] at hE
    cases bc
    case true =>
      have h1 : nm = clinitB := of_decide_eq_true (unhide Hbc).symm
      rw [if_pos h1] at hE
      cases bo
      case true =>
        have h2 : of = [40, 41, 86] := of_decide_eq_true (unhide Hbo).symm
        have Hw : Hid (wmE nm of = 0) := hide (by rw [unhide Hwr, if_pos h1, if_pos h2])
        clear hE h1 h2 HE
        go_wp2_with fail
        go_meet
        exact ⟨unhide Hw, _, rfl, Below.refl _ _⟩
      case false =>
        have h2 : ¬ of = [40, 41, 86] := of_decide_eq_false (unhide Hbo).symm
        rw [if_neg h2, if_neg (show ¬ (9 : Nat) = 0 by decide)] at hE
        subst hE
        clear h1 h2 HE
        go_wp2
        go_ret2
        exact ⟨rfl, unhide HB0⟩
    case false =>
      have h1 : ¬ nm = clinitB := of_decide_eq_false (unhide Hbc).symm
      rw [if_neg h1] at hE
      have Hw : Hid (mkE nm of true = 0 → wmE nm of = 0) := hide (fun h => by rw [unhide Hwr, if_neg h1]; exact h)
      by_cases h2 : mkE nm of true = 0
      · rw [decide_eq_true h2, Bool.not_true] at n3
        have Hw2 := hide (unhide Hw h2)
        clear hE h1 h2 HE
        go_wp2_with fail
        refine (unhide HMe1).mono ?_
        rintro e w9 ⟨rfl, hb9⟩
        have HB9 := hide hb9
        clear hb9
        go_wp2_with fail
        go_meet
        exact ⟨unhide Hw2, _, rfl, unhide HB9⟩
      · rw [decide_eq_false h2, Bool.not_false] at n3
        rw [if_neg h2] at hE
        subst hE
        clear h1 h2 HE
        go_wp2_with fail
        refine (unhide HMe1).mono ?_
        rintro e w9 ⟨rfl, hb9⟩
        have HB9 := hide ((unhide HB0).trans (hb9.mono (unhide HB0).size))
        clear hb9
        go_wp2
        go_ret2
        exact ⟨rfl, unhide HB9⟩
  case rest =>
    obtain ⟨hwm, w1, hw1, hb1⟩ := hcut
    subst hw1
    have hE := unhide HE
    rw [if_pos hwm] at hE
    have HE := hide hE
    have HB1 := hide ((unhide HB0).trans (hb1.mono (unhide HB0).size))
    have HF1 := hide ((unhide HF).below hb1)
    have Hms := hide (meth_some hwm)
    clear hE hwm hb1 HB0 HF HMe1 n1 n2 n2' n3 Hwr Hbc Hbo
    have a0 := (unhide HF1).cell 0
    simp at a0
    have HFx := hide (unhide HFl w1 (unhide HB1))
    clear HFl
    generalize wmf c.flags f.m.flags nm = bad at *
    cases bad
    · have hE := unhide HE
      simp only [Bool.false_eq_true, reduceIte] at hE
      have HE := hide hE
      clear hE
      go_wp2_with fail
      refine (unhide HFx).mono ?_
      rintro e w9 ⟨rfl, hw9⟩
      subst w9
      clear HFx a0
      have kk8 := (unhide HK _ (unhide HB1)).cell 8
      simp at kk8
      go_wp2_with fail
      go_loopw [77] (fun x wr => ∃ j : Nat, j ≤ i ∧ x = .int .i64 j ∧ Below w1.heap.size w1 wr ∧ Hid (∀ m, m < j → sgM c.pool (L.getD m Mv.zero).m ≠ (nm, of))) (fun x _ => i - (intOf x).toNat)
      case atStart => exact ⟨0, Nat.zero_le _, rfl, Below.refl _ _, hide (fun m hm => by omega)⟩
      case round =>
        obtain ⟨j, hj, rfl, hbr, Hn⟩ := hrel
        have hbW := (unhide HB1).trans (hbr.mono (unhide HB1).size)
        by_cases hlt : j < i
        · have hjl : j < L.length := by omega
          have e0 : wr.cell? ⟨gb, go + j * 9, none⟩ = some (.int .u16 ((L.getD j Mv.zero).m.flags : Int)) := unhide HcW j hjl wr hbW 0 (by omega)
          have e1 : wr.cell? ⟨gb, go + j * 9 + 1, none⟩ = some (.int .u16 ((L.getD j Mv.zero).m.name : Int)) := unhide HcW j hjl wr hbW 1 (by omega)
          have e2 : wr.cell? ⟨gb, go + j * 9 + 2, none⟩ = some (.int .u16 ((L.getD j Mv.zero).m.type_ : Int)) := unhide HcW j hjl wr hbW 2 (by omega)
          have e3 : wr.cell? ⟨gb, go + j * 9 + 3, none⟩ = some (.bool (L.getD j Mv.zero).m.has) := unhide HcW j hjl wr hbW 3 (by omega)
          have e4 : wr.cell? ⟨gb, go + j * 9 + 4, none⟩ = some (.int .i64 (L.getD j Mv.zero).m.code.stack) := unhide HcW j hjl wr hbW 4 (by omega)
          have e5 : wr.cell? ⟨gb, go + j * 9 + 5, none⟩ = some (.int .i64 (L.getD j Mv.zero).m.code.locals) := unhide HcW j hjl wr hbW 5 (by omega)
          have e6 : wr.cell? ⟨gb, go + j * 9 + 6, none⟩ = some (.string ⟨(L.getD j Mv.zero).m.code.bytes.toArray⟩) := unhide HcW j hjl wr hbW 6 (by omega)
          have e7 : wr.cell? ⟨gb, go + j * 9 + 7, none⟩ = some (L.getD j Mv.zero).hv := unhide HcW j hjl wr hbW 7 (by omega)
          have e8 : wr.cell? ⟨gb, go + j * 9 + 8, none⟩ = some (.string ⟨(L.getD j Mv.zero).m.code.map.toArray⟩) := unhide HcW j hjl wr hbW 8 (by omega)
          obtain ⟨ya, yn, yc, hy⟩ := unhide HHv j hjl
          rw [hy] at e7
          have hgo := unhide HXj j hjl
          have Hnj : Hid (sgM c.pool (L.getD j Mv.zero).m ≠ (nm, of) → ∀ m, m < j + 1 → sgM c.pool (L.getD m Mv.zero).m ≠ (nm, of)) := hide (fun h m hm => by
            rcases Nat.lt_or_ge m j with h1 | h1
            · exact unhide Hn m h1
            · obtain rfl : m = j := by omega
              exact h)
          have Hex : Hid (sgM c.pool (L.getD j Mv.zero).m = (nm, of) → ((L.take i).map fun j => sgM c.pool j.m).contains (nm, of) = true) := hide (fun h => (unhide HM).2 ⟨j, hlt, h⟩)
          have hji : (j : Int) < (i : Int) := by omega
          clear hy
          generalize L.getD j Mv.zero = g at *
          have hsg : sgM c.pool g.m = (M.text c.pool g.m.name, M.text c.pool g.m.type_) := rfl
          rw [hsg] at Hnj Hex
          clear hsg
          obtain ⟨w2, hw2⟩ : ∃ w2, w2 = wr.alloc (.cells #[.int .u16 (g.m.flags : Int), .int .u16 (g.m.name : Int), .int .u16 (g.m.type_ : Int), .bool g.m.has, .int .i64 g.m.code.stack, .int .i64 g.m.code.locals, .string ⟨g.m.code.bytes.toArray⟩, .slice ya yn yc, .string ⟨g.m.code.map.toArray⟩] 43) := ⟨_, rfl⟩
          have hb2 : Below w1.heap.size w1 w2 := by rw [hw2]; exact hbr.alloc hbr.size _
          have hg2 : Bk w2 wr.heap.size #[.int .u16 (g.m.flags : Int), .int .u16 (g.m.name : Int), .int .u16 (g.m.type_ : Int), .bool g.m.has, .int .i64 g.m.code.stack, .int .i64 g.m.code.locals, .string ⟨g.m.code.bytes.toArray⟩, .slice ya yn yc, .string ⟨g.m.code.map.toArray⟩] 43 := by rw [hw2]; exact Bk.new _ _ _
          have d1 := hg2.cell 1
          have d2 := hg2.cell 2
          simp at d1 d2
          have hbW2 := (unhide HB1).trans (hb2.mono (unhide HB1).size)
          have HGn := hide (unhide HTx g.m.name hgo.b w2 hbW2)
          have HGt := hide (unhide HTx g.m.type_ hgo.c w2 hbW2)
          have HB2 := hide hb2
          have HBW2 := hide hbW2
          generalize M.text c.pool (g.m.name : Int) = gn at *
          generalize M.text c.pool (g.m.type_ : Int) = gt at *
          generalize isT c.pool (g.m.name : Int) = ogn at *
          generalize isT c.pool (g.m.type_ : Int) = ogt at *
          have q1 : (gn == nm) = decide (gn = nm) := lst_eq _ _
          have q2 : (gt == of) = decide (gt = of) := lst_eq _ _
          clear hb2 hg2 hbW2 hbW hbr hgo
          go_upto_region 17 with fail
          rw [← hw2]
          clear hw2 e0 e1 e2 e3 e4 e5 e6 e7 e8
          go_wp2_with fail
          refine (unhide HGn).mono ?_
          rintro e w9 ⟨rfl, hw9⟩
          subst w9
          go_wp2_with fail
          refine (unhide HGt).mono ?_
          rintro e w9 ⟨rfl, hw9⟩
          subst w9
          clear HGn HGt d1 d2
          by_cases r1 : gn = nm
          · rw [decide_eq_true r1] at q1
            by_cases r2 : gt = of
            · rw [decide_eq_true r2] at q2
              have hE := unhide HE
              rw [if_pos (unhide Hex (by rw [r1, r2]))] at hE
              subst hE
              clear r1 r2 HE Hn Hnj Hex
              go_wp2
              go_ret2
              exact ⟨rfl, unhide HBW2⟩
            · rw [decide_eq_false r2] at q2
              have Hn2 := hide (unhide Hnj (fun h => r2 (Prod.mk.inj h).2))
              clear r1 r2 Hn Hnj Hex
              go_wp2
              go_roundw
              case rel => exact ⟨j + 1, by omega, by go_num, unhide HB2, Hn2⟩
              case measure => simp [intOf]; omega
          · rw [decide_eq_false r1] at q1
            have Hn2 := hide (unhide Hnj (fun h => r1 (Prod.mk.inj h).1))
            clear r1 q2 Hn Hnj Hex
            go_wp2
            go_roundw
            case rel => exact ⟨j + 1, by omega, by go_num, unhide HB2, Hn2⟩
            case measure => simp [intOf]; omega
        · obtain rfl : j = i := by omega
          have hnc : ¬ ((L.take j).map fun j => sgM c.pool j.m).contains (nm, of) = true := fun h => by
            obtain ⟨m, hm, he⟩ := (unhide HM).1 h
            exact unhide Hn m hm he
          have hE := unhide HE
          rw [if_neg hnc] at hE
          have HE2 := hide hE
          have hFr := (unhide HF1).below hbr
          have a0 := hFr.cell 0
          have a3 := hFr.cell 3
          simp at a0 a3
          have HFr := hide hFr
          have HBW := hide hbW
          clear hE hnc HE Hn hbr hbW kk8 hFr HTx HcW HHv HXj HM HB1 HF1
          obtain ⟨wq, hwq⟩ : ∃ wq, wq = wr := ⟨_, rfl⟩
          subst hwq
          generalize hasF f.m.flags 1280 = bare at *
          generalize hasF f.m.flags 8 = stat at *
          generalize hhs : f.m.has = has at *
          clear hhs
          cases has <;> cases bare
          · have hE := unhide HE2
            simp at hE
            subst hE
            clear HE2
            go_wp2
            go_ret2
            exact ⟨rfl, unhide HBW⟩
          · have hE := unhide HE2
            simp at hE
            subst hE
            clear HE2
            go_wp2
            go_ret2
            exact ⟨rfl, unhide HBW⟩
          · have hE := unhide HE2
            simp only [Bool.true_eq_false, if_false, reduceCtorEq] at hE
            rw [codE_X] at hE
            have HE := hide hE
            clear hE HE2
            cases stat
            · have hE := unhide HE
              simp only [Bool.false_eq_true, reduceIte] at hE
              have HE3 := hide hE
              clear hE HE
              go_upto_region 30 with go_in
              go_wp2_with fail
              refine (unhide HMt _).mono ?_
              rintro e w2 ⟨hb2, hR⟩
              have HB2 := hide ((unhide HBW).trans (hb2.mono (unhide HBW).size))
              have HF2 := hide ((unhide HFr).below hb2)
              clear hb2 HMt a0 a3
              rcases hR with ⟨hn, rfl⟩ | ⟨T, g, v, hn, rfl, hown⟩
              · exact absurd hn (unhide Hms)
              have hmsl : mslots of = W.slotsN T := by unfold mslots; rw [hn]
              have hTl : T.length ≤ 32768 := Nat.le_trans (Ck.meth_len hn) (by omega)
              obtain ⟨ad, cp, rfl, hcl⟩ : ∃ ad cp, v = .slice ad T.length cp ∧ ∀ k (hk : k < T.length), ∃ tg tof, ad = some ⟨tg, tof, none⟩ ∧ w2.cell? ⟨tg, tof + k, none⟩ = (W.SV T)[k]? := by
                rcases W.Has.of_own hown with ⟨ta, tc, h1, h2⟩ | ⟨tg, tof, tc, h1, h2⟩
                · subst h2; exact ⟨ta, tc, h1, fun k hk => by simp at hk⟩
                · exact ⟨_, tc, h1, fun k hk => ⟨tg, tof, rfl, h2 k hk⟩⟩
              have hE := unhide HE3
              rw [hmsl] at hE
              have HE4 := hide hE
              have Hcl := hide hcl
              clear hE HE3 hmsl hn hown hcl Hms
              go_wp2_with fail
              go_loopw [19, 124] (fun s y wx => ∃ k : Nat, k ≤ T.length ∧ y = .int .i64 (k : Int) ∧ s = .int .i64 ((W.slotsN (T.take k) + 1 : Nat) : Int) ∧ w2 = wx) (fun _ y _ => T.length - (intOf y).toNat)
              case atStart => exact ⟨0, Nat.zero_le _, rfl, rfl, rfl⟩
              case round =>
                obtain ⟨k, hk, rfl, rfl, hwx⟩ := hrel
                subst hwx
                have hsl := W.slots_le (T.take k)
                rw [List.length_take] at hsl
                by_cases hlt3 : k < T.length
                · obtain ⟨l, hl1, hl2⟩ := W.SV_at hlt3
                  obtain ⟨tg, tof, hade, hc3⟩ := unhide Hcl k hlt3
                  subst hade
                  have hcell := hc3.trans hl2
                  have hst := W.slots_take hl1
                  have hln := W.slotN_le l
                  have HS := hide (fun w => W.RSlots_any ⟨l.toArray⟩ w)
                  rw [data_of] at HS
                  have Hst := hide hst
                  generalize W.slotsN (T.take k) = A at *
                  generalize W.slotN l = D at *
                  have hki : (k : Int) < (T.length : Int) := by omega
                  have hA : A ≤ 2097152 := by omega
                  clear hl1 hl2 hst hsl hc3
                  go_wp2_with fail
                  refine (unhide HS _).mono ?_
                  rintro e w' ⟨rfl, hww⟩
                  subst w'
                  go_wp2
                  go_roundw
                  case rel => exact ⟨k + 1, by omega, by simp, by rw [unhide Hst]; first | (simp; omega) | simp, trivial⟩
                  case measure => simp [intOf]; omega
                · obtain rfl : k = T.length := by omega
                  rw [List.take_length]
                  rw [List.take_length] at hsl
                  have a5 := (unhide HF2).cell 5
                  simp at a5
                  have hE := unhide HE4
                  generalize W.slotsN T = A at *
                  by_cases hlo2 : f.m.code.locals < ((A + 1 : Nat) : Int)
                  · rw [if_pos hlo2] at hE
                    subst hE
                    clear HE4
                    go_wp2
                    go_ret2
                    exact ⟨rfl, unhide HB2⟩
                  · rw [if_neg hlo2] at hE
                    have HC2 := hide (unhide HCo _ (unhide HB2))
                    rw [hE] at HC2
                    have a4 := (unhide HF2).cell 4
                    have a6 := (unhide HF2).cell 6
                    have a7 := (unhide HF2).cell 7
                    have a8 := (unhide HF2).cell 8
                    simp at a4 a6 a7 a8
                    clear HE4 hE HCo
                    go_wp2_with fail
                    refine (unhide HC2).mono ?_
                    rintro e w3 ⟨rfl, hb3⟩
                    have HB3 := hide ((unhide HB2).trans (hb3.mono (unhide HB2).size))
                    clear hb3
                    go_wp2
                    go_ret2
                    exact ⟨rfl, unhide HB3⟩
            · have hE := unhide HE
              simp only [Bool.false_eq_true, reduceIte] at hE
              have HE3 := hide hE
              clear hE HE
              go_upto_region 30 with go_in
              go_wp2_with fail
              refine (unhide HMt _).mono ?_
              rintro e w2 ⟨hb2, hR⟩
              have HB2 := hide ((unhide HBW).trans (hb2.mono (unhide HBW).size))
              have HF2 := hide ((unhide HFr).below hb2)
              clear hb2 HMt a0 a3
              rcases hR with ⟨hn, rfl⟩ | ⟨T, g, v, hn, rfl, hown⟩
              · exact absurd hn (unhide Hms)
              have hmsl : mslots of = W.slotsN T := by unfold mslots; rw [hn]
              have hTl : T.length ≤ 32768 := Nat.le_trans (Ck.meth_len hn) (by omega)
              obtain ⟨ad, cp, rfl, hcl⟩ : ∃ ad cp, v = .slice ad T.length cp ∧ ∀ k (hk : k < T.length), ∃ tg tof, ad = some ⟨tg, tof, none⟩ ∧ w2.cell? ⟨tg, tof + k, none⟩ = (W.SV T)[k]? := by
                rcases W.Has.of_own hown with ⟨ta, tc, h1, h2⟩ | ⟨tg, tof, tc, h1, h2⟩
                · subst h2; exact ⟨ta, tc, h1, fun k hk => by simp at hk⟩
                · exact ⟨_, tc, h1, fun k hk => ⟨tg, tof, rfl, h2 k hk⟩⟩
              have hE := unhide HE3
              rw [hmsl] at hE
              have HE4 := hide hE
              have Hcl := hide hcl
              clear hE HE3 hmsl hn hown hcl Hms
              go_wp2_with fail
              go_loopw [19, 124] (fun s y wx => ∃ k : Nat, k ≤ T.length ∧ y = .int .i64 (k : Int) ∧ s = .int .i64 ((W.slotsN (T.take k) + 0 : Nat) : Int) ∧ w2 = wx) (fun _ y _ => T.length - (intOf y).toNat)
              case atStart => exact ⟨0, Nat.zero_le _, rfl, rfl, rfl⟩
              case round =>
                obtain ⟨k, hk, rfl, rfl, hwx⟩ := hrel
                subst hwx
                have hsl := W.slots_le (T.take k)
                rw [List.length_take] at hsl
                by_cases hlt3 : k < T.length
                · obtain ⟨l, hl1, hl2⟩ := W.SV_at hlt3
                  obtain ⟨tg, tof, hade, hc3⟩ := unhide Hcl k hlt3
                  subst hade
                  have hcell := hc3.trans hl2
                  have hst := W.slots_take hl1
                  have hln := W.slotN_le l
                  have HS := hide (fun w => W.RSlots_any ⟨l.toArray⟩ w)
                  rw [data_of] at HS
                  have Hst := hide hst
                  generalize W.slotsN (T.take k) = A at *
                  generalize W.slotN l = D at *
                  have hki : (k : Int) < (T.length : Int) := by omega
                  have hA : A ≤ 2097152 := by omega
                  clear hl1 hl2 hst hsl hc3
                  go_wp2_with fail
                  refine (unhide HS _).mono ?_
                  rintro e w' ⟨rfl, hww⟩
                  subst w'
                  go_wp2
                  go_roundw
                  case rel => exact ⟨k + 1, by omega, by simp, by rw [unhide Hst]; first | (simp; omega) | simp, trivial⟩
                  case measure => simp [intOf]; omega
                · obtain rfl : k = T.length := by omega
                  rw [List.take_length]
                  rw [List.take_length] at hsl
                  have a5 := (unhide HF2).cell 5
                  simp at a5
                  have hE := unhide HE4
                  generalize W.slotsN T = A at *
                  by_cases hlo2 : f.m.code.locals < ((A + 0 : Nat) : Int)
                  · rw [if_pos hlo2] at hE
                    subst hE
                    clear HE4
                    go_wp2
                    go_ret2
                    exact ⟨rfl, unhide HB2⟩
                  · rw [if_neg hlo2] at hE
                    have HC2 := hide (unhide HCo _ (unhide HB2))
                    rw [hE] at HC2
                    have a4 := (unhide HF2).cell 4
                    have a6 := (unhide HF2).cell 6
                    have a7 := (unhide HF2).cell 7
                    have a8 := (unhide HF2).cell 8
                    simp at a4 a6 a7 a8
                    clear HE4 hE HCo
                    go_wp2_with fail
                    refine (unhide HC2).mono ?_
                    rintro e w3 ⟨rfl, hb3⟩
                    have HB3 := hide ((unhide HB2).trans (hb3.mono (unhide HB2).size))
                    clear hb3
                    go_wp2
                    go_ret2
                    exact ⟨rfl, unhide HB3⟩
          · have hE := unhide HE2
            simp at hE
            subst hE
            clear HE2
            go_wp2
            go_ret2
            exact ⟨rfl, unhide HBW⟩
    · have hE := unhide HE
      simp only [reduceIte] at hE
      subst hE
      clear HE
      go_wp2_with fail
      refine (unhide HFx).mono ?_
      rintro e w9 ⟨rfl, hw9⟩
      subst w9
      go_wp2
      go_ret2
      exact ⟨rfl, unhide HB1⟩
end Go.Proofs.YtddhlphbbiihjaaGreatDoor.Cl
