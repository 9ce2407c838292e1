/-
  ClassChecks: the reference looks at a field.
-/
import Derived.Test.YtddhlphbbiihjaaGreatDoorMgGb
import Derived.Test.YtddhlphbbiihjaaGreatDoorEr
set_option linter.unusedVariables false
set_option linter.unusedSimpArgs false
namespace Go.Proofs.YtddhlphbbiihjaaGreatDoor.Cl
open Go.RowKit Go.Maps Kn
theorem conE_ref (P : List K) (x : K) (e3 : x.tag = 9 ∨ x.tag = 10 ∨ x.tag = 11) : conE P x = refE P x := by
  unfold conE
  rw [if_neg (by omega), if_neg (by omega), if_neg (by omega), if_pos e3]
theorem rconstant_any (kb : Nat) (x : K) (c : Csi) (vp vi vf vm : Value) (L : List Mv) (w : World) (h : Qk w kb c vp vi vf vm L) (hP : c.pool.length ≤ 1048576) (hS : Sml c.pool) (hc : x.tag < 256) (ha : x.a < 65536) (hb : x.b < 65536) :
    Calls Tryz.prog 13 #[.pointer (some ⟨kb, 0, none⟩), x.val] w fun e w' => e = .returned (.int .i64 (conE c.pool x : Nat)) ∧ Below w.heap.size w w' := by
  by_cases e3 : x.tag = 9 ∨ x.tag = 10 ∨ x.tag = 11
  · rw [conE_ref _ _ e3]; exact rconstant_ref kb x c vp vi vf vm L w h hP hS hc e3 ha hb
  · exact rconstant_lo kb x c vp vi vf vm L w h hP hS hc e3 ha hb
/-- Is one of the first the same? -/
theorem con_take {α : Type} (g : α → List UInt8 × List UInt8) (l : List α) (d : α) (k : Nat) (hk : k ≤ l.length) (s : List UInt8 × List UInt8) : ((l.take k).map g).contains s = true ↔ ∃ j, j < k ∧ g (l.getD j d) = s := by
  rw [List.contains_iff_mem, List.mem_map]
  constructor
  · rintro ⟨x, hx, he⟩
    obtain ⟨j, hj, rfl⟩ := List.getElem_of_mem hx
    have hj1 : j < k := by rw [List.length_take] at hj; omega
    refine ⟨j, hj1, ?_⟩
    rw [getD_at _ _ (by omega)]
    rw [List.getElem_take] at he
    exact he
  · rintro ⟨j, hj, he⟩
    refine ⟨l.getD j d, ?_, he⟩
    rw [getD_at _ _ (by omega)]
    exact List.mem_iff_getElem.2 ⟨j, by rw [List.length_take]; omega, by rw [List.getElem_take]⟩
set_option maxRecDepth 100000 in
set_option maxHeartbeats 8000000 in
theorem rfield_any (kb i : Nat) (c : Csi) (vp vi vf vm : Value) (L : List Mv) (w : World) (h : Qk w kb c vp vi vf vm L) (hok : c.Ok) (hs : Csm c) (hcf : Cap vf) (hi : i < c.fields.length) :
    Calls Tryz.prog 15 #[.pointer (some ⟨kb, 0, none⟩), .int .i64 (i : Int)] w fun e w' => e = .returned (.int .i64 (fldE c.pool c.flags ((c.fields.take i).map (sgF c.pool)) (c.fields.getD i Fz) : Nat)) ∧ Below w.heap.size w w' := by
  have hpl : c.pool.length ≤ 1048576 := by have := hs.p; omega
  have hfl := hs.f
  have HTx := hide (fun (x : Nat) (hx : x < 65536) (w1 : World) (hb1 : Below w.heap.size w w1) => text37_any kb x c vp vi vf vm L w1 (h.below hb1) hpl hx)
  have HK := hide (fun (w1 : World) (hb1 : Below w.heap.size w w1) => (h.below hb1).b)
  have HIs := hide (fun (x t : Nat) (ht : t ≠ 0) (w1 : World) (hb1 : Below w.heap.size w w1) => Is_any vp c.pool x t w1 ((h.below hb1).c.p) hpl ht)
  obtain ⟨pa, pc, rfl, _⟩ := h.c.p.ex
  obtain ⟨ia, ic, rfl, _⟩ := h.c.i
  obtain ⟨fa, fc, rfl, hfcell⟩ := h.c.f
  obtain ⟨ma, mc, rfl, _⟩ := h.c.m
  have hcap : c.fields.length ≤ fc := hcf _ _ _ rfl
  obtain ⟨fb, fo, rfl, hcell⟩ := hfcell (by intro e; rw [e] at hi; simp at hi)
  have HcW : Hid (∀ j, j < c.fields.length → ∀ w9 : World, Below w.heap.size w w9 → w9.cell? ⟨fb, fo + j * 4, none⟩ = some (.int .u16 ((c.fields.getD j Fz).flags : Int)) ∧ w9.cell? ⟨fb, fo + j * 4 + 1, none⟩ = some (.int .u16 ((c.fields.getD j Fz).name : Int)) ∧ w9.cell? ⟨fb, fo + j * 4 + 2, none⟩ = some (.int .u16 ((c.fields.getD j Fz).type_ : Int)) ∧ w9.cell? ⟨fb, fo + j * 4 + 3, none⟩ = some (.int .u16 ((c.fields.getD j Fz).value : Int))) := hide (fun j hj w9 hb9 => by
    have h0 : w.cell? ⟨fb, fo + j * 4, none⟩ = some (.int .u16 ((c.fields.getD j Fz).flags : Int)) := hcell j hj 0 (by omega)
    have h1 : w.cell? ⟨fb, fo + j * 4 + 1, none⟩ = some (.int .u16 ((c.fields.getD j Fz).name : Int)) := hcell j hj 1 (by omega)
    have h2 : w.cell? ⟨fb, fo + j * 4 + 2, none⟩ = some (.int .u16 ((c.fields.getD j Fz).type_ : Int)) := hcell j hj 2 (by omega)
    have h3 : w.cell? ⟨fb, fo + j * 4 + 3, none⟩ = some (.int .u16 ((c.fields.getD j Fz).value : Int)) := hcell j hj 3 (by omega)
    exact ⟨(hb9.cell (cell_lt h0)).trans h0, (hb9.cell (cell_lt h1)).trans h1, (hb9.cell (cell_lt h2)).trans h2, (hb9.cell (cell_lt h3)).trans h3⟩)
  obtain ⟨e0, e1, e2, e3⟩ := unhide HcW i hi w (Below.refl _ _)
  have HXj := hide (fun j (hj : j < c.fields.length) => show FdOk (c.fields.getD j Fz) from by rw [getD_at _ _ hj]; exact hok.xf _ (List.getElem_mem _))
  have hfo := unhide HXj i hi
  have HM := hide (con_take (sgF c.pool) c.fields Fz i (by omega) (sgF c.pool (c.fields.getD i Fz)))
  have k7 := h.b.cell 7
  simp at k7
  have hii : (i : Int) < (c.fields.length : Int) := by omega
  have hif : (i : Int) ≤ (fc : Int) := by omega
  have x3 := hok.x3
  have HSm := hide hs.s
  generalize hr : fldE c.pool c.flags ((c.fields.take i).map (sgF c.pool)) (c.fields.getD i Fz) = r
  unfold fldE at hr
  have Hr := hide hr
  clear hr h hok hs hcell hfcell hcf
  generalize hff : c.fields.getD i Fz = f at *
  clear hff
  have hsg : sgF c.pool f = (M.text c.pool f.name, M.text c.pool f.type_) := rfl
  rw [hsg] at HM Hr
  clear hsg
  have HMe := hide (fun (w1 : World) => member_field (M.text c.pool f.name) (M.text c.pool f.type_) false w1 ((unhide HSm).text _) ((unhide HSm).text _))
  have HMo := hide (fun (w1 : World) => most_any f.flags w1 hfo.a)
  have g1 : (bits BinOp.and IntKind.u16 (c.flags : Int) 512 == 512) = hasF c.flags 512 := one_bit (a := c.flags) (b := 512) 9 rfl x3 (by omega)
  have g2 : (bits BinOp.and IntKind.u16 (f.flags : Int) 80 == 80) = decide (f.flags &&& 80 = 80) := and_eq f.flags 80 hfo.a (by omega)
  have g3 : (bits BinOp.and IntKind.u16 (f.flags : Int) 223 != 25) = decide (f.flags &&& 223 ≠ 25) := by rw [show bits BinOp.and IntKind.u16 (f.flags : Int) 223 = _ from and_nat f.flags 223 hfo.a (by omega)]; exact nat_bne _ 25
  have HTn := hide (unhide HTx f.name hfo.b)
  have HTt := hide (unhide HTx f.type_ hfo.c)
  have HIv := hide (unhide HIs f.value)
  have hvl := hfo.d
  have ew : IntKind.i64.wrap (f.value : Int) = (f.value : Int) := by rw [IntKind.wrap_i64]; omega
  have nv : ((f.value : Int) == 0) = decide (f.value = 0) := nat_zero f.value
  generalize M.text c.pool (f.name : Int) = nm at *
  generalize M.text c.pool (f.type_ : Int) = of at *
  generalize isT c.pool (f.name : Int) = okn at *
  generalize isT c.pool (f.type_ : Int) = okt at *
  have m0 : (of == [73]) = decide (of = [73]) := lst_eq _ _
  have m1 : (of == [83]) = decide (of = [83]) := lst_eq _ _
  have m2 : (of == [67]) = decide (of = [67]) := lst_eq _ _
  have m3 : (of == [66]) = decide (of = [66]) := lst_eq _ _
  have m4 : (of == [90]) = decide (of = [90]) := lst_eq _ _
  have m5 : (of == [74]) = decide (of = [74]) := lst_eq _ _
  have m6 : (of == [70]) = decide (of = [70]) := lst_eq _ _
  have m7 : (of == [68]) = decide (of = [68]) := lst_eq _ _
  have m8 : (of == [76, 106, 97, 118, 97, 47, 108, 97, 110, 103, 47, 83, 116, 114, 105, 110, 103, 59]) = decide (of = [76, 106, 97, 118, 97, 47, 108, 97, 110, 103, 47, 83, 116, 114, 105, 110, 103, 59]) := lst_eq _ _
  obtain ⟨w0, hw0⟩ : ∃ w0, w0 = w.alloc (.cells #[.int .u16 (f.flags : Int), .int .u16 (f.name : Int), .int .u16 (f.type_ : Int), .int .u16 (f.value : Int)] 52) := ⟨_, rfl⟩
  have hb0 : Below w.heap.size w w0 := by rw [hw0]; exact (Below.refl _ _).alloc (Nat.le_refl _) _
  have hk : Bk w0 w.heap.size #[.int .u16 (f.flags : Int), .int .u16 (f.name : Int), .int .u16 (f.type_ : Int), .int .u16 (f.value : Int)] 52 := by rw [hw0]; exact Bk.new _ _ _
  have c1 := hk.cell 1
  have c2 := hk.cell 2
  simp at c1 c2
  have HB0 := hide hb0
  have HF := hide hk
  have hz52 : ∀ W : World, (zeroValue 52).run Tryz.prog W = .ok (.agg #[.int .u16 0, .int .u16 0, .int .u16 0, .int .u16 0]) W := fun W => by kernel_rfl
  clear hb0 hk HIs hfo
  go_enter Tryz.func15, Tryz.ntmps15
  go_upto_region 2 with fail
  rw [← hw0]
  clear hw0 e0 e1 e2 e3 k7
  go_wp2_with fail
  refine (unhide HTn _ (unhide HB0)).mono ?_
  rintro e w1 ⟨rfl, hw1⟩
  subst w1
  go_wp2_with fail
  refine (unhide HTt _ (unhide HB0)).mono ?_
  rintro e w1 ⟨rfl, hw1⟩
  subst w1
  clear HTn HTt c1 c2
  obtain ⟨ok, hokk⟩ : ∃ ok, ok = (okn && okt) := ⟨_, rfl⟩
  have hE := unhide Hr
  rw [← hokk] at hE
  have HE := hide hE
  clear hE Hr
  cases ok
  · have hE := unhide HE
    simp only [Bool.false_eq_true, reduceIte] at hE
    subst hE
    clear HE
    cases okn <;> cases okt <;> simp at hokk
    all_goals
      go_wp2
      go_ret
      exact ⟨rfl, unhide HB0⟩
  have hE := unhide HE
  simp only [reduceIte] at hE
  have HE := hide hE
  clear hE
  obtain rfl : okn = true := by cases okn <;> simp at hokk ⊢
  obtain rfl : okt = true := by cases okt <;> simp at hokk ⊢
  clear hokk
  go_wp2_with fail
  refine (unhide HMe _).mono ?_
  rintro e w1 ⟨rfl, hb1⟩
  have HB1 := hide ((unhide HB0).trans (hb1.mono (unhide HB0).size))
  have HF1 := hide ((unhide HF).below hb1)
  clear HMe hb1 HF HB0
  have n0 := nat_ne0 (wfE nm of)
  by_cases h0 : wfE nm of = 0
  · rw [decide_eq_true h0, Bool.not_true] at n0
    have hE := unhide HE
    rw [if_pos h0] at hE
    have HE := hide hE
    clear hE h0
    have a0 := (unhide HF1).cell 0
    simp at a0
    have kk2 := (unhide HK _ (unhide HB1)).cell 2
    simp at kk2
    have HMo1 := hide (unhide HMo w1)
    clear HMo
    obtain ⟨bad, hbad⟩ : ∃ bad, bad = wff c.flags f.flags := ⟨_, rfl⟩
    have hE := unhide HE
    rw [← hbad] at hE
    have HE := hide hE
    clear hE
    unfold wff at hbad
    generalize more f.flags = mo at *
    generalize decide (f.flags &&& 80 = 80) = h80 at *
    generalize hasF c.flags 512 = face at *
    generalize decide (f.flags &&& 223 ≠ 25) = h223 at *
    go_upto_region 9 with fail
    go_cut [74] from 52 to 74 (fun v74 wx => v74 = .bool bad ∧ w1 = wx)
    case first =>
      clear HE
      cases mo <;> cases h80 <;> cases face <;> cases h223
      all_goals
        simp at hbad
        subst hbad
        go_wp2_with (first | (go_at_call 49; refine (unhide HMo1).mono ?_; rintro e w9 ⟨rfl, hw9⟩; subst w9) | go_in)
        go_meet
        exact ⟨rfl, rfl⟩
    case rest =>
      obtain ⟨rfl, hwx⟩ := hcut
      subst hwx
      clear hbad HMo1 a0 kk2 g1 g2 g3
      cases bad
      · have hE := unhide HE
        simp only [Bool.false_eq_true, reduceIte] at hE
        have HE := hide hE
        clear hE
        have kk7 := (unhide HK _ (unhide HB1)).cell 7
        simp at kk7
        go_wp2_with fail
        go_loopw [83] (fun x wr => ∃ j : Nat, j ≤ i ∧ x = .int .i64 j ∧ Below w1.heap.size w1 wr ∧ Hid (∀ m, m < j → sgF c.pool (c.fields.getD m Fz) ≠ (nm, of))) (fun x _ => i - (intOf x).toNat)
        case atStart => exact ⟨0, Nat.zero_le _, rfl, Below.refl _ _, hide (fun m hm => by omega)⟩
        case round =>
          obtain ⟨j, hj, rfl, hbr, Hn⟩ := hrel
          have hbW := (unhide HB1).trans (hbr.mono (unhide HB1).size)
          by_cases hlt : j < i
          · obtain ⟨e0, e1, e2, e3⟩ := unhide HcW j (by omega) wr hbW
            have hgo := unhide HXj j (by omega)
            have Hnj : Hid (sgF c.pool (c.fields.getD j Fz) ≠ (nm, of) → ∀ m, m < j + 1 → sgF c.pool (c.fields.getD m Fz) ≠ (nm, of)) := hide (fun h m hm => by
              rcases Nat.lt_or_ge m j with h1 | h1
              · exact unhide Hn m h1
              · obtain rfl : m = j := by omega
                exact h)
            have Hex : Hid (sgF c.pool (c.fields.getD j Fz) = (nm, of) → ((c.fields.take i).map (sgF c.pool)).contains (nm, of) = true) := hide (fun h => (unhide HM).2 ⟨j, hlt, h⟩)
            have hji : (j : Int) < (i : Int) := by omega
            generalize c.fields.getD j Fz = g at *
            have hsg : sgF c.pool g = (M.text c.pool g.name, M.text c.pool g.type_) := rfl
            rw [hsg] at Hnj Hex
            clear hsg
            obtain ⟨w2, hw2⟩ : ∃ w2, w2 = wr.alloc (.cells #[.int .u16 (g.flags : Int), .int .u16 (g.name : Int), .int .u16 (g.type_ : Int), .int .u16 (g.value : Int)] 52) := ⟨_, rfl⟩
            have hb2 : Below w1.heap.size w1 w2 := by rw [hw2]; exact hbr.alloc hbr.size _
            have hg2 : Bk w2 wr.heap.size #[.int .u16 (g.flags : Int), .int .u16 (g.name : Int), .int .u16 (g.type_ : Int), .int .u16 (g.value : Int)] 52 := by rw [hw2]; exact Bk.new _ _ _
            have d1 := hg2.cell 1
            have d2 := hg2.cell 2
            simp at d1 d2
            have hbW2 := (unhide HB1).trans (hb2.mono (unhide HB1).size)
            have HGn := hide (unhide HTx g.name hgo.b w2 hbW2)
            have HGt := hide (unhide HTx g.type_ hgo.c w2 hbW2)
            have HB2 := hide hb2
            have HBW2 := hide hbW2
            generalize M.text c.pool (g.name : Int) = gn at *
            generalize M.text c.pool (g.type_ : Int) = gt at *
            generalize isT c.pool (g.name : Int) = ogn at *
            generalize isT c.pool (g.type_ : Int) = ogt at *
            have q1 : (gn == nm) = decide (gn = nm) := lst_eq _ _
            have q2 : (gt == of) = decide (gt = of) := lst_eq _ _
            clear hb2 hg2 hbW2 hbW hbr hgo
            go_upto_region 14 with fail
            rw [← hw2]
            clear hw2 e0 e1 e2 e3
            go_wp2_with fail
            refine (unhide HGn).mono ?_
            rintro e w9 ⟨rfl, hw9⟩
            subst w9
            go_wp2_with fail
            refine (unhide HGt).mono ?_
            rintro e w9 ⟨rfl, hw9⟩
            subst w9
            clear HGn HGt d1 d2
            by_cases r1 : gn = nm
            · rw [decide_eq_true r1] at q1
              by_cases r2 : gt = of
              · rw [decide_eq_true r2] at q2
                have hE := unhide HE
                rw [if_pos (unhide Hex (by rw [r1, r2]))] at hE
                subst hE
                clear r1 r2 HE Hn Hnj Hex
                go_wp2
                go_ret
                exact ⟨rfl, unhide HBW2⟩
              · rw [decide_eq_false r2] at q2
                have Hn2 := hide (unhide Hnj (fun h => r2 (Prod.mk.inj h).2))
                clear r1 r2 Hn Hnj Hex
                go_wp2
                go_roundw
                case rel => exact ⟨j + 1, by omega, by go_num, unhide HB2, Hn2⟩
                case measure => simp [intOf]; omega
            · rw [decide_eq_false r1] at q1
              have Hn2 := hide (unhide Hnj (fun h => r1 (Prod.mk.inj h).1))
              clear r1 q2 Hn Hnj Hex
              go_wp2
              go_roundw
              case rel => exact ⟨j + 1, by omega, by go_num, unhide HB2, Hn2⟩
              case measure => simp [intOf]; omega
          · obtain rfl : j = i := by omega
            have hnc : ¬ ((c.fields.take j).map (sgF c.pool)).contains (nm, of) = true := fun h => by
              obtain ⟨m, hm, he⟩ := (unhide HM).1 h
              exact unhide Hn m hm he
            have hE := unhide HE
            rw [if_neg hnc] at hE
            have HE2 := hide hE
            have a3 := ((unhide HF1).below hbr).cell 3
            simp at a3
            have kk5 := (unhide HK _ hbW).cell 5
            simp at kk5
            have HBW := hide hbW
            clear hE hnc HE Hn hbr hbW kk7
            by_cases hv0 : f.value = 0
            · rw [decide_eq_true hv0] at nv
              have hE := unhide HE2
              rw [if_pos hv0] at hE
              subst hE
              clear HE2 hv0
              go_wp2
              go_ret
              exact ⟨rfl, unhide HBW⟩
            · rw [decide_eq_false hv0] at nv
              have hE := unhide HE2
              rw [if_neg hv0] at hE
              have HE := hide hE
              clear HE2 hv0 hE
              go_upto_block 2 with fail
              obtain ⟨wq, hwq⟩ : ∃ wq, wq = wr := ⟨_, rfl⟩
              subst hwq
              go_cut [17] from 114 to 128 (fun v17 wx => v17 = .int .u8 ((vtag of : Nat) : Int) ∧ wq = wx)
              case first =>
                clear HE
                by_cases q0 : of = [73]
                · rw [decide_eq_true q0] at m0
                  have Hv : Hid (vtag of = 3) := hide (by unfold vtag; rw [if_pos q0])
                  clear q0 
                  go_wp2_with fail
                  go_meet
                  exact ⟨by rw [unhide Hv]; rfl, rfl⟩
                rw [decide_eq_false q0] at m0
                by_cases q1 : of = [83]
                · rw [decide_eq_true q1] at m1
                  have Hv : Hid (vtag of = 3) := hide (by unfold vtag; rw [if_neg q0, if_pos q1])
                  clear q1 q0
                  go_wp2_with fail
                  go_meet
                  exact ⟨by rw [unhide Hv]; rfl, rfl⟩
                rw [decide_eq_false q1] at m1
                by_cases q2 : of = [67]
                · rw [decide_eq_true q2] at m2
                  have Hv : Hid (vtag of = 3) := hide (by unfold vtag; rw [if_neg q0, if_neg q1, if_pos q2])
                  clear q2 q0 q1
                  go_wp2_with fail
                  go_meet
                  exact ⟨by rw [unhide Hv]; rfl, rfl⟩
                rw [decide_eq_false q2] at m2
                by_cases q3 : of = [66]
                · rw [decide_eq_true q3] at m3
                  have Hv : Hid (vtag of = 3) := hide (by unfold vtag; rw [if_neg q0, if_neg q1, if_neg q2, if_pos q3])
                  clear q3 q0 q1 q2
                  go_wp2_with fail
                  go_meet
                  exact ⟨by rw [unhide Hv]; rfl, rfl⟩
                rw [decide_eq_false q3] at m3
                by_cases q4 : of = [90]
                · rw [decide_eq_true q4] at m4
                  have Hv : Hid (vtag of = 3) := hide (by unfold vtag; rw [if_neg q0, if_neg q1, if_neg q2, if_neg q3, if_pos q4])
                  clear q4 q0 q1 q2 q3
                  go_wp2_with fail
                  go_meet
                  exact ⟨by rw [unhide Hv]; rfl, rfl⟩
                rw [decide_eq_false q4] at m4
                by_cases q5 : of = [74]
                · rw [decide_eq_true q5] at m5
                  have Hv : Hid (vtag of = 5) := hide (by unfold vtag; rw [if_neg q0, if_neg q1, if_neg q2, if_neg q3, if_neg q4, if_pos q5])
                  clear q5 q0 q1 q2 q3 q4
                  go_wp2_with fail
                  go_meet
                  exact ⟨by rw [unhide Hv]; rfl, rfl⟩
                rw [decide_eq_false q5] at m5
                by_cases q6 : of = [70]
                · rw [decide_eq_true q6] at m6
                  have Hv : Hid (vtag of = 4) := hide (by unfold vtag; rw [if_neg q0, if_neg q1, if_neg q2, if_neg q3, if_neg q4, if_neg q5, if_pos q6])
                  clear q6 q0 q1 q2 q3 q4 q5
                  go_wp2_with fail
                  go_meet
                  exact ⟨by rw [unhide Hv]; rfl, rfl⟩
                rw [decide_eq_false q6] at m6
                by_cases q7 : of = [68]
                · rw [decide_eq_true q7] at m7
                  have Hv : Hid (vtag of = 6) := hide (by unfold vtag; rw [if_neg q0, if_neg q1, if_neg q2, if_neg q3, if_neg q4, if_neg q5, if_neg q6, if_pos q7])
                  clear q7 q0 q1 q2 q3 q4 q5 q6
                  go_wp2_with fail
                  go_meet
                  exact ⟨by rw [unhide Hv]; rfl, rfl⟩
                rw [decide_eq_false q7] at m7
                by_cases q8 : of = [76, 106, 97, 118, 97, 47, 108, 97, 110, 103, 47, 83, 116, 114, 105, 110, 103, 59]
                · rw [decide_eq_true q8] at m8
                  have Hv : Hid (vtag of = 8) := hide (by unfold vtag strB; rw [if_neg q0, if_neg q1, if_neg q2, if_neg q3, if_neg q4, if_neg q5, if_neg q6, if_neg q7, if_pos q8])
                  clear q8 q0 q1 q2 q3 q4 q5 q6 q7
                  go_wp2_with fail
                  go_meet
                  exact ⟨by rw [unhide Hv]; rfl, rfl⟩
                rw [decide_eq_false q8] at m8
                have Hv : Hid (vtag of = 0) := hide (by unfold vtag strB; rw [if_neg q0, if_neg q1, if_neg q2, if_neg q3, if_neg q4, if_neg q5, if_neg q6, if_neg q7, if_neg q8])
                clear q0 q1 q2 q3 q4 q5 q6 q7 q8
                go_wp2_with fail
                go_meet
                exact ⟨by rw [unhide Hv]; rfl, rfl⟩
              case rest =>
                obtain ⟨rfl, hwx⟩ := hcut
                subst hwx
                generalize hvt : vtag of = vt at *
                by_cases v0 : vt = 0
                · have hE := unhide HE
                  rw [if_neg (fun h => h.1 v0)] at hE
                  subst hE
                  subst v0
                  clear HE hvt
                  have H39 : Hid (∀ w9 : World, Calls Tryz.prog 39 #[.bool false, .int .i64 7] w9 fun e w' => e = .returned (.int .i64 7) ∧ w' = w9) := hide (fun w9 => unless_any false 7 w9)
                  go_wp2_with fail
                  go_quiet (first | (go_at_call 39; exact Calls.quiet_of_same (unhide H39 _)))
                  go_wp2
                  go_ret
                  exact ⟨rfl, bl_more (unhide HBW) _⟩
                · have HIs := hide (fun (w9 : World) (hb9 : Below w.heap.size w w9) => unhide HIv vt v0 w9 hb9)
                  have hE := unhide HE
                  generalize hbv : decide (M.tag c.pool (f.value : Int) = vt) = bv at *
                  obtain ⟨u, hu⟩ : ∃ u : Nat, u = if bv = true then 0 else 7 := ⟨_, rfl⟩
                  have hE2 : r = u := by rw [← hE, hu, ← hbv]; simp [v0]
                  have H39 : Hid (∀ w9 : World, Calls Tryz.prog 39 #[.bool bv, .int .i64 7] w9 fun e w' => e = .returned (.int .i64 (u : Int)) ∧ w' = w9) := hide (fun w9 => by rw [hu]; exact unless_any bv 7 w9)
                  have v1 : (0 : Int) < (vt : Int) := by omega
                  have v2 : 0 < vt := by omega
                  subst hE2
                  clear HE hE hvt hbv hu HIv v0
                  go_wp2_with fail
                  go_quiet (first | (go_at_call 44; exact Calls.quiet_of_same (unhide HIs _ (bl_more (unhide HBW) _))) | (go_at_call 39; exact Calls.quiet_of_same (unhide H39 _)))
                  go_wp2
                  go_ret
                  exact ⟨rfl, bl_more (unhide HBW) _⟩
      · have hE := unhide HE
        simp only [reduceIte] at hE
        subst hE
        clear HE
        go_wp2
        go_ret
        exact ⟨rfl, unhide HB1⟩
  · rw [decide_eq_false h0, Bool.not_false] at n0
    have hE := unhide HE
    rw [if_neg h0] at hE
    subst hE
    clear HE h0
    go_wp2
    go_ret
    exact ⟨rfl, unhide HB1⟩
end Go.Proofs.YtddhlphbbiihjaaGreatDoor.Cl
