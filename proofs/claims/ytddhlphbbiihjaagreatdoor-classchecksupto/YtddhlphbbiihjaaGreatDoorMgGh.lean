/-
  ClassChecks: the reference looks at a class.
  ClassChecks: the statement's walk.
-/
import Derived.Test.YtddhlphbbiihjaaGreatDoorGf
set_option linter.unusedVariables false
set_option linter.unusedSimpArgs false
namespace Go.Proofs.YtddhlphbbiihjaaGreatDoor.Cl
open Go.RowKit Go.Maps Kn
theorem sgF_take (P : List K) (l : List Fd) (k : Nat) (hk : k < l.length) : (l.take (k + 1)).map (sgF P) = (l.take k).map (sgF P) ++ [sgF P (l.getD k Fz)] := by
  rw [List.take_add_one, List.getElem?_eq_getElem hk, getD_at _ _ hk, List.map_append]; rfl
theorem sgM_take (P : List K) (l : List Mv) (k : Nat) (hk : k < l.length) : ((l.take (k + 1)).map fun j => sgM P j.m) = ((l.take k).map fun j => sgM P j.m) ++ [sgM P (l.getD k Mv.zero).m] := by
  rw [List.take_add_one, List.getElem?_eq_getElem hk, getD_at _ _ hk, List.map_append]; rfl
set_option maxRecDepth 100000 in
set_option maxHeartbeats 8000000 in
theorem rCheck_any (c : Csi) (vp vi vf vm : Value) (L : List Mv) (w : World) (hC : Cin w c vp vi vf vm L) (hok : c.Ok) (hs : Csm c) (hci : Cap vi) (hcf : Cap vf) (hcm : Cap vm) :
    Calls Tryz.prog 7 #[.agg #[.int .u16 (c.minor : Int), .int .u16 (c.major : Int), .int .u16 (c.flags : Int), .int .u16 (c.this : Int), .int .u16 (c.super : Int), vp, vi, vf, vm]] w fun e w' => e = .returned (.tuple #[.int .i64 (chkA c).1, .int .i64 (chkA c).2.1, .int .i64 (chkA c).2.2.1, .int .i64 (chkA c).2.2.2]) ∧ Below w.heap.size w w' := by
  obtain ⟨w0, hw0⟩ : ∃ w0, w0 = w.alloc (.cells #[.int .u16 (c.minor : Int), .int .u16 (c.major : Int), .int .u16 (c.flags : Int), .int .u16 (c.this : Int), .int .u16 (c.super : Int), vp, vi, vf, vm] 28) := ⟨_, rfl⟩
  have hb0 : Below w.heap.size w w0 := by rw [hw0]; exact (Below.refl _ _).alloc (Nat.le_refl _) _
  have hk0 : Bk w0 w.heap.size #[.int .u16 (c.minor : Int), .int .u16 (c.major : Int), .int .u16 (c.flags : Int), .int .u16 (c.this : Int), .int .u16 (c.super : Int), vp, vi, vf, vm] 28 := by rw [hw0]; exact Bk.new _ _ _
  obtain ⟨w1, hw1⟩ : ∃ w1, w1 = w0.alloc (.cells #[.int .u16 (c.minor : Int), .int .u16 (c.major : Int), .int .u16 (c.flags : Int), .int .u16 (c.this : Int), .int .u16 (c.super : Int), vp, vi, vf, vm] 58) := ⟨_, rfl⟩
  have hb1 : Below w0.heap.size w0 w1 := by rw [hw1]; exact (Below.refl _ _).alloc (Nat.le_refl _) _
  have hk1 : Bk w1 w0.heap.size #[.int .u16 (c.minor : Int), .int .u16 (c.major : Int), .int .u16 (c.flags : Int), .int .u16 (c.this : Int), .int .u16 (c.super : Int), vp, vi, vf, vm] 58 := by rw [hw1]; exact Bk.new _ _ _
  have hb01 := hb0.trans (hb1.mono hb0.size)
  have HQ1 := hide (show Qk w1 w0.heap.size c vp vi vf vm L from ⟨hk1, hC.below hb01⟩)
  have HK1 := hide (hk0.below hb1)
  have HB1 := hide hb01
  have c0 := hk0.cell 0
  have c1 := hk0.cell 1
  have c2 := hk0.cell 2
  have c3 := hk0.cell 3
  have c4 := hk0.cell 4
  have c5 := hk0.cell 5
  have c6 := hk0.cell 6
  have c7 := hk0.cell 7
  have c8 := hk0.cell 8
  simp at c0 c1 c2 c3 c4 c5 c6 c7 c8
  have d5 := (unhide HK1).cell 5
  simp at d5
  have HOk := hide hok
  have HSm := hide hs
  have Hcap := hide (And.intro hci (And.intro hcf hcm))
  have hpl := hs.p
  have hfl := hs.f
  have hme := hC.e
  have hLl : L.length ≤ 32768 := by have h1 := hs.m; rw [← hme, List.length_map] at h1; exact h1
  generalize hr : chkA c = r
  unfold chkA at hr
  rw [← hme] at hr
  have HAll : Hid ((consE c.pool 0 c.pool).1 = 0 → AllOk c.pool) := hide (fun h => cons_all c.pool c.pool 0 h)
  generalize hq1 : consE c.pool 0 c.pool = q1 at hr HAll
  generalize hq2 : clsE c.pool c.flags c.this c.super c.ifaces = q2 at hr
  generalize hq3 : fldsE c.pool c.flags 0 [] c.fields = q3 at hr
  generalize hq4 : mthsE c.pool c.flags 0 [] (L.map Mv.m) = q4 at hr
  have Hq1 := hide hq1
  have Hq2 := hide hq2
  have Hq3 := hide hq3
  have Hq4 := hide hq4
  have Hr := hide hr
  obtain ⟨pa, pc, rfl, _⟩ := hC.p.ex
  obtain ⟨ia, ic, rfl, _⟩ := hC.i
  obtain ⟨fa, fc, rfl, _⟩ := hC.f
  obtain ⟨ma, mc, rfl, _⟩ := hC.m
  clear hr hb0 hk0 hb1 hk1 hb01 hC hok hs hci hcf hcm hq1 hq2 hq3 hq4 hme
  go_enter Tryz.func7, Tryz.ntmps7
  go_upto_region 1 with fail
  rw [← hw0]
  clear hw0
  go_upto_region 2 with fail
  rw [← hw1]
  clear hw1 c0 c1 c2 c3 c4 c5 c6 c7 c8
  go_wp2_with fail
  go_loopw [22] (fun i wr => ∃ k : Nat, k ≤ c.pool.length ∧ i = .int .i64 k ∧ Below w1.heap.size w1 wr ∧ Hid (consE c.pool k (c.pool.drop k) = q1)) (fun i _ => c.pool.length - (intOf i).toNat)
  case atStart => exact ⟨0, Nat.zero_le _, rfl, Below.refl _ _, Hq1⟩
  case round =>
    obtain ⟨k, hk, rfl, hbr, Hno⟩ := hrel
    by_cases hlt : k < c.pool.length
    · have hX := (unhide HQ1).below hbr
      have hne : c.pool ≠ [] := by intro e; rw [e] at hlt; simp at hlt
      obtain ⟨bp, op, pcap, hpe⟩ := hX.c.p.form hne
      cases hpe
      obtain ⟨e0, e1, e2, e3, e4⟩ := hX.c.p.at hlt
      have hfit := hX.c.p.fit (c.pool.getD k K.zero) (by rw [getD_at _ _ hlt]; exact List.getElem_mem _)
      have hd := cons_drop c.pool c.pool k hlt
      rw [unhide Hno] at hd
      generalize c.pool.getD k K.zero = x at *
      have hb2 : Below w1.heap.size w1 (wr.alloc (.cells #[.int .u8 (x.tag : Int), .string ⟨x.text.toArray⟩, .int .u64 (x.bits : Int), .int .u16 (x.a : Int), .int .u16 (x.b : Int)] 38)) := hbr.alloc hbr.size _
      have hcn : Calls Tryz.prog 13 #[.pointer (some ⟨w0.heap.size, 0, none⟩), .agg #[.int .u8 (x.tag : Int), .string ⟨x.text.toArray⟩, .int .u64 (x.bits : Int), .int .u16 (x.a : Int), .int .u16 (x.b : Int)]] (wr.alloc (.cells #[.int .u8 (x.tag : Int), .string ⟨x.text.toArray⟩, .int .u64 (x.bits : Int), .int .u16 (x.a : Int), .int .u16 (x.b : Int)] 38)) fun e w' => e = .returned (.int .i64 (conE c.pool x : Nat)) ∧ Below (wr.alloc (.cells #[.int .u8 (x.tag : Int), .string ⟨x.text.toArray⟩, .int .u64 (x.bits : Int), .int .u16 (x.a : Int), .int .u16 (x.b : Int)] 38)).heap.size (wr.alloc (.cells #[.int .u8 (x.tag : Int), .string ⟨x.text.toArray⟩, .int .u64 (x.bits : Int), .int .u16 (x.a : Int), .int .u16 (x.b : Int)] 38)) w' := rconstant_any w0.heap.size x c _ _ _ _ L _ ((unhide HQ1).below hb2) (by omega) (unhide HSm).s hfit.1 hfit.2.1 hfit.2.2
      have HCn := hide hcn
      have nz := nat_ne0 (conE c.pool x)
      have HB2 := hide hb2
      have Hd := hide hd
      clear hX hne hfit hd hb2 hbr Hno hcn
      by_cases he : conE c.pool x = 0
      · rw [decide_eq_true he, Bool.not_true] at nz
        have hE := unhide Hd
        rw [if_pos he] at hE
        have HE := hide hE.symm
        clear Hd hE he
        go_wp2_with fail
        refine (unhide HCn).mono ?_
        rintro e w3 ⟨rfl, hb3⟩
        have HB3 := hide ((unhide HB2).trans (hb3.mono (unhide HB2).size))
        clear HCn hb3 e0 e1 e2 e3 e4
        go_wp2
        go_roundw
        case rel => exact ⟨k + 1, by omega, by go_num, unhide HB3, HE⟩
        case measure => simp [intOf]; omega
      · rw [decide_eq_false he, Bool.not_false] at nz
        have hE := unhide Hd
        rw [if_neg he] at hE
        have hE2 := unhide Hr
        rw [hE] at hE2
        simp only at hE2
        rw [if_neg he] at hE2
        subst hE2
        clear Hd hE he Hr
        go_wp2_with fail
        refine (unhide HCn).mono ?_
        rintro e w3 ⟨rfl, hb3⟩
        have HB3 := hide ((unhide HB2).trans (hb3.mono (unhide HB2).size))
        clear HCn hb3 e0 e1 e2 e3 e4
        go_wp2
        ((try simp only [Exit.inBlock, Exit.then]); refine bodyPost_ret (results_tmp4 rfl _ _ _) rfl ?_)
        exact ⟨rfl, (unhide HB1).trans ((unhide HB3).mono (unhide HB1).size)⟩
    · have hkl : k = c.pool.length := by omega
      have hE1 : (0, 0) = q1 := by have h := unhide Hno; rw [hkl, List.drop_length] at h; exact h
      subst hkl
      have hA := unhide HAll (by rw [← hE1])
      have hE := unhide Hr
      rw [← hE1] at hE
      simp only [if_true] at hE
      have Hr2 := hide hE
      have HBr := hide ((unhide HB1).trans (hbr.mono (unhide HB1).size))
      have hQ := (unhide HQ1).below hbr
      have hcl := itself_any w0.heap.size c _ _ _ _ L wr hQ (unhide HOk) (unhide HSm) hA (unhide Hcap).1
      rw [unhide Hq2] at hcl
      have HCl := hide hcl
      have HQ := hide hQ
      have HK := hide ((unhide HK1).below hbr)
      have HA := hide hA
      clear hQ hcl hE hE1 Hno hbr Hr d5 hA HQ1 HK1 HB1 HAll
      go_wp2_with fail
      refine (unhide HCl).mono ?_
      rintro e w2 ⟨rfl, hb2⟩
      have HQ2 := hide ((unhide HQ).below hb2)
      have HK2 := hide ((unhide HK).below hb2)
      have HB2 := hide ((unhide HBr).trans (hb2.mono (unhide HBr).size))
      clear HCl hb2 HQ HK HBr
      have nz := nat_ne0 q2
      by_cases he : q2 = 0
      · rw [decide_eq_true he, Bool.not_true] at nz
        have hE := unhide Hr2
        rw [if_pos he] at hE
        have Hr := hide hE
        clear hE he Hr2
        have d7 := (unhide HK2).cell 7
        simp at d7
        go_wp2_with fail
        go_loopw [43] (fun i wr => ∃ k : Nat, k ≤ c.fields.length ∧ i = .int .i64 k ∧ Below w2.heap.size w2 wr ∧ Hid (fldsE c.pool c.flags k ((c.fields.take k).map (sgF c.pool)) (c.fields.drop k) = q3)) (fun i _ => c.fields.length - (intOf i).toNat)
        case atStart => exact ⟨0, Nat.zero_le _, rfl, Below.refl _ _, Hq3⟩
        case round =>
          obtain ⟨k, hk, rfl, hbr, Hno⟩ := hrel
          by_cases hlt : k < c.fields.length
          · have hd := flds_drop c.pool c.flags ((c.fields.take k).map (sgF c.pool)) c.fields k hlt
            rw [unhide Hno, ← sgF_take _ _ _ hlt] at hd
            have HFd := hide (rfield_any w0.heap.size k c _ _ _ _ L wr ((unhide HQ2).below hbr) (unhide HOk) (unhide HSm) (unhide Hcap).2.1 hlt)
            generalize fldE c.pool c.flags ((c.fields.take k).map (sgF c.pool)) (c.fields.getD k Fz) = fe at *
            have nz := nat_ne0 fe
            have HBr := hide hbr
            have Hd := hide hd
            clear hd hbr Hno
            by_cases he : fe = 0
            · rw [decide_eq_true he, Bool.not_true] at nz
              have hE := unhide Hd
              rw [if_pos he] at hE
              have HE := hide hE.symm
              clear Hd hE he
              go_wp2_with fail
              refine (unhide HFd).mono ?_
              rintro e w5 ⟨rfl, hb5⟩
              have HB5 := hide ((unhide HBr).trans (hb5.mono (unhide HBr).size))
              clear HFd hb5
              go_wp2
              go_roundw
              case rel => exact ⟨k + 1, by omega, by go_num, unhide HB5, HE⟩
              case measure => simp [intOf]; omega
            · rw [decide_eq_false he, Bool.not_false] at nz
              have hE := unhide Hd
              rw [if_neg he] at hE
              have hE2 := unhide Hr
              rw [hE] at hE2
              simp only at hE2
              rw [if_neg he] at hE2
              subst hE2
              clear Hd hE he Hr
              go_wp2_with fail
              refine (unhide HFd).mono ?_
              rintro e w5 ⟨rfl, hb5⟩
              have HB5 := hide ((unhide HBr).trans (hb5.mono (unhide HBr).size))
              clear HFd hb5
              go_wp2
              ((try simp only [Exit.inBlock, Exit.then]); refine bodyPost_ret (results_tmp4 rfl _ _ _) rfl ?_)
              exact ⟨rfl, (unhide HB2).trans ((unhide HB5).mono (unhide HB2).size)⟩
          · have hkl : k = c.fields.length := by omega
            have hE1 : (0, 0) = q3 := by have h := unhide Hno; rw [hkl, List.drop_length] at h; exact h
            subst hkl
            have hE := unhide Hr
            rw [← hE1] at hE
            simp only [if_true] at hE
            have Hr2 := hide hE
            have HQ4 := hide ((unhide HQ2).below hbr)
            have d8 := ((unhide HK2).below hbr).cell 8
            simp at d8
            have HB4 := hide ((unhide HB2).trans (hbr.mono (unhide HB2).size))
            clear hE hE1 Hno hbr Hr d7 HQ2 HK2 HB2
            obtain ⟨wq, hwq⟩ : ∃ wq, wq = wr := ⟨_, rfl⟩
            subst hwq
            go_wp2_with fail
            go_loopw [57] (fun i wz => ∃ k : Nat, k ≤ L.length ∧ i = .int .i64 k ∧ Below wq.heap.size wq wz ∧ Hid (mthsE c.pool c.flags k ((L.take k).map fun j => sgM c.pool j.m) ((L.map Mv.m).drop k) = q4)) (fun i _ => L.length - (intOf i).toNat)
            case atStart => exact ⟨0, Nat.zero_le _, rfl, Below.refl _ _, Hq4⟩
            case round =>
              obtain ⟨k, hk, rfl, hbr, Hno⟩ := hrel
              by_cases hlt : k < L.length
              · have hd := mths_drop c.pool c.flags ((L.take k).map fun j => sgM c.pool j.m) (L.map Mv.m) k (by simpa using hlt)
                rw [unhide Hno, getD_m L k hlt, ← sgM_take _ _ _ hlt] at hd
                have HFd := hide (rmethod_any w0.heap.size k c _ _ _ _ L wr ((unhide HQ4).below hbr) (unhide HOk) (unhide HSm) (unhide HA) (unhide Hcap).2.2 hlt)
                generalize mthE c.pool c.flags ((L.take k).map fun j => sgM c.pool j.m) (L.getD k Mv.zero).m = me at *
                obtain ⟨me1, me2⟩ := me
                have nz : (me1 != 0) = !decide (me1 = 0) := by rw [Bool.eq_iff_iff]; simp
                have HBr := hide hbr
                simp only at hd
                have Hd := hide hd
                clear hd hbr Hno
                by_cases he : me1 = 0
                · rw [decide_eq_true he, Bool.not_true] at nz
                  have hE := unhide Hd
                  rw [if_pos he] at hE
                  have HE := hide hE.symm
                  clear Hd hE he
                  go_wp2_with fail
                  refine (unhide HFd).mono ?_
                  rintro e w5 ⟨rfl, hb5⟩
                  have HB5 := hide ((unhide HBr).trans (hb5.mono (unhide HBr).size))
                  clear HFd hb5
                  go_wp2
                  go_roundw
                  case rel => exact ⟨k + 1, by omega, by go_num, unhide HB5, HE⟩
                  case measure => simp [intOf]; omega
                · rw [decide_eq_false he, Bool.not_false] at nz
                  have hE := unhide Hd
                  rw [if_neg he] at hE
                  have hE2 := unhide Hr2
                  rw [hE] at hE2
                  simp only at hE2
                  rw [if_neg he] at hE2
                  subst hE2
                  clear Hd hE he Hr2
                  go_wp2_with fail
                  refine (unhide HFd).mono ?_
                  rintro e w5 ⟨rfl, hb5⟩
                  have HB5 := hide ((unhide HBr).trans (hb5.mono (unhide HBr).size))
                  clear HFd hb5
                  go_wp2
                  ((try simp only [Exit.inBlock, Exit.then]); refine bodyPost_ret (results_tmp4 rfl _ _ _) rfl ?_)
                  exact ⟨rfl, (unhide HB4).trans ((unhide HB5).mono (unhide HB4).size)⟩
              · have hkl : k = L.length := by omega
                have hE1 : (0, 0, 0) = q4 := by have h := unhide Hno; rw [hkl, List.drop_eq_nil_of_le (by simp)] at h; exact h
                subst hkl
                have hE := unhide Hr2
                rw [← hE1] at hE
                simp only [if_true] at hE
                subst hE
                have HB5 := hide ((unhide HB4).trans (hbr.mono (unhide HB4).size))
                clear hE1 Hno hbr Hr2
                go_wp2
                ((try simp only [Exit.inBlock, Exit.then]); refine bodyPost_ret (results_tmp4 rfl _ _ _) rfl ?_)
                exact ⟨rfl, unhide HB5⟩
      · rw [decide_eq_false he, Bool.not_false] at nz
        have hE := unhide Hr2
        rw [if_neg he] at hE
        subst hE
        clear he Hr2
        go_wp2
        ((try simp only [Exit.inBlock, Exit.then]); refine bodyPost_ret (results_tmp4 rfl _ _ _) rfl ?_)
        exact ⟨rfl, unhide HB2⟩
end Go.Proofs.YtddhlphbbiihjaaGreatDoor.Cl
namespace Go.Proofs.YtddhlphbbiihjaaGreatDoor.Cl
open Go.RowKit Go.Maps Kn
set_option maxRecDepth 1000000 in
set_option maxHeartbeats 16000000 in
theorem checks_walk (c : Csi) (vp vi vf vm : Value) (L : List Mv) (w : World) (hC : Cin w c vp vi vf vm L) (hok : c.Ok) (hs : c.size ≤ 4000000) (hmx : Mx w) (hwd : Dc.Wd w) :
    Calls Tryz.prog 3 #[clv c vp vi vf vm] w fun r w' => r = .returned (.bool true) ∧ Below w.heap.size w w' := by
  unfold clv
  have HC := hide hC
  obtain ⟨pa, pc, rfl, _⟩ := hC.p.ex
  obtain ⟨ia, ic, rfl, _⟩ := hC.i
  obtain ⟨fa, fc, rfl, _⟩ := hC.f
  obtain ⟨ma, mc, rfl, _⟩ := hC.m
  obtain ⟨wA, hwA⟩ : ∃ wA, wA = w.alloc (.cells #[.int .u16 (c.minor : Int), .int .u16 (c.major : Int), .int .u16 (c.flags : Int), .int .u16 (c.this : Int), .int .u16 (c.super : Int), .slice pa c.pool.length pc, .slice ia c.ifaces.length ic, .slice fa c.fields.length fc, .slice ma L.length mc] 28) := ⟨_, rfl⟩
  have hbA : Below w.heap.size w wA := by rw [hwA]; exact (Below.refl _ _).alloc (Nat.le_refl _) _
  have b0 : Bk wA w.heap.size #[.int .u16 (c.minor : Int), .int .u16 (c.major : Int), .int .u16 (c.flags : Int), .int .u16 (c.this : Int), .int .u16 (c.super : Int), .slice pa c.pool.length pc, .slice ia c.ifaces.length ic, .slice fa c.fields.length fc, .slice ma L.length mc] 28 := by rw [hwA]; exact Bk.new w _ _
  have hS := size_any c _ _ _ _ L wA (hC.below hbA) hs
  unfold clv at hS
  have HS := hide hS
  have HO := hide (hC.below hbA)
  have c0 := b0.cell 0
  have c1 := b0.cell 1
  have c2 := b0.cell 2
  have c3 := b0.cell 3
  have c4 := b0.cell 4
  have c5 := b0.cell 5
  have c6 := b0.cell 6
  have c7 := b0.cell 7
  have c8 := b0.cell 8
  simp at c0 c1 c2 c3 c4 c5 c6 c7 c8
  have HA := hide hwA
  have HB := hide b0
  have HBl := hide hbA
  have Hok := hide hok
  have Hmx := hide hmx
  have Hwd := hide hwd
  clear hwA b0 hbA hC hS hok hmx hwd
  go_enter Tryz.func3, Tryz.ntmps3
  go_upto_region 1 with fail
  rw [← unhide HA]
  clear HA
  go_wp2_with fail
  refine (unhide HS).mono ?_
  rintro e w1 ⟨rfl, hb1⟩
  clear HS c0 c1 c2 c3 c4 c5 c6 c7 c8
  have B1 := hide ((unhide HB).below hb1)
  have L1 := hide ((unhide HBl).trans (hb1.mono (unhide HBl).size))
  clear hb1 HB HBl
  by_cases hgt : ¬ c.size ≤ 32768
  · have n0 : decide (32768 < (c.size : Int)) = true := decide_eq_true (by omega)
    clear hgt
    go_wp2
    go_ret
    exact ⟨rfl, unhide L1⟩
  · replace hgt : c.size ≤ 32768 := Decidable.not_not.1 hgt
    have n0 : decide (32768 < (c.size : Int)) = false := decide_eq_false (by omega)
    have Hsm := hide (Csm.of hgt)
    have Hcb : Hid (ClsB c) := hide (by have h1 := Csm.of hgt; exact ⟨by have := h1.p; omega, by have := h1.i; omega, by have := h1.f; omega, by have := h1.m; omega, fun x hx => by have := (h1.h x hx).1; omega⟩)
    have hT := another2_any c _ _ _ _ L w1 ((unhide HC).below (unhide L1)) (by omega)
    unfold clv at hT
    have HT := hide hT
    have c0 := (unhide B1).cell 0
    have c1 := (unhide B1).cell 1
    have c2 := (unhide B1).cell 2
    have c3 := (unhide B1).cell 3
    have c4 := (unhide B1).cell 4
    have c5 := (unhide B1).cell 5
    have c6 := (unhide B1).cell 6
    have c7 := (unhide B1).cell 7
    have c8 := (unhide B1).cell 8
    simp at c0 c1 c2 c3 c4 c5 c6 c7 c8
    clear hgt hT
    go_wp2_with fail
    refine (unhide HT).mono ?_
    rintro e w2 ⟨vp2, vi2, vf2, vm2, L2, rfl, hC2, hb2, hcp⟩
    have Hcp := hide hcp
    clear hcp
    clear HT c0 c1 c2 c3 c4 c5 c6 c7 c8 n0
    have HC2 := hide hC2
    obtain ⟨pa2, pc2, rfl, _⟩ := hC2.p.ex
    obtain ⟨ia2, ic2, rfl, _⟩ := hC2.i
    obtain ⟨fa2, fc2, rfl, _⟩ := hC2.f
    obtain ⟨ma2, mc2, rfl, _⟩ := hC2.m
    have L2b := hide ((unhide L1).trans (hb2.mono (unhide L1).size))
    have B2 := hide ((unhide B1).below hb2)
    clear hC2 hb2 B1 L1
    obtain ⟨w3, hw3⟩ : ∃ w3, w3 = w2.alloc (.cells #[.int .u16 (c.minor : Int), .int .u16 (c.major : Int), .int .u16 (c.flags : Int), .int .u16 (c.this : Int), .int .u16 (c.super : Int), .slice pa2 c.pool.length pc2, .slice ia2 c.ifaces.length ic2, .slice fa2 c.fields.length fc2, .slice ma2 L2.length mc2] 28) := ⟨_, rfl⟩
    have B3 : Bk w3 w.heap.size #[.int .u16 (c.minor : Int), .int .u16 (c.major : Int), .int .u16 (c.flags : Int), .int .u16 (c.this : Int), .int .u16 (c.super : Int), .slice pa c.pool.length pc, .slice ia c.ifaces.length ic, .slice fa c.fields.length fc, .slice ma L.length mc] 28 := by rw [hw3]; exact (unhide B2).alloc _
    have D3 : Bk w3 w2.heap.size #[.int .u16 (c.minor : Int), .int .u16 (c.major : Int), .int .u16 (c.flags : Int), .int .u16 (c.this : Int), .int .u16 (c.super : Int), .slice pa2 c.pool.length pc2, .slice ia2 c.ifaces.length ic2, .slice fa2 c.fields.length fc2, .slice ma2 L2.length mc2] 28 := by rw [hw3]; exact Bk.new w2 _ _
    have L3 : Below w.heap.size w w3 := by rw [hw3]; exact (unhide L2b).alloc (unhide L2b).size _
    have M3 : Below w2.heap.size w2 w3 := by rw [hw3]; exact (Below.refl _ _).alloc (Nat.le_refl _) _
    have Q3 : Cin w3 c _ _ _ _ L2 := (unhide HC2).below M3
    have Hw3 := hide hw3
    have HB3 := hide B3
    have HD3 := hide D3
    have HL3 := hide L3
    have HQ3 := hide Q3
    clear hw3 B3 D3 L3 M3 Q3 L2b B2 HC2
    go_upto_region 4 with fail
    rw [← unhide Hw3]
    clear Hw3
    have hT := Check_any c _ _ _ _ L w3 ((unhide HC).below (unhide HL3)) (unhide Hok) (unhide Hsm) ((unhide Hmx).below (unhide HL3)) ((unhide Hwd).below (unhide HL3))
    have HT := hide hT
    have c0 := (unhide HB3).cell 0
    have c1 := (unhide HB3).cell 1
    have c2 := (unhide HB3).cell 2
    have c3 := (unhide HB3).cell 3
    have c4 := (unhide HB3).cell 4
    have c5 := (unhide HB3).cell 5
    have c6 := (unhide HB3).cell 6
    have c7 := (unhide HB3).cell 7
    have c8 := (unhide HB3).cell 8
    simp at c0 c1 c2 c3 c4 c5 c6 c7 c8
    clear hT
    generalize hrr : chkA c = r at *
    obtain ⟨r1, r2, r3, r4⟩ := r
    go_wp2_with fail
    refine (unhide HT).mono ?_
    rintro e w4 ⟨rfl, hb4⟩
    clear HT c0 c1 c2 c3 c4 c5 c6 c7 c8
    have HB4 := hide ((unhide HB3).below hb4)
    have HD4 := hide ((unhide HD3).below hb4)
    have HL4 := hide ((unhide HL3).trans (hb4.mono (unhide HL3).size))
    have HQ4 := hide ((unhide HQ3).below hb4)
    have hT := rCheck_any c _ _ _ _ L2 w4 (unhide HQ4) (unhide Hok) (unhide Hsm) (unhide Hcp).1 (unhide Hcp).2.1 (unhide Hcp).2.2
    rw [hrr] at hT
    have HT := hide hT
    have c0 := (unhide HD4).cell 0
    have c1 := (unhide HD4).cell 1
    have c2 := (unhide HD4).cell 2
    have c3 := (unhide HD4).cell 3
    have c4 := (unhide HD4).cell 4
    have c5 := (unhide HD4).cell 5
    have c6 := (unhide HD4).cell 6
    have c7 := (unhide HD4).cell 7
    have c8 := (unhide HD4).cell 8
    simp at c0 c1 c2 c3 c4 c5 c6 c7 c8
    clear hT hb4 HB3 HD3 HL3 HQ3 hrr
    simp only
    go_wp2_with fail
    refine (unhide HT).mono ?_
    rintro e w5 ⟨rfl, hb5⟩
    clear HT c0 c1 c2 c3 c4 c5 c6 c7 c8
    have HB5 := hide ((unhide HB4).below hb5)
    have HD5 := hide ((unhide HD4).below hb5)
    have HL5 := hide ((unhide HL4).trans (hb5.mono (unhide HL4).size))
    have HQ5 := hide ((unhide HQ4).below hb5)
    have hT := sameClass_eq c _ _ _ _ _ _ _ _ L L2 w5 ((unhide HC).below (unhide HL5)) (unhide HQ5) (unhide Hcb)
    unfold clvv at hT
    have HT := hide hT
    have c0 := (unhide HB5).cell 0
    have c1 := (unhide HB5).cell 1
    have c2 := (unhide HB5).cell 2
    have c3 := (unhide HB5).cell 3
    have c4 := (unhide HB5).cell 4
    have c5 := (unhide HB5).cell 5
    have c6 := (unhide HB5).cell 6
    have c7 := (unhide HB5).cell 7
    have c8 := (unhide HB5).cell 8
    have d0 := (unhide HD5).cell 0
    have d1 := (unhide HD5).cell 1
    have d2 := (unhide HD5).cell 2
    have d3 := (unhide HD5).cell 3
    have d4 := (unhide HD5).cell 4
    have d5 := (unhide HD5).cell 5
    have d6 := (unhide HD5).cell 6
    have d7 := (unhide HD5).cell 7
    have d8 := (unhide HD5).cell 8
    simp at c0 c1 c2 c3 c4 c5 c6 c7 c8 d0 d1 d2 d3 d4 d5 d6 d7 d8
    clear hT hb5 HB4 HD4 HL4 HQ4
    simp only
    go_wp2_with fail
    refine (unhide HT).mono ?_
    rintro e w6 ⟨rfl, hb6⟩
    clear HT c0 c1 c2 c3 c4 c5 c6 c7 c8 d0 d1 d2 d3 d4 d5 d6 d7 d8
    have HL6 := hide ((unhide HL5).trans (hb6.mono (unhide HL5).size))
    clear hb6
    go_wp2
    go_ret
    exact ⟨rfl, unhide HL6⟩
end Go.Proofs.YtddhlphbbiihjaaGreatDoor.Cl
