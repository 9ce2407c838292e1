/-
  ClassChecks: the program looks at a class.
-/
import Derived.Test.YtddhlphbbiihjaaGreatDoorMgFd
import Derived.Test.YtddhlphbbiihjaaGreatDoorMgEm
set_option linter.unusedVariables false
set_option linter.unusedSimpArgs false
namespace Go.Proofs.YtddhlphbbiihjaaGreatDoor.Cl
open Go.RowKit Go.Maps Kn
/-- What is wrong first with constants: the error, the number. -/
def consE (P : List K) : Nat → List K → Nat × Nat
  | _, [] => (0, 0)
  | k, c :: r => if conE P c = 0 then consE P (k + 1) r else (conE P c, k)
theorem cons_drop (P : List K) (r : List K) (k : Nat) (hk : k < r.length) : consE P k (r.drop k) = if conE P (r.getD k K.zero) = 0 then consE P (k + 1) (r.drop (k + 1)) else (conE P (r.getD k K.zero), k) := by
  rw [List.drop_eq_getElem_cons hk, getD_at _ _ hk]; rfl
def fldsE (P : List K) (fl : Nat) : Nat → List (List UInt8 × List UInt8) → List Fd → Nat × Nat
  | _, _, [] => (0, 0)
  | k, ks, f :: r => if fldE P fl ks f = 0 then fldsE P fl (k + 1) (ks ++ [sgF P f]) r else (fldE P fl ks f, k)
theorem flds_drop (P : List K) (fl : Nat) (ks : List (List UInt8 × List UInt8)) (r : List Fd) (k : Nat) (hk : k < r.length) : fldsE P fl k ks (r.drop k) = if fldE P fl ks (r.getD k Fz) = 0 then fldsE P fl (k + 1) (ks ++ [sgF P (r.getD k Fz)]) (r.drop (k + 1)) else (fldE P fl ks (r.getD k Fz), k) := by
  rw [List.drop_eq_getElem_cons hk, getD_at _ _ hk]; rfl
def Miz : Mi := Mv.zero.m
def mthsE (P : List K) (fl : Nat) : Nat → List (List UInt8 × List UInt8) → List Mi → Int × Nat × Int
  | _, _, [] => (0, 0, 0)
  | k, ks, m :: r => if (mthE P fl ks m).1 = 0 then mthsE P fl (k + 1) (ks ++ [sgM P m]) r else ((mthE P fl ks m).1, k, (mthE P fl ks m).2)
theorem mths_drop (P : List K) (fl : Nat) (ks : List (List UInt8 × List UInt8)) (r : List Mi) (k : Nat) (hk : k < r.length) : mthsE P fl k ks (r.drop k) = if (mthE P fl ks (r.getD k Miz)).1 = 0 then mthsE P fl (k + 1) (ks ++ [sgM P (r.getD k Miz)]) (r.drop (k + 1)) else ((mthE P fl ks (r.getD k Miz)).1, k, (mthE P fl ks (r.getD k Miz)).2) := by
  rw [List.drop_eq_getElem_cons hk, getD_at _ _ hk]; rfl
/-- What is wrong first with a class: the error, the part, the number, the place. -/
def chkA (c : Csi) : Int × Int × Int × Int :=
  if (consE c.pool 0 c.pool).1 = 0 then
    (if clsE c.pool c.flags c.this c.super c.ifaces = 0 then
      (if (fldsE c.pool c.flags 0 [] c.fields).1 = 0 then
        (if (mthsE c.pool c.flags 0 [] c.methods).1 = 0 then (0, 0, 0, 0) else ((mthsE c.pool c.flags 0 [] c.methods).1, 3, ((mthsE c.pool c.flags 0 [] c.methods).2.1 : Int), (mthsE c.pool c.flags 0 [] c.methods).2.2))
       else (((fldsE c.pool c.flags 0 [] c.fields).1 : Int), 2, ((fldsE c.pool c.flags 0 [] c.fields).2 : Int), 0))
     else ((clsE c.pool c.flags c.this c.super c.ifaces : Int), 1, 0, 0))
  else (((consE c.pool 0 c.pool).1 : Int), 0, ((consE c.pool 0 c.pool).2 : Int), 0)
/-- A class that is looked at, and the checker. -/
structure Cx (w : World) (bb cb : Nat) (c : Csi) (vp vi vf vm : Value) (L : List Mv) : Prop where
  b : Bk w bb #[.int .u16 (c.minor : Int), .int .u16 (c.major : Int), .int .u16 (c.flags : Int), .int .u16 (c.this : Int), .int .u16 (c.super : Int), vp, vi, vf, vm] 28
  k : Kc w cb vp c.pool c.flags
  c : Cin w c vp vi vf vm L
  wd : Dc.Wd w
theorem Cx.below {w w' : World} {bb cb : Nat} {c : Csi} {vp vi vf vm : Value} {L : List Mv} (h : Cx w bb cb c vp vi vf vm L) (hb : Below w.heap.size w w') : Cx w' bb cb c vp vi vf vm L :=
  ⟨h.b.below hb, h.k.below hb, h.c.below hb, h.wd.below hb⟩
theorem Cx.bx {mb : Nat} {w w' : World} {ks : List (List UInt8 × List UInt8)} {bb cb : Nat} {c : Csi} {vp vi vf vm : Value} {L : List Mv} (h : Cx w bb cb c vp vi vf vm L) (hx : Ck.Bx mb w w') (hT : Told w mb ks) (hne : bb ≠ mb) : Cx w' bb cb c vp vi vf vm L :=
  ⟨h.b.bx hx hne, h.k.bx hx hT, h.c.bx hx hT, Wd.bx h.wd hx hT⟩
/-- How much there is of a class that is small. -/
structure Csm (c : Csi) : Prop where
  p : c.pool.length ≤ 32768
  i : c.ifaces.length ≤ 32768
  f : c.fields.length ≤ 32768
  m : c.methods.length ≤ 32768
  s : Sml c.pool
  h : ∀ x ∈ c.methods, x.code.handlers.length ≤ 32768 ∧ x.code.bytes.length ≤ 32768
theorem Csm.of {c : Csi} (h : c.size ≤ 32768) : Csm c := by
  unfold Csi.size at h
  refine ⟨by omega, by omega, by omega, by omega, fun x hx => ?_, fun x hx => ?_⟩
  · have := sum_mem ksz hx
    unfold ksz at this
    unfold ksz at h
    omega
  · have := sum_mem msz hx
    unfold msz at this
    unfold msz at h
    omega
theorem results_tmp4 {fn : Func} {t u v x : Tmp} (h : fn.results = #[.tmp t, .tmp u, .tmp v, .tmp x]) (tmps : Array Value) (P : Program) (w : World) :
    (results fn tmps).run P w = .ok (.tuple #[tmps.getD t undef, tmps.getD u undef, tmps.getD v undef, tmps.getD x undef]) w := by
  simp [results, h]
theorem getD_m (L : List Mv) (k : Nat) (hk : k < L.length) : (L.map Mv.m).getD k Miz = (L.getD k Mv.zero).m := by
  rw [getD_at _ _ (by simpa using hk), getD_at _ _ hk, List.getElem_map]
theorem mem_m {L : List Mv} {k : Nat} (hk : k < L.length) : (L.getD k Mv.zero) ∈ L := by rw [getD_at _ _ hk]; exact List.getElem_mem _
set_option maxRecDepth 100000 in
set_option maxHeartbeats 8000000 in
theorem Check_any (c : Csi) (vp vi vf vm : Value) (L : List Mv) (w : World) (hC : Cin w c vp vi vf vm L) (hok : c.Ok) (hs : Csm c) (hm : Mx w) (hw : Dc.Wd w) :
    Calls Tryz.prog 6 #[.agg #[.int .u16 (c.minor : Int), .int .u16 (c.major : Int), .int .u16 (c.flags : Int), .int .u16 (c.this : Int), .int .u16 (c.super : Int), vp, vi, vf, vm]] w fun e w' => e = .returned (.tuple #[.int .i64 (chkA c).1, .int .i64 (chkA c).2.1, .int .i64 (chkA c).2.2.1, .int .i64 (chkA c).2.2.2]) ∧ Below w.heap.size w w' := by
  obtain ⟨w0, hw0⟩ : ∃ w0, w0 = w.alloc (.cells #[.int .u16 (c.minor : Int), .int .u16 (c.major : Int), .int .u16 (c.flags : Int), .int .u16 (c.this : Int), .int .u16 (c.super : Int), vp, vi, vf, vm] 28) := ⟨_, rfl⟩
  have hb0 : Below w.heap.size w w0 := by rw [hw0]; exact (Below.refl _ _).alloc (Nat.le_refl _) _
  have hk0 : Bk w0 w.heap.size #[.int .u16 (c.minor : Int), .int .u16 (c.major : Int), .int .u16 (c.flags : Int), .int .u16 (c.this : Int), .int .u16 (c.super : Int), vp, vi, vf, vm] 28 := by rw [hw0]; exact Bk.new _ _ _
  obtain ⟨w1, hw1⟩ : ∃ w1, w1 = w0.alloc (.cells #[vp, .int .u16 (c.flags : Int)] 46) := ⟨_, rfl⟩
  have hb1 : Below w0.heap.size w0 w1 := by rw [hw1]; exact (Below.refl _ _).alloc (Nat.le_refl _) _
  have hk1 : Bk w1 w0.heap.size #[vp, .int .u16 (c.flags : Int)] 46 := by rw [hw1]; exact Bk.new _ _ _
  have hb01 := hb0.trans (hb1.mono hb0.size)
  have hX1 : Cx w1 w.heap.size w0.heap.size c vp vi vf vm L := ⟨hk0.below hb1, ⟨hk1.cell 0, hk1.cell 1, (hC.below hb01).p, hm.below hb01⟩, hC.below hb01, hw.below hb01⟩
  have c2 := hk0.cell 2
  have c5 := hk0.cell 5
  simp at c2 c5
  have d5 := hX1.b.cell 5
  simp at d5
  have HX1 := hide hX1
  have HB1 := hide hb01
  have HOk := hide hok
  have HSm := hide hs
  have hme := hC.e
  generalize hr : chkA c = r
  unfold chkA at hr
  rw [← hme] at hr
  generalize hq1 : consE c.pool 0 c.pool = q1 at hr
  generalize hq2 : clsE c.pool c.flags c.this c.super c.ifaces = q2 at hr
  generalize hq3 : fldsE c.pool c.flags 0 [] c.fields = q3 at hr
  generalize hq4 : mthsE c.pool c.flags 0 [] (L.map Mv.m) = q4 at hr
  have Hq1 := hide hq1
  have Hq2 := hide hq2
  have Hq3 := hide hq3
  have Hq4 := hide hq4
  have Hme := hide hme
  clear hq1 hq2 hq3 hq4 hme
  have Hr := hide hr
  obtain ⟨pa, pc, rfl, _⟩ := hC.p.ex
  obtain ⟨ia, ic, rfl, _⟩ := hC.i
  obtain ⟨fa, fc, rfl, hfcell⟩ := hC.f
  obtain ⟨ma, mc, rfl, hmcell⟩ := hC.m
  have hz46 : ∀ W : World, (zeroValue 46).run Tryz.prog W = .ok (.agg #[.slice none 0 0, .int .u16 0]) W := fun W => by kernel_rfl
  clear hr hb0 hk0 hb1 hk1 hb01 hX1 hC hok hs hm hw hfcell hmcell
  go_enter Tryz.func6, Tryz.ntmps6
  go_upto_region 1 with fail
  rw [← hw0]
  clear hw0
  go_upto_region 2 with fail
  rw [← hw1]
  clear hw1 c2 c5
  go_wp2_with fail
  go_loopw [27] (fun i wr => ∃ k : Nat, k ≤ c.pool.length ∧ i = .int .i64 k ∧ Below w1.heap.size w1 wr ∧ Hid (consE c.pool k (c.pool.drop k) = q1)) (fun i _ => c.pool.length - (intOf i).toNat)
  case atStart => exact ⟨0, Nat.zero_le _, rfl, Below.refl _ _, Hq1⟩
  case round =>
    obtain ⟨k, hk, rfl, hbr, Hno⟩ := hrel
    have hpl := (unhide HSm).p
    by_cases hlt : k < c.pool.length
    · have hX := (unhide HX1).below hbr
      have hne : c.pool ≠ [] := by intro e; rw [e] at hlt; simp at hlt
      obtain ⟨bp, op, pcap, hpe⟩ := hX.c.p.form hne
      cases hpe
      obtain ⟨e0, e1, e2, e3, e4⟩ := hX.c.p.at hlt
      have hfit := hX.c.p.fit (c.pool.getD k K.zero) (by rw [getD_at _ _ hlt]; exact List.getElem_mem _)
      have hd := cons_drop c.pool c.pool k hlt
      rw [unhide Hno] at hd
      generalize c.pool.getD k K.zero = x at *
      have HCn := hide (fun (w2 : World) (hb2 : Below w1.heap.size w1 w2) => constant_any w0.heap.size c.flags (.slice (some ⟨bp, op, none⟩) c.pool.length pc) c.pool x w2 ((unhide HX1).below hb2).k (by omega) (unhide HSm).s hfit.1 hfit.2.1 hfit.2.2)
      have nz := nat_ne0 (conE c.pool x)
      have hb2 : Below w1.heap.size w1 (wr.alloc (.cells #[.int .u8 (x.tag : Int), .string ⟨x.text.toArray⟩, .int .u64 (x.bits : Int), .int .u16 (x.a : Int), .int .u16 (x.b : Int)] 38)) := hbr.alloc hbr.size _
      have HB2 := hide hb2
      have Hd := hide hd
      have HBr := hide hbr
      clear hX hne hfit hd hb2 hbr Hno
      by_cases he : conE c.pool x = 0
      · rw [decide_eq_true he, Bool.not_true] at nz
        have hE := unhide Hd
        rw [if_pos he] at hE
        have HE := hide hE.symm
        clear Hd hE he
        go_wp2_with fail
        refine (unhide HCn _ (unhide HB2)).mono ?_
        rintro e w3 ⟨rfl, hb3⟩
        have HB3 := hide ((unhide HB2).trans (hb3.mono (unhide HB2).size))
        clear HCn hb3 e0 e1 e2 e3 e4
        go_wp2
        go_roundw
        case rel => exact ⟨k + 1, by omega, by go_num, unhide HB3, HE⟩
        case measure => simp [intOf]; omega
      · rw [decide_eq_false he, Bool.not_false] at nz
        have hE := unhide Hd
        rw [if_neg he] at hE
        have hE2 := unhide Hr
        rw [hE] at hE2
        simp only at hE2
        rw [if_neg he] at hE2
        subst hE2
        clear Hd hE he Hr
        go_wp2_with fail
        refine (unhide HCn _ (unhide HB2)).mono ?_
        rintro e w3 ⟨rfl, hb3⟩
        have HB3 := hide ((unhide HB2).trans (hb3.mono (unhide HB2).size))
        clear HCn hb3 e0 e1 e2 e3 e4
        go_wp2
        ((try simp only [Exit.inBlock, Exit.then]); refine bodyPost_ret (results_tmp4 rfl _ _ _) rfl ?_)
        exact ⟨rfl, (unhide HB1).trans ((unhide HB3).mono (unhide HB1).size)⟩
    · have hkl : k = c.pool.length := by omega
      have hE1 : (0, 0) = q1 := by have h := unhide Hno; rw [hkl, List.drop_length] at h; exact h
      subst hkl
      have hE := unhide Hr
      rw [← hE1] at hE
      simp only [if_true] at hE
      have Hr2 := hide hE
      have HBr := hide hbr
      have hX := (unhide HX1).below hbr
      have b0 := hX.b.cell 0
      have b1 := hX.b.cell 1
      have b2 := hX.b.cell 2
      have b3 := hX.b.cell 3
      have b4 := hX.b.cell 4
      have b5 := hX.b.cell 5
      have b6 := hX.b.cell 6
      have b7 := hX.b.cell 7
      have b8 := hX.b.cell 8
      simp at b0 b1 b2 b3 b4 b5 b6 b7 b8
      have hcl := class10_any w0.heap.size _ c _ _ _ _ L wr hX.k (by omega) (unhide HSm).s hX.c (unhide HOk) (unhide HSm).i
      rw [unhide Hq2] at hcl
      unfold clv at hcl
      have HCl := hide hcl
      have HX := hide hX
      clear hX hcl hE hE1 Hno hbr Hr d5
      go_wp2_with fail
      refine (unhide HCl).mono ?_
      rintro e w2 ⟨rfl, hb2⟩
      have HX2 := hide ((unhide HX).below hb2)
      have HB2 := hide ((unhide HB1).trans (((unhide HBr).trans (hb2.mono (unhide HBr).size)).mono (unhide HB1).size))
      clear HCl hb2 HX b0 b1 b2 b3 b4 b5 b6 b7 b8 HX1 HBr HB1
      have nz := nat_ne0 q2
      by_cases he : q2 = 0
      · rw [decide_eq_true he, Bool.not_true] at nz
        have hE := unhide Hr2
        rw [if_pos he] at hE
        have Hr := hide hE
        clear hE he Hr2
        obtain ⟨w3, hw3⟩ : ∃ w3, w3 = w2.alloc (.map #[] 0) := ⟨_, rfl⟩
        have hb3 : Below w2.heap.size w2 w3 := by rw [hw3]; exact (Below.refl _ _).alloc (Nat.le_refl _) _
        have hT3 : Told w3 w2.heap.size [] := by rw [hw3]; exact Told.made w2
        have HX3 := hide ((unhide HX2).below hb3)
        have HT3 := hide hT3
        have HB3 := hide ((unhide HB2).trans (hb3.mono (unhide HB2).size))
        have hmk := makeMap50 w2
        rw [← hw3] at hmk
        have b7 := (unhide HX3).b.cell 7
        simp at b7
        have hbb : w.heap.size < w2.heap.size := (unhide HX2).b.lt
        have hww : w.heap.size ≤ w2.heap.size := by omega
        clear hw3 hb3 hT3 HX2
        have HB2' := HB2
        clear HB2
        go_wp2_with fail
        go_loopw [48] (fun i wr => ∃ (k : Nat) (ks : List (List UInt8 × List UInt8)), k ≤ c.fields.length ∧ i = .int .i64 k ∧ ks.length ≤ k ∧ Told wr w2.heap.size ks ∧ Ck.Bx w2.heap.size w3 wr ∧ Hid (fldsE c.pool c.flags k ks (c.fields.drop k) = q3)) (fun i _ => c.fields.length - (intOf i).toNat)
        case atStart => exact ⟨0, [], Nat.zero_le _, rfl, Nat.le_refl _, unhide HT3, Ck.Bx.of (Below.refl _ _), Hq3⟩
        case round =>
          obtain ⟨k, ks, hk, rfl, hks, hT, hxr, Hno⟩ := hrel
          have hfl := (unhide HSm).f
          by_cases hlt : k < c.fields.length
          · have hX := (unhide HX3).bx hxr (unhide HT3) (by omega)
            have hne : c.fields ≠ [] := by intro e; rw [e] at hlt; simp at hlt
            obtain ⟨fad, fcap, hfe, hfc⟩ := hX.c.f
            obtain ⟨fb, fo, hfa, hcell⟩ := hfc hne
            subst hfa
            cases hfe
            have e0 : wr.cell? ⟨fb, fo + k * 4, none⟩ = some (.int .u16 ((c.fields.getD k Fz).flags : Int)) := hcell k hlt 0 (by omega)
            have e1 : wr.cell? ⟨fb, fo + k * 4 + 1, none⟩ = some (.int .u16 ((c.fields.getD k Fz).name : Int)) := hcell k hlt 1 (by omega)
            have e2 : wr.cell? ⟨fb, fo + k * 4 + 2, none⟩ = some (.int .u16 ((c.fields.getD k Fz).type_ : Int)) := hcell k hlt 2 (by omega)
            have e3 : wr.cell? ⟨fb, fo + k * 4 + 3, none⟩ = some (.int .u16 ((c.fields.getD k Fz).value : Int)) := hcell k hlt 3 (by omega)
            have hfo : FdOk (c.fields.getD k Fz) := (unhide HOk).xf _ (by rw [getD_at _ _ hlt]; exact List.getElem_mem _)
            have hd := flds_drop c.pool c.flags ks c.fields k hlt
            rw [unhide Hno] at hd
            generalize c.fields.getD k Fz = f at *
            have hb4 : Below wr.heap.size wr (wr.alloc (.cells #[.int .u16 (f.flags : Int), .int .u16 (f.name : Int), .int .u16 (f.type_ : Int), .int .u16 (f.value : Int)] 52)) := (Below.refl _ _).alloc (Nat.le_refl _) _
            have HFd := hide (field_any w0.heap.size c.flags w2.heap.size _ c.pool ks f _ (hX.below hb4).k (by have := (unhide HSm).p; omega) (unhide HSm).s (unhide HOk).x3 hfo (hT.below hb4) (by omega))
            have nz := nat_ne0 (fldE c.pool c.flags ks f)
            have HXr := hide (hxr.trans (Ck.Bx.of (mb := w2.heap.size) hb4))
            have Hd := hide hd
            clear hX hne hcell hfc hfo hd hb4 hxr hT Hno
            by_cases he : fldE c.pool c.flags ks f = 0
            · rw [decide_eq_true he, Bool.not_true] at nz
              have hE := unhide Hd
              rw [if_pos he] at hE
              have HE := hide hE.symm
              have He := hide he
              clear Hd hE he
              go_wp2_with fail
              refine (unhide HFd).mono ?_
              rintro e w5 ⟨rfl, hx5, ht5⟩
              have HX5 := hide ((unhide HXr).trans hx5)
              have HT5 := hide (ht5 (unhide He))
              clear HFd hx5 ht5 e0 e1 e2 e3
              go_wp2
              go_roundw
              case rel => exact ⟨k + 1, ks ++ [sgF c.pool f], by omega, by go_num, by simp; omega, unhide HT5, unhide HX5, HE⟩
              case measure => simp [intOf]; omega
            · rw [decide_eq_false he, Bool.not_false] at nz
              have hE := unhide Hd
              rw [if_neg he] at hE
              have hE2 := unhide Hr
              rw [hE] at hE2
              simp only at hE2
              rw [if_neg he] at hE2
              subst hE2
              clear Hd hE he Hr
              go_wp2_with fail
              refine (unhide HFd).mono ?_
              rintro e w5 ⟨rfl, hx5, ht5⟩
              have HX5 := hide ((unhide HXr).trans hx5)
              clear HFd hx5 ht5 e0 e1 e2 e3
              go_wp2
              ((try simp only [Exit.inBlock, Exit.then]); refine bodyPost_ret (results_tmp4 rfl _ _ _) rfl ?_)
              exact ⟨rfl, below_bx (unhide HB3) (unhide HX5) (unhide HB3).size hww⟩
          · have hkl : k = c.fields.length := by omega
            have hE1 : (0, 0) = q3 := by have h := unhide Hno; rw [hkl, List.drop_length] at h; exact h
            subst hkl
            have hE := unhide Hr
            rw [← hE1] at hE
            simp only [if_true] at hE
            have Hr2 := hide hE
            have HX4 := hide ((unhide HX3).bx hxr (unhide HT3) (by omega))
            have HB4 := hide (below_bx (unhide HB3) hxr (unhide HB3).size hww)
            clear hE hE1 Hno hxr hT Hr b7 hmk
            obtain ⟨w5, hw5⟩ : ∃ w5, w5 = wr.alloc (.map #[] 0) := ⟨_, rfl⟩
            have hb5 : Below wr.heap.size wr w5 := by rw [hw5]; exact (Below.refl _ _).alloc (Nat.le_refl _) _
            have hT5 : Told w5 wr.heap.size [] := by rw [hw5]; exact Told.made wr
            have HX5 := hide ((unhide HX4).below hb5)
            have HT5 := hide hT5
            have HB5 := hide ((unhide HB4).trans (hb5.mono (unhide HB4).size))
            have hmk := makeMap50 wr
            rw [← hw5] at hmk
            have b8 := (unhide HX5).b.cell 8
            simp at b8
            have hbb2 : w.heap.size < wr.heap.size := (unhide HX4).b.lt
            have hww2 : w.heap.size ≤ wr.heap.size := by omega
            clear hw5 hb5 hT5 HX4 HB4 HX3 HT3 HB3
            go_wp2_with fail
            obtain ⟨wq, hwq⟩ : ∃ wq, wq = wr := ⟨_, rfl⟩
            subst hwq
            go_loopw [65] (fun i wx => ∃ (k : Nat) (ks : List (List UInt8 × List UInt8)), k ≤ L.length ∧ i = .int .i64 k ∧ ks.length ≤ k ∧ Told wx wq.heap.size ks ∧ Ck.Bx wq.heap.size w5 wx ∧ Hid (mthsE c.pool c.flags k ks ((L.map Mv.m).drop k) = q4)) (fun i _ => L.length - (intOf i).toNat)
            case atStart => exact ⟨0, [], Nat.zero_le _, rfl, Nat.le_refl _, unhide HT5, Ck.Bx.of (Below.refl _ _), Hq4⟩
            case round =>
              obtain ⟨k, ks, hk, rfl, hks2, hT, hxr, Hno⟩ := hrel
              have hLl : L.length ≤ 32768 := by have h1 := (unhide HSm).m; rw [← unhide Hme, List.length_map] at h1; exact h1
              by_cases hlt : k < L.length
              · have hX := (unhide HX5).bx hxr (unhide HT5) (by omega)
                have hne : L ≠ [] := by intro e; rw [e] at hlt; simp at hlt
                obtain ⟨mad, mcap, hfe, hfc⟩ := hX.c.m
                obtain ⟨gb, go, hfa, hcell⟩ := hfc hne
                subst hfa
                cases hfe
                have e0 : wr.cell? ⟨gb, go + k * 9, none⟩ = some (.int .u16 ((L.getD k Mv.zero).m.flags : Int)) := hcell k hlt 0 (by omega)
                have e1 : wr.cell? ⟨gb, go + k * 9 + 1, none⟩ = some (.int .u16 ((L.getD k Mv.zero).m.name : Int)) := hcell k hlt 1 (by omega)
                have e2 : wr.cell? ⟨gb, go + k * 9 + 2, none⟩ = some (.int .u16 ((L.getD k Mv.zero).m.type_ : Int)) := hcell k hlt 2 (by omega)
                have e3 : wr.cell? ⟨gb, go + k * 9 + 3, none⟩ = some (.bool (L.getD k Mv.zero).m.has) := hcell k hlt 3 (by omega)
                have e4 : wr.cell? ⟨gb, go + k * 9 + 4, none⟩ = some (.int .i64 (L.getD k Mv.zero).m.code.stack) := hcell k hlt 4 (by omega)
                have e5 : wr.cell? ⟨gb, go + k * 9 + 5, none⟩ = some (.int .i64 (L.getD k Mv.zero).m.code.locals) := hcell k hlt 5 (by omega)
                have e6 : wr.cell? ⟨gb, go + k * 9 + 6, none⟩ = some (.string ⟨(L.getD k Mv.zero).m.code.bytes.toArray⟩) := hcell k hlt 6 (by omega)
                have e7 : wr.cell? ⟨gb, go + k * 9 + 7, none⟩ = some (L.getD k Mv.zero).hv := hcell k hlt 7 (by omega)
                have e8 : wr.cell? ⟨gb, go + k * 9 + 8, none⟩ = some (.string ⟨(L.getD k Mv.zero).m.code.map.toArray⟩) := hcell k hlt 8 (by omega)
                have hmm : (L.getD k Mv.zero).m ∈ c.methods := by rw [← unhide Hme]; exact List.mem_map_of_mem (mem_m hlt)
                have hmo := (unhide HOk).xm _ hmm
                have hms := (unhide HSm).h _ hmm
                have hhv := hX.c.h _ (mem_m hlt)
                have hd := mths_drop c.pool c.flags ks (L.map Mv.m) k (by simpa using hlt)
                rw [unhide Hno, getD_m L k hlt] at hd
                generalize L.getD k Mv.zero = f at *
                obtain ⟨hva, hvc, hve, hvcell⟩ := hhv
                have hhv : FIn Hi.cells 4 Hi.zero wr f.hv f.m.code.handlers := ⟨hva, hvc, hve, hvcell⟩
                have hb6 : Below wr.heap.size wr (wr.alloc (.cells #[.int .u16 (f.m.flags : Int), .int .u16 (f.m.name : Int), .int .u16 (f.m.type_ : Int), .bool f.m.has, .int .i64 f.m.code.stack, .int .i64 f.m.code.locals, .string ⟨f.m.code.bytes.toArray⟩, f.hv, .string ⟨f.m.code.map.toArray⟩] 43)) := (Below.refl _ _).alloc (Nat.le_refl _) _
                have hFd := method_any w0.heap.size c.flags wq.heap.size _ c.pool ks f _ (hX.below hb6).k (by have := (unhide HSm).p; omega) (unhide HSm).s (unhide HOk).x3 (hX.below hb6).wd hmo (hT.below hb6) (by omega) (FIn.below Hi.len hhv hb6) (by have := hms.1; omega) (by have := hms.2; omega)
                rw [hve] at hFd e7 hb6
                have HFd := hide hFd
                have nz : ((mthE c.pool c.flags ks f.m).1 != 0) = !decide ((mthE c.pool c.flags ks f.m).1 = 0) := by rw [Bool.eq_iff_iff]; simp
                have HXr := hide (hxr.trans (Ck.Bx.of (mb := wq.heap.size) hb6))
                have Hd := hide hd
                clear hX hne hcell hfc hd hb6 hxr hT Hno hmm hmo hms hhv hvcell hFd hve
                generalize mthE c.pool c.flags ks f.m = me at *
                obtain ⟨me1, me2⟩ := me
                simp only at nz
                by_cases he : me1 = 0
                · rw [decide_eq_true he, Bool.not_true] at nz
                  have hE := unhide Hd
                  simp only at hE
                  rw [if_pos he] at hE
                  have HE := hide hE.symm
                  have He := hide he
                  clear Hd hE he
                  go_wp2_with fail
                  refine (unhide HFd).mono ?_
                  rintro e w7 ⟨rfl, hx7, ht7⟩
                  have HX7 := hide ((unhide HXr).trans hx7)
                  have HT7 := hide (ht7 (unhide He))
                  clear HFd hx7 ht7 e0 e1 e2 e3 e4 e5 e6 e7 e8
                  go_wp2
                  go_roundw
                  case rel => exact ⟨k + 1, ks ++ [sgM c.pool f.m], by omega, by go_num, by simp; omega, unhide HT7, unhide HX7, HE⟩
                  case measure => simp [intOf]; omega
                · rw [decide_eq_false he, Bool.not_false] at nz
                  have hE := unhide Hd
                  simp only at hE
                  rw [if_neg he] at hE
                  have hE2 := unhide Hr2
                  rw [hE] at hE2
                  simp only at hE2
                  rw [if_neg he] at hE2
                  subst hE2
                  clear Hd hE he Hr2
                  go_wp2_with fail
                  refine (unhide HFd).mono ?_
                  rintro e w7 ⟨rfl, hx7, ht7⟩
                  have HX7 := hide ((unhide HXr).trans hx7)
                  clear HFd hx7 ht7 e0 e1 e2 e3 e4 e5 e6 e7 e8
                  go_wp2
                  ((try simp only [Exit.inBlock, Exit.then]); refine bodyPost_ret (results_tmp4 rfl _ _ _) rfl ?_)
                  exact ⟨rfl, below_bx (unhide HB5) (unhide HX7) (unhide HB5).size hww2⟩
              · have hkl : k = L.length := by omega
                have hE1 : (0, 0, 0) = q4 := by have h := unhide Hno; rw [hkl, List.drop_eq_nil_of_le (by simp)] at h; exact h
                subst hkl
                have hE := unhide Hr2
                rw [← hE1] at hE
                simp only [if_true] at hE
                subst hE
                have HX7 := hide hxr
                clear hE1 Hno hxr hT Hr2
                go_wp2
                ((try simp only [Exit.inBlock, Exit.then]); refine bodyPost_ret (results_tmp4 rfl _ _ _) rfl ?_)
                exact ⟨rfl, below_bx (unhide HB5) (unhide HX7) (unhide HB5).size hww2⟩
      · rw [decide_eq_false he, Bool.not_false] at nz
        have hE := unhide Hr2
        rw [if_neg he] at hE
        subst hE
        clear he Hr2
        go_wp2
        ((try simp only [Exit.inBlock, Exit.then]); refine bodyPost_ret (results_tmp4 rfl _ _ _) rfl ?_)
        exact ⟨rfl, unhide HB2⟩
end Go.Proofs.YtddhlphbbiihjaaGreatDoor.Cl
