/-
  ClassChecks: the program looks at the code of a method.
-/
import Derived.Test.YtddhlphbbiihjaaGreatDoorMgFb
import Derived.Test.YtddhlphbbiihjaaGreatDoorCs
set_option linter.unusedVariables false
set_option linter.unusedSimpArgs false
namespace Go.Proofs.YtddhlphbbiihjaaGreatDoor.Cl
open Go.RowKit Go.Maps Kn
theorem beg_map (L : List Dc.J) (t : Int) : ((L.map Dc.J.v).any fun c => decide (c.g.at_ = t)) = beg (L.map Dc.J.i) t := by
  unfold beg Dc.M.begins; rw [List.any_map, List.any_map]; rfl
theorem sorted_map {L : List Dc.J} (h : (L.map Dc.J.i).Pairwise (fun x y => x.at_ < y.at_)) : ∀ (a b : Nat) (ha : a < (L.map Dc.J.v).length) (hb : b < (L.map Dc.J.v).length), a < b → ((L.map Dc.J.v)[a]).g.at_ < ((L.map Dc.J.v)[b]).g.at_ := by
  intro a b ha hb hab
  rw [List.pairwise_iff_getElem] at h
  have := h a b (by simpa using ha) (by simpa using hb) hab
  simp only [List.getElem_map] at this ⊢
  exact Int.ofNat_lt.2 this
/-- What stands ahead of the handlers. -/
structure Hb (w : World) (cb xb lb : Nat) (pv : Value) (P : List K) (fl : Nat) (c : Ci) (hv v : Value) (L : List Dc.J) : Prop where
  k : Kc w cb pv P fl
  x : Bk w xb #[.int .i64 c.stack, .int .i64 c.locals, .string ⟨c.bytes.toArray⟩, hv, .string ⟨c.map.toArray⟩] 41
  l : Bk w lb #[v] 104
  g : Cw.GHas w v (L.map Dc.J.v)
  h : FIn Hi.cells 4 Hi.zero w hv c.handlers
theorem Hb.below {w w' : World} {cb xb lb fl : Nat} {pv hv v : Value} {P : List K} {c : Ci} {L : List Dc.J} (h : Hb w cb xb lb pv P fl c hv v L) (hb : Below w.heap.size w w') : Hb w' cb xb lb pv P fl c hv v L :=
  ⟨h.k.below hb, h.x.below hb, h.l.below hb, Ck.GHas.below h.g hb, FIn.below Hi.len h.h hb⟩
set_option maxRecDepth 100000 in
set_option maxHeartbeats 4000000 in
theorem code_any (cb fl need : Nat) (pv hv : Value) (P : List K) (c : Ci) (w : World) (h : Kc w cb pv P fl) (hP : P.length ≤ 1048576) (hS : Sml P) (hw : Dc.Wd w) (hc : c.Ok) (hh : FIn Hi.cells 4 Hi.zero w hv c.handlers) (hhl : c.handlers.length ≤ 1048576) (hbl : c.bytes.length ≤ 1048576) (hneed : need ≤ 1048576) :
    Calls Tryz.prog 36 #[.pointer (some ⟨cb, 0, none⟩), .agg #[.int .i64 c.stack, .int .i64 c.locals, .string ⟨c.bytes.toArray⟩, hv, .string ⟨c.map.toArray⟩], .int .i64 (need : Int)] w fun e w' => e = .returned (.tuple #[.int .i64 (codE P c need).1, .int .i64 (codE P c need).2]) ∧ Below w.heap.size w w' := by
  have hsz : (⟨c.bytes.toArray⟩ : ByteArray).size ≤ maxLen := by rw [sz_of]; unfold maxLen; omega
  have HD := hide (fun (w1 : World) (hb1 : Below w.heap.size w w1) => Dc.Decode_any ⟨c.bytes.toArray⟩ w1 (hw.below hb1) hsz)
  have hSm : Ck.Small P := fun x hx => Nat.le_trans (hS x hx) (by omega)
  have HKc := hide h
  have HH0 := hide hh
  obtain ⟨w0, hw0⟩ : ∃ w0, w0 = w.alloc (.cells #[.int .i64 c.stack, .int .i64 c.locals, .string ⟨c.bytes.toArray⟩, hv, .string ⟨c.map.toArray⟩] 41) := ⟨_, rfl⟩
  have hb0 : Below w.heap.size w w0 := by rw [hw0]; exact (Below.refl _ _).alloc (Nat.le_refl _) _
  have hk0 : Bk w0 w.heap.size #[.int .i64 c.stack, .int .i64 c.locals, .string ⟨c.bytes.toArray⟩, hv, .string ⟨c.map.toArray⟩] 41 := by rw [hw0]; exact Bk.new _ _ _
  have c1 := hk0.cell 1
  have c2 := hk0.cell 2
  simp at c1 c2
  have HB0 := hide hb0
  have HK0 := hide hk0
  have hlw : (Lit.int .i64 c.locals).wf = true := WalkArith.wf_i64 (by have := hc.b; unfold Okx at this; omega)
  have HOk := hide hc.h
  generalize hr : codE P c need = r
  unfold codE at hr
  have Hr := hide hr
  obtain ⟨ha, hcap, rfl, hcell⟩ := hh
  clear hcell
  clear hr hb0 hk0 h hS hw hsz
  go_enter Tryz.func36, Tryz.ntmps36
  go_upto_region 1 with fail
  rw [← hw0]
  clear hw0
  by_cases hl : c.locals < (need : Int)
  · have hE := unhide Hr
    rw [if_pos hl] at hE
    subst hE
    clear Hr HD
    go_wp2
    go_ret2
    exact ⟨rfl, unhide HB0⟩
  have hE := unhide Hr
  rw [if_neg hl] at hE
  have HE := hide hE
  clear Hr hE
  go_wp2_with fail
  refine (unhide HD _ (unhide HB0)).mono ?_
  rintro e w1 ⟨hb1, hx⟩
  rw [dt_of] at hx
  have HB1 := hide ((unhide HB0).trans (hb1.mono (unhide HB0).size))
  have HK1 := hide ((unhide HK0).below hb1)
  clear HD hb1 c1 c2 hl
  cases hd : Dc.M.decode c.bytes with
  | error ep =>
    obtain ⟨en, pn⟩ := ep
    have hE := unhide HE
    rw [hd] at hx hE
    simp only at hx hE
    subst hE
    subst hx
    have hne := nat_ne0 en
    rw [decide_eq_false (Dc.M.decode_err hd)] at hne
    clear HE hd
    go_wp2
    go_ret2
    exact ⟨rfl, (unhide HB1).alloc (unhide HB1).size _⟩
  | ok l =>
    rw [hd] at hx
    obtain ⟨v, L, rfl, hL, hLs⟩ := hx
    subst hL
    have hE := unhide HE
    rw [hd] at hE
    simp only at hE
    have hso := Dc.M.decode_sorted hd
    have hlen := Dc.M.decode_len hd
    rw [List.length_map] at hlen
    have hgl := Dc.GHas.of_decode hd hLs
    obtain ⟨va, vc, rfl, hform⟩ := hgl.form
    clear hform
    clear HE
    obtain ⟨w2, hw2⟩ : ∃ w2, w2 = w1.alloc (.cells #[.slice va (L.map Dc.J.v).length vc] 104) := ⟨_, rfl⟩
    have hb12 : Below w1.heap.size w1 w2 := by rw [hw2]; exact (Below.refl _ _).alloc (Nat.le_refl _) _
    have hk2 : Bk w2 w1.heap.size #[.slice va (L.map Dc.J.v).length vc] 104 := by rw [hw2]; exact Bk.new _ _ _
    have hB2 := (unhide HB1).trans (hb12.mono (unhide HB1).size)
    have hH2 : Hb w2 cb w.heap.size w1.heap.size pv P fl c (.slice ha c.handlers.length hcap) (.slice va (L.map Dc.J.v).length vc) L := ⟨(unhide HKc).below hB2, (unhide HK1).below hb12, hk2, Ck.GHas.below hgl hb12, FIn.below Hi.len (unhide HH0) hB2⟩
    have hll : (L.map Dc.J.v).length ≤ 100000 := by rw [List.length_map]; have := hso.2.2; omega
    have HC := hide (fun (w3 : World) (hb3 : Below w2.heap.size w2 w3) => Ck.Check_of Ck.idx_all (L.map Dc.J.v) (.slice va (L.map Dc.J.v).length vc) pv P c.locals w3 ((hH2.below hb3).g) hll ((hH2.below hb3).k.k) hP hSm ((hH2.below hb3).k.mx) hlw)
    rw [show (L.map Dc.J.v).map Cw.V.g = (L.map Dc.J.i).map Dc.I.g from by rw [List.map_map, List.map_map]; rfl] at HC
    generalize hck : Ck.chkE (Ck.chk P c.locals ((L.map Dc.J.i).map Dc.I.g)) = ck at *
    have HLl := hide hll
    have HLl2 := hide hll
    have HSo := hide hso.1
    have HH2 := hide hH2
    have HB2 := hide hB2
    have HE := hide hE
    clear hE hso hlen hgl hb12 hk2 hB2 hH2 hll hd HK1 HB1 HKc HH0 hck hLs
    generalize hvl : (L.map Dc.J.v).length = vl at HC HH2 hw2 HLl ⊢
    clear hvl
    go_upto_region 6 with fail
    rw [← hw2]
    clear hw2
    have y0 : w2.cell? ⟨w1.heap.size, 0, none⟩ = some (.slice va vl vc) := (unhide HH2).l.cell 0
    have y1 : w2.cell? ⟨cb, 0, none⟩ = some pv := (unhide HH2).k.p
    have y2 : w2.cell? ⟨w.heap.size, 1, none⟩ = some (.int .i64 c.locals) := (unhide HH2).x.cell 1
    have HSS := hide (fun (w' : World) (hb' : Below w2.heap.size w2 w') => show w'.cell? ⟨w1.heap.size, 0, none⟩ = some (.slice va vl vc) ∧ w'.cell? ⟨cb, 0, none⟩ = some pv ∧ w'.cell? ⟨w.heap.size, 1, none⟩ = some (.int .i64 c.locals) from ⟨by rw [hb'.cell (cell_lt y0)]; exact y0, by rw [hb'.cell (cell_lt y1)]; exact y1, by rw [hb'.cell (cell_lt y2)]; exact y2⟩)
    go_region_held3 (fun w' => w'.cell? ⟨w1.heap.size, 0, none⟩ = some (.slice va vl vc) ∧ w'.cell? ⟨cb, 0, none⟩ = some pv ∧ w'.cell? ⟨w.heap.size, 1, none⟩ = some (.int .i64 c.locals)) (first | go_keep | exact unhide HSS _ (unhide HB3)) (first | (go_at_call 65; refine (unhide HC w2.drew (Below.refl _ _).drew).mono ?_; rintro e w3 ⟨rfl, hb3⟩; have HB3 := hide ((Below.refl w2.heap.size w2).drew.trans hb3); clear hb3))
    have HH := hide ((unhide HH2).below (unhide HB3))
    have HB3w := hide ((unhide HB2).trans ((unhide HB3).mono (unhide HB2).size))
    clear HC HSS y0 y1 y2 HH2 HB2
    obtain ⟨e1, p1⟩ := ck
    have n1 : (e1 != 0) = !decide (e1 = 0) := by rw [Bool.eq_iff_iff]; simp
    have hE := unhide HE
    simp only at hE
    clear HE
    by_cases he : e1 = 0
    · rw [if_pos he] at hE
      rw [decide_eq_true he, Bool.not_true] at n1
      clear he
      generalize hq : hdlsE P (L.map Dc.J.i) c.bytes.length 0 c.handlers = q at *
      subst hE
      have Hq := hide hq
      clear hq
      have x3 : w3.cell? ⟨w.heap.size, 3, none⟩ = some (.slice ha c.handlers.length hcap) := (unhide HH).x.cell 3
      go_wp2_with fail
      obtain ⟨hfa, hfc, hfe, hcell⟩ := (unhide HH).h
      have Hcell := hide hcell
      clear hcell
      cases hfe
      go_loopw [50] (fun i wr => ∃ k : Nat, k ≤ c.handlers.length ∧ i = .int .i64 k ∧ Below w3.heap.size w3 wr ∧ Hid (hdlsE P (L.map Dc.J.i) c.bytes.length k (c.handlers.drop k) = q)) (fun i _ => c.handlers.length - (intOf i).toNat)
      case atStart => exact ⟨0, Nat.zero_le _, rfl, Below.refl _ _, Hq⟩
      case round =>
        obtain ⟨k, hk, rfl, hbr, Hno⟩ := hrel
        by_cases hlt : k < c.handlers.length
        · have hne : c.handlers ≠ [] := by intro e; rw [e] at hlt; simp at hlt
          have hR := (unhide HH).below hbr
          obtain ⟨hb, ho, rfl, hcell⟩ := unhide Hcell hne
          have hd := hdls_drop P (L.map Dc.J.i) c.bytes.length c.handlers k hlt
          rw [unhide Hno] at hd
          have hok := unhide HOk (c.handlers.getD k Hi.zero) (by rw [getD_at _ _ hlt]; exact List.getElem_mem _)
          have e0 : wr.cell? ⟨hb, ho + k * 4, none⟩ = some (.int .i64 (c.handlers.getD k Hi.zero).from_) := by have h1 : w3.cell? ⟨hb, ho + k * 4, none⟩ = some (.int .i64 (c.handlers.getD k Hi.zero).from_) := hcell k hlt 0 (by omega); rw [hbr.cell (cell_lt h1)]; exact h1
          have e1 : wr.cell? ⟨hb, ho + k * 4 + 1, none⟩ = some (.int .i64 (c.handlers.getD k Hi.zero).to_) := by have h1 : w3.cell? ⟨hb, ho + k * 4 + 1, none⟩ = some (.int .i64 (c.handlers.getD k Hi.zero).to_) := hcell k hlt 1 (by omega); rw [hbr.cell (cell_lt h1)]; exact h1
          have e2 : wr.cell? ⟨hb, ho + k * 4 + 2, none⟩ = some (.int .i64 (c.handlers.getD k Hi.zero).target) := by have h1 : w3.cell? ⟨hb, ho + k * 4 + 2, none⟩ = some (.int .i64 (c.handlers.getD k Hi.zero).target) := hcell k hlt 2 (by omega); rw [hbr.cell (cell_lt h1)]; exact h1
          have e3 : wr.cell? ⟨hb, ho + k * 4 + 3, none⟩ = some (.int .u16 ((c.handlers.getD k Hi.zero).type_ : Int)) := by have h1 : w3.cell? ⟨hb, ho + k * 4 + 3, none⟩ = some (.int .u16 ((c.handlers.getD k Hi.zero).type_ : Int)) := hcell k hlt 3 (by omega); rw [hbr.cell (cell_lt h1)]; exact h1
          generalize c.handlers.getD k Hi.zero = x at *
          unfold hdlE at hd
          have HG := fun (t : Int) (w9 : World) (hb1 : Below w3.heap.size w3 w9) => begins_any (L.map Dc.J.v) (.slice va vl vc) w1.heap.size t w9 ((unhide HH).below hb1).g (by have := ((unhide HH).below hb1).l.cell 0; simpa using this) (unhide HLl2) (sorted_map (unhide HSo))
          simp only [beg_map] at HG
          have HG1 := hide (HG x.from_)
          have HG2 := hide (HG x.target)
          have HG3 := hide (HG x.to_)
          have HHs := hide (fun (w1 : World) (tv : Value) (hb1 : Below w3.heap.size w3 w1) (hu : UIn w1 tv [7]) => by have := Has_any pv tv P [7] x.type_ w1 ((unhide HH).below hb1).k.k hP hu (by simp); rw [contains_one] at this; exact this)
          have HX := hide (fun (w1 : World) (hb1 : Below w3.heap.size w3 w1) => And.intro ((unhide HH).below hb1).k.p (show w1.cell? ⟨w.heap.size, 2, none⟩ = some (.string ⟨c.bytes.toArray⟩) from ((unhide HH).below hb1).x.cell 2))
          clear HG
          obtain ⟨wh, hwh⟩ : ∃ wh, wh = wr.alloc (.cells #[.int .i64 x.from_, .int .i64 x.to_, .int .i64 x.target, .int .u16 (x.type_ : Int)] 98) := ⟨_, rfl⟩
          have hbh : Below w3.heap.size w3 wh := by rw [hwh]; exact hbr.alloc hbr.size _
          have hkh : Bk wh wr.heap.size #[.int .i64 x.from_, .int .i64 x.to_, .int .i64 x.target, .int .u16 (x.type_ : Int)] 98 := by rw [hwh]; exact Bk.new _ _ _
          have k0 := hkh.cell 0
          simp at k0
          have HBh := hide hbh
          have HKh := hide hkh
          have q1 : wr.heap.size < wh.heap.size := hkh.lt
          have Hd := hide hd
          clear hbh hkh hd hR hcell hne Hno hbr
          have ht := hok.d
          have ew : IntKind.i64.wrap (x.type_ : Int) = (x.type_ : Int) := by rw [IntKind.wrap_i64]; omega
          have nt := nat_ne0 x.type_
          have n4 : (x.to_ != (c.bytes.length : Int)) = !decide (x.to_ = (c.bytes.length : Int)) := by rw [Bool.eq_iff_iff]; simp
          have n5 : decide (x.to_ ≤ x.from_) = !decide (x.from_ < x.to_) := by rw [Bool.eq_iff_iff]; simp
          generalize hg1 : beg (L.map Dc.J.i) x.from_ = b1 at *
          generalize hg2 : beg (L.map Dc.J.i) x.target = b2 at *
          generalize hg3 : beg (L.map Dc.J.i) x.to_ = b3 at *
          generalize hg4 : decide (x.to_ = (c.bytes.length : Int)) = b4 at *
          generalize hg5 : decide (x.from_ < x.to_) = b5 at *
          generalize hg6 : decide (M.tag P (x.type_ : Int) = 7) = b6 at *
          have H6 := hide hg6
          clear hg1 hg2 hg3 hg4 hg5 hg6 hok
          go_upto_region 13 with fail
          rw [← hwh]
          clear hwh e0 e1 e2 e3
          go_wp2_with fail
          refine (unhide HG1 _ (unhide HBh)).mono ?_
          rintro e w4 ⟨rfl, hb4⟩
          have HB4 := hide ((unhide HBh).trans (hb4.mono (unhide HBh).size))
          have HK4 := hide ((unhide HKh).below hb4)
          have k2 := (unhide HK4).cell 2
          simp at k2
          clear hb4 HBh HKh k0 HG1 q1
          cases b1
          · have hE := unhide Hd
            simp at hE
            subst hE
            clear Hd HG2 HG3 HHs HX
            go_wp2
            go_ret2
            exact ⟨rfl, (unhide HB3w).trans ((unhide HB4).mono (unhide HB3w).size)⟩
          go_wp2_with fail
          refine (unhide HG2 _ (unhide HB4)).mono ?_
          rintro e w5 ⟨rfl, hb5⟩
          have HB5 := hide ((unhide HB4).trans (hb5.mono (unhide HB4).size))
          have HK5 := hide ((unhide HK4).below hb5)
          have k1 := (unhide HK5).cell 1
          simp at k1
          clear hb5 HB4 HK4 k2 HG2
          cases b2
          · have hE := unhide Hd
            simp at hE
            subst hE
            clear Hd HG3 HHs HX
            go_wp2
            go_ret2
            exact ⟨rfl, (unhide HB3w).trans ((unhide HB5).mono (unhide HB3w).size)⟩
          go_wp2_with fail
          refine (unhide HG3 _ (unhide HB5)).mono ?_
          rintro e w6 ⟨rfl, hb6⟩
          have HB6 := hide ((unhide HB5).trans (hb6.mono (unhide HB5).size))
          have HK6 := hide ((unhide HK5).below hb6)
          have k0 := (unhide HK6).cell 0
          have k1 := (unhide HK6).cell 1
          have k3 := (unhide HK6).cell 3
          simp at k0 k1 k3
          have kp := (unhide HX _ (unhide HB6)).1
          have kb := (unhide HX _ (unhide HB6)).2
          clear hb6 HB5 HK5 HG3
          cases b3
          · cases b4
            · have hE := unhide Hd
              simp at hE
              subst hE
              clear Hd HHs HX
              go_wp2
              go_ret2
              exact ⟨rfl, (unhide HB3w).trans ((unhide HB6).mono (unhide HB3w).size)⟩
            · cases b5
              · have hE := unhide Hd
                simp at hE
                subst hE
                clear Hd HHs HX
                go_wp2
                go_ret2
                exact ⟨rfl, (unhide HB3w).trans ((unhide HB6).mono (unhide HB3w).size)⟩
              · have hE := unhide Hd
                simp only [Bool.and_self, Bool.true_or, Bool.false_or, Bool.or_true, if_true] at hE
                have HE := hide hE
                clear Hd hE
                have HSS2 := hide (fun (w' : World) (hb' : Below w6.heap.size w6 w') => show w'.cell? ⟨wr.heap.size, 3, none⟩ = some (.int .u16 (x.type_ : Int)) ∧ w'.cell? ⟨cb, 0, none⟩ = some pv from ⟨by rw [hb'.cell (cell_lt k3)]; exact k3, by rw [hb'.cell (cell_lt kp)]; exact kp⟩)
                by_cases ht0 : x.type_ = 0
                · rw [decide_eq_true ht0, Bool.not_true] at nt
                  have hE := unhide HE
                  simp [ht0] at hE
                  have HE2 := hide hE.symm
                  clear HE hE ht0 HHs
                  go_wp2_with fail
                  go_quiet (fail)
                  go_wp2
                  go_roundw
                  case rel => exact ⟨k + 1, by omega, by go_num, (unhide HB6).trans ((bl_drewN w6 nq).mono (unhide HB6).size), HE2⟩
                  case measure => simp [intOf]; omega
                · rw [decide_eq_false ht0, Bool.not_false] at nt
                  have h6 := unhide H6
                  have hE := unhide HE
                  cases b6
                  · have h6' : ¬ M.tag P (x.type_ : Int) = 7 := of_decide_eq_false h6
                    simp [ht0, h6'] at hE
                    subst hE
                    clear HE h6 h6' ht0
                    have HXu := hide (UIn.made w6.drew 7)
                    go_wp2_with fail
                    go_region_held3 (fun w' => w'.cell? ⟨wr.heap.size, 3, none⟩ = some (.int .u16 (x.type_ : Int)) ∧ w'.cell? ⟨cb, 0, none⟩ = some pv) (first | go_keep | exact unhide HSS2 _ ((Below.refl _ _).drew.alloc (Nat.le_refl _) _) | exact unhide HSS2 _ (unhide HB7)) (first | (go_at_call 21; refine (unhide HHs (w6.drew.alloc (.cells #[.int .u8 7] 5)) (.slice (some ⟨w6.heap.size, 0, none⟩) 1 1) ((unhide HB6).drew.alloc (unhide HB6).drew.size _) (unhide HXu)).mono ?_; rintro e w7 ⟨rfl, hb7⟩; have HB7 := hide (((Below.refl w6.heap.size w6).drew.alloc (Nat.le_refl _) (.cells #[.int .u8 7] 5)).trans (hb7.mono (by simp))); clear hb7))
                    go_wp2
                    go_ret2
                    exact ⟨rfl, ((unhide HB3w).trans ((unhide HB6).mono (unhide HB3w).size)).trans ((unhide HB7).mono ((unhide HB3w).trans ((unhide HB6).mono (unhide HB3w).size)).size)⟩
                  · have h6' : M.tag P (x.type_ : Int) = 7 := of_decide_eq_true h6
                    simp [h6'] at hE
                    have HE2 := hide hE.symm
                    clear HE h6 h6' ht0 hE
                    have HXu := hide (UIn.made w6.drew 7)
                    go_wp2_with fail
                    go_region_held3 (fun w' => w'.cell? ⟨wr.heap.size, 3, none⟩ = some (.int .u16 (x.type_ : Int)) ∧ w'.cell? ⟨cb, 0, none⟩ = some pv) (first | go_keep | exact unhide HSS2 _ ((Below.refl _ _).drew.alloc (Nat.le_refl _) _) | exact unhide HSS2 _ (unhide HB7)) (first | (go_at_call 21; refine (unhide HHs (w6.drew.alloc (.cells #[.int .u8 7] 5)) (.slice (some ⟨w6.heap.size, 0, none⟩) 1 1) ((unhide HB6).drew.alloc (unhide HB6).drew.size _) (unhide HXu)).mono ?_; rintro e w7 ⟨rfl, hb7⟩; have HB7 := hide (((Below.refl w6.heap.size w6).drew.alloc (Nat.le_refl _) (.cells #[.int .u8 7] 5)).trans (hb7.mono (by simp))); clear hb7))
                    go_wp2
                    go_roundw
                    case rel => exact ⟨k + 1, by omega, by go_num, (unhide HB6).trans ((unhide HB7).mono (unhide HB6).size), HE2⟩
                    case measure => simp [intOf]; omega
          · cases b5
            · have hE := unhide Hd
              simp at hE
              subst hE
              clear Hd HHs HX
              go_wp2
              go_ret2
              exact ⟨rfl, (unhide HB3w).trans ((unhide HB6).mono (unhide HB3w).size)⟩
            · have hE := unhide Hd
              simp only [Bool.and_self, Bool.true_or, Bool.false_or, Bool.or_true, if_true] at hE
              have HE := hide hE
              clear Hd hE
              have HSS2 := hide (fun (w' : World) (hb' : Below w6.heap.size w6 w') => show w'.cell? ⟨wr.heap.size, 3, none⟩ = some (.int .u16 (x.type_ : Int)) ∧ w'.cell? ⟨cb, 0, none⟩ = some pv from ⟨by rw [hb'.cell (cell_lt k3)]; exact k3, by rw [hb'.cell (cell_lt kp)]; exact kp⟩)
              by_cases ht0 : x.type_ = 0
              · rw [decide_eq_true ht0, Bool.not_true] at nt
                have hE := unhide HE
                simp [ht0] at hE
                have HE2 := hide hE.symm
                clear HE hE ht0 HHs
                go_wp2_with fail
                go_quiet (fail)
                go_wp2
                go_roundw
                case rel => exact ⟨k + 1, by omega, by go_num, (unhide HB6).trans ((bl_drewN w6 nq).mono (unhide HB6).size), HE2⟩
                case measure => simp [intOf]; omega
              · rw [decide_eq_false ht0, Bool.not_false] at nt
                have h6 := unhide H6
                have hE := unhide HE
                cases b6
                · have h6' : ¬ M.tag P (x.type_ : Int) = 7 := of_decide_eq_false h6
                  simp [ht0, h6'] at hE
                  subst hE
                  clear HE h6 h6' ht0
                  have HXu := hide (UIn.made w6.drew 7)
                  go_wp2_with fail
                  go_region_held3 (fun w' => w'.cell? ⟨wr.heap.size, 3, none⟩ = some (.int .u16 (x.type_ : Int)) ∧ w'.cell? ⟨cb, 0, none⟩ = some pv) (first | go_keep | exact unhide HSS2 _ ((Below.refl _ _).drew.alloc (Nat.le_refl _) _) | exact unhide HSS2 _ (unhide HB7)) (first | (go_at_call 21; refine (unhide HHs (w6.drew.alloc (.cells #[.int .u8 7] 5)) (.slice (some ⟨w6.heap.size, 0, none⟩) 1 1) ((unhide HB6).drew.alloc (unhide HB6).drew.size _) (unhide HXu)).mono ?_; rintro e w7 ⟨rfl, hb7⟩; have HB7 := hide (((Below.refl w6.heap.size w6).drew.alloc (Nat.le_refl _) (.cells #[.int .u8 7] 5)).trans (hb7.mono (by simp))); clear hb7))
                  go_wp2
                  go_ret2
                  exact ⟨rfl, ((unhide HB3w).trans ((unhide HB6).mono (unhide HB3w).size)).trans ((unhide HB7).mono ((unhide HB3w).trans ((unhide HB6).mono (unhide HB3w).size)).size)⟩
                · have h6' : M.tag P (x.type_ : Int) = 7 := of_decide_eq_true h6
                  simp [h6'] at hE
                  have HE2 := hide hE.symm
                  clear HE h6 h6' ht0 hE
                  have HXu := hide (UIn.made w6.drew 7)
                  go_wp2_with fail
                  go_region_held3 (fun w' => w'.cell? ⟨wr.heap.size, 3, none⟩ = some (.int .u16 (x.type_ : Int)) ∧ w'.cell? ⟨cb, 0, none⟩ = some pv) (first | go_keep | exact unhide HSS2 _ ((Below.refl _ _).drew.alloc (Nat.le_refl _) _) | exact unhide HSS2 _ (unhide HB7)) (first | (go_at_call 21; refine (unhide HHs (w6.drew.alloc (.cells #[.int .u8 7] 5)) (.slice (some ⟨w6.heap.size, 0, none⟩) 1 1) ((unhide HB6).drew.alloc (unhide HB6).drew.size _) (unhide HXu)).mono ?_; rintro e w7 ⟨rfl, hb7⟩; have HB7 := hide (((Below.refl w6.heap.size w6).drew.alloc (Nat.le_refl _) (.cells #[.int .u8 7] 5)).trans (hb7.mono (by simp))); clear hb7))
                  go_wp2
                  go_roundw
                  case rel => exact ⟨k + 1, by omega, by go_num, (unhide HB6).trans ((unhide HB7).mono (unhide HB6).size), HE2⟩
                  case measure => simp [intOf]; omega

        · have hkl : k = c.handlers.length := by omega
          have hE : (0, 0) = q := by have h := unhide Hno; rw [hkl, List.drop_length] at h; exact h
          subst hE
          subst hkl
          clear Hno
          go_wp2
          go_ret2
          exact ⟨rfl, (unhide HB3w).trans (hbr.mono (unhide HB3w).size)⟩
    · rw [if_neg he] at hE
      rw [decide_eq_false he, Bool.not_false] at n1
      subst hE
      clear he HH
      go_wp2
      go_ret2
      exact ⟨rfl, unhide HB3w⟩
end Go.Proofs.YtddhlphbbiihjaaGreatDoor.Cl
