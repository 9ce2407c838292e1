/-
  ClassChecks: the reference looks at the code of a method.
-/
import Derived.Test.YtddhlphbbiihjaaGreatDoorMgGb
set_option linter.unusedVariables false
set_option linter.unusedSimpArgs false
namespace Go.Proofs.YtddhlphbbiihjaaGreatDoor.Cl
open Go.RowKit Go.Maps Kn
/-- What is wrong with code that has room for its locals. -/
def codX (P : List K) (c : Ci) : Int × Int := match Dc.M.decode c.bytes with
  | .error (e, p) => ((e : Int), (p : Int))
  | .ok l => if (Ck.chkE (Ck.chk P c.locals (l.map Dc.I.g))).1 = 0 then (((hdlsE P l c.bytes.length 0 c.handlers).1 : Int), ((hdlsE P l c.bytes.length 0 c.handlers).2 : Int)) else Ck.chkE (Ck.chk P c.locals (l.map Dc.I.g))
theorem codE_X (P : List K) (c : Ci) (need : Nat) : codE P c need = if c.locals < (need : Int) then (12, 0) else codX P c := rfl
/-- A handler, as the reference looks at it. -/
def rhB (l : List Dc.I) (n : Nat) (h : Hi) : Bool :=
  decide (0 ≤ h.from_) && decide (h.to_ ≤ n) && decide (h.from_ < h.to_) && decide (0 ≤ h.target) && decide (h.target < n) && beg l h.from_ && (!decide (h.to_ < n) || beg l h.to_) && beg l h.target
theorem rhB_eq {l : List Dc.I} {n : Nat} (hl : ∀ i ∈ l, i.at_ < n) (h : Hi) : (beg l h.from_ && beg l h.target && (beg l h.to_ || decide (h.to_ = n)) && decide (h.from_ < h.to_)) = rhB l n h := by
  have hb : ∀ t : Int, beg l t = true → 0 ≤ t ∧ t < n := fun t ht => by
    obtain ⟨i, hi, he⟩ := beg_iff.1 ht
    have := hl i hi
    omega
  have h1 := hb h.from_
  have h2 := hb h.to_
  have h3 := hb h.target
  unfold rhB
  rw [Bool.eq_iff_iff]
  simp only [Bool.and_eq_true, Bool.or_eq_true, decide_eq_true_eq, Bool.not_eq_true', decide_eq_false_iff_not]
  constructor
  · rintro ⟨⟨⟨a, b⟩, e⟩, d⟩
    have f1 := h1 a
    have f3 := h3 b
    have f2 : h.to_ ≤ n := by
      rcases e with e | e
      · have := h2 e; omega
      · omega
    refine ⟨⟨⟨⟨⟨⟨⟨f1.1, f2⟩, d⟩, f3.1⟩, f3.2⟩, a⟩, ?_⟩, b⟩
    rcases e with e | e
    · exact .inr e
    · exact .inl (by omega)
  · rintro ⟨⟨⟨⟨⟨⟨⟨_, f2⟩, d⟩, _⟩, _⟩, a⟩, e⟩, b⟩
    refine ⟨⟨⟨a, b⟩, ?_⟩, d⟩
    rcases e with e | e
    · exact .inr (by omega)
    · exact .inl e
theorem hdlE_r {P : List K} {l : List Dc.I} {n : Nat} (hl : ∀ i ∈ l, i.at_ < n) (h : Hi) : hdlE P l n h = if rhB l n h = true then (if h.type_ = 0 ∨ M.tag P h.type_ = 7 then 0 else 7) else 16 := by
  unfold hdlE; rw [rhB_eq hl]
theorem take_snoc {α : Type} (l : List α) (k : Nat) (hk : k < l.length) : l.take (k + 1) = l.take k ++ [l[k]] := by
  rw [List.take_add_one, List.getElem?_eq_getElem hk]; rfl
theorem mk_table (w : World) (n : Nat) (hn : n = 65536) : Sem.run Tryz.prog (Instr.makeSlice 119 (.int .i64 65536) (.int .i64 65536)) w = .ok (.slice (some ⟨w.heap.size, 0, none⟩) n n) (w.alloc (.cells (madeCells #[.bool false] n) 4)) := by
  have h := Dc.mk_bools n (by omega) w
  have e : ((n : Nat) : Int) = 65536 := by omega
  rw [e] at h
  exact h
set_option maxRecDepth 100000 in
set_option maxHeartbeats 8000000 in
theorem rcode_any (kb : Nat) (c : Csi) (vp vi vf vm hv : Value) (L0 : List Mv) (x0 : Ci) (w : World) (h : Qk w kb c vp vi vf vm L0) (hs : Csm c) (hA : AllOk c.pool) (hc : x0.Ok) (hh : FIn Hi.cells 4 Hi.zero w hv x0.handlers) (hhl : x0.handlers.length ≤ 1048576) (hbl : x0.bytes.length ≤ 1048576) :
    Calls Tryz.prog 52 #[.pointer (some ⟨kb, 0, none⟩), .agg #[.int .i64 x0.stack, .int .i64 x0.locals, .string ⟨x0.bytes.toArray⟩, hv, .string ⟨x0.map.toArray⟩]] w fun e w' => e = .returned (.tuple #[.int .i64 (codX c.pool x0).1, .int .i64 (codX c.pool x0).2]) ∧ Below w.heap.size w w' := by
  have hpl : c.pool.length ≤ 1048576 := by have := hs.p; omega
  have hsz : (⟨x0.bytes.toArray⟩ : ByteArray).size ≤ maxLen := by rw [sz_of]; unfold maxLen; omega
  have HD := hide (fun (w1 : World) => Dc.DecodeR_any ⟨x0.bytes.toArray⟩ w1 hsz)
  have hSm : Ck.Small c.pool := fun x hx => Nat.le_trans (hs.s x hx) (by omega)
  have HQ := hide (fun (w1 : World) (hb1 : Below w.heap.size w w1) => h.below hb1)
  have HCl := hide (fun (x : Nat) (hx : x < 65536) (w1 : World) (hb1 : Below w.heap.size w w1) => class47_any kb x c vp vi vf vm L0 w1 (h.below hb1) hpl hx)
  have HHd := hide (fun (w1 : World) (hb1 : Below w.heap.size w w1) => FIn.below Hi.len hh hb1)
  have HAf := hide (fun i => hA.clf i)
  obtain ⟨w0, hw0⟩ : ∃ w0, w0 = w.alloc (.cells #[.int .i64 x0.stack, .int .i64 x0.locals, .string ⟨x0.bytes.toArray⟩, hv, .string ⟨x0.map.toArray⟩] 41) := ⟨_, rfl⟩
  have hb0 : Below w.heap.size w w0 := by rw [hw0]; exact (Below.refl _ _).alloc (Nat.le_refl _) _
  have hk0 : Bk w0 w.heap.size #[.int .i64 x0.stack, .int .i64 x0.locals, .string ⟨x0.bytes.toArray⟩, hv, .string ⟨x0.map.toArray⟩] 41 := by rw [hw0]; exact Bk.new _ _ _
  have c2 := hk0.cell 2
  simp at c2
  have HB0 := hide hb0
  have HK0 := hide hk0
  have hlw : (Lit.int .i64 x0.locals).wf = true := WalkArith.wf_i64 (by have := hc.b; unfold Okx at this; omega)
  have HOk := hide hc.h
  generalize hr : codX c.pool x0 = r
  unfold codX at hr
  have Hr := hide hr
  obtain ⟨ha, hcap, rfl, hcell⟩ := hh
  have Hcell := hide hcell
  have hz112 : ∀ W : World, (zeroValue 112).run Tryz.prog W = .ok (.agg #[.int .i64 0, .int .u8 0, .bool false, .int .i64 0, .int .i64 0, .int .i64 0, .slice none 0 0, .slice none 0 0]) W := fun W => by kernel_rfl
  clear hr hb0 hk0 h hs hA hsz hcell
  go_enter Tryz.func52, Tryz.ntmps52
  go_upto_region 1 with fail
  rw [← hw0]
  clear hw0
  go_wp2_with fail
  refine (unhide HD _).mono ?_
  rintro e w1 ⟨hb1, hx⟩
  rw [dt_of] at hx
  have HB1 := hide ((unhide HB0).trans (hb1.mono (unhide HB0).size))
  have HK1 := hide ((unhide HK0).below hb1)
  clear HD hb1 c2 HB0 HK0
  cases hd : Dc.M.decode x0.bytes with
  | error ep =>
    obtain ⟨en, pn⟩ := ep
    have hE := unhide Hr
    rw [hd] at hx hE
    simp only at hx hE
    subst hE
    subst hx
    have hne := nat_ne0 en
    rw [decide_eq_false (Dc.M.decode_err hd)] at hne
    clear Hr hd
    go_wp2
    go_ret2
    exact ⟨rfl, unhide HB1⟩
  | ok l =>
    rw [hd] at hx
    obtain ⟨v, L, rfl, hL, hLs⟩ := hx
    subst hL
    have hE := unhide Hr
    rw [hd] at hE
    simp only at hE
    have hso := Dc.M.decode_sorted hd
    have hlen := Dc.M.decode_len hd
    rw [List.length_map] at hlen
    have hgl := Dc.GHas.of_decode hd hLs
    obtain ⟨va, vc, rfl, hform⟩ := hgl.form
    clear hform Hr
    have hll : (L.map Dc.J.v).length ≤ 100000 := by rw [List.length_map]; have := hso.2.2; omega
    have HG := hide (fun (w3 : World) (hb3 : Below w1.heap.size w1 w3) => Ck.GHas.below hgl hb3)
    have HC := hide (fun (w3 : World) (hb3 : Below w1.heap.size w1 w3) => Ck.RCheck_any (L.map Dc.J.v) (.slice va (L.map Dc.J.v).length vc) vp c.pool x0.locals w3 (Ck.GHas.below hgl hb3) hll ((unhide HQ w3 ((unhide HB1).trans (hb3.mono (unhide HB1).size))).c.p) hpl hSm hlw)
    rw [show (L.map Dc.J.v).map Cw.V.g = (L.map Dc.J.i).map Dc.I.g from by rw [List.map_map, List.map_map]; rfl] at HC
    generalize hck : Ck.chkE (Ck.chk c.pool x0.locals ((L.map Dc.J.i).map Dc.I.g)) = ck at *
    have HLn := hide hso
    have hLl : L.length ≤ 65535 := by have h1 := hso.2.2; omega
    have HE := hide hE
    have hvl : (L.map Dc.J.v).length = L.length := List.length_map _
    rw [hvl] at HC ⊢
    clear hE hlen hgl hd hck hLs hvl
    clear hso hll
    go_upto_region 4 with fail
    have y1 : w1.cell? ⟨kb, 5, none⟩ = some vp := (unhide HQ w1 (unhide HB1)).b.cell 5
    have y2 : w1.cell? ⟨w.heap.size, 1, none⟩ = some (.int .i64 x0.locals) := (unhide HK1).cell 1
    have HSS := hide (fun (w' : World) (hb' : Below w1.heap.size w1 w') => show w'.cell? ⟨kb, 5, none⟩ = some vp ∧ w'.cell? ⟨w.heap.size, 1, none⟩ = some (.int .i64 x0.locals) from ⟨by rw [hb'.cell (cell_lt y1)]; exact y1, by rw [hb'.cell (cell_lt y2)]; exact y2⟩)
    go_region_held3 (fun w' => w'.cell? ⟨kb, 5, none⟩ = some vp ∧ w'.cell? ⟨w.heap.size, 1, none⟩ = some (.int .i64 x0.locals)) (first | go_keep | exact unhide HSS _ (unhide HB3)) (first | (go_at_call 76; refine (unhide HC w1.drew (Below.refl _ _).drew).mono ?_; rintro e w3 ⟨rfl, hb3⟩; have HB3 := hide ((Below.refl w1.heap.size w1).drew.trans hb3); clear hb3))
    have HG3 := hide (unhide HG w3 (unhide HB3))
    have HB3w := hide ((unhide HB1).trans ((unhide HB3).mono (unhide HB1).size))
    have HK3 := hide ((unhide HK1).below (unhide HB3))
    clear HC HSS y1 y2 HG HB1 HB3 HK1
    obtain ⟨e1, p1⟩ := ck
    have n1 : (e1 != 0) = !decide (e1 = 0) := by rw [Bool.eq_iff_iff]; simp
    have hE := unhide HE
    simp only at hE
    clear HE
    by_cases he : e1 = 0
    · rw [if_pos he] at hE
      rw [decide_eq_true he, Bool.not_true] at n1
      clear he
      generalize hq : hdlsE c.pool (L.map Dc.J.i) x0.bytes.length 0 x0.handlers = q at *
      subst hE
      have Hq := hide hq
      clear hq
      obtain ⟨tn, htn⟩ : ∃ tn : Nat, tn = 65536 := ⟨_, rfl⟩
      obtain ⟨w4, hw4⟩ : ∃ w4, w4 = w3.alloc (.cells (madeCells #[.bool false] tn) 4) := ⟨_, rfl⟩
      have hmk := mk_table w3 tn htn
      rw [← hw4] at hmk
      have hb4 : Below w3.heap.size w3 w4 := by rw [hw4]; exact (Below.refl _ _).alloc (Nat.le_refl _) _
      have hBs : Dc.Bs w4 w3.heap.size (List.replicate tn false) := by rw [hw4]; exact Dc.Bs.made tn w3
      have HBs := hide hBs
      have HG4 := hide (Ck.GHas.below (unhide HG3) hb4)
      have HB4 := hide hb4
      have HB4w := hide ((unhide HB3w).trans (hb4.mono (unhide HB3w).size))
      have HK4 := hide ((unhide HK3).below hb4)
      clear hw4 hBs hb4
      go_wp2_with fail
      obtain ⟨la, lc, hle, hlc⟩ := (unhide HG3).form
      have hvl : (L.map Dc.J.v).length = L.length := List.length_map _
      have Hlc := hide hlc
      clear hlc
      go_loopw [46] (fun i wr => ∃ (k : Nat) (bl : List Bool), k ≤ L.length ∧ i = .int .i64 k ∧ Below w3.heap.size w3 wr ∧ Dc.Bs wr w3.heap.size bl ∧ Hid (Dc.Marks tn bl ((L.map Dc.J.i).take k))) (fun i _ => L.length - (intOf i).toNat)
      case atStart => exact ⟨0, _, Nat.zero_le _, rfl, unhide HB4, unhide HBs, hide (by rw [List.take_zero]; exact Dc.Marks.nil tn)⟩
      case round =>
        obtain ⟨k, bl, hk, rfl, hbr, hBs, Hmk⟩ := hrel
        by_cases hlt : k < L.length
        · have hne : L.map Dc.J.v ≠ [] := by intro e; have := congrArg List.length e; rw [hvl] at this; simp at this; rw [this] at hlt; simp at hlt
          obtain ⟨b, o, hla, hcell⟩ := unhide Hlc hne
          subst hla
          cases hle
          have hkv : k < (L.map Dc.J.v).length := by rw [hvl]; exact hlt
          obtain ⟨d0, d1, d2, d3, d4, d5, d6, d7⟩ := At8v.below (Cw.At8v.of (hcell k hkv)) hbr
          have hat : ((L.map Dc.J.v)[k]).g.at_ = ((L[k]).i.at_ : Int) := by rw [List.getElem_map]; rfl
          rw [hat] at d0
          have hatn : (L[k]).i.at_ < x0.bytes.length := (unhide HLn).2.1 _ (List.mem_map_of_mem (List.getElem_mem hlt))
          have hsz := (unhide HLn).2.2
          have hmk2 : Hid (Dc.Marks tn (bl.set (L[k]).i.at_ true) ((L.map Dc.J.i).take (k + 1))) := hide (by
            rw [take_snoc _ _ (by rw [List.length_map]; exact hlt), List.getElem_map]
            exact Dc.Marks.next (unhide Hmk) (by omega))
          have hblen : bl.length = tn := (unhide Hmk).1
          have hcb : ∃ bv, bl.getD (L[k]).i.at_ false = bv := ⟨_, rfl⟩
          obtain ⟨bv, hbv⟩ := hcb
          generalize (L[k]).i.at_ = at_ at *
          generalize ((L.map Dc.J.v)[k]).g.op = vop at *
          generalize ((L.map Dc.J.v)[k]).g.wide = vwd at *
          generalize ((L.map Dc.J.v)[k]).g.a = vga at *
          generalize ((L.map Dc.J.v)[k]).g.b = vgb at *
          generalize ((L.map Dc.J.v)[k]).g.low = vgl at *
          have hkf : ∃ ka kn kc, ((L.map Dc.J.v)[k]).kv = .slice ka kn kc := by
            have := ((unhide HG3).fit _ (List.getElem_mem hkv)).ok.k
            obtain ⟨a1, a2, a3, _⟩ := this
            exact ⟨_, _, _, a3⟩
          have htf : ∃ ka kn kc, ((L.map Dc.J.v)[k]).tv = .slice ka kn kc := by
            have := ((unhide HG3).fit _ (List.getElem_mem hkv)).ok.t
            obtain ⟨a1, a2, a3, _⟩ := this
            exact ⟨_, _, _, a3⟩
          obtain ⟨ka, kn, kc, hkv2⟩ := hkf
          obtain ⟨ta, tn2, tc, htv2⟩ := htf
          rw [hkv2] at d6
          rw [htv2] at d7
          obtain ⟨w5, hw5⟩ : ∃ w5, w5 = wr.alloc (.cells #[.int .i64 (at_ : Int), .int .u8 (vop : Int), .bool vwd, .int .i64 vga, .int .i64 vgb, .int .i64 vgl, .slice ka kn kc, .slice ta tn2 tc] 112) := ⟨_, rfl⟩
          have hb5 : Below w3.heap.size w3 w5 := by rw [hw5]; exact hbr.alloc hbr.size _
          have hBs5 : Dc.Bs w5 w3.heap.size bl := by rw [hw5]; exact hBs.kept (World.grownBy_alloc wr _ none) (by simp)
          have hi5 : Bk w5 wr.heap.size #[.int .i64 (at_ : Int), .int .u8 (vop : Int), .bool vwd, .int .i64 vga, .int .i64 vgb, .int .i64 vgl, .slice ka kn kc, .slice ta tn2 tc] 112 := by rw [hw5]; exact Bk.new _ _ _
          have i0 := hi5.cell 0
          simp at i0
          have s0 := hBs5.cell at_ (by omega)
          have s1 := hBs5.frozen at_
          have hat1 : (at_ : Int) < (tn : Int) := by omega
          have hB6 : Below w3.heap.size w3 (w5.setCell ⟨w3.heap.size, at_, none⟩ (.bool true)) := hb5.setCell (p := ⟨w3.heap.size, at_, none⟩) (Nat.le_refl _) _
          have hBs6 := hBs5.set at_
          have HB6 := hide hB6
          have HBs6 := hide hBs6
          rw [hbv] at s0
          have hww : w3.heap.size < w5.heap.size := hBs5.lt
          clear hcell hne hat hBs hbr Hmk hBs5 hi5 hB6 hBs6 hkv2 htv2 hb5 hbv hblen hmk
          go_upto_region 11 with fail
          rw [← hw5]
          clear hw5 d0 d1 d2 d3 d4 d5 d6 d7
          go_wp2
          go_roundw
          case rel => exact ⟨k + 1, _, by omega, by go_num, unhide HB6, unhide HBs6, hmk2⟩
          case measure => simp [intOf]; omega
        · have hkl : k = L.length := by omega
          subst hkl
          have hmarks : Dc.Marks tn bl (L.map Dc.J.i) := by have h1 := unhide Hmk; rw [List.take_of_length_le (by rw [List.length_map]; exact Nat.le_refl _)] at h1; exact h1
          have hsz := (unhide HLn).2.2
          have HTab : Hid (∀ t : Nat, t < x0.bytes.length → ∀ w9 : World, Below wr.heap.size wr w9 → w9.cell? ⟨w3.heap.size, t, none⟩ = some (.bool (beg (L.map Dc.J.i) (t : Int)))) := hide (fun t ht w9 hb9 => by
            have h1 := hBs.cell t (by rw [hmarks.1]; omega)
            rw [hmarks.2 t (by omega)] at h1
            rw [hb9.cell (cell_lt h1)]; exact h1)
          have HBr := hide ((unhide HB3w).trans (hbr.mono (unhide HB3w).size))
          have HKr := hide ((unhide HK3).below hbr)
          have y3 := (unhide HKr).cell 3
          simp at y3
          clear hBs hmarks Hmk hmk HBs HB4 HK3 hbr HB4w HK4 HG4 HG3 Hlc hle hvl HB3w
          obtain ⟨wq, hwq⟩ : ∃ wq, wq = wr := ⟨_, rfl⟩
          subst hwq
          go_wp2_with fail
          go_loopw [58] (fun i wz => ∃ k : Nat, k ≤ x0.handlers.length ∧ i = .int .i64 k ∧ Below wq.heap.size wq wz ∧ Hid (hdlsE c.pool (L.map Dc.J.i) x0.bytes.length k (x0.handlers.drop k) = q)) (fun i _ => x0.handlers.length - (intOf i).toNat)
          case atStart => exact ⟨0, Nat.zero_le _, rfl, Below.refl _ _, Hq⟩
          case round =>
            obtain ⟨k, hk2, rfl, hbr, Hno⟩ := hrel
            by_cases hlt2 : k < x0.handlers.length
            · have hne : x0.handlers ≠ [] := by intro e; rw [e] at hlt2; simp at hlt2
              obtain ⟨hb, ho, rfl, hcell⟩ := unhide Hcell hne
              have hbW := (unhide HBr).trans (hbr.mono (unhide HBr).size)
              have hd := hdls_drop c.pool (L.map Dc.J.i) x0.bytes.length x0.handlers k hlt2
              rw [unhide Hno, hdlE_r (unhide HLn).2.1] at hd
              have hok := unhide HOk (x0.handlers.getD k Hi.zero) (by rw [getD_at _ _ hlt2]; exact List.getElem_mem _)
              have e0 : wr.cell? ⟨hb, ho + k * 4, none⟩ = some (.int .i64 (x0.handlers.getD k Hi.zero).from_) := by have h1 : w.cell? ⟨hb, ho + k * 4, none⟩ = some (.int .i64 (x0.handlers.getD k Hi.zero).from_) := hcell k hlt2 0 (by omega); rw [hbW.cell (cell_lt h1)]; exact h1
              have e1 : wr.cell? ⟨hb, ho + k * 4 + 1, none⟩ = some (.int .i64 (x0.handlers.getD k Hi.zero).to_) := by have h1 : w.cell? ⟨hb, ho + k * 4 + 1, none⟩ = some (.int .i64 (x0.handlers.getD k Hi.zero).to_) := hcell k hlt2 1 (by omega); rw [hbW.cell (cell_lt h1)]; exact h1
              have e2 : wr.cell? ⟨hb, ho + k * 4 + 2, none⟩ = some (.int .i64 (x0.handlers.getD k Hi.zero).target) := by have h1 : w.cell? ⟨hb, ho + k * 4 + 2, none⟩ = some (.int .i64 (x0.handlers.getD k Hi.zero).target) := hcell k hlt2 2 (by omega); rw [hbW.cell (cell_lt h1)]; exact h1
              have e3 : wr.cell? ⟨hb, ho + k * 4 + 3, none⟩ = some (.int .u16 ((x0.handlers.getD k Hi.zero).type_ : Int)) := by have h1 : w.cell? ⟨hb, ho + k * 4 + 3, none⟩ = some (.int .u16 ((x0.handlers.getD k Hi.zero).type_ : Int)) := hcell k hlt2 3 (by omega); rw [hbW.cell (cell_lt h1)]; exact h1
              have ht := hok.d
              generalize x0.handlers.getD k Hi.zero = x at *
              obtain ⟨xf, xt, xg, xy⟩ := x
              simp only at e0 e1 e2 e3 ht
              obtain ⟨okb, hokb⟩ : ∃ okb, okb = rhB (L.map Dc.J.i) x0.bytes.length ⟨xf, xt, xg, xy⟩ := ⟨_, rfl⟩
              rw [← hokb] at hd
              simp only at hd
              have Hok := hide hokb
              obtain ⟨wh, hwh⟩ : ∃ wh, wh = wr.alloc (.cells #[.int .i64 xf, .int .i64 xt, .int .i64 xg, .int .u16 (xy : Int)] 98) := ⟨_, rfl⟩
              have hbh : Below wq.heap.size wq wh := by rw [hwh]; exact hbr.alloc hbr.size _
              have hkh : Bk wh wr.heap.size #[.int .i64 xf, .int .i64 xt, .int .i64 xg, .int .u16 (xy : Int)] 98 := by rw [hwh]; exact Bk.new _ _ _
              have k0 := hkh.cell 0
              have k1 := hkh.cell 1
              have k2 := hkh.cell 2
              have k3 := hkh.cell 3
              simp at k0 k1 k2 k3
              have hbWh := (unhide HBr).trans (hbh.mono (unhide HBr).size)
              have kx := ((unhide HKr).below hbh).cell 2
              simp at kx
              have HBh := hide hbh
              have HBWh := hide hbWh
              have Hd := hide hd
              have nt := nat_ne0 xy
              have HCx := hide (unhide HCl xy ht wh hbWh)
              have hafx := unhide HAf (xy : Int)
              rw [hafx] at HCx
              generalize h7 : decide (M.tag c.pool (xy : Int) = 7) = b7 at *
              have H7 := hide h7
              clear hokb hbh hkh hbWh hd hok hcell hne Hno hbr hbW hafx h7
              go_upto_region 16 with fail
              rw [← hwh]
              clear hwh e0 e1 e2 e3
              go_cut [125] from 63 to 125 (fun v125 wx => v125 = .bool (!okb) ∧ wh = wx)
              case first =>
                clear Hd HCx H7 nt k3
                by_cases a1 : xf < 0
                · have Hk : Hid (okb = false) := hide (by rw [unhide Hok]; unfold rhB; simp [show ¬ (0 : Int) ≤ xf from by omega])
                  go_wp2_with fail
                  go_meet
                  exact ⟨by rw [unhide Hk]; rfl, rfl⟩
                by_cases a2 : (x0.bytes.length : Int) < xt
                · have Hk : Hid (okb = false) := hide (by rw [unhide Hok]; unfold rhB; simp [show ¬ xt ≤ (x0.bytes.length : Int) from by omega])
                  go_wp2_with fail
                  go_meet
                  exact ⟨by rw [unhide Hk]; rfl, rfl⟩
                by_cases a3 : xt ≤ xf
                · have Hk : Hid (okb = false) := hide (by rw [unhide Hok]; unfold rhB; simp [show ¬ xf < xt from by omega])
                  go_wp2_with fail
                  go_meet
                  exact ⟨by rw [unhide Hk]; rfl, rfl⟩
                by_cases a4 : xg < 0
                · have Hk : Hid (okb = false) := hide (by rw [unhide Hok]; unfold rhB; simp [show ¬ (0 : Int) ≤ xg from by omega])
                  go_wp2_with fail
                  go_meet
                  exact ⟨by rw [unhide Hk]; rfl, rfl⟩
                by_cases a5 : (x0.bytes.length : Int) ≤ xg
                · have Hk : Hid (okb = false) := hide (by rw [unhide Hok]; unfold rhB; simp [show ¬ xg < (x0.bytes.length : Int) from by omega])
                  go_wp2_with fail
                  go_meet
                  exact ⟨by rw [unhide Hk]; rfl, rfl⟩
                obtain ⟨f, rfl⟩ : ∃ f : Nat, xf = (f : Int) := ⟨xf.toNat, by omega⟩
                obtain ⟨t, rfl⟩ : ∃ t : Nat, xt = (t : Int) := ⟨xt.toNat, by omega⟩
                obtain ⟨g, rfl⟩ : ∃ g : Nat, xg = (g : Int) := ⟨xg.toNat, by omega⟩
                have t1 := unhide HTab f (by omega) wh (unhide HBh)
                have t2 := unhide HTab g (by omega) wh (unhide HBh)
                have hf1 : (f : Int) < (tn : Int) := by omega
                have hg1 : (g : Int) < (tn : Int) := by omega
                have a6 : ¬ ((t : Int) ≤ (f : Int)) := a3
                generalize hb1 : beg (L.map Dc.J.i) (f : Int) = b1 at *
                generalize hb2 : beg (L.map Dc.J.i) (g : Int) = b2 at *
                cases b1
                · have Hk : Hid (okb = false) := hide (by rw [unhide Hok]; unfold rhB; simp [hb1])
                  go_wp2_with fail
                  go_meet
                  exact ⟨by rw [unhide Hk]; rfl, rfl⟩
                by_cases a7 : (t : Int) < (x0.bytes.length : Int)
                · have t3 := unhide HTab t (by omega) wh (unhide HBh)
                  have ht1 : (t : Int) < (tn : Int) := by omega
                  generalize hb3 : beg (L.map Dc.J.i) (t : Int) = b3 at *
                  cases b3
                  · have Hk : Hid (okb = false) := hide (by rw [unhide Hok]; unfold rhB; simp [hb3, a7])
                    go_wp2_with fail
                    go_meet
                    exact ⟨by rw [unhide Hk]; rfl, rfl⟩
                  cases b2
                  · have Hk : Hid (okb = false) := hide (by rw [unhide Hok]; unfold rhB; simp [hb2])
                    go_wp2_with fail
                    go_meet
                    exact ⟨by rw [unhide Hk]; rfl, rfl⟩
                  · have Hk : Hid (okb = true) := hide (by rw [unhide Hok]; unfold rhB; simp only [hb1, hb2, hb3, decide_eq_true (show (0 : Int) ≤ (f : Int) from by omega), decide_eq_true (show (t : Int) ≤ (x0.bytes.length : Int) from by omega), decide_eq_true (show (f : Int) < (t : Int) from by omega), decide_eq_true (show (0 : Int) ≤ (g : Int) from by omega), decide_eq_true (show (g : Int) < (x0.bytes.length : Int) from by omega), Bool.or_true, Bool.and_self, Bool.true_and])
                    go_wp2_with fail
                    go_meet
                    exact ⟨by rw [unhide Hk]; rfl, rfl⟩
                · cases b2
                  · have Hk : Hid (okb = false) := hide (by rw [unhide Hok]; unfold rhB; simp [hb2])
                    go_wp2_with fail
                    go_meet
                    exact ⟨by rw [unhide Hk]; rfl, rfl⟩
                  · have Hk : Hid (okb = true) := hide (by rw [unhide Hok]; unfold rhB; simp only [hb1, hb2, decide_eq_true (show (0 : Int) ≤ (f : Int) from by omega), decide_eq_true (show (t : Int) ≤ (x0.bytes.length : Int) from by omega), decide_eq_true (show (f : Int) < (t : Int) from by omega), decide_eq_true (show (0 : Int) ≤ (g : Int) from by omega), decide_eq_true (show (g : Int) < (x0.bytes.length : Int) from by omega), decide_eq_false a7, Bool.not_false, Bool.true_or, Bool.and_self, Bool.true_and])
                    go_wp2_with fail
                    go_meet
                    exact ⟨by rw [unhide Hk]; rfl, rfl⟩
              case rest =>
                obtain ⟨rfl, hwx⟩ := hcut
                subst hwx
                clear k0 k1 k2 kx HTab Hok
                cases okb
                · have hE := unhide Hd
                  simp at hE
                  subst hE
                  clear Hd
                  go_wp2
                  go_ret2
                  exact ⟨rfl, unhide HBWh⟩
                · have hE := unhide Hd
                  simp only [reduceIte] at hE
                  by_cases ht0 : xy = 0
                  · rw [decide_eq_true ht0, Bool.not_true] at nt
                    simp [ht0] at hE
                    have HE2 := hide hE.symm
                    clear Hd hE ht0
                    go_wp2
                    go_roundw
                    case rel => exact ⟨k + 1, by omega, by go_num, unhide HBh, HE2⟩
                    case measure => simp [intOf]; omega
                  · rw [decide_eq_false ht0, Bool.not_false] at nt
                    have h7 := unhide H7
                    cases b7
                    · have h7' : ¬ M.tag c.pool (xy : Int) = 7 := of_decide_eq_false h7
                      simp [ht0, h7'] at hE
                      subst hE
                      clear Hd h7 h7' ht0
                      go_wp2_with fail
                      refine (unhide HCx).mono ?_
                      rintro e w9 ⟨rfl, hw9⟩
                      subst w9
                      go_wp2
                      go_ret2
                      exact ⟨rfl, unhide HBWh⟩
                    · have h7' : M.tag c.pool (xy : Int) = 7 := of_decide_eq_true h7
                      simp [h7'] at hE
                      have HE2 := hide hE.symm
                      clear Hd hE h7 h7' ht0
                      go_wp2_with fail
                      refine (unhide HCx).mono ?_
                      rintro e w9 ⟨rfl, hw9⟩
                      subst w9
                      go_wp2
                      go_roundw
                      case rel => exact ⟨k + 1, by omega, by go_num, unhide HBh, HE2⟩
                      case measure => simp [intOf]; omega
            · have hkl : k = x0.handlers.length := by omega
              have hE : (0, 0) = q := by have h := unhide Hno; rw [hkl, List.drop_length] at h; exact h
              subst hE
              subst hkl
              clear Hno
              have hbW := (unhide HBr).trans (hbr.mono (unhide HBr).size)
              have HBW := hide hbW
              clear hbW hbr
              go_wp2
              go_ret2
              exact ⟨rfl, unhide HBW⟩
    · rw [if_neg he] at hE
      rw [decide_eq_false he, Bool.not_false] at n1
      subst hE
      clear he
      go_wp2
      go_ret2
      exact ⟨rfl, unhide HB3w⟩
end Go.Proofs.YtddhlphbbiihjaaGreatDoor.Cl
