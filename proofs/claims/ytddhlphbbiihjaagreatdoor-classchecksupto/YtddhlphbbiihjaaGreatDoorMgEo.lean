/-
  ClassChecks: the program looks at the class itself.
  ClassChecks: the program looks at a field.
-/
import Derived.Test.YtddhlphbbiihjaaGreatDoorMgEg
set_option linter.unusedVariables false
set_option linter.unusedSimpArgs false
namespace Go.Proofs.YtddhlphbbiihjaaGreatDoor.Cl
open Go.RowKit Go.Maps Kn
/-- What is wrong with interfaces, by the names ahead. -/
def ifE (P : List K) : List (List UInt8 × List UInt8) → List Nat → Nat
  | _, [] => 0
  | ks, x :: l => if pclE P x = 0 then (if ks.contains (M.cls P x, []) then 11 else ifE P (toldOf ks (M.cls P x, [])) l) else pclE P x
theorem ifE_drop (P : List K) (ks : List (List UInt8 × List UInt8)) (l : List Nat) (k : Nat) (hk : k < l.length) :
    ifE P ks (l.drop k) = if pclE P (l.getD k 0) = 0 then (if ks.contains (M.cls P (l.getD k 0), []) then 11 else ifE P (toldOf ks (M.cls P (l.getD k 0), [])) (l.drop (k + 1))) else pclE P (l.getD k 0) := by
  rw [List.drop_eq_getElem_cons hk, getD_at _ _ hk]; rfl
theorem below_bx {B mb : Nat} {a w1 w2 : World} (h : Below B a w1) (hx : Ck.Bx mb w1 w2) (hB : B ≤ w1.heap.size) (hm : B ≤ mb) : Below B a w2 :=
  ⟨hx.os.trans h.os, hx.tape.trans h.tape, hx.output.trans h.output, Nat.le_trans h.size hx.size, fun k hk => (hx.block k (by omega) (by omega)).trans (h.block k hk)⟩
theorem told_len (ks : List (List UInt8 × List UInt8)) (x : List UInt8 × List UInt8) : (toldOf ks x).length ≤ ks.length + 1 := by
  unfold toldOf; split <;> simp
theorem nat_nz (m : Nat) : (((m : Nat) : Int) != 0) = !decide (m = 0) := by rw [Bool.eq_iff_iff]; simp
theorem pclN_ok {P : List K} {x : Nat} (h : pclE P x = 0) : pclN P x = M.cls P x := by unfold pclN; rw [if_pos h]
theorem makeMap50 (w : World) : (Instr.makeMap 50 none).run Tryz.prog w = .ok (.map (some w.heap.size)) (w.alloc (.map #[] 0)) := by
  simp [Instr.makeMap, run_underlying Tryz.underlying50, Result.andThen, go_sem]
set_option maxRecDepth 100000 in
set_option maxHeartbeats 4000000 in
theorem interfaces_any (cb fl : Nat) (pv vi : Value) (P : List K) (l : List Nat) (w : World) (h : Kc w cb pv P fl) (hP : P.length ≤ 1048576) (hS : Sml P) (hi : FIn Uc 1 0 w vi l) (hx : ∀ x ∈ l, x < 65536) (hl : l.length ≤ 32768) :
    Calls Tryz.prog 27 #[.pointer (some ⟨cb, 0, none⟩), vi] w fun e w' => e = .returned (.int .i64 (ifE P [] l : Nat)) ∧ Below w.heap.size w w' := by
  have hpc := fun (x : Nat) (hx : x < 65536) (w1 : World) (hb1 : Below w.heap.size w w1) => plainClass_any cb fl x pv P w1 (h.below hb1) hP hx
  have HPC := hide hpc
  have HX := hide hx
  have HSm := hide hS
  generalize hr : ifE P [] l = r
  have Hr := hide hr
  have hb0 : Below w.heap.size w (w.alloc (.map #[] 0)) := (Below.refl _ _).alloc (Nat.le_refl _) _
  have hT0 := Told.made w
  have hmk := makeMap50
  have hz75 : ∀ W : World, (zeroValue 75).run Tryz.prog W = .ok (.agg #[.string ⟨#[]⟩, .string ⟨#[]⟩]) W := fun W => by kernel_rfl
  obtain ⟨ad, cap, rfl, hcell⟩ := hi
  have Hcell := hide hcell
  clear hpc hr hx h hS hcell
  go_enter Tryz.func27, Tryz.ntmps27
  go_wp2_with fail
  go_loopw [13] (fun i wr => ∃ (k : Nat) (ks : List (List UInt8 × List UInt8)), k ≤ l.length ∧ i = .int .i64 k ∧ ks.length ≤ k ∧ Told wr w.heap.size ks ∧ Below w.heap.size w wr ∧ Hid (ifE P ks (l.drop k) = r)) (fun i _ => l.length - (intOf i).toNat)
  case atStart => exact ⟨0, [], Nat.zero_le _, rfl, Nat.le_refl _, hT0, hb0, Hr⟩
  case round =>
    obtain ⟨k, ks, hk, rfl, hks, hT, hbr, Hno⟩ := hrel
    by_cases hlt : k < l.length
    · have hne : l ≠ [] := by intro e; rw [e] at hlt; simp at hlt
      obtain ⟨b, o, rfl, hc⟩ := unhide Hcell hne
      have hck := hc k hlt 0 (by omega)
      have hxk : l.getD k 0 < 65536 := by rw [getD_at _ _ hlt]; exact unhide HX _ (List.getElem_mem _)
      have hd := ifE_drop P ks l k hlt
      rw [unhide Hno] at hd
      have hckr : wr.cell? ⟨b, o + k, none⟩ = some (.int .u16 ((l.getD k 0 : Nat) : Int)) := by
        have h1 : w.cell? ⟨b, o + k, none⟩ = some (.int .u16 ((l.getD k 0 : Nat) : Int)) := by simpa [Uc] using hck
        rw [hbr.cell (cell_lt h1)]; exact h1
      generalize l.getD k 0 = x at *
      have HP1 := hide (unhide HPC x hxk wr hbr)
      have Hd := hide hd
      have HT := hide hT
      have HBr := hide hbr
      clear hd hT hbr hck hc hne Hno
      have nz := nat_nz (pclE P x)
      by_cases he : pclE P x = 0
      · rw [decide_eq_true he] at nz
        have hN := pclN_ok he
        rw [hN] at HP1
        have hE := unhide Hd
        rw [if_pos he] at hE
        have hA := fun (w1 : World) (hb1 : Below wr.heap.size wr w1) => add_any w.heap.size ks (M.cls P x) [] w1 ((unhide HT).below hb1) (by omega) ((unhide HSm).cls _) (by simp)
        have HA := hide hA
        have HE := hide hE
        clear hA hE Hd he hN
        generalize M.cls P (x : Int) = nm at *
        go_wp2_with fail
        refine (unhide HP1).mono ?_
        rintro e w1 ⟨rfl, hb1⟩
        have HB1 := hide hb1
        clear HP1 hb1 hckr
        by_cases hc1 : ks.contains (nm, []) = true
        · rw [hc1] at HA
          have hE := unhide HE
          rw [if_pos hc1] at hE
          subst hE
          clear HE hc1
          go_wp2_with fail
          refine (unhide HA w1 (unhide HB1)).mono ?_
          rintro e w2 ⟨rfl, hT2, hx2⟩
          have HB2 := hide (below_bx ((unhide HBr).trans ((unhide HB1).mono (unhide HBr).size)) hx2 (Nat.le_trans (unhide HBr).size (unhide HB1).size) (Nat.le_refl _))
          clear HA hT2 hx2
          go_wp2
          go_ret
          exact ⟨rfl, unhide HB2⟩
        · have hc2 : ks.contains (nm, []) = false := by simpa using hc1
          rw [hc2] at HA
          have hE := unhide HE
          rw [if_neg hc1] at hE
          have HE2 := hide hE.symm
          clear HE hc1 hc2 hE
          go_wp2_with fail
          refine (unhide HA w1 (unhide HB1)).mono ?_
          rintro e w2 ⟨rfl, hT2, hx2⟩
          have HB2 := hide (below_bx ((unhide HBr).trans ((unhide HB1).mono (unhide HBr).size)) hx2 (Nat.le_trans (unhide HBr).size (unhide HB1).size) (Nat.le_refl _))
          have HT2 := hide hT2
          clear HA hT2 hx2
          go_wp2
          go_roundw
          case rel => exact ⟨k + 1, toldOf ks (nm, []), by omega, by go_num, Nat.le_trans (told_len _ _) (by omega), unhide HT2, unhide HB2, HE2⟩
          case measure => simp [intOf]; omega
      · rw [decide_eq_false he] at nz
        have hE := unhide Hd
        rw [if_neg he] at hE
        clear Hd he
        subst hE
        go_wp2_with fail
        refine (unhide HP1).mono ?_
        rintro e w1 ⟨rfl, hb1⟩
        have HB1 := hide ((unhide HBr).trans (hb1.mono (unhide HBr).size))
        clear HP1 hb1 hckr
        go_wp2
        go_ret
        exact ⟨rfl, unhide HB1⟩
    · have hkl : k = l.length := by omega
      have hE : r = 0 := by have h := unhide Hno; rw [hkl, List.drop_length] at h; exact h.symm
      subst hE
      subst hkl
      have HBr := hide hbr
      clear Hno hT hbr
      go_wp2
      go_ret
      exact ⟨rfl, unhide HBr⟩
def objB : List UInt8 := [106, 97, 118, 97, 47, 108, 97, 110, 103, 47, 79, 98, 106, 101, 99, 116]
/-- What is wrong with the class itself. -/
def clsE (P : List K) (fl this super : Nat) (l : List Nat) : Nat :=
  if wcf fl then 10 else if pclE P this = 0 then (if pclE P super = 0 then (if hasF fl 512 && decide (M.cls P super ≠ objB) then 8 else ifE P [] l) else pclE P super) else pclE P this
set_option maxRecDepth 100000 in
set_option maxHeartbeats 4000000 in
theorem class10_any (cb : Nat) (pv : Value) (c : Csi) (vp vi vf vm : Value) (L : List Mv) (w : World) (h : Kc w cb pv c.pool c.flags) (hP : c.pool.length ≤ 1048576) (hS : Sml c.pool) (hC : Cin w c vp vi vf vm L) (hok : c.Ok) (hl : c.ifaces.length ≤ 32768) :
    Calls Tryz.prog 10 #[.pointer (some ⟨cb, 0, none⟩), clv c vp vi vf vm] w fun e w' => e = .returned (.int .i64 (clsE c.pool c.flags c.this c.super c.ifaces : Nat)) ∧ Below w.heap.size w w' := by
  unfold clv
  obtain ⟨w0, hw0⟩ : ∃ w0, w0 = w.alloc (.cells #[.int .u16 (c.minor : Int), .int .u16 (c.major : Int), .int .u16 (c.flags : Int), .int .u16 (c.this : Int), .int .u16 (c.super : Int), vp, vi, vf, vm] 28) := ⟨_, rfl⟩
  have hb0 : Below w.heap.size w w0 := by rw [hw0]; exact (Below.refl _ _).alloc (Nat.le_refl _) _
  have hk : Bk w0 w.heap.size #[.int .u16 (c.minor : Int), .int .u16 (c.major : Int), .int .u16 (c.flags : Int), .int .u16 (c.this : Int), .int .u16 (c.super : Int), vp, vi, vf, vm] 28 := by rw [hw0]; exact Bk.new _ _ _
  have HF := hide (wrongClassFlags_any cb c.flags w0 (h.below hb0).f hok.x3)
  have HPC := hide (fun (x : Nat) (hx : x < 65536) (w1 : World) (hb1 : Below w.heap.size w w1) => plainClass_any cb c.flags x pv c.pool w1 (h.below hb1) hP hx)
  have HIF := hide (fun (w1 : World) (hb1 : Below w.heap.size w w1) => interfaces_any cb c.flags pv vi c.pool c.ifaces w1 (h.below hb1) hP hS (hC.below hb1).i hok.xi hl)
  have HKc := hide (fun (w1 : World) (hb1 : Below w.heap.size w w1) => (h.below hb1).f)
  have e1 : (bits BinOp.and IntKind.u16 (c.flags : Int) 512 != 0) = hasF c.flags 512 := and_ne c.flags 512 hok.x3 (by omega)
  have x4 := hok.x4
  have x5 := hok.x5
  obtain ⟨pa, pc, rfl, _⟩ := hC.p.ex
  obtain ⟨ia, ic, rfl, _⟩ := hC.i
  obtain ⟨fa, fc, rfl, _⟩ := hC.f
  obtain ⟨ma, mc, rfl, _⟩ := hC.m
  generalize hr : clsE c.pool c.flags c.this c.super c.ifaces = r
  unfold clsE at hr
  have Hr := hide hr
  have HB := hide hb0
  have HK := hide hk
  clear hr hk hb0 h hS hC hok
  generalize wcf c.flags = b1 at *
  cases b1
  · have n1 := nat_nz (pclE c.pool c.this)
    have k3 := (unhide HK).cell 3
    simp at k3
    have hE := unhide Hr
    rw [if_neg (by simp)] at hE
    have HE := hide hE
    clear Hr hE
    by_cases h1 : pclE c.pool c.this = 0
    · rw [decide_eq_true h1] at n1
      have hE := unhide HE
      rw [if_pos h1] at hE
      have n2 := nat_nz (pclE c.pool c.super)
      have HE := hide hE
      have H1 := hide h1
      clear hE h1
      by_cases h2 : pclE c.pool c.super = 0
      · rw [decide_eq_true h2] at n2
        have hE := unhide HE
        rw [if_pos h2] at hE
        have HE := hide hE
        have hN := pclN_ok h2
        clear hE h2
        have n3 : (M.cls c.pool c.super == [106, 97, 118, 97, 47, 108, 97, 110, 103, 47, 79, 98, 106, 101, 99, 116]) = !decide (M.cls c.pool c.super ≠ objB) := by rw [lst_eq]; unfold objB; simp
        generalize hN3 : decide (M.cls c.pool c.super ≠ objB) = b3 at *
        generalize hasF c.flags 512 = b2 at *
        have HPS := unhide HPC c.super x5
        rw [hN] at HPS
        have HPS := hide HPS
        clear hN3 hN
        cases b2 <;> cases b3
        all_goals
          have hE := unhide HE
          simp only [Bool.and_self, Bool.and_true, Bool.and_false, Bool.false_and, Bool.true_and, if_true, Bool.false_eq_true, if_false] at hE
          have HE2 := hide hE
          clear hE HE
          go_enter Tryz.func10, Tryz.ntmps10
          go_upto_region 1 with fail
          rw [← hw0]
          clear hw0
          go_wp2_with fail
          refine (unhide HF).mono ?_
          rintro e w1 ⟨rfl, rfl⟩
          clear HF
          go_wp2_with fail
          refine (unhide HPC _ x4 _ (unhide HB)).mono ?_
          rintro e w2 ⟨rfl, hb2⟩
          have HB2 := hide ((unhide HB).trans (hb2.mono (unhide HB).size))
          have k4 := ((unhide HK).below hb2).cell 4
          simp at k4
          have HK2 := hide ((unhide HK).below hb2)
          clear hb2 HPC
          go_wp2_with fail
          refine (unhide HPS _ (unhide HB2)).mono ?_
          rintro e w3 ⟨rfl, hb3⟩
          have hB3 := (unhide HB2).trans (hb3.mono (unhide HB2).size)
          have kf := unhide HKc w3 hB3
          have k6 := ((unhide HK2).below hb3).cell 6
          simp at k6
          have HB3 := hide hB3
          clear hb3 HPS hB3 HKc HK2
          first
          | (have hE := unhide HE2
             subst hE
             go_wp2
             go_ret
             exact ⟨rfl, unhide HB3⟩)
          | (go_wp2_with (first | (go_at_call 27; refine (unhide HIF _ (unhide HB3)).mono ?_; rintro e w4 ⟨rfl, hb4⟩) | go_in)
             go_wp2
             go_ret
             exact ⟨by rw [← unhide HE2]; rfl, (unhide HB3).trans (hb4.mono (unhide HB3).size)⟩)
      · rw [decide_eq_false h2] at n2
        have hE := unhide HE
        rw [if_neg h2] at hE
        clear HE h2
        subst hE
        go_enter Tryz.func10, Tryz.ntmps10
        go_upto_region 1 with fail
        rw [← hw0]
        clear hw0
        go_wp2_with fail
        refine (unhide HF).mono ?_
        rintro e w1 ⟨rfl, rfl⟩
        clear HF
        go_wp2_with fail
        refine (unhide HPC _ x4 _ (unhide HB)).mono ?_
        rintro e w2 ⟨rfl, hb2⟩
        have HB2 := hide ((unhide HB).trans (hb2.mono (unhide HB).size))
        have k4 := ((unhide HK).below hb2).cell 4
        simp at k4
        clear hb2
        go_wp2_with fail
        refine (unhide HPC _ x5 _ (unhide HB2)).mono ?_
        rintro e w3 ⟨rfl, hb3⟩
        have HB3 := hide ((unhide HB2).trans (hb3.mono (unhide HB2).size))
        clear hb3
        go_wp2
        go_ret
        exact ⟨rfl, unhide HB3⟩
    · rw [decide_eq_false h1] at n1
      have hE := unhide HE
      rw [if_neg h1] at hE
      clear HE h1
      subst hE
      go_enter Tryz.func10, Tryz.ntmps10
      go_upto_region 1 with fail
      rw [← hw0]
      clear hw0
      go_wp2_with fail
      refine (unhide HF).mono ?_
      rintro e w1 ⟨rfl, rfl⟩
      clear HF
      go_wp2_with fail
      refine (unhide HPC _ x4 _ (unhide HB)).mono ?_
      rintro e w2 ⟨rfl, hb2⟩
      have HB2 := hide ((unhide HB).trans (hb2.mono (unhide HB).size))
      clear hb2
      go_wp2
      go_ret
      exact ⟨rfl, unhide HB2⟩
  · have hE := unhide Hr
    rw [if_pos rfl] at hE
    subst hE
    clear Hr HPC HIF HKc
    go_enter Tryz.func10, Tryz.ntmps10
    go_upto_region 1 with fail
    rw [← hw0]
    clear hw0
    go_wp2_with fail
    refine (unhide HF).mono ?_
    rintro e w1 ⟨rfl, rfl⟩
    go_wp2
    go_ret
    exact ⟨rfl, unhide HB⟩
end Go.Proofs.YtddhlphbbiihjaaGreatDoor.Cl
namespace Go.Proofs.YtddhlphbbiihjaaGreatDoor.Cl
open Go.RowKit Go.Maps Kn
/-- The name and the descriptor of a member. -/
def sgF (P : List K) (f : Fd) : List UInt8 × List UInt8 := (M.text P f.name, M.text P f.type_)
def sgM (P : List K) (m : Mi) : List UInt8 × List UInt8 := (M.text P m.name, M.text P m.type_)
/-- What is wrong with a field, by the names ahead. -/
def fldE (P : List K) (fl : Nat) (ks : List (List UInt8 × List UInt8)) (f : Fd) : Nat :=
  if isT P f.name && isT P f.type_ then
    (if wfE (M.text P f.name) (M.text P f.type_) = 0 then
      (if wff fl f.flags then 10 else if ks.contains (sgF P f) then 11
       else if f.value = 0 then 0 else if vtag (M.text P f.type_) ≠ 0 ∧ M.tag P f.value = vtag (M.text P f.type_) then 0 else 7)
     else wfE (M.text P f.name) (M.text P f.type_))
  else 7
theorem Bk.drew {w : World} {g : Nat} {cs : Array Value} {t : TypeId} (h : Bk w g cs t) : Bk w.drew g cs t := h
theorem bl_drewN (w : World) (n : Nat) : Below w.heap.size w (w.drewN n) := ⟨rfl, rfl, rfl, Nat.le_refl _, fun _ _ => rfl⟩
theorem bx_cell {mb : Nat} {w w' : World} {ks : List (List UInt8 × List UInt8)} (hx : Ck.Bx mb w w') (hT : Told w mb ks) {a : Addr} {v : Value} (hc : w.cell? a = some v) : w'.cell? a = some v := by
  have hb := hx.block a.block (cell_lt hc) (hT.ne hc)
  unfold World.cell? at hc ⊢
  rw [hb]; exact hc
theorem FIn.bx {α : Type} {f : α → List Value} {z : Nat} {d : α} {mb : Nat} {w w' : World} {ks : List (List UInt8 × List UInt8)} {v : Value} {l : List α} (hf : ∀ x, (f x).length = z) (h : FIn f z d w v l) (hx : Ck.Bx mb w w') (hT : Told w mb ks) : FIn f z d w' v l := by
  obtain ⟨ad, cap, e, h1⟩ := h
  refine ⟨ad, cap, e, fun hne => ?_⟩
  obtain ⟨b, o, e1, h2⟩ := h1 hne
  refine ⟨b, o, e1, fun k hk i hi => ?_⟩
  have hq := h2 k hk i hi
  have hc : (f (l.getD k d))[i]? = some ((f (l.getD k d))[i]'(by rw [hf]; exact hi)) := List.getElem?_eq_getElem _
  rw [hc] at hq ⊢
  exact bx_cell hx hT hq
theorem Kc.bx {mb cb fl : Nat} {w w' : World} {pv : Value} {P : List K} {ks : List (List UInt8 × List UInt8)} (h : Kc w cb pv P fl) (hx : Ck.Bx mb w w') (hT : Told w mb ks) : Kc w' cb pv P fl := by
  refine ⟨bx_cell hx hT h.p, bx_cell hx hT h.f, KIn_of h.k.fit (FIn.bx Kc_len (KIn_F h.k) hx hT), ?_⟩
  obtain ⟨m, hm⟩ := h.mx
  exact ⟨m, bx_cell hx hT hm⟩
theorem Bk.bx {mb g : Nat} {w w' : World} {cs : Array Value} {t : TypeId} (h : Bk w g cs t) (hx : Ck.Bx mb w w') (hne : g ≠ mb) : Bk w' g cs t := by
  unfold Bk; rw [hx.block g h.lt hne]; exact h
theorem Cin.bx {mb : Nat} {w w' : World} {c : Csi} {vp vi vf vm : Value} {L : List Mv} {ks : List (List UInt8 × List UInt8)} (h : Cin w c vp vi vf vm L) (hx : Ck.Bx mb w w') (hT : Told w mb ks) : Cin w' c vp vi vf vm L :=
  ⟨KIn_of h.p.fit (FIn.bx Kc_len (KIn_F h.p) hx hT), FIn.bx Uc_len h.i hx hT, FIn.bx Fc_len h.f hx hT, FIn.bx Mv.len h.m hx hT, fun j hj => FIn.bx Hi.len (h.h j hj) hx hT, h.e⟩
/-- The tags of what may be the value of a field. -/
def VIn (w : World) (v : Value) (n : Nat) : Prop := (n = 0 ∧ v = .slice none 0 0) ∨ (n ≠ 0 ∧ UIn w v [n])
theorem HasV (v tv : Value) (P : List K) (i : Int) (n : Nat) (w : World) (h : KIn w v P) (hP : P.length ≤ 1048576) (ht : VIn w tv n) :
    Calls Tryz.prog 21 #[v, .int .i64 i, tv] w fun e w' => e = .returned (.bool (decide (n ≠ 0 ∧ M.tag P i = n))) ∧ Below w.heap.size w w' := by
  rcases ht with ⟨h0, rfl⟩ | ⟨h0, hu⟩
  · rw [decide_eq_false (fun h => h.1 h0)]
    exact Has_nil v P i w h hP
  · have := Has_any v tv P [n] i w h hP hu (by simp)
    rw [contains_one] at this
    rw [show decide (n ≠ 0 ∧ M.tag P i = n) = decide (M.tag P i = n) from by simp [h0]]
    exact this
theorem told_snoc {ks : List (List UInt8 × List UInt8)} {x : List UInt8 × List UInt8} (h : ks.contains x = false) : toldOf ks x = ks ++ [x] := by
  unfold toldOf; rw [h]; rfl
theorem nat_ne0 (m : Nat) : (((m : Nat) : Int) != 0) = !decide (m = 0) := by rw [Bool.eq_iff_iff]; simp
set_option maxRecDepth 100000 in
set_option maxHeartbeats 4000000 in
theorem field_any (cb fl mb : Nat) (pv : Value) (P : List K) (ks : List (List UInt8 × List UInt8)) (f : Fd) (w : World) (h : Kc w cb pv P fl) (hP : P.length ≤ 1048576) (hS : Sml P) (hfl : fl < 65536) (hf : FdOk f) (hT : Told w mb ks) (hn : ks.length ≤ 100000) :
    Calls Tryz.prog 11 #[.pointer (some ⟨cb, 0, none⟩), .agg #[.int .u16 (f.flags : Int), .int .u16 (f.name : Int), .int .u16 (f.type_ : Int), .int .u16 (f.value : Int)], .map (some mb)] w fun e w' => e = .returned (.int .i64 (fldE P fl ks f : Nat)) ∧ Ck.Bx mb w w' ∧ (fldE P fl ks f = 0 → Told w' mb (ks ++ [sgF P f])) := by
  have HS := hide (fun (w1 : World) (hb1 : Below w.heap.size w w1) => signature_any cb fl f.name f.type_ pv P w1 (h.below hb1) hP hf.b hf.c)
  have HF := hide (fun (w1 : World) (hb1 : Below w.heap.size w w1) => wrongField_any (M.text P f.name) (M.text P f.type_) w1 (h.below hb1).mx (hS.text _) (hS.text _))
  have HG := hide (fun (w1 : World) (hb1 : Below w.heap.size w w1) => wrongFieldFlags_any cb fl f.flags w1 (h.below hb1).f hfl hf.a)
  have HA := hide (fun (w1 : World) (hb1 : Below w.heap.size w w1) => add_any mb ks (M.text P f.name) (M.text P f.type_) w1 (hT.below hb1) hn (hS.text _) (hS.text _))
  have HV := hide (fun (w1 : World) => valueTags_any (M.text P f.name) (M.text P f.type_) w1)
  have HH := hide (fun (w1 w2 : World) (tv : Value) (hb1 : Below w.heap.size w w1) (hx : Ck.Bx mb w1 w2) (w3 : World) (hb3 : Below w2.heap.size w2 w3) (hv : VIn w3 tv (vtag (M.text P f.type_))) => HasV pv tv P f.value (vtag (M.text P f.type_)) w3 ((((h.below hb1).bx hx (hT.below hb1)).below hb3).k) hP hv)
  have HKb := hide (fun (w1 w2 : World) (hb1 : Below w.heap.size w w1) (hx : Ck.Bx mb w1 w2) => ((h.below hb1).bx hx (hT.below hb1)).p)
  have hmb := hT.lt
  have HT := hide hT
  have hv := hf.d
  have ew : IntKind.i64.wrap (f.value : Int) = (f.value : Int) := by rw [IntKind.wrap_i64]; omega
  have nv := nat_ne0 f.value
  have hkk : sgF P f = (M.text P f.name, M.text P f.type_) := rfl
  rw [hkk]
  generalize hr : fldE P fl ks f = r
  unfold fldE at hr
  rw [hkk] at hr
  have Hr := hide hr
  clear hr h hS hf hT hkk
  generalize hnm : M.text P f.name = nm at *
  generalize hof : M.text P f.type_ = of at *
  generalize hok : (isT P f.name && isT P f.type_) = ok at *
  have n0 := nat_ne0 (wfE nm of)
  clear hnm hof hok
  obtain ⟨w0, hw0⟩ : ∃ w0, w0 = w.alloc (.cells #[.int .u16 (f.flags : Int), .int .u16 (f.name : Int), .int .u16 (f.type_ : Int), .int .u16 (f.value : Int)] 52) := ⟨_, rfl⟩
  have hb0 : Below w.heap.size w w0 := by rw [hw0]; exact (Below.refl _ _).alloc (Nat.le_refl _) _
  have hk : Bk w0 w.heap.size #[.int .u16 (f.flags : Int), .int .u16 (f.name : Int), .int .u16 (f.type_ : Int), .int .u16 (f.value : Int)] 52 := by rw [hw0]; exact Bk.new _ _ _
  have c1 := hk.cell 1
  have c2 := hk.cell 2
  simp at c1 c2
  have HB := hide hb0
  have HK := hide hk
  clear hk hb0
  have hz : ∀ W : World, (zeroValue 75).run Tryz.prog W = .ok (.agg #[.string ⟨#[]⟩, .string ⟨#[]⟩]) W := fun W => by kernel_rfl
  go_enter Tryz.func11, Tryz.ntmps11
  go_upto_region 1 with fail
  rw [← hw0]
  clear hw0
  go_wp2_with fail
  refine (unhide HS _ (unhide HB)).mono ?_
  rintro e w1 ⟨rfl, hb1⟩
  have HB1 := hide ((unhide HB).trans (hb1.mono (unhide HB).size))
  have HK1 := hide ((unhide HK).below hb1)
  clear HS hb1 c1 c2 HK HB
  unfold sgv
  cases ok
  · have hE : r = 7 := by rw [← unhide Hr]; rfl
    subst hE
    clear Hr HF HG HA HV HH HKb n0
    go_wp2
    go_ret
    exact ⟨rfl, Ck.Bx.of ((unhide HB1).alloc (unhide HB1).size _), fun h => by cases h⟩
  have hE := unhide Hr
  rw [if_pos rfl] at hE
  have HE := hide hE
  clear Hr hE
  go_wp2_with fail
  obtain ⟨w2, hw2⟩ : ∃ w2, w2 = w1.alloc (.cells #[.string ⟨nm.toArray⟩, .string ⟨of.toArray⟩] 75) := ⟨_, rfl⟩
  rw [← hw2]
  have hb12 : Below w1.heap.size w1 w2 := by rw [hw2]; exact (Below.refl _ _).alloc (Nat.le_refl _) _
  have hs2 : Bk w2 w1.heap.size #[.string ⟨nm.toArray⟩, .string ⟨of.toArray⟩] 75 := by rw [hw2]; exact Bk.new _ _ _
  have HB2 := hide ((unhide HB1).trans (hb12.mono (unhide HB1).size))
  have HK2 := hide ((unhide HK1).below hb12)
  have HS2 := hide hs2
  have hlt1 : w.heap.size ≤ w1.heap.size := (unhide HB1).size
  clear hw2 hb12 hs2 HK1 HB1
  refine (unhide HF _ (unhide HB2)).mono ?_
  rintro e w3 ⟨rfl, hb3⟩
  have HB3 := hide ((unhide HB2).trans (hb3.mono (unhide HB2).size))
  have HK3 := hide ((unhide HK2).below hb3)
  have HS3 := hide ((unhide HS2).below hb3)
  clear HF hb3 HB2 HK2 HS2
  by_cases h0 : wfE nm of = 0
  · rw [decide_eq_true h0] at n0
    have hE := unhide HE
    rw [if_pos h0] at hE
    have HE := hide hE
    clear hE h0
    have a0 := (unhide HK3).cell 0
    simp at a0
    have b0 := (unhide HS3).cell 0
    have b1 := (unhide HS3).cell 1
    simp at b0 b1
    generalize hff : wff fl f.flags = bf at *
    cases bf
    · have hE := unhide HE
      rw [if_neg (by simp)] at hE
      have HE := hide hE
      clear hE hff
      go_wp2_with fail
      refine (unhide HG _ (unhide HB3)).mono ?_
      rintro e w4 ⟨rfl, hw4⟩
      subst w4
      clear HG
      go_wp2_with fail
      refine (unhide HA _ (unhide HB3).drew).mono ?_
      rintro e w5 ⟨rfl, hT5, hx5⟩
      have HX5 := hide hx5
      have HT5 := hide hT5
      have HK5 := hide ((unhide HK3).drew.bx hx5 (by omega))
      have HS5 := hide ((unhide HS3).drew.bx hx5 (by omega))
      clear HA hT5 hx5 a0 b0 b1
      generalize hcc : ks.contains (nm, of) = bc at *
      cases bc
      · have hE := unhide HE
        rw [if_neg (by simp)] at hE
        have HE := hide hE
        have HT6 : Hid (Told w5 mb (ks ++ [(nm, of)])) := hide (by have := unhide HT5; rw [told_snoc hcc] at this; exact this)
        clear hE hcc HT5
        have a3 := (unhide HK5).cell 3
        simp at a3
        have a4 := unhide HKb _ _ (unhide HB3).drew (unhide HX5)
        have b0 := (unhide HS5).cell 0
        have b1 := (unhide HS5).cell 1
        simp at b0 b1
        have HSS := hide (fun (w' : World) (hb' : Below w5.heap.size w5 w') => show w'.cell? ⟨w.heap.size, 3, none⟩ = some (.int .u16 (f.value : Int)) ∧ w'.cell? ⟨cb, 0, none⟩ = some pv ∧ w'.cell? ⟨w1.heap.size, 0, none⟩ = some (.string ⟨nm.toArray⟩) ∧ w'.cell? ⟨w1.heap.size, 1, none⟩ = some (.string ⟨of.toArray⟩) from ⟨by rw [hb'.cell (cell_lt a3)]; exact a3, by rw [hb'.cell (cell_lt a4)]; exact a4, by rw [hb'.cell (cell_lt b0)]; exact b0, by rw [hb'.cell (cell_lt b1)]; exact b1⟩)
        clear HKb
        by_cases hv0 : f.value = 0
        · rw [decide_eq_true hv0, Bool.not_true] at nv
          have hE := unhide HE
          rw [if_pos hv0] at hE
          subst hE
          clear HE HH HV hv0
          go_wp2_with fail
          go_quiet (fail)
          all_goals
            go_wp2
            go_ret
            exact ⟨rfl, ((Ck.Bx.of (unhide HB3).drew).trans (unhide HX5)).trans (Ck.Bx.of (bl_drewN _ nq)), (unhide HT6).below (bl_drewN _ nq)⟩
        · rw [decide_eq_false hv0, Bool.not_false] at nv
          have hE := unhide HE
          rw [if_neg hv0] at hE
          generalize hbv : decide (vtag of ≠ 0 ∧ M.tag P (f.value : Int) = vtag of) = bv at *
          have hE2 : r = if bv = true then 0 else 7 := by rw [← hE, ← hbv]; simp only [decide_eq_true_eq]
          clear hE hv0 HE hbv
          cases bv
          all_goals
            simp only [if_true, Bool.false_eq_true, if_false] at hE2
            subst hE2
            go_wp2_with fail
            go_region_held3 (fun w' => w'.cell? ⟨w.heap.size, 3, none⟩ = some (.int .u16 (f.value : Int)) ∧ w'.cell? ⟨cb, 0, none⟩ = some pv ∧ w'.cell? ⟨w1.heap.size, 0, none⟩ = some (.string ⟨nm.toArray⟩) ∧ w'.cell? ⟨w1.heap.size, 1, none⟩ = some (.string ⟨of.toArray⟩)) (first | go_keep | exact unhide HSS _ (unhide HB6) | exact unhide HSS _ (unhide HB7)) (first | (go_at_call 32; refine (unhide HV _).mono ?_; rintro e w6 ⟨⟨tv, rfl, hv⟩, hb6⟩; have HB6 := hide ((Below.refl w5.heap.size w5).drew.trans hb6); have HVv := hide hv; clear hb6 hv) | (go_at_call 21; refine (unhide HH w3.drew w5 _ (unhide HB3).drew (unhide HX5) w6 (unhide HB6) (unhide HVv)).mono ?_; rintro e w7 ⟨rfl, hb7⟩; have HB7 := hide ((unhide HB6).trans (hb7.mono (unhide HB6).size)); clear hb7))
            go_wp2
            go_ret
            first
            | exact ⟨rfl, ((Ck.Bx.of (unhide HB3).drew).trans (unhide HX5)).trans (Ck.Bx.of (unhide HB7)), (unhide HT6).below (unhide HB7)⟩
            | exact ⟨rfl, ((Ck.Bx.of (unhide HB3).drew).trans (unhide HX5)).trans (Ck.Bx.of (unhide HB7)), fun h => by cases h⟩
            | exact ⟨rfl, ((Ck.Bx.of (unhide HB3).drew).trans (unhide HX5)).trans (Ck.Bx.of (unhide HB7)), trivial⟩
      · have hE := unhide HE
        rw [if_pos rfl] at hE
        subst hE
        clear HE HH HV HKb
        go_wp2
        go_ret
        exact ⟨rfl, (Ck.Bx.of (unhide HB3).drew).trans (unhide HX5), fun h => by cases h⟩
    · have hE := unhide HE
      rw [if_pos rfl] at hE
      subst hE
      clear HE HH HV HKb HA
      go_wp2_with fail
      refine (unhide HG _ (unhide HB3)).mono ?_
      rintro e w4 ⟨rfl, hw4⟩
      subst w4
      go_wp2
      go_ret
      exact ⟨rfl, Ck.Bx.of (unhide HB3).drew, fun h => by cases h⟩
  · rw [decide_eq_false h0] at n0
    have hE := unhide HE
    rw [if_neg h0] at hE
    have H0 := hide h0
    clear HE HH HV HKb HA HG h0
    subst hE
    go_wp2
    go_ret
    exact ⟨rfl, Ck.Bx.of (unhide HB3), fun h => absurd h (unhide H0)⟩
end Go.Proofs.YtddhlphbbiihjaaGreatDoor.Cl
