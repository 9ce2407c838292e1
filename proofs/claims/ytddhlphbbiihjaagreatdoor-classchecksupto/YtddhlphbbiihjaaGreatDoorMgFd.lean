/-
  ClassChecks: the reference: one, text, class, most, flags, member.
  ClassChecks: the program looks at a method.
-/
import Derived.Test.YtddhlphbbiihjaaGreatDoorFc
set_option linter.unusedVariables false
set_option linter.unusedSimpArgs false
namespace Go.Proofs.YtddhlphbbiihjaaGreatDoor.Cl
open Go.RowKit Go.Maps Kn
/-- Of some errors the first that is one. -/
def fst1 : List Nat → Nat
  | [] => 0
  | e :: l => if e = 0 then fst1 l else e
theorem fst1_drop (l : List Nat) (k : Nat) (hk : k < l.length) : fst1 (l.drop k) = if l.getD k 0 = 0 then fst1 (l.drop (k + 1)) else l.getD k 0 := by
  rw [List.drop_eq_getElem_cons hk, getD_at _ _ hk]; rfl
def EIn (w : World) (v : Value) (l : List Nat) : Prop := ∃ b cap, v = .slice (some ⟨b, 0, none⟩) l.length cap ∧ ∀ k, k < l.length → w.cell? ⟨b, k, none⟩ = some (.int .i64 ((l.getD k 0 : Nat) : Int))
set_option maxRecDepth 100000 in
set_option maxHeartbeats 1000000 in
theorem one38_any (v : Value) (l : List Nat) (w : World) (h : EIn w v l) (hl : l.length ≤ 1000) :
    Calls Tryz.prog 38 #[v] w fun e w' => e = .returned (.int .i64 (fst1 l : Nat)) ∧ w' = w := by
  obtain ⟨b, cap, rfl, hc⟩ := h
  have Hc := hide hc
  clear hc
  generalize hr : fst1 l = r
  have Hr := hide hr
  clear hr
  go_enter Tryz.func38, Tryz.ntmps38
  go_wp2_with fail
  go_loopw [7] (fun i wr => ∃ k : Nat, k ≤ l.length ∧ i = .int .i64 k ∧ Hid (fst1 (l.drop k) = r) ∧ wr = w) (fun i _ => l.length - (intOf i).toNat)
  case atStart => exact ⟨0, Nat.zero_le _, rfl, Hr, rfl⟩
  case round =>
    obtain ⟨k, hk, rfl, Hno, rfl⟩ := hrel
    by_cases hlt : k < l.length
    · have hck := unhide Hc k hlt
      have hd := fst1_drop l k hlt
      rw [unhide Hno] at hd
      generalize l.getD k 0 = x at *
      have Hd := hide hd
      clear hd Hno
      have n0 := nat_zero x
      by_cases hx : x = 0
      · rw [decide_eq_true hx] at n0
        have Hn : Hid (fst1 (l.drop (k + 1)) = r) := hide (by have h := unhide Hd; rw [if_pos hx] at h; exact h.symm)
        subst hx
        clear Hd
        go_wp2
        go_roundw
        case rel => exact ⟨k + 1, by omega, by go_num, Hn, trivial⟩
        case measure => simp [intOf]; omega
      · rw [decide_eq_false hx] at n0
        have hE : r = x := by have h := unhide Hd; rw [if_neg hx] at h; exact h
        subst hE
        clear hx Hd
        go_wp2
        go_ret
        exact ⟨rfl, rfl⟩
    · have hkl : k = l.length := by omega
      have hE : r = 0 := by have h := unhide Hno; rw [hkl, List.drop_length] at h; exact h.symm
      subst hE
      subst hkl
      clear Hno
      go_wp2
      go_ret
      exact ⟨rfl, rfl⟩
theorem EIn.made (w : World) (l : List Nat) (cs : Array Value) (he : cs.toList = l.map (fun x : Nat => Value.int .i64 (x : Int))) (t : TypeId) : EIn (w.alloc (.cells cs t)) (.slice (some ⟨w.heap.size, 0, none⟩) l.length l.length) l := by
  refine ⟨w.heap.size, l.length, rfl, fun k hk => ?_⟩
  have h1 := (Bk.new w cs t).cell k
  rw [h1, ← Array.getElem?_toList, he, List.getElem?_map, List.getElem?_eq_getElem hk, getD_at _ _ hk]; rfl
/-- What the reference looks at: a class of its own. -/
structure Qk (w : World) (kb : Nat) (c : Csi) (vp vi vf vm : Value) (L : List Mv) : Prop where
  b : Bk w kb #[.int .u16 (c.minor : Int), .int .u16 (c.major : Int), .int .u16 (c.flags : Int), .int .u16 (c.this : Int), .int .u16 (c.super : Int), vp, vi, vf, vm] 58
  c : Cin w c vp vi vf vm L
theorem Qk.below {w w' : World} {kb : Nat} {c : Csi} {vp vi vf vm : Value} {L : List Mv} (h : Qk w kb c vp vi vf vm L) (hb : Below w.heap.size w w') : Qk w' kb c vp vi vf vm L := ⟨h.b.below hb, h.c.below hb⟩
set_option maxHeartbeats 1000000 in
theorem text37_any (kb x : Nat) (c : Csi) (vp vi vf vm : Value) (L : List Mv) (w : World) (h : Qk w kb c vp vi vf vm L) (hP : c.pool.length ≤ 1048576) (hx : x < 65536) :
    Calls Tryz.prog 37 #[.pointer (some ⟨kb, 0, none⟩), .int .u16 (x : Int)] w fun e w' => e = .returned (.tuple #[.string ⟨(M.text c.pool x).toArray⟩, .bool (isT c.pool x)]) ∧ w' = w := by
  have HS := hide (QString_any vp c.pool x w h.c.p hP)
  have c5 := h.b.cell 5
  simp at c5
  clear h
  go_enter Tryz.func37, Tryz.ntmps37
  go_wp2_with fail
  refine (unhide HS).mono ?_
  rintro e w1 ⟨rfl, rfl⟩
  go_wp2
  go_ret2
  exact ⟨rfl, rfl⟩
set_option maxHeartbeats 1000000 in
theorem class47_any (kb x : Nat) (c : Csi) (vp vi vf vm : Value) (L : List Mv) (w : World) (h : Qk w kb c vp vi vf vm L) (hP : c.pool.length ≤ 1048576) (hx : x < 65536) :
    Calls Tryz.prog 47 #[.pointer (some ⟨kb, 0, none⟩), .int .u16 (x : Int)] w fun e w' => e = .returned (.tuple #[.string ⟨(M.cls c.pool x).toArray⟩, .bool (clf c.pool x)]) ∧ w' = w := by
  have HS := hide (QClassOf_any vp c.pool x w h.c.p hP)
  have c5 := h.b.cell 5
  simp at c5
  clear h
  go_enter Tryz.func47, Tryz.ntmps47
  go_wp2_with fail
  refine (unhide HS).mono ?_
  rintro e w1 ⟨rfl, rfl⟩
  go_wp2
  go_ret2
  exact ⟨rfl, rfl⟩
/-- Has a number all of some flags? -/
def hasA (a b : Nat) : Bool := decide (a &&& b = b)
theorem and_eq (a b : Nat) (ha : a < 65536) (hb : b < 65536) : (bits BinOp.and IntKind.u16 (a : Int) (b : Int) == (b : Int)) = hasA a b := by
  rw [u16_and_nat a b ha hb]; unfold hasA; exact nat_beq _ _
theorem and_z (a b : Nat) (ha : a < 65536) (hb : b < 65536) : (bits BinOp.and IntKind.u16 (a : Int) (b : Int) == 0) = !hasF a b := by
  rw [u16_and_nat a b ha hb]; unfold hasF; rw [Bool.eq_iff_iff]; simp
theorem and_pow (a k : Nat) : a &&& 2 ^ k = if a.testBit k then 2 ^ k else 0 := by
  apply Nat.eq_of_testBit_eq
  intro i
  rw [Nat.testBit_and, Nat.testBit_two_pow]
  by_cases e : k = i
  · subst e
    by_cases h : a.testBit k = true
    · simp [h, Nat.testBit_two_pow]
    · simp [h]
  · by_cases h : a.testBit k = true
    · simp [h, e, Nat.testBit_two_pow]
    · simp [h, e]
theorem hasA_two (a k : Nat) : hasA a (2 ^ k) = hasF a (2 ^ k) := by
  unfold hasA hasF
  rw [and_pow]
  have : 0 < 2 ^ k := Nat.two_pow_pos k
  by_cases h : a.testBit k = true
  · rw [if_pos h]; simp
  · rw [if_neg h]; simp; omega
set_option maxHeartbeats 2000000 in
theorem most_any (f : Nat) (w : World) (hf : f < 65536) : Calls Tryz.prog 49 #[.int .u16 (f : Int)] w fun e w' => e = .returned (.bool (!more f)) ∧ w' = w := by
  have e0 : (f : Int).tmod 8 = ((f % 8 : Nat) : Int) := by rw [Int.tmod_eq_emod_of_nonneg (by omega)]; omega
  have hm : f % 8 < 8 := Nat.mod_lt _ (by omega)
  unfold more
  generalize f % 8 = x at *
  obtain rfl | rfl | rfl | rfl | rfl | rfl | rfl | rfl : x = 0 ∨ x = 1 ∨ x = 2 ∨ x = 3 ∨ x = 4 ∨ x = 5 ∨ x = 6 ∨ x = 7 := by omega
  all_goals
    go_enter Tryz.func49, Tryz.ntmps49
    go_wp2
    go_ret
    exact ⟨rfl, rfl⟩
end Go.Proofs.YtddhlphbbiihjaaGreatDoor.Cl
namespace Go.Proofs.YtddhlphbbiihjaaGreatDoor.Cl
open Go.RowKit Go.Maps Kn
theorem Wd.bx {mb : Nat} {w w' : World} {ks : List (List UInt8 × List UInt8)} (h : Dc.Wd w) (hx : Ck.Bx mb w w') (hT : Told w mb ks) : Dc.Wd w' :=
  ⟨bx_cell hx hT h.1, bx_cell hx hT h.2.1, bx_cell hx hT h.2.2⟩
theorem mslots_le (b : List UInt8) : mslots b ≤ 2 * b.length := by
  unfold mslots
  split
  · omega
  · rename_i L g hL
    have h1 := W.slots_le L
    have h2 := Ck.meth_len hL
    omega
theorem bool_beq (a b : Bool) : (a == b) = decide (a = b) := by cases a <;> cases b <;> rfl
set_option maxRecDepth 100000 in
set_option maxHeartbeats 4000000 in
theorem method_any (cb fl mb : Nat) (pv : Value) (P : List K) (ks : List (List UInt8 × List UInt8)) (j : Mv) (w : World) (h : Kc w cb pv P fl) (hP : P.length ≤ 1048576) (hS : Sml P) (hfl : fl < 65536) (hw : Dc.Wd w) (hm : j.m.Ok) (hT : Told w mb ks) (hn : ks.length ≤ 100000)
    (hh : FIn Hi.cells 4 Hi.zero w j.hv j.m.code.handlers) (hhl : j.m.code.handlers.length ≤ 1048576) (hbl : j.m.code.bytes.length ≤ 1048576) :
    Calls Tryz.prog 12 #[.pointer (some ⟨cb, 0, none⟩), .agg #[.int .u16 (j.m.flags : Int), .int .u16 (j.m.name : Int), .int .u16 (j.m.type_ : Int), .bool j.m.has, .int .i64 j.m.code.stack, .int .i64 j.m.code.locals, .string ⟨j.m.code.bytes.toArray⟩, j.hv, .string ⟨j.m.code.map.toArray⟩], .map (some mb)] w fun e w' => e = .returned (.tuple #[.int .i64 (mthE P fl ks j.m).1, .int .i64 (mthE P fl ks j.m).2]) ∧ Ck.Bx mb w w' ∧ ((mthE P fl ks j.m).1 = 0 → Told w' mb (ks ++ [sgM P j.m])) := by
  have HS := hide (fun (w1 : World) (hb1 : Below w.heap.size w w1) => signature_any cb fl j.m.name j.m.type_ pv P w1 (h.below hb1) hP hm.b hm.c)
  have HF := hide (fun (w1 : World) (hb1 : Below w.heap.size w w1) => wrongMethod_any (M.text P j.m.name) (M.text P j.m.type_) w1 (h.below hb1).mx (hS.text _) (hS.text _))
  have hg := fun (w1 : World) (hb1 : Below w.heap.size w w1) => wrongMethodFlags_any cb fl j.m.flags ⟨(M.text P j.m.name).toArray⟩ w1 (h.below hb1).f hfl hm.a
  rw [dt_of] at hg
  have HG := hide hg
  have HA := hide (fun (w1 : World) (hb1 : Below w.heap.size w w1) => add_any mb ks (M.text P j.m.name) (M.text P j.m.type_) w1 (hT.below hb1) hn (hS.text _) (hS.text _))
  have HL := hide (fun (w1 w2 : World) (hb1 : Below w.heap.size w w1) (hx : Ck.Bx mb w1 w2) => slots_any (M.text P j.m.name) (M.text P j.m.type_) w2 ((h.below hb1).bx hx (hT.below hb1)).mx (hS.text _))
  have hml : mslots (M.text P j.m.type_) ≤ 65536 := by have := mslots_le (M.text P j.m.type_); have := hS.text (j.m.type_ : Int); omega
  have HC := hide (fun (need : Nat) (hne : need ≤ 1048576) (w1 w2 w3 : World) (hb1 : Below w.heap.size w w1) (hx : Ck.Bx mb w1 w2) (hb3 : Below w2.heap.size w2 w3) => code_any cb fl need pv j.hv P j.m.code w3 (((h.below hb1).bx hx (hT.below hb1)).below hb3) hP hS ((Wd.bx (hw.below hb1) hx (hT.below hb1)).below hb3) hm.d (FIn.below Hi.len (FIn.bx Hi.len (FIn.below Hi.len hh hb1) hx (hT.below hb1)) hb3) hhl hbl hne)
  have hmb := hT.lt
  have e1 : (bits BinOp.and IntKind.u16 (j.m.flags : Int) 1280 != 0) = hasF j.m.flags 1280 := and_ne j.m.flags 1280 hm.a (by omega)
  have e2 : (bits BinOp.and IntKind.u16 (j.m.flags : Int) 8 == 0) = !hasF j.m.flags 8 := and_z j.m.flags 8 hm.a (by omega)
  have hkk : sgM P j.m = (M.text P j.m.name, M.text P j.m.type_) := rfl
  rw [hkk]
  obtain ⟨ha, hcap, hhv, hcell⟩ := hh
  rw [hhv] at HC ⊢
  generalize hr : mthE P fl ks j.m = r
  unfold mthE at hr
  rw [hkk] at hr
  have Hr := hide hr
  clear hr h hS hm hT hkk hcell hg hw hhv
  generalize hnm : M.text P j.m.name = nm at *
  generalize hof : M.text P j.m.type_ = of at *
  generalize hok : (isT P j.m.name && isT P j.m.type_) = ok at *
  generalize hasF j.m.flags 1280 = bare at *
  generalize hasF j.m.flags 8 = stat at *
  generalize hhas : j.m.has = has at *
  have n0 := nat_ne0 (wmE nm of)
  clear hnm hof hok hhas
  obtain ⟨w0, hw0⟩ : ∃ w0, w0 = w.alloc (.cells #[.int .u16 (j.m.flags : Int), .int .u16 (j.m.name : Int), .int .u16 (j.m.type_ : Int), .bool has, .int .i64 j.m.code.stack, .int .i64 j.m.code.locals, .string ⟨j.m.code.bytes.toArray⟩, .slice ha j.m.code.handlers.length hcap, .string ⟨j.m.code.map.toArray⟩] 43) := ⟨_, rfl⟩
  have hb0 : Below w.heap.size w w0 := by rw [hw0]; exact (Below.refl _ _).alloc (Nat.le_refl _) _
  have hk : Bk w0 w.heap.size #[.int .u16 (j.m.flags : Int), .int .u16 (j.m.name : Int), .int .u16 (j.m.type_ : Int), .bool has, .int .i64 j.m.code.stack, .int .i64 j.m.code.locals, .string ⟨j.m.code.bytes.toArray⟩, .slice ha j.m.code.handlers.length hcap, .string ⟨j.m.code.map.toArray⟩] 43 := by rw [hw0]; exact Bk.new _ _ _
  have c1 := hk.cell 1
  have c2 := hk.cell 2
  simp at c1 c2
  have HB := hide hb0
  have HK := hide hk
  clear hk hb0
  have hz : ∀ W : World, (zeroValue 75).run Tryz.prog W = .ok (.agg #[.string ⟨#[]⟩, .string ⟨#[]⟩]) W := fun W => by kernel_rfl
  go_enter Tryz.func12, Tryz.ntmps12
  go_upto_region 1 with fail
  rw [← hw0]
  clear hw0
  go_wp2_with fail
  refine (unhide HS _ (unhide HB)).mono ?_
  rintro e w1 ⟨rfl, hb1⟩
  have HB1 := hide ((unhide HB).trans (hb1.mono (unhide HB).size))
  have HK1 := hide ((unhide HK).below hb1)
  clear HS hb1 c1 c2 HK HB
  unfold sgv
  cases ok
  · have hE : r = (7, 0) := by rw [← unhide Hr]; rfl
    subst hE
    clear Hr HF HG HA HL HC n0
    go_wp2
    go_ret2
    first
    | exact ⟨rfl, Ck.Bx.of ((unhide HB1).alloc (unhide HB1).size _), fun h => by cases h⟩
    | exact ⟨rfl, Ck.Bx.of ((unhide HB1).alloc (unhide HB1).size _)⟩
  have hE := unhide Hr
  rw [if_pos rfl] at hE
  have HE := hide hE
  clear Hr hE
  go_wp2_with fail
  obtain ⟨w2, hw2⟩ : ∃ w2, w2 = w1.alloc (.cells #[.string ⟨nm.toArray⟩, .string ⟨of.toArray⟩] 75) := ⟨_, rfl⟩
  rw [← hw2]
  have hb12 : Below w1.heap.size w1 w2 := by rw [hw2]; exact (Below.refl _ _).alloc (Nat.le_refl _) _
  have hs2 : Bk w2 w1.heap.size #[.string ⟨nm.toArray⟩, .string ⟨of.toArray⟩] 75 := by rw [hw2]; exact Bk.new _ _ _
  have HB2 := hide ((unhide HB1).trans (hb12.mono (unhide HB1).size))
  have HK2 := hide ((unhide HK1).below hb12)
  have HS2 := hide hs2
  have hlt1 : w.heap.size ≤ w1.heap.size := (unhide HB1).size
  clear hw2 hb12 hs2 HK1 HB1
  refine (unhide HF _ (unhide HB2)).mono ?_
  rintro e w3 ⟨rfl, hb3⟩
  have HB3 := hide ((unhide HB2).trans (hb3.mono (unhide HB2).size))
  have HK3 := hide ((unhide HK2).below hb3)
  have HS3 := hide ((unhide HS2).below hb3)
  clear HF hb3 HB2 HK2 HS2
  by_cases h0 : wmE nm of = 0
  · rw [decide_eq_true h0] at n0
    have hE := unhide HE
    rw [if_pos h0] at hE
    have HE := hide hE
    clear hE h0
    have a0 := (unhide HK3).cell 0
    simp at a0
    have b0 := (unhide HS3).cell 0
    simp at b0
    generalize hff : wmf fl j.m.flags nm = bf at *
    cases bf
    · have hE := unhide HE
      rw [if_neg (by simp)] at hE
      have HE := hide hE
      clear hE hff
      go_wp2_with fail
      refine (unhide HG _ (unhide HB3)).mono ?_
      rintro e w4 ⟨rfl, hb4⟩
      have HB4 := hide ((unhide HB3).trans (hb4.mono (unhide HB3).size))
      have HK4 := hide ((unhide HK3).below hb4)
      have HS4 := hide ((unhide HS3).below hb4)
      have b0 := (unhide HS4).cell 0
      have b1 := (unhide HS4).cell 1
      simp at b0 b1
      clear HG HB3 HK3 HS3 hb4 a0
      go_wp2_with fail
      refine (unhide HA _ (unhide HB4)).mono ?_
      rintro e w5 ⟨rfl, hT5, hx5⟩
      have HX5 := hide hx5
      have HT5 := hide hT5
      have HK5 := hide ((unhide HK4).bx hx5 (by omega))
      have HS5 := hide ((unhide HS4).bx hx5 (by omega))
      clear HA hT5 hx5 b0 b1 HK4 HS4
      generalize hcc : ks.contains (nm, of) = bc at *
      cases bc
      · have hE := unhide HE
        rw [if_neg (by simp)] at hE
        have HE := hide hE
        have HT6 : Hid (Told w5 mb (ks ++ [(nm, of)])) := hide (by have := unhide HT5; rw [told_snoc hcc] at this; exact this)
        clear hE hcc HT5
        have a0 := (unhide HK5).cell 0
        have a3 := (unhide HK5).cell 3
        simp at a0 a3
        have b0 := (unhide HS5).cell 0
        have b1 := (unhide HS5).cell 1
        simp at b0 b1
        have nb := bool_beq has bare
        cases has <;> cases bare
        · have hE := unhide HE
          simp at hE
          subst hE
          clear HE HL HC
          go_wp2
          go_ret2
          first
          | exact ⟨rfl, (Ck.Bx.of (unhide HB4)).trans (unhide HX5), fun h => by cases h⟩
          | exact ⟨rfl, (Ck.Bx.of (unhide HB4)).trans (unhide HX5)⟩
        · have hE := unhide HE
          simp at hE
          subst hE
          clear HE HL HC
          go_wp2
          go_ret2
          first
          | exact ⟨rfl, (Ck.Bx.of (unhide HB4)).trans (unhide HX5), fun _ => unhide HT6⟩
          | exact ⟨rfl, (Ck.Bx.of (unhide HB4)).trans (unhide HX5), unhide HT6⟩
        · have hE := unhide HE
          simp only [Bool.true_eq_false, if_false, reduceCtorEq] at hE
          clear nb HE
          go_wp2_with fail
          refine (unhide HL _ _ (unhide HB4) (unhide HX5)).mono ?_
          rintro e w6 ⟨rfl, hb6⟩
          have HB6 := hide hb6
          have a0 := ((unhide HK5).below hb6).cell 0
          have a4 := ((unhide HK5).below hb6).cell 4
          have a5 := ((unhide HK5).below hb6).cell 5
          have a6 := ((unhide HK5).below hb6).cell 6
          have a7 := ((unhide HK5).below hb6).cell 7
          have a8 := ((unhide HK5).below hb6).cell 8
          simp at a0 a4 a5 a6 a7 a8
          clear HL hb6 a3 b0 b1
          generalize mslots of = sl at *
          cases stat
          · have HC1 := hide (unhide HC (sl + 1) (by omega) _ _ _ (unhide HB4) (unhide HX5) (unhide HB6))
            simp only [Bool.false_eq_true, if_false] at hE
            rw [hE] at HC1
            clear HC hE
            have hsi : ((sl + 1 : Nat) : Int) = (sl : Int) + 1 := by omega
            rw [hsi] at HC1
            go_wp2_with fail
            refine (unhide HC1).mono ?_
            rintro e w7 ⟨rfl, hb7⟩
            have HB7 := hide ((unhide HB6).trans (hb7.mono (unhide HB6).size))
            clear hb7
            go_wp2
            go_ret2
            first
            | exact ⟨rfl, ((Ck.Bx.of (unhide HB4)).trans (unhide HX5)).trans (Ck.Bx.of (unhide HB7)), fun _ => (unhide HT6).below (unhide HB7)⟩
            | exact ⟨rfl, ((Ck.Bx.of (unhide HB4)).trans (unhide HX5)).trans (Ck.Bx.of (unhide HB7)), (unhide HT6).below (unhide HB7)⟩
          · have HC1 := hide (unhide HC (sl + 0) (by omega) _ _ _ (unhide HB4) (unhide HX5) (unhide HB6))
            simp only [if_true] at hE
            rw [hE] at HC1
            rw [Nat.add_zero] at HC1
            clear HC hE
            go_wp2_with fail
            refine (unhide HC1).mono ?_
            rintro e w7 ⟨rfl, hb7⟩
            have HB7 := hide ((unhide HB6).trans (hb7.mono (unhide HB6).size))
            clear hb7
            go_wp2
            go_ret2
            first
            | exact ⟨rfl, ((Ck.Bx.of (unhide HB4)).trans (unhide HX5)).trans (Ck.Bx.of (unhide HB7)), fun _ => (unhide HT6).below (unhide HB7)⟩
            | exact ⟨rfl, ((Ck.Bx.of (unhide HB4)).trans (unhide HX5)).trans (Ck.Bx.of (unhide HB7)), (unhide HT6).below (unhide HB7)⟩
        · have hE := unhide HE
          simp at hE
          subst hE
          clear HE HL HC
          go_wp2
          go_ret2
          first
          | exact ⟨rfl, (Ck.Bx.of (unhide HB4)).trans (unhide HX5), fun h => by cases h⟩
          | exact ⟨rfl, (Ck.Bx.of (unhide HB4)).trans (unhide HX5)⟩
      · have hE := unhide HE
        rw [if_pos rfl] at hE
        subst hE
        clear HE HL HC
        go_wp2
        go_ret2
        first
        | exact ⟨rfl, (Ck.Bx.of (unhide HB4)).trans (unhide HX5), fun h => by cases h⟩
        | exact ⟨rfl, (Ck.Bx.of (unhide HB4)).trans (unhide HX5)⟩
    · have hE := unhide HE
      rw [if_pos rfl] at hE
      subst hE
      clear HE HL HC HA
      go_wp2_with fail
      refine (unhide HG _ (unhide HB3)).mono ?_
      rintro e w4 ⟨rfl, hb4⟩
      have HB4 := hide ((unhide HB3).trans (hb4.mono (unhide HB3).size))
      clear hb4
      go_wp2
      go_ret2
      first
      | exact ⟨rfl, Ck.Bx.of (unhide HB4), fun h => by cases h⟩
      | exact ⟨rfl, Ck.Bx.of (unhide HB4)⟩
  · rw [decide_eq_false h0] at n0
    have hE := unhide HE
    rw [if_neg h0] at hE
    have H0 := hide h0
    clear HE HL HC HA HG h0
    subst hE
    go_wp2
    go_ret2
    exact ⟨rfl, Ck.Bx.of (unhide HB3), fun h => absurd (by exact_mod_cast h) (unhide H0)⟩
end Go.Proofs.YtddhlphbbiihjaaGreatDoor.Cl
