/-
  ClassChecks: the reference looks at the class itself.
  ClassChecks: the reference looks at the class itself.
-/
import Derived.Test.YtddhlphbbiihjaaGreatDoorFe
import Derived.Test.YtddhlphbbiihjaaGreatDoorEj
import Derived.Test.YtddhlphbbiihjaaGreatDoorDz
set_option linter.unusedVariables false
set_option linter.unusedSimpArgs false
namespace Go.Proofs.YtddhlphbbiihjaaGreatDoor.Cl
open Go.RowKit Go.Maps Kn
/-- Nothing is wrong with the constants. -/
def AllOk (P : List K) : Prop := ∀ x ∈ P, conE P x = 0
theorem cons_all (P : List K) : ∀ (l : List K) (k : Nat), (consE P k l).1 = 0 → ∀ x ∈ l, conE P x = 0
  | [], _, _, x, hx => by cases hx
  | c :: l, k, h, x, hx => by
    unfold consE at h
    by_cases hc : conE P c = 0
    · rw [if_pos hc] at h
      rcases List.mem_cons.1 hx with rfl | hx
      · exact hc
      · exact cons_all P l (k + 1) h x hx
    · rw [if_neg hc] at h; exact absurd h hc
theorem kAt_mem {P : List K} {i : Int} {t : Nat} (h : M.tag P i = t) (ht : t ≠ 0) : M.kAt P i ∈ P := by
  obtain ⟨k, rfl, hk0, hk⟩ := tag_in h ht
  rw [kAt_in hk0 hk, getD_at _ _ hk]; exact List.getElem_mem _
theorem AllOk.cls {P : List K} (h : AllOk P) {i : Int} (hi : M.tag P i = 7) : isT P (M.kAt P i).a = true ∧ classB (M.cls P i) = true := by
  have h1 := h _ (kAt_mem hi (by decide))
  have ht : (M.kAt P i).tag = 7 := hi
  unfold conE at h1
  rw [if_pos ht] at h1
  have hcl : M.cls P i = M.text P (M.kAt P i).a := by unfold M.cls; rw [if_pos hi]
  rw [hcl]
  by_cases h2 : isT P (M.kAt P i).a = true
  · rw [if_pos h2] at h1
    refine ⟨h2, ?_⟩
    by_cases h3 : classB (M.text P (M.kAt P i).a) = true
    · exact h3
    · rw [if_neg h3] at h1; cases h1
  · rw [if_neg h2] at h1; cases h1
theorem AllOk.clf {P : List K} (h : AllOk P) (i : Int) : clf P i = decide (M.tag P i = 7) := by
  unfold Cl.clf
  by_cases hi : M.tag P i = 7
  · rw [(h.cls hi).1]; simp
  · rw [decide_eq_false hi]; rfl
/-- A name of a class that is no array. -/
def plainB (l : List UInt8) : Bool := match l with
  | [] => false
  | a :: _ => decide (a ≠ 91)
theorem plain_pre (l : List UInt8) (h : l ≠ []) : plainB l = ![(91 : UInt8)].isPrefixOf l := by
  cases l with
  | nil => exact absurd rfl h
  | cons a t =>
    unfold plainB
    rw [List.isPrefixOf]
    simp [List.isPrefixOf]
    by_cases ha : a = 91
    · subst ha; simp
    · have : ¬ (91 : UInt8) = a := fun e => ha e.symm
      simp [ha, this]
theorem classB_ne {l : List UInt8} (h : classB l = true) : l ≠ [] := by
  rintro rfl
  revert h
  decide
theorem pcl_of {P : List K} (h : AllOk P) (x : Nat) : pclE P x = fst1 [if Cl.clf P x then 0 else 7, if plainB (M.cls P x) then 0 else 8] := by
  unfold pclE fst1
  by_cases hc : Cl.clf P x = true
  · have hi : M.tag P x = 7 := by
      unfold Cl.clf at hc
      simp at hc
      exact hc.1
    rw [if_pos hc, if_pos hc, if_pos rfl, plain_pre _ (classB_ne (h.cls hi).2)]
    generalize [(91 : UInt8)].isPrefixOf (M.cls P x) = b
    cases b <;> rfl
  · rw [if_neg hc, if_neg hc]; rfl
theorem u8_ne (a : UInt8) : ((a.toNat : Int) != 91) = decide (a ≠ 91) := by
  by_cases h : a = 91
  · subst h; decide
  · have h1 : a.toNat ≠ 91 := fun e => h (UInt8.toNat_inj.1 (by simpa using e))
    rw [decide_eq_true h]
    simp
    omega
set_option maxRecDepth 100000 in
set_option maxHeartbeats 1000000 in
theorem plain48_any (l : List UInt8) (w : World) (hl : l.length ≤ 1048576) : Calls Tryz.prog 48 #[.string ⟨l.toArray⟩] w fun e w' => e = .returned (.bool (plainB l)) ∧ w' = w := by
  have n0 : (l == []) = decide (l = []) := lst_eq _ _
  cases l with
  | nil =>
    go_enter Tryz.func48, Tryz.ntmps48
    go_wp2
    go_ret
    exact ⟨rfl, rfl⟩
  | cons a t =>
    go_enter Tryz.func48, Tryz.ntmps48
    go_wp2
    go_ret
    exact ⟨by show Ending.returned (.bool ((a.toNat : Int) != 91)) = _; rw [u8_ne]; rfl, rfl⟩
set_option maxHeartbeats 1000000 in
theorem unless_any (b : Bool) (n : Nat) (w : World) : Calls Tryz.prog 39 #[.bool b, .int .i64 (n : Int)] w fun e w' => e = .returned (.int .i64 ((if b = true then 0 else n : Nat) : Int)) ∧ w' = w := by
  cases b
  all_goals
    go_enter Tryz.func39, Tryz.ntmps39
    go_wp2
    go_ret
    exact ⟨rfl, rfl⟩
theorem itself_plain (face b3 ok1 pl1 ok2 pl2 : Bool) (x : Nat) :
    (if fst1 [if ok1 = true then 0 else 7, if pl1 = true then 0 else 8] = 0 then (if fst1 [if ok2 = true then 0 else 7, if pl2 = true then 0 else 8] = 0 then (if (face && b3) = true then 8 else x) else fst1 [if ok2 = true then 0 else 7, if pl2 = true then 0 else 8]) else fst1 [if ok1 = true then 0 else 7, if pl1 = true then 0 else 8])
      = if fst1 [if ok1 = true then 0 else 7, if pl1 = true then 0 else 8, if ok2 = true then 0 else 7, if (pl2 && (!face || !b3)) = true then 0 else 8] = 0 then x else fst1 [if ok1 = true then 0 else 7, if pl1 = true then 0 else 8, if ok2 = true then 0 else 7, if (pl2 && (!face || !b3)) = true then 0 else 8] := by
  cases face <;> cases b3 <;> cases ok1 <;> cases pl1 <;> cases ok2 <;> cases pl2 <;> rfl
theorem has16 (f : Nat) (h : hasF f 16 = true) : hasF f 48 = true := by
  unfold hasF at h ⊢
  rw [decide_eq_true_iff] at h ⊢
  intro e
  apply h
  have : f &&& 16 = (f &&& 48) &&& 16 := by rw [Nat.and_assoc]; rfl
  rw [this, e]; rfl
/-- The names of some interfaces. -/
def nmI (P : List K) (l : List Nat) : List (List UInt8 × List UInt8) := l.map fun (x : Nat) => (M.cls P x, [])
theorem nmI_take (P : List K) (l : List Nat) (k : Nat) (hk : k < l.length) : nmI P (l.take (k + 1)) = nmI P (l.take k) ++ [(M.cls P (l.getD k 0), [])] := by
  unfold nmI; rw [List.take_add_one, List.getElem?_eq_getElem hk, getD_at _ _ hk, List.map_append]; rfl
theorem nmI_mem (P : List K) (l : List Nat) (k : Nat) (hk : k ≤ l.length) (s : List UInt8) : (nmI P (l.take k)).contains (s, []) = true ↔ ∃ j, j < k ∧ M.cls P (l.getD j 0) = s := by
  unfold nmI
  rw [List.contains_iff_mem, List.mem_map]
  constructor
  · rintro ⟨x, hx, he⟩
    obtain ⟨j, hj, rfl⟩ := List.getElem_of_mem hx
    have hj1 : j < k := by rw [List.length_take] at hj; omega
    refine ⟨j, hj1, ?_⟩
    rw [getD_at _ _ (by omega)]
    rw [List.getElem_take] at he
    exact (Prod.mk.inj he).1
  · rintro ⟨j, hj, he⟩
    refine ⟨l.getD j 0, ?_, by rw [he]⟩
    rw [getD_at _ _ (by omega)]
    exact List.mem_iff_getElem.2 ⟨j, by rw [List.length_take]; omega, by rw [List.getElem_take]⟩
end Go.Proofs.YtddhlphbbiihjaaGreatDoor.Cl
namespace Go.Proofs.YtddhlphbbiihjaaGreatDoor.Cl
open Go.RowKit Go.Maps Kn
set_option maxRecDepth 100000 in
set_option maxHeartbeats 4000000 in
theorem itself_any (kb : Nat) (c : Csi) (vp vi vf vm : Value) (L : List Mv) (w : World) (h : Qk w kb c vp vi vf vm L) (hok : c.Ok) (hs : Csm c) (hA : AllOk c.pool) (hci : Cap vi) :
    Calls Tryz.prog 14 #[.pointer (some ⟨kb, 0, none⟩)] w fun e w' => e = .returned (.int .i64 (clsE c.pool c.flags c.this c.super c.ifaces : Nat)) ∧ Below w.heap.size w w' := by
  have hpl : c.pool.length ≤ 1048576 := by have := hs.p; omega
  have hk0 := h.b.cell 0
  have hk1 := h.b.cell 1
  have hk2 := h.b.cell 2
  have hk3 := h.b.cell 3
  have hk4 := h.b.cell 4
  have hk5 := h.b.cell 5
  have hk6 := h.b.cell 6
  have hk7 := h.b.cell 7
  have hk8 := h.b.cell 8
  simp at hk0 hk1 hk2 hk3 hk4 hk5 hk6 hk7 hk8
  have HCl := hide (fun (x : Nat) (hx : x < 65536) (w1 : World) (hb1 : Below w.heap.size w w1) => class47_any kb x c vp vi vf vm L w1 (h.below hb1) hpl hx)
  have HPl := hide (fun (x : Nat) (w1 : World) => plain48_any (M.cls c.pool x) w1 (by have := hs.s.cls (x : Int); omega))
  have HO2 := hide (fun (w1 : World) (a b : Nat) => one38_any _ [a, b] (w1.alloc (.cells #[.int .i64 (a : Int), .int .i64 (b : Int)] 31)) (EIn.made w1 [a, b] #[.int .i64 (a : Int), .int .i64 (b : Int)] rfl 31) (by simp))
  have HO4 := hide (fun (w1 : World) (a b d e : Nat) => one38_any _ [a, b, d, e] (w1.alloc (.cells #[.int .i64 (a : Int), .int .i64 (b : Int), .int .i64 (d : Int), .int .i64 (e : Int)] 31)) (EIn.made w1 [a, b, d, e] #[.int .i64 (a : Int), .int .i64 (b : Int), .int .i64 (d : Int), .int .i64 (e : Int)] rfl 31) (by simp))
  have e1 : (bits BinOp.and IntKind.u16 (c.flags : Int) 512 == 512) = hasF c.flags 512 := one_bit (a := c.flags) (b := 512) 9 rfl hok.x3 (by omega)
  have e2 : (bits BinOp.and IntKind.u16 (c.flags : Int) 1024 == 1024) = hasF c.flags 1024 := one_bit (a := c.flags) (b := 1024) 10 rfl hok.x3 (by omega)
  have e3 : (bits BinOp.and IntKind.u16 (c.flags : Int) 16 == 16) = hasF c.flags 16 := one_bit (a := c.flags) (b := 16) 4 rfl hok.x3 (by omega)
  have e4 : (bits BinOp.and IntKind.u16 (c.flags : Int) 48 != 0) = hasF c.flags 48 := and_ne c.flags 48 hok.x3 (by omega)
  have x4 := hok.x4
  have x5 := hok.x5
  have HXi := hide hok.xi
  have h16 := has16 c.flags
  have hil := hs.i
  have p1 := pcl_of hA c.this
  have p2 := pcl_of hA c.super
  have HP3 := hide (fun x => pcl_of hA x)
  obtain ⟨pa, pc, rfl, _⟩ := h.c.p.ex
  obtain ⟨ia, ic, rfl, hicell⟩ := h.c.i
  obtain ⟨fa, fc, rfl, _⟩ := h.c.f
  obtain ⟨ma, mc, rfl, _⟩ := h.c.m
  have hcap : c.ifaces.length ≤ ic := hci _ _ _ rfl
  have Hicell := hide hicell
  clear hci
  generalize hr : clsE c.pool c.flags c.this c.super c.ifaces = r
  unfold clsE wcf at hr
  have n3 : (M.cls c.pool c.super == [106, 97, 118, 97, 47, 108, 97, 110, 103, 47, 79, 98, 106, 101, 99, 116]) = !decide (M.cls c.pool c.super ≠ objB) := by rw [lst_eq]; unfold objB; simp
  have Hr := hide hr
  obtain ⟨w0, hw0⟩ : ∃ w0, w0 = w.alloc (.cells #[.int .u16 (c.minor : Int), .int .u16 (c.major : Int), .int .u16 (c.flags : Int), .int .u16 (c.this : Int), .int .u16 (c.super : Int), .slice pa c.pool.length pc, .slice ia c.ifaces.length ic, .slice fa c.fields.length fc, .slice ma L.length mc] 28) := ⟨_, rfl⟩
  have hb0 : Below w.heap.size w w0 := by rw [hw0]; exact (Below.refl _ _).alloc (Nat.le_refl _) _
  have hb : Bk w0 w.heap.size #[.int .u16 (c.minor : Int), .int .u16 (c.major : Int), .int .u16 (c.flags : Int), .int .u16 (c.this : Int), .int .u16 (c.super : Int), .slice pa c.pool.length pc, .slice ia c.ifaces.length ic, .slice fa c.fields.length fc, .slice ma L.length mc] 28 := by rw [hw0]; exact Bk.new _ _ _
  have b2 := hb.cell 2
  have b3 := hb.cell 3
  have b4 := hb.cell 4
  simp at b2 b3 b4
  have HBk := hide hb
  have HB0 := hide hb0
  clear hr h hok hs hA hicell hb hb0
  go_enter Tryz.func14, Tryz.ntmps14
  go_upto_region 2 with fail
  rw [← hw0]
  clear hw0 hk0 hk1 hk2 hk3 hk4 hk5 hk6 hk7 hk8
  generalize hasF c.flags 512 = face at *
  generalize hasF c.flags 1024 = abst at *
  generalize hasF c.flags 16 = fin at *
  generalize hasF c.flags 48 = f48 at *
  obtain ⟨bad, hbad⟩ : ∃ bad, bad = (if face = true then !abst || f48 else abst && fin) := ⟨_, rfl⟩
  go_upto_region 4 with go_in
  go_cut [51] from 30 to 51 (fun v51 wx => v51 = .bool bad ∧ w0 = wx)
  case first =>
    clear Hr p1 p2 n3
    cases bad <;> cases face <;> cases abst <;> cases f48 <;> cases fin
    all_goals first
      | (exfalso; revert hbad; decide)
      | exact absurd (h16 rfl) (by decide)
      | (clear hbad h16
         go_wp2_with go_in
         go_meet
         exact ⟨rfl, rfl⟩)
  case rest =>
    obtain ⟨rfl, hwx⟩ := hcut
    subst hwx
    have hE := unhide Hr
    rw [← hbad] at hE
    clear hbad h16 Hr e1 e2 e3 e4 b2
    cases bad
    · rw [if_neg (by simp)] at hE
      have HE := hide hE
      have HP1 := hide p1
      have HP2 := hide p2
      clear hE p1 p2
      go_wp2_with fail
      refine (unhide HCl _ x4 _ (unhide HB0)).mono ?_
      rintro e w1 ⟨rfl, hw1⟩
      subst w1
      go_wp2_with fail
      refine (unhide HCl _ x5 _ (unhide HB0)).mono ?_
      rintro e w1 ⟨rfl, hw1⟩
      subst w1
      generalize hok1 : Cl.clf c.pool c.this = ok1 at *
      generalize hok2 : Cl.clf c.pool c.super = ok2 at *
      have HPa := hide (fun w1 => unhide HPl c.this w1)
      have HPb := hide (fun w1 => unhide HPl c.super w1)
      generalize hpl1 : plainB (M.cls c.pool c.this) = pl1 at *
      generalize hpl2 : plainB (M.cls c.pool c.super) = pl2 at *
      generalize hb3 : decide (M.cls c.pool c.super ≠ objB) = b3 at *
      obtain ⟨u1, hu1⟩ : ∃ u1 : Nat, u1 = if ok1 = true then 0 else 7 := ⟨_, rfl⟩
      obtain ⟨u2, hu2⟩ : ∃ u2 : Nat, u2 = if pl1 = true then 0 else 8 := ⟨_, rfl⟩
      obtain ⟨u3, hu3⟩ : ∃ u3 : Nat, u3 = if ok2 = true then 0 else 7 := ⟨_, rfl⟩
      obtain ⟨u4, hu4⟩ : ∃ u4 : Nat, u4 = if (pl2 && (!face || !b3)) = true then 0 else 8 := ⟨_, rfl⟩
      have H1 : Hid (∀ w1 : World, Calls Tryz.prog 39 #[.bool ok1, .int .i64 7] w1 fun e w' => e = .returned (.int .i64 (u1 : Int)) ∧ w' = w1) := hide (fun w1 => by rw [hu1]; exact unless_any ok1 7 w1)
      have H2 : Hid (∀ w1 : World, Calls Tryz.prog 39 #[.bool pl1, .int .i64 8] w1 fun e w' => e = .returned (.int .i64 (u2 : Int)) ∧ w' = w1) := hide (fun w1 => by rw [hu2]; exact unless_any pl1 8 w1)
      have H3 : Hid (∀ w1 : World, Calls Tryz.prog 39 #[.bool ok2, .int .i64 7] w1 fun e w' => e = .returned (.int .i64 (u3 : Int)) ∧ w' = w1) := hide (fun w1 => by rw [hu3]; exact unless_any ok2 7 w1)
      have HU := hide (And.intro hu1 (And.intro hu2 hu3))
      have HU4 := hide hu4
      clear hok1 hok2 hpl1 hpl2 hb3 hu1 hu2 hu3 hu4
      go_upto_region 8 with fail
      go_cut [10] from 66 to 86 (fun v10 wx => v10 = .int .i64 ((fst1 [u1, u2, u3, u4] : Nat) : Int) ∧ ∃ wy, wy = wx ∧ Below w0.heap.size w0 wy)
      case first =>
        clear HE HP1 HP2 HP3
        cases pl2 <;> cases face <;> cases b3
        all_goals
          have hu4' := unhide HU4
          simp at hu4'
          subst hu4'
          go_wp2_with (first | (first | (go_at_call_of 39 (Value.bool ok1); refine (unhide H1 _).mono ?_; rintro e w1 ⟨rfl, hw1⟩; subst w1; clear H1) | (go_at_call_of 39 (Value.bool pl1); refine (unhide H2 _).mono ?_; rintro e w1 ⟨rfl, hw1⟩; subst w1; clear H2) | (go_at_call_of 39 (Value.bool ok2); refine (unhide H3 _).mono ?_; rintro e w1 ⟨rfl, hw1⟩; subst w1; clear H3)) | (first | (go_at_call_of 48 (M.cls c.pool (c.this : Int)); refine (unhide HPa _).mono ?_; rintro e w1 ⟨rfl, hw1⟩; subst w1; clear HPa) | (go_at_call_of 48 (M.cls c.pool (c.super : Int)); refine (unhide HPb _).mono ?_; rintro e w1 ⟨rfl, hw1⟩; subst w1; clear HPb)) | (go_at_call 38; refine (unhide HO4 _ u1 u2 u3 _).mono ?_; rintro e w3 ⟨rfl, hw3⟩; subst w3) | go_in)
          go_meet
          exact ⟨rfl, _, rfl, (Below.refl _ _).alloc (Nat.le_refl _) _⟩
      case rest =>
        obtain ⟨rfl, wy, hwy, hb1⟩ := hcut
        subst hwy
        have hE := unhide HE
        rw [unhide HP1, unhide HP2, itself_plain] at hE
        have hu := unhide HU
        rw [← hu.1, ← hu.2.1, ← hu.2.2, ← unhide HU4] at hE
        clear hu HU HU4 HE HP1 HP2 H1 H2 H3 HPa HPb HO4 x4 x5 n3
        generalize fst1 [u1, u2, u3, u4] = E at *
        have n1 := nat_ne0 E
        have HBy := hide ((unhide HB0).trans (hb1.mono (unhide HB0).size))
        have b6 := ((unhide HBk).below hb1).cell 6
        simp at b6
        have HBky := hide ((unhide HBk).below hb1)
        clear hb1 b4
        by_cases he : E = 0
        · rw [decide_eq_true he, Bool.not_true] at n1
          rw [if_pos he] at hE
          have HE := hide hE
          clear hE he
          go_wp2_with fail
          go_loopw [92] (fun i wr => ∃ k : Nat, k ≤ c.ifaces.length ∧ i = .int .i64 k ∧ Below wy.heap.size wy wr ∧ Hid (ifE c.pool (nmI c.pool (c.ifaces.take k)) (c.ifaces.drop k) = r)) (fun i _ => c.ifaces.length - (intOf i).toNat)
          case atStart => exact ⟨0, Nat.zero_le _, rfl, Below.refl _ _, HE⟩
          case round =>
            obtain ⟨k, hk, rfl, hbr, Hno⟩ := hrel
            by_cases hlt : k < c.ifaces.length
            · have hne : c.ifaces ≠ [] := by intro e; rw [e] at hlt; simp at hlt
              obtain ⟨b, o, rfl, hc⟩ := unhide Hicell hne
              have hbW := (unhide HBy).trans (hbr.mono (unhide HBy).size)
              have HcW : Hid (∀ j, j < c.ifaces.length → ∀ w9 : World, Below w.heap.size w w9 → w9.cell? ⟨b, o + j, none⟩ = some (.int .u16 ((c.ifaces.getD j 0 : Nat) : Int))) := hide (fun j hj w9 hb9 => by
                have h1 : w.cell? ⟨b, o + j, none⟩ = some (.int .u16 ((c.ifaces.getD j 0 : Nat) : Int)) := by simpa [Uc] using hc j hj 0 (by omega)
                rw [hb9.cell (cell_lt h1)]; exact h1)
              have hck := unhide HcW k hlt wr hbW
              have HXj := hide (fun j (hj : j < c.ifaces.length) => show c.ifaces.getD j 0 < 65536 from by rw [getD_at _ _ hj]; exact unhide HXi _ (List.getElem_mem _))
              have hxk := unhide HXj k hlt
              have hd := ifE_drop c.pool (nmI c.pool (c.ifaces.take k)) c.ifaces k hlt
              rw [unhide Hno, unhide HP3 (c.ifaces.getD k 0)] at hd
              have hmem := nmI_mem c.pool c.ifaces k hk (M.cls c.pool (c.ifaces.getD k 0))
              have htk := nmI_take c.pool c.ifaces k hlt
              have HM := hide hmem
              have HT := hide htk
              have HCx := hide (unhide HCl (c.ifaces.getD k 0) hxk wr hbW)
              have HPx := hide (fun w1 => unhide HPl (c.ifaces.getD k 0) w1)
              have HBW := hide hbW
              have b6 := ((unhide HBky).below hbr).cell 6
              simp at b6
              have HBr := hide hbr
              have Hd := hide hd
              clear hc hne hd hmem htk hbr hbW Hno
              obtain ⟨x, hx⟩ : ∃ x, x = c.ifaces.getD k 0 := ⟨_, rfl⟩
              rw [← hx] at hck Hd HM HT HCx HPx hxk
              clear hx
              generalize hs0 : M.cls c.pool (x : Int) = s at *
              generalize hok1 : Cl.clf c.pool (x : Int) = ok at *
              generalize hpl1 : plainB s = pl at *
              obtain ⟨v1, hv1⟩ : ∃ v1 : Nat, v1 = if ok = true then 0 else 7 := ⟨_, rfl⟩
              obtain ⟨v2, hv2⟩ : ∃ v2 : Nat, v2 = if pl = true then 0 else 8 := ⟨_, rfl⟩
              have H1 : Hid (∀ w1 : World, Calls Tryz.prog 39 #[.bool ok, .int .i64 7] w1 fun e w' => e = .returned (.int .i64 (v1 : Int)) ∧ w' = w1) := hide (fun w1 => by rw [hv1]; exact unless_any ok 7 w1)
              have H2 : Hid (∀ w1 : World, Calls Tryz.prog 39 #[.bool pl, .int .i64 8] w1 fun e w' => e = .returned (.int .i64 (v2 : Int)) ∧ w' = w1) := hide (fun w1 => by rw [hv2]; exact unless_any pl 8 w1)
              have hd := unhide Hd
              rw [← hv1, ← hv2] at hd
              clear hs0 hok1 hpl1 hv1 hv2 Hd
              have hF := hide (unhide HO2 wr v1 v2)
              generalize fst1 [v1, v2] = F at *
              have n2 := nat_ne0 F
              go_wp2_with fail
              refine (unhide HCx).mono ?_
              rintro e w1 ⟨rfl, hw1⟩
              subst w1
              clear HCx hck
              go_wp2_with fail
              refine (unhide H1 _).mono ?_
              rintro e w1 ⟨rfl, hw1⟩
              subst w1
              clear H1
              go_wp2_with fail
              refine (unhide HPx _).mono ?_
              rintro e w1 ⟨rfl, hw1⟩
              subst w1
              clear HPx
              go_wp2_with fail
              refine (unhide H2 _).mono ?_
              rintro e w1 ⟨rfl, hw1⟩
              subst w1
              clear H2
              go_wp2_with fail
              refine (unhide hF).mono ?_
              rintro e w1 ⟨rfl, hw1⟩
              subst hw1
              clear hF
              obtain ⟨w2, hw2⟩ : ∃ w2, w2 = wr.alloc (.cells #[.int .i64 (v1 : Int), .int .i64 (v2 : Int)] 31) := ⟨_, rfl⟩
              have hbr2 : Below wy.heap.size wy w2 := by rw [hw2]; exact (unhide HBr).alloc (unhide HBr).size _
              rw [← hw2]
              clear hw2 b6
              have b6 := ((unhide HBky).below hbr2).cell 6
              simp at b6
              have HBr2 := hide hbr2
              have HBW2 := hide ((unhide HBy).trans (hbr2.mono (unhide HBy).size))
              clear hbr2 HBr HBW
              by_cases hF0 : F = 0
              · rw [decide_eq_true hF0, Bool.not_true] at n2
                rw [if_pos hF0] at hd
                have Hd := hide hd
                have hki : (k : Int) ≤ (ic : Int) := by omega
                clear hd hF0
                go_wp2_with fail
                go_loopw [118] (fun i wz => ∃ j : Nat, j ≤ k ∧ i = .int .i64 j ∧ w2 = wz ∧ Hid (∀ m, m < j → M.cls c.pool (c.ifaces.getD m 0) ≠ s)) (fun i _ => k - (intOf i).toNat)
                case atStart => exact ⟨0, Nat.zero_le _, rfl, rfl, hide (fun m hm => by omega)⟩
                case round =>
                  obtain ⟨j, hj, rfl, hwz, Hn⟩ := hrel
                  subst hwz
                  by_cases hlt2 : j < k
                  · have hcj := unhide HcW j (by omega) w2 (unhide HBW2)
                    have HCj := hide (unhide HCl (c.ifaces.getD j 0) (unhide HXj j (by omega)) w2 (unhide HBW2))
                    have Hnj : Hid (M.cls c.pool (c.ifaces.getD j 0) ≠ s → ∀ m, m < j + 1 → M.cls c.pool (c.ifaces.getD m 0) ≠ s) := hide (fun h m hm => by
                      rcases Nat.lt_or_ge m j with h1 | h1
                      · exact unhide Hn m h1
                      · obtain rfl : m = j := by omega
                        exact h)
                    have Hex : Hid (M.cls c.pool (c.ifaces.getD j 0) = s → (nmI c.pool (c.ifaces.take k)).contains (s, []) = true) := hide (fun h => (unhide HM).2 ⟨j, hlt2, h⟩)
                    generalize c.ifaces.getD j 0 = y at *
                    generalize hty : M.cls c.pool (y : Int) = ty at *
                    generalize Cl.clf c.pool (y : Int) = oky at *
                    have nq : (s == ty) = decide (s = ty) := lst_eq _ _
                    have hji : (j : Int) < (k : Int) := by omega
                    clear hty
                    by_cases heq : s = ty
                    · rw [decide_eq_true heq] at nq
                      have hE := unhide Hd
                      rw [if_pos (unhide Hex heq.symm)] at hE
                      subst hE
                      clear heq Hd Hn Hnj Hex
                      go_wp2_with fail
                      refine (unhide HCj).mono ?_
                      rintro e w9 ⟨rfl, hw9⟩
                      subst hw9
                      go_wp2
                      go_ret
                      exact ⟨rfl, unhide HBW2⟩
                    · rw [decide_eq_false heq] at nq
                      have Hn2 := hide (unhide Hnj (fun h => heq h.symm))
                      clear heq Hn Hnj Hex
                      go_wp2_with fail
                      refine (unhide HCj).mono ?_
                      rintro e w9 ⟨rfl, hw9⟩
                      subst w9
                      go_wp2
                      go_roundw
                      case rel => exact ⟨j + 1, by omega, by go_num, trivial, Hn2⟩
                      case measure => simp [intOf]; omega
                  · obtain rfl : j = k := by omega
                    have hnc : ¬ (nmI c.pool (c.ifaces.take j)).contains (s, []) = true := fun h => by
                      obtain ⟨m, hm, he⟩ := (unhide HM).1 h
                      exact unhide Hn m hm he
                    have hE := unhide Hd
                    rw [if_neg hnc, told_snoc (by simpa using hnc), ← unhide HT] at hE
                    have HE2 := hide hE.symm
                    clear hE hnc Hd Hn
                    go_wp2
                    go_roundw
                    case rel => exact ⟨j + 1, by omega, by go_num, unhide HBr2, HE2⟩
                    case measure => simp [intOf]; omega
              · rw [decide_eq_false hF0, Bool.not_false] at n2
                rw [if_neg hF0] at hd
                subst hd
                clear hF0
                go_wp2
                go_ret
                exact ⟨rfl, unhide HBW2⟩
            · have hkl : k = c.ifaces.length := by omega
              have hE : 0 = r := by have h := unhide Hno; rw [hkl, List.drop_length] at h; exact h
              subst hE
              subst hkl
              clear Hno
              have hbW := (unhide HBy).trans (hbr.mono (unhide HBy).size)
              have HBW := hide hbW
              clear hbW hbr
              go_wp2
              go_ret
              exact ⟨rfl, unhide HBW⟩
        · rw [decide_eq_false he, Bool.not_false] at n1
          rw [if_neg he] at hE
          subst hE
          clear he
          go_wp2
          go_ret
          exact ⟨rfl, unhide HBy⟩
    · rw [if_pos rfl] at hE
      subst hE
      clear p1 p2
      go_wp2
      go_ret
      exact ⟨rfl, unhide HB0⟩
end Go.Proofs.YtddhlphbbiihjaaGreatDoor.Cl
