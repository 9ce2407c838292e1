/-
  ClassChecks: the program's checker; texts and classes of a pool, with what was found.
  ClassChecks: the flags of the program.
  ClassChecks: the program's names.
  ClassChecks: the program's names: plainClass, signature, wrongField, wrongMethod, valueTags.
-/
import Derived.Test.YtddhlphbbiihjaaGreatDoorDa
import Derived.Test.YtddhlphbbiihjaaGreatDoorMgRef
import Derived.Test.YtddhlphbbiihjaaGreatDoorDesc
import Derived.Test.YtddhlphbbiihjaaGreatDoorWm
import Derived.DeepKeys4
set_option linter.unusedVariables false
set_option linter.unusedSimpArgs false
namespace Go.Proofs.YtddhlphbbiihjaaGreatDoor.Cl
open Go.RowKit Go.Maps Kn
/-- Does an index lead to a text? -/
def isT (P : List K) (i : Int) : Bool := decide (M.tag P i = 1)
/-- Does an index lead to a class that has a name? -/
def clf (P : List K) (i : Int) : Bool := decide (M.tag P i = 7) && isT P ((M.kAt P i).a : Int)
set_option maxHeartbeats 1000000 in
theorem PClass_any (v : Value) (P : List K) (i : Int) (w : World) (h : KIn w v P) (hP : P.length ≤ 1048576) :
    Calls Tryz.prog 60 #[v, .int .i64 i] w fun e w' => e = .returned (.tuple #[.string ⟨(M.cls P i).toArray⟩, .bool (clf P i)]) ∧ Below w.heap.size w w' := by
  have hb0 := (Below.refl w.heap.size w).alloc (Nat.le_refl _) (.cells #[.int .u8 7] 5)
  have HH := hide (Has_any v _ P [7] i (w.alloc (.cells #[.int .u8 7] 5)) (h.below hb0) hP (UIn.made w 7) (by simp))
  rw [contains_one] at HH
  have HA := hide (fun (w1 : World) (hb : Below w.heap.size w w1) => KAt_any v P i w1 (h.below hb) hP)
  have HT := hide (fun (j : Int) (w1 : World) (hb : Below w.heap.size w w1) => Text_any v P j w1 (h.below hb) hP)
  have hca := (h.at_fit i).2.1
  obtain ⟨ad, cap, ev, _⟩ := h.ex
  subst ev
  unfold M.cls clf isT
  by_cases ht : M.tag P i = 7
  · rw [if_pos ht, decide_eq_true ht, Bool.true_and]
    rw [decide_eq_true ht] at HH
    generalize M.kAt P i = c at *
    clear ht
    go_enter Tryz.func60, Tryz.ntmps60
    go_wp2_with fail
    refine (unhide HH).mono ?_
    rintro e w1 ⟨rfl, hb1⟩
    have hb2 := hb0.trans (hb1.mono hb0.size)
    clear HH hb0 hb1
    go_wp2_with fail
    refine (unhide HA _ hb2).mono ?_
    rintro e w2 ⟨rfl, hb3⟩
    have hb4 := hb2.trans (hb3.mono hb2.size)
    have hfd := fldA c
    clear HA hb2 hb3
    unfold K.val K.cells
    go_wp2_with fail
    refine (unhide HT _ _ hb4).mono ?_
    rintro e w3 ⟨rfl, hb5⟩
    have hb6 := hb4.trans (hb5.mono hb4.size)
    clear HT hb4 hb5
    go_wp2
    go_ret2
    exact ⟨rfl, hb6⟩
  · rw [if_neg ht, decide_eq_false ht, Bool.false_and]
    rw [decide_eq_false ht] at HH
    clear ht HA HT
    go_enter Tryz.func60, Tryz.ntmps60
    go_wp2_with fail
    refine (unhide HH).mono ?_
    rintro e w1 ⟨rfl, hb1⟩
    have hb2 := hb0.trans (hb1.mono hb0.size)
    clear HH hb0 hb1
    go_wp2
    go_ret2
    exact ⟨rfl, hb2⟩
set_option maxHeartbeats 1000000 in
theorem QString_any (v : Value) (P : List K) (i : Int) (w : World) (h : KIn w v P) (hP : P.length ≤ 1048576) :
    Calls Tryz.prog 70 #[v, .int .i64 i] w fun e w' => e = .returned (.tuple #[.string ⟨(M.text P i).toArray⟩, .bool (isT P i)]) ∧ w' = w := by
  have HI := hide (Is_any v P i 1 w h hP (by decide))
  unfold M.text isT
  by_cases ht : M.tag P i = 1
  · rw [if_pos ht, decide_eq_true ht]
    rw [decide_eq_true ht] at HI
    obtain ⟨k, rfl, hk0, hk⟩ := tag_in ht (by decide)
    obtain ⟨b, o, cap, rfl⟩ := h.form (by intro e; subst e; simp at hk)
    obtain ⟨c0, c1, c2, c3, c4⟩ := h.at hk
    rw [kAt_in hk0 hk]
    generalize P.getD k K.zero = c at *
    clear h ht c0 c2 c3 c4
    go_enter Tryz.func70, Tryz.ntmps70
    go_wp2_with fail
    refine (unhide HI).mono ?_
    rintro e w1 ⟨rfl, hw⟩
    subst w1
    go_wp2
    go_ret2
    exact ⟨rfl, rfl⟩
  · rw [if_neg ht, decide_eq_false ht]
    rw [decide_eq_false ht] at HI
    obtain ⟨ad, cap, rfl, _⟩ := h.ex
    clear ht
    go_enter Tryz.func70, Tryz.ntmps70
    go_wp2_with fail
    refine (unhide HI).mono ?_
    rintro e w1 ⟨rfl, hw⟩
    subst w1
    go_wp2
    go_ret2
    exact ⟨rfl, rfl⟩
set_option maxHeartbeats 1000000 in
theorem QClassOf_any (v : Value) (P : List K) (i : Int) (w : World) (h : KIn w v P) (hP : P.length ≤ 1048576) :
    Calls Tryz.prog 74 #[v, .int .i64 i] w fun e w' => e = .returned (.tuple #[.string ⟨(M.cls P i).toArray⟩, .bool (clf P i)]) ∧ w' = w := by
  have HI := hide (Is_any v P i 7 w h hP (by decide))
  have HS := hide (fun j : Int => QString_any v P j w h hP)
  have hca := (h.at_fit i).2.1
  unfold M.cls clf
  by_cases ht : M.tag P i = 7
  · rw [if_pos ht, decide_eq_true ht, Bool.true_and]
    rw [decide_eq_true ht] at HI
    obtain ⟨k, rfl, hk0, hk⟩ := tag_in ht (by decide)
    obtain ⟨b, o, cap, rfl⟩ := h.form (by intro e; subst e; simp at hk)
    obtain ⟨c0, c1, c2, c3, c4⟩ := h.at hk
    rw [kAt_in hk0 hk] at hca ⊢
    generalize P.getD k K.zero = c at *
    clear h ht c0 c2 c1 c4
    go_enter Tryz.func74, Tryz.ntmps74
    go_wp2_with fail
    refine (unhide HI).mono ?_
    rintro e w1 ⟨rfl, hw⟩
    subst w1
    go_wp2_with fail
    refine (unhide HS _).mono ?_
    rintro e w1 ⟨rfl, hw⟩
    subst w1
    go_wp2
    go_ret2
    exact ⟨rfl, rfl⟩
  · rw [if_neg ht, decide_eq_false ht, Bool.false_and]
    rw [decide_eq_false ht] at HI
    obtain ⟨ad, cap, rfl, _⟩ := h.ex
    clear ht HS
    go_enter Tryz.func74, Tryz.ntmps74
    go_wp2_with fail
    refine (unhide HI).mono ?_
    rintro e w1 ⟨rfl, hw⟩
    subst w1
    go_wp2
    go_ret2
    exact ⟨rfl, rfl⟩
/-- The checker: its pool, the flags of the class. -/
structure Kc (w : World) (cb : Nat) (pv : Value) (P : List K) (fl : Nat) : Prop where
  p : w.cell? ⟨cb, 0, none⟩ = some pv
  f : w.cell? ⟨cb, 1, none⟩ = some (.int .u16 (fl : Int))
  k : KIn w pv P
  mx : Mx w
theorem Kc.below {w w' : World} {cb : Nat} {pv : Value} {P : List K} {fl : Nat} (h : Kc w cb pv P fl) (hb : Below w.heap.size w w') : Kc w' cb pv P fl :=
  ⟨by rw [hb.cell (cell_lt h.p)]; exact h.p, by rw [hb.cell (cell_lt h.f)]; exact h.f, h.k.below hb, h.mx.below hb⟩
/-- Have two numbers a flag in common? -/
def hasF (a b : Nat) : Bool := decide (a &&& b ≠ 0)
theorem and_ne (a b : Nat) (ha : a < 65536) (hb : b < 65536) : (bits BinOp.and IntKind.u16 (a : Int) (b : Int) != 0) = hasF a b := by
  rw [u16_and_nat a b ha hb]; unfold hasF; rw [Bool.eq_iff_iff]; simp
end Go.Proofs.YtddhlphbbiihjaaGreatDoor.Cl
namespace Go.Proofs.YtddhlphbbiihjaaGreatDoor.Cl
open Go.RowKit Go.Maps Kn
/-- Is more than one of the three kinds of access told? -/
def more (f : Nat) : Bool := !(f % 8 == 0 || f % 8 == 1 || f % 8 == 2 || f % 8 == 4)
theorem and7 (f : Nat) : f &&& 7 = f % 8 := Nat.and_two_pow_sub_one_eq_mod f 3
set_option maxHeartbeats 2000000 in
set_option maxRecDepth 100000 in
theorem ones_any (x : Nat) (hx : x < 8) (w : World) : Calls Tryz.prog 84 #[.int .u16 (x : Int)] w fun e w' => e = .returned (.int .i64 (([0, 1, 1, 2, 1, 2, 2, 3].getD x 0 : Nat) : Int)) ∧ w' = w.drew := by
  obtain rfl | rfl | rfl | rfl | rfl | rfl | rfl | rfl : x = 0 ∨ x = 1 ∨ x = 2 ∨ x = 3 ∨ x = 4 ∨ x = 5 ∨ x = 6 ∨ x = 7 := by omega
  · have hb : bits BinOp.and IntKind.u16 0 255 = 0 := by decide +kernel
    go_enter Tryz.func84, Tryz.ntmps84
    go_wp2
    go_region
    go_wp2
    go_ret
    exact ⟨rfl, rfl⟩
  · have hb : bits BinOp.and IntKind.u16 1 255 = 1 := by decide +kernel
    go_enter Tryz.func84, Tryz.ntmps84
    go_wp2
    go_region
    go_wp2
    go_ret
    exact ⟨rfl, rfl⟩
  · have hb : bits BinOp.and IntKind.u16 2 255 = 2 := by decide +kernel
    go_enter Tryz.func84, Tryz.ntmps84
    go_wp2
    go_region
    go_wp2
    go_ret
    exact ⟨rfl, rfl⟩
  · have hb : bits BinOp.and IntKind.u16 3 255 = 3 := by decide +kernel
    go_enter Tryz.func84, Tryz.ntmps84
    go_wp2
    go_region
    go_wp2
    go_ret
    exact ⟨rfl, rfl⟩
  · have hb : bits BinOp.and IntKind.u16 4 255 = 4 := by decide +kernel
    go_enter Tryz.func84, Tryz.ntmps84
    go_wp2
    go_region
    go_wp2
    go_ret
    exact ⟨rfl, rfl⟩
  · have hb : bits BinOp.and IntKind.u16 5 255 = 5 := by decide +kernel
    go_enter Tryz.func84, Tryz.ntmps84
    go_wp2
    go_region
    go_wp2
    go_ret
    exact ⟨rfl, rfl⟩
  · have hb : bits BinOp.and IntKind.u16 6 255 = 6 := by decide +kernel
    go_enter Tryz.func84, Tryz.ntmps84
    go_wp2
    go_region
    go_wp2
    go_ret
    exact ⟨rfl, rfl⟩
  · have hb : bits BinOp.and IntKind.u16 7 255 = 7 := by decide +kernel
    go_enter Tryz.func84, Tryz.ntmps84
    go_wp2
    go_region
    go_wp2
    go_ret
    exact ⟨rfl, rfl⟩
set_option maxHeartbeats 2000000 in
theorem moreThanOne_any (x : Nat) (hx : x < 8) (w : World) : Calls Tryz.prog 61 #[.int .u16 (x : Int)] w fun e w' => e = .returned (.bool (more x)) ∧ w' = w.drew := by
  have HO := hide (ones_any x hx w)
  go_enter Tryz.func61, Tryz.ntmps61
  go_wp2_with fail
  refine (unhide HO).mono ?_
  rintro e w1 ⟨rfl, rfl⟩
  clear HO
  go_wp2
  go_ret
  refine ⟨?_, rfl⟩
  have h8 : x % 8 = x := Nat.mod_eq_of_lt hx
  unfold more
  rw [h8]
  obtain rfl | rfl | rfl | rfl | rfl | rfl | rfl | rfl : x = 0 ∨ x = 1 ∨ x = 2 ∨ x = 3 ∨ x = 4 ∨ x = 5 ∨ x = 6 ∨ x = 7 := by omega
  all_goals rfl
/-- FLAGS -/
def wcf (fl : Nat) : Bool := if hasF fl 512 then !hasF fl 1024 || hasF fl 48 else hasF fl 1024 && hasF fl 16
theorem and_nat (a b : Nat) (ha : a < 65536) (hb : b < 65536) : bits BinOp.and IntKind.u16 (a : Int) (b : Int) = ((a &&& b : Nat) : Int) := u16_and_nat a b ha hb
theorem nat_beq (a b : Nat) : ((a : Int) == (b : Int)) = decide (a = b) := by rw [Bool.eq_iff_iff]; simp; omega
theorem nat_bne (a b : Nat) : ((a : Int) != (b : Int)) = decide (a ≠ b) := by rw [Bool.eq_iff_iff]; simp; omega
set_option maxHeartbeats 2000000 in
theorem wrongClassFlags_any (cb fl : Nat) (w : World) (h : w.cell? ⟨cb, 1, none⟩ = some (.int .u16 (fl : Int))) (hf : fl < 65536) :
    Calls Tryz.prog 24 #[.pointer (some ⟨cb, 0, none⟩)] w fun e w' => e = .returned (.bool (wcf fl)) ∧ w' = w := by
  have e1 : (bits BinOp.and IntKind.u16 (fl : Int) 512 != 0) = hasF fl 512 := and_ne fl 512 hf (by omega)
  have e2 : (bits BinOp.and IntKind.u16 (fl : Int) 1024 != 0) = hasF fl 1024 := and_ne fl 1024 hf (by omega)
  have e3 : (bits BinOp.and IntKind.u16 (fl : Int) 48 != 0) = hasF fl 48 := and_ne fl 48 hf (by omega)
  have e4 : (bits BinOp.and IntKind.u16 (fl : Int) 16 != 0) = hasF fl 16 := and_ne fl 16 hf (by omega)
  unfold wcf
  generalize hasF fl 512 = x1 at *
  generalize hasF fl 1024 = x2 at *
  generalize hasF fl 48 = x3 at *
  generalize hasF fl 16 = x4 at *
  cases x1 <;> cases x2
  all_goals
    go_enter Tryz.func24, Tryz.ntmps24
    go_wp2
    go_ret
    exact ⟨rfl, rfl⟩
def wff (fl f : Nat) : Bool := if more f || decide (f &&& 80 = 80) then true else hasF fl 512 && decide (f &&& 223 ≠ 25)
theorem more_mod (f : Nat) : more (f % 8) = more f := by unfold more; rw [Nat.mod_mod]
set_option maxHeartbeats 2000000 in
theorem wrongFieldFlags_any (cb fl f : Nat) (w : World) (h : w.cell? ⟨cb, 1, none⟩ = some (.int .u16 (fl : Int))) (hf : fl < 65536) (hg : f < 65536) :
    Calls Tryz.prog 30 #[.pointer (some ⟨cb, 0, none⟩), .int .u16 (f : Int)] w fun e w' => e = .returned (.bool (wff fl f)) ∧ w' = w.drew := by
  have e1 : (bits BinOp.and IntKind.u16 (fl : Int) 512 != 0) = hasF fl 512 := and_ne fl 512 hf (by omega)
  have e2 : bits BinOp.and IntKind.u16 (f : Int) 7 = ((f % 8 : Nat) : Int) := by rw [← and7]; exact and_nat f 7 hg (by omega)
  have e3 : (bits BinOp.and IntKind.u16 (f : Int) 80 == 80) = decide (f &&& 80 = 80) := by rw [show bits BinOp.and IntKind.u16 (f : Int) 80 = _ from and_nat f 80 hg (by omega)]; exact nat_beq _ 80
  have e4 : (bits BinOp.and IntKind.u16 (f : Int) 223 != 25) = decide (f &&& 223 ≠ 25) := by rw [show bits BinOp.and IntKind.u16 (f : Int) 223 = _ from and_nat f 223 hg (by omega)]; exact nat_bne _ 25
  have HO := moreThanOne_any (f % 8) (Nat.mod_lt _ (by omega)) w
  rw [more_mod] at HO
  have HO := hide HO
  unfold wff
  generalize f % 8 = f8 at *
  generalize hasF fl 512 = x1 at *
  generalize more f = x2 at *
  generalize decide (f &&& 80 = 80) = x3 at *
  generalize decide (f &&& 223 ≠ 25) = x4 at *
  cases x1 <;> cases x2 <;> cases x3
  all_goals
    go_enter Tryz.func30, Tryz.ntmps30
    go_wp2_with fail
    refine (unhide HO).mono ?_
    rintro e w1 ⟨rfl, rfl⟩
    clear HO
    go_wp2
    go_ret
    exact ⟨rfl, rfl⟩
end Go.Proofs.YtddhlphbbiihjaaGreatDoor.Cl
namespace Go.Proofs.YtddhlphbbiihjaaGreatDoor.Cl
open Go.RowKit Go.Maps Kn
theorem str_eq (s : ByteArray) (l : List UInt8) : (s.toList == l) = decide (s.data.toList = l) := by rw [Lib.toList_data, Bool.eq_iff_iff]; simp
def wmf (fl f : Nat) (n : List UInt8) : Bool :=
  if n = clinitB then !hasF f 8 || hasF f 1280
  else if hasF fl 512 then decide (n = initB) || decide (f &&& 3391 ≠ 1025)
  else if more f then true
  else if hasF f 1024 then decide (n = initB) || !hasF fl 1024 || hasF f 314
  else if n = initB then hasF f 312 else false
set_option maxHeartbeats 4000000 in
theorem wrongMethodFlags_any (cb fl f : Nat) (s : ByteArray) (w : World) (h : w.cell? ⟨cb, 1, none⟩ = some (.int .u16 (fl : Int))) (hf : fl < 65536) (hg : f < 65536) :
    Calls Tryz.prog 34 #[.pointer (some ⟨cb, 0, none⟩), .int .u16 (f : Int), .string s] w fun e w' => e = .returned (.bool (wmf fl f s.data.toList)) ∧ Below w.heap.size w w' := by
  have hb0 := (Below.refl w.heap.size w).alloc (Nat.le_refl _) (.cells #[.int .u16 (f : Int)] 22)
  have h1 : (w.alloc (.cells #[.int .u16 (f : Int)] 22)).cell? ⟨cb, 1, none⟩ = some (.int .u16 (fl : Int)) := by rw [hb0.cell (cell_lt h)]; exact h
  have e1 : (bits BinOp.and IntKind.u16 (fl : Int) 512 != 0) = hasF fl 512 := and_ne fl 512 hf (by omega)
  have e2 : (bits BinOp.and IntKind.u16 (fl : Int) 1024 != 0) = hasF fl 1024 := and_ne fl 1024 hf (by omega)
  have g1 : (bits BinOp.and IntKind.u16 (f : Int) 8 != 0) = hasF f 8 := and_ne f 8 hg (by omega)
  have g2 : (bits BinOp.and IntKind.u16 (f : Int) 1280 != 0) = hasF f 1280 := and_ne f 1280 hg (by omega)
  have g3 : (bits BinOp.and IntKind.u16 (f : Int) 1024 != 0) = hasF f 1024 := and_ne f 1024 hg (by omega)
  have g4 : (bits BinOp.and IntKind.u16 (f : Int) 314 != 0) = hasF f 314 := and_ne f 314 hg (by omega)
  have g5 : (bits BinOp.and IntKind.u16 (f : Int) 312 != 0) = hasF f 312 := and_ne f 312 hg (by omega)
  have g6 : bits BinOp.and IntKind.u16 (f : Int) 7 = ((f % 8 : Nat) : Int) := by rw [← and7]; exact and_nat f 7 hg (by omega)
  have g7 : (bits BinOp.and IntKind.u16 (f : Int) 3391 != 1025) = decide (f &&& 3391 ≠ 1025) := by rw [show bits BinOp.and IntKind.u16 (f : Int) 3391 = _ from and_nat f 3391 hg (by omega)]; exact nat_bne _ 1025
  have HO := moreThanOne_any (f % 8) (Nat.mod_lt _ (by omega)) (w.alloc (.cells #[.int .u16 (f : Int)] 22))
  rw [more_mod] at HO
  have HO := hide HO
  have n1 : (s.toList == [60, 99, 108, 105, 110, 105, 116, 62]) = decide (s.data.toList = clinitB) := str_eq s _
  have n2 : (s.toList == [60, 105, 110, 105, 116, 62]) = decide (s.data.toList = initB) := str_eq s _
  have Hb := hide hb0
  clear hb0
  unfold wmf
  generalize hasF fl 512 = x1 at *
  generalize hasF fl 1024 = x2 at *
  generalize hasF f 8 = y1 at *
  generalize hasF f 1280 = y2 at *
  generalize hasF f 1024 = y3 at *
  generalize hasF f 314 = y4 at *
  generalize hasF f 312 = y5 at *
  generalize more f = y6 at *
  generalize decide (f &&& 3391 ≠ 1025) = y7 at *
  generalize f % 8 = f8 at *
  by_cases c1 : s.data.toList = clinitB
  · rw [if_pos c1]
    rw [decide_eq_true c1] at n1
    clear c1 HO
    cases y1
    all_goals
      go_enter Tryz.func34, Tryz.ntmps34
      go_wp2
      go_ret
      exact ⟨rfl, unhide Hb⟩
  rw [if_neg c1]
  rw [decide_eq_false c1] at n1
  cases x1
  · have Hi : Hid (decide (s.data.toList = initB) = decide (s.data.toList = initB)) := hide rfl
    have ei : ∀ a b : Bool, (if s.data.toList = initB then a else b) = (if decide (s.data.toList = initB) = true then a else b) := fun a b => by simp
    rw [ei]
    generalize decide (s.data.toList = initB) = x3 at *
    clear c1 Hi ei
    cases y6
    · cases y3 <;> cases x3 <;> cases x2
      all_goals
        go_enter Tryz.func34, Tryz.ntmps34
        go_wp2_with (first | (go_at_call 61; refine (unhide HO).mono ?_; rintro e w1 ⟨rfl, rfl⟩) | go_in)
        go_wp2
        go_ret
        exact ⟨rfl, (unhide Hb).drew⟩
    · clear n2
      go_enter Tryz.func34, Tryz.ntmps34
      go_wp2_with (first | (go_at_call 61; refine (unhide HO).mono ?_; rintro e w1 ⟨rfl, rfl⟩) | go_in)
      go_wp2
      go_ret
      exact ⟨by simp, (unhide Hb).drew⟩
  · rw [if_pos rfl]
    generalize decide (s.data.toList = initB) = x3 at *
    clear c1 HO
    cases x3
    all_goals
      go_enter Tryz.func34, Tryz.ntmps34
      go_wp2
      go_ret
      exact ⟨rfl, unhide Hb⟩
end Go.Proofs.YtddhlphbbiihjaaGreatDoor.Cl
namespace Go.Proofs.YtddhlphbbiihjaaGreatDoor.Cl
open Go.RowKit Go.Maps Kn
/-- The name of a class that is no array, and what is wrong. -/
def pclE (P : List K) (x : Nat) : Nat := if clf P x then (if [(91 : UInt8)].isPrefixOf (M.cls P x) then 8 else 0) else 7
def pclN (P : List K) (x : Nat) : List UInt8 := if pclE P x = 0 then M.cls P x else []
set_option maxHeartbeats 2000000 in
theorem plainClass_any (cb fl x : Nat) (pv : Value) (P : List K) (w : World) (h : Kc w cb pv P fl) (hP : P.length ≤ 1048576) (hx : x < 65536) :
    Calls Tryz.prog 25 #[.pointer (some ⟨cb, 0, none⟩), .int .u16 (x : Int)] w fun e w' => e = .returned (.tuple #[.string ⟨(pclN P x).toArray⟩, .int .i64 (pclE P x : Nat)]) ∧ Below w.heap.size w w' := by
  have HC := hide (PClass_any pv P x w h.k hP)
  have h0 := h.p
  have HP := hide (fun w1 : World => Tryz.strings_HasPrefix ⟨(M.cls P x).toArray⟩ ⟨#[91]⟩ w1)
  have hpre : Lib.hasPrefix (⟨(M.cls P x).toArray⟩ : ByteArray).data.toList (⟨#[91]⟩ : ByteArray).data.toList = [(91 : UInt8)].isPrefixOf (M.cls P x) := by simp [Lib.hasPrefix]
  rw [hpre] at HP
  clear hpre
  unfold pclN pclE
  generalize M.cls P x = l at *
  generalize clf P x = c at *
  generalize List.isPrefixOf [(91 : UInt8)] l = b at *
  clear h
  cases c
  · clear HP
    go_enter Tryz.func25, Tryz.ntmps25
    go_wp2_with fail
    refine (unhide HC).mono ?_
    rintro e w1 ⟨rfl, hb1⟩
    clear HC
    go_wp2
    go_ret2
    exact ⟨rfl, hb1⟩
  · cases b
    all_goals
      go_enter Tryz.func25, Tryz.ntmps25
      go_wp2_with fail
      refine (unhide HC).mono ?_
      rintro e w1 ⟨rfl, hb1⟩
      clear HC
      go_wp2_with fail
      refine (unhide HP w1).mono ?_
      rintro e w2 ⟨rfl, rfl⟩
      clear HP
      go_wp2
      go_ret2
      exact ⟨rfl, hb1⟩
theorem results_row1 {Pr : Program} {fn : Func} {p t : Tmp} {ty : TypeId} (h : fn.results = #[.cell p ty, .tmp t]) (tmps : Array Value) (w : World) (g : Nat) (tt : TypeId) (cs : Array Value) (fr : Nat × Nat) (d : TypeDesc)
    (hp : tmps.getD p undef = .pointer (some ⟨g, 0, none⟩)) (hg : w.heap[g]? = some (.cells cs tt fr))
    (hu : Pr.underlying ty = some d) (hd : (match d with | .struct _ | .array _ _ => true | _ => false) = true) (hi : (Pr.info? ty).map (·.size) = some cs.size) :
    (results fn tmps).run Pr w = .ok (.tuple #[.agg cs, tmps.getD t undef]) w := by
  have hp' : tmps[p]?.getD undef = .pointer (some ⟨g, 0, none⟩) := by simpa using hp
  simp [results, h, hp', asAddr, run_loadVar_row w g tt ty cs fr d hg hu hd hi]
/-- A name and a descriptor. -/
def sgv (a b : List UInt8) : Value := .agg #[.string ⟨a.toArray⟩, .string ⟨b.toArray⟩]
set_option maxHeartbeats 2000000 in
theorem signature_any (cb fl x y : Nat) (pv : Value) (P : List K) (w : World) (h : Kc w cb pv P fl) (hP : P.length ≤ 1048576) (hx : x < 65536) (hy : y < 65536) :
    Calls Tryz.prog 28 #[.pointer (some ⟨cb, 0, none⟩), .int .u16 (x : Int), .int .u16 (y : Int)] w fun e w' => e = .returned (.tuple #[sgv (M.text P x) (M.text P y), .bool (isT P x && isT P y)]) ∧ Below w.heap.size w w' := by
  obtain ⟨w0, hw0⟩ : ∃ w0, w0 = w.alloc (.cells #[.string ⟨#[]⟩, .string ⟨#[]⟩] 75) := ⟨_, rfl⟩
  have hb0 : Below w.heap.size w w0 := by rw [hw0]; exact (Below.refl _ _).alloc (Nat.le_refl _) _
  have hq : w0.heap[w.heap.size]? = some (.cells #[.string ⟨#[]⟩, .string ⟨#[]⟩] 75 (0, 0)) := by rw [hw0]; exact heap_alloc_new _ _
  have hsz : w.heap.size < w0.heap.size := by rw [hw0]; simp
  have HT := hide (fun (i : Int) (w1 : World) (hb : Below w0.heap.size w0 w1) => Text_any pv P i w1 ((h.below hb0).k.below hb) hP)
  have hp := (h.below hb0).p
  unfold isT
  have HB := hide hb0
  have HQ := hide hq
  have HS := hide hsz
  clear h hb0 hq hsz
  have hz : ∀ W : World, (zeroValue 75).run Tryz.prog W = .ok (.agg #[.string ⟨#[]⟩, .string ⟨#[]⟩]) W := fun W => by kernel_rfl
  go_enter Tryz.func28, Tryz.ntmps28
  go_upto_region 1 with fail
  rw [← hw0]
  clear hw0
  go_wp2_with fail
  refine (unhide HT _ w0 (Below.refl _ _)).mono ?_
  rintro e w1 ⟨rfl, hb1⟩
  have hp1 : w1.cell? ⟨cb, 0, none⟩ = some pv := by rw [hb1.cell (cell_lt hp)]; exact hp
  have HB1 := hide hb1
  clear hb1 hp
  go_wp2_with fail
  refine (unhide HT _ w1 (unhide HB1)).mono ?_
  rintro e w2 ⟨rfl, hb2⟩
  have HB2 := hide ((unhide HB1).trans (hb2.mono (unhide HB1).size))
  clear hb2 hp1 HT HB1
  have b2 : Bk w2 w.heap.size #[.string ⟨#[]⟩, .string ⟨#[]⟩] 75 := by
    unfold Bk
    rw [(unhide HB2).block _ (unhide HS)]; exact unhide HQ
  have c0 := b2.cell 0
  have c1 := b2.cell 1
  have f0 := b2.frozen 0
  have f1 := b2.frozen 1
  simp at c0 c1
  have Hb2 := hide b2
  clear b2
  generalize ht1 : decide (M.tag P (x : Int) = 1) = t1 at *
  generalize ht2 : decide (M.tag P (y : Int) = 1) = t2 at *
  have H1 := hide ht1
  have H2 := hide ht2
  clear ht1 ht2
  cases t1
  all_goals
    go_wp2
    refine bodyPost_ret (results_row1 Tryz.results28 _ _ w.heap.size 75 _ (0, 0) _ rfl (((unhide Hb2).set 0 _).set 1 _) Tryz.underlying75 rfl (by kernel_rfl)) rfl ?_
    refine ⟨?_, ?_⟩
    · rw [unhide H1, unhide H2]; rfl
    · exact (((unhide HB).trans ((unhide HB2).mono (unhide HB).size)).setCell (Nat.le_refl _) _).setCell (Nat.le_refl _) _
end Go.Proofs.YtddhlphbbiihjaaGreatDoor.Cl
