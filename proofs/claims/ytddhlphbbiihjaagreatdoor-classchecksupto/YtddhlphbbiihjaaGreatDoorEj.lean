/-
  ClassChecks: the reference: flags, member.
-/
import Derived.Test.YtddhlphbbiihjaaGreatDoorMgFd
set_option linter.unusedVariables false
set_option linter.unusedSimpArgs false
namespace Go.Proofs.YtddhlphbbiihjaaGreatDoor.Cl
open Go.RowKit Go.Maps Kn
theorem one_bit {a b : Nat} (k : Nat) (e : b = 2 ^ k) (ha : a < 65536) (hb : b < 65536) : (bits BinOp.and IntKind.u16 (a : Int) (b : Int) == (b : Int)) = hasF a b := by
  rw [and_eq a b ha hb, e, hasA_two]
set_option maxHeartbeats 4000000 in
theorem flags_any (kb f : Nat) (s : ByteArray) (c : Csi) (vp vi vf vm : Value) (L : List Mv) (w : World) (h : Qk w kb c vp vi vf vm L) (hf : c.flags < 65536) (hg : f < 65536) :
    Calls Tryz.prog 50 #[.pointer (some ⟨kb, 0, none⟩), .int .u16 (f : Int), .string s] w fun e w' => e = .returned (.bool (!wmf c.flags f s.data.toList)) ∧ w' = w := by
  have c2 := h.b.cell 2
  simp at c2
  clear h
  have HM := hide (most_any f w hg)
  generalize c.flags = fl at *
  have e1 : (bits BinOp.and IntKind.u16 (fl : Int) 512 == 512) = hasF fl 512 := one_bit (a := fl) (b := 512) 9 rfl hf (by omega)
  have e2 : (bits BinOp.and IntKind.u16 (fl : Int) 1024 == 1024) = hasF fl 1024 := one_bit (a := fl) (b := 1024) 10 rfl hf (by omega)
  have g1 : (bits BinOp.and IntKind.u16 (f : Int) 8 == 8) = hasF f 8 := one_bit (a := f) (b := 8) 3 rfl hg (by omega)
  have g2 : (bits BinOp.and IntKind.u16 (f : Int) 1280 == 0) = !hasF f 1280 := and_z f 1280 hg (by omega)
  have g3 : (bits BinOp.and IntKind.u16 (f : Int) 1024 == 1024) = hasF f 1024 := one_bit (a := f) (b := 1024) 10 rfl hg (by omega)
  have g4 : (bits BinOp.and IntKind.u16 (f : Int) 314 == 0) = !hasF f 314 := and_z f 314 hg (by omega)
  have g5 : (bits BinOp.and IntKind.u16 (f : Int) 312 == 0) = !hasF f 312 := and_z f 312 hg (by omega)
  have g7 : (bits BinOp.and IntKind.u16 (f : Int) 3391 == 1025) = !decide (f &&& 3391 ≠ 1025) := by rw [show bits BinOp.and IntKind.u16 (f : Int) 3391 = _ from and_nat f 3391 hg (by omega)]; rw [show ((1025 : Int)) = ((1025 : Nat) : Int) from rfl, nat_beq]; simp
  have n1 : (s.toList == [60, 99, 108, 105, 110, 105, 116, 62]) = decide (s.data.toList = clinitB) := str_eq s _
  have n2 : (s.toList == [60, 105, 110, 105, 116, 62]) = decide (s.data.toList = initB) := str_eq s _
  generalize hr : wmf fl f s.data.toList = r
  unfold wmf at hr
  have ei : ∀ a b : Bool, (if s.data.toList = initB then a else b) = (if decide (s.data.toList = initB) = true then a else b) := fun a b => by simp
  have ec : ∀ a b : Bool, (if s.data.toList = clinitB then a else b) = (if decide (s.data.toList = clinitB) = true then a else b) := fun a b => by simp
  rw [ei, ec] at hr
  clear ei ec
  generalize decide (s.data.toList = clinitB) = x4 at *
  generalize decide (s.data.toList = initB) = x3 at *
  generalize hasF fl 512 = x1 at *
  generalize hasF fl 1024 = x2 at *
  generalize hasF f 8 = y1 at *
  generalize hasF f 1280 = y2 at *
  generalize hasF f 1024 = y3 at *
  generalize hasF f 314 = y4 at *
  generalize hasF f 312 = y5 at *
  generalize more f = y6 at *
  generalize decide (f &&& 3391 ≠ 1025) = y7 at *
  have Hr := hide hr
  clear hr
  cases x4
  · cases x1
    · cases y6
      · cases y3
        · cases x3
          all_goals
            go_enter Tryz.func50, Tryz.ntmps50
            go_wp2_with (first | (go_at_call 49; refine (unhide HM).mono ?_; rintro e w1 ⟨rfl, rfl⟩) | go_in)
            go_wp2
            go_ret
            exact ⟨by rw [← unhide Hr]; cases y5 <;> rfl, rfl⟩
        · cases x3 <;> cases y4 <;> cases x2
          all_goals
            go_enter Tryz.func50, Tryz.ntmps50
            go_wp2_with (first | (go_at_call 49; refine (unhide HM).mono ?_; rintro e w1 ⟨rfl, rfl⟩) | go_in)
            go_wp2
            go_ret
            exact ⟨by rw [← unhide Hr]; rfl, rfl⟩
      · go_enter Tryz.func50, Tryz.ntmps50
        go_wp2_with (first | (go_at_call 49; refine (unhide HM).mono ?_; rintro e w1 ⟨rfl, rfl⟩) | go_in)
        go_wp2
        go_ret
        exact ⟨by rw [← unhide Hr]; rfl, rfl⟩
    · cases y7 <;> cases x3
      all_goals
        go_enter Tryz.func50, Tryz.ntmps50
        go_wp2
        go_ret
        exact ⟨by rw [← unhide Hr]; rfl, rfl⟩
  · cases y1
    all_goals
      go_enter Tryz.func50, Tryz.ntmps50
      go_wp2
      go_ret
      exact ⟨by rw [← unhide Hr]; cases y2 <;> rfl, rfl⟩
/-- What is wrong with the name and the descriptor of a method, by the reference. -/
def mkE (nm of : List UInt8) (ini : Bool) : Nat :=
  fst1 [if memB nm true = 1 ∨ memB nm true = 2 ∧ ini = true then 0 else 8,
    match W.meth of with
    | none => 9
    | some (_, g) => if memB nm true ≠ 2 ∨ g = [86] then 0 else 9]
theorem mem_le (nm : List UInt8) : memB nm true = 0 ∨ memB nm true = 1 ∨ memB nm true = 2 ∨ memB nm true = 3 := by
  unfold memB; repeat (first | split | simp)
set_option maxHeartbeats 4000000 in
theorem member_field (nm of : List UInt8) (ini : Bool) (w : World) (hn : nm.length ≤ 32768) (ho : of.length ≤ 32768) :
    Calls Tryz.prog 45 #[.string ⟨nm.toArray⟩, .string ⟨of.toArray⟩, .bool true, .bool ini] w fun e w' => e = .returned (.int .i64 (wfE nm of : Nat)) ∧ Below w.heap.size w w' := by
  have h1 := RMember_any ⟨nm.toArray⟩ false w (by rw [sz_of]; exact hn)
  have h2 := fun w1 : World => RField_any ⟨of.toArray⟩ w1 (by rw [sz_of]; exact ho)
  rw [dt_of] at h1 h2
  have H1 := hide h1
  have H2 := hide h2
  clear h1 h2
  have HO := hide (fun (w1 : World) (a b : Nat) => one38_any _ [a, b] (w1.alloc (.cells #[.int .i64 (a : Int), .int .i64 (b : Int)] 31)) (EIn.made w1 [a, b] #[.int .i64 (a : Int), .int .i64 (b : Int)] rfl 31) (by simp))
  generalize hr : wfE nm of = r
  unfold wfE at hr
  have hm : memB nm false = 0 ∨ memB nm false = 1 := by unfold memB; split <;> simp
  generalize memB nm false = m at *
  generalize fieldB of = f at *
  rcases hm with rfl | rfl <;> cases f
  all_goals
    simp [-List.append_eq] at hr
    subst hr
    go_enter Tryz.func45, Tryz.ntmps45
    go_wp2_with (first | (go_at_call 42; refine (unhide H1).mono ?_; rintro e w1 ⟨rfl, hb1⟩) | (go_at_call 43; refine (unhide H2 _).mono ?_; rintro e w2 ⟨rfl, hb2⟩) | (go_at_call 38; refine (unhide HO _ _ _).mono ?_; rintro e w3 ⟨rfl, hw3⟩; subst w3) | go_in)
    go_wp2
    go_ret
    exact ⟨rfl, (hb1.trans (hb2.mono hb1.size)).alloc (hb1.trans (hb2.mono hb1.size)).size _⟩
end Go.Proofs.YtddhlphbbiihjaaGreatDoor.Cl
