import Derived.Test.YtjnelkpgdjphmaaPf
import Derived.Deep.QuietTactic
namespace Go.Proofs.Ytjnelkpgdjphmaa
open Go.RowKit
set_option linter.unusedVariables false
set_option linter.unusedSimpArgs false

/-- A world with more blocks. -/
structure Gw (w : World) where
  x : World
  h : Grown w x

/-- A region that draws its order, whose operations only read, and whose callees lay blocks at the most: walked once, in the order of the text. -/
theorem wp_region_gw {P : Program} {id : Nat} {Q : Exit → Act → World → Prop} {a : Act} {w : World} {l : List Oper} (hm : P.follows .mixedOrders = true) (hB : Region.lexB .any l.toArray = true)
    (h : wpQuiet P l.toArray (fun w' => ∃ p : Gw w, w' = p.x) (fun a' => ∀ w', (∃ p : Gw w, w' = p.x) → Q .normal a' w') l a) : (Code.region id l.toArray true).wp P Q a w :=
  wp_region_quiet (C := fun w' => ∃ p : Gw w, w' = p.x) hm hB ⟨⟨w.drew, (Grown.refl w).drew⟩, rfl⟩ (by simpa using h)
theorem field62 (b c1 c2 : Bool) (c3 c4 : Int) (w : World) : (Instr.field 62 (.agg #[.bool b, .bool c1, .bool c2, .int .u64 c3, .int .i64 c4]) 0).run Try.prog w = .ok (.bool b) w := by
  rfl

set_option maxHeartbeats 1000000 in
set_option maxRecDepth 20000 in
theorem rank32 (x : Nat) (w : World) (hx : x < 4294967296) :
    Calls Try.prog 63 #[.agg #[.int .i64 23, .int .i64 8], .int .u64 (x : Int)] w fun r w' => r = .returned (.int .i64 (Nm.rank Ieee.single x)) ∧ Grown w w' := by
  have HS := hide (sign32 true)
  by_cases h : 2147483648 ≤ x
  · have hr : Nm.rank Ieee.single x = -((x : Int) - 2147483648) := by unfold Nm.rank; rw [Nm.s_sign, if_pos h]; omega
    rw [hr]
    have g1 : decide ((2147483648 : Int) ≤ (x : Int)) = true := by simp; omega
    have g2 : decide (2147483648 ≤ x) = true := by simp; omega
    have w1 : IntKind.u64.wrap ((x : Int) - 2147483648) = (x : Int) - 2147483648 := by rw [IntKind.wrap_u64]; omega
    have w2 : IntKind.i64.wrap ((x : Int) - 2147483648) = (x : Int) - 2147483648 := by rw [IntKind.wrap_i64]; omega
    have w3 : IntKind.i64.wrap (-((x : Int) - 2147483648)) = -((x : Int) - 2147483648) := by rw [IntKind.wrap_i64]; omega
    clear h hr
    have Hx := hide hx
    clear hx
    go_enter Try.func63, Try.ntmps63
    go_wp2_with fail
    refine (unhide HS _).mono ?_
    rintro r w0 ⟨rfl, hg⟩
    simp only [if_true]
    go_wp2
    go_ret
    refine ⟨?_, gtrans (by repeat (first | exact Grown.refl _ | apply Grown.drew | apply Grown.alloc)) hg⟩
    first
    | rfl
    | (congr 2; omega)
    | (have := unhide Hx
       show Ending.returned (Value.int .i64 _) = _
       congr 2
       simp only [IntKind.wrap_i64, IntKind.wrap_u64]
       omega)
  · have hr : Nm.rank Ieee.single x = (x : Int) := by unfold Nm.rank; rw [Nm.s_sign, if_neg h]
    rw [hr]
    have g1 : decide ((2147483648 : Int) ≤ (x : Int)) = false := by simp; omega
    have g2 : decide (2147483648 ≤ x) = false := by simp; omega
    have w2 : IntKind.i64.wrap (x : Int) = (x : Int) := by rw [IntKind.wrap_i64]; omega
    clear h hr
    have Hx := hide hx
    clear hx
    go_enter Try.func63, Try.ntmps63
    go_wp2_with fail
    refine (unhide HS _).mono ?_
    rintro r w0 ⟨rfl, hg⟩
    simp only [if_true]
    go_wp2
    go_ret
    exact ⟨rfl, gtrans (by repeat (first | exact Grown.refl _ | apply Grown.drew | apply Grown.alloc)) hg⟩

set_option maxHeartbeats 1000000 in
set_option maxRecDepth 20000 in
theorem rank64 (x : Nat) (w : World) (hx : x < 18446744073709551616) :
    Calls Try.prog 63 #[.agg #[.int .i64 52, .int .i64 11], .int .u64 (x : Int)] w fun r w' => r = .returned (.int .i64 (Nm.rank Ieee.double x)) ∧ Grown w w' := by
  have HS := hide (sign64 true)
  by_cases h : 9223372036854775808 ≤ x
  · have hr : Nm.rank Ieee.double x = -((x : Int) - 9223372036854775808) := by unfold Nm.rank; rw [Nm.d_sign, if_pos h]; omega
    rw [hr]
    have g1 : decide ((9223372036854775808 : Int) ≤ (x : Int)) = true := by simp; omega
    have g2 : decide (9223372036854775808 ≤ x) = true := by simp; omega
    have w1 : IntKind.u64.wrap ((x : Int) - 9223372036854775808) = (x : Int) - 9223372036854775808 := by rw [IntKind.wrap_u64]; omega
    have w2 : IntKind.i64.wrap ((x : Int) - 9223372036854775808) = (x : Int) - 9223372036854775808 := by rw [IntKind.wrap_i64]; omega
    have w3 : IntKind.i64.wrap (-((x : Int) - 9223372036854775808)) = -((x : Int) - 9223372036854775808) := by rw [IntKind.wrap_i64]; omega
    clear h hr
    have Hx := hide hx
    clear hx
    go_enter Try.func63, Try.ntmps63
    go_wp2_with fail
    refine (unhide HS _).mono ?_
    rintro r w0 ⟨rfl, hg⟩
    simp only [if_true]
    go_wp2
    go_ret
    refine ⟨?_, gtrans (by repeat (first | exact Grown.refl _ | apply Grown.drew | apply Grown.alloc)) hg⟩
    first
    | rfl
    | (congr 2; omega)
    | (have := unhide Hx
       show Ending.returned (Value.int .i64 _) = _
       congr 2
       simp only [IntKind.wrap_i64, IntKind.wrap_u64]
       omega)
  · have hr : Nm.rank Ieee.double x = (x : Int) := by unfold Nm.rank; rw [Nm.d_sign, if_neg h]
    rw [hr]
    have g1 : decide ((9223372036854775808 : Int) ≤ (x : Int)) = false := by simp; omega
    have g2 : decide (9223372036854775808 ≤ x) = false := by simp; omega
    have w2 : IntKind.i64.wrap (x : Int) = (x : Int) := by rw [IntKind.wrap_i64]; omega
    clear h hr
    have Hx := hide hx
    clear hx
    go_enter Try.func63, Try.ntmps63
    go_wp2_with fail
    refine (unhide HS _).mono ?_
    rintro r w0 ⟨rfl, hg⟩
    simp only [if_true]
    go_wp2
    go_ret
    exact ⟨rfl, gtrans (by repeat (first | exact Grown.refl _ | apply Grown.drew | apply Grown.alloc)) hg⟩

set_option maxHeartbeats 1000000 in
set_option maxRecDepth 20000 in
theorem less32 (x y : Nat) (w : World) (hx : x < 4294967296) (hy : y < 4294967296) :
    Calls Try.prog 47 #[.agg #[.int .i64 23, .int .i64 8], .int .u64 (x : Int), .int .u64 (y : Int)] w fun r w' => r = .returned (.bool (decide (Nm.rank Ieee.single x < Nm.rank Ieee.single y))) ∧ Grown w w' := by
  have H := hide (fun (z : Nat) (hz : z < 4294967296) w => rank32 z w hz)
  have hk0 := Bk.new w #[.int .i64 23, .int .i64 8] 33
  have hg0 : Grown w (w.alloc (.cells #[.int .i64 23, .int .i64 8] 33)) := (Grown.refl w).alloc _ _
  go_enter Try.func47, Try.ntmps47
  go_wp2_with fail
  generalize w.alloc (.cells #[.int .i64 23, .int .i64 8] 33) = wA at *
  have k0 : wA.cell? ⟨w.heap.size, 0, none⟩ = some (.int .i64 23) := hk0.cell 0
  have k1 : wA.cell? ⟨w.heap.size, 1, none⟩ = some (.int .i64 8) := hk0.cell 1
  go_region_held3 (fun w' => w'.cell? ⟨w.heap.size, 0, none⟩ = some (.int .i64 23) ∧ w'.cell? ⟨w.heap.size, 1, none⟩ = some (.int .i64 8)) (go_keep)
    ((go_at_call 63; refine (unhide H _ (by assumption) _).mono ?_; rintro r w1 ⟨rfl, hg1⟩; first
      | (have hk1 := Bk.grown (w := wA.drew) hk0 hg1; have hG1 := (show Grown wA w1 from hg1); have k2 := hk1.cell 0; have k3 := hk1.cell 1; simp at k2 k3)
      | (have hk2 := hk1.grown hg1; have hG2 := gtrans hG1 hg1; have k4 := hk2.cell 0; have k5 := hk2.cell 1; simp at k4 k5)
      | fail))
  go_wp2
  go_ret
  exact ⟨rfl, gtrans hg0 hG2⟩

theorem opn32 (x : Nat) (w : World) (hx : x < 4294967296) (h : x % 2147483648 ≤ 2139095040) :
    Calls Try.prog 42 #[.agg #[.int .i64 23, .int .i64 8], .int .u64 (x : Int)] w fun r w' => (∃ (c1 c2 : Bool) (c3 c4 : Int), r = .returned (.agg #[.bool false, .bool c1, .bool c2, .int .u64 c3, .int .i64 c4])) ∧ Grown w w' := by
  by_cases h1 : x % 2147483648 < 2139095040
  · refine (open32_fin x w hx h1).mono ?_
    rintro r w' ⟨rfl, hg⟩
    exact ⟨⟨_, _, _, _, rfl⟩, hg⟩
  · refine (open32_inf x w hx (by omega)).mono ?_
    rintro r w' ⟨rfl, hg⟩
    exact ⟨⟨_, _, _, _, rfl⟩, hg⟩
theorem opz32 (x : Nat) (w : World) (hx : x < 4294967296) (h : 2139095040 < x % 2147483648) :
    Calls Try.prog 42 #[.agg #[.int .i64 23, .int .i64 8], .int .u64 (x : Int)] w fun r w' => (∃ (c1 c2 : Bool) (c3 c4 : Int), r = .returned (.agg #[.bool true, .bool c1, .bool c2, .int .u64 c3, .int .i64 c4])) ∧ Grown w w' := by
  refine (open32_nan x w hx h).mono ?_
  rintro r w' ⟨mm, rfl, hg⟩
  exact ⟨⟨_, _, _, _, rfl⟩, hg⟩

set_option maxHeartbeats 1000000 in
set_option maxRecDepth 20000 in
theorem ord32_n1 (x y : Nat) (more : Bool) (w : World) (hx : x < 4294967296) (hy : y < 4294967296) (h : 2139095040 < x % 2147483648) :
    Calls Try.prog 20 #[.agg #[.int .i64 23, .int .i64 8], .int .u64 (x : Int), .int .u64 (y : Int), .bool more] w fun r w' => r = .returned (.int .u64 (if more then 1 else 4294967295)) ∧ Grown w w' := by
  have H1 := hide (fun w => opz32 x w hx h)
  have HR := hide (fun w => rorder_any (!more) false w)
  have hf62 := field62
  have hk0 := Bk.new w #[.int .i64 23, .int .i64 8] 33
  have hg0 : Grown w (w.alloc (.cells #[.int .i64 23, .int .i64 8] 33)) := (Grown.refl w).alloc _ _
  go_enter Try.func20, Try.ntmps20
  go_wp2_with fail
  refine (unhide H1 _).mono ?_
  rintro r w1 ⟨⟨c1, c2, c3, c4, rfl⟩, hg1⟩
  go_wp2_with fail
  refine (unhide HR _).mono ?_
  rintro r w2 ⟨rfl, hw2⟩
  subst hw2
  go_wp2
  all_goals go_ret
  all_goals exact ⟨rfl, gtrans hg0 hg1⟩

set_option maxHeartbeats 1000000 in
set_option maxRecDepth 20000 in
theorem ord32_n2 (x y : Nat) (more : Bool) (w : World) (hx : x < 4294967296) (hy : y < 4294967296) (h : x % 2147483648 ≤ 2139095040) (h' : 2139095040 < y % 2147483648) :
    Calls Try.prog 20 #[.agg #[.int .i64 23, .int .i64 8], .int .u64 (x : Int), .int .u64 (y : Int), .bool more] w fun r w' => r = .returned (.int .u64 (if more then 1 else 4294967295)) ∧ Grown w w' := by
  have H1 := hide (fun w => opn32 x w hx h)
  have H2 := hide (fun w => opz32 y w hy h')
  have HR := hide (fun w => rorder_any (!more) false w)
  have hf62 := field62
  have hk0 := Bk.new w #[.int .i64 23, .int .i64 8] 33
  have hg0 : Grown w (w.alloc (.cells #[.int .i64 23, .int .i64 8] 33)) := (Grown.refl w).alloc _ _
  go_enter Try.func20, Try.ntmps20
  go_wp2_with fail
  generalize w.alloc (.cells #[.int .i64 23, .int .i64 8] 33) = wA at *
  have k0 : wA.cell? ⟨w.heap.size, 0, none⟩ = some (.int .i64 23) := hk0.cell 0
  have k1 : wA.cell? ⟨w.heap.size, 1, none⟩ = some (.int .i64 8) := hk0.cell 1
  refine (unhide H1 _).mono ?_
  rintro r w1 ⟨⟨c1, c2, c3, c4, rfl⟩, hg1⟩
  have hk1 := hk0.grown hg1
  have k2 := hk1.cell 0
  have k3 := hk1.cell 1
  simp at k2 k3
  go_wp2_with fail
  refine (unhide H2 _).mono ?_
  rintro r w2 ⟨⟨e1, e2, e3, e4, rfl⟩, hg2⟩
  go_wp2_with fail
  refine (unhide HR _).mono ?_
  rintro r w3 ⟨rfl, hw2⟩
  subst hw2
  go_wp2
  all_goals go_ret
  all_goals exact ⟨rfl, gtrans hg0 (gtrans hg1 hg2)⟩

set_option maxHeartbeats 1000000 in
set_option maxRecDepth 20000 in
theorem ord32_nn (x y : Nat) (more : Bool) (w : World) (hx : x < 4294967296) (hy : y < 4294967296) (h : x % 2147483648 ≤ 2139095040) (h' : y % 2147483648 ≤ 2139095040) :
    Calls Try.prog 20 #[.agg #[.int .i64 23, .int .i64 8], .int .u64 (x : Int), .int .u64 (y : Int), .bool more] w fun r w' => r = .returned (.int .u64 (ordV (compare (Nm.rank Ieee.single x) (Nm.rank Ieee.single y)))) ∧ Grown w w' := by
  have H1 := hide (fun w => opn32 x w hx h)
  have H2 := hide (fun w => opn32 y w hy h')
  have HR := hide rorder_any
  have HL := hide (fun (x y : Nat) (hx : x < 4294967296) (hy : y < 4294967296) w => less32 x y w hx hy)
  have hf62 := field62
  have hk0 := Bk.new w #[.int .i64 23, .int .i64 8] 33
  have hg0 : Grown w (w.alloc (.cells #[.int .i64 23, .int .i64 8] 33)) := (Grown.refl w).alloc _ _
  go_enter Try.func20, Try.ntmps20
  go_wp2_with fail
  generalize w.alloc (.cells #[.int .i64 23, .int .i64 8] 33) = wA at *
  have k0 : wA.cell? ⟨w.heap.size, 0, none⟩ = some (.int .i64 23) := hk0.cell 0
  have k1 : wA.cell? ⟨w.heap.size, 1, none⟩ = some (.int .i64 8) := hk0.cell 1
  refine (unhide H1 _).mono ?_
  rintro r w1 ⟨⟨c1, c2, c3, c4, rfl⟩, hg1⟩
  have hk1 := hk0.grown hg1
  have k2 := hk1.cell 0
  have k3 := hk1.cell 1
  simp at k2 k3
  go_wp2_with fail
  refine (unhide H2 _).mono ?_
  rintro r w2 ⟨⟨e1, e2, e3, e4, rfl⟩, hg2⟩
  have hk2 := hk1.grown hg2
  have k4 := hk2.cell 0
  have k5 := hk2.cell 1
  simp at k4 k5
  have hgw : Grown w w2 := gtrans hg0 (gtrans hg1 hg2)
  clear hk0 hk1 k0 k1 k2 k3 hg0 hg1 hg2
  go_wp2_with fail
  rcases Int.lt_trichotomy (Nm.rank Ieee.single x) (Nm.rank Ieee.single y) with hc | hc | hc
  · have hcmp : compare (Nm.rank Ieee.single x) (Nm.rank Ieee.single y) = .lt := by simp [compare, compareOfLessAndEq, hc]
    have l1 : decide (Nm.rank Ieee.single x < Nm.rank Ieee.single y) = true := by simp; omega
    have l2 : decide (Nm.rank Ieee.single y < Nm.rank Ieee.single x) = false := by simp; omega
    have Hcmp := hide hcmp
    clear hc hcmp
    haveI : Nonempty (Gw w2) := ⟨⟨w2, Grown.refl _⟩⟩
    have c0 : ∀ p : Gw w2, p.x.cell? ⟨w.heap.size, 0, none⟩ = some (.int .i64 23) := fun p => (hk2.grown p.h).cell 0
    have c1 : ∀ p : Gw w2, p.x.cell? ⟨w.heap.size, 1, none⟩ = some (.int .i64 8) := fun p => (hk2.grown p.h).cell 1
    refine wp_region_gw (by kernel_rfl) (by kernel_rfl) ?_
    repeat (refine wpQuiet_step (fun K hK => ?_)
            go_simp
            first
            | (refine hK _ ?_; clear hK K)
            | (apply Exists.intro
               refine ⟨fun p => ?_, hK _ ?_⟩
               · first
                 | (go_at_call 47; refine (unhide HL _ _ (by assumption) (by assumption) _).mono ?_; rintro r w3 ⟨rfl, hg3⟩; simp only [l1, l2]; exact ⟨rfl, ⟨w3, gtrans p.h hg3⟩, rfl⟩)
                 | (go_at_call 19; refine (unhide HR _ _ _).mono ?_; rintro r w4 ⟨rfl, hw4⟩; subst hw4; exact ⟨rfl, p, rfl⟩)
               clear hK K))
    refine wpQuiet_nil ?_
    rintro _ ⟨p, rfl⟩
    go_wp2
    go_ret
    exact ⟨by rw [unhide Hcmp]; rfl, gtrans hgw p.h⟩
  · have hcmp : compare (Nm.rank Ieee.single x) (Nm.rank Ieee.single y) = .eq := by simp [compare, compareOfLessAndEq, hc]
    have l1 : decide (Nm.rank Ieee.single x < Nm.rank Ieee.single y) = false := by simp; omega
    have l2 : decide (Nm.rank Ieee.single y < Nm.rank Ieee.single x) = false := by simp; omega
    have Hcmp := hide hcmp
    clear hc hcmp
    go_region_held3 (fun w' => w'.cell? ⟨w.heap.size, 0, none⟩ = some (.int .i64 23) ∧ w'.cell? ⟨w.heap.size, 1, none⟩ = some (.int .i64 8)) (go_keep)
      ((first
        | (go_at_call 47; refine (unhide HL _ _ (by assumption) (by assumption) _).mono ?_; rintro r w3 ⟨rfl, hg3⟩; simp only [l1, l2]; first
            | (have hk3 := Bk.grown (w := w2.drew) hk2 hg3; have hG3 := (show Grown w2 w3 from hg3); have k6 := hk3.cell 0; have k7 := hk3.cell 1; simp at k6 k7)
            | (have hk4 := Bk.grown hk3 hg3; have hG4 := gtrans hG3 hg3; have k8 := hk4.cell 0; have k9 := hk4.cell 1; simp at k8 k9)
            | (have hk5 := Bk.grown hk4 hg3; have hG5 := gtrans hG4 hg3; have q8 := hk5.cell 0; have q9 := hk5.cell 1; simp at q8 q9)
            | fail)
        | (go_at_call 19; refine (unhide HR _ _ _).mono ?_; rintro r w4 ⟨rfl, hw4⟩; subst hw4)
        | fail))
    all_goals go_wp2
    all_goals go_ret
    all_goals refine ⟨by rw [unhide Hcmp]; rfl, ?_⟩
    all_goals first | exact gtrans hgw hG5 | exact gtrans hgw hG4
  · have hcmp : compare (Nm.rank Ieee.single x) (Nm.rank Ieee.single y) = .gt := by simp [compare, compareOfLessAndEq, Int.not_lt.2 (Int.le_of_lt hc), show ¬ Nm.rank Ieee.single x = Nm.rank Ieee.single y by omega]
    have l1 : decide (Nm.rank Ieee.single x < Nm.rank Ieee.single y) = false := by simp; omega
    have l2 : decide (Nm.rank Ieee.single y < Nm.rank Ieee.single x) = true := by simp; omega
    have Hcmp := hide hcmp
    clear hc hcmp
    go_region_held3 (fun w' => w'.cell? ⟨w.heap.size, 0, none⟩ = some (.int .i64 23) ∧ w'.cell? ⟨w.heap.size, 1, none⟩ = some (.int .i64 8)) (go_keep)
      ((first
        | (go_at_call 47; refine (unhide HL _ _ (by assumption) (by assumption) _).mono ?_; rintro r w3 ⟨rfl, hg3⟩; simp only [l1, l2]; first
            | (have hk3 := Bk.grown (w := w2.drew) hk2 hg3; have hG3 := (show Grown w2 w3 from hg3); have k6 := hk3.cell 0; have k7 := hk3.cell 1; simp at k6 k7)
            | (have hk4 := Bk.grown hk3 hg3; have hG4 := gtrans hG3 hg3; have k8 := hk4.cell 0; have k9 := hk4.cell 1; simp at k8 k9)
            | (have hk5 := Bk.grown hk4 hg3; have hG5 := gtrans hG4 hg3; have q8 := hk5.cell 0; have q9 := hk5.cell 1; simp at q8 q9)
            | fail)
        | (go_at_call 19; refine (unhide HR _ _ _).mono ?_; rintro r w4 ⟨rfl, hw4⟩; subst hw4)
        | fail))
    all_goals go_wp2
    all_goals go_ret
    all_goals refine ⟨by rw [unhide Hcmp]; rfl, ?_⟩
    all_goals first | exact gtrans hgw hG5 | exact gtrans hgw hG4

set_option maxHeartbeats 1000000 in
set_option maxRecDepth 20000 in
theorem less64 (x y : Nat) (w : World) (hx : x < 18446744073709551616) (hy : y < 18446744073709551616) :
    Calls Try.prog 47 #[.agg #[.int .i64 52, .int .i64 11], .int .u64 (x : Int), .int .u64 (y : Int)] w fun r w' => r = .returned (.bool (decide (Nm.rank Ieee.double x < Nm.rank Ieee.double y))) ∧ Grown w w' := by
  have H := hide (fun (z : Nat) (hz : z < 18446744073709551616) w => rank64 z w hz)
  have hk0 := Bk.new w #[.int .i64 52, .int .i64 11] 33
  have hg0 : Grown w (w.alloc (.cells #[.int .i64 52, .int .i64 11] 33)) := (Grown.refl w).alloc _ _
  go_enter Try.func47, Try.ntmps47
  go_wp2_with fail
  generalize w.alloc (.cells #[.int .i64 52, .int .i64 11] 33) = wA at *
  have k0 : wA.cell? ⟨w.heap.size, 0, none⟩ = some (.int .i64 52) := hk0.cell 0
  have k1 : wA.cell? ⟨w.heap.size, 1, none⟩ = some (.int .i64 11) := hk0.cell 1
  go_region_held3 (fun w' => w'.cell? ⟨w.heap.size, 0, none⟩ = some (.int .i64 52) ∧ w'.cell? ⟨w.heap.size, 1, none⟩ = some (.int .i64 11)) (go_keep)
    ((go_at_call 63; refine (unhide H _ (by assumption) _).mono ?_; rintro r w1 ⟨rfl, hg1⟩; first
      | (have hk1 := Bk.grown (w := wA.drew) hk0 hg1; have hG1 := (show Grown wA w1 from hg1); have k2 := hk1.cell 0; have k3 := hk1.cell 1; simp at k2 k3)
      | (have hk2 := hk1.grown hg1; have hG2 := gtrans hG1 hg1; have k4 := hk2.cell 0; have k5 := hk2.cell 1; simp at k4 k5)
      | fail))
  go_wp2
  go_ret
  exact ⟨rfl, gtrans hg0 hG2⟩

theorem opn64 (x : Nat) (w : World) (hx : x < 18446744073709551616) (h : x % 9223372036854775808 ≤ 9218868437227405312) :
    Calls Try.prog 42 #[.agg #[.int .i64 52, .int .i64 11], .int .u64 (x : Int)] w fun r w' => (∃ (c1 c2 : Bool) (c3 c4 : Int), r = .returned (.agg #[.bool false, .bool c1, .bool c2, .int .u64 c3, .int .i64 c4])) ∧ Grown w w' := by
  by_cases h1 : x % 9223372036854775808 < 9218868437227405312
  · refine (open64_fin x w hx h1).mono ?_
    rintro r w' ⟨rfl, hg⟩
    exact ⟨⟨_, _, _, _, rfl⟩, hg⟩
  · refine (open64_inf x w hx (by omega)).mono ?_
    rintro r w' ⟨rfl, hg⟩
    exact ⟨⟨_, _, _, _, rfl⟩, hg⟩
theorem opz64 (x : Nat) (w : World) (hx : x < 18446744073709551616) (h : 9218868437227405312 < x % 9223372036854775808) :
    Calls Try.prog 42 #[.agg #[.int .i64 52, .int .i64 11], .int .u64 (x : Int)] w fun r w' => (∃ (c1 c2 : Bool) (c3 c4 : Int), r = .returned (.agg #[.bool true, .bool c1, .bool c2, .int .u64 c3, .int .i64 c4])) ∧ Grown w w' := by
  refine (open64_nan x w hx h).mono ?_
  rintro r w' ⟨mm, rfl, hg⟩
  exact ⟨⟨_, _, _, _, rfl⟩, hg⟩

set_option maxHeartbeats 1000000 in
set_option maxRecDepth 20000 in
theorem ord64_n1 (x y : Nat) (more : Bool) (w : World) (hx : x < 18446744073709551616) (hy : y < 18446744073709551616) (h : 9218868437227405312 < x % 9223372036854775808) :
    Calls Try.prog 20 #[.agg #[.int .i64 52, .int .i64 11], .int .u64 (x : Int), .int .u64 (y : Int), .bool more] w fun r w' => r = .returned (.int .u64 (if more then 1 else 4294967295)) ∧ Grown w w' := by
  have H1 := hide (fun w => opz64 x w hx h)
  have HR := hide (fun w => rorder_any (!more) false w)
  have hf62 := field62
  have hk0 := Bk.new w #[.int .i64 52, .int .i64 11] 33
  have hg0 : Grown w (w.alloc (.cells #[.int .i64 52, .int .i64 11] 33)) := (Grown.refl w).alloc _ _
  go_enter Try.func20, Try.ntmps20
  go_wp2_with fail
  refine (unhide H1 _).mono ?_
  rintro r w1 ⟨⟨c1, c2, c3, c4, rfl⟩, hg1⟩
  go_wp2_with fail
  refine (unhide HR _).mono ?_
  rintro r w2 ⟨rfl, hw2⟩
  subst hw2
  go_wp2
  all_goals go_ret
  all_goals exact ⟨rfl, gtrans hg0 hg1⟩

set_option maxHeartbeats 1000000 in
set_option maxRecDepth 20000 in
theorem ord64_n2 (x y : Nat) (more : Bool) (w : World) (hx : x < 18446744073709551616) (hy : y < 18446744073709551616) (h : x % 9223372036854775808 ≤ 9218868437227405312) (h' : 9218868437227405312 < y % 9223372036854775808) :
    Calls Try.prog 20 #[.agg #[.int .i64 52, .int .i64 11], .int .u64 (x : Int), .int .u64 (y : Int), .bool more] w fun r w' => r = .returned (.int .u64 (if more then 1 else 4294967295)) ∧ Grown w w' := by
  have H1 := hide (fun w => opn64 x w hx h)
  have H2 := hide (fun w => opz64 y w hy h')
  have HR := hide (fun w => rorder_any (!more) false w)
  have hf62 := field62
  have hk0 := Bk.new w #[.int .i64 52, .int .i64 11] 33
  have hg0 : Grown w (w.alloc (.cells #[.int .i64 52, .int .i64 11] 33)) := (Grown.refl w).alloc _ _
  go_enter Try.func20, Try.ntmps20
  go_wp2_with fail
  generalize w.alloc (.cells #[.int .i64 52, .int .i64 11] 33) = wA at *
  have k0 : wA.cell? ⟨w.heap.size, 0, none⟩ = some (.int .i64 52) := hk0.cell 0
  have k1 : wA.cell? ⟨w.heap.size, 1, none⟩ = some (.int .i64 11) := hk0.cell 1
  refine (unhide H1 _).mono ?_
  rintro r w1 ⟨⟨c1, c2, c3, c4, rfl⟩, hg1⟩
  have hk1 := hk0.grown hg1
  have k2 := hk1.cell 0
  have k3 := hk1.cell 1
  simp at k2 k3
  go_wp2_with fail
  refine (unhide H2 _).mono ?_
  rintro r w2 ⟨⟨e1, e2, e3, e4, rfl⟩, hg2⟩
  go_wp2_with fail
  refine (unhide HR _).mono ?_
  rintro r w3 ⟨rfl, hw2⟩
  subst hw2
  go_wp2
  all_goals go_ret
  all_goals exact ⟨rfl, gtrans hg0 (gtrans hg1 hg2)⟩

set_option maxHeartbeats 1000000 in
set_option maxRecDepth 20000 in
theorem ord64_nn (x y : Nat) (more : Bool) (w : World) (hx : x < 18446744073709551616) (hy : y < 18446744073709551616) (h : x % 9223372036854775808 ≤ 9218868437227405312) (h' : y % 9223372036854775808 ≤ 9218868437227405312) :
    Calls Try.prog 20 #[.agg #[.int .i64 52, .int .i64 11], .int .u64 (x : Int), .int .u64 (y : Int), .bool more] w fun r w' => r = .returned (.int .u64 (ordV (compare (Nm.rank Ieee.double x) (Nm.rank Ieee.double y)))) ∧ Grown w w' := by
  have H1 := hide (fun w => opn64 x w hx h)
  have H2 := hide (fun w => opn64 y w hy h')
  have HR := hide rorder_any
  have HL := hide (fun (x y : Nat) (hx : x < 18446744073709551616) (hy : y < 18446744073709551616) w => less64 x y w hx hy)
  have hf62 := field62
  have hk0 := Bk.new w #[.int .i64 52, .int .i64 11] 33
  have hg0 : Grown w (w.alloc (.cells #[.int .i64 52, .int .i64 11] 33)) := (Grown.refl w).alloc _ _
  go_enter Try.func20, Try.ntmps20
  go_wp2_with fail
  generalize w.alloc (.cells #[.int .i64 52, .int .i64 11] 33) = wA at *
  have k0 : wA.cell? ⟨w.heap.size, 0, none⟩ = some (.int .i64 52) := hk0.cell 0
  have k1 : wA.cell? ⟨w.heap.size, 1, none⟩ = some (.int .i64 11) := hk0.cell 1
  refine (unhide H1 _).mono ?_
  rintro r w1 ⟨⟨c1, c2, c3, c4, rfl⟩, hg1⟩
  have hk1 := hk0.grown hg1
  have k2 := hk1.cell 0
  have k3 := hk1.cell 1
  simp at k2 k3
  go_wp2_with fail
  refine (unhide H2 _).mono ?_
  rintro r w2 ⟨⟨e1, e2, e3, e4, rfl⟩, hg2⟩
  have hk2 := hk1.grown hg2
  have k4 := hk2.cell 0
  have k5 := hk2.cell 1
  simp at k4 k5
  have hgw : Grown w w2 := gtrans hg0 (gtrans hg1 hg2)
  clear hk0 hk1 k0 k1 k2 k3 hg0 hg1 hg2
  go_wp2_with fail
  rcases Int.lt_trichotomy (Nm.rank Ieee.double x) (Nm.rank Ieee.double y) with hc | hc | hc
  · have hcmp : compare (Nm.rank Ieee.double x) (Nm.rank Ieee.double y) = .lt := by simp [compare, compareOfLessAndEq, hc]
    have l1 : decide (Nm.rank Ieee.double x < Nm.rank Ieee.double y) = true := by simp; omega
    have l2 : decide (Nm.rank Ieee.double y < Nm.rank Ieee.double x) = false := by simp; omega
    have Hcmp := hide hcmp
    clear hc hcmp
    haveI : Nonempty (Gw w2) := ⟨⟨w2, Grown.refl _⟩⟩
    have c0 : ∀ p : Gw w2, p.x.cell? ⟨w.heap.size, 0, none⟩ = some (.int .i64 52) := fun p => (hk2.grown p.h).cell 0
    have c1 : ∀ p : Gw w2, p.x.cell? ⟨w.heap.size, 1, none⟩ = some (.int .i64 11) := fun p => (hk2.grown p.h).cell 1
    refine wp_region_gw (by kernel_rfl) (by kernel_rfl) ?_
    repeat (refine wpQuiet_step (fun K hK => ?_)
            go_simp
            first
            | (refine hK _ ?_; clear hK K)
            | (apply Exists.intro
               refine ⟨fun p => ?_, hK _ ?_⟩
               · first
                 | (go_at_call 47; refine (unhide HL _ _ (by assumption) (by assumption) _).mono ?_; rintro r w3 ⟨rfl, hg3⟩; simp only [l1, l2]; exact ⟨rfl, ⟨w3, gtrans p.h hg3⟩, rfl⟩)
                 | (go_at_call 19; refine (unhide HR _ _ _).mono ?_; rintro r w4 ⟨rfl, hw4⟩; subst hw4; exact ⟨rfl, p, rfl⟩)
               clear hK K))
    refine wpQuiet_nil ?_
    rintro _ ⟨p, rfl⟩
    go_wp2
    go_ret
    exact ⟨by rw [unhide Hcmp]; rfl, gtrans hgw p.h⟩
  · have hcmp : compare (Nm.rank Ieee.double x) (Nm.rank Ieee.double y) = .eq := by simp [compare, compareOfLessAndEq, hc]
    have l1 : decide (Nm.rank Ieee.double x < Nm.rank Ieee.double y) = false := by simp; omega
    have l2 : decide (Nm.rank Ieee.double y < Nm.rank Ieee.double x) = false := by simp; omega
    have Hcmp := hide hcmp
    clear hc hcmp
    go_region_held3 (fun w' => w'.cell? ⟨w.heap.size, 0, none⟩ = some (.int .i64 52) ∧ w'.cell? ⟨w.heap.size, 1, none⟩ = some (.int .i64 11)) (go_keep)
      ((first
        | (go_at_call 47; refine (unhide HL _ _ (by assumption) (by assumption) _).mono ?_; rintro r w3 ⟨rfl, hg3⟩; simp only [l1, l2]; first
            | (have hk3 := Bk.grown (w := w2.drew) hk2 hg3; have hG3 := (show Grown w2 w3 from hg3); have k6 := hk3.cell 0; have k7 := hk3.cell 1; simp at k6 k7)
            | (have hk4 := Bk.grown hk3 hg3; have hG4 := gtrans hG3 hg3; have k8 := hk4.cell 0; have k9 := hk4.cell 1; simp at k8 k9)
            | (have hk5 := Bk.grown hk4 hg3; have hG5 := gtrans hG4 hg3; have q8 := hk5.cell 0; have q9 := hk5.cell 1; simp at q8 q9)
            | fail)
        | (go_at_call 19; refine (unhide HR _ _ _).mono ?_; rintro r w4 ⟨rfl, hw4⟩; subst hw4)
        | fail))
    all_goals go_wp2
    all_goals go_ret
    all_goals refine ⟨by rw [unhide Hcmp]; rfl, ?_⟩
    all_goals first | exact gtrans hgw hG5 | exact gtrans hgw hG4
  · have hcmp : compare (Nm.rank Ieee.double x) (Nm.rank Ieee.double y) = .gt := by simp [compare, compareOfLessAndEq, Int.not_lt.2 (Int.le_of_lt hc), show ¬ Nm.rank Ieee.double x = Nm.rank Ieee.double y by omega]
    have l1 : decide (Nm.rank Ieee.double x < Nm.rank Ieee.double y) = false := by simp; omega
    have l2 : decide (Nm.rank Ieee.double y < Nm.rank Ieee.double x) = true := by simp; omega
    have Hcmp := hide hcmp
    clear hc hcmp
    go_region_held3 (fun w' => w'.cell? ⟨w.heap.size, 0, none⟩ = some (.int .i64 52) ∧ w'.cell? ⟨w.heap.size, 1, none⟩ = some (.int .i64 11)) (go_keep)
      ((first
        | (go_at_call 47; refine (unhide HL _ _ (by assumption) (by assumption) _).mono ?_; rintro r w3 ⟨rfl, hg3⟩; simp only [l1, l2]; first
            | (have hk3 := Bk.grown (w := w2.drew) hk2 hg3; have hG3 := (show Grown w2 w3 from hg3); have k6 := hk3.cell 0; have k7 := hk3.cell 1; simp at k6 k7)
            | (have hk4 := Bk.grown hk3 hg3; have hG4 := gtrans hG3 hg3; have k8 := hk4.cell 0; have k9 := hk4.cell 1; simp at k8 k9)
            | (have hk5 := Bk.grown hk4 hg3; have hG5 := gtrans hG4 hg3; have q8 := hk5.cell 0; have q9 := hk5.cell 1; simp at q8 q9)
            | fail)
        | (go_at_call 19; refine (unhide HR _ _ _).mono ?_; rintro r w4 ⟨rfl, hw4⟩; subst hw4)
        | fail))
    all_goals go_wp2
    all_goals go_ret
    all_goals refine ⟨by rw [unhide Hcmp]; rfl, ?_⟩
    all_goals first | exact gtrans hgw hG5 | exact gtrans hgw hG4
end Go.Proofs.Ytjnelkpgdjphmaa
