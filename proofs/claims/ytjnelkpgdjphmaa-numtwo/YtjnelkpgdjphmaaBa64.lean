import Derived.Test.YtjnelkpgdjphmaaOp64
namespace Go.Proofs.Ytjnelkpgdjphmaa
open Go.RowKit
set_option linter.unusedVariables false
set_option linter.unusedSimpArgs false

theorem open64_ar (x : Nat) (w : World) (hx : x < 18446744073709551616) :
    Calls Try.prog 42 #[.agg #[.int .i64 52, .int .i64 11], .int .u64 (x : Int)] w fun r w' => (∃ cs, Ar64 (Ieee.double.read x) cs ∧ r = .returned (.agg cs)) ∧ Grown w w' := by
  have hb : Ieee.double.binade ≤ Ieee.double.infRung := by decide
  by_cases h1 : x % 9223372036854775808 < 9218868437227405312
  · have hr := Nm.read_fin Ieee.double x (by rw [Nm.d_sign, Nm.d_inf]; exact h1)
    rw [Nm.d_sign, Nm.d_least] at hr
    refine (open64_fin x w hx h1).mono ?_
    rintro r w' ⟨rfl, hg⟩
    refine ⟨⟨_, ?_, rfl⟩, hg⟩
    rw [hr]
    have hu : Nm.up Ieee.double (x % 9223372036854775808) ≤ 2045 := by
      unfold Nm.up
      rw [Nm.d_binade]
      split <;> omega
    refine Ar64.num _ _ _ (Nm.mag_lt Ieee.double _) (by omega) (by omega) ?_
    intro h
    have hu0 : Nm.up Ieee.double (x % 9223372036854775808) ≠ 0 := by omega
    unfold Nm.up at hu0
    unfold Nm.mag
    rw [Nm.d_binade] at hu0 ⊢
    split at hu0
    · exact absurd rfl hu0
    · rename_i h2
      rw [if_neg h2]
      omega
  · by_cases h2 : x % 9223372036854775808 = 9218868437227405312
    · have hr := Nm.read_inf Ieee.double x (by rw [Nm.d_sign, Nm.d_inf]; exact h2) hb
      refine (open64_inf x w hx h2).mono ?_
      rintro r w' ⟨rfl, hg⟩
      refine ⟨⟨_, ?_, rfl⟩, hg⟩
      rw [hr, Nm.d_sign]
      exact Ar64.inf _
    · have hr := Nm.read_nan Ieee.double x (by rw [Nm.d_sign, Nm.d_inf]; omega) hb
      refine (open64_nan x w hx (by omega)).mono ?_
      rintro r w' ⟨mm, rfl, hg⟩
      refine ⟨⟨_, ?_, rfl⟩, hg⟩
      rw [hr, Nm.d_sign]
      exact Ar64.nan _ _ _

/-- Five cells, the third a sign. -/
theorem ar_cells64 {d : Ieee.Datum} {cs : Array Value} (h : Ar64 d cs) : ∃ (c0 c1 sg : Bool) (c3 c4 : Int), cs = #[.bool c0, .bool c1, .bool sg, .int .u64 c3, .int .i64 c4] ∧ Ar64 d.opposite #[.bool c0, .bool c1, .bool !sg, .int .u64 c3, .int .i64 c4] := by
  rcases h with ⟨s, A, i, ⟨h1, h2, h3, h4⟩, rfl, rfl⟩ | ⟨s, rfl, rfl⟩ | ⟨s, n, A, rfl, rfl⟩
  · exact ⟨_, _, _, _, _, rfl, Ar64.num _ _ _ h1 h2 h3 h4⟩
  · exact ⟨_, _, _, _, _, rfl, Ar64.inf _⟩
  · exact ⟨_, _, _, _, _, rfl, Ar64.nan _ _ _⟩

/-- What the reference reckons. -/
def Fb64 (what : Nat) (x y : Nat) : Nat :=
  if what = 0 then Wr64 ((Ieee.double.read x).sum (Ieee.double.read y)) else if what = 1 then Wr64 ((Ieee.double.read x).sum (Ieee.double.read y).opposite)
  else if what = 2 then Wr64 ((Ieee.double.read x).product (Ieee.double.read y)) else if what = 3 then Wr64 ((Ieee.double.read x).quotient (Ieee.double.fractionBits + 2) (Ieee.double.read y))
  else Rm64 (Ieee.double.read x) (Ieee.double.read y)

set_option maxHeartbeats 2000000 in
set_option maxRecDepth 20000 in
theorem basic64 (what x y : Nat) (w : World) (hw : what ≤ 4) (hx : x < 18446744073709551616) (hy : y < 18446744073709551616) :
    Calls Try.prog 16 #[.agg #[.int .i64 52, .int .i64 11], .int .i64 (what : Int), .int .u64 (x : Int), .int .u64 (y : Int)] w fun r w' => r = .returned (.int .u64 (Fb64 what x y : Nat)) ∧ Grown w w' := by
  have HO1 := hide (fun w => open64_ar x w hx)
  have HO2 := hide (fun w => open64_ar y w hy)
  have hk0 := Bk.new w #[.int .i64 52, .int .i64 11] 33
  have hg0 : Grown w (w.alloc (.cells #[.int .i64 52, .int .i64 11] 33)) := (Grown.refl w).alloc _ _
  have hs0 : (w.alloc (.cells #[.int .i64 52, .int .i64 11] 33)).heap.size = w.heap.size + 1 := by simp
  go_enter Try.func16, Try.ntmps16
  go_wp2_with fail
  refine (unhide HO1 _).mono ?_
  rintro r w1 ⟨⟨ca, hA, rfl⟩, hg1⟩
  obtain ⟨c0, c1, sa, c3, c4, rfl, -⟩ := ar_cells64 hA
  have hk1 := hk0.grown hg1
  have hs1 : w.heap.size + 1 ≤ w1.heap.size := Nat.le_trans (Nat.le_of_eq hs0.symm) hg1.2.2
  have hgw1 : Grown w w1 := gtrans hg0 hg1
  have hkB := hk1.alloc #[.bool c0, .bool c1, .bool sa, .int .u64 c3, .int .i64 c4] 62
  have haB := Bk.new w1 #[.bool c0, .bool c1, .bool sa, .int .u64 c3, .int .i64 c4] 62
  have hgB : Grown w (w1.alloc (.cells #[.bool c0, .bool c1, .bool sa, .int .u64 c3, .int .i64 c4] 62)) := hgw1.alloc _ _
  have hsB : (w1.alloc (.cells #[.bool c0, .bool c1, .bool sa, .int .u64 c3, .int .i64 c4] 62)).heap.size = w1.heap.size + 1 := by simp
  clear hk0 hg0 hs0 hg1 hgw1
  go_upto_region 2 with fail
  generalize w1.alloc (.cells #[.bool c0, .bool c1, .bool sa, .int .u64 c3, .int .i64 c4] 62) = wB at *
  have k0 := hkB.cell 0
  have k1 := hkB.cell 1
  have HsB := hide hsB
  clear hsB hk1
  simp at k0 k1
  go_wp2_with fail
  refine (unhide HO2 _).mono ?_
  rintro r w2 ⟨⟨cb, hB, rfl⟩, hg2⟩
  obtain ⟨d0, d1, sb, d3, d4, rfl, hBo⟩ := ar_cells64 hB
  have hs2 : w1.heap.size + 1 ≤ w2.heap.size := by have := hg2.2.2; have := unhide HsB; omega
  have n1 : w.heap.size ≠ w1.heap.size := by omega
  have n3 : w.heap.size ≠ w2.heap.size := by omega
  have n5 : w1.heap.size ≠ w2.heap.size := by omega
  have hk2 := (hkB.grown hg2).alloc #[.bool d0, .bool d1, .bool sb, .int .u64 d3, .int .i64 d4] 62
  have ha2 := (haB.grown hg2).alloc #[.bool d0, .bool d1, .bool sb, .int .u64 d3, .int .i64 d4] 62
  have hb2 := Bk.new w2 #[.bool d0, .bool d1, .bool sb, .int .u64 d3, .int .i64 d4] 62
  have hgw2 : Grown w (w2.alloc (.cells #[.bool d0, .bool d1, .bool sb, .int .u64 d3, .int .i64 d4] 62)) := (gtrans hgB hg2).alloc _ _
  clear k0 k1 hg2 hkB haB hgB
  go_upto_region 3 with fail
  generalize w2.alloc (.cells #[.bool d0, .bool d1, .bool sb, .int .u64 d3, .int .i64 d4] 62) = wC at *
  have k0 := hk2.cell 0
  have k1 := hk2.cell 1
  have a0 := ha2.cell 0
  have a1 := ha2.cell 1
  have a2 := ha2.cell 2
  have a3 := ha2.cell 3
  have a4 := ha2.cell 4
  have b0 := hb2.cell 0
  have b1 := hb2.cell 1
  have b2 := hb2.cell 2
  have b3 := hb2.cell 3
  have b4 := hb2.cell 4
  have fb := hb2.frozen
  simp at k0 k1 a0 a1 a2 a3 a4 b0 b1 b2 b3 b4
  rcases (show what = 0 ∨ what = 1 ∨ what = 2 ∨ what = 3 ∨ what = 4 by omega) with rfl | rfl | rfl | rfl | rfl
  · go_wp2_with fail
    refine (add_of64 hA hB _).mono ?_
    rintro r w3 ⟨rfl, hg3⟩
    go_wp2
    go_ret
    exact ⟨rfl, gtrans hgw2 hg3⟩
  · go_wp2_with fail
    refine (add_of64 hA hBo _).mono ?_
    rintro r w3 ⟨rfl, hg3⟩
    go_wp2
    go_ret
    exact ⟨rfl, gtrans (hgw2.setCell (a := ⟨w2.heap.size, 2, none⟩) (by show w.heap.size ≤ w2.heap.size; omega) _) hg3⟩
  · go_wp2_with fail
    refine (mul_of64 hA hB _).mono ?_
    rintro r w3 ⟨rfl, hg3⟩
    go_wp2
    go_ret
    exact ⟨rfl, gtrans hgw2 hg3⟩
  · go_wp2_with fail
    refine (div_of64 hA hB _).mono ?_
    rintro r w3 ⟨rfl, hg3⟩
    go_wp2
    go_ret
    exact ⟨rfl, gtrans hgw2 hg3⟩
  · go_wp2_with fail
    refine (rem_of64 hA hB _).mono ?_
    rintro r w3 ⟨rfl, hg3⟩
    go_wp2
    go_ret
    exact ⟨rfl, gtrans hgw2 hg3⟩
end Go.Proofs.Ytjnelkpgdjphmaa
