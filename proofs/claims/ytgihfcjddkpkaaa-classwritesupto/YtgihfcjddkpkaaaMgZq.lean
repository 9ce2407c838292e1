/-
  ClassWrites: what is asked of a class of size 32768 at the most.
  ClassWrites: the statement's walk.
  ClassWrites: a class, from what it reads as.
-/
import Derived.Test.YtgihfcjddkpkaaaZn
import Derived.Test.YtgihfcjddkpkaaaRows
import Derived.Deep.Slices
import Derived.SizedLaws
import Derived.WalkKit
import Derived.ProofKit
import Derived.OpenShut
import Derived.ShutString
import Derived.ChangeOld
import Derived.Below
namespace Go.Proofs.Ytgihfcjddkpkaaa.Cl
set_option linter.unusedVariables false
set_option linter.unusedSimpArgs false
open Go.RowKit Go.Maps
theorem texts_sum (P : List K) : Po.texts (P.map pk) = (P.map ksz).sum := by
  induction P with
  | nil => rfl
  | cons x P ih => rw [List.map_cons, Po.texts, ih, List.map_cons, List.sum_cons]; rfl
theorem mcosts_size (l : List Mi) : M.mcosts l ≤ 26 * l.length + 8 * (l.map msz).sum := by
  unfold M.mcosts
  induction l with
  | nil => simp
  | cons x l ih =>
    simp only [List.map_cons, List.sum_cons, List.length_cons]
    have h1 : M.mcost x ≤ 26 + 8 * msz x := by
      unfold M.mcost M.clen msz
      cases x.code.map with
      | nil => simp; omega
      | cons y s => simp; omega
    omega
theorem Wok.of {c : Csi} (hok : c.Ok) (hb : ∀ k ∈ c.pool, k.bits < 2 ^ 64) (hs : c.size ≤ 32768) : Wok c ∧ M.mcosts c.methods ≤ 890000 ∧ (∀ m ∈ c.methods, M.clen m.code < 4294967296) ∧ ClsB c := by
  have e1 := texts_sum c.pool
  have e2 := mcosts_size c.methods
  have e3 : c.size = c.pool.length + c.ifaces.length + c.fields.length + c.methods.length + (c.pool.map ksz).sum + (c.methods.map msz).sum := rfl
  have e4 : c.cost = 14 + 2 * c.ifaces.length + 16 * c.fields.length + M.mcosts c.methods := rfl
  have e5 : ∀ m ∈ c.methods, msz m ≤ 32768 := fun m hm => by have := sum_mem msz hm; omega
  refine ⟨⟨hok, ⟨by omega, hb⟩, by omega, by omega⟩, by omega, fun m hm => ?_, ⟨by omega, by omega, by omega, by omega, fun m hm => ?_⟩⟩
  · have := e5 m hm
    unfold msz at this
    unfold M.clen
    split <;> omega
  · have := e5 m hm
    unfold msz at this
    omega
end Go.Proofs.Ytgihfcjddkpkaaa.Cl
namespace Go.Proofs.Ytgihfcjddkpkaaa.Cl
set_option linter.unusedVariables false
set_option linter.unusedSimpArgs false
open Go.RowKit Go.Maps
set_option maxRecDepth 1000000 in
set_option maxHeartbeats 8000000 in
theorem writes_walk (c : Csi) (vp vi vf vm : Value) (L : List Mv) (w : World) (hC : Cin w c vp vi vf vm L) (hok : c.Ok) (hbits : ∀ k ∈ c.pool, k.bits < 2 ^ 64) (hs : c.size ≤ 4000000) :
    Calls Try.prog 7 #[clv c vp vi vf vm] w fun r w' => r = .returned (.bool true) ∧ Below w.heap.size w w' := by
  unfold clv
  have HC := hide hC
  obtain ⟨pa, pc, rfl, _⟩ := hC.p.ex
  obtain ⟨ia, ic, rfl, _⟩ := hC.i
  obtain ⟨fa, fc, rfl, _⟩ := hC.f
  obtain ⟨ma, mc, rfl, _⟩ := hC.m
  obtain ⟨wA, hwA⟩ : ∃ wA, wA = w.alloc (.cells #[.int .u16 (c.minor : Int), .int .u16 (c.major : Int), .int .u16 (c.flags : Int), .int .u16 (c.this : Int), .int .u16 (c.super : Int), .slice pa c.pool.length pc, .slice ia c.ifaces.length ic, .slice fa c.fields.length fc, .slice ma L.length mc] 44) := ⟨_, rfl⟩
  have hbA : Below w.heap.size w wA := by rw [hwA]; exact (Below.refl _ _).alloc (Nat.le_refl _) _
  have b0 : Bk wA w.heap.size #[.int .u16 (c.minor : Int), .int .u16 (c.major : Int), .int .u16 (c.flags : Int), .int .u16 (c.this : Int), .int .u16 (c.super : Int), .slice pa c.pool.length pc, .slice ia c.ifaces.length ic, .slice fa c.fields.length fc, .slice ma L.length mc] 44 := by rw [hwA]; exact Bk.new w _ _
  have hS := size_any c _ _ _ _ L wA (hC.below hbA) hs
  unfold clv at hS
  have HS := hide hS
  have HO := hide (hC.below hbA)
  have c0 := b0.cell 0
  have c1 := b0.cell 1
  have c2 := b0.cell 2
  have c3 := b0.cell 3
  have c4 := b0.cell 4
  have c5 := b0.cell 5
  have c6 := b0.cell 6
  have c7 := b0.cell 7
  have c8 := b0.cell 8
  simp at c0 c1 c2 c3 c4 c5 c6 c7 c8
  have HA := hide hwA
  have HB := hide b0
  have HBl := hide hbA
  have Hok := hide hok
  have Hbits := hide hbits
  clear hwA b0 hbA hC hS hok hbits
  go_enter Try.func7, Try.ntmps7
  go_upto_region 1 with fail
  rw [← unhide HA]
  clear HA
  go_wp2_with fail
  refine (unhide HS).mono ?_
  rintro e w1 ⟨rfl, hb1⟩
  clear HS c0 c1 c2 c3 c4 c5 c6 c7 c8
  have B1 := hide ((unhide HB).below hb1)
  have L1 := hide ((unhide HBl).trans (hb1.mono (unhide HBl).size))
  clear hb1 HB HBl
  by_cases hgt : ¬ c.size ≤ 32768
  · have n0 : decide (32768 < (c.size : Int)) = true := decide_eq_true (by omega)
    clear hgt
    go_wp2
    go_ret
    exact ⟨rfl, unhide L1⟩
  · replace hgt : c.size ≤ 32768 := Decidable.not_not.1 hgt
    have n0 : decide (32768 < (c.size : Int)) = false := decide_eq_false (by omega)
    obtain ⟨hwok, hmc, hcl, hcb⟩ := Wok.of (unhide Hok) (unhide Hbits) hgt
    have Hwok := hide hwok
    have Hcl := hide hcl
    have Hcb := hide hcb
    have Hmc := hide hmc
    have hT := another_any c _ _ _ _ L w1 ((unhide HC).below (unhide L1)) (by omega)
    unfold clv at hT
    have HT := hide hT
    have c0 := (unhide B1).cell 0
    have c1 := (unhide B1).cell 1
    have c2 := (unhide B1).cell 2
    have c3 := (unhide B1).cell 3
    have c4 := (unhide B1).cell 4
    have c5 := (unhide B1).cell 5
    have c6 := (unhide B1).cell 6
    have c7 := (unhide B1).cell 7
    have c8 := (unhide B1).cell 8
    simp at c0 c1 c2 c3 c4 c5 c6 c7 c8
    clear hwok hmc hcl hcb hgt hT
    go_wp2_with fail
    refine (unhide HT).mono ?_
    rintro e w2 ⟨vp2, vi2, vf2, vm2, L2, rfl, hC2, hb2⟩
    clear HT c0 c1 c2 c3 c4 c5 c6 c7 c8 n0
    have HC2 := hide hC2
    obtain ⟨pa2, pc2, rfl, _⟩ := hC2.p.ex
    obtain ⟨ia2, ic2, rfl, _⟩ := hC2.i
    obtain ⟨fa2, fc2, rfl, _⟩ := hC2.f
    obtain ⟨ma2, mc2, rfl, _⟩ := hC2.m
    have L2b := hide ((unhide L1).trans (hb2.mono (unhide L1).size))
    have B2 := hide ((unhide B1).below hb2)
    clear hC2 hb2 B1 L1
    obtain ⟨w3, hw3⟩ : ∃ w3, w3 = w2.alloc (.cells #[.int .u16 (c.minor : Int), .int .u16 (c.major : Int), .int .u16 (c.flags : Int), .int .u16 (c.this : Int), .int .u16 (c.super : Int), .slice pa2 c.pool.length pc2, .slice ia2 c.ifaces.length ic2, .slice fa2 c.fields.length fc2, .slice ma2 L2.length mc2] 44) := ⟨_, rfl⟩
    have B3 : Bk w3 w.heap.size #[.int .u16 (c.minor : Int), .int .u16 (c.major : Int), .int .u16 (c.flags : Int), .int .u16 (c.this : Int), .int .u16 (c.super : Int), .slice pa c.pool.length pc, .slice ia c.ifaces.length ic, .slice fa c.fields.length fc, .slice ma L.length mc] 44 := by rw [hw3]; exact (unhide B2).alloc _
    have D3 : Bk w3 w2.heap.size #[.int .u16 (c.minor : Int), .int .u16 (c.major : Int), .int .u16 (c.flags : Int), .int .u16 (c.this : Int), .int .u16 (c.super : Int), .slice pa2 c.pool.length pc2, .slice ia2 c.ifaces.length ic2, .slice fa2 c.fields.length fc2, .slice ma2 L2.length mc2] 44 := by rw [hw3]; exact Bk.new w2 _ _
    have L3 : Below w.heap.size w w3 := by rw [hw3]; exact (unhide L2b).alloc (unhide L2b).size _
    have M3 : Below w2.heap.size w2 w3 := by rw [hw3]; exact (Below.refl _ _).alloc (Nat.le_refl _) _
    have Q3 : Cin w3 c _ _ _ _ L2 := (unhide HC2).below M3
    have Hw3 := hide hw3
    have HB3 := hide B3
    have HD3 := hide D3
    have HL3 := hide L3
    have HQ3 := hide Q3
    clear hw3 B3 D3 L3 M3 Q3 L2b B2 HC2
    go_upto_region 4 with fail
    rw [← unhide Hw3]
    clear Hw3
    have hT := Write_any c _ _ _ _ L w3 ((unhide HC).below (unhide HL3)) (unhide Hwok)
    unfold clv at hT
    have HT := hide hT
    have c0 := (unhide HB3).cell 0
    have c1 := (unhide HB3).cell 1
    have c2 := (unhide HB3).cell 2
    have c3 := (unhide HB3).cell 3
    have c4 := (unhide HB3).cell 4
    have c5 := (unhide HB3).cell 5
    have c6 := (unhide HB3).cell 6
    have c7 := (unhide HB3).cell 7
    have c8 := (unhide HB3).cell 8
    simp at c0 c1 c2 c3 c4 c5 c6 c7 c8
    clear hT
    go_wp2_with fail
    refine (unhide HT).mono ?_
    rintro e w4 ⟨bs, x, k, hr4, rfl, hb4⟩
    clear HT c0 c1 c2 c3 c4 c5 c6 c7 c8
    have HB4 := hide ((unhide HB3).below hb4)
    have HD4 := hide ((unhide HD3).below hb4)
    have HL4 := hide ((unhide HL3).trans (hb4.mono (unhide HL3).size))
    have HQ4 := hide ((unhide HQ3).below hb4)
    have Hr4 := hide hr4
    have hT := RWrite_any c _ _ _ _ L2 w4 (unhide HQ4) (unhide Hwok) (unhide Hmc)
    unfold clv at hT
    have HT := hide hT
    have c0 := (unhide HD4).cell 0
    have c1 := (unhide HD4).cell 1
    have c2 := (unhide HD4).cell 2
    have c3 := (unhide HD4).cell 3
    have c4 := (unhide HD4).cell 4
    have c5 := (unhide HD4).cell 5
    have c6 := (unhide HD4).cell 6
    have c7 := (unhide HD4).cell 7
    have c8 := (unhide HD4).cell 8
    simp at c0 c1 c2 c3 c4 c5 c6 c7 c8
    clear hT hb4 hr4 HB3 HD3 HL3 HQ3
    obtain ⟨s, n, hsn⟩ : ∃ s n, M.wout c bs x = (n, s) := ⟨_, _, rfl⟩
    have s1 : (M.wout c bs x).1 = n := by rw [hsn]
    have s2 : (M.wout c bs x).2 = s := by rw [hsn]
    rw [s1, s2]
    clear hsn
    have S1 := hide s1
    have S2 := hide s2
    clear s1 s2
    go_wp2_with fail
    refine (unhide HT).mono ?_
    rintro e w5 ⟨bs', x', k', hr5, he5, hb5⟩
    rw [out_same c (unhide Hwok) (unhide Hcl) (unhide Hr4) hr5, unhide S1, unhide S2] at he5
    subst he5
    clear HT c0 c1 c2 c3 c4 c5 c6 c7 c8 Hr4 S1 S2 hr5
    have HB5 := hide ((unhide HB4).below hb5)
    have HD5 := hide ((unhide HD4).below hb5)
    have HL5 := hide ((unhide HL4).trans (hb5.mono (unhide HL4).size))
    have HQ5 := hide ((unhide HQ4).below hb5)
    have hT := sameClass_eq c _ _ _ _ _ _ _ _ L L2 w5 ((unhide HC).below (unhide HL5)) (unhide HQ5) (unhide Hcb)
    unfold clvv at hT
    have HT := hide hT
    have c0 := (unhide HB5).cell 0
    have c1 := (unhide HB5).cell 1
    have c2 := (unhide HB5).cell 2
    have c3 := (unhide HB5).cell 3
    have c4 := (unhide HB5).cell 4
    have c5 := (unhide HB5).cell 5
    have c6 := (unhide HB5).cell 6
    have c7 := (unhide HB5).cell 7
    have c8 := (unhide HB5).cell 8
    have d0 := (unhide HD5).cell 0
    have d1 := (unhide HD5).cell 1
    have d2 := (unhide HD5).cell 2
    have d3 := (unhide HD5).cell 3
    have d4 := (unhide HD5).cell 4
    have d5 := (unhide HD5).cell 5
    have d6 := (unhide HD5).cell 6
    have d7 := (unhide HD5).cell 7
    have d8 := (unhide HD5).cell 8
    simp at c0 c1 c2 c3 c4 c5 c6 c7 c8 d0 d1 d2 d3 d4 d5 d6 d7 d8
    clear hT hb5 HB4 HD4 HL4 HQ4
    go_wp2_with fail
    refine (unhide HT).mono ?_
    rintro e w6 ⟨rfl, hb6⟩
    clear HT c0 c1 c2 c3 c4 c5 c6 c7 c8 d0 d1 d2 d3 d4 d5 d6 d7 d8
    have HL6 := hide ((unhide HL5).trans (hb6.mono (unhide HL5).size))
    clear hb6
    go_wp2
    go_ret
    exact ⟨rfl, unhide HL6⟩
end Go.Proofs.Ytgihfcjddkpkaaa.Cl
namespace Go.Proofs.Ytgihfcjddkpkaaa.classWrites
open Go.ChangeShapes Go.WideShapes Go.ChangeAt Go.RowKit Cl
set_option linter.unusedVariables false
set_option linter.unusedSimpArgs false

theorem own : ownKnob Try.prog.godebug = none := by kernel_rfl
theorem laidOut : laidOutB Try.prog = true := by kernel_rfl
theorem u3 : Try.prog.underlying 3 = some (.int .i64) := by kernel_rfl
theorem u4 : Try.prog.underlying 4 = some .bool := by kernel_rfl
theorem u5 : Try.prog.underlying 5 = some (.int .u8) := by kernel_rfl
theorem u9 : Try.prog.underlying 9 = some .string := by kernel_rfl
theorem u73 : Try.prog.underlying 73 = some (.int .u64) := by kernel_rfl
theorem u39 : Try.prog.underlying 39 = some (.int .u16) := by kernel_rfl
theorem c3 : Try.prog.cellsOf 3 = 1 := by kernel_rfl
theorem c4 : Try.prog.cellsOf 4 = 1 := by kernel_rfl
theorem c5 : Try.prog.cellsOf 5 = 1 := by kernel_rfl
theorem c9 : Try.prog.cellsOf 9 = 1 := by kernel_rfl
theorem c73 : Try.prog.cellsOf 73 = 1 := by kernel_rfl
theorem c39 : Try.prog.cellsOf 39 = 1 := by kernel_rfl
theorem c78 : Try.prog.cellsOf 78 = 5 := by kernel_rfl
theorem c95 : Try.prog.cellsOf 95 = 4 := by kernel_rfl
theorem c101 : Try.prog.cellsOf 101 = 9 := by kernel_rfl
theorem c99 : Try.prog.cellsOf 99 = 5 := by kernel_rfl
theorem c97 : Try.prog.cellsOf 97 = 1 := by kernel_rfl
theorem c152 : Try.prog.cellsOf 152 = 4 := by kernel_rfl
theorem c22 : Try.prog.cellsOf 22 = 1 := by kernel_rfl
theorem c40 : Try.prog.cellsOf 40 = 1 := by kernel_rfl
theorem c41 : Try.prog.cellsOf 41 = 1 := by kernel_rfl
theorem c42 : Try.prog.cellsOf 42 = 1 := by kernel_rfl
theorem c44 : Try.prog.cellsOf 44 = 9 := by kernel_rfl
theorem b8 {n : Int} (h : (Lit.int .u8 n).wf = true) : 0 ≤ n ∧ n ≤ 255 := by simpa [Lit.wf, IntKind.min, IntKind.max, IntKind.signed, IntKind.bits] using h
theorem b16 {n : Int} (h : (Lit.int .u16 n).wf = true) : 0 ≤ n ∧ n ≤ 65535 := by simpa [Lit.wf, IntKind.min, IntKind.max, IntKind.signed, IntKind.bits] using h
theorem b64 {n : Int} (h : (Lit.int .u64 n).wf = true) : 0 ≤ n ∧ n ≤ 18446744073709551615 := by simpa [Lit.wf, IntKind.min, IntKind.max, IntKind.signed, IntKind.bits] using h
theorem bi {n : Int} (h : (Lit.int .i64 n).wf = true) : Okx n := by
  have h1 : -9223372036854775808 ≤ n ∧ n ≤ 9223372036854775807 := by simpa [Lit.wf, IntKind.min, IntKind.max, IntKind.signed, IntKind.bits] using h
  exact ⟨h1.1, by omega⟩
section
variable {H : Type} {enc : TypeId × Value → H} {w : World}
/-- Whatever is read is of bulk 1 at least. -/
theorem bulk_pos (d : DataW H) : 1 ≤ Rows.uptoBulk d := by
  cases d with
  | lit l => cases l <;> simp [Rows.uptoBulk]
  | _ => simp [Rows.uptoBulk]
theorem bulk_in {d : DataW H} {l : List (DataW H)} (h : d ∈ l) : Rows.uptoBulk d ≤ Rows.uptoBulkAll l := by
  induction l with
  | nil => cases h
  | cons x r ih =>
    rw [Rows.uptoBulkAll]
    rcases List.mem_cons.1 h with rfl | h
    · omega
    · have := ih h; omega
theorem bulk_sum {α : Type} (g : α → Nat) (F : Nat → α) (D : Nat → DataW H) : ∀ l : List Nat, (∀ i ∈ l, g (F i) + 1 ≤ Rows.uptoBulk (D i)) → ((l.map F).map g).sum + l.length ≤ Rows.uptoBulkAll (l.map D)
  | [], _ => by simp
  | i :: l, h => by
    have h1 := bulk_sum g F D l (fun j hj => h j (List.mem_cons_of_mem _ hj))
    have h2 := h i List.mem_cons_self
    simp only [List.map_cons, List.sum_cons, List.length_cons, Rows.uptoBulkAll]
    omega
/-- A list of structs, from what it reads as. -/
theorem is_slice {α : Type} {f : α → List Value} {z : Nat} {d0 : α} {g : α → Nat} {Q : α → Prop} {t e : TypeId} (hu : Try.prog.underlying t = some (.slice e)) (hz : Try.prog.cellsOf e = z) (h0 : 0 < z)
    (one : ∀ {n : Nat} {cs : List Value} {d : DataW H} {pl : List MemPlace}, DataW.trod enc Try.prog w 0 (fun _ => true) true n e cs = some (d, pl) → ∃ x : α, cs = f x ∧ Q x ∧ g x + 1 ≤ Rows.uptoBulk d)
    {v : Value} {fuel : Nat} {d : DataW H} {pl : List MemPlace} (h : DataW.trod enc Try.prog w 0 (fun _ => true) true fuel t [v] = some (d, pl)) :
    ∃ l : List α, FIn f z d0 w v l ∧ (∀ x ∈ l, Q x) ∧ (l.map g).sum + l.length + 1 ≤ Rows.uptoBulk d := by
  rcases Go.Deep.open_slice hu h with ⟨h0, hd⟩ | ⟨x, len, cap', m, n, D, Pl, hcs, hb, hl, hm, hmm, hx, hall⟩
  · simp only [List.cons.injEq, and_true] at h0
    subst h0
    exact ⟨[], ⟨none, 0, rfl, fun hne => absurd rfl hne⟩, (fun _ h => by cases h), by simpa using bulk_pos d⟩
  simp only [List.cons.injEq, and_true] at hcs
  subst hcs
  simp only [if_true] at hmm
  subst hmm
  simp only [Prod.mk.injEq] at hx
  rw [hx.1, Rows.uptoBulk]
  have each : ∀ i, i < len → ∃ c : α, (∀ j, j < z → w.cell? (x.add (i * z + j)) = (f c)[j]?) ∧ (f c).length = z ∧ Q c ∧ g c + 1 ≤ Rows.uptoBulk (D i) := fun i hi => by
    obtain ⟨cs', g1, g2⟩ := hall i (by omega)
    rw [hz] at g1
    obtain ⟨_, g4, g3⟩ := World.cells?_some g1
    obtain ⟨c, rfl, hc⟩ := one g2
    exact ⟨c, fun j hj => by rw [← Go.Deep.add_add]; exact g3 j hj, g4, hc⟩
  haveI : Inhabited α := ⟨d0⟩
  obtain ⟨F, hF⟩ := Go.Deep.choose_lt each
  obtain ⟨b, off, spot⟩ := x
  refine ⟨(List.range len).map F, ⟨some ⟨b, off, spot⟩, m, by simp, fun hne => ?_⟩, fun c hc => ?_, ?_⟩
  · have hpos : 0 < len := by
      rcases Nat.eq_zero_or_pos len with e | e
      · subst e; simp at hne
      · exact e
    have h00 := (hF 0 hpos).1 0 h0
    have hlen := (hF 0 hpos).2.1
    have hspot : spot = none := by
      have h1 : (f (F 0))[0]? = some ((f (F 0))[0]'(by omega)) := List.getElem?_eq_getElem _
      rw [h1] at h00
      have := World.cell?_spot h00
      simpa [Addr.add] using this
    subst hspot
    refine ⟨b, off, rfl, fun k hk i hi => ?_⟩
    have hk' : k < len := by simpa using hk
    have := (hF k hk').1 i hi
    rw [Addr.add_lit] at this
    rw [show off + k * z + i = off + (k * z + i) by omega, this]
    simp [List.getD, hk']
  · obtain ⟨i, hi, rfl⟩ := List.mem_map.1 hc
    exact (hF i (List.mem_range.1 hi)).2.2.1
  · have := bulk_sum g F D (List.range len) (fun i hi => (hF i (List.mem_range.1 hi)).2.2.2)
    rw [List.length_range] at this
    rw [List.length_map, List.length_range]
    omega
end
end Go.Proofs.Ytgihfcjddkpkaaa.classWrites
