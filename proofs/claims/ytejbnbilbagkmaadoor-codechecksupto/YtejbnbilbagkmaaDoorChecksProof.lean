/-
  CodeChecks: the row's second form, and its card: a list of instructions, a pool and a number, opened at every index.
-/
import Derived.Test.YtejbnbilbagkmaaDoorCards
import Derived.Test.YtejbnbilbagkmaaDoorTie
import Derived.Test.YtejbnbilbagkmaaDoorCv
import Derived.Deep.Slices
import Derived.SizedLaws
import Derived.WalkKit
import Derived.ProofKit
import Derived.OpenShut
import Derived.ChangeOld
import Derived.Below
import Derived.Deep.DeepHandedRow
import Derived.Lib.LaidTab
import Derived.Lib.LaidU8
import Derived.Deep.DeepLaidRun
namespace Go.Proofs.YtejbnbilbagkmaaDoor.codeChecks
open Go.ChangeShapes Go.WideShapes Go.ChangeAt Go.RowKit
set_option linter.unusedVariables false

theorem own : ownKnob Tryd.prog.godebug = none := by kernel_rfl
theorem laidOut : laidOutB Tryd.prog = true := by kernel_rfl
theorem u3 : Tryd.prog.underlying 3 = some (.int .i64) := by kernel_rfl
theorem u4 : Tryd.prog.underlying 4 = some .bool := by kernel_rfl
theorem u5 : Tryd.prog.underlying 5 = some (.int .u8) := by kernel_rfl
theorem u9 : Tryd.prog.underlying 9 = some .string := by kernel_rfl
theorem u36 : Tryd.prog.underlying 36 = some (.int .u64) := by kernel_rfl
theorem u37 : Tryd.prog.underlying 37 = some (.int .u16) := by kernel_rfl
theorem c3 : Tryd.prog.cellsOf 3 = 1 := by kernel_rfl
theorem c4 : Tryd.prog.cellsOf 4 = 1 := by kernel_rfl
theorem c5 : Tryd.prog.cellsOf 5 = 1 := by kernel_rfl
theorem c9 : Tryd.prog.cellsOf 9 = 1 := by kernel_rfl
theorem c36 : Tryd.prog.cellsOf 36 = 1 := by kernel_rfl
theorem c37 : Tryd.prog.cellsOf 37 = 1 := by kernel_rfl
theorem c39 : Tryd.prog.cellsOf 39 = 5 := by kernel_rfl
theorem c48 : Tryd.prog.cellsOf 48 = 1 := by kernel_rfl
theorem c50 : Tryd.prog.cellsOf 50 = 8 := by kernel_rfl
section
variable {H : Type} {enc : TypeId × Value → H} {w : World}
/-- Whatever is read is of bulk 1 at least. -/
theorem bulk_pos (d : DataW H) : 1 ≤ Rows.uptoBulk d := by
  cases d with
  | lit l => cases l <;> simp [Rows.uptoBulk]
  | _ => simp [Rows.uptoBulk]
theorem bulk_in {d : DataW H} {l : List (DataW H)} (h : d ∈ l) : Rows.uptoBulk d ≤ Rows.uptoBulkAll l := by
  induction l with
  | nil => cases h
  | cons x r ih =>
    rw [Rows.uptoBulkAll]
    rcases List.mem_cons.1 h with rfl | h
    · omega
    · have := ih h; omega
theorem bulk_len (l : List (DataW H)) : l.length ≤ Rows.uptoBulkAll l := by
  induction l with
  | nil => simp
  | cons x r ih => rw [Rows.uptoBulkAll, List.length_cons]; have := bulk_pos x; omega
/-- A list of numbers, from what it reads as. -/
theorem ints_of {v : Value} {fuel : Nat} {d : DataW H} {pl : List MemPlace} (h : DataW.trod enc Tryd.prog w 0 (fun _ => true) true fuel 48 [v] = some (d, pl)) (hw : Rows.uptoBulk d ≤ 1048576) :
    ∃ xs : List Int, Cw.HasI w v xs ∧ xs.length ≤ 35184372088832 ∧ (∀ t ∈ xs, (Lit.int .i64 t).wf = true) ∧ ∀ ad n cap, v = .slice ad n cap → n ≤ cap := by
  rcases Go.Deep.open_slice1 Tryd.underlying48 c3 h with ⟨h0, _⟩ | ⟨x, len, cap, m, n, Vf, D, Pl, hcs, hb, hl, hm, hmm, hx, hall⟩
  · simp only [List.cons.injEq, and_true] at h0
    subst h0
    exact ⟨[], ⟨none, 0, rfl, fun hne => absurd rfl hne⟩, by simp, (fun _ h => by cases h), fun _ _ _ e => by cases e; exact Nat.le_refl _⟩
  · simp only [List.cons.injEq, and_true] at hcs
    subst hcs
    simp only [if_true] at hmm
    subst hmm
    simp only [Prod.mk.injEq] at hx
    have hln : len ≤ 1048576 := by
      rw [hx.1, Rows.uptoBulk] at hw
      have := bulk_len ((List.range len).map D)
      rw [List.length_map, List.length_range] at this
      omega
    have each : ∀ i, i < len → ∃ z : Int, w.cell? (x.add i) = some (.int .i64 z) ∧ (Lit.int .i64 z).wf = true := fun i hi => by
      obtain ⟨g1, g2⟩ := hall i (by omega)
      obtain ⟨z, e, _, hz⟩ := DataW.trod_int u3 g2
      simp only [List.cons.injEq, and_true] at e
      rw [e] at g1
      exact ⟨z, g1, hz⟩
    obtain ⟨f, hf⟩ := Go.Deep.choose_lt each
    obtain ⟨b, off, spot⟩ := x
    refine ⟨(List.range len).map f, ⟨some ⟨b, off, spot⟩, m, by simp, fun hne => ?_⟩, by simp; omega, fun t ht => ?_, fun _ _ _ e => by cases e; exact hl⟩
    · have hpos : 0 < len := by
        rcases Nat.eq_zero_or_pos len with e | e
        · subst e; simp at hne
        · exact e
      have h00 := (hf 0 hpos).1
      have hspot : spot = none := by
        have := World.cell?_spot (show w.cell? _ = some _ from h00)
        simpa [Addr.add] using this
      subst hspot
      refine ⟨b, off, rfl, fun k hk => ?_⟩
      have hk' : k < len := by simpa using hk
      have := (hf k hk').1
      rw [Addr.add_lit] at this
      rw [this]
      simp [List.getD_eq_getElem?_getD, hk']
    · obtain ⟨i, hi, rfl⟩ := List.mem_map.1 ht
      exact (hf i (List.mem_range.1 hi)).2
set_option maxRecDepth 100000 in
/-- One instruction, from what it reads as. -/
theorem one_ins {n : Nat} {cs : List Value} {d : DataW H} {pl : List MemPlace} (h : DataW.trod enc Tryd.prog w 0 (fun _ => true) true n 50 cs = some (d, pl)) (hw : Rows.uptoBulk d ≤ 1048576) :
    ∃ c : Cw.V, cs = c.arr.toList ∧ c.Wk w := by
  obtain ⟨xs, k, hk, hxy, hcl, hxl, hf⟩ := DataW.trod_struct Tryd.underlying50 h
  rw [c50] at hcl
  match xs, hxl, cs, hcl with
  | [y0, y1, y2, y3, y4, y5, y6, y7], _, [v0, v1, v2, v3, v4, v5, v6, v7], _ =>
    have g0 := hf 0 _ rfl
    have g1 := hf 1 _ rfl
    have g2 := hf 2 _ rfl
    have g3 := hf 3 _ rfl
    have g4 := hf 4 _ rfl
    have g5 := hf 5 _ rfl
    have g6 := hf 6 _ rfl
    have g7 := hf 7 _ rfl
    simp [c3, c4, c5, c48] at g0 g1 g2 g3 g4 g5 g6 g7
    obtain ⟨n0, e0, q0, p0⟩ := DataW.trod_int u3 g0
    obtain ⟨n1, e1, q1, p1⟩ := DataW.trod_int u5 g1
    obtain ⟨n2, e2, q2⟩ := DataW.trod_bool u4 g2
    obtain ⟨n3, e3, q3, p3⟩ := DataW.trod_int u3 g3
    obtain ⟨n4, e4, q4, p4⟩ := DataW.trod_int u3 g4
    obtain ⟨n5, e5, q5, p5⟩ := DataW.trod_int u3 g5
    simp only [List.cons.injEq, and_true] at e0 e1 e2 e3 e4 e5
    subst e0 e1 e2 e3 e4 e5 q0 q1 q2 q3 q4 q5
    simp only [Prod.mk.injEq] at hxy
    obtain ⟨hd, _⟩ := hxy
    obtain ⟨d6, l6⟩ := y6
    obtain ⟨d7, l7⟩ := y7
    simp only [List.map_cons, List.map_nil] at hd
    have h6 : Rows.uptoBulk d6 ≤ 1048576 := by
      have := bulk_in (d := d6) (l := [DataW.lit (Lit.int .i64 n0), DataW.lit (Lit.int .u8 n1), DataW.lit (Lit.bool n2), DataW.lit (Lit.int .i64 n3), DataW.lit (Lit.int .i64 n4), DataW.lit (Lit.int .i64 n5), d6, d7]) (by simp)
      rw [hd, Rows.uptoBulk] at hw
      omega
    have h7 : Rows.uptoBulk d7 ≤ 1048576 := by
      have := bulk_in (d := d7) (l := [DataW.lit (Lit.int .i64 n0), DataW.lit (Lit.int .u8 n1), DataW.lit (Lit.bool n2), DataW.lit (Lit.int .i64 n3), DataW.lit (Lit.int .i64 n4), DataW.lit (Lit.int .i64 n5), d6, d7]) (by simp)
      rw [hd, Rows.uptoBulk] at hw
      omega
    obtain ⟨ks, k1, k2, _, _⟩ := ints_of g6 h6
    obtain ⟨ts, t1, t2, t3, t4⟩ := ints_of g7 h7
    have b1 := bounds_u8 p1
    refine ⟨⟨⟨n0, n1.toNat, n2, n3, n4, n5, ks, ts⟩, v6, v7⟩, ?_, ⟨k1, t1, ?_, k2, t2, t3, t4⟩⟩
    · have t1 : ((n1.toNat : Nat) : Int) = n1 := by omega
      simp only [Cw.V.arr, t1]
    · simp only; omega
/-- The list, from what it reads as. -/
theorem is_list {a : Option Addr} {len cap fuel : Nat} {d : DataW H} {pl : List MemPlace} (h : DataW.trod enc Tryd.prog w 0 (fun _ => true) true fuel 29 [.slice a len cap] = some (d, pl)) (hw : Rows.uptoBulk d ≤ 1048576) :
    ∃ L : List Cw.V, Cw.WHas w (.slice a len cap) L ∧ L.length ≤ 1048576 := by
  rcases Go.Deep.open_slice Tryd.underlying29 h with ⟨h0, _⟩ | ⟨x, len', cap', m, n, D, Pl, hcs, hb, hl, hm, hmm, hx, hall⟩
  · simp only [List.cons.injEq, Value.slice.injEq, and_true] at h0
    obtain ⟨rfl, rfl, rfl⟩ := h0
    exact ⟨[], ⟨⟨none, 0, rfl, fun hne => absurd rfl hne⟩, fun _ h => by cases h⟩, by simp⟩
  simp only [List.cons.injEq, Value.slice.injEq, and_true] at hcs
  obtain ⟨rfl, rfl, rfl⟩ := hcs
  simp only [if_true] at hmm
  subst hmm
  simp only [Prod.mk.injEq] at hx
  rw [hx.1, Rows.uptoBulk] at hw
  have hwd : ∀ i, i < len → Rows.uptoBulk (D i) ≤ 1048576 := fun i hi => by
    have := bulk_in (d := D i) (l := (List.range len).map D) (List.mem_map.2 ⟨i, List.mem_range.2 hi, rfl⟩)
    omega
  have hln : len ≤ 1048576 := by
    have := bulk_len ((List.range len).map D)
    rw [List.length_map, List.length_range] at this
    omega
  have each : ∀ i, i < len → ∃ c : Cw.V, (∀ j, j < 8 → w.cell? (x.add (i * 8 + j)) = c.arr[j]?) ∧ c.Wk w := fun i hi => by
    obtain ⟨cs', g1, g2⟩ := hall i (by omega)
    rw [c50] at g1
    obtain ⟨_, _, g3⟩ := World.cells?_some g1
    obtain ⟨c, rfl, hc⟩ := one_ins g2 (hwd i hi)
    exact ⟨c, fun j hj => by rw [← Go.Deep.add_add, g3 j hj]; simp, hc⟩
  haveI : Inhabited Cw.V := ⟨⟨⟨0, 0, false, 0, 0, 0, [], []⟩, .slice none 0 0, .slice none 0 0⟩⟩
  obtain ⟨f, hf⟩ := Go.Deep.choose_lt each
  obtain ⟨b, off, spot⟩ := x
  refine ⟨(List.range len).map f, ⟨⟨some ⟨b, off, spot⟩, m, by simp, fun hne => ?_⟩, fun c hc => ?_⟩, by simp; omega⟩
  · have hpos : 0 < len := by
      rcases Nat.eq_zero_or_pos len with e | e
      · subst e; simp at hne
      · exact e
    have h00 := (hf 0 hpos).1 0 (by omega)
    have hspot : spot = none := by
      have := World.cell?_spot (show w.cell? _ = some _ from h00)
      simpa [Addr.add] using this
    subst hspot
    refine ⟨b, off, rfl, fun k hk i hi => ?_⟩
    have hk' : k < len := by simpa using hk
    have := (hf k hk').1 i hi
    rw [Addr.add_lit] at this
    rw [show off + k * 8 + i = off + (k * 8 + i) by omega, this]
    simp
  · obtain ⟨i, hi, rfl⟩ := List.mem_map.1 hc
    exact (hf i (List.mem_range.1 hi)).2
set_option maxRecDepth 100000 in
/-- One constant, from what it reads as. -/
theorem one_const {n : Nat} {cs : List Value} {d : DataW H} {pl : List MemPlace} (h : DataW.trod enc Tryd.prog w 0 (fun _ => true) true n 39 cs = some (d, pl)) (hw : Rows.uptoBulk d ≤ 1048576) :
    ∃ c : Kn.K, cs = c.cells ∧ c.text.length ≤ 1048576 ∧ c.tag < 256 ∧ c.a < 65536 ∧ c.b < 65536 := by
  obtain ⟨xs, k, hk, hxy, hcl, hxl, hf⟩ := DataW.trod_struct Tryd.underlying39 h
  rw [c39] at hcl
  match xs, hxl, cs, hcl with
  | [y0, y1, y2, y3, y4], _, [v0, v1, v2, v3, v4], _ =>
    have g0 := hf 0 _ rfl
    have g1 := hf 1 _ rfl
    have g2 := hf 2 _ rfl
    have g3 := hf 3 _ rfl
    have g4 := hf 4 _ rfl
    simp [c5, c9, c36, c37] at g0 g1 g2 g3 g4
    obtain ⟨n0, e0, q0, p0⟩ := DataW.trod_int u5 g0
    obtain ⟨s1, e1, q1, p1⟩ := DataW.trod_string u9 g1
    obtain ⟨n2, e2, q2, p2⟩ := DataW.trod_int u36 g2
    obtain ⟨n3, e3, q3, p3⟩ := DataW.trod_int u37 g3
    obtain ⟨n4, e4, q4, p4⟩ := DataW.trod_int u37 g4
    simp only [List.cons.injEq, and_true] at e0 e1 e2 e3 e4
    subst e0 e1 e2 e3 e4 q0 q1 q2 q3 q4
    simp only [Prod.mk.injEq] at hxy
    obtain ⟨hd, _⟩ := hxy
    simp only [List.map_cons, List.map_nil] at hd
    have b0 := bounds_u8 p0
    have b2 := bounds_u64 p2
    have b3 := bounds_u16 p3
    have b4 := bounds_u16 p4
    refine ⟨⟨n0.toNat, s1.data.toList, n2.toNat, n3.toNat, n4.toNat⟩, ?_, ?_, ?_, ?_, ?_⟩
    · have t0 : ((n0.toNat : Nat) : Int) = n0 := by omega
      have t2 : ((n2.toNat : Nat) : Int) = n2 := by omega
      have t3 : ((n3.toNat : Nat) : Int) = n3 := by omega
      have t4 : ((n4.toNat : Nat) : Int) = n4 := by omega
      simp only [Kn.K.cells, t0, t2, t3, t4, Array.toArray_toList]
    · rw [hd] at hw
      simp only [Rows.uptoBulk, Rows.uptoBulkAll] at hw
      simp only
      omega
    · simp only; omega
    · simp only; omega
    · simp only; omega
/-- The pool, from what it reads as. -/
theorem is_pool {v : Value} {fuel : Nat} {d : DataW H} {pl : List MemPlace} (h : DataW.trod enc Tryd.prog w 0 (fun _ => true) true fuel 30 [v] = some (d, pl)) (hw : Rows.uptoBulk d ≤ 1048576) :
    ∃ P : List Kn.K, Kn.KIn w v P ∧ P.length ≤ 1048576 ∧ Ck.Small P := by
  rcases Go.Deep.open_slice Tryd.underlying30 h with ⟨h0, _⟩ | ⟨x, len, cap', m, n, D, Pl, hcs, hb, hl, hm, hmm, hx, hall⟩
  · simp only [List.cons.injEq, and_true] at h0
    subst h0
    exact ⟨[], ⟨(fun _ h => by cases h), none, 0, rfl, fun hne => absurd rfl hne⟩, by simp, fun _ h => by cases h⟩
  simp only [List.cons.injEq, and_true] at hcs
  subst hcs
  simp only [if_true] at hmm
  subst hmm
  simp only [Prod.mk.injEq] at hx
  rw [hx.1, Rows.uptoBulk] at hw
  have hwd : ∀ i, i < len → Rows.uptoBulk (D i) ≤ 1048576 := fun i hi => by
    have := bulk_in (d := D i) (l := (List.range len).map D) (List.mem_map.2 ⟨i, List.mem_range.2 hi, rfl⟩)
    omega
  have hln : len ≤ 1048576 := by
    have := bulk_len ((List.range len).map D)
    rw [List.length_map, List.length_range] at this
    omega
  have each : ∀ i, i < len → ∃ c : Kn.K, (∀ j, j < 5 → w.cell? (x.add (i * 5 + j)) = c.cells[j]?) ∧ c.text.length ≤ 1048576 ∧ c.tag < 256 ∧ c.a < 65536 ∧ c.b < 65536 := fun i hi => by
    obtain ⟨cs', g1, g2⟩ := hall i (by omega)
    rw [c39] at g1
    obtain ⟨_, _, g3⟩ := World.cells?_some g1
    obtain ⟨c, rfl, hc⟩ := one_const g2 (hwd i hi)
    exact ⟨c, fun j hj => by rw [← Go.Deep.add_add]; exact g3 j hj, hc⟩
  haveI : Inhabited Kn.K := ⟨Kn.K.zero⟩
  obtain ⟨f, hf⟩ := Go.Deep.choose_lt each
  obtain ⟨b, off, spot⟩ := x
  refine ⟨(List.range len).map f, ⟨fun c hc => ?_, some ⟨b, off, spot⟩, m, by simp, fun hne => ?_⟩, by simp; omega, fun c hc => ?_⟩
  · obtain ⟨i, hi, rfl⟩ := List.mem_map.1 hc
    exact (hf i (List.mem_range.1 hi)).2.2
  · have hpos : 0 < len := by
      rcases Nat.eq_zero_or_pos len with e | e
      · subst e; simp at hne
      · exact e
    have h00 := (hf 0 hpos).1 0 (by omega)
    have hspot : spot = none := by
      have := World.cell?_spot (show w.cell? _ = some _ from h00)
      simpa [Addr.add] using this
    subst hspot
    refine ⟨b, off, rfl, fun k hk i hi => ?_⟩
    have hk' : k < len := by simpa using hk
    have := (hf k hk').1 i hi
    rw [Addr.add_lit] at this
    rw [show off + k * 5 + i = off + (k * 5 + i) by omega, this]
    simp [List.getD, hk']
  · obtain ⟨i, hi, rfl⟩ := List.mem_map.1 hc
    exact (hf i (List.mem_range.1 hi)).2.1
end
/-- A WORLD FOR THE WITNESS, of the settled one: the two tables of unicode/utf8 as their initialisers lay them. -/
def laid (w0 : World) : World :=
  let put (h : Array Obj) (g : Nat) (cs : Array Value) : Array Obj := h.modify g fun
    | .cells _ t frozen => .cells cs t frozen
    | o => o
  { w0 with heap := put (put w0.heap 1 (Lib.firstTab.map fun z => Value.int .u8 z).toArray) 2 ((List.range 16).flatMap fun i => [Value.int .u8 (Lib.accLo i), Value.int .u8 (Lib.accHi i)]).toArray }
theorem laid_met (os : Os) : laidMet Tryd.prog Rows.codeChecksUptoRow.laid ((laid (World.holding Tryd.prog os ⟨#[], #[], []⟩)).forCall (fun _ _ => 0) ⟨#[], #[.slice none 0 0, .slice none 0 0, .int .i64 0], []⟩).memory :=
  laidMet_of_run3 10 (by kernel_rfl) (by kernel_rfl) (by kernel_rfl)
theorem reads (os : Os) {H : Type} (enc : TypeId × Value → H) : ∃ places, DataW.whole enc Tryd.prog ((laid (World.holding Tryd.prog os ⟨#[], #[], []⟩)).forCall (fun _ _ => 0) ⟨#[], #[.slice none 0 0, .slice none 0 0, .int .i64 0], []⟩).memory Tryd.f5.params.toList Rows.codeChecksSpec.vars false #[Value.slice none 0 0, Value.slice none 0 0, Value.int .i64 0].toList 8 = some ([.nil, .nil, .lit (.int .i64 0)], [], places) :=
  ⟨[], by kernel_rfl⟩

set_option maxRecDepth 100000 in
theorem liftedUpto (os : Os) (started : os.Started) (H : Type) (enc : TypeId × Value → H) (F : Stop.Interp) :
    ReturnsInHanded {} Tryd.checked os 5 .any ((Rows.OpenSpec.upto Rows.codeChecksSpec).preRow enc Tryd.prog Tryd.f5 Rows.codeChecksUptoRow.domain false Rows.codeChecksUptoRow.laid) (((Rows.OpenSpec.upto Rows.codeChecksSpec).at F).post enc Tryd.prog Tryd.f5 false true false false) := by
  obtain ⟨places, hx⟩ := reads os enc
  refine returnsInHanded_of_row (C := Tryd.checked) (s := Rows.OpenSpec.upto Rows.codeChecksSpec) own started (by kernel_rfl) Tryd.func5
    (witness_row_at (enc := enc) (C := Tryd.checked) false (laid (World.holding Tryd.prog os ⟨#[], #[], []⟩)) #[.slice none 0 0, .slice none 0 0, .int .i64 0] rfl (by kernel_rfl) (by kernel_rfl) (by kernel_rfl)
      (OpenSpec.preRow_of_cond 8 hx (by kernel_rfl) (fun k hk => by cases hk; kernel_rfl) (by kernel_rfl) (laid_met os))) ?_
  intro W base args ds gs before hval0 hW _ hcond _ _ hsh _
  have hval : ∀ (j : Nat) t v, Tryd.f5.params[j]? = some t → args[j]? = some v → Value.okWide Tryd.prog W .any base t v := hval0
  have hW' := hW
  obtain ⟨p, q, hA0, hV, rfl, hfz, hnd⟩ := hW
  have hA : DataW.TrodAll enc Tryd.prog W 0 (fun _ => true) true Tryd.f5.params.toList args.toList ds p := hA0
  rw [Tryd.params5] at hA hval
  obtain ⟨v0, vs0, d0, ds0, p0, q0, hargs, rfl, rfl, h0, r0⟩ := trodAll_cons hA
  obtain ⟨v1, vs1, d1, ds1, p1, q1, rfl, rfl, rfl, h1, r1⟩ := trodAll_cons r0
  obtain ⟨v2, vs2, d2, ds2, p2, q2, rfl, rfl, rfl, h2, r2⟩ := trodAll_cons r1
  obtain ⟨rfl, rfl, rfl⟩ := trodAll_nil r2
  obtain rfl : args = #[v0, v1, v2] := by cases args; simp_all
  obtain ⟨rfl, rfl⟩ := trodVars_none hV
  have hbk := of_decide_eq_true (hcond _ rfl)
  simp only [List.append_nil, Rows.uptoBulkAll] at hbk
  obtain ⟨a0, len0, cap0, rfl⟩ := okWide_slice Tryd.underlying29 (hval 0 29 v0 rfl rfl)
  obtain ⟨a1, len1, cap1, rfl⟩ := okWide_slice Tryd.underlying30 (hval 1 30 v1 rfl rfl)
  obtain ⟨n2, rfl, rfl, rfl, hwf⟩ := open_int u3 (hval 2 3 v2 rfl rfl) h2
  have k0 := h0
  have k1 := h1
  have lt0 : ∀ x ∈ p0, x.block < W.heap.size := by obtain ⟨m, hm⟩ := k0; exact DataW.trod_lt m _ _ _ hm
  have lt1 : ∀ x ∈ p1, x.block < W.heap.size := by obtain ⟨m, hm⟩ := k1; exact DataW.trod_lt m _ _ _ hm
  have w0 : ∃ L : List Cw.V, Cw.WHas W (.slice a0 len0 cap0) L ∧ L.length ≤ 1048576 := by
    obtain ⟨fuel, hf⟩ := h0
    exact is_list (d := d0) (pl := p0) (fuel := fuel) hf (by omega)
  have w1 : ∃ P : List Kn.K, Kn.KIn W (.slice a1 len1 cap1) P ∧ P.length ≤ 1048576 ∧ Ck.Small P := by
    obtain ⟨fuel, hf⟩ := h1
    exact is_pool (d := d1) (pl := p1) (fuel := fuel) hf (by omega)
  clear hA0 hval0
  obtain ⟨L, hWh, hLl⟩ := w0
  obtain ⟨P, hKp, hPl, hSm⟩ := w1
  refine (Ck.checks_walk Ck.idx_all L (.slice a0 len0 cap0) (.slice a1 len1 cap1) P n2 W hWh hLl hKp hPl hSm (Tryd.laysM145.s1_3 W hsh) hwf).mono fun e W' ⟨he, bel⟩ => ?_
  subst he
  exact ⟨_, rfl, _, _, _, [], _, [], hW', trodAll_mk1 (shut_bool u4 _), (trodAll_cons_mk (Below.trod laidOut (by kernel_rfl) (of_decide_eq_true (by kernel_rfl)) k0 bel lt0) (trodAll_cons_mk (Below.trod laidOut (by kernel_rfl) (of_decide_eq_true (by kernel_rfl)) k1 bel lt1) (trodAll_cons_mk (shut_int u3 hwf) trodAll_mk0))), rfl, bel.frame _, fun h => by cases h⟩

theorem saidUpto : Rows.CodeChecksUptoSaid :=
  OpenClaim.holds_of_cond 5 Tryd.f5 rfl rfl rfl rfl rfl rfl rfl ⟨rfl, rfl, rfl, rfl, rfl⟩ rfl rfl rfl rfl rfl (by kernel_rfl) Tryd.func5 (by kernel_rfl)
    (of_decide_eq_true (by kernel_rfl)) (by unfold Func.isWrapper; first | (rw [if_pos (by decide +kernel)]; kernel_rfl) | (rw [if_neg (by decide +kernel)]; exact ⟨rfl, rfl⟩))
    (fun os started H enc _ F => by rw [OpenClaim.pre_eq_preRow]; exact liftedUpto os started H enc F)

theorem plain (f : FuncId) (fn : Func) (hf : Tryd.pinned.checked.prog.funcNamed "jvmcore/jvmcorelaw2.CodeChecks" = some f) (hfn : Tryd.pinned.checked.prog.funcs[f]? = some fn) :
    false = Tryd.pinned.checked.prog.looks [] ∧ ∀ (j : Nat) t, fn.params[j]? = some t → Tryd.pinned.checked.prog.wantsStandIn t = false := by
  obtain rfl : f = 5 := Option.some.inj ((show Tryd.prog.funcNamed "jvmcore/jvmcorelaw2.CodeChecks" = some 5 by kernel_rfl).symm.trans hf) |>.symm
  obtain rfl : fn = Tryd.f5 := (Option.some.inj (Tryd.func5.symm.trans hfn)).symm
  refine ⟨by kernel_rfl, fun j t ht => ?_⟩
  rw [Tryd.params5] at ht
  have hm : t ∈ #[29, 30, 3] := Array.mem_of_getElem? ht
  have ht2 : t = 29 ∨ t = 30 ∨ t = 3 := by simpa using hm
  rcases ht2 with rfl | rfl | rfl
  · exact (show Tryd.prog.wantsStandIn 29 = false by kernel_rfl)
  · exact (show Tryd.prog.wantsStandIn 30 = false by kernel_rfl)
  · exact (show Tryd.prog.wantsStandIn 3 = false by kernel_rfl)

/-- THE SECOND FORM's CARD. -/
theorem proved : Rows.CodeChecksUptoCardSaid :=
  Claim7.holds_tied_plain_at .later [] _ _ _ _ saidUpto (fun _ h => by cases h) (by kernel_rfl) (fun _ h => by cases h) codeChecksUpto_row_tie rfl ⟨rfl, rfl⟩ (by kernel_rfl) rfl plain (by kernel_rfl)
end Go.Proofs.YtejbnbilbagkmaaDoor.codeChecks
