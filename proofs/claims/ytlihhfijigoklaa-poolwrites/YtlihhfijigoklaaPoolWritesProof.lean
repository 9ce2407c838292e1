/-
  PoolWrites: the row: its argument, a list of structs, opened at every index; the walk is YtlihhfijigoklaaPoolWrites.
-/
import Derived.Test.YtlihhfijigoklaaRows
import Derived.Test.YtlihhfijigoklaaPoolWrites
import Derived.Deep.Slices
import Derived.SizedLaws
import Derived.WalkKit
import Derived.ProofKit
import Derived.OpenShut
import Derived.ShutString
import Derived.ChangeOld
import Derived.Below
namespace Go.Proofs.Ytlihhfijigoklaa.poolWrites
open Go.ChangeShapes Go.WideShapes Go.ChangeAt Go.RowKit
open Go.ChangeMaps (open_string shut_string)
set_option linter.unusedVariables false

theorem own : ownKnob Try.prog.godebug = none := by kernel_rfl
theorem laidOut : laidOutB Try.prog = true := by kernel_rfl

/-- A list of constants that came in: nil; or it leads to a row of cells that reads as l. -/
def IsList (w : World) (a : Option Addr) (len cap : Nat) : Prop :=
  (a = none ∧ len = 0 ∧ cap = 0) ∨ ∃ x, a = some x ∧ (0 < len → ∃ b off l, x = ⟨b, off, none⟩ ∧ l.length = len ∧ len ≤ 3518437208880 ∧ (∀ c ∈ l, Wide c) ∧ In w b off l)
theorem cell_lt {w : World} {a : Addr} {v : Value} (h : w.cell? a = some v) : a.block < w.heap.size := by
  rcases Nat.lt_or_ge a.block w.heap.size with g | g
  · exact g
  · unfold World.cell? at h; rw [Array.getElem?_eq_none g] at h; simp at h
theorem u5 : Try.prog.underlying 5 = some (.int .u8) := by kernel_rfl
theorem u9 : Try.prog.underlying 9 = some .string := by kernel_rfl
theorem u41 : Try.prog.underlying 41 = some (.int .u64) := by kernel_rfl
theorem u28 : Try.prog.underlying 28 = some (.int .u16) := by kernel_rfl
theorem c43 : Try.prog.cellsOf 43 = 5 := by kernel_rfl
theorem c5 : Try.prog.cellsOf 5 = 1 := by kernel_rfl
theorem c9 : Try.prog.cellsOf 9 = 1 := by kernel_rfl
theorem c41 : Try.prog.cellsOf 41 = 1 := by kernel_rfl
theorem c28 : Try.prog.cellsOf 28 = 1 := by kernel_rfl
theorem b43 : Try.prog.bytesOf 43 = 40 := by kernel_rfl
section
variable {H : Type} {enc : TypeId × Value → H} {w : World}
/-- One constant, from what it reads as. -/
theorem one_const {n : Nat} {cs : List Value} {d : DataW H} {pl : List MemPlace} (h : DataW.trod enc Try.prog w 0 (fun _ => true) true n 43 cs = some (d, pl)) (hw : ∀ m ∈ d.weights Try.prog 43, m ≤ reachBytes) :
    ∃ c : K, cs = c.cells ∧ Wide c := by
  obtain ⟨xs, k, hk, hxy, hcl, hxl, hf⟩ := DataW.trod_struct Try.underlying43 h
  rw [c43] at hcl
  match xs, hxl, cs, hcl with
  | [y0, y1, y2, y3, y4], _, [v0, v1, v2, v3, v4], _ =>
    have g0 := hf 0 _ rfl
    have g1 := hf 1 _ rfl
    have g2 := hf 2 _ rfl
    have g3 := hf 3 _ rfl
    have g4 := hf 4 _ rfl
    simp [c5, c9, c41, c28] at g0 g1 g2 g3 g4
    obtain ⟨n0, e0, q0, p0⟩ := DataW.trod_int u5 g0
    obtain ⟨s1, e1, q1, p1⟩ := DataW.trod_string u9 g1
    obtain ⟨n2, e2, q2, p2⟩ := DataW.trod_int u41 g2
    obtain ⟨n3, e3, q3, p3⟩ := DataW.trod_int u28 g3
    obtain ⟨n4, e4, q4, p4⟩ := DataW.trod_int u28 g4
    simp only [List.cons.injEq, and_true] at e0 e1 e2 e3 e4
    subst e0 e1 e2 e3 e4 q0 q1 q2 q3 q4
    simp only [Prod.mk.injEq] at hxy
    obtain ⟨hd, _⟩ := hxy
    have hs : s1.data.toList.length ≤ reachBytes := by
      refine hw _ ?_
      rw [hd]
      simp [DataW.weights, DataW.weightsEach, Try.underlying43]
    have b0 := bounds_u8 p0
    have b2 := bounds_u64 p2
    have b3 := bounds_u16 p3
    have b4 := bounds_u16 p4
    refine ⟨⟨n0.toNat, s1.data.toList, n2.toNat, n3.toNat, n4.toNat⟩, ?_, ⟨?_, ?_, ?_, ?_, ?_⟩⟩
    · have t0 : ((n0.toNat : Nat) : Int) = n0 := by omega
      have t2 : ((n2.toNat : Nat) : Int) = n2 := by omega
      have t3 : ((n3.toNat : Nat) : Int) = n3 := by omega
      have t4 : ((n4.toNat : Nat) : Int) = n4 := by omega
      simp only [K.cells, t0, t2, t3, t4, Array.toArray_toList]
    · simp only; omega
    · exact hs
    · simp only; omega
    · simp only; omega
    · simp only; omega
theorem all_weights {d : DataW H} {e : TypeId} : ∀ {ds : List (DataW H)}, d ∈ ds → ∀ m ∈ d.weights Try.prog e, m ∈ DataW.weightsAll Try.prog e ds
  | x :: ds, h, m, hm => by
    rw [DataW.weightsAll, List.mem_append]
    rcases List.mem_cons.1 h with rfl | h
    · exact .inl hm
    · exact .inr (all_weights h m hm)
/-- The list, from what it reads as. -/
theorem is_list {a : Option Addr} {len cap fuel : Nat} {d : DataW H} {pl : List MemPlace} (h : DataW.trod enc Try.prog w 0 (fun _ => true) true fuel 33 [.slice a len cap] = some (d, pl)) (hw : ∀ m ∈ d.weights Try.prog 33, m ≤ reachBytes) : IsList w a len cap := by
  rcases Go.Deep.open_slice Try.underlying33 h with ⟨h0, _⟩ | ⟨x, len', cap', m, n, D, Pl, hcs, hb, hl, hm, hmm, hx, hall⟩
  · simp only [List.cons.injEq, Value.slice.injEq, and_true] at h0
    exact .inl h0
  simp only [List.cons.injEq, Value.slice.injEq, and_true] at hcs
  obtain ⟨rfl, rfl, rfl⟩ := hcs
  simp only [if_true] at hmm
  subst hmm
  simp only [Prod.mk.injEq] at hx
  refine .inr ⟨x, rfl, fun hpos => ?_⟩
  have hwd : ∀ i, i < len → ∀ k ∈ (D i).weights Try.prog 43, k ≤ reachBytes := fun i hi k hk => by
    refine hw k ?_
    rw [hx.1]
    simp only [DataW.weights, Try.underlying33, List.mem_cons, List.mem_append]
    exact .inr (.inl (all_weights (List.mem_map.2 ⟨i, List.mem_range.2 hi, rfl⟩) k hk))
  have hln : len * 40 ≤ reachBytes := by
    have := hw (((List.range len).map D).length + ((List.range (m - len)).map fun j => D (len + j)).length |> (· * Try.prog.bytesOf 43)) (by rw [hx.1]; simp [DataW.weights, Try.underlying33])
    simp [b43] at this
    omega
  have each : ∀ i, i < len → ∃ c : K, (∀ j, j < 5 → w.cell? (x.add (i * 5 + j)) = c.cells[j]?) ∧ Wide c := fun i hi => by
    obtain ⟨cs', g1, g2⟩ := hall i (by omega)
    rw [c43] at g1
    obtain ⟨_, _, g3⟩ := World.cells?_some g1
    obtain ⟨c, rfl, hc⟩ := one_const g2 (hwd i hi)
    exact ⟨c, fun j hj => by rw [← Go.Deep.add_add]; exact g3 j hj, hc⟩
  haveI : Inhabited K := ⟨K.zero⟩
  obtain ⟨f, hf⟩ := Go.Deep.choose_lt each
  obtain ⟨b, off, spot⟩ := x
  have h00 := (hf 0 hpos).1 0 (by omega)
  have hspot : spot = none := by
    have := World.cell?_spot (show w.cell? _ = some _ from h00)
    simpa [Addr.add] using this
  subst hspot
  refine ⟨b, off, (List.range len).map f, rfl, by simp, by have : reachBytes = 140737488351232 := rfl; omega, ?_, ?_, ?_⟩
  · intro c hc
    obtain ⟨i, hi, rfl⟩ := List.mem_map.1 hc
    exact (hf i (List.mem_range.1 hi)).2
  · have := cell_lt (show w.cell? _ = some _ from h00)
    simpa [Addr.add] using this
  · intro j hj
    simp only [List.length_map, List.length_range] at hj
    have hq : j / 5 < len := by omega
    have h5 := (hf (j / 5) hq).1 (j % 5) (by omega)
    have hjj : j / 5 * 5 + j % 5 = j := by omega
    have := KC_at ((List.range len).map f) (j / 5) (j % 5) (by simp; omega) (by omega)
    rw [hjj] at this h5
    rw [this, ← Go.WideShapes.add_plain, h5]
    simp [List.getD, hq]
end
theorem walk (a0 : Option Addr) (len0 cap0 : Nat) (w : World) (w0 : IsList w a0 len0 cap0) :
    Calls Try.prog 7 #[.slice a0 len0 cap0] w fun e w' => e = .returned (.bool true) ∧ Below w.heap.size w w' := by
  rcases w0 with ⟨rfl, rfl, rfl⟩ | ⟨x, rfl, h⟩
  · exact PoolWrites_nil w
  by_cases hz : len0 = 0
  · subst hz; exact PoolWrites_none x cap0 w
  obtain ⟨b, off, l, rfl, rfl, h1, h2, h3⟩ := h (by omega)
  exact PoolWrites_main b off cap0 l w (by omega) h1 h2 h3

/-! ### THE ROW's STEP: WRITTEN OUT: LEAVE IT -/
set_option maxRecDepth 100000 in
theorem lifted (os : Os) (started : os.Started) (H : Type) (enc : TypeId × Value → H) :
    ReturnsInHanded {} Try.checked os 7 .any (Rows.poolWritesSpec.pre6 enc Try.prog Try.f7 Rows.poolWritesRow.domain false) (Rows.poolWritesSpec.post enc Try.prog Try.f7 false true false false) := by
  refine returnsInHanded_of_change_sized (C := Try.checked) own started (by kernel_rfl) Try.func7
    (ChangeSpec.witness6 (enc := enc) (C := Try.checked) false ⟨#[], #[.slice none 0 0], []⟩ 8 (by kernel_rfl) (by kernel_rfl) (by kernel_rfl) (by kernel_rfl)) ?_
  intro W base args ds gs before hval0 hW hcnd hsz _
  have hval : ∀ (j : Nat) t v, Try.f7.params[j]? = some t → args[j]? = some v → Value.okWide Try.prog W .any base t v := hval0
  have hW' := hW
  obtain ⟨p, q, hA0, hV, rfl, hfz, hnd⟩ := hW
  have hA : DataW.TrodAll enc Try.prog W 0 (fun _ => true) true Try.f7.params.toList args.toList ds p := hA0
  rw [Try.params7] at hA hval
  obtain ⟨v0, vs0, d0, ds0, p0, q0, hargs, rfl, rfl, h0, r0⟩ := trodAll_cons hA
  obtain ⟨rfl, rfl, rfl⟩ := trodAll_nil r0
  obtain rfl : args = #[v0] := by cases args; simp_all
  obtain ⟨rfl, rfl⟩ := trodVars_none hV
  obtain ⟨a0, len0, cap0, rfl⟩ := okWide_slice Try.underlying33 (hval 0 33 v0 rfl rfl)
  have k0 := h0
  have lt0 : ∀ x ∈ p0, x.block < W.heap.size := by obtain ⟨m, hm⟩ := k0; exact DataW.trod_lt m _ _ _ hm
  have w0 : IsList W a0 len0 cap0 := by
    obtain ⟨fuel, hf⟩ := h0
    refine is_list (d := d0) (pl := p0) (fuel := fuel) hf fun m hm => ?_
    have := List.all_eq_true.1 hsz m (DataW.weights_mem_each (j := 0) (t := 33) (d := d0) (by rw [Try.params7]; rfl) rfl m hm)
    simpa using this
  clear hA0 hval0
  refine (walk a0 len0 cap0 W w0).mono fun e W' ⟨he, bel⟩ => ?_
  subst he
  exact ⟨_, rfl, _, _, _, [], _, [], hW', trodAll_mk1 (shut_bool Try.underlying4 _), (trodAll_cons_mk (Below.trod laidOut (by kernel_rfl) (of_decide_eq_true (by kernel_rfl)) k0 bel lt0) trodAll_mk0), rfl, bel.frame _, fun h => by cases h⟩

theorem over : Rows.poolWritesRow.holds Try.pinned (OpenSpec.ofChange Rows.poolWritesSpec) :=
  OpenClaim.holds_of_wide 7 Try.f7 rfl rfl rfl rfl rfl rfl rfl ⟨rfl, rfl, rfl, rfl, rfl⟩ rfl rfl rfl rfl rfl (by kernel_rfl) Try.func7 (by kernel_rfl)
    (of_decide_eq_true (by kernel_rfl)) (by unfold Func.isWrapper; first | (rw [if_pos (by decide +kernel)]; kernel_rfl) | (rw [if_neg (by decide +kernel)]; exact ⟨rfl, rfl⟩))
    (fun os started H enc _ => lifted os started H enc)

/-- THE STATEMENT. -/
theorem proved : Rows.PoolWritesSaid := over
end Go.Proofs.Ytlihhfijigoklaa.poolWrites
