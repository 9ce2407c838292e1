/-
  CodeWrites: the row and the card: its argument, a list of structs that hold lists, opened at every index.
-/
import Derived.Test.YtpmonoenppfekabDoorCards
import Derived.Test.YtpmonoenppfekabDoorTie
import Derived.Test.YtpmonoenppfekabDoorWrites
import Derived.Deep.Slices
import Derived.SizedLaws
import Derived.WalkKit
import Derived.ProofKit
import Derived.OpenShut
import Derived.ChangeOld
import Derived.Below
import Derived.Deep.DeepHandedRow
import Derived.Lib.LaidTab
import Derived.FnData
namespace Go.Proofs.YtpmonoenppfekabDoor.codeWrites
open Go.ChangeShapes Go.WideShapes Go.ChangeAt Go.RowKit

theorem own : ownKnob Tryd.prog.godebug = none := by kernel_rfl
theorem laidOut : laidOutB Tryd.prog = true := by kernel_rfl
theorem gWord : Tryd.prog.globalNamed "jvmcore/code.word" = some 0 := by kernel_rfl
theorem gWordType : (Tryd.prog.globals[0]?).map (·.type) = some 92 := by kernel_rfl
theorem c92 : Tryd.prog.cellsOf 92 = 3 := by kernel_rfl
theorem c3 : Tryd.prog.cellsOf 3 = 1 := by kernel_rfl
theorem c4 : Tryd.prog.cellsOf 4 = 1 := by kernel_rfl
theorem c5 : Tryd.prog.cellsOf 5 = 1 := by kernel_rfl
theorem c33 : Tryd.prog.cellsOf 33 = 1 := by kernel_rfl
theorem c35 : Tryd.prog.cellsOf 35 = 8 := by kernel_rfl
theorem b3 : Tryd.prog.bytesOf 3 = 8 := by kernel_rfl
theorem b35 : Tryd.prog.bytesOf 35 = 88 := by kernel_rfl

set_option maxRecDepth 100000 in
/-- WHAT THE ROW's LIST GIVES: the word's cells. -/
theorem word {W : World} (h : laidMetH Tryd.prog Rows.codeWritesRow.laid W) : Wd W := by
  have h' : laidMet Tryd.prog [("jvmcore/code.word", Rows.laid_jvmcore_code_word)] W := h
  obtain ⟨ps, ⟨g', t', cs, fuel, p, q, hg', ht', hvar, hd, _, _⟩, _⟩ := h'
  obtain rfl := Option.some.inj (gWord.symm.trans hg')
  obtain rfl := Option.some.inj (gWordType.symm.trans ht')
  obtain ⟨xs, k, hk, hxy, hcl, hxl, hf⟩ := DataW.trod_struct Tryd.underlying92 hd
  rw [c92] at hcl
  have hv := fun i => World.var?_cell gWord hvar i
  obtain ⟨cs⟩ := cs
  match xs, hxl, cs, hcl with
  | [y0, y1, y2], _, [v0, v1, v2], _ =>
    have g0 := hf 0 _ rfl
    have g1 := hf 1 _ rfl
    have g2 := hf 2 _ rfl
    simp [c3] at g0 g1 g2
    obtain ⟨n0, e0, q0, p0⟩ := DataW.trod_int Tryd.underlying3 g0
    obtain ⟨n1, e1, q1, p1⟩ := DataW.trod_int Tryd.underlying3 g1
    obtain ⟨n2, e2, q2, p2⟩ := DataW.trod_int Tryd.underlying3 g2
    simp only [List.cons.injEq, and_true] at e0 e1 e2
    subst e0 e1 e2 q0 q1 q2
    simp only [Prod.mk.injEq, Rows.laid_jvmcore_code_word] at hxy
    obtain ⟨hd, _⟩ := hxy
    simp at hd
    obtain ⟨rfl, rfl, rfl⟩ := hd
    exact ⟨hv 0, hv 1, hv 2⟩
section
variable {H : Type} {enc : TypeId × Value → H} {w : World}
theorem all_weights {d : DataW H} {e : TypeId} : ∀ {ds : List (DataW H)}, d ∈ ds → ∀ m ∈ d.weights Tryd.prog e, m ∈ DataW.weightsAll Tryd.prog e ds
  | x :: ds, h, m, hm => by
    rw [DataW.weightsAll, List.mem_append]
    rcases List.mem_cons.1 h with rfl | h
    · exact .inl hm
    · exact .inr (all_weights h m hm)
theorem reach : reachBytes = 140737488351232 := rfl
/-- A list of numbers, from what it reads as. -/
theorem ints_of {v : Value} {fuel : Nat} {d : DataW H} {pl : List MemPlace} (h : DataW.trod enc Tryd.prog w 0 (fun _ => true) true fuel 33 [v] = some (d, pl)) (hw : ∀ m ∈ d.weights Tryd.prog 33, m ≤ reachBytes) :
    ∃ xs : List Int, HasI w v xs ∧ xs.length ≤ 35184372088832 ∧ (∀ t ∈ xs, (Lit.int .i64 t).wf = true) ∧ ∀ ad n cap, v = .slice ad n cap → n ≤ cap := by
  rcases Go.Deep.open_slice1 Tryd.underlying33 c3 h with ⟨h0, _⟩ | ⟨x, len, cap, m, n, Vf, D, Pl, hcs, hb, hl, hm, hmm, hx, hall⟩
  · simp only [List.cons.injEq, and_true] at h0
    subst h0
    exact ⟨[], ⟨none, 0, rfl, fun hne => absurd rfl hne⟩, by simp, (fun _ h => by cases h), fun _ _ _ e => by cases e; exact Nat.le_refl _⟩
  · simp only [List.cons.injEq, and_true] at hcs
    subst hcs
    simp only [if_true] at hmm
    subst hmm
    simp only [Prod.mk.injEq] at hx
    have hln : len * 8 ≤ reachBytes := by
      have := hw (((List.range len).map D).length + ((List.range (m - len)).map fun j => D (len + j)).length |> (· * Tryd.prog.bytesOf 3)) (by rw [hx.1]; simp [DataW.weights, Tryd.underlying33])
      simp [b3] at this
      omega
    have each : ∀ i, i < len → ∃ z : Int, w.cell? (x.add i) = some (.int .i64 z) ∧ (Lit.int .i64 z).wf = true := fun i hi => by
      obtain ⟨g1, g2⟩ := hall i (by omega)
      obtain ⟨z, e, _, hz⟩ := DataW.trod_int Tryd.underlying3 g2
      simp only [List.cons.injEq, and_true] at e
      rw [e] at g1
      exact ⟨z, g1, hz⟩
    obtain ⟨f, hf⟩ := Go.Deep.choose_lt each
    obtain ⟨b, off, spot⟩ := x
    refine ⟨(List.range len).map f, ⟨some ⟨b, off, spot⟩, m, by simp, fun hne => ?_⟩, by rw [reach] at hln; simp; omega, fun t ht => ?_, fun _ _ _ e => by cases e; exact hl⟩
    · have hpos : 0 < len := by
        rcases Nat.eq_zero_or_pos len with e | e
        · subst e; simp at hne
        · exact e
      have h00 := (hf 0 hpos).1
      have hspot : spot = none := by
        have := World.cell?_spot (show w.cell? _ = some _ from h00)
        simpa [Addr.add] using this
      subst hspot
      refine ⟨b, off, rfl, fun k hk => ?_⟩
      have hk' : k < len := by simpa using hk
      have := (hf k hk').1
      rw [Addr.add_lit] at this
      rw [this]
      simp [List.getD_eq_getElem?_getD, hk']
    · obtain ⟨i, hi, rfl⟩ := List.mem_map.1 ht
      exact (hf i (List.mem_range.1 hi)).2
set_option maxRecDepth 100000 in
/-- One instruction, from what it reads as. -/
theorem one_ins {n : Nat} {cs : List Value} {d : DataW H} {pl : List MemPlace} (h : DataW.trod enc Tryd.prog w 0 (fun _ => true) true n 35 cs = some (d, pl)) (hw : ∀ m ∈ d.weights Tryd.prog 35, m ≤ reachBytes) :
    ∃ c : V, cs = c.arr.toList ∧ c.Wk w := by
  obtain ⟨xs, k, hk, hxy, hcl, hxl, hf⟩ := DataW.trod_struct Tryd.underlying35 h
  rw [c35] at hcl
  match xs, hxl, cs, hcl with
  | [y0, y1, y2, y3, y4, y5, y6, y7], _, [v0, v1, v2, v3, v4, v5, v6, v7], _ =>
    have g0 := hf 0 _ rfl
    have g1 := hf 1 _ rfl
    have g2 := hf 2 _ rfl
    have g3 := hf 3 _ rfl
    have g4 := hf 4 _ rfl
    have g5 := hf 5 _ rfl
    have g6 := hf 6 _ rfl
    have g7 := hf 7 _ rfl
    simp [c3, c4, c5, c33] at g0 g1 g2 g3 g4 g5 g6 g7
    obtain ⟨n0, e0, q0, p0⟩ := DataW.trod_int Tryd.underlying3 g0
    obtain ⟨n1, e1, q1, p1⟩ := DataW.trod_int Tryd.underlying5 g1
    obtain ⟨n2, e2, q2⟩ := DataW.trod_bool Tryd.underlying4 g2
    obtain ⟨n3, e3, q3, p3⟩ := DataW.trod_int Tryd.underlying3 g3
    obtain ⟨n4, e4, q4, p4⟩ := DataW.trod_int Tryd.underlying3 g4
    obtain ⟨n5, e5, q5, p5⟩ := DataW.trod_int Tryd.underlying3 g5
    simp only [List.cons.injEq, and_true] at e0 e1 e2 e3 e4 e5
    subst e0 e1 e2 e3 e4 e5 q0 q1 q2 q3 q4 q5
    simp only [Prod.mk.injEq] at hxy
    obtain ⟨hd, _⟩ := hxy
    obtain ⟨d6, l6⟩ := y6
    obtain ⟨d7, l7⟩ := y7
    have h6 : ∀ m ∈ d6.weights Tryd.prog 33, m ≤ reachBytes := fun m hm => hw m (by
      rw [hd]
      simp only [List.map_cons, List.map_nil, DataW.weights, DataW.weightsEach, Tryd.underlying35]
      simp [hm])
    have h7 : ∀ m ∈ d7.weights Tryd.prog 33, m ≤ reachBytes := fun m hm => hw m (by
      rw [hd]
      simp only [List.map_cons, List.map_nil, DataW.weights, DataW.weightsEach, Tryd.underlying35]
      simp [hm])
    obtain ⟨ks, k1, k2, _, _⟩ := ints_of g6 h6
    obtain ⟨ts, t1, t2, t3, t4⟩ := ints_of g7 h7
    have b1 := bounds_u8 p1
    refine ⟨⟨⟨n0, n1.toNat, n2, n3, n4, n5, ks, ts⟩, v6, v7⟩, ?_, ⟨k1, t1, ?_, k2, t2, t3, t4⟩⟩
    · have t1 : ((n1.toNat : Nat) : Int) = n1 := by omega
      simp only [V.arr, t1]
    · simp only; omega
/-- The list, from what it reads as. -/
theorem is_list {a : Option Addr} {len cap fuel : Nat} {d : DataW H} {pl : List MemPlace} (h : DataW.trod enc Tryd.prog w 0 (fun _ => true) true fuel 27 [.slice a len cap] = some (d, pl)) (hw : ∀ m ∈ d.weights Tryd.prog 27, m ≤ reachBytes) :
    ∃ L : List V, WHas w (.slice a len cap) L ∧ L.length ≤ 35184372088832 := by
  rcases Go.Deep.open_slice Tryd.underlying27 h with ⟨h0, _⟩ | ⟨x, len', cap', m, n, D, Pl, hcs, hb, hl, hm, hmm, hx, hall⟩
  · simp only [List.cons.injEq, Value.slice.injEq, and_true] at h0
    obtain ⟨rfl, rfl, rfl⟩ := h0
    exact ⟨[], ⟨⟨none, 0, rfl, fun hne => absurd rfl hne⟩, fun _ h => by cases h⟩, by simp⟩
  simp only [List.cons.injEq, Value.slice.injEq, and_true] at hcs
  obtain ⟨rfl, rfl, rfl⟩ := hcs
  simp only [if_true] at hmm
  subst hmm
  simp only [Prod.mk.injEq] at hx
  have hwd : ∀ i, i < len → ∀ k ∈ (D i).weights Tryd.prog 35, k ≤ reachBytes := fun i hi k hk => by
    refine hw k ?_
    rw [hx.1]
    simp only [DataW.weights, Tryd.underlying27, List.mem_cons, List.mem_append]
    exact .inr (.inl (all_weights (List.mem_map.2 ⟨i, List.mem_range.2 hi, rfl⟩) k hk))
  have hln : len * 88 ≤ reachBytes := by
    have := hw (((List.range len).map D).length + ((List.range (m - len)).map fun j => D (len + j)).length |> (· * Tryd.prog.bytesOf 35)) (by rw [hx.1]; simp [DataW.weights, Tryd.underlying27])
    simp [b35] at this
    omega
  have each : ∀ i, i < len → ∃ c : V, (∀ j, j < 8 → w.cell? (x.add (i * 8 + j)) = c.arr[j]?) ∧ c.Wk w := fun i hi => by
    obtain ⟨cs', g1, g2⟩ := hall i (by omega)
    rw [c35] at g1
    obtain ⟨_, _, g3⟩ := World.cells?_some g1
    obtain ⟨c, rfl, hc⟩ := one_ins g2 (hwd i hi)
    exact ⟨c, fun j hj => by rw [← Go.Deep.add_add, g3 j hj]; simp, hc⟩
  haveI : Inhabited V := ⟨⟨⟨0, 0, false, 0, 0, 0, [], []⟩, .slice none 0 0, .slice none 0 0⟩⟩
  obtain ⟨f, hf⟩ := Go.Deep.choose_lt each
  obtain ⟨b, off, spot⟩ := x
  refine ⟨(List.range len).map f, ⟨⟨some ⟨b, off, spot⟩, m, by simp, fun hne => ?_⟩, fun c hc => ?_⟩, by rw [reach] at hln; simp; omega⟩
  · have hpos : 0 < len := by
      rcases Nat.eq_zero_or_pos len with e | e
      · subst e; simp at hne
      · exact e
    have h00 := (hf 0 hpos).1 0 (by omega)
    have hspot : spot = none := by
      have := World.cell?_spot (show w.cell? _ = some _ from h00)
      simpa [Addr.add] using this
    subst hspot
    refine ⟨b, off, rfl, fun k hk i hi => ?_⟩
    have hk' : k < len := by simpa using hk
    have := (hf k hk').1 i hi
    rw [Addr.add_lit] at this
    rw [show off + k * 8 + i = off + (k * 8 + i) by omega, this]
    simp
  · obtain ⟨i, hi, rfl⟩ := List.mem_map.1 hc
    exact (hf i (List.mem_range.1 hi)).2
end
/-- A WORLD FOR THE WITNESS: the settled one, the word as its initialiser lays it. -/
noncomputable def laidWorld (os : Os) : World :=
  { World.holding Tryd.prog os ⟨#[], #[], []⟩ with heap := (World.holding Tryd.prog os ⟨#[], #[], []⟩).heap.modify 0 fun
      | .cells _ t frozen => .cells #[.int .i64 4, .int .i64 (-2147483648), .int .i64 2147483647] t frozen
      | o => o }
theorem laid_met (os : Os) : laidMet Tryd.prog Rows.codeWritesRow.laid ((laidWorld os).forCall (fun _ _ => 0) ⟨#[], #[.slice none 0 0], []⟩).memory :=
  laidMet_of_run' 8 (by kernel_rfl) (by kernel_rfl)
theorem reads (os : Os) {H : Type} (enc : TypeId × Value → H) : ∃ places, DataW.whole enc Tryd.prog ((laidWorld os).forCall (fun _ _ => 0) ⟨#[], #[.slice none 0 0], []⟩).memory Tryd.f6.params.toList Rows.codeWritesSpec.vars false #[Value.slice none 0 0].toList 8 = some ([.nil], [], places) :=
  ⟨[], by kernel_rfl⟩

set_option maxRecDepth 100000 in
theorem lifted (os : Os) (started : os.Started) (H : Type) (enc : TypeId × Value → H) (F : Stop.Interp) :
    ReturnsInHanded {} Tryd.checked os 6 .any ((OpenSpec.ofChange Rows.codeWritesSpec).preRow enc Tryd.prog Tryd.f6 Rows.codeWritesRow.domain false Rows.codeWritesRow.laid) (((OpenSpec.ofChange Rows.codeWritesSpec).at F).post enc Tryd.prog Tryd.f6 false true false false) := by
  obtain ⟨places, hx⟩ := reads os enc
  refine returnsInHanded_of_row (C := Tryd.checked) (s := OpenSpec.ofChange Rows.codeWritesSpec) own started (by kernel_rfl) Tryd.func6
    (witness_row_at (enc := enc) (C := Tryd.checked) false (laidWorld os) #[.slice none 0 0] rfl (by kernel_rfl) (by kernel_rfl) (by kernel_rfl)
      (OpenSpec.preRow_of_cond 8 hx (by kernel_rfl) (fun k hk => by cases hk) (by kernel_rfl) (laid_met os))) ?_
  intro W base args ds gs before hval0 hW _ _ hsz hL _ _
  have hval : ∀ (j : Nat) t v, Tryd.f6.params[j]? = some t → args[j]? = some v → Value.okWide Tryd.prog W .any base t v := hval0
  have hW' := hW
  obtain ⟨p, q, hA0, hV, rfl, hfz, hnd⟩ := hW
  have hA : DataW.TrodAll enc Tryd.prog W 0 (fun _ => true) true Tryd.f6.params.toList args.toList ds p := hA0
  rw [Tryd.params6] at hA hval
  obtain ⟨v0, vs0, d0, ds0, p0, q0, hargs, rfl, rfl, h0, r0⟩ := trodAll_cons hA
  obtain ⟨rfl, rfl, rfl⟩ := trodAll_nil r0
  obtain rfl : args = #[v0] := by cases args; simp_all
  obtain ⟨rfl, rfl⟩ := trodVars_none hV
  obtain ⟨a0, len0, cap0, rfl⟩ := okWide_slice Tryd.underlying27 (hval 0 27 v0 rfl rfl)
  have k0 := h0
  have lt0 : ∀ x ∈ p0, x.block < W.heap.size := by obtain ⟨m, hm⟩ := k0; exact DataW.trod_lt m _ _ _ hm
  have w0 : ∃ L : List V, WHas W (.slice a0 len0 cap0) L ∧ L.length ≤ 35184372088832 := by
    obtain ⟨fuel, hf⟩ := h0
    refine is_list (d := d0) (pl := p0) (fuel := fuel) hf fun m hm => ?_
    have := List.all_eq_true.1 hsz m (DataW.weights_mem_each (j := 0) (t := 27) (d := d0) (by rw [Tryd.params6]; rfl) rfl m hm)
    simpa using this
  clear hA0 hval0
  obtain ⟨L, hWh, hLl⟩ := w0
  refine (writes_walk L (.slice a0 len0 cap0) W (word hL) hWh hLl).mono fun e W' ⟨he, bel⟩ => ?_
  subst he
  exact ⟨_, rfl, _, _, _, [], _, [], hW', trodAll_mk1 (shut_bool Tryd.underlying4 _), (trodAll_cons_mk (Below.trod laidOut (by kernel_rfl) (of_decide_eq_true (by kernel_rfl)) k0 bel lt0) trodAll_mk0), rfl, bel.frame _, fun h => by cases h⟩

theorem said : Rows.CodeWritesSaid :=
  OpenClaim.holds_of_cond 6 Tryd.f6 rfl rfl rfl rfl rfl rfl rfl ⟨rfl, rfl, rfl, rfl, rfl⟩ rfl rfl rfl rfl rfl (by kernel_rfl) Tryd.func6 (by kernel_rfl)
    (of_decide_eq_true (by kernel_rfl)) (by unfold Func.isWrapper; first | (rw [if_pos (by decide +kernel)]; kernel_rfl) | (rw [if_neg (by decide +kernel)]; exact ⟨rfl, rfl⟩))
    (fun os started H enc _ F => by rw [OpenClaim.pre_eq_preRow]; exact lifted os started H enc F)

theorem plain (f : FuncId) (fn : Func) (hf : Tryd.pinned.checked.prog.funcNamed "jvmcore/jvmcorelaw2.CodeWrites" = some f) (hfn : Tryd.pinned.checked.prog.funcs[f]? = some fn) :
    false = Tryd.pinned.checked.prog.looks [] ∧ ∀ (j : Nat) t, fn.params[j]? = some t → Tryd.pinned.checked.prog.wantsStandIn t = false := by
  obtain rfl : f = 6 := Option.some.inj ((show Tryd.prog.funcNamed "jvmcore/jvmcorelaw2.CodeWrites" = some 6 by kernel_rfl).symm.trans hf) |>.symm
  obtain rfl : fn = Tryd.f6 := (Option.some.inj (Tryd.func6.symm.trans hfn)).symm
  refine ⟨by kernel_rfl, fun j t ht => ?_⟩
  rw [Tryd.params6] at ht
  obtain rfl : t = 27 := by simpa using Array.mem_of_getElem? ht
  exact (show Tryd.prog.wantsStandIn 27 = false by kernel_rfl)

/-- THE CARD. -/
theorem proved : Rows.CodeWritesCardSaid :=
  Claim7.holds_tied_plain_at .later [] _ _ _ _ said (fun _ h => by cases h) (by kernel_rfl) (fun _ h => by cases h) codeWrites_row_tie rfl ⟨rfl, rfl⟩ (by kernel_rfl) rfl plain (by kernel_rfl)
end Go.Proofs.YtpmonoenppfekabDoor.codeWrites
