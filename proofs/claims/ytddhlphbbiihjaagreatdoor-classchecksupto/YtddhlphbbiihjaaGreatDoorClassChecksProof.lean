/-
  ClassChecks: the row's second form, and its card.
-/
import Derived.Test.YtddhlphbbiihjaaGreatDoorCards
import Derived.Test.YtddhlphbbiihjaaGreatDoorTie
import Derived.Test.YtddhlphbbiihjaaGreatDoorMgGh
import Derived.Test.YtddhlphbbiihjaaGreatDoorDb
import Derived.JoinedCond
import Derived.Deep.DeepHandedRow
import Derived.Lib.LaidTab
import Derived.Lib.LaidU8
import Derived.Deep.DeepLaidRun
import Derived.FnData
set_option linter.unusedVariables false
namespace Go.Proofs.YtddhlphbbiihjaaGreatDoor.classChecks
open Go.ChangeShapes Go.WideShapes Go.ChangeAt Go.RowKit Cl
theorem gWord : Tryz.prog.globalNamed "jvmcore/code.word" = some 0 := by kernel_rfl
theorem gWordType : (Tryz.prog.globals[0]?).map (·.type) = some 156 := by kernel_rfl
theorem cW : Tryz.prog.cellsOf 156 = 3 := by kernel_rfl
set_option maxRecDepth 100000 in
/-- What the row's list gives: the word's cells. -/
theorem word {W : World} (h : laidMetH Tryz.prog Rows.classChecksUptoRow.laid W) : Dc.Wd W := by
  have h' : laidMet Tryz.prog [("unicode/utf8.acceptRanges", Rows.laid_unicode_utf8_acceptRanges), ("jvmcore/code.word", Rows.laid_jvmcore_code_word), ("unicode/utf8.first", Rows.laid_unicode_utf8_first)] W := h
  obtain ⟨ps, ⟨g0, t0, cs0, fuel0, p0, q0, _, _, _, _, hrest, _⟩, _⟩ := h'
  obtain ⟨g', t', cs, fuel, p, q, hg', ht', hvar, hd, _, _⟩ := hrest
  obtain rfl := Option.some.inj (gWord.symm.trans hg')
  obtain rfl := Option.some.inj (gWordType.symm.trans ht')
  obtain ⟨xs, k, hk, hxy, hcl, hxl, hf⟩ := DataW.trod_struct Tryz.underlying156 hd
  rw [cW] at hcl
  have hv := fun i => World.var?_cell gWord hvar i
  obtain ⟨cs⟩ := cs
  match xs, hxl, cs, hcl with
  | [y0, y1, y2], _, [v0, v1, v2], _ =>
    have g0 := hf 0 _ rfl
    have g1 := hf 1 _ rfl
    have g2 := hf 2 _ rfl
    simp [Cl.c3] at g0 g1 g2
    obtain ⟨n0, e0, q0, p0⟩ := DataW.trod_int Cl.u3 g0
    obtain ⟨n1, e1, q1, p1⟩ := DataW.trod_int Cl.u3 g1
    obtain ⟨n2, e2, q2, p2⟩ := DataW.trod_int Cl.u3 g2
    simp only [List.cons.injEq, and_true] at e0 e1 e2
    subst e0 e1 e2 q0 q1 q2
    simp only [Prod.mk.injEq, Rows.laid_jvmcore_code_word] at hxy
    obtain ⟨hd, _⟩ := hxy
    simp at hd
    obtain ⟨rfl, rfl, rfl⟩ := hd
    exact ⟨hv 0, hv 1, hv 2⟩
/-- A WORLD FOR THE WITNESS, of the settled one: the word, and the two tables of unicode/utf8, as their initialisers lay them. -/
def laid (w0 : World) : World :=
  let put (h : Array Obj) (g : Nat) (cs : Array Value) : Array Obj := h.modify g fun
    | .cells _ t frozen => .cells cs t frozen
    | o => o
  { w0 with heap := put (put (put w0.heap 0 #[.int .i64 4, .int .i64 (-2147483648), .int .i64 2147483647]) 2 (Lib.firstTab.map fun z => Value.int .u8 z).toArray) 3 ((List.range 16).flatMap fun i => [Value.int .u8 (Lib.accLo i), Value.int .u8 (Lib.accHi i)]).toArray }
def argZ : Value := .agg #[.int .u16 0, .int .u16 0, .int .u16 0, .int .u16 0, .int .u16 0, .slice none 0 0, .slice none 0 0, .slice none 0 0, .slice none 0 0]
theorem laid_met (os : Os) : laidMet Tryz.prog Rows.classChecksUptoRow.laid ((laid (World.holding Tryz.prog os ⟨#[], #[], []⟩)).forCall (fun _ _ => 0) ⟨#[], #[argZ], []⟩).memory :=
  laidMet_of_run3 10 (by kernel_rfl) (by kernel_rfl) (by kernel_rfl)
theorem reads (os : Os) {H : Type} (enc : TypeId × Value → H) : ∃ places, DataW.whole enc Tryz.prog ((laid (World.holding Tryz.prog os ⟨#[], #[], []⟩)).forCall (fun _ _ => 0) ⟨#[], #[argZ], []⟩).memory Tryz.f3.params.toList Rows.classChecksSpec.vars false #[argZ].toList 8 = some ([.agg [.lit (.int .u16 0), .lit (.int .u16 0), .lit (.int .u16 0), .lit (.int .u16 0), .lit (.int .u16 0), .nil, .nil, .nil, .nil]], [], places) :=
  ⟨[], by kernel_rfl⟩

set_option maxRecDepth 100000 in
theorem liftedUpto (os : Os) (started : os.Started) (H : Type) (enc : TypeId × Value → H) (F : Stop.Interp) :
    ReturnsInHanded {} Tryz.checked os 3 .any ((Rows.OpenSpec.upto Rows.classChecksSpec).preRow enc Tryz.prog Tryz.f3 Rows.classChecksUptoRow.domain false Rows.classChecksUptoRow.laid) (((Rows.OpenSpec.upto Rows.classChecksSpec).at F).post enc Tryz.prog Tryz.f3 false true false false) := by
  obtain ⟨places, hx⟩ := reads os enc
  refine returnsInHanded_of_row (C := Tryz.checked) (s := Rows.OpenSpec.upto Rows.classChecksSpec) Cl.own started (by kernel_rfl) Tryz.func3
    (witness_row_at (enc := enc) (C := Tryz.checked) false (laid (World.holding Tryz.prog os ⟨#[], #[], []⟩)) #[argZ] rfl (by kernel_rfl) (by kernel_rfl) (by kernel_rfl)
      (OpenSpec.preRow_of_cond 8 hx (by kernel_rfl) (fun k hk => by cases hk; kernel_rfl) (by kernel_rfl) (laid_met os))) ?_
  intro W base args ds gs before hval0 hW _ hcond _ hL hsh _
  have hval : ∀ (j : Nat) t v, Tryz.f3.params[j]? = some t → args[j]? = some v → Value.okWide Tryz.prog W .any base t v := hval0
  have hW' := hW
  obtain ⟨p, q, hA0, hV, rfl, hfz, hnd⟩ := hW
  have hA : DataW.TrodAll enc Tryz.prog W 0 (fun _ => true) true Tryz.f3.params.toList args.toList ds p := hA0
  rw [Tryz.params3] at hA hval
  obtain ⟨v0, vs0, d0, ds0, p0, q0, hargs, rfl, rfl, h0, r0⟩ := trodAll_cons hA
  obtain ⟨rfl, rfl, rfl⟩ := trodAll_nil r0
  obtain rfl : args = #[v0] := by cases args; simp_all
  obtain ⟨rfl, rfl⟩ := trodVars_none hV
  have hbk := of_decide_eq_true (hcond _ rfl)
  simp only [List.append_nil, Rows.uptoBulkAll] at hbk
  obtain ⟨cs, rfl, hcs⟩ := okWide_struct Tryz.underlying28 (hval 0 28 v0 rfl rfl)
  have k0 := h0
  have lt0 : ∀ x ∈ p0, x.block < W.heap.size := by obtain ⟨m, hm⟩ := k0; exact DataW.trod_lt m _ _ _ hm
  have hcl : ∃ (c : Csi) (vp vi vf vm : Value) (L : List Mv), .agg cs = clv c vp vi vf vm ∧ Cin W c vp vi vf vm L ∧ c.Ok ∧ (∀ k ∈ c.pool, k.bits < 2 ^ 64) ∧ c.size ≤ Rows.uptoBulk d0 := by
    obtain ⟨fuel, hf⟩ := h0
    have := is_class (cs := cs.toList) (n := fuel) (d := d0) (pl := p0) hf
    rwa [Array.toArray_toList] at this
  obtain ⟨c, vp, vi, vf, vm, L, e, hC, hok, hbits, hsz⟩ := hcl
  clear hA0 hval0
  rw [e]
  rw [e] at hW' k0
  refine (checks_walk c vp vi vf vm L W hC hok (by omega) (Tryz.laysM145.s1_3 W hsh) (word hL)).mono fun r W' ⟨he, bel⟩ => ?_
  subst he
  exact ⟨_, rfl, _, _, _, [], _, [], hW', trodAll_mk1 (shut_bool Cl.u4 _), (trodAll_cons_mk (Below.trod Cl.laidOut (by kernel_rfl) (of_decide_eq_true (by kernel_rfl)) k0 bel lt0) trodAll_mk0), rfl, bel.frame _, fun h => by cases h⟩

theorem saidUpto : Rows.ClassChecksUptoSaid :=
  OpenClaim.holds_of_cond 3 Tryz.f3 rfl rfl rfl rfl rfl rfl rfl ⟨rfl, rfl, rfl, rfl, rfl⟩ rfl rfl rfl rfl rfl (by kernel_rfl) Tryz.func3 (by kernel_rfl)
    (of_decide_eq_true (by kernel_rfl)) (by unfold Func.isWrapper; first | (rw [if_pos (by decide +kernel)]; kernel_rfl) | (rw [if_neg (by decide +kernel)]; exact ⟨rfl, rfl⟩))
    (fun os started H enc _ F => by rw [OpenClaim.pre_eq_preRow]; exact liftedUpto os started H enc F)

theorem plain (f : FuncId) (fn : Func) (hf : Tryz.pinned.checked.prog.funcNamed "jvmcore/jvmcorelaw3.ClassChecks" = some f) (hfn : Tryz.pinned.checked.prog.funcs[f]? = some fn) :
    false = Tryz.pinned.checked.prog.looks [] ∧ ∀ (j : Nat) t, fn.params[j]? = some t → Tryz.pinned.checked.prog.wantsStandIn t = false := by
  obtain rfl : f = 3 := Option.some.inj ((show Tryz.prog.funcNamed "jvmcore/jvmcorelaw3.ClassChecks" = some 3 by kernel_rfl).symm.trans hf) |>.symm
  obtain rfl : fn = Tryz.f3 := (Option.some.inj (Tryz.func3.symm.trans hfn)).symm
  refine ⟨by kernel_rfl, fun j t ht => ?_⟩
  rw [Tryz.params3] at ht
  obtain rfl : t = 28 := by simpa using Array.mem_of_getElem? ht
  exact (show Tryz.prog.wantsStandIn 28 = false by kernel_rfl)

/-- THE SECOND FORM's CARD. -/
theorem proved : Rows.ClassChecksUptoCardSaid :=
  Claim7.holds_tied_plain_at .later [] _ _ _ _ saidUpto (fun _ h => by cases h) (by kernel_rfl) (fun _ h => by cases h) classChecksUpto_row_tie rfl ⟨rfl, rfl⟩ (by kernel_rfl) rfl plain (by kernel_rfl)
#print axioms proved
end Go.Proofs.YtddhlphbbiihjaaGreatDoor.classChecks
