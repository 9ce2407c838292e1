/-
  CodeChecks: the program's map of methods.
-/
import Derived.Test.YtejbnbilbagkmaaDoorCd
import Derived.MapKept
namespace Go.Proofs.YtejbnbilbagkmaaDoor.Ck
open Go.RowKit Kn
set_option linter.unusedVariables false
set_option linter.unusedSimpArgs false

/-- The map of methods that were found. -/
def Mp (P : List K) (w : World) (mb : Nat) : Prop := ∃ es clock, w.heap[mb]? = some (.map es clock) ∧ ∀ x ∈ es.toList, ∃ i : Int, x.key = .int .i64 i ∧ x.val = (fmt P i).val
/-- A world in which nothing old has turned but one block. -/
structure Bx (mb : Nat) (w w' : World) : Prop where
  os : w'.os = w.os
  tape : w'.tape = w.tape
  output : w'.output = w.output
  size : w.heap.size ≤ w'.heap.size
  block : ∀ k, k < w.heap.size → k ≠ mb → w'.heap[k]? = w.heap[k]?
theorem Bx.of {mb : Nat} {w w' : World} (h : Below w.heap.size w w') : Bx mb w w' := ⟨h.os, h.tape, h.output, h.size, fun k hk _ => h.block k hk⟩
theorem Bx.trans {mb : Nat} {a b c : World} (h1 : Bx mb a b) (h2 : Bx mb b c) : Bx mb a c :=
  ⟨h2.os.trans h1.os, h2.tape.trans h1.tape, h2.output.trans h1.output, Nat.le_trans h1.size h2.size, fun k hk hne => (h2.block k (Nat.lt_of_lt_of_le hk h1.size) hne).trans (h1.block k hk hne)⟩
theorem Mp.ne {P : List K} {w : World} {mb : Nat} (h : Mp P w mb) {a : Addr} {v : Value} (hc : w.cell? a = some v) : a.block ≠ mb := by
  intro e
  obtain ⟨es, c, hb, _⟩ := h
  unfold World.cell? at hc
  rw [e, hb] at hc
  cases hc
theorem Bx.cell {P : List K} {mb : Nat} {w w' : World} (h : Bx mb w w') (hM : Mp P w mb) {a : Addr} {v : Value} (hc : w.cell? a = some v) : w'.cell? a = some v := by
  have hb := h.block a.block (cell_lt hc) (hM.ne hc)
  unfold World.cell? at hc ⊢
  rw [hb]; exact hc
theorem Mp.below {P : List K} {w w' : World} {mb : Nat} (h : Mp P w mb) (hb : Below w.heap.size w w') : Mp P w' mb := by
  obtain ⟨es, c, h1, h2⟩ := h
  exact ⟨es, c, by rw [hb.block mb (Array.getElem?_eq_some_iff.1 h1).1]; exact h1, h2⟩
theorem KIn.bx {P : List K} {v : Value} {mb : Nat} {w w' : World} (h : KIn w v P) (hM : Mp P w mb) (hb : Bx mb w w') : KIn w' v P := by
  obtain ⟨ad, cap, e, h1⟩ := h.ex
  refine ⟨h.fit, ad, cap, e, fun hne => ?_⟩
  obtain ⟨b, o, e1, h2⟩ := h1 hne
  refine ⟨b, o, e1, fun k hk i hi => ?_⟩
  have h3 := h2 k hk i hi
  obtain ⟨u, h4⟩ : ∃ u, (P.getD k K.zero).cells[i]? = some u := ⟨_, List.getElem?_eq_getElem (by simpa [K.cells] using hi)⟩
  rw [h4] at h3 ⊢
  exact hb.cell hM h3
theorem Mx.bx {P : List K} {mb : Nat} {w w' : World} (h : Mx w) (hM : Mp P w mb) (hb : Bx mb w w') : Mx w' := by
  obtain ⟨m, hm⟩ := h
  exact ⟨m, hb.cell hM hm⟩

theorem zero68 (w : World) : (zeroValue 68).run Tryd.prog w = .ok (.agg #[.string ⟨#[]⟩, .int .i64 0, .bool false]) w := by kernel_rfl
theorem key_int (i : Int) : MapKept.IsKey (.int .i64) (.int .i64 i) := by simp [MapKept.IsKey]

/-- What a look into the map tells; and, if nothing is there, what a store leaves. -/
theorem Mp.look {P : List K} {w : World} {mb : Nat} (h : Mp P w mb) (i : Int) :
    ((Instr.lookup 51 (.map (some mb)) (.int .i64 i) true).run Tryd.prog w = .ok (.tuple #[(fmt P i).val, .bool true]) w) ∨
    ((Instr.lookup 51 (.map (some mb)) (.int .i64 i) true).run Tryd.prog w = .ok (.tuple #[.agg #[.string ⟨#[]⟩, .int .i64 0, .bool false], .bool false]) w ∧
      ∀ W : World, W.heap[mb]? = w.heap[mb]? → ∃ W', (Instr.mapUpdate 51 (.map (some mb)) (.int .i64 i) (fmt P i).val).run Tryd.prog W = .ok () W' ∧ Mp P W' mb ∧ Bx mb W W' ∧ W'.heap.size = W.heap.size) := by
  obtain ⟨es, clock, hb, he⟩ := h
  have hkeys : ∀ x ∈ es.toList, MapKept.IsKey (.int .i64) x.key := fun x hx => by
    obtain ⟨j, hj, _⟩ := he x hx
    rw [hj]; exact key_int j
  rcases MapKept.findNow_spec (key_int i) es.toList 0 hkeys with ⟨h1, h2⟩ | ⟨j, e, h1, h2, h3⟩
  · right
    refine ⟨?_, fun W hW => ?_⟩
    · simp [Instr.lookup, run_underlying Tryd.underlying51, MapKept.run_getObj_map hb, MapKept.run_checkKey Tryd.underlying3 (key_int i), MapKept.run_findKey Tryd.underlying3 h1, zero68, Result.andThen]
    · have hbW : W.heap[mb]? = some (.map es clock) := hW.trans hb
      have hs := MapKept.heap_set (o' := .map (es.push { key := .int .i64 i, val := (fmt P i).val, born := clock }) (clock + 1)) hbW
      refine ⟨{ W with heap := W.heap.setIfInBounds mb (.map (es.push { key := .int .i64 i, val := (fmt P i).val, born := clock }) (clock + 1)) }, ?_, ⟨_, _, hs.1, fun x hx => ?_⟩, ⟨rfl, rfl, rfl, by simp, fun k hk hne => hs.2 k hne⟩, by simp⟩
      · simp [Instr.mapUpdate, run_underlying Tryd.underlying51, MapKept.run_getObj_map hbW, MapKept.run_checkKey Tryd.underlying3 (key_int i), MapKept.run_findKey Tryd.underlying3 h1, MapKept.run_setObj_map _ hbW, Result.andThen]
      · simp only [Array.toList_push, List.mem_append, List.mem_singleton] at hx
        rcases hx with hx | hx
        · exact he x hx
        · rw [hx]; exact ⟨i, rfl, rfl⟩
  · left
    have hm : e ∈ es.toList := List.mem_of_getElem? h2
    obtain ⟨q, hq, hv⟩ := he e hm
    have : q = i := by rw [h3] at hq; cases hq; rfl
    subst this
    rw [hv] at h1
    simp [Instr.lookup, run_underlying Tryd.underlying51, MapKept.run_getObj_map hb, MapKept.run_checkKey Tryd.underlying3 (key_int q), MapKept.run_findKey Tryd.underlying3 h1, Result.andThen]
end Go.Proofs.YtejbnbilbagkmaaDoor.Ck
