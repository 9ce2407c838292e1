/-
  The reference's space in memory; its places.
-/
import Derived.Test.YtaapakpanbfmlaaProg
import Derived.Test.YtaapakpanbfmlaaMgHe
import Derived.Laws.BitsAllLaws
import Derived.Laws.RangeAny
import Derived.Laws.DeepStrings4
import Derived.Laws.Slices
import Derived.Laws.Strings3
import Derived.Laws.BytesArg
import Derived.Laws.IdiomStrings
import Derived.Lib.Walk
import Derived.Lib.Strings
import Derived.Lib.Slices
import Derived.WalkKit
import Derived.WalkSpells
import Derived.WalkLawsBesides
import Derived.ProofKit
import Derived.WalkMore
import Derived.BigQuiet
import Derived.Deep.RegionWith
import Derived.Deep.LoopGhost
import Derived.Deep.QuietTactic
import Derived.Maps.AppendAt
import Derived.Deep.Cut
import Derived.Lib.QuietBelow
import Derived.Deep.RegionHeldLaw
import Derived.Deep.RegionLaw
import Derived.Deep.DeepCutAuto
import Derived.Maps.OwnSet
import Derived.RowKit
import Derived.Laws.AppendOwnNone
import Derived.Deep.RegionHeld3
namespace Go.Proofs.Ytaapakpanbfmlaa
namespace Rs
open Go.RowKit Hp
set_option linter.unusedVariables false
set_option linter.unusedSimpArgs false
/-- A fact that the walk does not see. -/
def Hid (p : Prop) : Prop := p
theorem hide {p : Prop} (h : p) : Hid p := h
theorem unhide {p : Prop} (h : Hid p) : p := h
/-- Nothing old turned but some blocks. -/
structure Fr (F : List Nat) (w w' : World) : Prop where
  os : w'.os = w.os
  tape : w'.tape = w.tape
  output : w'.output = w.output
  size : w.heap.size ≤ w'.heap.size
  block : ∀ k, k < w.heap.size → k ∉ F → w'.heap[k]? = w.heap[k]?
theorem Fr.refl (F : List Nat) (w : World) : Fr F w w := ⟨rfl, rfl, rfl, Nat.le_refl _, fun _ _ _ => rfl⟩
theorem Fr.trans {F : List Nat} {a b c : World} (h : Fr F a b) (g : Fr F b c) : Fr F a c :=
  ⟨g.os.trans h.os, g.tape.trans h.tape, g.output.trans h.output, Nat.le_trans h.size g.size, fun k hk hn => (g.block k (Nat.lt_of_lt_of_le hk h.size) hn).trans (h.block k hk hn)⟩
theorem Fr.of_below {F : List Nat} {w w' : World} (h : Below w.heap.size w w') : Fr F w w' := ⟨h.os, h.tape, h.output, h.size, fun k hk _ => h.block k hk⟩
theorem Fr.mono {F F' : List Nat} {w w' : World} (h : Fr F w w') (hs : ∀ x ∈ F, x ∈ F') : Fr F' w w' := ⟨h.os, h.tape, h.output, h.size, fun k hk hn => h.block k hk (fun hx => hn (hs k hx))⟩
theorem Fr.set {F : List Nat} {w w' : World} (h : Fr F w w') {b i : Nat} (hb : b ∈ F) (v : Value) : Fr F w (w'.setCell ⟨b, i, none⟩ v) :=
  ⟨h.os, h.tape, h.output, by have := h.size; simpa using this, fun k hk hn => by
    rw [Below.heap_setCell w' ⟨b, i, none⟩ v k (by intro e; subst e; exact hn hb)]; exact h.block k hk hn⟩
theorem Fr.drew {F : List Nat} {w w' : World} (h : Fr F w w') : Fr F w w'.drew := ⟨h.os, h.tape, h.output, h.size, h.block⟩
/-- A thing, and where its lists lie. -/
structure Tv where
  t : T
  rv : Value
  wv : Value
  gone : Bool
def Tv.cells (x : Tv) : List Value := [x.rv, x.wv, .bool x.gone]
theorem Tv.len (x : Tv) : x.cells.length = 3 := rfl
def Tv.zero : Tv := ⟨⟨[], []⟩, .slice none 0 0, .slice none 0 0, false⟩
/-- A list of numbers of one's own. -/
def RowN (k : IntKind) (ty : TypeId) (w : World) (v : Value) (xs : List Nat) : Prop :=
  (v = .slice none 0 0 ∧ xs = []) ∨ ∃ g, v = .slice (some ⟨g, 0, none⟩) xs.length xs.length ∧ w.heap[g]? = some (.cells (xs.map fun (x : Nat) => Value.int k (x : Int)).toArray ty (0, 0))
/-- The blocks of the things' lists. -/
def tblocks (L : List Tv) : List Nat := L.flatMap fun x => x.rv.ownBlock.toList ++ x.wv.ownBlock.toList
/-- The reference's space: its block sb, its places in block rb, its things. -/
structure Sp (w : World) (B sb rb : Nat) (lv : Value) (L : List Tv) (ro : List Nat) (lim us : Nat) : Prop where
  b : w.heap[sb]? = some (.cells #[lv, .slice (some ⟨rb, 0, none⟩) 16 16, .int .i64 (lim : Int), .int .i64 (us : Int)] 67 (0, 0))
  r : w.heap[rb]? = some (.cells (ro.map fun (x : Nat) => Value.int .i64 (x : Int)).toArray 3 (0, 0))
  rl : ro.length = 16
  l : w.ownsRow B 71 3 lv L.length (L.flatMap Tv.cells)
  t : ∀ x ∈ L, RowN .i64 3 w x.rv x.t.refs ∧ RowN .u64 30 w x.wv x.t.words
  apart : (sb :: rb :: (lv.ownBlock.toList ++ tblocks L)).Nodup
def Sp.fp (sb rb : Nat) (lv : Value) (L : List Tv) : List Nat := sb :: rb :: (lv.ownBlock.toList ++ tblocks L)
theorem RowN.kept {k : IntKind} {ty : TypeId} {w w' : World} {v : Value} {xs : List Nat} {F : List Nat} (h : RowN k ty w v xs) (hf : Fr F w w') (hn : ∀ b ∈ v.ownBlock.toList, b ∉ F) : RowN k ty w' v xs := by
  rcases h with h | ⟨g, rfl, h⟩
  · exact .inl h
  · refine .inr ⟨g, rfl, ?_⟩
    rw [hf.block g (Array.getElem?_eq_some_iff.1 h).1 (hn g (by simp [Value.ownBlock]))]; exact h
theorem row_kept {w w' : World} {B e z n : Nat} {v : Value} {xs : List Value} {F : List Nat} (h : w.ownsRow B e z v n xs) (hf : Fr F w w') (hn : ∀ b ∈ v.ownBlock.toList, b ∉ F) : w'.ownsRow B e z v n xs := by
  refine ⟨h.1, ?_⟩
  rcases h.2 with h0 | ⟨g, cap, cur, rfl, h1, h2, h3⟩
  · exact .inl h0
  · refine .inr ⟨g, cap, cur, rfl, h1, ?_, h3⟩
    rw [hf.block g (Array.getElem?_eq_some_iff.1 h2).1 (hn g (by simp [Value.ownBlock]))]; exact h2
/-- What touches none of its blocks leaves a space as it is. -/
theorem Sp.kept {w w' : World} {B sb rb lim us : Nat} {lv : Value} {L : List Tv} {ro : List Nat} {F : List Nat} (h : Sp w B sb rb lv L ro lim us) (hf : Fr F w w') (hn : ∀ b ∈ Sp.fp sb rb lv L, b ∉ F) : Sp w' B sb rb lv L ro lim us := by
  unfold Sp.fp at hn
  refine ⟨?_, ?_, h.rl, row_kept h.l hf (fun b hb => hn b (by simp [hb])), fun x hx => ⟨(h.t x hx).1.kept hf (fun b hb => hn b ?_), (h.t x hx).2.kept hf (fun b hb => hn b ?_)⟩, h.apart⟩
  · rw [hf.block sb (Array.getElem?_eq_some_iff.1 h.b).1 (hn sb (by simp))]; exact h.b
  · rw [hf.block rb (Array.getElem?_eq_some_iff.1 h.r).1 (hn rb (by simp))]; exact h.r
  · refine List.mem_cons_of_mem _ (List.mem_cons_of_mem _ (List.mem_append_right _ ?_))
    exact List.mem_flatMap.2 ⟨x, hx, List.mem_append_left _ hb⟩
  · refine List.mem_cons_of_mem _ (List.mem_cons_of_mem _ (List.mem_append_right _ ?_))
    exact List.mem_flatMap.2 ⟨x, hx, List.mem_append_right _ hb⟩
/-- Is it a place? -/
def at16 (k : Int) : Bool := decide (0 ≤ k) && decide (k < 16)
set_option maxHeartbeats 1000000 in
theorem at_any (k : Int) (w : World) : Calls Try.prog 38 #[.int .i64 k] w fun e w' => e = .returned (.bool (at16 k)) ∧ w' = w := by
  unfold at16
  by_cases h1 : 0 ≤ k
  · rw [decide_eq_true h1, Bool.true_and]
    go_enter Try.func38, Try.ntmps38
    go_wp2
    go_ret
    exact ⟨rfl, rfl⟩
  · rw [decide_eq_false h1, Bool.false_and]
    go_enter Try.func38, Try.ntmps38
    go_wp2
    go_ret
    exact ⟨rfl, rfl⟩
theorem at16_nat {k : Int} (h : at16 k = true) : ∃ n : Nat, k = (n : Int) ∧ n < 16 := by
  unfold at16 at h
  simp at h
  exact ⟨k.toNat, by omega, by omega⟩
theorem Sp.cell {w : World} {B sb rb lim us : Nat} {lv : Value} {L : List Tv} {ro : List Nat} (h : Sp w B sb rb lv L ro lim us) (n : Nat) (hn : n < 16) : w.cell? ⟨rb, n, none⟩ = some (.int .i64 ((ro.getD n 0 : Nat) : Int)) := by
  rw [cell_of_row w rb n _ 3 (0, 0) h.r]
  have : n < ro.length := by rw [h.rl]; exact hn
  simp [List.getD_eq_getElem?_getD, this]
theorem Sp.rfrozen {w : World} {B sb rb lim us : Nat} {lv : Value} {L : List Tv} {ro : List Nat} (h : Sp w B sb rb lv L ro lim us) (n : Nat) : w.frozen? ⟨rb, n, none⟩ = false := by
  unfold World.frozen?
  rw [h.r]
  simp
theorem Sp.rootsv {w : World} {B sb rb lim us : Nat} {lv : Value} {L : List Tv} {ro : List Nat} (h : Sp w B sb rb lv L ro lim us) : w.cell? ⟨sb, 1, none⟩ = some (.slice (some ⟨rb, 0, none⟩) 16 16) := by
  rw [cell_of_row w sb 1 _ 67 (0, 0) h.b]; rfl
/-- A place holds something else. -/
theorem Sp.setRoot {w : World} {B sb rb lim us : Nat} {lv : Value} {L : List Tv} {ro : List Nat} (h : Sp w B sb rb lv L ro lim us) (n x : Nat) : Sp (w.setCell ⟨rb, n, none⟩ (.int .i64 (x : Int))) B sb rb lv L (ro.set n x) lim us := by
  have hf : Fr [rb] w (w.setCell ⟨rb, n, none⟩ (.int .i64 (x : Int))) := (Fr.refl [rb] w).set (by simp) _
  have hap := h.apart
  rw [List.nodup_cons, List.nodup_cons] at hap
  have hsr : sb ≠ rb := fun e => hap.1 (by simp [e])
  have hnl : ∀ b ∈ lv.ownBlock.toList ++ tblocks L, b ∉ [rb] := fun b hb e => hap.2.1 (by rw [List.mem_singleton] at e; rw [← e]; exact hb)
  refine ⟨?_, ?_, by rw [List.length_set]; exact h.rl, row_kept h.l hf (fun b hb => hnl b (List.mem_append_left _ hb)), fun y hy => ⟨(h.t y hy).1.kept hf (fun b hb => hnl b (List.mem_append_right _ (List.mem_flatMap.2 ⟨y, hy, List.mem_append_left _ hb⟩))), (h.t y hy).2.kept hf (fun b hb => hnl b (List.mem_append_right _ (List.mem_flatMap.2 ⟨y, hy, List.mem_append_right _ hb⟩)))⟩, h.apart⟩
  · rw [hf.block sb (Array.getElem?_eq_some_iff.1 h.b).1 (by simp [hsr])]; exact h.b
  · rw [heap_setCell_same w rb n _ 3 _ h.r]
    simp [List.map_set]
set_option maxRecDepth 100000 in
set_option maxHeartbeats 2000000 in
theorem rdrop_any (k : Int) (w : World) {B sb rb lim us : Nat} {lv : Value} {L : List Tv} {ro : List Nat} (h : Sp w B sb rb lv L ro lim us) :
    Calls Try.prog 21 #[.pointer (some ⟨sb, 0, none⟩), .int .i64 k] w fun e w' => e = .returned (.int .i64 (if at16 k = true then 0 else 7)) ∧ Fr [rb] w w' ∧ Sp w' B sb rb lv L (if at16 k = true then ro.set k.toNat 0 else ro) lim us := by
  have HA := hide (at_any k w)
  by_cases hk : at16 k = true
  · obtain ⟨n, rfl, hn⟩ := at16_nat hk
    rw [hk] at HA ⊢
    have c1 := h.rootsv
    have c2 := h.cell n hn
    have c3 := h.rfrozen n
    have hni : (n : Int) < 16 := by omega
    have HS := hide (h.setRoot n 0)
    have HF := hide ((Fr.refl [rb] w).set (b := rb) (i := n) (by simp) (.int .i64 (((0 : Nat)) : Int)))
    clear h hk
    go_enter Try.func21, Try.ntmps21
    go_wp2_with fail
    refine (unhide HA).mono ?_
    rintro e w1 ⟨rfl, hw1⟩
    subst w1
    go_wp2
    go_ret
    exact ⟨rfl, unhide HF, unhide HS⟩
  · have hk' : at16 k = false := by simpa using hk
    rw [hk'] at HA ⊢
    have HS := hide h
    clear h hk hk'
    go_enter Try.func21, Try.ntmps21
    go_wp2_with fail
    refine (unhide HA).mono ?_
    rintro e w1 ⟨rfl, hw1⟩
    subst w1
    go_wp2
    go_ret
    exact ⟨rfl, Fr.refl _ _, unhide HS⟩
end Rs
end Go.Proofs.Ytaapakpanbfmlaa
