/-
  What both sides' walks share: cells, texts and lists, what the answers are.
-/
import Derived.Test.YtejbnbilbagkmaaDoorProg
import Derived.Test.YtejbnbilbagkmaaDoorMath
import Derived.Laws.RangeAny
import Derived.Laws.DeepStrings4
import Derived.Laws.Slices
import Derived.Laws.Strings3
import Derived.Lib.Walk
import Derived.Lib.Strings
import Derived.Lib.Slices
import Derived.WalkKit
import Derived.ProofKit
import Derived.WalkMore
import Derived.Deep.RegionWith
import Derived.Deep.LoopGhost
namespace Go.Proofs.YtejbnbilbagkmaaDoor
open Go.RowKit
/-- internal/bytealg.MaxLen holds some int. -/
def Mx (w : World) : Prop := ∃ m, w.cell? ⟨0, 0, none⟩ = some (.int .i64 m)
theorem cell_lt {w : World} {a : Addr} {v : Value} (h : w.cell? a = some v) : a.block < w.heap.size := by
  rcases Nat.lt_or_ge a.block w.heap.size with g | g
  · exact g
  · unfold World.cell? at h; rw [Array.getElem?_eq_none g] at h; simp at h
theorem Mx.below {w w' : World} (h : Mx w) (hb : Below w.heap.size w w') : Mx w' := by
  obtain ⟨m, hm⟩ := h
  exact ⟨m, by rw [hb.cell (cell_lt hm)]; exact hm⟩
theorem empty_of {s : ByteArray} : s.toList.isEmpty = s.data.toList.isEmpty := by rw [Lib.toList_data]
def partM (l : List UInt8) : Bool := !l.isEmpty && !hasAny l [46, 59, 91, 47]
theorem partM_no {l : List UInt8} (h : (47 : UInt8) ∉ l) : partM l = partB l := by unfold partM partB; rw [hasAny_slash h]
theorem data_of (l : List UInt8) : (⟨l.toArray⟩ : ByteArray).data.toList = l := by simp
theorem size_of (l : List UInt8) : (⟨l.toArray⟩ : ByteArray).size = l.length := by show l.toArray.size = _; simp
theorem at0 {E : ByteArray} {b : UInt8} {r : List UInt8} (h : E.data.toList = b :: r) : ∀ h : 0 < E.size, E[0] = b := fun _ => by
  have h1 : E.data.toList[0]? = some b := by rw [h]; rfl
  have := (List.getElem?_eq_some_iff.1 h1).2
  simp at this
  exact this
theorem ext1 {E : ByteArray} {b : UInt8} {r : List UInt8} (h : E.data.toList = b :: r) : (E.extract 1 E.size).data.toList = r := by
  have hz : E.data.toList.length = E.size := by simp
  simp only [ByteArray.data_extract, Array.toList_extract, List.extract_eq_take_drop]
  rw [h, ← hz, h]; simp
theorem val_of {l : List UInt8} (h : dims l ≤ 255) (he : elemLen (l.drop (dims l)) ≠ 0) : valLen l = dims l + elemLen (l.drop (dims l)) := by unfold valLen; rw [if_pos ⟨h, he⟩]
theorem val_big {l : List UInt8} (h : 255 < dims l) : valLen l = 0 := by unfold valLen; rw [if_neg (by omega)]
theorem val_none {l : List UInt8} (he : elemLen (l.drop (dims l)) = 0) : valLen l = 0 := by unfold valLen; rw [if_neg (by omega)]
theorem prim_cases {b : UInt8} (h : prim b = true) : b = 66 ∨ b = 67 ∨ b = 68 ∨ b = 70 ∨ b = 73 ∨ b = 74 ∨ b = 83 ∨ b = 90 := by
  simpa [prim] using h
theorem prim_not {b : UInt8} (h : prim b = false) : b ≠ 66 ∧ b ≠ 67 ∧ b ≠ 68 ∧ b ≠ 70 ∧ b ≠ 73 ∧ b ≠ 74 ∧ b ≠ 83 ∧ b ≠ 90 := by
  simpa [prim] using h
theorem byte_ne {b : UInt8} {n : Nat} (_hn : n < 256) (h : b ≠ UInt8.ofNat n) : ((b.toNat : Int) == (n : Int)) = false := by
  rw [beq_eq_false_iff_ne]
  intro e
  apply h
  have : b.toNat = n := by omega
  rw [← this]; simp
def fieldB (l : List UInt8) : Bool := !l.isEmpty && decide (valLen l = l.length)
def classB (l : List UInt8) : Bool := if [(91 : UInt8)].isPrefixOf l then fieldB l else pathB l
def initB : List UInt8 := [60, 105, 110, 105, 116, 62]
def clinitB : List UInt8 := [60, 99, 108, 105, 110, 105, 116, 62]
def memB (l : List UInt8) (m : Bool) : Nat :=
  if partM l = false then 0 else if m = false then 1 else if l = initB then 2 else if l = clinitB then 3 else if hasAny l [60, 62] then 0 else 1
end Go.Proofs.YtejbnbilbagkmaaDoor
