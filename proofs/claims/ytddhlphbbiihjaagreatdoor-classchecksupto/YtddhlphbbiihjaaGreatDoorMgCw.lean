/-
  Plain mathematics of names and descriptors, over lists of bytes. Nothing of the program is named here.
  What both sides' walks share: cells, texts and lists, what the answers are.
  Instructions and where their lists lie; weight, twin, same (carried from 60cd14c).
-/
import Derived.Test.YtddhlphbbiihjaaGreatDoorProg
import Derived.Lib.IndexAny
import Derived.Lib.IndexMore
import Derived.Lib.TrimByte
import Derived.Below
import Derived.Laws.RangeAny
import Derived.Laws.DeepStrings4
import Derived.Laws.Slices
import Derived.Laws.Strings3
import Derived.Lib.Walk
import Derived.Lib.Strings
import Derived.Lib.Slices
import Derived.WalkKit
import Derived.ProofKit
import Derived.WalkMore
import Derived.Deep.RegionWith
import Derived.Deep.LoopGhost
import Derived.Laws.BitsAllLaws
import Derived.Laws.BytesArg
import Derived.Laws.IdiomStrings
import Derived.WalkSpells
import Derived.WalkLawsBesides
import Derived.BigQuiet
import Derived.Deep.QuietTactic
import Derived.Maps.AppendAt
import Derived.Deep.Cut
import Derived.Lib.QuietBelow
import Derived.Deep.RegionHeldLaw
import Derived.Deep.RegionLaw
import Derived.Deep.DeepCutAuto
import Derived.Maps.OwnSet
import Derived.RowKit
import Derived.Laws.AppendOwnNone
set_option linter.unusedVariables false
set_option linter.unusedSimpArgs false
namespace Go.Proofs.YtddhlphbbiihjaaGreatDoor
/-- A fact that no walk takes for a rule. -/
def Hid (p : Prop) : Prop := p
theorem hide {p : Prop} (h : p) : Hid p := h
theorem unhide {p : Prop} (h : Hid p) : p := h
def hasAny (l cs : List UInt8) : Bool := l.any fun b => cs.contains b
theorem hasAny_index (cs : List UInt8) : ∀ l : List UInt8, hasAny l cs = decide (0 ≤ Lib.indexAny l cs)
  | [] => by simp [hasAny, Lib.indexAny]
  | b :: l => by
    have ih := hasAny_index cs l
    have hg := Lib.indexAny_ge cs l
    unfold hasAny at ih ⊢
    rw [List.any_cons, ih, Lib.indexAny]
    by_cases hb : cs.contains b = true
    · rw [hb, if_pos rfl]; simp
    · have hb' : cs.contains b = false := by simpa using hb
      rw [hb', Bool.false_or, if_neg (by simp)]
      by_cases h1 : (Lib.indexAny l cs == -1) = true
      · rw [if_pos h1, beq_iff_eq.1 h1]
      · rw [if_neg h1]
        have h2 : Lib.indexAny l cs ≠ -1 := by simpa using h1
        congr 1; apply propext; omega
theorem hasAny_no {l cs : List UInt8} (h : Lib.NoAny l cs l.length) : hasAny l cs = false := by
  unfold hasAny
  rw [List.any_eq_false]
  intro b hb
  obtain ⟨j, hj, rfl⟩ := List.mem_iff_getElem.1 hb
  rw [h j _ hj (List.getElem?_eq_getElem hj)]; simp
theorem hasAny_yes {l cs : List UInt8} {j : Nat} {b : UInt8} (h : l[j]? = some b) (hc : cs.contains b = true) : hasAny l cs = true := by
  unfold hasAny
  rw [List.any_eq_true]
  exact ⟨b, List.mem_of_getElem? h, hc⟩
/-- May it be a part of a name, as far as its bytes but the slash go? -/
def partB (l : List UInt8) : Bool := !l.isEmpty && !hasAny l [46, 59, 91]
theorem hasAny_slash {l : List UInt8} (h : (47 : UInt8) ∉ l) : hasAny l [46, 59, 91, 47] = hasAny l [46, 59, 91] := by
  induction l with
  | nil => rfl
  | cons b l ih =>
    have hb : b ≠ 47 := fun e => h (by rw [e]; exact List.mem_cons_self ..)
    have ih' := ih (fun m => h (List.mem_cons_of_mem _ m))
    unfold hasAny at ih' ⊢
    rw [List.any_cons, List.any_cons, ih']
    congr 1
    simp [hb]
/-- Parts with slashes between; 'ne': the part at hand has a byte already. -/
def okp : Bool → List UInt8 → Bool
  | ne, [] => ne
  | ne, b :: l => if b = 47 then ne && okp false l else if [46, 59, 91].contains b then false else okp true l
def pathB (l : List UInt8) : Bool := okp false l
theorem okp_part : ∀ {p : List UInt8} (ne : Bool), (47 : UInt8) ∉ p → okp ne p = ((ne || !p.isEmpty) && !hasAny p [46, 59, 91])
  | [], ne, _ => by simp [okp, hasAny]
  | b :: p, ne, h => by
    have hb : b ≠ 47 := fun e => h (by rw [e]; exact List.mem_cons_self ..)
    have ih := okp_part (p := p) true (fun m => h (List.mem_cons_of_mem _ m))
    rw [okp, if_neg hb]
    unfold hasAny at ih ⊢
    rw [List.any_cons]
    by_cases hc : ([46, 59, 91] : List UInt8).contains b = true
    · rw [if_pos hc, hc]; simp
    · have hc' : ([46, 59, 91] : List UInt8).contains b = false := by simpa using hc
      rw [if_neg hc, ih, hc']; simp
theorem okp_slash : ∀ {p : List UInt8} (ne : Bool) (r : List UInt8), (47 : UInt8) ∉ p → okp ne (p ++ 47 :: r) = ((ne || !p.isEmpty) && !hasAny p [46, 59, 91] && okp false r)
  | [], ne, r, _ => by simp [okp, hasAny]
  | b :: p, ne, r, h => by
    have hb : b ≠ 47 := fun e => h (by rw [e]; exact List.mem_cons_self ..)
    have ih := okp_slash (p := p) true r (fun m => h (List.mem_cons_of_mem _ m))
    rw [List.cons_append, okp, if_neg hb]
    unfold hasAny at ih ⊢
    rw [List.any_cons]
    by_cases hc : ([46, 59, 91] : List UInt8).contains b = true
    · rw [if_pos hc, hc]; simp
    · have hc' : ([46, 59, 91] : List UInt8).contains b = false := by simpa using hc
      rw [if_neg hc, ih, hc']; simp
theorem path_part {p : List UInt8} (h : (47 : UInt8) ∉ p) : pathB p = partB p := by unfold pathB partB; rw [okp_part false h]; simp
theorem path_slash {p r : List UInt8} (h : (47 : UInt8) ∉ p) : pathB (p ++ 47 :: r) = (partB p && pathB r) := by unfold pathB partB; rw [okp_slash false r h]; simp
theorem index_byte (c : UInt8) : ∀ l : List UInt8, (∃ p r, l = p ++ c :: r ∧ c ∉ p ∧ Lib.index l [c] = (p.length : Nat)) ∨ (c ∉ l ∧ Lib.index l [c] = -1)
  | [] => .inr ⟨by simp, by simp [Lib.index]⟩
  | b :: l => by
    by_cases hb : b = c
    · subst hb
      exact .inl ⟨[], l, rfl, by simp, by simp [Lib.index, List.isPrefixOf]⟩
    · have hp : ([c] : List UInt8).isPrefixOf (b :: l) = false := by simp [List.isPrefixOf]; exact fun e => hb e.symm
      rcases index_byte c l with ⟨p, r, h1, h2, h3⟩ | ⟨h1, h2⟩
      · refine .inl ⟨b :: p, r, by rw [h1]; rfl, fun m => ?_, ?_⟩
        · rcases List.mem_cons.1 m with e | m
          · exact hb e.symm
          · exact h2 m
        · have : ((p.length : Int) == -1) = false := by rw [beq_eq_false_iff_ne]; omega
          rw [Lib.index, hp, h3, this]; simp
      · refine .inr ⟨fun m => ?_, by rw [Lib.index, hp, h2]; simp⟩
        rcases List.mem_cons.1 m with e | m
        · exact hb e.symm
        · exact h1 m
theorem cut_byte (c : UInt8) (l : List UInt8) : (∃ p r, l = p ++ c :: r ∧ c ∉ p ∧ Lib.cut l [c] = (p, r, true)) ∨ (c ∉ l ∧ Lib.cut l [c] = (l, [], false)) := by
  rcases index_byte c l with ⟨p, r, h1, h2, h3⟩ | ⟨h1, h2⟩
  · refine .inl ⟨p, r, h1, h2, ?_⟩
    unfold Lib.cut
    rw [h3, if_pos (by omega), h1]
    simp
  · refine .inr ⟨h1, ?_⟩
    unfold Lib.cut
    rw [h2, if_neg (by omega)]
def prim (b : UInt8) : Bool := ([66, 67, 68, 70, 73, 74, 83, 90] : List UInt8).contains b
def nameOf (r : List UInt8) : List UInt8 := r.takeWhile (· != 59)
/-- How long the descriptor of a value that is no array is with which it begins; 0: it begins with none. -/
def elemLen : List UInt8 → Nat
  | [] => 0
  | b :: r => if prim b then 1 else if b = 76 then (if r.contains 59 && pathB (nameOf r) then (nameOf r).length + 2 else 0) else 0
def dims (l : List UInt8) : Nat := (l.takeWhile (· == 91)).length
def valLen (l : List UInt8) : Nat := if dims l ≤ 255 ∧ elemLen (l.drop (dims l)) ≠ 0 then dims l + elemLen (l.drop (dims l)) else 0
theorem name_of {p r : List UInt8} (h : (59 : UInt8) ∉ p) : nameOf (p ++ 59 :: r) = p := by
  unfold nameOf
  induction p with
  | nil => simp
  | cons b p ih =>
    have hb : b ≠ 59 := fun e => h (by rw [e]; exact List.mem_cons_self ..)
    rw [List.cons_append, List.takeWhile_cons, if_pos (by simpa using hb), ih (fun m => h (List.mem_cons_of_mem _ m))]
theorem elem_name {p r : List UInt8} (h : (59 : UInt8) ∉ p) : elemLen (76 :: (p ++ 59 :: r)) = if pathB p then p.length + 2 else 0 := by
  rw [elemLen, if_neg (by decide), if_pos rfl, name_of h]; simp
theorem elem_none {r : List UInt8} (h : (59 : UInt8) ∉ r) : elemLen (76 :: r) = 0 := by
  rw [elemLen, if_neg (by decide), if_pos rfl, if_neg (by simp [h])]
theorem elem_prim {b : UInt8} {r : List UInt8} (h : prim b = true) : elemLen (b :: r) = 1 := by rw [elemLen, if_pos h]
theorem elem_other {b : UInt8} {r : List UInt8} (h : prim b = false) (h2 : b ≠ 76) : elemLen (b :: r) = 0 := by rw [elemLen, if_neg (by simp [h]), if_neg h2]
theorem dims_cons (r : List UInt8) : dims (91 :: r) = dims r + 1 := by simp [dims]
theorem dims_other {b : UInt8} {r : List UInt8} (h : b ≠ 91) : dims (b :: r) = 0 := by simp [dims, h]
theorem drop_dims (l : List UInt8) : l.drop (dims l) = Lib.trimLeftB l 91 := by
  unfold dims Lib.trimLeftB
  induction l with
  | nil => rfl
  | cons b l ih =>
    by_cases hb : (b == 91) = true
    · rw [List.takeWhile_cons, if_pos hb, List.dropWhile_cons, if_pos hb]; simpa using ih
    · rw [List.takeWhile_cons, if_neg hb, List.dropWhile_cons, if_neg hb]; rfl
theorem dims_le (l : List UInt8) : dims l ≤ l.length := by unfold dims; exact (List.takeWhile_prefix _).length_le
theorem elem_le (l : List UInt8) : elemLen l ≤ l.length := by
  cases l with
  | nil => simp [elemLen]
  | cons b r =>
    rw [elemLen]
    split
    · simp
    · split
      · split
        · rename_i h
          simp only [Bool.and_eq_true, List.contains_iff_mem] at h
          have : (nameOf r).length < r.length := by
            unfold nameOf
            have h1 := (List.takeWhile_prefix (fun x : UInt8 => x != 59) (l := r)).length_le
            rcases Nat.lt_or_eq_of_le h1 with h2 | h2
            · exact h2
            · exfalso
              have h3 : r.takeWhile (fun x : UInt8 => x != 59) = r := (List.takeWhile_prefix _).eq_of_length h2
              have h4 := List.all_eq_true.1 (List.all_takeWhile (p := fun x : UInt8 => x != 59) (l := r)) 59 (by rw [h3]; exact h.1)
              simp at h4
          simp only [List.length_cons]; omega
        · omega
      · omega
theorem val_le (l : List UInt8) : valLen l ≤ l.length := by
  unfold valLen
  split
  · have h1 := elem_le (l.drop (dims l))
    have h2 := dims_le l
    rw [List.length_drop] at h1
    omega
  · omega
end Go.Proofs.YtddhlphbbiihjaaGreatDoor
namespace Go.Proofs.YtddhlphbbiihjaaGreatDoor
open Go.RowKit
/-- internal/bytealg.MaxLen holds some int. -/
def Mx (w : World) : Prop := ∃ m, w.cell? ⟨1, 0, none⟩ = some (.int .i64 m)
theorem cell_lt {w : World} {a : Addr} {v : Value} (h : w.cell? a = some v) : a.block < w.heap.size := by
  rcases Nat.lt_or_ge a.block w.heap.size with g | g
  · exact g
  · unfold World.cell? at h; rw [Array.getElem?_eq_none g] at h; simp at h
theorem Mx.below {w w' : World} (h : Mx w) (hb : Below w.heap.size w w') : Mx w' := by
  obtain ⟨m, hm⟩ := h
  exact ⟨m, by rw [hb.cell (cell_lt hm)]; exact hm⟩
theorem empty_of {s : ByteArray} : s.toList.isEmpty = s.data.toList.isEmpty := by rw [Lib.toList_data]
def partM (l : List UInt8) : Bool := !l.isEmpty && !hasAny l [46, 59, 91, 47]
theorem partM_no {l : List UInt8} (h : (47 : UInt8) ∉ l) : partM l = partB l := by unfold partM partB; rw [hasAny_slash h]
theorem data_of (l : List UInt8) : (⟨l.toArray⟩ : ByteArray).data.toList = l := by simp
theorem size_of (l : List UInt8) : (⟨l.toArray⟩ : ByteArray).size = l.length := by show l.toArray.size = _; simp
theorem at0 {E : ByteArray} {b : UInt8} {r : List UInt8} (h : E.data.toList = b :: r) : ∀ h : 0 < E.size, E[0] = b := fun _ => by
  have h1 : E.data.toList[0]? = some b := by rw [h]; rfl
  have := (List.getElem?_eq_some_iff.1 h1).2
  simp at this
  exact this
theorem ext1 {E : ByteArray} {b : UInt8} {r : List UInt8} (h : E.data.toList = b :: r) : (E.extract 1 E.size).data.toList = r := by
  have hz : E.data.toList.length = E.size := by simp
  simp only [ByteArray.data_extract, Array.toList_extract, List.extract_eq_take_drop]
  rw [h, ← hz, h]; simp
theorem val_of {l : List UInt8} (h : dims l ≤ 255) (he : elemLen (l.drop (dims l)) ≠ 0) : valLen l = dims l + elemLen (l.drop (dims l)) := by unfold valLen; rw [if_pos ⟨h, he⟩]
theorem val_big {l : List UInt8} (h : 255 < dims l) : valLen l = 0 := by unfold valLen; rw [if_neg (by omega)]
theorem val_none {l : List UInt8} (he : elemLen (l.drop (dims l)) = 0) : valLen l = 0 := by unfold valLen; rw [if_neg (by omega)]
theorem prim_cases {b : UInt8} (h : prim b = true) : b = 66 ∨ b = 67 ∨ b = 68 ∨ b = 70 ∨ b = 73 ∨ b = 74 ∨ b = 83 ∨ b = 90 := by
  simpa [prim] using h
theorem prim_not {b : UInt8} (h : prim b = false) : b ≠ 66 ∧ b ≠ 67 ∧ b ≠ 68 ∧ b ≠ 70 ∧ b ≠ 73 ∧ b ≠ 74 ∧ b ≠ 83 ∧ b ≠ 90 := by
  simpa [prim] using h
theorem byte_ne {b : UInt8} {n : Nat} (_hn : n < 256) (h : b ≠ UInt8.ofNat n) : ((b.toNat : Int) == (n : Int)) = false := by
  rw [beq_eq_false_iff_ne]
  intro e
  apply h
  have : b.toNat = n := by omega
  rw [← this]; simp
def fieldB (l : List UInt8) : Bool := !l.isEmpty && decide (valLen l = l.length)
def classB (l : List UInt8) : Bool := if [(91 : UInt8)].isPrefixOf l then fieldB l else pathB l
def initB : List UInt8 := [60, 105, 110, 105, 116, 62]
def clinitB : List UInt8 := [60, 99, 108, 105, 110, 105, 116, 62]
def memB (l : List UInt8) (m : Bool) : Nat :=
  if partM l = false then 0 else if m = false then 1 else if l = initB then 2 else if l = clinitB then 3 else if hasAny l [60, 62] then 0 else 1
end Go.Proofs.YtddhlphbbiihjaaGreatDoor
namespace Go.Proofs.YtddhlphbbiihjaaGreatDoor.Cw
open Go.RowKit
theorem grown_set (w : World) (b i : Nat) (v : Value) : w.grownBy (w.setCell ⟨b, i, none⟩ v) (some b) :=
  ⟨rfl, rfl, rfl, by simp, fun k _ hne => Below.heap_setCell w ⟨b, i, none⟩ v k (by intro h; subst h; exact hne rfl)⟩
theorem grown_of_below {w w' : World} (h : Below w.heap.size w w') (row : Option Nat) : w.grownBy w' row := ⟨h.os, h.tape, h.output, h.size, fun k hk _ => h.block k hk⟩
theorem row_in {w : World} {B : Nat} {v : Value} {n : Nat} {xs : List Value} (h : w.ownsRow B 3 1 v n xs) {b : Nat} (hb : v.ownBlock = some b) : B ≤ b ∧ b < w.heap.size := by
  rcases h.2 with ⟨rfl, _⟩ | ⟨g, cap, cur, rfl, h1, h2, _⟩
  · cases hb
  · cases hb; exact ⟨h1, (Array.getElem?_eq_some_iff.1 h2).1⟩
theorem row_kept {w w' : World} {B : Nat} {v : Value} {n : Nat} {xs : List Value} {row : Option Nat} (h : w.ownsRow B 3 1 v n xs) (hg : w.grownBy w' row) (hr : ∀ b, row = some b → v.ownBlock ≠ some b) : w'.ownsRow B 3 1 v n xs := by
  refine ⟨h.1, ?_⟩
  rcases h.2 with h0 | ⟨g, cap, cur, rfl, h1, h2, h3⟩
  · exact .inl h0
  · refine .inr ⟨g, cap, cur, rfl, h1, ?_, h3⟩
    rw [hg.block g (Array.getElem?_eq_some_iff.1 h2).1 (fun e => hr g e.symm rfl)]; exact h2
theorem own_form {w : World} {B : Nat} {e : TypeId} {k : Nat} {v : Value} {n : Nat} {xs : List Value} (h : w.ownsRow B e k v n xs) (hn : 0 < n) : ∃ g c, v = .slice (some ⟨g, 0, none⟩) n c := by
  rcases h.2 with ⟨_, h0⟩ | ⟨g, cap, cur, rfl, _⟩
  · omega
  · exact ⟨g, cap, rfl⟩
theorem row_form {w : World} {B e k n : Nat} {v : Value} {xs : List Value} (h : w.ownsRow B e k v n xs) : ∃ o m c, v = .slice o m c := by
  rcases h.2 with ⟨rfl, _⟩ | ⟨g, cap, cur, rfl, _⟩
  · exact ⟨_, _, _, rfl⟩
  · exact ⟨_, _, _, rfl⟩
theorem ins_in {w : World} {B e k n : Nat} {v : Value} {xs : List Value} (h : w.ownsRow B e k v n xs) {b : Nat} (hb : v.ownBlock = some b) : B ≤ b ∧ b < w.heap.size := by
  rcases h.2 with ⟨rfl, _⟩ | ⟨g, cap, cur, rfl, h1, h2, _⟩
  · cases hb
  · cases hb; exact ⟨h1, (Array.getElem?_eq_some_iff.1 h2).1⟩
theorem ins_kept {w w' : World} {B e k n : Nat} {v : Value} {xs : List Value} {row : Option Nat} (h : w.ownsRow B e k v n xs) (hg : w.grownBy w' row) (hr : ∀ b, row = some b → v.ownBlock ≠ some b) : w'.ownsRow B e k v n xs := by
  refine ⟨h.1, ?_⟩
  rcases h.2 with h0 | ⟨g, cap, cur, rfl, h1, h2, h3⟩
  · exact .inl h0
  · refine .inr ⟨g, cap, cur, rfl, h1, ?_, h3⟩
    rw [hg.block g (Array.getElem?_eq_some_iff.1 h2).1 (fun e => hr g e.symm rfl)]; exact h2
/-- A list of numbers that can be read. -/
def HasI (w : World) (v : Value) (xs : List Int) : Prop := ∃ ad cap, v = .slice ad xs.length cap ∧ (xs ≠ [] → ∃ b o, ad = some ⟨b, o, none⟩ ∧ ∀ k, k < xs.length → w.cell? ⟨b, o + k, none⟩ = some (.int .i64 (xs.getD k 0)))
theorem new8 (w : World) (xs : List Value) (t : TypeId) : ∀ j u, xs[j]? = some u → (w.alloc (.cells xs.toArray t)).cell? ((⟨w.heap.size, 0, none⟩ : Addr).add j) = some u := by
  intro j u hj
  rw [Addr.add_lit, Nat.zero_add]
  have h := cell_of_row (w.alloc (.cells xs.toArray t)) w.heap.size j xs.toArray t (0, 0) (heap_alloc_new w _)
  rw [h]; simpa using hj
theorem one8 (a1 a2 a3 a4 : Int) (o : Int) (b : Bool) (k1 : Option Addr) (k2 k3 : Nat) (t1 : Option Addr) (t2 t3 : Nat) : ∀ u ∈ [Value.int .i64 a1, .int .u8 o, .bool b, .int .i64 a2, .int .i64 a3, .int .i64 a4, .slice k1 k2 k3, .slice t1 t2 t3], u.oneCell' = true := by
  intro u hu
  simp only [List.mem_cons, List.not_mem_nil, or_false] at hu
  rcases hu with rfl | rfl | rfl | rfl | rfl | rfl | rfl | rfl <;> rfl
theorem HasI.form {w : World} {v : Value} {xs : List Int} (h : HasI w v xs) : ∃ a c, v = .slice a xs.length c := by
  obtain ⟨a, c, e, _⟩ := h; exact ⟨a, c, e⟩
theorem HasI.below {w w' : World} {v : Value} {xs : List Int} (h : HasI w v xs) (hb : Below w.heap.size w w') : HasI w' v xs := by
  obtain ⟨a, c, e, hc⟩ := h
  refine ⟨a, c, e, fun hne => ?_⟩
  obtain ⟨b, o, e1, hk⟩ := hc hne
  exact ⟨b, o, e1, fun k hl => (hb.cell (cell_lt (hk k hl))).trans (hk k hl)⟩
/-- An instruction as it may be handed in. -/
structure G where
  at_ : Int
  op : Nat
  wide : Bool
  a : Int
  b : Int
  low : Int
  keys : List Int
  tgts : List Int
/-- An instruction, and where its lists lie. -/
structure V where
  g : G
  kv : Value
  tv : Value
def V.arr (c : V) : Array Value := #[.int .i64 c.g.at_, .int .u8 (c.g.op : Int), .bool c.g.wide, .int .i64 c.g.a, .int .i64 c.g.b, .int .i64 c.g.low, c.kv, c.tv]
structure V.Ok (w : World) (c : V) : Prop where
  k : HasI w c.kv c.g.keys
  t : HasI w c.tv c.g.tgts
  op : c.g.op < 256
  kl : c.g.keys.length ≤ 1048576
  tl : c.g.tgts.length ≤ 1048576
theorem V.Ok.below {w w' : World} {c : V} (h : c.Ok w) (hb : Below w.heap.size w w') : c.Ok w' := ⟨h.k.below hb, h.t.below hb, h.op, h.kl, h.tl⟩
/-- What is asked of an instruction that is handed in. -/
structure V.Fit (w : World) (c : V) : Prop where
  ok : c.Ok w
  tl : c.g.tgts.length ≤ 100000
  wf : ∀ t ∈ c.g.tgts, (Lit.int .i64 t).wf = true
  cap : ∀ ad n cap, c.tv = .slice ad n cap → n ≤ cap
theorem V.Fit.below {w w' : World} {c : V} (h : c.Fit w) (hb : Below w.heap.size w w') : c.Fit w' := ⟨h.ok.below hb, h.tl, h.wf, h.cap⟩
/-- A list of instructions that can be read. -/
structure GHas (w : World) (v : Value) (L : List V) : Prop where
  form : ∃ ad cap, v = .slice ad L.length cap ∧ (L ≠ [] → ∃ b o, ad = some ⟨b, o, none⟩ ∧ ∀ k (hk : k < L.length), ∀ i, i < 8 → w.cell? ⟨b, o + k * 8 + i, none⟩ = (L[k]).arr[i]?)
  fit : ∀ c ∈ L, c.Fit w
/-- The eight cells of an instruction that is handed in. -/
def At8v (w : World) (b o : Nat) (c : V) : Prop := w.cell? ⟨b, o, none⟩ = some (.int .i64 c.g.at_) ∧ w.cell? ⟨b, o + 1, none⟩ = some (.int .u8 (c.g.op : Int)) ∧ w.cell? ⟨b, o + 2, none⟩ = some (.bool c.g.wide) ∧ w.cell? ⟨b, o + 3, none⟩ = some (.int .i64 c.g.a) ∧
  w.cell? ⟨b, o + 4, none⟩ = some (.int .i64 c.g.b) ∧ w.cell? ⟨b, o + 5, none⟩ = some (.int .i64 c.g.low) ∧ w.cell? ⟨b, o + 6, none⟩ = some c.kv ∧ w.cell? ⟨b, o + 7, none⟩ = some c.tv
theorem At8v.of {w : World} {b o k : Nat} {c : V} (h : ∀ i, i < 8 → w.cell? ⟨b, o + k * 8 + i, none⟩ = c.arr[i]?) : At8v w b (o + k * 8) c :=
  ⟨h 0 (by omega), h 1 (by omega), h 2 (by omega), h 3 (by omega), h 4 (by omega), h 5 (by omega), h 6 (by omega), h 7 (by omega)⟩
end Go.Proofs.YtddhlphbbiihjaaGreatDoor.Cw
