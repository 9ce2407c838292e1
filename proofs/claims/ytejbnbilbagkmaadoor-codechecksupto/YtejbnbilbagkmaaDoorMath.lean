/-
  Plain mathematics of names and descriptors, over lists of bytes. Nothing of the program is named here.
-/
import Derived.Lib.IndexAny
import Derived.Lib.IndexMore
import Derived.Lib.TrimByte
import Derived.Below
namespace Go.Proofs.YtejbnbilbagkmaaDoor
/-- A fact that no walk takes for a rule. -/
def Hid (p : Prop) : Prop := p
theorem hide {p : Prop} (h : p) : Hid p := h
theorem unhide {p : Prop} (h : Hid p) : p := h
def hasAny (l cs : List UInt8) : Bool := l.any fun b => cs.contains b
theorem hasAny_index (cs : List UInt8) : ∀ l : List UInt8, hasAny l cs = decide (0 ≤ Lib.indexAny l cs)
  | [] => by simp [hasAny, Lib.indexAny]
  | b :: l => by
    have ih := hasAny_index cs l
    have hg := Lib.indexAny_ge cs l
    unfold hasAny at ih ⊢
    rw [List.any_cons, ih, Lib.indexAny]
    by_cases hb : cs.contains b = true
    · rw [hb, if_pos rfl]; simp
    · have hb' : cs.contains b = false := by simpa using hb
      rw [hb', Bool.false_or, if_neg (by simp)]
      by_cases h1 : (Lib.indexAny l cs == -1) = true
      · rw [if_pos h1, beq_iff_eq.1 h1]
      · rw [if_neg h1]
        have h2 : Lib.indexAny l cs ≠ -1 := by simpa using h1
        congr 1; apply propext; omega
theorem hasAny_no {l cs : List UInt8} (h : Lib.NoAny l cs l.length) : hasAny l cs = false := by
  unfold hasAny
  rw [List.any_eq_false]
  intro b hb
  obtain ⟨j, hj, rfl⟩ := List.mem_iff_getElem.1 hb
  rw [h j _ hj (List.getElem?_eq_getElem hj)]; simp
theorem hasAny_yes {l cs : List UInt8} {j : Nat} {b : UInt8} (h : l[j]? = some b) (hc : cs.contains b = true) : hasAny l cs = true := by
  unfold hasAny
  rw [List.any_eq_true]
  exact ⟨b, List.mem_of_getElem? h, hc⟩
/-- May it be a part of a name, as far as its bytes but the slash go? -/
def partB (l : List UInt8) : Bool := !l.isEmpty && !hasAny l [46, 59, 91]
theorem hasAny_slash {l : List UInt8} (h : (47 : UInt8) ∉ l) : hasAny l [46, 59, 91, 47] = hasAny l [46, 59, 91] := by
  induction l with
  | nil => rfl
  | cons b l ih =>
    have hb : b ≠ 47 := fun e => h (by rw [e]; exact List.mem_cons_self ..)
    have ih' := ih (fun m => h (List.mem_cons_of_mem _ m))
    unfold hasAny at ih' ⊢
    rw [List.any_cons, List.any_cons, ih']
    congr 1
    simp [hb]
/-- Parts with slashes between; 'ne': the part at hand has a byte already. -/
def okp : Bool → List UInt8 → Bool
  | ne, [] => ne
  | ne, b :: l => if b = 47 then ne && okp false l else if [46, 59, 91].contains b then false else okp true l
def pathB (l : List UInt8) : Bool := okp false l
theorem okp_part : ∀ {p : List UInt8} (ne : Bool), (47 : UInt8) ∉ p → okp ne p = ((ne || !p.isEmpty) && !hasAny p [46, 59, 91])
  | [], ne, _ => by simp [okp, hasAny]
  | b :: p, ne, h => by
    have hb : b ≠ 47 := fun e => h (by rw [e]; exact List.mem_cons_self ..)
    have ih := okp_part (p := p) true (fun m => h (List.mem_cons_of_mem _ m))
    rw [okp, if_neg hb]
    unfold hasAny at ih ⊢
    rw [List.any_cons]
    by_cases hc : ([46, 59, 91] : List UInt8).contains b = true
    · rw [if_pos hc, hc]; simp
    · have hc' : ([46, 59, 91] : List UInt8).contains b = false := by simpa using hc
      rw [if_neg hc, ih, hc']; simp
theorem okp_slash : ∀ {p : List UInt8} (ne : Bool) (r : List UInt8), (47 : UInt8) ∉ p → okp ne (p ++ 47 :: r) = ((ne || !p.isEmpty) && !hasAny p [46, 59, 91] && okp false r)
  | [], ne, r, _ => by simp [okp, hasAny]
  | b :: p, ne, r, h => by
    have hb : b ≠ 47 := fun e => h (by rw [e]; exact List.mem_cons_self ..)
    have ih := okp_slash (p := p) true r (fun m => h (List.mem_cons_of_mem _ m))
    rw [List.cons_append, okp, if_neg hb]
    unfold hasAny at ih ⊢
    rw [List.any_cons]
    by_cases hc : ([46, 59, 91] : List UInt8).contains b = true
    · rw [if_pos hc, hc]; simp
    · have hc' : ([46, 59, 91] : List UInt8).contains b = false := by simpa using hc
      rw [if_neg hc, ih, hc']; simp
theorem path_part {p : List UInt8} (h : (47 : UInt8) ∉ p) : pathB p = partB p := by unfold pathB partB; rw [okp_part false h]; simp
theorem path_slash {p r : List UInt8} (h : (47 : UInt8) ∉ p) : pathB (p ++ 47 :: r) = (partB p && pathB r) := by unfold pathB partB; rw [okp_slash false r h]; simp
theorem index_byte (c : UInt8) : ∀ l : List UInt8, (∃ p r, l = p ++ c :: r ∧ c ∉ p ∧ Lib.index l [c] = (p.length : Nat)) ∨ (c ∉ l ∧ Lib.index l [c] = -1)
  | [] => .inr ⟨by simp, by simp [Lib.index]⟩
  | b :: l => by
    by_cases hb : b = c
    · subst hb
      exact .inl ⟨[], l, rfl, by simp, by simp [Lib.index, List.isPrefixOf]⟩
    · have hp : ([c] : List UInt8).isPrefixOf (b :: l) = false := by simp [List.isPrefixOf]; exact fun e => hb e.symm
      rcases index_byte c l with ⟨p, r, h1, h2, h3⟩ | ⟨h1, h2⟩
      · refine .inl ⟨b :: p, r, by rw [h1]; rfl, fun m => ?_, ?_⟩
        · rcases List.mem_cons.1 m with e | m
          · exact hb e.symm
          · exact h2 m
        · have : ((p.length : Int) == -1) = false := by rw [beq_eq_false_iff_ne]; omega
          rw [Lib.index, hp, h3, this]; simp
      · refine .inr ⟨fun m => ?_, by rw [Lib.index, hp, h2]; simp⟩
        rcases List.mem_cons.1 m with e | m
        · exact hb e.symm
        · exact h1 m
theorem cut_byte (c : UInt8) (l : List UInt8) : (∃ p r, l = p ++ c :: r ∧ c ∉ p ∧ Lib.cut l [c] = (p, r, true)) ∨ (c ∉ l ∧ Lib.cut l [c] = (l, [], false)) := by
  rcases index_byte c l with ⟨p, r, h1, h2, h3⟩ | ⟨h1, h2⟩
  · refine .inl ⟨p, r, h1, h2, ?_⟩
    unfold Lib.cut
    rw [h3, if_pos (by omega), h1]
    simp
  · refine .inr ⟨h1, ?_⟩
    unfold Lib.cut
    rw [h2, if_neg (by omega)]
def prim (b : UInt8) : Bool := ([66, 67, 68, 70, 73, 74, 83, 90] : List UInt8).contains b
def nameOf (r : List UInt8) : List UInt8 := r.takeWhile (· != 59)
/-- How long the descriptor of a value that is no array is with which it begins; 0: it begins with none. -/
def elemLen : List UInt8 → Nat
  | [] => 0
  | b :: r => if prim b then 1 else if b = 76 then (if r.contains 59 && pathB (nameOf r) then (nameOf r).length + 2 else 0) else 0
def dims (l : List UInt8) : Nat := (l.takeWhile (· == 91)).length
def valLen (l : List UInt8) : Nat := if dims l ≤ 255 ∧ elemLen (l.drop (dims l)) ≠ 0 then dims l + elemLen (l.drop (dims l)) else 0
theorem name_of {p r : List UInt8} (h : (59 : UInt8) ∉ p) : nameOf (p ++ 59 :: r) = p := by
  unfold nameOf
  induction p with
  | nil => simp
  | cons b p ih =>
    have hb : b ≠ 59 := fun e => h (by rw [e]; exact List.mem_cons_self ..)
    rw [List.cons_append, List.takeWhile_cons, if_pos (by simpa using hb), ih (fun m => h (List.mem_cons_of_mem _ m))]
theorem elem_name {p r : List UInt8} (h : (59 : UInt8) ∉ p) : elemLen (76 :: (p ++ 59 :: r)) = if pathB p then p.length + 2 else 0 := by
  rw [elemLen, if_neg (by decide), if_pos rfl, name_of h]; simp
theorem elem_none {r : List UInt8} (h : (59 : UInt8) ∉ r) : elemLen (76 :: r) = 0 := by
  rw [elemLen, if_neg (by decide), if_pos rfl, if_neg (by simp [h])]
theorem elem_prim {b : UInt8} {r : List UInt8} (h : prim b = true) : elemLen (b :: r) = 1 := by rw [elemLen, if_pos h]
theorem elem_other {b : UInt8} {r : List UInt8} (h : prim b = false) (h2 : b ≠ 76) : elemLen (b :: r) = 0 := by rw [elemLen, if_neg (by simp [h]), if_neg h2]
theorem dims_cons (r : List UInt8) : dims (91 :: r) = dims r + 1 := by simp [dims]
theorem dims_other {b : UInt8} {r : List UInt8} (h : b ≠ 91) : dims (b :: r) = 0 := by simp [dims, h]
theorem drop_dims (l : List UInt8) : l.drop (dims l) = Lib.trimLeftB l 91 := by
  unfold dims Lib.trimLeftB
  induction l with
  | nil => rfl
  | cons b l ih =>
    by_cases hb : (b == 91) = true
    · rw [List.takeWhile_cons, if_pos hb, List.dropWhile_cons, if_pos hb]; simpa using ih
    · rw [List.takeWhile_cons, if_neg hb, List.dropWhile_cons, if_neg hb]; rfl
theorem dims_le (l : List UInt8) : dims l ≤ l.length := by unfold dims; exact (List.takeWhile_prefix _).length_le
theorem elem_le (l : List UInt8) : elemLen l ≤ l.length := by
  cases l with
  | nil => simp [elemLen]
  | cons b r =>
    rw [elemLen]
    split
    · simp
    · split
      · split
        · rename_i h
          simp only [Bool.and_eq_true, List.contains_iff_mem] at h
          have : (nameOf r).length < r.length := by
            unfold nameOf
            have h1 := (List.takeWhile_prefix (fun x : UInt8 => x != 59) (l := r)).length_le
            rcases Nat.lt_or_eq_of_le h1 with h2 | h2
            · exact h2
            · exfalso
              have h3 : r.takeWhile (fun x : UInt8 => x != 59) = r := (List.takeWhile_prefix _).eq_of_length h2
              have h4 := List.all_eq_true.1 (List.all_takeWhile (p := fun x : UInt8 => x != 59) (l := r)) 59 (by rw [h3]; exact h.1)
              simp at h4
          simp only [List.length_cons]; omega
        · omega
      · omega
theorem val_le (l : List UInt8) : valLen l ≤ l.length := by
  unfold valLen
  split
  · have h1 := elem_le (l.drop (dims l))
    have h2 := dims_le l
    rw [List.length_drop] at h1
    omega
  · omega
end Go.Proofs.YtejbnbilbagkmaaDoor
