/-
  Lists of instructions: of one's own, and such as can be read.
  firstLost: the first instruction that has a target where none begins.
  How great the numbers of what is read may be.
-/
import Derived.Test.YtddhlphbbiihjaaGreatDoorPInstr
import Derived.Maps.OwnSet
namespace Go.Proofs.YtddhlphbbiihjaaGreatDoor.Dc
open Go.RowKit
/-- An instruction as it lies in a list: what it is, and where its lists lie. -/
structure J where
  i : I
  kv : Value
  tv : Value
def J.c (j : J) : C := ⟨j.i.at_, j.i.op, j.i.wide, j.i.a, j.i.b, j.i.low, j.kv, j.tv⟩
def J.cells (j : J) : List Value := j.c.cells.toList
def JC : List J → List Value
  | [] => []
  | j :: l => j.cells ++ JC l
theorem JC_append (a b : List J) : JC (a ++ b) = JC a ++ JC b := by
  induction a with
  | nil => rfl
  | cons c a ih => simp only [List.cons_append, JC, ih, List.append_assoc]
theorem JC_snoc (l : List J) (j : J) : JC (l ++ [j]) = JC l ++ j.cells := by rw [JC_append]; simp [JC]
theorem J.cells_length (j : J) : j.cells.length = 8 := rfl
theorem JC_at (l : List J) (k : Nat) (hk : k < l.length) (i : Nat) (hi : i < 8) : (JC l)[k * 8 + i]? = (l[k]).cells[i]? := by
  induction l generalizing k with
  | nil => simp at hk
  | cons c a ih =>
    cases k with
    | zero => simp only [JC, Nat.zero_mul, Nat.zero_add, List.getElem_cons_zero]; rw [List.getElem?_append_left (by rw [J.cells_length]; omega)]
    | succ k =>
      simp only [JC, List.getElem_cons_succ]
      rw [List.getElem?_append_right (by rw [J.cells_length]; omega), J.cells_length, show (k + 1) * 8 + i - 8 = k * 8 + i by omega]
      exact ih k (by simpa using hk)
def J.blocks (j : J) : List Nat := j.kv.ownBlock.toList ++ j.tv.ownBlock.toList
def blocks (L : List J) : List Nat := L.flatMap J.blocks
/-- A list of instructions of one's own: no two of its lists lie in one row. -/
structure Lst (w : World) (B : Nat) (v : Value) (L : List J) : Prop where
  row : w.ownsRow B 112 8 v L.length (JC L)
  own : ∀ j ∈ L, Own2 w B j.kv j.tv j.i.keys j.i.tgts
  apart : (v.ownBlock.toList ++ blocks L).Nodup
theorem ins_in {w : World} {B e k n : Nat} {v : Value} {xs : List Value} (h : w.ownsRow B e k v n xs) {b : Nat} (hb : v.ownBlock = some b) : B ≤ b ∧ b < w.heap.size := by
  rcases h.2 with ⟨rfl, _⟩ | ⟨g, cap, cur, rfl, h1, h2, _⟩
  · cases hb
  · cases hb; exact ⟨h1, (Array.getElem?_eq_some_iff.1 h2).1⟩
theorem ins_kept {w w' : World} {B e k n : Nat} {v : Value} {xs : List Value} {row : Option Nat} (h : w.ownsRow B e k v n xs) (hg : w.grownBy w' row) (hr : ∀ b, row = some b → v.ownBlock ≠ some b) : w'.ownsRow B e k v n xs := by
  refine ⟨h.1, ?_⟩
  rcases h.2 with h0 | ⟨g, cap, cur, rfl, h1, h2, h3⟩
  · exact .inl h0
  · refine .inr ⟨g, cap, cur, rfl, h1, ?_, h3⟩
    rw [hg.block g (Array.getElem?_eq_some_iff.1 h2).1 (fun e => hr g e.symm rfl)]; exact h2
theorem Lst.nil (w : World) (B : Nat) : Lst w B (.slice none 0 0) [] := ⟨World.ownsRow_nil _ _ _ _, (fun _ h => by cases h), by simp [Value.ownBlock, blocks]⟩
theorem mem_blocks {L : List J} {b : Nat} : b ∈ blocks L ↔ ∃ j ∈ L, j.kv.ownBlock = some b ∨ j.tv.ownBlock = some b := by
  unfold blocks J.blocks; simp [List.mem_flatMap, Option.mem_toList]
theorem Lst.blocks_in {w : World} {B : Nat} {v : Value} {L : List J} (h : Lst w B v L) {b : Nat} (hb : b ∈ v.ownBlock.toList ++ blocks L) : B ≤ b ∧ b < w.heap.size := by
  rw [List.mem_append] at hb
  rcases hb with hb | hb
  · exact ins_in h.row (by simpa using hb)
  · obtain ⟨j, hj, e | e⟩ := mem_blocks.1 hb
    · exact row_in (h.own j hj).k e
    · exact row_in (h.own j hj).t e
theorem Lst.kept {w w' : World} {B : Nat} {v : Value} {L : List J} {row : Option Nat} (h : Lst w B v L) (hg : w.grownBy w' row) (hr : ∀ b, row = some b → b < B) : Lst w' B v L :=
  ⟨ins_kept h.row hg (fun b e e2 => by have := hr b e; have := (ins_in h.row e2).1; omega), fun j hj => (h.own j hj).kept hg hr, h.apart⟩
theorem Own2.keptX {w w' : World} {B : Nat} {kv tv : Value} {ks ts : List Int} {row : Option Nat} (h : Own2 w B kv tv ks ts) (hg : w.grownBy w' row) (h1 : ∀ b, row = some b → kv.ownBlock ≠ some b) (h2 : ∀ b, row = some b → tv.ownBlock ≠ some b) : Own2 w' B kv tv ks ts :=
  ⟨row_kept h.k hg h1, row_kept h.t hg h2, h.apart⟩
theorem Own2.base {w : World} {B B' : Nat} {kv tv : Value} {ks ts : List Int} (h : Own2 w B kv tv ks ts) (hB : B' ≤ B) : Own2 w B' kv tv ks ts := ⟨row_base h.k hB, row_base h.t hB, h.apart⟩
/-- One more instruction, its lists laid since. -/
theorem Lst.push {w w1 w3 : World} {B : Nat} {v v' : Value} {L : List J} {j : J} {row : Option Nat} {o : Obj} (h : Lst w B v L) (hB : B ≤ w.heap.size) (hg : w.grownBy w1 row) (hr : ∀ b, row = some b → b < B)
    (hj : Own2 w1 w.heap.size j.kv j.tv j.i.keys j.i.tgts) (hrow : w3.ownsRow B 112 8 v' (L.length + 1) (JC L ++ j.cells)) (hg3 : (w1.alloc o).grownBy w3 v.ownBlock) (hl : v'.ownBlock = v.ownBlock ∨ v'.ownBlock = some (w1.alloc o).heap.size) :
    Lst w3 B v' (L ++ [j]) := by
  have hnd := List.nodup_append.1 h.apart
  have hz : (w1.alloc o).heap.size = w1.heap.size + 1 := by simp
  have hold : ∀ b, v.ownBlock = some b → B ≤ b ∧ b < w.heap.size := fun b e => ins_in h.row e
  refine ⟨?_, ?_, ?_⟩
  · rw [JC_snoc, List.length_append, List.length_singleton]; exact hrow
  · intro k hk
    rw [List.mem_append, List.mem_singleton] at hk
    rcases hk with hk | rfl
    · have h1 := ((h.own k hk).kept hg hr).kept (World.grownBy_alloc w1 o none) (fun _ e => by cases e)
      refine h1.keptX hg3 (fun b e e2 => ?_) (fun b e e2 => ?_)
      · exact hnd.2.2 b (by simp [e]) b (mem_blocks.2 ⟨k, hk, .inl e2⟩) rfl
      · exact hnd.2.2 b (by simp [e]) b (mem_blocks.2 ⟨k, hk, .inr e2⟩) rfl
    · have h1 := hj.kept (World.grownBy_alloc w1 o none) (fun _ e => by cases e)
      refine (h1.keptX hg3 (fun b e e2 => ?_) (fun b e e2 => ?_)).base hB
      · have := (row_in hj.k e2).1; have := hold b e; omega
      · have := (row_in hj.t e2).1; have := hold b e; omega
  · have hbl : blocks (L ++ [j]) = blocks L ++ J.blocks j := by unfold blocks; simp
    have hnew : ∀ b, b ∈ J.blocks j → w.heap.size ≤ b ∧ b < w1.heap.size := fun b hb => by
      unfold J.blocks at hb
      rw [List.mem_append] at hb
      rcases hb with hb | hb
      · exact row_in hj.k (by simpa using hb)
      · exact row_in hj.t (by simpa using hb)
    have hj2 : (J.blocks j).Nodup := by
      unfold J.blocks
      rw [List.nodup_append]
      refine ⟨by cases j.kv.ownBlock <;> simp, by cases j.tv.ownBlock <;> simp, fun a ha b hb e => ?_⟩
      subst e
      exact hj.apart a (by simpa using ha) (by simpa using hb)
    rw [hbl, List.nodup_append]
    refine ⟨by cases v'.ownBlock <;> simp, ?_, ?_⟩
    · rw [List.nodup_append]
      refine ⟨hnd.2.1, hj2, fun a ha b hb e => ?_⟩
      subst e
      have := (h.blocks_in (List.mem_append_right _ ha)).2
      have := (hnew a hb).1
      omega
    · intro a ha b hb e
      subst e
      have ha' : v'.ownBlock = some a := by simpa using ha
      rw [List.mem_append] at hb
      rcases hl with hl | hl
      · rw [hl] at ha'
        rcases hb with hb | hb
        · exact hnd.2.2 a (by simp [ha']) a hb rfl
        · have := (hnew a hb).1; have := hold a ha'; omega
      · rw [hl, hz] at ha'
        cases ha'
        rcases hb with hb | hb
        · have := (h.blocks_in (List.mem_append_right _ hb)).2; have := hg.size; omega
        · have := (hnew _ hb).2; omega
/-- A list of numbers that can be read. -/
def HasI (w : World) (v : Value) (xs : List Int) : Prop := ∃ ad cap, v = .slice ad xs.length cap ∧ (xs ≠ [] → ∃ b o, ad = some ⟨b, o, none⟩ ∧ ∀ k, k < xs.length → w.cell? ⟨b, o + k, none⟩ = some (.int .i64 (xs.getD k 0)))
/-- A list of instructions that can be read. -/
structure Has (w : World) (v : Value) (L : List J) : Prop where
  form : ∃ ad cap, v = .slice ad L.length cap ∧ (L ≠ [] → ∃ b o, ad = some ⟨b, o, none⟩ ∧ ∀ k (hk : k < L.length), ∀ i, i < 8 → w.cell? ⟨b, o + k * 8 + i, none⟩ = (L[k]).cells[i]?)
  own : ∀ j ∈ L, HasI w j.kv j.i.keys ∧ HasI w j.tv j.i.tgts
theorem HasI.of_own {w : World} {B : Nat} {v : Value} {xs : List Int} (h : w.ownsRow B 3 1 v xs.length (xs.map (Value.int .i64))) : HasI w v xs := by
  rcases h.2 with ⟨rfl, h0⟩ | ⟨g, cap, cur, rfl, h1⟩
  · exact ⟨none, 0, by rw [h0], fun hne => absurd (List.length_eq_zero_iff.1 h0) hne⟩
  · refine ⟨_, _, rfl, fun _ => ⟨g, 0, rfl, fun k hk => ?_⟩⟩
    rw [Nat.zero_add]; exact row_at h k hk
theorem Has.of_lst {w : World} {B : Nat} {v : Value} {L : List J} (h : Lst w B v L) : Has w v L := by
  refine ⟨?_, fun j hj => ⟨HasI.of_own (h.own j hj).k, HasI.of_own (h.own j hj).t⟩⟩
  rcases h.row.2 with ⟨rfl, h0⟩ | ⟨g, cap, cur, rfl, h1⟩
  · exact ⟨none, 0, by rw [h0], fun hne => absurd (List.length_eq_zero_iff.1 h0) hne⟩
  · refine ⟨_, _, rfl, fun _ => ⟨g, 0, rfl, fun k hk i hi => ?_⟩⟩
    have e := JC_at L k hk i hi
    have hc : (L[k]).cells[i]? = some ((L[k]).cells[i]'(by rw [J.cells_length]; exact hi)) := List.getElem?_eq_getElem _
    rw [hc] at e ⊢
    have := h.row.cells (g := g) rfl (k * 8 + i) _ e
    rw [Addr.add_lit] at this
    rw [show 0 + k * 8 + i = 0 + (k * 8 + i) by omega]
    exact this
/-- The eight cells of an instruction. -/
def At8 (w : World) (b o : Nat) (c : C) : Prop := w.cell? ⟨b, o, none⟩ = some (.int .i64 (c.at_ : Int)) ∧ w.cell? ⟨b, o + 1, none⟩ = some (.int .u8 (c.op : Int)) ∧ w.cell? ⟨b, o + 2, none⟩ = some (.bool c.wide) ∧ w.cell? ⟨b, o + 3, none⟩ = some (.int .i64 c.a) ∧
  w.cell? ⟨b, o + 4, none⟩ = some (.int .i64 c.b) ∧ w.cell? ⟨b, o + 5, none⟩ = some (.int .i64 c.low) ∧ w.cell? ⟨b, o + 6, none⟩ = some c.kv ∧ w.cell? ⟨b, o + 7, none⟩ = some c.tv
theorem At8.of {w : World} {b o k : Nat} {j : J} (h : ∀ i, i < 8 → w.cell? ⟨b, o + k * 8 + i, none⟩ = j.cells[i]?) : At8 w b (o + k * 8) j.c :=
  ⟨h 0 (by omega), h 1 (by omega), h 2 (by omega), h 3 (by omega), h 4 (by omega), h 5 (by omega), h 6 (by omega), h 7 (by omega)⟩
end Go.Proofs.YtddhlphbbiihjaaGreatDoor.Dc
namespace Go.Proofs.YtddhlphbbiihjaaGreatDoor.Dc
open Go.RowKit Go.Maps
theorem law3 : Keyed Tryz.prog 3 := int_keyed Tryz.underlying3
theorem zero102 (w : World) : (zeroValue 102).run Tryz.prog w = .ok (.agg #[]) w := by kernel_rfl
theorem run_makeMapN (n : Int) (w : World) : (Instr.makeMap 160 (some (.int .i64 n))).run Tryz.prog w = .ok (.map (some w.heap.size)) (w.alloc (.map #[] 0)) := by
  simp [Instr.makeMap, run_underlying Tryz.underlying160, asInt, Result.andThen, go_sem]
/-- The places at which the first k instructions begin, as a set. -/
def Sd (L : List J) (k : Nat) : DataW Unit := setOf (.agg []) ((L.take k).map fun j => Lit.int .i64 (j.i.at_ : Int))
theorem Sd_zero (L : List J) : Sd L 0 = .map [] := by simp [Sd, setOf]
theorem Sd_succ (L : List J) (k : Nat) (hk : k < L.length) : Sd L (k + 1) = (Sd L k).put (.int .i64 ((L[k]).i.at_ : Int)) (.agg []) := by
  unfold Sd
  rw [List.take_add_one, List.getElem?_eq_getElem hk]
  simp only [Option.toList_some, List.map_append, List.map_cons, List.map_nil]
  rw [setOf_snoc]
theorem has_Sd (L : List J) (t : Int) : Maps.has (Sd L L.length) (.int .i64 t) = M.begins (L.map J.i) t := by
  unfold Sd
  rw [has_setOf _ _ _ (fun x hx => by
    obtain ⟨j, _, rfl⟩ := List.mem_map.1 hx
    trivial), List.take_length]
  unfold M.begins
  rw [List.any_map, List.any_map]
  congr 1
  funext j
  simp [Lit.sameKey]
theorem lost_none {L : List J} (h : ∀ m (hm : m < L.length), M.lost (L.map J.i) (L[m]).i = false) : M.firstLost (L.map J.i) = none := by
  unfold M.firstLost
  rw [List.findIdx?_eq_none_iff]
  intro x hx
  obtain ⟨j, hj, rfl⟩ := List.mem_map.1 hx
  obtain ⟨m, hm, rfl⟩ := List.getElem_of_mem hj
  exact h m hm
theorem lost_some {L : List J} {k : Nat} (hk : k < L.length) (h : ∀ m (hm : m < L.length), m < k → M.lost (L.map J.i) (L[m]).i = false) (h1 : M.lost (L.map J.i) (L[k]).i = true) : M.firstLost (L.map J.i) = some k := by
  unfold M.firstLost
  rw [List.findIdx?_eq_some_iff_getElem]
  refine ⟨by simpa using hk, by simpa using h1, fun m hm => ?_⟩
  have := h m (by omega) hm
  simpa using this
set_option maxRecDepth 100000 in
set_option maxHeartbeats 2000000 in
theorem firstLost_none (ad : Option Addr) (cap : Nat) (w : World) : Calls Tryz.prog 90 #[.slice ad 0 cap] w fun x w' => x = .returned (.int .i64 (-1)) ∧ Below w.heap.size w w' := by
  have hmm := run_makeMapN
  go_enter Tryz.func90, Tryz.ntmps90
  go_wp2_with fail
  refine wp_loop_rounds 1 ?_
  rw [rounds_succ]
  go_wp2_with fail
  refine wp_loop_rounds 1 ?_
  rw [rounds_succ]
  go_wp2
  go_ret
  exact ⟨rfl, (Below.refl _ _).alloc (Nat.le_refl _) _⟩
set_option maxRecDepth 100000 in
set_option maxHeartbeats 2000000 in
theorem firstLost_main (L : List J) (b o cap : Nat) (w : World) (hlen : L.length ≤ 1048576) (hb : b < w.heap.size) (hc : ∀ k (hk : k < L.length), ∀ i, i < 8 → w.cell? ⟨b, o + k * 8 + i, none⟩ = (L[k]).cells[i]?)
    (hk : ∀ j ∈ L, HasI w j.kv j.i.keys ∧ HasI w j.tv j.i.tgts) (hat : ∀ j ∈ L, j.i.at_ ≤ 1048576) (hwf : ∀ j ∈ L, ∀ t ∈ j.i.tgts, (Lit.int .i64 t).wf = true) (htl : ∀ j ∈ L, j.i.tgts.length ≤ 1048576) :
    Calls Tryz.prog 90 #[.slice (some ⟨b, o, none⟩) L.length cap] w fun x w' => x = .returned (.int .i64 (match M.firstLost (L.map J.i) with | none => -1 | some k => (k : Int))) ∧ Below w.heap.size w w' := by
  obtain ⟨res, hres⟩ : ∃ r : Int, r = (match M.firstLost (L.map J.i) with | none => -1 | some k => (k : Int)) := ⟨_, rfl⟩
  rw [← hres]
  have Hres := hide hres
  have Hc := hide hc
  have Hk := hide hk
  have Hat := hide hat
  have Hwf := hide hwf
  have Htl := hide htl
  clear hres hc hk hat hwf htl
  have hmm := run_makeMapN
  go_enter Tryz.func90, Tryz.ntmps90
  go_wp2_with fail
  go_loopw [17] (fun i wr => ∃ k : Nat, k ≤ L.length ∧ i = .int .i64 k ∧ wr.ownsMap Tryz.prog 3 unitElem w.heap.size k (Sd L k) ∧ Below w.heap.size w wr ∧ w.heap.size + 1 ≤ wr.heap.size) (fun i _ => L.length - (intOf i).toNat)
  case atStart => exact ⟨0, Nat.zero_le _, rfl, by rw [Sd_zero]; exact World.ownsMap_made _ _ _ _, (Below.refl _ _).alloc (Nat.le_refl _) _, by simp⟩
  case round =>
    obtain ⟨k, hk, rfl, hown, hnx, hws⟩ := hrel
    by_cases hlt : k < L.length
    · have hcx : ∀ i, i < 8 → wr.cell? ⟨b, o + k * 8 + i, none⟩ = (L[k]).cells[i]? := fun i hi => (hnx.cell (by exact hb)).trans (unhide Hc k hlt i hi)
      have hsd := Sd_succ L k hlt
      obtain ⟨j, hj⟩ : ∃ j, j = L[k] := ⟨_, rfl⟩
      rw [← hj] at hcx hsd
      have hmem : j ∈ L := by rw [hj]; exact List.getElem_mem hlt
      have hatk : j.i.at_ ≤ 1048576 := unhide Hat j hmem
      obtain ⟨⟨a1, c1, e1, _⟩, ⟨a2, c2, e2, _⟩⟩ := unhide Hk j hmem
      obtain ⟨x0, x1, x2, x3, x4, x5, x6, x7⟩ := At8.of hcx
      simp only [J.c, e1, e2] at x0 x1 x2 x3 x4 x5 x6 x7
      have Hsd := hide hsd
      have hkey : keyOf Tryz.prog 3 (.int .i64 (j.i.at_ : Int)) = some (.int .i64 (j.i.at_ : Int)) := keyOf_int_mk Tryz.underlying3 (WalkArith.wf_i64 (by omega))
      have Hkey := hide hkey
      clear hj hsd hcx hkey e1 e2 hmem
      go_wp2_with (first | (at_mapUpdate; refine wpList_mapUpdate_own _ rfl _ _ _ 160 rfl 3 102 law3 Tryz.underlying160 (unitElem (H := Unit)) w.heap.size k _ rfl (hown.alloc _) (by unfold maxLen; omega) _ _ _ rfl rfl (unhide Hkey) _ [] unitElem_mk ?_; intro w1 hown1 hgrow1) | go_in)
      have s1 := hgrow1.size
      simp at s1
      go_roundw
      case rel =>
        exact ⟨k + 1, by omega, by go_num, by rw [unhide Hsd]; exact hown1, (hnx.alloc hnx.size _).grown hgrow1 (by simp; omega) (fun j hj => by cases hj; exact Nat.le_refl _), by omega⟩
      case measure => simp [intOf]; omega
    · have hkl : k = L.length := by omega
      subst hkl
      clear hlt hk
      go_wp2_with fail
      have HS := hide (has_Sd L)
      go_loopw [28] (fun i wr => ∃ k : Nat, k ≤ L.length ∧ i = .int .i64 k ∧ Hid (∀ m (hm : m < L.length), m < k → M.lost (L.map J.i) (L[m]).i = false) ∧ wr.ownsMap Tryz.prog 3 (unitElem (H := Unit)) w.heap.size L.length (Sd L L.length) ∧ Below w.heap.size w wr ∧ w.heap.size + 1 ≤ wr.heap.size) (fun i _ => L.length - (intOf i).toNat)
      case atStart => exact ⟨0, Nat.zero_le _, rfl, fun _ _ h => by omega, hown, hnx, hws⟩
      case round =>
        clear hown hnx hws
        obtain ⟨k, hk, rfl, Hno, hown, hnx, hws⟩ := hrel
        by_cases hlt : k < L.length
        · have hcx : ∀ i, i < 8 → wr.cell? ⟨b, o + k * 8 + i, none⟩ = (L[k]).cells[i]? := fun i hi => (hnx.cell (by exact hb)).trans (unhide Hc k hlt i hi)
          obtain ⟨j, hj⟩ : ∃ j, j = L[k] := ⟨_, rfl⟩
          rw [← hj] at hcx
          have hmem : j ∈ L := by rw [hj]; exact List.getElem_mem hlt
          obtain ⟨⟨a1, c1, e1, _⟩, ⟨a2, c2, e2, h2⟩⟩ := unhide Hk j hmem
          obtain ⟨x0, x1, x2, x3, x4, x5, x6, x7⟩ := At8.of hcx
          simp only [J.c, e1, e2] at x0 x1 x2 x3 x4 x5 x6 x7
          have hwf := unhide Hwf j hmem
          have htl := unhide Htl j hmem
          have Hj := hide hj
          have H2 := hide h2
          have Hwfj := hide hwf
          clear hj hcx e1 e2 hmem h2 hwf
          go_wp2_with fail
          have hownA := hown.alloc (.cells #[.int .i64 (j.i.at_ : Int), .int .u8 (j.i.op : Int), .bool j.i.wide, .int .i64 j.i.a, .int .i64 j.i.b, .int .i64 j.i.low, .slice a1 j.i.keys.length c1, .slice a2 j.i.tgts.length c2] 112)
          have hnxA := hnx.alloc hnx.size (.cells #[.int .i64 (j.i.at_ : Int), .int .u8 (j.i.op : Int), .bool j.i.wide, .int .i64 j.i.a, .int .i64 j.i.b, .int .i64 j.i.low, .slice a1 j.i.keys.length c1, .slice a2 j.i.tgts.length c2] 112)
          go_loopw [36] (fun i wx => ∃ m : Nat, m ≤ j.i.tgts.length ∧ i = .int .i64 m ∧ Hid (∀ q, q < m → M.begins (L.map J.i) (j.i.tgts.getD q 0) = true) ∧ wx.ownsMap Tryz.prog 3 (unitElem (H := Unit)) w.heap.size L.length (Sd L L.length) ∧ Below w.heap.size w wx ∧ w.heap.size + 1 ≤ wx.heap.size) (fun i _ => j.i.tgts.length - (intOf i).toNat)
          case atStart => exact ⟨0, Nat.zero_le _, rfl, fun _ h => by omega, hownA, hnxA, by simp; omega⟩
          case round =>
            clear hownA hnxA
            obtain ⟨m, hm, rfl, Hbe, hownB, hnxB, hwsB⟩ := hrel
            by_cases hlm : m < j.i.tgts.length
            · obtain ⟨b2, o2, rfl, hc2⟩ := unhide H2 (fun e => by rw [e] at hlm; simp at hlm)
              have hcm := hc2 m hlm
              have hcw := (hnxB.cell (p := ⟨b2, o2 + m, none⟩) (cell_lt hcm)).trans hcm
              obtain ⟨t, ht⟩ : ∃ t, t = j.i.tgts.getD m 0 := ⟨_, rfl⟩
              have htm : t ∈ j.i.tgts := by rw [ht, List.getD, List.getElem?_eq_getElem hlm]; exact List.getElem_mem hlm
              rw [← ht] at hcm hcw
              have hkey : keyOf Tryz.prog 3 (.int .i64 t) = some (.int .i64 t) := keyOf_int_mk Tryz.underlying3 (unhide Hwfj t htm)
              have Hkey := hide hkey
              have Ht := hide ht
              have Htm := hide htm
              clear hkey ht htm hc2 hcm
              cases hbt : M.begins (L.map J.i) t
              · have hlo : res = (k : Int) := by
                  have := unhide Hres
                  rw [lost_some hlt (fun m hm h => unhide Hno m hm h) (by
                    rw [← unhide Hj]; unfold M.lost
                    rw [List.any_eq_true]
                    exact ⟨t, unhide Htm, by rw [hbt]; rfl⟩)] at this
                  exact this
                have Hlo := hide hlo
                have Hbt := hide hbt
                clear hlo hbt
                go_wp2_with (first | (at_lookup; refine wpList_lookup_own_unit _ rfl _ _ 160 rfl 3 102 law3 Tryz.underlying160 (zero102 _) w.heap.size L.length _ rfl hownB _ _ rfl (unhide Hkey) ?_; rw [unhide HS t, unhide Hbt]) | fail)
                go_ret
                exact ⟨by rw [unhide Hlo]; rfl, hnxB.alloc hnxB.size _⟩
              · have hbe2 : ∀ q, q < m + 1 → M.begins (L.map J.i) (j.i.tgts.getD q 0) = true := fun q hq => by
                  rcases Nat.lt_or_eq_of_le (Nat.le_of_lt_succ hq) with h | h
                  · exact unhide Hbe q h
                  · rw [h, ← unhide Ht]; exact hbt
                have Hbe2 := hide hbe2
                have Hbt := hide hbt
                clear hbe2 hbt
                go_wp2_with (first | (at_lookup; refine wpList_lookup_own_unit _ rfl _ _ 160 rfl 3 102 law3 Tryz.underlying160 (zero102 _) w.heap.size L.length _ rfl hownB _ _ rfl (unhide Hkey) ?_; rw [unhide HS t, unhide Hbt]) | fail)
                go_roundw
                case rel => exact ⟨m + 1, by omega, by go_num, Hbe2, hownB.alloc _, hnxB.alloc hnxB.size _, by simp; omega⟩
                case measure => simp [intOf]; omega
            · have hml : m = j.i.tgts.length := by omega
              subst hml
              have hno2 : ∀ m (hm : m < L.length), m < k + 1 → M.lost (L.map J.i) (L[m]).i = false := fun m hm h => by
                rcases Nat.lt_or_eq_of_le (Nat.le_of_lt_succ h) with h | h
                · exact unhide Hno m hm h
                · subst h
                  rw [← unhide Hj]; unfold M.lost
                  rw [List.any_eq_false]
                  intro t ht
                  obtain ⟨q, hq, rfl⟩ := List.getElem_of_mem ht
                  have := unhide Hbe q hq
                  rw [List.getD, List.getElem?_eq_getElem hq] at this
                  simp only [Option.getD_some] at this
                  rw [this]; simp
              have Hno2 := hide hno2
              clear hno2 hlm
              go_wp2
              go_roundw
              case rel => exact ⟨k + 1, by omega, by go_num, Hno2, hownB, hnxB, hwsB⟩
              case measure => simp [intOf]; omega
        · have hkl : k = L.length := by omega
          subst hkl
          have hr : res = -1 := by
            have := unhide Hres
            rw [lost_none (fun m hm => unhide Hno m hm hm)] at this
            exact this
          clear hlt hk
          go_wp2
          go_ret
          exact ⟨by rw [hr]; rfl, hnx⟩
theorem firstLost_any (L : List J) (v : Value) (w : World) (h : Has w v L) (hlen : L.length ≤ 1048576) (hat : ∀ j ∈ L, j.i.at_ ≤ 1048576) (hwf : ∀ j ∈ L, ∀ t ∈ j.i.tgts, (Lit.int .i64 t).wf = true) (htl : ∀ j ∈ L, j.i.tgts.length ≤ 1048576) :
    Calls Tryz.prog 90 #[v] w fun x w' => x = .returned (.int .i64 (match M.firstLost (L.map J.i) with | none => -1 | some k => (k : Int))) ∧ Below w.heap.size w w' := by
  obtain ⟨ad, cap, rfl, hf⟩ := h.form
  by_cases hL : L = []
  · subst hL
    exact firstLost_none ad cap w
  · obtain ⟨b, o, rfl, hc⟩ := hf hL
    have h0 : 0 < L.length := List.length_pos_iff.2 hL
    have hb : b < w.heap.size := by
      have := hc 0 h0 0 (by omega)
      exact cell_lt (a := ⟨b, o + 0 * 8 + 0, none⟩) (v := .int .i64 ((L[0]).i.at_ : Int)) this
    exact firstLost_main L b o cap w hlen hb hc h.own hat hwf htl
end Go.Proofs.YtddhlphbbiihjaaGreatDoor.Dc
namespace Go.Proofs.YtddhlphbbiihjaaGreatDoor.Dc
namespace M
/-- Targets and keys within reach, and no more of them than bytes. -/
def Bd (n : Nat) (i : I) : Prop := i.at_ ≤ n ∧ (∀ t ∈ i.tgts, -8589934592 ≤ t ∧ t ≤ 8589934592) ∧ i.tgts.length ≤ n + 4 ∧ i.keys.length ≤ n + 4
theorem tgs_bd {s : List UInt8} {a : Nat} (ha : a ≤ 1048576) : ∀ {n p : Nat} {ts : List Int} {r : List Int × Nat}, (∀ t ∈ ts, -8589934592 ≤ t ∧ t ≤ 8589934592) → ts.length ≤ p → tgs s a n p ts = .ok r → (∀ t ∈ r.1, -8589934592 ≤ t ∧ t ≤ 8589934592) ∧ r.1.length ≤ r.2
  | 0, p, ts, r, h1, h2, h => by simp only [tgs, Except.ok.injEq] at h; subst h; exact ⟨h1, h2⟩
  | n + 1, p, ts, r, h1, h2, h => by
    unfold tgs at h; split at h
    · cases h
    · refine tgs_bd ha (fun t ht => ?_) (by simp; omega) h
      rw [List.mem_append, List.mem_singleton] at ht
      rcases ht with ht | rfl
      · exact h1 t ht
      · have := w4_bound s p; omega
theorem kys_bd {s : List UInt8} {a : Nat} (ha : a ≤ 1048576) : ∀ {n p : Nat} {ks ts : List Int} {r : List Int × List Int × Nat}, (∀ t ∈ ts, -8589934592 ≤ t ∧ t ≤ 8589934592) → ts.length ≤ p → ks.length ≤ p → kys s a n p ks ts = .ok r → (∀ t ∈ r.2.1, -8589934592 ≤ t ∧ t ≤ 8589934592) ∧ r.2.1.length ≤ r.2.2 ∧ r.1.length ≤ r.2.2
  | 0, p, ks, ts, r, h1, h2, h3, h => by simp only [kys, Except.ok.injEq] at h; subst h; exact ⟨h1, h2, h3⟩
  | n + 1, p, ks, ts, r, h1, h2, h3, h => by
    unfold kys at h; split at h
    · cases h
    · split at h
      · cases h
      · split at h
        · cases h
        · refine kys_bd ha (fun t ht => ?_) (by simp; omega) (by simp; omega) h
          rw [List.mem_append, List.mem_singleton] at ht
          rcases ht with ht | rfl
          · exact h1 t ht
          · have := w4_bound s (p + 4); omega
theorem layOf_size (k : Nat) : (layOf k).a.size ≤ 4 ∧ (layOf k).b.size ≤ 4 ∧ (layOf k).z.size ≤ 4 ∧ (layOf k).t.size ≤ 4 :=
  ⟨(layOf_ok k).1.1, (layOf_ok k).2.1.1, (layOf_ok k).2.2.1.1, (layOf_ok k).2.2.2.1⟩
theorem plain_bd {s : List UInt8} {a op b k : Nat} {w : Bool} {r : I × Nat} (ha : a ≤ s.length) (hs : s.length ≤ 1048576) (h : plain s a op w b (layOf k) = .ok r) : Bd s.length r.1 := by
  unfold plain at h; split at h
  · cases h
  · split at h
    · cases h
      refine ⟨ha, ?_, ?_, by simp⟩
      · intro t ht
        simp only at ht
        split at ht
        · cases ht
        · rw [List.mem_singleton] at ht
          subst ht
          have := rd_bound (layOf k).t (bs s (b + (layOf k).a.size + (layOf k).b.size + (layOf k).z.size) (layOf k).t.size) (bs_len _ _ _) (layOf_size k).2.2.2
          omega
      · simp only; split <;> simp
    · cases h
theorem sw_bd {s : List UInt8} {a op b : Nat} {k : Bool} {r : I × Nat} (ha : a ≤ s.length) (hs : s.length ≤ 1048576) (hb : b ≤ s.length) (h : sw s a op b k = .ok r) : Bd s.length r.1 := by
  unfold sw at h
  cases hp : pad s a (padN b) b with
  | error e => rw [hp] at h; cases h
  | ok p =>
    have h1 := pad_le hb hp
    rw [hp] at h; simp only at h
    have hw := w4_bound s p
    cases k
    · simp only [Bool.false_eq_true, if_false] at h
      unfold tab at h; split at h
      · cases h
      · split at h
        · cases h
        · cases ht : tgs s a (w4 s (p + 8) - w4 s (p + 4) + 1).toNat (p + 12) [(a : Int) + w4 s p] with
          | error e => rw [ht] at h; cases h
          | ok q =>
            have hle := tgs_le (by omega) ht
            have hbd := tgs_bd (by omega) (fun t ht => by rw [List.mem_singleton] at ht; subst ht; omega) (by simp) ht
            obtain ⟨q1, q2⟩ := q
            rw [ht] at h; cases h
            exact ⟨ha, hbd.1, by have := hbd.2; simp only at this hle ⊢; omega, by simp⟩
    · simp only [if_true] at h
      unfold key at h; split at h
      · cases h
      · split at h
        · cases h
        · cases ht : kys s a (w4 s (p + 4)).toNat (p + 8) [] [(a : Int) + w4 s p] with
          | error e => rw [ht] at h; cases h
          | ok q =>
            have hle := kys_le (by omega) ht
            have hbd := kys_bd (by omega) (fun t ht => by rw [List.mem_singleton] at ht; subst ht; omega) (by simp) (by simp) ht
            obtain ⟨q1, q2, q3⟩ := q
            rw [ht] at h; cases h
            exact ⟨ha, hbd.1, by have := hbd.2.1; simp only at this hle ⊢; omega, by have := hbd.2.2; simp only at this hle ⊢; omega⟩
theorem body_bd {s : List UInt8} {a op b : Nat} {w : Bool} {r : I × Nat} (ha : a ≤ s.length) (hs : s.length ≤ 1048576) (hb : b ≤ s.length) (h : body s a op w b = .ok r) : Bd s.length r.1 := by
  unfold body at h; split at h
  · cases h
  · split at h
    · exact sw_bd ha hs hb h
    · split at h
      · exact sw_bd ha hs hb h
      · exact plain_bd ha hs h
theorem ins_bd {s : List UInt8} {a : Nat} {r : I × Nat} (ha : a < s.length) (hs : s.length ≤ 1048576) (h : ins s a = .ok r) : Bd s.length r.1 := by
  unfold ins at h; split at h
  · split at h
    · cases h
    · exact body_bd (by omega) hs (by omega) h
  · exact body_bd (by omega) hs (by omega) h
end M
end Go.Proofs.YtddhlphbbiihjaaGreatDoor.Dc
