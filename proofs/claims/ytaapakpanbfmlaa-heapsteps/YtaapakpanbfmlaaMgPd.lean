/-
  The program's rows: has.
  The program's rows: get of a row that lies side by side, or has nothing yet.
  The program's things: size.
  The program's rows in memory: side by side, by pages, or nothing yet.
-/
import Derived.Test.YtaapakpanbfmlaaRa
import Derived.Deep.QuietTactic
import Derived.MapKept
import Derived.Maps.RangeRun
namespace Go.Proofs.Ytaapakpanbfmlaa
namespace Rs
open Go.RowKit Hp
set_option linter.unusedVariables false
set_option linter.unusedSimpArgs false
set_option maxRecDepth 100000 in
set_option maxHeartbeats 2000000 in
theorem has50_any (k : Int) (w : World) {b o n : Nat} (h : w.cell? ⟨b, o, none⟩ = some (.int .i64 (n : Int))) :
    Calls Try.prog 50 #[.pointer (some ⟨b, o, none⟩), .int .i64 k] w fun e w' => e = .returned (.bool (decide (0 ≤ k) && decide (k < (n : Int)))) ∧ w' = w := by
  by_cases h1 : 0 ≤ k
  · rw [decide_eq_true h1, Bool.true_and]
    go_enter Try.func50, Try.ntmps50
    go_wp2
    go_ret
    exact ⟨rfl, rfl⟩
  · rw [decide_eq_false h1, Bool.false_and]
    go_enter Try.func50, Try.ntmps50
    go_wp2
    go_ret
    exact ⟨rfl, rfl⟩
set_option maxRecDepth 100000 in
set_option maxHeartbeats 2000000 in
theorem has53_any (k : Int) (w : World) {b o n : Nat} (h : w.cell? ⟨b, o, none⟩ = some (.int .i64 (n : Int))) :
    Calls Try.prog 53 #[.pointer (some ⟨b, o, none⟩), .int .i64 k] w fun e w' => e = .returned (.bool (decide (0 ≤ k) && decide (k < (n : Int)))) ∧ w' = w := by
  by_cases h1 : 0 ≤ k
  · rw [decide_eq_true h1, Bool.true_and]
    go_enter Try.func53, Try.ntmps53
    go_wp2
    go_ret
    exact ⟨rfl, rfl⟩
  · rw [decide_eq_false h1, Bool.false_and]
    go_enter Try.func53, Try.ntmps53
    go_wp2
    go_ret
    exact ⟨rfl, rfl⟩
end Rs
end Go.Proofs.Ytaapakpanbfmlaa
namespace Go.Proofs.Ytaapakpanbfmlaa
namespace Rs
open Go.RowKit Hp
set_option linter.unusedVariables false
set_option linter.unusedSimpArgs false
set_option maxRecDepth 100000 in
set_option maxHeartbeats 2000000 in
theorem get52_side (k : Nat) (x : Nat) (w : World) {b o n c g : Nat} (h : w.cell? ⟨b, o + 1, none⟩ = some (.slice (some ⟨g, 0, none⟩) n c)) (hk : k < n) (hx : w.cell? ⟨g, k, none⟩ = some (.int .u64 (x : Int))) :
    Calls Try.prog 52 #[.pointer (some ⟨b, o, none⟩), .int .i64 (k : Int)] w fun e w' => e = .returned (.int .u64 (x : Int)) ∧ w' = w := by
  have hki : (k : Int) < (n : Int) := by omega
  go_enter Try.func52, Try.ntmps52
  go_wp2
  go_ret
  exact ⟨rfl, rfl⟩
set_option maxRecDepth 100000 in
set_option maxHeartbeats 2000000 in
theorem get56_side (k : Nat) (x : Int) (w : World) {b o n c g : Nat} (h : w.cell? ⟨b, o + 1, none⟩ = some (.slice (some ⟨g, 0, none⟩) n c)) (hk : k < n) (hx : w.cell? ⟨g, k, none⟩ = some (.int .i64 x)) :
    Calls Try.prog 56 #[.pointer (some ⟨b, o, none⟩), .int .i64 (k : Int)] w fun e w' => e = .returned (.int .i64 x) ∧ w' = w := by
  have hki : (k : Int) < (n : Int) := by omega
  go_enter Try.func56, Try.ntmps56
  go_wp2
  go_ret
  exact ⟨rfl, rfl⟩
theorem look92 (w : World) (i : Int) : Sem.run Try.prog (Instr.lookup 92 (.map none) (.int .i64 i) false) w = .ok (.pointer none) w := by kernel_rfl
theorem look89 (w : World) (i : Int) : Sem.run Try.prog (Instr.lookup 89 (.map none) (.int .i64 i) false) w = .ok (.pointer none) w := by kernel_rfl
set_option maxRecDepth 100000 in
set_option maxHeartbeats 2000000 in
theorem get52_none (k : Nat) (w : World) {b o : Nat} (hk : k ≤ 1073741824) (h : w.cell? ⟨b, o + 1, none⟩ = some (.slice none 0 0)) (h2 : w.cell? ⟨b, o + 2, none⟩ = some (.map none)) :
    Calls Try.prog 52 #[.pointer (some ⟨b, o, none⟩), .int .i64 (k : Int)] w fun e w' => e = .returned (.int .u64 0) ∧ w' = w := by
  have hki : (k : Int) ≤ 1073741824 := by omega
  have hlk := look92
  go_enter Try.func52, Try.ntmps52
  go_wp2
  go_ret
  exact ⟨rfl, rfl⟩
set_option maxRecDepth 100000 in
set_option maxHeartbeats 2000000 in
theorem get56_none (k : Nat) (w : World) {b o : Nat} (hk : k ≤ 1073741824) (h : w.cell? ⟨b, o + 1, none⟩ = some (.slice none 0 0)) (h2 : w.cell? ⟨b, o + 2, none⟩ = some (.map none)) :
    Calls Try.prog 56 #[.pointer (some ⟨b, o, none⟩), .int .i64 (k : Int)] w fun e w' => e = .returned (.int .i64 0) ∧ w' = w := by
  have hki : (k : Int) ≤ 1073741824 := by omega
  have hlk := look89
  go_enter Try.func56, Try.ntmps56
  go_wp2
  go_ret
  exact ⟨rfl, rfl⟩
end Rs
end Go.Proofs.Ytaapakpanbfmlaa
namespace Go.Proofs.Ytaapakpanbfmlaa
namespace Rs
open Go.RowKit Hp
set_option linter.unusedVariables false
set_option linter.unusedSimpArgs false
set_option maxRecDepth 100000 in
set_option maxHeartbeats 2000000 in
theorem size47_any (w : World) {b o r q : Nat} (hr : r ≤ 1073741824) (hq : q ≤ 1073741824) (h1 : w.cell? ⟨b, o, none⟩ = some (.int .i64 (r : Int))) (h2 : w.cell? ⟨b, o + 3, none⟩ = some (.int .i64 (q : Int))) :
    Calls Try.prog 47 #[.pointer (some ⟨b, o, none⟩)] w fun e w' => e = .returned (.int .i64 ((2 + r + q : Nat) : Int)) ∧ ∃ n, w' = w.drewN n := by
  have e1 : ((2 + r + q : Nat) : Int) = 2 + (r : Int) + (q : Int) := by omega
  rw [e1]
  have hri : (r : Int) ≤ 1073741824 := by omega
  have hqi : (q : Int) ≤ 1073741824 := by omega
  clear e1
  go_enter Try.func47, Try.ntmps47
  go_wp2_with fail
  go_quiet (fail)
  go_wp2
  go_ret
  exact ⟨rfl, _, rfl⟩
end Rs
end Go.Proofs.Ytaapakpanbfmlaa
namespace Go.Proofs.Ytaapakpanbfmlaa
namespace Rs
open Go.RowKit Hp
set_option linter.unusedVariables false
set_option linter.unusedSimpArgs false
/-- A row: its values, the two fields that hold them, and the blocks that are its own. -/
structure Rv where
  xs : List Int
  sv : Value
  pv : Value
  own : List Nat
/-- The block that a pointer leads to. -/
def pblk : Value → Nat
  | .pointer (some a) => a.block
  | _ => 0
/-- What a page holds. -/
def page (k : IntKind) (xs : List Int) (p : Nat) : List Value := (List.range 256).map fun i => Value.int k (xs.getD (256 * p + i) 0)
theorem page_len (k : IntKind) (xs : List Int) (p : Nat) : (page k xs p).length = 256 := by unfold page; simp
theorem page_get (k : IntKind) (xs : List Int) (p i : Nat) (hi : i < 256) : (page k xs p)[i]? = some (.int k (xs.getD (256 * p + i) 0)) := by
  unfold page; rw [List.getElem?_map, List.getElem?_range hi]; rfl
theorem getD_set (xs : List Int) (i j : Nat) (x : Int) (hi : i < xs.length) : (xs.set i x).getD j 0 = if j = i then x else xs.getD j 0 := by
  rw [List.getD_eq_getElem?_getD, List.getD_eq_getElem?_getD, List.getElem?_set]
  by_cases h : i = j
  · subst h; simp [hi]
  · have h' : ¬ j = i := fun e => h e.symm
    simp [h, h']
theorem page_set (k : IntKind) (xs : List Int) (i : Nat) (x : Int) (hi : i < xs.length) : (page k xs (i / 256)).set (i % 256) (.int k x) = page k (xs.set i x) (i / 256) := by
  apply List.ext_getElem?
  intro j
  by_cases hj : j < 256
  · rw [page_get _ _ _ _ hj, List.getElem?_set, page_len, getD_set _ _ _ _ hi, page_get _ _ _ _ hj]
    by_cases e : i % 256 = j
    · have e' : 256 * (i / 256) + j = i := by omega
      rw [if_pos e, if_pos e']
      simp; omega
    · have e' : ¬ (256 * (i / 256) + j = i) := by omega
      rw [if_neg e, if_neg e']
  · rw [List.getElem?_eq_none_iff.2 (by rw [List.length_set, page_len]; omega), List.getElem?_eq_none_iff.2 (by rw [page_len]; omega)]
theorem page_other (k : IntKind) (xs : List Int) (i p : Nat) (x : Int) (hi : i < xs.length) (hp : p ≠ i / 256) : page k (xs.set i x) p = page k xs p := by
  apply List.ext_getElem?
  intro j
  by_cases hj : j < 256
  · rw [page_get _ _ _ _ hj, page_get _ _ _ _ hj, getD_set _ _ _ _ hi, if_neg (by omega)]
  · rw [List.getElem?_eq_none_iff.2 (by rw [page_len]; omega), List.getElem?_eq_none_iff.2 (by rw [page_len]; omega)]
/-- The pages that were written to. -/
structure Pgs (k : IntKind) (tP : TypeId) (w : World) (r : Rv) (m : Nat) (es : Array MapEntry) (clock : Nat) : Prop where
  sv : r.sv = .slice none 0 0
  pv : r.pv = .map (some m)
  far : 4096 < r.xs.length
  own : r.own = m :: es.toList.map fun e => pblk e.val
  blk : w.heap[m]? = some (.map es clock)
  st : MapKept.Stamped es clock
  pg : ∀ e ∈ es.toList, ∃ p g : Nat, e.key = .int .i64 (p : Int) ∧ e.val = .pointer (some ⟨g, 0, none⟩) ∧ w.heap[g]? = some (.cells (page k r.xs p).toArray tP (0, 0))
  all : ∀ i : Nat, r.xs.getD i 0 ≠ 0 → ∃ e ∈ es.toList, e.key = .int .i64 ((i / 256 : Nat) : Int)
/-- A row side by side. -/
structure Sid (k : IntKind) (tS : TypeId) (w : World) (r : Rv) (g : Nat) : Prop where
  sv : r.sv = .slice (some ⟨g, 0, none⟩) r.xs.length r.xs.length
  pv : r.pv = .map none
  near : r.xs.length ≤ 4096
  own : r.own = [g]
  blk : w.heap[g]? = some (.cells (r.xs.map (Value.int k)).toArray tS (0, 0))
/-- A row of which nothing was written yet. -/
structure Non (r : Rv) : Prop where
  sv : r.sv = .slice none 0 0
  pv : r.pv = .map none
  z : ∀ i, r.xs.getD i 0 = 0
  own : r.own = []
/-- A row in memory. -/
def RowIs (k : IntKind) (tS tP : TypeId) (w : World) (r : Rv) : Prop :=
  r.own.Nodup ∧ (Non r ∨ (∃ g, Sid k tS w r g) ∨ ∃ m es clock, Pgs k tP w r m es clock)
theorem Sid.same {k : IntKind} {tS : TypeId} {w w' : World} {r : Rv} {g : Nat} (h : Sid k tS w r g) (hb : ∀ b ∈ r.own, w'.heap[b]? = w.heap[b]?) : Sid k tS w' r g :=
  ⟨h.sv, h.pv, h.near, h.own, by rw [hb g (by rw [h.own]; simp)]; exact h.blk⟩
theorem Pgs.same {k : IntKind} {tP : TypeId} {w w' : World} {r : Rv} {m : Nat} {es : Array MapEntry} {clock : Nat} (h : Pgs k tP w r m es clock) (hb : ∀ b ∈ r.own, w'.heap[b]? = w.heap[b]?) : Pgs k tP w' r m es clock := by
  refine ⟨h.sv, h.pv, h.far, h.own, by rw [hb m (by rw [h.own]; simp)]; exact h.blk, h.st, fun e he => ?_, h.all⟩
  obtain ⟨p, g, h1, h2, h3⟩ := h.pg e he
  refine ⟨p, g, h1, h2, ?_⟩
  rw [hb g (by rw [h.own]; exact List.mem_cons_of_mem _ (List.mem_map.2 ⟨e, he, by rw [h2]; rfl⟩))]
  exact h3
theorem RowIs.same {k : IntKind} {tS tP : TypeId} {w w' : World} {r : Rv} (h : RowIs k tS tP w r) (hb : ∀ b ∈ r.own, w'.heap[b]? = w.heap[b]?) : RowIs k tS tP w' r := by
  refine ⟨h.1, ?_⟩
  rcases h.2 with h | ⟨g, h⟩ | ⟨m, es, c, h⟩
  · exact .inl h
  · exact .inr (.inl ⟨g, h.same hb⟩)
  · exact .inr (.inr ⟨m, es, c, h.same hb⟩)
theorem RowIs.lt {k : IntKind} {tS tP : TypeId} {w : World} {r : Rv} (h : RowIs k tS tP w r) : ∀ b ∈ r.own, b < w.heap.size := by
  intro b hb
  rcases h.2 with h | ⟨g, h⟩ | ⟨m, es, c, h⟩
  · rw [h.own] at hb; simp at hb
  · rw [h.own, List.mem_singleton] at hb
    rw [hb]; exact (Array.getElem?_eq_some_iff.1 h.blk).1
  · rw [h.own] at hb
    rcases List.mem_cons.1 hb with rfl | hb
    · exact (Array.getElem?_eq_some_iff.1 h.blk).1
    · obtain ⟨e, he, rfl⟩ := List.mem_map.1 hb
      obtain ⟨p, g, _, h2, h3⟩ := h.pg e he
      rw [h2]; exact (Array.getElem?_eq_some_iff.1 h3).1
theorem RowIs.kept {k : IntKind} {tS tP : TypeId} {w w' : World} {r : Rv} {F : List Nat} (h : RowIs k tS tP w r) (hf : Fr F w w') (hn : ∀ b ∈ r.own, b ∉ F) : RowIs k tS tP w' r :=
  h.same (fun b hb => hf.block b (h.lt b hb) (hn b hb))
/-- A row of nothing yet. -/
def Rv.nil (n : Nat) : Rv := ⟨List.replicate n 0, .slice none 0 0, .map none, []⟩
theorem RowIs.nil (k : IntKind) (tS tP : TypeId) (w : World) (n : Nat) : RowIs k tS tP w (Rv.nil n) :=
  ⟨by simp [Rv.nil], .inl ⟨rfl, rfl, fun i => by
    show (List.replicate n (0 : Int)).getD i 0 = 0
    rw [List.getD_eq_getElem?_getD, List.getElem?_replicate]
    split <;> rfl, rfl⟩⟩
/-- A row with another value. -/
def Rv.put (r : Rv) (i : Nat) (x : Int) : Rv := ⟨r.xs.set i x, r.sv, r.pv, r.own⟩
theorem heap_setB {w : World} {b i : Nat} {v : Value} {k : Nat} (h : k ≠ b) : (w.setCell ⟨b, i, none⟩ v).heap[k]? = w.heap[k]? := Below.heap_setCell w ⟨b, i, none⟩ v k h
/-- A value of a row that lies side by side is another. -/
theorem Sid.put {k : IntKind} {tS tP : TypeId} {w : World} {r : Rv} {g : Nat} (h : Sid k tS w r g) {i : Nat} (hi : i < r.xs.length) (x : Int) : Sid k tS (w.setCell ⟨g, i, none⟩ (.int k x)) (r.put i x) g := by
  refine ⟨by show r.sv = _; rw [h.sv]; simp [Rv.put], h.pv, by show (r.xs.set i x).length ≤ _; rw [List.length_set]; exact h.near, h.own, ?_⟩
  rw [heap_setCell_same w g i _ tS _ h.blk]
  show _ = some (Obj.cells ((r.xs.set i x).map (Value.int k)).toArray tS (0, 0))
  simp [List.map_set]
theorem key_inj {a b : Nat} (h : Value.int .i64 (a : Int) = Value.int .i64 (b : Int)) : a = b := by
  injection h with _ h; omega
theorem born_key {es : Array MapEntry} {clock : Nat} (h : MapKept.Stamped es clock) {a b : MapEntry} (ha : a ∈ es.toList) (hb : b ∈ es.toList) (he : a.key = b.key) : a = b := by
  have hn := h.2.2
  obtain ⟨i, hi, rfl⟩ := List.getElem_of_mem ha
  obtain ⟨j, hj, rfl⟩ := List.getElem_of_mem hb
  have hk : (es.toList.map (·.key))[i]'(by simpa using hi) = (es.toList.map (·.key))[j]'(by simpa using hj) := by rw [List.getElem_map, List.getElem_map]; exact he
  have := (List.getElem_inj hn).1 hk
  subst this; rfl
/-- A value on a page is another. -/
theorem Pgs.put {k : IntKind} {tP : TypeId} {w : World} {r : Rv} {m : Nat} {es : Array MapEntry} {clock : Nat} (h : Pgs k tP w r m es clock) (hn : r.own.Nodup) {i : Nat} (hi : i < r.xs.length) (x : Int) {e : MapEntry} (he : e ∈ es.toList) {g : Nat} (hk : e.key = .int .i64 ((i / 256 : Nat) : Int)) (hv : e.val = .pointer (some ⟨g, 0, none⟩)) :
    Pgs k tP (w.setCell ⟨g, i % 256, none⟩ (.int k x)) (r.put i x) m es clock := by
  have hg : g ∈ es.toList.map fun e => pblk e.val := List.mem_map.2 ⟨e, he, by rw [hv]; rfl⟩
  have hn' := hn
  rw [h.own, List.nodup_cons] at hn'
  have hgm : g ≠ m := fun e => hn'.1 (e ▸ hg)
  refine ⟨h.sv, h.pv, by show _ < (r.xs.set i x).length; rw [List.length_set]; exact h.far, h.own, by rw [heap_setB (fun e => hgm e.symm)]; exact h.blk, h.st, fun e' he' => ?_, fun j hj => ?_⟩
  · obtain ⟨p, g', h1, h2, h3⟩ := h.pg e' he'
    refine ⟨p, g', h1, h2, ?_⟩
    by_cases hpe : p = i / 256
    · have : e' = e := born_key h.st he' he (by rw [h1, hk, hpe])
      subst this
      rw [hv] at h2
      injection h2 with h2; injection h2 with h2; injection h2 with h2
      subst h2
      rw [heap_setCell_same w g (i % 256) _ tP _ h3]
      subst hpe
      show _ = some (Obj.cells (page k (r.xs.set i x) (i / 256)).toArray tP (0, 0))
      rw [← page_set k r.xs i x hi, List.setIfInBounds_toArray]
    · have hgg : g' ≠ g := fun e2 => by
        have hd := hn'.2
        obtain ⟨a, ha, rfl⟩ := List.getElem_of_mem he'
        obtain ⟨b, hb, rfl⟩ := List.getElem_of_mem he
        have hk2 : (es.toList.map fun e => pblk e.val)[a]'(by simpa using ha) = (es.toList.map fun e => pblk e.val)[b]'(by simpa using hb) := by
          rw [List.getElem_map, List.getElem_map, h2, hv, e2]
        have hab := (List.getElem_inj hd).1 hk2
        subst hab
        rw [h1] at hk
        exact hpe (key_inj hk)
      rw [heap_setB hgg, h3]
      show _ = some (Obj.cells (page k (r.xs.set i x) p).toArray tP (0, 0))
      rw [page_other k r.xs i p x hi hpe]
  · have hj' : (r.xs.set i x).getD j 0 ≠ 0 := hj
    rw [getD_set _ _ _ _ hi] at hj'
    by_cases hji : j = i
    · subst hji; exact ⟨e, he, hk⟩
    · rw [if_neg hji] at hj'
      exact h.all j hj'
end Rs
end Go.Proofs.Ytaapakpanbfmlaa
