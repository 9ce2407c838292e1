/-
  The program's heap: cross; where a thing is; what is in a table.
-/
import Derived.Test.YtaapakpanbfmlaaPh
import Derived.Test.YtaapakpanbfmlaaRc
namespace Go.Proofs.Ytaapakpanbfmlaa
namespace Rs
open Go.RowKit Hp
set_option linter.unusedVariables false
set_option linter.unusedSimpArgs false
theorem mkmap52 (w : World) : Sem.run Try.prog (Instr.makeMap 52 none) w = .ok (.map (some w.heap.size)) (w.alloc (.map #[] 0)) := by kernel_rfl
theorem eqmap52 (w : World) (m : Nat) : Sem.run Try.prog (binOp .eql 52 (.map (some m)) (.map none)) w = .ok (.bool false) w := by kernel_rfl
theorem eqnil52 (w : World) : Sem.run Try.prog (binOp .eql 52 (.map none) (.map none)) w = .ok (.bool true) w := by kernel_rfl
theorem Cl.heq {c : Cf} {w w' : World} {s : St} (h : Cl c w s) (e : w'.heap = w.heap) : Cl c w' s :=
  ⟨fun p => (h.has p).same (fun b _ => by rw [e]), h.ap, by rw [e]; exact h.B⟩
set_option maxRecDepth 100000 in
set_option maxHeartbeats 2000000 in
theorem cross_has (r : Int) (k sb b : Nat) (w : World) (h : w.cell? ⟨sb, 8, none⟩ = some (.map (some b))) (W2 : World)
   (hup : (Instr.mapUpdate 52 (.map (some b)) (.agg #[.int .i64 r, .int .i64 (k : Int)]) (.agg #[])).run Try.prog (w.alloc (.cells #[.int .i64 r, .int .i64 (k : Int)] 106)).drew = .ok () W2) :
    Calls Try.prog 55 #[.pointer (some ⟨sb, 0, none⟩), .agg #[.int .i64 r, .int .i64 (k : Int)]] w fun e w' => e = .returned (.tuple #[]) ∧ w' = W2 := by
  have q1 := eqmap52
  have hs : sb < w.heap.size := cell_lt h
  have q2 : ¬ sb = w.heap.size := by omega
  have q3 := alloc_cell h (.cells #[.int .i64 r, .int .i64 (k : Int)] 106)
  clear hs
  go_enter Try.func55, Try.ntmps55
  go_wp2
  go_region
  all_goals go_end0
  all_goals exact ⟨rfl, rfl⟩
set_option maxRecDepth 100000 in
set_option maxHeartbeats 2000000 in
theorem cross_new (r : Int) (k sb : Nat) (w : World) (h : w.cell? ⟨sb, 8, none⟩ = some (.map none)) (hf : w.frozen? ⟨sb, 8, none⟩ = false) (W2 : World)
   (hup : (Instr.mapUpdate 52 (.map (some (w.heap.size + 1))) (.agg #[.int .i64 r, .int .i64 (k : Int)]) (.agg #[])).run Try.prog (((w.alloc (.cells #[.int .i64 r, .int .i64 (k : Int)] 106)).alloc (.map #[] 0)).setCell ⟨sb, 8, none⟩ (.map (some (w.heap.size + 1)))).drew = .ok () W2) :
    Calls Try.prog 55 #[.pointer (some ⟨sb, 0, none⟩), .agg #[.int .i64 r, .int .i64 (k : Int)]] w fun e w' => e = .returned (.tuple #[]) ∧ w' = W2 := by
  have q1 := eqnil52
  have q0 := mkmap52
  have hs : sb < w.heap.size := cell_lt h
  have q2 : ¬ sb = w.heap.size := by omega
  have q2' : ¬ w.heap.size = sb := by omega
  have q2'' : ¬ sb = w.heap.size + 1 := by omega
  have q3 := alloc_cell h (.cells #[.int .i64 r, .int .i64 (k : Int)] 106)
  have q4 := alloc_cell q3 (.map #[] 0)
  have q5 := alloc_frozen q3 (alloc_frozen h hf (.cells #[.int .i64 r, .int .i64 (k : Int)] 106)) (.map #[] 0)
  have q6 : (((w.alloc (.cells #[.int .i64 r, .int .i64 (k : Int)] 106)).alloc (.map #[] 0)).setCell ⟨sb, 8, none⟩ (.map (some (w.heap.size + 1)))).cell? ⟨sb, 8, none⟩ = some (.map (some (w.heap.size + 1))) := World.cell?_setCell_same' _ _ _ (by rw [q4]; rfl)
  have hk : (((w.alloc (.cells #[.int .i64 r, .int .i64 (k : Int)] 106)).alloc (.map #[] 0)).setCell ⟨sb, 8, none⟩ (.map (some (w.heap.size + 1)))).heap[w.heap.size]? = some (.cells #[.int .i64 r, .int .i64 (k : Int)] 106 (0, 0)) := by
    rw [heap_setB q2', Below.heap_alloc _ _ _ (by simp)]; exact heap_alloc_new w _
  have q7 : (((w.alloc (.cells #[.int .i64 r, .int .i64 (k : Int)] 106)).alloc (.map #[] 0)).setCell ⟨sb, 8, none⟩ (.map (some (w.heap.size + 1)))).cell? ⟨w.heap.size, 0, none⟩ = some (.int .i64 r) := by rw [cell_of_row _ _ 0 _ 106 (0, 0) hk]; rfl
  have q8 : (((w.alloc (.cells #[.int .i64 r, .int .i64 (k : Int)] 106)).alloc (.map #[] 0)).setCell ⟨sb, 8, none⟩ (.map (some (w.heap.size + 1)))).cell? ⟨w.heap.size, 1, none⟩ = some (.int .i64 (k : Int)) := by rw [cell_of_row _ _ 1 _ 106 (0, 0) hk]; rfl
  clear hs hk
  go_enter Try.func55, Try.ntmps55
  go_wp2
  go_region
  all_goals go_end0
  all_goals exact ⟨rfl, rfl⟩
/-- The space with a slot more. -/
theorem cross_any {c : Cf} {w : World} {s : St} (h : Cl c w s) (r : Int) (k : Nat) :
    Calls Try.prog 55 #[.pointer (some ⟨c.sb, 0, none⟩), .agg #[.int .i64 r, .int .i64 (k : Int)]] w fun e w' => e = .returned (.tuple #[]) ∧ ∃ cv', Fr (c.sb :: mblk s.cv) w w' ∧ (∀ b ∈ mblk cv', b ∈ mblk s.cv ∨ w.heap.size ≤ b) ∧ Cl c w' { s with cv := cv', C := addC s.C (r, k) } := by
  have c8 : w.cell? ⟨c.sb, 8, none⟩ = some s.cv := h.cell 8 rfl
  rcases h.has .cv with ⟨e, eC⟩ | ⟨b, es, clock, e, hb, hst, hk⟩
  · have hb2 : (((w.alloc (.cells #[.int .i64 r, .int .i64 (k : Int)] 106)).alloc (.map #[] 0)).setCell ⟨c.sb, 8, none⟩ (.map (some (w.heap.size + 1)))).drew.heap[w.heap.size + 1]? = some (.map #[] 0) := by
      show (((w.alloc (.cells #[.int .i64 r, .int .i64 (k : Int)] 106)).alloc (.map #[] 0)).setCell ⟨c.sb, 8, none⟩ (.map (some (w.heap.size + 1)))).heap[w.heap.size + 1]? = _
      have hs := h.sbl
      rw [heap_setB (by omega)]
      have := heap_alloc_new (w.alloc (.cells #[.int .i64 r, .int .i64 (k : Int)] 106)) (.map #[] 0)
      rw [show (w.alloc (.cells #[.int .i64 r, .int .i64 (k : Int)] 106)).heap.size = w.heap.size + 1 by simp] at this
      exact this
    obtain ⟨es', clock', hrun, hst', hk'⟩ := upd106 hb2 (MapKept.stamped_empty 0) (C := []) (by simp) (r, k) (.agg #[])
    refine (cross_new r k c.sb w (by rw [c8, e]) (h.fz 8) _ hrun).mono ?_
    rintro e1 w' ⟨rfl, hw'⟩
    have hs := MapKept.heap_set (o' := .map es' clock') hb2
    have hsb := h.sbl
    have hold : ∀ a, a < w.heap.size → a ≠ c.sb → w'.heap[a]? = w.heap[a]? := fun a ha han => by
      rw [hw']
      show (Array.setIfInBounds _ (w.heap.size + 1) _)[a]? = _
      rw [hs.2 a (by omega)]
      show (((w.alloc (.cells #[.int .i64 r, .int .i64 (k : Int)] 106)).alloc (.map #[] 0)).setCell ⟨c.sb, 8, none⟩ (.map (some (w.heap.size + 1)))).heap[a]? = _
      rw [heap_setB han, Below.heap_alloc _ _ a (by simp; omega)]
      exact Below.heap_alloc w _ a ha
    have hsz : w.heap.size ≤ w'.heap.size := by
      rw [hw']
      show w.heap.size ≤ (Array.setIfInBounds (((w.alloc (.cells #[.int .i64 r, .int .i64 (k : Int)] 106)).alloc (.map #[] 0)).setCell ⟨c.sb, 8, none⟩ (.map (some (w.heap.size + 1)))).heap (w.heap.size + 1) _).size
      simp; omega
    refine ⟨rfl, .map (some (w.heap.size + 1)), ⟨by rw [hw']; rfl, by rw [hw']; rfl, by rw [hw']; rfl, hsz, fun a ha han => hold a ha (fun e => han (by rw [e]; exact List.mem_cons_self ..))⟩, fun b hb => .inr (by simp [mblk] at hb; omega), ?_⟩
    refine h.upd (fun p => p = .sb ∨ p = .cv) (fun p hp => ?_) (fun p hp b hb => ?_) (fun p hp => ?_) (fun p hp b hb => ?_) (fun p p' hp hp' hne b hb hlb hb' => ?_) hsz
    · cases p with
      | sb => exact absurd (.inl rfl) hp
      | cv => exact absurd (.inr rfl) hp
      | tab d => exact ⟨fun h => h, rfl⟩
      | row r => exact ⟨fun h => h, rfl⟩
    · exact hold b ((h.has p).lt b hb) (fun e => h.ap p .sb (fun e2 => hp (.inl e2)) b hb (by simp [St.bl, e]))
    · rcases hp with rfl | rfl
      · refine ⟨?_, (h.has .sb).2⟩
        rw [hw']
        show (Array.setIfInBounds _ (w.heap.size + 1) _)[c.sb]? = _
        rw [hs.2 c.sb (by omega)]
        show (((w.alloc (.cells #[.int .i64 r, .int .i64 (k : Int)] 106)).alloc (.map #[] 0)).setCell ⟨c.sb, 8, none⟩ (.map (some (w.heap.size + 1)))).heap[c.sb]? = _
        rw [heap_setCell_same _ c.sb 8 _ 59 _ (by rw [Below.heap_alloc _ _ c.sb (by simp; omega), Below.heap_alloc w _ c.sb hsb]; exact (h.has .sb).1)]
        rfl
      · refine .inr ⟨w.heap.size + 1, es', clock', rfl, by rw [hw']; exact hs.1, hst', ?_⟩
        rw [hk', eC]
    · rcases hp with rfl | rfl
      · exact .inl hb
      · right; simp [St.bl, mblk] at hb; omega
    · rcases hp with rfl | rfl
      · simp [St.bl] at hb; omega
      · rcases hp' with rfl | rfl
        · simp [St.bl] at hb'; omega
        · exact hne rfl
  · have hbl : b < w.heap.size := (Array.getElem?_eq_some_iff.1 hb).1
    have hb2 : (w.alloc (.cells #[.int .i64 r, .int .i64 (k : Int)] 106)).drew.heap[b]? = some (.map es clock) := by
      show (w.alloc (.cells #[.int .i64 r, .int .i64 (k : Int)] 106)).heap[b]? = _
      rw [Below.heap_alloc w _ b hbl]; exact hb
    obtain ⟨es', clock', hrun, hst', hk'⟩ := upd106 hb2 hst hk (r, k) (.agg #[])
    refine (cross_has r k c.sb b w (by rw [c8, e]) _ hrun).mono ?_
    rintro e1 w' ⟨rfl, hw'⟩
    have hs := MapKept.heap_set (o' := .map es' clock') hb2
    have hbm : b ∈ mblk s.cv := by rw [e]; simp [mblk]
    have hold : ∀ a, a < w.heap.size → a ≠ b → w'.heap[a]? = w.heap[a]? := fun a ha han => by
      rw [hw']
      show (Array.setIfInBounds _ b _)[a]? = _
      rw [hs.2 a han]
      show (w.alloc (.cells #[.int .i64 r, .int .i64 (k : Int)] 106)).heap[a]? = _
      exact Below.heap_alloc w _ a ha
    have hsz : w.heap.size ≤ w'.heap.size := by
      rw [hw']
      show w.heap.size ≤ (Array.setIfInBounds (w.alloc (.cells #[.int .i64 r, .int .i64 (k : Int)] 106)).heap b _).size
      simp
    refine ⟨rfl, s.cv, ⟨by rw [hw']; rfl, by rw [hw']; rfl, by rw [hw']; rfl, hsz, fun a ha han => hold a ha (fun e => han (by rw [e]; exact List.mem_cons_of_mem _ hbm))⟩, fun b hb => .inl hb, ?_⟩
    refine h.upd (fun p => p = .cv) (fun p hp => ?_) (fun p hp a ha => ?_) (fun p hp => ?_) (fun p hp b hb => ?_) (fun p p' hp hp' hne => absurd (hp.trans hp'.symm) hne) hsz
    · cases p with
      | sb => exact ⟨fun h => h, rfl⟩
      | cv => exact absurd rfl hp
      | tab d => exact ⟨fun h => h, rfl⟩
      | row r => exact ⟨fun h => h, rfl⟩
    · exact hold a ((h.has p).lt a ha) (fun e => h.ap p .cv hp a ha (by rw [e]; exact hbm))
    · subst hp
      exact .inr ⟨b, es', clock', e, by rw [hw']; exact hs.1, hst', hk'⟩
    · subst hp; exact .inl hb
/-- The reference to the j-th thing of a table. -/
def refOf : Tb → Nat → Int
  | .y, j => -((j : Int) + 1)
  | _, j => (j : Int) + 1
set_option maxRecDepth 100000 in
set_option maxHeartbeats 2000000 in
theorem at49_old (j n cap g sb : Nat) (w : World) (hj : j < n) (hn : n ≤ 1073741824) (h : w.cell? ⟨sb, 5, none⟩ = some (.slice (some ⟨g, 0, none⟩) n cap)) :
    Calls Try.prog 49 #[.pointer (some ⟨sb, 0, none⟩), .int .i64 ((j : Int) + 1)] w fun e w' => e = .returned (.pointer (some ⟨g, j * 9, none⟩)) ∧ w' = w := by
  have h1 : (0 : Int) < (j : Int) + 1 := by omega
  have h2 : (j : Int) + 1 ≤ (n : Int) := by omega
  have h3 : (j : Int) < (n : Int) := by omega
  have h4 : (n : Int) ≤ 1073741824 := by omega
  go_enter Try.func49, Try.ntmps49
  go_wp2
  go_ret
  exact ⟨rfl, rfl⟩
set_option maxRecDepth 100000 in
set_option maxHeartbeats 2000000 in
theorem at49_none (sb : Nat) (w : World) :
    Calls Try.prog 49 #[.pointer (some ⟨sb, 0, none⟩), .int .i64 0] w fun e w' => e = .returned (.pointer none) ∧ w' = w := by
  go_enter Try.func49, Try.ntmps49
  go_wp2
  go_ret
  exact ⟨rfl, rfl⟩
set_option maxRecDepth 100000 in
set_option maxHeartbeats 2000000 in
theorem at49_young (j n cap g sb : Nat) (w : World) (hj : j < n) (hn : n ≤ 1073741824) (h : w.cell? ⟨sb, 3, none⟩ = some (.slice (some ⟨g, 0, none⟩) n cap)) :
    Calls Try.prog 49 #[.pointer (some ⟨sb, 0, none⟩), .int .i64 (-((j : Int) + 1))] w fun e w' => e = .returned (.pointer (some ⟨g, j * 9, none⟩)) ∧ w' = w := by
  have h1 : (0 : Int) < (j : Int) + 1 := by omega
  have h2 : (j : Int) + 1 ≤ (n : Int) := by omega
  have h3 : (j : Int) < (n : Int) := by omega
  have h4 : (n : Int) ≤ 1073741824 := by omega
  have h5 : -((j : Int) + 1) < 0 := by omega
  have h6 : ¬ (0 < -((j : Int) + 1)) := by omega
  have h7 : -(n : Int) ≤ -((j : Int) + 1) := by omega
  go_enter Try.func49, Try.ntmps49
  go_wp2
  go_ret
  exact ⟨rfl, rfl⟩
/-- A table that holds something has a block. -/
theorem Cl.tabv {c : Cf} {w : World} {s : St} (h : Cl c w s) (d : Tb) {j : Nat} (hj : j < (s.l d).length) : ∃ g cap cur, s.v d = .slice (some ⟨g, 0, none⟩) (s.l d).length cap ∧ c.B ≤ g ∧ w.heap[g]? = some (.cells cur 96 (0, 0)) ∧ cur.size = cap * 9 ∧ (s.l d).length ≤ cap ∧ cur.toList.take ((s.l d).length * 9) = (s.l d).flatMap Tp.cells := by
  have h' : w.ownsRow c.B 96 9 (s.v d) (s.l d).length ((s.l d).flatMap Tp.cells) := h.has (.tab d)
  rcases h'.2 with ⟨_, h0⟩ | ⟨g, cap, cur, e, h1, h2, h3, h4, h5, h6⟩
  · omega
  · exact ⟨g, cap, cur, e, h1, h2, h5, h3, h6⟩
theorem flat9 (f : Tp → List Value) (hf : ∀ t, (f t).length = 9) : ∀ (L : List Tp) (j i : Nat) (t : Tp), L[j]? = some t → i < 9 → (L.flatMap f)[j * 9 + i]? = (f t)[i]?
  | [], j, i, t, h, _ => by simp at h
  | x :: L, 0, i, t, h, hi => by
    simp at h; subst h
    rw [List.flatMap_cons, List.getElem?_append_left (by rw [hf]; omega)]; simp
  | x :: L, j + 1, i, t, h, hi => by
    rw [List.flatMap_cons, List.getElem?_append_right (by rw [hf]; omega), hf, show (j + 1) * 9 + i - 9 = j * 9 + i by omega]
    exact flat9 f hf L j i t (by simpa using h) hi
theorem flat9_len (L : List Tp) : (L.flatMap Tp.cells).length = L.length * 9 := by
  induction L with
  | nil => rfl
  | cons x l ih => rw [List.flatMap_cons, List.length_append, ih, Tp.len, List.length_cons]; omega
/-- Chunks of nine: one of them has changed in two places. -/
theorem flat9_set2 : ∀ (L : List Tp) (j a b : Nat) (t t' : Tp) (u v : Value), L[j]? = some t → a < 9 → b < 9 → t'.cells = (t.cells.set a u).set b v → (L.set j t').flatMap Tp.cells = ((L.flatMap Tp.cells).set (j * 9 + a) u).set (j * 9 + b) v
  | [], j, a, b, t, t', u, v, h, _, _, _ => by simp at h
  | x :: L, 0, a, b, t, t', u, v, h, ha, hb, he => by
    simp at h; subst h
    rw [List.set_cons_zero, List.flatMap_cons, List.flatMap_cons, he]
    simp only [Nat.zero_mul, Nat.zero_add]
    rw [List.set_append_left _ _ (by rw [Tp.len]; omega), List.set_append_left _ _ (by rw [List.length_set, Tp.len]; omega)]
  | x :: L, j + 1, a, b, t, t', u, v, h, ha, hb, he => by
    rw [List.set_cons_succ, List.flatMap_cons, List.flatMap_cons, flat9_set2 L j a b t t' u v (by simpa using h) ha hb he]
    rw [List.set_append_right _ _ (by rw [Tp.len]; omega), List.set_append_right _ _ (by rw [Tp.len]; omega), Tp.len, show (j + 1) * 9 + a - 9 = j * 9 + a by omega, show (j + 1) * 9 + b - 9 = j * 9 + b by omega]
theorem Cl.at_ {c : Cf} {w : World} {s : St} (h : Cl c w s) (d : Tb) {j : Nat} {t : Tp} (hj : (s.l d)[j]? = some t) {g cap : Nat} {cur : Array Value} (hg : w.heap[g]? = some (.cells cur 96 (0, 0))) (ht : cur.toList.take ((s.l d).length * 9) = (s.l d).flatMap Tp.cells) (i : Nat) (hi : i < 9) : cur[j * 9 + i]? = t.cells[i]? := by
  have hl := (List.getElem?_eq_some_iff.1 hj).1
  rw [← flat9 Tp.cells Tp.len _ j i t hj hi, ← ht, List.getElem?_take, if_pos (by omega), Array.getElem?_toList]
end Rs
end Go.Proofs.Ytaapakpanbfmlaa
