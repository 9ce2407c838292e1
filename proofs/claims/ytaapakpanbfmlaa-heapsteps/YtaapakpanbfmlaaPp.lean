/-
  Turning what lies side by side, and a row: the walks.
-/
import Derived.Test.YtaapakpanbfmlaaPo
import Derived.Maps.RangeWalk
namespace Go.Proofs.Ytaapakpanbfmlaa
namespace Rs
open Go.RowKit Hp
open Go.ChangeMaps (setBlock)
set_option linter.unusedVariables false
set_option linter.unusedSimpArgs false
set_option maxRecDepth 100000 in
set_option maxHeartbeats 4000000 in
theorem turnAll_walk (fn : FuncId) (hcf : ∀ args w, Sem.run Try.prog (callFunc fn args) w = .ok (.enter fn args) w) (cap : Array Value) (g m cc : Nat) (hm : m ≤ 1073741824) (J : Nat → World → Prop) (w : World) (hJ : Hid (J 0 w))
    (HT : Hid (∀ k wr, k < m → J k wr → ∃ x : Int, wr.cell? ⟨g, k, none⟩ = some (.int .i64 x) ∧ (x = 0 → J (k + 1) wr) ∧ (x ≠ 0 → Calls Try.prog fn (#[.int .i64 x] ++ cap) wr fun e w' => ∃ y, e = .returned (.int .i64 y) ∧ (∃ u, w'.cell? ⟨g, k, none⟩ = some u) ∧ w'.frozen? ⟨g, k, none⟩ = false ∧ J (k + 1) (w'.setCell ⟨g, k, none⟩ (.int .i64 y))))) :
    Calls Try.prog 65 #[.slice (some ⟨g, 0, none⟩) m cc, .func (.func fn) #[] cap] w fun e w' => e = .returned (.tuple #[]) ∧ J m w' := by
  have hmi : (m : Int) ≤ 1073741824 := by omega
  go_enter Try.func65, Try.ntmps65
  go_wp2
  go_loopg [8] m (fun k p wr => ∃ i : Nat, p = .int .i64 (i : Int) ∧ i ≤ m ∧ m - i ≤ k ∧ Hid (J i wr))
  case atStart => exact ⟨0, rfl, by omega, by omega, hJ⟩
  case round =>
    obtain ⟨i, rfl, hi, hk, HJ⟩ := hrel
    by_cases him : i < m
    · obtain ⟨x, hx, h0, h1⟩ := unhide HT i wr him (unhide HJ)
      have k1 : (i : Int) < (m : Int) := by omega
      by_cases hx0 : x = 0
      · subst hx0
        have HJ2 := hide (h0 rfl)
        clear h0 h1
        go_wp2
        go_roundg (m - (i + 1))
        case measure => omega
        case rel => exact ⟨i + 1, by go_num, by omega, by omega, HJ2⟩
      · have HC := hide (h1 hx0)
        clear h0 h1
        go_wp2_with fail
        refine (unhide HC).mono ?_
        rintro e w1 ⟨y, rfl, ⟨u, hu⟩, hf, hj⟩
        have HJ2 := hide hj
        clear hj
        go_wp2
        go_roundg (m - (i + 1))
        case measure => omega
        case rel => exact ⟨i + 1, by go_num, by omega, by omega, HJ2⟩
    · have : i = m := by omega
      subst this
      go_wp2
      go_end0
      exact ⟨rfl, unhide HJ⟩
set_option maxRecDepth 100000 in
set_option maxHeartbeats 4000000 in
theorem turnAll_nil (fv : Value) (w : World) :
    Calls Try.prog 65 #[.slice none 0 0, fv] w fun e w' => e = .returned (.tuple #[]) ∧ w' = w := by
  go_enter Try.func65, Try.ntmps65
  go_wp2
  go_loopg [8] 1 (fun k p wr => p = .int .i64 0 ∧ Hid (wr = w) ∧ k = 1)
  case atStart => exact ⟨rfl, rfl, rfl⟩
  case round =>
    obtain ⟨rfl, hw, _⟩ := hrel
    go_wp2
    go_end0
    exact ⟨rfl, unhide hw⟩
theorem heap_setBlock {w : World} {r : Nat} {o : Obj} (hr : r < w.heap.size) : (setBlock w r o).heap[r]? = some o ∧ ∀ b, b ≠ r → (setBlock w r o).heap[b]? = w.heap[b]? := by
  refine ⟨by simp [setBlock, hr], fun b hb => by simp [setBlock, Ne.symm hb]⟩
theorem fr_setBlock {w : World} {r : Nat} {o : Obj} : Fr [r] w (setBlock w r o) := by
  refine ⟨rfl, rfl, rfl, by simp [setBlock], fun b hb hn => ?_⟩
  have : b ≠ r := by simpa using hn
  simp [setBlock, Ne.symm this]
/-- The next entry of a map that is ranged over, whichever comes. -/
theorem wpList_next_at {P : Program} (w : World) {ops : Array Oper} {rest : List Oper} {o : Oper} {a : Act} {Q : Exit → Act → World → Prop} {β : Type} (mk : β → Value) (hg : o.guard = none) (it : Operand) (hop : o.op = Op.next it false) (r bm since c0 : Nat) (seen : Array Nat) (es : Array MapEntry) (clock : Nat)
    (hit : a.eval it = .pointer (some ⟨r, 0, none⟩)) (hr : w.heap[r]? = some (.mapIter (some bm) since seen c0)) (hb : w.heap[bm]? = some (.map es clock)) (hbr : bm ≠ r) (hst : MapKept.Stamped es clock) (hold : ∀ x ∈ es.toList, x.born < since) (hsc : since ≤ c0) (hval : ∀ e ∈ es.toList, ∃ y, e.val = mk y)
    (hDone : Hid ((leftOf es seen).size = 0) → wpList P ops Q rest (a.put o.dst (.tuple #[.bool false])) w)
    (hMore : ∀ e y, Hid (e ∈ (leftOf es seen).toList ∧ e.val = mk y) → ∀ w2, (Instr.entry (.pointer (some ⟨r, 0, none⟩))).run P w2 = .ok (.tuple #[e.key, mk y]) w2 → Hid (Fr [r] w w2 ∧ w2.heap[r]? = some (.mapIter (some bm) since (seen.push e.born) clock)) → wpList P ops Q rest (a.put o.dst (.tuple #[.bool true, e.key, mk y])) w2) :
    wpList P ops Q (o :: rest) a w := by
  refine wpList_plain hg fun K' hK' => ?_
  unfold Oper.wp
  rcases run_next_at (P := P) w o.type r bm since c0 seen es clock hr hb hold hsc with ⟨h0, hrun⟩ | ⟨e, he, w1, hw1, hrun⟩
  · simp [execOp, hop, hit, hrun, Result.andThen]
    exact hK' _ _ (hDone h0)
  · simp [execOp, hop, hit, hrun, Result.andThen]
    have hem : e ∈ es.toList := by
      unfold leftOf at he
      rw [Array.toList_filter] at he
      exact (List.mem_filter.1 he).1
    obtain ⟨y, hy⟩ := hval e hem
    have hrl : r < w.heap.size := (Array.getElem?_eq_some_iff.1 hr).1
    have hs1 : w1.heap = w.heap := by rcases hw1 with rfl | rfl <;> rfl
    have hh := heap_setBlock (w := w1) (r := r) (o := .mapIter (some bm) since (seen.push e.born) clock) (by rw [hs1]; exact hrl)
    have hF : Fr [r] w (setBlock w1 r (.mapIter (some bm) since (seen.push e.born) clock)) := by
      rcases hw1 with rfl | rfl
      · exact fr_setBlock
      · exact (Fr.refl [r] w).drew.trans fr_setBlock
    have hen := run_entry_at (P := P) (setBlock w1 r (.mapIter (some bm) since (seen.push e.born) clock)) r bm since seen es clock e hh.1 (by rw [hh.2 bm hbr, hs1]; exact hb) hem hst.2.1
    rw [hy] at hen ⊢
    exact hK' _ _ (hMore e y ⟨he, hy⟩ _ hen ⟨hF, hh.1⟩)
theorem next_nil (w : World) (r : Nat) (ty : TypeId) (h : w.heap[r]? = some (.mapIter none 0 #[] 0)) : (Instr.next (.pointer (some ⟨r, 0, none⟩)) false ty).run Try.prog w = .ok (.tuple #[.bool false]) w := by
  simp only [Instr.next, getObj, Sem.run_bind, Sem.run, h, Result.andThen]
  rfl
set_option maxRecDepth 100000 in
set_option maxHeartbeats 4000000 in
theorem turn64_near (rb : Nat) (sv fv : Value) (w : World) {J : World → Prop} (h1 : w.cell? ⟨rb, 1, none⟩ = some sv) (HS : Hid (Calls Try.prog 65 #[sv, fv] w fun e w' => e = .returned (.tuple #[]) ∧ J w')) (HJ : Hid (∀ w', J w' → w'.cell? ⟨rb, 2, none⟩ = some (.map none))) :
    Calls Try.prog 64 #[.pointer (some ⟨rb, 0, none⟩), fv] w fun e w' => e = .returned (.tuple #[]) ∧ ∃ w1, J w1 ∧ Fr [] w1 w' := by
  go_enter Try.func64, Try.ntmps64
  go_wp2_with fail
  refine (unhide HS).mono ?_
  rintro e w1 ⟨rfl, hw1⟩
  have h2 := unhide HJ w1 hw1
  have HW1 := hide hw1
  have hrg := run_range_nilMap (P := Try.prog) w1 89 3 116 und89
  have hnx := run_next_nilMap (P := Try.prog) w1
  clear hw1
  go_wp2_with fail
  go_loopg [17] 1 (fun k p wr => Hid (wr = w1.alloc (.mapIter none 0 #[] 0)) ∧ k = 1)
  case atStart => exact ⟨rfl, rfl⟩
  case round =>
    obtain ⟨hw, _⟩ := hrel
    have hw' := unhide hw
    subst hw'
    go_wp2
    go_end0
    exact ⟨rfl, w1, unhide HW1, Fr.of_below ((Below.refl _ _).alloc (Nat.le_refl _) _)⟩
theorem left_push {es : Array MapEntry} {seen : Array Nat} {e : MapEntry} (he : e ∈ (leftOf es seen).toList) : (leftOf es (seen.push e.born)).size < (leftOf es seen).size := by
  unfold leftOf at he ⊢
  have hsz : ∀ p : MapEntry → Bool, (es.filter p).size = (es.toList.filter p).length := fun p => by rw [← Array.toList_filter, Array.length_toList]
  rw [hsz, hsz]
  rw [Array.toList_filter] at he
  have h1 := List.mem_filter.1 he
  refine filter_lt _ _ (fun x hx => ?_) e h1.2 (by simp) _ h1.1
  simp only [Bool.not_eq_true', Array.contains_eq_mem, Array.mem_push, decide_eq_false_iff_not, not_or] at hx ⊢
  exact hx.1
set_option maxRecDepth 100000 in
set_option maxHeartbeats 4000000 in
theorem turn64_far (rb m : Nat) (fv : Value) (w : World) (es : Array MapEntry) (clock : Nat) {L : Nat → Array Nat → World → Prop} (h1 : w.cell? ⟨rb, 1, none⟩ = some (.slice none 0 0)) (h2 : w.cell? ⟨rb, 2, none⟩ = some (.map (some m))) (hm : w.heap[m]? = some (.map es clock)) (hst : Hid (MapKept.Stamped es clock)) (HV : Hid (∀ e ∈ es.toList, ∃ g : Nat, e.val = .pointer (some ⟨g, 0, none⟩)))
    (H0 : Hid (L w.heap.size #[] (w.alloc (.mapIter (some m) clock #[] clock)))) (HM : Hid (∀ it seen wr, L it seen wr → wr.heap[m]? = some (.map es clock) ∧ m ≠ it)) (HI : Hid (∀ it seen wr wr', L it seen wr → Fr [it] wr wr' → L it seen wr'))
    (HT : Hid (∀ it seen wr, L it seen wr → ∀ e ∈ (leftOf es seen).toList, ∃ g, e.val = .pointer (some ⟨g, 0, none⟩) ∧ Calls Try.prog 65 #[.slice (some ⟨g, 0, none⟩) 256 256, fv] wr fun e' w' => e' = .returned (.tuple #[]) ∧ L it (seen.push e.born) w' ∧ w'.heap[it]? = wr.heap[it]?)) :
    Calls Try.prog 64 #[.pointer (some ⟨rb, 0, none⟩), fv] w fun e w' => e = .returned (.tuple #[]) ∧ ∃ it seen, L it seen w' ∧ (leftOf es seen).size = 0 := by
  have HN := hide (turnAll_nil fv w)
  have hrg := run_range_map (P := Try.prog) w 89 3 116 m es clock und89 hm
  have Hm := hide hm
  clear hm
  go_enter Try.func64, Try.ntmps64
  go_wp2_with fail
  refine (unhide HN).mono ?_
  rintro e w1 ⟨rfl, hw1⟩
  subst w1
  go_wp2_with fail
  go_loopg [17] (leftOf es #[]).size (fun k p wr => ∃ seen c0, Hid (wr.heap[w.heap.size]? = some (.mapIter (some m) clock seen c0)) ∧ Hid (clock ≤ c0) ∧ Hid (L w.heap.size seen wr) ∧ Hid ((leftOf es seen).size ≤ k))
  case atStart => exact ⟨#[], clock, heap_alloc_new w _, Nat.le_refl _, H0, Nat.le_refl _⟩
  case round =>
    obtain ⟨seen, c0, Hit, Hc, HL, Hk⟩ := hrel
    obtain ⟨hmm, hmi⟩ := unhide HM _ _ _ (unhide HL)
    have Hmm := hide hmm
    have Hmi := hide hmi
    clear hmm hmi h1 h2 hrg
    go_wp2_with (first | (at_next; refine wpList_next_at wr (fun g : Nat => .pointer (some ⟨g, 0, none⟩)) rfl _ rfl w.heap.size m clock c0 seen es clock rfl (unhide Hit) (unhide Hmm) (unhide Hmi) (unhide hst) (unhide hst).1 (unhide Hc) (unhide HV) (fun H0 => ?_) (fun en g Hen w2 hen H2 => ?_)) | fail)
    · go_end0
      exact ⟨rfl, _, seen, unhide HL, unhide H0⟩
    · obtain ⟨g', hv, hcall⟩ := unhide HT _ _ _ (unhide HI _ _ _ _ (unhide HL) (unhide H2).1) en (unhide Hen).1
      have hgg : g' = g := by
        rw [(unhide Hen).2] at hv
        injection hv with hv; injection hv with hv; injection hv with hv
        exact hv.symm
      subst hgg
      refine hcall.mono ?_
      rintro e w3 ⟨rfl, hL3, hi3⟩
      have HL3 := hide hL3
      have Hi3 := hide hi3
      clear hL3 hi3 hcall hv hen
      go_wp2
      go_roundg (leftOf es (seen.push en.born)).size
      case measure => have := left_push (unhide Hen).1; have := unhide Hk; omega
      case rel => exact ⟨seen.push en.born, clock, by unfold Hid; rw [unhide Hi3]; exact (unhide H2).2, Nat.le_refl _, HL3, Nat.le_refl _⟩
end Rs
end Go.Proofs.Ytaapakpanbfmlaa
