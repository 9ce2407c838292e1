/-
  collectYoung, the walk.
-/
import Derived.Test.YtaapakpanbfmlaaQbr
namespace Go.Proofs.Ytaapakpanbfmlaa
namespace Rs
open Go.RowKit Hp
open Go.ChangeMaps (setBlock)
set_option linter.unusedVariables false
set_option linter.unusedSimpArgs false
/-- The world when the boxes of collectYoung lie. -/
structure Yb (w W : World) (sb hb yb : Nat) (yv : Value) : Prop where
  fr : Fr [] w W
  h : W.heap[hb]? = some (.cells #[.pointer (some ⟨sb, 0, none⟩)] 83 (0, 0))
  y : W.heap[yb]? = some (.cells #[yv] 49 (0, 0))
  hl : w.heap.size ≤ hb
  yl : w.heap.size ≤ yb
set_option maxRecDepth 100000 in
set_option maxHeartbeats 4000000 in
theorem young43_nil (sb : Nat) (ya oa : Option Addr) (yn yc on oc : Nat) (w : World) (h3 : w.cell? ⟨sb, 3, none⟩ = some (.slice ya yn yc)) (h5 : w.cell? ⟨sb, 5, none⟩ = some (.slice oa on oc)) (h8 : w.cell? ⟨sb, 8, none⟩ = some (.map none)) (hon : on ≤ 1073741824) {J0 : World → Prop}
    (HS : Hid (∀ hb yb W q, Yb w W sb hb yb (.slice ya yn yc) → Calls Try.prog 59 #[.pointer (some ⟨sb, 0, none⟩), .int .i64 (on : Int), .func (.func 60) #[] #[.pointer (some ⟨hb, 0, none⟩), .pointer (some ⟨yb, 0, none⟩)], .iface 61 (.pointer (some ⟨sb, 9, none⟩))] (W.drewN q) fun e w' => e = .returned (.tuple #[]) ∧ J0 w')) :
    Calls Try.prog 43 #[.pointer (some ⟨sb, 0, none⟩), .iface 61 (.pointer (some ⟨sb, 9, none⟩))] w fun e w' => e = .returned (.tuple #[]) ∧ J0 w' := by
  have hs : sb < w.heap.size := cell_lt h3
  obtain ⟨W0, hW0⟩ : ∃ W, W = w.alloc (.cells #[.pointer (some ⟨sb, 0, none⟩)] 83) := ⟨_, rfl⟩
  have d3 := alloc_cell h3 (.cells #[.pointer (some ⟨sb, 0, none⟩)] 83)
  have d5 := alloc_cell h5 (.cells #[.pointer (some ⟨sb, 0, none⟩)] 83)
  have d8 := alloc_cell h8 (.cells #[.pointer (some ⟨sb, 0, none⟩)] 83)
  rw [← hW0] at d3 d5 d8
  have hbk : W0.heap[w.heap.size]? = some (.cells #[.pointer (some ⟨sb, 0, none⟩)] 83 (0, 0)) := by rw [hW0]; exact heap_alloc_new w _
  have b0 : W0.cell? ⟨w.heap.size, 0, none⟩ = some (.pointer (some ⟨sb, 0, none⟩)) := by rw [cell_of_row W0 w.heap.size 0 _ 83 (0, 0) hbk]; rfl
  have k3 : ∀ o, (W0.alloc o).cell? ⟨sb, 3, none⟩ = some (.slice ya yn yc) := fun o => alloc_cell d3 o
  have k5 : ∀ o, (W0.alloc o).cell? ⟨sb, 5, none⟩ = some (.slice oa on oc) := fun o => alloc_cell d5 o
  have k8 : ∀ o, (W0.alloc o).cell? ⟨sb, 8, none⟩ = some (.map none) := fun o => alloc_cell d8 o
  have k0 : ∀ o, (W0.alloc o).cell? ⟨w.heap.size, 0, none⟩ = some (.pointer (some ⟨sb, 0, none⟩)) := fun o => alloc_cell b0 o
  have hsW : W0.heap.size = w.heap.size + 1 := by rw [hW0]; simp
  have q0 : ¬ sb = w.heap.size := by omega
  have q1 : ¬ sb = W0.heap.size := by omega
  have q3 : ¬ w.heap.size = sb := by omega
  have q4 : ¬ w.heap.size = W0.heap.size := by omega
  have honi : (on : Int) ≤ 1073741824 := by omega
  have HY : Hid (Yb w (W0.alloc (.cells #[.slice ya yn yc] 49)) sb w.heap.size W0.heap.size (.slice ya yn yc)) := by
    refine ⟨?_, ?_, heap_alloc_new W0 _, Nat.le_refl _, by omega⟩
    · refine Fr.trans ?_ (Fr.of_below ((Below.refl _ _).alloc (Nat.le_refl _) _))
      rw [hW0]; exact Fr.of_below ((Below.refl _ _).alloc (Nat.le_refl _) _)
    · rw [Below.heap_alloc _ _ _ (by omega)]; exact hbk
  have hrg : ∀ W, (Instr.range 52 (.map none)).run Try.prog W = .ok (.pointer (some ⟨W.heap.size, 0, none⟩)) (W.alloc (.mapIter none 0 #[] 0)) := fun W => run_range_nilMap (P := Try.prog) W 52 106 118 und52
  clear hs hsW hbk h3 h5 h8
  go_enter Try.func43, Try.ntmps43
  go_upto_region 1 with fail
  rw [← hW0]
  clear hW0
  go_region
  go_wp2_with fail
  have HY2 : Hid (Yb w ((W0.alloc (.cells #[.slice ya yn yc] 49)).alloc (.mapIter none 0 #[] 0)) sb w.heap.size W0.heap.size (.slice ya yn yc)) := by
    obtain ⟨y1, y2, y3, y4, y5⟩ := unhide HY
    have hf : Fr [] (W0.alloc (.cells #[.slice ya yn yc] 49)) ((W0.alloc (.cells #[.slice ya yn yc] 49)).alloc (.mapIter none 0 #[] 0)) := Fr.of_below ((Below.refl _ _).alloc (Nat.le_refl _) _)
    exact ⟨y1.trans hf, by rw [hf.block _ (Array.getElem?_eq_some_iff.1 y2).1 (by simp)]; exact y2, by rw [hf.block _ (Array.getElem?_eq_some_iff.1 y3).1 (by simp)]; exact y3, y4, y5⟩
  have m0 := alloc_cell (k0 (.cells #[.slice ya yn yc] 49)) (.mapIter none 0 #[] 0)
  go_loopg [26] 1 (fun k p wr => Hid (wr = ((W0.alloc (.cells #[.slice ya yn yc] 49)).alloc (.mapIter none 0 #[] 0)).drew) ∧ k = 1)
  case atStart => exact ⟨rfl, rfl⟩
  case round =>
    obtain ⟨hw, _⟩ := hrel
    have hw' := unhide hw
    subst hw'
    have hnx : ∀ ty, (Instr.next (.pointer (some ⟨W0.heap.size + 1, 0, none⟩)) false ty).run Try.prog ((W0.alloc (.cells #[.slice ya yn yc] 49)).alloc (.mapIter none 0 #[] 0)).drew = .ok (.tuple #[.bool false]) ((W0.alloc (.cells #[.slice ya yn yc] 49)).alloc (.mapIter none 0 #[] 0)).drew := fun ty => next_nil _ _ ty (by
      have s1 : (W0.alloc (.cells #[.slice ya yn yc] 49)).heap.size = W0.heap.size + 1 := by simp
      rw [← s1]; exact heap_alloc_new (W0.alloc (.cells #[.slice ya yn yc] 49)) _)
    clear hw HY
    have HC := hide (fun q => unhide HS w.heap.size W0.heap.size _ q (unhide HY2))
    clear HS HY2
    go_wp2_with fail
    refine (unhide HC 1).mono ?_
    rintro e w3 ⟨rfl, hj⟩
    have HJ := hide hj
    clear hj HC
    go_wp2
    go_end0
    exact ⟨rfl, unhide HJ⟩
/-- The next entry of a map that is ranged over, whichever comes: of which the key is told. -/
theorem wpList_next_key {P : Program} (w : World) {ops : Array Oper} {rest : List Oper} {o : Oper} {a : Act} {Q : Exit → Act → World → Prop} {β : Type} (mk : β → Value) (hg : o.guard = none) (it : Operand) (hop : o.op = Op.next it false) (r bm since c0 : Nat) (seen : Array Nat) (es : Array MapEntry) (clock : Nat)
    (hit : a.eval it = .pointer (some ⟨r, 0, none⟩)) (hr : w.heap[r]? = some (.mapIter (some bm) since seen c0)) (hb : w.heap[bm]? = some (.map es clock)) (hbr : bm ≠ r) (hst : MapKept.Stamped es clock) (hold : ∀ x ∈ es.toList, x.born < since) (hsc : since ≤ c0) (hkey : ∀ e ∈ es.toList, ∃ y, e.key = mk y)
    (hDone : Hid ((leftOf es seen).size = 0) → wpList P ops Q rest (a.put o.dst (.tuple #[.bool false])) w)
    (hMore : ∀ e y, Hid (e ∈ (leftOf es seen).toList ∧ e.key = mk y) → ∀ w2, (Instr.entry (.pointer (some ⟨r, 0, none⟩))).run P w2 = .ok (.tuple #[mk y, e.val]) w2 → Hid (Fr [r] w w2 ∧ w2.heap[r]? = some (.mapIter (some bm) since (seen.push e.born) clock)) → wpList P ops Q rest (a.put o.dst (.tuple #[.bool true, mk y, e.val])) w2) :
    wpList P ops Q (o :: rest) a w := by
  refine wpList_plain hg fun K' hK' => ?_
  unfold Oper.wp
  rcases run_next_at (P := P) w o.type r bm since c0 seen es clock hr hb hold hsc with ⟨h0, hrun⟩ | ⟨e, he, w1, hw1, hrun⟩
  · simp [execOp, hop, hit, hrun, Result.andThen]
    exact hK' _ _ (hDone h0)
  · simp [execOp, hop, hit, hrun, Result.andThen]
    have hem : e ∈ es.toList := by
      unfold leftOf at he
      rw [Array.toList_filter] at he
      exact (List.mem_filter.1 he).1
    obtain ⟨y, hy⟩ := hkey e hem
    have hrl : r < w.heap.size := (Array.getElem?_eq_some_iff.1 hr).1
    have hs1 : w1.heap = w.heap := by rcases hw1 with rfl | rfl <;> rfl
    have hh := heap_setBlock (w := w1) (r := r) (o := .mapIter (some bm) since (seen.push e.born) clock) (by rw [hs1]; exact hrl)
    have hF : Fr [r] w (setBlock w1 r (.mapIter (some bm) since (seen.push e.born) clock)) := by
      rcases hw1 with rfl | rfl
      · exact fr_setBlock
      · exact (Fr.refl [r] w).drew.trans fr_setBlock
    have hen := run_entry_at (P := P) (setBlock w1 r (.mapIter (some bm) since (seen.push e.born) clock)) r bm since seen es clock e hh.1 (by rw [hh.2 bm hbr, hs1]; exact hb) hem hst.2.1
    rw [hy] at hen ⊢
    exact hK' _ _ (hMore e y ⟨he, hy⟩ _ hen ⟨hF, hh.1⟩)
set_option maxRecDepth 100000 in
set_option maxHeartbeats 8000000 in
theorem young43_map (sb m : Nat) (es : Array MapEntry) (clock : Nat) (ya oa : Option Addr) (yn yc on oc : Nat) (w : World) (h3 : w.cell? ⟨sb, 3, none⟩ = some (.slice ya yn yc)) (h5 : w.cell? ⟨sb, 5, none⟩ = some (.slice oa on oc)) (h8 : w.cell? ⟨sb, 8, none⟩ = some (.map (some m))) (hm : w.heap[m]? = some (.map es clock)) (hst : Hid (MapKept.Stamped es clock)) (HV : Hid (∀ e ∈ es.toList, ∃ x : Int × Nat, e.key = .agg #[.int .i64 x.1, .int .i64 (x.2 : Int)])) (hon : on ≤ 1073741824) {J0 : World → Prop} {J : Nat → Nat → Nat → Array Nat → World → Prop}
    (H0 : Hid (∀ hb yb W, Yb w W sb hb yb (.slice ya yn yc) → J hb yb W.heap.size #[] (W.alloc (.mapIter (some m) clock #[] clock))))
    (HM : Hid (∀ hb yb it seen wr, J hb yb it seen wr → wr.heap[m]? = some (.map es clock) ∧ m ≠ it ∧ wr.cell? ⟨hb, 0, none⟩ = some (.pointer (some ⟨sb, 0, none⟩)))) (HI : Hid (∀ hb yb it seen wr wr', J hb yb it seen wr → Fr [it] wr wr' → J hb yb it seen wr'))
    (HT : Hid (∀ hb yb it seen wr, J hb yb it seen wr → ∀ en ∈ (leftOf es seen).toList, ∀ r (k : Nat), en.key = .agg #[.int .i64 r, .int .i64 (k : Int)] → ∀ W, Fr [it] wr W → W.cell? ⟨hb, 0, none⟩ = some (.pointer (some ⟨sb, 0, none⟩)) ∧ ∃ g o x,
      (∀ q, Calls Try.prog 49 #[.pointer (some ⟨sb, 0, none⟩), .int .i64 r] (W.drewN q) fun e w' => e = .returned (.pointer (some ⟨g, o, none⟩)) ∧ w' = W.drewN q) ∧
      (∀ q, Calls Try.prog 56 #[.pointer (some ⟨g, o, none⟩), .int .i64 (k : Int)] (W.drewN q) fun e w' => e = .returned (.int .i64 x) ∧ w' = W.drewN q) ∧
      ∀ q, Calls Try.prog 60 #[.int .i64 x, .pointer (some ⟨hb, 0, none⟩), .pointer (some ⟨yb, 0, none⟩)] (W.drewN q) fun e w3 => ∃ y, e = .returned (.int .i64 y) ∧ (∀ b, wr.heap.size ≤ b → b < W.heap.size → w3.heap[b]? = W.heap[b]?) ∧ w3.cell? ⟨hb, 0, none⟩ = some (.pointer (some ⟨sb, 0, none⟩)) ∧ ∃ g' o',
        (∀ q, Calls Try.prog 49 #[.pointer (some ⟨sb, 0, none⟩), .int .i64 r] (w3.drewN q) fun e w' => e = .returned (.pointer (some ⟨g', o', none⟩)) ∧ w' = w3.drewN q) ∧
        ∀ q, Calls Try.prog 54 #[.pointer (some ⟨g', o', none⟩), .int .i64 (k : Int), .int .i64 y] (w3.drewN q) fun e w4 => e = .returned (.tuple #[]) ∧ J hb yb it (seen.push en.born) w4 ∧ w4.heap[it]? = W.heap[it]?))
    (HS : Hid (∀ hb yb it seen wr q, J hb yb it seen wr → (leftOf es seen).size = 0 → Calls Try.prog 59 #[.pointer (some ⟨sb, 0, none⟩), .int .i64 (on : Int), .func (.func 60) #[] #[.pointer (some ⟨hb, 0, none⟩), .pointer (some ⟨yb, 0, none⟩)], .iface 61 (.pointer (some ⟨sb, 9, none⟩))] (wr.drewN q) fun e w' => e = .returned (.tuple #[]) ∧ J0 w')) :
    Calls Try.prog 43 #[.pointer (some ⟨sb, 0, none⟩), .iface 61 (.pointer (some ⟨sb, 9, none⟩))] w fun e w' => e = .returned (.tuple #[]) ∧ J0 w' := by
  have hs : sb < w.heap.size := cell_lt h3
  obtain ⟨W0, hW0⟩ : ∃ W, W = w.alloc (.cells #[.pointer (some ⟨sb, 0, none⟩)] 83) := ⟨_, rfl⟩
  have d3 := alloc_cell h3 (.cells #[.pointer (some ⟨sb, 0, none⟩)] 83)
  have d5 := alloc_cell h5 (.cells #[.pointer (some ⟨sb, 0, none⟩)] 83)
  have d8 := alloc_cell h8 (.cells #[.pointer (some ⟨sb, 0, none⟩)] 83)
  rw [← hW0] at d3 d5 d8
  have hbk : W0.heap[w.heap.size]? = some (.cells #[.pointer (some ⟨sb, 0, none⟩)] 83 (0, 0)) := by rw [hW0]; exact heap_alloc_new w _
  have b0 : W0.cell? ⟨w.heap.size, 0, none⟩ = some (.pointer (some ⟨sb, 0, none⟩)) := by rw [cell_of_row W0 w.heap.size 0 _ 83 (0, 0) hbk]; rfl
  have k3 : ∀ o, (W0.alloc o).cell? ⟨sb, 3, none⟩ = some (.slice ya yn yc) := fun o => alloc_cell d3 o
  have k5 : ∀ o, (W0.alloc o).cell? ⟨sb, 5, none⟩ = some (.slice oa on oc) := fun o => alloc_cell d5 o
  have k8 : ∀ o, (W0.alloc o).cell? ⟨sb, 8, none⟩ = some (.map (some m)) := fun o => alloc_cell d8 o
  have k0 : ∀ o, (W0.alloc o).cell? ⟨w.heap.size, 0, none⟩ = some (.pointer (some ⟨sb, 0, none⟩)) := fun o => alloc_cell b0 o
  have hsW : W0.heap.size = w.heap.size + 1 := by rw [hW0]; simp
  have q0 : ¬ sb = w.heap.size := by omega
  have q1 : ¬ sb = W0.heap.size := by omega
  have q3 : ¬ w.heap.size = sb := by omega
  have q4 : ¬ w.heap.size = W0.heap.size := by omega
  have honi : (on : Int) ≤ 1073741824 := by omega
  have HY : Hid (Yb w (W0.alloc (.cells #[.slice ya yn yc] 49)) sb w.heap.size W0.heap.size (.slice ya yn yc)) := by
    refine ⟨?_, ?_, heap_alloc_new W0 _, Nat.le_refl _, by omega⟩
    · refine Fr.trans ?_ (Fr.of_below ((Below.refl _ _).alloc (Nat.le_refl _) _))
      rw [hW0]; exact Fr.of_below ((Below.refl _ _).alloc (Nat.le_refl _) _)
    · rw [Below.heap_alloc _ _ _ (by omega)]; exact hbk
  have HJ0 := hide (unhide H0 _ _ _ (unhide HY))
  have hmm : (W0.alloc (.cells #[.slice ya yn yc] 49)).drew.heap[m]? = some (.map es clock) := by
    show (W0.alloc (.cells #[.slice ya yn yc] 49)).heap[m]? = _
    rw [(unhide HY).fr.block m (Array.getElem?_eq_some_iff.1 hm).1 (by simp)]; exact hm
  have hrg := run_range_map (P := Try.prog) (W0.alloc (.cells #[.slice ya yn yc] 49)).drew 52 106 118 m es clock und52 hmm
  have hrg2 := run_range_map (P := Try.prog) (W0.alloc (.cells #[.slice ya yn yc] 49)) 52 106 118 m es clock und52 hmm
  clear hs hsW hbk h3 h5 h8 hm hmm H0 HY
  go_enter Try.func43, Try.ntmps43
  go_upto_region 1 with fail
  rw [← hW0]
  clear hW0
  go_region
  go_wp2_with fail
  have HIT : Hid (((W0.alloc (.cells #[.slice ya yn yc] 49)).alloc (.mapIter (some m) clock #[] clock)).drew.heap[W0.heap.size + 1]? = some (.mapIter (some m) clock #[] clock)) := by
    have s1 : (W0.alloc (.cells #[.slice ya yn yc] 49)).heap.size = W0.heap.size + 1 := by simp
    unfold Hid
    rw [← s1]; exact heap_alloc_new (W0.alloc (.cells #[.slice ya yn yc] 49)) _
  have HJ1 : Hid (J w.heap.size W0.heap.size (W0.heap.size + 1) #[] ((W0.alloc (.cells #[.slice ya yn yc] 49)).alloc (.mapIter (some m) clock #[] clock)).drew) := by
    have s1 : (W0.alloc (.cells #[.slice ya yn yc] 49)).heap.size = W0.heap.size + 1 := by simp
    have := unhide HJ0
    rw [s1] at this
    exact unhide HI _ _ _ _ _ _ this (Fr.refl _ _).drew
  generalize W0.heap.size + 1 = it at *
  clear HJ0 hrg hrg2 k3 k5 k8 k0 d3 d5 d8 b0 q1 q4
  go_loopg [26] (leftOf es #[]).size (fun k p wr => ∃ seen c0, Hid (wr.heap[it]? = some (.mapIter (some m) clock seen c0)) ∧ Hid (clock ≤ c0) ∧ Hid (J w.heap.size W0.heap.size it seen wr) ∧ Hid ((leftOf es seen).size ≤ k))
  case atStart => exact ⟨#[], clock, HIT, Nat.le_refl _, HJ1, Nat.le_refl _⟩
  case round =>
    clear HIT HJ1
    obtain ⟨seen, c0, Hit, Hc, HL, Hk⟩ := hrel
    obtain ⟨hmm, hmi, hbc⟩ := unhide HM _ _ _ _ _ (unhide HL)
    have Hmm := hide hmm
    have Hmi := hide hmi
    clear hmm hmi
    go_wp2_with (first | (at_next; refine wpList_next_key wr (fun x : Int × Nat => .agg #[.int .i64 x.1, .int .i64 (x.2 : Int)]) rfl _ rfl it m clock c0 seen es clock rfl (unhide Hit) (unhide Hmm) (unhide Hmi) (unhide hst) (unhide hst).1 (unhide Hc) (unhide HV) (fun H0 => ?_) (fun en x Hen w2 hen H2 => ?_)) | fail)
    · refine (unhide HS _ _ _ _ _ 0 (unhide HL) (unhide H0)).mono ?_
      rintro e w3 ⟨rfl, hj⟩
      have HJ := hide hj
      clear hj
      go_wp2
      go_end0
      exact ⟨rfl, unhide HJ⟩
    · have hF1 : Fr [it] wr (w2.alloc (.cells #[.int .i64 x.1, .int .i64 (x.2 : Int)] 106)) := (unhide H2).1.trans (Fr.of_below ((Below.refl _ _).alloc (Nat.le_refl _) _))
      obtain ⟨t1, g, o, y, t2, t3, t4⟩ := unhide HT _ _ _ _ _ (unhide HL) en (unhide Hen).1 x.1 x.2 (unhide Hen).2 _ hF1
      have hbx : (w2.alloc (.cells #[.int .i64 x.1, .int .i64 (x.2 : Int)] 106)).heap[w2.heap.size]? = some (.cells #[.int .i64 x.1, .int .i64 (x.2 : Int)] 106 (0, 0)) := heap_alloc_new w2 _
      have hbl : wr.heap.size ≤ w2.heap.size := (unhide H2).1.size
      have hbl2 : w2.heap.size < (w2.alloc (.cells #[.int .i64 x.1, .int .i64 (x.2 : Int)] 106)).heap.size := by simp
      have hitw : (w2.alloc (.cells #[.int .i64 x.1, .int .i64 (x.2 : Int)] 106)).heap[it]? = some (.mapIter (some m) clock (seen.push en.born) clock) := by
        rw [Below.heap_alloc _ _ _ (Array.getElem?_eq_some_iff.1 (unhide H2).2).1]; exact (unhide H2).2
      generalize w2.heap.size = bx at *
      generalize w2.alloc (.cells #[.int .i64 x.1, .int .i64 (x.2 : Int)] 106) = W at *
      have u0 : W.cell? ⟨bx, 0, none⟩ = some (.int .i64 x.1) := by rw [cell_of_row W bx 0 _ 106 (0, 0) hbx]; rfl
      have u1 : W.cell? ⟨bx, 1, none⟩ = some (.int .i64 (x.2 : Int)) := by rw [cell_of_row W bx 1 _ 106 (0, 0) hbx]; rfl
      have HA := hide t2
      have HG := hide t3
      have HC := hide t4
      have Hbx := hide hbx
      have Hbl := hide (And.intro hbl hbl2)
      have Hitw := hide hitw
      clear t2 t3 t4 hbx hbl hbl2 hitw hF1 hen hbc Hit HT HS HI HM
      refine Code.wp_mono OnlyN.imp (reg43a sb w.heap.size W0.heap.size bx g o x.2 x.1 y W _ _ _ _ _ _ _ _ _ _ _ _ _ _ _ _ _ _ _ _ _ _ _ _ _ _ _ _ _ _ _ _ _ _ _ _ _ _ _ _ _ _ _ _ _ _ _ _ _ _ _ _ _ t1 u0 u1 HA HG HC (hide ?_))
      rintro y3 w3 ⟨hb3, hc3, g', o', t5, t6⟩
      have v3 : w3.heap[bx]? = some (.cells #[.int .i64 x.1, .int .i64 (x.2 : Int)] 106 (0, 0)) := by rw [hb3 bx (unhide Hbl).1 (unhide Hbl).2]; exact unhide Hbx
      have v0 : w3.cell? ⟨bx, 0, none⟩ = some (.int .i64 x.1) := by rw [cell_of_row w3 bx 0 _ 106 (0, 0) v3]; rfl
      have v1 : w3.cell? ⟨bx, 1, none⟩ = some (.int .i64 (x.2 : Int)) := by rw [cell_of_row w3 bx 1 _ 106 (0, 0) v3]; rfl
      have HA2 := hide t5
      have HS2 := hide t6
      clear v3 hb3 t5 t6 HA HG HC u0 u1 t1
      go_wp2_with fail
      refine Code.wp_mono OnlyN.imp (reg43b sb w.heap.size W0.heap.size bx g' o' x.2 x.1 y3 w3 _ _ _ _ _ _ _ _ _ _ _ _ _ _ _ _ _ _ _ _ _ _ _ _ _ _ _ _ _ _ _ _ _ _ _ _ _ _ _ _ _ _ _ _ _ _ _ _ _ _ _ _ hc3 v0 v1 HA2 HS2 (hide ?_))
      rintro w4 ⟨hj4, hi4⟩
      have HJ4 := hide hj4
      have HI4 := hide hi4
      clear hj4 hi4 HA2 HS2 v0 v1 hc3
      go_wp2
      go_roundg (leftOf es (seen.push en.born)).size
      case measure => have := left_push (unhide Hen).1; have := unhide Hk; omega
      case rel => exact ⟨seen.push en.born, clock, by unfold Hid; rw [unhide HI4]; exact unhide Hitw, Nat.le_refl _, HJ4, Nat.le_refl _⟩
end Rs
end Go.Proofs.Ytaapakpanbfmlaa
