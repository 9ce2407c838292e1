/-
  The program's heap: Get, Word, Set, Put of Heap.
-/
import Derived.Test.YtaapakpanbfmlaaPj
namespace Go.Proofs.Ytaapakpanbfmlaa
namespace Rs
open Go.RowKit Hp
set_option linter.unusedVariables false
set_option linter.unusedSimpArgs false
/-- Is it one of so many? -/
def inB (k : Int) (n : Nat) : Bool := decide (0 ≤ k) && decide (k < (n : Int))
theorem inB_nat {k : Int} {n : Nat} (h : inB k n = true) : ∃ i : Nat, k = (i : Int) ∧ i < n := by
  unfold inB at h
  simp at h
  exact ⟨k.toNat, by omega, by omega⟩
set_option maxRecDepth 100000 in
set_option maxHeartbeats 2000000 in
theorem get40_walk (R k x : Int) (bk : Bool) (w : World) {sb g o : Nat} (HA : Hid (Calls Try.prog 49 #[.pointer (some ⟨sb, 0, none⟩), .int .i64 R] w fun e w' => e = .returned (.pointer (some ⟨g, o, none⟩)) ∧ w' = w))
    (HH : Hid (Calls Try.prog 53 #[.pointer (some ⟨g, o, none⟩), .int .i64 k] w fun e w' => e = .returned (.bool bk) ∧ w' = w))
    (HG : Hid (bk = true → Calls Try.prog 56 #[.pointer (some ⟨g, o, none⟩), .int .i64 k] w fun e w' => e = .returned (.int .i64 x) ∧ w' = w)) :
    Calls Try.prog 40 #[.pointer (some ⟨sb, 0, none⟩), .int .i64 R, .int .i64 k] w fun e w' => e = .returned (.tuple #[.int .i64 (if bk = true then x else 0), .bool bk]) ∧ w' = w := by
  cases bk
  · go_enter Try.func40, Try.ntmps40
    go_wp2_with fail
    refine (unhide HA).mono ?_
    rintro e w1 ⟨rfl, hw1⟩
    subst w1
    go_wp2_with fail
    refine (unhide HH).mono ?_
    rintro e w1 ⟨rfl, hw1⟩
    subst w1
    go_wp2
    go_ret2
    exact ⟨rfl, rfl⟩
  · have HG2 := hide (unhide HG rfl)
    clear HG
    go_enter Try.func40, Try.ntmps40
    go_wp2_with fail
    refine (unhide HA).mono ?_
    rintro e w1 ⟨rfl, hw1⟩
    subst w1
    go_wp2_with fail
    refine (unhide HH).mono ?_
    rintro e w1 ⟨rfl, hw1⟩
    subst w1
    go_wp2_with fail
    refine (unhide HG2).mono ?_
    rintro e w1 ⟨rfl, hw1⟩
    subst w1
    go_wp2
    go_ret2
    exact ⟨rfl, rfl⟩
set_option maxRecDepth 100000 in
set_option maxHeartbeats 2000000 in
theorem get40_zero (k : Int) (w : World) (sb : Nat) :
    Calls Try.prog 40 #[.pointer (some ⟨sb, 0, none⟩), .int .i64 0, .int .i64 k] w fun e w' => e = .returned (.tuple #[.int .i64 0, .bool false]) ∧ w' = w := by
  have HA := hide (at49_none sb w)
  go_enter Try.func40, Try.ntmps40
  go_wp2_with fail
  refine (unhide HA).mono ?_
  rintro e w1 ⟨rfl, hw1⟩
  subst w1
  go_wp2
  go_ret2
  exact ⟨rfl, rfl⟩
set_option maxRecDepth 100000 in
set_option maxHeartbeats 2000000 in
theorem word36_walk (R k x : Int) (bk : Bool) (w : World) {sb g o : Nat} (HA : Hid (Calls Try.prog 49 #[.pointer (some ⟨sb, 0, none⟩), .int .i64 R] w fun e w' => e = .returned (.pointer (some ⟨g, o, none⟩)) ∧ w' = w))
    (HH : Hid (Calls Try.prog 50 #[.pointer (some ⟨g, o + 3, none⟩), .int .i64 k] w fun e w' => e = .returned (.bool bk) ∧ w' = w))
    (HG : Hid (bk = true → Calls Try.prog 52 #[.pointer (some ⟨g, o + 3, none⟩), .int .i64 k] w fun e w' => e = .returned (.int .u64 x) ∧ w' = w)) :
    Calls Try.prog 36 #[.pointer (some ⟨sb, 0, none⟩), .int .i64 R, .int .i64 k] w fun e w' => e = .returned (.tuple #[.int .u64 (if bk = true then x else 0), .bool bk]) ∧ w' = w := by
  cases bk
  · go_enter Try.func36, Try.ntmps36
    go_wp2_with fail
    refine (unhide HA).mono ?_
    rintro e w1 ⟨rfl, hw1⟩
    subst w1
    go_wp2_with fail
    refine (unhide HH).mono ?_
    rintro e w1 ⟨rfl, hw1⟩
    subst w1
    go_wp2
    go_ret2
    exact ⟨rfl, rfl⟩
  · have HG2 := hide (unhide HG rfl)
    clear HG
    go_enter Try.func36, Try.ntmps36
    go_wp2_with fail
    refine (unhide HA).mono ?_
    rintro e w1 ⟨rfl, hw1⟩
    subst w1
    go_wp2_with fail
    refine (unhide HH).mono ?_
    rintro e w1 ⟨rfl, hw1⟩
    subst w1
    go_wp2_with fail
    refine (unhide HG2).mono ?_
    rintro e w1 ⟨rfl, hw1⟩
    subst w1
    go_wp2
    go_ret2
    exact ⟨rfl, rfl⟩
set_option maxRecDepth 100000 in
set_option maxHeartbeats 2000000 in
theorem word36_zero (k : Int) (w : World) (sb : Nat) :
    Calls Try.prog 36 #[.pointer (some ⟨sb, 0, none⟩), .int .i64 0, .int .i64 k] w fun e w' => e = .returned (.tuple #[.int .u64 0, .bool false]) ∧ w' = w := by
  have HA := hide (at49_none sb w)
  go_enter Try.func36, Try.ntmps36
  go_wp2_with fail
  refine (unhide HA).mono ?_
  rintro e w1 ⟨rfl, hw1⟩
  subst w1
  go_wp2
  go_ret2
  exact ⟨rfl, rfl⟩
set_option maxRecDepth 100000 in
set_option maxHeartbeats 2000000 in
theorem set35_walk (R k x : Int) (bk : Bool) (w : World) {sb g o : Nat} {Q : World → Prop} (HA : Hid (Calls Try.prog 49 #[.pointer (some ⟨sb, 0, none⟩), .int .i64 R] w fun e w' => e = .returned (.pointer (some ⟨g, o, none⟩)) ∧ w' = w))
    (HH : Hid (Calls Try.prog 50 #[.pointer (some ⟨g, o + 3, none⟩), .int .i64 k] w fun e w' => e = .returned (.bool bk) ∧ w' = w))
    (HG : Hid (bk = true → Calls Try.prog 51 #[.pointer (some ⟨g, o + 3, none⟩), .int .i64 k, .int .u64 x] w fun e w' => e = .returned (.tuple #[]) ∧ Q w')) :
    Calls Try.prog 35 #[.pointer (some ⟨sb, 0, none⟩), .int .i64 R, .int .i64 k, .int .u64 x] w fun e w' => e = .returned (.bool bk) ∧ (if bk = true then Q w' else w' = w) := by
  cases bk
  · go_enter Try.func35, Try.ntmps35
    go_wp2_with fail
    refine (unhide HA).mono ?_
    rintro e w1 ⟨rfl, hw1⟩
    subst w1
    go_wp2_with fail
    refine (unhide HH).mono ?_
    rintro e w1 ⟨rfl, hw1⟩
    subst w1
    go_wp2
    go_ret
    exact ⟨rfl, by simp⟩
  · have HG2 := hide (unhide HG rfl)
    clear HG
    go_enter Try.func35, Try.ntmps35
    go_wp2_with fail
    refine (unhide HA).mono ?_
    rintro e w1 ⟨rfl, hw1⟩
    subst w1
    go_wp2_with fail
    refine (unhide HH).mono ?_
    rintro e w1 ⟨rfl, hw1⟩
    subst w1
    go_wp2_with fail
    refine (unhide HG2).mono ?_
    rintro e w1 ⟨rfl, hw1⟩
    have HW := hide hw1
    clear hw1
    go_wp2
    go_ret
    exact ⟨rfl, by simpa using unhide HW⟩
set_option maxRecDepth 100000 in
set_option maxHeartbeats 2000000 in
theorem set35_zero (k x : Int) (w : World) (sb : Nat) :
    Calls Try.prog 35 #[.pointer (some ⟨sb, 0, none⟩), .int .i64 0, .int .i64 k, .int .u64 x] w fun e w' => e = .returned (.bool false) ∧ w' = w := by
  have HA := hide (at49_none sb w)
  go_enter Try.func35, Try.ntmps35
  go_wp2_with fail
  refine (unhide HA).mono ?_
  rintro e w1 ⟨rfl, hw1⟩
  subst w1
  go_wp2
  go_ret
  exact ⟨rfl, rfl⟩
set_option maxRecDepth 100000 in
set_option maxHeartbeats 2000000 in
theorem put37_walk (R k x : Int) (bk : Bool) (w : World) {sb g o : Nat} {Q Q2 : World → Prop} (HA : Hid (Calls Try.prog 49 #[.pointer (some ⟨sb, 0, none⟩), .int .i64 R] w fun e w' => e = .returned (.pointer (some ⟨g, o, none⟩)) ∧ w' = w))
    (HH : Hid (Calls Try.prog 53 #[.pointer (some ⟨g, o, none⟩), .int .i64 k] w fun e w' => e = .returned (.bool bk) ∧ w' = w))
    (HG : Hid (bk = true → Calls Try.prog 54 #[.pointer (some ⟨g, o, none⟩), .int .i64 k, .int .i64 x] w fun e w' => e = .returned (.tuple #[]) ∧ Q w'))
    (HC : Hid (bk = true → 0 < R → x < 0 → ∀ w1, Q w1 → Calls Try.prog 55 #[.pointer (some ⟨sb, 0, none⟩), .agg #[.int .i64 R, .int .i64 k]] w1 fun e w' => e = .returned (.tuple #[]) ∧ Q2 w')) (HN : Hid (¬ (0 < R ∧ x < 0) → ∀ w1, Q w1 → Q2 w1)) :
    Calls Try.prog 37 #[.pointer (some ⟨sb, 0, none⟩), .int .i64 R, .int .i64 k, .int .i64 x] w fun e w' => e = .returned (.bool bk) ∧ (if bk = true then Q2 w' else w' = w) := by
  cases bk
  · clear HC HN
    go_enter Try.func37, Try.ntmps37
    go_wp2_with fail
    refine (unhide HA).mono ?_
    rintro e w1 ⟨rfl, hw1⟩
    subst w1
    go_wp2_with fail
    refine (unhide HH).mono ?_
    rintro e w1 ⟨rfl, hw1⟩
    subst w1
    go_wp2
    go_ret
    exact ⟨rfl, by simp⟩
  · have HG2 := hide (unhide HG rfl)
    have HC2 := hide (unhide HC rfl)
    clear HG HC
    go_enter Try.func37, Try.ntmps37
    go_wp2_with fail
    refine (unhide HA).mono ?_
    rintro e w1 ⟨rfl, hw1⟩
    subst w1
    go_wp2_with fail
    refine (unhide HH).mono ?_
    rintro e w1 ⟨rfl, hw1⟩
    subst w1
    go_wp2_with fail
    refine (unhide HG2).mono ?_
    rintro e w1 ⟨rfl, hw1⟩
    have HW := hide hw1
    clear hw1
    by_cases hR : 0 < R
    · by_cases hx : x < 0
      · have HC3 := hide (unhide HC2 hR hx w1 (unhide HW))
        clear HC2
        go_wp2_with fail
        refine (unhide HC3).mono ?_
        rintro e w2 ⟨rfl, hw2⟩
        have HW2 := hide hw2
        clear hw2
        go_wp2
        go_ret
        exact ⟨rfl, by simpa using unhide HW2⟩
      · have HN2 := hide (unhide HN (fun h => hx h.2) w1 (unhide HW))
        go_wp2
        go_ret
        exact ⟨rfl, by simpa using unhide HN2⟩
    · have HN2 := hide (unhide HN (fun h => hR h.1) w1 (unhide HW))
      go_wp2
      go_ret
      exact ⟨rfl, by simpa using unhide HN2⟩
set_option maxRecDepth 100000 in
set_option maxHeartbeats 2000000 in
theorem put37_zero (k x : Int) (w : World) (sb : Nat) :
    Calls Try.prog 37 #[.pointer (some ⟨sb, 0, none⟩), .int .i64 0, .int .i64 k, .int .i64 x] w fun e w' => e = .returned (.bool false) ∧ w' = w := by
  have HA := hide (at49_none sb w)
  go_enter Try.func37, Try.ntmps37
  go_wp2_with fail
  refine (unhide HA).mono ?_
  rintro e w1 ⟨rfl, hw1⟩
  subst w1
  go_wp2
  go_ret
  exact ⟨rfl, rfl⟩
/-- A thing's place, its sizes, in memory. -/
theorem Cl.thing {c : Cf} {w : World} {s : St} (h : Cl c w s) (d : Tb) {j : Nat} {t : Tp} (hj : (s.l d)[j]? = some t) : ∃ g cap cur, s.v d = .slice (some ⟨g, 0, none⟩) (s.l d).length cap ∧ w.heap[g]? = some (.cells cur 96 (0, 0)) ∧ (∀ i, i < 9 → cur[j * 9 + i]? = t.cells[i]?) ∧ ∀ i v, i < 9 → t.cells[i]? = some v → w.cell? ⟨g, j * 9 + i, none⟩ = some v := by
  obtain ⟨g, cap, cur, h1, h2, h3, h4, h5, h6⟩ := h.tabv d (List.getElem?_eq_some_iff.1 hj).1
  have ha := fun i hi => h.at_ d hj h3 h6 (cap := cap) i hi
  refine ⟨g, cap, cur, h1, h3, ha, fun i v hi hv => ?_⟩
  rw [cell_of_row w g _ _ 96 (0, 0) h3, ha i hi]; exact hv
/-- Get of a thing. -/
theorem get40_any {c : Cf} {w : World} {s : St} (h : Cl c w s) (d : Tb) (hd : d = .o ∨ d = .y) {j : Nat} {t : Tp} (hj : (s.l d)[j]? = some t) {r : Int} (hF : s.F r = some t) (hn : (s.l d).length ≤ 1073741824) (hl : t.r.xs.length ≤ 1073741824) (k : Int) :
    Calls Try.prog 40 #[.pointer (some ⟨c.sb, 0, none⟩), .int .i64 (refOf d j), .int .i64 k] w fun e w' => e = .returned (.tuple #[.int .i64 (if inB k t.r.xs.length = true then t.r.xs.getD k.toNat 0 else 0), .bool (inB k t.r.xs.length)]) ∧ w' = w := by
  obtain ⟨g, cap, cur, h1, h2, h3, h4⟩ := h.thing d hj
  refine get40_walk (refOf d j) k _ _ w (g := g) (o := j * 9) (hide (at49_any h d hd (List.getElem?_eq_some_iff.1 hj).1 hn h1)) (hide (has53_any k w (h4 0 _ (by omega) rfl))) (hide (fun hk => ?_))
  obtain ⟨i, rfl, hi⟩ := inB_nat hk
  exact get56_any i w t.r (h.has (.row r) t hF).1 hi hl (h4 1 _ (by omega) rfl) (h4 2 _ (by omega) rfl)
/-- Word of a thing. -/
theorem word36_any {c : Cf} {w : World} {s : St} (h : Cl c w s) (d : Tb) (hd : d = .o ∨ d = .y) {j : Nat} {t : Tp} (hj : (s.l d)[j]? = some t) {r : Int} (hF : s.F r = some t) (hn : (s.l d).length ≤ 1073741824) (hl : t.q.xs.length ≤ 1073741824) (hp : ∀ x ∈ t.q.xs, 0 ≤ x) (k : Int) :
    Calls Try.prog 36 #[.pointer (some ⟨c.sb, 0, none⟩), .int .i64 (refOf d j), .int .i64 k] w fun e w' => e = .returned (.tuple #[.int .u64 (if inB k t.q.xs.length = true then t.q.xs.getD k.toNat 0 else 0), .bool (inB k t.q.xs.length)]) ∧ w' = w := by
  obtain ⟨g, cap, cur, h1, h2, h3, h4⟩ := h.thing d hj
  refine word36_walk (refOf d j) k _ _ w (g := g) (o := j * 9) (hide (at49_any h d hd (List.getElem?_eq_some_iff.1 hj).1 hn h1)) (hide (has50_any k w (h4 3 _ (by omega) rfl))) (hide (fun hk => ?_))
  obtain ⟨i, rfl, hi⟩ := inB_nat hk
  exact get52_any i w t.q (h.has (.row r) t hF).2.1 hi hl hp (h4 4 _ (by omega) rfl) (h4 5 _ (by omega) rfl)
/-- Set of a thing. -/
theorem set35_any {c : Cf} {w : World} {s : St} (h : Cl c w s) (d : Tb) (hd : d = .o ∨ d = .y) {j : Nat} {t : Tp} (hj : (s.l d)[j]? = some t) {r : Int} (hF : s.F r = some t) (hn : (s.l d).length ≤ 1073741824) (hl : t.q.xs.length ≤ 1073741824) (k x : Int) :
    Calls Try.prog 35 #[.pointer (some ⟨c.sb, 0, none⟩), .int .i64 (refOf d j), .int .i64 k, .int .u64 x] w fun e w' => e = .returned (.bool (inB k t.q.xs.length)) ∧ (if inB k t.q.xs.length = true then ∃ q', q'.xs = t.q.xs.set k.toNat x ∧ (∀ b ∈ q'.own, b ∈ t.q.own ∨ w.heap.size ≤ b) ∧ Fr (ob (s.v d) ++ t.own) w w' ∧ Cl c w' (s.put d j r ⟨t.r, q', t.mv⟩) else w' = w) := by
  obtain ⟨g, cap, cur, h1, h2, h3, h4⟩ := h.thing d hj
  refine set35_walk (refOf d j) k x _ w (g := g) (o := j * 9) (hide (at49_any h d hd (List.getElem?_eq_some_iff.1 hj).1 hn h1)) (hide (has50_any k w (h4 3 _ (by omega) rfl))) (hide (fun hk => ?_))
  obtain ⟨i, rfl, hi⟩ := inB_nat hk
  have hg := h.gno hF h1
  refine (set51_any i x w t.q (h.has (.row r) t hF).2.1 hi hl h2 (fun e => hg (List.mem_append_right _ e)) (by rw [h3 3 (by omega)]; rfl) (by rw [h3 4 (by omega)]; rfl) (by rw [h3 5 (by omega)]; rfl)).mono ?_
  rintro e w' ⟨rfl, q', ho⟩
  refine ⟨rfl, q', ho.xs, ho.new, ho.fr.mono (fun b hb => ?_), h.setWord hj hF h1 h2 ho⟩
  rcases List.mem_cons.1 hb with e | e
  · rw [e, h1]; simp [ob, Value.ownBlock]
  · exact List.mem_append_right _ (List.mem_append_right _ e)
/-- Put of a thing. -/
theorem put37_any {c : Cf} {w : World} {s : St} (h : Cl c w s) (d : Tb) (hd : d = .o ∨ d = .y) {j : Nat} {t : Tp} (hj : (s.l d)[j]? = some t) {r : Int} (hF : s.F r = some t) (hn : (s.l d).length ≤ 1073741824) (hl : t.r.xs.length ≤ 1073741824) (k x : Int) :
    Calls Try.prog 37 #[.pointer (some ⟨c.sb, 0, none⟩), .int .i64 (refOf d j), .int .i64 k, .int .i64 x] w fun e w' => e = .returned (.bool (inB k t.r.xs.length)) ∧ (if inB k t.r.xs.length = true then ∃ r' cv', r'.xs = t.r.xs.set k.toNat x ∧ (∀ b ∈ r'.own, b ∈ t.r.own ∨ w.heap.size ≤ b) ∧ (∀ b ∈ mblk cv', b ∈ mblk s.cv ∨ w.heap.size ≤ b) ∧ Fr (c.sb :: (mblk s.cv ++ (ob (s.v d) ++ t.own))) w w' ∧ Cl c w' { s.put d j r ⟨r', t.q, t.mv⟩ with cv := cv', C := if 0 < refOf d j ∧ x < 0 then addC s.C (refOf d j, k.toNat) else s.C } else w' = w) := by
  obtain ⟨g, cap, cur, h1, h2, h3, h4⟩ := h.thing d hj
  refine put37_walk (refOf d j) k x _ w (g := g) (o := j * 9) (Q := fun w' => ∃ r', r'.xs = t.r.xs.set k.toNat x ∧ (∀ b ∈ r'.own, b ∈ t.r.own ∨ w.heap.size ≤ b) ∧ Fr (ob (s.v d) ++ t.own) w w' ∧ Cl c w' (s.put d j r ⟨r', t.q, t.mv⟩)) (hide (at49_any h d hd (List.getElem?_eq_some_iff.1 hj).1 hn h1)) (hide (has53_any k w (h4 0 _ (by omega) rfl))) (hide (fun hk => ?_)) (hide (fun hk hR hx w1 hQ => ?_)) (hide (fun hno w1 hQ => ?_))
  · obtain ⟨i, rfl, hi⟩ := inB_nat hk
    have hg := h.gno hF h1
    refine (set54_any i x w t.r (h.has (.row r) t hF).1 hi hl h2 (fun e => hg (List.mem_append_left _ e)) (by have h0 := h3 0 (by omega); rw [Nat.add_zero] at h0; rw [h0]; rfl) (by rw [h3 1 (by omega)]; rfl) (by rw [h3 2 (by omega)]; rfl)).mono ?_
    rintro e w' ⟨rfl, r', ho⟩
    refine ⟨rfl, r', ho.xs, ho.new, ho.fr.mono (fun b hb => ?_), h.setRef hj hF h1 h2 ho⟩
    rcases List.mem_cons.1 hb with e | e
    · rw [e, h1]; simp [ob, Value.ownBlock]
    · exact List.mem_append_right _ (List.mem_append_left _ e)
  · obtain ⟨r', hx', hnw, hfr, hC⟩ := hQ
    obtain ⟨i, rfl, hi⟩ := inB_nat hk
    refine (cross_any hC (refOf d j) i).mono ?_
    rintro e w' ⟨rfl, cv', hf2, hcn, hC2⟩
    refine ⟨rfl, r', cv', hx', hnw, fun b hb => (hcn b hb).imp id (fun h => Nat.le_trans hfr.size h), (hfr.mono (fun b hb => List.mem_cons_of_mem _ (List.mem_append_right _ hb))).trans (hf2.mono (fun b hb => ?_)), ?_⟩
    · rcases List.mem_cons.1 hb with e | e
      · rw [e]; exact List.mem_cons_self ..
      · exact List.mem_cons_of_mem _ (List.mem_append_left _ e)
    · rw [if_pos ⟨hR, hx⟩]; exact hC2
  · obtain ⟨r', hx', hnw, hfr, hC⟩ := hQ
    refine ⟨r', s.cv, hx', hnw, fun b hb => .inl hb, hfr.mono (fun b hb => List.mem_cons_of_mem _ (List.mem_append_right _ hb)), ?_⟩
    rw [if_neg hno]; exact hC
end Rs
end Go.Proofs.Ytaapakpanbfmlaa
