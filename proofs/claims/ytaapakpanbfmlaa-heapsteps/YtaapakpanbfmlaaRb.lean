/-
  The reference's space: Copy, Same; how many references and words what is at a place has.
-/
import Derived.Test.YtaapakpanbfmlaaRa
import Derived.Deep.QuietTactic
namespace Go.Proofs.Ytaapakpanbfmlaa
namespace Rs
open Go.RowKit Hp
set_option linter.unusedVariables false
set_option linter.unusedSimpArgs false
theorem Sp.drew {w : World} {B sb rb lim us : Nat} {lv : Value} {L : List Tv} {ro : List Nat} (h : Sp w B sb rb lv L ro lim us) : Sp w.drew B sb rb lv L ro lim us := ⟨h.b, h.r, h.rl, h.l, h.t, h.apart⟩
theorem Sp.drewN {w : World} {B sb rb lim us : Nat} {lv : Value} {L : List Tv} {ro : List Nat} (h : Sp w B sb rb lv L ro lim us) (n : Nat) : Sp (w.drewN n) B sb rb lv L ro lim us := ⟨h.b, h.r, h.rl, h.l, h.t, h.apart⟩
theorem Fr.drewN {F : List Nat} {w w' : World} (h : Fr F w w') (n : Nat) : Fr F w (w'.drewN n) := ⟨h.os, h.tape, h.output, h.size, h.block⟩
set_option maxRecDepth 100000 in
set_option maxHeartbeats 2000000 in
theorem rcopy_any (k j : Int) (w : World) {B sb rb lim us : Nat} {lv : Value} {L : List Tv} {ro : List Nat} (h : Sp w B sb rb lv L ro lim us) :
    Calls Try.prog 19 #[.pointer (some ⟨sb, 0, none⟩), .int .i64 k, .int .i64 j] w fun e w' => e = .returned (.int .i64 (if (at16 k && at16 j) = true then 0 else 7)) ∧ Fr [rb] w w' ∧ Sp w' B sb rb lv L (if (at16 k && at16 j) = true then ro.set k.toNat (ro.getD j.toNat 0) else ro) lim us := by
  have HA := hide (at_any k w)
  have HJ := hide (at_any j w)
  generalize hk : at16 k = bk at *
  generalize hj : at16 j = bj at *
  cases bk
  · have HS := hide h
    clear h hk hj
    go_enter Try.func19, Try.ntmps19
    go_wp2_with fail
    refine (unhide HA).mono ?_
    rintro e w1 ⟨rfl, hw1⟩
    subst w1
    go_wp2
    go_ret
    exact ⟨rfl, Fr.refl _ _, unhide HS⟩
  cases bj
  · have HS := hide h
    clear h hk hj
    go_enter Try.func19, Try.ntmps19
    go_wp2_with fail
    refine (unhide HA).mono ?_
    rintro e w1 ⟨rfl, hw1⟩
    subst w1
    go_wp2_with fail
    refine (unhide HJ).mono ?_
    rintro e w1 ⟨rfl, hw1⟩
    subst w1
    go_wp2
    go_ret
    exact ⟨rfl, Fr.refl _ _, unhide HS⟩
  obtain ⟨n, rfl, hn⟩ := at16_nat hk
  obtain ⟨m, rfl, hm⟩ := at16_nat hj
  have c1 := h.rootsv
  have c2 := h.cell m hm
  have c3 := h.cell n hn
  have c4 := h.rfrozen n
  have hni : (n : Int) < 16 := by omega
  have hmi : (m : Int) < 16 := by omega
  have HS := hide ((h.drew).setRoot n (ro.getD m 0))
  have HF := hide ((Fr.refl [rb] w).drew.set (b := rb) (i := n) (by simp) (.int .i64 ((ro.getD m 0 : Nat) : Int)))
  have e1 : ((m : Int)).toNat = m := by omega
  have e2 : ((n : Int)).toNat = n := by omega
  rw [e1, e2]
  clear h hk hj e1 e2
  generalize ro.getD m 0 = x at *
  generalize ro.getD n 0 = y at *
  go_enter Try.func19, Try.ntmps19
  go_wp2_with fail
  refine (unhide HA).mono ?_
  rintro e w1 ⟨rfl, hw1⟩
  subst w1
  go_wp2_with fail
  refine (unhide HJ).mono ?_
  rintro e w1 ⟨rfl, hw1⟩
  subst w1
  go_wp2_with fail
  go_region
  all_goals
    go_wp2
    go_ret
    exact ⟨rfl, unhide HF, unhide HS⟩
set_option maxRecDepth 100000 in
set_option maxHeartbeats 2000000 in
theorem rsame_any (k j : Int) (w : World) {B sb rb lim us : Nat} {lv : Value} {L : List Tv} {ro : List Nat} (h : Sp w B sb rb lv L ro lim us) :
    Calls Try.prog 27 #[.pointer (some ⟨sb, 0, none⟩), .int .i64 k, .int .i64 j] w fun e w' => e = .returned (.tuple #[.bool (at16 k && at16 j && decide (ro.getD k.toNat 0 = ro.getD j.toNat 0)), .int .i64 (if (at16 k && at16 j) = true then 0 else 7)]) ∧ Fr [] w w' ∧ Sp w' B sb rb lv L ro lim us := by
  have HA := hide (at_any k w)
  have HJ := hide (at_any j w)
  generalize hk : at16 k = bk at *
  generalize hj : at16 j = bj at *
  cases bk
  · have HS := hide h
    clear h hk hj
    go_enter Try.func27, Try.ntmps27
    go_wp2_with fail
    refine (unhide HA).mono ?_
    rintro e w1 ⟨rfl, hw1⟩
    subst w1
    go_wp2
    go_ret2
    exact ⟨rfl, Fr.refl _ _, unhide HS⟩
  cases bj
  · have HS := hide h
    clear h hk hj
    go_enter Try.func27, Try.ntmps27
    go_wp2_with fail
    refine (unhide HA).mono ?_
    rintro e w1 ⟨rfl, hw1⟩
    subst w1
    go_wp2_with fail
    refine (unhide HJ).mono ?_
    rintro e w1 ⟨rfl, hw1⟩
    subst w1
    go_wp2
    go_ret2
    exact ⟨rfl, Fr.refl _ _, unhide HS⟩
  obtain ⟨n, rfl, hn⟩ := at16_nat hk
  obtain ⟨m, rfl, hm⟩ := at16_nat hj
  have c1 := h.rootsv
  have c2 := h.cell m hm
  have c3 := h.cell n hn
  have hni : (n : Int) < 16 := by omega
  have hmi : (m : Int) < 16 := by omega
  have HS := hide h
  have e1 : ((m : Int)).toNat = m := by omega
  have e2 : ((n : Int)).toNat = n := by omega
  rw [e1, e2, Bool.true_and, Bool.true_and]
  clear h hk hj e1 e2
  have hb : (((ro.getD n 0 : Nat) : Int) == ((ro.getD m 0 : Nat) : Int)) = decide (ro.getD n 0 = ro.getD m 0) := by rw [Bool.eq_iff_iff]; simp; omega
  generalize decide (ro.getD n 0 = ro.getD m 0) = bb at *
  generalize ro.getD m 0 = x at *
  generalize ro.getD n 0 = y at *
  go_enter Try.func27, Try.ntmps27
  go_wp2_with fail
  refine (unhide HA).mono ?_
  rintro e w1 ⟨rfl, hw1⟩
  subst w1
  go_wp2_with fail
  refine (unhide HJ).mono ?_
  rintro e w1 ⟨rfl, hw1⟩
  subst w1
  go_wp2_with fail
  go_quiet (fail)
  go_wp2
  go_ret2
  exact ⟨rfl, (Fr.refl _ _).drewN _, (unhide HS).drewN _⟩
/-- The cells of a thing. -/
theorem flat3 (L : List Tv) (k i : Nat) (hk : k < L.length) (hi : i < 3) : (L.flatMap Tv.cells)[k * 3 + i]? = (L[k].cells)[i]? := by
  induction L generalizing k with
  | nil => simp at hk
  | cons x l ih =>
    cases k with
    | zero => rw [List.flatMap_cons, Nat.zero_mul, Nat.zero_add, List.getElem?_append_left (by rw [Tv.len]; exact hi)]; rfl
    | succ k =>
      rw [List.flatMap_cons, List.getElem?_append_right (by rw [Tv.len]; omega), Tv.len, show (k + 1) * 3 + i - 3 = k * 3 + i by omega]
      exact ih k (by simpa using hk)
theorem Sp.thing {w : World} {B sb rb lim us : Nat} {lv : Value} {L : List Tv} {ro : List Nat} (h : Sp w B sb rb lv L ro lim us) (j : Nat) (hj : j < L.length) :
    ∃ g cap, lv = .slice (some ⟨g, 0, none⟩) L.length cap ∧ w.cell? ⟨g, j * 3, none⟩ = some (L[j]).rv ∧ w.cell? ⟨g, j * 3 + 1, none⟩ = some (L[j]).wv ∧ w.cell? ⟨g, j * 3 + 2, none⟩ = some (.bool (L[j]).gone) := by
  have hl := h.l
  rcases h.l.2 with ⟨_, h0⟩ | ⟨g, cap, cur, rfl, _⟩
  · omega
  · refine ⟨g, cap, rfl, ?_, ?_, ?_⟩
    · have := hl.cells (g := g) rfl (j * 3) _ (by rw [show j * 3 = j * 3 + 0 from rfl, flat3 L j 0 hj (by omega)]; rfl)
      rw [Addr.add_lit, Nat.zero_add] at this
      exact this
    · have := hl.cells (g := g) rfl (j * 3 + 1) _ (by rw [flat3 L j 1 hj (by omega)]; rfl)
      rw [Addr.add_lit, Nat.zero_add] at this
      exact this
    · have := hl.cells (g := g) rfl (j * 3 + 2) _ (by rw [flat3 L j 2 hj (by omega)]; rfl)
      rw [Addr.add_lit, Nat.zero_add] at this
      exact this
theorem Sp.lv0 {w : World} {B sb rb lim us : Nat} {lv : Value} {L : List Tv} {ro : List Nat} (h : Sp w B sb rb lv L ro lim us) : w.cell? ⟨sb, 0, none⟩ = some lv := by
  rw [cell_of_row w sb 0 _ 67 (0, 0) h.b]; rfl
theorem RowN.slice {k : IntKind} {ty : TypeId} {w : World} {v : Value} {xs : List Nat} (h : RowN k ty w v xs) : ∃ ad, v = .slice ad xs.length xs.length := by
  rcases h with ⟨h, rfl⟩ | ⟨g, h, _⟩
  · exact ⟨none, h⟩
  · exact ⟨_, h⟩
/-- How many references what is at a place has. -/
def nrefs (L : List Tv) (ro : List Nat) (k : Int) : Nat := if at16 k = true then (if ro.getD k.toNat 0 = 0 then 0 else ((L[ro.getD k.toNat 0]?).map fun x => x.t.refs.length).getD 0) else 0
def nwords (L : List Tv) (ro : List Nat) (k : Int) : Nat := if at16 k = true then (if ro.getD k.toNat 0 = 0 then 0 else ((L[ro.getD k.toNat 0]?).map fun x => x.t.words.length).getD 0) else 0
set_option maxRecDepth 100000 in
set_option maxHeartbeats 2000000 in
theorem rrefs_any (k : Int) (w : World) {B sb rb lim us : Nat} {lv : Value} {L : List Tv} {ro : List Nat} (h : Sp w B sb rb lv L ro lim us) (hro : ∀ x ∈ ro, x < L.length) :
    Calls Try.prog 39 #[.pointer (some ⟨sb, 0, none⟩), .int .i64 k] w fun e w' => e = .returned (.int .i64 (nrefs L ro k : Nat)) ∧ ∃ n, w' = w.drewN n := by
  have HA := hide (at_any k w)
  generalize hr : nrefs L ro k = r
  unfold nrefs at hr
  generalize hk : at16 k = bk at *
  cases bk
  · simp only [Bool.false_eq_true, reduceIte] at hr
    subst hr
    clear h hk
    go_enter Try.func39, Try.ntmps39
    go_wp2_with fail
    refine (unhide HA).mono ?_
    rintro e w1 ⟨rfl, hw1⟩
    subst w1
    go_wp2
    go_ret
    exact ⟨rfl, 0, rfl⟩
  obtain ⟨n, rfl, hn⟩ := at16_nat hk
  simp only [reduceIte, Int.toNat_natCast] at hr
  have c1 := h.rootsv
  have c2 := h.lv0
  have c3 := h.cell n hn
  have hni : (n : Int) < 16 := by omega
  have hxl : ro.getD n 0 < L.length := by
    have hnr : n < ro.length := by rw [h.rl]; exact hn
    have : ro.getD n 0 = ro[n] := by simp [List.getD_eq_getElem?_getD, hnr]
    rw [this]; exact hro _ (List.getElem_mem hnr)
  have nz : (((ro.getD n 0 : Nat) : Int) == 0) = decide (ro.getD n 0 = 0) := by rw [Bool.eq_iff_iff]; simp
  generalize ro.getD n 0 = x at *
  by_cases hx : x = 0
  · rw [if_pos hx] at hr
    rw [decide_eq_true hx] at nz
    subst hr
    clear h hk hx
    go_enter Try.func39, Try.ntmps39
    go_wp2_with fail
    refine (unhide HA).mono ?_
    rintro e w1 ⟨rfl, hw1⟩
    subst w1
    go_wp2
    go_ret
    exact ⟨rfl, 0, rfl⟩
  · rw [if_neg hx, List.getElem?_eq_getElem hxl] at hr
    rw [decide_eq_false hx] at nz
    have hr : (L[x]).t.refs.length = r := hr
    obtain ⟨g, cap, rfl, d0, d1, d2⟩ := h.thing x hxl
    obtain ⟨ad, hv⟩ := (h.t _ (List.getElem_mem hxl)).1.slice
    rw [hv] at d0
    rw [hr] at d0
    have hxi : (x : Int) < (L.length : Int) := by omega
    generalize (L[x]).rv = q0 at *
    generalize (L[x]).wv = q1 at *
    clear h hk hx hv hr
    go_enter Try.func39, Try.ntmps39
    go_wp2_with fail
    refine (unhide HA).mono ?_
    rintro e w1 ⟨rfl, hw1⟩
    subst w1
    go_wp2_with fail
    go_quiet (fail)
    go_wp2
    go_ret
    exact ⟨rfl, _, rfl⟩
set_option maxRecDepth 100000 in
set_option maxHeartbeats 2000000 in
theorem rwords_any (k : Int) (w : World) {B sb rb lim us : Nat} {lv : Value} {L : List Tv} {ro : List Nat} (h : Sp w B sb rb lv L ro lim us) (hro : ∀ x ∈ ro, x < L.length) :
    Calls Try.prog 41 #[.pointer (some ⟨sb, 0, none⟩), .int .i64 k] w fun e w' => e = .returned (.int .i64 (nwords L ro k : Nat)) ∧ ∃ n, w' = w.drewN n := by
  have HA := hide (at_any k w)
  generalize hr : nwords L ro k = r
  unfold nwords at hr
  generalize hk : at16 k = bk at *
  cases bk
  · simp only [Bool.false_eq_true, reduceIte] at hr
    subst hr
    clear h hk
    go_enter Try.func41, Try.ntmps41
    go_wp2_with fail
    refine (unhide HA).mono ?_
    rintro e w1 ⟨rfl, hw1⟩
    subst w1
    go_wp2
    go_ret
    exact ⟨rfl, 0, rfl⟩
  obtain ⟨n, rfl, hn⟩ := at16_nat hk
  simp only [reduceIte, Int.toNat_natCast] at hr
  have c1 := h.rootsv
  have c2 := h.lv0
  have c3 := h.cell n hn
  have hni : (n : Int) < 16 := by omega
  have hxl : ro.getD n 0 < L.length := by
    have hnr : n < ro.length := by rw [h.rl]; exact hn
    have : ro.getD n 0 = ro[n] := by simp [List.getD_eq_getElem?_getD, hnr]
    rw [this]; exact hro _ (List.getElem_mem hnr)
  have nz : (((ro.getD n 0 : Nat) : Int) == 0) = decide (ro.getD n 0 = 0) := by rw [Bool.eq_iff_iff]; simp
  generalize ro.getD n 0 = x at *
  by_cases hx : x = 0
  · rw [if_pos hx] at hr
    rw [decide_eq_true hx] at nz
    subst hr
    clear h hk hx
    go_enter Try.func41, Try.ntmps41
    go_wp2_with fail
    refine (unhide HA).mono ?_
    rintro e w1 ⟨rfl, hw1⟩
    subst w1
    go_wp2
    go_ret
    exact ⟨rfl, 0, rfl⟩
  · rw [if_neg hx, List.getElem?_eq_getElem hxl] at hr
    rw [decide_eq_false hx] at nz
    have hr : (L[x]).t.words.length = r := hr
    obtain ⟨g, cap, rfl, d0, d1, d2⟩ := h.thing x hxl
    obtain ⟨ad, hv⟩ := (h.t _ (List.getElem_mem hxl)).2.slice
    rw [hv] at d1
    rw [hr] at d1
    have hxi : (x : Int) < (L.length : Int) := by omega
    generalize (L[x]).rv = q0 at *
    generalize (L[x]).wv = q1 at *
    clear h hk hx hv hr
    go_enter Try.func41, Try.ntmps41
    go_wp2_with fail
    refine (unhide HA).mono ?_
    rintro e w1 ⟨rfl, hw1⟩
    subst w1
    go_wp2_with fail
    go_quiet (fail)
    go_wp2
    go_ret
    exact ⟨rfl, _, rfl⟩
end Rs
end Go.Proofs.Ytaapakpanbfmlaa
