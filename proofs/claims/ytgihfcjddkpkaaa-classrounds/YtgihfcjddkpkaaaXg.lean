/-
  Package class: what is written: an attribute, whatever is in it.
-/
import Derived.Test.YtgihfcjddkpkaaaMgXf
import Derived.Test.YtgihfcjddkpkaaaMgXb
namespace Go.Proofs.Ytgihfcjddkpkaaa.Cl
set_option linter.unusedVariables false
open Go.RowKit Go.Maps
/-- The writer, and its map of names. -/
structure Wm (B : Nat) (P : List K) (w : World) (W m : Nat) (o : M.Wo) : Prop where
  c : Wc B w W (.map (some m)) o
  map : ∃ (D : DataW Unit) (n : Nat), w.ownsMap Try.prog 9 (plainElem Try.prog 3) m n D ∧ It D P P.length
  ne : m ≠ W
theorem Wm.fx {B W m : Nat} {P : List K} {w w' : World} {o o' : M.Wo} (h : Wm B P w W m o) (hf : Fx B W w w') (hc : Wc B w' W (.map (some m)) o') : Wm B P w' W m o' := by
  obtain ⟨D, n, ⟨es, cl, hb, h1, h2, h3⟩, hI⟩ := h.map
  exact ⟨hc, ⟨D, n, ⟨es, cl, hf.rest m _ hb h.ne (.inr (by intro c fr e; cases e)), h1, h2, h3⟩, hI⟩, h.ne⟩
theorem Wm.alloc {B W m : Nat} {P : List K} {w : World} {o : M.Wo} (h : Wm B P w W m o) (x : Obj) : Wm B P (w.alloc x) W m o := h.fx (Fx.alloc B W w x) (h.c.alloc x)
namespace M
/-- The head of an attribute. -/
def whead (P : List K) (o : Wo) (name : List UInt8) (ln : Int) : Wo :=
  wnums (wnums (if (idxT P name P.length).isSome = true then o else wfail o 8) 2 [1, (((idxT P name P.length).getD 0 : Nat) : Int)]) 4 [ln]
theorem wfail_l (o : Wo) (e : Nat) : (wfail o e).l = o.l := by unfold wfail; split <;> rfl
theorem idxT_lt {P : List K} {name : List UInt8} : ∀ {m k : Nat}, idxT P name m = some k → k < m
  | 0, k, h => by cases h
  | m + 1, k, h => by
    rw [idxT] at h
    cases hq : idxT P name m with
    | some j => rw [hq] at h; cases h; have := idxT_lt hq; omega
    | none =>
      rw [hq] at h
      simp only at h
      split at h
      · cases h; omega
      · cases h
end M
set_option maxHeartbeats 2000000 in
set_option maxRecDepth 100000 in
theorem attributes109_any (B W m : Nat) (P : List K) (o o4 : M.Wo) (name : List UInt8) (ln : Int) (c0 c1 : Value) (w : World) (h : Wm B P w W m o) (hW : W < B) (hP : P.length ≤ 1048576) (hnm : name.length ≤ 1000) (hl : o.l.length + 100 ≤ 1000000) (hln : -9223372036854775808 ≤ ln ∧ ln < 9223372036854775808)
    (hdo : ∀ w', Wm B P w' W m (M.whead P o name ln) → Fx B W w w' → Calls Try.prog 109 #[c0, c1] w' fun x w'' => x = .returned (.tuple #[]) ∧ Wm B P w'' W m o4 ∧ Fx B W w' w'') :
    Calls Try.prog 108 #[.pointer (some ⟨W, 0, none⟩), .bool true, .string ⟨name.toArray⟩, .int .i64 ln, .func (Fn.func 109) #[] #[c0, c1]] w fun x w' => x = .returned (.tuple #[]) ∧ Wm B P w' W m o4 ∧ Fx B W w w' := by
  have H := hide h
  have HD := hide hdo
  obtain ⟨v, hb, _⟩ := h.c.ex
  have k1 : w.cell? ⟨W, 1, none⟩ = some (.map (some m)) := hb.cell 1
  obtain ⟨D, n, hown, hI⟩ := h.map
  have hkey := key_of name (by unfold maxLen; omega)
  have Hkey := hide hkey
  have hhas := hI.has name
  have Hat := hide (fun k (hk : M.idxT P name P.length = some k) => hI.at_ name k hk)
  obtain ⟨q, hq⟩ : ∃ q, q = (if (M.idxT P name P.length).isSome = true then o else M.wfail o 8) := ⟨_, rfl⟩
  obtain ⟨ix, hix⟩ : ∃ ix, ix = (M.idxT P name P.length).getD 0 := ⟨_, rfl⟩
  have hixl : ix ≤ 1048576 := by
    rw [hix]
    cases hc : M.idxT P name P.length with
    | none => simp
    | some k => have := M.idxT_lt hc; simp; omega
  have hql : q.l = o.l := by
    rw [hq]; split
    · rfl
    · exact M.wfail_l _ _
  have hwh : M.whead P o name ln = M.wnums (M.wnums q 2 [1, (ix : Int)]) 4 [ln] := by unfold M.whead; rw [← hq, ← hix]
  rw [hwh] at HD
  have Hq := hide hq
  have Hix := hide hix
  clear h hdo hb hkey hI hq hix hwh
  obtain ⟨x0, hx0⟩ : ∃ x : Option Nat, x = M.idxT P name P.length := ⟨_, rfl⟩
  have Hx0 := hide hx0
  clear hx0
  cases x0 with
  | some k =>
    have hkx : M.idxT P name P.length = some k := (unhide Hx0).symm
    have hqo : q = o := by rw [unhide Hq, hkx]; rfl
    have hik : ix = k := by rw [unhide Hix, hkx]; rfl
    have hat := (unhide Hat) k hkx
    rw [hkx] at hhas
    have Hhas : Hid (Go.Maps.has D (Lit.string name) = true) := hide (by rw [hhas]; rfl)
    have Hat2 := hide hat
    subst hqo
    subst hik
    clear Hat Hx0 hkx hhas hat Hq Hix
    have HN := hide (numbers2_any B W w.heap.size 2 (.map (some m)) q [1, (ix : Int)] (w.alloc (.cells #[.int .i64 1, .int .i64 (ix : Int)] 3)) ((unhide H).c.alloc _) hW (by simp; omega) (by intro x hx; simp at hx; rcases hx with rfl | rfl <;> omega) (by have := (unhide H).c.lt; omega) (by have := heap_alloc_new w (.cells #[.int .i64 1, .int .i64 (ix : Int)] 3); simpa using this))
    have HF := hide (Fx.alloc B W w (.cells #[.int .i64 1, .int .i64 (ix : Int)] 3))
    go_enter Try.func108, Try.ntmps108
    go_wp2_with (at_lookup; refine wpList_lookup_own_ok_int _ rfl _ _ 109 rfl 9 3 .i64 law9 Try.underlying109 Try.underlying3 (zero3 _) m n D rfl hown _ (.string name) rfl (unhide Hkey) ?_; intro c hc _; rw [unhide Hhas]; obtain rfl : c = (ix : Int) := (by rw [unhide Hat2] at hc; cases hc; rfl))
    refine (unhide HN).mono ?_
    rintro e w2 ⟨rfl, h2, f2⟩
    have H2 := hide ((unhide H).fx ((unhide HF).trans f2) h2)
    have F2 := hide ((unhide HF).trans f2)
    clear HN HF h2 f2 H
    have HN := hide (numbers4_any B W w2.heap.size 1 (.map (some m)) (M.wnums q 2 [1, (ix : Int)]) [ln] (w2.alloc (.cells #[.int .i64 ln] 3)) ((unhide H2).c.alloc _) hW (by rw [M.wnums_len]; simp; omega) (by intro x hx; simp at hx; subst hx; exact hln) (by have := (unhide H2).c.lt; omega) (by have := heap_alloc_new w2 (.cells #[.int .i64 ln] 3); simpa using this))
    have HF := hide (Fx.alloc B W w2 (.cells #[.int .i64 ln] 3))
    go_wp2_with fail
    refine (unhide HN).mono ?_
    rintro e w3 ⟨rfl, h3, f3⟩
    have H3 := hide ((unhide H2).fx ((unhide HF).trans f3) h3)
    have F3 := hide ((unhide F2).trans ((unhide HF).trans f3))
    clear HN HF h3 f3 H2 F2
    have HC := hide ((unhide HD) w3 (unhide H3) (unhide F3))
    clear HD
    go_wp2_with fail
    refine (unhide HC).mono ?_
    rintro e w4 ⟨rfl, h4, f4⟩
    have H4 := hide h4
    have F4 := hide ((unhide F3).trans f4)
    clear HC h4 f4 H3 F3
    go_wp2
    go_end0
    exact ⟨rfl, unhide H4, unhide F4⟩
  | none =>
    have hkx : M.idxT P name P.length = none := (unhide Hx0).symm
    have hqo : q = M.wfail o 8 := by rw [unhide Hq, hkx]; rfl
    have hik : ix = 0 := by rw [unhide Hix, hkx]; rfl
    rw [hkx] at hhas
    have Hhas : Hid (Go.Maps.has D (Lit.string name) = false) := hide (by rw [hhas]; rfl)
    have Hat2 := hide (Go.Maps.atKey_of_not_has (unhide Hhas) (DataW.lit (Lit.int IntKind.i64 0)))
    subst hik
    have HFl := hide (wfail_any B W (.map (some m)) o 8 w (unhide H).c)
    clear Hat Hx0 hkx hhas Hq Hix
    go_enter Try.func108, Try.ntmps108
    go_wp2_with (at_lookup; refine wpList_lookup_own_ok_int _ rfl _ _ 109 rfl 9 3 .i64 law9 Try.underlying109 Try.underlying3 (zero3 _) m n D rfl hown _ (.string name) rfl (unhide Hkey) ?_; intro c hc _; rw [unhide Hhas]; obtain rfl : c = ((0 : Nat) : Int) := (by rw [unhide Hat2] at hc; cases hc; rfl))
    refine (unhide HFl).mono ?_
    rintro e w1 ⟨rfl, h1, g1, s1⟩
    rw [← hqo] at h1
    have H1 := hide ((unhide H).fx (Fx.grown g1) h1)
    have F1 := hide (Fx.grown (B := B) g1)
    clear HFl h1 g1 s1 H
    have H := H1
    have HN := hide (numbers2_any B W w1.heap.size 2 (.map (some m)) q [1, ((0 : Nat) : Int)] (w1.alloc (.cells #[.int .i64 1, .int .i64 ((0 : Nat) : Int)] 3)) ((unhide H).c.alloc _) hW (by simp [hql]; omega) (by intro x hx; simp at hx; rcases hx with rfl | rfl <;> omega) (by have := (unhide H).c.lt; omega) (by have := heap_alloc_new w1 (.cells #[.int .i64 1, .int .i64 ((0 : Nat) : Int)] 3); simpa using this))
    have HF := hide (Fx.alloc B W w1 (.cells #[.int .i64 1, .int .i64 ((0 : Nat) : Int)] 3))
    clear H1
    go_wp2_with fail
    refine (unhide HN).mono ?_
    rintro e w2 ⟨rfl, h2, f2⟩
    have H2 := hide ((unhide H).fx ((unhide HF).trans f2) h2)
    have F2 := hide ((unhide F1).trans ((unhide HF).trans f2))
    clear HN HF h2 f2 H
    have HN := hide (numbers4_any B W w2.heap.size 1 (.map (some m)) (M.wnums q 2 [1, ((0 : Nat) : Int)]) [ln] (w2.alloc (.cells #[.int .i64 ln] 3)) ((unhide H2).c.alloc _) hW (by rw [M.wnums_len, hql]; simp; omega) (by intro x hx; simp at hx; subst hx; exact hln) (by have := (unhide H2).c.lt; omega) (by have := heap_alloc_new w2 (.cells #[.int .i64 ln] 3); simpa using this))
    have HF := hide (Fx.alloc B W w2 (.cells #[.int .i64 ln] 3))
    go_wp2_with fail
    refine (unhide HN).mono ?_
    rintro e w3 ⟨rfl, h3, f3⟩
    have H3 := hide ((unhide H2).fx ((unhide HF).trans f3) h3)
    have F3 := hide ((unhide F2).trans ((unhide HF).trans f3))
    clear HN HF h3 f3 H2 F2
    have HC := hide ((unhide HD) w3 (unhide H3) (unhide F3))
    clear HD
    go_wp2_with fail
    refine (unhide HC).mono ?_
    rintro e w4 ⟨rfl, h4, f4⟩
    have H4 := hide h4
    have F4 := hide ((unhide F3).trans f4)
    clear HC h4 f4 H3 F3
    go_wp2
    go_end0
    exact ⟨rfl, unhide H4, unhide F4⟩
set_option maxHeartbeats 2000000 in
set_option maxRecDepth 100000 in
theorem attributes111_any (B W m : Nat) (P : List K) (o o4 : M.Wo) (name : List UInt8) (ln : Int) (c0 c1 : Value) (w : World) (h : Wm B P w W m o) (hW : W < B) (hP : P.length ≤ 1048576) (hnm : name.length ≤ 1000) (hl : o.l.length + 100 ≤ 1000000) (hln : -9223372036854775808 ≤ ln ∧ ln < 9223372036854775808)
    (hdo : ∀ w', Wm B P w' W m (M.whead P o name ln) → Fx B W w w' → Calls Try.prog 111 #[c0, c1] w' fun x w'' => x = .returned (.tuple #[]) ∧ Wm B P w'' W m o4 ∧ Fx B W w' w'') :
    Calls Try.prog 108 #[.pointer (some ⟨W, 0, none⟩), .bool true, .string ⟨name.toArray⟩, .int .i64 ln, .func (Fn.func 111) #[] #[c0, c1]] w fun x w' => x = .returned (.tuple #[]) ∧ Wm B P w' W m o4 ∧ Fx B W w w' := by
  have H := hide h
  have HD := hide hdo
  obtain ⟨v, hb, _⟩ := h.c.ex
  have k1 : w.cell? ⟨W, 1, none⟩ = some (.map (some m)) := hb.cell 1
  obtain ⟨D, n, hown, hI⟩ := h.map
  have hkey := key_of name (by unfold maxLen; omega)
  have Hkey := hide hkey
  have hhas := hI.has name
  have Hat := hide (fun k (hk : M.idxT P name P.length = some k) => hI.at_ name k hk)
  obtain ⟨q, hq⟩ : ∃ q, q = (if (M.idxT P name P.length).isSome = true then o else M.wfail o 8) := ⟨_, rfl⟩
  obtain ⟨ix, hix⟩ : ∃ ix, ix = (M.idxT P name P.length).getD 0 := ⟨_, rfl⟩
  have hixl : ix ≤ 1048576 := by
    rw [hix]
    cases hc : M.idxT P name P.length with
    | none => simp
    | some k => have := M.idxT_lt hc; simp; omega
  have hql : q.l = o.l := by
    rw [hq]; split
    · rfl
    · exact M.wfail_l _ _
  have hwh : M.whead P o name ln = M.wnums (M.wnums q 2 [1, (ix : Int)]) 4 [ln] := by unfold M.whead; rw [← hq, ← hix]
  rw [hwh] at HD
  have Hq := hide hq
  have Hix := hide hix
  clear h hdo hb hkey hI hq hix hwh
  obtain ⟨x0, hx0⟩ : ∃ x : Option Nat, x = M.idxT P name P.length := ⟨_, rfl⟩
  have Hx0 := hide hx0
  clear hx0
  cases x0 with
  | some k =>
    have hkx : M.idxT P name P.length = some k := (unhide Hx0).symm
    have hqo : q = o := by rw [unhide Hq, hkx]; rfl
    have hik : ix = k := by rw [unhide Hix, hkx]; rfl
    have hat := (unhide Hat) k hkx
    rw [hkx] at hhas
    have Hhas : Hid (Go.Maps.has D (Lit.string name) = true) := hide (by rw [hhas]; rfl)
    have Hat2 := hide hat
    subst hqo
    subst hik
    clear Hat Hx0 hkx hhas hat Hq Hix
    have HN := hide (numbers2_any B W w.heap.size 2 (.map (some m)) q [1, (ix : Int)] (w.alloc (.cells #[.int .i64 1, .int .i64 (ix : Int)] 3)) ((unhide H).c.alloc _) hW (by simp; omega) (by intro x hx; simp at hx; rcases hx with rfl | rfl <;> omega) (by have := (unhide H).c.lt; omega) (by have := heap_alloc_new w (.cells #[.int .i64 1, .int .i64 (ix : Int)] 3); simpa using this))
    have HF := hide (Fx.alloc B W w (.cells #[.int .i64 1, .int .i64 (ix : Int)] 3))
    go_enter Try.func108, Try.ntmps108
    go_wp2_with (at_lookup; refine wpList_lookup_own_ok_int _ rfl _ _ 109 rfl 9 3 .i64 law9 Try.underlying109 Try.underlying3 (zero3 _) m n D rfl hown _ (.string name) rfl (unhide Hkey) ?_; intro c hc _; rw [unhide Hhas]; obtain rfl : c = (ix : Int) := (by rw [unhide Hat2] at hc; cases hc; rfl))
    refine (unhide HN).mono ?_
    rintro e w2 ⟨rfl, h2, f2⟩
    have H2 := hide ((unhide H).fx ((unhide HF).trans f2) h2)
    have F2 := hide ((unhide HF).trans f2)
    clear HN HF h2 f2 H
    have HN := hide (numbers4_any B W w2.heap.size 1 (.map (some m)) (M.wnums q 2 [1, (ix : Int)]) [ln] (w2.alloc (.cells #[.int .i64 ln] 3)) ((unhide H2).c.alloc _) hW (by rw [M.wnums_len]; simp; omega) (by intro x hx; simp at hx; subst hx; exact hln) (by have := (unhide H2).c.lt; omega) (by have := heap_alloc_new w2 (.cells #[.int .i64 ln] 3); simpa using this))
    have HF := hide (Fx.alloc B W w2 (.cells #[.int .i64 ln] 3))
    go_wp2_with fail
    refine (unhide HN).mono ?_
    rintro e w3 ⟨rfl, h3, f3⟩
    have H3 := hide ((unhide H2).fx ((unhide HF).trans f3) h3)
    have F3 := hide ((unhide F2).trans ((unhide HF).trans f3))
    clear HN HF h3 f3 H2 F2
    have HC := hide ((unhide HD) w3 (unhide H3) (unhide F3))
    clear HD
    go_wp2_with fail
    refine (unhide HC).mono ?_
    rintro e w4 ⟨rfl, h4, f4⟩
    have H4 := hide h4
    have F4 := hide ((unhide F3).trans f4)
    clear HC h4 f4 H3 F3
    go_wp2
    go_end0
    exact ⟨rfl, unhide H4, unhide F4⟩
  | none =>
    have hkx : M.idxT P name P.length = none := (unhide Hx0).symm
    have hqo : q = M.wfail o 8 := by rw [unhide Hq, hkx]; rfl
    have hik : ix = 0 := by rw [unhide Hix, hkx]; rfl
    rw [hkx] at hhas
    have Hhas : Hid (Go.Maps.has D (Lit.string name) = false) := hide (by rw [hhas]; rfl)
    have Hat2 := hide (Go.Maps.atKey_of_not_has (unhide Hhas) (DataW.lit (Lit.int IntKind.i64 0)))
    subst hik
    have HFl := hide (wfail_any B W (.map (some m)) o 8 w (unhide H).c)
    clear Hat Hx0 hkx hhas Hq Hix
    go_enter Try.func108, Try.ntmps108
    go_wp2_with (at_lookup; refine wpList_lookup_own_ok_int _ rfl _ _ 109 rfl 9 3 .i64 law9 Try.underlying109 Try.underlying3 (zero3 _) m n D rfl hown _ (.string name) rfl (unhide Hkey) ?_; intro c hc _; rw [unhide Hhas]; obtain rfl : c = ((0 : Nat) : Int) := (by rw [unhide Hat2] at hc; cases hc; rfl))
    refine (unhide HFl).mono ?_
    rintro e w1 ⟨rfl, h1, g1, s1⟩
    rw [← hqo] at h1
    have H1 := hide ((unhide H).fx (Fx.grown g1) h1)
    have F1 := hide (Fx.grown (B := B) g1)
    clear HFl h1 g1 s1 H
    have H := H1
    have HN := hide (numbers2_any B W w1.heap.size 2 (.map (some m)) q [1, ((0 : Nat) : Int)] (w1.alloc (.cells #[.int .i64 1, .int .i64 ((0 : Nat) : Int)] 3)) ((unhide H).c.alloc _) hW (by simp [hql]; omega) (by intro x hx; simp at hx; rcases hx with rfl | rfl <;> omega) (by have := (unhide H).c.lt; omega) (by have := heap_alloc_new w1 (.cells #[.int .i64 1, .int .i64 ((0 : Nat) : Int)] 3); simpa using this))
    have HF := hide (Fx.alloc B W w1 (.cells #[.int .i64 1, .int .i64 ((0 : Nat) : Int)] 3))
    clear H1
    go_wp2_with fail
    refine (unhide HN).mono ?_
    rintro e w2 ⟨rfl, h2, f2⟩
    have H2 := hide ((unhide H).fx ((unhide HF).trans f2) h2)
    have F2 := hide ((unhide F1).trans ((unhide HF).trans f2))
    clear HN HF h2 f2 H
    have HN := hide (numbers4_any B W w2.heap.size 1 (.map (some m)) (M.wnums q 2 [1, ((0 : Nat) : Int)]) [ln] (w2.alloc (.cells #[.int .i64 ln] 3)) ((unhide H2).c.alloc _) hW (by rw [M.wnums_len, hql]; simp; omega) (by intro x hx; simp at hx; subst hx; exact hln) (by have := (unhide H2).c.lt; omega) (by have := heap_alloc_new w2 (.cells #[.int .i64 ln] 3); simpa using this))
    have HF := hide (Fx.alloc B W w2 (.cells #[.int .i64 ln] 3))
    go_wp2_with fail
    refine (unhide HN).mono ?_
    rintro e w3 ⟨rfl, h3, f3⟩
    have H3 := hide ((unhide H2).fx ((unhide HF).trans f3) h3)
    have F3 := hide ((unhide F2).trans ((unhide HF).trans f3))
    clear HN HF h3 f3 H2 F2
    have HC := hide ((unhide HD) w3 (unhide H3) (unhide F3))
    clear HD
    go_wp2_with fail
    refine (unhide HC).mono ?_
    rintro e w4 ⟨rfl, h4, f4⟩
    have H4 := hide h4
    have F4 := hide ((unhide F3).trans f4)
    clear HC h4 f4 H3 F3
    go_wp2
    go_end0
    exact ⟨rfl, unhide H4, unhide F4⟩
set_option maxHeartbeats 2000000 in
set_option maxRecDepth 100000 in
theorem attributes122_any (B W m : Nat) (P : List K) (o o4 : M.Wo) (name : List UInt8) (ln : Int) (c0 c1 : Value) (w : World) (h : Wm B P w W m o) (hW : W < B) (hP : P.length ≤ 1048576) (hnm : name.length ≤ 1000) (hl : o.l.length + 100 ≤ 1000000) (hln : -9223372036854775808 ≤ ln ∧ ln < 9223372036854775808)
    (hdo : ∀ w', Wm B P w' W m (M.whead P o name ln) → Fx B W w w' → Calls Try.prog 122 #[c0, c1] w' fun x w'' => x = .returned (.tuple #[]) ∧ Wm B P w'' W m o4 ∧ Fx B W w' w'') :
    Calls Try.prog 108 #[.pointer (some ⟨W, 0, none⟩), .bool true, .string ⟨name.toArray⟩, .int .i64 ln, .func (Fn.func 122) #[] #[c0, c1]] w fun x w' => x = .returned (.tuple #[]) ∧ Wm B P w' W m o4 ∧ Fx B W w w' := by
  have H := hide h
  have HD := hide hdo
  obtain ⟨v, hb, _⟩ := h.c.ex
  have k1 : w.cell? ⟨W, 1, none⟩ = some (.map (some m)) := hb.cell 1
  obtain ⟨D, n, hown, hI⟩ := h.map
  have hkey := key_of name (by unfold maxLen; omega)
  have Hkey := hide hkey
  have hhas := hI.has name
  have Hat := hide (fun k (hk : M.idxT P name P.length = some k) => hI.at_ name k hk)
  obtain ⟨q, hq⟩ : ∃ q, q = (if (M.idxT P name P.length).isSome = true then o else M.wfail o 8) := ⟨_, rfl⟩
  obtain ⟨ix, hix⟩ : ∃ ix, ix = (M.idxT P name P.length).getD 0 := ⟨_, rfl⟩
  have hixl : ix ≤ 1048576 := by
    rw [hix]
    cases hc : M.idxT P name P.length with
    | none => simp
    | some k => have := M.idxT_lt hc; simp; omega
  have hql : q.l = o.l := by
    rw [hq]; split
    · rfl
    · exact M.wfail_l _ _
  have hwh : M.whead P o name ln = M.wnums (M.wnums q 2 [1, (ix : Int)]) 4 [ln] := by unfold M.whead; rw [← hq, ← hix]
  rw [hwh] at HD
  have Hq := hide hq
  have Hix := hide hix
  clear h hdo hb hkey hI hq hix hwh
  obtain ⟨x0, hx0⟩ : ∃ x : Option Nat, x = M.idxT P name P.length := ⟨_, rfl⟩
  have Hx0 := hide hx0
  clear hx0
  cases x0 with
  | some k =>
    have hkx : M.idxT P name P.length = some k := (unhide Hx0).symm
    have hqo : q = o := by rw [unhide Hq, hkx]; rfl
    have hik : ix = k := by rw [unhide Hix, hkx]; rfl
    have hat := (unhide Hat) k hkx
    rw [hkx] at hhas
    have Hhas : Hid (Go.Maps.has D (Lit.string name) = true) := hide (by rw [hhas]; rfl)
    have Hat2 := hide hat
    subst hqo
    subst hik
    clear Hat Hx0 hkx hhas hat Hq Hix
    have HN := hide (numbers2_any B W w.heap.size 2 (.map (some m)) q [1, (ix : Int)] (w.alloc (.cells #[.int .i64 1, .int .i64 (ix : Int)] 3)) ((unhide H).c.alloc _) hW (by simp; omega) (by intro x hx; simp at hx; rcases hx with rfl | rfl <;> omega) (by have := (unhide H).c.lt; omega) (by have := heap_alloc_new w (.cells #[.int .i64 1, .int .i64 (ix : Int)] 3); simpa using this))
    have HF := hide (Fx.alloc B W w (.cells #[.int .i64 1, .int .i64 (ix : Int)] 3))
    go_enter Try.func108, Try.ntmps108
    go_wp2_with (at_lookup; refine wpList_lookup_own_ok_int _ rfl _ _ 109 rfl 9 3 .i64 law9 Try.underlying109 Try.underlying3 (zero3 _) m n D rfl hown _ (.string name) rfl (unhide Hkey) ?_; intro c hc _; rw [unhide Hhas]; obtain rfl : c = (ix : Int) := (by rw [unhide Hat2] at hc; cases hc; rfl))
    refine (unhide HN).mono ?_
    rintro e w2 ⟨rfl, h2, f2⟩
    have H2 := hide ((unhide H).fx ((unhide HF).trans f2) h2)
    have F2 := hide ((unhide HF).trans f2)
    clear HN HF h2 f2 H
    have HN := hide (numbers4_any B W w2.heap.size 1 (.map (some m)) (M.wnums q 2 [1, (ix : Int)]) [ln] (w2.alloc (.cells #[.int .i64 ln] 3)) ((unhide H2).c.alloc _) hW (by rw [M.wnums_len]; simp; omega) (by intro x hx; simp at hx; subst hx; exact hln) (by have := (unhide H2).c.lt; omega) (by have := heap_alloc_new w2 (.cells #[.int .i64 ln] 3); simpa using this))
    have HF := hide (Fx.alloc B W w2 (.cells #[.int .i64 ln] 3))
    go_wp2_with fail
    refine (unhide HN).mono ?_
    rintro e w3 ⟨rfl, h3, f3⟩
    have H3 := hide ((unhide H2).fx ((unhide HF).trans f3) h3)
    have F3 := hide ((unhide F2).trans ((unhide HF).trans f3))
    clear HN HF h3 f3 H2 F2
    have HC := hide ((unhide HD) w3 (unhide H3) (unhide F3))
    clear HD
    go_wp2_with fail
    refine (unhide HC).mono ?_
    rintro e w4 ⟨rfl, h4, f4⟩
    have H4 := hide h4
    have F4 := hide ((unhide F3).trans f4)
    clear HC h4 f4 H3 F3
    go_wp2
    go_end0
    exact ⟨rfl, unhide H4, unhide F4⟩
  | none =>
    have hkx : M.idxT P name P.length = none := (unhide Hx0).symm
    have hqo : q = M.wfail o 8 := by rw [unhide Hq, hkx]; rfl
    have hik : ix = 0 := by rw [unhide Hix, hkx]; rfl
    rw [hkx] at hhas
    have Hhas : Hid (Go.Maps.has D (Lit.string name) = false) := hide (by rw [hhas]; rfl)
    have Hat2 := hide (Go.Maps.atKey_of_not_has (unhide Hhas) (DataW.lit (Lit.int IntKind.i64 0)))
    subst hik
    have HFl := hide (wfail_any B W (.map (some m)) o 8 w (unhide H).c)
    clear Hat Hx0 hkx hhas Hq Hix
    go_enter Try.func108, Try.ntmps108
    go_wp2_with (at_lookup; refine wpList_lookup_own_ok_int _ rfl _ _ 109 rfl 9 3 .i64 law9 Try.underlying109 Try.underlying3 (zero3 _) m n D rfl hown _ (.string name) rfl (unhide Hkey) ?_; intro c hc _; rw [unhide Hhas]; obtain rfl : c = ((0 : Nat) : Int) := (by rw [unhide Hat2] at hc; cases hc; rfl))
    refine (unhide HFl).mono ?_
    rintro e w1 ⟨rfl, h1, g1, s1⟩
    rw [← hqo] at h1
    have H1 := hide ((unhide H).fx (Fx.grown g1) h1)
    have F1 := hide (Fx.grown (B := B) g1)
    clear HFl h1 g1 s1 H
    have H := H1
    have HN := hide (numbers2_any B W w1.heap.size 2 (.map (some m)) q [1, ((0 : Nat) : Int)] (w1.alloc (.cells #[.int .i64 1, .int .i64 ((0 : Nat) : Int)] 3)) ((unhide H).c.alloc _) hW (by simp [hql]; omega) (by intro x hx; simp at hx; rcases hx with rfl | rfl <;> omega) (by have := (unhide H).c.lt; omega) (by have := heap_alloc_new w1 (.cells #[.int .i64 1, .int .i64 ((0 : Nat) : Int)] 3); simpa using this))
    have HF := hide (Fx.alloc B W w1 (.cells #[.int .i64 1, .int .i64 ((0 : Nat) : Int)] 3))
    clear H1
    go_wp2_with fail
    refine (unhide HN).mono ?_
    rintro e w2 ⟨rfl, h2, f2⟩
    have H2 := hide ((unhide H).fx ((unhide HF).trans f2) h2)
    have F2 := hide ((unhide F1).trans ((unhide HF).trans f2))
    clear HN HF h2 f2 H
    have HN := hide (numbers4_any B W w2.heap.size 1 (.map (some m)) (M.wnums q 2 [1, ((0 : Nat) : Int)]) [ln] (w2.alloc (.cells #[.int .i64 ln] 3)) ((unhide H2).c.alloc _) hW (by rw [M.wnums_len, hql]; simp; omega) (by intro x hx; simp at hx; subst hx; exact hln) (by have := (unhide H2).c.lt; omega) (by have := heap_alloc_new w2 (.cells #[.int .i64 ln] 3); simpa using this))
    have HF := hide (Fx.alloc B W w2 (.cells #[.int .i64 ln] 3))
    go_wp2_with fail
    refine (unhide HN).mono ?_
    rintro e w3 ⟨rfl, h3, f3⟩
    have H3 := hide ((unhide H2).fx ((unhide HF).trans f3) h3)
    have F3 := hide ((unhide F2).trans ((unhide HF).trans f3))
    clear HN HF h3 f3 H2 F2
    have HC := hide ((unhide HD) w3 (unhide H3) (unhide F3))
    clear HD
    go_wp2_with fail
    refine (unhide HC).mono ?_
    rintro e w4 ⟨rfl, h4, f4⟩
    have H4 := hide h4
    have F4 := hide ((unhide F3).trans f4)
    clear HC h4 f4 H3 F3
    go_wp2
    go_end0
    exact ⟨rfl, unhide H4, unhide F4⟩
end Go.Proofs.Ytgihfcjddkpkaaa.Cl
