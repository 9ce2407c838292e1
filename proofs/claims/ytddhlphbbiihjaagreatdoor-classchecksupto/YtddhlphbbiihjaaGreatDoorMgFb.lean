/-
  ClassChecks: what Decode gives: places in order, lists that can be read; handlers, in plain mathematics.
  ClassChecks: does an instruction begin at a place? A search by halves.
-/
import Derived.Test.YtddhlphbbiihjaaGreatDoorPDecR
import Derived.Test.YtddhlphbbiihjaaGreatDoorMgCq
import Derived.Test.YtddhlphbbiihjaaGreatDoorMgEo
set_option linter.unusedVariables false
set_option linter.unusedSimpArgs false
namespace Go.Proofs.YtddhlphbbiihjaaGreatDoor.Dc
open Go.RowKit
namespace M
theorem key_op {s : List UInt8} {a op p q : Nat} {i : I} (h : key s a op p = .ok (i, q)) : i.op = op := by
  unfold key at h
  split at h
  · cases h
  · split at h
    · cases h
    · split at h
      · cases h
      · cases h; rfl
theorem tab_op {s : List UInt8} {a op p q : Nat} {i : I} (h : tab s a op p = .ok (i, q)) : i.op = op := by
  unfold tab at h
  split at h
  · cases h
  · split at h
    · cases h
    · split at h
      · cases h
      · cases h; rfl
theorem sw_op {s : List UInt8} {a op b q : Nat} {k : Bool} {i : I} (h : sw s a op b k = .ok (i, q)) : i.op = op := by
  unfold sw at h
  split at h
  · cases h
  · cases k
    · exact tab_op h
    · exact key_op h
theorem plain_op {s : List UInt8} {a op b q : Nat} {w : Bool} {L : Lay} {i : I} (h : plain s a op w b L = .ok (i, q)) : i.op = op := by
  unfold plain at h
  split at h
  · cases h
  · split at h
    · cases h; rfl
    · cases h
theorem body_op {s : List UInt8} {a op b q : Nat} {w : Bool} {i : I} (h : body s a op w b = .ok (i, q)) : i.op = op := by
  unfold body at h
  split at h
  · cases h
  · split at h
    · exact sw_op h
    · split at h
      · exact sw_op h
      · exact plain_op h
theorem ins_op {s : List UInt8} {a q : Nat} {i : I} (ha : a < s.length) (h : ins s a = .ok (i, q)) : i.op < 256 := by
  have h1 : ∀ p, num (bs s p 1) < 256 := fun p => by have := num_le (bs_len s p 1); omega
  unfold ins at h
  split at h
  · split at h
    · cases h
    · rw [body_op h]; exact h1 _
  · rw [body_op h]; exact h1 _
theorem run_all {s : List UInt8} (P : I → Prop) (hP : ∀ a i q, a < s.length → ins s a = .ok (i, q) → P i) : ∀ (d a : Nat) (acc l : List I), s.length - a ≤ d → (∀ i ∈ acc, P i) → run s a acc = .ok l → ∀ i ∈ l, P i := by
  intro d
  induction d with
  | zero =>
    intro a acc l h1 hb h
    rw [run_end (by omega)] at h
    cases h
    exact hb
  | succ d ih =>
    intro a acc l h1 hb h
    rcases Nat.lt_or_ge a s.length with ha | ha
    · cases hi : ins s a with
      | error e => rw [run_bad ha hi] at h; cases h
      | ok r =>
        obtain ⟨i, q⟩ := r
        rw [run_one ha hi] at h
        have hle := ins_le ha hi
        simp only at hle
        refine ih q (acc ++ [i]) l (by omega) (fun j hj => ?_) h
        rw [List.mem_append, List.mem_singleton] at hj
        rcases hj with hj | rfl
        · exact hb j hj
        · exact hP a _ q ha hi
    · rw [run_end ha] at h
      cases h
      exact hb
theorem decode_all {s : List UInt8} {l : List I} (P : I → Prop) (hP : ∀ a i q, a < s.length → ins s a = .ok (i, q) → P i) (h : decode s = .ok l) : ∀ i ∈ l, P i := by
  unfold decode at h
  split at h
  · cases h
  · cases hr : run s 0 [] with
    | error e => rw [hr] at h; cases h
    | ok l' =>
      rw [hr] at h
      simp only at h
      split at h
      · cases h
        exact run_all P hP s.length 0 [] l (by omega) (fun _ h => by cases h) hr
      · cases h
theorem run_len {s : List UInt8} : ∀ (d a : Nat) (acc l : List I), s.length - a ≤ d → a ≤ s.length → acc.length ≤ a → run s a acc = .ok l → l.length ≤ s.length := by
  intro d
  induction d with
  | zero =>
    intro a acc l h1 h2 h3 h
    rw [run_end (by omega)] at h
    cases h
    omega
  | succ d ih =>
    intro a acc l h1 h2 h3 h
    rcases Nat.lt_or_ge a s.length with ha | ha
    · cases hi : ins s a with
      | error e => rw [run_bad ha hi] at h; cases h
      | ok r =>
        obtain ⟨i, q⟩ := r
        rw [run_one ha hi] at h
        have hle := ins_le ha hi
        simp only at hle
        exact ih q (acc ++ [i]) l (by omega) (by omega) (by simp; omega) h
    · rw [run_end ha] at h
      cases h
      omega
theorem decode_len {s : List UInt8} {l : List I} (h : decode s = .ok l) : l.length ≤ s.length := by
  unfold decode at h
  split at h
  · cases h
  · cases hr : run s 0 [] with
    | error e => rw [hr] at h; cases h
    | ok l' =>
      rw [hr] at h
      simp only at h
      split at h
      · cases h
        exact run_len s.length 0 [] l (by omega) (by omega) (by simp) hr
      · cases h
theorem ins_err {s : List UInt8} {a e p : Nat} (h : ins s a = .error (e, p)) : e ≠ 0 := by
  have hk : ∀ {n p ks ts} {x : Er}, kys s a n p ks ts = .error x → x.1 ≠ 0 := by
    intro n
    induction n with
    | zero => intro p ks ts x h; cases h
    | succ n ih =>
      intro p ks ts x h
      unfold kys at h
      split at h
      · cases h; exact Nat.succ_ne_zero _
      · split at h
        · cases h; exact Nat.succ_ne_zero _
        · split at h
          · cases h; exact Nat.succ_ne_zero _
          · exact ih h
  have ht : ∀ {n p ts} {x : Er}, tgs s a n p ts = .error x → x.1 ≠ 0 := by
    intro n
    induction n with
    | zero => intro p ts x h; cases h
    | succ n ih =>
      intro p ts x h
      unfold tgs at h
      split at h
      · cases h; exact Nat.succ_ne_zero _
      · exact ih h
  have hp : ∀ {n p} {x : Er}, pad s a n p = .error x → x.1 ≠ 0 := by
    intro n
    induction n with
    | zero => intro p x h; cases h
    | succ n ih =>
      intro p x h
      unfold pad at h
      split at h
      · cases h; exact Nat.succ_ne_zero _
      · split at h
        · cases h; exact Nat.succ_ne_zero _
        · exact ih h
  have hs : ∀ {op b bk} {x : Er}, sw s a op b bk = .error x → x.1 ≠ 0 := by
    intro op b bk x h
    unfold sw at h
    cases hpd : pad s a (padN b) b with
    | error y => rw [hpd] at h; cases h; exact hp hpd
    | ok q =>
      rw [hpd] at h
      simp only at h
      split at h
      · unfold key at h
        split at h
        · cases h; exact Nat.succ_ne_zero _
        · split at h
          · cases h; exact Nat.succ_ne_zero _
          · cases hq : kys s a (w4 s (q + 4)).toNat (q + 8) [] [(a : Int) + w4 s q] with
            | error y => rw [hq] at h; cases h; exact hk hq
            | ok r => rw [hq] at h; cases h
      · unfold tab at h
        split at h
        · cases h; exact Nat.succ_ne_zero _
        · split at h
          · cases h; exact Nat.succ_ne_zero _
          · cases hq : tgs s a (w4 s (q + 8) - w4 s (q + 4) + 1).toNat (q + 12) [(a : Int) + w4 s q] with
            | error y => rw [hq] at h; cases h; exact ht hq
            | ok r => rw [hq] at h; cases h
  have hb : ∀ {op w b} {x : Er}, body s a op w b = .error x → x.1 ≠ 0 := by
    intro op w b x h
    unfold body at h
    split at h
    · cases h; exact Nat.succ_ne_zero _
    · split at h
      · exact hs h
      · split at h
        · exact hs h
        · unfold plain at h
          split at h
          · cases h; exact Nat.succ_ne_zero _
          · split at h
            · cases h
            · cases h; exact Nat.succ_ne_zero _
  unfold ins at h
  split at h
  · split at h
    · cases h; exact Nat.succ_ne_zero _
    · exact hb h
  · exact hb h
theorem run_err {s : List UInt8} : ∀ (d a : Nat) (acc : List I) (x : Er), s.length - a ≤ d → run s a acc = .error x → x.1 ≠ 0 := by
  intro d
  induction d with
  | zero => intro a acc x h1 h; rw [run_end (by omega)] at h; cases h
  | succ d ih =>
    intro a acc x h1 h
    rcases Nat.lt_or_ge a s.length with ha | ha
    · cases hi : ins s a with
      | error e =>
        obtain ⟨e, p⟩ := e
        rw [run_bad ha hi] at h
        cases h
        exact ins_err hi
      | ok r =>
        obtain ⟨i, q⟩ := r
        rw [run_one ha hi] at h
        have hle := ins_le ha hi
        simp only at hle
        exact ih q (acc ++ [i]) x (by omega) h
    · rw [run_end ha] at h; cases h
theorem decode_err {s : List UInt8} {e p : Nat} (h : decode s = .error (e, p)) : e ≠ 0 := by
  unfold decode at h
  split at h
  · cases h; exact Nat.succ_ne_zero _
  · cases hr : run s 0 [] with
    | error y => rw [hr] at h; cases h; exact run_err s.length 0 [] _ (by omega) hr
    | ok l =>
      rw [hr] at h
      simp only at h
      split at h
      · cases h
      · cases h; exact Nat.succ_ne_zero _
/-- The places of what is read are in order. -/
theorem run_sorted {s : List UInt8} : ∀ (d a : Nat) (acc l : List I), s.length - a ≤ d → a ≤ s.length → acc.Pairwise (fun x y => x.at_ < y.at_) → (∀ i ∈ acc, i.at_ < a) → run s a acc = .ok l → l.Pairwise (fun x y => x.at_ < y.at_) ∧ ∀ i ∈ l, i.at_ < s.length := by
  intro d
  induction d with
  | zero =>
    intro a acc l h1 h2 h3 h4 h
    rw [run_end (by omega)] at h
    cases h
    exact ⟨h3, fun i hi => by have := h4 i hi; omega⟩
  | succ d ih =>
    intro a acc l h1 h2 h3 h4 h
    rcases Nat.lt_or_ge a s.length with ha | ha
    · cases hi : ins s a with
      | error e => rw [run_bad ha hi] at h; cases h
      | ok r =>
        obtain ⟨i, q⟩ := r
        rw [run_one ha hi] at h
        have hle := ins_le ha hi
        simp only at hle
        refine ih q (acc ++ [i]) l (by omega) (by omega) ?_ ?_ h
        · rw [List.pairwise_append]
          refine ⟨h3, List.pairwise_singleton _ _, fun x hx y hy => ?_⟩
          rw [List.mem_singleton.1 hy]
          have := h4 x hx; omega
        · intro x hx
          rcases List.mem_append.1 hx with hx | hx
          · have := h4 x hx; omega
          · rw [List.mem_singleton.1 hx]; omega
    · rw [run_end ha] at h
      cases h
      exact ⟨h3, fun i hi => by have := h4 i hi; omega⟩
theorem decode_sorted {s : List UInt8} {l : List I} (h : decode s = .ok l) : l.Pairwise (fun x y => x.at_ < y.at_) ∧ (∀ i ∈ l, i.at_ < s.length) ∧ s.length ≤ 65535 := by
  unfold decode at h
  split at h
  · cases h
  · rename_i h0
    cases hr : run s 0 [] with
    | error e => rw [hr] at h; cases h
    | ok l' =>
      rw [hr] at h
      simp only at h
      split at h
      · cases h
        have := run_sorted s.length 0 [] l (by omega) (by omega) List.Pairwise.nil (fun _ h => by cases h) hr
        exact ⟨this.1, this.2, by omega⟩
      · cases h
end M
def I.g (i : I) : Cw.G := ⟨(i.at_ : Int), i.op, i.wide, i.a, i.b, i.low, i.keys, i.tgts⟩
def J.v (j : J) : Cw.V := ⟨j.i.g, j.kv, j.tv⟩
theorem J.v_arr (j : J) : j.v.arr.toList = j.cells := rfl
theorem GHas.of_lst {w : World} {B : Nat} {v : Value} {L : List J} (h : Lst w B v L) (hf : ∀ j ∈ L, j.i.op < 256 ∧ j.i.keys.length ≤ 100000 ∧ j.i.tgts.length ≤ 100000 ∧ ∀ t ∈ j.i.tgts, (Lit.int .i64 t).wf = true) : Cw.GHas w v (L.map J.v) := by
  have hh := Has.of_lst h
  obtain ⟨ad, cap, e, hc⟩ := hh.form
  refine ⟨⟨ad, cap, by rw [List.length_map]; exact e, fun hne => ?_⟩, fun c hcm => ?_⟩
  · obtain ⟨b, o, e1, hk⟩ := hc (by rintro rfl; simp at hne)
    refine ⟨b, o, e1, fun k hk1 i hi => ?_⟩
    have hk2 : k < L.length := by simpa using hk1
    rw [hk k hk2 i hi, List.getElem_map, ← J.v_arr]
    simp
  · obtain ⟨j, hj, rfl⟩ := List.mem_map.1 hcm
    obtain ⟨f1, f2, f3, f4⟩ := hf j hj
    refine ⟨⟨(hh.own j hj).1, (hh.own j hj).2, f1, by simp only [J.v, I.g]; omega, by simp only [J.v, I.g]; omega⟩, f3, f4, fun a n cp e => ?_⟩
    have ho := (h.own j hj).t
    have e' : j.tv = .slice a n cp := e
    rcases ho.2 with ⟨h0, _⟩ | ⟨g, cap, cur, h1, _, _, h4, _⟩
    · rw [h0] at e'; cases e'; exact Nat.le_refl _
    · rw [h1] at e'; cases e'; exact h4
/-- What Decode gives can be handed on. -/
theorem GHas.of_decode {s : List UInt8} {w : World} {B : Nat} {v : Value} {L : List J} (hd : M.decode s = .ok (L.map J.i)) (h : Lst w B v L) : Cw.GHas w v (L.map J.v) := by
  have hs := (M.decode_sorted hd).2.2
  refine GHas.of_lst h (fun j hj => ?_)
  obtain ⟨⟨m1, m2, m3, m4⟩, m5⟩ := M.decode_all (fun i => M.Bd s.length i ∧ i.op < 256) (fun a i q ha hi => ⟨M.ins_bd ha (by omega) hi, M.ins_op ha hi⟩) hd j.i (List.mem_map_of_mem hj)
  exact ⟨m5, by omega, by omega, fun t ht => WalkArith.wf_i64 (by have := m2 t ht; omega)⟩
end Go.Proofs.YtddhlphbbiihjaaGreatDoor.Dc
namespace Go.Proofs.YtddhlphbbiihjaaGreatDoor.Cl
open Go.RowKit Go.Maps Kn
/-- Does an instruction begin at a place? -/
def beg (l : List Dc.I) (t : Int) : Bool := Dc.M.begins l t
theorem beg_iff {l : List Dc.I} {t : Int} : beg l t = true ↔ ∃ i ∈ l, (i.at_ : Int) = t := by
  unfold beg Dc.M.begins; simp
/-- What is wrong with a handler. -/
def hdlE (P : List K) (l : List Dc.I) (n : Nat) (h : Hi) : Nat :=
  if beg l h.from_ && beg l h.target && (beg l h.to_ || decide (h.to_ = n)) && decide (h.from_ < h.to_) then (if h.type_ = 0 ∨ M.tag P h.type_ = 7 then 0 else 7) else 16
def hdlsE (P : List K) (l : List Dc.I) (n : Nat) : Nat → List Hi → Nat × Nat
  | _, [] => (0, 0)
  | k, h :: r => if hdlE P l n h = 0 then hdlsE P l n (k + 1) r else (hdlE P l n h, k)
theorem hdls_drop (P : List K) (l : List Dc.I) (n : Nat) (r : List Hi) (k : Nat) (hk : k < r.length) :
    hdlsE P l n k (r.drop k) = if hdlE P l n (r.getD k Hi.zero) = 0 then hdlsE P l n (k + 1) (r.drop (k + 1)) else (hdlE P l n (r.getD k Hi.zero), k) := by
  rw [List.drop_eq_getElem_cons hk, getD_at _ _ hk]; rfl
/-- What is wrong with code: the error, the place. -/
def codE (P : List K) (c : Ci) (need : Nat) : Int × Int :=
  if c.locals < (need : Int) then (12, 0) else match Dc.M.decode c.bytes with
  | .error (e, p) => ((e : Int), (p : Int))
  | .ok l => if (Ck.chkE (Ck.chk P c.locals (l.map Dc.I.g))).1 = 0 then (((hdlsE P l c.bytes.length 0 c.handlers).1 : Int), ((hdlsE P l c.bytes.length 0 c.handlers).2 : Int)) else Ck.chkE (Ck.chk P c.locals (l.map Dc.I.g))
/-- What is wrong with a method, by the names ahead: the error, the place. -/
def mthE (P : List K) (fl : Nat) (ks : List (List UInt8 × List UInt8)) (m : Mi) : Int × Int :=
  if isT P m.name && isT P m.type_ then
    (if wmE (M.text P m.name) (M.text P m.type_) = 0 then
      (if wmf fl m.flags (M.text P m.name) then (10, 0) else if ks.contains (sgM P m) then (11, 0)
       else if m.has = hasF m.flags 1280 then (13, 0) else if m.has = false then (0, 0)
       else codE P m.code (mslots (M.text P m.type_) + (if hasF m.flags 8 then 0 else 1)))
     else ((wmE (M.text P m.name) (M.text P m.type_) : Int), 0))
  else (7, 0)
end Go.Proofs.YtddhlphbbiihjaaGreatDoor.Cl
namespace Go.Proofs.YtddhlphbbiihjaaGreatDoor.Cl
open Go.RowKit
/-- What cmp.Compare tells. -/
def cmpI (x y : Int) : Int := if x < y then -1 else if y < x then 1 else 0
set_option maxHeartbeats 1000000 in
theorem cmp_any (x y : Int) (w : World) : Calls Tryz.prog 69 #[.int .i64 x, .int .i64 y] w fun e w' => e = .returned (.int .i64 (cmpI x y)) ∧ w' = w := by
  have e1 : (x != x) = false := by simp
  have e2 : (y != y) = false := by simp
  generalize hr : cmpI x y = r
  unfold cmpI at hr
  by_cases h1 : x < y
  · rw [if_pos h1] at hr
    subst hr
    go_enter Tryz.func69, Tryz.ntmps69
    go_wp2
    go_ret
    exact ⟨rfl, rfl⟩
  · rw [if_neg h1] at hr
    by_cases h2 : y < x
    · rw [if_pos h2] at hr
      subst hr
      go_enter Tryz.func69, Tryz.ntmps69
      go_wp2
      go_ret
      exact ⟨rfl, rfl⟩
    · rw [if_neg h2] at hr
      subst hr
      go_enter Tryz.func69, Tryz.ntmps69
      go_wp2
      go_ret
      exact ⟨rfl, rfl⟩
set_option maxHeartbeats 1000000 in
theorem cmp68_any (a o : Int) (b : Bool) (x y z : Int) (kv tv : Value) (t : Int) (w : World) : Calls Tryz.prog 68 #[.agg #[.int .i64 a, .int .u8 o, .bool b, .int .i64 x, .int .i64 y, .int .i64 z, kv, tv], .int .i64 t] w fun e w' => e = .returned (.int .i64 (cmpI a t)) ∧ Below w.heap.size w w' := by
  have HC := hide (fun w1 => cmp_any a t w1)
  go_enter Tryz.func68, Tryz.ntmps68
  go_wp2_with fail
  refine (unhide HC _).mono ?_
  rintro e w1 ⟨rfl, rfl⟩
  go_wp2
  go_ret
  exact ⟨rfl, (Below.refl _ _).alloc (Nat.le_refl _) _⟩
theorem At8v.below {w w' : World} {b o : Nat} {c : Cw.V} (h : Cw.At8v w b o c) (hb : Below w.heap.size w w') : Cw.At8v w' b o c := by
  obtain ⟨h0, h1, h2, h3, h4, h5, h6, h7⟩ := h
  exact ⟨(hb.cell (cell_lt h0)).trans h0, (hb.cell (cell_lt h1)).trans h1, (hb.cell (cell_lt h2)).trans h2, (hb.cell (cell_lt h3)).trans h3, (hb.cell (cell_lt h4)).trans h4, (hb.cell (cell_lt h5)).trans h5, (hb.cell (cell_lt h6)).trans h6, (hb.cell (cell_lt h7)).trans h7⟩
theorem cmp_lt (x t : Int) : (cmpI x t < 0) ↔ x < t := by
  unfold cmpI; split
  · simp_all
  · split <;> simp_all
theorem cmp_z (x t : Int) : (cmpI x t == 0) = decide (x = t) := by
  unfold cmpI; rw [Bool.eq_iff_iff]; split
  · simp; omega
  · split
    · simp; omega
    · simp; omega
set_option maxRecDepth 100000 in
set_option maxHeartbeats 2000000 in
theorem bsf_any (L : List Cw.V) (v : Value) (t : Int) (w : World) (h : Cw.GHas w v L) (hl : L.length ≤ 100000) (hs : ∀ (a b : Nat) (ha : a < L.length) (hb : b < L.length), a < b → (L[a]).g.at_ < (L[b]).g.at_) :
    Calls Tryz.prog 67 #[v, .int .i64 t, .func (.func 68) #[] #[]] w fun e w' => (∃ i : Int, e = .returned (.tuple #[.int .i64 i, .bool (L.any fun c => decide (c.g.at_ = t))])) ∧ Below w.heap.size w w' := by
  obtain ⟨ad, cap, rfl, hc⟩ := h.form
  have HC := hide hc
  have HS := hide hs
  have HM := hide (fun (c : Cw.V) (w1 : World) => cmp68_any c.g.at_ c.g.op c.g.wide c.g.a c.g.b c.g.low c.kv c.tv t w1)
  generalize hr : (L.any fun c => decide (c.g.at_ = t)) = r
  have Hr := hide hr
  clear hc hs hr h
  go_enter Tryz.func67, Tryz.ntmps67
  go_wp2_with fail
  go_loopw [9, 10] (fun x y wx => ∃ i j : Nat, i ≤ j ∧ j ≤ L.length ∧ x = .int .i64 (i : Int) ∧ y = .int .i64 (j : Int) ∧ Hid (∀ k (hk : k < L.length), (k < i → (L[k]).g.at_ < t) ∧ (j ≤ k → t ≤ (L[k]).g.at_)) ∧ Below w.heap.size w wx) (fun x y _ => (intOf y).toNat - (intOf x).toNat)
  case atStart => exact ⟨0, L.length, Nat.zero_le _, Nat.le_refl _, rfl, rfl, hide (fun k hk => ⟨fun h => by omega, fun h => by omega⟩), Below.refl _ _⟩
  case round =>
    obtain ⟨i, j, hij, hjn, rfl, rfl, Hk, hb⟩ := hrel
    have HB := hide hb
    clear hb
    by_cases hlt : i < j
    · obtain ⟨m, hm⟩ : ∃ m, m = (i + j) / 2 := ⟨_, rfl⟩
      have em : ((i : Int) + (j : Int)) / 2 = (m : Int) := by omega
      have hm1 : i ≤ m := by omega
      have hm2 : m < j := by omega
      have hml : m < L.length := by omega
      have hne : L ≠ [] := by rintro rfl; simp at hml
      obtain ⟨b, o, rfl, hcell⟩ := unhide HC hne
      obtain ⟨d0, d1, d2, d3, d4, d5, d6, d7⟩ := At8v.below (Cw.At8v.of (hcell m hml)) (unhide HB)
      have hcm := cmp_lt (L[m]).g.at_ t
      have HMm := hide (unhide HM (L[m]))
      have HSm := hide (fun k (hk : k < L.length) => And.intro (fun h : k < m => unhide HS k m hk hml h) (fun h : m < k => unhide HS m k hml hk h))
      have hkm := Hk
      obtain ⟨at_, hat⟩ : ∃ a, a = (L[m]).g.at_ := ⟨_, rfl⟩
      rw [← hat] at d0 hcm HMm
      have Hat := hide hat
      clear hcell hne hat hm
      by_cases hx : at_ < t
      · have hcl : cmpI at_ t < 0 := hcm.2 hx
        clear hcm
        generalize cmpI at_ t = cv at *
        go_wp2_with fail
        refine (unhide HMm _).mono ?_
        rintro e w1 ⟨rfl, hb1⟩
        have HB1 := hide ((unhide HB).trans (hb1.mono (unhide HB).size))
        clear hb1 d0 d1 d2 d3 d4 d5 d6 d7 HMm
        go_wp2
        go_roundw
        case rel => exact ⟨m + 1, j, by omega, hjn, by go_num, rfl, hide (fun k hk => ⟨fun h => by
            rcases Nat.lt_or_ge k m with h1 | h1
            · have := (unhide HSm k hk).1 h1; have := unhide Hat; omega
            · obtain rfl : k = m := by omega
              have := unhide Hat; omega, (unhide Hk k hk).2⟩), unhide HB1⟩
        case measure => simp [intOf]; omega
      · have hcl : ¬ cmpI at_ t < 0 := fun h => hx (hcm.1 h)
        clear hcm
        generalize cmpI at_ t = cv at *
        go_wp2_with fail
        refine (unhide HMm _).mono ?_
        rintro e w1 ⟨rfl, hb1⟩
        have HB1 := hide ((unhide HB).trans (hb1.mono (unhide HB).size))
        clear hb1 d0 d1 d2 d3 d4 d5 d6 d7 HMm
        go_wp2
        go_roundw
        case rel => exact ⟨i, m, by omega, by omega, rfl, rfl, hide (fun k hk => ⟨(unhide Hk k hk).1, fun h => by
            rcases Nat.lt_or_ge m k with h1 | h1
            · have := (unhide HSm k hk).2 h1; have := unhide Hat; omega
            · obtain rfl : k = m := by omega
              have := unhide Hat; omega⟩), unhide HB1⟩
        case measure => simp [intOf]; omega
    · obtain rfl : i = j := by omega
      by_cases hin : i < L.length
      · have hne : L ≠ [] := by rintro rfl; simp at hin
        obtain ⟨b, o, rfl, hcell⟩ := unhide HC hne
        obtain ⟨d0, d1, d2, d3, d4, d5, d6, d7⟩ := At8v.below (Cw.At8v.of (hcell i hin)) (unhide HB)
        have hcz := cmp_z (L[i]).g.at_ t
        have HMm := hide (unhide HM (L[i]))
        have hE : decide ((L[i]).g.at_ = t) = r := by
          rw [← unhide Hr, Bool.eq_iff_iff, decide_eq_true_iff, List.any_eq_true]
          constructor
          · intro h; exact ⟨L[i], List.getElem_mem _, by simpa using h⟩
          · rintro ⟨c, hc, he⟩
            obtain ⟨k, hk, rfl⟩ := List.getElem_of_mem hc
            have he : (L[k]).g.at_ = t := by simpa using he
            rcases Nat.lt_trichotomy k i with h1 | h1 | h1
            · have := (unhide Hk k hk).1 h1; omega
            · subst h1; exact he
            · have := unhide HS i k hin hk h1
              have := (unhide Hk i hin).2 (Nat.le_refl _)
              omega
        rw [hE] at hcz
        obtain ⟨at_, hat⟩ : ∃ a, a = (L[i]).g.at_ := ⟨_, rfl⟩
        rw [← hat] at d0 hcz HMm
        clear hcell hne hat hE
        generalize cmpI at_ t = cv at *
        have hin' : (i : Int) < (L.length : Int) := by omega
        go_wp2_with (first | (go_at_call 68; refine (unhide HMm _).mono ?_; rintro e w1 ⟨rfl, hb1⟩) | go_in)
        go_ret2
        exact ⟨⟨_, rfl⟩, (unhide HB).trans (hb1.mono (unhide HB).size)⟩
      · have hE : r = false := by
          rw [← unhide Hr, List.any_eq_false]
          intro c hc
          obtain ⟨k, hk, rfl⟩ := List.getElem_of_mem hc
          have := (unhide Hk k hk).1 (by omega)
          simp; omega
        subst hE
        have hin' : ¬ (i : Int) < (L.length : Int) := by omega
        go_wp2
        go_ret2
        exact ⟨⟨_, rfl⟩, unhide HB⟩
set_option maxHeartbeats 1000000 in
theorem begins_any (L : List Cw.V) (v : Value) (g : Nat) (t : Int) (w : World) (h : Cw.GHas w v L) (hg : w.cell? ⟨g, 0, none⟩ = some v) (hl : L.length ≤ 100000) (hs : ∀ (a b : Nat) (ha : a < L.length) (hb : b < L.length), a < b → (L[a]).g.at_ < (L[b]).g.at_) :
    Calls Tryz.prog 66 #[.int .i64 t, .pointer (some ⟨g, 0, none⟩)] w fun e w' => e = .returned (.bool (L.any fun c => decide (c.g.at_ = t))) ∧ Below w.heap.size w w' := by
  have HS := hide (bsf_any L v t w h hl hs)
  obtain ⟨ad, cap, rfl, _⟩ := h.form
  generalize (L.any fun c => decide (c.g.at_ = t)) = r at *
  clear h hs
  go_enter Tryz.func66, Tryz.ntmps66
  go_wp2_with fail
  refine (unhide HS).mono ?_
  rintro e w1 ⟨⟨i, rfl⟩, hb1⟩
  go_wp2
  go_ret
  exact ⟨rfl, hb1⟩
end Go.Proofs.YtddhlphbbiihjaaGreatDoor.Cl
