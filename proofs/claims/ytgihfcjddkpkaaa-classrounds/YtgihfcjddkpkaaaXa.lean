/-
  Package class: what is written: numbers.
-/
import Derived.Test.YtgihfcjddkpkaaaMgApp
import Derived.Test.YtgihfcjddkpkaaaMgCn
namespace Go.Proofs.Ytgihfcjddkpkaaa.Cl
set_option linter.unusedVariables false
open Go.RowKit
namespace M
/-- What is written, and what is wrong first. -/
structure Wo where
  l : List UInt8
  e : Nat
def wfail (o : Wo) (e : Nat) : Wo := if o.e = 0 then ⟨o.l, e⟩ else o
/-- Does a number fit into n bytes? -/
def fits (x : Int) (n : Nat) : Prop := 0 ≤ x ∧ x < 256 ^ n
instance (x : Int) (n : Nat) : Decidable (fits x n) := by unfold fits; exact inferInstance
/-- A number in n bytes. -/
def wnum (o : Wo) (n : Nat) (x : Int) : Wo := ⟨o.l ++ M.big (x % 2 ^ 64).toNat n, (if fits x n then o else wfail o 12).e⟩
def wnums (o : Wo) (n : Nat) (xs : List Int) : Wo := xs.foldl (fun o x => wnum o n x) o
theorem wnums_len (o : Wo) (n : Nat) (xs : List Int) : (wnums o n xs).l.length = o.l.length + n * xs.length := by
  induction xs generalizing o with
  | nil => simp [wnums]
  | cons x xs ih =>
    have := ih (wnum o n x)
    unfold wnums at this ⊢
    rw [List.foldl_cons, this]
    simp only [wnum, List.length_append, M.big_len, List.length_cons, Nat.mul_add]; omega
theorem wnums_take {o : Wo} {n : Nat} {xs : List Int} {k : Nat} (hk : k < xs.length) : wnums o n (xs.take (k + 1)) = wnum (wnums o n (xs.take k)) n (xs.getD k 0) := by
  unfold wnums
  rw [List.take_add_one, List.getElem?_eq_getElem hk]
  simp only [Option.toList_some, List.foldl_append, List.foldl_cons, List.foldl_nil, List.getD, List.getElem?_eq_getElem hk, Option.getD_some]
end M
/-- The writer: its block, the bytes that are its own. -/
structure Wc (B : Nat) (w : World) (W : Nat) (nm : Value) (o : M.Wo) : Prop where
  ex : ∃ v, Bk w W #[v, nm, .int .i64 (o.e : Int)] 112 ∧ w.ownsRow B 5 1 v o.l.length (U8 o.l)
  hB : B ≤ w.heap.size
set_option maxHeartbeats 400000 in
theorem wfail_any (B W : Nat) (nm : Value) (o : M.Wo) (e : Nat) (w : World) (h : Wc B w W nm o) :
    Calls Try.prog 84 #[.pointer (some ⟨W, 0, none⟩), .int .i64 (e : Int)] w fun x w' => x = .returned (.tuple #[]) ∧ Wc B w' W nm (M.wfail o e) ∧ w.grownBy w' (some W) ∧ w'.heap.size = w.heap.size := by
  obtain ⟨v, hb, ho⟩ := h.ex
  have hB := h.hB
  have k2 : w.cell? ⟨W, 2, none⟩ = some (.int .i64 (o.e : Int)) := hb.cell 2
  have kf := hb.frozen 2
  by_cases he : o.e = 0
  · have hd : (((o.e : Int) == 0) : Bool) = true := by rw [he]; rfl
    have hq : M.wfail o e = ⟨o.l, e⟩ := by unfold M.wfail; rw [if_pos he]
    have HW : Hid (Wc B (w.setCell ⟨W, 2, none⟩ (.int .i64 (e : Int))) W nm (M.wfail o e)) := by
      rw [hq]
      refine ⟨⟨v, hb.set 2 _, ins_kept ho (grown_set w W 2 _) (fun b e1 e2 => ?_)⟩, by simpa using hB⟩
      cases e1
      rcases ho.2 with ⟨rfl, _⟩ | ⟨g1, c1, cur1, rfl, _, k1, _⟩
      · cases e2
      · have a1 : g1 = W := by simpa [Value.ownBlock] using e2
        subst a1
        unfold Bk at hb
        rw [k1] at hb
        simp at hb
    have HG := hide (grown_set w W 2 (.int .i64 (e : Int)))
    clear he h hb ho hq
    go_enter Try.func84, Try.ntmps84
    go_wp2
    go_end0
    exact ⟨rfl, unhide HW, unhide HG, by simp⟩
  · have hd : (((o.e : Int) == 0) : Bool) = false := by rw [beq_eq_false_iff_ne]; omega
    have hq : M.wfail o e = o := by unfold M.wfail; rw [if_neg he]
    rw [hq]
    have HW := hide h
    clear he h hb ho hq
    go_enter Try.func84, Try.ntmps84
    go_wp2
    go_end0
    exact ⟨rfl, unhide HW, grown_refl _ _, rfl⟩
/-- What the writer leaves as it was. -/
structure Fx (B W : Nat) (w w' : World) : Prop where
  os : w'.os = w.os
  tape : w'.tape = w.tape
  output : w'.output = w.output
  size : w.heap.size ≤ w'.heap.size
  rest : ∀ (k : Nat) (o : Obj), w.heap[k]? = some o → k ≠ W → (k < B ∨ ∀ c fr, o ≠ Obj.cells c 5 fr) → w'.heap[k]? = some o
theorem Fx.refl (B W : Nat) (w : World) : Fx B W w w := ⟨rfl, rfl, rfl, Nat.le_refl _, fun _ _ h _ _ => h⟩
theorem Fx.trans {B W : Nat} {a b c : World} (h : Fx B W a b) (k : Fx B W b c) : Fx B W a c :=
  ⟨k.os.trans h.os, k.tape.trans h.tape, k.output.trans h.output, Nat.le_trans h.size k.size, fun i o hi hn ht => k.rest i o (h.rest i o hi hn ht) hn ht⟩
theorem Fx.grown {B W : Nat} {a b : World} (h : a.grownBy b (some W)) : Fx B W a b :=
  ⟨h.os, h.tape, h.output, h.size, fun i o hi hn _ => by rw [h.block i (Array.getElem?_eq_some_iff.1 hi).1 (fun e => hn (by cases e; rfl))]; exact hi⟩
theorem Fx.alloc (B W : Nat) (w : World) (o : Obj) : Fx B W w (w.alloc o) := 
  ⟨rfl, rfl, rfl, by simp, fun i x hi _ _ => by rw [Below.heap_alloc w o i (Array.getElem?_eq_some_iff.1 hi).1]; exact hi⟩
theorem Fx.fb {B W : Nat} {a b : World} (h : Fb B a b) (hB : B ≤ a.heap.size) : Fx B W a b :=
  ⟨h.old.os, h.old.tape, h.old.output, h.old.size, fun i x hi _ ht => by
    rcases ht with ht | ht
    · rw [h.old.block i ht]; exact hi
    · exact h.rest i x hi ht⟩
set_option maxRecDepth 100000 in
set_option maxHeartbeats 1000000 in
theorem numbers2_any (B W g c : Nat) (nm : Value) (o : M.Wo) (xs : List Int) (w : World) (h : Wc B w W nm o) (hW : W < B) (hl : o.l.length + 2 * xs.length ≤ 1000000) (hx : ∀ x ∈ xs, -9223372036854775808 ≤ x ∧ x < 9223372036854775808) (hgW : g ≠ W)
    (hg : w.heap[g]? = some (.cells (xs.map fun (x : Int) => Value.int .i64 x).toArray 3 (0, 0))) :
    Calls Try.prog 49 #[.pointer (some ⟨W, 0, none⟩), .int .i64 2, .slice (some ⟨g, 0, none⟩) xs.length c] w fun e w' => e = .returned (.tuple #[]) ∧ Wc B w' W nm (M.wnums o 2 xs) ∧ Fx B W w w' := by
  have H := hide h
  have Hg := hide hg
  have Hx := hide hx
  have hxl : xs.length ≤ 1000000 := by omega
  clear h hg hx
  go_enter Try.func49, Try.ntmps49
  go_wp2_with fail
  go_loopw [10] (fun i wr => ∃ k : Nat, k ≤ xs.length ∧ i = .int .i64 k ∧ Hid (Wc B wr W nm (M.wnums o 2 (xs.take k))) ∧ Hid (Fx B W w wr)) (fun i _ => xs.length - (intOf i).toNat)
  case atStart => exact ⟨0, Nat.zero_le _, rfl, unhide H, Fx.refl _ _ _⟩
  case round =>
    clear H
    obtain ⟨k, hk, rfl, HW, HF⟩ := hrel
    by_cases hlt : k < xs.length
    · have ki : (k : Int) < (xs.length : Int) := by omega
      obtain ⟨x, ex⟩ : ∃ x, x = xs.getD k 0 := ⟨_, rfl⟩
      have hcx : wr.cell? ⟨g, k, none⟩ = some (.int .i64 x) := by
        have h1 := (unhide HF).rest g _ (unhide Hg) hgW (.inr (by intro c fr e; cases e))
        rw [cell_of_row wr g k _ 3 (0, 0) h1, ex]
        simp [List.getD, List.getElem?_eq_getElem hlt]
      have hx1 : -9223372036854775808 ≤ x ∧ x < 9223372036854775808 := by rw [ex]; exact unhide Hx _ (by simp [List.getD, List.getElem?_eq_getElem hlt])
      have hw2 := M.wnums_take (o := o) (n := 2) hlt
      rw [← ex] at hw2
      have Hw2 := hide hw2
      have hlen : (M.wnums o 2 (xs.take k)).l.length ≤ 1000000 := by
        rw [M.wnums_len, List.length_take]
        have : 2 * min k xs.length ≤ 2 * xs.length := Nat.mul_le_mul_left 2 (by omega)
        omega
      obtain ⟨p, ep⟩ : ∃ p, p = M.wnums o 2 (xs.take k) := ⟨_, rfl⟩
      rw [← ep] at HW hlen Hw2
      clear ex hw2 ep
      obtain ⟨q, hq⟩ : ∃ q, q = (if M.fits x 2 then p else M.wfail p 12) := ⟨_, rfl⟩
      have Hq := hide hq
      have hql : q.l = p.l := by
        rw [hq]
        unfold M.wfail
        split
        · rfl
        · split <;> rfl
      have HFl := hide (wfail_any B W nm p 12 wr (unhide HW))
      clear hq
      go_upto_if 18 with fail
      go_cut [] (fun w' => Hid (Wc B w' W nm q) ∧ Hid (Fx B W w w'))
      case first =>
        by_cases hf : M.fits x 2
        · have d0 : (((x / 65536) != 0) : Bool) = false := by
            have h1 := hf.1
            have h2 : x < 65536 := hf.2
            rw [bne_eq_false_iff_eq]; omega
          have q1 : q = p := by rw [unhide Hq, if_pos hf]
          clear hf
          go_wp2
          go_meet
          exact ⟨by rw [q1]; exact unhide HW, unhide HF⟩
        · have d0 : (((x / 65536) != 0) : Bool) = true := by
            rw [bne_iff_ne]
            intro e
            exact hf ⟨by omega, by show x < 65536; omega⟩
          have q1 : q = M.wfail p 12 := by rw [unhide Hq, if_neg hf]
          rw [← q1] at HFl
          clear hf q1
          go_wp2_with fail
          refine (unhide HFl).mono ?_
          rintro e w2 ⟨rfl, hw2, hg2, hz2⟩
          have H2 := hide hw2
          have F2 := hide ((unhide HF).trans (Fx.grown hg2))
          clear hw2 hg2 hz2 HFl
          go_wp2
          go_meet
          exact ⟨unhide H2, unhide F2⟩
      case rest =>
        obtain ⟨H2, F2⟩ := hcut
        clear HW HF HFl hcx
        obtain ⟨v, hb, ho⟩ := (unhide H2).ex
        have hBz := (unhide H2).hB
        have k0 : wc.cell? ⟨W, 0, none⟩ = some v := hb.cell 0
        have kf := hb.frozen 0
        obtain ⟨va, vn, vc, ev⟩ : ∃ va vn vc, v = .slice va vn vc := by
          rcases ho.2 with ⟨e, _⟩ | ⟨g, cap, cur, e, _⟩
          · exact ⟨_, _, _, e⟩
          · exact ⟨_, _, _, e⟩
        subst ev
        obtain ⟨y, hy⟩ : ∃ y : Nat, y = (x % 2 ^ 64).toNat := ⟨_, rfl⟩
        have hy2 : x % 18446744073709551616 = (y : Int) := by rw [hy]; omega
        have hyi : IntKind.u64.wrap x = (y : Int) := by rw [IntKind.wrap_u64]; exact hy2
        have hylt : y < 2 ^ 64 := by rw [hy]; omega
        have HAp := hide (Append_any B (.slice va vn vc) q.l 2 wc.heap.size 1 [y] (wc.alloc (.cells #[.int .u64 (y : Int)] 73)) (by omega) (by rw [hql]; exact hlen) (by simp; omega) (by intro z hz; simp at hz; rw [hz]; exact hylt) (by simp) (ho.alloc _) (by have := heap_alloc_new wc (.cells #[.int .u64 (y : Int)] 73); simpa using this))
        have hbA : Bk (wc.alloc (.cells #[.int .u64 (y : Int)] 73)) W #[.slice va vn vc, nm, .int .i64 (q.e : Int)] 112 := hb.alloc _
        have Hy := hide hy
        have F3 := hide ((unhide F2).trans (Fx.alloc B W wc (.cells #[.int .u64 (y : Int)] 73)))
        have HbA := hide hbA
        have hWl := hb.lt
        clear hy hb ho hylt hbA
        go_wp2_with fail
        refine (unhide HAp).mono ?_
        rintro e w3 ⟨v', rfl, ho3, hf3⟩
        have hb3 : Bk w3 W #[.slice va vn vc, nm, .int .i64 (q.e : Int)] 112 := hf3.rest W _ (unhide HbA) (by intro c fr e; cases e)
        have j0 := hb3.cell 0
        have jf := hb3.frozen 0
        simp at j0
        obtain ⟨ja, jn, jc, ev⟩ : ∃ ja jn jc, v' = .slice ja jn jc := by
          rcases ho3.2 with ⟨e, _⟩ | ⟨g, cap, cur, e, _⟩
          · exact ⟨_, _, _, e⟩
          · exact ⟨_, _, _, e⟩
        subst ev
        have hw4 : M.wnums o 2 (xs.take (k + 1)) = ⟨q.l ++ [y].flatMap fun x => M.big x 2, q.e⟩ := by
          rw [unhide Hw2, M.wnum]
          simp only [List.flatMap_cons, List.flatMap_nil, List.append_nil]
          rw [unhide Hy, hql, unhide Hq]
        have H4 : Hid (Wc B (w3.setCell ⟨W, 0, none⟩ (.slice ja jn jc)) W nm (M.wnums o 2 (xs.take (k + 1)))) := by
          rw [hw4]
          refine ⟨⟨_, hb3.set 0 _, ins_kept ho3 (grown_set w3 W 0 _) (fun b e1 e2 => ?_)⟩, by have := hf3.old.size; simp at this ⊢; omega⟩
          cases e1
          have := (ins_in ho3 e2).1
          omega
        have F4 := hide (((unhide F3).trans (Fx.fb hf3 (by simp; omega))).trans (Fx.grown (grown_set w3 W 0 (.slice ja jn jc))))
        clear HAp ho3 hf3 hb3 hw4 F3 F2 H2 HbA k0 kf
        go_wp2
        go_roundw
        case rel => exact ⟨k + 1, by omega, by go_num, H4, F4⟩
        case measure => simp [intOf]; omega
    · have ki : (xs.length : Int) ≤ (k : Int) := by omega
      have hk2 : xs.take k = xs := List.take_of_length_le (by omega)
      rw [hk2] at HW
      clear hk2
      go_wp2
      go_end0
      exact ⟨rfl, unhide HW, unhide HF⟩
set_option maxRecDepth 100000 in
set_option maxHeartbeats 1000000 in
theorem numbers4_any (B W g c : Nat) (nm : Value) (o : M.Wo) (xs : List Int) (w : World) (h : Wc B w W nm o) (hW : W < B) (hl : o.l.length + 4 * xs.length ≤ 1000000) (hx : ∀ x ∈ xs, -9223372036854775808 ≤ x ∧ x < 9223372036854775808) (hgW : g ≠ W)
    (hg : w.heap[g]? = some (.cells (xs.map fun (x : Int) => Value.int .i64 x).toArray 3 (0, 0))) :
    Calls Try.prog 49 #[.pointer (some ⟨W, 0, none⟩), .int .i64 4, .slice (some ⟨g, 0, none⟩) xs.length c] w fun e w' => e = .returned (.tuple #[]) ∧ Wc B w' W nm (M.wnums o 4 xs) ∧ Fx B W w w' := by
  have H := hide h
  have Hg := hide hg
  have Hx := hide hx
  have hxl : xs.length ≤ 1000000 := by omega
  clear h hg hx
  go_enter Try.func49, Try.ntmps49
  go_wp2_with fail
  go_loopw [10] (fun i wr => ∃ k : Nat, k ≤ xs.length ∧ i = .int .i64 k ∧ Hid (Wc B wr W nm (M.wnums o 4 (xs.take k))) ∧ Hid (Fx B W w wr)) (fun i _ => xs.length - (intOf i).toNat)
  case atStart => exact ⟨0, Nat.zero_le _, rfl, unhide H, Fx.refl _ _ _⟩
  case round =>
    clear H
    obtain ⟨k, hk, rfl, HW, HF⟩ := hrel
    by_cases hlt : k < xs.length
    · have ki : (k : Int) < (xs.length : Int) := by omega
      obtain ⟨x, ex⟩ : ∃ x, x = xs.getD k 0 := ⟨_, rfl⟩
      have hcx : wr.cell? ⟨g, k, none⟩ = some (.int .i64 x) := by
        have h1 := (unhide HF).rest g _ (unhide Hg) hgW (.inr (by intro c fr e; cases e))
        rw [cell_of_row wr g k _ 3 (0, 0) h1, ex]
        simp [List.getD, List.getElem?_eq_getElem hlt]
      have hx1 : -9223372036854775808 ≤ x ∧ x < 9223372036854775808 := by rw [ex]; exact unhide Hx _ (by simp [List.getD, List.getElem?_eq_getElem hlt])
      have hw2 := M.wnums_take (o := o) (n := 4) hlt
      rw [← ex] at hw2
      have Hw2 := hide hw2
      have hlen : (M.wnums o 4 (xs.take k)).l.length ≤ 1000000 := by
        rw [M.wnums_len, List.length_take]
        have : 4 * min k xs.length ≤ 4 * xs.length := Nat.mul_le_mul_left 4 (by omega)
        omega
      obtain ⟨p, ep⟩ : ∃ p, p = M.wnums o 4 (xs.take k) := ⟨_, rfl⟩
      rw [← ep] at HW hlen Hw2
      clear ex hw2 ep
      obtain ⟨q, hq⟩ : ∃ q, q = (if M.fits x 4 then p else M.wfail p 12) := ⟨_, rfl⟩
      have Hq := hide hq
      have hql : q.l = p.l := by
        rw [hq]
        unfold M.wfail
        split
        · rfl
        · split <;> rfl
      have HFl := hide (wfail_any B W nm p 12 wr (unhide HW))
      clear hq
      go_upto_if 18 with fail
      go_cut [] (fun w' => Hid (Wc B w' W nm q) ∧ Hid (Fx B W w w'))
      case first =>
        by_cases hf : M.fits x 4
        · have d0 : (((x / 4294967296) != 0) : Bool) = false := by
            have h1 := hf.1
            have h2 : x < 4294967296 := hf.2
            rw [bne_eq_false_iff_eq]; omega
          have q1 : q = p := by rw [unhide Hq, if_pos hf]
          clear hf
          go_wp2
          go_meet
          exact ⟨by rw [q1]; exact unhide HW, unhide HF⟩
        · have d0 : (((x / 4294967296) != 0) : Bool) = true := by
            rw [bne_iff_ne]
            intro e
            exact hf ⟨by omega, by show x < 4294967296; omega⟩
          have q1 : q = M.wfail p 12 := by rw [unhide Hq, if_neg hf]
          rw [← q1] at HFl
          clear hf q1
          go_wp2_with fail
          refine (unhide HFl).mono ?_
          rintro e w2 ⟨rfl, hw2, hg2, hz2⟩
          have H2 := hide hw2
          have F2 := hide ((unhide HF).trans (Fx.grown hg2))
          clear hw2 hg2 hz2 HFl
          go_wp2
          go_meet
          exact ⟨unhide H2, unhide F2⟩
      case rest =>
        obtain ⟨H2, F2⟩ := hcut
        clear HW HF HFl hcx
        obtain ⟨v, hb, ho⟩ := (unhide H2).ex
        have hBz := (unhide H2).hB
        have k0 : wc.cell? ⟨W, 0, none⟩ = some v := hb.cell 0
        have kf := hb.frozen 0
        obtain ⟨va, vn, vc, ev⟩ : ∃ va vn vc, v = .slice va vn vc := by
          rcases ho.2 with ⟨e, _⟩ | ⟨g, cap, cur, e, _⟩
          · exact ⟨_, _, _, e⟩
          · exact ⟨_, _, _, e⟩
        subst ev
        obtain ⟨y, hy⟩ : ∃ y : Nat, y = (x % 2 ^ 64).toNat := ⟨_, rfl⟩
        have hy2 : x % 18446744073709551616 = (y : Int) := by rw [hy]; omega
        have hyi : IntKind.u64.wrap x = (y : Int) := by rw [IntKind.wrap_u64]; exact hy2
        have hylt : y < 2 ^ 64 := by rw [hy]; omega
        have HAp := hide (Append_any B (.slice va vn vc) q.l 4 wc.heap.size 1 [y] (wc.alloc (.cells #[.int .u64 (y : Int)] 73)) (by omega) (by rw [hql]; exact hlen) (by simp; omega) (by intro z hz; simp at hz; rw [hz]; exact hylt) (by simp) (ho.alloc _) (by have := heap_alloc_new wc (.cells #[.int .u64 (y : Int)] 73); simpa using this))
        have hbA : Bk (wc.alloc (.cells #[.int .u64 (y : Int)] 73)) W #[.slice va vn vc, nm, .int .i64 (q.e : Int)] 112 := hb.alloc _
        have Hy := hide hy
        have F3 := hide ((unhide F2).trans (Fx.alloc B W wc (.cells #[.int .u64 (y : Int)] 73)))
        have HbA := hide hbA
        have hWl := hb.lt
        clear hy hb ho hylt hbA
        go_wp2_with fail
        refine (unhide HAp).mono ?_
        rintro e w3 ⟨v', rfl, ho3, hf3⟩
        have hb3 : Bk w3 W #[.slice va vn vc, nm, .int .i64 (q.e : Int)] 112 := hf3.rest W _ (unhide HbA) (by intro c fr e; cases e)
        have j0 := hb3.cell 0
        have jf := hb3.frozen 0
        simp at j0
        obtain ⟨ja, jn, jc, ev⟩ : ∃ ja jn jc, v' = .slice ja jn jc := by
          rcases ho3.2 with ⟨e, _⟩ | ⟨g, cap, cur, e, _⟩
          · exact ⟨_, _, _, e⟩
          · exact ⟨_, _, _, e⟩
        subst ev
        have hw4 : M.wnums o 4 (xs.take (k + 1)) = ⟨q.l ++ [y].flatMap fun x => M.big x 4, q.e⟩ := by
          rw [unhide Hw2, M.wnum]
          simp only [List.flatMap_cons, List.flatMap_nil, List.append_nil]
          rw [unhide Hy, hql, unhide Hq]
        have H4 : Hid (Wc B (w3.setCell ⟨W, 0, none⟩ (.slice ja jn jc)) W nm (M.wnums o 4 (xs.take (k + 1)))) := by
          rw [hw4]
          refine ⟨⟨_, hb3.set 0 _, ins_kept ho3 (grown_set w3 W 0 _) (fun b e1 e2 => ?_)⟩, by have := hf3.old.size; simp at this ⊢; omega⟩
          cases e1
          have := (ins_in ho3 e2).1
          omega
        have F4 := hide (((unhide F3).trans (Fx.fb hf3 (by simp; omega))).trans (Fx.grown (grown_set w3 W 0 (.slice ja jn jc))))
        clear HAp ho3 hf3 hb3 hw4 F3 F2 H2 HbA k0 kf
        go_wp2
        go_roundw
        case rel => exact ⟨k + 1, by omega, by go_num, H4, F4⟩
        case measure => simp [intOf]; omega
    · have ki : (xs.length : Int) ≤ (k : Int) := by omega
      have hk2 : xs.take k = xs := List.take_of_length_le (by omega)
      rw [hk2] at HW
      clear hk2
      go_wp2
      go_end0
      exact ⟨rfl, unhide HW, unhide HF⟩
end Go.Proofs.Ytgihfcjddkpkaaa.Cl
