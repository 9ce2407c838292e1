/-
  What the reference's ReadMap leans on: an append of whatever can be read; where its loop stands.
-/
import Derived.Test.YtbgpkkbejbidlabVl
import Derived.Test.YtbgpkkbejbidlabRp
import Derived.Test.YtbgpkkbejbidlabMr
import Derived.Deep.RegionHeldLaw
import Derived.Deep.RegionLaw
namespace Go.Proofs.Ytbgpkkbejbidlab
open Go.RowKit
theorem TC_take (L : List T) (k : Nat) : TC (L.take k) = (TC L).take (k * 3) := by
  induction L generalizing k with
  | nil => simp [TC]
  | cons c L ih =>
    cases k with
    | zero => simp [TC]
    | succ k => rw [List.take_succ_cons, TC, TC, ih, show (k + 1) * 3 = c.cells.length + k * 3 by simp [T.cells]; omega, List.take_length_add_append]
theorem own_take {w : World} {B n c : Nat} {ad : Option Addr} {L : List T} (h : w.ownsRow B 25 3 (.slice ad n c) L.length (TC L)) (k : Nat) (hk : k ≤ L.length) : w.ownsRow B 25 3 (.slice ad k c) (L.take k).length (TC (L.take k)) := by
  have hl : (L.take k).length = k := by simp; omega
  rw [hl]
  refine ⟨by rw [TC_length, hl], ?_⟩
  rcases h.2 with ⟨h0, h1⟩ | ⟨g, cap, cur, h0, h1, h2, h3, h4, h5, h6⟩
  · cases h0
    have : k = 0 := by omega
    subst this
    exact .inl ⟨rfl, rfl⟩
  · cases h0
    refine .inr ⟨g, c, cur, rfl, h1, h2, by omega, h4, h5, ?_⟩
    rw [TC_take, ← h6, List.take_take, Nat.min_eq_left (by omega)]
/-- append(v, x...): v of one's own, x whatever can be read. -/
theorem run_app (w : World) (B : Nat) (ty : TypeId) (v x : Value) (Z ys : List T) (hown : w.ownsRow B 25 3 v Z.length (TC Z)) (h : TIn w x ys) (hx : x = .slice none 0 0 ∨ ∃ a n c, x = .slice (some a) n c) (hl : Z.length + ys.length ≤ 1048576) (hB : B ≤ w.heap.size) :
    ∃ v' w', (Builtin.append_ #[23, 23] ty #[v, x]).run Try.prog w = .ok v' w' ∧ w'.ownsRow B 25 3 v' (Z ++ ys).length (TC (Z ++ ys)) ∧ w.grownBy w' v.ownBlock ∧ (v'.ownBlock = v.ownBlock ∨ v'.ownBlock = some w.heap.size) := by
  obtain ⟨i, hi, hz, hsize, hby⟩ := info_parts Try.info25
  obtain ⟨ad, cap, rfl, hc⟩ := h
  rcases hx with hx | ⟨a, n, c, hx⟩
  · have hy : ys = [] := by
      simp only [Value.slice.injEq] at hx
      exact List.length_eq_zero_iff.1 hx.2.1
    subst hy
    simp only [Value.slice.injEq] at hx
    obtain ⟨rfl, _, rfl⟩ := hx
    rw [List.append_nil]
    exact ⟨v, w, run_append_owned_none (P := Try.prog) (w := w) B 23 ty 25 i 3 Try.underlying23 hi v _ _ hown, hown, grown_refl _ _, .inl rfl⟩
  · cases hx
    have hk : ys ≠ [] → ∃ b o, a = ⟨b, o, none⟩ ∧ ∀ k, k < ys.length → ∀ i, i < 3 → w.cell? ⟨b, o + k * 3 + i, none⟩ = (ys.getD k T.zero).cells[i]? := fun hne => by
      obtain ⟨b, o, e, h2⟩ := hc hne
      cases e
      exact ⟨b, o, rfl, h2⟩
    obtain ⟨v', w', hr, h2, h3, _, h5⟩ := run_append_own_at (P := Try.prog) w B 23 ty 25 i (.agg #[.int .u8 0, .string ⟨#[]⟩, .int .i64 0]) 3 32 Try.underlying23 hi hz hsize hby rfl (by decide) v Z.length (TC Z) hown a ys.length cap (TC ys) (TC_length ys)
      (fun j u hj => by
        have hjl : j < ys.length * 3 := by rw [← TC_length]; exact (List.getElem?_eq_some_iff.1 hj).1
        obtain ⟨b, o, rfl, hk'⟩ := hk (by intro e; subst e; simp at hjl)
        rw [Addr.add_lit]
        have e := TC_at ys (j / 3) (j % 3) (by omega) (by omega)
        rw [show j / 3 * 3 + j % 3 = j by omega, hj] at e
        have := hk' (j / 3) (by omega) (j % 3) (by omega)
        rw [← e, show o + j / 3 * 3 + j % 3 = o + j by omega] at this
        exact this)
      (TC_one ys) (by unfold maxLen; omega) (by omega) hB
    rw [← List.length_append, ← TC_append] at h2
    exact ⟨v', w', hr, h2, h3, h5⟩
theorem step_app {ops : Array Oper} {o : Oper} {a : Act} {w : World} {K : Act → World → Prop} {Q : Exit → Act → World → Prop} {E : Prop} (hg : o.guard = none) (s x : Operand)
    (ho : o.op = .call { callee := .builtin .append, args := #[s, x], argTypes := #[23, 23] })
    (B : Nat) (v xv : Value) (Z ys : List T) (hs : a.eval s = v) (hxv : a.eval x = xv) (hown : w.ownsRow B 25 3 v Z.length (TC Z)) (hy : TIn w xv ys) (hx : xv = .slice none 0 0 ∨ ∃ a n c, xv = .slice (some a) n c) (hl : Z.length + ys.length ≤ 1048576) (hB : B ≤ w.heap.size)
    (h : ∀ v' w', w'.ownsRow B 25 3 v' (Z ++ ys).length (TC (Z ++ ys)) → w.grownBy w' v.ownBlock → (v'.ownBlock = v.ownBlock ∨ v'.ownBlock = some w.heap.size) → K (a.put o.dst v') w') :
    if Region.wanted o (yielded ops a.tmps) = true then Oper.wp Try.prog o a w K Q else E := by
  have hw : Region.wanted o (yielded ops a.tmps) = true := by simp [Region.wanted, hg]
  rw [if_pos hw]
  obtain ⟨v', w', hr, h2, h3, h5⟩ := run_app w B o.type v xv Z ys hown hy hx hl hB
  unfold Oper.wp execOp
  simp only [ho, resolve, invoke, builtin, Sem.run_bind, Sem.run_pure, Result.andThen_ok, List.map_toArray, List.map_cons, List.map_nil, hs, hxv, hr]
  exact h v' w' h2 h3 h5
theorem enters {P : Program} {f : FuncId} {fn : Func} (h : P.funcs[f]? = some fn) (hn : (fn.name == "runtime.NumGoroutine") = false) (hb : fn.body.isNone = false) (vals : Array Value) (w : World) : (callFunc f vals).run P w = .ok (.enter f vals) w := by
  unfold callFunc
  simp [go_sem, h]
  rw [if_neg (by simpa using hn), if_neg (by intro e; rw [e] at hb; simp at hb)]
theorem step_call {P : Program} {ops : Array Oper} {o : Oper} {a : Act} {w : World} {K : Act → World → Prop} {Q : Exit → Act → World → Prop} {E : Prop} (hg : o.guard = none) (f : FuncId) (args : Array Operand) (tys : Array TypeId)
    (ho : o.op = .call { callee := .value (.func f), args := args, argTypes := tys }) (vals : Array Value) (hv : args.map a.eval = vals) (hf : ∀ vals w, (callFunc f vals).run P w = .ok (.enter f vals) w) {post : Ending → World → Prop} (hc : Calls P f vals w post)
    (h : ∀ e w', post e w' → ∃ v, e = .returned v ∧ K (a.put o.dst v) w') : if Region.wanted o (yielded ops a.tmps) = true then Oper.wp P o a w K Q else E := by
  have hw : Region.wanted o (yielded ops a.tmps) = true := by simp [Region.wanted, hg]
  rw [if_pos hw]
  subst hv
  have hr : (execOp a.eval o).run P w = .ok (.enter f (args.map a.eval)) w := by
    unfold execOp
    simp [ho, resolve, invoke, go_sem, hf]
  unfold Oper.wp
  rw [hr]
  refine Calls.mono hc fun e w' hp => ?_
  obtain ⟨v, rfl, hk⟩ := h e w' hp
  exact hk
theorem enter15 : ∀ vals w, (callFunc 15 vals).run Try.prog w = .ok (.enter 15 vals) w := enters Try.func15 (by kernel_rfl) (by kernel_rfl)
theorem app_ne {w : World} {B n e k p : Nat} {v v' : Value} {xs : List Value} (_h : w.ownsRow B e k v n xs) (hv : v.ownBlock ≠ some p) (hp : p < w.heap.size) (h : v'.ownBlock = v.ownBlock ∨ v'.ownBlock = some w.heap.size) : v'.ownBlock ≠ some p := by
  rcases h with h | h
  · rw [h]; exact hv
  · rw [h]; intro e; cases e; omega
theorem slice_block (a : Option Addr) (n c m d : Nat) : (Value.slice a n c).ownBlock = (Value.slice a m d).ownBlock := by cases a <;> rfl
theorem own_none {w : World} {B n k e : Nat} {v : Value} {xs : List Value} (h : w.ownsRow B e k v n xs) : v = .slice none 0 0 ∨ ∃ a n c, v = .slice (some a) n c := by
  rcases h.2 with ⟨rfl, _⟩ | ⟨g, cap, cur, rfl, _⟩
  · exact .inl rfl
  · exact .inr ⟨_, _, _, rfl⟩
/-- Where the reference's loop stands. -/
structure Rg (w wr : World) (C : Nat) (pv : Value) (s : ByteArray) (P : List K) (x : Nat) (a : Fm) (st1 : St) (m : Nat) (st2 : St) (lo pl ou : Value) (A : List J) (a1 : Fm) (ad1 : Option Addr) (n1 c1 : Nat) : Prop where
  lo : lo = .slice ad1 n1 c1
  pl : pl = .int .i64 a1.at_
  len : A.length + m = x
  fs : M.Fs s.data.toList P x a st1 (A.map J.f) a1 m st2
  ls : Lst wr (w.heap.size + 1) ou A
  ti : TIn wr (.slice ad1 n1 c1) a1.locals
  l1 : a1.locals.length ≤ 65536 + 3 * (x - m)
  s1 : a1.stack.length ≤ 65536
  ne : a1.locals ≠ [] → ∀ b o n c, Value.slice ad1 n1 c1 = .slice (some ⟨b, o, none⟩) n c → b ≠ C
  a0 : -1 ≤ a1.at_
  a2 : a1.at_ ≤ 1000 + 65536 * (x - m)
/-- Within a round: the cut, the frame's block, and that nothing older has turned. -/
structure Md (wr w' : World) (C p : Nat) (pv : Value) (s : ByteArray) (P : List K) (st : St) (lv sv : Value) : Prop where
  cx : Cx w' C pv s P st
  g : wr.grownBy w' (some C)
  bk : Bk w' p #[.int .i64 0, lv, sv] 42
section
variable {wr w w' : World} {C p : Nat} {pv : Value} {s : ByteArray} {P : List K} {st st' st0 : St} {lv sv : Value}
theorem Md.take (h : Md wr w C p pv s P st lv sv) (hc : Cx w' C pv s P st') (hg : w.grownBy w' (some C)) (hp : wr.heap.size ≤ p) (hC : C < wr.heap.size) : Md wr w' C p pv s P st' lv sv :=
  ⟨hc, grown_trans h.g hg, h.bk.kept hg (by simp; omega)⟩
theorem Md.set1 (h : Md wr w C p pv s P st lv sv) (h0 : Cx wr C pv s P st0) (hp : wr.heap.size ≤ p) (v : Value) : Md wr (w.setCell ⟨p, 1, none⟩ v) C p pv s P st v sv :=
  have hC := h0.cd.lt
  have hg := grown_new h.g hp 1 v
  ⟨h0.step (h.cx.cd.kept (grown_set w p 1 v) (by simp; omega)) hg h.cx.pos, hg, h.bk.set 1 v⟩
theorem Md.set2 (h : Md wr w C p pv s P st lv sv) (h0 : Cx wr C pv s P st0) (hp : wr.heap.size ≤ p) (v : Value) : Md wr (w.setCell ⟨p, 2, none⟩ v) C p pv s P st lv v :=
  have hC := h0.cd.lt
  have hg := grown_new h.g hp 2 v
  ⟨h0.step (h.cx.cd.kept (grown_set w p 2 v) (by simp; omega)) hg h.cx.pos, hg, h.bk.set 2 v⟩
theorem Md.grow {row : Option Nat} (h : Md wr w C p pv s P st lv sv) (h0 : Cx wr C pv s P st0) (hg : w.grownBy w' row) (hr : ∀ b, row = some b → wr.heap.size ≤ b ∧ b ≠ p) : Md wr w' C p pv s P st lv sv :=
  have hC := h0.cd.lt
  have hg2 := grown_own h.g hg (fun b e => (hr b e).1)
  ⟨h0.step (h.cx.cd.kept hg (fun e => by have := (hr C e.symm).1; omega)) hg2 h.cx.pos, hg2, h.bk.kept hg (fun e => (hr p e.symm).2 rfl)⟩
theorem Md.drew (h : Md wr w C p pv s P st lv sv) : Md wr w.drew C p pv s P st lv sv := ⟨h.cx.below ⟨rfl, rfl, rfl, Nat.le_refl _, fun _ _ => rfl⟩, ⟨h.g.os, h.g.tape, h.g.output, h.g.size, h.g.block⟩, h.bk⟩
theorem Md.lt (h : Md wr w C p pv s P st lv sv) : p < w.heap.size := h.bk.lt
theorem Md.cells (h : Md wr w C p pv s P st lv sv) : w.cell? ⟨p, 0, none⟩ = some (.int .i64 0) ∧ w.cell? ⟨p, 1, none⟩ = some lv ∧ w.cell? ⟨p, 2, none⟩ = some sv ∧ ∀ i, w.frozen? ⟨p, i, none⟩ = false := ⟨h.bk.cell 0, h.bk.cell 1, h.bk.cell 2, h.bk.frozen⟩
end
/-- What ReadMap leaves. -/
def RmR (F : List Fm) (st' : St) (w : World) (e : Ending) (w' : World) : Prop :=
  ∃ ad n c, e = .returned (.tuple #[.slice ad n c, .int .i64 (st'.e : Int), .int .i64 ((if st'.e = 0 then 0 else st'.p : Nat) : Int)]) ∧ Below w.heap.size w w' ∧ (st'.e = 0 → ∃ L, L.map J.f = F ∧ Lst w' w.heap.size (.slice ad n c) L) ∧ (st'.e ≠ 0 → ad = none ∧ n = 0 ∧ c = 0)
end Go.Proofs.Ytbgpkkbejbidlab
