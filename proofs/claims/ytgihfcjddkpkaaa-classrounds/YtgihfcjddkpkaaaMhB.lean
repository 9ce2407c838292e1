/-
  Package class: a handler, and lists of them.
  Package class: attributes, whatever is done with them.
  Package class: what is done with attributes of which one counts.
-/
import Derived.Test.YtgihfcjddkpkaaaMhA
import Derived.Test.YtgihfcjddkpkaaaMgCn
import Derived.Test.YtgihfcjddkpkaaaRp
import Derived.Deep.RegionHeld3
namespace Go.Proofs.Ytgihfcjddkpkaaa.Rc
open Go.RowKit
/-- A number of two bytes. -/
theorem U16_any (R : Nat) (pv : Value) (s : ByteArray) (st : St) (w : World) (h : Rd w R pv s st) (hs : s.size ≤ 131072) (hp : st.pos ≤ s.data.toList.length) :
    Calls Try.prog 57 #[.pointer (some ⟨R, 0, none⟩)] w fun x w' => x = .returned (.int .u16 ((M.rd s.data.toList 2 st).1 : Nat)) ∧ Rd w' R pv s (M.rd s.data.toList 2 st).2 ∧ w.grownBy w' (some R) := Uint16_any R pv s st w h hs (by simpa using hp)
def Hn.val (h : Hn) : Value := .agg #[.int .i64 (h.from_ : Int), .int .i64 (h.to_ : Int), .int .i64 (h.target : Int), .int .u16 (h.type_ : Int)]
theorem wrapi {n : Nat} (h : n < 65536) : IntKind.i64.wrap (n : Int) = (n : Int) := by
  rw [IntKind.wrap_i64]; omega
theorem Rd.other {w : World} {R : Nat} {pv : Value} {s : ByteArray} {st : St} (h : Rd w R pv s st) {b : Nat} (i : Nat) (v : Value) (hne : R ≠ b) : Rd (w.setCell ⟨b, i, none⟩ v) R pv s st := h.kept (grown_set w b i v) (by simpa using hne)
theorem end4 {w w1 : World} {R Q : Nat} {pv : Value} {s : ByteArray} {st' : St} {a b c d : Value} {t : TypeId} (hR : R < w.heap.size) (hg : w.grownBy w1 (some R)) (hr : Rd w1 R pv s st') (hQ : Bk w1 Q #[a, b, c, d] t) (hQw : w.heap.size ≤ Q) (x y z u : Value) :
    Bk ((((w1.setCell ⟨Q, 0, none⟩ x).setCell ⟨Q, 1, none⟩ y).setCell ⟨Q, 2, none⟩ z).setCell ⟨Q, 3, none⟩ u) Q #[x, y, z, u] t ∧ Rd ((((w1.setCell ⟨Q, 0, none⟩ x).setCell ⟨Q, 1, none⟩ y).setCell ⟨Q, 2, none⟩ z).setCell ⟨Q, 3, none⟩ u) R pv s st' ∧
      w.grownBy ((((w1.setCell ⟨Q, 0, none⟩ x).setCell ⟨Q, 1, none⟩ y).setCell ⟨Q, 2, none⟩ z).setCell ⟨Q, 3, none⟩ u) (some R) := by
  have hRQ : R ≠ Q := by omega
  exact ⟨(((hQ.set 0 x).set 1 y).set 2 z).set 3 u, (((hr.other 0 x hRQ).other 1 y hRQ).other 2 z hRQ).other 3 u hRQ, grown_new (grown_new (grown_new (grown_new hg hQw 0 x) hQw 1 y) hQw 2 z) hQw 3 u⟩
set_option maxRecDepth 100000 in
set_option maxHeartbeats 1000000 in
theorem handler_any (R : Nat) (pv : Value) (s : ByteArray) (st : St) (w : World) (h : Rd w R pv s st) (hs : s.size ≤ 131072) (hp : st.pos ≤ s.data.toList.length) :
    Calls Try.prog 119 #[.pointer (some ⟨R, 0, none⟩)] w fun x w' => x = .returned (Hn.val (M.hnd s.data.toList st).1) ∧ Rd w' R pv s (M.hnd s.data.toList st).2 ∧ w.grownBy w' (some R) := by
  have hRl := h.lt
  obtain ⟨wA, hwA⟩ : ∃ wA, wA = w.alloc (.cells #[.int .i64 0, .int .i64 0, .int .i64 0, .int .u16 0] 152) := ⟨_, rfl⟩
  have hgA : w.grownBy wA (some R) := by rw [hwA]; exact World.grownBy_alloc w _ _
  have hQA : Bk wA w.heap.size #[.int .i64 0, .int .i64 0, .int .i64 0, .int .u16 0] 152 := by rw [hwA]; exact Bk.new _ _ _
  have hrA : Rd wA R pv s st := by rw [hwA]; exact h.kept (World.grownBy_alloc w _ none) (by simp)
  have HU := hide (fun (st : St) (W : World) (hW : Rd W R pv s st) (hp : st.pos ≤ s.data.toList.length) => U16_any R pv s st W hW hs hp)
  have HwA := hide hwA
  clear hwA h
  go_enter Try.func119, Try.ntmps119
  go_upto_region 1 with fail
  rw [← unhide HwA]
  clear HwA
  have c1 := M.rd2 s.data.toList st
  have c2 := M.rd2 s.data.toList (M.rd s.data.toList 2 st).2
  have c3 := M.rd2 s.data.toList (M.rd s.data.toList 2 (M.rd s.data.toList 2 st).2).2
  have c4 := M.rd2 s.data.toList (M.rd s.data.toList 2 (M.rd s.data.toList 2 (M.rd s.data.toList 2 st).2).2).2
  have d1 := wrapi c1
  have d2 := wrapi c2
  have d3 := wrapi c3
  go_region_held3 (fun w' => True) (trivial)
    ((go_at_call 57; first
      | (refine (unhide HU _ _ hrA.drew hp).mono ?_; rintro e w1 ⟨rfl, hr1, hg1⟩; have hp1 := M.rd_pos (n := 2) hp)
      | (refine (unhide HU _ _ hr1 hp1).mono ?_; rintro e w2 ⟨rfl, hr2, hg2⟩; have hp2 := M.rd_pos (n := 2) hp1)
      | (refine (unhide HU _ _ hr2 hp2).mono ?_; rintro e w3 ⟨rfl, hr3, hg3⟩; have hp3 := M.rd_pos (n := 2) hp2)
      | (refine (unhide HU _ _ hr3 hp3).mono ?_; rintro e w4 ⟨rfl, hr4, hg4⟩; have hQ1 := Bk.kept (w := wA.drew) hQA hg1 (by simp; omega); have hQ2 := hQ1.kept hg2 (by simp; omega); have hQ3 := hQ2.kept hg3 (by simp; omega); have hQ4 := hQ3.kept hg4 (by simp; omega); have q0 := hQ4.cell 0; have q1 := hQ4.cell 1; have q2 := hQ4.cell 2; have q3 := hQ4.cell 3; have qf := hQ4.frozen; simp at q0 q1 q2 q3)))
  have hg0 : w.grownBy w1 (some R) := grown_trans hgA ⟨hg1.os, hg1.tape, hg1.output, hg1.size, hg1.block⟩
  have hgw := grown_trans (grown_trans (grown_trans hg0 hg2) hg3) hg4
  have HE := hide (end4 hRl hgw hr4 hQ4 (Nat.le_refl _) (.int .i64 ((M.rd s.data.toList 2 st).1 : Int)) (.int .i64 ((M.rd s.data.toList 2 (M.rd s.data.toList 2 st).2).1 : Int)) (.int .i64 ((M.rd s.data.toList 2 (M.rd s.data.toList 2 (M.rd s.data.toList 2 st).2).2).1 : Int)) (.int .u16 ((M.rd s.data.toList 2 (M.rd s.data.toList 2 (M.rd s.data.toList 2 (M.rd s.data.toList 2 st).2).2).2).1 : Int)))
  clear hr1 hr2 hr3 hr4 hg0 hg1 hg2 hg3 hg4 hQ1 hQ2 hQ3 hQ4 hgw hgA hQA hrA HU q0 q1 q2 q3 qf
  go_wp2
  obtain ⟨e1, e2, e3⟩ := unhide HE
  refine bodyPost_ret (results_cell_row Try.results119 _ _ w.heap.size 152 _ (0, 0) _ rfl e1 Try.underlying152 rfl (by kernel_rfl)) rfl ?_
  exact ⟨rfl, e2, e3⟩
def hcells (h : Hn) : List Value := [.int .i64 (h.from_ : Int), .int .i64 (h.to_ : Int), .int .i64 (h.target : Int), .int .u16 (h.type_ : Int)]
def HC (l : List Hn) : List Value := l.flatMap hcells
theorem HC_snoc (l : List Hn) (h : Hn) : HC (l ++ [h]) = HC l ++ hcells h := by simp [HC]
theorem Try.info152 : (Try.prog.info? 152).map (fun i => (i.zero, i.size, i.bytes)) = some (some (.agg #[.int .i64 0, .int .i64 0, .int .i64 0, .int .u16 0]), 4, 32) := by kernel_rfl
theorem own152_slice {w : World} {B n : Nat} {v : Value} {xs : List Value} (h : w.ownsRow B 152 4 v n xs) : ∃ ad c, v = .slice ad n c := by
  rcases h.2 with ⟨rfl, h0⟩ | ⟨g, cap, cur, rfl, _⟩
  · exact ⟨none, 0, by rw [h0]⟩
  · exact ⟨_, _, rfl⟩
theorem Good_q (R : Nat) (pv : Value) (s : ByteArray) (st : St) (w : World) (h : Rd w R pv s st) : Calls Try.prog 59 #[.pointer (some ⟨R, 0, none⟩)] w fun e w' => e = .returned (.bool (decide (st.e = 0))) ∧ w' = w := Good_any R pv s st w h
set_option maxRecDepth 100000 in
set_option maxHeartbeats 1000000 in
theorem handlers_any (R : Nat) (pv : Value) (s : ByteArray) (st : St) (w : World) (h : Rd w R pv s st) (hs : s.size ≤ 131072) (hp : st.pos ≤ s.data.toList.length) :
    Calls Try.prog 118 #[.pointer (some ⟨R, 0, none⟩), .func (Fn.func 119) #[.pointer (some ⟨R, 0, none⟩)] #[]] w fun x w' => ∃ v, x = .returned v ∧ w'.ownsRow w.heap.size 152 4 v (M.lst s.data.toList (M.hnd s.data.toList) st).1.length (HC (M.lst s.data.toList (M.hnd s.data.toList) st).1) ∧ Rd w' R pv s (M.lst s.data.toList (M.hnd s.data.toList) st).2 ∧ w.grownBy w' (some R) := by
  obtain ⟨i0, hi, hz0, hz1, hz2⟩ := info_parts Try.info152
  have hRl := h.lt
  have HU := hide (U16_any R pv s st w h hs hp)
  have hx := M.rd2 s.data.toList st
  have hp1 := M.rd_pos (n := 2) hp
  unfold M.lst
  obtain ⟨x, st1, hT⟩ : ∃ x st1, M.rd s.data.toList 2 st = (x, st1) := ⟨_, _, rfl⟩
  rw [hT] at hx HU hp1 ⊢
  simp only at hx HU hp1 ⊢
  clear hT h
  go_enter Try.func118, Try.ntmps118
  go_wp2_with fail
  refine (unhide HU).mono ?_
  rintro e w1 ⟨rfl, hr1, hg1⟩
  have Hr1 := hide hr1
  have Hg1 := hide hg1
  clear HU hr1 hg1
  go_wp2_with fail
  go_loopw [5, 6] (fun v i wr => ∃ (m : Nat) (A : List Hn) (st2 : St), m ≤ x ∧ i = .int .u16 m ∧ Hid (M.Rs (M.hnd s.data.toList) x st1 A m st2) ∧ Hid (wr.ownsRow w.heap.size 152 4 v A.length (HC A)) ∧ Hid (Rd wr R pv s st2) ∧ Hid (w.grownBy wr (some R)) ∧ st2.pos ≤ s.data.toList.length) (fun _ i _ => (intOf i).toNat)
  case atStart => exact ⟨x, [], st1, Nat.le_refl _, rfl, M.Rs.zero, World.ownsRow_nil _ _ _ _, unhide Hr1, unhide Hg1, hp1⟩
  case round =>
    clear Hr1 Hg1 hp1
    obtain ⟨m, A, st2, hm, rfl, HRs, HO, HR, HG, hp2⟩ := hrel
    obtain ⟨va, vc, ev⟩ := own152_slice (unhide HO)
    subst ev
    have HGd := hide (Good_any R pv s st2 wr (unhide HR))
    by_cases hm0 : m = 0
    · subst hm0
      have HD := hide ((unhide HRs).done)
      go_wp2
      go_ret
      exact ⟨_, rfl, by rw [unhide HD]; exact unhide HO, by rw [unhide HD]; exact unhide HR, unhide HG⟩
    · have hmi : (0 : Int) < (m : Int) := by omega
      by_cases he : st2.e = 0
      · rw [decide_eq_true he] at HGd
        obtain ⟨n, hn⟩ : ∃ n, m = n + 1 := ⟨m - 1, by omega⟩
        have hst := unhide HRs
        rw [hn] at hst
        have HSt := hide (hst.step he)
        have hAl := hst.1
        have HH := hide (handler_any R pv s st2 wr (unhide HR) hs hp2)
        have hp3 := M.hnd_pos (s := s.data.toList) hp2
        obtain ⟨c, st3, hc⟩ : ∃ c st3, M.hnd s.data.toList st2 = (c, st3) := ⟨_, _, rfl⟩
        rw [hc] at HH HSt hp3
        simp only at HH HSt hp3
        unfold Hn.val at HH
        have hNl : A.length ≤ 65535 := by omega
        have Hn1 := hide hn
        have He := hide he
        clear hn he hst hAl hc HRs hm0
        go_wp2_with fail
        refine (unhide HGd).mono ?_
        rintro e w2 ⟨rfl, hw2⟩
        subst w2
        go_wp2_with fail
        refine (unhide HH).mono ?_
        rintro e w2 ⟨rfl, hr2, hg2⟩
        have hwz := (unhide HG).size
        have hrow := ins_kept (unhide HO) hg2 (fun b e1 e2 => by cases e1; have := (ins_in (unhide HO) e2).1; omega)
        have hgw2 := grown_trans (unhide HG) hg2
        have hw2z := hgw2.size
        clear HH HGd HG HR HO hg2
        go_wp2_with (at_builtin; refine wpList_append_own_at _ rfl _ _ 97 rfl w.heap.size 152 i0 (.agg #[.int .i64 0, .int .i64 0, .int .i64 0, .int .u16 0]) 4 32 Try.underlying97 hi hz0 hz1 hz2 rfl (by decide) _ A.length (HC A) rfl (hrow.alloc _) ⟨w2.heap.size, 0, none⟩ 1 1 [.int .i64 (c.from_ : Int), .int .i64 (c.to_ : Int), .int .i64 (c.target : Int), .int .u16 (c.type_ : Int)] rfl rfl ?c1 ?c2 ?c3 ?c4 ?c5 ?_)
        case c1 =>
          intro j u hj
          rw [Addr.add_lit, Nat.zero_add, (Bk.new w2 _ 152).cell j]
          simpa using hj
        case c2 => intro u hu; simp at hu; rcases hu with rfl | rfl | rfl | rfl <;> rfl
        case c3 => unfold maxLen; omega
        case c4 => omega
        case c5 => simp; omega
        intro v' w4 hown' hgrow _ hbv
        have hlt2 := (hrow.alloc (.cells #[.int .i64 (c.from_ : Int), .int .i64 (c.to_ : Int), .int .i64 (c.target : Int), .int .u16 (c.type_ : Int)] 152)).lt
        have hgw4 := grown_own (grown_alloc hgw2 (.cells #[.int .i64 (c.from_ : Int), .int .i64 (c.to_ : Int), .int .i64 (c.target : Int), .int .u16 (c.type_ : Int)] 152)) hgrow (fun b e => by have := (hlt2 b e).1; omega)
        have hr4 : Rd w4 R pv s st3 := (hr2.kept (World.grownBy_alloc w2 _ none) (by simp)).kept hgrow (fun e => by have := (hlt2 R e.symm).1; omega)
        have HO4 : Hid (w4.ownsRow w.heap.size 152 4 v' (A ++ [c]).length (HC (A ++ [c]))) := by
          rw [HC_snoc, List.length_append]; exact hown'
        have Hr4 := hide hr4
        have Hg4 := hide hgw4
        have hn := unhide Hn1
        clear hown' hgrow hbv hgw4 hr4 hlt2 hgw2 hr2 hrow
        have hm1 : (m : Int) - 1 = ((n : Nat) : Int) := by omega
        go_wp2
        go_roundw
        case rel => exact ⟨n, A ++ [c], st3, by omega, by go_num, HSt, HO4, Hr4, Hg4, hp3⟩
        case measure => simp [intOf]; omega
      · rw [decide_eq_false he] at HGd
        have HD := hide ((unhide HRs).stop he)
        clear he hm0
        go_wp2_with fail
        refine (unhide HGd).mono ?_
        rintro e w2 ⟨rfl, hw2⟩
        subst w2
        go_wp2
        go_ret
        exact ⟨_, rfl, by rw [unhide HD]; exact unhide HO, by rw [unhide HD]; exact unhide HR, unhide HG⟩
end Go.Proofs.Ytgihfcjddkpkaaa.Rc
namespace Go.Proofs.Ytgihfcjddkpkaaa.Rc
open Go.RowKit
/-- Where reading of attributes stands. -/
def As {σ : Type} (s : List UInt8) (P : List K) (A : σ → Nat → List UInt8 → Nat → St → σ × St) (n : Nat) (x0 : σ) (st0 : St) (m : Nat) (x : σ) (st : St) : Prop := M.atts s P A n x0 st0 = M.atts s P A m x st
section
variable {σ : Type} {s : List UInt8} {P : List K} {A : σ → Nat → List UInt8 → Nat → St → σ × St} {n m : Nat} {x0 x : σ} {st0 st : St}
theorem As.step (h : As s P A n x0 st0 (m + 1) x st) (he : st.e = 0) : As s P A n x0 st0 m (M.att s P A x st).1 (M.att s P A x st).2 := by
  unfold As at h ⊢; rw [h, M.atts, if_pos he]
theorem As.stop (h : As s P A n x0 st0 m x st) (he : st.e ≠ 0) : M.atts s P A n x0 st0 = (x, st) := by
  unfold As at h; rw [h]
  cases m with
  | zero => rfl
  | succ m => rw [M.atts, if_neg he]
theorem As.done (h : As s P A n x0 st0 0 x st) : M.atts s P A n x0 st0 = (x, st) := h
end
theorem M.rd4 (s : List UInt8) (st : St) : (M.rd s 4 st).1 < 4294967296 := by have := M.num_le (M.take_len s 4 st); simpa [M.rd] using this
theorem wrapu {n : Nat} (h : n < 4294967296) : IntKind.i64.wrap (n : Int) = (n : Int) := by
  rw [IntKind.wrap_i64]; omega
theorem N4_any (R : Nat) (pv : Value) (s : ByteArray) (st : St) (w : World) (h : Rd w R pv s st) (hs : s.size ≤ 131072) (hp : st.pos ≤ s.data.toList.length) :
    Calls Try.prog 67 #[.pointer (some ⟨R, 0, none⟩), .int .i64 4] w fun x w' => x = .returned (.int .u64 ((M.rd s.data.toList 4 st).1 : Nat)) ∧ Rd w' R pv s (M.rd s.data.toList 4 st).2 ∧ w.grownBy w' (some R) := Number_any R pv s st 4 w h hs (by omega) (by simpa using hp)
theorem F_any (R : Nat) (pv : Value) (s : ByteArray) (st : St) (e p : Nat) (w : World) (h : Rd w R pv s st) :
    Calls Try.prog 68 #[.pointer (some ⟨R, 0, none⟩), .int .i64 (e : Int), .int .i64 (p : Int)] w fun x w' => x = .returned (.tuple #[]) ∧ Rd w' R pv s (M.fail st e p) ∧ w.grownBy w' (some R) := (Fail_any R pv s st e p w h).mono fun _ _ ⟨a, b, c, _⟩ => ⟨a, b, c⟩
set_option maxRecDepth 100000 in
set_option maxHeartbeats 2000000 in
theorem attributes_any {σ : Type} (q1 q2 q3 q4 q5 : Value) (R : Nat) (pv : Value) (s : ByteArray) (P : List K) (A : σ → Nat → List UInt8 → Nat → St → σ × St) (I : World → σ → St → Prop) (hs : s.size ≤ 131072) (hP : P.length ≤ 1048576)
    (hR : ∀ W x st, I W x st → Rd W R pv s st) (hK : ∀ W x st, I W x st → KIn W pv P) (hp : ∀ W x st, I W x st → st.pos ≤ s.data.toList.length)
    (hst : ∀ W W' x st st', I W x st → W.grownBy W' (some R) → Rd W' R pv s st' → st'.pos ≤ s.data.toList.length → I W' x st')
    (hdo : ∀ W x st (a n : Nat) (name : List UInt8), I W x st → n < 4294967296 → a ≤ s.data.toList.length → Calls Try.prog 117 #[.int .i64 (a : Int), .string ⟨name.toArray⟩, .int .i64 (n : Int), q1, q2, q3, q4, q5] W fun e W' => e = .returned (.tuple #[]) ∧ I W' (A x a name n st).1 (A x a name n st).2)
    (x : σ) (st : St) (w : World) (h : I w x st) :
    Calls Try.prog 75 #[.pointer (some ⟨R, 0, none⟩), .func (Fn.func 117) #[] #[q1, q2, q3, q4, q5]] w fun e w' => e = .returned (.tuple #[]) ∧ I w' (M.atts s.data.toList P A (M.rd s.data.toList 2 st).1 x (M.rd s.data.toList 2 st).2).1 (M.atts s.data.toList P A (M.rd s.data.toList 2 st).1 x (M.rd s.data.toList 2 st).2).2 := by
  have HhR := hide hR
  have HhK := hide hK
  have Hhp := hide hp
  have Hst := hide hst
  have Hdo := hide hdo
  have H0 := hide h
  have HU := hide (U16_any R pv s st w (hR _ _ _ h) hs (hp _ _ _ h))
  have hx := M.rd2 s.data.toList st
  have hp1 := M.rd_pos (n := 2) (hp _ _ _ h)
  obtain ⟨pad, pn, pcap, epv⟩ : ∃ pad pn pcap, pv = .slice pad pn pcap := by obtain ⟨a, c, e, _⟩ := (hK _ _ _ h).ex; exact ⟨a, _, c, e⟩
  subst epv
  obtain ⟨c, st1, hT⟩ : ∃ c st1, M.rd s.data.toList 2 st = (c, st1) := ⟨_, _, rfl⟩
  rw [hT] at hx HU hp1 ⊢
  simp only at hx HU hp1 ⊢
  clear hT h hR hK hp hst hdo
  go_enter Try.func75, Try.ntmps75
  go_wp2_with fail
  refine (unhide HU).mono ?_
  rintro e w1 ⟨rfl, hr1, hg1⟩
  have HI1 := hide (unhide Hst _ _ _ _ _ (unhide H0) hg1 hr1 hp1)
  clear HU hr1 hg1 H0
  go_wp2_with fail
  go_loopw [4] (fun i wr => ∃ (m : Nat) (y : σ) (st2 : St), m ≤ c ∧ i = .int .u16 m ∧ Hid (As s.data.toList P A c x st1 m y st2) ∧ Hid (I wr y st2)) (fun i _ => (intOf i).toNat)
  case atStart => exact ⟨c, x, st1, Nat.le_refl _, rfl, rfl, unhide HI1⟩
  case round =>
    clear HI1 hp1
    obtain ⟨m, y, st2, hm, rfl, HA, HI⟩ := hrel
    have HGd := hide (Good_any R _ s st2 wr (unhide HhR _ _ _ (unhide HI)))
    by_cases hm0 : m = 0
    · subst hm0
      have HD := hide ((unhide HA).done)
      go_wp2
      go_end0
      exact ⟨rfl, by rw [unhide HD]; exact unhide HI⟩
    · have hmi : (0 : Int) < (m : Int) := by omega
      by_cases he : st2.e = 0
      · rw [decide_eq_true he] at HGd
        obtain ⟨n, hn⟩ : ∃ n, m = n + 1 := ⟨m - 1, by omega⟩
        have hst := unhide HA
        rw [hn] at hst
        have HSt := hide (hst.step he)
        have Hn1 := hide hn
        have hr := unhide HhR _ _ _ (unhide HI)
        have hpp := unhide Hhp _ _ _ (unhide HI)
        have HAt := hide (At_any R _ s st2 wr hr)
        have HU2 := hide (U16_any R _ s st2 wr.drew hr.drew hs hpp)
        have hi := M.rd2 s.data.toList st2
        have hp3 := M.rd_pos (n := 2) hpp
        unfold M.att at HSt
        obtain ⟨i, st3, hi3⟩ : ∃ i st3, M.rd s.data.toList 2 st2 = (i, st3) := ⟨_, _, rfl⟩
        rw [hi3] at HU2 HSt hi hp3
        simp only at HU2 HSt hi hp3
        obtain ⟨st4, hst4⟩ : ∃ st4, st4 = (if M.tag P (i : Int) = 1 then st3 else M.fail st3 7 st2.pos) := ⟨_, rfl⟩
        rw [← hst4] at HSt
        obtain ⟨nm, hnm⟩ : ∃ nm, nm = M.text P (i : Int) := ⟨_, rfl⟩
        rw [← hnm] at HSt
        have hp4 : st4.pos ≤ s.data.toList.length := by rw [hst4]; split
                                                        · exact hp3
                                                        · rw [M.fail_pos]; exact hp3
        have hl := M.rd4 s.data.toList st4
        have hp5 := M.rd_pos (n := 4) hp4
        have HN4 := hide (fun (W : World) (hW : Rd W R (.slice pad pn pcap) s st4) => N4_any R _ s st4 W hW hs hp4)
        obtain ⟨ln, st5, hl5⟩ : ∃ ln st5, M.rd s.data.toList 4 st4 = (ln, st5) := ⟨_, _, rfl⟩
        rw [hl5] at HN4 HSt hl hp5
        simp only at HN4 HSt hl hp5
        have d1 := wrapi hi
        have d2 := wrapu hl
        have r4 : wr.cell? ⟨R, 4, none⟩ = some (.slice pad pn pcap) := hr.cell 4
        have Hst4 := hide hst4
        have Hnm := hide hnm
        clear hn he hst HA hm0 hr hst4 hi3 hl5 hnm
        go_wp2_with fail
        refine (unhide HGd).mono ?_
        rintro e w2 ⟨rfl, hw2⟩
        subst w2
        go_wp2_with fail
        refine (unhide HAt).mono ?_
        rintro e w2 ⟨rfl, hw2⟩
        subst w2
        clear HGd HAt
        go_upto_region 4 with fail
        go_cut [6, 7] (fun a b w' => a = .string ⟨nm.toArray⟩ ∧ b = .bool (decide (M.tag P (i : Int) = 1)) ∧ Hid (I w' y st3))
        case first =>
          go_region_held3 (fun w' => w'.cell? ⟨R, 4, none⟩ = some (.slice pad pn pcap)) (go_keep)
            ((first
              | (go_at_call 57; refine (unhide HU2).mono ?_; rintro e w3 ⟨rfl, hr3, hg3⟩; have r5 : w3.cell? ⟨R, 4, none⟩ = some (.slice pad pn pcap) := hr3.cell 4; have HI3 := hide (unhide Hst _ _ _ _ _ (unhide HI) ⟨hg3.os, hg3.tape, hg3.output, hg3.size, hg3.block⟩ hr3 hp3); have HTx := hide (Text_any (.slice pad pn pcap) P (i : Int) w3 (unhide HhK _ _ _ (unhide HI3)) hP))
              | (go_at_call 103; refine (unhide HTx).mono ?_; rintro e w4 ⟨rfl, hb4⟩; have hr4 := hr3.kept (grown_of_below hb4 none) (by simp); have r6 : w4.cell? ⟨R, 4, none⟩ = some (.slice pad pn pcap) := hr4.cell 4)))
          all_goals
            have HI4 := hide (unhide Hst _ _ _ _ _ (unhide HI3) (grown_of_below hb4 _) hr4 hp3)
            clear HTx HI HU2 HI3
            go_wp2
            go_meet
            exact ⟨by rw [unhide Hnm], rfl, HI4⟩
        case rest =>
          obtain ⟨rfl, rfl, HI3⟩ := hcut
          clear HU2 HI r4
          by_cases ht : M.tag P (i : Int) = 1
          · have hq : st4 = st3 := by rw [unhide Hst4, if_pos ht]
            rw [decide_eq_true ht]
            clear ht
            have HI4 : Hid (I wc y st4) := by rw [hq]; exact unhide HI3
            clear HI3 hq
            go_wp2_with fail
            refine (unhide HN4 _ (unhide HhR _ _ _ (unhide HI4))).mono ?_
            rintro e w5 ⟨rfl, hr5, hg5⟩
            have HI5 := hide (unhide Hst _ _ _ _ _ (unhide HI4) hg5 hr5 hp5)
            have HDo := hide (unhide Hdo _ _ _ st2.pos ln nm (unhide HI5) hl hpp)
            clear HN4 HI4 hr5 hg5 HI5
            go_wp2_with fail
            refine (unhide HDo).mono ?_
            rintro e w6 ⟨rfl, hI6⟩
            have hn := unhide Hn1
            have hm1 : (m : Int) - 1 = ((n : Nat) : Int) := by omega
            have HI6 := hide hI6
            clear HDo hI6
            go_wp2
            go_roundw
            case rel =>
              exact ⟨n, _, _, by omega, by go_num, HSt, HI6⟩
            case measure => simp [intOf]; omega
          · have hq : st4 = M.fail st3 7 st2.pos := by rw [unhide Hst4, if_neg ht]
            rw [decide_eq_false ht]
            have HF := hide (F_any R _ s st3 7 st2.pos wc (unhide HhR _ _ _ (unhide HI3)))
            rw [← hq] at HF
            clear ht hq
            go_wp2_with fail
            refine (unhide HF).mono ?_
            rintro e w4 ⟨rfl, hr4, hg4⟩
            clear HF
            have HI4 := hide (unhide Hst _ _ _ _ _ (unhide HI3) hg4 hr4 hp4)
            clear HI3 hr4 hg4
            go_wp2_with fail
            refine (unhide HN4 _ (unhide HhR _ _ _ (unhide HI4))).mono ?_
            rintro e w5 ⟨rfl, hr5, hg5⟩
            have HI5 := hide (unhide Hst _ _ _ _ _ (unhide HI4) hg5 hr5 hp5)
            have HDo := hide (unhide Hdo _ _ _ st2.pos ln nm (unhide HI5) hl hpp)
            clear HN4 HI4 hr5 hg5 HI5
            go_wp2_with fail
            refine (unhide HDo).mono ?_
            rintro e w6 ⟨rfl, hI6⟩
            have hn := unhide Hn1
            have hm1 : (m : Int) - 1 = ((n : Nat) : Int) := by omega
            have HI6 := hide hI6
            clear HDo hI6
            go_wp2
            go_roundw
            case rel =>
              exact ⟨n, _, _, by omega, by go_num, HSt, HI6⟩
            case measure => simp [intOf]; omega
      · rw [decide_eq_false he] at HGd
        have HD := hide ((unhide HA).stop he)
        clear he hm0
        go_wp2_with fail
        refine (unhide HGd).mono ?_
        rintro e w2 ⟨rfl, hw2⟩
        subst w2
        go_wp2
        go_end0
        exact ⟨rfl, by rw [unhide HD]; exact unhide HI⟩
set_option maxRecDepth 100000 in
set_option maxHeartbeats 2000000 in
theorem attributes0_any {σ : Type} (q1 : Value) (R : Nat) (pv : Value) (s : ByteArray) (P : List K) (A : σ → Nat → List UInt8 → Nat → St → σ × St) (I : World → σ → St → Prop) (hs : s.size ≤ 131072) (hP : P.length ≤ 1048576)
    (hR : ∀ W x st, I W x st → Rd W R pv s st) (hK : ∀ W x st, I W x st → KIn W pv P) (hp : ∀ W x st, I W x st → st.pos ≤ s.data.toList.length)
    (hst : ∀ W W' x st st', I W x st → W.grownBy W' (some R) → Rd W' R pv s st' → st'.pos ≤ s.data.toList.length → I W' x st')
    (hdo : ∀ W x st (a n : Nat) (name : List UInt8), I W x st → n < 4294967296 → a ≤ s.data.toList.length → Calls Try.prog 104 #[.int .i64 (a : Int), .string ⟨name.toArray⟩, .int .i64 (n : Int), q1] W fun e W' => e = .returned (.tuple #[]) ∧ I W' (A x a name n st).1 (A x a name n st).2)
    (x : σ) (st : St) (w : World) (h : I w x st) :
    Calls Try.prog 75 #[.pointer (some ⟨R, 0, none⟩), .func (Fn.func 104) #[] #[q1]] w fun e w' => e = .returned (.tuple #[]) ∧ I w' (M.atts s.data.toList P A (M.rd s.data.toList 2 st).1 x (M.rd s.data.toList 2 st).2).1 (M.atts s.data.toList P A (M.rd s.data.toList 2 st).1 x (M.rd s.data.toList 2 st).2).2 := by
  have HhR := hide hR
  have HhK := hide hK
  have Hhp := hide hp
  have Hst := hide hst
  have Hdo := hide hdo
  have H0 := hide h
  have HU := hide (U16_any R pv s st w (hR _ _ _ h) hs (hp _ _ _ h))
  have hx := M.rd2 s.data.toList st
  have hp1 := M.rd_pos (n := 2) (hp _ _ _ h)
  obtain ⟨pad, pn, pcap, epv⟩ : ∃ pad pn pcap, pv = .slice pad pn pcap := by obtain ⟨a, c, e, _⟩ := (hK _ _ _ h).ex; exact ⟨a, _, c, e⟩
  subst epv
  obtain ⟨c, st1, hT⟩ : ∃ c st1, M.rd s.data.toList 2 st = (c, st1) := ⟨_, _, rfl⟩
  rw [hT] at hx HU hp1 ⊢
  simp only at hx HU hp1 ⊢
  clear hT h hR hK hp hst hdo
  go_enter Try.func75, Try.ntmps75
  go_wp2_with fail
  refine (unhide HU).mono ?_
  rintro e w1 ⟨rfl, hr1, hg1⟩
  have HI1 := hide (unhide Hst _ _ _ _ _ (unhide H0) hg1 hr1 hp1)
  clear HU hr1 hg1 H0
  go_wp2_with fail
  go_loopw [4] (fun i wr => ∃ (m : Nat) (y : σ) (st2 : St), m ≤ c ∧ i = .int .u16 m ∧ Hid (As s.data.toList P A c x st1 m y st2) ∧ Hid (I wr y st2)) (fun i _ => (intOf i).toNat)
  case atStart => exact ⟨c, x, st1, Nat.le_refl _, rfl, rfl, unhide HI1⟩
  case round =>
    clear HI1 hp1
    obtain ⟨m, y, st2, hm, rfl, HA, HI⟩ := hrel
    have HGd := hide (Good_any R _ s st2 wr (unhide HhR _ _ _ (unhide HI)))
    by_cases hm0 : m = 0
    · subst hm0
      have HD := hide ((unhide HA).done)
      go_wp2
      go_end0
      exact ⟨rfl, by rw [unhide HD]; exact unhide HI⟩
    · have hmi : (0 : Int) < (m : Int) := by omega
      by_cases he : st2.e = 0
      · rw [decide_eq_true he] at HGd
        obtain ⟨n, hn⟩ : ∃ n, m = n + 1 := ⟨m - 1, by omega⟩
        have hst := unhide HA
        rw [hn] at hst
        have HSt := hide (hst.step he)
        have Hn1 := hide hn
        have hr := unhide HhR _ _ _ (unhide HI)
        have hpp := unhide Hhp _ _ _ (unhide HI)
        have HAt := hide (At_any R _ s st2 wr hr)
        have HU2 := hide (U16_any R _ s st2 wr.drew hr.drew hs hpp)
        have hi := M.rd2 s.data.toList st2
        have hp3 := M.rd_pos (n := 2) hpp
        unfold M.att at HSt
        obtain ⟨i, st3, hi3⟩ : ∃ i st3, M.rd s.data.toList 2 st2 = (i, st3) := ⟨_, _, rfl⟩
        rw [hi3] at HU2 HSt hi hp3
        simp only at HU2 HSt hi hp3
        obtain ⟨st4, hst4⟩ : ∃ st4, st4 = (if M.tag P (i : Int) = 1 then st3 else M.fail st3 7 st2.pos) := ⟨_, rfl⟩
        rw [← hst4] at HSt
        obtain ⟨nm, hnm⟩ : ∃ nm, nm = M.text P (i : Int) := ⟨_, rfl⟩
        rw [← hnm] at HSt
        have hp4 : st4.pos ≤ s.data.toList.length := by rw [hst4]; split
                                                        · exact hp3
                                                        · rw [M.fail_pos]; exact hp3
        have hl := M.rd4 s.data.toList st4
        have hp5 := M.rd_pos (n := 4) hp4
        have HN4 := hide (fun (W : World) (hW : Rd W R (.slice pad pn pcap) s st4) => N4_any R _ s st4 W hW hs hp4)
        obtain ⟨ln, st5, hl5⟩ : ∃ ln st5, M.rd s.data.toList 4 st4 = (ln, st5) := ⟨_, _, rfl⟩
        rw [hl5] at HN4 HSt hl hp5
        simp only at HN4 HSt hl hp5
        have d1 := wrapi hi
        have d2 := wrapu hl
        have r4 : wr.cell? ⟨R, 4, none⟩ = some (.slice pad pn pcap) := hr.cell 4
        have Hst4 := hide hst4
        have Hnm := hide hnm
        clear hn he hst HA hm0 hr hst4 hi3 hl5 hnm
        go_wp2_with fail
        refine (unhide HGd).mono ?_
        rintro e w2 ⟨rfl, hw2⟩
        subst w2
        go_wp2_with fail
        refine (unhide HAt).mono ?_
        rintro e w2 ⟨rfl, hw2⟩
        subst w2
        clear HGd HAt
        go_upto_region 4 with fail
        go_cut [6, 7] (fun a b w' => a = .string ⟨nm.toArray⟩ ∧ b = .bool (decide (M.tag P (i : Int) = 1)) ∧ Hid (I w' y st3))
        case first =>
          go_region_held3 (fun w' => w'.cell? ⟨R, 4, none⟩ = some (.slice pad pn pcap)) (go_keep)
            ((first
              | (go_at_call 57; refine (unhide HU2).mono ?_; rintro e w3 ⟨rfl, hr3, hg3⟩; have r5 : w3.cell? ⟨R, 4, none⟩ = some (.slice pad pn pcap) := hr3.cell 4; have HI3 := hide (unhide Hst _ _ _ _ _ (unhide HI) ⟨hg3.os, hg3.tape, hg3.output, hg3.size, hg3.block⟩ hr3 hp3); have HTx := hide (Text_any (.slice pad pn pcap) P (i : Int) w3 (unhide HhK _ _ _ (unhide HI3)) hP))
              | (go_at_call 103; refine (unhide HTx).mono ?_; rintro e w4 ⟨rfl, hb4⟩; have hr4 := hr3.kept (grown_of_below hb4 none) (by simp); have r6 : w4.cell? ⟨R, 4, none⟩ = some (.slice pad pn pcap) := hr4.cell 4)))
          all_goals
            have HI4 := hide (unhide Hst _ _ _ _ _ (unhide HI3) (grown_of_below hb4 _) hr4 hp3)
            clear HTx HI HU2 HI3
            go_wp2
            go_meet
            exact ⟨by rw [unhide Hnm], rfl, HI4⟩
        case rest =>
          obtain ⟨rfl, rfl, HI3⟩ := hcut
          clear HU2 HI r4
          by_cases ht : M.tag P (i : Int) = 1
          · have hq : st4 = st3 := by rw [unhide Hst4, if_pos ht]
            rw [decide_eq_true ht]
            clear ht
            have HI4 : Hid (I wc y st4) := by rw [hq]; exact unhide HI3
            clear HI3 hq
            go_wp2_with fail
            refine (unhide HN4 _ (unhide HhR _ _ _ (unhide HI4))).mono ?_
            rintro e w5 ⟨rfl, hr5, hg5⟩
            have HI5 := hide (unhide Hst _ _ _ _ _ (unhide HI4) hg5 hr5 hp5)
            have HDo := hide (unhide Hdo _ _ _ st2.pos ln nm (unhide HI5) hl hpp)
            clear HN4 HI4 hr5 hg5 HI5
            go_wp2_with fail
            refine (unhide HDo).mono ?_
            rintro e w6 ⟨rfl, hI6⟩
            have hn := unhide Hn1
            have hm1 : (m : Int) - 1 = ((n : Nat) : Int) := by omega
            have HI6 := hide hI6
            clear HDo hI6
            go_wp2
            go_roundw
            case rel =>
              exact ⟨n, _, _, by omega, by go_num, HSt, HI6⟩
            case measure => simp [intOf]; omega
          · have hq : st4 = M.fail st3 7 st2.pos := by rw [unhide Hst4, if_neg ht]
            rw [decide_eq_false ht]
            have HF := hide (F_any R _ s st3 7 st2.pos wc (unhide HhR _ _ _ (unhide HI3)))
            rw [← hq] at HF
            clear ht hq
            go_wp2_with fail
            refine (unhide HF).mono ?_
            rintro e w4 ⟨rfl, hr4, hg4⟩
            clear HF
            have HI4 := hide (unhide Hst _ _ _ _ _ (unhide HI3) hg4 hr4 hp4)
            clear HI3 hr4 hg4
            go_wp2_with fail
            refine (unhide HN4 _ (unhide HhR _ _ _ (unhide HI4))).mono ?_
            rintro e w5 ⟨rfl, hr5, hg5⟩
            have HI5 := hide (unhide Hst _ _ _ _ _ (unhide HI4) hg5 hr5 hp5)
            have HDo := hide (unhide Hdo _ _ _ st2.pos ln nm (unhide HI5) hl hpp)
            clear HN4 HI4 hr5 hg5 HI5
            go_wp2_with fail
            refine (unhide HDo).mono ?_
            rintro e w6 ⟨rfl, hI6⟩
            have hn := unhide Hn1
            have hm1 : (m : Int) - 1 = ((n : Nat) : Int) := by omega
            have HI6 := hide hI6
            clear HDo hI6
            go_wp2
            go_roundw
            case rel =>
              exact ⟨n, _, _, by omega, by go_num, HSt, HI6⟩
            case measure => simp [intOf]; omega
      · rw [decide_eq_false he] at HGd
        have HD := hide ((unhide HA).stop he)
        clear he hm0
        go_wp2_with fail
        refine (unhide HGd).mono ?_
        rintro e w2 ⟨rfl, hw2⟩
        subst w2
        go_wp2
        go_end0
        exact ⟨rfl, by rw [unhide HD]; exact unhide HI⟩
end Go.Proofs.Ytgihfcjddkpkaaa.Rc
namespace Go.Proofs.Ytgihfcjddkpkaaa.Rc
open Go.RowKit
/-- What a closure of once holds. -/
structure Oc (w : World) (R b3 b4 b5 b6 b7 bn : Nat) (cnt : List UInt8) (had : Bool) (rf : Value) : Prop where
  c : Bk w b3 #[.string ⟨cnt.toArray⟩] 9
  p : Bk w b4 #[.func (Fn.func 104) #[] #[.pointer (some ⟨bn, 0, none⟩)]] 143
  h : Bk w b5 #[.bool had] 4
  r : Bk w b6 #[.pointer (some ⟨R, 0, none⟩)] 135
  f : Bk w b7 #[rf] 70
  n : Bk w bn #[.pointer (some ⟨R, 0, none⟩)] 135
/-- Its cells lie apart, behind a world. -/
structure Apart (w0 : World) (R b3 b4 b5 b6 b7 bn bf : Nat) : Prop where
  r : R < w0.heap.size
  g3 : w0.heap.size ≤ b3
  g4 : w0.heap.size ≤ b4
  g5 : w0.heap.size ≤ b5
  g6 : w0.heap.size ≤ b6
  g7 : w0.heap.size ≤ b7
  gn : w0.heap.size ≤ bn
  n53 : b5 ≠ b3
  n54 : b5 ≠ b4
  n56 : b5 ≠ b6
  n57 : b5 ≠ b7
  n5n : b5 ≠ bn
  f3 : bf ≠ b3
  f4 : bf ≠ b4
  f5 : bf ≠ b5
  f6 : bf ≠ b6
  f7 : bf ≠ b7
  fn : bf ≠ bn
/-- A pool lies ahead of a world, and not in the reader. -/
def Off (w0 : World) (R : Nat) (pv : Value) (P : List K) : Prop := P ≠ [] → ∀ b o n c, pv = .slice (some ⟨b, o, none⟩) n c → b ≠ R ∧ b < w0.heap.size
structure I0 {σ : Type} (w0 : World) (R : Nat) (pv : Value) (s : ByteArray) (P : List K) (V : World → σ → Prop) (W : World) (v : σ) (st : St) : Prop where
  rd : Rd W R pv s st
  pos : st.pos ≤ s.data.toList.length
  pool : KIn W pv P
  val : V W v
  gr : w0.grownBy W (some R)
structure I1 {σ : Type} (w0 : World) (R b3 b4 b5 b6 b7 bn : Nat) (pv : Value) (s : ByteArray) (P : List K) (V : World → σ → Prop) (cnt : List UInt8) (rf : Value) (W : World) (x : Bool × σ) (st : St) : Prop where
  i0 : I0 w0 R pv s P V W x.2 st
  oc : Oc W R b3 b4 b5 b6 b7 bn cnt x.1 rf
section
variable {w0 w w' : World} {R b3 b4 b5 b6 b7 bn bf : Nat} {cnt : List UInt8} {had : Bool} {rf : Value}
theorem Oc.kept {row : Option Nat} (h : Oc w R b3 b4 b5 b6 b7 bn cnt had rf) (hg : w.grownBy w' row) (hr : ∀ b, row = some b → b ≠ b3 ∧ b ≠ b4 ∧ b ≠ b5 ∧ b ≠ b6 ∧ b ≠ b7 ∧ b ≠ bn) : Oc w' R b3 b4 b5 b6 b7 bn cnt had rf :=
  ⟨h.c.kept hg fun e => (hr _ e.symm).1 rfl, h.p.kept hg fun e => (hr _ e.symm).2.1 rfl, h.h.kept hg fun e => (hr _ e.symm).2.2.1 rfl, h.r.kept hg fun e => (hr _ e.symm).2.2.2.1 rfl, h.f.kept hg fun e => (hr _ e.symm).2.2.2.2.1 rfl, h.n.kept hg fun e => (hr _ e.symm).2.2.2.2.2 rfl⟩
end
section
variable {σ : Type} {V : World → σ → Prop} {w0 W W' : World} {R b3 b4 b5 b6 b7 bn bf : Nat} {pv : Value} {s : ByteArray} {P : List K} {cnt : List UInt8} {rf : Value} {x : Bool × σ} {st st' : St}
theorem I1.reader (h : I1 w0 R b3 b4 b5 b6 b7 bn pv s P V cnt rf W x st) (hb : Apart w0 R b3 b4 b5 b6 b7 bn bf) (hK : Off w0 R pv P) (hV : ∀ W W' v row, row = some R ∨ row = some b5 → W.grownBy W' row → V W v → V W' v)
    (hg : W.grownBy W' (some R)) (hr : Rd W' R pv s st') (hp : st'.pos ≤ s.data.toList.length) : I1 w0 R b3 b4 b5 b6 b7 bn pv s P V cnt rf W' x st' := by
  have h1 := hb.r; have h3 := hb.g3; have h4 := hb.g4; have h5 := hb.g5; have h6 := hb.g6; have h7 := hb.g7; have hn := hb.gn
  exact ⟨⟨hr, hp, h.i0.pool.kept hg fun hne b o n c e => by have := hK hne b o n c e; simpa using this.1, hV _ _ _ _ (.inl rfl) hg h.i0.val, grown_trans h.i0.gr hg⟩, h.oc.kept hg fun b e => by cases e; omega⟩
theorem I1.had (h : I1 w0 R b3 b4 b5 b6 b7 bn pv s P V cnt rf W x st) (hb : Apart w0 R b3 b4 b5 b6 b7 bn bf) (hK : Off w0 R pv P) (hV : ∀ W W' v row, row = some R ∨ row = some b5 → W.grownBy W' row → V W v → V W' v) (b : Bool) :
    I1 w0 R b3 b4 b5 b6 b7 bn pv s P V cnt rf (W.setCell ⟨b5, 0, none⟩ (.bool b)) (b, x.2) st := by
  have h1 := hb.r; have h5 := hb.g5
  have hg := grown_set W b5 0 (.bool b)
  refine ⟨⟨h.i0.rd.other 0 _ (by omega), h.i0.pos, h.i0.pool.kept hg fun hne b' o n c e => by have := (hK hne b' o n c e).2; simp; omega, hV _ _ _ _ (.inr rfl) hg h.i0.val, grown_new h.i0.gr h5 0 _⟩, ?_⟩
  exact ⟨h.oc.c.other 0 _ hb.n53.symm, h.oc.p.other 0 _ hb.n54.symm, h.oc.h.set 0 _, h.oc.r.other 0 _ hb.n56.symm, h.oc.f.other 0 _ hb.n57.symm, h.oc.n.other 0 _ hb.n5n.symm⟩
end
theorem T_any (R : Nat) (pv : Value) (s : ByteArray) (st : St) (n : Nat) (w : World) (h : Rd w R pv s st) (hs : s.size ≤ 131072) (hn : n < 4294967296) (hp : st.pos ≤ s.data.toList.length) :
    Calls Try.prog 96 #[.pointer (some ⟨R, 0, none⟩), .int .i64 (n : Int)] w fun x w' => x = .returned (.string ⟨(M.take s.data.toList n st).1.toArray⟩) ∧ Rd w' R pv s (M.take s.data.toList n st).2 ∧ w.grownBy w' (some R) := Take_any R pv s st n w h hs (by omega) (by simpa using hp)
set_option maxRecDepth 100000 in
theorem none1_any (R : Nat) (pv : Value) (s : ByteArray) (st : St) (w : World) (bn a n : Nat) (name : List UInt8) (h : Rd w R pv s st) (hb : Bk w bn #[.pointer (some ⟨R, 0, none⟩)] 135) (hs : s.size ≤ 131072) (hn : n < 4294967296) (hp : st.pos ≤ s.data.toList.length) :
    Calls Try.prog 104 #[.int .i64 (a : Int), .string ⟨name.toArray⟩, .int .i64 (n : Int), .pointer (some ⟨bn, 0, none⟩)] w fun x w' => x = .returned (.tuple #[]) ∧ Rd w' R pv s (M.take s.data.toList n st).2 ∧ w.grownBy w' (some R) := by
  have HT := hide (T_any R pv s st n w h hs hn hp)
  have k : w.cell? ⟨bn, 0, none⟩ = some (.pointer (some ⟨R, 0, none⟩)) := hb.cell 0
  clear h hb
  go_enter Try.func104, Try.ntmps104
  go_wp2_with fail
  refine (unhide HT).mono ?_
  rintro e w1 ⟨rfl, hr1, hg1⟩
  clear k HT
  go_wp2
  go_end0
  exact ⟨rfl, hr1, hg1⟩
set_option maxRecDepth 100000 in
set_option maxHeartbeats 2000000 in
theorem once_field {σ : Type} {V : World → σ → Prop} {read : σ → Nat → St → σ × St} {w0 : World} {R b3 b4 b5 b6 b7 bn bf : Nat} {pv : Value} {s : ByteArray} {P : List K} {cnt : List UInt8} {c1 c2 : Value} (hs : s.size ≤ 131072) (hb : Apart w0 R b3 b4 b5 b6 b7 bn bf) (hKb : Off w0 R pv P)
    (hV : ∀ W W' v row, row = some R ∨ row = some b5 → W.grownBy W' row → V W v → V W' v)
    (hread : ∀ W v st (n : Nat), n < 4294967296 → I0 w0 R pv s P V W v st → Calls Try.prog 100 #[.int .i64 (n : Int), c1, c2] W fun e W' => e = .returned (.tuple #[]) ∧ I0 w0 R pv s P V W' (read v n st).1 (read v n st).2 ∧ ∀ b cs t, b ≠ R → b ≠ bf → b < W.heap.size → Bk W b cs t → Bk W' b cs t)
    (W : World) (x : Bool × σ) (st : St) (a n : Nat) (name : List UInt8) (h : I1 w0 R b3 b4 b5 b6 b7 bn pv s P V cnt (.func (Fn.func 100) #[] #[c1, c2]) W x st) (hn : n < 4294967296) :
    Calls Try.prog 117 #[.int .i64 (a : Int), .string ⟨name.toArray⟩, .int .i64 (n : Int), .pointer (some ⟨b3, 0, none⟩), .pointer (some ⟨b4, 0, none⟩), .pointer (some ⟨b5, 0, none⟩), .pointer (some ⟨b6, 0, none⟩), .pointer (some ⟨b7, 0, none⟩)] W fun e W' => e = .returned (.tuple #[]) ∧ I1 w0 R b3 b4 b5 b6 b7 bn pv s P V cnt (.func (Fn.func 100) #[] #[c1, c2]) W' (M.once s.data.toList cnt read x a name n st).1 (M.once s.data.toList cnt read x a name n st).2 := by
  have H := hide h
  have Hread := hide hread
  have HV := hide hV
  have Hb := hide hb
  have HK := hide hKb
  have k3 : W.cell? ⟨b3, 0, none⟩ = some (.string ⟨cnt.toArray⟩) := h.oc.c.cell 0
  have k4 : W.cell? ⟨b4, 0, none⟩ = some (.func (Fn.func 104) #[] #[.pointer (some ⟨bn, 0, none⟩)]) := h.oc.p.cell 0
  have hl : s.data.toList.length = s.size := by simp
  have hps := h.i0.pos
  clear hread hV hb hKb
  by_cases hnm : name = cnt
  · subst hnm
    obtain ⟨had, v⟩ := x
    unfold M.once
    rw [if_pos rfl]
    simp only
    have k5 : W.cell? ⟨b5, 0, none⟩ = some (.bool had) := h.oc.h.cell 0
    have k6 : W.cell? ⟨b6, 0, none⟩ = some (.pointer (some ⟨R, 0, none⟩)) := h.oc.r.cell 0
    have HH := hide (h.had (unhide Hb) (unhide HK) (unhide HV) true)
    have hfz := h.oc.h.frozen 0
    cases had
    · rw [if_neg (by simp)]
      have hpe : st.pos = st.pos := rfl
      obtain ⟨st1, hst1⟩ : ∃ st1, st1 = st := ⟨_, rfl⟩
      rw [show (read v n st) = (read v n st1) by rw [hst1]]
      rw [← hst1] at HH
      have hpe : st1.pos = st.pos := by rw [hst1]
      have HRe0 := hide (fun W h => unhide Hread W v st1 n hn h)
      obtain ⟨v5, st5, h5⟩ : ∃ v5 st5, read v n st1 = (v5, st5) := ⟨_, _, rfl⟩
      rw [h5] at HRe0 ⊢
      simp only at HRe0 ⊢
      obtain ⟨st6, h6⟩ : ∃ st6, st6 = (if st5.pos = st.pos + n then st5 else M.fail st5 12 a) := ⟨_, rfl⟩
      rw [← h6]
      have H6 := hide h6
      clear h5 Hread h6
      obtain ⟨w2, hw2⟩ : ∃ w2, w2 = W.setCell ⟨b5, 0, none⟩ (.bool true) := ⟨_, rfl⟩
      rw [← hw2] at HH
      have Hw2 := hide hw2
      have Hpe := hide hpe
      clear hst1 hw2 hpe h
      go_enter Try.func117, Try.ntmps117
      go_upto_region 5 with fail
      rw [← unhide Hw2]
      clear Hw2 k3 k4 k5 k6 hfz
      have k6 : w2.cell? ⟨b6, 0, none⟩ = some (.pointer (some ⟨R, 0, none⟩)) := (unhide HH).oc.r.cell 0
      have k7 : w2.cell? ⟨b7, 0, none⟩ = some (.func (Fn.func 100) #[] #[c1, c2]) := (unhide HH).oc.f.cell 0
      have HAt := hide (At_any R pv s st1 w2 (unhide HH).i0.rd)
      have HRe := hide (unhide HRe0 w2 (unhide HH).i0)
      have hs1 : st1.pos ≤ 131072 := by have := unhide Hpe; omega
      go_wp2_with fail
      refine (unhide HAt).mono ?_
      rintro e w3 ⟨rfl, hw3⟩
      subst w3
      go_wp2_with fail
      refine (unhide HRe).mono ?_
      rintro e w4 ⟨rfl, hi4, hk4⟩
      have hz4 := (unhide HH).i0.gr.size
      have hoc : Oc w4 R b3 b4 b5 b6 b7 bn name true (.func (Fn.func 100) #[] #[c1, c2]) := by
        have hb := unhide Hb
        have o := (unhide HH).oc
        have h1 := hb.r; have h3 := hb.g3; have h4 := hb.g4; have h5 := hb.g5; have h6 := hb.g6; have h7 := hb.g7; have hn := hb.gn
        exact ⟨hk4 _ _ _ (by omega) hb.f3.symm o.c.lt o.c, hk4 _ _ _ (by omega) hb.f4.symm o.p.lt o.p, hk4 _ _ _ (by omega) hb.f5.symm o.h.lt o.h, hk4 _ _ _ (by omega) hb.f6.symm o.r.lt o.r, hk4 _ _ _ (by omega) hb.f7.symm o.f.lt o.f, hk4 _ _ _ (by omega) hb.fn.symm o.n.lt o.n⟩
      have HI4 : Hid (I1 w0 R b3 b4 b5 b6 b7 bn pv s P V name (.func (Fn.func 100) #[] #[c1, c2]) w4 (true, v5) st5) := ⟨hi4, hoc⟩
      have k6 : w4.cell? ⟨b6, 0, none⟩ = some (.pointer (some ⟨R, 0, none⟩)) := hoc.r.cell 0
      have HAt4 := hide (At_any R pv s st5 w4 hi4.rd)
      have hp5 := hi4.pos
      clear HAt HRe HH hi4 hk4 hoc k7 HRe0
      by_cases hend : st5.pos = st1.pos + n
      · have hq : (((st5.pos : Int) != (st1.pos : Int) + (n : Int)) : Bool) = false := by rw [bne_eq_false_iff_eq]; omega
        have Hend := hide hend
        clear hend
        go_wp2_with fail
        refine (unhide HAt4).mono ?_
        rintro e w5 ⟨rfl, hw5⟩
        subst w5
        clear HAt4
        go_wp2
        go_end0
        refine ⟨rfl, ?_⟩
        rw [unhide H6, ← unhide Hpe, if_pos (unhide Hend)]
        exact unhide HI4
      · have hq : (((st5.pos : Int) != (st1.pos : Int) + (n : Int)) : Bool) = true := by rw [bne_iff_ne]; omega
        have Hend := hide hend
        have HF := hide (F_any R pv s st5 12 a w4 (unhide HI4).i0.rd)
        clear hend
        go_wp2_with fail
        refine (unhide HAt4).mono ?_
        rintro e w5 ⟨rfl, hw5⟩
        subst w5
        clear HAt4
        go_wp2_with fail
        refine (unhide HF).mono ?_
        rintro e w6 ⟨rfl, hr6, hg6⟩
        have HI6 := hide ((unhide HI4).reader (unhide Hb) (unhide HK) (unhide HV) hg6 hr6 (by rw [M.fail_pos]; exact hp5))
        clear HF k6 HI4 hr6 hg6
        go_wp2
        go_end0
        refine ⟨rfl, ?_⟩
        rw [unhide H6, ← unhide Hpe, if_neg (unhide Hend)]
        exact unhide HI6
    · rw [if_pos rfl]
      have HF := hide (F_any R pv s st 11 a W h.i0.rd)
      have hp1 : (M.fail st 11 a).pos ≤ s.data.toList.length := by rw [M.fail_pos]; exact hps
      obtain ⟨st1, hst1⟩ : ∃ st1, st1 = M.fail st 11 a := ⟨_, rfl⟩
      have hpe : st1.pos = st.pos := by rw [hst1, M.fail_pos]
      rw [← hst1] at HF hp1 ⊢
      clear h hst1 HH
      have HRe0 := hide (fun W h => unhide Hread W v st1 n hn h)
      obtain ⟨v5, st5, h5⟩ : ∃ v5 st5, read v n st1 = (v5, st5) := ⟨_, _, rfl⟩
      rw [h5] at HRe0 ⊢
      simp only at HRe0 ⊢
      obtain ⟨st6, h6⟩ : ∃ st6, st6 = (if st5.pos = st.pos + n then st5 else M.fail st5 12 a) := ⟨_, rfl⟩
      rw [← h6]
      have H6 := hide h6
      clear h5 Hread h6
      go_enter Try.func117, Try.ntmps117
      go_wp2_with fail
      refine (unhide HF).mono ?_
      rintro e w1 ⟨rfl, hr1, hg1⟩
      have H1 := hide ((unhide H).reader (unhide Hb) (unhide HK) (unhide HV) hg1 hr1 hp1)
      have HH := hide ((unhide H1).had (unhide Hb) (unhide HK) (unhide HV) true)
      have k5 : w1.cell? ⟨b5, 0, none⟩ = some (.bool true) := (unhide H1).oc.h.cell 0
      have hfz := (unhide H1).oc.h.frozen 0
      obtain ⟨w2, hw2⟩ : ∃ w2, w2 = w1.setCell ⟨b5, 0, none⟩ (.bool true) := ⟨_, rfl⟩
      rw [← hw2] at HH
      have Hw2 := hide hw2
      have Hpe := hide hpe
      clear hw2 hpe k3 k4 k6 HF H1 hr1 hg1
      go_upto_region 5 with fail
      rw [← unhide Hw2]
      clear Hw2 k5 hfz
      have k6 : w2.cell? ⟨b6, 0, none⟩ = some (.pointer (some ⟨R, 0, none⟩)) := (unhide HH).oc.r.cell 0
      have k7 : w2.cell? ⟨b7, 0, none⟩ = some (.func (Fn.func 100) #[] #[c1, c2]) := (unhide HH).oc.f.cell 0
      have HAt := hide (At_any R pv s st1 w2 (unhide HH).i0.rd)
      have HRe := hide (unhide HRe0 w2 (unhide HH).i0)
      have hs1 : st1.pos ≤ 131072 := by have := unhide Hpe; omega
      go_wp2_with fail
      refine (unhide HAt).mono ?_
      rintro e w3 ⟨rfl, hw3⟩
      subst w3
      go_wp2_with fail
      refine (unhide HRe).mono ?_
      rintro e w4 ⟨rfl, hi4, hk4⟩
      have hz4 := (unhide HH).i0.gr.size
      have hoc : Oc w4 R b3 b4 b5 b6 b7 bn name true (.func (Fn.func 100) #[] #[c1, c2]) := by
        have hb := unhide Hb
        have o := (unhide HH).oc
        have h1 := hb.r; have h3 := hb.g3; have h4 := hb.g4; have h5 := hb.g5; have h6 := hb.g6; have h7 := hb.g7; have hn := hb.gn
        exact ⟨hk4 _ _ _ (by omega) hb.f3.symm o.c.lt o.c, hk4 _ _ _ (by omega) hb.f4.symm o.p.lt o.p, hk4 _ _ _ (by omega) hb.f5.symm o.h.lt o.h, hk4 _ _ _ (by omega) hb.f6.symm o.r.lt o.r, hk4 _ _ _ (by omega) hb.f7.symm o.f.lt o.f, hk4 _ _ _ (by omega) hb.fn.symm o.n.lt o.n⟩
      have HI4 : Hid (I1 w0 R b3 b4 b5 b6 b7 bn pv s P V name (.func (Fn.func 100) #[] #[c1, c2]) w4 (true, v5) st5) := ⟨hi4, hoc⟩
      have k6 : w4.cell? ⟨b6, 0, none⟩ = some (.pointer (some ⟨R, 0, none⟩)) := hoc.r.cell 0
      have HAt4 := hide (At_any R pv s st5 w4 hi4.rd)
      have hp5 := hi4.pos
      clear HAt HRe HH hi4 hk4 hoc k7 HRe0
      by_cases hend : st5.pos = st1.pos + n
      · have hq : (((st5.pos : Int) != (st1.pos : Int) + (n : Int)) : Bool) = false := by rw [bne_eq_false_iff_eq]; omega
        have Hend := hide hend
        clear hend
        go_wp2_with fail
        refine (unhide HAt4).mono ?_
        rintro e w5 ⟨rfl, hw5⟩
        subst w5
        clear HAt4
        go_wp2
        go_end0
        refine ⟨rfl, ?_⟩
        rw [unhide H6, ← unhide Hpe, if_pos (unhide Hend)]
        exact unhide HI4
      · have hq : (((st5.pos : Int) != (st1.pos : Int) + (n : Int)) : Bool) = true := by rw [bne_iff_ne]; omega
        have Hend := hide hend
        have HF := hide (F_any R pv s st5 12 a w4 (unhide HI4).i0.rd)
        clear hend
        go_wp2_with fail
        refine (unhide HAt4).mono ?_
        rintro e w5 ⟨rfl, hw5⟩
        subst w5
        clear HAt4
        go_wp2_with fail
        refine (unhide HF).mono ?_
        rintro e w6 ⟨rfl, hr6, hg6⟩
        have HI6 := hide ((unhide HI4).reader (unhide Hb) (unhide HK) (unhide HV) hg6 hr6 (by rw [M.fail_pos]; exact hp5))
        clear HF k6 HI4 hr6 hg6
        go_wp2
        go_end0
        refine ⟨rfl, ?_⟩
        rw [unhide H6, ← unhide Hpe, if_neg (unhide Hend)]
        exact unhide HI6
  · have hq : ((name == cnt) : Bool) = false := by rw [beq_eq_false_iff_ne]; exact hnm
    have HNo := hide (none1_any R pv s st W bn a n name h.i0.rd h.oc.n hs hn hps)
    have hp2 := M.take_pos (s := s.data.toList) (n := n) hps
    unfold M.once
    rw [if_neg hnm]
    clear h hnm
    go_enter Try.func117, Try.ntmps117
    go_wp2_with fail
    refine (unhide HNo).mono ?_
    rintro e w1 ⟨rfl, hr1, hg1⟩
    have HI := hide ((unhide H).reader (unhide Hb) (unhide HK) (unhide HV) hg1 hr1 hp2)
    clear HNo hr1 hg1 k3 k4
    go_wp2
    refine bodyPost_ret (results_none rfl _ _ _) rfl ?_
    exact ⟨rfl, unhide HI⟩
set_option maxRecDepth 100000 in
set_option maxHeartbeats 2000000 in
theorem once_method {σ : Type} {V : World → σ → Prop} {read : σ → Nat → St → σ × St} {w0 : World} {R b3 b4 b5 b6 b7 bn bf : Nat} {pv : Value} {s : ByteArray} {P : List K} {cnt : List UInt8} {c1 c2 : Value} (hs : s.size ≤ 131072) (hb : Apart w0 R b3 b4 b5 b6 b7 bn bf) (hKb : Off w0 R pv P)
    (hV : ∀ W W' v row, row = some R ∨ row = some b5 → W.grownBy W' row → V W v → V W' v)
    (hread : ∀ W v st (n : Nat), n < 4294967296 → I0 w0 R pv s P V W v st → Calls Try.prog 101 #[.int .i64 (n : Int), c1, c2] W fun e W' => e = .returned (.tuple #[]) ∧ I0 w0 R pv s P V W' (read v n st).1 (read v n st).2 ∧ ∀ b cs t, b ≠ R → b ≠ bf → b < W.heap.size → Bk W b cs t → Bk W' b cs t)
    (W : World) (x : Bool × σ) (st : St) (a n : Nat) (name : List UInt8) (h : I1 w0 R b3 b4 b5 b6 b7 bn pv s P V cnt (.func (Fn.func 101) #[] #[c1, c2]) W x st) (hn : n < 4294967296) :
    Calls Try.prog 117 #[.int .i64 (a : Int), .string ⟨name.toArray⟩, .int .i64 (n : Int), .pointer (some ⟨b3, 0, none⟩), .pointer (some ⟨b4, 0, none⟩), .pointer (some ⟨b5, 0, none⟩), .pointer (some ⟨b6, 0, none⟩), .pointer (some ⟨b7, 0, none⟩)] W fun e W' => e = .returned (.tuple #[]) ∧ I1 w0 R b3 b4 b5 b6 b7 bn pv s P V cnt (.func (Fn.func 101) #[] #[c1, c2]) W' (M.once s.data.toList cnt read x a name n st).1 (M.once s.data.toList cnt read x a name n st).2 := by
  have H := hide h
  have Hread := hide hread
  have HV := hide hV
  have Hb := hide hb
  have HK := hide hKb
  have k3 : W.cell? ⟨b3, 0, none⟩ = some (.string ⟨cnt.toArray⟩) := h.oc.c.cell 0
  have k4 : W.cell? ⟨b4, 0, none⟩ = some (.func (Fn.func 104) #[] #[.pointer (some ⟨bn, 0, none⟩)]) := h.oc.p.cell 0
  have hl : s.data.toList.length = s.size := by simp
  have hps := h.i0.pos
  clear hread hV hb hKb
  by_cases hnm : name = cnt
  · subst hnm
    obtain ⟨had, v⟩ := x
    unfold M.once
    rw [if_pos rfl]
    simp only
    have k5 : W.cell? ⟨b5, 0, none⟩ = some (.bool had) := h.oc.h.cell 0
    have k6 : W.cell? ⟨b6, 0, none⟩ = some (.pointer (some ⟨R, 0, none⟩)) := h.oc.r.cell 0
    have HH := hide (h.had (unhide Hb) (unhide HK) (unhide HV) true)
    have hfz := h.oc.h.frozen 0
    cases had
    · rw [if_neg (by simp)]
      have hpe : st.pos = st.pos := rfl
      obtain ⟨st1, hst1⟩ : ∃ st1, st1 = st := ⟨_, rfl⟩
      rw [show (read v n st) = (read v n st1) by rw [hst1]]
      rw [← hst1] at HH
      have hpe : st1.pos = st.pos := by rw [hst1]
      have HRe0 := hide (fun W h => unhide Hread W v st1 n hn h)
      obtain ⟨v5, st5, h5⟩ : ∃ v5 st5, read v n st1 = (v5, st5) := ⟨_, _, rfl⟩
      rw [h5] at HRe0 ⊢
      simp only at HRe0 ⊢
      obtain ⟨st6, h6⟩ : ∃ st6, st6 = (if st5.pos = st.pos + n then st5 else M.fail st5 12 a) := ⟨_, rfl⟩
      rw [← h6]
      have H6 := hide h6
      clear h5 Hread h6
      obtain ⟨w2, hw2⟩ : ∃ w2, w2 = W.setCell ⟨b5, 0, none⟩ (.bool true) := ⟨_, rfl⟩
      rw [← hw2] at HH
      have Hw2 := hide hw2
      have Hpe := hide hpe
      clear hst1 hw2 hpe h
      go_enter Try.func117, Try.ntmps117
      go_upto_region 5 with fail
      rw [← unhide Hw2]
      clear Hw2 k3 k4 k5 k6 hfz
      have k6 : w2.cell? ⟨b6, 0, none⟩ = some (.pointer (some ⟨R, 0, none⟩)) := (unhide HH).oc.r.cell 0
      have k7 : w2.cell? ⟨b7, 0, none⟩ = some (.func (Fn.func 101) #[] #[c1, c2]) := (unhide HH).oc.f.cell 0
      have HAt := hide (At_any R pv s st1 w2 (unhide HH).i0.rd)
      have HRe := hide (unhide HRe0 w2 (unhide HH).i0)
      have hs1 : st1.pos ≤ 131072 := by have := unhide Hpe; omega
      go_wp2_with fail
      refine (unhide HAt).mono ?_
      rintro e w3 ⟨rfl, hw3⟩
      subst w3
      go_wp2_with fail
      refine (unhide HRe).mono ?_
      rintro e w4 ⟨rfl, hi4, hk4⟩
      have hz4 := (unhide HH).i0.gr.size
      have hoc : Oc w4 R b3 b4 b5 b6 b7 bn name true (.func (Fn.func 101) #[] #[c1, c2]) := by
        have hb := unhide Hb
        have o := (unhide HH).oc
        have h1 := hb.r; have h3 := hb.g3; have h4 := hb.g4; have h5 := hb.g5; have h6 := hb.g6; have h7 := hb.g7; have hn := hb.gn
        exact ⟨hk4 _ _ _ (by omega) hb.f3.symm o.c.lt o.c, hk4 _ _ _ (by omega) hb.f4.symm o.p.lt o.p, hk4 _ _ _ (by omega) hb.f5.symm o.h.lt o.h, hk4 _ _ _ (by omega) hb.f6.symm o.r.lt o.r, hk4 _ _ _ (by omega) hb.f7.symm o.f.lt o.f, hk4 _ _ _ (by omega) hb.fn.symm o.n.lt o.n⟩
      have HI4 : Hid (I1 w0 R b3 b4 b5 b6 b7 bn pv s P V name (.func (Fn.func 101) #[] #[c1, c2]) w4 (true, v5) st5) := ⟨hi4, hoc⟩
      have k6 : w4.cell? ⟨b6, 0, none⟩ = some (.pointer (some ⟨R, 0, none⟩)) := hoc.r.cell 0
      have HAt4 := hide (At_any R pv s st5 w4 hi4.rd)
      have hp5 := hi4.pos
      clear HAt HRe HH hi4 hk4 hoc k7 HRe0
      by_cases hend : st5.pos = st1.pos + n
      · have hq : (((st5.pos : Int) != (st1.pos : Int) + (n : Int)) : Bool) = false := by rw [bne_eq_false_iff_eq]; omega
        have Hend := hide hend
        clear hend
        go_wp2_with fail
        refine (unhide HAt4).mono ?_
        rintro e w5 ⟨rfl, hw5⟩
        subst w5
        clear HAt4
        go_wp2
        go_end0
        refine ⟨rfl, ?_⟩
        rw [unhide H6, ← unhide Hpe, if_pos (unhide Hend)]
        exact unhide HI4
      · have hq : (((st5.pos : Int) != (st1.pos : Int) + (n : Int)) : Bool) = true := by rw [bne_iff_ne]; omega
        have Hend := hide hend
        have HF := hide (F_any R pv s st5 12 a w4 (unhide HI4).i0.rd)
        clear hend
        go_wp2_with fail
        refine (unhide HAt4).mono ?_
        rintro e w5 ⟨rfl, hw5⟩
        subst w5
        clear HAt4
        go_wp2_with fail
        refine (unhide HF).mono ?_
        rintro e w6 ⟨rfl, hr6, hg6⟩
        have HI6 := hide ((unhide HI4).reader (unhide Hb) (unhide HK) (unhide HV) hg6 hr6 (by rw [M.fail_pos]; exact hp5))
        clear HF k6 HI4 hr6 hg6
        go_wp2
        go_end0
        refine ⟨rfl, ?_⟩
        rw [unhide H6, ← unhide Hpe, if_neg (unhide Hend)]
        exact unhide HI6
    · rw [if_pos rfl]
      have HF := hide (F_any R pv s st 11 a W h.i0.rd)
      have hp1 : (M.fail st 11 a).pos ≤ s.data.toList.length := by rw [M.fail_pos]; exact hps
      obtain ⟨st1, hst1⟩ : ∃ st1, st1 = M.fail st 11 a := ⟨_, rfl⟩
      have hpe : st1.pos = st.pos := by rw [hst1, M.fail_pos]
      rw [← hst1] at HF hp1 ⊢
      clear h hst1 HH
      have HRe0 := hide (fun W h => unhide Hread W v st1 n hn h)
      obtain ⟨v5, st5, h5⟩ : ∃ v5 st5, read v n st1 = (v5, st5) := ⟨_, _, rfl⟩
      rw [h5] at HRe0 ⊢
      simp only at HRe0 ⊢
      obtain ⟨st6, h6⟩ : ∃ st6, st6 = (if st5.pos = st.pos + n then st5 else M.fail st5 12 a) := ⟨_, rfl⟩
      rw [← h6]
      have H6 := hide h6
      clear h5 Hread h6
      go_enter Try.func117, Try.ntmps117
      go_wp2_with fail
      refine (unhide HF).mono ?_
      rintro e w1 ⟨rfl, hr1, hg1⟩
      have H1 := hide ((unhide H).reader (unhide Hb) (unhide HK) (unhide HV) hg1 hr1 hp1)
      have HH := hide ((unhide H1).had (unhide Hb) (unhide HK) (unhide HV) true)
      have k5 : w1.cell? ⟨b5, 0, none⟩ = some (.bool true) := (unhide H1).oc.h.cell 0
      have hfz := (unhide H1).oc.h.frozen 0
      obtain ⟨w2, hw2⟩ : ∃ w2, w2 = w1.setCell ⟨b5, 0, none⟩ (.bool true) := ⟨_, rfl⟩
      rw [← hw2] at HH
      have Hw2 := hide hw2
      have Hpe := hide hpe
      clear hw2 hpe k3 k4 k6 HF H1 hr1 hg1
      go_upto_region 5 with fail
      rw [← unhide Hw2]
      clear Hw2 k5 hfz
      have k6 : w2.cell? ⟨b6, 0, none⟩ = some (.pointer (some ⟨R, 0, none⟩)) := (unhide HH).oc.r.cell 0
      have k7 : w2.cell? ⟨b7, 0, none⟩ = some (.func (Fn.func 101) #[] #[c1, c2]) := (unhide HH).oc.f.cell 0
      have HAt := hide (At_any R pv s st1 w2 (unhide HH).i0.rd)
      have HRe := hide (unhide HRe0 w2 (unhide HH).i0)
      have hs1 : st1.pos ≤ 131072 := by have := unhide Hpe; omega
      go_wp2_with fail
      refine (unhide HAt).mono ?_
      rintro e w3 ⟨rfl, hw3⟩
      subst w3
      go_wp2_with fail
      refine (unhide HRe).mono ?_
      rintro e w4 ⟨rfl, hi4, hk4⟩
      have hz4 := (unhide HH).i0.gr.size
      have hoc : Oc w4 R b3 b4 b5 b6 b7 bn name true (.func (Fn.func 101) #[] #[c1, c2]) := by
        have hb := unhide Hb
        have o := (unhide HH).oc
        have h1 := hb.r; have h3 := hb.g3; have h4 := hb.g4; have h5 := hb.g5; have h6 := hb.g6; have h7 := hb.g7; have hn := hb.gn
        exact ⟨hk4 _ _ _ (by omega) hb.f3.symm o.c.lt o.c, hk4 _ _ _ (by omega) hb.f4.symm o.p.lt o.p, hk4 _ _ _ (by omega) hb.f5.symm o.h.lt o.h, hk4 _ _ _ (by omega) hb.f6.symm o.r.lt o.r, hk4 _ _ _ (by omega) hb.f7.symm o.f.lt o.f, hk4 _ _ _ (by omega) hb.fn.symm o.n.lt o.n⟩
      have HI4 : Hid (I1 w0 R b3 b4 b5 b6 b7 bn pv s P V name (.func (Fn.func 101) #[] #[c1, c2]) w4 (true, v5) st5) := ⟨hi4, hoc⟩
      have k6 : w4.cell? ⟨b6, 0, none⟩ = some (.pointer (some ⟨R, 0, none⟩)) := hoc.r.cell 0
      have HAt4 := hide (At_any R pv s st5 w4 hi4.rd)
      have hp5 := hi4.pos
      clear HAt HRe HH hi4 hk4 hoc k7 HRe0
      by_cases hend : st5.pos = st1.pos + n
      · have hq : (((st5.pos : Int) != (st1.pos : Int) + (n : Int)) : Bool) = false := by rw [bne_eq_false_iff_eq]; omega
        have Hend := hide hend
        clear hend
        go_wp2_with fail
        refine (unhide HAt4).mono ?_
        rintro e w5 ⟨rfl, hw5⟩
        subst w5
        clear HAt4
        go_wp2
        go_end0
        refine ⟨rfl, ?_⟩
        rw [unhide H6, ← unhide Hpe, if_pos (unhide Hend)]
        exact unhide HI4
      · have hq : (((st5.pos : Int) != (st1.pos : Int) + (n : Int)) : Bool) = true := by rw [bne_iff_ne]; omega
        have Hend := hide hend
        have HF := hide (F_any R pv s st5 12 a w4 (unhide HI4).i0.rd)
        clear hend
        go_wp2_with fail
        refine (unhide HAt4).mono ?_
        rintro e w5 ⟨rfl, hw5⟩
        subst w5
        clear HAt4
        go_wp2_with fail
        refine (unhide HF).mono ?_
        rintro e w6 ⟨rfl, hr6, hg6⟩
        have HI6 := hide ((unhide HI4).reader (unhide Hb) (unhide HK) (unhide HV) hg6 hr6 (by rw [M.fail_pos]; exact hp5))
        clear HF k6 HI4 hr6 hg6
        go_wp2
        go_end0
        refine ⟨rfl, ?_⟩
        rw [unhide H6, ← unhide Hpe, if_neg (unhide Hend)]
        exact unhide HI6
  · have hq : ((name == cnt) : Bool) = false := by rw [beq_eq_false_iff_ne]; exact hnm
    have HNo := hide (none1_any R pv s st W bn a n name h.i0.rd h.oc.n hs hn hps)
    have hp2 := M.take_pos (s := s.data.toList) (n := n) hps
    unfold M.once
    rw [if_neg hnm]
    clear h hnm
    go_enter Try.func117, Try.ntmps117
    go_wp2_with fail
    refine (unhide HNo).mono ?_
    rintro e w1 ⟨rfl, hr1, hg1⟩
    have HI := hide ((unhide H).reader (unhide Hb) (unhide HK) (unhide HV) hg1 hr1 hp2)
    clear HNo hr1 hg1 k3 k4
    go_wp2
    refine bodyPost_ret (results_none rfl _ _ _) rfl ?_
    exact ⟨rfl, unhide HI⟩
set_option maxRecDepth 100000 in
set_option maxHeartbeats 2000000 in
theorem once_code {σ : Type} {V : World → σ → Prop} {read : σ → Nat → St → σ × St} {w0 : World} {R b3 b4 b5 b6 b7 bn bf : Nat} {pv : Value} {s : ByteArray} {P : List K} {cnt : List UInt8} {c1 c2 : Value} (hs : s.size ≤ 131072) (hb : Apart w0 R b3 b4 b5 b6 b7 bn bf) (hKb : Off w0 R pv P)
    (hV : ∀ W W' v row, row = some R ∨ row = some b5 → W.grownBy W' row → V W v → V W' v)
    (hread : ∀ W v st (n : Nat), n < 4294967296 → I0 w0 R pv s P V W v st → Calls Try.prog 120 #[.int .i64 (n : Int), c1, c2] W fun e W' => e = .returned (.tuple #[]) ∧ I0 w0 R pv s P V W' (read v n st).1 (read v n st).2 ∧ ∀ b cs t, b ≠ R → b ≠ bf → b < W.heap.size → Bk W b cs t → Bk W' b cs t)
    (W : World) (x : Bool × σ) (st : St) (a n : Nat) (name : List UInt8) (h : I1 w0 R b3 b4 b5 b6 b7 bn pv s P V cnt (.func (Fn.func 120) #[] #[c1, c2]) W x st) (hn : n < 4294967296) :
    Calls Try.prog 117 #[.int .i64 (a : Int), .string ⟨name.toArray⟩, .int .i64 (n : Int), .pointer (some ⟨b3, 0, none⟩), .pointer (some ⟨b4, 0, none⟩), .pointer (some ⟨b5, 0, none⟩), .pointer (some ⟨b6, 0, none⟩), .pointer (some ⟨b7, 0, none⟩)] W fun e W' => e = .returned (.tuple #[]) ∧ I1 w0 R b3 b4 b5 b6 b7 bn pv s P V cnt (.func (Fn.func 120) #[] #[c1, c2]) W' (M.once s.data.toList cnt read x a name n st).1 (M.once s.data.toList cnt read x a name n st).2 := by
  have H := hide h
  have Hread := hide hread
  have HV := hide hV
  have Hb := hide hb
  have HK := hide hKb
  have k3 : W.cell? ⟨b3, 0, none⟩ = some (.string ⟨cnt.toArray⟩) := h.oc.c.cell 0
  have k4 : W.cell? ⟨b4, 0, none⟩ = some (.func (Fn.func 104) #[] #[.pointer (some ⟨bn, 0, none⟩)]) := h.oc.p.cell 0
  have hl : s.data.toList.length = s.size := by simp
  have hps := h.i0.pos
  clear hread hV hb hKb
  by_cases hnm : name = cnt
  · subst hnm
    obtain ⟨had, v⟩ := x
    unfold M.once
    rw [if_pos rfl]
    simp only
    have k5 : W.cell? ⟨b5, 0, none⟩ = some (.bool had) := h.oc.h.cell 0
    have k6 : W.cell? ⟨b6, 0, none⟩ = some (.pointer (some ⟨R, 0, none⟩)) := h.oc.r.cell 0
    have HH := hide (h.had (unhide Hb) (unhide HK) (unhide HV) true)
    have hfz := h.oc.h.frozen 0
    cases had
    · rw [if_neg (by simp)]
      have hpe : st.pos = st.pos := rfl
      obtain ⟨st1, hst1⟩ : ∃ st1, st1 = st := ⟨_, rfl⟩
      rw [show (read v n st) = (read v n st1) by rw [hst1]]
      rw [← hst1] at HH
      have hpe : st1.pos = st.pos := by rw [hst1]
      have HRe0 := hide (fun W h => unhide Hread W v st1 n hn h)
      obtain ⟨v5, st5, h5⟩ : ∃ v5 st5, read v n st1 = (v5, st5) := ⟨_, _, rfl⟩
      rw [h5] at HRe0 ⊢
      simp only at HRe0 ⊢
      obtain ⟨st6, h6⟩ : ∃ st6, st6 = (if st5.pos = st.pos + n then st5 else M.fail st5 12 a) := ⟨_, rfl⟩
      rw [← h6]
      have H6 := hide h6
      clear h5 Hread h6
      obtain ⟨w2, hw2⟩ : ∃ w2, w2 = W.setCell ⟨b5, 0, none⟩ (.bool true) := ⟨_, rfl⟩
      rw [← hw2] at HH
      have Hw2 := hide hw2
      have Hpe := hide hpe
      clear hst1 hw2 hpe h
      go_enter Try.func117, Try.ntmps117
      go_upto_region 5 with fail
      rw [← unhide Hw2]
      clear Hw2 k3 k4 k5 k6 hfz
      have k6 : w2.cell? ⟨b6, 0, none⟩ = some (.pointer (some ⟨R, 0, none⟩)) := (unhide HH).oc.r.cell 0
      have k7 : w2.cell? ⟨b7, 0, none⟩ = some (.func (Fn.func 120) #[] #[c1, c2]) := (unhide HH).oc.f.cell 0
      have HAt := hide (At_any R pv s st1 w2 (unhide HH).i0.rd)
      have HRe := hide (unhide HRe0 w2 (unhide HH).i0)
      have hs1 : st1.pos ≤ 131072 := by have := unhide Hpe; omega
      go_wp2_with fail
      refine (unhide HAt).mono ?_
      rintro e w3 ⟨rfl, hw3⟩
      subst w3
      go_wp2_with fail
      refine (unhide HRe).mono ?_
      rintro e w4 ⟨rfl, hi4, hk4⟩
      have hz4 := (unhide HH).i0.gr.size
      have hoc : Oc w4 R b3 b4 b5 b6 b7 bn name true (.func (Fn.func 120) #[] #[c1, c2]) := by
        have hb := unhide Hb
        have o := (unhide HH).oc
        have h1 := hb.r; have h3 := hb.g3; have h4 := hb.g4; have h5 := hb.g5; have h6 := hb.g6; have h7 := hb.g7; have hn := hb.gn
        exact ⟨hk4 _ _ _ (by omega) hb.f3.symm o.c.lt o.c, hk4 _ _ _ (by omega) hb.f4.symm o.p.lt o.p, hk4 _ _ _ (by omega) hb.f5.symm o.h.lt o.h, hk4 _ _ _ (by omega) hb.f6.symm o.r.lt o.r, hk4 _ _ _ (by omega) hb.f7.symm o.f.lt o.f, hk4 _ _ _ (by omega) hb.fn.symm o.n.lt o.n⟩
      have HI4 : Hid (I1 w0 R b3 b4 b5 b6 b7 bn pv s P V name (.func (Fn.func 120) #[] #[c1, c2]) w4 (true, v5) st5) := ⟨hi4, hoc⟩
      have k6 : w4.cell? ⟨b6, 0, none⟩ = some (.pointer (some ⟨R, 0, none⟩)) := hoc.r.cell 0
      have HAt4 := hide (At_any R pv s st5 w4 hi4.rd)
      have hp5 := hi4.pos
      clear HAt HRe HH hi4 hk4 hoc k7 HRe0
      by_cases hend : st5.pos = st1.pos + n
      · have hq : (((st5.pos : Int) != (st1.pos : Int) + (n : Int)) : Bool) = false := by rw [bne_eq_false_iff_eq]; omega
        have Hend := hide hend
        clear hend
        go_wp2_with fail
        refine (unhide HAt4).mono ?_
        rintro e w5 ⟨rfl, hw5⟩
        subst w5
        clear HAt4
        go_wp2
        go_end0
        refine ⟨rfl, ?_⟩
        rw [unhide H6, ← unhide Hpe, if_pos (unhide Hend)]
        exact unhide HI4
      · have hq : (((st5.pos : Int) != (st1.pos : Int) + (n : Int)) : Bool) = true := by rw [bne_iff_ne]; omega
        have Hend := hide hend
        have HF := hide (F_any R pv s st5 12 a w4 (unhide HI4).i0.rd)
        clear hend
        go_wp2_with fail
        refine (unhide HAt4).mono ?_
        rintro e w5 ⟨rfl, hw5⟩
        subst w5
        clear HAt4
        go_wp2_with fail
        refine (unhide HF).mono ?_
        rintro e w6 ⟨rfl, hr6, hg6⟩
        have HI6 := hide ((unhide HI4).reader (unhide Hb) (unhide HK) (unhide HV) hg6 hr6 (by rw [M.fail_pos]; exact hp5))
        clear HF k6 HI4 hr6 hg6
        go_wp2
        go_end0
        refine ⟨rfl, ?_⟩
        rw [unhide H6, ← unhide Hpe, if_neg (unhide Hend)]
        exact unhide HI6
    · rw [if_pos rfl]
      have HF := hide (F_any R pv s st 11 a W h.i0.rd)
      have hp1 : (M.fail st 11 a).pos ≤ s.data.toList.length := by rw [M.fail_pos]; exact hps
      obtain ⟨st1, hst1⟩ : ∃ st1, st1 = M.fail st 11 a := ⟨_, rfl⟩
      have hpe : st1.pos = st.pos := by rw [hst1, M.fail_pos]
      rw [← hst1] at HF hp1 ⊢
      clear h hst1 HH
      have HRe0 := hide (fun W h => unhide Hread W v st1 n hn h)
      obtain ⟨v5, st5, h5⟩ : ∃ v5 st5, read v n st1 = (v5, st5) := ⟨_, _, rfl⟩
      rw [h5] at HRe0 ⊢
      simp only at HRe0 ⊢
      obtain ⟨st6, h6⟩ : ∃ st6, st6 = (if st5.pos = st.pos + n then st5 else M.fail st5 12 a) := ⟨_, rfl⟩
      rw [← h6]
      have H6 := hide h6
      clear h5 Hread h6
      go_enter Try.func117, Try.ntmps117
      go_wp2_with fail
      refine (unhide HF).mono ?_
      rintro e w1 ⟨rfl, hr1, hg1⟩
      have H1 := hide ((unhide H).reader (unhide Hb) (unhide HK) (unhide HV) hg1 hr1 hp1)
      have HH := hide ((unhide H1).had (unhide Hb) (unhide HK) (unhide HV) true)
      have k5 : w1.cell? ⟨b5, 0, none⟩ = some (.bool true) := (unhide H1).oc.h.cell 0
      have hfz := (unhide H1).oc.h.frozen 0
      obtain ⟨w2, hw2⟩ : ∃ w2, w2 = w1.setCell ⟨b5, 0, none⟩ (.bool true) := ⟨_, rfl⟩
      rw [← hw2] at HH
      have Hw2 := hide hw2
      have Hpe := hide hpe
      clear hw2 hpe k3 k4 k6 HF H1 hr1 hg1
      go_upto_region 5 with fail
      rw [← unhide Hw2]
      clear Hw2 k5 hfz
      have k6 : w2.cell? ⟨b6, 0, none⟩ = some (.pointer (some ⟨R, 0, none⟩)) := (unhide HH).oc.r.cell 0
      have k7 : w2.cell? ⟨b7, 0, none⟩ = some (.func (Fn.func 120) #[] #[c1, c2]) := (unhide HH).oc.f.cell 0
      have HAt := hide (At_any R pv s st1 w2 (unhide HH).i0.rd)
      have HRe := hide (unhide HRe0 w2 (unhide HH).i0)
      have hs1 : st1.pos ≤ 131072 := by have := unhide Hpe; omega
      go_wp2_with fail
      refine (unhide HAt).mono ?_
      rintro e w3 ⟨rfl, hw3⟩
      subst w3
      go_wp2_with fail
      refine (unhide HRe).mono ?_
      rintro e w4 ⟨rfl, hi4, hk4⟩
      have hz4 := (unhide HH).i0.gr.size
      have hoc : Oc w4 R b3 b4 b5 b6 b7 bn name true (.func (Fn.func 120) #[] #[c1, c2]) := by
        have hb := unhide Hb
        have o := (unhide HH).oc
        have h1 := hb.r; have h3 := hb.g3; have h4 := hb.g4; have h5 := hb.g5; have h6 := hb.g6; have h7 := hb.g7; have hn := hb.gn
        exact ⟨hk4 _ _ _ (by omega) hb.f3.symm o.c.lt o.c, hk4 _ _ _ (by omega) hb.f4.symm o.p.lt o.p, hk4 _ _ _ (by omega) hb.f5.symm o.h.lt o.h, hk4 _ _ _ (by omega) hb.f6.symm o.r.lt o.r, hk4 _ _ _ (by omega) hb.f7.symm o.f.lt o.f, hk4 _ _ _ (by omega) hb.fn.symm o.n.lt o.n⟩
      have HI4 : Hid (I1 w0 R b3 b4 b5 b6 b7 bn pv s P V name (.func (Fn.func 120) #[] #[c1, c2]) w4 (true, v5) st5) := ⟨hi4, hoc⟩
      have k6 : w4.cell? ⟨b6, 0, none⟩ = some (.pointer (some ⟨R, 0, none⟩)) := hoc.r.cell 0
      have HAt4 := hide (At_any R pv s st5 w4 hi4.rd)
      have hp5 := hi4.pos
      clear HAt HRe HH hi4 hk4 hoc k7 HRe0
      by_cases hend : st5.pos = st1.pos + n
      · have hq : (((st5.pos : Int) != (st1.pos : Int) + (n : Int)) : Bool) = false := by rw [bne_eq_false_iff_eq]; omega
        have Hend := hide hend
        clear hend
        go_wp2_with fail
        refine (unhide HAt4).mono ?_
        rintro e w5 ⟨rfl, hw5⟩
        subst w5
        clear HAt4
        go_wp2
        go_end0
        refine ⟨rfl, ?_⟩
        rw [unhide H6, ← unhide Hpe, if_pos (unhide Hend)]
        exact unhide HI4
      · have hq : (((st5.pos : Int) != (st1.pos : Int) + (n : Int)) : Bool) = true := by rw [bne_iff_ne]; omega
        have Hend := hide hend
        have HF := hide (F_any R pv s st5 12 a w4 (unhide HI4).i0.rd)
        clear hend
        go_wp2_with fail
        refine (unhide HAt4).mono ?_
        rintro e w5 ⟨rfl, hw5⟩
        subst w5
        clear HAt4
        go_wp2_with fail
        refine (unhide HF).mono ?_
        rintro e w6 ⟨rfl, hr6, hg6⟩
        have HI6 := hide ((unhide HI4).reader (unhide Hb) (unhide HK) (unhide HV) hg6 hr6 (by rw [M.fail_pos]; exact hp5))
        clear HF k6 HI4 hr6 hg6
        go_wp2
        go_end0
        refine ⟨rfl, ?_⟩
        rw [unhide H6, ← unhide Hpe, if_neg (unhide Hend)]
        exact unhide HI6
  · have hq : ((name == cnt) : Bool) = false := by rw [beq_eq_false_iff_ne]; exact hnm
    have HNo := hide (none1_any R pv s st W bn a n name h.i0.rd h.oc.n hs hn hps)
    have hp2 := M.take_pos (s := s.data.toList) (n := n) hps
    unfold M.once
    rw [if_neg hnm]
    clear h hnm
    go_enter Try.func117, Try.ntmps117
    go_wp2_with fail
    refine (unhide HNo).mono ?_
    rintro e w1 ⟨rfl, hr1, hg1⟩
    have HI := hide ((unhide H).reader (unhide Hb) (unhide HK) (unhide HV) hg1 hr1 hp2)
    clear HNo hr1 hg1 k3 k4
    go_wp2
    refine bodyPost_ret (results_none rfl _ _ _) rfl ?_
    exact ⟨rfl, unhide HI⟩
end Go.Proofs.Ytgihfcjddkpkaaa.Rc
