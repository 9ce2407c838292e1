/-
  Package class: a handler, and lists of them.
-/
import Derived.Test.YtbgpkkbejbidlacCw
import Derived.Test.YtbgpkkbejbidlacMgB
import Derived.Test.YtbgpkkbejbidlacRp
import Derived.Deep.RegionHeld3
namespace Go.Proofs.Ytbgpkkbejbidlac.Cl
open Go.RowKit
/-- A number of two bytes. -/
theorem U16_any (R : Nat) (pv : Value) (s : ByteArray) (st : St) (w : World) (h : Rd w R pv s st) (hs : s.size ≤ 131072) (hp : st.pos ≤ s.data.toList.length) :
    Calls Try.prog 57 #[.pointer (some ⟨R, 0, none⟩)] w fun x w' => x = .returned (.int .u16 ((M.rd s.data.toList 2 st).1 : Nat)) ∧ Rd w' R pv s (M.rd s.data.toList 2 st).2 ∧ w.grownBy w' (some R) := Uint16_any R pv s st w h hs (by simpa using hp)
def Hn.val (h : Hn) : Value := .agg #[.int .i64 (h.from_ : Int), .int .i64 (h.to_ : Int), .int .i64 (h.target : Int), .int .u16 (h.type_ : Int)]
theorem wrapi {n : Nat} (h : n < 65536) : IntKind.i64.wrap (n : Int) = (n : Int) := by
  rw [IntKind.wrap_i64]; omega
theorem Rd.other {w : World} {R : Nat} {pv : Value} {s : ByteArray} {st : St} (h : Rd w R pv s st) {b : Nat} (i : Nat) (v : Value) (hne : R ≠ b) : Rd (w.setCell ⟨b, i, none⟩ v) R pv s st := h.kept (grown_set w b i v) (by simpa using hne)
theorem end4 {w w1 : World} {R Q : Nat} {pv : Value} {s : ByteArray} {st' : St} {a b c d : Value} {t : TypeId} (hR : R < w.heap.size) (hg : w.grownBy w1 (some R)) (hr : Rd w1 R pv s st') (hQ : Bk w1 Q #[a, b, c, d] t) (hQw : w.heap.size ≤ Q) (x y z u : Value) :
    Bk ((((w1.setCell ⟨Q, 0, none⟩ x).setCell ⟨Q, 1, none⟩ y).setCell ⟨Q, 2, none⟩ z).setCell ⟨Q, 3, none⟩ u) Q #[x, y, z, u] t ∧ Rd ((((w1.setCell ⟨Q, 0, none⟩ x).setCell ⟨Q, 1, none⟩ y).setCell ⟨Q, 2, none⟩ z).setCell ⟨Q, 3, none⟩ u) R pv s st' ∧
      w.grownBy ((((w1.setCell ⟨Q, 0, none⟩ x).setCell ⟨Q, 1, none⟩ y).setCell ⟨Q, 2, none⟩ z).setCell ⟨Q, 3, none⟩ u) (some R) := by
  have hRQ : R ≠ Q := by omega
  exact ⟨(((hQ.set 0 x).set 1 y).set 2 z).set 3 u, (((hr.other 0 x hRQ).other 1 y hRQ).other 2 z hRQ).other 3 u hRQ, grown_new (grown_new (grown_new (grown_new hg hQw 0 x) hQw 1 y) hQw 2 z) hQw 3 u⟩
set_option maxRecDepth 100000 in
set_option maxHeartbeats 1000000 in
theorem handler_any (R : Nat) (pv : Value) (s : ByteArray) (st : St) (w : World) (h : Rd w R pv s st) (hs : s.size ≤ 131072) (hp : st.pos ≤ s.data.toList.length) :
    Calls Try.prog 119 #[.pointer (some ⟨R, 0, none⟩)] w fun x w' => x = .returned (Hn.val (M.hnd s.data.toList st).1) ∧ Rd w' R pv s (M.hnd s.data.toList st).2 ∧ w.grownBy w' (some R) := by
  have hRl := h.lt
  obtain ⟨wA, hwA⟩ : ∃ wA, wA = w.alloc (.cells #[.int .i64 0, .int .i64 0, .int .i64 0, .int .u16 0] 152) := ⟨_, rfl⟩
  have hgA : w.grownBy wA (some R) := by rw [hwA]; exact World.grownBy_alloc w _ _
  have hQA : Bk wA w.heap.size #[.int .i64 0, .int .i64 0, .int .i64 0, .int .u16 0] 152 := by rw [hwA]; exact Bk.new _ _ _
  have hrA : Rd wA R pv s st := by rw [hwA]; exact h.kept (World.grownBy_alloc w _ none) (by simp)
  have HU := hide (fun (st : St) (W : World) (hW : Rd W R pv s st) (hp : st.pos ≤ s.data.toList.length) => U16_any R pv s st W hW hs hp)
  have HwA := hide hwA
  clear hwA h
  go_enter Try.func119, Try.ntmps119
  go_upto_region 1 with fail
  rw [← unhide HwA]
  clear HwA
  have c1 := M.rd2 s.data.toList st
  have c2 := M.rd2 s.data.toList (M.rd s.data.toList 2 st).2
  have c3 := M.rd2 s.data.toList (M.rd s.data.toList 2 (M.rd s.data.toList 2 st).2).2
  have c4 := M.rd2 s.data.toList (M.rd s.data.toList 2 (M.rd s.data.toList 2 (M.rd s.data.toList 2 st).2).2).2
  have d1 := wrapi c1
  have d2 := wrapi c2
  have d3 := wrapi c3
  go_region_held3 (fun w' => True) (trivial)
    ((go_at_call 57; first
      | (refine (unhide HU _ _ hrA.drew hp).mono ?_; rintro e w1 ⟨rfl, hr1, hg1⟩; have hp1 := M.rd_pos (n := 2) hp)
      | (refine (unhide HU _ _ hr1 hp1).mono ?_; rintro e w2 ⟨rfl, hr2, hg2⟩; have hp2 := M.rd_pos (n := 2) hp1)
      | (refine (unhide HU _ _ hr2 hp2).mono ?_; rintro e w3 ⟨rfl, hr3, hg3⟩; have hp3 := M.rd_pos (n := 2) hp2)
      | (refine (unhide HU _ _ hr3 hp3).mono ?_; rintro e w4 ⟨rfl, hr4, hg4⟩; have hQ1 := Bk.kept (w := wA.drew) hQA hg1 (by simp; omega); have hQ2 := hQ1.kept hg2 (by simp; omega); have hQ3 := hQ2.kept hg3 (by simp; omega); have hQ4 := hQ3.kept hg4 (by simp; omega); have q0 := hQ4.cell 0; have q1 := hQ4.cell 1; have q2 := hQ4.cell 2; have q3 := hQ4.cell 3; have qf := hQ4.frozen; simp at q0 q1 q2 q3)))
  have hg0 : w.grownBy w1 (some R) := grown_trans hgA ⟨hg1.os, hg1.tape, hg1.output, hg1.size, hg1.block⟩
  have hgw := grown_trans (grown_trans (grown_trans hg0 hg2) hg3) hg4
  have HE := hide (end4 hRl hgw hr4 hQ4 (Nat.le_refl _) (.int .i64 ((M.rd s.data.toList 2 st).1 : Int)) (.int .i64 ((M.rd s.data.toList 2 (M.rd s.data.toList 2 st).2).1 : Int)) (.int .i64 ((M.rd s.data.toList 2 (M.rd s.data.toList 2 (M.rd s.data.toList 2 st).2).2).1 : Int)) (.int .u16 ((M.rd s.data.toList 2 (M.rd s.data.toList 2 (M.rd s.data.toList 2 (M.rd s.data.toList 2 st).2).2).2).1 : Int)))
  clear hr1 hr2 hr3 hr4 hg0 hg1 hg2 hg3 hg4 hQ1 hQ2 hQ3 hQ4 hgw hgA hQA hrA HU q0 q1 q2 q3 qf
  go_wp2
  obtain ⟨e1, e2, e3⟩ := unhide HE
  refine bodyPost_ret (results_cell_row Try.results119 _ _ w.heap.size 152 _ (0, 0) _ rfl e1 Try.underlying152 rfl (by kernel_rfl)) rfl ?_
  exact ⟨rfl, e2, e3⟩
def hcells (h : Hn) : List Value := [.int .i64 (h.from_ : Int), .int .i64 (h.to_ : Int), .int .i64 (h.target : Int), .int .u16 (h.type_ : Int)]
def HC (l : List Hn) : List Value := l.flatMap hcells
theorem HC_snoc (l : List Hn) (h : Hn) : HC (l ++ [h]) = HC l ++ hcells h := by simp [HC]
theorem Try.info152 : (Try.prog.info? 152).map (fun i => (i.zero, i.size, i.bytes)) = some (some (.agg #[.int .i64 0, .int .i64 0, .int .i64 0, .int .u16 0]), 4, 32) := by kernel_rfl
theorem own152_slice {w : World} {B n : Nat} {v : Value} {xs : List Value} (h : w.ownsRow B 152 4 v n xs) : ∃ ad c, v = .slice ad n c := by
  rcases h.2 with ⟨rfl, h0⟩ | ⟨g, cap, cur, rfl, _⟩
  · exact ⟨none, 0, by rw [h0]⟩
  · exact ⟨_, _, rfl⟩
theorem Good_q (R : Nat) (pv : Value) (s : ByteArray) (st : St) (w : World) (h : Rd w R pv s st) : Calls Try.prog 59 #[.pointer (some ⟨R, 0, none⟩)] w fun e w' => e = .returned (.bool (decide (st.e = 0))) ∧ w' = w := Good_any R pv s st w h
set_option maxRecDepth 100000 in
set_option maxHeartbeats 1000000 in
theorem handlers_any (R : Nat) (pv : Value) (s : ByteArray) (st : St) (w : World) (h : Rd w R pv s st) (hs : s.size ≤ 131072) (hp : st.pos ≤ s.data.toList.length) :
    Calls Try.prog 118 #[.pointer (some ⟨R, 0, none⟩), .func (Fn.func 119) #[.pointer (some ⟨R, 0, none⟩)] #[]] w fun x w' => ∃ v, x = .returned v ∧ w'.ownsRow w.heap.size 152 4 v (M.lst s.data.toList (M.hnd s.data.toList) st).1.length (HC (M.lst s.data.toList (M.hnd s.data.toList) st).1) ∧ Rd w' R pv s (M.lst s.data.toList (M.hnd s.data.toList) st).2 ∧ w.grownBy w' (some R) := by
  obtain ⟨i0, hi, hz0, hz1, hz2⟩ := info_parts Try.info152
  have hRl := h.lt
  have HU := hide (U16_any R pv s st w h hs hp)
  have hx := M.rd2 s.data.toList st
  have hp1 := M.rd_pos (n := 2) hp
  unfold M.lst
  obtain ⟨x, st1, hT⟩ : ∃ x st1, M.rd s.data.toList 2 st = (x, st1) := ⟨_, _, rfl⟩
  rw [hT] at hx HU hp1 ⊢
  simp only at hx HU hp1 ⊢
  clear hT h
  go_enter Try.func118, Try.ntmps118
  go_wp2_with fail
  refine (unhide HU).mono ?_
  rintro e w1 ⟨rfl, hr1, hg1⟩
  have Hr1 := hide hr1
  have Hg1 := hide hg1
  clear HU hr1 hg1
  go_wp2_with fail
  go_loopw [5, 6] (fun v i wr => ∃ (m : Nat) (A : List Hn) (st2 : St), m ≤ x ∧ i = .int .u16 m ∧ Hid (M.Rs (M.hnd s.data.toList) x st1 A m st2) ∧ Hid (wr.ownsRow w.heap.size 152 4 v A.length (HC A)) ∧ Hid (Rd wr R pv s st2) ∧ Hid (w.grownBy wr (some R)) ∧ st2.pos ≤ s.data.toList.length) (fun _ i _ => (intOf i).toNat)
  case atStart => exact ⟨x, [], st1, Nat.le_refl _, rfl, M.Rs.zero, World.ownsRow_nil _ _ _ _, unhide Hr1, unhide Hg1, hp1⟩
  case round =>
    clear Hr1 Hg1 hp1
    obtain ⟨m, A, st2, hm, rfl, HRs, HO, HR, HG, hp2⟩ := hrel
    obtain ⟨va, vc, ev⟩ := own152_slice (unhide HO)
    subst ev
    have HGd := hide (Good_any R pv s st2 wr (unhide HR))
    by_cases hm0 : m = 0
    · subst hm0
      have HD := hide ((unhide HRs).done)
      go_wp2
      go_ret
      exact ⟨_, rfl, by rw [unhide HD]; exact unhide HO, by rw [unhide HD]; exact unhide HR, unhide HG⟩
    · have hmi : (0 : Int) < (m : Int) := by omega
      by_cases he : st2.e = 0
      · rw [decide_eq_true he] at HGd
        obtain ⟨n, hn⟩ : ∃ n, m = n + 1 := ⟨m - 1, by omega⟩
        have hst := unhide HRs
        rw [hn] at hst
        have HSt := hide (hst.step he)
        have hAl := hst.1
        have HH := hide (handler_any R pv s st2 wr (unhide HR) hs hp2)
        have hp3 := M.hnd_pos (s := s.data.toList) hp2
        obtain ⟨c, st3, hc⟩ : ∃ c st3, M.hnd s.data.toList st2 = (c, st3) := ⟨_, _, rfl⟩
        rw [hc] at HH HSt hp3
        simp only at HH HSt hp3
        unfold Hn.val at HH
        have hNl : A.length ≤ 65535 := by omega
        have Hn1 := hide hn
        have He := hide he
        clear hn he hst hAl hc HRs hm0
        go_wp2_with fail
        refine (unhide HGd).mono ?_
        rintro e w2 ⟨rfl, hw2⟩
        subst w2
        go_wp2_with fail
        refine (unhide HH).mono ?_
        rintro e w2 ⟨rfl, hr2, hg2⟩
        have hwz := (unhide HG).size
        have hrow := ins_kept (unhide HO) hg2 (fun b e1 e2 => by cases e1; have := (ins_in (unhide HO) e2).1; omega)
        have hgw2 := grown_trans (unhide HG) hg2
        have hw2z := hgw2.size
        clear HH HGd HG HR HO hg2
        go_wp2_with (at_builtin; refine wpList_append_own_at _ rfl _ _ 97 rfl w.heap.size 152 i0 (.agg #[.int .i64 0, .int .i64 0, .int .i64 0, .int .u16 0]) 4 32 Try.underlying97 hi hz0 hz1 hz2 rfl (by decide) _ A.length (HC A) rfl (hrow.alloc _) ⟨w2.heap.size, 0, none⟩ 1 1 [.int .i64 (c.from_ : Int), .int .i64 (c.to_ : Int), .int .i64 (c.target : Int), .int .u16 (c.type_ : Int)] rfl rfl ?c1 ?c2 ?c3 ?c4 ?c5 ?_)
        case c1 =>
          intro j u hj
          rw [Addr.add_lit, Nat.zero_add, (Bk.new w2 _ 152).cell j]
          simpa using hj
        case c2 => intro u hu; simp at hu; rcases hu with rfl | rfl | rfl | rfl <;> rfl
        case c3 => unfold maxLen; omega
        case c4 => omega
        case c5 => simp; omega
        intro v' w4 hown' hgrow _ hbv
        have hlt2 := (hrow.alloc (.cells #[.int .i64 (c.from_ : Int), .int .i64 (c.to_ : Int), .int .i64 (c.target : Int), .int .u16 (c.type_ : Int)] 152)).lt
        have hgw4 := grown_own (grown_alloc hgw2 (.cells #[.int .i64 (c.from_ : Int), .int .i64 (c.to_ : Int), .int .i64 (c.target : Int), .int .u16 (c.type_ : Int)] 152)) hgrow (fun b e => by have := (hlt2 b e).1; omega)
        have hr4 : Rd w4 R pv s st3 := (hr2.kept (World.grownBy_alloc w2 _ none) (by simp)).kept hgrow (fun e => by have := (hlt2 R e.symm).1; omega)
        have HO4 : Hid (w4.ownsRow w.heap.size 152 4 v' (A ++ [c]).length (HC (A ++ [c]))) := by
          rw [HC_snoc, List.length_append]; exact hown'
        have Hr4 := hide hr4
        have Hg4 := hide hgw4
        have hn := unhide Hn1
        clear hown' hgrow hbv hgw4 hr4 hlt2 hgw2 hr2 hrow
        have hm1 : (m : Int) - 1 = ((n : Nat) : Int) := by omega
        go_wp2
        go_roundw
        case rel => exact ⟨n, A ++ [c], st3, by omega, by go_num, HSt, HO4, Hr4, Hg4, hp3⟩
        case measure => simp [intOf]; omega
      · rw [decide_eq_false he] at HGd
        have HD := hide ((unhide HRs).stop he)
        clear he hm0
        go_wp2_with fail
        refine (unhide HGd).mono ?_
        rintro e w2 ⟨rfl, hw2⟩
        subst w2
        go_wp2
        go_ret
        exact ⟨_, rfl, by rw [unhide HD]; exact unhide HO, by rw [unhide HD]; exact unhide HR, unhide HG⟩
end Go.Proofs.Ytbgpkkbejbidlac.Cl
