/-
  Package class: what is done with attributes of which one counts.
-/
import Derived.Test.YtbgpkkbejbidlacCa
namespace Go.Proofs.Ytbgpkkbejbidlac.Cl
open Go.RowKit
/-- What a closure of once holds. -/
structure Oc (w : World) (R b3 b4 b5 b6 b7 bn : Nat) (cnt : List UInt8) (had : Bool) (rf : Value) : Prop where
  c : Bk w b3 #[.string ⟨cnt.toArray⟩] 9
  p : Bk w b4 #[.func (Fn.func 104) #[] #[.pointer (some ⟨bn, 0, none⟩)]] 143
  h : Bk w b5 #[.bool had] 4
  r : Bk w b6 #[.pointer (some ⟨R, 0, none⟩)] 135
  f : Bk w b7 #[rf] 70
  n : Bk w bn #[.pointer (some ⟨R, 0, none⟩)] 135
/-- Its cells lie apart, behind a world. -/
structure Apart (w0 : World) (R b3 b4 b5 b6 b7 bn bf : Nat) : Prop where
  r : R < w0.heap.size
  g3 : w0.heap.size ≤ b3
  g4 : w0.heap.size ≤ b4
  g5 : w0.heap.size ≤ b5
  g6 : w0.heap.size ≤ b6
  g7 : w0.heap.size ≤ b7
  gn : w0.heap.size ≤ bn
  n53 : b5 ≠ b3
  n54 : b5 ≠ b4
  n56 : b5 ≠ b6
  n57 : b5 ≠ b7
  n5n : b5 ≠ bn
  f3 : bf ≠ b3
  f4 : bf ≠ b4
  f5 : bf ≠ b5
  f6 : bf ≠ b6
  f7 : bf ≠ b7
  fn : bf ≠ bn
/-- A pool lies ahead of a world, and not in the reader. -/
def Off (w0 : World) (R : Nat) (pv : Value) (P : List K) : Prop := P ≠ [] → ∀ b o n c, pv = .slice (some ⟨b, o, none⟩) n c → b ≠ R ∧ b < w0.heap.size
structure I0 {σ : Type} (w0 : World) (R : Nat) (pv : Value) (s : ByteArray) (P : List K) (V : World → σ → Prop) (W : World) (v : σ) (st : St) : Prop where
  rd : Rd W R pv s st
  pos : st.pos ≤ s.data.toList.length
  pool : KIn W pv P
  val : V W v
  gr : w0.grownBy W (some R)
structure I1 {σ : Type} (w0 : World) (R b3 b4 b5 b6 b7 bn : Nat) (pv : Value) (s : ByteArray) (P : List K) (V : World → σ → Prop) (cnt : List UInt8) (rf : Value) (W : World) (x : Bool × σ) (st : St) : Prop where
  i0 : I0 w0 R pv s P V W x.2 st
  oc : Oc W R b3 b4 b5 b6 b7 bn cnt x.1 rf
section
variable {w0 w w' : World} {R b3 b4 b5 b6 b7 bn bf : Nat} {cnt : List UInt8} {had : Bool} {rf : Value}
theorem Oc.kept {row : Option Nat} (h : Oc w R b3 b4 b5 b6 b7 bn cnt had rf) (hg : w.grownBy w' row) (hr : ∀ b, row = some b → b ≠ b3 ∧ b ≠ b4 ∧ b ≠ b5 ∧ b ≠ b6 ∧ b ≠ b7 ∧ b ≠ bn) : Oc w' R b3 b4 b5 b6 b7 bn cnt had rf :=
  ⟨h.c.kept hg fun e => (hr _ e.symm).1 rfl, h.p.kept hg fun e => (hr _ e.symm).2.1 rfl, h.h.kept hg fun e => (hr _ e.symm).2.2.1 rfl, h.r.kept hg fun e => (hr _ e.symm).2.2.2.1 rfl, h.f.kept hg fun e => (hr _ e.symm).2.2.2.2.1 rfl, h.n.kept hg fun e => (hr _ e.symm).2.2.2.2.2 rfl⟩
end
section
variable {σ : Type} {V : World → σ → Prop} {w0 W W' : World} {R b3 b4 b5 b6 b7 bn bf : Nat} {pv : Value} {s : ByteArray} {P : List K} {cnt : List UInt8} {rf : Value} {x : Bool × σ} {st st' : St}
theorem I1.reader (h : I1 w0 R b3 b4 b5 b6 b7 bn pv s P V cnt rf W x st) (hb : Apart w0 R b3 b4 b5 b6 b7 bn bf) (hK : Off w0 R pv P) (hV : ∀ W W' v row, row = some R ∨ row = some b5 → W.grownBy W' row → V W v → V W' v)
    (hg : W.grownBy W' (some R)) (hr : Rd W' R pv s st') (hp : st'.pos ≤ s.data.toList.length) : I1 w0 R b3 b4 b5 b6 b7 bn pv s P V cnt rf W' x st' := by
  have h1 := hb.r; have h3 := hb.g3; have h4 := hb.g4; have h5 := hb.g5; have h6 := hb.g6; have h7 := hb.g7; have hn := hb.gn
  exact ⟨⟨hr, hp, h.i0.pool.kept hg fun hne b o n c e => by have := hK hne b o n c e; simpa using this.1, hV _ _ _ _ (.inl rfl) hg h.i0.val, grown_trans h.i0.gr hg⟩, h.oc.kept hg fun b e => by cases e; omega⟩
theorem I1.had (h : I1 w0 R b3 b4 b5 b6 b7 bn pv s P V cnt rf W x st) (hb : Apart w0 R b3 b4 b5 b6 b7 bn bf) (hK : Off w0 R pv P) (hV : ∀ W W' v row, row = some R ∨ row = some b5 → W.grownBy W' row → V W v → V W' v) (b : Bool) :
    I1 w0 R b3 b4 b5 b6 b7 bn pv s P V cnt rf (W.setCell ⟨b5, 0, none⟩ (.bool b)) (b, x.2) st := by
  have h1 := hb.r; have h5 := hb.g5
  have hg := grown_set W b5 0 (.bool b)
  refine ⟨⟨h.i0.rd.other 0 _ (by omega), h.i0.pos, h.i0.pool.kept hg fun hne b' o n c e => by have := (hK hne b' o n c e).2; simp; omega, hV _ _ _ _ (.inr rfl) hg h.i0.val, grown_new h.i0.gr h5 0 _⟩, ?_⟩
  exact ⟨h.oc.c.other 0 _ hb.n53.symm, h.oc.p.other 0 _ hb.n54.symm, h.oc.h.set 0 _, h.oc.r.other 0 _ hb.n56.symm, h.oc.f.other 0 _ hb.n57.symm, h.oc.n.other 0 _ hb.n5n.symm⟩
end
theorem T_any (R : Nat) (pv : Value) (s : ByteArray) (st : St) (n : Nat) (w : World) (h : Rd w R pv s st) (hs : s.size ≤ 131072) (hn : n < 4294967296) (hp : st.pos ≤ s.data.toList.length) :
    Calls Try.prog 96 #[.pointer (some ⟨R, 0, none⟩), .int .i64 (n : Int)] w fun x w' => x = .returned (.string ⟨(M.take s.data.toList n st).1.toArray⟩) ∧ Rd w' R pv s (M.take s.data.toList n st).2 ∧ w.grownBy w' (some R) := Take_any R pv s st n w h hs (by omega) (by simpa using hp)
set_option maxRecDepth 100000 in
theorem none1_any (R : Nat) (pv : Value) (s : ByteArray) (st : St) (w : World) (bn a n : Nat) (name : List UInt8) (h : Rd w R pv s st) (hb : Bk w bn #[.pointer (some ⟨R, 0, none⟩)] 135) (hs : s.size ≤ 131072) (hn : n < 4294967296) (hp : st.pos ≤ s.data.toList.length) :
    Calls Try.prog 104 #[.int .i64 (a : Int), .string ⟨name.toArray⟩, .int .i64 (n : Int), .pointer (some ⟨bn, 0, none⟩)] w fun x w' => x = .returned (.tuple #[]) ∧ Rd w' R pv s (M.take s.data.toList n st).2 ∧ w.grownBy w' (some R) := by
  have HT := hide (T_any R pv s st n w h hs hn hp)
  have k : w.cell? ⟨bn, 0, none⟩ = some (.pointer (some ⟨R, 0, none⟩)) := hb.cell 0
  clear h hb
  go_enter Try.func104, Try.ntmps104
  go_wp2_with fail
  refine (unhide HT).mono ?_
  rintro e w1 ⟨rfl, hr1, hg1⟩
  clear k HT
  go_wp2
  go_end0
  exact ⟨rfl, hr1, hg1⟩
set_option maxRecDepth 100000 in
set_option maxHeartbeats 2000000 in
theorem once_field {σ : Type} {V : World → σ → Prop} {read : σ → Nat → St → σ × St} {w0 : World} {R b3 b4 b5 b6 b7 bn bf : Nat} {pv : Value} {s : ByteArray} {P : List K} {cnt : List UInt8} {c1 c2 : Value} (hs : s.size ≤ 131072) (hb : Apart w0 R b3 b4 b5 b6 b7 bn bf) (hKb : Off w0 R pv P)
    (hV : ∀ W W' v row, row = some R ∨ row = some b5 → W.grownBy W' row → V W v → V W' v)
    (hread : ∀ W v st (n : Nat), n < 4294967296 → I0 w0 R pv s P V W v st → Calls Try.prog 100 #[.int .i64 (n : Int), c1, c2] W fun e W' => e = .returned (.tuple #[]) ∧ I0 w0 R pv s P V W' (read v n st).1 (read v n st).2 ∧ ∀ b cs t, b ≠ R → b ≠ bf → b < W.heap.size → Bk W b cs t → Bk W' b cs t)
    (W : World) (x : Bool × σ) (st : St) (a n : Nat) (name : List UInt8) (h : I1 w0 R b3 b4 b5 b6 b7 bn pv s P V cnt (.func (Fn.func 100) #[] #[c1, c2]) W x st) (hn : n < 4294967296) :
    Calls Try.prog 117 #[.int .i64 (a : Int), .string ⟨name.toArray⟩, .int .i64 (n : Int), .pointer (some ⟨b3, 0, none⟩), .pointer (some ⟨b4, 0, none⟩), .pointer (some ⟨b5, 0, none⟩), .pointer (some ⟨b6, 0, none⟩), .pointer (some ⟨b7, 0, none⟩)] W fun e W' => e = .returned (.tuple #[]) ∧ I1 w0 R b3 b4 b5 b6 b7 bn pv s P V cnt (.func (Fn.func 100) #[] #[c1, c2]) W' (M.once s.data.toList cnt read x a name n st).1 (M.once s.data.toList cnt read x a name n st).2 := by
  have H := hide h
  have Hread := hide hread
  have HV := hide hV
  have Hb := hide hb
  have HK := hide hKb
  have k3 : W.cell? ⟨b3, 0, none⟩ = some (.string ⟨cnt.toArray⟩) := h.oc.c.cell 0
  have k4 : W.cell? ⟨b4, 0, none⟩ = some (.func (Fn.func 104) #[] #[.pointer (some ⟨bn, 0, none⟩)]) := h.oc.p.cell 0
  have hl : s.data.toList.length = s.size := by simp
  have hps := h.i0.pos
  clear hread hV hb hKb
  by_cases hnm : name = cnt
  · subst hnm
    obtain ⟨had, v⟩ := x
    unfold M.once
    rw [if_pos rfl]
    simp only
    have k5 : W.cell? ⟨b5, 0, none⟩ = some (.bool had) := h.oc.h.cell 0
    have k6 : W.cell? ⟨b6, 0, none⟩ = some (.pointer (some ⟨R, 0, none⟩)) := h.oc.r.cell 0
    have HH := hide (h.had (unhide Hb) (unhide HK) (unhide HV) true)
    have hfz := h.oc.h.frozen 0
    cases had
    · rw [if_neg (by simp)]
      have hpe : st.pos = st.pos := rfl
      obtain ⟨st1, hst1⟩ : ∃ st1, st1 = st := ⟨_, rfl⟩
      rw [show (read v n st) = (read v n st1) by rw [hst1]]
      rw [← hst1] at HH
      have hpe : st1.pos = st.pos := by rw [hst1]
      have HRe0 := hide (fun W h => unhide Hread W v st1 n hn h)
      obtain ⟨v5, st5, h5⟩ : ∃ v5 st5, read v n st1 = (v5, st5) := ⟨_, _, rfl⟩
      rw [h5] at HRe0 ⊢
      simp only at HRe0 ⊢
      obtain ⟨st6, h6⟩ : ∃ st6, st6 = (if st5.pos = st.pos + n then st5 else M.fail st5 12 a) := ⟨_, rfl⟩
      rw [← h6]
      have H6 := hide h6
      clear h5 Hread h6
      obtain ⟨w2, hw2⟩ : ∃ w2, w2 = W.setCell ⟨b5, 0, none⟩ (.bool true) := ⟨_, rfl⟩
      rw [← hw2] at HH
      have Hw2 := hide hw2
      have Hpe := hide hpe
      clear hst1 hw2 hpe h
      go_enter Try.func117, Try.ntmps117
      go_upto_region 5 with fail
      rw [← unhide Hw2]
      clear Hw2 k3 k4 k5 k6 hfz
      have k6 : w2.cell? ⟨b6, 0, none⟩ = some (.pointer (some ⟨R, 0, none⟩)) := (unhide HH).oc.r.cell 0
      have k7 : w2.cell? ⟨b7, 0, none⟩ = some (.func (Fn.func 100) #[] #[c1, c2]) := (unhide HH).oc.f.cell 0
      have HAt := hide (At_any R pv s st1 w2 (unhide HH).i0.rd)
      have HRe := hide (unhide HRe0 w2 (unhide HH).i0)
      have hs1 : st1.pos ≤ 131072 := by have := unhide Hpe; omega
      go_wp2_with fail
      refine (unhide HAt).mono ?_
      rintro e w3 ⟨rfl, hw3⟩
      subst w3
      go_wp2_with fail
      refine (unhide HRe).mono ?_
      rintro e w4 ⟨rfl, hi4, hk4⟩
      have hz4 := (unhide HH).i0.gr.size
      have hoc : Oc w4 R b3 b4 b5 b6 b7 bn name true (.func (Fn.func 100) #[] #[c1, c2]) := by
        have hb := unhide Hb
        have o := (unhide HH).oc
        have h1 := hb.r; have h3 := hb.g3; have h4 := hb.g4; have h5 := hb.g5; have h6 := hb.g6; have h7 := hb.g7; have hn := hb.gn
        exact ⟨hk4 _ _ _ (by omega) hb.f3.symm o.c.lt o.c, hk4 _ _ _ (by omega) hb.f4.symm o.p.lt o.p, hk4 _ _ _ (by omega) hb.f5.symm o.h.lt o.h, hk4 _ _ _ (by omega) hb.f6.symm o.r.lt o.r, hk4 _ _ _ (by omega) hb.f7.symm o.f.lt o.f, hk4 _ _ _ (by omega) hb.fn.symm o.n.lt o.n⟩
      have HI4 : Hid (I1 w0 R b3 b4 b5 b6 b7 bn pv s P V name (.func (Fn.func 100) #[] #[c1, c2]) w4 (true, v5) st5) := ⟨hi4, hoc⟩
      have k6 : w4.cell? ⟨b6, 0, none⟩ = some (.pointer (some ⟨R, 0, none⟩)) := hoc.r.cell 0
      have HAt4 := hide (At_any R pv s st5 w4 hi4.rd)
      have hp5 := hi4.pos
      clear HAt HRe HH hi4 hk4 hoc k7 HRe0
      by_cases hend : st5.pos = st1.pos + n
      · have hq : (((st5.pos : Int) != (st1.pos : Int) + (n : Int)) : Bool) = false := by rw [bne_eq_false_iff_eq]; omega
        have Hend := hide hend
        clear hend
        go_wp2_with fail
        refine (unhide HAt4).mono ?_
        rintro e w5 ⟨rfl, hw5⟩
        subst w5
        clear HAt4
        go_wp2
        go_end0
        refine ⟨rfl, ?_⟩
        rw [unhide H6, ← unhide Hpe, if_pos (unhide Hend)]
        exact unhide HI4
      · have hq : (((st5.pos : Int) != (st1.pos : Int) + (n : Int)) : Bool) = true := by rw [bne_iff_ne]; omega
        have Hend := hide hend
        have HF := hide (F_any R pv s st5 12 a w4 (unhide HI4).i0.rd)
        clear hend
        go_wp2_with fail
        refine (unhide HAt4).mono ?_
        rintro e w5 ⟨rfl, hw5⟩
        subst w5
        clear HAt4
        go_wp2_with fail
        refine (unhide HF).mono ?_
        rintro e w6 ⟨rfl, hr6, hg6⟩
        have HI6 := hide ((unhide HI4).reader (unhide Hb) (unhide HK) (unhide HV) hg6 hr6 (by rw [M.fail_pos]; exact hp5))
        clear HF k6 HI4 hr6 hg6
        go_wp2
        go_end0
        refine ⟨rfl, ?_⟩
        rw [unhide H6, ← unhide Hpe, if_neg (unhide Hend)]
        exact unhide HI6
    · rw [if_pos rfl]
      have HF := hide (F_any R pv s st 11 a W h.i0.rd)
      have hp1 : (M.fail st 11 a).pos ≤ s.data.toList.length := by rw [M.fail_pos]; exact hps
      obtain ⟨st1, hst1⟩ : ∃ st1, st1 = M.fail st 11 a := ⟨_, rfl⟩
      have hpe : st1.pos = st.pos := by rw [hst1, M.fail_pos]
      rw [← hst1] at HF hp1 ⊢
      clear h hst1 HH
      have HRe0 := hide (fun W h => unhide Hread W v st1 n hn h)
      obtain ⟨v5, st5, h5⟩ : ∃ v5 st5, read v n st1 = (v5, st5) := ⟨_, _, rfl⟩
      rw [h5] at HRe0 ⊢
      simp only at HRe0 ⊢
      obtain ⟨st6, h6⟩ : ∃ st6, st6 = (if st5.pos = st.pos + n then st5 else M.fail st5 12 a) := ⟨_, rfl⟩
      rw [← h6]
      have H6 := hide h6
      clear h5 Hread h6
      go_enter Try.func117, Try.ntmps117
      go_wp2_with fail
      refine (unhide HF).mono ?_
      rintro e w1 ⟨rfl, hr1, hg1⟩
      have H1 := hide ((unhide H).reader (unhide Hb) (unhide HK) (unhide HV) hg1 hr1 hp1)
      have HH := hide ((unhide H1).had (unhide Hb) (unhide HK) (unhide HV) true)
      have k5 : w1.cell? ⟨b5, 0, none⟩ = some (.bool true) := (unhide H1).oc.h.cell 0
      have hfz := (unhide H1).oc.h.frozen 0
      obtain ⟨w2, hw2⟩ : ∃ w2, w2 = w1.setCell ⟨b5, 0, none⟩ (.bool true) := ⟨_, rfl⟩
      rw [← hw2] at HH
      have Hw2 := hide hw2
      have Hpe := hide hpe
      clear hw2 hpe k3 k4 k6 HF H1 hr1 hg1
      go_upto_region 5 with fail
      rw [← unhide Hw2]
      clear Hw2 k5 hfz
      have k6 : w2.cell? ⟨b6, 0, none⟩ = some (.pointer (some ⟨R, 0, none⟩)) := (unhide HH).oc.r.cell 0
      have k7 : w2.cell? ⟨b7, 0, none⟩ = some (.func (Fn.func 100) #[] #[c1, c2]) := (unhide HH).oc.f.cell 0
      have HAt := hide (At_any R pv s st1 w2 (unhide HH).i0.rd)
      have HRe := hide (unhide HRe0 w2 (unhide HH).i0)
      have hs1 : st1.pos ≤ 131072 := by have := unhide Hpe; omega
      go_wp2_with fail
      refine (unhide HAt).mono ?_
      rintro e w3 ⟨rfl, hw3⟩
      subst w3
      go_wp2_with fail
      refine (unhide HRe).mono ?_
      rintro e w4 ⟨rfl, hi4, hk4⟩
      have hz4 := (unhide HH).i0.gr.size
      have hoc : Oc w4 R b3 b4 b5 b6 b7 bn name true (.func (Fn.func 100) #[] #[c1, c2]) := by
        have hb := unhide Hb
        have o := (unhide HH).oc
        have h1 := hb.r; have h3 := hb.g3; have h4 := hb.g4; have h5 := hb.g5; have h6 := hb.g6; have h7 := hb.g7; have hn := hb.gn
        exact ⟨hk4 _ _ _ (by omega) hb.f3.symm o.c.lt o.c, hk4 _ _ _ (by omega) hb.f4.symm o.p.lt o.p, hk4 _ _ _ (by omega) hb.f5.symm o.h.lt o.h, hk4 _ _ _ (by omega) hb.f6.symm o.r.lt o.r, hk4 _ _ _ (by omega) hb.f7.symm o.f.lt o.f, hk4 _ _ _ (by omega) hb.fn.symm o.n.lt o.n⟩
      have HI4 : Hid (I1 w0 R b3 b4 b5 b6 b7 bn pv s P V name (.func (Fn.func 100) #[] #[c1, c2]) w4 (true, v5) st5) := ⟨hi4, hoc⟩
      have k6 : w4.cell? ⟨b6, 0, none⟩ = some (.pointer (some ⟨R, 0, none⟩)) := hoc.r.cell 0
      have HAt4 := hide (At_any R pv s st5 w4 hi4.rd)
      have hp5 := hi4.pos
      clear HAt HRe HH hi4 hk4 hoc k7 HRe0
      by_cases hend : st5.pos = st1.pos + n
      · have hq : (((st5.pos : Int) != (st1.pos : Int) + (n : Int)) : Bool) = false := by rw [bne_eq_false_iff_eq]; omega
        have Hend := hide hend
        clear hend
        go_wp2_with fail
        refine (unhide HAt4).mono ?_
        rintro e w5 ⟨rfl, hw5⟩
        subst w5
        clear HAt4
        go_wp2
        go_end0
        refine ⟨rfl, ?_⟩
        rw [unhide H6, ← unhide Hpe, if_pos (unhide Hend)]
        exact unhide HI4
      · have hq : (((st5.pos : Int) != (st1.pos : Int) + (n : Int)) : Bool) = true := by rw [bne_iff_ne]; omega
        have Hend := hide hend
        have HF := hide (F_any R pv s st5 12 a w4 (unhide HI4).i0.rd)
        clear hend
        go_wp2_with fail
        refine (unhide HAt4).mono ?_
        rintro e w5 ⟨rfl, hw5⟩
        subst w5
        clear HAt4
        go_wp2_with fail
        refine (unhide HF).mono ?_
        rintro e w6 ⟨rfl, hr6, hg6⟩
        have HI6 := hide ((unhide HI4).reader (unhide Hb) (unhide HK) (unhide HV) hg6 hr6 (by rw [M.fail_pos]; exact hp5))
        clear HF k6 HI4 hr6 hg6
        go_wp2
        go_end0
        refine ⟨rfl, ?_⟩
        rw [unhide H6, ← unhide Hpe, if_neg (unhide Hend)]
        exact unhide HI6
  · have hq : ((name == cnt) : Bool) = false := by rw [beq_eq_false_iff_ne]; exact hnm
    have HNo := hide (none1_any R pv s st W bn a n name h.i0.rd h.oc.n hs hn hps)
    have hp2 := M.take_pos (s := s.data.toList) (n := n) hps
    unfold M.once
    rw [if_neg hnm]
    clear h hnm
    go_enter Try.func117, Try.ntmps117
    go_wp2_with fail
    refine (unhide HNo).mono ?_
    rintro e w1 ⟨rfl, hr1, hg1⟩
    have HI := hide ((unhide H).reader (unhide Hb) (unhide HK) (unhide HV) hg1 hr1 hp2)
    clear HNo hr1 hg1 k3 k4
    go_wp2
    refine bodyPost_ret (results_none rfl _ _ _) rfl ?_
    exact ⟨rfl, unhide HI⟩
set_option maxRecDepth 100000 in
set_option maxHeartbeats 2000000 in
theorem once_method {σ : Type} {V : World → σ → Prop} {read : σ → Nat → St → σ × St} {w0 : World} {R b3 b4 b5 b6 b7 bn bf : Nat} {pv : Value} {s : ByteArray} {P : List K} {cnt : List UInt8} {c1 c2 : Value} (hs : s.size ≤ 131072) (hb : Apart w0 R b3 b4 b5 b6 b7 bn bf) (hKb : Off w0 R pv P)
    (hV : ∀ W W' v row, row = some R ∨ row = some b5 → W.grownBy W' row → V W v → V W' v)
    (hread : ∀ W v st (n : Nat), n < 4294967296 → I0 w0 R pv s P V W v st → Calls Try.prog 101 #[.int .i64 (n : Int), c1, c2] W fun e W' => e = .returned (.tuple #[]) ∧ I0 w0 R pv s P V W' (read v n st).1 (read v n st).2 ∧ ∀ b cs t, b ≠ R → b ≠ bf → b < W.heap.size → Bk W b cs t → Bk W' b cs t)
    (W : World) (x : Bool × σ) (st : St) (a n : Nat) (name : List UInt8) (h : I1 w0 R b3 b4 b5 b6 b7 bn pv s P V cnt (.func (Fn.func 101) #[] #[c1, c2]) W x st) (hn : n < 4294967296) :
    Calls Try.prog 117 #[.int .i64 (a : Int), .string ⟨name.toArray⟩, .int .i64 (n : Int), .pointer (some ⟨b3, 0, none⟩), .pointer (some ⟨b4, 0, none⟩), .pointer (some ⟨b5, 0, none⟩), .pointer (some ⟨b6, 0, none⟩), .pointer (some ⟨b7, 0, none⟩)] W fun e W' => e = .returned (.tuple #[]) ∧ I1 w0 R b3 b4 b5 b6 b7 bn pv s P V cnt (.func (Fn.func 101) #[] #[c1, c2]) W' (M.once s.data.toList cnt read x a name n st).1 (M.once s.data.toList cnt read x a name n st).2 := by
  have H := hide h
  have Hread := hide hread
  have HV := hide hV
  have Hb := hide hb
  have HK := hide hKb
  have k3 : W.cell? ⟨b3, 0, none⟩ = some (.string ⟨cnt.toArray⟩) := h.oc.c.cell 0
  have k4 : W.cell? ⟨b4, 0, none⟩ = some (.func (Fn.func 104) #[] #[.pointer (some ⟨bn, 0, none⟩)]) := h.oc.p.cell 0
  have hl : s.data.toList.length = s.size := by simp
  have hps := h.i0.pos
  clear hread hV hb hKb
  by_cases hnm : name = cnt
  · subst hnm
    obtain ⟨had, v⟩ := x
    unfold M.once
    rw [if_pos rfl]
    simp only
    have k5 : W.cell? ⟨b5, 0, none⟩ = some (.bool had) := h.oc.h.cell 0
    have k6 : W.cell? ⟨b6, 0, none⟩ = some (.pointer (some ⟨R, 0, none⟩)) := h.oc.r.cell 0
    have HH := hide (h.had (unhide Hb) (unhide HK) (unhide HV) true)
    have hfz := h.oc.h.frozen 0
    cases had
    · rw [if_neg (by simp)]
      have hpe : st.pos = st.pos := rfl
      obtain ⟨st1, hst1⟩ : ∃ st1, st1 = st := ⟨_, rfl⟩
      rw [show (read v n st) = (read v n st1) by rw [hst1]]
      rw [← hst1] at HH
      have hpe : st1.pos = st.pos := by rw [hst1]
      have HRe0 := hide (fun W h => unhide Hread W v st1 n hn h)
      obtain ⟨v5, st5, h5⟩ : ∃ v5 st5, read v n st1 = (v5, st5) := ⟨_, _, rfl⟩
      rw [h5] at HRe0 ⊢
      simp only at HRe0 ⊢
      obtain ⟨st6, h6⟩ : ∃ st6, st6 = (if st5.pos = st.pos + n then st5 else M.fail st5 12 a) := ⟨_, rfl⟩
      rw [← h6]
      have H6 := hide h6
      clear h5 Hread h6
      obtain ⟨w2, hw2⟩ : ∃ w2, w2 = W.setCell ⟨b5, 0, none⟩ (.bool true) := ⟨_, rfl⟩
      rw [← hw2] at HH
      have Hw2 := hide hw2
      have Hpe := hide hpe
      clear hst1 hw2 hpe h
      go_enter Try.func117, Try.ntmps117
      go_upto_region 5 with fail
      rw [← unhide Hw2]
      clear Hw2 k3 k4 k5 k6 hfz
      have k6 : w2.cell? ⟨b6, 0, none⟩ = some (.pointer (some ⟨R, 0, none⟩)) := (unhide HH).oc.r.cell 0
      have k7 : w2.cell? ⟨b7, 0, none⟩ = some (.func (Fn.func 101) #[] #[c1, c2]) := (unhide HH).oc.f.cell 0
      have HAt := hide (At_any R pv s st1 w2 (unhide HH).i0.rd)
      have HRe := hide (unhide HRe0 w2 (unhide HH).i0)
      have hs1 : st1.pos ≤ 131072 := by have := unhide Hpe; omega
      go_wp2_with fail
      refine (unhide HAt).mono ?_
      rintro e w3 ⟨rfl, hw3⟩
      subst w3
      go_wp2_with fail
      refine (unhide HRe).mono ?_
      rintro e w4 ⟨rfl, hi4, hk4⟩
      have hz4 := (unhide HH).i0.gr.size
      have hoc : Oc w4 R b3 b4 b5 b6 b7 bn name true (.func (Fn.func 101) #[] #[c1, c2]) := by
        have hb := unhide Hb
        have o := (unhide HH).oc
        have h1 := hb.r; have h3 := hb.g3; have h4 := hb.g4; have h5 := hb.g5; have h6 := hb.g6; have h7 := hb.g7; have hn := hb.gn
        exact ⟨hk4 _ _ _ (by omega) hb.f3.symm o.c.lt o.c, hk4 _ _ _ (by omega) hb.f4.symm o.p.lt o.p, hk4 _ _ _ (by omega) hb.f5.symm o.h.lt o.h, hk4 _ _ _ (by omega) hb.f6.symm o.r.lt o.r, hk4 _ _ _ (by omega) hb.f7.symm o.f.lt o.f, hk4 _ _ _ (by omega) hb.fn.symm o.n.lt o.n⟩
      have HI4 : Hid (I1 w0 R b3 b4 b5 b6 b7 bn pv s P V name (.func (Fn.func 101) #[] #[c1, c2]) w4 (true, v5) st5) := ⟨hi4, hoc⟩
      have k6 : w4.cell? ⟨b6, 0, none⟩ = some (.pointer (some ⟨R, 0, none⟩)) := hoc.r.cell 0
      have HAt4 := hide (At_any R pv s st5 w4 hi4.rd)
      have hp5 := hi4.pos
      clear HAt HRe HH hi4 hk4 hoc k7 HRe0
      by_cases hend : st5.pos = st1.pos + n
      · have hq : (((st5.pos : Int) != (st1.pos : Int) + (n : Int)) : Bool) = false := by rw [bne_eq_false_iff_eq]; omega
        have Hend := hide hend
        clear hend
        go_wp2_with fail
        refine (unhide HAt4).mono ?_
        rintro e w5 ⟨rfl, hw5⟩
        subst w5
        clear HAt4
        go_wp2
        go_end0
        refine ⟨rfl, ?_⟩
        rw [unhide H6, ← unhide Hpe, if_pos (unhide Hend)]
        exact unhide HI4
      · have hq : (((st5.pos : Int) != (st1.pos : Int) + (n : Int)) : Bool) = true := by rw [bne_iff_ne]; omega
        have Hend := hide hend
        have HF := hide (F_any R pv s st5 12 a w4 (unhide HI4).i0.rd)
        clear hend
        go_wp2_with fail
        refine (unhide HAt4).mono ?_
        rintro e w5 ⟨rfl, hw5⟩
        subst w5
        clear HAt4
        go_wp2_with fail
        refine (unhide HF).mono ?_
        rintro e w6 ⟨rfl, hr6, hg6⟩
        have HI6 := hide ((unhide HI4).reader (unhide Hb) (unhide HK) (unhide HV) hg6 hr6 (by rw [M.fail_pos]; exact hp5))
        clear HF k6 HI4 hr6 hg6
        go_wp2
        go_end0
        refine ⟨rfl, ?_⟩
        rw [unhide H6, ← unhide Hpe, if_neg (unhide Hend)]
        exact unhide HI6
    · rw [if_pos rfl]
      have HF := hide (F_any R pv s st 11 a W h.i0.rd)
      have hp1 : (M.fail st 11 a).pos ≤ s.data.toList.length := by rw [M.fail_pos]; exact hps
      obtain ⟨st1, hst1⟩ : ∃ st1, st1 = M.fail st 11 a := ⟨_, rfl⟩
      have hpe : st1.pos = st.pos := by rw [hst1, M.fail_pos]
      rw [← hst1] at HF hp1 ⊢
      clear h hst1 HH
      have HRe0 := hide (fun W h => unhide Hread W v st1 n hn h)
      obtain ⟨v5, st5, h5⟩ : ∃ v5 st5, read v n st1 = (v5, st5) := ⟨_, _, rfl⟩
      rw [h5] at HRe0 ⊢
      simp only at HRe0 ⊢
      obtain ⟨st6, h6⟩ : ∃ st6, st6 = (if st5.pos = st.pos + n then st5 else M.fail st5 12 a) := ⟨_, rfl⟩
      rw [← h6]
      have H6 := hide h6
      clear h5 Hread h6
      go_enter Try.func117, Try.ntmps117
      go_wp2_with fail
      refine (unhide HF).mono ?_
      rintro e w1 ⟨rfl, hr1, hg1⟩
      have H1 := hide ((unhide H).reader (unhide Hb) (unhide HK) (unhide HV) hg1 hr1 hp1)
      have HH := hide ((unhide H1).had (unhide Hb) (unhide HK) (unhide HV) true)
      have k5 : w1.cell? ⟨b5, 0, none⟩ = some (.bool true) := (unhide H1).oc.h.cell 0
      have hfz := (unhide H1).oc.h.frozen 0
      obtain ⟨w2, hw2⟩ : ∃ w2, w2 = w1.setCell ⟨b5, 0, none⟩ (.bool true) := ⟨_, rfl⟩
      rw [← hw2] at HH
      have Hw2 := hide hw2
      have Hpe := hide hpe
      clear hw2 hpe k3 k4 k6 HF H1 hr1 hg1
      go_upto_region 5 with fail
      rw [← unhide Hw2]
      clear Hw2 k5 hfz
      have k6 : w2.cell? ⟨b6, 0, none⟩ = some (.pointer (some ⟨R, 0, none⟩)) := (unhide HH).oc.r.cell 0
      have k7 : w2.cell? ⟨b7, 0, none⟩ = some (.func (Fn.func 101) #[] #[c1, c2]) := (unhide HH).oc.f.cell 0
      have HAt := hide (At_any R pv s st1 w2 (unhide HH).i0.rd)
      have HRe := hide (unhide HRe0 w2 (unhide HH).i0)
      have hs1 : st1.pos ≤ 131072 := by have := unhide Hpe; omega
      go_wp2_with fail
      refine (unhide HAt).mono ?_
      rintro e w3 ⟨rfl, hw3⟩
      subst w3
      go_wp2_with fail
      refine (unhide HRe).mono ?_
      rintro e w4 ⟨rfl, hi4, hk4⟩
      have hz4 := (unhide HH).i0.gr.size
      have hoc : Oc w4 R b3 b4 b5 b6 b7 bn name true (.func (Fn.func 101) #[] #[c1, c2]) := by
        have hb := unhide Hb
        have o := (unhide HH).oc
        have h1 := hb.r; have h3 := hb.g3; have h4 := hb.g4; have h5 := hb.g5; have h6 := hb.g6; have h7 := hb.g7; have hn := hb.gn
        exact ⟨hk4 _ _ _ (by omega) hb.f3.symm o.c.lt o.c, hk4 _ _ _ (by omega) hb.f4.symm o.p.lt o.p, hk4 _ _ _ (by omega) hb.f5.symm o.h.lt o.h, hk4 _ _ _ (by omega) hb.f6.symm o.r.lt o.r, hk4 _ _ _ (by omega) hb.f7.symm o.f.lt o.f, hk4 _ _ _ (by omega) hb.fn.symm o.n.lt o.n⟩
      have HI4 : Hid (I1 w0 R b3 b4 b5 b6 b7 bn pv s P V name (.func (Fn.func 101) #[] #[c1, c2]) w4 (true, v5) st5) := ⟨hi4, hoc⟩
      have k6 : w4.cell? ⟨b6, 0, none⟩ = some (.pointer (some ⟨R, 0, none⟩)) := hoc.r.cell 0
      have HAt4 := hide (At_any R pv s st5 w4 hi4.rd)
      have hp5 := hi4.pos
      clear HAt HRe HH hi4 hk4 hoc k7 HRe0
      by_cases hend : st5.pos = st1.pos + n
      · have hq : (((st5.pos : Int) != (st1.pos : Int) + (n : Int)) : Bool) = false := by rw [bne_eq_false_iff_eq]; omega
        have Hend := hide hend
        clear hend
        go_wp2_with fail
        refine (unhide HAt4).mono ?_
        rintro e w5 ⟨rfl, hw5⟩
        subst w5
        clear HAt4
        go_wp2
        go_end0
        refine ⟨rfl, ?_⟩
        rw [unhide H6, ← unhide Hpe, if_pos (unhide Hend)]
        exact unhide HI4
      · have hq : (((st5.pos : Int) != (st1.pos : Int) + (n : Int)) : Bool) = true := by rw [bne_iff_ne]; omega
        have Hend := hide hend
        have HF := hide (F_any R pv s st5 12 a w4 (unhide HI4).i0.rd)
        clear hend
        go_wp2_with fail
        refine (unhide HAt4).mono ?_
        rintro e w5 ⟨rfl, hw5⟩
        subst w5
        clear HAt4
        go_wp2_with fail
        refine (unhide HF).mono ?_
        rintro e w6 ⟨rfl, hr6, hg6⟩
        have HI6 := hide ((unhide HI4).reader (unhide Hb) (unhide HK) (unhide HV) hg6 hr6 (by rw [M.fail_pos]; exact hp5))
        clear HF k6 HI4 hr6 hg6
        go_wp2
        go_end0
        refine ⟨rfl, ?_⟩
        rw [unhide H6, ← unhide Hpe, if_neg (unhide Hend)]
        exact unhide HI6
  · have hq : ((name == cnt) : Bool) = false := by rw [beq_eq_false_iff_ne]; exact hnm
    have HNo := hide (none1_any R pv s st W bn a n name h.i0.rd h.oc.n hs hn hps)
    have hp2 := M.take_pos (s := s.data.toList) (n := n) hps
    unfold M.once
    rw [if_neg hnm]
    clear h hnm
    go_enter Try.func117, Try.ntmps117
    go_wp2_with fail
    refine (unhide HNo).mono ?_
    rintro e w1 ⟨rfl, hr1, hg1⟩
    have HI := hide ((unhide H).reader (unhide Hb) (unhide HK) (unhide HV) hg1 hr1 hp2)
    clear HNo hr1 hg1 k3 k4
    go_wp2
    refine bodyPost_ret (results_none rfl _ _ _) rfl ?_
    exact ⟨rfl, unhide HI⟩
set_option maxRecDepth 100000 in
set_option maxHeartbeats 2000000 in
theorem once_code {σ : Type} {V : World → σ → Prop} {read : σ → Nat → St → σ × St} {w0 : World} {R b3 b4 b5 b6 b7 bn bf : Nat} {pv : Value} {s : ByteArray} {P : List K} {cnt : List UInt8} {c1 c2 : Value} (hs : s.size ≤ 131072) (hb : Apart w0 R b3 b4 b5 b6 b7 bn bf) (hKb : Off w0 R pv P)
    (hV : ∀ W W' v row, row = some R ∨ row = some b5 → W.grownBy W' row → V W v → V W' v)
    (hread : ∀ W v st (n : Nat), n < 4294967296 → I0 w0 R pv s P V W v st → Calls Try.prog 120 #[.int .i64 (n : Int), c1, c2] W fun e W' => e = .returned (.tuple #[]) ∧ I0 w0 R pv s P V W' (read v n st).1 (read v n st).2 ∧ ∀ b cs t, b ≠ R → b ≠ bf → b < W.heap.size → Bk W b cs t → Bk W' b cs t)
    (W : World) (x : Bool × σ) (st : St) (a n : Nat) (name : List UInt8) (h : I1 w0 R b3 b4 b5 b6 b7 bn pv s P V cnt (.func (Fn.func 120) #[] #[c1, c2]) W x st) (hn : n < 4294967296) :
    Calls Try.prog 117 #[.int .i64 (a : Int), .string ⟨name.toArray⟩, .int .i64 (n : Int), .pointer (some ⟨b3, 0, none⟩), .pointer (some ⟨b4, 0, none⟩), .pointer (some ⟨b5, 0, none⟩), .pointer (some ⟨b6, 0, none⟩), .pointer (some ⟨b7, 0, none⟩)] W fun e W' => e = .returned (.tuple #[]) ∧ I1 w0 R b3 b4 b5 b6 b7 bn pv s P V cnt (.func (Fn.func 120) #[] #[c1, c2]) W' (M.once s.data.toList cnt read x a name n st).1 (M.once s.data.toList cnt read x a name n st).2 := by
  have H := hide h
  have Hread := hide hread
  have HV := hide hV
  have Hb := hide hb
  have HK := hide hKb
  have k3 : W.cell? ⟨b3, 0, none⟩ = some (.string ⟨cnt.toArray⟩) := h.oc.c.cell 0
  have k4 : W.cell? ⟨b4, 0, none⟩ = some (.func (Fn.func 104) #[] #[.pointer (some ⟨bn, 0, none⟩)]) := h.oc.p.cell 0
  have hl : s.data.toList.length = s.size := by simp
  have hps := h.i0.pos
  clear hread hV hb hKb
  by_cases hnm : name = cnt
  · subst hnm
    obtain ⟨had, v⟩ := x
    unfold M.once
    rw [if_pos rfl]
    simp only
    have k5 : W.cell? ⟨b5, 0, none⟩ = some (.bool had) := h.oc.h.cell 0
    have k6 : W.cell? ⟨b6, 0, none⟩ = some (.pointer (some ⟨R, 0, none⟩)) := h.oc.r.cell 0
    have HH := hide (h.had (unhide Hb) (unhide HK) (unhide HV) true)
    have hfz := h.oc.h.frozen 0
    cases had
    · rw [if_neg (by simp)]
      have hpe : st.pos = st.pos := rfl
      obtain ⟨st1, hst1⟩ : ∃ st1, st1 = st := ⟨_, rfl⟩
      rw [show (read v n st) = (read v n st1) by rw [hst1]]
      rw [← hst1] at HH
      have hpe : st1.pos = st.pos := by rw [hst1]
      have HRe0 := hide (fun W h => unhide Hread W v st1 n hn h)
      obtain ⟨v5, st5, h5⟩ : ∃ v5 st5, read v n st1 = (v5, st5) := ⟨_, _, rfl⟩
      rw [h5] at HRe0 ⊢
      simp only at HRe0 ⊢
      obtain ⟨st6, h6⟩ : ∃ st6, st6 = (if st5.pos = st.pos + n then st5 else M.fail st5 12 a) := ⟨_, rfl⟩
      rw [← h6]
      have H6 := hide h6
      clear h5 Hread h6
      obtain ⟨w2, hw2⟩ : ∃ w2, w2 = W.setCell ⟨b5, 0, none⟩ (.bool true) := ⟨_, rfl⟩
      rw [← hw2] at HH
      have Hw2 := hide hw2
      have Hpe := hide hpe
      clear hst1 hw2 hpe h
      go_enter Try.func117, Try.ntmps117
      go_upto_region 5 with fail
      rw [← unhide Hw2]
      clear Hw2 k3 k4 k5 k6 hfz
      have k6 : w2.cell? ⟨b6, 0, none⟩ = some (.pointer (some ⟨R, 0, none⟩)) := (unhide HH).oc.r.cell 0
      have k7 : w2.cell? ⟨b7, 0, none⟩ = some (.func (Fn.func 120) #[] #[c1, c2]) := (unhide HH).oc.f.cell 0
      have HAt := hide (At_any R pv s st1 w2 (unhide HH).i0.rd)
      have HRe := hide (unhide HRe0 w2 (unhide HH).i0)
      have hs1 : st1.pos ≤ 131072 := by have := unhide Hpe; omega
      go_wp2_with fail
      refine (unhide HAt).mono ?_
      rintro e w3 ⟨rfl, hw3⟩
      subst w3
      go_wp2_with fail
      refine (unhide HRe).mono ?_
      rintro e w4 ⟨rfl, hi4, hk4⟩
      have hz4 := (unhide HH).i0.gr.size
      have hoc : Oc w4 R b3 b4 b5 b6 b7 bn name true (.func (Fn.func 120) #[] #[c1, c2]) := by
        have hb := unhide Hb
        have o := (unhide HH).oc
        have h1 := hb.r; have h3 := hb.g3; have h4 := hb.g4; have h5 := hb.g5; have h6 := hb.g6; have h7 := hb.g7; have hn := hb.gn
        exact ⟨hk4 _ _ _ (by omega) hb.f3.symm o.c.lt o.c, hk4 _ _ _ (by omega) hb.f4.symm o.p.lt o.p, hk4 _ _ _ (by omega) hb.f5.symm o.h.lt o.h, hk4 _ _ _ (by omega) hb.f6.symm o.r.lt o.r, hk4 _ _ _ (by omega) hb.f7.symm o.f.lt o.f, hk4 _ _ _ (by omega) hb.fn.symm o.n.lt o.n⟩
      have HI4 : Hid (I1 w0 R b3 b4 b5 b6 b7 bn pv s P V name (.func (Fn.func 120) #[] #[c1, c2]) w4 (true, v5) st5) := ⟨hi4, hoc⟩
      have k6 : w4.cell? ⟨b6, 0, none⟩ = some (.pointer (some ⟨R, 0, none⟩)) := hoc.r.cell 0
      have HAt4 := hide (At_any R pv s st5 w4 hi4.rd)
      have hp5 := hi4.pos
      clear HAt HRe HH hi4 hk4 hoc k7 HRe0
      by_cases hend : st5.pos = st1.pos + n
      · have hq : (((st5.pos : Int) != (st1.pos : Int) + (n : Int)) : Bool) = false := by rw [bne_eq_false_iff_eq]; omega
        have Hend := hide hend
        clear hend
        go_wp2_with fail
        refine (unhide HAt4).mono ?_
        rintro e w5 ⟨rfl, hw5⟩
        subst w5
        clear HAt4
        go_wp2
        go_end0
        refine ⟨rfl, ?_⟩
        rw [unhide H6, ← unhide Hpe, if_pos (unhide Hend)]
        exact unhide HI4
      · have hq : (((st5.pos : Int) != (st1.pos : Int) + (n : Int)) : Bool) = true := by rw [bne_iff_ne]; omega
        have Hend := hide hend
        have HF := hide (F_any R pv s st5 12 a w4 (unhide HI4).i0.rd)
        clear hend
        go_wp2_with fail
        refine (unhide HAt4).mono ?_
        rintro e w5 ⟨rfl, hw5⟩
        subst w5
        clear HAt4
        go_wp2_with fail
        refine (unhide HF).mono ?_
        rintro e w6 ⟨rfl, hr6, hg6⟩
        have HI6 := hide ((unhide HI4).reader (unhide Hb) (unhide HK) (unhide HV) hg6 hr6 (by rw [M.fail_pos]; exact hp5))
        clear HF k6 HI4 hr6 hg6
        go_wp2
        go_end0
        refine ⟨rfl, ?_⟩
        rw [unhide H6, ← unhide Hpe, if_neg (unhide Hend)]
        exact unhide HI6
    · rw [if_pos rfl]
      have HF := hide (F_any R pv s st 11 a W h.i0.rd)
      have hp1 : (M.fail st 11 a).pos ≤ s.data.toList.length := by rw [M.fail_pos]; exact hps
      obtain ⟨st1, hst1⟩ : ∃ st1, st1 = M.fail st 11 a := ⟨_, rfl⟩
      have hpe : st1.pos = st.pos := by rw [hst1, M.fail_pos]
      rw [← hst1] at HF hp1 ⊢
      clear h hst1 HH
      have HRe0 := hide (fun W h => unhide Hread W v st1 n hn h)
      obtain ⟨v5, st5, h5⟩ : ∃ v5 st5, read v n st1 = (v5, st5) := ⟨_, _, rfl⟩
      rw [h5] at HRe0 ⊢
      simp only at HRe0 ⊢
      obtain ⟨st6, h6⟩ : ∃ st6, st6 = (if st5.pos = st.pos + n then st5 else M.fail st5 12 a) := ⟨_, rfl⟩
      rw [← h6]
      have H6 := hide h6
      clear h5 Hread h6
      go_enter Try.func117, Try.ntmps117
      go_wp2_with fail
      refine (unhide HF).mono ?_
      rintro e w1 ⟨rfl, hr1, hg1⟩
      have H1 := hide ((unhide H).reader (unhide Hb) (unhide HK) (unhide HV) hg1 hr1 hp1)
      have HH := hide ((unhide H1).had (unhide Hb) (unhide HK) (unhide HV) true)
      have k5 : w1.cell? ⟨b5, 0, none⟩ = some (.bool true) := (unhide H1).oc.h.cell 0
      have hfz := (unhide H1).oc.h.frozen 0
      obtain ⟨w2, hw2⟩ : ∃ w2, w2 = w1.setCell ⟨b5, 0, none⟩ (.bool true) := ⟨_, rfl⟩
      rw [← hw2] at HH
      have Hw2 := hide hw2
      have Hpe := hide hpe
      clear hw2 hpe k3 k4 k6 HF H1 hr1 hg1
      go_upto_region 5 with fail
      rw [← unhide Hw2]
      clear Hw2 k5 hfz
      have k6 : w2.cell? ⟨b6, 0, none⟩ = some (.pointer (some ⟨R, 0, none⟩)) := (unhide HH).oc.r.cell 0
      have k7 : w2.cell? ⟨b7, 0, none⟩ = some (.func (Fn.func 120) #[] #[c1, c2]) := (unhide HH).oc.f.cell 0
      have HAt := hide (At_any R pv s st1 w2 (unhide HH).i0.rd)
      have HRe := hide (unhide HRe0 w2 (unhide HH).i0)
      have hs1 : st1.pos ≤ 131072 := by have := unhide Hpe; omega
      go_wp2_with fail
      refine (unhide HAt).mono ?_
      rintro e w3 ⟨rfl, hw3⟩
      subst w3
      go_wp2_with fail
      refine (unhide HRe).mono ?_
      rintro e w4 ⟨rfl, hi4, hk4⟩
      have hz4 := (unhide HH).i0.gr.size
      have hoc : Oc w4 R b3 b4 b5 b6 b7 bn name true (.func (Fn.func 120) #[] #[c1, c2]) := by
        have hb := unhide Hb
        have o := (unhide HH).oc
        have h1 := hb.r; have h3 := hb.g3; have h4 := hb.g4; have h5 := hb.g5; have h6 := hb.g6; have h7 := hb.g7; have hn := hb.gn
        exact ⟨hk4 _ _ _ (by omega) hb.f3.symm o.c.lt o.c, hk4 _ _ _ (by omega) hb.f4.symm o.p.lt o.p, hk4 _ _ _ (by omega) hb.f5.symm o.h.lt o.h, hk4 _ _ _ (by omega) hb.f6.symm o.r.lt o.r, hk4 _ _ _ (by omega) hb.f7.symm o.f.lt o.f, hk4 _ _ _ (by omega) hb.fn.symm o.n.lt o.n⟩
      have HI4 : Hid (I1 w0 R b3 b4 b5 b6 b7 bn pv s P V name (.func (Fn.func 120) #[] #[c1, c2]) w4 (true, v5) st5) := ⟨hi4, hoc⟩
      have k6 : w4.cell? ⟨b6, 0, none⟩ = some (.pointer (some ⟨R, 0, none⟩)) := hoc.r.cell 0
      have HAt4 := hide (At_any R pv s st5 w4 hi4.rd)
      have hp5 := hi4.pos
      clear HAt HRe HH hi4 hk4 hoc k7 HRe0
      by_cases hend : st5.pos = st1.pos + n
      · have hq : (((st5.pos : Int) != (st1.pos : Int) + (n : Int)) : Bool) = false := by rw [bne_eq_false_iff_eq]; omega
        have Hend := hide hend
        clear hend
        go_wp2_with fail
        refine (unhide HAt4).mono ?_
        rintro e w5 ⟨rfl, hw5⟩
        subst w5
        clear HAt4
        go_wp2
        go_end0
        refine ⟨rfl, ?_⟩
        rw [unhide H6, ← unhide Hpe, if_pos (unhide Hend)]
        exact unhide HI4
      · have hq : (((st5.pos : Int) != (st1.pos : Int) + (n : Int)) : Bool) = true := by rw [bne_iff_ne]; omega
        have Hend := hide hend
        have HF := hide (F_any R pv s st5 12 a w4 (unhide HI4).i0.rd)
        clear hend
        go_wp2_with fail
        refine (unhide HAt4).mono ?_
        rintro e w5 ⟨rfl, hw5⟩
        subst w5
        clear HAt4
        go_wp2_with fail
        refine (unhide HF).mono ?_
        rintro e w6 ⟨rfl, hr6, hg6⟩
        have HI6 := hide ((unhide HI4).reader (unhide Hb) (unhide HK) (unhide HV) hg6 hr6 (by rw [M.fail_pos]; exact hp5))
        clear HF k6 HI4 hr6 hg6
        go_wp2
        go_end0
        refine ⟨rfl, ?_⟩
        rw [unhide H6, ← unhide Hpe, if_neg (unhide Hend)]
        exact unhide HI6
  · have hq : ((name == cnt) : Bool) = false := by rw [beq_eq_false_iff_ne]; exact hnm
    have HNo := hide (none1_any R pv s st W bn a n name h.i0.rd h.oc.n hs hn hps)
    have hp2 := M.take_pos (s := s.data.toList) (n := n) hps
    unfold M.once
    rw [if_neg hnm]
    clear h hnm
    go_enter Try.func117, Try.ntmps117
    go_wp2_with fail
    refine (unhide HNo).mono ?_
    rintro e w1 ⟨rfl, hr1, hg1⟩
    have HI := hide ((unhide H).reader (unhide Hb) (unhide HK) (unhide HV) hg1 hr1 hp2)
    clear HNo hr1 hg1 k3 k4
    go_wp2
    refine bodyPost_ret (results_none rfl _ _ _) rfl ?_
    exact ⟨rfl, unhide HI⟩
end Go.Proofs.Ytbgpkkbejbidlac.Cl
