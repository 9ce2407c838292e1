/-
  Package class: a field, and lists of them.
-/
import Derived.Test.YtbgpkkbejbidlacCf
namespace Go.Proofs.Ytbgpkkbejbidlac.Cl
open Go.RowKit
def Fd.val (f : Fd) : Value := .agg #[.int .u16 (f.flags : Int), .int .u16 (f.name : Int), .int .u16 (f.type_ : Int), .int .u16 (f.value : Int)]
theorem ne_some {a b : Nat} (h : a ≠ b) : some a ≠ some b := fun e => h (by cases e; rfl)
theorem I0.below {σ : Type} {w0 W W' : World} {R : Nat} {pv : Value} {s : ByteArray} {P : List K} {V : World → σ → Prop} {v : σ} {st : St} (h : I0 w0 R pv s P V W v st) (hb : Below W.heap.size W W') (hV : V W v → V W' v) : I0 w0 R pv s P V W' v st :=
  ⟨h.rd.kept (grown_of_below hb none) (by simp), h.pos, h.pool.below hb, hV h.val, grown_trans h.gr (grown_of_below hb _)⟩
theorem off_ne {w : World} {R : Nat} {pv : Value} {P : List K} (h : Off w R pv P) : P ≠ [] → ∀ b o n c, pv = .slice (some ⟨b, o, none⟩) n c → some b ≠ some (w.heap.size + 1) := fun hne b o n c e => ne_some (by have := (h hne b o n c e).2; omega)
/-- Attributes of a field, by a closure that was laid behind a world. -/
theorem fatts_any {w0 W : World} {R b1 bf br b3 b4 b5 b6 b7 bn : Nat} {pv : Value} {s : ByteArray} {P : List K} {a b c : Nat} {st : St} (hs : s.size ≤ 131072) (hP : P.length ≤ 1048576) (hb : Apart w0 R b3 b4 b5 b6 b7 bn bf) (h1 : w0.heap.size ≤ b1) (hf : w0.heap.size ≤ bf) (h1f : b1 ≠ bf) (h15 : b1 ≠ b5) (hrg : w0.heap.size ≤ br) (hrf : br ≠ bf) (hr5 : br ≠ b5) (hKb : Off w0 R pv P)
    (hi : I0 w0 R pv s P (VF R b1 bf br a b c) W 0 st) (hoc : Oc W R b3 b4 b5 b6 b7 bn M.cvName false (.func (Fn.func 100) #[] #[.pointer (some ⟨b1, 0, none⟩), .pointer (some ⟨bf, 0, none⟩)])) :
    Calls Try.prog 75 #[.pointer (some ⟨R, 0, none⟩), .func (Fn.func 117) #[] #[.pointer (some ⟨b3, 0, none⟩), .pointer (some ⟨b4, 0, none⟩), .pointer (some ⟨b5, 0, none⟩), .pointer (some ⟨b6, 0, none⟩), .pointer (some ⟨b7, 0, none⟩)]] W fun e w' => e = .returned (.tuple #[]) ∧
      I0 w0 R pv s P (VF R b1 bf br a b c) w' (M.attsN s.data.toList P (M.once s.data.toList M.cvName (M.fval s.data.toList)) (false, 0) st).1.2 (M.attsN s.data.toList P (M.once s.data.toList M.cvName (M.fval s.data.toList)) (false, 0) st).2 := by
  have hV : ∀ W W' v row, row = some R ∨ row = some b5 → W.grownBy W' row → VF R b1 bf br a b c W v → VF R b1 bf br a b c W' v := by
    intro W W' v row hr hg hv
    have hR := hb.r
    rcases hr with rfl | rfl
    · exact ⟨hv.1.kept hg (ne_some (by omega)), hv.2.1.kept hg (ne_some (by omega)), hv.2.2.kept hg (ne_some (by omega))⟩
    · exact ⟨hv.1.kept hg (ne_some h15), hv.2.1.kept hg (ne_some hb.f5), hv.2.2.kept hg (ne_some hr5)⟩
  refine (attributes_any _ _ _ _ _ R pv s P (M.once s.data.toList M.cvName (M.fval s.data.toList)) (I1 w0 R b3 b4 b5 b6 b7 bn pv s P (VF R b1 bf br a b c) M.cvName (.func (Fn.func 100) #[] #[.pointer (some ⟨b1, 0, none⟩), .pointer (some ⟨bf, 0, none⟩)])) hs hP (fun _ _ _ h => h.i0.rd) (fun _ _ _ h => h.i0.pool) (fun _ _ _ h => h.i0.pos) (fun _ _ _ _ _ h hg hr hp => h.reader hb hKb hV hg hr hp) ?_ (false, 0) st W ⟨hi, hoc⟩).mono fun e w' h => ⟨h.1, h.2.i0⟩
  intro W x st a n name h hn _
  exact once_field hs hb hKb hV (fun W v st n hn h => field1_any hs hb.r h1 hf h1f hrg hrf hKb W v st n hn h) W x st a n name h hn
theorem four_set {w w3 : World} {R g : Nat} {pv : Value} {s : ByteArray} {st : St} {a b c d : Value} {t : TypeId} {x1 x2 : Array Value} {t1 t2 : TypeId} (hR : R < w.heap.size) (hgw : w.grownBy w3 (some R)) (hr : Rd w3 R pv s st) (hz : Bk w3 g #[a, b, c, d] t) (hb : Bk w3 w.heap.size x1 t1) (hQ : Bk w3 (w.heap.size + 1) x2 t2) (hg : w.heap.size + 2 ≤ g) (x y z u : Value) :
    Bk ((((w3.setCell ⟨g, 0, none⟩ x).setCell ⟨g, 1, none⟩ y).setCell ⟨g, 2, none⟩ z).setCell ⟨g, 3, none⟩ u) g #[x, y, z, u] t ∧ w.heap.size + 2 ≤ g ∧ Rd ((((w3.setCell ⟨g, 0, none⟩ x).setCell ⟨g, 1, none⟩ y).setCell ⟨g, 2, none⟩ z).setCell ⟨g, 3, none⟩ u) R pv s st ∧
      w.grownBy ((((w3.setCell ⟨g, 0, none⟩ x).setCell ⟨g, 1, none⟩ y).setCell ⟨g, 2, none⟩ z).setCell ⟨g, 3, none⟩ u) (some R) ∧ Bk ((((w3.setCell ⟨g, 0, none⟩ x).setCell ⟨g, 1, none⟩ y).setCell ⟨g, 2, none⟩ z).setCell ⟨g, 3, none⟩ u) w.heap.size x1 t1 ∧ Bk ((((w3.setCell ⟨g, 0, none⟩ x).setCell ⟨g, 1, none⟩ y).setCell ⟨g, 2, none⟩ z).setCell ⟨g, 3, none⟩ u) (w.heap.size + 1) x2 t2 := by
  have he := end4 hR hgw hr hz (by omega) x y z u
  have n1 : w.heap.size ≠ g := by omega
  have n2 : w.heap.size + 1 ≠ g := by omega
  exact ⟨he.1, hg, he.2.1, he.2.2, (((hb.other 0 x n1).other 1 y n1).other 2 z n1).other 3 u n1, (((hQ.other 0 x n2).other 1 y n2).other 2 z n2).other 3 u n2⟩
theorem four_new {w w3 : World} {R : Nat} {pv : Value} {s : ByteArray} {st : St} {cs : Array Value} {t : TypeId} {x1 x2 : Array Value} {t1 t2 : TypeId} (_ : R < w.heap.size) (hgw : w.grownBy w3 (some R)) (hr : Rd w3 R pv s st) (hb : Bk w3 w.heap.size x1 t1) (hQ : Bk w3 (w.heap.size + 1) x2 t2) (hg : w.heap.size + 2 ≤ w3.heap.size) :
    Bk (w3.alloc (.cells cs t)) w3.heap.size cs t ∧ w.heap.size + 2 ≤ w3.heap.size ∧ Rd (w3.alloc (.cells cs t)) R pv s st ∧ w.grownBy (w3.alloc (.cells cs t)) (some R) ∧ Bk (w3.alloc (.cells cs t)) w.heap.size x1 t1 ∧ Bk (w3.alloc (.cells cs t)) (w.heap.size + 1) x2 t2 :=
  ⟨Bk.new _ _ _, hg, hr.kept (World.grownBy_alloc w3 _ none) (by simp), grown_alloc hgw _, hb.alloc _, hQ.alloc _⟩
set_option maxRecDepth 100000 in
set_option maxHeartbeats 2000000 in
theorem field_any (R : Nat) (pv : Value) (s : ByteArray) (P : List K) (st : St) (w : World) (h : Rd w R pv s st) (hs : s.size ≤ 131072) (hP : P.length ≤ 1048576) (hp : st.pos ≤ s.data.toList.length) (hk : KIn w pv P) (hKb : Off w R pv P) :
    Calls Try.prog 72 #[.pointer (some ⟨R, 0, none⟩)] w fun x w' => x = .returned (Fd.val (M.fld s.data.toList P st).1) ∧ Rd w' R pv s (M.fld s.data.toList P st).2 ∧ KIn w' pv P ∧ w.grownBy w' (some R) ∧ (M.fld s.data.toList P st).2.pos ≤ s.data.toList.length := by
  have hRl := h.lt
  obtain ⟨wA, hwA⟩ : ∃ wA, wA = (w.alloc (.cells #[.pointer (some ⟨R, 0, none⟩)] 135)).alloc (.cells #[.int .u16 0, .int .u16 0, .int .u16 0, .int .u16 0] 95) := ⟨_, rfl⟩
  have hgA : w.grownBy wA (some R) := by rw [hwA]; exact grown_alloc (World.grownBy_alloc w _ _) _
  have hbA : Bk wA w.heap.size #[.pointer (some ⟨R, 0, none⟩)] 135 := by rw [hwA]; exact (Bk.new _ _ _).alloc _
  have hQA : Bk wA (w.heap.size + 1) #[.int .u16 0, .int .u16 0, .int .u16 0, .int .u16 0] 95 := by
    rw [hwA]; have := Bk.new (w.alloc (.cells #[.pointer (some ⟨R, 0, none⟩)] 135)) #[.int .u16 0, .int .u16 0, .int .u16 0, .int .u16 0] 95; simpa using this
  have hrA : Rd wA R pv s st := by rw [hwA]; exact (h.kept (World.grownBy_alloc w _ none) (by simp)).kept (World.grownBy_alloc _ _ none) (by simp)
  have hzA : wA.heap.size = w.heap.size + 2 := by rw [hwA]; simp
  have HU := hide (fun (st : St) (W : World) (hW : Rd W R pv s st) (hp : st.pos ≤ s.data.toList.length) => U16_any R pv s st W hW hs hp)
  have k0 : wA.cell? ⟨w.heap.size, 0, none⟩ = some (.pointer (some ⟨R, 0, none⟩)) := hbA.cell 0
  have hsA : w.heap.size + 2 ≤ wA.heap.size := by omega
  have hnaA : ¬ wA.heap.size = w.heap.size := by omega
  have hnbA : ¬ w.heap.size = wA.heap.size := by omega
  have hgD : w.grownBy wA.drew (some R) := ⟨hgA.os, hgA.tape, hgA.output, hgA.size, hgA.block⟩
  have HwA := hide hwA
  have Hk := hide hk
  have HK := hide hKb
  unfold M.fld
  have hp3 := M.three_pos (s := s.data.toList) hp
  have hp1 := M.rd_pos (n := 2) hp
  have hp2 := M.rd_pos (n := 2) hp1
  obtain ⟨a1, st1, e1⟩ : ∃ a1 st1, M.rd s.data.toList 2 st = (a1, st1) := ⟨_, _, rfl⟩
  obtain ⟨a2, st2, e2⟩ : ∃ a2 st2, M.rd s.data.toList 2 st1 = (a2, st2) := ⟨_, _, rfl⟩
  obtain ⟨a3, st3, e3⟩ : ∃ a3 st3, M.rd s.data.toList 2 st2 = (a3, st3) := ⟨_, _, rfl⟩
  have e4 : M.three s.data.toList st = (a1, a2, a3, st3) := by unfold M.three; rw [e1]; simp only; rw [e2]; simp only; rw [e3]
  rw [e1] at hp1 hp2
  simp only at hp1 hp2
  rw [e2] at hp2
  rw [e4] at hp3 ⊢
  simp only at hp2 hp3 ⊢
  have HU1 := hide (fun W hW => unhide HU st W hW hp)
  have HU2 := hide (fun W hW => unhide HU st1 W hW hp1)
  have HU3 := hide (fun W hW => unhide HU st2 W hW hp2)
  rw [e1] at HU1
  rw [e2] at HU2
  rw [e3] at HU3
  simp only at HU1 HU2 HU3
  obtain ⟨rv, hrv⟩ : ∃ rv, rv = M.attsN s.data.toList P (M.once s.data.toList M.cvName (M.fval s.data.toList)) (false, 0) st3 := ⟨_, rfl⟩
  rw [← hrv]
  have Hrv := hide hrv
  clear hwA h hk hKb e1 e2 e3 e4 HU hrv hzA
  go_enter Try.func72, Try.ntmps72
  go_upto_region 1 with fail
  rw [← unhide HwA]
  clear HwA
  go_cut [3] (fun p w' => ∃ bf, p = .pointer (some ⟨bf, 0, none⟩) ∧ Hid (Bk w' bf #[.int .u16 (a1 : Int), .int .u16 (a2 : Int), .int .u16 (a3 : Int), .int .u16 0] 95 ∧ w.heap.size + 2 ≤ bf ∧ Rd w' R pv s st3 ∧ w.grownBy w' (some R) ∧ Bk w' w.heap.size #[.pointer (some ⟨R, 0, none⟩)] 135 ∧ Bk w' (w.heap.size + 1) #[.int .u16 0, .int .u16 0, .int .u16 0, .int .u16 0] 95))
  case first =>
    go_region_held3 (fun w' => w'.cell? ⟨w.heap.size, 0, none⟩ = some (.pointer (some ⟨R, 0, none⟩))) (go_keep)
      ((go_at_call 57; first
        | (refine (unhide HU1 _ hrA.drew).mono ?_; rintro e w1 ⟨rfl, hr1, hg1⟩; have hb1 := Bk.kept (w := wA.drew) hbA hg1 (ne_some (by omega)); have k1 : w1.cell? ⟨w.heap.size, 0, none⟩ = some (.pointer (some ⟨R, 0, none⟩)) := hb1.cell 0; have hQ1 := Bk.kept (w := wA.drew) hQA hg1 (ne_some (by omega)); have hs1 : w.heap.size + 2 ≤ w1.heap.size := Nat.le_trans hsA hg1.size; have hna1 : ¬ w1.heap.size = w.heap.size := (by omega); have hnb1 : ¬ w.heap.size = w1.heap.size := (by omega))
        | (refine (unhide HU1 _ (Rd.kept hrA.drew (World.grownBy_alloc _ _ none) (by simp))).mono ?_; rintro e w1 ⟨rfl, hr1, hg1⟩; have hb1 := Bk.kept (w := (World.alloc wA.drew (.cells #[.int .u16 0, .int .u16 0, .int .u16 0, .int .u16 0] 95))) (Bk.alloc (w := wA.drew) hbA _) hg1 (ne_some (by omega)); have k1 : w1.cell? ⟨w.heap.size, 0, none⟩ = some (.pointer (some ⟨R, 0, none⟩)) := hb1.cell 0; have hQ1 := Bk.kept (w := (World.alloc wA.drew (.cells #[.int .u16 0, .int .u16 0, .int .u16 0, .int .u16 0] 95))) (Bk.alloc (w := wA.drew) hQA _) hg1 (ne_some (by omega)); have hs1 : w.heap.size + 2 ≤ w1.heap.size := Nat.le_trans (Nat.le_trans hsA (by simp)) hg1.size; have hna1 : ¬ w1.heap.size = w.heap.size := (by omega); have hnb1 : ¬ w.heap.size = w1.heap.size := (by omega); have hz1 : Bk w1 wA.heap.size #[.int .u16 0, .int .u16 0, .int .u16 0, .int .u16 0] 95 := Bk.kept (w := (World.alloc wA.drew (.cells #[.int .u16 0, .int .u16 0, .int .u16 0, .int .u16 0] 95))) (Bk.new _ _ _) hg1 (ne_some (by omega)))
        | (refine (unhide HU2 _ hr1).mono ?_; rintro e w2 ⟨rfl, hr2, hg2⟩; have hb2 := Bk.kept (w := w1) hb1 hg2 (ne_some (by omega)); have k2 : w2.cell? ⟨w.heap.size, 0, none⟩ = some (.pointer (some ⟨R, 0, none⟩)) := hb2.cell 0; have hQ2 := Bk.kept (w := w1) hQ1 hg2 (ne_some (by omega)); have hs2 : w.heap.size + 2 ≤ w2.heap.size := Nat.le_trans hs1 hg2.size; have hna2 : ¬ w2.heap.size = w.heap.size := (by omega); have hnb2 : ¬ w.heap.size = w2.heap.size := (by omega); have hz2 := Bk.kept (w := w1) hz1 hg2 (ne_some (by omega)))
        | (refine (unhide HU2 _ hr1).mono ?_; rintro e w2 ⟨rfl, hr2, hg2⟩; have hb2 := Bk.kept (w := w1) hb1 hg2 (ne_some (by omega)); have k2 : w2.cell? ⟨w.heap.size, 0, none⟩ = some (.pointer (some ⟨R, 0, none⟩)) := hb2.cell 0; have hQ2 := Bk.kept (w := w1) hQ1 hg2 (ne_some (by omega)); have hs2 : w.heap.size + 2 ≤ w2.heap.size := Nat.le_trans hs1 hg2.size; have hna2 : ¬ w2.heap.size = w.heap.size := (by omega); have hnb2 : ¬ w.heap.size = w2.heap.size := (by omega))
        | (refine (unhide HU2 _ (Rd.kept hr1 (World.grownBy_alloc _ _ none) (by simp))).mono ?_; rintro e w2 ⟨rfl, hr2, hg2⟩; have hb2 := Bk.kept (w := (World.alloc w1 (.cells #[.int .u16 0, .int .u16 0, .int .u16 0, .int .u16 0] 95))) (Bk.alloc hb1 _) hg2 (ne_some (by omega)); have k2 : w2.cell? ⟨w.heap.size, 0, none⟩ = some (.pointer (some ⟨R, 0, none⟩)) := hb2.cell 0; have hQ2 := Bk.kept (w := (World.alloc w1 (.cells #[.int .u16 0, .int .u16 0, .int .u16 0, .int .u16 0] 95))) (Bk.alloc hQ1 _) hg2 (ne_some (by omega)); have hs2 : w.heap.size + 2 ≤ w2.heap.size := Nat.le_trans (Nat.le_trans hs1 (by simp)) hg2.size; have hna2 : ¬ w2.heap.size = w.heap.size := (by omega); have hnb2 : ¬ w.heap.size = w2.heap.size := (by omega); have hz2 : Bk w2 w1.heap.size #[.int .u16 0, .int .u16 0, .int .u16 0, .int .u16 0] 95 := Bk.kept (w := (World.alloc w1 (.cells #[.int .u16 0, .int .u16 0, .int .u16 0, .int .u16 0] 95))) (Bk.new _ _ _) hg2 (ne_some (by omega)))
        | (refine (unhide HU3 _ hr2).mono ?_; rintro e w3 ⟨rfl, hr3, hg3⟩; have hb3 := Bk.kept (w := w2) hb2 hg3 (ne_some (by omega)); have k3 : w3.cell? ⟨w.heap.size, 0, none⟩ = some (.pointer (some ⟨R, 0, none⟩)) := hb3.cell 0; have hQ3 := Bk.kept (w := w2) hQ2 hg3 (ne_some (by omega)); have hs3 : w.heap.size + 2 ≤ w3.heap.size := Nat.le_trans hs2 hg3.size; have hna3 : ¬ w3.heap.size = w.heap.size := (by omega); have hnb3 : ¬ w.heap.size = w3.heap.size := (by omega); have hz3 := Bk.kept (w := w2) hz2 hg3 (ne_some (by omega)); have q0 := hz3.cell 0; have q1 := hz3.cell 1; have q2 := hz3.cell 2; have q3 := hz3.cell 3; have qf := hz3.frozen; simp at q0 q1 q2 q3)
        | (refine (unhide HU3 _ hr2).mono ?_; rintro e w3 ⟨rfl, hr3, hg3⟩; have hb3 := Bk.kept (w := w2) hb2 hg3 (ne_some (by omega)); have k3 : w3.cell? ⟨w.heap.size, 0, none⟩ = some (.pointer (some ⟨R, 0, none⟩)) := hb3.cell 0; have hQ3 := Bk.kept (w := w2) hQ2 hg3 (ne_some (by omega)); have hs3 : w.heap.size + 2 ≤ w3.heap.size := Nat.le_trans hs2 hg3.size; have hna3 : ¬ w3.heap.size = w.heap.size := (by omega); have hnb3 : ¬ w.heap.size = w3.heap.size := (by omega))
        | (refine (unhide HU3 _ (Rd.kept hr2 (World.grownBy_alloc _ _ none) (by simp))).mono ?_; rintro e w3 ⟨rfl, hr3, hg3⟩; have hb3 := Bk.kept (w := (World.alloc w2 (.cells #[.int .u16 0, .int .u16 0, .int .u16 0, .int .u16 0] 95))) (Bk.alloc hb2 _) hg3 (ne_some (by omega)); have k3 : w3.cell? ⟨w.heap.size, 0, none⟩ = some (.pointer (some ⟨R, 0, none⟩)) := hb3.cell 0; have hQ3 := Bk.kept (w := (World.alloc w2 (.cells #[.int .u16 0, .int .u16 0, .int .u16 0, .int .u16 0] 95))) (Bk.alloc hQ2 _) hg3 (ne_some (by omega)); have hs3 : w.heap.size + 2 ≤ w3.heap.size := Nat.le_trans (Nat.le_trans hs2 (by simp)) hg3.size; have hna3 : ¬ w3.heap.size = w.heap.size := (by omega); have hnb3 : ¬ w.heap.size = w3.heap.size := (by omega); have hz3 : Bk w3 w2.heap.size #[.int .u16 0, .int .u16 0, .int .u16 0, .int .u16 0] 95 := Bk.kept (w := (World.alloc w2 (.cells #[.int .u16 0, .int .u16 0, .int .u16 0, .int .u16 0] 95))) (Bk.new _ _ _) hg3 (ne_some (by omega)); have q0 := hz3.cell 0; have q1 := hz3.cell 1; have q2 := hz3.cell 2; have q3 := hz3.cell 3; have qf := hz3.frozen; simp at q0 q1 q2 q3)
        | fail))
    all_goals
      have hgw : w.grownBy w3 (some R) := by
        first
        | exact grown_trans (grown_trans (grown_trans hgD hg1) hg2) hg3
        | exact grown_trans (grown_trans (grown_trans (grown_alloc hgD _) hg1) hg2) hg3
        | exact grown_trans (grown_trans (grown_alloc (grown_trans hgD hg1) _) hg2) hg3
        | exact grown_trans (grown_alloc (grown_trans (grown_trans hgD hg1) hg2) _) hg3
        | fail
      go_wp2
      go_meet
      first
      | exact ⟨_, rfl, four_set hRl hgw hr3 hz3 hb3 hQ3 (by omega) (.int .u16 (a1 : Int)) (.int .u16 (a2 : Int)) (.int .u16 (a3 : Int)) (.int .u16 0)⟩
      | exact ⟨_, rfl, four_new hRl hgw hr3 hb3 hQ3 hs3⟩
      | fail
  case rest =>
    obtain ⟨bf, rfl, H3⟩ := hcut
    obtain ⟨hz, hbf, hr3, hgw, hb, hQ⟩ := unhide H3
    have hK3 := (unhide Hk).kept hgw fun hne b o n c e => by have := (unhide HK) hne b o n c e; simpa using this.1
    have Hi3 : Hid (I0 w R pv s P (VF R w.heap.size bf (w.heap.size + 1) a1 a2 a3) wc 0 st3) := ⟨hr3, hp3, hK3, ⟨hb, hz, hQ⟩, hgw⟩
    have HQ := hide hQ
    have k1 : wc.cell? ⟨w.heap.size, 0, none⟩ = some (.pointer (some ⟨R, 0, none⟩)) := hb.cell 0
    have HOn := hide (once_any R M.cvName (Fn.func 100) #[] #[.pointer (some ⟨w.heap.size, 0, none⟩), .pointer (some ⟨bf, 0, none⟩)] wc.drew)
    have hbl := hz.lt
    have hql := hQ.lt
    unfold M.cvName at HOn
    have hwz := hgw.size
    clear H3 hz hr3 hgw hb hQ hK3 HU1 HU2 HU3 hrA hbA hQA hgA hgD k0 hsA hnaA hnbA
    have HF := hide (fun (w4 : World) (b3 b4 b5 b6 b7 bn : Nat) (hoc : Oc w4 R b3 b4 b5 b6 b7 bn M.cvName false (.func (Fn.func 100) #[] #[.pointer (some ⟨w.heap.size, 0, none⟩), .pointer (some ⟨bf, 0, none⟩)])) (hb4 : Below wc.heap.size wc w4) (g3 : wc.heap.size ≤ b3) (g4 : wc.heap.size ≤ b4) (g5 : wc.heap.size ≤ b5) (g6 : wc.heap.size ≤ b6) (g7 : wc.heap.size ≤ b7) (gn : wc.heap.size ≤ bn) (m3 : b5 ≠ b3) (m4 : b5 ≠ b4) (m6 : b5 ≠ b6) (m7 : b5 ≠ b7) (mn : b5 ≠ bn) =>
      fatts_any (W := w4) (st := st3) hs hP (w0 := w) (R := R) (bf := bf) ⟨hRl, by omega, by omega, by omega, by omega, by omega, by omega, m3, m4, m6, m7, mn, by omega, by omega, by omega, by omega, by omega, by omega⟩ (Nat.le_refl _) (by omega) (by omega) (by omega) (Nat.le_succ _) (by omega) (by omega) (unhide HK) ((unhide Hi3).below hb4 fun h => ⟨h.1.below hb4, h.2.1.below hb4, h.2.2.below hb4⟩) hoc)
    rw [← unhide Hrv] at HF
    go_upto_region 2 with fail
    go_cut [] (fun w' => Hid (I0 w R pv s P (VF R w.heap.size bf (w.heap.size + 1) a1 a2 a3) w' rv.1.2 rv.2))
    case first =>
      go_region_held3 (fun w' => w'.cell? ⟨w.heap.size, 0, none⟩ = some (.pointer (some ⟨R, 0, none⟩))) (go_keep)
        ((first
          | (go_at_call 99; refine (unhide HOn).mono ?_; rintro e w4 ⟨b3, b4, b5, b6, b7, bn, rfl, hoc, hb4, g3, g4, g5, g6, g7, gn, m3, m4, m6, m7, mn⟩; have hb4' : Below wc.heap.size wc w4 := ⟨hb4.os, hb4.tape, hb4.output, hb4.size, hb4.block⟩; have k4 : w4.cell? ⟨w.heap.size, 0, none⟩ = some (.pointer (some ⟨R, 0, none⟩)) := ((unhide Hi3).val.1.below hb4').cell 0; have HFa := hide (unhide HF w4 b3 b4 b5 b6 b7 bn hoc hb4' g3 g4 g5 g6 g7 gn m3 m4 m6 m7 mn))
          | (go_at_call 75; refine (unhide HFa).mono ?_; rintro e w5 ⟨rfl, hi5⟩; have k5 : w5.cell? ⟨w.heap.size, 0, none⟩ = some (.pointer (some ⟨R, 0, none⟩)) := hi5.val.1.cell 0)
          | fail))
      all_goals
        have Hi5 := hide hi5
        clear HFa hoc hb4 hb4' hi5
        go_wp2
        go_meet
        exact Hi5
    case rest =>
      clear Hi3 HF HOn k1
      have hi5 := unhide hcut
      obtain ⟨v1, v2, v3⟩ := hi5.val
      have q0 := v2.cell 0
      have q1 := v2.cell 1
      have q2 := v2.cell 2
      have q3 := v2.cell 3
      have z0 := v3.cell 0
      have z1 := v3.cell 1
      have z2 := v3.cell 2
      have z3 := v3.cell 3
      have zf := v3.frozen
      simp at q0 q1 q2 q3 z0 z1 z2 z3
      have HE := hide (end4 hRl hi5.gr hi5.rd v3 (Nat.le_succ _) (.int .u16 (a1 : Int)) (.int .u16 (a2 : Int)) (.int .u16 (a3 : Int)) (.int .u16 (rv.1.2 : Int)))
      have HKe := hide ((((hi5.pool.kept (grown_set _ (w.heap.size + 1) 0 (.int .u16 (a1 : Int))) (off_ne (unhide HK))).kept (grown_set _ (w.heap.size + 1) 1 (.int .u16 (a2 : Int))) (off_ne (unhide HK))).kept (grown_set _ (w.heap.size + 1) 2 (.int .u16 (a3 : Int))) (off_ne (unhide HK))).kept (grown_set _ (w.heap.size + 1) 3 (.int .u16 (rv.1.2 : Int))) (off_ne (unhide HK)))
      have hpe := hi5.pos
      clear hi5 v1 v2 v3 hcut
      go_wp2
      obtain ⟨e1, e2, e3⟩ := unhide HE
      refine bodyPost_ret (results_cell_row Try.results72 _ _ (w.heap.size + 1) 95 _ (0, 0) _ rfl e1 Try.underlying95 rfl (by kernel_rfl)) rfl ?_
      exact ⟨rfl, e2, unhide HKe, e3, hpe⟩
end Go.Proofs.Ytbgpkkbejbidlac.Cl
