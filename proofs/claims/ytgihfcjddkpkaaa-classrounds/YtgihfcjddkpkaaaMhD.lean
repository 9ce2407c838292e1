/-
  Package class: a field.
  Package class: a field, and lists of them.
  Package class: what is in a map's attribute, and the attributes of code.
  Package class: code.
  Package class: what is in a Code attribute, and the attributes of a method.
  Package class: a method.
-/
import Derived.Test.YtgihfcjddkpkaaaMhB
import Derived.Test.YtgihfcjddkpkaaaMgCn
namespace Go.Proofs.Ytgihfcjddkpkaaa.Rc
open Go.RowKit
theorem store_fn (W : World) (b : Nat) (fn : Fn) (a c : Array Value) (u : Value) (hc : W.cell? ⟨b, 0, none⟩ = some u) (hf : W.frozen? ⟨b, 0, none⟩ = false) : Sem.run Try.prog (store ⟨b, 0, none⟩ (.func fn a c)) W = .ok () (W.setCell ⟨b, 0, none⟩ (.func fn a c)) := by
  rw [run_store Try.prog W _ (.func fn a c) _ rfl, hc]
  simp [hf]
/-- What once lays, its pass not yet in its cell. -/
def wOnce (w : World) (R : Nat) (cnt : List UInt8) (rf : Value) : World :=
  (((((w.alloc (.cells #[.pointer (some ⟨R, 0, none⟩)] 135)).alloc (.cells #[.string ⟨cnt.toArray⟩] 9)).alloc (.cells #[rf] 70)).alloc (.cells #[.pointer (some ⟨R, 0, none⟩)] 135)).alloc (.cells #[.nilFunc] 143)).alloc (.cells #[.bool false] 4)
def fPass (w : World) : Value := .func (Fn.func 104) #[] #[.pointer (some ⟨w.heap.size + 1 + 1 + 1, 0, none⟩)]
theorem wOnce_pass (w : World) (R : Nat) (cnt : List UInt8) (rf : Value) : Bk (wOnce w R cnt rf) (w.heap.size + 1 + 1 + 1 + 1) #[.nilFunc] 143 := by
  unfold wOnce
  have h := (Bk.new ((((w.alloc (.cells #[.pointer (some ⟨R, 0, none⟩)] 135)).alloc (.cells #[.string ⟨cnt.toArray⟩] 9)).alloc (.cells #[rf] 70)).alloc (.cells #[.pointer (some ⟨R, 0, none⟩)] 135)) #[.nilFunc] 143).alloc (.cells #[.bool false] 4)
  simpa using h
/-- What once lays. -/
def wAll (w : World) (R : Nat) (cnt : List UInt8) (rf : Value) : World :=
  (((((w.alloc (.cells #[.pointer (some ⟨R, 0, none⟩)] 135)).alloc (.cells #[.string ⟨cnt.toArray⟩] 9)).alloc (.cells #[rf] 70)).alloc (.cells #[.pointer (some ⟨R, 0, none⟩)] 135)).alloc (.cells #[fPass w] 143)).alloc (.cells #[.bool false] 4)
theorem wAll_below (w : World) (R : Nat) (cnt : List UInt8) (rf : Value) : Below w.heap.size w (wAll w R cnt rf) := by
  unfold wAll
  exact ((((((Below.refl _ _).alloc (Nat.le_refl _) _).alloc (by simp) _).alloc (by simp; omega) _).alloc (by simp; omega) _).alloc (by simp; omega) _).alloc (by simp; omega) _
theorem wAll_oc (w : World) (R : Nat) (cnt : List UInt8) (rf : Value) : Oc (wAll w R cnt rf) R (w.heap.size + 1) (w.heap.size + 1 + 1 + 1 + 1) (w.heap.size + 1 + 1 + 1 + 1 + 1) w.heap.size (w.heap.size + 1 + 1) (w.heap.size + 1 + 1 + 1) cnt false rf := by
  unfold wAll
  refine ⟨?_, ?_, ?_, ?_, ?_, ?_⟩
  · have h := ((((Bk.new (w.alloc (.cells #[.pointer (some ⟨R, 0, none⟩)] 135)) #[.string ⟨cnt.toArray⟩] 9).alloc (.cells #[rf] 70)).alloc (.cells #[.pointer (some ⟨R, 0, none⟩)] 135)).alloc (.cells #[fPass w] 143)).alloc (.cells #[.bool false] 4)
    simpa using h
  · have h := (Bk.new ((((w.alloc (.cells #[.pointer (some ⟨R, 0, none⟩)] 135)).alloc (.cells #[.string ⟨cnt.toArray⟩] 9)).alloc (.cells #[rf] 70)).alloc (.cells #[.pointer (some ⟨R, 0, none⟩)] 135)) #[fPass w] 143).alloc (.cells #[.bool false] 4)
    show Bk _ _ #[fPass w] 143
    simpa using h
  · have h := Bk.new (((((w.alloc (.cells #[.pointer (some ⟨R, 0, none⟩)] 135)).alloc (.cells #[.string ⟨cnt.toArray⟩] 9)).alloc (.cells #[rf] 70)).alloc (.cells #[.pointer (some ⟨R, 0, none⟩)] 135)).alloc (.cells #[fPass w] 143)) #[.bool false] 4
    simpa using h
  · exact (((((Bk.new w _ 135).alloc _).alloc _).alloc _).alloc _).alloc _
  · have h := (((Bk.new ((w.alloc (.cells #[.pointer (some ⟨R, 0, none⟩)] 135)).alloc (.cells #[.string ⟨cnt.toArray⟩] 9)) #[rf] 70).alloc (.cells #[.pointer (some ⟨R, 0, none⟩)] 135)).alloc (.cells #[fPass w] 143)).alloc (.cells #[.bool false] 4)
    simpa using h
  · have h := ((Bk.new (((w.alloc (.cells #[.pointer (some ⟨R, 0, none⟩)] 135)).alloc (.cells #[.string ⟨cnt.toArray⟩] 9)).alloc (.cells #[rf] 70)) #[.pointer (some ⟨R, 0, none⟩)] 135).alloc (.cells #[fPass w] 143)).alloc (.cells #[.bool false] 4)
    simpa using h
theorem none_any (R : Nat) (w : World) : Calls Try.prog 76 #[.pointer (some ⟨R, 0, none⟩)] w fun e w' => e = .returned (.func (Fn.func 104) #[] #[.pointer (some ⟨w.heap.size, 0, none⟩)]) ∧ w' = w.alloc (.cells #[.pointer (some ⟨R, 0, none⟩)] 135) := by
  go_enter Try.func76, Try.ntmps76
  go_wp2
  go_ret
  exact ⟨rfl, rfl⟩
set_option maxRecDepth 100000 in
set_option maxHeartbeats 1000000 in
theorem once_any (R : Nat) (cnt : List UInt8) (fn : Fn) (f1 f2 : Array Value) (w : World) : Calls Try.prog 99 #[.pointer (some ⟨R, 0, none⟩), .string ⟨cnt.toArray⟩, .func fn f1 f2] w fun e w' => ∃ b3 b4 b5 b6 b7 bn, e = .returned (.func (Fn.func 117) #[] #[.pointer (some ⟨b3, 0, none⟩), .pointer (some ⟨b4, 0, none⟩), .pointer (some ⟨b5, 0, none⟩), .pointer (some ⟨b6, 0, none⟩), .pointer (some ⟨b7, 0, none⟩)]) ∧
      Oc w' R b3 b4 b5 b6 b7 bn cnt false (.func fn f1 f2) ∧ Below w.heap.size w w' ∧ w.heap.size ≤ b3 ∧ w.heap.size ≤ b4 ∧ w.heap.size ≤ b5 ∧ w.heap.size ≤ b6 ∧ w.heap.size ≤ b7 ∧ w.heap.size ≤ bn ∧ b5 ≠ b3 ∧ b5 ≠ b4 ∧ b5 ≠ b6 ∧ b5 ≠ b7 ∧ b5 ≠ bn := by
  have HN := hide (none_any R)
  have hst := store_fn (wOnce w R cnt (.func fn f1 f2)) (w.heap.size + 1 + 1 + 1 + 1) (Fn.func 104) #[] #[.pointer (some ⟨w.heap.size + 1 + 1 + 1, 0, none⟩)] .nilFunc ((wOnce_pass _ _ _ _).cell 0) ((wOnce_pass _ _ _ _).frozen 0)
  unfold wOnce at hst
  go_enter Try.func99, Try.ntmps99
  go_wp2_with fail
  refine (unhide HN _).mono ?_
  rintro e w1 ⟨rfl, hw1⟩
  subst w1
  go_wp2
  go_ret
  refine ⟨_, _, _, _, _, w.heap.size + 1 + 1 + 1, rfl, ?_, ?_, by omega, by omega, by omega, by omega, by omega, by omega, by omega, by omega, by omega, by omega, by omega⟩
  · exact wAll_oc w R cnt (.func fn f1 f2)
  · exact wAll_below w R cnt (.func fn f1 f2)
/-- A field that is being read. -/
def VF (R b1 bf br : Nat) (a b c : Nat) (W : World) (v : Nat) : Prop := Bk W b1 #[.pointer (some ⟨R, 0, none⟩)] 135 ∧ Bk W bf #[.int .u16 (a : Int), .int .u16 (b : Int), .int .u16 (c : Int), .int .u16 (v : Int)] 95 ∧ Bk W br #[.int .u16 0, .int .u16 0, .int .u16 0, .int .u16 0] 95
set_option maxRecDepth 100000 in
theorem field1_any {w0 : World} {R b1 bf br : Nat} {pv : Value} {s : ByteArray} {P : List K} {a b c : Nat} (hs : s.size ≤ 131072) (hR : R < w0.heap.size) (h1 : w0.heap.size ≤ b1) (hf : w0.heap.size ≤ bf) (h1f : b1 ≠ bf) (hrg : w0.heap.size ≤ br) (hrf : br ≠ bf) (hKb : Off w0 R pv P) (W : World) (v : Nat) (st : St) (n : Nat) (_ : n < 4294967296) (h : I0 w0 R pv s P (VF R b1 bf br a b c) W v st) :
    Calls Try.prog 100 #[.int .i64 (n : Int), .pointer (some ⟨b1, 0, none⟩), .pointer (some ⟨bf, 0, none⟩)] W fun e W' => e = .returned (.tuple #[]) ∧ I0 w0 R pv s P (VF R b1 bf br a b c) W' (M.fval s.data.toList v n st).1 (M.fval s.data.toList v n st).2 ∧ ∀ b cs t, b ≠ R → b ≠ bf → b < W.heap.size → Bk W b cs t → Bk W' b cs t := by
  have H := hide h
  have HU := hide (U16_any R pv s st W h.rd hs h.pos)
  have k1 : W.cell? ⟨b1, 0, none⟩ = some (.pointer (some ⟨R, 0, none⟩)) := h.val.1.cell 0
  have hp2 := M.rd_pos (n := 2) h.pos
  unfold M.fval
  obtain ⟨x, st1, hx⟩ : ∃ x st1, M.rd s.data.toList 2 st = (x, st1) := ⟨_, _, rfl⟩
  rw [hx] at HU hp2 ⊢
  simp only at HU hp2 ⊢
  have HK := hide hKb
  clear h hx hKb
  go_enter Try.func100, Try.ntmps100
  go_wp2_with fail
  refine (unhide HU).mono ?_
  rintro e w1 ⟨rfl, hr1, hg1⟩
  have v1 := (unhide H).val.1.kept hg1 (by simp; omega)
  have v2 := (unhide H).val.2.1.kept hg1 (by simp; omega)
  have v3 := (unhide H).val.2.2.kept hg1 (by simp; omega)
  have q3 : w1.cell? ⟨bf, 3, none⟩ = some (.int .u16 (v : Int)) := v2.cell 3
  have qf := v2.frozen 3
  have hK1 := (unhide H).pool.kept hg1 fun hne b o n c e => by have := (unhide HK) hne b o n c e; simpa using this.1
  have HI : Hid (I0 w0 R pv s P (VF R b1 bf br a b c) (w1.setCell ⟨bf, 3, none⟩ (.int .u16 (x : Int))) x st1) := by
    refine ⟨hr1.other 3 _ (by omega), hp2, hK1.kept (grown_set w1 bf 3 _) fun hne b o n c e => by have := ((unhide HK) hne b o n c e).2; simp; omega, ⟨v1.other 3 _ h1f, v2.set 3 _, v3.other 3 _ hrf⟩, grown_new (grown_trans (unhide H).gr hg1) hf 3 _⟩
  have HK2 : Hid (∀ b cs t, b ≠ R → b ≠ bf → b < W.heap.size → Bk W b cs t → Bk (w1.setCell ⟨bf, 3, none⟩ (.int .u16 (x : Int))) b cs t) := fun b cs t hb1 hb2 _ hb => (hb.kept hg1 (by simpa using hb1)).other 3 _ hb2
  clear HU hr1 hg1 v1 v2 v3 k1 hK1
  go_wp2
  go_end0
  exact ⟨rfl, unhide HI, unhide HK2⟩
end Go.Proofs.Ytgihfcjddkpkaaa.Rc
namespace Go.Proofs.Ytgihfcjddkpkaaa.Rc
open Go.RowKit
def Fd.val (f : Fd) : Value := .agg #[.int .u16 (f.flags : Int), .int .u16 (f.name : Int), .int .u16 (f.type_ : Int), .int .u16 (f.value : Int)]
theorem ne_some {a b : Nat} (h : a ≠ b) : some a ≠ some b := fun e => h (by cases e; rfl)
theorem I0.below {σ : Type} {w0 W W' : World} {R : Nat} {pv : Value} {s : ByteArray} {P : List K} {V : World → σ → Prop} {v : σ} {st : St} (h : I0 w0 R pv s P V W v st) (hb : Below W.heap.size W W') (hV : V W v → V W' v) : I0 w0 R pv s P V W' v st :=
  ⟨h.rd.kept (grown_of_below hb none) (by simp), h.pos, h.pool.below hb, hV h.val, grown_trans h.gr (grown_of_below hb _)⟩
theorem off_ne {w : World} {R : Nat} {pv : Value} {P : List K} (h : Off w R pv P) : P ≠ [] → ∀ b o n c, pv = .slice (some ⟨b, o, none⟩) n c → some b ≠ some (w.heap.size + 1) := fun hne b o n c e => ne_some (by have := (h hne b o n c e).2; omega)
/-- Attributes of a field, by a closure that was laid behind a world. -/
theorem fatts_any {w0 W : World} {R b1 bf br b3 b4 b5 b6 b7 bn : Nat} {pv : Value} {s : ByteArray} {P : List K} {a b c : Nat} {st : St} (hs : s.size ≤ 131072) (hP : P.length ≤ 1048576) (hb : Apart w0 R b3 b4 b5 b6 b7 bn bf) (h1 : w0.heap.size ≤ b1) (hf : w0.heap.size ≤ bf) (h1f : b1 ≠ bf) (h15 : b1 ≠ b5) (hrg : w0.heap.size ≤ br) (hrf : br ≠ bf) (hr5 : br ≠ b5) (hKb : Off w0 R pv P)
    (hi : I0 w0 R pv s P (VF R b1 bf br a b c) W 0 st) (hoc : Oc W R b3 b4 b5 b6 b7 bn M.cvName false (.func (Fn.func 100) #[] #[.pointer (some ⟨b1, 0, none⟩), .pointer (some ⟨bf, 0, none⟩)])) :
    Calls Try.prog 75 #[.pointer (some ⟨R, 0, none⟩), .func (Fn.func 117) #[] #[.pointer (some ⟨b3, 0, none⟩), .pointer (some ⟨b4, 0, none⟩), .pointer (some ⟨b5, 0, none⟩), .pointer (some ⟨b6, 0, none⟩), .pointer (some ⟨b7, 0, none⟩)]] W fun e w' => e = .returned (.tuple #[]) ∧
      I0 w0 R pv s P (VF R b1 bf br a b c) w' (M.attsN s.data.toList P (M.once s.data.toList M.cvName (M.fval s.data.toList)) (false, 0) st).1.2 (M.attsN s.data.toList P (M.once s.data.toList M.cvName (M.fval s.data.toList)) (false, 0) st).2 := by
  have hV : ∀ W W' v row, row = some R ∨ row = some b5 → W.grownBy W' row → VF R b1 bf br a b c W v → VF R b1 bf br a b c W' v := by
    intro W W' v row hr hg hv
    have hR := hb.r
    rcases hr with rfl | rfl
    · exact ⟨hv.1.kept hg (ne_some (by omega)), hv.2.1.kept hg (ne_some (by omega)), hv.2.2.kept hg (ne_some (by omega))⟩
    · exact ⟨hv.1.kept hg (ne_some h15), hv.2.1.kept hg (ne_some hb.f5), hv.2.2.kept hg (ne_some hr5)⟩
  refine (attributes_any _ _ _ _ _ R pv s P (M.once s.data.toList M.cvName (M.fval s.data.toList)) (I1 w0 R b3 b4 b5 b6 b7 bn pv s P (VF R b1 bf br a b c) M.cvName (.func (Fn.func 100) #[] #[.pointer (some ⟨b1, 0, none⟩), .pointer (some ⟨bf, 0, none⟩)])) hs hP (fun _ _ _ h => h.i0.rd) (fun _ _ _ h => h.i0.pool) (fun _ _ _ h => h.i0.pos) (fun _ _ _ _ _ h hg hr hp => h.reader hb hKb hV hg hr hp) ?_ (false, 0) st W ⟨hi, hoc⟩).mono fun e w' h => ⟨h.1, h.2.i0⟩
  intro W x st a n name h hn _
  exact once_field hs hb hKb hV (fun W v st n hn h => field1_any hs hb.r h1 hf h1f hrg hrf hKb W v st n hn h) W x st a n name h hn
theorem four_set {w w3 : World} {R g : Nat} {pv : Value} {s : ByteArray} {st : St} {a b c d : Value} {t : TypeId} {x1 x2 : Array Value} {t1 t2 : TypeId} (hR : R < w.heap.size) (hgw : w.grownBy w3 (some R)) (hr : Rd w3 R pv s st) (hz : Bk w3 g #[a, b, c, d] t) (hb : Bk w3 w.heap.size x1 t1) (hQ : Bk w3 (w.heap.size + 1) x2 t2) (hg : w.heap.size + 2 ≤ g) (x y z u : Value) :
    Bk ((((w3.setCell ⟨g, 0, none⟩ x).setCell ⟨g, 1, none⟩ y).setCell ⟨g, 2, none⟩ z).setCell ⟨g, 3, none⟩ u) g #[x, y, z, u] t ∧ w.heap.size + 2 ≤ g ∧ Rd ((((w3.setCell ⟨g, 0, none⟩ x).setCell ⟨g, 1, none⟩ y).setCell ⟨g, 2, none⟩ z).setCell ⟨g, 3, none⟩ u) R pv s st ∧
      w.grownBy ((((w3.setCell ⟨g, 0, none⟩ x).setCell ⟨g, 1, none⟩ y).setCell ⟨g, 2, none⟩ z).setCell ⟨g, 3, none⟩ u) (some R) ∧ Bk ((((w3.setCell ⟨g, 0, none⟩ x).setCell ⟨g, 1, none⟩ y).setCell ⟨g, 2, none⟩ z).setCell ⟨g, 3, none⟩ u) w.heap.size x1 t1 ∧ Bk ((((w3.setCell ⟨g, 0, none⟩ x).setCell ⟨g, 1, none⟩ y).setCell ⟨g, 2, none⟩ z).setCell ⟨g, 3, none⟩ u) (w.heap.size + 1) x2 t2 := by
  have he := end4 hR hgw hr hz (by omega) x y z u
  have n1 : w.heap.size ≠ g := by omega
  have n2 : w.heap.size + 1 ≠ g := by omega
  exact ⟨he.1, hg, he.2.1, he.2.2, (((hb.other 0 x n1).other 1 y n1).other 2 z n1).other 3 u n1, (((hQ.other 0 x n2).other 1 y n2).other 2 z n2).other 3 u n2⟩
theorem four_new {w w3 : World} {R : Nat} {pv : Value} {s : ByteArray} {st : St} {cs : Array Value} {t : TypeId} {x1 x2 : Array Value} {t1 t2 : TypeId} (_ : R < w.heap.size) (hgw : w.grownBy w3 (some R)) (hr : Rd w3 R pv s st) (hb : Bk w3 w.heap.size x1 t1) (hQ : Bk w3 (w.heap.size + 1) x2 t2) (hg : w.heap.size + 2 ≤ w3.heap.size) :
    Bk (w3.alloc (.cells cs t)) w3.heap.size cs t ∧ w.heap.size + 2 ≤ w3.heap.size ∧ Rd (w3.alloc (.cells cs t)) R pv s st ∧ w.grownBy (w3.alloc (.cells cs t)) (some R) ∧ Bk (w3.alloc (.cells cs t)) w.heap.size x1 t1 ∧ Bk (w3.alloc (.cells cs t)) (w.heap.size + 1) x2 t2 :=
  ⟨Bk.new _ _ _, hg, hr.kept (World.grownBy_alloc w3 _ none) (by simp), grown_alloc hgw _, hb.alloc _, hQ.alloc _⟩
set_option maxRecDepth 100000 in
set_option maxHeartbeats 2000000 in
theorem field_any (R : Nat) (pv : Value) (s : ByteArray) (P : List K) (st : St) (w : World) (h : Rd w R pv s st) (hs : s.size ≤ 131072) (hP : P.length ≤ 1048576) (hp : st.pos ≤ s.data.toList.length) (hk : KIn w pv P) (hKb : Off w R pv P) :
    Calls Try.prog 72 #[.pointer (some ⟨R, 0, none⟩)] w fun x w' => x = .returned (Fd.val (M.fld s.data.toList P st).1) ∧ Rd w' R pv s (M.fld s.data.toList P st).2 ∧ KIn w' pv P ∧ w.grownBy w' (some R) ∧ (M.fld s.data.toList P st).2.pos ≤ s.data.toList.length := by
  have hRl := h.lt
  obtain ⟨wA, hwA⟩ : ∃ wA, wA = (w.alloc (.cells #[.pointer (some ⟨R, 0, none⟩)] 135)).alloc (.cells #[.int .u16 0, .int .u16 0, .int .u16 0, .int .u16 0] 95) := ⟨_, rfl⟩
  have hgA : w.grownBy wA (some R) := by rw [hwA]; exact grown_alloc (World.grownBy_alloc w _ _) _
  have hbA : Bk wA w.heap.size #[.pointer (some ⟨R, 0, none⟩)] 135 := by rw [hwA]; exact (Bk.new _ _ _).alloc _
  have hQA : Bk wA (w.heap.size + 1) #[.int .u16 0, .int .u16 0, .int .u16 0, .int .u16 0] 95 := by
    rw [hwA]; have := Bk.new (w.alloc (.cells #[.pointer (some ⟨R, 0, none⟩)] 135)) #[.int .u16 0, .int .u16 0, .int .u16 0, .int .u16 0] 95; simpa using this
  have hrA : Rd wA R pv s st := by rw [hwA]; exact (h.kept (World.grownBy_alloc w _ none) (by simp)).kept (World.grownBy_alloc _ _ none) (by simp)
  have hzA : wA.heap.size = w.heap.size + 2 := by rw [hwA]; simp
  have HU := hide (fun (st : St) (W : World) (hW : Rd W R pv s st) (hp : st.pos ≤ s.data.toList.length) => U16_any R pv s st W hW hs hp)
  have k0 : wA.cell? ⟨w.heap.size, 0, none⟩ = some (.pointer (some ⟨R, 0, none⟩)) := hbA.cell 0
  have hsA : w.heap.size + 2 ≤ wA.heap.size := by omega
  have hnaA : ¬ wA.heap.size = w.heap.size := by omega
  have hnbA : ¬ w.heap.size = wA.heap.size := by omega
  have hgD : w.grownBy wA.drew (some R) := ⟨hgA.os, hgA.tape, hgA.output, hgA.size, hgA.block⟩
  have HwA := hide hwA
  have Hk := hide hk
  have HK := hide hKb
  unfold M.fld
  have hp3 := M.three_pos (s := s.data.toList) hp
  have hp1 := M.rd_pos (n := 2) hp
  have hp2 := M.rd_pos (n := 2) hp1
  obtain ⟨a1, st1, e1⟩ : ∃ a1 st1, M.rd s.data.toList 2 st = (a1, st1) := ⟨_, _, rfl⟩
  obtain ⟨a2, st2, e2⟩ : ∃ a2 st2, M.rd s.data.toList 2 st1 = (a2, st2) := ⟨_, _, rfl⟩
  obtain ⟨a3, st3, e3⟩ : ∃ a3 st3, M.rd s.data.toList 2 st2 = (a3, st3) := ⟨_, _, rfl⟩
  have e4 : M.three s.data.toList st = (a1, a2, a3, st3) := by unfold M.three; rw [e1]; simp only; rw [e2]; simp only; rw [e3]
  rw [e1] at hp1 hp2
  simp only at hp1 hp2
  rw [e2] at hp2
  rw [e4] at hp3 ⊢
  simp only at hp2 hp3 ⊢
  have HU1 := hide (fun W hW => unhide HU st W hW hp)
  have HU2 := hide (fun W hW => unhide HU st1 W hW hp1)
  have HU3 := hide (fun W hW => unhide HU st2 W hW hp2)
  rw [e1] at HU1
  rw [e2] at HU2
  rw [e3] at HU3
  simp only at HU1 HU2 HU3
  obtain ⟨rv, hrv⟩ : ∃ rv, rv = M.attsN s.data.toList P (M.once s.data.toList M.cvName (M.fval s.data.toList)) (false, 0) st3 := ⟨_, rfl⟩
  rw [← hrv]
  have Hrv := hide hrv
  clear hwA h hk hKb e1 e2 e3 e4 HU hrv hzA
  go_enter Try.func72, Try.ntmps72
  go_upto_region 1 with fail
  rw [← unhide HwA]
  clear HwA
  go_cut [3] (fun p w' => ∃ bf, p = .pointer (some ⟨bf, 0, none⟩) ∧ Hid (Bk w' bf #[.int .u16 (a1 : Int), .int .u16 (a2 : Int), .int .u16 (a3 : Int), .int .u16 0] 95 ∧ w.heap.size + 2 ≤ bf ∧ Rd w' R pv s st3 ∧ w.grownBy w' (some R) ∧ Bk w' w.heap.size #[.pointer (some ⟨R, 0, none⟩)] 135 ∧ Bk w' (w.heap.size + 1) #[.int .u16 0, .int .u16 0, .int .u16 0, .int .u16 0] 95))
  case first =>
    go_region_held3 (fun w' => w'.cell? ⟨w.heap.size, 0, none⟩ = some (.pointer (some ⟨R, 0, none⟩))) (go_keep)
      ((go_at_call 57; first
        | (refine (unhide HU1 _ hrA.drew).mono ?_; rintro e w1 ⟨rfl, hr1, hg1⟩; have hb1 := Bk.kept (w := wA.drew) hbA hg1 (ne_some (by omega)); have k1 : w1.cell? ⟨w.heap.size, 0, none⟩ = some (.pointer (some ⟨R, 0, none⟩)) := hb1.cell 0; have hQ1 := Bk.kept (w := wA.drew) hQA hg1 (ne_some (by omega)); have hs1 : w.heap.size + 2 ≤ w1.heap.size := Nat.le_trans hsA hg1.size; have hna1 : ¬ w1.heap.size = w.heap.size := (by omega); have hnb1 : ¬ w.heap.size = w1.heap.size := (by omega))
        | (refine (unhide HU1 _ (Rd.kept hrA.drew (World.grownBy_alloc _ _ none) (by simp))).mono ?_; rintro e w1 ⟨rfl, hr1, hg1⟩; have hb1 := Bk.kept (w := (World.alloc wA.drew (.cells #[.int .u16 0, .int .u16 0, .int .u16 0, .int .u16 0] 95))) (Bk.alloc (w := wA.drew) hbA _) hg1 (ne_some (by omega)); have k1 : w1.cell? ⟨w.heap.size, 0, none⟩ = some (.pointer (some ⟨R, 0, none⟩)) := hb1.cell 0; have hQ1 := Bk.kept (w := (World.alloc wA.drew (.cells #[.int .u16 0, .int .u16 0, .int .u16 0, .int .u16 0] 95))) (Bk.alloc (w := wA.drew) hQA _) hg1 (ne_some (by omega)); have hs1 : w.heap.size + 2 ≤ w1.heap.size := Nat.le_trans (Nat.le_trans hsA (by simp)) hg1.size; have hna1 : ¬ w1.heap.size = w.heap.size := (by omega); have hnb1 : ¬ w.heap.size = w1.heap.size := (by omega); have hz1 : Bk w1 wA.heap.size #[.int .u16 0, .int .u16 0, .int .u16 0, .int .u16 0] 95 := Bk.kept (w := (World.alloc wA.drew (.cells #[.int .u16 0, .int .u16 0, .int .u16 0, .int .u16 0] 95))) (Bk.new _ _ _) hg1 (ne_some (by omega)))
        | (refine (unhide HU2 _ hr1).mono ?_; rintro e w2 ⟨rfl, hr2, hg2⟩; have hb2 := Bk.kept (w := w1) hb1 hg2 (ne_some (by omega)); have k2 : w2.cell? ⟨w.heap.size, 0, none⟩ = some (.pointer (some ⟨R, 0, none⟩)) := hb2.cell 0; have hQ2 := Bk.kept (w := w1) hQ1 hg2 (ne_some (by omega)); have hs2 : w.heap.size + 2 ≤ w2.heap.size := Nat.le_trans hs1 hg2.size; have hna2 : ¬ w2.heap.size = w.heap.size := (by omega); have hnb2 : ¬ w.heap.size = w2.heap.size := (by omega); have hz2 := Bk.kept (w := w1) hz1 hg2 (ne_some (by omega)))
        | (refine (unhide HU2 _ hr1).mono ?_; rintro e w2 ⟨rfl, hr2, hg2⟩; have hb2 := Bk.kept (w := w1) hb1 hg2 (ne_some (by omega)); have k2 : w2.cell? ⟨w.heap.size, 0, none⟩ = some (.pointer (some ⟨R, 0, none⟩)) := hb2.cell 0; have hQ2 := Bk.kept (w := w1) hQ1 hg2 (ne_some (by omega)); have hs2 : w.heap.size + 2 ≤ w2.heap.size := Nat.le_trans hs1 hg2.size; have hna2 : ¬ w2.heap.size = w.heap.size := (by omega); have hnb2 : ¬ w.heap.size = w2.heap.size := (by omega))
        | (refine (unhide HU2 _ (Rd.kept hr1 (World.grownBy_alloc _ _ none) (by simp))).mono ?_; rintro e w2 ⟨rfl, hr2, hg2⟩; have hb2 := Bk.kept (w := (World.alloc w1 (.cells #[.int .u16 0, .int .u16 0, .int .u16 0, .int .u16 0] 95))) (Bk.alloc hb1 _) hg2 (ne_some (by omega)); have k2 : w2.cell? ⟨w.heap.size, 0, none⟩ = some (.pointer (some ⟨R, 0, none⟩)) := hb2.cell 0; have hQ2 := Bk.kept (w := (World.alloc w1 (.cells #[.int .u16 0, .int .u16 0, .int .u16 0, .int .u16 0] 95))) (Bk.alloc hQ1 _) hg2 (ne_some (by omega)); have hs2 : w.heap.size + 2 ≤ w2.heap.size := Nat.le_trans (Nat.le_trans hs1 (by simp)) hg2.size; have hna2 : ¬ w2.heap.size = w.heap.size := (by omega); have hnb2 : ¬ w.heap.size = w2.heap.size := (by omega); have hz2 : Bk w2 w1.heap.size #[.int .u16 0, .int .u16 0, .int .u16 0, .int .u16 0] 95 := Bk.kept (w := (World.alloc w1 (.cells #[.int .u16 0, .int .u16 0, .int .u16 0, .int .u16 0] 95))) (Bk.new _ _ _) hg2 (ne_some (by omega)))
        | (refine (unhide HU3 _ hr2).mono ?_; rintro e w3 ⟨rfl, hr3, hg3⟩; have hb3 := Bk.kept (w := w2) hb2 hg3 (ne_some (by omega)); have k3 : w3.cell? ⟨w.heap.size, 0, none⟩ = some (.pointer (some ⟨R, 0, none⟩)) := hb3.cell 0; have hQ3 := Bk.kept (w := w2) hQ2 hg3 (ne_some (by omega)); have hs3 : w.heap.size + 2 ≤ w3.heap.size := Nat.le_trans hs2 hg3.size; have hna3 : ¬ w3.heap.size = w.heap.size := (by omega); have hnb3 : ¬ w.heap.size = w3.heap.size := (by omega); have hz3 := Bk.kept (w := w2) hz2 hg3 (ne_some (by omega)); have q0 := hz3.cell 0; have q1 := hz3.cell 1; have q2 := hz3.cell 2; have q3 := hz3.cell 3; have qf := hz3.frozen; simp at q0 q1 q2 q3)
        | (refine (unhide HU3 _ hr2).mono ?_; rintro e w3 ⟨rfl, hr3, hg3⟩; have hb3 := Bk.kept (w := w2) hb2 hg3 (ne_some (by omega)); have k3 : w3.cell? ⟨w.heap.size, 0, none⟩ = some (.pointer (some ⟨R, 0, none⟩)) := hb3.cell 0; have hQ3 := Bk.kept (w := w2) hQ2 hg3 (ne_some (by omega)); have hs3 : w.heap.size + 2 ≤ w3.heap.size := Nat.le_trans hs2 hg3.size; have hna3 : ¬ w3.heap.size = w.heap.size := (by omega); have hnb3 : ¬ w.heap.size = w3.heap.size := (by omega))
        | (refine (unhide HU3 _ (Rd.kept hr2 (World.grownBy_alloc _ _ none) (by simp))).mono ?_; rintro e w3 ⟨rfl, hr3, hg3⟩; have hb3 := Bk.kept (w := (World.alloc w2 (.cells #[.int .u16 0, .int .u16 0, .int .u16 0, .int .u16 0] 95))) (Bk.alloc hb2 _) hg3 (ne_some (by omega)); have k3 : w3.cell? ⟨w.heap.size, 0, none⟩ = some (.pointer (some ⟨R, 0, none⟩)) := hb3.cell 0; have hQ3 := Bk.kept (w := (World.alloc w2 (.cells #[.int .u16 0, .int .u16 0, .int .u16 0, .int .u16 0] 95))) (Bk.alloc hQ2 _) hg3 (ne_some (by omega)); have hs3 : w.heap.size + 2 ≤ w3.heap.size := Nat.le_trans (Nat.le_trans hs2 (by simp)) hg3.size; have hna3 : ¬ w3.heap.size = w.heap.size := (by omega); have hnb3 : ¬ w.heap.size = w3.heap.size := (by omega); have hz3 : Bk w3 w2.heap.size #[.int .u16 0, .int .u16 0, .int .u16 0, .int .u16 0] 95 := Bk.kept (w := (World.alloc w2 (.cells #[.int .u16 0, .int .u16 0, .int .u16 0, .int .u16 0] 95))) (Bk.new _ _ _) hg3 (ne_some (by omega)); have q0 := hz3.cell 0; have q1 := hz3.cell 1; have q2 := hz3.cell 2; have q3 := hz3.cell 3; have qf := hz3.frozen; simp at q0 q1 q2 q3)
        | fail))
    all_goals
      have hgw : w.grownBy w3 (some R) := by
        first
        | exact grown_trans (grown_trans (grown_trans hgD hg1) hg2) hg3
        | exact grown_trans (grown_trans (grown_trans (grown_alloc hgD _) hg1) hg2) hg3
        | exact grown_trans (grown_trans (grown_alloc (grown_trans hgD hg1) _) hg2) hg3
        | exact grown_trans (grown_alloc (grown_trans (grown_trans hgD hg1) hg2) _) hg3
        | fail
      go_wp2
      go_meet
      first
      | exact ⟨_, rfl, four_set hRl hgw hr3 hz3 hb3 hQ3 (by omega) (.int .u16 (a1 : Int)) (.int .u16 (a2 : Int)) (.int .u16 (a3 : Int)) (.int .u16 0)⟩
      | exact ⟨_, rfl, four_new hRl hgw hr3 hb3 hQ3 hs3⟩
      | fail
  case rest =>
    obtain ⟨bf, rfl, H3⟩ := hcut
    obtain ⟨hz, hbf, hr3, hgw, hb, hQ⟩ := unhide H3
    have hK3 := (unhide Hk).kept hgw fun hne b o n c e => by have := (unhide HK) hne b o n c e; simpa using this.1
    have Hi3 : Hid (I0 w R pv s P (VF R w.heap.size bf (w.heap.size + 1) a1 a2 a3) wc 0 st3) := ⟨hr3, hp3, hK3, ⟨hb, hz, hQ⟩, hgw⟩
    have HQ := hide hQ
    have k1 : wc.cell? ⟨w.heap.size, 0, none⟩ = some (.pointer (some ⟨R, 0, none⟩)) := hb.cell 0
    have HOn := hide (once_any R M.cvName (Fn.func 100) #[] #[.pointer (some ⟨w.heap.size, 0, none⟩), .pointer (some ⟨bf, 0, none⟩)] wc.drew)
    have hbl := hz.lt
    have hql := hQ.lt
    unfold M.cvName at HOn
    have hwz := hgw.size
    clear H3 hz hr3 hgw hb hQ hK3 HU1 HU2 HU3 hrA hbA hQA hgA hgD k0 hsA hnaA hnbA
    have HF := hide (fun (w4 : World) (b3 b4 b5 b6 b7 bn : Nat) (hoc : Oc w4 R b3 b4 b5 b6 b7 bn M.cvName false (.func (Fn.func 100) #[] #[.pointer (some ⟨w.heap.size, 0, none⟩), .pointer (some ⟨bf, 0, none⟩)])) (hb4 : Below wc.heap.size wc w4) (g3 : wc.heap.size ≤ b3) (g4 : wc.heap.size ≤ b4) (g5 : wc.heap.size ≤ b5) (g6 : wc.heap.size ≤ b6) (g7 : wc.heap.size ≤ b7) (gn : wc.heap.size ≤ bn) (m3 : b5 ≠ b3) (m4 : b5 ≠ b4) (m6 : b5 ≠ b6) (m7 : b5 ≠ b7) (mn : b5 ≠ bn) =>
      fatts_any (W := w4) (st := st3) hs hP (w0 := w) (R := R) (bf := bf) ⟨hRl, by omega, by omega, by omega, by omega, by omega, by omega, m3, m4, m6, m7, mn, by omega, by omega, by omega, by omega, by omega, by omega⟩ (Nat.le_refl _) (by omega) (by omega) (by omega) (Nat.le_succ _) (by omega) (by omega) (unhide HK) ((unhide Hi3).below hb4 fun h => ⟨h.1.below hb4, h.2.1.below hb4, h.2.2.below hb4⟩) hoc)
    rw [← unhide Hrv] at HF
    go_upto_region 2 with fail
    go_cut [] (fun w' => Hid (I0 w R pv s P (VF R w.heap.size bf (w.heap.size + 1) a1 a2 a3) w' rv.1.2 rv.2))
    case first =>
      go_region_held3 (fun w' => w'.cell? ⟨w.heap.size, 0, none⟩ = some (.pointer (some ⟨R, 0, none⟩))) (go_keep)
        ((first
          | (go_at_call 99; refine (unhide HOn).mono ?_; rintro e w4 ⟨b3, b4, b5, b6, b7, bn, rfl, hoc, hb4, g3, g4, g5, g6, g7, gn, m3, m4, m6, m7, mn⟩; have hb4' : Below wc.heap.size wc w4 := ⟨hb4.os, hb4.tape, hb4.output, hb4.size, hb4.block⟩; have k4 : w4.cell? ⟨w.heap.size, 0, none⟩ = some (.pointer (some ⟨R, 0, none⟩)) := ((unhide Hi3).val.1.below hb4').cell 0; have HFa := hide (unhide HF w4 b3 b4 b5 b6 b7 bn hoc hb4' g3 g4 g5 g6 g7 gn m3 m4 m6 m7 mn))
          | (go_at_call 75; refine (unhide HFa).mono ?_; rintro e w5 ⟨rfl, hi5⟩; have k5 : w5.cell? ⟨w.heap.size, 0, none⟩ = some (.pointer (some ⟨R, 0, none⟩)) := hi5.val.1.cell 0)
          | fail))
      all_goals
        have Hi5 := hide hi5
        clear HFa hoc hb4 hb4' hi5
        go_wp2
        go_meet
        exact Hi5
    case rest =>
      clear Hi3 HF HOn k1
      have hi5 := unhide hcut
      obtain ⟨v1, v2, v3⟩ := hi5.val
      have q0 := v2.cell 0
      have q1 := v2.cell 1
      have q2 := v2.cell 2
      have q3 := v2.cell 3
      have z0 := v3.cell 0
      have z1 := v3.cell 1
      have z2 := v3.cell 2
      have z3 := v3.cell 3
      have zf := v3.frozen
      simp at q0 q1 q2 q3 z0 z1 z2 z3
      have HE := hide (end4 hRl hi5.gr hi5.rd v3 (Nat.le_succ _) (.int .u16 (a1 : Int)) (.int .u16 (a2 : Int)) (.int .u16 (a3 : Int)) (.int .u16 (rv.1.2 : Int)))
      have HKe := hide ((((hi5.pool.kept (grown_set _ (w.heap.size + 1) 0 (.int .u16 (a1 : Int))) (off_ne (unhide HK))).kept (grown_set _ (w.heap.size + 1) 1 (.int .u16 (a2 : Int))) (off_ne (unhide HK))).kept (grown_set _ (w.heap.size + 1) 2 (.int .u16 (a3 : Int))) (off_ne (unhide HK))).kept (grown_set _ (w.heap.size + 1) 3 (.int .u16 (rv.1.2 : Int))) (off_ne (unhide HK)))
      have hpe := hi5.pos
      clear hi5 v1 v2 v3 hcut
      go_wp2
      obtain ⟨e1, e2, e3⟩ := unhide HE
      refine bodyPost_ret (results_cell_row Try.results72 _ _ (w.heap.size + 1) 95 _ (0, 0) _ rfl e1 Try.underlying95 rfl (by kernel_rfl)) rfl ?_
      exact ⟨rfl, e2, unhide HKe, e3, hpe⟩
end Go.Proofs.Ytgihfcjddkpkaaa.Rc
namespace Go.Proofs.Ytgihfcjddkpkaaa.Rc
open Go.RowKit
/-- Code that is being read: its cells, all but the map; a list of handlers that lies behind a world, apart from them. -/
def VC (w0 : World) (R b1 bf br : Nat) (a b : Nat) (bs : List UInt8) (hv : Value) (hl : List Hn) (W : World) (v : List UInt8) : Prop :=
  Bk W b1 #[.pointer (some ⟨R, 0, none⟩)] 135 ∧ Bk W bf #[.int .i64 (a : Int), .int .i64 (b : Int), .string ⟨bs.toArray⟩, hv, .string ⟨v.toArray⟩] 99 ∧ Bk W br #[.int .i64 0, .int .i64 0, .string ⟨#[]⟩, .slice none 0 0, .string ⟨#[]⟩] 99 ∧ W.ownsRow w0.heap.size 152 4 hv hl.length (HC hl) ∧ (∀ g, hv.ownBlock = some g → g ≠ bf)
set_option maxRecDepth 100000 in
theorem code1_any {w0 : World} {R b1 bf br : Nat} {pv : Value} {s : ByteArray} {P : List K} {a b : Nat} {bs : List UInt8} {hv : Value} {hl : List Hn} (hs : s.size ≤ 131072) (hR : R < w0.heap.size) (h1 : w0.heap.size ≤ b1) (hf : w0.heap.size ≤ bf) (h1f : b1 ≠ bf) (hrg : w0.heap.size ≤ br) (hrf : br ≠ bf) (hKb : Off w0 R pv P) (W : World) (v : List UInt8) (st : St) (n : Nat) (hn : n < 4294967296) (h : I0 w0 R pv s P (VC w0 R b1 bf br a b bs hv hl) W v st) :
    Calls Try.prog 120 #[.int .i64 (n : Int), .pointer (some ⟨b1, 0, none⟩), .pointer (some ⟨bf, 0, none⟩)] W fun e W' => e = .returned (.tuple #[]) ∧ I0 w0 R pv s P (VC w0 R b1 bf br a b bs hv hl) W' (M.mval s.data.toList v n st).1 (M.mval s.data.toList v n st).2 ∧ ∀ b cs t, b ≠ R → b ≠ bf → b < W.heap.size → Bk W b cs t → Bk W' b cs t := by
  have H := hide h
  have HU := hide (T_any R pv s st n W h.rd hs hn h.pos)
  have k1 : W.cell? ⟨b1, 0, none⟩ = some (.pointer (some ⟨R, 0, none⟩)) := h.val.1.cell 0
  have hp2 := M.take_pos (s := s.data.toList) (n := n) h.pos
  unfold M.mval
  obtain ⟨x, st1, hx⟩ : ∃ x st1, M.take s.data.toList n st = (x, st1) := ⟨_, _, rfl⟩
  rw [hx] at HU hp2 ⊢
  simp only at HU hp2 ⊢
  have HK := hide hKb
  clear h hx hKb
  go_enter Try.func120, Try.ntmps120
  go_wp2_with fail
  refine (unhide HU).mono ?_
  rintro e w1 ⟨rfl, hr1, hg1⟩
  have v1 := (unhide H).val.1.kept hg1 (by simp; omega)
  have v2 := (unhide H).val.2.1.kept hg1 (by simp; omega)
  have v3 := (unhide H).val.2.2.1.kept hg1 (by simp; omega)
  have v4 := ins_kept (unhide H).val.2.2.2.1 hg1 (fun b e1 e2 => by cases e1; have := (ins_in (unhide H).val.2.2.2.1 e2).1; omega)
  have v5 := (unhide H).val.2.2.2.2
  have q3 : w1.cell? ⟨bf, 4, none⟩ = some (.string ⟨v.toArray⟩) := v2.cell 4
  have qf := v2.frozen 4
  have hK1 := (unhide H).pool.kept hg1 fun hne b o n c e => by have := (unhide HK) hne b o n c e; simpa using this.1
  have HI : Hid (I0 w0 R pv s P (VC w0 R b1 bf br a b bs hv hl) (w1.setCell ⟨bf, 4, none⟩ (.string ⟨x.toArray⟩)) x st1) := by
    refine ⟨hr1.other 4 _ (by omega), hp2, hK1.kept (grown_set w1 bf 4 _) fun hne b o n c e => by have := ((unhide HK) hne b o n c e).2; simp; omega, ⟨v1.other 4 _ h1f, v2.set 4 _, v3.other 4 _ hrf, ins_kept v4 (grown_set w1 bf 4 _) (fun b e1 e2 => by cases e1; exact v5 _ e2 rfl), v5⟩, grown_new (grown_trans (unhide H).gr hg1) hf 4 _⟩
  have HK2 : Hid (∀ b cs t, b ≠ R → b ≠ bf → b < W.heap.size → Bk W b cs t → Bk (w1.setCell ⟨bf, 4, none⟩ (.string ⟨x.toArray⟩)) b cs t) := fun b cs t hb1 hb2 _ hb => (hb.kept hg1 (by simpa using hb1)).other 4 _ hb2
  clear HU hr1 hg1 v1 v2 v3 v4 v5 k1 hK1
  go_wp2
  go_end0
  exact ⟨rfl, unhide HI, unhide HK2⟩
theorem catts_any {w0 W : World} {R b1 bf br b3 b4 b5 b6 b7 bn : Nat} {pv : Value} {s : ByteArray} {P : List K} {a b : Nat} {bs : List UInt8} {hv : Value} {hl : List Hn} {st : St} (hs : s.size ≤ 131072) (hP : P.length ≤ 1048576) (hb : Apart w0 R b3 b4 b5 b6 b7 bn bf) (h1 : w0.heap.size ≤ b1) (hf : w0.heap.size ≤ bf) (h1f : b1 ≠ bf) (h15 : b1 ≠ b5) (hrg : w0.heap.size ≤ br) (hrf : br ≠ bf) (hr5 : br ≠ b5) (hh5 : ∀ g, hv.ownBlock = some g → g ≠ b5) (hKb : Off w0 R pv P)
    (hi : I0 w0 R pv s P (VC w0 R b1 bf br a b bs hv hl) W [] st) (hoc : Oc W R b3 b4 b5 b6 b7 bn M.mapName false (.func (Fn.func 120) #[] #[.pointer (some ⟨b1, 0, none⟩), .pointer (some ⟨bf, 0, none⟩)])) :
    Calls Try.prog 75 #[.pointer (some ⟨R, 0, none⟩), .func (Fn.func 117) #[] #[.pointer (some ⟨b3, 0, none⟩), .pointer (some ⟨b4, 0, none⟩), .pointer (some ⟨b5, 0, none⟩), .pointer (some ⟨b6, 0, none⟩), .pointer (some ⟨b7, 0, none⟩)]] W fun e w' => e = .returned (.tuple #[]) ∧
      I0 w0 R pv s P (VC w0 R b1 bf br a b bs hv hl) w' (M.attsN s.data.toList P (M.once s.data.toList M.mapName (M.mval s.data.toList)) (false, []) st).1.2 (M.attsN s.data.toList P (M.once s.data.toList M.mapName (M.mval s.data.toList)) (false, []) st).2 := by
  have hV : ∀ W W' v row, row = some R ∨ row = some b5 → W.grownBy W' row → VC w0 R b1 bf br a b bs hv hl W v → VC w0 R b1 bf br a b bs hv hl W' v := by
    intro W W' v row hr hg hv
    have hR := hb.r
    rcases hr with rfl | rfl
    · exact ⟨hv.1.kept hg (ne_some (by omega)), hv.2.1.kept hg (ne_some (by omega)), hv.2.2.1.kept hg (ne_some (by omega)), ins_kept hv.2.2.2.1 hg (fun b e1 e2 => by cases e1; have := (ins_in hv.2.2.2.1 e2).1; omega), hv.2.2.2.2⟩
    · exact ⟨hv.1.kept hg (ne_some h15), hv.2.1.kept hg (ne_some hb.f5), hv.2.2.1.kept hg (ne_some hr5), ins_kept hv.2.2.2.1 hg (fun b e1 e2 => by cases e1; exact hh5 _ e2 rfl), hv.2.2.2.2⟩
  refine (attributes_any _ _ _ _ _ R pv s P (M.once s.data.toList M.mapName (M.mval s.data.toList)) (I1 w0 R b3 b4 b5 b6 b7 bn pv s P (VC w0 R b1 bf br a b bs hv hl) M.mapName (.func (Fn.func 120) #[] #[.pointer (some ⟨b1, 0, none⟩), .pointer (some ⟨bf, 0, none⟩)])) hs hP (fun _ _ _ h => h.i0.rd) (fun _ _ _ h => h.i0.pool) (fun _ _ _ h => h.i0.pos) (fun _ _ _ _ _ h hg hr hp => h.reader hb hKb hV hg hr hp) ?_ (false, []) st W ⟨hi, hoc⟩).mono fun e w' h => ⟨h.1, h.2.i0⟩
  intro W x st a n name h hn _
  exact once_code hs hb hKb hV (fun W v st n hn h => code1_any hs hb.r h1 hf h1f hrg hrf hKb W v st n hn h) W x st a n name h hn
end Go.Proofs.Ytgihfcjddkpkaaa.Rc
namespace Go.Proofs.Ytgihfcjddkpkaaa.Rc
open Go.RowKit
theorem five_set {w w3 : World} {R g : Nat} {pv : Value} {s : ByteArray} {st : St} {a b c d f : Value} {t : TypeId} {x1 x2 : Array Value} {t1 t2 : TypeId} (hR : R < w.heap.size) (hgw : w.grownBy w3 (some R)) (hr : Rd w3 R pv s st) (hz : Bk w3 g #[a, b, c, d, f] t) (hb : Bk w3 w.heap.size x1 t1) (hQ : Bk w3 (w.heap.size + 1) x2 t2) (hg : w.heap.size + 2 ≤ g) (x y z u v : Value) {W : World} (hW : W = ((((w3.setCell ⟨g, 0, none⟩ x).setCell ⟨g, 1, none⟩ y).setCell ⟨g, 2, none⟩ z).setCell ⟨g, 3, none⟩ u).setCell ⟨g, 4, none⟩ v) :
    Bk W g #[x, y, z, u, v] t ∧ w.heap.size + 2 ≤ g ∧ Rd W R pv s st ∧ w.grownBy W (some R) ∧ Bk W w.heap.size x1 t1 ∧ Bk W (w.heap.size + 1) x2 t2 := by
  subst hW
  have n0 : R ≠ g := by omega
  have n1 : w.heap.size ≠ g := by omega
  have n2 : w.heap.size + 1 ≠ g := by omega
  have n3 : w.heap.size ≤ g := by omega
  exact ⟨((((hz.set 0 x).set 1 y).set 2 z).set 3 u).set 4 v, hg, ((((hr.other 0 x n0).other 1 y n0).other 2 z n0).other 3 u n0).other 4 v n0, grown_new (grown_new (grown_new (grown_new (grown_new hgw n3 0 x) n3 1 y) n3 2 z) n3 3 u) n3 4 v, ((((hb.other 0 x n1).other 1 y n1).other 2 z n1).other 3 u n1).other 4 v n1, ((((hQ.other 0 x n2).other 1 y n2).other 2 z n2).other 3 u n2).other 4 v n2⟩
theorem M.cod_parts (s : List UInt8) (P : List K) (st : St) {a b n : Nat} {st1 st2 st3 st4 st5 : St} {t : List UInt8} {h : List Hn} (e1 : M.rd s 2 st = (a, st1)) (e2 : M.rd s 2 st1 = (b, st2)) (e3 : M.rd s 4 st2 = (n, st3)) (e4 : M.take s n st3 = (t, st4)) (e5 : M.lst s (M.hnd s) st4 = (h, st5)) :
    M.cod s P st = (⟨a, b, t, h, (M.attsN s P (M.once s M.mapName (M.mval s)) (false, []) st5).1.2⟩, (M.attsN s P (M.once s M.mapName (M.mval s)) (false, []) st5).2) := by
  unfold M.cod
  simp only [e1, e2, e3, e4, e5]
theorem own_bk {w : World} {B n g : Nat} {v : Value} {xs : List Value} {cs : Array Value} (h : w.ownsRow B 152 4 v n xs) (e : v.ownBlock = some g) (hb : Bk w g cs 99) : False := by
  rcases h.2 with ⟨rfl, h0⟩ | ⟨g', cap, cur, rfl, h1, h2, _⟩
  · cases e
  · have : g' = g := by simpa [Value.ownBlock] using e
    subst this
    unfold Bk at hb
    rw [h2] at hb
    simp at hb
/-- What a call of code leaves. -/
def CodR (R : Nat) (pv : Value) (s : ByteArray) (P : List K) (c : Cd) (st' : St) (w : World) (x : Ending) (w' : World) : Prop :=
  ∃ hv, x = .returned (.agg #[.int .i64 (c.stack : Int), .int .i64 (c.locals : Int), .string ⟨c.bytes.toArray⟩, hv, .string ⟨c.map.toArray⟩]) ∧ w'.ownsRow w.heap.size 152 4 hv c.handlers.length (HC c.handlers) ∧ Rd w' R pv s st' ∧ KIn w' pv P ∧ w.grownBy w' (some R) ∧ st'.pos ≤ s.data.toList.length
set_option maxRecDepth 100000 in
set_option maxHeartbeats 2000000 in
theorem code_any (R : Nat) (pv : Value) (s : ByteArray) (P : List K) (st : St) (w : World) (h : Rd w R pv s st) (hs : s.size ≤ 131072) (hP : P.length ≤ 1048576) (hp : st.pos ≤ s.data.toList.length) (hk : KIn w pv P) (hKb : Off w R pv P) :
    Calls Try.prog 102 #[.pointer (some ⟨R, 0, none⟩)] w fun x w' => CodR R pv s P (M.cod s.data.toList P st).1 (M.cod s.data.toList P st).2 w x w' := by
  have hRl := h.lt
  obtain ⟨wA, hwA⟩ : ∃ wA, wA = (w.alloc (.cells #[.pointer (some ⟨R, 0, none⟩)] 135)).alloc (.cells #[.int .i64 0, .int .i64 0, .string ⟨#[]⟩, .slice none 0 0, .string ⟨#[]⟩] 99) := ⟨_, rfl⟩
  have hgA : w.grownBy wA (some R) := by rw [hwA]; exact grown_alloc (World.grownBy_alloc w _ _) _
  have hbA : Bk wA w.heap.size #[.pointer (some ⟨R, 0, none⟩)] 135 := by rw [hwA]; exact (Bk.new _ _ _).alloc _
  have hQA : Bk wA (w.heap.size + 1) #[.int .i64 0, .int .i64 0, .string ⟨#[]⟩, .slice none 0 0, .string ⟨#[]⟩] 99 := by
    rw [hwA]; have := Bk.new (w.alloc (.cells #[.pointer (some ⟨R, 0, none⟩)] 135)) #[.int .i64 0, .int .i64 0, .string ⟨#[]⟩, .slice none 0 0, .string ⟨#[]⟩] 99; simpa using this
  have hrA : Rd wA R pv s st := by rw [hwA]; exact (h.kept (World.grownBy_alloc w _ none) (by simp)).kept (World.grownBy_alloc _ _ none) (by simp)
  have hzA : wA.heap.size = w.heap.size + 2 := by rw [hwA]; simp
  have k0 : wA.cell? ⟨w.heap.size, 0, none⟩ = some (.pointer (some ⟨R, 0, none⟩)) := hbA.cell 0
  have hsA : w.heap.size + 2 ≤ wA.heap.size := by omega
  have hnaA : ¬ wA.heap.size = w.heap.size := by omega
  have hnbA : ¬ w.heap.size = wA.heap.size := by omega
  have hgD : w.grownBy wA.drew (some R) := ⟨hgA.os, hgA.tape, hgA.output, hgA.size, hgA.block⟩
  have HwA := hide hwA
  have Hk := hide hk
  have HK := hide hKb
  have hp1 := M.rd_pos (n := 2) hp
  have c1 := M.rd2 s.data.toList st
  have HU1 := hide (fun W hW => U16_any R pv s st W hW hs hp)
  obtain ⟨a1, st1, e1⟩ : ∃ a1 st1, M.rd s.data.toList 2 st = (a1, st1) := ⟨_, _, rfl⟩
  rw [e1] at hp1 c1 HU1
  simp only at hp1 c1 HU1
  have hp2 := M.rd_pos (n := 2) hp1
  have c2 := M.rd2 s.data.toList st1
  have HU2 := hide (fun W hW => U16_any R pv s st1 W hW hs hp1)
  obtain ⟨a2, st2, e2⟩ : ∃ a2 st2, M.rd s.data.toList 2 st1 = (a2, st2) := ⟨_, _, rfl⟩
  rw [e2] at hp2 c2 HU2
  simp only at hp2 c2 HU2
  have hp3 := M.rd_pos (n := 4) hp2
  have c3 := M.rd4 s.data.toList st2
  have HU3 := hide (fun W hW => N4_any R pv s st2 W hW hs hp2)
  obtain ⟨n, st3, e3⟩ : ∃ n st3, M.rd s.data.toList 4 st2 = (n, st3) := ⟨_, _, rfl⟩
  rw [e3] at hp3 c3 HU3
  simp only at hp3 c3 HU3
  have hp4 := M.take_pos (s := s.data.toList) (n := n) hp3
  have HU4 := hide (fun W hW => T_any R pv s st3 n W hW hs c3 hp3)
  obtain ⟨t, st4, e4⟩ : ∃ t st4, M.take s.data.toList n st3 = (t, st4) := ⟨_, _, rfl⟩
  rw [e4] at hp4 HU4
  simp only at hp4 HU4
  have HU5 := hide (fun W hW => handlers_any R pv s st4 W hW hs hp4)
  have hp5 : (M.lst s.data.toList (M.hnd s.data.toList) st4).2.pos ≤ s.data.toList.length := M.reps_pos (fun st h => M.hnd_pos h) (M.rd_pos (n := 2) hp4)
  obtain ⟨hl, st5, e5⟩ : ∃ hl st5, M.lst s.data.toList (M.hnd s.data.toList) st4 = (hl, st5) := ⟨_, _, rfl⟩
  rw [e5] at hp5 HU5
  simp only at hp5 HU5
  rw [M.cod_parts s.data.toList P st e1 e2 e3 e4 e5]
  obtain ⟨rv, hrv⟩ : ∃ rv, rv = M.attsN s.data.toList P (M.once s.data.toList M.mapName (M.mval s.data.toList)) (false, []) st5 := ⟨_, rfl⟩
  rw [← hrv]
  have Hrv := hide hrv
  have d1 := wrapi c1
  have d2 := wrapi c2
  have d3 := wrapu c3
  clear hwA h hk hKb e1 e2 e3 e4 e5 hrv hzA
  go_enter Try.func102, Try.ntmps102
  go_upto_region 1 with fail
  rw [← unhide HwA]
  clear HwA
  go_cut [3] (fun p w' => ∃ bf, p = .pointer (some ⟨bf, 0, none⟩) ∧ Hid (Bk w' bf #[.int .i64 (a1 : Int), .int .i64 (a2 : Int), .string ⟨#[]⟩, .slice none 0 0, .string ⟨#[]⟩] 99 ∧ w.heap.size + 2 ≤ bf ∧ Rd w' R pv s st2 ∧ w.grownBy w' (some R) ∧ Bk w' w.heap.size #[.pointer (some ⟨R, 0, none⟩)] 135 ∧ Bk w' (w.heap.size + 1) #[.int .i64 0, .int .i64 0, .string ⟨#[]⟩, .slice none 0 0, .string ⟨#[]⟩] 99))
  case first =>
    go_region_held3 (fun w' => w'.cell? ⟨w.heap.size, 0, none⟩ = some (.pointer (some ⟨R, 0, none⟩))) (go_keep)
      ((go_at_call 57; first
        | (refine (unhide HU1 _ hrA.drew).mono ?_; rintro e w1 ⟨rfl, hr1, hg1⟩; have hb1 := Bk.kept (w := wA.drew) hbA hg1 (ne_some (by omega)); have k1 : w1.cell? ⟨w.heap.size, 0, none⟩ = some (.pointer (some ⟨R, 0, none⟩)) := hb1.cell 0; have hQ1 := Bk.kept (w := wA.drew) hQA hg1 (ne_some (by omega)); have hs1 : w.heap.size + 2 ≤ w1.heap.size := Nat.le_trans hsA hg1.size; have hna1 : ¬ w1.heap.size = w.heap.size := (by omega); have hnb1 : ¬ w.heap.size = w1.heap.size := (by omega))
        | (refine (unhide HU1 _ (Rd.kept hrA.drew (World.grownBy_alloc _ _ none) (by simp))).mono ?_; rintro e w1 ⟨rfl, hr1, hg1⟩; have hb1 := Bk.kept (w := (World.alloc wA.drew (.cells #[.int .i64 0, .int .i64 0, .string ⟨#[]⟩, .slice none 0 0, .string ⟨#[]⟩] 99))) (Bk.alloc (w := wA.drew) hbA _) hg1 (ne_some (by omega)); have k1 : w1.cell? ⟨w.heap.size, 0, none⟩ = some (.pointer (some ⟨R, 0, none⟩)) := hb1.cell 0; have hQ1 := Bk.kept (w := (World.alloc wA.drew (.cells #[.int .i64 0, .int .i64 0, .string ⟨#[]⟩, .slice none 0 0, .string ⟨#[]⟩] 99))) (Bk.alloc (w := wA.drew) hQA _) hg1 (ne_some (by omega)); have hs1 : w.heap.size + 2 ≤ w1.heap.size := Nat.le_trans (Nat.le_trans hsA (by simp)) hg1.size; have hna1 : ¬ w1.heap.size = w.heap.size := (by omega); have hnb1 : ¬ w.heap.size = w1.heap.size := (by omega); have hz1 : Bk w1 wA.heap.size #[.int .i64 0, .int .i64 0, .string ⟨#[]⟩, .slice none 0 0, .string ⟨#[]⟩] 99 := Bk.kept (w := (World.alloc wA.drew (.cells #[.int .i64 0, .int .i64 0, .string ⟨#[]⟩, .slice none 0 0, .string ⟨#[]⟩] 99))) (Bk.new _ _ _) hg1 (ne_some (by omega)))
        | (refine (unhide HU2 _ hr1).mono ?_; rintro e w2 ⟨rfl, hr2, hg2⟩; have hb2 := Bk.kept (w := w1) hb1 hg2 (ne_some (by omega)); have k2 : w2.cell? ⟨w.heap.size, 0, none⟩ = some (.pointer (some ⟨R, 0, none⟩)) := hb2.cell 0; have hQ2 := Bk.kept (w := w1) hQ1 hg2 (ne_some (by omega)); have hs2 : w.heap.size + 2 ≤ w2.heap.size := Nat.le_trans hs1 hg2.size; have hna2 : ¬ w2.heap.size = w.heap.size := (by omega); have hnb2 : ¬ w.heap.size = w2.heap.size := (by omega); have hz2 := Bk.kept (w := w1) hz1 hg2 (ne_some (by omega)); have q0 := hz2.cell 0; have q1 := hz2.cell 1; have q2 := hz2.cell 2; have q3 := hz2.cell 3; have q4 := hz2.cell 4; have qf := hz2.frozen; simp at q0 q1 q2 q3 q4)
        | (refine (unhide HU2 _ hr1).mono ?_; rintro e w2 ⟨rfl, hr2, hg2⟩; have hb2 := Bk.kept (w := w1) hb1 hg2 (ne_some (by omega)); have k2 : w2.cell? ⟨w.heap.size, 0, none⟩ = some (.pointer (some ⟨R, 0, none⟩)) := hb2.cell 0; have hQ2 := Bk.kept (w := w1) hQ1 hg2 (ne_some (by omega)); have hs2 : w.heap.size + 2 ≤ w2.heap.size := Nat.le_trans hs1 hg2.size; have hna2 : ¬ w2.heap.size = w.heap.size := (by omega); have hnb2 : ¬ w.heap.size = w2.heap.size := (by omega))
        | (refine (unhide HU2 _ (Rd.kept hr1 (World.grownBy_alloc _ _ none) (by simp))).mono ?_; rintro e w2 ⟨rfl, hr2, hg2⟩; have hb2 := Bk.kept (w := (World.alloc w1 (.cells #[.int .i64 0, .int .i64 0, .string ⟨#[]⟩, .slice none 0 0, .string ⟨#[]⟩] 99))) (Bk.alloc hb1 _) hg2 (ne_some (by omega)); have k2 : w2.cell? ⟨w.heap.size, 0, none⟩ = some (.pointer (some ⟨R, 0, none⟩)) := hb2.cell 0; have hQ2 := Bk.kept (w := (World.alloc w1 (.cells #[.int .i64 0, .int .i64 0, .string ⟨#[]⟩, .slice none 0 0, .string ⟨#[]⟩] 99))) (Bk.alloc hQ1 _) hg2 (ne_some (by omega)); have hs2 : w.heap.size + 2 ≤ w2.heap.size := Nat.le_trans (Nat.le_trans hs1 (by simp)) hg2.size; have hna2 : ¬ w2.heap.size = w.heap.size := (by omega); have hnb2 : ¬ w.heap.size = w2.heap.size := (by omega); have hz2 : Bk w2 w1.heap.size #[.int .i64 0, .int .i64 0, .string ⟨#[]⟩, .slice none 0 0, .string ⟨#[]⟩] 99 := Bk.kept (w := (World.alloc w1 (.cells #[.int .i64 0, .int .i64 0, .string ⟨#[]⟩, .slice none 0 0, .string ⟨#[]⟩] 99))) (Bk.new _ _ _) hg2 (ne_some (by omega)); have q0 := hz2.cell 0; have q1 := hz2.cell 1; have q2 := hz2.cell 2; have q3 := hz2.cell 3; have q4 := hz2.cell 4; have qf := hz2.frozen; simp at q0 q1 q2 q3 q4)
        | fail))
    all_goals
      have hgw : w.grownBy w2 (some R) := by
        first
        | exact grown_trans (grown_trans hgD hg1) hg2
        | exact grown_trans (grown_trans (grown_alloc hgD _) hg1) hg2
        | exact grown_trans (grown_alloc (grown_trans hgD hg1) _) hg2
        | fail
      go_wp2
      go_meet
      first
      | exact ⟨_, rfl, five_set hRl hgw hr2 hz2 hb2 hQ2 (by omega) _ _ _ _ _ rfl⟩
      | exact ⟨_, rfl, four_new hRl hgw hr2 hb2 hQ2 hs2⟩
      | fail
  case rest =>
    obtain ⟨bf, rfl, H3⟩ := hcut
    obtain ⟨hz, hbf, hr3, hgw, hb, hQ⟩ := unhide H3
    clear H3 HU1 HU2 hrA hbA hQA hgA hgD k0 hsA hnaA hnbA
    have k1 : wc.cell? ⟨w.heap.size, 0, none⟩ = some (.pointer (some ⟨R, 0, none⟩)) := hb.cell 0
    have nb1 : ¬ bf = w.heap.size := by omega
    have nb2 : ¬ w.heap.size = bf := by omega
    go_upto_region 2 with fail
    go_cut [] (fun w' => Hid (Bk w' bf #[.int .i64 (a1 : Int), .int .i64 (a2 : Int), .string ⟨t.toArray⟩, .slice none 0 0, .string ⟨#[]⟩] 99 ∧ Rd w' R pv s st4 ∧ w.grownBy w' (some R) ∧ Bk w' w.heap.size #[.pointer (some ⟨R, 0, none⟩)] 135 ∧ Bk w' (w.heap.size + 1) #[.int .i64 0, .int .i64 0, .string ⟨#[]⟩, .slice none 0 0, .string ⟨#[]⟩] 99))
    case first =>
      go_region_held3 (fun w' => w'.cell? ⟨w.heap.size, 0, none⟩ = some (.pointer (some ⟨R, 0, none⟩))) (go_keep)
        ((first
          | (go_at_call 67; refine (unhide HU3 _ hr3.drew).mono ?_; rintro e w1 ⟨rfl, hr1, hg1⟩; have hb1 := Bk.kept (w := wc.drew) hb hg1 (ne_some (by omega)); have hz1 := Bk.kept (w := wc.drew) hz hg1 (ne_some (by omega)); have hQ1 := Bk.kept (w := wc.drew) hQ hg1 (ne_some (by omega)); have k2 : w1.cell? ⟨w.heap.size, 0, none⟩ = some (.pointer (some ⟨R, 0, none⟩)) := hb1.cell 0)
          | (go_at_call 96; refine (unhide HU4 _ hr1).mono ?_; rintro e w2 ⟨rfl, hr2, hg2⟩; have hb2 := hb1.kept hg2 (ne_some (by omega)); have hz2 := hz1.kept hg2 (ne_some (by omega)); have hQ2 := hQ1.kept hg2 (ne_some (by omega)); have k3 : w2.cell? ⟨w.heap.size, 0, none⟩ = some (.pointer (some ⟨R, 0, none⟩)) := hb2.cell 0; have q2 := hz2.cell 2; have qf := hz2.frozen 2; simp at q2)
          | fail))
      all_goals
        have hgD : w.grownBy wc.drew (some R) := ⟨hgw.os, hgw.tape, hgw.output, hgw.size, hgw.block⟩
        have hgw2 := grown_trans (grown_trans hgD hg1) hg2
        go_wp2
        go_meet
        exact ⟨hz2.set 2 _, hr2.other 2 _ (by omega), grown_new hgw2 (by omega) 2 _, hb2.other 2 _ (by omega), hQ2.other 2 _ (by omega)⟩
    case rest =>
      clear hz hr3 hgw hb hQ HU3 HU4 k1
      obtain ⟨hz, hr3, hgw, hb, hQ⟩ := unhide hcut
      have k1 : wc.cell? ⟨w.heap.size, 0, none⟩ = some (.pointer (some ⟨R, 0, none⟩)) := hb.cell 0
      have HL := hide (unhide HU5 wc hr3)
      have hbl := hz.lt
      have hwz := hgw.size
      clear HU5 hcut hr3
      go_wp2_with fail
      refine (unhide HL).mono ?_
      rintro e w5 ⟨hv, rfl, ho5, hr5, hg5⟩
      obtain ⟨va, vc, ev⟩ := own152_slice ho5
      have hb5 := hb.kept hg5 (ne_some (by omega))
      have hz5 := hz.kept hg5 (ne_some (by omega))
      have hQ5 := hQ.kept hg5 (ne_some (by omega))
      have hgw5 := grown_trans hgw hg5
      have hin : ∀ g, hv.ownBlock = some g → wc.heap.size ≤ g := fun g e => (ins_in ho5 e).1
      obtain ⟨w6, hw6⟩ : ∃ w6, w6 = w5.setCell ⟨bf, 3, none⟩ hv := ⟨_, rfl⟩
      have hz6 : Bk w6 bf #[.int .i64 (a1 : Int), .int .i64 (a2 : Int), .string ⟨t.toArray⟩, hv, .string ⟨#[]⟩] 99 := by rw [hw6]; exact hz5.set 3 hv
      have hb6 : Bk w6 w.heap.size #[.pointer (some ⟨R, 0, none⟩)] 135 := by rw [hw6]; exact hb5.other 3 _ (by omega)
      have hQ6 : Bk w6 (w.heap.size + 1) #[.int .i64 0, .int .i64 0, .string ⟨#[]⟩, .slice none 0 0, .string ⟨#[]⟩] 99 := by rw [hw6]; exact hQ5.other 3 _ (by omega)
      have hr6 : Rd w6 R pv s st5 := by rw [hw6]; exact hr5.other 3 _ (by omega)
      have hgw6 : w.grownBy w6 (some R) := by rw [hw6]; exact grown_new hgw5 (by omega) 3 _
      have ho6 : w6.ownsRow w.heap.size 152 4 hv hl.length (HC hl) := by rw [hw6]; exact own_mono (ins_kept ho5 (grown_set w5 bf 3 hv) (fun b e1 e2 => by cases e1; have := hin _ e2; omega)) hwz
      have hK6 := (unhide Hk).kept hgw6 fun hne b o n c e => by have := (unhide HK) hne b o n c e; simpa using this.1
      have Hi3 : Hid (I0 w R pv s P (VC w R w.heap.size bf (w.heap.size + 1) a1 a2 t hv hl) w6 [] st5) := ⟨hr6, hp5, hK6, ⟨hb6, hz6, hQ6, ho6, fun g e => by have := hin g e; omega⟩, hgw6⟩
      have q3 := hz5.cell 3
      have qf := hz5.frozen 3
      simp at q3
      have hbl6 := hz6.lt
      have hql6 := hQ6.lt
      have hol6 : ∀ g, hv.ownBlock = some g → g < w6.heap.size := fun g e => (ins_in ho6 e).2
      have k6 : w6.cell? ⟨w.heap.size, 0, none⟩ = some (.pointer (some ⟨R, 0, none⟩)) := hb6.cell 0
      have HOn := hide (once_any R M.mapName (Fn.func 120) #[] #[.pointer (some ⟨w.heap.size, 0, none⟩), .pointer (some ⟨bf, 0, none⟩)] w6.drew)
      unfold M.mapName at HOn
      have hwz6 := hgw6.size
      have Hw6 := hide hw6
      have HF := hide (fun (w4 : World) (b3 b4 b5 b6 b7 bn : Nat) (hoc : Oc w4 R b3 b4 b5 b6 b7 bn M.mapName false (.func (Fn.func 120) #[] #[.pointer (some ⟨w.heap.size, 0, none⟩), .pointer (some ⟨bf, 0, none⟩)])) (hb4 : Below w6.heap.size w6 w4) (g3 : w6.heap.size ≤ b3) (g4 : w6.heap.size ≤ b4) (g5 : w6.heap.size ≤ b5) (g6 : w6.heap.size ≤ b6) (g7 : w6.heap.size ≤ b7) (gn : w6.heap.size ≤ bn) (m3 : b5 ≠ b3) (m4 : b5 ≠ b4) (m6 : b5 ≠ b6) (m7 : b5 ≠ b7) (mn : b5 ≠ bn) =>
        catts_any (W := w4) (st := st5) hs hP (w0 := w) (R := R) (bf := bf) ⟨hRl, by omega, by omega, by omega, by omega, by omega, by omega, m3, m4, m6, m7, mn, by omega, by omega, by omega, by omega, by omega, by omega⟩ (Nat.le_refl _) (by omega) (by omega) (by omega) (Nat.le_succ _) (by omega) (by omega) (fun g e => by have := hol6 g e; omega) (unhide HK) ((unhide Hi3).below hb4 fun h => ⟨h.1.below hb4, h.2.1.below hb4, h.2.2.1.below hb4, ins_kept h.2.2.2.1 (grown_of_below hb4 none) (fun b e => by cases e), h.2.2.2.2⟩) hoc)
      rw [← unhide Hrv] at HF
      subst ev
      clear hw6 hz hgw hb hQ HL ho5 hr5 hg5 hb5 hz5 hQ5 hgw5 hz6 hb6 hQ6 hr6 hgw6 ho6 hK6 hin hol6
      go_upto_region 4 with fail
      rw [← unhide Hw6]
      clear Hw6 q3 qf k1
      go_cut [] (fun w' => Hid (I0 w R pv s P (VC w R w.heap.size bf (w.heap.size + 1) a1 a2 t (.slice va hl.length vc) hl) w' rv.1.2 rv.2))
      case first =>
        go_region_held3 (fun w' => w'.cell? ⟨w.heap.size, 0, none⟩ = some (.pointer (some ⟨R, 0, none⟩))) (go_keep)
          ((first
            | (go_at_call 99; refine (unhide HOn).mono ?_; rintro e w4 ⟨b3, b4, b5, b6, b7, bn, rfl, hoc, hb4, g3, g4, g5, g6, g7, gn, m3, m4, m6, m7, mn⟩; have hb4' : Below w6.heap.size w6 w4 := ⟨hb4.os, hb4.tape, hb4.output, hb4.size, hb4.block⟩; have k4 : w4.cell? ⟨w.heap.size, 0, none⟩ = some (.pointer (some ⟨R, 0, none⟩)) := ((unhide Hi3).val.1.below hb4').cell 0; have HFa := hide (unhide HF w4 b3 b4 b5 b6 b7 bn hoc hb4' g3 g4 g5 g6 g7 gn m3 m4 m6 m7 mn))
            | (go_at_call 75; refine (unhide HFa).mono ?_; rintro e w5 ⟨rfl, hi5⟩; have k5 : w5.cell? ⟨w.heap.size, 0, none⟩ = some (.pointer (some ⟨R, 0, none⟩)) := hi5.val.1.cell 0)
            | fail))
        all_goals
          have Hi5 := hide hi5
          clear HFa hoc hb4 hb4' hi5
          go_wp2
          go_meet
          exact Hi5
      case rest =>
        clear Hi3 HF HOn k6
        have hi5 := unhide hcut
        obtain ⟨v1, v2, v3, v4, v5⟩ := hi5.val
        have q0 := v2.cell 0
        have q1 := v2.cell 1
        have q2 := v2.cell 2
        have q3 := v2.cell 3
        have q4 := v2.cell 4
        have z0 := v3.cell 0
        have z1 := v3.cell 1
        have z2 := v3.cell 2
        have z3 := v3.cell 3
        have z4 := v3.cell 4
        have zf := v3.frozen
        simp at q0 q1 q2 q3 q4 z0 z1 z2 z3 z4
        obtain ⟨wE, hwE⟩ : ∃ wE, wE = ((((wc.setCell ⟨w.heap.size + 1, 0, none⟩ (.int .i64 (a1 : Int))).setCell ⟨w.heap.size + 1, 1, none⟩ (.int .i64 (a2 : Int))).setCell ⟨w.heap.size + 1, 2, none⟩ (.string ⟨t.toArray⟩)).setCell ⟨w.heap.size + 1, 3, none⟩ (.slice va hl.length vc)).setCell ⟨w.heap.size + 1, 4, none⟩ (.string ⟨rv.1.2.toArray⟩) := ⟨_, rfl⟩
        have HE : Hid (Bk wE (w.heap.size + 1) #[.int .i64 (a1 : Int), .int .i64 (a2 : Int), .string ⟨t.toArray⟩, .slice va hl.length vc, .string ⟨rv.1.2.toArray⟩] 99 ∧ Rd wE R pv s rv.2 ∧ w.grownBy wE (some R) ∧ KIn wE pv P ∧ wE.ownsRow w.heap.size 152 4 (.slice va hl.length vc) hl.length (HC hl)) := by
          have n0 : R ≠ w.heap.size + 1 := by omega
          have n3 : w.heap.size ≤ w.heap.size + 1 := by omega
          have hne : ∀ g, (Value.slice va hl.length vc).ownBlock = some g → g ≠ w.heap.size + 1 := fun g e1 e2 => by subst e2; exact own_bk v4 e1 v3
          have hk : ∀ (W : World) (i : Nat) (u : Value), KIn W pv P → KIn (W.setCell ⟨w.heap.size + 1, i, none⟩ u) pv P := fun W i u h => h.kept (grown_set W (w.heap.size + 1) i u) (off_ne (unhide HK))
          have ho : ∀ (W : World) (i : Nat) (u : Value), W.ownsRow w.heap.size 152 4 (.slice va hl.length vc) hl.length (HC hl) → (W.setCell ⟨w.heap.size + 1, i, none⟩ u).ownsRow w.heap.size 152 4 (.slice va hl.length vc) hl.length (HC hl) := fun W i u h => ins_kept h (grown_set W (w.heap.size + 1) i u) (fun b e1 e2 => by cases e1; exact hne _ e2 rfl)
          rw [hwE]
          exact ⟨((((v3.set 0 _).set 1 _).set 2 _).set 3 _).set 4 _, ((((hi5.rd.other 0 _ n0).other 1 _ n0).other 2 _ n0).other 3 _ n0).other 4 _ n0, grown_new (grown_new (grown_new (grown_new (grown_new hi5.gr n3 0 _) n3 1 _) n3 2 _) n3 3 _) n3 4 _, hk _ _ _ (hk _ _ _ (hk _ _ _ (hk _ _ _ (hk _ _ _ hi5.pool)))), ho _ _ _ (ho _ _ _ (ho _ _ _ (ho _ _ _ (ho _ _ _ v4))))⟩
        have hpe := hi5.pos
        have HwE := hide hwE
        clear hi5 v1 v2 v3 v4 v5 hcut hwE
        go_wp2
        rw [← unhide HwE]
        obtain ⟨e1, e2, e3, e4, e5⟩ := unhide HE
        refine bodyPost_ret (results_cell_row Try.results102 _ _ (w.heap.size + 1) 99 _ (0, 0) _ rfl e1 Try.underlying99 rfl (by kernel_rfl)) rfl ?_
        exact ⟨_, rfl, e5, e2, e4, e3, hpe⟩
end Go.Proofs.Ytgihfcjddkpkaaa.Rc
namespace Go.Proofs.Ytgihfcjddkpkaaa.Rc
open Go.RowKit
theorem off_gr' {w w' : World} {R : Nat} {pv : Value} {P : List K} (h : Off w R pv P) (hz : w.heap.size ≤ w'.heap.size) : Off w' R pv P := fun hne b o n c e => ⟨(h hne b o n c e).1, by have := (h hne b o n c e).2; omega⟩
def mcells (a b c : Nat) (v : Bool × Cd) (hv : Value) : Array Value := #[.int .u16 (a : Int), .int .u16 (b : Int), .int .u16 (c : Int), .bool v.1, .int .i64 (v.2.stack : Int), .int .i64 (v.2.locals : Int), .string ⟨v.2.bytes.toArray⟩, hv, .string ⟨v.2.map.toArray⟩]
def mzero : Array Value := #[.int .u16 0, .int .u16 0, .int .u16 0, .bool false, .int .i64 0, .int .i64 0, .string ⟨#[]⟩, .slice none 0 0, .string ⟨#[]⟩]
/-- A method that is being read. -/
def VM (w0 : World) (R b1 bf br b5 : Nat) (a b c : Nat) (W : World) (v : Bool × Cd) : Prop :=
  ∃ hv, Bk W b1 #[.pointer (some ⟨R, 0, none⟩)] 135 ∧ Bk W bf (mcells a b c v hv) 101 ∧ Bk W br mzero 101 ∧ W.ownsRow w0.heap.size 152 4 hv v.2.handlers.length (HC v.2.handlers) ∧ (∀ g, hv.ownBlock = some g → g ≠ bf ∧ g ≠ b5) ∧ b5 < W.heap.size
set_option maxRecDepth 100000 in
set_option maxHeartbeats 1000000 in
theorem method1_any {w0 : World} {R b1 bf br b5 : Nat} {pv : Value} {s : ByteArray} {P : List K} {a b c : Nat} (hs : s.size ≤ 131072) (hP : P.length ≤ 1048576) (hR : R < w0.heap.size) (h1 : w0.heap.size ≤ b1) (hf : w0.heap.size ≤ bf) (h1f : b1 ≠ bf) (hrg : w0.heap.size ≤ br) (hrf : br ≠ bf) (hKb : Off w0 R pv P) (W : World) (v : Bool × Cd) (st : St) (n : Nat) (_ : n < 4294967296) (h : I0 w0 R pv s P (VM w0 R b1 bf br b5 a b c) W v st) :
    Calls Try.prog 101 #[.int .i64 (n : Int), .pointer (some ⟨b1, 0, none⟩), .pointer (some ⟨bf, 0, none⟩)] W fun e W' => e = .returned (.tuple #[]) ∧ I0 w0 R pv s P (VM w0 R b1 bf br b5 a b c) W' (M.cval s.data.toList P v n st).1 (M.cval s.data.toList P v n st).2 ∧ ∀ b cs t, b ≠ R → b ≠ bf → b < W.heap.size → Bk W b cs t → Bk W' b cs t := by
  have H := hide h
  obtain ⟨hv, v1, v2, v3, v4, v5, v6⟩ := h.val
  have hwz := h.gr.size
  have HU := hide (code_any R pv s P st W h.rd hs hP h.pos h.pool (off_gr' hKb hwz))
  have k1 : W.cell? ⟨b1, 0, none⟩ = some (.pointer (some ⟨R, 0, none⟩)) := v1.cell 0
  unfold M.cval
  obtain ⟨x, st1, hx⟩ : ∃ x st1, M.cod s.data.toList P st = (x, st1) := ⟨_, _, rfl⟩
  rw [hx] at HU ⊢
  simp only at HU ⊢
  have HK := hide hKb
  have H1 := hide v1
  have H2 := hide v2
  have H3 := hide v3
  have hbl := v2.lt
  clear h hx hKb v1 v2 v3 v4 v5
  go_enter Try.func101, Try.ntmps101
  go_wp2_with fail
  refine (unhide HU).mono ?_
  rintro e w1 ⟨hv', rfl, ho1, hr1, hk1, hg1, hp1⟩
  obtain ⟨va, vc, ev⟩ := own152_slice ho1
  have v1 := (unhide H1).kept hg1 (ne_some (by omega))
  have v2 := (unhide H2).kept hg1 (ne_some (by omega))
  have v3 := (unhide H3).kept hg1 (ne_some (by omega))
  have q3 := v2.cell 3
  have q4 := v2.cell 4
  have q5 := v2.cell 5
  have q6 := v2.cell 6
  have q7 := v2.cell 7
  have q8 := v2.cell 8
  have qf := v2.frozen
  simp [mcells] at q3 q4 q5 q6 q7 q8
  have hin : ∀ g, hv'.ownBlock = some g → W.heap.size ≤ g := fun g e => (ins_in ho1 e).1
  obtain ⟨w2, hw2⟩ : ∃ w2, w2 = (((((w1.setCell ⟨bf, 3, none⟩ (.bool true)).setCell ⟨bf, 4, none⟩ (.int .i64 (x.stack : Int))).setCell ⟨bf, 5, none⟩ (.int .i64 (x.locals : Int))).setCell ⟨bf, 6, none⟩ (.string ⟨x.bytes.toArray⟩)).setCell ⟨bf, 7, none⟩ hv').setCell ⟨bf, 8, none⟩ (.string ⟨x.map.toArray⟩) := ⟨_, rfl⟩
  have hgs : ∀ (W1 W2 : World) (i : Nat) (u : Value), W2 = W1.setCell ⟨bf, i, none⟩ u → W1.grownBy W2 (some bf) := fun W1 W2 i u e => by rw [e]; exact grown_set W1 bf i u
  have hg2 : w1.grownBy w2 (some bf) := by
    rw [hw2]; exact grown_trans (grown_trans (grown_trans (grown_trans (grown_trans (grown_set w1 bf 3 _) (grown_set _ bf 4 _)) (grown_set _ bf 5 _)) (grown_set _ bf 6 _)) (grown_set _ bf 7 _)) (grown_set _ bf 8 _)
  have hB2 : Bk w2 bf (mcells a b c (true, x) hv') 101 := by
    rw [hw2]; exact (((((v2.set 3 _).set 4 _).set 5 _).set 6 _).set 7 _).set 8 _
  have HI : Hid (I0 w0 R pv s P (VM w0 R b1 bf br b5 a b c) w2 (true, x) st1) := by
    refine ⟨hr1.kept hg2 (ne_some (by omega)), hp1, hk1.kept hg2 fun hne b o n c e => ne_some (by have := ((unhide HK) hne b o n c e).2; omega), ⟨hv', v1.kept hg2 (ne_some h1f), hB2, v3.kept hg2 (ne_some hrf), own_mono (ins_kept ho1 hg2 (fun b e1 e2 => by cases e1; have := hin _ e2; omega)) hwz, fun g e => by have := hin g e; omega, by have := hg1.size; have := hg2.size; omega⟩, ?_⟩
    have hg3 := grown_trans (unhide H).gr hg1
    exact ⟨hg2.os.trans hg3.os, hg2.tape.trans hg3.tape, hg2.output.trans hg3.output, Nat.le_trans hg3.size hg2.size, fun k hk hne => (hg2.block k (by have := hg3.size; omega) (ne_some (by omega))).trans (hg3.block k hk hne)⟩
  have HK2 : Hid (∀ b cs t, b ≠ R → b ≠ bf → b < W.heap.size → Bk W b cs t → Bk w2 b cs t) := fun b cs t hb1 hb2 _ hb => (hb.kept hg1 (ne_some hb1)).kept hg2 (ne_some hb2)
  have Hw2 := hide hw2
  subst ev
  clear HU hr1 hg1 v1 v2 v3 k1 hk1 ho1 hg2 hB2 hw2 hgs
  go_wp2
  rw [← unhide Hw2]
  go_end0
  exact ⟨rfl, unhide HI, unhide HK2⟩
theorem matts_any {w0 W : World} {R b1 bf br b3 b4 b5 b6 b7 bn : Nat} {pv : Value} {s : ByteArray} {P : List K} {a b c : Nat} {st : St} (hs : s.size ≤ 131072) (hP : P.length ≤ 1048576) (hb : Apart w0 R b3 b4 b5 b6 b7 bn bf) (h1 : w0.heap.size ≤ b1) (hf : w0.heap.size ≤ bf) (h1f : b1 ≠ bf) (h15 : b1 ≠ b5) (hrg : w0.heap.size ≤ br) (hrf : br ≠ bf) (hr5 : br ≠ b5) (hKb : Off w0 R pv P)
    (hi : I0 w0 R pv s P (VM w0 R b1 bf br b5 a b c) W (false, Cd.zero) st) (hoc : Oc W R b3 b4 b5 b6 b7 bn M.codeName false (.func (Fn.func 101) #[] #[.pointer (some ⟨b1, 0, none⟩), .pointer (some ⟨bf, 0, none⟩)])) :
    Calls Try.prog 75 #[.pointer (some ⟨R, 0, none⟩), .func (Fn.func 117) #[] #[.pointer (some ⟨b3, 0, none⟩), .pointer (some ⟨b4, 0, none⟩), .pointer (some ⟨b5, 0, none⟩), .pointer (some ⟨b6, 0, none⟩), .pointer (some ⟨b7, 0, none⟩)]] W fun e w' => e = .returned (.tuple #[]) ∧
      I0 w0 R pv s P (VM w0 R b1 bf br b5 a b c) w' (M.attsN s.data.toList P (M.once s.data.toList M.codeName (M.cval s.data.toList P)) (false, (false, Cd.zero)) st).1.2 (M.attsN s.data.toList P (M.once s.data.toList M.codeName (M.cval s.data.toList P)) (false, (false, Cd.zero)) st).2 := by
  have hV : ∀ W W' v row, row = some R ∨ row = some b5 → W.grownBy W' row → VM w0 R b1 bf br b5 a b c W v → VM w0 R b1 bf br b5 a b c W' v := by
    rintro W W' v row hr hg ⟨hv, k1, k2, k3, k4, k5, k6⟩
    have hR := hb.r
    have hsz := hg.size
    rcases hr with rfl | rfl
    · exact ⟨hv, k1.kept hg (ne_some (by omega)), k2.kept hg (ne_some (by omega)), k3.kept hg (ne_some (by omega)), ins_kept k4 hg (fun b e1 e2 => by cases e1; have := (ins_in k4 e2).1; omega), k5, by omega⟩
    · exact ⟨hv, k1.kept hg (ne_some h15), k2.kept hg (ne_some hb.f5), k3.kept hg (ne_some hr5), ins_kept k4 hg (fun b e1 e2 => by cases e1; exact (k5 _ e2).2 rfl), k5, by omega⟩
  refine (attributes_any _ _ _ _ _ R pv s P (M.once s.data.toList M.codeName (M.cval s.data.toList P)) (I1 w0 R b3 b4 b5 b6 b7 bn pv s P (VM w0 R b1 bf br b5 a b c) M.codeName (.func (Fn.func 101) #[] #[.pointer (some ⟨b1, 0, none⟩), .pointer (some ⟨bf, 0, none⟩)])) hs hP (fun _ _ _ h => h.i0.rd) (fun _ _ _ h => h.i0.pool) (fun _ _ _ h => h.i0.pos) (fun _ _ _ _ _ h hg hr hp => h.reader hb hKb hV hg hr hp) ?_ (false, (false, Cd.zero)) st W ⟨hi, hoc⟩).mono fun e w' h => ⟨h.1, h.2.i0⟩
  intro W x st a n name h hn _
  exact once_method hs hb hKb hV (fun W v st n hn h => method1_any hs hP hb.r h1 hf h1f hrg hrf hKb W v st n hn h) W x st a n name h hn
end Go.Proofs.Ytgihfcjddkpkaaa.Rc
namespace Go.Proofs.Ytgihfcjddkpkaaa.Rc
open Go.RowKit
/-- What a call of method leaves. -/
def MthR (R : Nat) (pv : Value) (s : ByteArray) (P : List K) (m : Mt) (st' : St) (w : World) (x : Ending) (w' : World) : Prop :=
  ∃ hv, x = .returned (.agg #[.int .u16 (m.flags : Int), .int .u16 (m.name : Int), .int .u16 (m.type_ : Int), .bool m.has, .int .i64 (m.code.stack : Int), .int .i64 (m.code.locals : Int), .string ⟨m.code.bytes.toArray⟩, hv, .string ⟨m.code.map.toArray⟩]) ∧ w'.ownsRow w.heap.size 152 4 hv m.code.handlers.length (HC m.code.handlers) ∧ Rd w' R pv s st' ∧ KIn w' pv P ∧ w.grownBy w' (some R) ∧ st'.pos ≤ s.data.toList.length
theorem mth_start {w W : World} {R b1 bf br b5 a b c : Nat} {pv : Value} {s : ByteArray} {P : List K} {st : St} (h : I0 w R pv s P (fun W (_ : Unit) => Bk W b1 #[.pointer (some ⟨R, 0, none⟩)] 135 ∧ Bk W bf (mcells a b c (false, Cd.zero) (.slice none 0 0)) 101 ∧ Bk W br mzero 101) W () st) (h5 : b5 < W.heap.size) : I0 w R pv s P (VM w R b1 bf br b5 a b c) W (false, Cd.zero) st :=
  ⟨h.rd, h.pos, h.pool, ⟨.slice none 0 0, h.val.1, h.val.2.1, h.val.2.2, World.ownsRow_nil _ _ _ _, (fun g e => by cases e), h5⟩, h.gr⟩
theorem own_bk101 {w : World} {B n g : Nat} {v : Value} {xs : List Value} {cs : Array Value} (h : w.ownsRow B 152 4 v n xs) (e : v.ownBlock = some g) (hb : Bk w g cs 101) : False := by
  rcases h.2 with ⟨rfl, h0⟩ | ⟨g', cap, cur, rfl, h1, h2, _⟩
  · cases e
  · have : g' = g := by simpa [Value.ownBlock] using e
    subst this
    unfold Bk at hb
    rw [h2] at hb
    simp at hb
theorem nine_set {w w3 : World} {R g : Nat} {pv : Value} {s : ByteArray} {st : St} {a0 a1 a2 a3 a4 a5 a6 a7 a8 : Value} {t : TypeId} {x1 x2 : Array Value} {t1 t2 : TypeId} (hR : R < w.heap.size) (hgw : w.grownBy w3 (some R)) (hr : Rd w3 R pv s st) (hz : Bk w3 g #[a0, a1, a2, a3, a4, a5, a6, a7, a8] t) (hb : Bk w3 w.heap.size x1 t1) (hQ : Bk w3 (w.heap.size + 1) x2 t2) (hg : w.heap.size + 2 ≤ g) (y0 y1 y2 y3 y4 y5 y6 y7 y8 : Value) {W : World} (hW : W = ((((((((w3.setCell ⟨g, 0, none⟩ y0).setCell ⟨g, 1, none⟩ y1).setCell ⟨g, 2, none⟩ y2).setCell ⟨g, 3, none⟩ y3).setCell ⟨g, 4, none⟩ y4).setCell ⟨g, 5, none⟩ y5).setCell ⟨g, 6, none⟩ y6).setCell ⟨g, 7, none⟩ y7).setCell ⟨g, 8, none⟩ y8) :
    Bk W g #[y0, y1, y2, y3, y4, y5, y6, y7, y8] t ∧ w.heap.size + 2 ≤ g ∧ Rd W R pv s st ∧ w.grownBy W (some R) ∧ Bk W w.heap.size x1 t1 ∧ Bk W (w.heap.size + 1) x2 t2 := by
  have hg2 : w3.grownBy W (some g) := by
    rw [hW]; exact grown_trans (grown_trans (grown_trans (grown_trans (grown_trans (grown_trans (grown_trans (grown_trans (grown_set w3 g 0 _) (grown_set _ g 1 _)) (grown_set _ g 2 _)) (grown_set _ g 3 _)) (grown_set _ g 4 _)) (grown_set _ g 5 _)) (grown_set _ g 6 _)) (grown_set _ g 7 _)) (grown_set _ g 8 _)
  refine ⟨?_, hg, hr.kept hg2 (ne_some (by omega)), ?_, hb.kept hg2 (ne_some (by omega)), hQ.kept hg2 (ne_some (by omega))⟩
  · rw [hW]
    have h := ((((((((hz.set 0 y0).set 1 y1).set 2 y2).set 3 y3).set 4 y4).set 5 y5).set 6 y6).set 7 y7).set 8 y8
    simpa using h
  · exact ⟨hg2.os.trans hgw.os, hg2.tape.trans hgw.tape, hg2.output.trans hgw.output, Nat.le_trans hgw.size hg2.size, fun k hk hne => (hg2.block k (by have := hgw.size; omega) (ne_some (by omega))).trans (hgw.block k hk hne)⟩
set_option maxRecDepth 100000 in
set_option maxHeartbeats 2000000 in
theorem method_any (R : Nat) (pv : Value) (s : ByteArray) (P : List K) (st : St) (w : World) (h : Rd w R pv s st) (hs : s.size ≤ 131072) (hP : P.length ≤ 1048576) (hp : st.pos ≤ s.data.toList.length) (hk : KIn w pv P) (hKb : Off w R pv P) :
    Calls Try.prog 74 #[.pointer (some ⟨R, 0, none⟩)] w fun x w' => MthR R pv s P (M.mth s.data.toList P st).1 (M.mth s.data.toList P st).2 w x w' := by
  have hRl := h.lt
  obtain ⟨wA, hwA⟩ : ∃ wA, wA = (w.alloc (.cells #[.pointer (some ⟨R, 0, none⟩)] 135)).alloc (.cells #[.int .u16 0, .int .u16 0, .int .u16 0, .bool false, .int .i64 0, .int .i64 0, .string ⟨#[]⟩, .slice none 0 0, .string ⟨#[]⟩] 101) := ⟨_, rfl⟩
  have hgA : w.grownBy wA (some R) := by rw [hwA]; exact grown_alloc (World.grownBy_alloc w _ _) _
  have hbA : Bk wA w.heap.size #[.pointer (some ⟨R, 0, none⟩)] 135 := by rw [hwA]; exact (Bk.new _ _ _).alloc _
  have hQA : Bk wA (w.heap.size + 1) #[.int .u16 0, .int .u16 0, .int .u16 0, .bool false, .int .i64 0, .int .i64 0, .string ⟨#[]⟩, .slice none 0 0, .string ⟨#[]⟩] 101 := by
    rw [hwA]; have := Bk.new (w.alloc (.cells #[.pointer (some ⟨R, 0, none⟩)] 135)) #[.int .u16 0, .int .u16 0, .int .u16 0, .bool false, .int .i64 0, .int .i64 0, .string ⟨#[]⟩, .slice none 0 0, .string ⟨#[]⟩] 101; simpa using this
  have hrA : Rd wA R pv s st := by rw [hwA]; exact (h.kept (World.grownBy_alloc w _ none) (by simp)).kept (World.grownBy_alloc _ _ none) (by simp)
  have hzA : wA.heap.size = w.heap.size + 2 := by rw [hwA]; simp
  have HU := hide (fun (st : St) (W : World) (hW : Rd W R pv s st) (hp : st.pos ≤ s.data.toList.length) => U16_any R pv s st W hW hs hp)
  have k0 : wA.cell? ⟨w.heap.size, 0, none⟩ = some (.pointer (some ⟨R, 0, none⟩)) := hbA.cell 0
  have hsA : w.heap.size + 2 ≤ wA.heap.size := by omega
  have hnaA : ¬ wA.heap.size = w.heap.size := by omega
  have hnbA : ¬ w.heap.size = wA.heap.size := by omega
  have hgD : w.grownBy wA.drew (some R) := ⟨hgA.os, hgA.tape, hgA.output, hgA.size, hgA.block⟩
  have HwA := hide hwA
  have Hk := hide hk
  have HK := hide hKb
  unfold M.mth
  have hp3 := M.three_pos (s := s.data.toList) hp
  have hp1 := M.rd_pos (n := 2) hp
  have hp2 := M.rd_pos (n := 2) hp1
  obtain ⟨a1, st1, e1⟩ : ∃ a1 st1, M.rd s.data.toList 2 st = (a1, st1) := ⟨_, _, rfl⟩
  obtain ⟨a2, st2, e2⟩ : ∃ a2 st2, M.rd s.data.toList 2 st1 = (a2, st2) := ⟨_, _, rfl⟩
  obtain ⟨a3, st3, e3⟩ : ∃ a3 st3, M.rd s.data.toList 2 st2 = (a3, st3) := ⟨_, _, rfl⟩
  have e4 : M.three s.data.toList st = (a1, a2, a3, st3) := by unfold M.three; rw [e1]; simp only; rw [e2]; simp only; rw [e3]
  rw [e1] at hp1 hp2
  simp only at hp1 hp2
  rw [e2] at hp2
  rw [e4] at hp3 ⊢
  simp only at hp2 hp3 ⊢
  have HU1 := hide (fun W hW => unhide HU st W hW hp)
  have HU2 := hide (fun W hW => unhide HU st1 W hW hp1)
  have HU3 := hide (fun W hW => unhide HU st2 W hW hp2)
  rw [e1] at HU1
  rw [e2] at HU2
  rw [e3] at HU3
  simp only at HU1 HU2 HU3
  obtain ⟨rv, hrv⟩ : ∃ rv, rv = M.attsN s.data.toList P (M.once s.data.toList M.codeName (M.cval s.data.toList P)) (false, (false, Cd.zero)) st3 := ⟨_, rfl⟩
  rw [← hrv]
  have Hrv := hide hrv
  clear hwA h hk hKb e1 e2 e3 e4 HU hrv hzA
  go_enter Try.func74, Try.ntmps74
  go_upto_region 1 with fail
  rw [← unhide HwA]
  clear HwA
  go_cut [3] (fun p w' => ∃ bf, p = .pointer (some ⟨bf, 0, none⟩) ∧ Hid (Bk w' bf (mcells a1 a2 a3 (false, Cd.zero) (.slice none 0 0)) 101 ∧ w.heap.size + 2 ≤ bf ∧ Rd w' R pv s st3 ∧ w.grownBy w' (some R) ∧ Bk w' w.heap.size #[.pointer (some ⟨R, 0, none⟩)] 135 ∧ Bk w' (w.heap.size + 1) #[.int .u16 0, .int .u16 0, .int .u16 0, .bool false, .int .i64 0, .int .i64 0, .string ⟨#[]⟩, .slice none 0 0, .string ⟨#[]⟩] 101))
  case first =>
    go_region_held3 (fun w' => w'.cell? ⟨w.heap.size, 0, none⟩ = some (.pointer (some ⟨R, 0, none⟩))) (go_keep)
      ((go_at_call 57; first
        | (refine (unhide HU1 _ hrA.drew).mono ?_; rintro e w1 ⟨rfl, hr1, hg1⟩; have hb1 := Bk.kept (w := wA.drew) hbA hg1 (ne_some (by omega)); have k1 : w1.cell? ⟨w.heap.size, 0, none⟩ = some (.pointer (some ⟨R, 0, none⟩)) := hb1.cell 0; have hQ1 := Bk.kept (w := wA.drew) hQA hg1 (ne_some (by omega)); have hs1 : w.heap.size + 2 ≤ w1.heap.size := Nat.le_trans hsA hg1.size; have hna1 : ¬ w1.heap.size = w.heap.size := (by omega); have hnb1 : ¬ w.heap.size = w1.heap.size := (by omega))
        | (refine (unhide HU1 _ (Rd.kept hrA.drew (World.grownBy_alloc _ _ none) (by simp))).mono ?_; rintro e w1 ⟨rfl, hr1, hg1⟩; have hb1 := Bk.kept (w := (World.alloc wA.drew (.cells #[.int .u16 0, .int .u16 0, .int .u16 0, .bool false, .int .i64 0, .int .i64 0, .string ⟨#[]⟩, .slice none 0 0, .string ⟨#[]⟩] 101))) (Bk.alloc (w := wA.drew) hbA _) hg1 (ne_some (by omega)); have k1 : w1.cell? ⟨w.heap.size, 0, none⟩ = some (.pointer (some ⟨R, 0, none⟩)) := hb1.cell 0; have hQ1 := Bk.kept (w := (World.alloc wA.drew (.cells #[.int .u16 0, .int .u16 0, .int .u16 0, .bool false, .int .i64 0, .int .i64 0, .string ⟨#[]⟩, .slice none 0 0, .string ⟨#[]⟩] 101))) (Bk.alloc (w := wA.drew) hQA _) hg1 (ne_some (by omega)); have hs1 : w.heap.size + 2 ≤ w1.heap.size := Nat.le_trans (Nat.le_trans hsA (by simp)) hg1.size; have hna1 : ¬ w1.heap.size = w.heap.size := (by omega); have hnb1 : ¬ w.heap.size = w1.heap.size := (by omega); have hz1 : Bk w1 wA.heap.size #[.int .u16 0, .int .u16 0, .int .u16 0, .bool false, .int .i64 0, .int .i64 0, .string ⟨#[]⟩, .slice none 0 0, .string ⟨#[]⟩] 101 := Bk.kept (w := (World.alloc wA.drew (.cells #[.int .u16 0, .int .u16 0, .int .u16 0, .bool false, .int .i64 0, .int .i64 0, .string ⟨#[]⟩, .slice none 0 0, .string ⟨#[]⟩] 101))) (Bk.new _ _ _) hg1 (ne_some (by omega)))
        | (refine (unhide HU2 _ hr1).mono ?_; rintro e w2 ⟨rfl, hr2, hg2⟩; have hb2 := Bk.kept (w := w1) hb1 hg2 (ne_some (by omega)); have k2 : w2.cell? ⟨w.heap.size, 0, none⟩ = some (.pointer (some ⟨R, 0, none⟩)) := hb2.cell 0; have hQ2 := Bk.kept (w := w1) hQ1 hg2 (ne_some (by omega)); have hs2 : w.heap.size + 2 ≤ w2.heap.size := Nat.le_trans hs1 hg2.size; have hna2 : ¬ w2.heap.size = w.heap.size := (by omega); have hnb2 : ¬ w.heap.size = w2.heap.size := (by omega); have hz2 := Bk.kept (w := w1) hz1 hg2 (ne_some (by omega)))
        | (refine (unhide HU2 _ hr1).mono ?_; rintro e w2 ⟨rfl, hr2, hg2⟩; have hb2 := Bk.kept (w := w1) hb1 hg2 (ne_some (by omega)); have k2 : w2.cell? ⟨w.heap.size, 0, none⟩ = some (.pointer (some ⟨R, 0, none⟩)) := hb2.cell 0; have hQ2 := Bk.kept (w := w1) hQ1 hg2 (ne_some (by omega)); have hs2 : w.heap.size + 2 ≤ w2.heap.size := Nat.le_trans hs1 hg2.size; have hna2 : ¬ w2.heap.size = w.heap.size := (by omega); have hnb2 : ¬ w.heap.size = w2.heap.size := (by omega))
        | (refine (unhide HU2 _ (Rd.kept hr1 (World.grownBy_alloc _ _ none) (by simp))).mono ?_; rintro e w2 ⟨rfl, hr2, hg2⟩; have hb2 := Bk.kept (w := (World.alloc w1 (.cells #[.int .u16 0, .int .u16 0, .int .u16 0, .bool false, .int .i64 0, .int .i64 0, .string ⟨#[]⟩, .slice none 0 0, .string ⟨#[]⟩] 101))) (Bk.alloc hb1 _) hg2 (ne_some (by omega)); have k2 : w2.cell? ⟨w.heap.size, 0, none⟩ = some (.pointer (some ⟨R, 0, none⟩)) := hb2.cell 0; have hQ2 := Bk.kept (w := (World.alloc w1 (.cells #[.int .u16 0, .int .u16 0, .int .u16 0, .bool false, .int .i64 0, .int .i64 0, .string ⟨#[]⟩, .slice none 0 0, .string ⟨#[]⟩] 101))) (Bk.alloc hQ1 _) hg2 (ne_some (by omega)); have hs2 : w.heap.size + 2 ≤ w2.heap.size := Nat.le_trans (Nat.le_trans hs1 (by simp)) hg2.size; have hna2 : ¬ w2.heap.size = w.heap.size := (by omega); have hnb2 : ¬ w.heap.size = w2.heap.size := (by omega); have hz2 : Bk w2 w1.heap.size #[.int .u16 0, .int .u16 0, .int .u16 0, .bool false, .int .i64 0, .int .i64 0, .string ⟨#[]⟩, .slice none 0 0, .string ⟨#[]⟩] 101 := Bk.kept (w := (World.alloc w1 (.cells #[.int .u16 0, .int .u16 0, .int .u16 0, .bool false, .int .i64 0, .int .i64 0, .string ⟨#[]⟩, .slice none 0 0, .string ⟨#[]⟩] 101))) (Bk.new _ _ _) hg2 (ne_some (by omega)))
        | (refine (unhide HU3 _ hr2).mono ?_; rintro e w3 ⟨rfl, hr3, hg3⟩; have hb3 := Bk.kept (w := w2) hb2 hg3 (ne_some (by omega)); have k3 : w3.cell? ⟨w.heap.size, 0, none⟩ = some (.pointer (some ⟨R, 0, none⟩)) := hb3.cell 0; have hQ3 := Bk.kept (w := w2) hQ2 hg3 (ne_some (by omega)); have hs3 : w.heap.size + 2 ≤ w3.heap.size := Nat.le_trans hs2 hg3.size; have hna3 : ¬ w3.heap.size = w.heap.size := (by omega); have hnb3 : ¬ w.heap.size = w3.heap.size := (by omega); have hz3 := Bk.kept (w := w2) hz2 hg3 (ne_some (by omega)); have q0 := hz3.cell 0; have q1 := hz3.cell 1; have q2 := hz3.cell 2; have q3 := hz3.cell 3; have q4 := hz3.cell 4; have q5 := hz3.cell 5; have q6 := hz3.cell 6; have q7 := hz3.cell 7; have q8 := hz3.cell 8; have qf := hz3.frozen; simp at q0 q1 q2 q3 q4 q5 q6 q7 q8)
        | (refine (unhide HU3 _ hr2).mono ?_; rintro e w3 ⟨rfl, hr3, hg3⟩; have hb3 := Bk.kept (w := w2) hb2 hg3 (ne_some (by omega)); have k3 : w3.cell? ⟨w.heap.size, 0, none⟩ = some (.pointer (some ⟨R, 0, none⟩)) := hb3.cell 0; have hQ3 := Bk.kept (w := w2) hQ2 hg3 (ne_some (by omega)); have hs3 : w.heap.size + 2 ≤ w3.heap.size := Nat.le_trans hs2 hg3.size; have hna3 : ¬ w3.heap.size = w.heap.size := (by omega); have hnb3 : ¬ w.heap.size = w3.heap.size := (by omega))
        | (refine (unhide HU3 _ (Rd.kept hr2 (World.grownBy_alloc _ _ none) (by simp))).mono ?_; rintro e w3 ⟨rfl, hr3, hg3⟩; have hb3 := Bk.kept (w := (World.alloc w2 (.cells #[.int .u16 0, .int .u16 0, .int .u16 0, .bool false, .int .i64 0, .int .i64 0, .string ⟨#[]⟩, .slice none 0 0, .string ⟨#[]⟩] 101))) (Bk.alloc hb2 _) hg3 (ne_some (by omega)); have k3 : w3.cell? ⟨w.heap.size, 0, none⟩ = some (.pointer (some ⟨R, 0, none⟩)) := hb3.cell 0; have hQ3 := Bk.kept (w := (World.alloc w2 (.cells #[.int .u16 0, .int .u16 0, .int .u16 0, .bool false, .int .i64 0, .int .i64 0, .string ⟨#[]⟩, .slice none 0 0, .string ⟨#[]⟩] 101))) (Bk.alloc hQ2 _) hg3 (ne_some (by omega)); have hs3 : w.heap.size + 2 ≤ w3.heap.size := Nat.le_trans (Nat.le_trans hs2 (by simp)) hg3.size; have hna3 : ¬ w3.heap.size = w.heap.size := (by omega); have hnb3 : ¬ w.heap.size = w3.heap.size := (by omega); have hz3 : Bk w3 w2.heap.size #[.int .u16 0, .int .u16 0, .int .u16 0, .bool false, .int .i64 0, .int .i64 0, .string ⟨#[]⟩, .slice none 0 0, .string ⟨#[]⟩] 101 := Bk.kept (w := (World.alloc w2 (.cells #[.int .u16 0, .int .u16 0, .int .u16 0, .bool false, .int .i64 0, .int .i64 0, .string ⟨#[]⟩, .slice none 0 0, .string ⟨#[]⟩] 101))) (Bk.new _ _ _) hg3 (ne_some (by omega)); have q0 := hz3.cell 0; have q1 := hz3.cell 1; have q2 := hz3.cell 2; have q3 := hz3.cell 3; have q4 := hz3.cell 4; have q5 := hz3.cell 5; have q6 := hz3.cell 6; have q7 := hz3.cell 7; have q8 := hz3.cell 8; have qf := hz3.frozen; simp at q0 q1 q2 q3 q4 q5 q6 q7 q8)
        | fail))
    all_goals
      have hgw : w.grownBy w3 (some R) := by
        first
        | exact grown_trans (grown_trans (grown_trans hgD hg1) hg2) hg3
        | exact grown_trans (grown_trans (grown_trans (grown_alloc hgD _) hg1) hg2) hg3
        | exact grown_trans (grown_trans (grown_alloc (grown_trans hgD hg1) _) hg2) hg3
        | exact grown_trans (grown_alloc (grown_trans (grown_trans hgD hg1) hg2) _) hg3
        | fail
      go_wp2
      go_meet
      first
      | exact ⟨_, rfl, nine_set hRl hgw hr3 hz3 hb3 hQ3 (by omega) _ _ _ _ _ _ _ _ _ rfl⟩
      | exact ⟨_, rfl, four_new hRl hgw hr3 hb3 hQ3 hs3⟩
      | fail
  case rest =>
    obtain ⟨bf, rfl, H3⟩ := hcut
    obtain ⟨hz, hbf, hr3, hgw, hb, hQ⟩ := unhide H3
    have hK3 := (unhide Hk).kept hgw fun hne b o n c e => by have := (unhide HK) hne b o n c e; simpa using this.1
    have Hi3 : Hid (I0 w R pv s P (fun W (_ : Unit) => Bk W w.heap.size #[.pointer (some ⟨R, 0, none⟩)] 135 ∧ Bk W bf (mcells a1 a2 a3 (false, Cd.zero) (.slice none 0 0)) 101 ∧ Bk W (w.heap.size + 1) mzero 101) wc () st3) := ⟨hr3, hp3, hK3, ⟨hb, hz, hQ⟩, hgw⟩
    have k1 : wc.cell? ⟨w.heap.size, 0, none⟩ = some (.pointer (some ⟨R, 0, none⟩)) := hb.cell 0
    have HOn := hide (once_any R M.codeName (Fn.func 101) #[] #[.pointer (some ⟨w.heap.size, 0, none⟩), .pointer (some ⟨bf, 0, none⟩)] wc.drew)
    have hbl := hz.lt
    have hql := hQ.lt
    unfold M.codeName at HOn
    have hwz := hgw.size
    clear H3 hz hr3 hgw hb hQ hK3 HU1 HU2 HU3 hrA hbA hQA hgA hgD k0 hsA hnaA hnbA
    have HF := hide (fun (w4 : World) (b3 b4 b5 b6 b7 bn : Nat) (hoc : Oc w4 R b3 b4 b5 b6 b7 bn M.codeName false (.func (Fn.func 101) #[] #[.pointer (some ⟨w.heap.size, 0, none⟩), .pointer (some ⟨bf, 0, none⟩)])) (hb4 : Below wc.heap.size wc w4) (g3 : wc.heap.size ≤ b3) (g4 : wc.heap.size ≤ b4) (g5 : wc.heap.size ≤ b5) (g6 : wc.heap.size ≤ b6) (g7 : wc.heap.size ≤ b7) (gn : wc.heap.size ≤ bn) (m3 : b5 ≠ b3) (m4 : b5 ≠ b4) (m6 : b5 ≠ b6) (m7 : b5 ≠ b7) (mn : b5 ≠ bn) =>
      matts_any (W := w4) (st := st3) (a := a1) (b := a2) (c := a3) hs hP (w0 := w) (R := R) (bf := bf) ⟨hRl, by omega, by omega, by omega, by omega, by omega, by omega, m3, m4, m6, m7, mn, by omega, by omega, by omega, by omega, by omega, by omega⟩ (Nat.le_refl _) (by omega) (by omega) (by omega) (Nat.le_succ _) (by omega) (by omega) (unhide HK) (mth_start ((unhide Hi3).below hb4 fun h => ⟨h.1.below hb4, h.2.1.below hb4, h.2.2.below hb4⟩) hoc.h.lt) hoc)
    rw [← unhide Hrv] at HF
    go_upto_region 2 with fail
    go_cut [] (fun w' => ∃ b5, Hid (I0 w R pv s P (VM w R w.heap.size bf (w.heap.size + 1) b5 a1 a2 a3) w' rv.1.2 rv.2))
    case first =>
      go_region_held3 (fun w' => w'.cell? ⟨w.heap.size, 0, none⟩ = some (.pointer (some ⟨R, 0, none⟩))) (go_keep)
        ((first
          | (go_at_call 99; refine (unhide HOn).mono ?_; rintro e w4 ⟨b3, b4, b5, b6, b7, bn, rfl, hoc, hb4, g3, g4, g5, g6, g7, gn, m3, m4, m6, m7, mn⟩; have hb4' : Below wc.heap.size wc w4 := ⟨hb4.os, hb4.tape, hb4.output, hb4.size, hb4.block⟩; have k4 : w4.cell? ⟨w.heap.size, 0, none⟩ = some (.pointer (some ⟨R, 0, none⟩)) := ((unhide Hi3).val.1.below hb4').cell 0; have HFa := hide (unhide HF w4 b3 b4 b5 b6 b7 bn hoc hb4' g3 g4 g5 g6 g7 gn m3 m4 m6 m7 mn))
          | (go_at_call 75; refine (unhide HFa).mono ?_; rintro e w5 ⟨rfl, hi5⟩; obtain ⟨hv9, p1, p2, p3, p4, p5, p6⟩ := hi5.val; have k5 : w5.cell? ⟨w.heap.size, 0, none⟩ = some (.pointer (some ⟨R, 0, none⟩)) := p1.cell 0)
          | fail))
      all_goals
        have Hi5 := hide hi5
        clear HFa hoc hb4 hb4' hi5 p1 p2 p3 p4 p5 p6
        go_wp2
        go_meet
        exact ⟨_, Hi5⟩
    case rest =>
      clear Hi3 HF HOn k1
      obtain ⟨b5, H5⟩ := hcut
      have hi5 := unhide H5
      obtain ⟨hv, v1, v2, v3, v4, v5, v6⟩ := hi5.val
      obtain ⟨has, cd, hcd⟩ : ∃ (has : Bool) (cd : Cd), rv.1.2 = (has, cd) := ⟨_, _, rfl⟩
      rw [hcd] at v2 v4
      simp only at v4
      obtain ⟨va, vc, ev⟩ := own152_slice v4
      have q0 := v2.cell 0
      have q1 := v2.cell 1
      have q2 := v2.cell 2
      have q3 := v2.cell 3
      have q4 := v2.cell 4
      have q5 := v2.cell 5
      have q6 := v2.cell 6
      have q7 := v2.cell 7
      have q8 := v2.cell 8
      have z0 := v3.cell 0
      have z1 := v3.cell 1
      have z2 := v3.cell 2
      have z3 := v3.cell 3
      have z4 := v3.cell 4
      have z5 := v3.cell 5
      have z6 := v3.cell 6
      have z7 := v3.cell 7
      have z8 := v3.cell 8
      have zf := v3.frozen
      simp [mcells, mzero] at q0 q1 q2 q3 q4 q5 q6 q7 q8 z0 z1 z2 z3 z4 z5 z6 z7 z8
      have hgw := hi5.gr
      obtain ⟨wE, hwE⟩ : ∃ wE, wE = ((((((((wc.setCell ⟨w.heap.size + 1, 0, none⟩ (.int .u16 (a1 : Int))).setCell ⟨w.heap.size + 1, 1, none⟩ (.int .u16 (a2 : Int))).setCell ⟨w.heap.size + 1, 2, none⟩ (.int .u16 (a3 : Int))).setCell ⟨w.heap.size + 1, 3, none⟩ (.bool has)).setCell ⟨w.heap.size + 1, 4, none⟩ (.int .i64 (cd.stack : Int))).setCell ⟨w.heap.size + 1, 5, none⟩ (.int .i64 (cd.locals : Int))).setCell ⟨w.heap.size + 1, 6, none⟩ (.string ⟨cd.bytes.toArray⟩)).setCell ⟨w.heap.size + 1, 7, none⟩ hv).setCell ⟨w.heap.size + 1, 8, none⟩ (.string ⟨cd.map.toArray⟩) := ⟨_, rfl⟩
      have hg2 : wc.grownBy wE (some (w.heap.size + 1)) := by
        rw [hwE]; exact grown_trans (grown_trans (grown_trans (grown_trans (grown_trans (grown_trans (grown_trans (grown_trans (grown_set wc _ 0 _) (grown_set _ _ 1 _)) (grown_set _ _ 2 _)) (grown_set _ _ 3 _)) (grown_set _ _ 4 _)) (grown_set _ _ 5 _)) (grown_set _ _ 6 _)) (grown_set _ _ 7 _)) (grown_set _ _ 8 _)
      have HB : Hid (Bk wE (w.heap.size + 1) #[.int .u16 (a1 : Int), .int .u16 (a2 : Int), .int .u16 (a3 : Int), .bool has, .int .i64 (cd.stack : Int), .int .i64 (cd.locals : Int), .string ⟨cd.bytes.toArray⟩, hv, .string ⟨cd.map.toArray⟩] 101) := by
        refine hide ?_
        rw [hwE]
        have h := ((((((((v3.set 0 (.int .u16 (a1 : Int))).set 1 (.int .u16 (a2 : Int))).set 2 (.int .u16 (a3 : Int))).set 3 (.bool has)).set 4 (.int .i64 (cd.stack : Int))).set 5 (.int .i64 (cd.locals : Int))).set 6 (.string ⟨cd.bytes.toArray⟩)).set 7 hv).set 8 (.string ⟨cd.map.toArray⟩)
        simpa [mzero] using h
      have HE : Hid (Rd wE R pv s rv.2 ∧ w.grownBy wE (some R) ∧ KIn wE pv P ∧ wE.ownsRow w.heap.size 152 4 hv cd.handlers.length (HC cd.handlers)) :=
        ⟨hi5.rd.kept hg2 (ne_some (by omega)), ⟨hg2.os.trans hgw.os, hg2.tape.trans hgw.tape, hg2.output.trans hgw.output, Nat.le_trans hgw.size hg2.size, fun k hk hne => (hg2.block k (by have := hgw.size; omega) (ne_some (by omega))).trans (hgw.block k hk hne)⟩, hi5.pool.kept hg2 (off_ne (unhide HK)), ins_kept v4 hg2 (fun b e1 e2 => by cases e1; exact own_bk101 v4 e2 v3)⟩
      have hpe := hi5.pos
      have HwE := hide hwE
      have Hcd := hide hcd
      have Hev := hide ev
      subst ev
      clear hi5 v1 v2 v3 v4 v5 v6 H5 hwE hgw hg2 hcd
      go_wp2
      rw [← unhide HwE]
      obtain ⟨e2, e3, e4, e5⟩ := unhide HE
      refine bodyPost_ret (results_cell_row Try.results74 _ _ (w.heap.size + 1) 101 _ (0, 0) _ rfl (unhide HB) Try.underlying101 rfl (by kernel_rfl)) rfl ?_
      rw [unhide Hcd]
      exact ⟨_, rfl, e5, e2, e4, e3, hpe⟩
end Go.Proofs.Ytgihfcjddkpkaaa.Rc
