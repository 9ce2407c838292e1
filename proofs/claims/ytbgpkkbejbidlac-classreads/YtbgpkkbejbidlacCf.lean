/-
  Package class: a field.
-/
import Derived.Test.YtbgpkkbejbidlacCo
import Derived.Test.YtbgpkkbejbidlacMgB
namespace Go.Proofs.Ytbgpkkbejbidlac.Cl
open Go.RowKit
theorem store_fn (W : World) (b : Nat) (fn : Fn) (a c : Array Value) (u : Value) (hc : W.cell? ⟨b, 0, none⟩ = some u) (hf : W.frozen? ⟨b, 0, none⟩ = false) : Sem.run Try.prog (store ⟨b, 0, none⟩ (.func fn a c)) W = .ok () (W.setCell ⟨b, 0, none⟩ (.func fn a c)) := by
  rw [run_store Try.prog W _ (.func fn a c) _ rfl, hc]
  simp [hf]
/-- What once lays, its pass not yet in its cell. -/
def wOnce (w : World) (R : Nat) (cnt : List UInt8) (rf : Value) : World :=
  (((((w.alloc (.cells #[.pointer (some ⟨R, 0, none⟩)] 135)).alloc (.cells #[.string ⟨cnt.toArray⟩] 9)).alloc (.cells #[rf] 70)).alloc (.cells #[.pointer (some ⟨R, 0, none⟩)] 135)).alloc (.cells #[.nilFunc] 143)).alloc (.cells #[.bool false] 4)
def fPass (w : World) : Value := .func (Fn.func 104) #[] #[.pointer (some ⟨w.heap.size + 1 + 1 + 1, 0, none⟩)]
theorem wOnce_pass (w : World) (R : Nat) (cnt : List UInt8) (rf : Value) : Bk (wOnce w R cnt rf) (w.heap.size + 1 + 1 + 1 + 1) #[.nilFunc] 143 := by
  unfold wOnce
  have h := (Bk.new ((((w.alloc (.cells #[.pointer (some ⟨R, 0, none⟩)] 135)).alloc (.cells #[.string ⟨cnt.toArray⟩] 9)).alloc (.cells #[rf] 70)).alloc (.cells #[.pointer (some ⟨R, 0, none⟩)] 135)) #[.nilFunc] 143).alloc (.cells #[.bool false] 4)
  simpa using h
/-- What once lays. -/
def wAll (w : World) (R : Nat) (cnt : List UInt8) (rf : Value) : World :=
  (((((w.alloc (.cells #[.pointer (some ⟨R, 0, none⟩)] 135)).alloc (.cells #[.string ⟨cnt.toArray⟩] 9)).alloc (.cells #[rf] 70)).alloc (.cells #[.pointer (some ⟨R, 0, none⟩)] 135)).alloc (.cells #[fPass w] 143)).alloc (.cells #[.bool false] 4)
theorem wAll_below (w : World) (R : Nat) (cnt : List UInt8) (rf : Value) : Below w.heap.size w (wAll w R cnt rf) := by
  unfold wAll
  exact ((((((Below.refl _ _).alloc (Nat.le_refl _) _).alloc (by simp) _).alloc (by simp; omega) _).alloc (by simp; omega) _).alloc (by simp; omega) _).alloc (by simp; omega) _
theorem wAll_oc (w : World) (R : Nat) (cnt : List UInt8) (rf : Value) : Oc (wAll w R cnt rf) R (w.heap.size + 1) (w.heap.size + 1 + 1 + 1 + 1) (w.heap.size + 1 + 1 + 1 + 1 + 1) w.heap.size (w.heap.size + 1 + 1) (w.heap.size + 1 + 1 + 1) cnt false rf := by
  unfold wAll
  refine ⟨?_, ?_, ?_, ?_, ?_, ?_⟩
  · have h := ((((Bk.new (w.alloc (.cells #[.pointer (some ⟨R, 0, none⟩)] 135)) #[.string ⟨cnt.toArray⟩] 9).alloc (.cells #[rf] 70)).alloc (.cells #[.pointer (some ⟨R, 0, none⟩)] 135)).alloc (.cells #[fPass w] 143)).alloc (.cells #[.bool false] 4)
    simpa using h
  · have h := (Bk.new ((((w.alloc (.cells #[.pointer (some ⟨R, 0, none⟩)] 135)).alloc (.cells #[.string ⟨cnt.toArray⟩] 9)).alloc (.cells #[rf] 70)).alloc (.cells #[.pointer (some ⟨R, 0, none⟩)] 135)) #[fPass w] 143).alloc (.cells #[.bool false] 4)
    show Bk _ _ #[fPass w] 143
    simpa using h
  · have h := Bk.new (((((w.alloc (.cells #[.pointer (some ⟨R, 0, none⟩)] 135)).alloc (.cells #[.string ⟨cnt.toArray⟩] 9)).alloc (.cells #[rf] 70)).alloc (.cells #[.pointer (some ⟨R, 0, none⟩)] 135)).alloc (.cells #[fPass w] 143)) #[.bool false] 4
    simpa using h
  · exact (((((Bk.new w _ 135).alloc _).alloc _).alloc _).alloc _).alloc _
  · have h := (((Bk.new ((w.alloc (.cells #[.pointer (some ⟨R, 0, none⟩)] 135)).alloc (.cells #[.string ⟨cnt.toArray⟩] 9)) #[rf] 70).alloc (.cells #[.pointer (some ⟨R, 0, none⟩)] 135)).alloc (.cells #[fPass w] 143)).alloc (.cells #[.bool false] 4)
    simpa using h
  · have h := ((Bk.new (((w.alloc (.cells #[.pointer (some ⟨R, 0, none⟩)] 135)).alloc (.cells #[.string ⟨cnt.toArray⟩] 9)).alloc (.cells #[rf] 70)) #[.pointer (some ⟨R, 0, none⟩)] 135).alloc (.cells #[fPass w] 143)).alloc (.cells #[.bool false] 4)
    simpa using h
theorem none_any (R : Nat) (w : World) : Calls Try.prog 76 #[.pointer (some ⟨R, 0, none⟩)] w fun e w' => e = .returned (.func (Fn.func 104) #[] #[.pointer (some ⟨w.heap.size, 0, none⟩)]) ∧ w' = w.alloc (.cells #[.pointer (some ⟨R, 0, none⟩)] 135) := by
  go_enter Try.func76, Try.ntmps76
  go_wp2
  go_ret
  exact ⟨rfl, rfl⟩
set_option maxRecDepth 100000 in
set_option maxHeartbeats 1000000 in
theorem once_any (R : Nat) (cnt : List UInt8) (fn : Fn) (f1 f2 : Array Value) (w : World) : Calls Try.prog 99 #[.pointer (some ⟨R, 0, none⟩), .string ⟨cnt.toArray⟩, .func fn f1 f2] w fun e w' => ∃ b3 b4 b5 b6 b7 bn, e = .returned (.func (Fn.func 117) #[] #[.pointer (some ⟨b3, 0, none⟩), .pointer (some ⟨b4, 0, none⟩), .pointer (some ⟨b5, 0, none⟩), .pointer (some ⟨b6, 0, none⟩), .pointer (some ⟨b7, 0, none⟩)]) ∧
      Oc w' R b3 b4 b5 b6 b7 bn cnt false (.func fn f1 f2) ∧ Below w.heap.size w w' ∧ w.heap.size ≤ b3 ∧ w.heap.size ≤ b4 ∧ w.heap.size ≤ b5 ∧ w.heap.size ≤ b6 ∧ w.heap.size ≤ b7 ∧ w.heap.size ≤ bn ∧ b5 ≠ b3 ∧ b5 ≠ b4 ∧ b5 ≠ b6 ∧ b5 ≠ b7 ∧ b5 ≠ bn := by
  have HN := hide (none_any R)
  have hst := store_fn (wOnce w R cnt (.func fn f1 f2)) (w.heap.size + 1 + 1 + 1 + 1) (Fn.func 104) #[] #[.pointer (some ⟨w.heap.size + 1 + 1 + 1, 0, none⟩)] .nilFunc ((wOnce_pass _ _ _ _).cell 0) ((wOnce_pass _ _ _ _).frozen 0)
  unfold wOnce at hst
  go_enter Try.func99, Try.ntmps99
  go_wp2_with fail
  refine (unhide HN _).mono ?_
  rintro e w1 ⟨rfl, hw1⟩
  subst w1
  go_wp2
  go_ret
  refine ⟨_, _, _, _, _, w.heap.size + 1 + 1 + 1, rfl, ?_, ?_, by omega, by omega, by omega, by omega, by omega, by omega, by omega, by omega, by omega, by omega, by omega⟩
  · exact wAll_oc w R cnt (.func fn f1 f2)
  · exact wAll_below w R cnt (.func fn f1 f2)
/-- A field that is being read. -/
def VF (R b1 bf br : Nat) (a b c : Nat) (W : World) (v : Nat) : Prop := Bk W b1 #[.pointer (some ⟨R, 0, none⟩)] 135 ∧ Bk W bf #[.int .u16 (a : Int), .int .u16 (b : Int), .int .u16 (c : Int), .int .u16 (v : Int)] 95 ∧ Bk W br #[.int .u16 0, .int .u16 0, .int .u16 0, .int .u16 0] 95
set_option maxRecDepth 100000 in
theorem field1_any {w0 : World} {R b1 bf br : Nat} {pv : Value} {s : ByteArray} {P : List K} {a b c : Nat} (hs : s.size ≤ 131072) (hR : R < w0.heap.size) (h1 : w0.heap.size ≤ b1) (hf : w0.heap.size ≤ bf) (h1f : b1 ≠ bf) (hrg : w0.heap.size ≤ br) (hrf : br ≠ bf) (hKb : Off w0 R pv P) (W : World) (v : Nat) (st : St) (n : Nat) (_ : n < 4294967296) (h : I0 w0 R pv s P (VF R b1 bf br a b c) W v st) :
    Calls Try.prog 100 #[.int .i64 (n : Int), .pointer (some ⟨b1, 0, none⟩), .pointer (some ⟨bf, 0, none⟩)] W fun e W' => e = .returned (.tuple #[]) ∧ I0 w0 R pv s P (VF R b1 bf br a b c) W' (M.fval s.data.toList v n st).1 (M.fval s.data.toList v n st).2 ∧ ∀ b cs t, b ≠ R → b ≠ bf → b < W.heap.size → Bk W b cs t → Bk W' b cs t := by
  have H := hide h
  have HU := hide (U16_any R pv s st W h.rd hs h.pos)
  have k1 : W.cell? ⟨b1, 0, none⟩ = some (.pointer (some ⟨R, 0, none⟩)) := h.val.1.cell 0
  have hp2 := M.rd_pos (n := 2) h.pos
  unfold M.fval
  obtain ⟨x, st1, hx⟩ : ∃ x st1, M.rd s.data.toList 2 st = (x, st1) := ⟨_, _, rfl⟩
  rw [hx] at HU hp2 ⊢
  simp only at HU hp2 ⊢
  have HK := hide hKb
  clear h hx hKb
  go_enter Try.func100, Try.ntmps100
  go_wp2_with fail
  refine (unhide HU).mono ?_
  rintro e w1 ⟨rfl, hr1, hg1⟩
  have v1 := (unhide H).val.1.kept hg1 (by simp; omega)
  have v2 := (unhide H).val.2.1.kept hg1 (by simp; omega)
  have v3 := (unhide H).val.2.2.kept hg1 (by simp; omega)
  have q3 : w1.cell? ⟨bf, 3, none⟩ = some (.int .u16 (v : Int)) := v2.cell 3
  have qf := v2.frozen 3
  have hK1 := (unhide H).pool.kept hg1 fun hne b o n c e => by have := (unhide HK) hne b o n c e; simpa using this.1
  have HI : Hid (I0 w0 R pv s P (VF R b1 bf br a b c) (w1.setCell ⟨bf, 3, none⟩ (.int .u16 (x : Int))) x st1) := by
    refine ⟨hr1.other 3 _ (by omega), hp2, hK1.kept (grown_set w1 bf 3 _) fun hne b o n c e => by have := ((unhide HK) hne b o n c e).2; simp; omega, ⟨v1.other 3 _ h1f, v2.set 3 _, v3.other 3 _ hrf⟩, grown_new (grown_trans (unhide H).gr hg1) hf 3 _⟩
  have HK2 : Hid (∀ b cs t, b ≠ R → b ≠ bf → b < W.heap.size → Bk W b cs t → Bk (w1.setCell ⟨bf, 3, none⟩ (.int .u16 (x : Int))) b cs t) := fun b cs t hb1 hb2 _ hb => (hb.kept hg1 (by simpa using hb1)).other 3 _ hb2
  clear HU hr1 hg1 v1 v2 v3 k1 hK1
  go_wp2
  go_end0
  exact ⟨rfl, unhide HI, unhide HK2⟩
end Go.Proofs.Ytbgpkkbejbidlac.Cl
