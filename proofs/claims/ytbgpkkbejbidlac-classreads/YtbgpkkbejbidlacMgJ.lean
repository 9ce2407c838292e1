/-
  Package class: what is in a Code attribute, and the attributes of a method.
  Package class: a method.
-/
import Derived.Test.YtbgpkkbejbidlacMgI
namespace Go.Proofs.Ytbgpkkbejbidlac.Cl
open Go.RowKit
theorem off_gr' {w w' : World} {R : Nat} {pv : Value} {P : List K} (h : Off w R pv P) (hz : w.heap.size ≤ w'.heap.size) : Off w' R pv P := fun hne b o n c e => ⟨(h hne b o n c e).1, by have := (h hne b o n c e).2; omega⟩
def mcells (a b c : Nat) (v : Bool × Cd) (hv : Value) : Array Value := #[.int .u16 (a : Int), .int .u16 (b : Int), .int .u16 (c : Int), .bool v.1, .int .i64 (v.2.stack : Int), .int .i64 (v.2.locals : Int), .string ⟨v.2.bytes.toArray⟩, hv, .string ⟨v.2.map.toArray⟩]
def mzero : Array Value := #[.int .u16 0, .int .u16 0, .int .u16 0, .bool false, .int .i64 0, .int .i64 0, .string ⟨#[]⟩, .slice none 0 0, .string ⟨#[]⟩]
/-- A method that is being read. -/
def VM (w0 : World) (R b1 bf br b5 : Nat) (a b c : Nat) (W : World) (v : Bool × Cd) : Prop :=
  ∃ hv, Bk W b1 #[.pointer (some ⟨R, 0, none⟩)] 135 ∧ Bk W bf (mcells a b c v hv) 101 ∧ Bk W br mzero 101 ∧ W.ownsRow w0.heap.size 152 4 hv v.2.handlers.length (HC v.2.handlers) ∧ (∀ g, hv.ownBlock = some g → g ≠ bf ∧ g ≠ b5) ∧ b5 < W.heap.size
set_option maxRecDepth 100000 in
set_option maxHeartbeats 1000000 in
theorem method1_any {w0 : World} {R b1 bf br b5 : Nat} {pv : Value} {s : ByteArray} {P : List K} {a b c : Nat} (hs : s.size ≤ 131072) (hP : P.length ≤ 1048576) (hR : R < w0.heap.size) (h1 : w0.heap.size ≤ b1) (hf : w0.heap.size ≤ bf) (h1f : b1 ≠ bf) (hrg : w0.heap.size ≤ br) (hrf : br ≠ bf) (hKb : Off w0 R pv P) (W : World) (v : Bool × Cd) (st : St) (n : Nat) (_ : n < 4294967296) (h : I0 w0 R pv s P (VM w0 R b1 bf br b5 a b c) W v st) :
    Calls Try.prog 101 #[.int .i64 (n : Int), .pointer (some ⟨b1, 0, none⟩), .pointer (some ⟨bf, 0, none⟩)] W fun e W' => e = .returned (.tuple #[]) ∧ I0 w0 R pv s P (VM w0 R b1 bf br b5 a b c) W' (M.cval s.data.toList P v n st).1 (M.cval s.data.toList P v n st).2 ∧ ∀ b cs t, b ≠ R → b ≠ bf → b < W.heap.size → Bk W b cs t → Bk W' b cs t := by
  have H := hide h
  obtain ⟨hv, v1, v2, v3, v4, v5, v6⟩ := h.val
  have hwz := h.gr.size
  have HU := hide (code_any R pv s P st W h.rd hs hP h.pos h.pool (off_gr' hKb hwz))
  have k1 : W.cell? ⟨b1, 0, none⟩ = some (.pointer (some ⟨R, 0, none⟩)) := v1.cell 0
  unfold M.cval
  obtain ⟨x, st1, hx⟩ : ∃ x st1, M.cod s.data.toList P st = (x, st1) := ⟨_, _, rfl⟩
  rw [hx] at HU ⊢
  simp only at HU ⊢
  have HK := hide hKb
  have H1 := hide v1
  have H2 := hide v2
  have H3 := hide v3
  have hbl := v2.lt
  clear h hx hKb v1 v2 v3 v4 v5
  go_enter Try.func101, Try.ntmps101
  go_wp2_with fail
  refine (unhide HU).mono ?_
  rintro e w1 ⟨hv', rfl, ho1, hr1, hk1, hg1, hp1⟩
  obtain ⟨va, vc, ev⟩ := own152_slice ho1
  have v1 := (unhide H1).kept hg1 (ne_some (by omega))
  have v2 := (unhide H2).kept hg1 (ne_some (by omega))
  have v3 := (unhide H3).kept hg1 (ne_some (by omega))
  have q3 := v2.cell 3
  have q4 := v2.cell 4
  have q5 := v2.cell 5
  have q6 := v2.cell 6
  have q7 := v2.cell 7
  have q8 := v2.cell 8
  have qf := v2.frozen
  simp [mcells] at q3 q4 q5 q6 q7 q8
  have hin : ∀ g, hv'.ownBlock = some g → W.heap.size ≤ g := fun g e => (ins_in ho1 e).1
  obtain ⟨w2, hw2⟩ : ∃ w2, w2 = (((((w1.setCell ⟨bf, 3, none⟩ (.bool true)).setCell ⟨bf, 4, none⟩ (.int .i64 (x.stack : Int))).setCell ⟨bf, 5, none⟩ (.int .i64 (x.locals : Int))).setCell ⟨bf, 6, none⟩ (.string ⟨x.bytes.toArray⟩)).setCell ⟨bf, 7, none⟩ hv').setCell ⟨bf, 8, none⟩ (.string ⟨x.map.toArray⟩) := ⟨_, rfl⟩
  have hgs : ∀ (W1 W2 : World) (i : Nat) (u : Value), W2 = W1.setCell ⟨bf, i, none⟩ u → W1.grownBy W2 (some bf) := fun W1 W2 i u e => by rw [e]; exact grown_set W1 bf i u
  have hg2 : w1.grownBy w2 (some bf) := by
    rw [hw2]; exact grown_trans (grown_trans (grown_trans (grown_trans (grown_trans (grown_set w1 bf 3 _) (grown_set _ bf 4 _)) (grown_set _ bf 5 _)) (grown_set _ bf 6 _)) (grown_set _ bf 7 _)) (grown_set _ bf 8 _)
  have hB2 : Bk w2 bf (mcells a b c (true, x) hv') 101 := by
    rw [hw2]; exact (((((v2.set 3 _).set 4 _).set 5 _).set 6 _).set 7 _).set 8 _
  have HI : Hid (I0 w0 R pv s P (VM w0 R b1 bf br b5 a b c) w2 (true, x) st1) := by
    refine ⟨hr1.kept hg2 (ne_some (by omega)), hp1, hk1.kept hg2 fun hne b o n c e => ne_some (by have := ((unhide HK) hne b o n c e).2; omega), ⟨hv', v1.kept hg2 (ne_some h1f), hB2, v3.kept hg2 (ne_some hrf), own_mono (ins_kept ho1 hg2 (fun b e1 e2 => by cases e1; have := hin _ e2; omega)) hwz, fun g e => by have := hin g e; omega, by have := hg1.size; have := hg2.size; omega⟩, ?_⟩
    have hg3 := grown_trans (unhide H).gr hg1
    exact ⟨hg2.os.trans hg3.os, hg2.tape.trans hg3.tape, hg2.output.trans hg3.output, Nat.le_trans hg3.size hg2.size, fun k hk hne => (hg2.block k (by have := hg3.size; omega) (ne_some (by omega))).trans (hg3.block k hk hne)⟩
  have HK2 : Hid (∀ b cs t, b ≠ R → b ≠ bf → b < W.heap.size → Bk W b cs t → Bk w2 b cs t) := fun b cs t hb1 hb2 _ hb => (hb.kept hg1 (ne_some hb1)).kept hg2 (ne_some hb2)
  have Hw2 := hide hw2
  subst ev
  clear HU hr1 hg1 v1 v2 v3 k1 hk1 ho1 hg2 hB2 hw2 hgs
  go_wp2
  rw [← unhide Hw2]
  go_end0
  exact ⟨rfl, unhide HI, unhide HK2⟩
theorem matts_any {w0 W : World} {R b1 bf br b3 b4 b5 b6 b7 bn : Nat} {pv : Value} {s : ByteArray} {P : List K} {a b c : Nat} {st : St} (hs : s.size ≤ 131072) (hP : P.length ≤ 1048576) (hb : Apart w0 R b3 b4 b5 b6 b7 bn bf) (h1 : w0.heap.size ≤ b1) (hf : w0.heap.size ≤ bf) (h1f : b1 ≠ bf) (h15 : b1 ≠ b5) (hrg : w0.heap.size ≤ br) (hrf : br ≠ bf) (hr5 : br ≠ b5) (hKb : Off w0 R pv P)
    (hi : I0 w0 R pv s P (VM w0 R b1 bf br b5 a b c) W (false, Cd.zero) st) (hoc : Oc W R b3 b4 b5 b6 b7 bn M.codeName false (.func (Fn.func 101) #[] #[.pointer (some ⟨b1, 0, none⟩), .pointer (some ⟨bf, 0, none⟩)])) :
    Calls Try.prog 75 #[.pointer (some ⟨R, 0, none⟩), .func (Fn.func 117) #[] #[.pointer (some ⟨b3, 0, none⟩), .pointer (some ⟨b4, 0, none⟩), .pointer (some ⟨b5, 0, none⟩), .pointer (some ⟨b6, 0, none⟩), .pointer (some ⟨b7, 0, none⟩)]] W fun e w' => e = .returned (.tuple #[]) ∧
      I0 w0 R pv s P (VM w0 R b1 bf br b5 a b c) w' (M.attsN s.data.toList P (M.once s.data.toList M.codeName (M.cval s.data.toList P)) (false, (false, Cd.zero)) st).1.2 (M.attsN s.data.toList P (M.once s.data.toList M.codeName (M.cval s.data.toList P)) (false, (false, Cd.zero)) st).2 := by
  have hV : ∀ W W' v row, row = some R ∨ row = some b5 → W.grownBy W' row → VM w0 R b1 bf br b5 a b c W v → VM w0 R b1 bf br b5 a b c W' v := by
    rintro W W' v row hr hg ⟨hv, k1, k2, k3, k4, k5, k6⟩
    have hR := hb.r
    have hsz := hg.size
    rcases hr with rfl | rfl
    · exact ⟨hv, k1.kept hg (ne_some (by omega)), k2.kept hg (ne_some (by omega)), k3.kept hg (ne_some (by omega)), ins_kept k4 hg (fun b e1 e2 => by cases e1; have := (ins_in k4 e2).1; omega), k5, by omega⟩
    · exact ⟨hv, k1.kept hg (ne_some h15), k2.kept hg (ne_some hb.f5), k3.kept hg (ne_some hr5), ins_kept k4 hg (fun b e1 e2 => by cases e1; exact (k5 _ e2).2 rfl), k5, by omega⟩
  refine (attributes_any _ _ _ _ _ R pv s P (M.once s.data.toList M.codeName (M.cval s.data.toList P)) (I1 w0 R b3 b4 b5 b6 b7 bn pv s P (VM w0 R b1 bf br b5 a b c) M.codeName (.func (Fn.func 101) #[] #[.pointer (some ⟨b1, 0, none⟩), .pointer (some ⟨bf, 0, none⟩)])) hs hP (fun _ _ _ h => h.i0.rd) (fun _ _ _ h => h.i0.pool) (fun _ _ _ h => h.i0.pos) (fun _ _ _ _ _ h hg hr hp => h.reader hb hKb hV hg hr hp) ?_ (false, (false, Cd.zero)) st W ⟨hi, hoc⟩).mono fun e w' h => ⟨h.1, h.2.i0⟩
  intro W x st a n name h hn _
  exact once_method hs hb hKb hV (fun W v st n hn h => method1_any hs hP hb.r h1 hf h1f hrg hrf hKb W v st n hn h) W x st a n name h hn
end Go.Proofs.Ytbgpkkbejbidlac.Cl
namespace Go.Proofs.Ytbgpkkbejbidlac.Cl
open Go.RowKit
/-- What a call of method leaves. -/
def MthR (R : Nat) (pv : Value) (s : ByteArray) (P : List K) (m : Mt) (st' : St) (w : World) (x : Ending) (w' : World) : Prop :=
  ∃ hv, x = .returned (.agg #[.int .u16 (m.flags : Int), .int .u16 (m.name : Int), .int .u16 (m.type_ : Int), .bool m.has, .int .i64 (m.code.stack : Int), .int .i64 (m.code.locals : Int), .string ⟨m.code.bytes.toArray⟩, hv, .string ⟨m.code.map.toArray⟩]) ∧ w'.ownsRow w.heap.size 152 4 hv m.code.handlers.length (HC m.code.handlers) ∧ Rd w' R pv s st' ∧ KIn w' pv P ∧ w.grownBy w' (some R) ∧ st'.pos ≤ s.data.toList.length
theorem mth_start {w W : World} {R b1 bf br b5 a b c : Nat} {pv : Value} {s : ByteArray} {P : List K} {st : St} (h : I0 w R pv s P (fun W (_ : Unit) => Bk W b1 #[.pointer (some ⟨R, 0, none⟩)] 135 ∧ Bk W bf (mcells a b c (false, Cd.zero) (.slice none 0 0)) 101 ∧ Bk W br mzero 101) W () st) (h5 : b5 < W.heap.size) : I0 w R pv s P (VM w R b1 bf br b5 a b c) W (false, Cd.zero) st :=
  ⟨h.rd, h.pos, h.pool, ⟨.slice none 0 0, h.val.1, h.val.2.1, h.val.2.2, World.ownsRow_nil _ _ _ _, (fun g e => by cases e), h5⟩, h.gr⟩
theorem own_bk101 {w : World} {B n g : Nat} {v : Value} {xs : List Value} {cs : Array Value} (h : w.ownsRow B 152 4 v n xs) (e : v.ownBlock = some g) (hb : Bk w g cs 101) : False := by
  rcases h.2 with ⟨rfl, h0⟩ | ⟨g', cap, cur, rfl, h1, h2, _⟩
  · cases e
  · have : g' = g := by simpa [Value.ownBlock] using e
    subst this
    unfold Bk at hb
    rw [h2] at hb
    simp at hb
theorem nine_set {w w3 : World} {R g : Nat} {pv : Value} {s : ByteArray} {st : St} {a0 a1 a2 a3 a4 a5 a6 a7 a8 : Value} {t : TypeId} {x1 x2 : Array Value} {t1 t2 : TypeId} (hR : R < w.heap.size) (hgw : w.grownBy w3 (some R)) (hr : Rd w3 R pv s st) (hz : Bk w3 g #[a0, a1, a2, a3, a4, a5, a6, a7, a8] t) (hb : Bk w3 w.heap.size x1 t1) (hQ : Bk w3 (w.heap.size + 1) x2 t2) (hg : w.heap.size + 2 ≤ g) (y0 y1 y2 y3 y4 y5 y6 y7 y8 : Value) {W : World} (hW : W = ((((((((w3.setCell ⟨g, 0, none⟩ y0).setCell ⟨g, 1, none⟩ y1).setCell ⟨g, 2, none⟩ y2).setCell ⟨g, 3, none⟩ y3).setCell ⟨g, 4, none⟩ y4).setCell ⟨g, 5, none⟩ y5).setCell ⟨g, 6, none⟩ y6).setCell ⟨g, 7, none⟩ y7).setCell ⟨g, 8, none⟩ y8) :
    Bk W g #[y0, y1, y2, y3, y4, y5, y6, y7, y8] t ∧ w.heap.size + 2 ≤ g ∧ Rd W R pv s st ∧ w.grownBy W (some R) ∧ Bk W w.heap.size x1 t1 ∧ Bk W (w.heap.size + 1) x2 t2 := by
  have hg2 : w3.grownBy W (some g) := by
    rw [hW]; exact grown_trans (grown_trans (grown_trans (grown_trans (grown_trans (grown_trans (grown_trans (grown_trans (grown_set w3 g 0 _) (grown_set _ g 1 _)) (grown_set _ g 2 _)) (grown_set _ g 3 _)) (grown_set _ g 4 _)) (grown_set _ g 5 _)) (grown_set _ g 6 _)) (grown_set _ g 7 _)) (grown_set _ g 8 _)
  refine ⟨?_, hg, hr.kept hg2 (ne_some (by omega)), ?_, hb.kept hg2 (ne_some (by omega)), hQ.kept hg2 (ne_some (by omega))⟩
  · rw [hW]
    have h := ((((((((hz.set 0 y0).set 1 y1).set 2 y2).set 3 y3).set 4 y4).set 5 y5).set 6 y6).set 7 y7).set 8 y8
    simpa using h
  · exact ⟨hg2.os.trans hgw.os, hg2.tape.trans hgw.tape, hg2.output.trans hgw.output, Nat.le_trans hgw.size hg2.size, fun k hk hne => (hg2.block k (by have := hgw.size; omega) (ne_some (by omega))).trans (hgw.block k hk hne)⟩
set_option maxRecDepth 100000 in
set_option maxHeartbeats 2000000 in
theorem method_any (R : Nat) (pv : Value) (s : ByteArray) (P : List K) (st : St) (w : World) (h : Rd w R pv s st) (hs : s.size ≤ 131072) (hP : P.length ≤ 1048576) (hp : st.pos ≤ s.data.toList.length) (hk : KIn w pv P) (hKb : Off w R pv P) :
    Calls Try.prog 74 #[.pointer (some ⟨R, 0, none⟩)] w fun x w' => MthR R pv s P (M.mth s.data.toList P st).1 (M.mth s.data.toList P st).2 w x w' := by
  have hRl := h.lt
  obtain ⟨wA, hwA⟩ : ∃ wA, wA = (w.alloc (.cells #[.pointer (some ⟨R, 0, none⟩)] 135)).alloc (.cells #[.int .u16 0, .int .u16 0, .int .u16 0, .bool false, .int .i64 0, .int .i64 0, .string ⟨#[]⟩, .slice none 0 0, .string ⟨#[]⟩] 101) := ⟨_, rfl⟩
  have hgA : w.grownBy wA (some R) := by rw [hwA]; exact grown_alloc (World.grownBy_alloc w _ _) _
  have hbA : Bk wA w.heap.size #[.pointer (some ⟨R, 0, none⟩)] 135 := by rw [hwA]; exact (Bk.new _ _ _).alloc _
  have hQA : Bk wA (w.heap.size + 1) #[.int .u16 0, .int .u16 0, .int .u16 0, .bool false, .int .i64 0, .int .i64 0, .string ⟨#[]⟩, .slice none 0 0, .string ⟨#[]⟩] 101 := by
    rw [hwA]; have := Bk.new (w.alloc (.cells #[.pointer (some ⟨R, 0, none⟩)] 135)) #[.int .u16 0, .int .u16 0, .int .u16 0, .bool false, .int .i64 0, .int .i64 0, .string ⟨#[]⟩, .slice none 0 0, .string ⟨#[]⟩] 101; simpa using this
  have hrA : Rd wA R pv s st := by rw [hwA]; exact (h.kept (World.grownBy_alloc w _ none) (by simp)).kept (World.grownBy_alloc _ _ none) (by simp)
  have hzA : wA.heap.size = w.heap.size + 2 := by rw [hwA]; simp
  have HU := hide (fun (st : St) (W : World) (hW : Rd W R pv s st) (hp : st.pos ≤ s.data.toList.length) => U16_any R pv s st W hW hs hp)
  have k0 : wA.cell? ⟨w.heap.size, 0, none⟩ = some (.pointer (some ⟨R, 0, none⟩)) := hbA.cell 0
  have hsA : w.heap.size + 2 ≤ wA.heap.size := by omega
  have hnaA : ¬ wA.heap.size = w.heap.size := by omega
  have hnbA : ¬ w.heap.size = wA.heap.size := by omega
  have hgD : w.grownBy wA.drew (some R) := ⟨hgA.os, hgA.tape, hgA.output, hgA.size, hgA.block⟩
  have HwA := hide hwA
  have Hk := hide hk
  have HK := hide hKb
  unfold M.mth
  have hp3 := M.three_pos (s := s.data.toList) hp
  have hp1 := M.rd_pos (n := 2) hp
  have hp2 := M.rd_pos (n := 2) hp1
  obtain ⟨a1, st1, e1⟩ : ∃ a1 st1, M.rd s.data.toList 2 st = (a1, st1) := ⟨_, _, rfl⟩
  obtain ⟨a2, st2, e2⟩ : ∃ a2 st2, M.rd s.data.toList 2 st1 = (a2, st2) := ⟨_, _, rfl⟩
  obtain ⟨a3, st3, e3⟩ : ∃ a3 st3, M.rd s.data.toList 2 st2 = (a3, st3) := ⟨_, _, rfl⟩
  have e4 : M.three s.data.toList st = (a1, a2, a3, st3) := by unfold M.three; rw [e1]; simp only; rw [e2]; simp only; rw [e3]
  rw [e1] at hp1 hp2
  simp only at hp1 hp2
  rw [e2] at hp2
  rw [e4] at hp3 ⊢
  simp only at hp2 hp3 ⊢
  have HU1 := hide (fun W hW => unhide HU st W hW hp)
  have HU2 := hide (fun W hW => unhide HU st1 W hW hp1)
  have HU3 := hide (fun W hW => unhide HU st2 W hW hp2)
  rw [e1] at HU1
  rw [e2] at HU2
  rw [e3] at HU3
  simp only at HU1 HU2 HU3
  obtain ⟨rv, hrv⟩ : ∃ rv, rv = M.attsN s.data.toList P (M.once s.data.toList M.codeName (M.cval s.data.toList P)) (false, (false, Cd.zero)) st3 := ⟨_, rfl⟩
  rw [← hrv]
  have Hrv := hide hrv
  clear hwA h hk hKb e1 e2 e3 e4 HU hrv hzA
  go_enter Try.func74, Try.ntmps74
  go_upto_region 1 with fail
  rw [← unhide HwA]
  clear HwA
  go_cut [3] (fun p w' => ∃ bf, p = .pointer (some ⟨bf, 0, none⟩) ∧ Hid (Bk w' bf (mcells a1 a2 a3 (false, Cd.zero) (.slice none 0 0)) 101 ∧ w.heap.size + 2 ≤ bf ∧ Rd w' R pv s st3 ∧ w.grownBy w' (some R) ∧ Bk w' w.heap.size #[.pointer (some ⟨R, 0, none⟩)] 135 ∧ Bk w' (w.heap.size + 1) #[.int .u16 0, .int .u16 0, .int .u16 0, .bool false, .int .i64 0, .int .i64 0, .string ⟨#[]⟩, .slice none 0 0, .string ⟨#[]⟩] 101))
  case first =>
    go_region_held3 (fun w' => w'.cell? ⟨w.heap.size, 0, none⟩ = some (.pointer (some ⟨R, 0, none⟩))) (go_keep)
      ((go_at_call 57; first
        | (refine (unhide HU1 _ hrA.drew).mono ?_; rintro e w1 ⟨rfl, hr1, hg1⟩; have hb1 := Bk.kept (w := wA.drew) hbA hg1 (ne_some (by omega)); have k1 : w1.cell? ⟨w.heap.size, 0, none⟩ = some (.pointer (some ⟨R, 0, none⟩)) := hb1.cell 0; have hQ1 := Bk.kept (w := wA.drew) hQA hg1 (ne_some (by omega)); have hs1 : w.heap.size + 2 ≤ w1.heap.size := Nat.le_trans hsA hg1.size; have hna1 : ¬ w1.heap.size = w.heap.size := (by omega); have hnb1 : ¬ w.heap.size = w1.heap.size := (by omega))
        | (refine (unhide HU1 _ (Rd.kept hrA.drew (World.grownBy_alloc _ _ none) (by simp))).mono ?_; rintro e w1 ⟨rfl, hr1, hg1⟩; have hb1 := Bk.kept (w := (World.alloc wA.drew (.cells #[.int .u16 0, .int .u16 0, .int .u16 0, .bool false, .int .i64 0, .int .i64 0, .string ⟨#[]⟩, .slice none 0 0, .string ⟨#[]⟩] 101))) (Bk.alloc (w := wA.drew) hbA _) hg1 (ne_some (by omega)); have k1 : w1.cell? ⟨w.heap.size, 0, none⟩ = some (.pointer (some ⟨R, 0, none⟩)) := hb1.cell 0; have hQ1 := Bk.kept (w := (World.alloc wA.drew (.cells #[.int .u16 0, .int .u16 0, .int .u16 0, .bool false, .int .i64 0, .int .i64 0, .string ⟨#[]⟩, .slice none 0 0, .string ⟨#[]⟩] 101))) (Bk.alloc (w := wA.drew) hQA _) hg1 (ne_some (by omega)); have hs1 : w.heap.size + 2 ≤ w1.heap.size := Nat.le_trans (Nat.le_trans hsA (by simp)) hg1.size; have hna1 : ¬ w1.heap.size = w.heap.size := (by omega); have hnb1 : ¬ w.heap.size = w1.heap.size := (by omega); have hz1 : Bk w1 wA.heap.size #[.int .u16 0, .int .u16 0, .int .u16 0, .bool false, .int .i64 0, .int .i64 0, .string ⟨#[]⟩, .slice none 0 0, .string ⟨#[]⟩] 101 := Bk.kept (w := (World.alloc wA.drew (.cells #[.int .u16 0, .int .u16 0, .int .u16 0, .bool false, .int .i64 0, .int .i64 0, .string ⟨#[]⟩, .slice none 0 0, .string ⟨#[]⟩] 101))) (Bk.new _ _ _) hg1 (ne_some (by omega)))
        | (refine (unhide HU2 _ hr1).mono ?_; rintro e w2 ⟨rfl, hr2, hg2⟩; have hb2 := Bk.kept (w := w1) hb1 hg2 (ne_some (by omega)); have k2 : w2.cell? ⟨w.heap.size, 0, none⟩ = some (.pointer (some ⟨R, 0, none⟩)) := hb2.cell 0; have hQ2 := Bk.kept (w := w1) hQ1 hg2 (ne_some (by omega)); have hs2 : w.heap.size + 2 ≤ w2.heap.size := Nat.le_trans hs1 hg2.size; have hna2 : ¬ w2.heap.size = w.heap.size := (by omega); have hnb2 : ¬ w.heap.size = w2.heap.size := (by omega); have hz2 := Bk.kept (w := w1) hz1 hg2 (ne_some (by omega)))
        | (refine (unhide HU2 _ hr1).mono ?_; rintro e w2 ⟨rfl, hr2, hg2⟩; have hb2 := Bk.kept (w := w1) hb1 hg2 (ne_some (by omega)); have k2 : w2.cell? ⟨w.heap.size, 0, none⟩ = some (.pointer (some ⟨R, 0, none⟩)) := hb2.cell 0; have hQ2 := Bk.kept (w := w1) hQ1 hg2 (ne_some (by omega)); have hs2 : w.heap.size + 2 ≤ w2.heap.size := Nat.le_trans hs1 hg2.size; have hna2 : ¬ w2.heap.size = w.heap.size := (by omega); have hnb2 : ¬ w.heap.size = w2.heap.size := (by omega))
        | (refine (unhide HU2 _ (Rd.kept hr1 (World.grownBy_alloc _ _ none) (by simp))).mono ?_; rintro e w2 ⟨rfl, hr2, hg2⟩; have hb2 := Bk.kept (w := (World.alloc w1 (.cells #[.int .u16 0, .int .u16 0, .int .u16 0, .bool false, .int .i64 0, .int .i64 0, .string ⟨#[]⟩, .slice none 0 0, .string ⟨#[]⟩] 101))) (Bk.alloc hb1 _) hg2 (ne_some (by omega)); have k2 : w2.cell? ⟨w.heap.size, 0, none⟩ = some (.pointer (some ⟨R, 0, none⟩)) := hb2.cell 0; have hQ2 := Bk.kept (w := (World.alloc w1 (.cells #[.int .u16 0, .int .u16 0, .int .u16 0, .bool false, .int .i64 0, .int .i64 0, .string ⟨#[]⟩, .slice none 0 0, .string ⟨#[]⟩] 101))) (Bk.alloc hQ1 _) hg2 (ne_some (by omega)); have hs2 : w.heap.size + 2 ≤ w2.heap.size := Nat.le_trans (Nat.le_trans hs1 (by simp)) hg2.size; have hna2 : ¬ w2.heap.size = w.heap.size := (by omega); have hnb2 : ¬ w.heap.size = w2.heap.size := (by omega); have hz2 : Bk w2 w1.heap.size #[.int .u16 0, .int .u16 0, .int .u16 0, .bool false, .int .i64 0, .int .i64 0, .string ⟨#[]⟩, .slice none 0 0, .string ⟨#[]⟩] 101 := Bk.kept (w := (World.alloc w1 (.cells #[.int .u16 0, .int .u16 0, .int .u16 0, .bool false, .int .i64 0, .int .i64 0, .string ⟨#[]⟩, .slice none 0 0, .string ⟨#[]⟩] 101))) (Bk.new _ _ _) hg2 (ne_some (by omega)))
        | (refine (unhide HU3 _ hr2).mono ?_; rintro e w3 ⟨rfl, hr3, hg3⟩; have hb3 := Bk.kept (w := w2) hb2 hg3 (ne_some (by omega)); have k3 : w3.cell? ⟨w.heap.size, 0, none⟩ = some (.pointer (some ⟨R, 0, none⟩)) := hb3.cell 0; have hQ3 := Bk.kept (w := w2) hQ2 hg3 (ne_some (by omega)); have hs3 : w.heap.size + 2 ≤ w3.heap.size := Nat.le_trans hs2 hg3.size; have hna3 : ¬ w3.heap.size = w.heap.size := (by omega); have hnb3 : ¬ w.heap.size = w3.heap.size := (by omega); have hz3 := Bk.kept (w := w2) hz2 hg3 (ne_some (by omega)); have q0 := hz3.cell 0; have q1 := hz3.cell 1; have q2 := hz3.cell 2; have q3 := hz3.cell 3; have q4 := hz3.cell 4; have q5 := hz3.cell 5; have q6 := hz3.cell 6; have q7 := hz3.cell 7; have q8 := hz3.cell 8; have qf := hz3.frozen; simp at q0 q1 q2 q3 q4 q5 q6 q7 q8)
        | (refine (unhide HU3 _ hr2).mono ?_; rintro e w3 ⟨rfl, hr3, hg3⟩; have hb3 := Bk.kept (w := w2) hb2 hg3 (ne_some (by omega)); have k3 : w3.cell? ⟨w.heap.size, 0, none⟩ = some (.pointer (some ⟨R, 0, none⟩)) := hb3.cell 0; have hQ3 := Bk.kept (w := w2) hQ2 hg3 (ne_some (by omega)); have hs3 : w.heap.size + 2 ≤ w3.heap.size := Nat.le_trans hs2 hg3.size; have hna3 : ¬ w3.heap.size = w.heap.size := (by omega); have hnb3 : ¬ w.heap.size = w3.heap.size := (by omega))
        | (refine (unhide HU3 _ (Rd.kept hr2 (World.grownBy_alloc _ _ none) (by simp))).mono ?_; rintro e w3 ⟨rfl, hr3, hg3⟩; have hb3 := Bk.kept (w := (World.alloc w2 (.cells #[.int .u16 0, .int .u16 0, .int .u16 0, .bool false, .int .i64 0, .int .i64 0, .string ⟨#[]⟩, .slice none 0 0, .string ⟨#[]⟩] 101))) (Bk.alloc hb2 _) hg3 (ne_some (by omega)); have k3 : w3.cell? ⟨w.heap.size, 0, none⟩ = some (.pointer (some ⟨R, 0, none⟩)) := hb3.cell 0; have hQ3 := Bk.kept (w := (World.alloc w2 (.cells #[.int .u16 0, .int .u16 0, .int .u16 0, .bool false, .int .i64 0, .int .i64 0, .string ⟨#[]⟩, .slice none 0 0, .string ⟨#[]⟩] 101))) (Bk.alloc hQ2 _) hg3 (ne_some (by omega)); have hs3 : w.heap.size + 2 ≤ w3.heap.size := Nat.le_trans (Nat.le_trans hs2 (by simp)) hg3.size; have hna3 : ¬ w3.heap.size = w.heap.size := (by omega); have hnb3 : ¬ w.heap.size = w3.heap.size := (by omega); have hz3 : Bk w3 w2.heap.size #[.int .u16 0, .int .u16 0, .int .u16 0, .bool false, .int .i64 0, .int .i64 0, .string ⟨#[]⟩, .slice none 0 0, .string ⟨#[]⟩] 101 := Bk.kept (w := (World.alloc w2 (.cells #[.int .u16 0, .int .u16 0, .int .u16 0, .bool false, .int .i64 0, .int .i64 0, .string ⟨#[]⟩, .slice none 0 0, .string ⟨#[]⟩] 101))) (Bk.new _ _ _) hg3 (ne_some (by omega)); have q0 := hz3.cell 0; have q1 := hz3.cell 1; have q2 := hz3.cell 2; have q3 := hz3.cell 3; have q4 := hz3.cell 4; have q5 := hz3.cell 5; have q6 := hz3.cell 6; have q7 := hz3.cell 7; have q8 := hz3.cell 8; have qf := hz3.frozen; simp at q0 q1 q2 q3 q4 q5 q6 q7 q8)
        | fail))
    all_goals
      have hgw : w.grownBy w3 (some R) := by
        first
        | exact grown_trans (grown_trans (grown_trans hgD hg1) hg2) hg3
        | exact grown_trans (grown_trans (grown_trans (grown_alloc hgD _) hg1) hg2) hg3
        | exact grown_trans (grown_trans (grown_alloc (grown_trans hgD hg1) _) hg2) hg3
        | exact grown_trans (grown_alloc (grown_trans (grown_trans hgD hg1) hg2) _) hg3
        | fail
      go_wp2
      go_meet
      first
      | exact ⟨_, rfl, nine_set hRl hgw hr3 hz3 hb3 hQ3 (by omega) _ _ _ _ _ _ _ _ _ rfl⟩
      | exact ⟨_, rfl, four_new hRl hgw hr3 hb3 hQ3 hs3⟩
      | fail
  case rest =>
    obtain ⟨bf, rfl, H3⟩ := hcut
    obtain ⟨hz, hbf, hr3, hgw, hb, hQ⟩ := unhide H3
    have hK3 := (unhide Hk).kept hgw fun hne b o n c e => by have := (unhide HK) hne b o n c e; simpa using this.1
    have Hi3 : Hid (I0 w R pv s P (fun W (_ : Unit) => Bk W w.heap.size #[.pointer (some ⟨R, 0, none⟩)] 135 ∧ Bk W bf (mcells a1 a2 a3 (false, Cd.zero) (.slice none 0 0)) 101 ∧ Bk W (w.heap.size + 1) mzero 101) wc () st3) := ⟨hr3, hp3, hK3, ⟨hb, hz, hQ⟩, hgw⟩
    have k1 : wc.cell? ⟨w.heap.size, 0, none⟩ = some (.pointer (some ⟨R, 0, none⟩)) := hb.cell 0
    have HOn := hide (once_any R M.codeName (Fn.func 101) #[] #[.pointer (some ⟨w.heap.size, 0, none⟩), .pointer (some ⟨bf, 0, none⟩)] wc.drew)
    have hbl := hz.lt
    have hql := hQ.lt
    unfold M.codeName at HOn
    have hwz := hgw.size
    clear H3 hz hr3 hgw hb hQ hK3 HU1 HU2 HU3 hrA hbA hQA hgA hgD k0 hsA hnaA hnbA
    have HF := hide (fun (w4 : World) (b3 b4 b5 b6 b7 bn : Nat) (hoc : Oc w4 R b3 b4 b5 b6 b7 bn M.codeName false (.func (Fn.func 101) #[] #[.pointer (some ⟨w.heap.size, 0, none⟩), .pointer (some ⟨bf, 0, none⟩)])) (hb4 : Below wc.heap.size wc w4) (g3 : wc.heap.size ≤ b3) (g4 : wc.heap.size ≤ b4) (g5 : wc.heap.size ≤ b5) (g6 : wc.heap.size ≤ b6) (g7 : wc.heap.size ≤ b7) (gn : wc.heap.size ≤ bn) (m3 : b5 ≠ b3) (m4 : b5 ≠ b4) (m6 : b5 ≠ b6) (m7 : b5 ≠ b7) (mn : b5 ≠ bn) =>
      matts_any (W := w4) (st := st3) (a := a1) (b := a2) (c := a3) hs hP (w0 := w) (R := R) (bf := bf) ⟨hRl, by omega, by omega, by omega, by omega, by omega, by omega, m3, m4, m6, m7, mn, by omega, by omega, by omega, by omega, by omega, by omega⟩ (Nat.le_refl _) (by omega) (by omega) (by omega) (Nat.le_succ _) (by omega) (by omega) (unhide HK) (mth_start ((unhide Hi3).below hb4 fun h => ⟨h.1.below hb4, h.2.1.below hb4, h.2.2.below hb4⟩) hoc.h.lt) hoc)
    rw [← unhide Hrv] at HF
    go_upto_region 2 with fail
    go_cut [] (fun w' => ∃ b5, Hid (I0 w R pv s P (VM w R w.heap.size bf (w.heap.size + 1) b5 a1 a2 a3) w' rv.1.2 rv.2))
    case first =>
      go_region_held3 (fun w' => w'.cell? ⟨w.heap.size, 0, none⟩ = some (.pointer (some ⟨R, 0, none⟩))) (go_keep)
        ((first
          | (go_at_call 99; refine (unhide HOn).mono ?_; rintro e w4 ⟨b3, b4, b5, b6, b7, bn, rfl, hoc, hb4, g3, g4, g5, g6, g7, gn, m3, m4, m6, m7, mn⟩; have hb4' : Below wc.heap.size wc w4 := ⟨hb4.os, hb4.tape, hb4.output, hb4.size, hb4.block⟩; have k4 : w4.cell? ⟨w.heap.size, 0, none⟩ = some (.pointer (some ⟨R, 0, none⟩)) := ((unhide Hi3).val.1.below hb4').cell 0; have HFa := hide (unhide HF w4 b3 b4 b5 b6 b7 bn hoc hb4' g3 g4 g5 g6 g7 gn m3 m4 m6 m7 mn))
          | (go_at_call 75; refine (unhide HFa).mono ?_; rintro e w5 ⟨rfl, hi5⟩; obtain ⟨hv9, p1, p2, p3, p4, p5, p6⟩ := hi5.val; have k5 : w5.cell? ⟨w.heap.size, 0, none⟩ = some (.pointer (some ⟨R, 0, none⟩)) := p1.cell 0)
          | fail))
      all_goals
        have Hi5 := hide hi5
        clear HFa hoc hb4 hb4' hi5 p1 p2 p3 p4 p5 p6
        go_wp2
        go_meet
        exact ⟨_, Hi5⟩
    case rest =>
      clear Hi3 HF HOn k1
      obtain ⟨b5, H5⟩ := hcut
      have hi5 := unhide H5
      obtain ⟨hv, v1, v2, v3, v4, v5, v6⟩ := hi5.val
      obtain ⟨has, cd, hcd⟩ : ∃ (has : Bool) (cd : Cd), rv.1.2 = (has, cd) := ⟨_, _, rfl⟩
      rw [hcd] at v2 v4
      simp only at v4
      obtain ⟨va, vc, ev⟩ := own152_slice v4
      have q0 := v2.cell 0
      have q1 := v2.cell 1
      have q2 := v2.cell 2
      have q3 := v2.cell 3
      have q4 := v2.cell 4
      have q5 := v2.cell 5
      have q6 := v2.cell 6
      have q7 := v2.cell 7
      have q8 := v2.cell 8
      have z0 := v3.cell 0
      have z1 := v3.cell 1
      have z2 := v3.cell 2
      have z3 := v3.cell 3
      have z4 := v3.cell 4
      have z5 := v3.cell 5
      have z6 := v3.cell 6
      have z7 := v3.cell 7
      have z8 := v3.cell 8
      have zf := v3.frozen
      simp [mcells, mzero] at q0 q1 q2 q3 q4 q5 q6 q7 q8 z0 z1 z2 z3 z4 z5 z6 z7 z8
      have hgw := hi5.gr
      obtain ⟨wE, hwE⟩ : ∃ wE, wE = ((((((((wc.setCell ⟨w.heap.size + 1, 0, none⟩ (.int .u16 (a1 : Int))).setCell ⟨w.heap.size + 1, 1, none⟩ (.int .u16 (a2 : Int))).setCell ⟨w.heap.size + 1, 2, none⟩ (.int .u16 (a3 : Int))).setCell ⟨w.heap.size + 1, 3, none⟩ (.bool has)).setCell ⟨w.heap.size + 1, 4, none⟩ (.int .i64 (cd.stack : Int))).setCell ⟨w.heap.size + 1, 5, none⟩ (.int .i64 (cd.locals : Int))).setCell ⟨w.heap.size + 1, 6, none⟩ (.string ⟨cd.bytes.toArray⟩)).setCell ⟨w.heap.size + 1, 7, none⟩ hv).setCell ⟨w.heap.size + 1, 8, none⟩ (.string ⟨cd.map.toArray⟩) := ⟨_, rfl⟩
      have hg2 : wc.grownBy wE (some (w.heap.size + 1)) := by
        rw [hwE]; exact grown_trans (grown_trans (grown_trans (grown_trans (grown_trans (grown_trans (grown_trans (grown_trans (grown_set wc _ 0 _) (grown_set _ _ 1 _)) (grown_set _ _ 2 _)) (grown_set _ _ 3 _)) (grown_set _ _ 4 _)) (grown_set _ _ 5 _)) (grown_set _ _ 6 _)) (grown_set _ _ 7 _)) (grown_set _ _ 8 _)
      have HB : Hid (Bk wE (w.heap.size + 1) #[.int .u16 (a1 : Int), .int .u16 (a2 : Int), .int .u16 (a3 : Int), .bool has, .int .i64 (cd.stack : Int), .int .i64 (cd.locals : Int), .string ⟨cd.bytes.toArray⟩, hv, .string ⟨cd.map.toArray⟩] 101) := by
        refine hide ?_
        rw [hwE]
        have h := ((((((((v3.set 0 (.int .u16 (a1 : Int))).set 1 (.int .u16 (a2 : Int))).set 2 (.int .u16 (a3 : Int))).set 3 (.bool has)).set 4 (.int .i64 (cd.stack : Int))).set 5 (.int .i64 (cd.locals : Int))).set 6 (.string ⟨cd.bytes.toArray⟩)).set 7 hv).set 8 (.string ⟨cd.map.toArray⟩)
        simpa [mzero] using h
      have HE : Hid (Rd wE R pv s rv.2 ∧ w.grownBy wE (some R) ∧ KIn wE pv P ∧ wE.ownsRow w.heap.size 152 4 hv cd.handlers.length (HC cd.handlers)) :=
        ⟨hi5.rd.kept hg2 (ne_some (by omega)), ⟨hg2.os.trans hgw.os, hg2.tape.trans hgw.tape, hg2.output.trans hgw.output, Nat.le_trans hgw.size hg2.size, fun k hk hne => (hg2.block k (by have := hgw.size; omega) (ne_some (by omega))).trans (hgw.block k hk hne)⟩, hi5.pool.kept hg2 (off_ne (unhide HK)), ins_kept v4 hg2 (fun b e1 e2 => by cases e1; exact own_bk101 v4 e2 v3)⟩
      have hpe := hi5.pos
      have HwE := hide hwE
      have Hcd := hide hcd
      have Hev := hide ev
      subst ev
      clear hi5 v1 v2 v3 v4 v5 v6 H5 hwE hgw hg2 hcd
      go_wp2
      rw [← unhide HwE]
      obtain ⟨e2, e3, e4, e5⟩ := unhide HE
      refine bodyPost_ret (results_cell_row Try.results74 _ _ (w.heap.size + 1) 101 _ (0, 0) _ rfl (unhide HB) Try.underlying101 rfl (by kernel_rfl)) rfl ?_
      rw [unhide Hcd]
      exact ⟨_, rfl, e5, e2, e4, e3, hpe⟩
end Go.Proofs.Ytbgpkkbejbidlac.Cl
