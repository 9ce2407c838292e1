/-
  Package class: what is in a map's attribute, and the attributes of code.
  Package class: code.
-/
import Derived.Test.YtbgpkkbejbidlacCg
namespace Go.Proofs.Ytbgpkkbejbidlac.Cl
open Go.RowKit
/-- Code that is being read: its cells, all but the map; a list of handlers that lies behind a world, apart from them. -/
def VC (w0 : World) (R b1 bf br : Nat) (a b : Nat) (bs : List UInt8) (hv : Value) (hl : List Hn) (W : World) (v : List UInt8) : Prop :=
  Bk W b1 #[.pointer (some ⟨R, 0, none⟩)] 135 ∧ Bk W bf #[.int .i64 (a : Int), .int .i64 (b : Int), .string ⟨bs.toArray⟩, hv, .string ⟨v.toArray⟩] 99 ∧ Bk W br #[.int .i64 0, .int .i64 0, .string ⟨#[]⟩, .slice none 0 0, .string ⟨#[]⟩] 99 ∧ W.ownsRow w0.heap.size 152 4 hv hl.length (HC hl) ∧ (∀ g, hv.ownBlock = some g → g ≠ bf)
set_option maxRecDepth 100000 in
theorem code1_any {w0 : World} {R b1 bf br : Nat} {pv : Value} {s : ByteArray} {P : List K} {a b : Nat} {bs : List UInt8} {hv : Value} {hl : List Hn} (hs : s.size ≤ 131072) (hR : R < w0.heap.size) (h1 : w0.heap.size ≤ b1) (hf : w0.heap.size ≤ bf) (h1f : b1 ≠ bf) (hrg : w0.heap.size ≤ br) (hrf : br ≠ bf) (hKb : Off w0 R pv P) (W : World) (v : List UInt8) (st : St) (n : Nat) (hn : n < 4294967296) (h : I0 w0 R pv s P (VC w0 R b1 bf br a b bs hv hl) W v st) :
    Calls Try.prog 120 #[.int .i64 (n : Int), .pointer (some ⟨b1, 0, none⟩), .pointer (some ⟨bf, 0, none⟩)] W fun e W' => e = .returned (.tuple #[]) ∧ I0 w0 R pv s P (VC w0 R b1 bf br a b bs hv hl) W' (M.mval s.data.toList v n st).1 (M.mval s.data.toList v n st).2 ∧ ∀ b cs t, b ≠ R → b ≠ bf → b < W.heap.size → Bk W b cs t → Bk W' b cs t := by
  have H := hide h
  have HU := hide (T_any R pv s st n W h.rd hs hn h.pos)
  have k1 : W.cell? ⟨b1, 0, none⟩ = some (.pointer (some ⟨R, 0, none⟩)) := h.val.1.cell 0
  have hp2 := M.take_pos (s := s.data.toList) (n := n) h.pos
  unfold M.mval
  obtain ⟨x, st1, hx⟩ : ∃ x st1, M.take s.data.toList n st = (x, st1) := ⟨_, _, rfl⟩
  rw [hx] at HU hp2 ⊢
  simp only at HU hp2 ⊢
  have HK := hide hKb
  clear h hx hKb
  go_enter Try.func120, Try.ntmps120
  go_wp2_with fail
  refine (unhide HU).mono ?_
  rintro e w1 ⟨rfl, hr1, hg1⟩
  have v1 := (unhide H).val.1.kept hg1 (by simp; omega)
  have v2 := (unhide H).val.2.1.kept hg1 (by simp; omega)
  have v3 := (unhide H).val.2.2.1.kept hg1 (by simp; omega)
  have v4 := ins_kept (unhide H).val.2.2.2.1 hg1 (fun b e1 e2 => by cases e1; have := (ins_in (unhide H).val.2.2.2.1 e2).1; omega)
  have v5 := (unhide H).val.2.2.2.2
  have q3 : w1.cell? ⟨bf, 4, none⟩ = some (.string ⟨v.toArray⟩) := v2.cell 4
  have qf := v2.frozen 4
  have hK1 := (unhide H).pool.kept hg1 fun hne b o n c e => by have := (unhide HK) hne b o n c e; simpa using this.1
  have HI : Hid (I0 w0 R pv s P (VC w0 R b1 bf br a b bs hv hl) (w1.setCell ⟨bf, 4, none⟩ (.string ⟨x.toArray⟩)) x st1) := by
    refine ⟨hr1.other 4 _ (by omega), hp2, hK1.kept (grown_set w1 bf 4 _) fun hne b o n c e => by have := ((unhide HK) hne b o n c e).2; simp; omega, ⟨v1.other 4 _ h1f, v2.set 4 _, v3.other 4 _ hrf, ins_kept v4 (grown_set w1 bf 4 _) (fun b e1 e2 => by cases e1; exact v5 _ e2 rfl), v5⟩, grown_new (grown_trans (unhide H).gr hg1) hf 4 _⟩
  have HK2 : Hid (∀ b cs t, b ≠ R → b ≠ bf → b < W.heap.size → Bk W b cs t → Bk (w1.setCell ⟨bf, 4, none⟩ (.string ⟨x.toArray⟩)) b cs t) := fun b cs t hb1 hb2 _ hb => (hb.kept hg1 (by simpa using hb1)).other 4 _ hb2
  clear HU hr1 hg1 v1 v2 v3 v4 v5 k1 hK1
  go_wp2
  go_end0
  exact ⟨rfl, unhide HI, unhide HK2⟩
theorem catts_any {w0 W : World} {R b1 bf br b3 b4 b5 b6 b7 bn : Nat} {pv : Value} {s : ByteArray} {P : List K} {a b : Nat} {bs : List UInt8} {hv : Value} {hl : List Hn} {st : St} (hs : s.size ≤ 131072) (hP : P.length ≤ 1048576) (hb : Apart w0 R b3 b4 b5 b6 b7 bn bf) (h1 : w0.heap.size ≤ b1) (hf : w0.heap.size ≤ bf) (h1f : b1 ≠ bf) (h15 : b1 ≠ b5) (hrg : w0.heap.size ≤ br) (hrf : br ≠ bf) (hr5 : br ≠ b5) (hh5 : ∀ g, hv.ownBlock = some g → g ≠ b5) (hKb : Off w0 R pv P)
    (hi : I0 w0 R pv s P (VC w0 R b1 bf br a b bs hv hl) W [] st) (hoc : Oc W R b3 b4 b5 b6 b7 bn M.mapName false (.func (Fn.func 120) #[] #[.pointer (some ⟨b1, 0, none⟩), .pointer (some ⟨bf, 0, none⟩)])) :
    Calls Try.prog 75 #[.pointer (some ⟨R, 0, none⟩), .func (Fn.func 117) #[] #[.pointer (some ⟨b3, 0, none⟩), .pointer (some ⟨b4, 0, none⟩), .pointer (some ⟨b5, 0, none⟩), .pointer (some ⟨b6, 0, none⟩), .pointer (some ⟨b7, 0, none⟩)]] W fun e w' => e = .returned (.tuple #[]) ∧
      I0 w0 R pv s P (VC w0 R b1 bf br a b bs hv hl) w' (M.attsN s.data.toList P (M.once s.data.toList M.mapName (M.mval s.data.toList)) (false, []) st).1.2 (M.attsN s.data.toList P (M.once s.data.toList M.mapName (M.mval s.data.toList)) (false, []) st).2 := by
  have hV : ∀ W W' v row, row = some R ∨ row = some b5 → W.grownBy W' row → VC w0 R b1 bf br a b bs hv hl W v → VC w0 R b1 bf br a b bs hv hl W' v := by
    intro W W' v row hr hg hv
    have hR := hb.r
    rcases hr with rfl | rfl
    · exact ⟨hv.1.kept hg (ne_some (by omega)), hv.2.1.kept hg (ne_some (by omega)), hv.2.2.1.kept hg (ne_some (by omega)), ins_kept hv.2.2.2.1 hg (fun b e1 e2 => by cases e1; have := (ins_in hv.2.2.2.1 e2).1; omega), hv.2.2.2.2⟩
    · exact ⟨hv.1.kept hg (ne_some h15), hv.2.1.kept hg (ne_some hb.f5), hv.2.2.1.kept hg (ne_some hr5), ins_kept hv.2.2.2.1 hg (fun b e1 e2 => by cases e1; exact hh5 _ e2 rfl), hv.2.2.2.2⟩
  refine (attributes_any _ _ _ _ _ R pv s P (M.once s.data.toList M.mapName (M.mval s.data.toList)) (I1 w0 R b3 b4 b5 b6 b7 bn pv s P (VC w0 R b1 bf br a b bs hv hl) M.mapName (.func (Fn.func 120) #[] #[.pointer (some ⟨b1, 0, none⟩), .pointer (some ⟨bf, 0, none⟩)])) hs hP (fun _ _ _ h => h.i0.rd) (fun _ _ _ h => h.i0.pool) (fun _ _ _ h => h.i0.pos) (fun _ _ _ _ _ h hg hr hp => h.reader hb hKb hV hg hr hp) ?_ (false, []) st W ⟨hi, hoc⟩).mono fun e w' h => ⟨h.1, h.2.i0⟩
  intro W x st a n name h hn _
  exact once_code hs hb hKb hV (fun W v st n hn h => code1_any hs hb.r h1 hf h1f hrg hrf hKb W v st n hn h) W x st a n name h hn
end Go.Proofs.Ytbgpkkbejbidlac.Cl
namespace Go.Proofs.Ytbgpkkbejbidlac.Cl
open Go.RowKit
theorem five_set {w w3 : World} {R g : Nat} {pv : Value} {s : ByteArray} {st : St} {a b c d f : Value} {t : TypeId} {x1 x2 : Array Value} {t1 t2 : TypeId} (hR : R < w.heap.size) (hgw : w.grownBy w3 (some R)) (hr : Rd w3 R pv s st) (hz : Bk w3 g #[a, b, c, d, f] t) (hb : Bk w3 w.heap.size x1 t1) (hQ : Bk w3 (w.heap.size + 1) x2 t2) (hg : w.heap.size + 2 ≤ g) (x y z u v : Value) {W : World} (hW : W = ((((w3.setCell ⟨g, 0, none⟩ x).setCell ⟨g, 1, none⟩ y).setCell ⟨g, 2, none⟩ z).setCell ⟨g, 3, none⟩ u).setCell ⟨g, 4, none⟩ v) :
    Bk W g #[x, y, z, u, v] t ∧ w.heap.size + 2 ≤ g ∧ Rd W R pv s st ∧ w.grownBy W (some R) ∧ Bk W w.heap.size x1 t1 ∧ Bk W (w.heap.size + 1) x2 t2 := by
  subst hW
  have n0 : R ≠ g := by omega
  have n1 : w.heap.size ≠ g := by omega
  have n2 : w.heap.size + 1 ≠ g := by omega
  have n3 : w.heap.size ≤ g := by omega
  exact ⟨((((hz.set 0 x).set 1 y).set 2 z).set 3 u).set 4 v, hg, ((((hr.other 0 x n0).other 1 y n0).other 2 z n0).other 3 u n0).other 4 v n0, grown_new (grown_new (grown_new (grown_new (grown_new hgw n3 0 x) n3 1 y) n3 2 z) n3 3 u) n3 4 v, ((((hb.other 0 x n1).other 1 y n1).other 2 z n1).other 3 u n1).other 4 v n1, ((((hQ.other 0 x n2).other 1 y n2).other 2 z n2).other 3 u n2).other 4 v n2⟩
theorem M.cod_parts (s : List UInt8) (P : List K) (st : St) {a b n : Nat} {st1 st2 st3 st4 st5 : St} {t : List UInt8} {h : List Hn} (e1 : M.rd s 2 st = (a, st1)) (e2 : M.rd s 2 st1 = (b, st2)) (e3 : M.rd s 4 st2 = (n, st3)) (e4 : M.take s n st3 = (t, st4)) (e5 : M.lst s (M.hnd s) st4 = (h, st5)) :
    M.cod s P st = (⟨a, b, t, h, (M.attsN s P (M.once s M.mapName (M.mval s)) (false, []) st5).1.2⟩, (M.attsN s P (M.once s M.mapName (M.mval s)) (false, []) st5).2) := by
  unfold M.cod
  simp only [e1, e2, e3, e4, e5]
theorem own_bk {w : World} {B n g : Nat} {v : Value} {xs : List Value} {cs : Array Value} (h : w.ownsRow B 152 4 v n xs) (e : v.ownBlock = some g) (hb : Bk w g cs 99) : False := by
  rcases h.2 with ⟨rfl, h0⟩ | ⟨g', cap, cur, rfl, h1, h2, _⟩
  · cases e
  · have : g' = g := by simpa [Value.ownBlock] using e
    subst this
    unfold Bk at hb
    rw [h2] at hb
    simp at hb
/-- What a call of code leaves. -/
def CodR (R : Nat) (pv : Value) (s : ByteArray) (P : List K) (c : Cd) (st' : St) (w : World) (x : Ending) (w' : World) : Prop :=
  ∃ hv, x = .returned (.agg #[.int .i64 (c.stack : Int), .int .i64 (c.locals : Int), .string ⟨c.bytes.toArray⟩, hv, .string ⟨c.map.toArray⟩]) ∧ w'.ownsRow w.heap.size 152 4 hv c.handlers.length (HC c.handlers) ∧ Rd w' R pv s st' ∧ KIn w' pv P ∧ w.grownBy w' (some R) ∧ st'.pos ≤ s.data.toList.length
set_option maxRecDepth 100000 in
set_option maxHeartbeats 2000000 in
theorem code_any (R : Nat) (pv : Value) (s : ByteArray) (P : List K) (st : St) (w : World) (h : Rd w R pv s st) (hs : s.size ≤ 131072) (hP : P.length ≤ 1048576) (hp : st.pos ≤ s.data.toList.length) (hk : KIn w pv P) (hKb : Off w R pv P) :
    Calls Try.prog 102 #[.pointer (some ⟨R, 0, none⟩)] w fun x w' => CodR R pv s P (M.cod s.data.toList P st).1 (M.cod s.data.toList P st).2 w x w' := by
  have hRl := h.lt
  obtain ⟨wA, hwA⟩ : ∃ wA, wA = (w.alloc (.cells #[.pointer (some ⟨R, 0, none⟩)] 135)).alloc (.cells #[.int .i64 0, .int .i64 0, .string ⟨#[]⟩, .slice none 0 0, .string ⟨#[]⟩] 99) := ⟨_, rfl⟩
  have hgA : w.grownBy wA (some R) := by rw [hwA]; exact grown_alloc (World.grownBy_alloc w _ _) _
  have hbA : Bk wA w.heap.size #[.pointer (some ⟨R, 0, none⟩)] 135 := by rw [hwA]; exact (Bk.new _ _ _).alloc _
  have hQA : Bk wA (w.heap.size + 1) #[.int .i64 0, .int .i64 0, .string ⟨#[]⟩, .slice none 0 0, .string ⟨#[]⟩] 99 := by
    rw [hwA]; have := Bk.new (w.alloc (.cells #[.pointer (some ⟨R, 0, none⟩)] 135)) #[.int .i64 0, .int .i64 0, .string ⟨#[]⟩, .slice none 0 0, .string ⟨#[]⟩] 99; simpa using this
  have hrA : Rd wA R pv s st := by rw [hwA]; exact (h.kept (World.grownBy_alloc w _ none) (by simp)).kept (World.grownBy_alloc _ _ none) (by simp)
  have hzA : wA.heap.size = w.heap.size + 2 := by rw [hwA]; simp
  have k0 : wA.cell? ⟨w.heap.size, 0, none⟩ = some (.pointer (some ⟨R, 0, none⟩)) := hbA.cell 0
  have hsA : w.heap.size + 2 ≤ wA.heap.size := by omega
  have hnaA : ¬ wA.heap.size = w.heap.size := by omega
  have hnbA : ¬ w.heap.size = wA.heap.size := by omega
  have hgD : w.grownBy wA.drew (some R) := ⟨hgA.os, hgA.tape, hgA.output, hgA.size, hgA.block⟩
  have HwA := hide hwA
  have Hk := hide hk
  have HK := hide hKb
  have hp1 := M.rd_pos (n := 2) hp
  have c1 := M.rd2 s.data.toList st
  have HU1 := hide (fun W hW => U16_any R pv s st W hW hs hp)
  obtain ⟨a1, st1, e1⟩ : ∃ a1 st1, M.rd s.data.toList 2 st = (a1, st1) := ⟨_, _, rfl⟩
  rw [e1] at hp1 c1 HU1
  simp only at hp1 c1 HU1
  have hp2 := M.rd_pos (n := 2) hp1
  have c2 := M.rd2 s.data.toList st1
  have HU2 := hide (fun W hW => U16_any R pv s st1 W hW hs hp1)
  obtain ⟨a2, st2, e2⟩ : ∃ a2 st2, M.rd s.data.toList 2 st1 = (a2, st2) := ⟨_, _, rfl⟩
  rw [e2] at hp2 c2 HU2
  simp only at hp2 c2 HU2
  have hp3 := M.rd_pos (n := 4) hp2
  have c3 := M.rd4 s.data.toList st2
  have HU3 := hide (fun W hW => N4_any R pv s st2 W hW hs hp2)
  obtain ⟨n, st3, e3⟩ : ∃ n st3, M.rd s.data.toList 4 st2 = (n, st3) := ⟨_, _, rfl⟩
  rw [e3] at hp3 c3 HU3
  simp only at hp3 c3 HU3
  have hp4 := M.take_pos (s := s.data.toList) (n := n) hp3
  have HU4 := hide (fun W hW => T_any R pv s st3 n W hW hs c3 hp3)
  obtain ⟨t, st4, e4⟩ : ∃ t st4, M.take s.data.toList n st3 = (t, st4) := ⟨_, _, rfl⟩
  rw [e4] at hp4 HU4
  simp only at hp4 HU4
  have HU5 := hide (fun W hW => handlers_any R pv s st4 W hW hs hp4)
  have hp5 : (M.lst s.data.toList (M.hnd s.data.toList) st4).2.pos ≤ s.data.toList.length := M.reps_pos (fun st h => M.hnd_pos h) (M.rd_pos (n := 2) hp4)
  obtain ⟨hl, st5, e5⟩ : ∃ hl st5, M.lst s.data.toList (M.hnd s.data.toList) st4 = (hl, st5) := ⟨_, _, rfl⟩
  rw [e5] at hp5 HU5
  simp only at hp5 HU5
  rw [M.cod_parts s.data.toList P st e1 e2 e3 e4 e5]
  obtain ⟨rv, hrv⟩ : ∃ rv, rv = M.attsN s.data.toList P (M.once s.data.toList M.mapName (M.mval s.data.toList)) (false, []) st5 := ⟨_, rfl⟩
  rw [← hrv]
  have Hrv := hide hrv
  have d1 := wrapi c1
  have d2 := wrapi c2
  have d3 := wrapu c3
  clear hwA h hk hKb e1 e2 e3 e4 e5 hrv hzA
  go_enter Try.func102, Try.ntmps102
  go_upto_region 1 with fail
  rw [← unhide HwA]
  clear HwA
  go_cut [3] (fun p w' => ∃ bf, p = .pointer (some ⟨bf, 0, none⟩) ∧ Hid (Bk w' bf #[.int .i64 (a1 : Int), .int .i64 (a2 : Int), .string ⟨#[]⟩, .slice none 0 0, .string ⟨#[]⟩] 99 ∧ w.heap.size + 2 ≤ bf ∧ Rd w' R pv s st2 ∧ w.grownBy w' (some R) ∧ Bk w' w.heap.size #[.pointer (some ⟨R, 0, none⟩)] 135 ∧ Bk w' (w.heap.size + 1) #[.int .i64 0, .int .i64 0, .string ⟨#[]⟩, .slice none 0 0, .string ⟨#[]⟩] 99))
  case first =>
    go_region_held3 (fun w' => w'.cell? ⟨w.heap.size, 0, none⟩ = some (.pointer (some ⟨R, 0, none⟩))) (go_keep)
      ((go_at_call 57; first
        | (refine (unhide HU1 _ hrA.drew).mono ?_; rintro e w1 ⟨rfl, hr1, hg1⟩; have hb1 := Bk.kept (w := wA.drew) hbA hg1 (ne_some (by omega)); have k1 : w1.cell? ⟨w.heap.size, 0, none⟩ = some (.pointer (some ⟨R, 0, none⟩)) := hb1.cell 0; have hQ1 := Bk.kept (w := wA.drew) hQA hg1 (ne_some (by omega)); have hs1 : w.heap.size + 2 ≤ w1.heap.size := Nat.le_trans hsA hg1.size; have hna1 : ¬ w1.heap.size = w.heap.size := (by omega); have hnb1 : ¬ w.heap.size = w1.heap.size := (by omega))
        | (refine (unhide HU1 _ (Rd.kept hrA.drew (World.grownBy_alloc _ _ none) (by simp))).mono ?_; rintro e w1 ⟨rfl, hr1, hg1⟩; have hb1 := Bk.kept (w := (World.alloc wA.drew (.cells #[.int .i64 0, .int .i64 0, .string ⟨#[]⟩, .slice none 0 0, .string ⟨#[]⟩] 99))) (Bk.alloc (w := wA.drew) hbA _) hg1 (ne_some (by omega)); have k1 : w1.cell? ⟨w.heap.size, 0, none⟩ = some (.pointer (some ⟨R, 0, none⟩)) := hb1.cell 0; have hQ1 := Bk.kept (w := (World.alloc wA.drew (.cells #[.int .i64 0, .int .i64 0, .string ⟨#[]⟩, .slice none 0 0, .string ⟨#[]⟩] 99))) (Bk.alloc (w := wA.drew) hQA _) hg1 (ne_some (by omega)); have hs1 : w.heap.size + 2 ≤ w1.heap.size := Nat.le_trans (Nat.le_trans hsA (by simp)) hg1.size; have hna1 : ¬ w1.heap.size = w.heap.size := (by omega); have hnb1 : ¬ w.heap.size = w1.heap.size := (by omega); have hz1 : Bk w1 wA.heap.size #[.int .i64 0, .int .i64 0, .string ⟨#[]⟩, .slice none 0 0, .string ⟨#[]⟩] 99 := Bk.kept (w := (World.alloc wA.drew (.cells #[.int .i64 0, .int .i64 0, .string ⟨#[]⟩, .slice none 0 0, .string ⟨#[]⟩] 99))) (Bk.new _ _ _) hg1 (ne_some (by omega)))
        | (refine (unhide HU2 _ hr1).mono ?_; rintro e w2 ⟨rfl, hr2, hg2⟩; have hb2 := Bk.kept (w := w1) hb1 hg2 (ne_some (by omega)); have k2 : w2.cell? ⟨w.heap.size, 0, none⟩ = some (.pointer (some ⟨R, 0, none⟩)) := hb2.cell 0; have hQ2 := Bk.kept (w := w1) hQ1 hg2 (ne_some (by omega)); have hs2 : w.heap.size + 2 ≤ w2.heap.size := Nat.le_trans hs1 hg2.size; have hna2 : ¬ w2.heap.size = w.heap.size := (by omega); have hnb2 : ¬ w.heap.size = w2.heap.size := (by omega); have hz2 := Bk.kept (w := w1) hz1 hg2 (ne_some (by omega)); have q0 := hz2.cell 0; have q1 := hz2.cell 1; have q2 := hz2.cell 2; have q3 := hz2.cell 3; have q4 := hz2.cell 4; have qf := hz2.frozen; simp at q0 q1 q2 q3 q4)
        | (refine (unhide HU2 _ hr1).mono ?_; rintro e w2 ⟨rfl, hr2, hg2⟩; have hb2 := Bk.kept (w := w1) hb1 hg2 (ne_some (by omega)); have k2 : w2.cell? ⟨w.heap.size, 0, none⟩ = some (.pointer (some ⟨R, 0, none⟩)) := hb2.cell 0; have hQ2 := Bk.kept (w := w1) hQ1 hg2 (ne_some (by omega)); have hs2 : w.heap.size + 2 ≤ w2.heap.size := Nat.le_trans hs1 hg2.size; have hna2 : ¬ w2.heap.size = w.heap.size := (by omega); have hnb2 : ¬ w.heap.size = w2.heap.size := (by omega))
        | (refine (unhide HU2 _ (Rd.kept hr1 (World.grownBy_alloc _ _ none) (by simp))).mono ?_; rintro e w2 ⟨rfl, hr2, hg2⟩; have hb2 := Bk.kept (w := (World.alloc w1 (.cells #[.int .i64 0, .int .i64 0, .string ⟨#[]⟩, .slice none 0 0, .string ⟨#[]⟩] 99))) (Bk.alloc hb1 _) hg2 (ne_some (by omega)); have k2 : w2.cell? ⟨w.heap.size, 0, none⟩ = some (.pointer (some ⟨R, 0, none⟩)) := hb2.cell 0; have hQ2 := Bk.kept (w := (World.alloc w1 (.cells #[.int .i64 0, .int .i64 0, .string ⟨#[]⟩, .slice none 0 0, .string ⟨#[]⟩] 99))) (Bk.alloc hQ1 _) hg2 (ne_some (by omega)); have hs2 : w.heap.size + 2 ≤ w2.heap.size := Nat.le_trans (Nat.le_trans hs1 (by simp)) hg2.size; have hna2 : ¬ w2.heap.size = w.heap.size := (by omega); have hnb2 : ¬ w.heap.size = w2.heap.size := (by omega); have hz2 : Bk w2 w1.heap.size #[.int .i64 0, .int .i64 0, .string ⟨#[]⟩, .slice none 0 0, .string ⟨#[]⟩] 99 := Bk.kept (w := (World.alloc w1 (.cells #[.int .i64 0, .int .i64 0, .string ⟨#[]⟩, .slice none 0 0, .string ⟨#[]⟩] 99))) (Bk.new _ _ _) hg2 (ne_some (by omega)); have q0 := hz2.cell 0; have q1 := hz2.cell 1; have q2 := hz2.cell 2; have q3 := hz2.cell 3; have q4 := hz2.cell 4; have qf := hz2.frozen; simp at q0 q1 q2 q3 q4)
        | fail))
    all_goals
      have hgw : w.grownBy w2 (some R) := by
        first
        | exact grown_trans (grown_trans hgD hg1) hg2
        | exact grown_trans (grown_trans (grown_alloc hgD _) hg1) hg2
        | exact grown_trans (grown_alloc (grown_trans hgD hg1) _) hg2
        | fail
      go_wp2
      go_meet
      first
      | exact ⟨_, rfl, five_set hRl hgw hr2 hz2 hb2 hQ2 (by omega) _ _ _ _ _ rfl⟩
      | exact ⟨_, rfl, four_new hRl hgw hr2 hb2 hQ2 hs2⟩
      | fail
  case rest =>
    obtain ⟨bf, rfl, H3⟩ := hcut
    obtain ⟨hz, hbf, hr3, hgw, hb, hQ⟩ := unhide H3
    clear H3 HU1 HU2 hrA hbA hQA hgA hgD k0 hsA hnaA hnbA
    have k1 : wc.cell? ⟨w.heap.size, 0, none⟩ = some (.pointer (some ⟨R, 0, none⟩)) := hb.cell 0
    have nb1 : ¬ bf = w.heap.size := by omega
    have nb2 : ¬ w.heap.size = bf := by omega
    go_upto_region 2 with fail
    go_cut [] (fun w' => Hid (Bk w' bf #[.int .i64 (a1 : Int), .int .i64 (a2 : Int), .string ⟨t.toArray⟩, .slice none 0 0, .string ⟨#[]⟩] 99 ∧ Rd w' R pv s st4 ∧ w.grownBy w' (some R) ∧ Bk w' w.heap.size #[.pointer (some ⟨R, 0, none⟩)] 135 ∧ Bk w' (w.heap.size + 1) #[.int .i64 0, .int .i64 0, .string ⟨#[]⟩, .slice none 0 0, .string ⟨#[]⟩] 99))
    case first =>
      go_region_held3 (fun w' => w'.cell? ⟨w.heap.size, 0, none⟩ = some (.pointer (some ⟨R, 0, none⟩))) (go_keep)
        ((first
          | (go_at_call 67; refine (unhide HU3 _ hr3.drew).mono ?_; rintro e w1 ⟨rfl, hr1, hg1⟩; have hb1 := Bk.kept (w := wc.drew) hb hg1 (ne_some (by omega)); have hz1 := Bk.kept (w := wc.drew) hz hg1 (ne_some (by omega)); have hQ1 := Bk.kept (w := wc.drew) hQ hg1 (ne_some (by omega)); have k2 : w1.cell? ⟨w.heap.size, 0, none⟩ = some (.pointer (some ⟨R, 0, none⟩)) := hb1.cell 0)
          | (go_at_call 96; refine (unhide HU4 _ hr1).mono ?_; rintro e w2 ⟨rfl, hr2, hg2⟩; have hb2 := hb1.kept hg2 (ne_some (by omega)); have hz2 := hz1.kept hg2 (ne_some (by omega)); have hQ2 := hQ1.kept hg2 (ne_some (by omega)); have k3 : w2.cell? ⟨w.heap.size, 0, none⟩ = some (.pointer (some ⟨R, 0, none⟩)) := hb2.cell 0; have q2 := hz2.cell 2; have qf := hz2.frozen 2; simp at q2)
          | fail))
      all_goals
        have hgD : w.grownBy wc.drew (some R) := ⟨hgw.os, hgw.tape, hgw.output, hgw.size, hgw.block⟩
        have hgw2 := grown_trans (grown_trans hgD hg1) hg2
        go_wp2
        go_meet
        exact ⟨hz2.set 2 _, hr2.other 2 _ (by omega), grown_new hgw2 (by omega) 2 _, hb2.other 2 _ (by omega), hQ2.other 2 _ (by omega)⟩
    case rest =>
      clear hz hr3 hgw hb hQ HU3 HU4 k1
      obtain ⟨hz, hr3, hgw, hb, hQ⟩ := unhide hcut
      have k1 : wc.cell? ⟨w.heap.size, 0, none⟩ = some (.pointer (some ⟨R, 0, none⟩)) := hb.cell 0
      have HL := hide (unhide HU5 wc hr3)
      have hbl := hz.lt
      have hwz := hgw.size
      clear HU5 hcut hr3
      go_wp2_with fail
      refine (unhide HL).mono ?_
      rintro e w5 ⟨hv, rfl, ho5, hr5, hg5⟩
      obtain ⟨va, vc, ev⟩ := own152_slice ho5
      have hb5 := hb.kept hg5 (ne_some (by omega))
      have hz5 := hz.kept hg5 (ne_some (by omega))
      have hQ5 := hQ.kept hg5 (ne_some (by omega))
      have hgw5 := grown_trans hgw hg5
      have hin : ∀ g, hv.ownBlock = some g → wc.heap.size ≤ g := fun g e => (ins_in ho5 e).1
      obtain ⟨w6, hw6⟩ : ∃ w6, w6 = w5.setCell ⟨bf, 3, none⟩ hv := ⟨_, rfl⟩
      have hz6 : Bk w6 bf #[.int .i64 (a1 : Int), .int .i64 (a2 : Int), .string ⟨t.toArray⟩, hv, .string ⟨#[]⟩] 99 := by rw [hw6]; exact hz5.set 3 hv
      have hb6 : Bk w6 w.heap.size #[.pointer (some ⟨R, 0, none⟩)] 135 := by rw [hw6]; exact hb5.other 3 _ (by omega)
      have hQ6 : Bk w6 (w.heap.size + 1) #[.int .i64 0, .int .i64 0, .string ⟨#[]⟩, .slice none 0 0, .string ⟨#[]⟩] 99 := by rw [hw6]; exact hQ5.other 3 _ (by omega)
      have hr6 : Rd w6 R pv s st5 := by rw [hw6]; exact hr5.other 3 _ (by omega)
      have hgw6 : w.grownBy w6 (some R) := by rw [hw6]; exact grown_new hgw5 (by omega) 3 _
      have ho6 : w6.ownsRow w.heap.size 152 4 hv hl.length (HC hl) := by rw [hw6]; exact own_mono (ins_kept ho5 (grown_set w5 bf 3 hv) (fun b e1 e2 => by cases e1; have := hin _ e2; omega)) hwz
      have hK6 := (unhide Hk).kept hgw6 fun hne b o n c e => by have := (unhide HK) hne b o n c e; simpa using this.1
      have Hi3 : Hid (I0 w R pv s P (VC w R w.heap.size bf (w.heap.size + 1) a1 a2 t hv hl) w6 [] st5) := ⟨hr6, hp5, hK6, ⟨hb6, hz6, hQ6, ho6, fun g e => by have := hin g e; omega⟩, hgw6⟩
      have q3 := hz5.cell 3
      have qf := hz5.frozen 3
      simp at q3
      have hbl6 := hz6.lt
      have hql6 := hQ6.lt
      have hol6 : ∀ g, hv.ownBlock = some g → g < w6.heap.size := fun g e => (ins_in ho6 e).2
      have k6 : w6.cell? ⟨w.heap.size, 0, none⟩ = some (.pointer (some ⟨R, 0, none⟩)) := hb6.cell 0
      have HOn := hide (once_any R M.mapName (Fn.func 120) #[] #[.pointer (some ⟨w.heap.size, 0, none⟩), .pointer (some ⟨bf, 0, none⟩)] w6.drew)
      unfold M.mapName at HOn
      have hwz6 := hgw6.size
      have Hw6 := hide hw6
      have HF := hide (fun (w4 : World) (b3 b4 b5 b6 b7 bn : Nat) (hoc : Oc w4 R b3 b4 b5 b6 b7 bn M.mapName false (.func (Fn.func 120) #[] #[.pointer (some ⟨w.heap.size, 0, none⟩), .pointer (some ⟨bf, 0, none⟩)])) (hb4 : Below w6.heap.size w6 w4) (g3 : w6.heap.size ≤ b3) (g4 : w6.heap.size ≤ b4) (g5 : w6.heap.size ≤ b5) (g6 : w6.heap.size ≤ b6) (g7 : w6.heap.size ≤ b7) (gn : w6.heap.size ≤ bn) (m3 : b5 ≠ b3) (m4 : b5 ≠ b4) (m6 : b5 ≠ b6) (m7 : b5 ≠ b7) (mn : b5 ≠ bn) =>
        catts_any (W := w4) (st := st5) hs hP (w0 := w) (R := R) (bf := bf) ⟨hRl, by omega, by omega, by omega, by omega, by omega, by omega, m3, m4, m6, m7, mn, by omega, by omega, by omega, by omega, by omega, by omega⟩ (Nat.le_refl _) (by omega) (by omega) (by omega) (Nat.le_succ _) (by omega) (by omega) (fun g e => by have := hol6 g e; omega) (unhide HK) ((unhide Hi3).below hb4 fun h => ⟨h.1.below hb4, h.2.1.below hb4, h.2.2.1.below hb4, ins_kept h.2.2.2.1 (grown_of_below hb4 none) (fun b e => by cases e), h.2.2.2.2⟩) hoc)
      rw [← unhide Hrv] at HF
      subst ev
      clear hw6 hz hgw hb hQ HL ho5 hr5 hg5 hb5 hz5 hQ5 hgw5 hz6 hb6 hQ6 hr6 hgw6 ho6 hK6 hin hol6
      go_upto_region 4 with fail
      rw [← unhide Hw6]
      clear Hw6 q3 qf k1
      go_cut [] (fun w' => Hid (I0 w R pv s P (VC w R w.heap.size bf (w.heap.size + 1) a1 a2 t (.slice va hl.length vc) hl) w' rv.1.2 rv.2))
      case first =>
        go_region_held3 (fun w' => w'.cell? ⟨w.heap.size, 0, none⟩ = some (.pointer (some ⟨R, 0, none⟩))) (go_keep)
          ((first
            | (go_at_call 99; refine (unhide HOn).mono ?_; rintro e w4 ⟨b3, b4, b5, b6, b7, bn, rfl, hoc, hb4, g3, g4, g5, g6, g7, gn, m3, m4, m6, m7, mn⟩; have hb4' : Below w6.heap.size w6 w4 := ⟨hb4.os, hb4.tape, hb4.output, hb4.size, hb4.block⟩; have k4 : w4.cell? ⟨w.heap.size, 0, none⟩ = some (.pointer (some ⟨R, 0, none⟩)) := ((unhide Hi3).val.1.below hb4').cell 0; have HFa := hide (unhide HF w4 b3 b4 b5 b6 b7 bn hoc hb4' g3 g4 g5 g6 g7 gn m3 m4 m6 m7 mn))
            | (go_at_call 75; refine (unhide HFa).mono ?_; rintro e w5 ⟨rfl, hi5⟩; have k5 : w5.cell? ⟨w.heap.size, 0, none⟩ = some (.pointer (some ⟨R, 0, none⟩)) := hi5.val.1.cell 0)
            | fail))
        all_goals
          have Hi5 := hide hi5
          clear HFa hoc hb4 hb4' hi5
          go_wp2
          go_meet
          exact Hi5
      case rest =>
        clear Hi3 HF HOn k6
        have hi5 := unhide hcut
        obtain ⟨v1, v2, v3, v4, v5⟩ := hi5.val
        have q0 := v2.cell 0
        have q1 := v2.cell 1
        have q2 := v2.cell 2
        have q3 := v2.cell 3
        have q4 := v2.cell 4
        have z0 := v3.cell 0
        have z1 := v3.cell 1
        have z2 := v3.cell 2
        have z3 := v3.cell 3
        have z4 := v3.cell 4
        have zf := v3.frozen
        simp at q0 q1 q2 q3 q4 z0 z1 z2 z3 z4
        obtain ⟨wE, hwE⟩ : ∃ wE, wE = ((((wc.setCell ⟨w.heap.size + 1, 0, none⟩ (.int .i64 (a1 : Int))).setCell ⟨w.heap.size + 1, 1, none⟩ (.int .i64 (a2 : Int))).setCell ⟨w.heap.size + 1, 2, none⟩ (.string ⟨t.toArray⟩)).setCell ⟨w.heap.size + 1, 3, none⟩ (.slice va hl.length vc)).setCell ⟨w.heap.size + 1, 4, none⟩ (.string ⟨rv.1.2.toArray⟩) := ⟨_, rfl⟩
        have HE : Hid (Bk wE (w.heap.size + 1) #[.int .i64 (a1 : Int), .int .i64 (a2 : Int), .string ⟨t.toArray⟩, .slice va hl.length vc, .string ⟨rv.1.2.toArray⟩] 99 ∧ Rd wE R pv s rv.2 ∧ w.grownBy wE (some R) ∧ KIn wE pv P ∧ wE.ownsRow w.heap.size 152 4 (.slice va hl.length vc) hl.length (HC hl)) := by
          have n0 : R ≠ w.heap.size + 1 := by omega
          have n3 : w.heap.size ≤ w.heap.size + 1 := by omega
          have hne : ∀ g, (Value.slice va hl.length vc).ownBlock = some g → g ≠ w.heap.size + 1 := fun g e1 e2 => by subst e2; exact own_bk v4 e1 v3
          have hk : ∀ (W : World) (i : Nat) (u : Value), KIn W pv P → KIn (W.setCell ⟨w.heap.size + 1, i, none⟩ u) pv P := fun W i u h => h.kept (grown_set W (w.heap.size + 1) i u) (off_ne (unhide HK))
          have ho : ∀ (W : World) (i : Nat) (u : Value), W.ownsRow w.heap.size 152 4 (.slice va hl.length vc) hl.length (HC hl) → (W.setCell ⟨w.heap.size + 1, i, none⟩ u).ownsRow w.heap.size 152 4 (.slice va hl.length vc) hl.length (HC hl) := fun W i u h => ins_kept h (grown_set W (w.heap.size + 1) i u) (fun b e1 e2 => by cases e1; exact hne _ e2 rfl)
          rw [hwE]
          exact ⟨((((v3.set 0 _).set 1 _).set 2 _).set 3 _).set 4 _, ((((hi5.rd.other 0 _ n0).other 1 _ n0).other 2 _ n0).other 3 _ n0).other 4 _ n0, grown_new (grown_new (grown_new (grown_new (grown_new hi5.gr n3 0 _) n3 1 _) n3 2 _) n3 3 _) n3 4 _, hk _ _ _ (hk _ _ _ (hk _ _ _ (hk _ _ _ (hk _ _ _ hi5.pool)))), ho _ _ _ (ho _ _ _ (ho _ _ _ (ho _ _ _ (ho _ _ _ v4))))⟩
        have hpe := hi5.pos
        have HwE := hide hwE
        clear hi5 v1 v2 v3 v4 v5 hcut hwE
        go_wp2
        rw [← unhide HwE]
        obtain ⟨e1, e2, e3, e4, e5⟩ := unhide HE
        refine bodyPost_ret (results_cell_row Try.results102 _ _ (w.heap.size + 1) 99 _ (0, 0) _ rfl e1 Try.underlying99 rfl (by kernel_rfl)) rfl ?_
        exact ⟨_, rfl, e5, e2, e4, e3, hpe⟩
end Go.Proofs.Ytbgpkkbejbidlac.Cl
