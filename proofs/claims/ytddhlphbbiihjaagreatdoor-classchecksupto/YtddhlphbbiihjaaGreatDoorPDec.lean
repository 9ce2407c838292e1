/-
  Decode of package code.
-/
import Derived.Test.YtddhlphbbiihjaaGreatDoorMgPBd
namespace Go.Proofs.YtddhlphbbiihjaaGreatDoor.Dc
open Go.RowKit
theorem Tryz.info112 : (Tryz.prog.info? 112).map (fun i => (i.zero, i.size, i.bytes)) = some (some (.agg #[.int .i64 0, .int .u8 0, .bool false, .int .i64 0, .int .i64 0, .int .i64 0, .slice none 0 0, .slice none 0 0]), 8, 88) := by kernel_rfl
set_option maxHeartbeats 400000 in
theorem NewReader_any (s : ByteArray) (w : World) : Calls Tryz.prog 85 #[.string s] w fun x w' => x = .returned (.agg #[.string s, .int .i64 0, .int .i64 0, .int .i64 0]) ∧ Below w.heap.size w w' := by
  go_enter Tryz.func85, Tryz.ntmps85
  go_wp2
  refine bodyPost_ret (results_cell_row Tryz.results85 _ _ w.heap.size 126 _ (0, 0) _ rfl (heap_alloc_new _ _) Tryz.underlying126 rfl (by kernel_rfl)) rfl ?_
  exact ⟨rfl, (Below.refl _ _).alloc (Nat.le_refl _) _⟩
/-- What Decode leaves. -/
def Decoded (s : ByteArray) (w : World) (x : Ending) (w' : World) : Prop :=
  Below w.heap.size w w' ∧ match M.decode s.data.toList with
  | .error (e, p) => x = .returned (.tuple #[.slice none 0 0, .int .i64 (e : Int), .int .i64 (p : Int)])
  | .ok l => ∃ v L, x = .returned (.tuple #[v, .int .i64 0, .int .i64 0]) ∧ L.map J.i = l ∧ Lst w' w.heap.size v L
/-- How far the instructions have been read. -/
def RunAt (s : List UInt8) (st : St) (l : List I) : Prop :=
  (st.e ≠ 0 ∧ st.pos ≤ s.length ∧ M.run s 0 [] = .error (st.e, st.p)) ∨ (st.e = 0 ∧ st.p = 0 ∧ st.pos ≤ s.length ∧ l.length ≤ st.pos ∧ M.run s 0 [] = M.run s st.pos l)
theorem RunAt.next {s : List UInt8} {a : Nat} {l : List I} {st : St} (h : RunAt s ⟨a, 0, 0⟩ l) (ha : a < s.length) (hl : M.Left s st (M.ins s a)) :
    (st.e ≠ 0 ∧ RunAt s st []) ∨ (∃ i, M.ins s a = .ok (i, st.pos) ∧ st.e = 0 ∧ st.p = 0 ∧ a < st.pos ∧ RunAt s st (l ++ [i])) := by
  have hr : M.run s 0 [] = M.run s a l ∧ l.length ≤ a := by
    rcases h with ⟨h, _⟩ | ⟨_, _, _, h4, h⟩
    · exact absurd rfl h
    · exact ⟨h, h4⟩
  cases hi : M.ins s a with
  | error e =>
    obtain ⟨e, p⟩ := e
    rw [hi] at hl
    obtain ⟨h1, h2, h3, h4⟩ := hl
    have hne : st.e ≠ 0 := by rw [h1]; exact h3
    exact .inl ⟨hne, .inl ⟨hne, h4, by rw [hr.1, M.run_bad ha hi, h1, h2]⟩⟩
  | ok r =>
    obtain ⟨i, q⟩ := r
    rw [hi] at hl
    have hl : st = ⟨q, 0, 0⟩ := hl
    subst hl
    have hle := M.ins_le ha hi
    simp only at hle
    exact .inr ⟨i, rfl, rfl, rfl, hle.1, .inr ⟨rfl, rfl, hle.2.1, by simp; omega, by rw [hr.1, M.run_one ha hi]⟩⟩
theorem decode_run {s : List UInt8} {l : List I} (h0 : s.length ≠ 0) (h1 : s.length ≤ 65535) (h : M.run s 0 [] = .ok l) :
    match M.firstLost l with
    | none => M.decode s = .ok l
    | some k => ∃ hk : k < l.length, M.decode s = .error (16, (l[k]'hk).at_) := by
  have hd : M.decode s = match l.find? (M.lost l) with
      | none => .ok l
      | some i => .error (16, i.at_) := by
    unfold M.decode; rw [if_neg (by omega), h]
    rfl
  cases hf : M.firstLost l with
  | none =>
    have : l.find? (M.lost l) = none := by
      unfold M.firstLost at hf
      rw [List.findIdx?_eq_none_iff] at hf
      rw [List.find?_eq_none]
      intro x hx; simp [hf x hx]
    simp only; rw [hd, this]
  | some k =>
    unfold M.firstLost at hf
    obtain ⟨hk, h1, h2⟩ := List.findIdx?_eq_some_iff_getElem.1 hf
    have : l.find? (M.lost l) = some l[k] := by
      rw [List.find?_eq_some_iff_getElem]
      exact ⟨h1, k, hk, rfl, fun j hj => by have := h2 j hj; simpa using this⟩
    simp only
    exact ⟨hk, by rw [hd, this]⟩
theorem ins_base {w : World} {B B' e k n : Nat} {v : Value} {xs : List Value} (h : w.ownsRow B e k v n xs) (hB : B' ≤ B) : w.ownsRow B' e k v n xs := by
  refine ⟨h.1, ?_⟩
  rcases h.2 with h0 | ⟨g, cap, cur, rfl, h1, h2⟩
  · exact .inl h0
  · exact .inr ⟨g, cap, cur, rfl, Nat.le_trans hB h1, h2⟩
theorem new8 (w : World) (xs : List Value) (t : TypeId) : ∀ j u, xs[j]? = some u → (w.alloc (.cells xs.toArray t)).cell? ((⟨w.heap.size, 0, none⟩ : Addr).add j) = some u := by
  intro j u hj
  rw [Addr.add_lit, Nat.zero_add]
  have h := cell_of_row (w.alloc (.cells xs.toArray t)) w.heap.size j xs.toArray t (0, 0) (heap_alloc_new w _)
  rw [h]; simpa using hj
theorem one8 (a1 a2 a3 a4 : Int) (o : Int) (b : Bool) (k1 : Option Addr) (k2 k3 : Nat) (t1 : Option Addr) (t2 t3 : Nat) : ∀ u ∈ [Value.int .i64 a1, .int .u8 o, .bool b, .int .i64 a2, .int .i64 a3, .int .i64 a4, .slice k1 k2 k3, .slice t1 t2 t3], u.oneCell' = true := by
  intro u hu
  simp only [List.mem_cons, List.not_mem_nil, or_false] at hu
  rcases hu with rfl | rfl | rfl | rfl | rfl | rfl | rfl | rfl <;> rfl
set_option maxRecDepth 100000 in
set_option maxHeartbeats 2000000 in
theorem Decode_main (s : ByteArray) (w : World) (hw : Wd w) (hs : s.size ≤ 65535) (h0 : 0 < s.size) : Calls Tryz.prog 64 #[.string s] w fun x w' => Decoded s w x w' := by
  obtain ⟨i0, hi, hz0, hz1, hz2⟩ := info_parts Tryz.info112
  have hsz : ((s.size : Int) == 0) = false := by rw [beq_eq_false_iff_ne]; omega
  have hlen : s.data.toList.length = s.size := by simp
  have Hlen := hide hlen
  clear hlen
  go_enter Tryz.func64, Tryz.ntmps64
  go_wp2_with fail
  refine (NewReader_any s w).mono ?_
  rintro e w1 ⟨rfl, hb1⟩
  have hw1 := hw.below hb1
  have hrd : Rd (w1.alloc (.cells #[.string s, .int .i64 0, .int .i64 0, .int .i64 0] 129)) w1.heap.size s ⟨0, 0, 0⟩ := heap_alloc_new w1 _
  have hwd := hw1.alloc (.cells #[.string s, .int .i64 0, .int .i64 0, .int .i64 0] 129)
  have hbA := hb1.alloc hb1.size (.cells #[.string s, .int .i64 0, .int .i64 0, .int .i64 0] 129)
  have hRz := hb1.size
  have h00 := hw.lt
  clear hw hw1
  obtain ⟨R, hRR⟩ : ∃ R, R = w1.heap.size := ⟨_, rfl⟩
  have hzA : (w1.alloc (.cells #[.string s, .int .i64 0, .int .i64 0, .int .i64 0] 129)).heap.size = R + 1 := by rw [hRR]; simp
  have HzA := hide hzA
  clear hzA
  go_wp2_with fail
  rw [← hRR] at hrd hRz ⊢
  clear hRR hb1
  generalize w1.alloc (.cells #[.string s, .int .i64 0, .int .i64 0, .int .i64 0] 129) = W at *
  go_loopg [6] (s.size + 1) (fun n v wr => ∃ st L, Hid (RunAt s.data.toList st (L.map J.i)) ∧ Rd wr R s st ∧ Wd wr ∧ Below w.heap.size w wr ∧ R + 1 ≤ wr.heap.size ∧ (st.e = 0 → s.size - st.pos + 1 ≤ n) ∧ Hid (st.e = 0 → Lst wr (R + 1) v L ∧ ∀ j ∈ L, M.Bd s.data.toList.length j.i) ∧ (∃ o m c, v = .slice o m c))
  case atStart => exact ⟨⟨0, 0, 0⟩, [], .inr ⟨rfl, rfl, Nat.zero_le _, Nat.zero_le _, rfl⟩, hrd, hwd, hbA, by rw [unhide HzA]; exact Nat.le_refl _, by simp, fun _ => ⟨Lst.nil _ _, fun _ h => by cases h⟩, none, 0, 0, rfl⟩
  case round =>
    clear hrd hwd hbA HzA
    obtain ⟨st, L, HR, hrd, hwd, hbA, hzr, hme, HL, vo, vm, vc, rfl⟩ := hrel
    go_wp2_with fail
    refine (Good_any R s st wr hrd).mono ?_
    rintro e w2 ⟨rfl, hww⟩
    subst w2
    by_cases hx : st.e = 0 ∧ st.pos < s.size
    · obtain ⟨hx1, hx2⟩ := hx
      rw [decide_eq_true hx1]
      have hmg := hme hx1
      obtain ⟨hlst, hbd⟩ := unhide HL hx1
      have hst : st = ⟨st.pos, 0, 0⟩ := by
        rcases unhide HR with ⟨h, _⟩ | ⟨h1, h2, _⟩
        · exact absurd hx1 h
        · cases st; simp only at h1 h2; subst h1; subst h2; rfl
      obtain ⟨a, ha⟩ : ∃ a, a = st.pos := ⟨_, rfl⟩
      rw [← ha] at hst hx2 hmg
      subst hst
      clear ha hx1 hme HL
      have HI := hide (instruction_any R a s wr hrd hwd (by omega) (by omega) hx2)
      have Hbd := hide hbd
      have Hlst := hide hlst
      have hLn : L.length ≤ a := by
        rcases unhide HR with ⟨h, _⟩ | ⟨_, _, _, h4, _⟩
        · exact absurd rfl h
        · simpa using h4
      have hvm : vm = L.length := by
        rcases hlst.row.2 with ⟨h, h2⟩ | ⟨g, c, cur, h, _⟩
        · cases h; exact h2.symm
        · cases h; rfl
      subst hvm
      clear hbd hlst
      go_wp2_with fail
      refine (At_any R s _ wr hrd).mono ?_
      rintro e w2 ⟨rfl, hww⟩
      subst w2
      go_wp2_with fail
      refine (unhide HI).mono ?_
      rintro e w3 ⟨st, c, ks, ts, rfl, hd⟩
      have hlen : a < s.data.toList.length := by rw [unhide Hlen]; exact hx2
      have hnext := (unhide HR).next hlen hd.left
      have Hnext := hide hnext
      have Hd := hide hd
      obtain ⟨k1, k2, k3, hkv⟩ := row_form hd.own.k
      obtain ⟨t1, t2, t3, htv⟩ := row_form hd.own.t
      have hrow3 := (unhide Hlst).row
      have hrow3 := ins_kept hrow3 hd.grown (fun b e e2 => by cases e; have := (ins_in hrow3 e2).1; omega)
      clear hnext hd HI HR hlen
      unfold C.cells
      rw [hkv, htv]
      have Hkv := hide hkv
      have Htv := hide htv
      clear hkv htv
      go_wp2_with (at_builtin; refine wpList_append_own_at _ rfl _ _ 104 rfl (R + 1) 112 i0 (.agg #[.int .i64 0, .int .u8 0, .bool false, .int .i64 0, .int .i64 0, .int .i64 0, .slice none 0 0, .slice none 0 0]) 8 88 Tryz.underlying104 hi hz0 hz1 hz2 rfl (by decide) _ _ _ rfl (ins_kept hrow3 (World.grownBy_alloc w3 _ none) (fun _ e => by cases e)) ⟨w3.heap.size, 0, none⟩ 1 1 [.int .i64 (c.at_ : Int), .int .u8 (c.op : Int), .bool c.wide, .int .i64 c.a, .int .i64 c.b, .int .i64 c.low, .slice k1 k2 k3, .slice t1 t2 t3] rfl rfl (new8 w3 _ 112) (one8 _ _ _ _ _ _ _ _ _ _ _ _) (by unfold maxLen; omega) (by omega) (by have := (unhide Hd).grown.size; simp; omega) ?_; intro v' w5 hown' hgrow _ hloc)
      have hd := unhide Hd
      have hg5 := hgrow
      obtain ⟨g9, c9, rfl⟩ := own_form hown' (by omega)
      have hR9 : some R ≠ (Value.slice vo L.length vc).ownBlock := fun e => by have := (ins_in hrow3 e.symm).1; omega
      have h09 : some 0 ≠ (Value.slice vo L.length vc).ownBlock := fun e => by have := (ins_in hrow3 e.symm).1; omega
      have hrd5 := (hd.rd.alloc (.cells #[.int .i64 (c.at_ : Int), .int .u8 (c.op : Int), .bool c.wide, .int .i64 c.a, .int .i64 c.b, .int .i64 c.low, .slice k1 k2 k3, .slice t1 t2 t3] 112)).kept hgrow hR9
      have hwd5 := (hd.wd.alloc (.cells #[.int .i64 (c.at_ : Int), .int .u8 (c.op : Int), .bool c.wide, .int .i64 c.a, .int .i64 c.b, .int .i64 c.low, .slice k1 k2 k3, .slice t1 t2 t3] 112)).kept hgrow h09
      have hb3 : Below w.heap.size w w3 := ⟨hd.grown.os.trans hbA.os, hd.grown.tape.trans hbA.tape, hd.grown.output.trans hbA.output, Nat.le_trans hbA.size hd.grown.size, fun k hk => (hd.grown.block k (Nat.lt_of_lt_of_le hk hbA.size) (by simp; omega)).trans (hbA.block k hk)⟩
      have hb5 : Below w.heap.size w w5 := (hb3.alloc hb3.size (.cells #[.int .i64 (c.at_ : Int), .int .u8 (c.op : Int), .bool c.wide, .int .i64 c.a, .int .i64 c.b, .int .i64 c.low, .slice k1 k2 k3, .slice t1 t2 t3] 112)).grown hgrow (by have := hb3.size; simp; omega) (fun k e => by have := (ins_in hrow3 e).1; omega)
      have hz5 : R + 1 ≤ w5.heap.size := by have h1 := hd.grown.size; have h2 := hgrow.size; simp at h2; omega
      rcases unhide Hnext with ⟨hne, hrun⟩ | ⟨i, hins, he, hp, hlt, hrun⟩
      · go_roundg (gk - 1)
        case measure => omega
        case rel => exact ⟨st, [], hrun, hrd5, hwd5, hb5, hz5, fun e => absurd e hne, fun e => absurd e hne, _, _, _, rfl⟩
      · obtain ⟨q1, q2, q3, q4, q5, q6, q7, q8⟩ := hd.right i _ hins
        have hq1 : i.at_ = c.at_ := by omega
        have hcj : J.cells ⟨i, c.kv, c.tv⟩ = [.int .i64 (c.at_ : Int), .int .u8 (c.op : Int), .bool c.wide, .int .i64 c.a, .int .i64 c.b, .int .i64 c.low, .slice k1 k2 k3, .slice t1 t2 t3] := by
          simp only [J.cells, J.c, C.cells, hq1, q2, q3, q4, q5, q6, unhide Hkv, unhide Htv]
        have hlst5 : Lst w5 (R + 1) (.slice (some ⟨g9, 0, none⟩) (L.length + 1) c9) (L ++ [⟨i, c.kv, c.tv⟩]) :=
          (unhide Hlst).push hzr hd.grown (fun b e => by cases e; omega) (by rw [q7, q8]; exact hd.own) (by rw [hcj]; exact hown') hgrow hloc
        have hbd5 : ∀ j ∈ L ++ [(⟨i, c.kv, c.tv⟩ : J)], M.Bd s.data.toList.length j.i := fun j hj => by
          rw [List.mem_append, List.mem_singleton] at hj
          rcases hj with hj | rfl
          · exact unhide Hbd j hj
          · exact M.ins_bd (by rw [unhide Hlen]; exact hx2) (by rw [unhide Hlen]; omega) hins
        have hrun5 : RunAt s.data.toList st ((L ++ [(⟨i, c.kv, c.tv⟩ : J)]).map J.i) := by simpa using hrun
        have hstp : st.pos ≤ s.size := by
          rcases hrun with ⟨h, _⟩ | ⟨_, _, h, _⟩
          · exact absurd he h
          · rwa [unhide Hlen] at h
        go_roundg (s.size - st.pos + 1)
        case measure => omega
        case rel => exact ⟨st, _, hrun5, hrd5, hwd5, hb5, hz5, fun _ => Nat.le_refl _, fun _ => ⟨hlst5, hbd5⟩, _, _, _, rfl⟩
    · by_cases h1 : st.e = 0
      · have h2 : s.size ≤ st.pos := by have := not_and.1 hx h1; omega
        obtain ⟨hlst, hbd⟩ := unhide HL h1
        have hst : st = ⟨st.pos, 0, 0⟩ := by
          rcases unhide HR with ⟨h, _⟩ | ⟨h3, h4, _⟩
          · exact absurd h1 h
          · cases st; simp only at h3 h4; subst h3; subst h4; rfl
        have hrun : M.run s.data.toList 0 [] = .ok (L.map J.i) := by
          rcases unhide HR with ⟨h, _⟩ | ⟨_, _, _, _, h⟩
          · exact absurd h1 h
          · rw [h, M.run_end (by rw [unhide Hlen]; exact h2)]
        have hLn : L.length ≤ st.pos := by
          rcases unhide HR with ⟨h, _⟩ | ⟨_, _, _, h4, _⟩
          · exact absurd h1 h
          · simpa using h4
        have hpl : st.pos ≤ s.size := by
          rcases unhide HR with ⟨h, _⟩ | ⟨_, _, h3, _⟩
          · exact absurd h1 h
          · rwa [unhide Hlen] at h3
        obtain ⟨a, ha⟩ : ∃ a, a = st.pos := ⟨_, rfl⟩
        rw [← ha] at hst h2 hLn hpl
        subst hst
        have hlost := fun w1 h => firstLost_any L (.slice vo vm vc) w1 h (by omega) (fun j hj => by have := (hbd j hj).1; rw [unhide Hlen] at this; omega)
          (fun j hj t ht => WalkArith.wf_i64 (by have := (hbd j hj).2.1 t ht; omega)) (fun j hj => by have := (hbd j hj).2.2.1; rw [unhide Hlen] at this; omega)
        have Hlost := hide hlost
        have Hrun := hide hrun
        have Hlst := hide hlst
        clear hlost hrun hlst hbd ha HL HR hme hx
        go_wp2_with fail
        refine (At_any R s _ wr hrd).mono ?_
        rintro e w2 ⟨rfl, hww⟩
        subst w2
        go_wp2_with fail
        refine (Err_any R s _ wr hrd).mono ?_
        rintro e w2 ⟨rfl, n, rfl⟩
        have hlst2 : Lst (wr.drewN n) (R + 1) (.slice vo vm vc) L := (unhide Hlst).kept (grown_drewN wr none n) (fun _ e => by cases e)
        have hb2 : Below w.heap.size w (wr.drewN n) := ⟨hbA.os, hbA.tape, hbA.output, hbA.size, hbA.block⟩
        generalize wr.drewN n = W2 at *
        go_wp2_with fail
        refine (unhide Hlost _ (Has.of_lst hlst2)).mono ?_
        rintro e w3 ⟨rfl, hb3⟩
        have hlst3 : Lst w3 (R + 1) (.slice vo vm vc) L := hlst2.kept (grown_of_below hb3 none) (fun _ e => by cases e)
        have hb4 : Below w.heap.size w w3 := hb2.trans (hb3.mono hb2.size)
        have hdec := decode_run (s := s.data.toList) (by rw [unhide Hlen]; omega) (by rw [unhide Hlen]; omega) (unhide Hrun)
        clear hlst2 hb2 hb3 Hlost
        cases hfl : M.firstLost (L.map J.i) with
        | none =>
          simp only [hfl] at hdec
          have Hdec := hide hdec
          clear hdec hfl
          go_wp2
          refine bodyPost_ret (v := .tuple #[.slice vo vm vc, .int .i64 0, .int .i64 0]) (by simp [results, Tryz.results64, go_sem]) rfl ?_
          exact ⟨hb4, by rw [unhide Hdec]; exact ⟨_, L, rfl, rfl, ⟨ins_base hlst3.row (by omega), fun j hj => (hlst3.own j hj).base (by omega), hlst3.apart⟩⟩⟩
        | some k =>
          simp only [hfl] at hdec
          obtain ⟨hk, hdec⟩ := hdec
          have hkL : k < L.length := by simpa using hk
          have hf := (Has.of_lst hlst3).form
          obtain ⟨ad, cap, hv, hc⟩ := hf
          cases hv
          obtain ⟨b9, o9, rfl, hc9⟩ := hc (fun e => by rw [e] at hkL; simp at hkL)
          obtain ⟨x0, _⟩ := At8.of (hc9 k hkL)
          have e0 : ((L.map J.i)[k]'hk).at_ = (L[k]).i.at_ := by simp
          rw [e0] at hdec
          obtain ⟨ax, hax⟩ : ∃ x, x = (L[k]).i.at_ := ⟨_, rfl⟩
          have x0' : w3.cell? ⟨b9, o9 + k * 8, none⟩ = some (.int .i64 (ax : Int)) := by rw [hax]; exact x0
          rw [← hax] at hdec
          have Hdec := hide hdec
          clear hdec hfl hc hc9 x0 e0 hax hlst3
          have ki : (k : Int) < (L.length : Int) := by omega
          go_wp2_with fail
          go_quiet (fail)
          go_wp2
          refine bodyPost_ret (v := .tuple #[.slice none 0 0, .int .i64 16, .int .i64 (ax : Int)]) (by simp [results, Tryz.results64, go_sem]) rfl ?_
          exact ⟨⟨hb4.os, hb4.tape, hb4.output, hb4.size, hb4.block⟩, by rw [unhide Hdec]; rfl⟩
      · have hrun : M.run s.data.toList 0 [] = .error (st.e, st.p) := by
          rcases unhide HR with ⟨_, _, h⟩ | ⟨h, _⟩
          · exact h
          · exact absurd h h1
        have Hrun := hide hrun
        have hne : ((st.e : Int) != 0) = true := by rw [bne_iff_ne]; omega
        have hdec := decide_eq_false h1
        rw [hdec]
        clear hrun hdec HL HR hme hx h1
        go_wp2_with fail
        refine (Err_any R s _ wr hrd).mono ?_
        rintro e w2 ⟨rfl, n, rfl⟩
        have hb2 : Below w.heap.size w (wr.drewN n) := ⟨hbA.os, hbA.tape, hbA.output, hbA.size, hbA.block⟩
        have hdec : M.decode s.data.toList = .error (st.e, st.p) := by
          unfold M.decode; rw [if_neg (by rw [unhide Hlen]; omega), unhide Hrun]
        have Hdec := hide hdec
        clear hdec Hrun
        generalize wr.drewN n = W2 at *
        go_wp2
        refine bodyPost_ret (v := .tuple #[.slice none 0 0, .int .i64 (st.e : Int), .int .i64 (st.p : Int)]) (by simp [results, Tryz.results64, go_sem]) rfl ?_
        exact ⟨hb2, by rw [unhide Hdec]⟩
set_option maxHeartbeats 400000 in
theorem Decode_len (s : ByteArray) (w : World) (hm : s.size ≤ maxLen) (h : s.size = 0 ∨ 65535 < s.size) : Calls Tryz.prog 64 #[.string s] w fun x w' => Decoded s w x w' := by
  unfold maxLen at hm
  have hlen : s.data.toList.length = s.size := by simp
  have hd : M.decode s.data.toList = .error (12, 0) := by unfold M.decode; rw [if_pos (by rw [hlen]; exact h)]
  have Hd := hide hd
  clear hd hlen
  rcases h with h | h
  · have hz : ((s.size : Int) == 0) = true := by rw [beq_iff_eq]; omega
    go_enter Tryz.func64, Tryz.ntmps64
    go_wp2
    refine bodyPost_ret (v := .tuple #[.slice none 0 0, .int .i64 12, .int .i64 0]) (by simp [results, Tryz.results64, go_sem]) rfl ?_
    exact ⟨Below.refl _ _, by rw [unhide Hd]; rfl⟩
  · have hz : ((s.size : Int) == 0) = false := by rw [beq_eq_false_iff_ne]; omega
    go_enter Tryz.func64, Tryz.ntmps64
    go_wp2
    refine bodyPost_ret (v := .tuple #[.slice none 0 0, .int .i64 12, .int .i64 0]) (by simp [results, Tryz.results64, go_sem]) rfl ?_
    exact ⟨Below.refl _ _, by rw [unhide Hd]; rfl⟩
/-- Decode answers as the plain answer does, for whatever bytes. -/
theorem Decode_any (s : ByteArray) (w : World) (hw : Wd w) (hm : s.size ≤ maxLen) : Calls Tryz.prog 64 #[.string s] w fun x w' => Decoded s w x w' := by
  by_cases h : s.size = 0 ∨ 65535 < s.size
  · exact Decode_len s w hm h
  · exact Decode_main s w hw (by omega) (by omega)
end Go.Proofs.YtddhlphbbiihjaaGreatDoor.Dc
