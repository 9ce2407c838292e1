/-
  Decode of the reference.
-/
import Derived.Test.YtddhlphbbiihjaaGreatDoorMgPLostR
namespace Go.Proofs.YtddhlphbbiihjaaGreatDoor.Dc
open Go.RowKit
theorem decodeR_end {s : List UInt8} {st : St} {l : List I} {bl : List Bool} (h0 : s.length ≠ 0) (h1 : s.length ≤ 65535) (hr : RunAt s st l) (hx : ¬ (st.e = 0 ∧ st.pos < s.length)) (hm : st.e = 0 → Marks s.length bl l) (ha : st.e = 0 → ∀ i ∈ l, i.at_ < s.length) :
    ((M.after2 s.length bl st l).e ≠ 0 ∧ M.decode s = .error ((M.after2 s.length bl st l).e, (M.after2 s.length bl st l).p)) ∨ ((M.after2 s.length bl st l).e = 0 ∧ M.decode s = .ok l) := by
  rcases hr with ⟨he, _, hr⟩ | ⟨he, hp, hq, _, hr⟩
  · rw [M.after2_bad he]
    exact .inl ⟨he, by unfold M.decode; rw [if_neg (by omega), hr]⟩
  · have hst : st = ⟨st.pos, 0, 0⟩ := by cases st; simp only at he hp; subst he; subst hp; rfl
    have hmm := hm he
    have haa := ha he
    have hpos : s.length ≤ st.pos := by have := not_and.1 hx he; omega
    rw [M.run_end hpos] at hr
    have hd : M.decode s = match l.find? (M.lost l) with
        | none => .ok l
        | some i => .error (16, i.at_) := by
      unfold M.decode; rw [if_neg (by omega), hr]
      rfl
    have hf : M.lostB s.length bl = M.lost l := funext (M.lostB_eq hmm haa)
    rw [hst, M.after2_find, hf, hd]
    cases l.find? (M.lost l) with
    | none => exact .inr ⟨rfl, rfl⟩
    | some i => exact .inl ⟨by simp, rfl⟩
theorem HasI.alloc {w : World} {v : Value} {xs : List Int} (h : HasI w v xs) (o : Obj) : HasI (w.alloc o) v xs := by
  obtain ⟨a, c, e, hc⟩ := h
  refine ⟨a, c, e, fun hne => ?_⟩
  obtain ⟨b, q, e1, hk⟩ := hc hne
  exact ⟨b, q, e1, fun k hl => (((Below.refl w.heap.size w).alloc (Nat.le_refl _) o).cell (cell_lt (hk k hl))).trans (hk k hl)⟩
set_option maxRecDepth 100000 in
set_option maxHeartbeats 4000000 in
theorem DecodeR_main (s : ByteArray) (w : World) (hs : s.size ≤ 65535) (h0 : 0 < s.size) : Calls Tryz.prog 75 #[.string s] w fun x w' => Decoded s w x w' := by
  obtain ⟨i0, hi, hz0, hz1, hz2⟩ := info_parts Tryz.info112
  have hsz : ¬ (s.size : Int) < 1 := by omega
  have hsz2 : ¬ (65535 : Int) < (s.size : Int) := by omega
  have hlen : s.data.toList.length = s.size := by simp
  have Hlen := hide hlen
  have hmk := fun w1 => mk_bools s.size (by omega) w1
  clear hlen
  go_enter Tryz.func75, Tryz.ntmps75
  go_wp2_with fail
  have hzw : (w.alloc (.cells #[.string s, .int .i64 0, .int .i64 0, .int .i64 0] 140)).heap.size = w.heap.size + 1 := by simp
  have hrd : Rc ((w.alloc (.cells #[.string s, .int .i64 0, .int .i64 0, .int .i64 0] 140)).alloc (.cells (madeCells #[.bool false] s.size) 4)) w.heap.size s ⟨0, 0, 0⟩ := (show Rc (w.alloc (.cells #[.string s, .int .i64 0, .int .i64 0, .int .i64 0] 140)) w.heap.size s ⟨0, 0, 0⟩ from heap_alloc_new w _).alloc _
  have hbs : Bs ((w.alloc (.cells #[.string s, .int .i64 0, .int .i64 0, .int .i64 0] 140)).alloc (.cells (madeCells #[.bool false] s.size) 4)) (w.heap.size + 1) (List.replicate s.size false) := by
    have := Bs.made s.size (w.alloc (.cells #[.string s, .int .i64 0, .int .i64 0, .int .i64 0] 140))
    rwa [hzw] at this
  have hbA : Below w.heap.size w ((w.alloc (.cells #[.string s, .int .i64 0, .int .i64 0, .int .i64 0] 140)).alloc (.cells (madeCells #[.bool false] s.size) 4)) := ((Below.refl _ _).alloc (Nat.le_refl _) _).alloc (by omega) _
  have hzA : ((w.alloc (.cells #[.string s, .int .i64 0, .int .i64 0, .int .i64 0] 140)).alloc (.cells (madeCells #[.bool false] s.size) 4)).heap.size = w.heap.size + 2 := by simp
  generalize ((w.alloc (.cells #[.string s, .int .i64 0, .int .i64 0, .int .i64 0] 140)).alloc (.cells (madeCells #[.bool false] s.size) 4)) = W at *
  clear hzw hmk
  go_loopg [7] (s.size + 1) (fun n v wr => ∃ st L bl, Hid (RunAt s.data.toList st (L.map J.i)) ∧ Rc wr w.heap.size s st ∧ Bs wr (w.heap.size + 1) bl ∧ bl.length = s.size ∧ Hid (st.e = 0 → Marks s.size bl (L.map J.i)) ∧ Below w.heap.size w wr ∧ w.heap.size + 2 ≤ wr.heap.size ∧ (st.e = 0 → s.size - st.pos + 1 ≤ n) ∧ Hid (Lst wr (w.heap.size + 2) v L) ∧ L.length ≤ s.size + 1 ∧ Hid (st.e = 0 → ∀ j ∈ L, j.i.at_ < s.size) ∧ ∃ vo vm vc, v = .slice vo vm vc)
  case atStart => exact ⟨⟨0, 0, 0⟩, [], _, .inr ⟨rfl, rfl, Nat.zero_le _, Nat.zero_le _, rfl⟩, hrd, hbs, by simp, fun _ => Marks.nil _, hbA, by omega, by simp, Lst.nil _ _, by simp, (fun _ _ h => by cases h), none, 0, 0, rfl⟩
  case round =>
    clear hrd hbs hbA hzA
    obtain ⟨st, L, bl, HR, hrd, hbs, hbl, HM, hbA, hzr, hme, HL, hLL, HA, vo, vm, vc, rfl⟩ := hrel
    obtain ⟨x0, x1, x2, x3⟩ := hrd.cells
    by_cases hx : st.e = 0 ∧ st.pos < s.size
    · obtain ⟨hx1, hx2⟩ := hx
      have hc1 : ((st.e : Int) == 0) = true := by rw [beq_iff_eq]; omega
      have hc2 : (st.pos : Int) < (s.size : Int) := by omega
      have hmg := hme hx1
      have hst : st = ⟨st.pos, 0, 0⟩ := by
        rcases unhide HR with ⟨h, _⟩ | ⟨h1, h2, _⟩
        · exact absurd hx1 h
        · cases st; simp only at h1 h2; subst h1; subst h2; rfl
      have HM' := hide (unhide HM hx1)
      have HA' := hide (unhide HA hx1)
      obtain ⟨a, ha⟩ : ∃ a, a = st.pos := ⟨_, rfl⟩
      rw [← ha] at hst hx2 hmg hc2 x1
      subst hst
      clear ha hx1 hme HM HA hc1
      simp only at x2
      have hLn : L.length ≤ a := by
        rcases unhide HR with ⟨h, _⟩ | ⟨_, _, _, h4, _⟩
        · exact absurd rfl h
        · simpa using h4
      have hvm : vm = L.length := by
        rcases (unhide HL).row.2 with ⟨h, h2⟩ | ⟨g, c, cur, h, _⟩
        · cases h; exact h2.symm
        · cases h; rfl
      subst hvm
      have hcb := hbs.cell a (by omega)
      have hfb := hbs.frozen a
      have hgs := grown_set wr (w.heap.size + 1) a (.bool true)
      have hbs2 := hbs.set a
      have hrd2 := hrd.kept hgs (by simp)
      have HL2 := hide ((unhide HL).kept hgs (fun b e => by cases e; omega))
      have hbB : Below w.heap.size w (wr.setCell ⟨w.heap.size + 1, a, none⟩ (.bool true)) := hbA.setCell (by simp) _
      have hzB : w.heap.size + 2 ≤ (wr.setCell ⟨w.heap.size + 1, a, none⟩ (.bool true)).heap.size := Nat.le_trans hzr hgs.size
      go_upto_region 8 with fail
      clear hcb hfb hgs x0 x1 x2 x3 hrd hbs hbA hzr HL
      generalize wr.setCell ⟨w.heap.size + 1, a, none⟩ (.bool true) = W2 at *
      have HI := hide (one_any w.heap.size a s W2 hrd2 (by omega) hx2)
      go_wp2_with fail
      refine (unhide HI).mono ?_
      rintro e w3 ⟨st, c, ks, ts, rfl, hd⟩
      have hlen : a < s.data.toList.length := by rw [unhide Hlen]; exact hx2
      have hnext := (unhide HR).next hlen hd.left
      have Hnext := hide hnext
      have Hd := hide hd
      obtain ⟨k1, k2, k3, hkv⟩ := row_form hd.own.k
      obtain ⟨t1, t2, t3, htv⟩ := row_form hd.own.t
      have hrow3 := (unhide HL2).row
      have hrow3 := ins_kept hrow3 hd.grown (fun b e e2 => by cases e; have := (ins_in hrow3 e2).1; omega)
      clear hnext hd HI HR hlen
      unfold C.cells
      rw [hkv, htv]
      have Hkv := hide hkv
      have Htv := hide htv
      clear hkv htv
      go_wp2_with (at_builtin; refine wpList_append_own_at _ rfl _ _ 104 rfl (w.heap.size + 2) 112 i0 (.agg #[.int .i64 0, .int .u8 0, .bool false, .int .i64 0, .int .i64 0, .int .i64 0, .slice none 0 0, .slice none 0 0]) 8 88 Tryz.underlying104 hi hz0 hz1 hz2 rfl (by decide) _ _ _ rfl (ins_kept hrow3 (World.grownBy_alloc w3 _ none) (fun _ e => by cases e)) ⟨w3.heap.size, 0, none⟩ 1 1 [.int .i64 (c.at_ : Int), .int .u8 (c.op : Int), .bool c.wide, .int .i64 c.a, .int .i64 c.b, .int .i64 c.low, .slice k1 k2 k3, .slice t1 t2 t3] rfl rfl (new8 w3 _ 112) (one8 _ _ _ _ _ _ _ _ _ _ _ _) (by unfold maxLen; omega) (by omega) (by have := (unhide Hd).grown.size; simp; omega) ?_; intro v' w5 hown' hgrow _ hloc)
      have hd := unhide Hd
      obtain ⟨g9, c9, rfl⟩ := own_form hown' (by omega)
      have hR9 : some w.heap.size ≠ (Value.slice vo L.length vc).ownBlock := fun e => by have := (ins_in hrow3 e.symm).1; omega
      have hB9 : some (w.heap.size + 1) ≠ (Value.slice vo L.length vc).ownBlock := fun e => by have := (ins_in hrow3 e.symm).1; omega
      have hrd5 := (hd.rd.alloc (.cells #[.int .i64 (c.at_ : Int), .int .u8 (c.op : Int), .bool c.wide, .int .i64 c.a, .int .i64 c.b, .int .i64 c.low, .slice k1 k2 k3, .slice t1 t2 t3] 112)).kept hgrow hR9
      have hbs5 := ((hbs2.kept hd.grown (by simp)).kept (World.grownBy_alloc w3 (.cells #[.int .i64 (c.at_ : Int), .int .u8 (c.op : Int), .bool c.wide, .int .i64 c.a, .int .i64 c.b, .int .i64 c.low, .slice k1 k2 k3, .slice t1 t2 t3] 112) none) (by simp)).kept hgrow hB9
      have hb3 : Below w.heap.size w w3 := ⟨hd.grown.os.trans hbB.os, hd.grown.tape.trans hbB.tape, hd.grown.output.trans hbB.output, Nat.le_trans hbB.size hd.grown.size, fun k hk => (hd.grown.block k (Nat.lt_of_lt_of_le hk hbB.size) (by simp; omega)).trans (hbB.block k hk)⟩
      have hb5 : Below w.heap.size w w5 := (hb3.alloc hb3.size (.cells #[.int .i64 (c.at_ : Int), .int .u8 (c.op : Int), .bool c.wide, .int .i64 c.a, .int .i64 c.b, .int .i64 c.low, .slice k1 k2 k3, .slice t1 t2 t3] 112)).grown hgrow (by have := hb3.size; simp; omega) (fun k e => by have := (ins_in hrow3 e).1; omega)
      have hz5 : w.heap.size + 2 ≤ w5.heap.size := by have h1 := hd.grown.size; have h2 := hgrow.size; simp at h2; omega
      have hcj : J.cells ⟨⟨c.at_, c.op, c.wide, c.a, c.b, c.low, ks, ts⟩, c.kv, c.tv⟩ = [.int .i64 (c.at_ : Int), .int .u8 (c.op : Int), .bool c.wide, .int .i64 c.a, .int .i64 c.b, .int .i64 c.low, .slice k1 k2 k3, .slice t1 t2 t3] := by
        simp only [J.cells, J.c, C.cells, unhide Hkv, unhide Htv]
      have hlst5 : Lst w5 (w.heap.size + 2) (.slice (some ⟨g9, 0, none⟩) (L.length + 1) c9) (L ++ [⟨⟨c.at_, c.op, c.wide, c.a, c.b, c.low, ks, ts⟩, c.kv, c.tv⟩]) :=
        (unhide HL2).push hzB hd.grown (fun b e => by cases e; omega) hd.own (by rw [hcj]; exact hown') hgrow hloc
      rcases unhide Hnext with ⟨hne, hrun⟩ | ⟨i, hins, he, hp, hlt, hrun⟩
      · have hrun5 : RunAt s.data.toList st ((L ++ [(⟨⟨c.at_, c.op, c.wide, c.a, c.b, c.low, ks, ts⟩, c.kv, c.tv⟩ : J)]).map J.i) := by
          rcases hrun with h | ⟨h, _⟩
          · exact .inl h
          · exact absurd h hne
        go_roundg (gk - 1)
        case measure => omega
        case rel => exact ⟨st, _, _, hrun5, hrd5, hbs5, by simpa using hbl, fun e => absurd e hne, hb5, hz5, fun e => absurd e hne, hlst5, by simp; omega, fun e => absurd e hne, _, _, _, rfl⟩
      · obtain ⟨q1, q2, q3, q4, q5, q6, q7, q8⟩ := hd.right i _ hins
        have hq1 : i.at_ = c.at_ := by omega
        have hic : i = ⟨c.at_, c.op, c.wide, c.a, c.b, c.low, ks, ts⟩ := by
          cases i; simp only at hq1 q2 q3 q4 q5 q6 q7 q8; subst hq1 q2 q3 q4 q5 q6 q7 q8; rfl
        have hia := M.ins_le (by rw [unhide Hlen]; exact hx2) hins
        rw [← hic] at hlst5
        have hrun5 : RunAt s.data.toList st ((L ++ [(⟨i, c.kv, c.tv⟩ : J)]).map J.i) := by simpa using hrun
        have hstp : st.pos ≤ s.size := by
          rcases hrun with ⟨h, _⟩ | ⟨_, _, h, _⟩
          · exact absurd he h
          · rwa [unhide Hlen] at h
        have hmk5 : Marks s.size (bl.set a true) ((L ++ [(⟨i, c.kv, c.tv⟩ : J)]).map J.i) := by
          have := (unhide HM').next (i := i) (by rw [hia.2.2]; exact hx2)
          rw [hia.2.2] at this
          simpa using this
        have hat5 : ∀ j ∈ L ++ [(⟨i, c.kv, c.tv⟩ : J)], j.i.at_ < s.size := fun j hj => by
          rw [List.mem_append, List.mem_singleton] at hj
          rcases hj with hj | rfl
          · exact unhide HA' j hj
          · simp only; rw [hia.2.2]; exact hx2
        go_roundg (s.size - st.pos + 1)
        case measure => omega
        case rel => exact ⟨st, _, _, hrun5, hrd5, hbs5, by simpa using hbl, fun _ => hmk5, hb5, hz5, fun _ => Nat.le_refl _, hlst5, by simp; omega, fun _ => hat5, _, _, _, rfl⟩
    · have hvm : vm = L.length := by
        rcases (unhide HL).row.2 with ⟨h, h2⟩ | ⟨g, c, cur, h, _⟩
        · cases h; exact h2.symm
        · cases h; rfl
      subst hvm
      by_cases hlt : st.pos < s.size
      · have hc1 : ((st.e : Int) == 0) = false := by
          rw [beq_eq_false_iff_ne]; intro e; exact hx ⟨by omega, hlt⟩
        have hc2 : (st.pos : Int) < (s.size : Int) := by omega
        go_wp2_with fail
        clear x0 x1 x2 x3 hme hc2
        go_loopw [53] (fun i wq => ∃ k : Nat, k ≤ L.length ∧ i = .int .i64 k ∧ Rc wq w.heap.size s (M.after2 s.size bl st ((L.map J.i).take k)) ∧ Bs wq (w.heap.size + 1) bl ∧ Hid (Lst wq (w.heap.size + 2) (.slice vo L.length vc) L) ∧ Below w.heap.size w wq ∧ w.heap.size + 2 ≤ wq.heap.size) (fun i _ => L.length - (intOf i).toNat)
        case atStart => exact ⟨0, Nat.zero_le _, rfl, by simpa [M.after2] using hrd, hbs, HL, hbA, hzr⟩
        case round =>
          clear hrd hbs hbA hzr HL
          obtain ⟨k, hk, rfl, hrq, hbq, HLq, hbw, hzq⟩ := hrel
          by_cases hkl : k < L.length
          · have hne : L ≠ [] := by rintro rfl; simp at hkl
            obtain ⟨⟨ad, cap, hv, hc⟩, ho⟩ := Has.of_lst (unhide HLq)
            cases hv
            obtain ⟨b9, o9, rfl, hc9⟩ := hc hne
            obtain ⟨x0, x1, x2, x3, x4, x5, x6, x7⟩ := At8.of (hc9 k hkl)
            obtain ⟨m1, m2⟩ := ho _ (List.getElem_mem hkl)
            have hnx := M.after2_take (n := s.size) (bl := bl) (st := st) (L.map J.i) k (by simpa using hkl)
            rw [List.getElem_map] at hnx
            have HN := hide hnx
            obtain ⟨S0, hS0⟩ : ∃ S, S = M.after2 s.size bl st ((L.map J.i).take k) := ⟨_, rfl⟩
            rw [← hS0] at hrq HN
            simp only [J.c] at x0 x1 x2 x3 x4 x5 x6 x7
            have HTG := hide (fun wz (h : Lst wz (w.heap.size + 2) (.slice (some ⟨b9, o9, none⟩) L.length vc) L) => ((Has.of_lst h).own _ (List.getElem_mem hkl)).2)
            have hml : (L[k]).i.tgts.length ≤ maxLen := by
              rcases ((unhide HLq).own _ (List.getElem_mem hkl)).t.2 with ⟨_, h⟩ | ⟨_, _, _, _, _, _, h1, h2, _⟩
              · rw [h]; exact Nat.zero_le _
              · exact Nat.le_trans h1 h2
            unfold maxLen at hml
            generalize (L[k]).i = i at *
            generalize (L[k]).kv = kx at *
            generalize (L[k]).tv = tx at *
            obtain ⟨p1, p2, e1, _⟩ := m1
            subst e1
            obtain ⟨p3, p4, e3, htg⟩ := m2
            subst e3
            have Htg := hide htg
            clear hnx hc hc9 ho hne htg hS0
            have ki : (k : Int) < (L.length : Int) := by omega
            go_upto_region 12 with fail
            have hgx := World.grownBy_alloc wr (.cells #[.int .i64 (i.at_ : Int), .int .u8 (i.op : Int), .bool i.wide, .int .i64 i.a, .int .i64 i.b, .int .i64 i.low, .slice p1 i.keys.length p2, .slice p3 i.tgts.length p4] 112) none
            have hrX := hrq.kept hgx (by simp)
            have hbX := hbq.kept hgx (by simp)
            have HLX := hide ((unhide HLq).kept hgx (fun _ e => by cases e))
            have hbwX := hbw.alloc hbw.size (.cells #[.int .i64 (i.at_ : Int), .int .u8 (i.op : Int), .bool i.wide, .int .i64 i.a, .int .i64 i.b, .int .i64 i.low, .slice p1 i.keys.length p2, .slice p3 i.tgts.length p4] 112)
            have hzX : w.heap.size + 2 ≤ (wr.alloc (.cells #[.int .i64 (i.at_ : Int), .int .u8 (i.op : Int), .bool i.wide, .int .i64 i.a, .int .i64 i.b, .int .i64 i.low, .slice p1 i.keys.length p2, .slice p3 i.tgts.length p4] 112)).heap.size := Nat.le_trans hzq hgx.size
            have hxb : (wr.alloc (.cells #[.int .i64 (i.at_ : Int), .int .u8 (i.op : Int), .bool i.wide, .int .i64 i.a, .int .i64 i.b, .int .i64 i.low, .slice p1 i.keys.length p2, .slice p3 i.tgts.length p4] 112)).heap[wr.heap.size]? = some (.cells #[.int .i64 (i.at_ : Int), .int .u8 (i.op : Int), .bool i.wide, .int .i64 i.a, .int .i64 i.b, .int .i64 i.low, .slice p1 i.keys.length p2, .slice p3 i.tgts.length p4] 112 (0, 0)) := heap_alloc_new wr _
            have HtX := hide (show HasI (wr.alloc (.cells #[.int .i64 (i.at_ : Int), .int .u8 (i.op : Int), .bool i.wide, .int .i64 i.a, .int .i64 i.b, .int .i64 i.low, .slice p1 i.keys.length p2, .slice p3 i.tgts.length p4] 112)) (.slice p3 i.tgts.length p4) i.tgts from HasI.alloc ⟨p3, p4, rfl, unhide Htg⟩ _)
            obtain ⟨xb, hxx⟩ : ∃ x, x = wr.heap.size := ⟨_, rfl⟩
            rw [← hxx] at hxb ⊢
            have hxz : w.heap.size + 2 ≤ xb := by omega
            generalize wr.alloc (.cells #[.int .i64 (i.at_ : Int), .int .u8 (i.op : Int), .bool i.wide, .int .i64 i.a, .int .i64 i.b, .int .i64 i.low, .slice p1 i.keys.length p2, .slice p3 i.tgts.length p4] 112) = WX at *
            clear hgx x0 x1 x2 x3 x4 x5 x6 x7 hrq hbq HLq hbw hzq Htg hxx
            have y7 := cell_of_row WX xb 7 _ 112 (0, 0) hxb
            simp at y7
            go_wp2_with fail
            clear y7 HtX
            go_loopw [60] (fun ii wz => ∃ m : Nat, m ≤ i.tgts.length ∧ ii = .int .i64 m ∧ Rc wz w.heap.size s (M.part2 s.size bl S0 i m) ∧ Bs wz (w.heap.size + 1) bl ∧ Hid (Lst wz (w.heap.size + 2) (.slice (some ⟨b9, o9, none⟩) L.length vc) L) ∧ Below w.heap.size w wz ∧ w.heap.size + 2 ≤ wz.heap.size ∧ wz.heap[xb]? = some (.cells #[.int .i64 (i.at_ : Int), .int .u8 (i.op : Int), .bool i.wide, .int .i64 i.a, .int .i64 i.b, .int .i64 i.low, .slice p1 i.keys.length p2, .slice p3 i.tgts.length p4] 112 (0, 0))) (fun ii _ => i.tgts.length - (intOf ii).toNat)
            case atStart => exact ⟨0, Nat.zero_le _, rfl, by rw [M.part2_zero]; exact hrX, hbX, HLX, hbwX, hzX, hxb⟩
            case round =>
              clear hrX hbX HLX hbwX hzX hxb
              obtain ⟨m, hm, rfl, hrz, hbz, HLz, hbwz, hzz, hxz'⟩ := hrel
              by_cases hmt : m < i.tgts.length
              · have hne : i.tgts ≠ [] := by intro e; rw [e] at hmt; simp at hmt
                obtain ⟨_, _, e, htg⟩ := unhide HTG _ (unhide HLz)
                cases e
                obtain ⟨b7, o7, rfl, h7⟩ := htg hne
                have c7 := h7 m hmt
                have hpn := M.part2_next s.size bl S0 i m hmt
                obtain ⟨tt, htt⟩ : ∃ x, x = i.tgts[m] := ⟨_, rfl⟩
                have htd : i.tgts.getD m 0 = tt := by rw [htt]; simp [hmt]
                rw [← htt] at hpn
                rw [htd] at c7
                have HPN := hide hpn
                clear hpn htg h7 htt htd hne
                have y0 := cell_of_row wr xb 0 _ 112 (0, 0) hxz'
                simp at y0
                have mi : (m : Int) < (i.tgts.length : Int) := by omega
                by_cases t1 : tt < 0
                · have hh : M.hits s.size bl tt = true := by simp [M.hits, t1]
                  go_wp2_with fail
                  refine (cfail_any w.heap.size s _ 16 i.at_ _ hrz).mono ?_
                  rintro e w7 ⟨rfl, hr7, hg7, hz7⟩
                  have hb7 := hbz.kept hg7 (by simp)
                  have HL7 := hide ((unhide HLz).kept hg7 (fun b e => by cases e; omega))
                  have hbw7 : Below w.heap.size w w7 := hbwz.grown hg7 hbwz.size (fun k e => by cases e; exact Nat.le_refl _)
                  have hx7 := (hg7.block xb (Array.getElem?_eq_some_iff.1 hxz').1 (by simp; omega)).trans hxz'
                  go_wp2
                  go_roundw
                  case rel => exact ⟨m + 1, by omega, by go_num, by rw [unhide HPN, if_pos hh]; exact hr7, hb7, HL7, hbw7, by omega, hx7⟩
                  case measure => simp [intOf]; omega
                · by_cases t2 : (s.size : Int) ≤ tt
                  · have hh : M.hits s.size bl tt = true := by simp [M.hits, t2]
                    go_wp2_with fail
                    refine (cfail_any w.heap.size s _ 16 i.at_ _ hrz).mono ?_
                    rintro e w7 ⟨rfl, hr7, hg7, hz7⟩
                    have hb7 := hbz.kept hg7 (by simp)
                    have HL7 := hide ((unhide HLz).kept hg7 (fun b e => by cases e; omega))
                    have hbw7 : Below w.heap.size w w7 := hbwz.grown hg7 hbwz.size (fun k e => by cases e; exact Nat.le_refl _)
                    have hx7 := (hg7.block xb (Array.getElem?_eq_some_iff.1 hxz').1 (by simp; omega)).trans hxz'
                    go_wp2
                    go_roundw
                    case rel => exact ⟨m + 1, by omega, by go_num, by rw [unhide HPN, if_pos hh]; exact hr7, hb7, HL7, hbw7, by omega, hx7⟩
                    case measure => simp [intOf]; omega
                  · obtain ⟨q, rfl⟩ : ∃ q : Nat, tt = (q : Int) := ⟨tt.toNat, by omega⟩
                    have cq := hbz.cell q (by omega)
                    have t3 : (q : Int) < (s.size : Int) := by omega
                    cases hq : bl.getD q false with
                    | false =>
                      rw [hq] at cq
                      have hh : M.hits s.size bl (q : Int) = true := by unfold M.hits; rw [Int.toNat_natCast, hq]; simp
                      go_wp2_with fail
                      refine (cfail_any w.heap.size s _ 16 i.at_ _ hrz).mono ?_
                      rintro e w7 ⟨rfl, hr7, hg7, hz7⟩
                      have hb7 := hbz.kept hg7 (by simp)
                      have HL7 := hide ((unhide HLz).kept hg7 (fun b e => by cases e; omega))
                      have hbw7 : Below w.heap.size w w7 := hbwz.grown hg7 hbwz.size (fun k e => by cases e; exact Nat.le_refl _)
                      have hx7 := (hg7.block xb (Array.getElem?_eq_some_iff.1 hxz').1 (by simp; omega)).trans hxz'
                      go_wp2
                      go_roundw
                      case rel => exact ⟨m + 1, by omega, by go_num, by rw [unhide HPN, if_pos hh]; exact hr7, hb7, HL7, hbw7, by omega, hx7⟩
                      case measure => simp [intOf]; omega
                    | true =>
                      rw [hq] at cq
                      have hh : ¬ M.hits s.size bl (q : Int) = true := by unfold M.hits; rw [Int.toNat_natCast, hq]; simp; omega
                      go_wp2
                      go_roundw
                      case rel => exact ⟨m + 1, by omega, by go_num, by rw [unhide HPN, if_neg hh]; exact hrz, hbz, HLz, hbwz, hzz, hxz'⟩
                      case measure => simp [intOf]; omega
              · have mi : (i.tgts.length : Int) ≤ (m : Int) := by omega
                have hme : m = i.tgts.length := by omega
                go_wp2
                go_roundw
                case rel => exact ⟨k + 1, by omega, by go_num, by rw [unhide HN, ← M.part2_all, ← hme]; exact hrz, hbz, HLz, hbwz, hzz⟩
                case measure => simp [intOf]; omega
          · have hke : k = L.length := by omega
            have hkt : (L.map J.i).take k = L.map J.i := by rw [hke]; exact List.take_of_length_le (by simp)
            rw [hkt] at hrq
            have hend := decodeR_end (s := s.data.toList) (by rw [unhide Hlen]; omega) (by rw [unhide Hlen]; omega) (unhide HR) (by rw [unhide Hlen]; exact hx) (bl := bl) (by rw [unhide Hlen]; exact unhide HM) (by rw [unhide Hlen]; intro h i hi; obtain ⟨j, hj, rfl⟩ := List.mem_map.1 hi; exact unhide HA h j hj)
            rw [unhide Hlen] at hend
            obtain ⟨S, hS⟩ : ∃ S, S = M.after2 s.size bl st (L.map J.i) := ⟨_, rfl⟩
            rw [← hS] at hrq hend
            clear hS hkt HR HM HA
            obtain ⟨z0, z1, z2, z3⟩ := hrq.cells
            have ki : (L.length : Int) ≤ (k : Int) := by omega
            rcases hend with ⟨hne, hdec⟩ | ⟨he0, hdec⟩
            · have Hdec := hide hdec
              have hb0 : ((S.e : Int) != 0) = true := by rw [bne_iff_ne]; omega
              clear hdec
              go_wp2_with fail
              go_quiet (fail)
              go_wp2
              refine bodyPost_ret (v := .tuple #[.slice none 0 0, .int .i64 (S.e : Int), .int .i64 (S.p : Int)]) (by simp [results, Tryz.results75, go_sem]) rfl ?_
              exact ⟨⟨hbw.os, hbw.tape, hbw.output, hbw.size, hbw.block⟩, by rw [unhide Hdec]⟩
            · have Hdec := hide hdec
              have hb0 : ((S.e : Int) != 0) = false := by rw [bne_eq_false_iff_eq]; omega
              clear hdec
              go_wp2
              refine bodyPost_ret (v := .tuple #[.slice vo L.length vc, .int .i64 0, .int .i64 0]) (by simp [results, Tryz.results75, go_sem]) rfl ?_
              have hl := unhide HLq
              exact ⟨hbw, by rw [unhide Hdec]; exact ⟨_, L, rfl, rfl, ⟨ins_base hl.row (by omega), fun j hj => (hl.own j hj).base (by omega), hl.apart⟩⟩⟩
      · have hc2 : (s.size : Int) ≤ (st.pos : Int) := by omega
        go_wp2_with fail
        clear x0 x1 x2 x3 hme hc2
        go_loopw [53] (fun i wq => ∃ k : Nat, k ≤ L.length ∧ i = .int .i64 k ∧ Rc wq w.heap.size s (M.after2 s.size bl st ((L.map J.i).take k)) ∧ Bs wq (w.heap.size + 1) bl ∧ Hid (Lst wq (w.heap.size + 2) (.slice vo L.length vc) L) ∧ Below w.heap.size w wq ∧ w.heap.size + 2 ≤ wq.heap.size) (fun i _ => L.length - (intOf i).toNat)
        case atStart => exact ⟨0, Nat.zero_le _, rfl, by simpa [M.after2] using hrd, hbs, HL, hbA, hzr⟩
        case round =>
          clear hrd hbs hbA hzr HL
          obtain ⟨k, hk, rfl, hrq, hbq, HLq, hbw, hzq⟩ := hrel
          by_cases hkl : k < L.length
          · have hne : L ≠ [] := by rintro rfl; simp at hkl
            obtain ⟨⟨ad, cap, hv, hc⟩, ho⟩ := Has.of_lst (unhide HLq)
            cases hv
            obtain ⟨b9, o9, rfl, hc9⟩ := hc hne
            obtain ⟨x0, x1, x2, x3, x4, x5, x6, x7⟩ := At8.of (hc9 k hkl)
            obtain ⟨m1, m2⟩ := ho _ (List.getElem_mem hkl)
            have hnx := M.after2_take (n := s.size) (bl := bl) (st := st) (L.map J.i) k (by simpa using hkl)
            rw [List.getElem_map] at hnx
            have HN := hide hnx
            obtain ⟨S0, hS0⟩ : ∃ S, S = M.after2 s.size bl st ((L.map J.i).take k) := ⟨_, rfl⟩
            rw [← hS0] at hrq HN
            simp only [J.c] at x0 x1 x2 x3 x4 x5 x6 x7
            have HTG := hide (fun wz (h : Lst wz (w.heap.size + 2) (.slice (some ⟨b9, o9, none⟩) L.length vc) L) => ((Has.of_lst h).own _ (List.getElem_mem hkl)).2)
            have hml : (L[k]).i.tgts.length ≤ maxLen := by
              rcases ((unhide HLq).own _ (List.getElem_mem hkl)).t.2 with ⟨_, h⟩ | ⟨_, _, _, _, _, _, h1, h2, _⟩
              · rw [h]; exact Nat.zero_le _
              · exact Nat.le_trans h1 h2
            unfold maxLen at hml
            generalize (L[k]).i = i at *
            generalize (L[k]).kv = kx at *
            generalize (L[k]).tv = tx at *
            obtain ⟨p1, p2, e1, _⟩ := m1
            subst e1
            obtain ⟨p3, p4, e3, htg⟩ := m2
            subst e3
            have Htg := hide htg
            clear hnx hc hc9 ho hne htg hS0
            have ki : (k : Int) < (L.length : Int) := by omega
            go_upto_region 12 with fail
            have hgx := World.grownBy_alloc wr (.cells #[.int .i64 (i.at_ : Int), .int .u8 (i.op : Int), .bool i.wide, .int .i64 i.a, .int .i64 i.b, .int .i64 i.low, .slice p1 i.keys.length p2, .slice p3 i.tgts.length p4] 112) none
            have hrX := hrq.kept hgx (by simp)
            have hbX := hbq.kept hgx (by simp)
            have HLX := hide ((unhide HLq).kept hgx (fun _ e => by cases e))
            have hbwX := hbw.alloc hbw.size (.cells #[.int .i64 (i.at_ : Int), .int .u8 (i.op : Int), .bool i.wide, .int .i64 i.a, .int .i64 i.b, .int .i64 i.low, .slice p1 i.keys.length p2, .slice p3 i.tgts.length p4] 112)
            have hzX : w.heap.size + 2 ≤ (wr.alloc (.cells #[.int .i64 (i.at_ : Int), .int .u8 (i.op : Int), .bool i.wide, .int .i64 i.a, .int .i64 i.b, .int .i64 i.low, .slice p1 i.keys.length p2, .slice p3 i.tgts.length p4] 112)).heap.size := Nat.le_trans hzq hgx.size
            have hxb : (wr.alloc (.cells #[.int .i64 (i.at_ : Int), .int .u8 (i.op : Int), .bool i.wide, .int .i64 i.a, .int .i64 i.b, .int .i64 i.low, .slice p1 i.keys.length p2, .slice p3 i.tgts.length p4] 112)).heap[wr.heap.size]? = some (.cells #[.int .i64 (i.at_ : Int), .int .u8 (i.op : Int), .bool i.wide, .int .i64 i.a, .int .i64 i.b, .int .i64 i.low, .slice p1 i.keys.length p2, .slice p3 i.tgts.length p4] 112 (0, 0)) := heap_alloc_new wr _
            have HtX := hide (show HasI (wr.alloc (.cells #[.int .i64 (i.at_ : Int), .int .u8 (i.op : Int), .bool i.wide, .int .i64 i.a, .int .i64 i.b, .int .i64 i.low, .slice p1 i.keys.length p2, .slice p3 i.tgts.length p4] 112)) (.slice p3 i.tgts.length p4) i.tgts from HasI.alloc ⟨p3, p4, rfl, unhide Htg⟩ _)
            obtain ⟨xb, hxx⟩ : ∃ x, x = wr.heap.size := ⟨_, rfl⟩
            rw [← hxx] at hxb ⊢
            have hxz : w.heap.size + 2 ≤ xb := by omega
            generalize wr.alloc (.cells #[.int .i64 (i.at_ : Int), .int .u8 (i.op : Int), .bool i.wide, .int .i64 i.a, .int .i64 i.b, .int .i64 i.low, .slice p1 i.keys.length p2, .slice p3 i.tgts.length p4] 112) = WX at *
            clear hgx x0 x1 x2 x3 x4 x5 x6 x7 hrq hbq HLq hbw hzq Htg hxx
            have y7 := cell_of_row WX xb 7 _ 112 (0, 0) hxb
            simp at y7
            go_wp2_with fail
            clear y7 HtX
            go_loopw [60] (fun ii wz => ∃ m : Nat, m ≤ i.tgts.length ∧ ii = .int .i64 m ∧ Rc wz w.heap.size s (M.part2 s.size bl S0 i m) ∧ Bs wz (w.heap.size + 1) bl ∧ Hid (Lst wz (w.heap.size + 2) (.slice (some ⟨b9, o9, none⟩) L.length vc) L) ∧ Below w.heap.size w wz ∧ w.heap.size + 2 ≤ wz.heap.size ∧ wz.heap[xb]? = some (.cells #[.int .i64 (i.at_ : Int), .int .u8 (i.op : Int), .bool i.wide, .int .i64 i.a, .int .i64 i.b, .int .i64 i.low, .slice p1 i.keys.length p2, .slice p3 i.tgts.length p4] 112 (0, 0))) (fun ii _ => i.tgts.length - (intOf ii).toNat)
            case atStart => exact ⟨0, Nat.zero_le _, rfl, by rw [M.part2_zero]; exact hrX, hbX, HLX, hbwX, hzX, hxb⟩
            case round =>
              clear hrX hbX HLX hbwX hzX hxb
              obtain ⟨m, hm, rfl, hrz, hbz, HLz, hbwz, hzz, hxz'⟩ := hrel
              by_cases hmt : m < i.tgts.length
              · have hne : i.tgts ≠ [] := by intro e; rw [e] at hmt; simp at hmt
                obtain ⟨_, _, e, htg⟩ := unhide HTG _ (unhide HLz)
                cases e
                obtain ⟨b7, o7, rfl, h7⟩ := htg hne
                have c7 := h7 m hmt
                have hpn := M.part2_next s.size bl S0 i m hmt
                obtain ⟨tt, htt⟩ : ∃ x, x = i.tgts[m] := ⟨_, rfl⟩
                have htd : i.tgts.getD m 0 = tt := by rw [htt]; simp [hmt]
                rw [← htt] at hpn
                rw [htd] at c7
                have HPN := hide hpn
                clear hpn htg h7 htt htd hne
                have y0 := cell_of_row wr xb 0 _ 112 (0, 0) hxz'
                simp at y0
                have mi : (m : Int) < (i.tgts.length : Int) := by omega
                by_cases t1 : tt < 0
                · have hh : M.hits s.size bl tt = true := by simp [M.hits, t1]
                  go_wp2_with fail
                  refine (cfail_any w.heap.size s _ 16 i.at_ _ hrz).mono ?_
                  rintro e w7 ⟨rfl, hr7, hg7, hz7⟩
                  have hb7 := hbz.kept hg7 (by simp)
                  have HL7 := hide ((unhide HLz).kept hg7 (fun b e => by cases e; omega))
                  have hbw7 : Below w.heap.size w w7 := hbwz.grown hg7 hbwz.size (fun k e => by cases e; exact Nat.le_refl _)
                  have hx7 := (hg7.block xb (Array.getElem?_eq_some_iff.1 hxz').1 (by simp; omega)).trans hxz'
                  go_wp2
                  go_roundw
                  case rel => exact ⟨m + 1, by omega, by go_num, by rw [unhide HPN, if_pos hh]; exact hr7, hb7, HL7, hbw7, by omega, hx7⟩
                  case measure => simp [intOf]; omega
                · by_cases t2 : (s.size : Int) ≤ tt
                  · have hh : M.hits s.size bl tt = true := by simp [M.hits, t2]
                    go_wp2_with fail
                    refine (cfail_any w.heap.size s _ 16 i.at_ _ hrz).mono ?_
                    rintro e w7 ⟨rfl, hr7, hg7, hz7⟩
                    have hb7 := hbz.kept hg7 (by simp)
                    have HL7 := hide ((unhide HLz).kept hg7 (fun b e => by cases e; omega))
                    have hbw7 : Below w.heap.size w w7 := hbwz.grown hg7 hbwz.size (fun k e => by cases e; exact Nat.le_refl _)
                    have hx7 := (hg7.block xb (Array.getElem?_eq_some_iff.1 hxz').1 (by simp; omega)).trans hxz'
                    go_wp2
                    go_roundw
                    case rel => exact ⟨m + 1, by omega, by go_num, by rw [unhide HPN, if_pos hh]; exact hr7, hb7, HL7, hbw7, by omega, hx7⟩
                    case measure => simp [intOf]; omega
                  · obtain ⟨q, rfl⟩ : ∃ q : Nat, tt = (q : Int) := ⟨tt.toNat, by omega⟩
                    have cq := hbz.cell q (by omega)
                    have t3 : (q : Int) < (s.size : Int) := by omega
                    cases hq : bl.getD q false with
                    | false =>
                      rw [hq] at cq
                      have hh : M.hits s.size bl (q : Int) = true := by unfold M.hits; rw [Int.toNat_natCast, hq]; simp
                      go_wp2_with fail
                      refine (cfail_any w.heap.size s _ 16 i.at_ _ hrz).mono ?_
                      rintro e w7 ⟨rfl, hr7, hg7, hz7⟩
                      have hb7 := hbz.kept hg7 (by simp)
                      have HL7 := hide ((unhide HLz).kept hg7 (fun b e => by cases e; omega))
                      have hbw7 : Below w.heap.size w w7 := hbwz.grown hg7 hbwz.size (fun k e => by cases e; exact Nat.le_refl _)
                      have hx7 := (hg7.block xb (Array.getElem?_eq_some_iff.1 hxz').1 (by simp; omega)).trans hxz'
                      go_wp2
                      go_roundw
                      case rel => exact ⟨m + 1, by omega, by go_num, by rw [unhide HPN, if_pos hh]; exact hr7, hb7, HL7, hbw7, by omega, hx7⟩
                      case measure => simp [intOf]; omega
                    | true =>
                      rw [hq] at cq
                      have hh : ¬ M.hits s.size bl (q : Int) = true := by unfold M.hits; rw [Int.toNat_natCast, hq]; simp; omega
                      go_wp2
                      go_roundw
                      case rel => exact ⟨m + 1, by omega, by go_num, by rw [unhide HPN, if_neg hh]; exact hrz, hbz, HLz, hbwz, hzz, hxz'⟩
                      case measure => simp [intOf]; omega
              · have mi : (i.tgts.length : Int) ≤ (m : Int) := by omega
                have hme : m = i.tgts.length := by omega
                go_wp2
                go_roundw
                case rel => exact ⟨k + 1, by omega, by go_num, by rw [unhide HN, ← M.part2_all, ← hme]; exact hrz, hbz, HLz, hbwz, hzz⟩
                case measure => simp [intOf]; omega
          · have hke : k = L.length := by omega
            have hkt : (L.map J.i).take k = L.map J.i := by rw [hke]; exact List.take_of_length_le (by simp)
            rw [hkt] at hrq
            have hend := decodeR_end (s := s.data.toList) (by rw [unhide Hlen]; omega) (by rw [unhide Hlen]; omega) (unhide HR) (by rw [unhide Hlen]; exact hx) (bl := bl) (by rw [unhide Hlen]; exact unhide HM) (by rw [unhide Hlen]; intro h i hi; obtain ⟨j, hj, rfl⟩ := List.mem_map.1 hi; exact unhide HA h j hj)
            rw [unhide Hlen] at hend
            obtain ⟨S, hS⟩ : ∃ S, S = M.after2 s.size bl st (L.map J.i) := ⟨_, rfl⟩
            rw [← hS] at hrq hend
            clear hS hkt HR HM HA
            obtain ⟨z0, z1, z2, z3⟩ := hrq.cells
            have ki : (L.length : Int) ≤ (k : Int) := by omega
            rcases hend with ⟨hne, hdec⟩ | ⟨he0, hdec⟩
            · have Hdec := hide hdec
              have hb0 : ((S.e : Int) != 0) = true := by rw [bne_iff_ne]; omega
              clear hdec
              go_wp2_with fail
              go_quiet (fail)
              go_wp2
              refine bodyPost_ret (v := .tuple #[.slice none 0 0, .int .i64 (S.e : Int), .int .i64 (S.p : Int)]) (by simp [results, Tryz.results75, go_sem]) rfl ?_
              exact ⟨⟨hbw.os, hbw.tape, hbw.output, hbw.size, hbw.block⟩, by rw [unhide Hdec]⟩
            · have Hdec := hide hdec
              have hb0 : ((S.e : Int) != 0) = false := by rw [bne_eq_false_iff_eq]; omega
              clear hdec
              go_wp2
              refine bodyPost_ret (v := .tuple #[.slice vo L.length vc, .int .i64 0, .int .i64 0]) (by simp [results, Tryz.results75, go_sem]) rfl ?_
              have hl := unhide HLq
              exact ⟨hbw, by rw [unhide Hdec]; exact ⟨_, L, rfl, rfl, ⟨ins_base hl.row (by omega), fun j hj => (hl.own j hj).base (by omega), hl.apart⟩⟩⟩
set_option maxHeartbeats 400000 in
theorem DecodeR_len (s : ByteArray) (w : World) (hm : s.size ≤ maxLen) (h : s.size = 0 ∨ 65535 < s.size) : Calls Tryz.prog 75 #[.string s] w fun x w' => Decoded s w x w' := by
  unfold maxLen at hm
  have hlen : s.data.toList.length = s.size := by simp
  have hd : M.decode s.data.toList = .error (12, 0) := by unfold M.decode; rw [if_pos (by rw [hlen]; exact h)]
  have Hd := hide hd
  clear hd hlen
  rcases h with h | h
  · have hz : (s.size : Int) < 1 := by omega
    go_enter Tryz.func75, Tryz.ntmps75
    go_wp2
    refine bodyPost_ret (v := .tuple #[.slice none 0 0, .int .i64 12, .int .i64 0]) (by simp [results, Tryz.results75, go_sem]) rfl ?_
    exact ⟨Below.refl _ _, by rw [unhide Hd]; rfl⟩
  · have hz : ¬ (s.size : Int) < 1 := by omega
    have hz2 : (65535 : Int) < (s.size : Int) := by omega
    go_enter Tryz.func75, Tryz.ntmps75
    go_wp2
    refine bodyPost_ret (v := .tuple #[.slice none 0 0, .int .i64 12, .int .i64 0]) (by simp [results, Tryz.results75, go_sem]) rfl ?_
    exact ⟨Below.refl _ _, by rw [unhide Hd]; rfl⟩
/-- The reference's Decode answers as the plain answer does, for whatever bytes. -/
theorem DecodeR_any (s : ByteArray) (w : World) (hm : s.size ≤ maxLen) : Calls Tryz.prog 75 #[.string s] w fun x w' => Decoded s w x w' := by
  by_cases h : s.size = 0 ∨ 65535 < s.size
  · exact DecodeR_len s w hm h
  · exact DecodeR_main s w (by omega) (by omega)
end Go.Proofs.YtddhlphbbiihjaaGreatDoor.Dc
