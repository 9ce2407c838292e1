/-
  Laws for a statement that leaves its order open: an append to a row of one's own.
  others: how each switch begins.
-/
import Derived.Test.YtddhlphbbiihjaaGreatDoorPOps
import Derived.Deep.RegionHeldLaw
import Derived.Deep.RegionLaw
namespace Go.Proofs.YtddhlphbbiihjaaGreatDoor.Dc
open Go.RowKit
theorem step_append_at {P : Program} {ops : Array Oper} {o : Oper} {a : Act} {w : World} {K : Act → World → Prop} {Q : Exit → Act → World → Prop} {E : Prop} (hg : o.guard = none) (s x : Operand) (t : TypeId)
    (ho : o.op = .call { callee := .builtin .append, args := #[s, x], argTypes := #[t, t] })
    (base : Nat) (e : TypeId) (i : TypeInfo) (z : Value) (size bytes : Nat) (ht : P.underlying t = some (.slice e)) (hi : P.info? e = some i) (hz : i.zero = some z)
    (hsize : i.size = size) (hby : i.bytes = bytes) (hzs : z.cells.size = size) (hsz : 0 < size)
    (v : Value) (n : Nat) (xs : List Value) (hs : a.eval s = v) (hown : w.ownsRow base e size v n xs)
    (ad : Addr) (m c : Nat) (news : List Value) (hx : a.eval x = .slice (some ad) m c) (hl : news.length = m * size) (hnews : ∀ j u, news[j]? = some u → w.cell? (ad.add j) = some u) (h1 : ∀ u ∈ news, u.oneCell' = true)
    (h63 : n + m ≤ maxLen) (hbytes : (n + m) * bytes ≤ 140737488355328) (hbase : base ≤ w.heap.size)
    (h : ∀ v' w', w'.ownsRow base e size v' (n + m) (xs ++ news) → w.grownBy w' v.ownBlock → (v'.ownBlock = v.ownBlock ∨ v'.ownBlock = some w.heap.size) → K (a.put o.dst v') w') :
    if Region.wanted o (yielded ops a.tmps) = true then Oper.wp P o a w K Q else E := by
  have hw : Region.wanted o (yielded ops a.tmps) = true := by simp [Region.wanted, hg]
  rw [if_pos hw]
  obtain ⟨v', w', hr, h2, h3, _, h5⟩ := run_append_own_at (P := P) w base t o.type e i z size bytes ht hi hz hsize hby hzs hsz v n xs hown ad m c news hl hnews h1 h63 hbytes hbase
  unfold Oper.wp execOp
  simp only [ho, resolve, invoke, builtin, Sem.run_bind, Sem.run_pure, Result.andThen_ok, List.map_toArray, List.map_cons, List.map_nil, hs, hx, hr]
  exact h v' w' h2 h3 h5
theorem enters {P : Program} {f : FuncId} {fn : Func} (h : P.funcs[f]? = some fn) (hn : (fn.name == "runtime.NumGoroutine") = false) (hb : fn.body.isNone = false) (vals : Array Value) (w : World) : (callFunc f vals).run P w = .ok (.enter f vals) w := by
  unfold callFunc
  simp [go_sem, h]
  rw [if_neg (by simpa using hn), if_neg (by intro e; rw [e] at hb; simp at hb)]
theorem step_call {P : Program} {ops : Array Oper} {o : Oper} {a : Act} {w : World} {K : Act → World → Prop} {Q : Exit → Act → World → Prop} {E : Prop} (hg : o.guard = none) (f : FuncId) (args : Array Operand) (tys : Array TypeId)
    (ho : o.op = .call { callee := .value (.func f), args := args, argTypes := tys }) (vals : Array Value) (hv : args.map a.eval = vals) (hf : ∀ vals w, (callFunc f vals).run P w = .ok (.enter f vals) w) {post : Ending → World → Prop} (hc : Calls P f vals w post)
    (h : ∀ e w', post e w' → ∃ v, e = .returned v ∧ K (a.put o.dst v) w') : if Region.wanted o (yielded ops a.tmps) = true then Oper.wp P o a w K Q else E := by
  have hw : Region.wanted o (yielded ops a.tmps) = true := by simp [Region.wanted, hg]
  rw [if_pos hw]
  subst hv
  have hr : (execOp a.eval o).run P w = .ok (.enter f (args.map a.eval)) w := by
    unfold execOp
    simp [ho, resolve, invoke, go_sem, hf]
  unfold Oper.wp
  rw [hr]
  refine Calls.mono hc fun e w' hp => ?_
  obtain ⟨v, rfl, hk⟩ := h e w' hp
  exact hk
theorem enter134 : ∀ vals w, (callFunc 134 vals).run Tryz.prog w = .ok (.enter 134 vals) w := enters Tryz.func134 (by kernel_rfl) (by kernel_rfl)
theorem enter133 : ∀ vals w, (callFunc 133 vals).run Tryz.prog w = .ok (.enter 133 vals) w := enters Tryz.func133 (by kernel_rfl) (by kernel_rfl)
theorem own_form {w : World} {B : Nat} {e : TypeId} {k : Nat} {v : Value} {n : Nat} {xs : List Value} (h : w.ownsRow B e k v n xs) (hn : 0 < n) : ∃ g c, v = .slice (some ⟨g, 0, none⟩) n c := by
  rcases h.2 with ⟨_, h0⟩ | ⟨g, cap, cur, rfl, _⟩
  · omega
  · exact ⟨g, cap, rfl⟩
theorem Tryz.info3 : (Tryz.prog.info? 3).map (fun i => (i.zero, i.size, i.bytes)) = some (some (.int .i64 0), 1, 8) := by kernel_rfl
/-- What stands of the bytes ahead of a switch's numbers, and of the reader. -/
def PadAt (s : List UInt8) (a b : Nat) (st : St) (g : Nat) : Prop :=
  (st.e = 0 ∧ st.p = 0 ∧ st.pos ≤ s.length ∧ M.padN st.pos + 1 ≤ g ∧ M.pad s a (M.padN st.pos) st.pos = M.pad s a (M.padN b) b) ∨ (st.e ≠ 0 ∧ st.pos ≤ s.length ∧ M.pad s a (M.padN b) b = .error (st.e, st.p))
theorem PadAt.pos {s : List UInt8} {a b : Nat} {st : St} {g : Nat} (h : PadAt s a b st g) : st.pos ≤ s.length := by
  rcases h with h | h
  · exact h.2.2.1
  · exact h.2.1
end Go.Proofs.YtddhlphbbiihjaaGreatDoor.Dc
namespace Go.Proofs.YtddhlphbbiihjaaGreatDoor.Dc
open Go.RowKit
/-- What others leaves of the reader, and the target that it read. -/
def OthersRes (s : List UInt8) (a b : Nat) (st : St) (t : Int) : Prop :=
  match M.pad s a (M.padN b) b with
  | .error (e, p) => st.e = e ∧ st.p = p ∧ e ≠ 0 ∧ st.pos ≤ s.length
  | .ok p => if s.length < p + 4 then st.e = 1 ∧ st.p = s.length ∧ st.pos ≤ s.length else st = ⟨p + 4, 0, 0⟩ ∧ t = (a : Int) + M.w4 s p
theorem PadAt.res {s : List UInt8} {a b g : Nat} {st : St} (h : PadAt s a b st g) (hx : st.e ≠ 0 ∨ st.pos % 4 = 0) : OthersRes s a b (M.take s 4 st).2 ((a : Int) + M.rd M.fw (M.take s 4 st).1) := by
  unfold OthersRes
  rcases h with ⟨h1, h2, h3, h4, h5⟩ | ⟨h1, h2, h3⟩
  · have hq : st.pos % 4 = 0 := by rcases hx with hx | hx <;> omega
    have hn : M.padN st.pos = 0 := by unfold M.padN; omega
    rw [hn] at h5
    simp only [M.pad] at h5
    rw [← h5]
    simp only
    obtain ⟨x, e, p⟩ := st
    simp only at h1 h2 h3
    subst h1; subst h2
    split
    · rename_i hl
      rw [M.take_no (by simp only at hl; omega)]
      exact ⟨rfl, rfl, h3⟩
    · rename_i hl
      rw [M.take_ok (by simp only at hl; omega)]
      exact ⟨rfl, rfl⟩
  · rw [h3, M.take_bad h1]
    exact ⟨rfl, rfl, h1, h2⟩
theorem pad_succ (s : List UInt8) (a n p : Nat) : M.pad s a (n + 1) p = if s.length ≤ p then .error (1, s.length) else if M.num (M.bs s p 1) ≠ 0 then .error (15, a) else M.pad s a n (p + 1) := rfl
theorem PadAt.next {s : List UInt8} {a b g : Nat} {st : St} (h : PadAt s a b st g) (he : st.e = 0) (hn : st.pos % 4 ≠ 0) : ∃ g', g' < g ∧
    PadAt s a b (if M.num (M.take s 1 st).1 = 0 then (M.take s 1 st).2 else M.fail (M.take s 1 st).2 15 a) g' := by
  rcases h with ⟨h1, h2, h3, h4, h5⟩ | ⟨h1, _⟩
  · obtain ⟨x, e, p⟩ := st
    simp only at h1 h2 h3 h4 h5 he hn
    subst h1; subst h2
    have hk : M.padN x = M.padN (x + 1) + 1 := by unfold M.padN; omega
    rw [hk] at h5
    rw [pad_succ] at h5
    refine ⟨g - 1, by omega, ?_⟩
    by_cases hl : s.length ≤ x
    · rw [if_pos hl] at h5
      rw [M.take_no (by omega)]
      simp only [M.num, List.foldl_nil, if_true]
      exact .inr ⟨by simp, h3, h5.symm⟩
    · rw [if_neg hl] at h5
      rw [M.take_ok (by omega)]
      simp only
      by_cases hz : M.num (M.bs s x 1) = 0
      · rw [if_pos hz]
        rw [if_neg (by simpa using hz)] at h5
        exact .inl ⟨rfl, rfl, by simp only; omega, by simp only; omega, h5⟩
      · rw [if_neg hz]
        rw [if_pos (by simpa using hz)] at h5
        exact .inr ⟨by simp [M.fail], by simp [M.fail]; omega, by rw [← h5]; rfl⟩
  · exact absurd he h1
theorem fw_ok : M.fw.Ok := ⟨by decide, fun _ => .inr (.inr rfl)⟩
theorem target_word (R : Nat) (s : ByteArray) (st : St) (a : Nat) (hs : s.size ≤ 131072) (hp : st.pos ≤ s.size) (ha : a ≤ 131072) (w : World) (h : Rd w R s st) :
    Calls Tryz.prog 134 #[.pointer (some ⟨R, 0, none⟩), .int .i64 (a : Int), .agg #[.int .i64 4, .int .i64 (-2147483648), .int .i64 2147483647]] w fun x w' => Took R s (M.take s.data.toList 4 st).2 w (.int .i64 ((a : Int) + M.rd M.fw (M.take s.data.toList 4 st).1)) x w' :=
  target_any R s st M.fw a w h hs hp fw_ok ha
theorem operand_word (R : Nat) (s : ByteArray) (st : St) (hs : s.size ≤ 131072) (hp : st.pos ≤ s.size) (w : World) (h : Rd w R s st) :
    Calls Tryz.prog 133 #[.pointer (some ⟨R, 0, none⟩), .agg #[.int .i64 4, .int .i64 (-2147483648), .int .i64 2147483647]] w fun x w' => Took R s (M.take s.data.toList 4 st).2 w (.int .i64 (M.rd M.fw (M.take s.data.toList 4 st).1)) x w' :=
  operand_any R s st M.fw w h hs hp fw_ok
set_option maxRecDepth 100000 in
set_option maxHeartbeats 1000000 in
theorem others_any (R g B b : Nat) (s : ByteArray) (c : C) (w : World) (h : Mid w w R g s ⟨b, 0, 0⟩ c) (hs : s.size ≤ 131072) (hp : b ≤ s.size)
    (hkv : c.kv = .slice none 0 0) (htv : c.tv = .slice none 0 0) (hB : B ≤ w.heap.size) (hg : g < B) (hat : c.at_ ≤ 131072) :
    Calls Tryz.prog 132 #[.pointer (some ⟨R, 0, none⟩), .pointer (some ⟨g, 0, none⟩)] w fun x w' => x = .returned (.tuple #[]) ∧
      ∃ st tv t, Done w w' R g B s st { c with tv := tv } [] [t] ∧ OthersRes s.data.toList c.at_ b st t := by
  obtain ⟨i0, hi, hz0, hz1, hz2⟩ := info_parts Tryz.info3
  have hlen : s.data.toList.length = s.size := by simp
  have Hlen := hide hlen
  clear hlen
  go_enter Tryz.func132, Tryz.ntmps132
  go_wp2_with fail
  go_loopg [6] 5 (fun k _ wr => ∃ st, PadAt s.data.toList c.at_ b st k ∧ Mid w wr R g s st c)
  case atStart => exact ⟨⟨b, 0, 0⟩, .inl ⟨rfl, rfl, by rw [unhide Hlen]; exact hp, by simp only; unfold M.padN; omega, rfl⟩, h⟩
  case round =>
    obtain ⟨st, hpad, hm⟩ := hrel
    have hpos : st.pos ≤ s.size := by have := hpad.pos; rwa [unhide Hlen] at this
    have Hpad := hide hpad
    clear hpad
    go_wp2_with fail
    refine (Good_any R s st wr hm.rd).mono ?_
    rintro e w1 ⟨rfl, hw⟩
    subst w1
    by_cases hx : st.e = 0 ∧ st.pos % 4 ≠ 0
    · obtain ⟨hx1, hx2⟩ := hx
      rw [decide_eq_true hx1]
      have hx3 : (((st.pos : Int) % 4) != 0) = true := by rw [bne_iff_ne]; omega
      obtain ⟨g', hg', hn⟩ := (unhide Hpad).next hx1 hx2
      have hb := M.num_le (M.take_len s.data.toList 1 st)
      have CU := fun w1 h1 => Uint8_any R s st w1 h1 hs hpos
      obtain ⟨T, s1, hT⟩ : ∃ T s1, M.take s.data.toList 1 st = (T, s1) := ⟨_, _, rfl⟩
      rw [hT] at hb hn
      simp only [hT] at CU
      simp only at hb hn CU
      obtain ⟨x, hxx⟩ : ∃ x, x = M.num T := ⟨_, rfl⟩
      rw [← hxx] at hb hn
      simp only [← hxx] at CU
      have Hn := hide hn
      have HU := hide CU
      clear hn hx1 hx2 Hpad CU hT hxx
      go_wp2_with fail
      refine (At_any R s st wr hm.rd).mono ?_
      rintro e w1 ⟨rfl, hw⟩
      subst w1
      go_wp2_with fail
      refine (unhide HU _ hm.rd).mono ?_
      rintro e w1 ⟨rfl, hr1, hg1⟩
      have hm1 := hm.take hr1 hg1
      clear hm hr1 hg1 HU
      by_cases hz : x = 0
      · have hn1 := unhide Hn
        rw [if_pos hz] at hn1
        subst hz
        go_wp2
        go_roundg g'
        case measure => exact hg'
        case rel => exact ⟨s1, hn1, hm1⟩
      · have hn1 := unhide Hn
        rw [if_neg hz] at hn1
        have hz1 : (((x : Nat) : Int) != 0) = true := by rw [bne_iff_ne]; omega
        have Hn1 := hide hn1
        clear hn1 Hn hz
        have i0 := hm1.ib.cell 0
        simp [C.cells] at i0
        have hmd := hm1.drew
        go_wp2_with fail
        go_region_with (go_at_call 104; refine (Fail_any R s s1 15 c.at_ _ hmd.rd).mono ?_; rintro e w5 ⟨rfl, hr5, hg5, hz5⟩)
        have hm5 := hmd.take hr5 hg5
        clear hmd hr5 hg5 hm1
        go_wp2
        go_roundg g'
        case measure => exact hg'
        case rel => exact ⟨_, unhide Hn1, hm5⟩
    · have hxo : st.e ≠ 0 ∨ st.pos % 4 = 0 := by
        by_cases h1 : st.e = 0
        · exact .inr (by have := not_and.1 hx h1; omega)
        · exact .inl h1
      have hres := (unhide Hpad).res hxo
      have CT := target_word R s st c.at_ hs hpos hat
      obtain ⟨T, s1, hT⟩ : ∃ T s1, M.take s.data.toList 4 st = (T, s1) := ⟨_, _, rfl⟩
      rw [hT] at hres
      simp only [hT] at CT
      simp only at hres CT
      obtain ⟨x, hxx⟩ : ∃ x, x = (c.at_ : Int) + M.rd M.fw T := ⟨_, rfl⟩
      rw [← hxx] at hres
      simp only [← hxx] at CT
      have Hres := hide hres
      have HT := hide CT
      clear hres CT hT hxx Hpad hx
      have hmd := hm.drew
      have k0 := hm.ib.cell 7
      have i0c := hm.ib.cell 0
      obtain ⟨v0, v1, v2⟩ := hm.wd
      simp [C.cells, htv] at k0 i0c
      by_cases h1 : st.e = 0
      · have h2 : st.pos % 4 = 0 := by rcases hxo with h | h <;> omega
        have hx3 : (((st.pos : Int) % 4) != 0) = false := by rw [bne_eq_false_iff_eq]; omega
        rw [decide_eq_true h1]
        clear h1 h2 hxo
        go_wp2_with fail
        refine (At_any R s st wr hm.rd).mono ?_
        rintro e w1 ⟨rfl, hw⟩
        subst w1
        go_wp2_with fail
        go_region_law (first
          | (refine step_call rfl 134 #[.tmp 34, .tmp 38, .tmp 39] #[148, 3, 156] rfl #[.pointer (some ⟨R, 0, none⟩), .int .i64 (c.at_ : Int), .agg #[.int .i64 4, .int .i64 (-2147483648), .int .i64 2147483647]] (by simp [Act.eval]) enter134 (unhide HT _ hmd.rd) ?_; rintro e w5 ⟨rfl, hr5, hg5⟩; refine ⟨_, rfl, ?_⟩; have hm5 := hmd.take hr5 hg5; have k5 := hm5.ib.cell 7; simp [C.cells, htv] at k5; have hm6 := hm5.alloc (.cells #[.int .i64 x] 3); have k6 := hm6.ib.cell 7; simp [C.cells, htv] at k6; clear hr5 hg5 hm5)
          | (refine step_append_at rfl (.tmp 33) (.tmp 41) 110 rfl B 3 i0 (.int .i64 0) 1 8 Tryz.underlying110 hi hz0 hz1 hz2 rfl (by decide) (.slice none 0 0) 0 [] (by simp [Act.eval]) (World.ownsRow_nil _ _ _ _) ⟨w5.heap.size, 0, none⟩ 1 1 [.int .i64 x] (by simp [Act.eval]) rfl (cell_one_new _ _ _) (ints_oneCell .i64 [x]) (by unfold maxLen; omega) (by omega) (Nat.le_trans hB hm6.kp.size) ?_; intro v' w7 hown7 hgrow7 hloc7; obtain ⟨g7, c7, rfl⟩ := own_form hown7 (by omega); have hm7 := hm6.grow hgrow7 (by simp [Value.ownBlock]) (by simp [Value.ownBlock]) (by simp [Value.ownBlock]) (fun _ e => by cases e); have k7 := hm7.ib.cell 7; have f7 := hm7.ib.frozen 7; simp [C.cells, htv] at k7; clear hgrow7 hm6))
        all_goals
          have hm8 := hm7.set 7 _ (hm7.ib.setT (.slice (some ⟨g7, 0, none⟩) 1 c7))
          have ho8 : Own2 (w7.setCell ⟨g, 7, none⟩ (.slice (some ⟨g7, 0, none⟩) 1 c7)) B c.kv (.slice (some ⟨g7, 0, none⟩) 1 c7) [] [x] := by
            rw [hkv]
            exact ⟨World.ownsRow_nil _ _ _ _, row_kept hown7 (grown_set w7 g 7 _) (fun b e e2 => by cases e; have := (row_in hown7 e2).1; omega), fun _ e => by cases e⟩
          clear hm7 hown7 hloc7
          go_wp2
          go_end0
          exact ⟨rfl, s1, _, x, ⟨hm8, ho8⟩, unhide Hres⟩
      · rw [decide_eq_false h1]
        clear h1 hxo
        go_wp2_with fail
        go_region_law (first
          | (refine step_call rfl 134 #[.tmp 34, .tmp 38, .tmp 39] #[148, 3, 156] rfl #[.pointer (some ⟨R, 0, none⟩), .int .i64 (c.at_ : Int), .agg #[.int .i64 4, .int .i64 (-2147483648), .int .i64 2147483647]] (by simp [Act.eval]) enter134 (unhide HT _ hmd.rd) ?_; rintro e w5 ⟨rfl, hr5, hg5⟩; refine ⟨_, rfl, ?_⟩; have hm5 := hmd.take hr5 hg5; have k5 := hm5.ib.cell 7; simp [C.cells, htv] at k5; have hm6 := hm5.alloc (.cells #[.int .i64 x] 3); have k6 := hm6.ib.cell 7; simp [C.cells, htv] at k6; clear hr5 hg5 hm5)
          | (refine step_append_at rfl (.tmp 33) (.tmp 41) 110 rfl B 3 i0 (.int .i64 0) 1 8 Tryz.underlying110 hi hz0 hz1 hz2 rfl (by decide) (.slice none 0 0) 0 [] (by simp [Act.eval]) (World.ownsRow_nil _ _ _ _) ⟨w5.heap.size, 0, none⟩ 1 1 [.int .i64 x] (by simp [Act.eval]) rfl (cell_one_new _ _ _) (ints_oneCell .i64 [x]) (by unfold maxLen; omega) (by omega) (Nat.le_trans hB hm6.kp.size) ?_; intro v' w7 hown7 hgrow7 hloc7; obtain ⟨g7, c7, rfl⟩ := own_form hown7 (by omega); have hm7 := hm6.grow hgrow7 (by simp [Value.ownBlock]) (by simp [Value.ownBlock]) (by simp [Value.ownBlock]) (fun _ e => by cases e); have k7 := hm7.ib.cell 7; have f7 := hm7.ib.frozen 7; simp [C.cells, htv] at k7; clear hgrow7 hm6))
        all_goals
          have hm8 := hm7.set 7 _ (hm7.ib.setT (.slice (some ⟨g7, 0, none⟩) 1 c7))
          have ho8 : Own2 (w7.setCell ⟨g, 7, none⟩ (.slice (some ⟨g7, 0, none⟩) 1 c7)) B c.kv (.slice (some ⟨g7, 0, none⟩) 1 c7) [] [x] := by
            rw [hkv]
            exact ⟨World.ownsRow_nil _ _ _ _, row_kept hown7 (grown_set w7 g 7 _) (fun b e e2 => by cases e; have := (row_in hown7 e2).1; omega), fun _ e => by cases e⟩
          clear hm7 hown7 hloc7
          go_wp2
          go_end0
          exact ⟨rfl, s1, _, x, ⟨hm8, ho8⟩, unhide Hres⟩
end Go.Proofs.YtddhlphbbiihjaaGreatDoor.Dc
