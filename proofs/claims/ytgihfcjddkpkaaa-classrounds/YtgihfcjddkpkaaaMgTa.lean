/-
  The reference: numbers as bytes; lists that are the same.
  Bytes that were made of a text: their row bears a mark behind its end, and is appended to as any other.
-/
import Derived.Test.YtgihfcjddkpkaaaWo
import Derived.Lib.AppendStr
import Derived.Lib.FrozenHead
namespace Go.Proofs.Ytgihfcjddkpkaaa
open Go.RowKit Go.Maps
theorem cat_text (a b : List UInt8) : (⟨a.toArray⟩ : ByteArray) ++ ⟨b.toArray⟩ = ⟨(a ++ b).toArray⟩ := by
  apply ByteArray.ext
  simp
theorem bytes_new (w : World) (l : List UInt8) (C : Array Value) (n : Nat) (hC : C = (l.map fun b => Value.int .u8 (b.toNat : Int)).toArray) (hn : n = l.length) :
    Sem.run Try.prog (convert 67 9 (.slice (some ⟨w.heap.size, 0, none⟩) n n)) (w.alloc (.cells C 5)) = .ok (.string ⟨l.toArray⟩) (w.alloc (.cells C 5)) := by
  subst hn
  refine run_convert_bytes_back (P := Try.prog) (w.alloc (.cells C 5)) 67 9 5 ⟨w.heap.size, 0, none⟩ l.length l Try.underlying67 Try.underlying5 Try.underlying9 fun j hj => ?_
  have : (⟨w.heap.size, 0, none⟩ : Addr).add j = ⟨w.heap.size, j, none⟩ := by simp [Addr.add]; omega
  rw [this, World.cell?_alloc_at _ _ _ _ rfl, hC]
  simp [hj]
theorem of_lt {n : Nat} (h : n < 256) : ((UInt8.ofNat n).toNat : Int) = (n : Int) := by simp only [UInt8.toNat_ofNat']; omega
theorem big_back (x n k : Nat) (hk : k < n) : (M.big x n).drop (n - (k + 1)) = UInt8.ofNat (x / 256 ^ k % 256) :: (M.big x n).drop (n - k) := by
  induction n generalizing x k with
  | zero => omega
  | succ n ih =>
    show (M.big (x / 256) n ++ [UInt8.ofNat (x % 256)]).drop _ = _ :: (M.big (x / 256) n ++ [UInt8.ofNat (x % 256)]).drop _
    have hl := M.big_len (x / 256) n
    cases k with
    | zero =>
      rw [show n + 1 - (0 + 1) = n by omega, Nat.sub_zero, List.drop_append_of_le_length (by omega), List.drop_of_length_le (by omega), List.drop_of_length_le (by simp; omega)]
      simp
    | succ k =>
      rw [show n + 1 - (k + 1 + 1) = n - (k + 1) by omega, show n + 1 - (k + 1) = n - k by omega, List.drop_append_of_le_length (by omega), List.drop_append_of_le_length (by omega), ih (x / 256) k (by omega), Nat.div_div_eq_div_mul, ← Nat.pow_succ']
      rfl
set_option maxRecDepth 100000 in
set_option maxHeartbeats 1000000 in
theorem Big_any (x n : Nat) (w : World) (hn : n ≤ 8) (hx : x < 2 ^ 64) :
    Calls Try.prog 31 #[.int .u64 (x : Int), .int .i64 (n : Int)] w fun e w' => e = .returned (.string ⟨(M.big x n).toArray⟩) ∧ Below w.heap.size w w' := by
  have hx2 : x ≤ 18446744073709551615 := by omega
  have Hx := hide hx
  clear hx
  go_enter Try.func31, Try.ntmps31
  go_wp2_with fail
  go_loopw [0, 1, 5] (fun y i v wr => ∃ k : Nat, k ≤ n ∧ i = .int .i64 ((n : Int) - (k : Int)) ∧ y = .int .u64 ((x / 256 ^ k : Nat) : Int) ∧ v = .string ⟨((M.big x n).drop (n - k)).toArray⟩ ∧ Below w.heap.size w wr) (fun _ i _ _ => (intOf i).toNat)
  case atStart => exact ⟨0, Nat.zero_le _, by simp, by simp, by rw [Nat.sub_zero, List.drop_of_length_le (by rw [M.big_len]; omega)], Below.refl _ _⟩
  case round =>
    obtain ⟨k, hk, rfl, rfl, rfl, hbe⟩ := hrel
    have hyx : x / 256 ^ k ≤ 18446744073709551615 := Nat.le_trans (Nat.div_le_self _ _) hx2
    by_cases hlt : k < n
    · have hbb := big_back x n k hlt
      have hdv : x / 256 ^ (k + 1) = x / 256 ^ k / 256 := by rw [Nat.pow_succ, Nat.div_div_eq_div_mul]
      have hbl : ((M.big x n).drop (n - k)).length ≤ 8 := by rw [List.length_drop, M.big_len]; omega
      obtain ⟨y, ey⟩ : ∃ y, y = x / 256 ^ k := ⟨_, rfl⟩
      obtain ⟨D, eD⟩ : ∃ D, D = (M.big x n).drop (n - k) := ⟨_, rfl⟩
      rw [← ey] at hyx hbb hdv ⊢
      rw [← eD] at hbb hbl ⊢
      have hcv := bytes_new wr [UInt8.ofNat (y % 256)] #[.int .u8 ((y : Int) % 256)] 1 (by simp only [List.map_cons, List.map_nil]; rw [of_lt (show y % 256 < 256 by omega)]; rfl) rfl
      have hcat := cat_text [UInt8.ofNat (y % 256)] D
      have Hbb := hide hbb
      have Hdv := hide hdv
      have Hcat := hide hcat
      clear ey eD hbb hdv hcat
      have hsz := hbe.size
      go_wp2
      go_roundw
      case rel => exact ⟨k + 1, by omega, by simp; omega, by rw [unhide Hdv]; rfl, by rw [unhide Hcat, unhide Hbb]; rfl, hbe.alloc hsz _⟩
      case measure => simp [intOf]; omega
    · have hkn : k = n := by omega
      subst hkn
      rw [Nat.sub_self, List.drop_zero]
      go_wp2
      go_ret
      exact ⟨rfl, hbe⟩
theorem M.sh_full {A B : List T} (h : ∀ j, j < A.length → A.getD j T.zero = B.getD j T.zero) (hl : A.length = B.length) : M.sh A B = A.length := M.sh_all (Nat.le_refl _) (by omega) (.inl rfl) h
set_option maxRecDepth 100000 in
set_option maxHeartbeats 2000000 in
theorem same_any (v u : Value) (A B : List T) (w : World) (h1 : TIn w v A) (h2 : TIn w u B) (hA : A.length ≤ 1048576) : Calls Try.prog 33 #[v, u] w fun x w' => x = .returned (.bool (decide (A.length = B.length ∧ M.sh A B = A.length))) ∧ ∃ n, w' = w.drewN n := by
  obtain ⟨a1, c1, rfl, hc1⟩ := h1
  obtain ⟨a2, c2, rfl, hc2⟩ := h2
  have H1 := hide hc1
  have H2 := hide hc2
  clear hc1 hc2
  obtain ⟨r, hr⟩ : ∃ r, r = decide (A.length = B.length ∧ M.sh A B = A.length) := ⟨_, rfl⟩
  rw [← hr]
  have Hr := hide hr
  clear hr
  by_cases hl : A.length = B.length
  · rw [← hl]
    have hll : (((A.length : Nat) : Int) != ((A.length : Nat) : Int)) = false := by simp
    have Hl := hide hl
    clear hl
    go_enter Try.func33, Try.ntmps33
    go_wp2_with fail
    go_loopw [13] (fun i wr => ∃ k n : Nat, k ≤ A.length ∧ i = .int .i64 k ∧ Hid (∀ j, j < k → A.getD j T.zero = B.getD j T.zero) ∧ wr = w.drewN n) (fun i _ => A.length - (intOf i).toNat)
    case atStart => exact ⟨0, 0, Nat.zero_le _, rfl, fun _ h => by omega, rfl⟩
    case round =>
      obtain ⟨k, n, hk, rfl, He, rfl⟩ := hrel
      by_cases hlt : k < A.length
      · have ki : (k : Int) < (A.length : Int) := by omega
        have hkB : k < B.length := by have := unhide Hl; omega
        obtain ⟨b1, o1, rfl, q1⟩ := unhide H1 (by rintro rfl; simp at hlt)
        obtain ⟨b2, o2, rfl, q2⟩ := unhide H2 (by rintro rfl; simp at hkB)
        have r0 := q1 k hlt 0 (by omega)
        have r1 := q1 k hlt 1 (by omega)
        have r2 := q1 k hlt 2 (by omega)
        have s0 := q2 k hkB 0 (by omega)
        have s1 := q2 k hkB 1 (by omega)
        have s2 := q2 k hkB 2 (by omega)
        obtain ⟨x, hx⟩ : ∃ x, x = A.getD k T.zero := ⟨_, rfl⟩
        obtain ⟨y, hy⟩ : ∃ y, y = B.getD k T.zero := ⟨_, rfl⟩
        rw [← hx] at r0 r1 r2
        rw [← hy] at s0 s1 s2
        simp [T.cells] at r0 r1 r2 s0 s1 s2
        by_cases hxy : x = y
        · subst hxy
          have he2 : ∀ j, j < k + 1 → A.getD j T.zero = B.getD j T.zero := fun j hj => by
            by_cases e : j = k
            · rw [e, ← hx, ← hy]
            · exact unhide He j (by omega)
          have He2 := hide he2
          clear q1 q2 hx hy H1 H2 he2
          go_wp2_with fail
          go_quiet (fail)
          go_wp2
          go_roundw
          case rel => exact ⟨k + 1, _, by omega, by go_num, He2, rfl⟩
          case measure => simp [intOf]; omega
        · have hsh : M.sh A B = k := M.sh_at hlt hkB (unhide He) (by rw [← getD_eq, ← getD_eq, ← hx, ← hy]; exact hxy)
          have hd : r = false := by rw [unhide Hr, decide_eq_false_iff_not]; omega
          have Hd := hide hd
          have heq : x.eqb y = false := by rw [Bool.eq_false_iff]; exact fun e => hxy ((T.eqb_iff x y).1 e)
          have hne := agg_neq x y
          rw [heq, Bool.not_false] at hne
          clear q1 q2 hx hy H1 H2 hsh heq hxy hd
          go_wp2_with fail
          go_quiet (fail)
          go_wp2
          go_ret
          exact ⟨by rw [unhide Hd]; rfl, _, World.drewN_drewN _ _ _⟩
      · have hkn : k = A.length := by omega
        subst hkn
        have ki : ¬ (A.length : Int) < (A.length : Int) := by omega
        have hd : r = true := by rw [unhide Hr, decide_eq_true_iff]; exact ⟨unhide Hl, M.sh_full (unhide He) (unhide Hl)⟩
        have Hd := hide hd
        clear hd
        go_wp2
        go_ret
        exact ⟨by rw [unhide Hd]; rfl, _, rfl⟩
  · have hll : (((A.length : Nat) : Int) != ((B.length : Nat) : Int)) = true := by rw [bne_iff_ne]; omega
    have hd : r = false := by rw [unhide Hr, decide_eq_false_iff_not]; omega
    subst hd
    clear hl
    go_enter Try.func33, Try.ntmps33
    go_wp2
    go_ret
    exact ⟨rfl, 0, rfl⟩
end Go.Proofs.Ytgihfcjddkpkaaa
namespace Go.Proofs.Ytgihfcjddkpkaaa
open Go.RowKit
/-- No cell of a row is barred. -/
def Free (fz : Nat × Nat) (c : Nat) : Prop := ∀ j, j < c → ¬ (fz.1 ≤ j ∧ j < fz.2)
/-- Bytes of one's own, whatever mark lies behind the row's end. -/
def Ot (w : World) (B : Nat) (v : Value) (l : List UInt8) : Prop :=
  ∃ g cap cur fz, v = .slice (some ⟨g, 0, none⟩) l.length cap ∧ B ≤ g ∧ w.heap[g]? = some (.cells cur 5 fz) ∧ Free fz cap ∧ l.length ≤ cap ∧ cap ≤ maxLen ∧ cur.size = cap ∧ cur.toList.take l.length = U8 l
theorem Ot.kept {w w' : World} {B : Nat} {v : Value} {l : List UInt8} (h : Ot w B v l) (hb : Below w.heap.size w w') : Ot w' B v l := by
  obtain ⟨g, cap, cur, fz, h1, h2, h3, h4⟩ := h
  exact ⟨g, cap, cur, fz, h1, h2, by rw [hb.block g (Array.getElem?_eq_some_iff.1 h3).1]; exact h3, h4⟩
theorem U8_str (t : List UInt8) : Lib.strCells ⟨t.toArray⟩ = U8 t := by simp [Lib.strCells, U8]
theorem U8_len (t : List UInt8) : (U8 t).length = t.length := by simp [U8]
theorem store_free (P : Program) (g o : Nat) (t : TypeId) (fz : Nat × Nat) (vs : List Value) : ∀ (i : Nat) (cur : Array Value) (w : World), w.heap[g]? = some (.cells cur t fz) → Free fz cur.size → o + i + vs.length ≤ cur.size → (∀ v ∈ vs, v.oneCell' = true) →
    (storeCells ⟨g, o, none⟩ vs i).run P w = .ok () (w.setRow g (cur.toList.take (o + i) ++ vs ++ cur.toList.drop (o + i + vs.length)).toArray) := by
  induction vs with
  | nil =>
    intro i cur w hg _ _ _
    simp only [storeCells, List.append_nil, List.length_nil, Nat.add_zero, List.take_append_drop, Array.toArray_toList]
    rw [setRow_self w g cur t fz hg]
    rfl
  | cons v rest ih =>
    intro i cur w hg hfz hl h1
    rw [List.length_cons] at hl
    have hi : o + i < cur.size := by omega
    have hadd : (⟨g, o, none⟩ : Addr).add i = ⟨g, o + i, none⟩ := Addr.add_lit ..
    have hcell : w.cell? ⟨g, o + i, none⟩ = some cur[o + i] := by rw [cell_of_row w g (o + i) cur t fz hg]; simp [hi]
    have hfro : w.frozen? ⟨g, o + i, none⟩ = false := by
      have hn := hfz (o + i) hi
      unfold World.frozen?
      simp only [hg]
      rw [Bool.and_eq_false_iff, decide_eq_false_iff_not, decide_eq_false_iff_not]
      omega
    have hst : (store ((⟨g, o, none⟩ : Addr).add i) v).run P w = .ok () (w.setRow g (cur.setIfInBounds (o + i) v)) := by
      rw [hadd, run_store P w _ v _ (h1 v (by simp)), hcell]
      simp [hfro, setCell_eq_setRow w g (o + i) cur t fz v hg]
    have hih := ih (i + 1) (cur.setIfInBounds (o + i) v) (w.setRow g (cur.setIfInBounds (o + i) v)) (setRow_heap w g cur _ t _ hg) (by simpa using hfz) (by rw [Array.size_setIfInBounds]; omega) (fun x hx => h1 x (by simp [hx]))
    simp only [storeCells, Sem.run_bind, hst, Result.andThen_ok, hih, setRow_setRow]
    congr 3
    have e := list_seg_step cur.toList (o + i) v rest (by simpa using (by omega : o + i + (rest.length + 1) ≤ cur.size))
    simpa [Array.toList_setIfInBounds, Nat.add_assoc] using e
theorem run_append_free {P : Program} (w : World) (t u ty : TypeId) (i : TypeInfo) (ht : P.underlying t = some (.slice 5)) (hu : P.underlying u = some .string) (hi : P.info? 5 = some i) (hz : i.zero = some (.int .u8 0)) (hsize : i.size = 1) (hby : i.bytes = 1)
    (B : Nat) (v : Value) (l s : List UInt8) (h : Ot w B v l) (hl : l.length + s.length ≤ 4000000) (hB : B ≤ w.heap.size) :
    ∃ v' w', (Builtin.append_ #[t, u] ty #[v, .string ⟨s.toArray⟩]).run P w = .ok v' w' ∧ Ot w' B v' (l ++ s) ∧ w.grownBy w' v.ownBlock := by
  obtain ⟨g, cap, cur, fz, rfl, hbg, hg, hfz, hnc, hcm, hcs, htake⟩ := h
  have hss : (⟨s.toArray⟩ : ByteArray).size = s.length := by simp [ByteArray.size]
  by_cases hroom : l.length + s.length ≤ cap
  · have hf := Lib.run_firstCells_string (P := P) w 1 ⟨s.toArray⟩
    have hst := store_free P g l.length 5 fz (U8 s) 0 cur w hg (by rw [hcs]; exact hfz) (by rw [U8_len]; omega) (by intro x hx; simp [U8] at hx; obtain ⟨b, _, rfl⟩ := hx; rfl)
    simp only [Nat.add_zero, U8_len] at hst
    rw [U8_str] at hf
    have hr : (Builtin.append_ #[t, u] ty #[.slice (some ⟨g, 0, none⟩) l.length cap, .string ⟨s.toArray⟩]).run P w =
      .ok (.slice (some ⟨g, 0, none⟩) (l.length + s.length) cap) (w.setRow g (cur.toList.take l.length ++ U8 s ++ cur.toList.drop (l.length + s.length)).toArray) := by
      rw [hss] at hf
      simp [Builtin.append_, run_underlying ht, run_underlying hu, sizeOf, typeInfo, hi, hsize, Builtin.lenOf, hss, hroom, hf, Addr.add_lit, hst]
    refine ⟨_, _, hr, ⟨g, cap, _, fz, by rw [List.length_append], hbg, setRow_heap w g cur _ 5 _ hg, hfz, by rw [List.length_append]; exact hroom, hcm, ?_, ?_⟩, ⟨rfl, rfl, rfl, by simp, fun k _ hk => setRow_other w g k _ (fun e => hk (by simp [Value.ownBlock, e]))⟩⟩
    · simp only [List.size_toArray, List.length_append, List.length_take, List.length_drop, Array.length_toList, U8_len]
      omega
    · have e1 : (U8 l ++ U8 s).length = (l ++ s).length := by rw [List.length_append, U8_len, U8_len, List.length_append]
      show ((cur.toList.take l.length ++ U8 s ++ cur.toList.drop (l.length + s.length))).take (l ++ s).length = _
      rw [htake, ← e1, List.take_left, U8_append]
  · have hxs : ∀ j x, (U8 l)[j]? = some x → w.cell? ((⟨g, 0, none⟩ : Addr).add j) = some x := by
      intro j x hx
      rw [Addr.add_lit, Nat.zero_add, cell_of_row w g j cur 5 fz hg]
      rw [← htake, List.getElem?_take] at hx
      split at hx
      · simpa using hx
      · cases hx
    have hr := Lib.run_append_grow_string (P := P) w t u ty 5 i (.int .u8 0) ht hu hi hz ⟨g, 0, none⟩ l.length cap (U8 l) (by rw [hsize, U8_len, Nat.mul_one]) hxs ⟨s.toArray⟩ (by rw [hss]; omega) (by rw [hss]; omega) (by rw [hby, hss]; exact growslice_fits (by omega) (by omega))
    rw [hss, U8_str] at hr
    have hge := grownCap_ge w (l.length + s.length) cap 5
    have hcm2 : grownCap w (l.length + s.length) cap 5 ≤ maxLen := grownCap_le_maxLen w (l.length + s.length) cap 5 (by unfold maxLen; omega)
    refine ⟨_, _, hr, ⟨w.heap.size, _, _, (0, 0), by rw [List.length_append], hB, heap_alloc_new w.drew _, fun j _ => by omega, by rw [List.length_append]; exact hge, hcm2, ?_, ?_⟩, ⟨rfl, rfl, rfl, by simp, fun k hk _ => heap_alloc_old w.drew _ hk⟩⟩
    · have hz1 : (Value.int IntKind.u8 0).cells.size = 1 := rfl
      simp only [Array.size_append, List.size_toArray, size_zeroCells, hz1, U8_len]
      omega
    · have e1 : (U8 l ++ U8 s).length = (l ++ s).length := by rw [List.length_append, U8_len, U8_len, List.length_append]
      simp only [Array.toList_append]
      rw [← e1, List.take_left, U8_append]
theorem wpList_append_free {P : Program} (w : World) {ops : Array Oper} {rest : List Oper} {o : Oper} {a : Act} {Q : Exit → Act → World → Prop} (hgd : o.guard = none) (sl x : Operand) (t u : TypeId)
    (ho : o.op = .call { callee := .builtin .append, args := #[sl, x], argTypes := #[t, u] })
    (i : TypeInfo) (ht : P.underlying t = some (.slice 5)) (hu : P.underlying u = some .string) (hi : P.info? 5 = some i) (hz : i.zero = some (.int .u8 0)) (hsize : i.size = 1) (hby : i.bytes = 1)
    (B : Nat) (v : Value) (l s : List UInt8) (hs : a.eval sl = v) (hx : a.eval x = .string ⟨s.toArray⟩) (h : Ot w B v l) (hl : l.length + s.length ≤ 4000000) (hB : B ≤ w.heap.size)
    (hk : ∀ v' w', Ot w' B v' (l ++ s) → w.grownBy w' v.ownBlock → wpList P ops Q rest (a.put o.dst v') w') : wpList P ops Q (o :: rest) a w := by
  refine wpList_plain hgd fun K hK => ?_
  obtain ⟨v', w', hr, h2, h3⟩ := run_append_free (P := P) w t u o.type i ht hu hi hz hsize hby B v l s h hl hB
  unfold Oper.wp execOp
  simp only [ho, resolve, invoke, builtin, Sem.run_bind, Sem.run_pure, Result.andThen_ok, List.map_toArray, List.map_cons, List.map_nil, hs, hx, hr]
  exact hK _ _ (hk v' w' h2 h3)
theorem Ot.string {w : World} {B : Nat} {v : Value} {l : List UInt8} (h : Ot w B v l) : Sem.run Try.prog (convert 67 9 v) w = .ok (.string ⟨l.toArray⟩) w := by
  obtain ⟨g, cap, cur, fz, rfl, hbg, hg, hfz, hnc, hcm, hcs, htake⟩ := h
  refine run_convert_bytes_back (P := Try.prog) w 67 9 5 ⟨g, 0, none⟩ cap l Try.underlying67 Try.underlying5 Try.underlying9 fun j hj => ?_
  rw [Addr.add_lit, Nat.zero_add, cell_of_row w g j cur 5 fz hg]
  have : (U8 l)[j]? = some (.int .u8 ((l[j]).toNat : Int)) := by simp [U8, hj]
  rw [← htake, List.getElem?_take, if_pos hj] at this
  simpa using this
/-- A text, made bytes. -/
theorem of_text (s : List UInt8) (w : World) (hs : s.length ≤ 4000000) : ∃ v w', Sem.run Try.prog (convert 9 67 (.string ⟨s.toArray⟩)) w = .ok v w' ∧ Ot w' w.heap.size v s ∧ Below w.heap.size w w' := by
  have hss : (⟨s.toArray⟩ : ByteArray).size = s.length := by simp [ByteArray.size]
  have hr := run_bytes_of_string (P := Try.prog) w 9 67 5 ⟨s.toArray⟩ Try.underlying9 Try.underlying67 Try.underlying5
  refine ⟨_, _, hr, ?_, ?_⟩
  · rw [hss]
    have hge := grownCap_ge w s.length 0 5
    have hcm2 : grownCap w s.length 0 5 ≤ maxLen := grownCap_le_maxLen w s.length 0 5 (by unfold maxLen; omega)
    have hsz : (bytesRow ⟨s.toArray⟩ (grownCap w s.length 0 5)).size = grownCap w s.length 0 5 := by
      unfold bytesRow
      simp [hss]
      omega
    refine ⟨w.heap.size, _, _, _, rfl, Nat.le_refl _, heap_alloc_new w.drew _, fun j hj => ?_, hge, hcm2, hsz, ?_⟩
    · rw [hsz]; simp only; omega
    · unfold bytesRow
      have e1 : (U8 s).length = s.length := U8_len s
      simp only [Array.toList_append, Array.toList_map]
      show (U8 s ++ _).take s.length = _
      rw [← e1, List.take_left]
  · exact ⟨rfl, rfl, rfl, by simp, fun k hk => heap_alloc_old w.drew _ hk⟩
end Go.Proofs.Ytgihfcjddkpkaaa
