/-
  twin: a copy of all.
-/
import Derived.Test.YtbgpkkbejbidlacWe
import Derived.Test.YtbgpkkbejbidlacRp
namespace Go.Proofs.Ytbgpkkbejbidlac
open Go.RowKit
/-- append([]VType(nil), xs...): a copy. -/
theorem run_copyG (w : World) (ty : TypeId) (x : Value) (xs : List T) (h : TIn w x xs) (hl : xs.length ≤ 4398046511104) (B : Nat) (hB : B ≤ w.heap.size) :
    ∃ v' w', (Builtin.append_ #[23, 23] ty #[.slice none 0 0, x]).run Try.prog w = .ok v' w' ∧ w'.ownsRow B 76 3 v' xs.length (TC xs) ∧ Below w.heap.size w w' := by
  obtain ⟨i, hi, hz, hsize, hby⟩ := info_parts Try.info76
  obtain ⟨ad, cap, rfl, hc⟩ := h
  by_cases h0 : xs = []
  · subst h0
    refine ⟨.slice none 0 0, w, ?_, World.ownsRow_nil _ _ _ _, Below.refl _ _⟩
    cases ad <;> simp [Builtin.append_, run_underlying Try.underlying23, sizeOf, typeInfo, hi, Builtin.lenOf, Builtin.firstCells, loadCells, loadCellsFrom]
  · obtain ⟨b, o, rfl, hk⟩ := hc h0
    obtain ⟨v', w', hr, h2, h3, _⟩ := run_append_own_at (P := Try.prog) w B 23 ty 76 i (.agg #[.int .u8 0, .string ⟨#[]⟩, .int .i64 0]) 3 32 Try.underlying23 hi hz hsize hby rfl (by decide) (.slice none 0 0) 0 [] (World.ownsRow_nil _ _ _ _) ⟨b, o, none⟩ xs.length cap (TC xs) (TC_length xs)
      (fun j u hj => by
        rw [Addr.add_lit]
        have hjl : j < xs.length * 3 := by rw [← TC_length]; exact (List.getElem?_eq_some_iff.1 hj).1
        have e := TC_at xs (j / 3) (j % 3) (by omega) (by omega)
        rw [show j / 3 * 3 + j % 3 = j by omega, hj] at e
        have := hk (j / 3) (by omega) (j % 3) (by omega)
        rw [← e, show o + j / 3 * 3 + j % 3 = o + j by omega] at this
        exact this)
      (TC_one xs) (by unfold maxLen; omega) (by omega) hB
    rw [Nat.zero_add, List.nil_append] at h2
    exact ⟨v', w', hr, h2, ⟨h3.os, h3.tape, h3.output, h3.size, fun k hk => h3.block k hk (by simp [Value.ownBlock])⟩⟩
theorem wpList_copyG (w : World) {ops : Array Oper} {rest : List Oper} {o : Oper} {a : Act} {Q : Exit → Act → World → Prop} (hgd : o.guard = none) (s x : Operand)
    (ho : o.op = .call { callee := .builtin .append, args := #[s, x], argTypes := #[23, 23] })
    (v : Value) (xs : List T) (hs : a.eval s = .slice none 0 0) (hx : a.eval x = v) (h : TIn w v xs) (hl : xs.length ≤ 4398046511104) (B : Nat) (hB : B ≤ w.heap.size)
    (hk : ∀ v' w', w'.ownsRow B 76 3 v' xs.length (TC xs) → Below w.heap.size w w' → wpList Try.prog ops Q rest (a.put o.dst v') w') : wpList Try.prog ops Q (o :: rest) a w := by
  refine wpList_plain hgd fun K hK => ?_
  obtain ⟨v', w', hr, h2, h3⟩ := run_copyG w o.type v xs h hl B hB
  unfold Oper.wp execOp
  simp only [ho, resolve, invoke, builtin, Sem.run_bind, Sem.run_pure, Result.andThen_ok, List.map_toArray, List.map_cons, List.map_nil, hs, hx, hr]
  exact hK _ _ (hk v' w' h2 h3)
theorem own_base {w : World} {B B' e k n : Nat} {v : Value} {xs : List Value} (h : w.ownsRow B e k v n xs) (hB : B' ≤ B) : w.ownsRow B' e k v n xs :=
  ⟨h.1, h.2.imp id fun ⟨g, cap, cur, h1, h2, h3⟩ => ⟨g, cap, cur, h1, Nat.le_trans hB h2, h3⟩⟩
set_option maxRecDepth 100000 in
set_option maxHeartbeats 4000000 in
theorem twin_any (L : List J) (v : Value) (w : World) (h : Has w v L) (hb : ∀ j ∈ L, j.f.locals.length ≤ 4398046511104 ∧ j.f.stack.length ≤ 4398046511104) (hl : L.length * 56 ≤ 140737488355328) : Calls Try.prog 12 #[v] w fun e w' =>
    ∃ ad n c K, e = .returned (.slice ad n c) ∧ L.map J.f = K.map J.f ∧ Lst w' w.heap.size (.slice ad n c) K ∧ Below w.heap.size w w' := by
  obtain ⟨i0, hi, hz0, hz1, hz2⟩ := info_parts Try.info29
  have hown := h.own
  obtain ⟨ad, cap, rfl, hc⟩ := h.form
  have HC := hide hc
  have HO := hide hown
  have HBd := hide hb
  clear h hc hown hb
  go_enter Try.func12, Try.ntmps12
  go_wp2_with fail
  go_loopw [3, 8] (fun v i wr => ∃ (k : Nat) (K : List J) (va : Option Addr) (vc : Nat), k ≤ L.length ∧ i = .int .i64 k ∧ v = .slice va k vc ∧ K.length = k ∧ Hid (K.map J.f = (L.map J.f).take k) ∧ Hid (Lst wr w.heap.size v K) ∧ Hid (Below w.heap.size w wr)) (fun _ i _ => L.length - (intOf i).toNat)
  case atStart => exact ⟨0, [], none, 0, Nat.zero_le _, rfl, rfl, rfl, rfl, Lst.nil _ _, Below.refl _ _⟩
  case round =>
    obtain ⟨k, K, va, vc, hk, rfl, rfl, hKl, HK, HL, HB⟩ := hrel
    by_cases hlt : k < L.length
    · have hne : L ≠ [] := by rintro rfl; simp at hlt
      obtain ⟨b0, o0, rfl, hcell⟩ := unhide HC hne
      obtain ⟨x0, x1, x2⟩ := At3.of (hcell k hlt)
      rw [← (unhide HB).cell (cell_lt x0)] at x0
      rw [← (unhide HB).cell (cell_lt x1)] at x1
      rw [← (unhide HB).cell (cell_lt x2)] at x2
      obtain ⟨t1, t2⟩ := unhide HO _ (List.getElem_mem hlt)
      obtain ⟨d1, d2⟩ := unhide HBd _ (List.getElem_mem hlt)
      have htk : (L.map J.f).take (k + 1) = (L.map J.f).take k ++ [(L[k]).f] := by
        rw [List.take_add_one, List.getElem?_eq_getElem (by simpa using hlt)]; simp
      generalize L[k] = j at *
      obtain ⟨f, lv, sv⟩ := j
      simp only at x0 x1 x2 t1 t2 d1 d2 htk
      have HT1 := hide t1
      have HT2 := hide t2
      obtain ⟨p1, p2, e1, _⟩ := t1
      obtain ⟨p3, p4, e2, _⟩ := t2
      subst e1 e2
      obtain ⟨X, hX⟩ : ∃ X, X = wr.heap.size := ⟨_, rfl⟩
      obtain ⟨wA, hwA⟩ : ∃ wA, wA = wr.alloc (.cells #[.int .i64 f.at_, .slice p1 f.locals.length p2, .slice p3 f.stack.length p4] 29) := ⟨_, rfl⟩
      have hXA : Bk wA X #[.int .i64 f.at_, .slice p1 f.locals.length p2, .slice p3 f.stack.length p4] 29 := by rw [hwA, hX]; exact Bk.new _ _ _
      have hbA : Below wr.heap.size wr wA := by rw [hwA]; exact (Below.refl _ _).alloc (Nat.le_refl _) _
      have hszA : wA.heap.size = X + 1 := by rw [hwA, hX]; simp
      have hXr : wr.heap.size ≤ X := by omega
      have hwr := (unhide HB).size
      have y1 : wA.cell? ⟨X, 1, none⟩ = some (.slice p1 f.locals.length p2) := hXA.cell 1
      have HwA := hide hwA
      have HX := hide hX
      have Htk := hide htk
      have HKl := hide hKl
      have ki : (k : Int) < (L.length : Int) := by omega
      clear hwA hX htk hne hcell hKl
      go_upto_region 5 with fail
      rw [← unhide HwA, ← unhide HX]
      clear HwA x0 x1 x2
      have hTA := ((unhide HT1).below (unhide HB)).below hbA
      go_upto_region 6 with (at_builtin; refine wpList_copyG _ rfl _ _ rfl _ f.locals rfl rfl hTA d1 (X + 1) (by omega) ?_; intro v3 w3 hok hb3; obtain ⟨a3, n3, c3, e3⟩ := own_slice hok; subst e3; have v3k := hXA.below hb3; have z1 := v3k.cell 1; have f1 := v3k.frozen; simp at z1)
      have hXl := hXA.lt
      have hb13 := hbA.trans (hb3.mono (by omega))
      have v4 := v3k.set 1 (.slice a3 n3 c3)
      have hb14 := hb13.setCell (p := ⟨X, 1, none⟩) hXr (.slice a3 n3 c3)
      have hok4 := ins_kept hok (grown_set w3 X 1 (.slice a3 n3 c3)) (fun b e e2 => by cases e; have := (ins_in hok e2).1; omega)
      clear hok hb13 v3k z1 f1 y1 hXA hTA hb3 hbA hXl
      generalize w3.setCell ⟨X, 1, none⟩ (.slice a3 n3 c3) = W4 at *
      have hTB := (unhide HT2).below ((unhide HB).trans (hb14.mono hwr))
      have y2 := v4.cell 2
      simp at y2
      have hX4 := v4.lt
      go_upto_region 7 with (at_builtin; refine wpList_copyG _ rfl _ _ rfl _ f.stack rfl rfl hTB d2 W4.heap.size (Nat.le_refl _) ?_; intro v5 w5 hot hb5; obtain ⟨a5, n5, c5, e5⟩ := own_slice hot; subst e5; have v5k := v4.below hb5; have z2 := v5k.cell 2; have f2 := v5k.frozen; simp at z2)
      have hb15 := hb14.trans (hb5.mono hb14.size)
      have v6 := v5k.set 2 (.slice a5 n5 c5)
      have hb16 := hb15.setCell (p := ⟨X, 2, none⟩) hXr (.slice a5 n5 c5)
      have hok5 := ins_kept hok4 (grown_of_below hb5 none) (fun _ e => by cases e)
      have hok6 := ins_kept hok5 (grown_set w5 X 2 (.slice a5 n5 c5)) (fun b e e2 => by cases e; have := (ins_in hok5 e2).1; omega)
      have hot6 := ins_kept hot (grown_set w5 X 2 (.slice a5 n5 c5)) (fun b e e2 => by cases e; have := (ins_in hot e2).1; omega)
      have hap : ∀ b, (Value.slice a3 n3 c3).ownBlock = some b → (Value.slice a5 n5 c5).ownBlock ≠ some b := fun b e1 e2 => by
        have := (ins_in hok4 e1).2; have := (ins_in hot e2).1; omega
      clear hok5 hot hb15 v5k z2 f2 y2 hTB hb14
      generalize w5.setCell ⟨X, 2, none⟩ (.slice a5 n5 c5) = W6 at *
      have hO2 : Own2 W6 wr.heap.size (.slice a3 n3 c3) (.slice a5 n5 c5) f.locals f.stack := ⟨own_base hok6 (by omega), own_base hot6 (by omega), hap⟩
      have hL6 := (unhide HL).kept (grown_of_below hb16 none) (fun _ e => by cases e)
      have hbl : ∀ b, b ∈ (Value.slice va k vc).ownBlock.toList ++ blocks K → b < wr.heap.size := fun b hb => ((unhide HL).blocks_in hb).2
      have q0 := v6.cell 0
      have q1 := v6.cell 1
      have q2 := v6.cell 2
      simp at q0 q1 q2
      have hrow := hL6.row
      rw [unhide HKl] at hrow
      have hsz6 := hb16.size
      clear hok4 hok6 hot6 hap v4 hX4 hb5
      go_wp2_with (at_builtin; refine wpList_append_own_at _ rfl _ _ 24 rfl w.heap.size 29 i0 (.agg #[.int .i64 0, .slice none 0 0, .slice none 0 0]) 3 56 Try.underlying24 hi hz0 hz1 hz2 rfl (by decide) _ k (JC K) rfl (hrow.alloc _) ⟨W6.heap.size, 0, none⟩ 1 1 [.int .i64 f.at_, .slice a3 n3 c3, .slice a5 n5 c5] rfl rfl ?c1 ?c2 ?c3 ?c4 ?c5 ?_)
      case c1 =>
        intro j u hj
        rw [Addr.add_lit, Nat.zero_add, (Bk.new W6 _ 29).cell j]
        simpa using hj
      case c2 => intro u hu; simp at hu; rcases hu with rfl | rfl | rfl <;> rfl
      case c3 => unfold maxLen; omega
      case c4 => omega
      case c5 => simp; omega
      intro v' w7 hown' hgrow _ hbv
      have hL7 : Lst w7 w.heap.size v' (K ++ [⟨f, .slice a3 n3 c3, .slice a5 n5 c5⟩]) :=
        hL6.push2 (N := wr.heap.size) hwr hbl hO2 (by rw [unhide HKl]; exact hown') hgrow (by simpa using hbv)
      have hbw6 := (unhide HB).trans (hb16.mono hwr)
      have hlt2 := (hrow.alloc (.cells #[.int .i64 f.at_, .slice a3 n3 c3, .slice a5 n5 c5] 29)).lt
      have hb7 := (hbw6.alloc hbw6.size (.cells #[.int .i64 f.at_, .slice a3 n3 c3, .slice a5 n5 c5] 29)).grown hgrow (by have := hbw6.size; simp; omega) (fun b e => (hlt2 b e).1)
      have hK7 : (K ++ [(⟨f, .slice a3 n3 c3, .slice a5 n5 c5⟩ : J)]).map J.f = (L.map J.f).take (k + 1) := by rw [unhide Htk, List.map_append, unhide HK]; rfl
      obtain ⟨g9, c9, e9⟩ : ∃ g9 c9, v' = .slice g9 (k + 1) c9 := by
        rcases hown'.2 with ⟨_, h0⟩ | ⟨g, cap, cur, h0, _⟩
        · omega
        · exact ⟨_, _, h0⟩
      subst e9
      have HL7 := hide hL7
      have HK7 := hide hK7
      have Hb7 := hide hb7
      have hKl := unhide HKl
      clear hown' hgrow hbv hL7 hb7 hK7 hL6 hbl hO2 q0 q1 q2 hrow hbw6 hlt2 v6 hb16
      go_wp2
      go_roundw
      case rel => exact ⟨k + 1, _, g9, c9, by omega, by go_num, rfl, by simp; omega, HK7, HL7, Hb7⟩
      case measure => simp [intOf]; omega
    · have hkl : k = L.length := by omega
      subst hkl
      have ki : ¬ (L.length : Int) < (L.length : Int) := by omega
      have hK := unhide HK
      rw [List.take_of_length_le (by simp)] at hK
      have HK2 := hide hK
      clear hK HK
      go_wp2
      go_ret
      exact ⟨_, _, _, rfl, K, (unhide HK2).symm, unhide HL, unhide HB⟩
end Go.Proofs.Ytbgpkkbejbidlac
