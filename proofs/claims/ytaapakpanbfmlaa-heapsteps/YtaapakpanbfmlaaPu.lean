/-
  While things move: settle.
-/
import Derived.Test.YtaapakpanbfmlaaPt
namespace Go.Proofs.Ytaapakpanbfmlaa
namespace Rs
open Go.RowKit Hp
set_option linter.unusedVariables false
set_option linter.unusedSimpArgs false
set_option maxRecDepth 100000 in
set_option maxHeartbeats 4000000 in
theorem settle_walk (fv : Value) (sb first M : Nat) (J : Nat → World → Prop) (w : World) {J0 : World → Prop} (hM : M ≤ 1073741824) (hfirst : first ≤ M)
    (H81 : Hid (Calls Try.prog 81 #[.pointer (some ⟨sb, 9, none⟩), fv] w fun e w' => e = .returned (.tuple #[]) ∧ J first w'))
    (HT : Hid (∀ k wr, J k wr → ∃ a n cap, wr.cell? ⟨sb, 5, none⟩ = some (.slice a n cap) ∧ n ≤ M ∧ (k < n → ∃ g n0 sa sn sc mo, a = some ⟨g, 0, none⟩ ∧ wr.cell? ⟨g, k * 9, none⟩ = some (.int .i64 n0) ∧ wr.cell? ⟨g, k * 9 + 1, none⟩ = some (.slice sa sn sc) ∧ wr.cell? ⟨g, k * 9 + 2, none⟩ = some (.map mo) ∧ Calls Try.prog 64 #[.pointer (some ⟨wr.heap.size, 0, none⟩), fv] (wr.alloc (.cells #[.int .i64 n0, .slice sa sn sc, .map mo] 91)) fun e w' => e = .returned (.tuple #[]) ∧ J (k + 1) w') ∧ (n ≤ k → ∃ ya yn yc W, wr.cell? ⟨sb, 3, none⟩ = some (.slice ya yn yc) ∧ (yc : Int) ≤ 9223372036854775807 ∧ Sem.run Try.prog (Builtin.clear_ #[49] 0 #[.slice ya yn yc]) wr = .ok (.tuple #[]) W ∧ (∀ i, W.frozen? ⟨sb, i, none⟩ = false) ∧ W.cell? ⟨sb, 3, none⟩ = some (.slice ya yn yc) ∧ (∃ u, W.cell? ⟨sb, 4, none⟩ = some u) ∧ (∃ u, W.cell? ⟨sb, 8, none⟩ = some u) ∧ J0 (((W.setCell ⟨sb, 3, none⟩ (.slice ya 0 yc)).setCell ⟨sb, 4, none⟩ (.int .i64 0)).setCell ⟨sb, 8, none⟩ (.map none))))) :
    Calls Try.prog 59 #[.pointer (some ⟨sb, 0, none⟩), .int .i64 (first : Int), fv, .iface 61 (.pointer (some ⟨sb, 9, none⟩))] w fun e w' => e = .returned (.tuple #[]) ∧ J0 w' := by
  have hfi : (first : Int) ≤ 1073741824 := by omega
  go_enter Try.func59, Try.ntmps59
  go_wp2_with fail
  refine (unhide H81).mono ?_
  rintro e w1 ⟨rfl, hw1⟩
  have HJ1 := hide hw1
  clear hw1
  go_wp2
  go_loopg [8] (M - first) (fun k p wr => ∃ i : Nat, p = .int .i64 (i : Int) ∧ i ≤ M ∧ M - i ≤ k ∧ Hid (J i wr))
  case atStart => exact ⟨first, rfl, hfirst, Nat.le_refl _, HJ1⟩
  case round =>
    obtain ⟨i, rfl, hi, hk, HJ⟩ := hrel
    obtain ⟨a, n, cap, h5, hn, hmore, hdone⟩ := unhide HT i wr (unhide HJ)
    by_cases him : i < n
    · obtain ⟨g, n0, sa, sn, sc, mo, rfl, x0, x1, x2, hc⟩ := hmore him
      have HC := hide hc
      clear hmore hdone hc
      have k1 : (i : Int) < (n : Int) := by omega
      go_wp2_with fail
      refine (unhide HC).mono ?_
      rintro e w2 ⟨rfl, hj⟩
      have HJ2 := hide hj
      clear hj
      go_wp2
      go_roundg (M - (i + 1))
      case measure => omega
      case rel => exact ⟨i + 1, by go_num, by omega, by omega, HJ2⟩
    · obtain ⟨ya, yn, yc, W, y1, y2, y3, y4, y5, ⟨u4, y6⟩, ⟨u8, y7⟩, hj0⟩ := hdone (by omega)
      have HD := hide hj0
      clear hmore hdone hj0
      have k1 : ¬ ((i : Int) < (n : Int)) := by omega
      go_wp2_with fail
      go_end0
      exact ⟨rfl, unhide HD⟩
theorem zero96 (w : World) : (zeroValue 96).run Try.prog w = .ok (.agg #[.int .i64 0, .slice none 0 0, .map none, .int .i64 0, .slice none 0 0, .map none, .int .i64 0, .nilIface, .int .i64 0]) w := by kernel_rfl
def zt : Array Value := #[.int .i64 0, .slice none 0 0, .map none, .int .i64 0, .slice none 0 0, .map none, .int .i64 0, .nilIface, .int .i64 0]
theorem zt_size : zt.size = 9 := rfl
theorem zt_one (i : Nat) (hi : i < 9) : (zt[i]!).oneCell' = true := by
  have : i = 0 ∨ i = 1 ∨ i = 2 ∨ i = 3 ∨ i = 4 ∨ i = 5 ∨ i = 6 ∨ i = 7 ∨ i = 8 := by omega
  rcases this with rfl | rfl | rfl | rfl | rfl | rfl | rfl | rfl | rfl <;> rfl
theorem zeros_size (n : Nat) : (Builtin.zeroCells zt n).size = n * 9 := by unfold Builtin.zeroCells; simp [zt_size]
theorem zeros_one (n : Nat) : ∀ v ∈ (Builtin.zeroCells zt n).toList, v.oneCell' = true := by
  intro v hv
  unfold Builtin.zeroCells at hv
  rw [Array.toList_map] at hv
  obtain ⟨i, _, rfl⟩ := List.mem_map.1 hv
  exact zt_one _ (by rw [zt_size]; omega)
theorem zero96' (w : World) : (zeroValue 96).run Try.prog w = .ok (.agg zt) w := zero96 w
theorem fr_setRow {w : World} {g : Nat} {cs : Array Value} : Fr [g] w (w.setRow g cs) := by
  refine ⟨rfl, rfl, rfl, by simp [World.setRow], fun k hk hn => ?_⟩
  have hkg : g ≠ k := fun e => hn (by rw [e]; simp)
  unfold World.setRow
  simp only [Array.getElem?_modify]
  rw [if_neg hkg]
/-- clear, of a table. -/
theorem clear_tab {w : World} {B n cap : Nat} {a : Option Addr} {xs : List Value} (ty : TypeId) (h : w.ownsRow B 96 9 (.slice a n cap) n xs) :
    ∃ W, Sem.run Try.prog (Builtin.clear_ #[49] ty #[.slice a n cap]) w = .ok (.tuple #[]) W ∧ Fr (ob (.slice a n cap)) w W ∧ W.ownsRow B 96 9 (.slice a 0 cap) 0 [] := by
  rcases h.2 with ⟨e, hn⟩ | ⟨g, cap', cur, e, h1, h2, h3, h4, h5, h6⟩
  · cases e
    refine ⟨w, ?_, Fr.refl _ _, ⟨rfl, .inl ⟨rfl, rfl⟩⟩⟩
    simp [Builtin.clear_, run_underlying under49, Result.andThen]
  · cases e
    by_cases hn : n = 0
    · subst hn
      refine ⟨w, ?_, Fr.refl _ _, ⟨rfl, .inr ⟨g, cap, cur, rfl, h1, h2, Nat.zero_le _, h4, h5, by simp⟩⟩⟩
      simp [Builtin.clear_, run_underlying under49, Result.andThen]
    · have hle := Nat.mul_le_mul_right 9 h3
      have hst := run_storeCells_at (P := Try.prog) g 0 96 (Builtin.zeroCells zt n).toList 0 cur w h2 (by rw [Array.length_toList, zeros_size, h5]; omega) (zeros_one n)
      refine ⟨w.setRow g (cur.toList.take (0 + 0) ++ (Builtin.zeroCells zt n).toList ++ cur.toList.drop (0 + 0 + (Builtin.zeroCells zt n).toList.length)).toArray, ?_, fr_setRow, ⟨rfl, .inr ⟨g, cap, _, rfl, h1, setRow_heap w g cur _ 96 (0, 0) h2, Nat.zero_le _, h4, ?_, by simp⟩⟩⟩
      · cases n with
        | zero => exact absurd rfl hn
        | succ n =>
          unfold Builtin.clear_
          simp only [Sem.run_bind, run_underlying under49, Result.andThen]
          simp [run_underlying under49, zero96', Result.andThen, Value.cells]
          have e : (#[.int .i64 0, .slice none 0 0, .map none, .int .i64 0, .slice none 0 0, .map none, .int .i64 0, .nilIface, .int .i64 0] : Array Value) = zt := rfl
          rw [e, hst]
          simp
      · simp [zeros_size]; rw [h5]; omega
section
variable {c : Cf} {w : World} {s : St} {G : Gf} {loc : Int → Int} {ord : List Int} {P : Nat → Nat → Prop}
/-- The young have gone. -/
def St.settled (s : St) (v : Value) : St := { s with v := updAt s.v .y v, l := updAt s.l .y [], yw := 0, cv := .map none, C := [] }
theorem Cl.settle {W : World} (h : Cl c w s) {a : Option Addr} {n cap : Nat} (hv : s.v .y = .slice a n cap) (hfr : Fr (ob (s.v .y)) w W) (hown : W.ownsRow c.B 96 9 (.slice a 0 cap) 0 []) :
    W.heap[c.sb]? = w.heap[c.sb]? ∧ Cl c (((W.setCell ⟨c.sb, 3, none⟩ (.slice a 0 cap)).setCell ⟨c.sb, 4, none⟩ (.int .i64 0)).setCell ⟨c.sb, 8, none⟩ (.map none)) (s.settled (.slice a 0 cap)) ∧ Ev c w s (((W.setCell ⟨c.sb, 3, none⟩ (.slice a 0 cap)).setCell ⟨c.sb, 4, none⟩ (.int .i64 0)).setCell ⟨c.sb, 8, none⟩ (.map none)) (s.settled (.slice a 0 cap)) := by
  have hsn : c.sb ∉ ob (s.v .y) := fun e => h.ap .sb (.tab .y) (by simp) c.sb (by simp [St.bl]) e
  have hsb := h.sbl
  have hW : W.heap[c.sb]? = w.heap[c.sb]? := hfr.block c.sb hsb hsn
  have hWs := hW.trans (h.has .sb).1
  have a1 := heap_setCell_same W c.sb 3 _ 59 (.slice a 0 cap) hWs
  have a2 := heap_setCell_same _ c.sb 4 _ 59 (.int .i64 0) a1
  have a3 := heap_setCell_same _ c.sb 8 _ 59 (.map none) a2
  have hF : Fr (c.sb :: ob (s.v .y)) w (((W.setCell ⟨c.sb, 3, none⟩ (.slice a 0 cap)).setCell ⟨c.sb, 4, none⟩ (.int .i64 0)).setCell ⟨c.sb, 8, none⟩ (.map none)) :=
    (((hfr.mono (fun b hb => List.mem_cons_of_mem _ hb)).set (List.mem_cons_self ..) _).set (List.mem_cons_self ..) _).set (List.mem_cons_self ..) _
  generalize hw' : (((W.setCell ⟨c.sb, 3, none⟩ (.slice a 0 cap)).setCell ⟨c.sb, 4, none⟩ (.int .i64 0)).setCell ⟨c.sb, 8, none⟩ (.map none)) = w' at a3 hF ⊢
  have hoff : ∀ b, b ≠ c.sb → w'.heap[b]? = W.heap[b]? := fun b hb => by rw [← hw', heap_setB hb, heap_setB hb, heap_setB hb]
  have hbl : ∀ p, ∀ b ∈ (s.settled (.slice a 0 cap)).bl c p, b ∈ s.bl c p := by
    intro p b hb
    cases p with
    | sb => exact hb
    | cv => simp [St.bl, St.settled, mblk] at hb
    | row r => exact hb
    | tab d =>
      by_cases hd : d = .y
      · subst hd
        simp only [St.bl, St.settled, updAt_same] at hb
        simp only [St.bl]; rw [hv]
        cases a with
        | none => simp [ob, Value.ownBlock] at hb
        | some x => simpa [ob, Value.ownBlock] using hb
      · simp only [St.bl, St.settled] at hb
        rw [updAt_ne _ _ hd] at hb; exact hb
  refine ⟨hW, h.upd (fun p => p = .sb ∨ p = .cv ∨ p = .tab .y) (fun p hp => ?_) (fun p hp b hb => ?_) (fun p hp => ?_) (fun p hp b hb => .inl (hbl p b hb)) (fun p p' hp hp' hne b hb hlb _ => ?_) hF.size, Ev.of hF (fun b hb => ?_) (fun p b hb => .inl (hbl p b hb))⟩
  · cases p with
    | sb => exact absurd (.inl rfl) hp
    | cv => exact absurd (.inr (.inl rfl)) hp
    | row r => exact ⟨fun h => h, rfl⟩
    | tab d =>
      have hd : d ≠ .y := fun e => hp (.inr (.inr (by rw [e])))
      refine ⟨fun h => ?_, ?_⟩
      · unfold Has at h ⊢
        simp only [St.settled]
        rw [updAt_ne _ _ hd, updAt_ne _ _ hd]; exact h
      · simp only [St.bl, St.settled]; rw [updAt_ne _ _ hd]
  · refine hF.block b ((h.has p).lt b hb) (fun e => ?_)
    rcases List.mem_cons.1 e with e | e
    · exact h.ap p .sb (fun e2 => hp (.inl e2)) b hb (by simp [St.bl, e])
    · exact h.ap p (.tab .y) (fun e2 => hp (.inr (.inr e2))) b hb e
  · rcases hp with rfl | rfl | rfl
    · refine ⟨?_, (h.has .sb).2⟩
      rw [a3]
      congr 2
    · exact .inl ⟨rfl, rfl⟩
    · unfold Has
      simp only [St.settled, updAt_same]
      refine row_kept (F := [c.sb]) (w := W) (w' := w') hown ?_ (fun b hb e => ?_)
      · rw [← hw']
        exact (((Fr.refl _ _).set (by simp) _).set (by simp) _).set (by simp) _
      · rw [List.mem_singleton] at e
        refine hsn ?_
        rw [hv, ← e]
        cases a with
        | none => simp [Value.ownBlock] at hb
        | some x => simpa [ob, Value.ownBlock] using hb
  · have := (h.has p).lt b (hbl p b hb); omega
  · rcases List.mem_cons.1 hb with e | e
    · exact ⟨.sb, by simp [St.bl, e]⟩
    · exact ⟨.tab .y, e⟩
end
end Rs
end Go.Proofs.Ytaapakpanbfmlaa
