/-
  The walk of PoolUnits.
-/
import Derived.Test.YtlihhfijigoklaaTextB
import Derived.Test.YtlihhfijigoklaaRefUnits
namespace Go.Proofs.Ytlihhfijigoklaa
open Go.RowKit
theorem own_form0 {w : World} {base size : Nat} {e : TypeId} {v : Value} {xs : List Value} (h : w.ownsRow base e size v 0 xs) : ∃ a c, v = .slice a 0 c := by
  rcases h.2 with ⟨h1, _⟩ | ⟨g, cap, cur, hv, _⟩
  · exact ⟨_, _, h1⟩
  · exact ⟨_, _, hv⟩
theorem own_u16 {w : World} {base g n c : Nat} {L : List Nat} (h : w.ownsRow base 28 1 (.slice (some ⟨g, 0, none⟩) n c) n (U16 L)) (hn : n = L.length) (j : Nat) (hj : j < L.length) : w.cell? ⟨g, j, none⟩ = some (.int .u16 (L.getD j 0 : Nat)) := by
  rw [h.cellAt j (by omega)]; simp [U16, List.getD, List.getElem?_eq_getElem hj]
theorem own_i64 {w : World} {base g n c : Nat} {L : List Nat} (h : w.ownsRow base 3 1 (.slice (some ⟨g, 0, none⟩) n c) n (I64 L)) (hn : n = L.length) (j : Nat) (hj : j < L.length) : w.cell? ⟨g, j, none⟩ = some (.int .i64 (L.getD j 0 : Nat)) := by
  rw [h.cellAt j (by omega)]; simp [I64, List.getD, List.getElem?_eq_getElem hj]
set_option maxRecDepth 100000 in
set_option maxHeartbeats 1000000 in
theorem PoolUnits_big (s : ByteArray) (w : World) (hm : s.size ≤ maxLen) (hs : 32768 < s.size) :
    Calls Try.prog 3 #[.string s] w fun e w' => e = .returned (.bool true) ∧ Below w.heap.size w w' := by
  unfold maxLen at hm
  go_enter Try.func3, Try.ntmps3
  go_wp2
  go_ret
  exact ⟨rfl, Below.refl _ _⟩
set_option maxRecDepth 100000 in
set_option maxHeartbeats 1000000 in
theorem PoolUnits_no (s : ByteArray) (w : World) (hs : s.size ≤ 32768) (hno : M.Units s.data.toList none) :
    Calls Try.prog 3 #[.string s] w fun e w' => e = .returned (.bool true) ∧ Below w.heap.size w w' := by
  have Hno := hide hno
  clear hno
  go_enter Try.func3, Try.ntmps3
  go_wp2_with fail
  refine (Units_any s w (by omega)).mono ?_
  rintro e w1 (⟨L, v, h1, h2, _⟩ | ⟨h1, rfl, hb1⟩)
  · rcases unhide Hno with ⟨m, hm, _⟩ | ⟨_, hn⟩
    · cases hm
    · exact absurd h2 (hn L h1)
  clear h1
  go_wp2_with fail
  refine (RefUnits_any s w1 (by omega)).mono ?_
  rintro e w2 (⟨L, v, h1, h2, _⟩ | ⟨h1, rfl, hb2⟩)
  · rcases unhide Hno with ⟨m, hm, _⟩ | ⟨_, hn⟩
    · cases hm
    · exact absurd h2 (hn L h1)
  clear h1
  have hb := hb1.trans (hb2.mono hb1.size)
  clear hb1 hb2 Hno
  go_wp2_with fail
  refine wp_loop_rounds 1 ?_
  rw [rounds_succ]
  go_wp2
  go_ret
  exact ⟨rfl, hb⟩
set_option maxRecDepth 100000 in
set_option maxHeartbeats 1000000 in
theorem PoolUnits_yes (s : ByteArray) (w : World) (hs : s.size ≤ 32768) (L : List Nat) (hL : M.Ok L) (ht : M.text L = s.data.toList) :
    Calls Try.prog 3 #[.string s] w fun e w' => e = .returned (.bool true) ∧ Below w.heap.size w w' := by
  have Ht := hide ht
  clear ht
  go_enter Try.func3, Try.ntmps3
  go_wp2_with fail
  refine (Units_any s w (by omega)).mono ?_
  rintro e w1 (⟨L', v, h1, h2, h3, rfl, ho, hb1⟩ | ⟨h1, rfl, hb1⟩)
  rotate_left
  · rcases h1 with ⟨m, hm, _⟩ | ⟨_, hn⟩
    · cases hm
    · exact absurd (unhide Ht) (hn L hL)
  obtain rfl := M.text_inj h1 hL (h2.trans (unhide Ht).symm)
  clear h1 h2
  go_wp2_with fail
  refine (RefUnits_any s w1 (by omega)).mono ?_
  rintro e w2 (⟨L, v2, h1, h2, _, rfl, ho2, hb2⟩ | ⟨h1, rfl, hb2⟩)
  rotate_left
  · rcases h1 with ⟨m, hm, _⟩ | ⟨_, hn⟩
    · cases hm
    · exact absurd (unhide Ht) (hn _ hL)
  obtain rfl := M.text_inj h1 hL (h2.trans (unhide Ht).symm)
  clear h1 h2
  have hb := hb1.trans (hb2.mono hb1.size)
  have ho1 := own_below ho (Nat.le_refl _) hb2
  clear hb1 hb2 ho
  by_cases hz : L.length = 0
  · rw [hz] at ho1 ho2
    obtain ⟨a1, c1, rfl⟩ := own_form0 ho1
    obtain ⟨a2, c2, rfl⟩ := own_form0 ho2
    have hLn : L = [] := List.length_eq_zero_iff.1 hz
    subst hLn
    have hst : (⟨#[]⟩ : ByteArray) = s := by
      have h := unhide Ht
      apply ByteArray.ext; apply Array.ext'; rw [← h]; rfl
    have Hst := hide hst
    clear ho1 ho2 hz hst
    go_wp2_with fail
    refine wp_loop_rounds 1 ?_
    rw [rounds_succ]
    go_wp2_with fail
    refine (Text_nil a1 c1 w2).mono ?_
    rintro e w3 ⟨rfl, hb3⟩
    have hbb : Below w.heap.size w w3 := hb.trans (hb3.mono hb.size)
    rw [unhide Hst]
    clear hb3 hb
    go_wp2
    go_ret
    exact ⟨rfl, hbb⟩
  · obtain ⟨g1, c1, rfl⟩ := own_form ho1 (by omega)
    obtain ⟨g2, c2, rfl⟩ := own_form ho2 (by omega)
    have hx1 : ∀ j, j < L.length → w2.cell? ⟨g1, j, none⟩ = some (.int .u16 (L.getD j 0 : Nat)) := fun j hj => own_u16 ho1 rfl j hj
    have hx2 : ∀ j, j < L.length → w2.cell? ⟨g2, j, none⟩ = some (.int .i64 (L.getD j 0 : Nat)) := fun j hj => own_i64 ho2 rfl j hj
    have hg1 : g1 < w2.heap.size := (ho1.lt g1 rfl).2
    have Hx1 := hide hx1
    have Hx2 := hide hx2
    clear hx1 hx2 ho1 ho2
    go_wp2_with fail
    go_loopw [33] (fun i wr => ∃ k n : Nat, k ≤ L.length ∧ i = .int .i64 k ∧ wr = w2.drewN n) (fun i _ => L.length - (intOf i).toNat)
    case atStart => exact ⟨0, 0, Nat.zero_le _, rfl, rfl⟩
    case round =>
      obtain ⟨k, n, hk, rfl, rfl⟩ := hrel
      by_cases hlt : k < L.length
      · have y1 := unhide Hx1 k hlt
        have y2 := unhide Hx2 k hlt
        obtain ⟨u, hu⟩ : ∃ u : Nat, u = L.getD k 0 := ⟨_, rfl⟩
        have hu6 : u < 65536 := by rw [hu]; exact hL _ (by simp [List.getD, List.getElem?_eq_getElem hlt])
        rw [← hu] at y1 y2
        clear hu
        have hki : (k : Int) < (L.length : Int) := by omega
        go_wp2_with fail
        go_quiet (fail)
        go_wp2
        go_roundw
        case rel => exact ⟨k + 1, _, by omega, by go_num, rfl⟩
        case measure => simp [intOf]; omega
      · have hst : (⟨(M.text L).toArray⟩ : ByteArray) = s := by rw [unhide Ht]
        go_wp2_with fail
        refine (Text_any g1 0 c1 L (w2.drewN n) (by omega) hL hg1 (fun j hj => by rw [Nat.zero_add]; exact unhide Hx1 j hj)).mono ?_
        rintro e w3 ⟨rfl, hb3⟩
        have hbb : Below w.heap.size w w3 := (below_drewN hb n).trans (hb3.mono hb.size)
        rw [hst]
        clear hst hb3 hb Hx1 Hx2
        go_wp2
        go_ret
        exact ⟨rfl, hbb⟩
end Go.Proofs.Ytlihhfijigoklaa
