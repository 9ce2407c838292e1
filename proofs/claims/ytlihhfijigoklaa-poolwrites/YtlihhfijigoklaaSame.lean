/-
  same of jvmcorelaw1: two lists of constants that are one.
-/
import Derived.Test.YtlihhfijigoklaaRead
namespace Go.Proofs.Ytlihhfijigoklaa
open Go.RowKit
/-- A slice value that reads as these constants. -/
def Has (w : World) (v : Value) (l : List K) : Prop :=
  (∃ a c, v = .slice a 0 c ∧ l = []) ∨ ∃ g off c, v = .slice (some ⟨g, off, none⟩) l.length c ∧ ∀ j, j < l.length * 5 → w.cell? ⟨g, off + j, none⟩ = (KC l)[j]?
theorem Has.of_own {w : World} {B : Nat} {v : Value} {l : List K} (h : w.ownsRow B 43 5 v l.length (KC l)) : Has w v l := by
  rcases h.2 with ⟨h1, h0⟩ | ⟨g, cap, cur, hv, _⟩
  · exact .inl ⟨none, 0, h1, List.length_eq_zero_iff.1 h0⟩
  · subst hv; exact .inr ⟨g, 0, cap, rfl, fun j hj => by rw [Nat.zero_add]; exact h.cellAt j hj⟩
theorem Has.of_out {w0 w : World} {v : Value} {l : List K} (h : Out w0 w v l) : Has w v l := by
  rcases h with ⟨rfl, rfl⟩ | ⟨B, _, h⟩
  · exact .inl ⟨none, 0, rfl, rfl⟩
  · exact Has.of_own h
theorem Out.below {w0 w w' : World} {v : Value} {l : List K} (h : Out w0 w v l) (hb : Below w.heap.size w w') : Out w0 w' v l := by
  rcases h with h | ⟨B, hB, h⟩
  · exact .inl h
  · exact .inr ⟨B, hB, own_below h (Nat.le_refl _) hb⟩
theorem KC_at (l : List K) (k i : Nat) (hk : k < l.length) (hi : i < 5) : (KC l)[k * 5 + i]? = (l.getD k K.zero).cells[i]? := by
  induction l generalizing k with
  | nil => simp at hk
  | cons c l ih =>
    cases k with
    | zero => simp only [Nat.zero_mul, Nat.zero_add, KC, List.getD_cons_zero]; rw [List.getElem?_append_left (by simp [K.cells]; omega)]
    | succ k =>
      simp only [KC, List.getD_cons_succ]
      rw [List.getElem?_append_right (by simp [K.cells]; omega)]
      have : (k + 1) * 5 + i - c.cells.length = k * 5 + i := by simp [K.cells]; omega
      rw [this]; exact ih k (by simpa using hk)
set_option maxRecDepth 100000 in
set_option maxHeartbeats 1000000 in
theorem same_any (v u : Value) (l : List K) (w : World) (hl : l.length ≤ 200000) (h : Has w v l) (g : Has w u l) :
    Calls Try.prog 14 #[v, u] w fun e w' => e = .returned (.bool true) ∧ ∃ n, w' = w.drewN n := by
  have hform : ∀ x, Has w x l → ∃ a c, x = .slice a l.length c := fun x hx => by
    rcases hx with ⟨a, c, rfl, rfl⟩ | ⟨g, off, c, rfl, _⟩
    · exact ⟨a, c, rfl⟩
    · exact ⟨_, c, rfl⟩
  by_cases hz : l.length = 0
  · obtain ⟨a, c, rfl⟩ := hform v h
    obtain ⟨b, d, rfl⟩ := hform u g
    rw [hz]
    clear h g hform hz
    go_enter Try.func14, Try.ntmps14
    go_wp2_with fail
    refine wp_loop_rounds 1 ?_
    rw [rounds_succ]
    go_wp2
    go_ret
    exact ⟨rfl, 0, rfl⟩
  · rcases h with ⟨a, c, rfl, rfl⟩ | ⟨g1, o1, c, rfl, h1⟩
    · simp at hz
    rcases g with ⟨a, c, rfl, rfl⟩ | ⟨g2, o2, d, rfl, h2⟩
    · simp at hz
    have H1 := hide h1
    have H2 := hide h2
    clear h1 h2 hform
    go_enter Try.func14, Try.ntmps14
    go_wp2_with fail
    go_loopw [13] (fun i wr => ∃ k m : Nat, k ≤ l.length ∧ i = .int .i64 k ∧ wr = w.drewN m) (fun i _ => l.length - (intOf i).toNat)
    case atStart => exact ⟨0, 0, Nat.zero_le _, rfl, rfl⟩
    case round =>
      obtain ⟨k, m, hk, rfl, rfl⟩ := hrel
      by_cases hlt : k < l.length
      · have x : ∀ i, i < 5 → w.cell? ⟨g1, o1 + (k * 5 + i), none⟩ = (l.getD k K.zero).cells[i]? := fun i hi => by rw [unhide H1 _ (by omega), KC_at l k i hlt hi]
        have y : ∀ i, i < 5 → w.cell? ⟨g2, o2 + (k * 5 + i), none⟩ = (l.getD k K.zero).cells[i]? := fun i hi => by rw [unhide H2 _ (by omega), KC_at l k i hlt hi]
        obtain ⟨c0, hc0⟩ : ∃ c, c = l.getD k K.zero := ⟨_, rfl⟩
        rw [← hc0] at x y
        have x0 := x 0 (by omega)
        have x1 := x 1 (by omega)
        have x2 := x 2 (by omega)
        have x3 := x 3 (by omega)
        have x4 := x 4 (by omega)
        have y0 := y 0 (by omega)
        have y1 := y 1 (by omega)
        have y2 := y 2 (by omega)
        have y3 := y 3 (by omega)
        have y4 := y 4 (by omega)
        simp only [← Nat.add_assoc] at x0 x1 x2 x3 x4 y0 y1 y2 y3 y4
        simp [K.cells] at x0 x1 x2 x3 x4 y0 y1 y2 y3 y4
        have hki : (k : Int) < (l.length : Int) := by omega
        clear hc0 x y
        go_wp2_with fail
        go_quiet (fail)
        go_wp2
        go_roundw
        case rel => exact ⟨k + 1, _, by omega, by go_num, rfl⟩
        case measure => simp [intOf]; omega
      · go_wp2
        go_ret
        exact ⟨rfl, m, rfl⟩
end Go.Proofs.Ytlihhfijigoklaa
