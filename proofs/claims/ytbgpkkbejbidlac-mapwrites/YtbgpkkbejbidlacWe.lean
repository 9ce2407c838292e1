/-
  weight: of frames. The sum may pass its type's end only where there are more frames than a map can have.
-/
import Derived.Test.YtbgpkkbejbidlacSg
namespace Go.Proofs.Ytbgpkkbejbidlac
open Go.RowKit
def wsum : List J → Nat
  | [] => 0
  | j :: l => j.f.locals.length + j.f.stack.length + wsum l
theorem wsum_app (a b : List J) : wsum (a ++ b) = wsum a + wsum b := by
  induction a with
  | nil => simp [wsum]
  | cons j a ih => simp only [List.cons_append, wsum, ih]; omega
theorem wsum_mem {L : List J} {j : J} (h : j ∈ L) : j.f.locals.length + j.f.stack.length ≤ wsum L := by
  induction L with
  | nil => cases h
  | cons x L ih =>
    rw [wsum]
    rcases List.mem_cons.1 h with rfl | h
    · omega
    · have := ih h; omega
theorem wsum_le {N : Nat} : ∀ (L : List J), (∀ j ∈ L, j.f.locals.length ≤ N ∧ j.f.stack.length ≤ N) → wsum L ≤ L.length * (2 * N)
  | [], _ => by simp [wsum]
  | j :: L, h => by
    have h1 := h j (by simp)
    have h2 := wsum_le L (fun x hx => h x (by simp [hx]))
    rw [wsum, List.length_cons, Nat.add_mul]
    omega
set_option maxRecDepth 100000 in
set_option maxHeartbeats 2000000 in
theorem weight_small (L : List J) (v : Value) (w : World) (h : Has w v L) (hb : ∀ j ∈ L, j.f.locals.length ≤ 4398046511104 ∧ j.f.stack.length ≤ 4398046511104) (hl : L.length ≤ 65535) : Calls Try.prog 11 #[v] w fun e w' =>
    e = .returned (.int .i64 ((L.length + wsum L : Nat) : Int)) ∧ Below w.heap.size w w' := by
  have hown := h.own
  obtain ⟨ad, cap, rfl, hc⟩ := h.form
  have HC := hide hc
  have HO := hide hown
  have HBd := hide hb
  clear h hc hown hb
  go_enter Try.func11, Try.ntmps11
  go_wp2_with fail
  go_loopw [3, 10] (fun nv i wr => ∃ (k r : Nat), k ≤ L.length ∧ i = .int .i64 k ∧ nv = .int .i64 (r : Int) ∧ Hid (r = L.length + wsum (L.take k)) ∧ Hid (Below w.heap.size w wr)) (fun _ i _ => L.length - (intOf i).toNat)
  case atStart => exact ⟨0, L.length, Nat.zero_le _, rfl, rfl, rfl, Below.refl _ _⟩
  case round =>
    obtain ⟨k, r, hk, rfl, rfl, HR, HB⟩ := hrel
    by_cases hlt : k < L.length
    · have hne : L ≠ [] := by rintro rfl; simp at hlt
      obtain ⟨b0, o0, rfl, hcell⟩ := unhide HC hne
      obtain ⟨x0, x1, x2⟩ := At3.of (hcell k hlt)
      rw [← (unhide HB).cell (cell_lt x0)] at x0
      rw [← (unhide HB).cell (cell_lt x1)] at x1
      rw [← (unhide HB).cell (cell_lt x2)] at x2
      obtain ⟨⟨p1, p2, e1, _⟩, ⟨p3, p4, e2, _⟩⟩ := unhide HO _ (List.getElem_mem hlt)
      obtain ⟨d1, d2⟩ := unhide HBd _ (List.getElem_mem hlt)
      have hsum := wsum_le (N := 4398046511104) (L.take k) (fun j hj => unhide HBd j (List.mem_of_mem_take hj))
      have htl : (L.take k).length = k := by simp; omega
      rw [htl] at hsum
      have htk : L.take (k + 1) = L.take k ++ [L[k]] := by rw [List.take_add_one, List.getElem?_eq_getElem hlt]; rfl
      have hnew : wsum (L.take (k + 1)) = wsum (L.take k) + ((L[k]).f.locals.length + (L[k]).f.stack.length) := by rw [htk, wsum_app]; simp [wsum]
      have hr := unhide HR
      rw [e1] at x1
      rw [e2] at x2
      have HB2 := hide ((unhide HB).alloc (unhide HB).size (.cells #[.int .i64 (L[k]).f.at_, .slice p1 (L[k]).f.locals.length p2, .slice p3 (L[k]).f.stack.length p4] 29))
      have hrb : r ≤ 1152921504606846976 := by omega
      have HR2 : Hid (r + ((L[k]).f.locals.length + (L[k]).f.stack.length) = L.length + wsum (L.take (k + 1))) := by unfold Hid; omega
      generalize L[k] = j at *
      have ki : (k : Int) < (L.length : Int) := by omega
      clear e1 e2 hne hcell hr hnew htk hsum htl
      go_wp2
      go_roundw
      case rel => exact ⟨k + 1, r + (j.f.locals.length + j.f.stack.length), by omega, by go_num, by go_num, HR2, HB2⟩
      case measure => simp [intOf]; omega
    · have hkl : k = L.length := by omega
      subst hkl
      have ki : ¬ (L.length : Int) < (L.length : Int) := by omega
      have hr := unhide HR
      rw [List.take_length] at hr
      have HR2 := hide hr
      clear hr
      go_wp2
      go_ret
      exact ⟨by rw [show ((L.length : Int) + (wsum L : Int)) = (r : Int) by have := unhide HR2; omega]; rfl, unhide HB⟩
set_option maxRecDepth 100000 in
set_option maxHeartbeats 2000000 in
theorem weight_big (L : List J) (v : Value) (w : World) (h : Has w v L) (hb : ∀ j ∈ L, j.f.locals.length ≤ 4398046511104 ∧ j.f.stack.length ≤ 4398046511104) (hl : L.length ≤ 70368744177664) : Calls Try.prog 11 #[v] w fun e w' =>
    (∃ r : Int, e = .returned (.int .i64 r)) ∧ Below w.heap.size w w' := by
  have hown := h.own
  obtain ⟨ad, cap, rfl, hc⟩ := h.form
  have HC := hide hc
  have HO := hide hown
  have HBd := hide hb
  clear h hc hown hb
  go_enter Try.func11, Try.ntmps11
  go_wp2_with fail
  go_loopw [3, 10] (fun nv i wr => ∃ (k : Nat) (r : Int), k ≤ L.length ∧ i = .int .i64 k ∧ nv = .int .i64 r ∧ Hid (Below w.heap.size w wr)) (fun _ i _ => L.length - (intOf i).toNat)
  case atStart => exact ⟨0, _, Nat.zero_le _, rfl, rfl, Below.refl _ _⟩
  case round =>
    obtain ⟨k, r, hk, rfl, rfl, HB⟩ := hrel
    by_cases hlt : k < L.length
    · have hne : L ≠ [] := by rintro rfl; simp at hlt
      obtain ⟨b0, o0, rfl, hcell⟩ := unhide HC hne
      obtain ⟨x0, x1, x2⟩ := At3.of (hcell k hlt)
      rw [← (unhide HB).cell (cell_lt x0)] at x0
      rw [← (unhide HB).cell (cell_lt x1)] at x1
      rw [← (unhide HB).cell (cell_lt x2)] at x2
      obtain ⟨⟨p1, p2, e1, _⟩, ⟨p3, p4, e2, _⟩⟩ := unhide HO _ (List.getElem_mem hlt)
      obtain ⟨d1, d2⟩ := unhide HBd _ (List.getElem_mem hlt)
      rw [e1] at x1
      rw [e2] at x2
      have HB2 := hide ((unhide HB).alloc (unhide HB).size (.cells #[.int .i64 (L[k]).f.at_, .slice p1 (L[k]).f.locals.length p2, .slice p3 (L[k]).f.stack.length p4] 29))
      generalize L[k] = j at *
      have ki : (k : Int) < (L.length : Int) := by omega
      clear e1 e2 hne hcell
      go_wp2
      go_roundw
      case rel => exact ⟨k + 1, _, by omega, by go_num, rfl, HB2⟩
      case measure => simp [intOf]; omega
    · have hkl : k = L.length := by omega
      subst hkl
      have ki : ¬ (L.length : Int) < (L.length : Int) := by omega
      go_wp2
      go_ret
      exact ⟨⟨r, rfl⟩, unhide HB⟩
end Go.Proofs.Ytbgpkkbejbidlac
