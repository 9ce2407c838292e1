/-
  Slots on both sides, and fit.
-/
import Derived.Test.YtejbnbilbagkmaaDoorVals
namespace Go.Proofs.YtejbnbilbagkmaaDoor
open Go.RowKit
theorem slotN_cases (l : List UInt8) : (l = [74] ∧ slotN l = 2) ∨ (l = [68] ∧ slotN l = 2) ∨ (l = [86] ∧ slotN l = 0) ∨ (l ≠ [74] ∧ l ≠ [68] ∧ l ≠ [86] ∧ slotN l = 1) := by
  unfold slotN
  by_cases h1 : l = [74]
  · exact .inl ⟨h1, by simp [h1]⟩
  · by_cases h2 : l = [68]
    · exact .inr (.inl ⟨h2, by simp [h2]⟩)
    · by_cases h3 : l = [86]
      · exact .inr (.inr (.inl ⟨h3, by simp [h3]⟩))
      · exact .inr (.inr (.inr ⟨h1, h2, h3, by simp [h1, h2, h3]⟩))
theorem of_data {s : ByteArray} {l : List UInt8} (h : s.data.toList = l) : s = ⟨l.toArray⟩ := by
  cases s; subst h; simp
set_option maxRecDepth 100000 in
set_option maxHeartbeats 1000000 in
theorem Slots_any (s : ByteArray) (w : World) :
    Calls Tryd.prog 14 #[.string s] w fun e w' => e = .returned (.int .i64 (slotN s.data.toList : Nat)) ∧ w' = w := by
  rcases slotN_cases s.data.toList with ⟨h, e⟩ | ⟨h, e⟩ | ⟨h, e⟩ | ⟨h1, h2, h3, e⟩
  · rw [e, of_data h]
    clear h e
    go_enter Tryd.func14, Tryd.ntmps14
    go_wp2
    go_ret
    exact ⟨rfl, rfl⟩
  · rw [e, of_data h]
    clear h e
    go_enter Tryd.func14, Tryd.ntmps14
    go_wp2
    go_ret
    exact ⟨rfl, rfl⟩
  · rw [e, of_data h]
    clear h e
    go_enter Tryd.func14, Tryd.ntmps14
    go_wp2
    go_ret
    exact ⟨rfl, rfl⟩
  · rw [e]
    have n1 : (s.toList == [74]) = false := by rw [Lib.toList_data, beq_eq_false_iff_ne]; exact h1
    have n2 : (s.toList == [68]) = false := by rw [Lib.toList_data, beq_eq_false_iff_ne]; exact h2
    have n3 : (s.toList == [86]) = false := by rw [Lib.toList_data, beq_eq_false_iff_ne]; exact h3
    clear h1 h2 h3 e
    go_enter Tryd.func14, Tryd.ntmps14
    go_wp2
    go_ret
    exact ⟨rfl, rfl⟩
set_option maxRecDepth 100000 in
set_option maxHeartbeats 1000000 in
theorem RSlots_any (s : ByteArray) (w : World) :
    Calls Tryd.prog 15 #[.string s] w fun e w' => e = .returned (.int .i64 (slotN s.data.toList : Nat)) ∧ w' = w := by
  rcases slotN_cases s.data.toList with ⟨h, e⟩ | ⟨h, e⟩ | ⟨h, e⟩ | ⟨h1, h2, h3, e⟩
  · rw [e, of_data h]
    clear h e
    go_enter Tryd.func15, Tryd.ntmps15
    go_wp2
    go_ret
    exact ⟨rfl, rfl⟩
  · rw [e, of_data h]
    clear h e
    go_enter Tryd.func15, Tryd.ntmps15
    go_wp2
    go_ret
    exact ⟨rfl, rfl⟩
  · rw [e, of_data h]
    clear h e
    go_enter Tryd.func15, Tryd.ntmps15
    go_wp2
    go_ret
    exact ⟨rfl, rfl⟩
  · rw [e]
    have n1 : (s.toList == [74]) = false := by rw [Lib.toList_data, beq_eq_false_iff_ne]; exact h1
    have n2 : (s.toList == [68]) = false := by rw [Lib.toList_data, beq_eq_false_iff_ne]; exact h2
    have n3 : (s.toList == [86]) = false := by rw [Lib.toList_data, beq_eq_false_iff_ne]; exact h3
    clear h1 h2 h3 e
    go_enter Tryd.func15, Tryd.ntmps15
    go_wp2
    go_ret
    exact ⟨rfl, rfl⟩
/-- A slice value that reads as these texts. -/
def Has (w : World) (v : Value) (L : List (List UInt8)) : Prop :=
  (∃ a c, v = .slice a 0 c ∧ L = []) ∨ ∃ g off c, v = .slice (some ⟨g, off, none⟩) L.length c ∧ ∀ j, j < L.length → w.cell? ⟨g, off + j, none⟩ = (SV L)[j]?
theorem Has.of_own {w : World} {B : Nat} {v : Value} {L : List (List UInt8)} (h : w.ownsRow B 9 1 v L.length (SV L)) : Has w v L := by
  rcases h.2 with ⟨h1, h0⟩ | ⟨g, cap, cur, hv, _⟩
  · exact .inl ⟨none, 0, h1, List.length_eq_zero_iff.1 h0⟩
  · subst hv; exact .inr ⟨g, 0, cap, rfl, fun j hj => by rw [Nat.zero_add]; exact h.cellAt j (by omega)⟩
theorem SV_at {L : List (List UInt8)} {k : Nat} (hk : k < L.length) : ∃ l, L[k]? = some l ∧ (SV L)[k]? = some (.string ⟨l.toArray⟩) := by
  refine ⟨L[k], List.getElem?_eq_getElem hk, ?_⟩
  simp [SV, hk]
set_option maxRecDepth 100000 in
set_option maxHeartbeats 1000000 in
theorem fit_any (v : Value) (L : List (List UInt8)) (w : World) (hL : L.length ≤ 32768) (h : Has w v L) :
    Calls Tryd.prog 28 #[v] w fun e w' => e = .returned (.bool (decide (slotsN L ≤ 254))) ∧ Below w.heap.size w w' := by
  rcases h with ⟨a, c, rfl, rfl⟩ | ⟨g, off, c, rfl, hc⟩
  · go_enter Tryd.func28, Tryd.ntmps28
    go_wp2_with fail
    refine wp_loop_rounds 1 ?_
    rw [rounds_succ]
    go_wp2
    go_ret
    exact ⟨rfl, Below.refl _ _⟩
  · have Hc := hide hc
    clear hc
    go_enter Tryd.func28, Tryd.ntmps28
    go_wp2_with fail
    go_loopw [3, 8] (fun x y wx => ∃ k : Nat, k ≤ L.length ∧ x = .int .i64 ((slotsN (L.take k) : Nat) : Int) ∧ y = .int .i64 (k : Int) ∧ wx = w) (fun _ y _ => L.length - (intOf y).toNat)
    case atStart => exact ⟨0, Nat.zero_le _, rfl, rfl, rfl⟩
    case round =>
      obtain ⟨k, hk, rfl, rfl, hww⟩ := hrel
      subst wr
      have hsl := slots_le (L.take k)
      rw [List.length_take] at hsl
      by_cases hlt : k < L.length
      · obtain ⟨l, hl1, hl2⟩ := SV_at hlt
        have hcell : w.cell? ⟨g, off + k, none⟩ = some (.string ⟨l.toArray⟩) := (unhide Hc k hlt).trans hl2
        have hst := slots_take hl1
        have hln := slotN_le l
        have hS := Slots_any ⟨l.toArray⟩ w
        rw [data_of] at hS
        have HS := hide hS
        have Hst := hide hst
        generalize slotsN (L.take k) = A at *
        generalize slotN l = D at *
        have hki : (k : Int) < (L.length : Int) := by omega
        have hA : A ≤ 65536 := by omega
        clear hl1 hl2 hst hS hsl
        go_wp2_with fail
        refine (unhide HS).mono ?_
        rintro e w' ⟨rfl, hww⟩
        subst w'
        go_wp2
        go_roundw
        case rel => exact ⟨k + 1, by omega, by rw [unhide Hst]; simp, by simp, trivial⟩
        case measure => simp [intOf]; omega
      · obtain rfl : k = L.length := by omega
        rw [List.take_length]
        rw [List.take_length] at hsl
        have hS := slots_le L
        have hq : decide ((slotsN L : Int) ≤ 254) = decide (slotsN L ≤ 254) := by congr 1; apply propext; omega
        have Hq := hide hq
        clear hq hsl
        go_wp2
        go_ret
        exact ⟨by rw [← unhide Hq]; rfl, Below.refl _ _⟩
end Go.Proofs.YtejbnbilbagkmaaDoor
