/-
  jvmcoreref1's Field.
-/
import Derived.Test.YtlihhfijigoklabDoorOne
namespace Go.Proofs.YtlihhfijigoklabDoor
open Go.RowKit
theorem OneRes.cases {l : List UInt8} {e : Ending} (h : OneRes l 0 e) : (valLen l ≠ 0 ∧ e = .returned (.tuple #[.string ⟨(l.take (valLen l)).toArray⟩, .string ⟨(l.drop (valLen l)).toArray⟩, .bool true])) ∨
    (valLen l = 0 ∧ ∃ t r : ByteArray, e = .returned (.tuple #[.string t, .string r, .bool false])) := by
  unfold OneRes at h
  unfold valLen
  by_cases hc : dims l ≤ 255 ∧ elemLen (l.drop (dims l)) ≠ 0
  · rw [if_pos (by omega)] at h
    rw [if_pos hc]
    exact .inl ⟨by omega, h⟩
  · rw [if_neg (by omega)] at h
    rw [if_neg hc]
    obtain ⟨t, r, _, h⟩ := h
    exact .inr ⟨rfl, t, r, h⟩
theorem toList_mk (l : List UInt8) : (⟨l.toArray⟩ : ByteArray).toList = l := by rw [Lib.toList_data]
set_option maxRecDepth 100000 in
set_option maxHeartbeats 1000000 in
theorem RField_any (s : ByteArray) (w : World) (hs : s.size ≤ 32768) :
    Calls Tryd.prog 7 #[.string s] w fun e w' => e = .returned (.bool (fieldB s.data.toList)) ∧ Below w.heap.size w w' := by
  have hl : s.data.toList.length = s.size := by simp
  have hO := one_any s.size s 0 w rfl hs (by omega)
  have hle := val_le s.data.toList
  have hz : ((0 : Nat) : Int) = 0 := rfl
  rw [hz] at hO
  have HO := hide hO
  clear hO hz
  obtain ⟨L, eL⟩ : ∃ L, L = s.data.toList := ⟨_, rfl⟩
  rw [← eL] at HO hl hle ⊢
  clear eL
  go_enter Tryd.func7, Tryd.ntmps7
  go_wp2_with fail
  refine (unhide HO).mono ?_
  rintro e w' ⟨h1, hb⟩
  rcases h1.cases with ⟨hv, rfl⟩ | ⟨hv, t, r, rfl⟩
  · have hf : fieldB L = (L.drop (valLen L)).isEmpty := by
      have hne : L.isEmpty = false := by
        cases L with
        | nil => exact absurd rfl hv
        | cons _ _ => rfl
      unfold fieldB
      rw [hne, Bool.not_false, Bool.true_and, Bool.eq_iff_iff, decide_eq_true_iff, List.isEmpty_iff, List.drop_eq_nil_iff]
      omega
    have Hf := hide hf
    have htl := toList_mk (L.drop (valLen L))
    generalize L.drop (valLen L) = R at *
    generalize L.take (valLen L) = T at *
    clear hf h1 hv hl hle HO
    cases hR : R.isEmpty with
    | true =>
      rw [hR] at Hf
      go_wp2
      go_ret
      exact ⟨by rw [unhide Hf]; rfl, hb⟩
    | false =>
      rw [hR] at Hf
      go_wp2
      go_ret
      exact ⟨by rw [unhide Hf]; rfl, hb⟩
  · have hf : fieldB L = false := by
      unfold fieldB
      cases hL : L with
      | nil => rfl
      | cons b r => rw [← hL, hv, hL]; rfl
    have Hf := hide hf
    clear hf h1 hv hl hle HO
    go_wp2
    go_ret
    exact ⟨by rw [unhide Hf]; rfl, hb⟩
end Go.Proofs.YtlihhfijigoklabDoor
