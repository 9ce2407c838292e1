/-
  pool.Text of a slice of no units; jvmcoreref1's Text.
-/
import Derived.Test.YtlihhfijigoklaaText
namespace Go.Proofs.Ytlihhfijigoklaa
open Go.RowKit
set_option maxRecDepth 100000 in
set_option maxHeartbeats 1000000 in
theorem Text_nil (a : Option Addr) (cap : Nat) (w : World) :
    Calls Try.prog 10 #[.slice a 0 cap] w fun e w' => e = .returned (.string ⟨#[]⟩) ∧ Below w.heap.size w w' := by
  obtain ⟨i0, hi, hz0, hz1, hz2⟩ := info_parts Try.info5
  go_enter Try.func10, Try.ntmps10
  go_wp2_with (at_make; refine wpList_make_own _ rfl _ _ 48 rfl w.heap.size 5 i0 (.int .u8 0) 1 Try.underlying48 hi hz0 hz1 .i64 .i64 _ 0 rfl rfl rfl (by rw [hz2]; omega) (by unfold maxLen; omega) (Nat.le_refl _) ?_; intro w0 hown0 hgrow0)
  have hb := grown_below hgrow0
  have hcv : Sem.run Try.prog (convert 48 9 (.slice (some ⟨w.heap.size, 0, none⟩) 0 0)) w0 = .ok (.string ⟨#[]⟩) w0 := own_string (l := []) hown0
  clear hown0 hgrow0
  refine wp_loop_rounds 1 ?_
  rw [rounds_succ]
  go_wp2
  go_ret
  exact ⟨rfl, hb⟩
theorem cat_text (a b : List UInt8) : (⟨a.toArray⟩ : ByteArray) ++ ⟨b.toArray⟩ = ⟨(a ++ b).toArray⟩ := by
  apply ByteArray.ext; simp
set_option maxRecDepth 100000 in
set_option maxHeartbeats 1000000 in
theorem RefText_any (b off cap : Nat) (L : List Nat) (w : World) (hL : L.length ≤ 32768) (hok : M.Ok L) (hb : b < w.heap.size)
    (hc : ∀ j, j < L.length → w.cell? ⟨b, off + j, none⟩ = some (.int .i64 (L.getD j 0 : Nat))) :
    Calls Try.prog 11 #[.slice (some ⟨b, off, none⟩) L.length cap] w fun e w' => e = .returned (.string ⟨(M.text L).toArray⟩) ∧ Below w.heap.size w w' := by
  go_enter Try.func11, Try.ntmps11
  go_wp2_with fail
  go_loopw [3, 8] (fun v i wr => ∃ k : Nat, k ≤ L.length ∧ i = .int .i64 k ∧ v = .string ⟨(M.text (L.take k)).toArray⟩ ∧ Below w.heap.size w wr) (fun _ i _ => L.length - (intOf i).toNat)
  case atStart => exact ⟨0, Nat.zero_le _, rfl, by simp [M.text], Below.refl _ _⟩
  case round =>
    obtain ⟨k, hk, rfl, rfl, hbe⟩ := hrel
    have hlen : (M.text (L.take k)).length ≤ 98304 := by have := text_len_le (L.take k); rw [List.length_take] at this; omega
    by_cases hlt : k < L.length
    · obtain ⟨u, hu⟩ : ∃ u : Nat, u = L.getD k 0 := ⟨_, rfl⟩
      have hcx : wr.cell? ⟨b, off + k, none⟩ = some (.int .i64 (u : Int)) := by rw [hu]; exact (hbe.cell hb).trans (hc k hlt)
      have hu6 : u < 65536 := by rw [hu]; exact hok _ (by simp [List.getD, List.getElem?_eq_getElem hlt])
      have htk := text_take hlt
      rw [← hu] at htk
      have Htk := hide htk
      clear hu hc htk
      go_wp2_with fail
      refine (unit_any u wr hu6).mono ?_
      rintro e w' ⟨rfl, hb'⟩
      have hbz : Below w.heap.size w w' := hbe.trans (hb'.mono hbe.size)
      clear hb' hbe hcx
      generalize hT : M.text (L.take k) = T at *
      generalize hE : M.enc u = E at *
      have hEl : E.length ≤ 3 := by rw [← hE, M.enc_length]; exact (M.size_pos u).2
      have HT := hide hT
      have HE := hide hE
      clear hT hE
      go_wp2
      go_roundw
      case rel => exact ⟨k + 1, by omega, by go_num, by rw [cat_text, unhide Htk], hbz⟩
      case measure => simp [intOf]; omega
    · have hkl : k = L.length := by omega
      subst hkl
      rw [List.take_length]
      clear hc hlen
      go_wp2
      go_ret
      exact ⟨rfl, hbe⟩
end Go.Proofs.Ytlihhfijigoklaa
