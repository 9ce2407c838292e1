/-
  isText of package pool.
-/
import Derived.Test.YtlihhfijigoklaaEach
namespace Go.Proofs.Ytlihhfijigoklaa
open Go.RowKit
def M.IsText (l : List UInt8) : Prop := ∃ L, M.Ok L ∧ M.text L = l
def TextAt (s : ByteArray) (w wr : World) (k : Nat) (L : List Nat) : Prop := M.Ok L ∧ M.text L = s.data.toList.take k ∧ Below w.heap.size w wr
theorem TextAt.step {s : ByteArray} {w wr w2 : World} {k : Nat} {L : List Nat} {u n : Nat} (h : TextAt s w wr k L) (hu : u < 65536) (hn : n = M.size u) (r : List UInt8) (hr : s.data.toList.drop k = M.enc u ++ r) (hk : k < s.size)
    (hb : Below wr.heap.size wr w2) : k + n ≤ s.size ∧ TextAt s w w2 (k + n) (L ++ [u]) := by
  obtain ⟨a1, a2, a7⟩ := h
  have hl : (s.data.toList.drop k).length = s.size - k := by simp
  have hl2 : (M.enc u).length ≤ s.size - k := by rw [← hl, hr]; simp
  rw [M.enc_length, ← hn] at hl2
  refine ⟨by omega, fun x hx => ?_, ?_, a7.trans (hb.mono a7.size)⟩
  · rcases List.mem_append.1 hx with q | q
    · exact a1 x q
    · simp at q; omega
  · rw [M.text_snoc, a2, List.take_add, hr, List.take_left' (by rw [M.enc_length, hn])]
theorem TextAt.stop {s : ByteArray} {w wr : World} {k : Nat} {L : List Nat} (h : TextAt s w wr k L) (hk : k < s.size) (hr : ∀ v, v < 65536 → ∀ r, s.data.toList.drop k ≠ M.enc v ++ r) : ¬ M.IsText s.data.toList := by
  obtain ⟨a1, a2, -⟩ := h
  have := M.stop_none (r := s.data.toList.drop k) a1 (by intro hh; have := congrArg List.length hh; simp at this; omega) hr
  rw [a2, List.take_append_drop] at this
  rintro ⟨m, hm, ht⟩
  rcases this with ⟨_, h, _⟩ | ⟨_, h⟩
  · cases h
  · exact h m hm ht
/-- What isText answers. -/
def Texted (s : ByteArray) (w : World) (e : Ending) (w' : World) : Prop :=
  ((e = .returned (.bool true) ∧ M.IsText s.data.toList) ∨ (e = .returned (.bool false) ∧ ¬ M.IsText s.data.toList)) ∧ Below w.heap.size w w'
set_option maxHeartbeats 400000 in
theorem skip_any (u : Nat) (w : World) : Calls Try.prog 46 #[.int .u16 u] w fun e w' => e = .returned (.tuple #[]) ∧ w' = w := by
  go_enter Try.func46, Try.ntmps46
  go_wp2
  go_end0
  exact ⟨rfl, rfl⟩
set_option maxHeartbeats 400000 in
theorem each_text (s : ByteArray) (w : World) (hs : s.size ≤ 131072) :
    Calls Try.prog 18 #[.string s, .func (.func 46) #[] #[]] w fun e w' => Texted s w e w' := by
  have hbox : TextAt s w w 0 [] := ⟨fun _ h => by simp at h, by simp [M.text], Below.refl _ _⟩
  go_enter Try.func18, Try.ntmps18
  go_wp2_with fail
  go_loopw [5] (fun i wr => ∃ k L, k ≤ s.size ∧ i = .int .i64 (k : Nat) ∧ TextAt s w wr k L) (fun i _ => s.size - (intOf i).toNat)
  case atStart => exact ⟨0, [], Nat.zero_le _, rfl, hbox⟩
  case round =>
    obtain ⟨k, L, hk, rfl, hbx⟩ := hrel
    clear hbox
    by_cases hlt : k < s.size
    · go_wp2_with fail
      refine (firstUnit_any (s.extract k s.size) wr (by simp; omega) (by simp; omega)).mono ?_
      rintro e w2 ⟨u, n, rfl, hF, hb2⟩
      rw [drop_extract] at hF
      rcases hF with ⟨hu, hn, r, hr⟩ | ⟨rfl, rfl, hno⟩
      · have hnp : 0 < n ∧ n ≤ 3 := by have := M.size_pos u; omega
        have hne : ((n : Int) == 0) = false := by rw [beq_eq_false_iff_ne]; omega
        obtain ⟨s1, s2⟩ := hbx.step hu hn r hr hlt hb2
        clear hn hr hbx hb2
        go_wp2_with fail
        refine (skip_any u w2).mono ?_
        rintro e w3 ⟨rfl, hww⟩
        subst w3
        go_wp2
        go_roundw
        case rel => exact ⟨k + n, L ++ [u], s1, by go_num, s2⟩
        case measure => simp [intOf]; omega
      · have hst := hbx.stop hlt hno
        have hbw : Below w.heap.size w w2 := hbx.2.2.trans (hb2.mono hbx.2.2.size)
        clear hno hbx
        go_wp2
        go_ret
        exact ⟨.inr ⟨rfl, hst⟩, hbw⟩
    · obtain ⟨a1, a2, a7⟩ := hbx
      have hks : k = s.size := by omega
      subst hks
      have a2' : M.text L = s.data.toList := by rw [a2, List.take_of_length_le]; simp
      have H1 : M.IsText s.data.toList := ⟨L, a1, a2'⟩
      clear a2 a2'
      go_wp2
      go_ret
      exact ⟨.inl ⟨rfl, H1⟩, a7⟩
set_option maxHeartbeats 400000 in
theorem isText_any (s : ByteArray) (w : World) (hs : s.size ≤ 131072) :
    Calls Try.prog 44 #[.string s] w fun e w' => Texted s w e w' := by
  go_enter Try.func44, Try.ntmps44
  go_wp2_with fail
  refine (each_text s w hs).mono ?_
  rintro e w1 ⟨⟨rfl, h⟩ | ⟨rfl, h⟩, hb⟩
  · go_wp2
    go_ret
    exact ⟨.inl ⟨rfl, h⟩, hb⟩
  · go_wp2
    go_ret
    exact ⟨.inr ⟨rfl, h⟩, hb⟩
end Go.Proofs.Ytlihhfijigoklaa
