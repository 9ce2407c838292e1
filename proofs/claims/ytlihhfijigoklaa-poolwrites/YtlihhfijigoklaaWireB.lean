/-
  Take, Number, Uint8, Uint16 of package wire.
-/
import Derived.Test.YtlihhfijigoklaaWire
namespace Go.Proofs.Ytlihhfijigoklaa
open Go.RowKit
theorem extract_list (s : ByteArray) (a n : Nat) : s.extract a (a + n) = ⟨((s.data.toList.drop a).take n).toArray⟩ := by
  apply ByteArray.ext; apply Array.ext'
  rw [ByteArray.data_extract, Array.toList_extract, List.extract_eq_take_drop, show a + n - a = n by omega]
theorem Rd.setPosN {w : World} {R : Nat} {s : ByteArray} {st : St} {c4 c5 : Value} (h : Rd w R s st c4 c5) (k n : Nat) (he : st.e = 0) :
    Rd ((w.drewN k).setCell ⟨R, 1, none⟩ (.int .i64 ((st.pos : Int) + (n : Int)))) R s ⟨st.pos + n, 0, st.p⟩ c4 c5 := by
  have hq := (h.drewN k).setPos (st.pos + n)
  rw [he, Int.natCast_add] at hq
  exact hq
theorem or64 (x b : Nat) (hx : x ≤ 72057594037927935) (hb : b < 256) : bits BinOp.or IntKind.u64 ((x : Int) * 256) (b : Int) = ((x * 256 + b : Nat) : Int) := by
  have h := bits_or_u64_nat (x * 256) b (by omega) (by omega)
  have h2 := Nat.two_pow_add_eq_or_of_lt (i := 8) (b := b) (by omega) x
  simp only [Nat.reducePow] at h2
  rw [Nat.mul_comm 256 x] at h2
  rw [Int.natCast_mul] at h
  rw [h2]; exact h
def Took (R : Nat) (s : ByteArray) (st' : St) (c4 c5 : Value) (w : World) (x : Value) (e : Ending) (w' : World) : Prop :=
  e = .returned x ∧ Rd w' R s st' c4 c5 ∧ w.grownBy w' (some R)
set_option maxHeartbeats 400000 in
theorem Take_any (R : Nat) (s : ByteArray) (st : St) (c4 c5 : Value) (n : Nat) (w : World) (h : Rd w R s st c4 c5) (hs : s.size ≤ 131072) (hn : n ≤ 65535) (hp : st.pos ≤ s.size) :
    Calls Try.prog 43 #[.pointer (some ⟨R, 0, none⟩), .int .i64 (n : Int)] w fun x w' => Took R s (M.take s.data.toList n st).2 c4 c5 w (.string ⟨(M.take s.data.toList n st).1.toArray⟩) x w' := by
  obtain ⟨h0, h1, h2, h3, h4, h5⟩ := h.cells
  have hl : s.data.toList.length = s.size := by simp
  have hf1 := h.frozen 1
  by_cases hr : s.size - st.pos < n
  · have hri : (s.size : Int) - (st.pos : Int) < (n : Int) := by omega
    have hres : M.take s.data.toList n st = ([], M.fail st 1 s.size) := by
      unfold M.take M.fail; rw [hl]
      by_cases he : st.e = 0
      · rw [if_pos he, if_pos hr, if_pos he]
      · rw [if_neg he, if_neg he]
    rw [hres]
    have hbad : (M.fail st 1 s.size).e ≠ 0 := by
      unfold M.fail; split
      · simp
      · assumption
    clear hres hl hr
    go_enter Try.func43, Try.ntmps43
    go_wp2_with fail
    go_quiet (fail)
    go_wp2_with fail
    refine (Fail_any R s st c4 c5 1 s.size _ (h.drewN _)).mono ?_
    rintro e w1 ⟨rfl, hr1, hg1, hz1⟩
    clear h0 h1 h2 h3 h4 h5 hf1
    go_wp2_with fail
    refine (Good_any R s _ c4 c5 w1 hr1).mono ?_
    rintro e w2 ⟨rfl, hw⟩
    subst w2
    rw [decide_eq_false hbad]
    clear hbad
    go_wp2
    go_ret
    exact ⟨rfl, hr1, grown_trans (grown_drewN w (some R) _) hg1⟩
  · have hri : (n : Int) ≤ (s.size : Int) - (st.pos : Int) := by omega
    by_cases he : st.e = 0
    · have hres : M.take s.data.toList n st = ((s.data.toList.drop st.pos).take n, ⟨st.pos + n, 0, st.p⟩) := by
        unfold M.take; rw [hl, if_pos he, if_neg hr]
      rw [hres]
      have hx := extract_list s st.pos n
      have Hx := hide hx
      clear hres hl hx hr
      go_enter Try.func43, Try.ntmps43
      go_wp2_with fail
      go_quiet (fail)
      go_wp2_with fail
      refine (Good_any R s st c4 c5 _ (h.drewN _)).mono ?_
      rintro e w2 ⟨rfl, hw⟩
      subst w2
      rw [decide_eq_true he]
      have He := hide he
      clear he
      have hk1 : (st.pos : Int) + (n : Int) ≤ (s.size : Int) := by omega
      go_wp2_with fail
      go_quiet (fail)
      go_wp2
      go_ret
      exact ⟨congrArg (fun z => Ending.returned (.string z)) (unhide Hx), h.setPosN _ n (unhide He), grown_trans (grown_drewN w (some R) _) (grown_set _ R 1 _)⟩
    · have hres : M.take s.data.toList n st = ([], st) := by unfold M.take; rw [if_neg he]
      rw [hres]
      clear hres hl hr
      go_enter Try.func43, Try.ntmps43
      go_wp2_with fail
      go_quiet (fail)
      go_wp2_with fail
      refine (Good_any R s st c4 c5 _ (h.drewN _)).mono ?_
      rintro e w2 ⟨rfl, hw⟩
      subst w2
      rw [decide_eq_false he]
      clear he
      go_wp2
      go_ret
      exact ⟨rfl, h.drewN _, grown_drewN w (some R) _⟩
theorem num_snoc (l : List UInt8) (b : UInt8) : M.num (l ++ [b]) = M.num l * 256 + b.toNat := by simp [M.num]
theorem num_take (l : List UInt8) (k : Nat) (hk : k < l.length) : M.num (l.take (k + 1)) = M.num (l.take k) * 256 + (l.getD k 0).toNat := by
  rw [List.take_add_one, List.getElem?_eq_getElem hk]; simp only [Option.toList_some, num_snoc, List.getD, List.getElem?_eq_getElem hk, Option.getD_some]
theorem num_lt (l : List UInt8) : M.num l < 256 ^ l.length := by
  suffices ∀ n, ∀ l : List UInt8, l.length = n → M.num l < 256 ^ n from this _ l rfl
  intro n
  induction n with
  | zero => intro l hl; rw [List.length_eq_zero_iff.1 hl]; simp [M.num]
  | succ n ih =>
    intro l hl
    have h1 := num_take l n (by omega)
    rw [List.take_of_length_le (by omega)] at h1
    have h2 := ih (l.take n) (by simp; omega)
    have h3 := (l.getD n 0).toNat_lt
    rw [h1, Nat.pow_succ]; omega
theorem take_len (s : List UInt8) (n : Nat) (st : St) : (M.take s n st).1.length ≤ n := by
  unfold M.take; split
  · split
    · simp
    · simp; omega
  · simp
set_option maxHeartbeats 400000 in
theorem Number_any (R : Nat) (s : ByteArray) (st : St) (c4 c5 : Value) (n : Nat) (w : World) (h : Rd w R s st c4 c5) (hs : s.size ≤ 131072) (hn : n ≤ 8) (hp : st.pos ≤ s.size) :
    Calls Try.prog 41 #[.pointer (some ⟨R, 0, none⟩), .int .i64 (n : Int)] w fun x w' => Took R s (M.take s.data.toList n st).2 c4 c5 w (.int .u64 (M.num (M.take s.data.toList n st).1 : Nat)) x w' := by
  have hl := take_len s.data.toList n st
  have hc := Take_any R s st c4 c5 n w h hs (by omega) hp
  obtain ⟨T, st', hT⟩ : ∃ T st', M.take s.data.toList n st = (T, st') := ⟨_, _, rfl⟩
  rw [hT] at hl hc ⊢
  clear hT h
  simp only at hl hc ⊢
  have Hc := hide hc
  clear hc
  go_enter Try.func41, Try.ntmps41
  go_wp2_with fail
  refine (unhide Hc).mono ?_
  clear Hc
  rintro e w1 ⟨rfl, hr1, hg1⟩
  obtain ⟨cp, w2, hrun, hcell, hsz, hbe⟩ := conv_bytes w1 ⟨T.toArray⟩
  have hts : (⟨T.toArray⟩ : ByteArray).size = T.length := by show T.toArray.size = _; simp
  rw [hts] at hrun hcell
  have hcell' : ∀ j, j < T.length → w2.cell? ⟨w1.heap.size, j, none⟩ = some (.int .u8 ((T.getD j 0).toNat : Int)) := hcell
  have Hcell := hide hcell'
  clear hcell hcell' hts
  go_wp2_with fail
  go_loopw [5, 13] (fun x i wr => ∃ k : Nat, k ≤ T.length ∧ i = .int .i64 k ∧ x = .int .u64 (M.num (T.take k) : Nat) ∧ wr = w2) (fun _ i _ => T.length - (intOf i).toNat)
  case atStart => exact ⟨0, Nat.zero_le _, rfl, rfl, rfl⟩
  case round =>
    obtain ⟨k, hk, rfl, rfl, rfl⟩ := hrel
    by_cases hlt : k < T.length
    · have hck := unhide Hcell k hlt
      obtain ⟨b, hb⟩ : ∃ b : Nat, b = (T.getD k 0).toNat := ⟨_, rfl⟩
      have hnt := num_take T k hlt
      have hbt : b < 256 := by rw [hb]; exact (T.getD k 0).toNat_lt
      have hx := num_lt (T.take k)
      have hx7 : M.num (T.take k) ≤ 72057594037927935 := by
        have hlk : (T.take k).length ≤ 7 := by rw [List.length_take]; omega
        have := Nat.pow_le_pow_right (show 0 < 256 by omega) hlk
        have e7 : 256 ^ 7 = 72057594037927936 := by decide
        omega
      rw [← hb] at hnt hck
      clear hb hx
      obtain ⟨x, hxx⟩ : ∃ x, x = M.num (T.take k) := ⟨_, rfl⟩
      rw [← hxx] at hnt hx7 ⊢
      have Hnt := hide hnt
      clear hxx hnt
      have ho := or64 x b hx7 hbt
      rw [← unhide Hnt] at ho
      have Ho := hide ho
      clear ho Hnt
      go_wp2
      go_roundw
      case rel => exact ⟨k + 1, by omega, by go_num, by rw [unhide Ho], trivial⟩
      case measure => simp [intOf]; omega
    · have hkl : k = T.length := by omega
      subst hkl
      rw [List.take_length]
      have hz := hr1.lt
      have hr2 : Rd wr R s st' c4 c5 := hr1.kept (grown_of_below hbe none) (by simp)
      have hg2 := grown_trans hg1 (grown_of_below hbe (some R))
      clear hrun Hcell hr1 hg1 hbe
      go_wp2
      go_ret
      exact ⟨rfl, hr2, hg2⟩
set_option maxHeartbeats 400000 in
theorem Uint8_any (R : Nat) (s : ByteArray) (st : St) (c4 c5 : Value) (w : World) (h : Rd w R s st c4 c5) (hs : s.size ≤ 131072) (hp : st.pos ≤ s.size) :
    Calls Try.prog 42 #[.pointer (some ⟨R, 0, none⟩)] w fun x w' => Took R s (M.take s.data.toList 1 st).2 c4 c5 w (.int .u8 (M.num (M.take s.data.toList 1 st).1 : Nat)) x w' := by
  have hl := take_len s.data.toList 1 st
  have hc := Number_any R s st c4 c5 1 w h hs (by omega) hp
  obtain ⟨T, st', hT⟩ : ∃ T st', M.take s.data.toList 1 st = (T, st') := ⟨_, _, rfl⟩
  rw [hT] at hl hc ⊢
  clear hT h
  simp only at hl hc ⊢
  have hx := num_lt T
  have hx2 : M.num T ≤ 255 := by have := Nat.pow_le_pow_right (show 0 < 256 by omega) hl; omega
  have Hc := hide hc
  clear hc hx hl
  go_enter Try.func42, Try.ntmps42
  go_wp2_with fail
  refine (unhide Hc).mono ?_
  clear Hc
  rintro e w1 ⟨rfl, hr1, hg1⟩
  go_wp2
  go_ret
  exact ⟨rfl, hr1, hg1⟩
set_option maxHeartbeats 400000 in
theorem Uint16_any (R : Nat) (s : ByteArray) (st : St) (c4 c5 : Value) (w : World) (h : Rd w R s st c4 c5) (hs : s.size ≤ 131072) (hp : st.pos ≤ s.size) :
    Calls Try.prog 34 #[.pointer (some ⟨R, 0, none⟩)] w fun x w' => Took R s (M.take s.data.toList 2 st).2 c4 c5 w (.int .u16 (M.num (M.take s.data.toList 2 st).1 : Nat)) x w' := by
  have hl := take_len s.data.toList 2 st
  have hc := Number_any R s st c4 c5 2 w h hs (by omega) hp
  obtain ⟨T, st', hT⟩ : ∃ T st', M.take s.data.toList 2 st = (T, st') := ⟨_, _, rfl⟩
  rw [hT] at hl hc ⊢
  clear hT h
  simp only at hl hc ⊢
  have hx := num_lt T
  have hx2 : M.num T ≤ 65535 := by have := Nat.pow_le_pow_right (show 0 < 256 by omega) hl; omega
  have Hc := hide hc
  clear hc hx hl
  go_enter Try.func34, Try.ntmps34
  go_wp2_with fail
  refine (unhide Hc).mono ?_
  clear Hc
  rintro e w1 ⟨rfl, hr1, hg1⟩
  go_wp2
  go_ret
  exact ⟨rfl, hr1, hg1⟩
end Go.Proofs.Ytlihhfijigoklaa
