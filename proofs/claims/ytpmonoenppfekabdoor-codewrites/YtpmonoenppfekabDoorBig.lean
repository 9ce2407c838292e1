/-
  Numbers as bytes, by the reference: Big, in, bytes.
-/
import Derived.Test.YtpmonoenppfekabDoorEncP
namespace Go.Proofs.YtpmonoenppfekabDoor
open Go.RowKit
theorem cat_text (a b : List UInt8) : (⟨a.toArray⟩ : ByteArray) ++ ⟨b.toArray⟩ = ⟨(a ++ b).toArray⟩ := by
  apply ByteArray.ext
  simp
theorem bytes_new (w : World) (l : List UInt8) (C : Array Value) (n : Nat) (hC : C = (l.map fun b => Value.int .u8 (b.toNat : Int)).toArray) (hn : n = l.length) :
    Sem.run Tryd.prog (convert 69 9 (.slice (some ⟨w.heap.size, 0, none⟩) n n)) (w.alloc (.cells C 5)) = .ok (.string ⟨l.toArray⟩) (w.alloc (.cells C 5)) := by
  subst hn
  refine run_convert_bytes_back (P := Tryd.prog) (w.alloc (.cells C 5)) 69 9 5 ⟨w.heap.size, 0, none⟩ l.length l Tryd.underlying69 Tryd.underlying5 Tryd.underlying9 fun j hj => ?_
  have : (⟨w.heap.size, 0, none⟩ : Addr).add j = ⟨w.heap.size, j, none⟩ := by simp [Addr.add]; omega
  rw [this, World.cell?_alloc_at _ _ _ _ rfl, hC]
  simp [hj]
theorem of_lt {n : Nat} (h : n < 256) : ((UInt8.ofNat n).toNat : Int) = (n : Int) := by simp only [UInt8.toNat_ofNat']; omega
theorem big_back (x n k : Nat) (hk : k < n) : (M.big x n).drop (n - (k + 1)) = UInt8.ofNat (x / 256 ^ k % 256) :: (M.big x n).drop (n - k) := by
  induction n generalizing x k with
  | zero => omega
  | succ n ih =>
    show (M.big (x / 256) n ++ [UInt8.ofNat (x % 256)]).drop _ = _ :: (M.big (x / 256) n ++ [UInt8.ofNat (x % 256)]).drop _
    have hl := M.big_len (x / 256) n
    cases k with
    | zero =>
      rw [show n + 1 - (0 + 1) = n by omega, Nat.sub_zero, List.drop_append_of_le_length (by omega), List.drop_of_length_le (by omega), List.drop_of_length_le (by simp; omega)]
      simp
    | succ k =>
      rw [show n + 1 - (k + 1 + 1) = n - (k + 1) by omega, show n + 1 - (k + 1) = n - k by omega, List.drop_append_of_le_length (by omega), List.drop_append_of_le_length (by omega), ih (x / 256) k (by omega), Nat.div_div_eq_div_mul, ← Nat.pow_succ']
      rfl
set_option maxRecDepth 100000 in
set_option maxHeartbeats 1000000 in
theorem Big_any (x n : Nat) (w : World) (hn : n ≤ 8) (hx : x < 2 ^ 64) :
    Calls Tryd.prog 96 #[.int .u64 (x : Int), .int .i64 (n : Int)] w fun e w' => e = .returned (.string ⟨(M.big x n).toArray⟩) ∧ Below w.heap.size w w' := by
  have hx2 : x ≤ 18446744073709551615 := by omega
  have Hx := hide hx
  clear hx
  go_enter Tryd.func96, Tryd.ntmps96
  go_wp2_with fail
  go_loopw [0, 1, 5] (fun y i v wr => ∃ k : Nat, k ≤ n ∧ i = .int .i64 ((n : Int) - (k : Int)) ∧ y = .int .u64 ((x / 256 ^ k : Nat) : Int) ∧ v = .string ⟨((M.big x n).drop (n - k)).toArray⟩ ∧ Below w.heap.size w wr) (fun _ i _ _ => (intOf i).toNat)
  case atStart => exact ⟨0, Nat.zero_le _, by simp, by simp, by rw [Nat.sub_zero, List.drop_of_length_le (by rw [M.big_len]; omega)], Below.refl _ _⟩
  case round =>
    obtain ⟨k, hk, rfl, rfl, rfl, hbe⟩ := hrel
    have hyx : x / 256 ^ k ≤ 18446744073709551615 := Nat.le_trans (Nat.div_le_self _ _) hx2
    by_cases hlt : k < n
    · have hbb := big_back x n k hlt
      have hdv : x / 256 ^ (k + 1) = x / 256 ^ k / 256 := by rw [Nat.pow_succ, Nat.div_div_eq_div_mul]
      have hbl : ((M.big x n).drop (n - k)).length ≤ 8 := by rw [List.length_drop, M.big_len]; omega
      obtain ⟨y, ey⟩ : ∃ y, y = x / 256 ^ k := ⟨_, rfl⟩
      obtain ⟨D, eD⟩ : ∃ D, D = (M.big x n).drop (n - k) := ⟨_, rfl⟩
      rw [← ey] at hyx hbb hdv ⊢
      rw [← eD] at hbb hbl ⊢
      have hcv := bytes_new wr [UInt8.ofNat (y % 256)] #[.int .u8 ((y : Int) % 256)] 1 (by simp only [List.map_cons, List.map_nil]; rw [of_lt (show y % 256 < 256 by omega)]; rfl) rfl
      have hcat := cat_text [UInt8.ofNat (y % 256)] D
      have Hbb := hide hbb
      have Hdv := hide hdv
      have Hcat := hide hcat
      clear ey eD hbb hdv hcat
      have hsz := hbe.size
      go_wp2
      go_roundw
      case rel => exact ⟨k + 1, by omega, by simp; omega, by rw [unhide Hdv]; rfl, by rw [unhide Hcat, unhide Hbb]; rfl, hbe.alloc hsz _⟩
      case measure => simp [intOf]; omega
    · have hkn : k = n := by omega
      subst hkn
      rw [Nat.sub_self, List.drop_zero]
      go_wp2
      go_ret
      exact ⟨rfl, hbe⟩
set_option maxHeartbeats 1000000 in
theorem in_s1 (x : Int) (w : World) : Calls Tryd.prog 97 #[.int .i64 x, .int .i64 1, .bool true] w fun e w' => e = .returned (.bool (decide (-128 ≤ x) && decide (x < 128))) ∧ w' = w := by
  by_cases h1 : -128 ≤ x
  · rw [decide_eq_true h1, Bool.true_and]
    go_enter Tryd.func97, Tryd.ntmps97
    go_wp2
    all_goals go_ret
    all_goals exact ⟨rfl, rfl⟩
  · have h2 : x < -128 := by omega
    rw [decide_eq_false h1, Bool.false_and]
    go_enter Tryd.func97, Tryd.ntmps97
    go_wp2
    all_goals go_ret
    all_goals exact ⟨rfl, rfl⟩
set_option maxHeartbeats 1000000 in
theorem in_s2 (x : Int) (w : World) : Calls Tryd.prog 97 #[.int .i64 x, .int .i64 2, .bool true] w fun e w' => e = .returned (.bool (decide (-32768 ≤ x) && decide (x < 32768))) ∧ w' = w := by
  by_cases h1 : -32768 ≤ x
  · rw [decide_eq_true h1, Bool.true_and]
    go_enter Tryd.func97, Tryd.ntmps97
    go_wp2
    all_goals go_ret
    all_goals exact ⟨rfl, rfl⟩
  · have h2 : x < -32768 := by omega
    rw [decide_eq_false h1, Bool.false_and]
    go_enter Tryd.func97, Tryd.ntmps97
    go_wp2
    all_goals go_ret
    all_goals exact ⟨rfl, rfl⟩
set_option maxHeartbeats 1000000 in
theorem in_s4 (x : Int) (w : World) : Calls Tryd.prog 97 #[.int .i64 x, .int .i64 4, .bool true] w fun e w' => e = .returned (.bool (decide (-2147483648 ≤ x) && decide (x < 2147483648))) ∧ w' = w := by
  by_cases h1 : -2147483648 ≤ x
  · rw [decide_eq_true h1, Bool.true_and]
    go_enter Tryd.func97, Tryd.ntmps97
    go_wp2
    all_goals go_ret
    all_goals exact ⟨rfl, rfl⟩
  · have h2 : x < -2147483648 := by omega
    rw [decide_eq_false h1, Bool.false_and]
    go_enter Tryd.func97, Tryd.ntmps97
    go_wp2
    all_goals go_ret
    all_goals exact ⟨rfl, rfl⟩
set_option maxHeartbeats 1000000 in
theorem in_u1 (x : Int) (w : World) : Calls Tryd.prog 97 #[.int .i64 x, .int .i64 1, .bool false] w fun e w' => e = .returned (.bool (decide (0 ≤ x) && decide (x < 256))) ∧ w' = w := by
  by_cases h1 : 0 ≤ x
  · rw [decide_eq_true h1, Bool.true_and]
    go_enter Tryd.func97, Tryd.ntmps97
    go_wp2
    all_goals go_ret
    all_goals exact ⟨rfl, rfl⟩
  · have h2 : x < 0 := by omega
    rw [decide_eq_false h1, Bool.false_and]
    go_enter Tryd.func97, Tryd.ntmps97
    go_wp2
    all_goals go_ret
    all_goals exact ⟨rfl, rfl⟩
set_option maxHeartbeats 1000000 in
theorem in_u2 (x : Int) (w : World) : Calls Tryd.prog 97 #[.int .i64 x, .int .i64 2, .bool false] w fun e w' => e = .returned (.bool (decide (0 ≤ x) && decide (x < 65536))) ∧ w' = w := by
  by_cases h1 : 0 ≤ x
  · rw [decide_eq_true h1, Bool.true_and]
    go_enter Tryd.func97, Tryd.ntmps97
    go_wp2
    all_goals go_ret
    all_goals exact ⟨rfl, rfl⟩
  · have h2 : x < 0 := by omega
    rw [decide_eq_false h1, Bool.false_and]
    go_enter Tryd.func97, Tryd.ntmps97
    go_wp2
    all_goals go_ret
    all_goals exact ⟨rfl, rfl⟩
def Fld (f : F) : Prop := f = ⟨1, -128, 127⟩ ∨ f = ⟨2, -32768, 32767⟩ ∨ f = M.fw ∨ f = ⟨1, 0, 255⟩ ∨ f = ⟨2, 0, 65535⟩
theorem holds_lt (n : Nat) (lo hi x : Int) (hn : n ≠ 0) : (decide (lo ≤ x) && decide (x < hi + 1)) = M.holds ⟨n, lo, hi⟩ x := by
  unfold M.holds
  rw [Bool.eq_iff_iff]
  simp [hn]
  omega
theorem in_any (f : F) (hf : Fld f) (x : Int) (w : World) : Calls Tryd.prog 97 #[.int .i64 x, .int .i64 (f.size : Int), .bool (decide (f.low < 0))] w fun e w' => e = .returned (.bool (M.holds f x)) ∧ w' = w := by
  rcases hf with rfl | rfl | rfl | rfl | rfl
  · rw [← holds_lt 1 (-128) 127 x (by decide)]; exact in_s1 x w
  · rw [← holds_lt 2 (-32768) 32767 x (by decide)]; exact in_s2 x w
  · rw [show M.fw = ⟨4, -2147483648, 2147483647⟩ from rfl, ← holds_lt 4 (-2147483648) 2147483647 x (by decide)]; exact in_s4 x w
  · rw [← holds_lt 1 0 255 x (by decide)]; exact in_u1 x w
  · rw [← holds_lt 2 0 65535 x (by decide)]; exact in_u2 x w
theorem Fld.size {f : F} (h : Fld f) : f.size ≤ 4 := by rcases h with rfl | rfl | rfl | rfl | rfl <;> decide
set_option maxHeartbeats 1000000 in
theorem bytes_any (f : F) (hf : Fld f) (x : Int) (w : World) : Calls Tryd.prog 65 #[.int .i64 x, .int .i64 (f.size : Int), .bool (decide (f.low < 0))] w fun e w' =>
    e = .returned (.tuple #[.string ⟨(M.nb f x).toArray⟩, .bool (M.holds f x)]) ∧ Below w.heap.size w w' := by
  have HI := hide (fun w => in_any f hf x w)
  have hB := fun w => Big_any (M.u64 x) f.size w (by have := hf.size; omega) (M.u64_lt x)
  rw [u64_cast] at hB
  have HB := hide hB
  obtain ⟨t, ht⟩ : ∃ t, t = M.nb f x := ⟨_, rfl⟩
  have ht' : M.big (M.u64 x) f.size = t := by rw [ht]; rfl
  rw [ht'] at HB
  rw [← ht]
  obtain ⟨r, hr⟩ : ∃ r, r = M.holds f x := ⟨_, rfl⟩
  rw [← hr] at HI ⊢
  obtain ⟨n, hn⟩ : ∃ n, n = f.size := ⟨_, rfl⟩
  obtain ⟨sg, hsg⟩ : ∃ sg, sg = decide (f.low < 0) := ⟨_, rfl⟩
  rw [← hn, ← hsg] at HI
  rw [← hn] at HB
  rw [← hn, ← hsg]
  clear hB ht ht' hr hn hsg
  have hu : IntKind.u64.wrap x = x % 18446744073709551616 := u64_wrap_eq x
  rw [← hu] at HB
  clear hu
  go_enter Tryd.func65, Tryd.ntmps65
  go_wp2_with fail
  refine (unhide HB _).mono ?_
  rintro e w1 ⟨rfl, hb1⟩
  go_wp2_with fail
  refine (unhide HI _).mono ?_
  rintro e w2 ⟨rfl, hww⟩
  subst w2
  go_wp2
  refine bodyPost_ret (v := .tuple #[.string ⟨t.toArray⟩, .bool r]) (by simp [results, Tryd.results65, go_sem]) rfl ?_
  exact ⟨rfl, hb1⟩
end Go.Proofs.YtpmonoenppfekabDoor
