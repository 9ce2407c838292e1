/-
  The reference: numbers as bytes; lists that are the same.
-/
import Derived.Test.YtbgpkkbejbidlacWo
namespace Go.Proofs.Ytbgpkkbejbidlac
open Go.RowKit Go.Maps
theorem cat_text (a b : List UInt8) : (⟨a.toArray⟩ : ByteArray) ++ ⟨b.toArray⟩ = ⟨(a ++ b).toArray⟩ := by
  apply ByteArray.ext
  simp
theorem bytes_new (w : World) (l : List UInt8) (C : Array Value) (n : Nat) (hC : C = (l.map fun b => Value.int .u8 (b.toNat : Int)).toArray) (hn : n = l.length) :
    Sem.run Try.prog (convert 67 9 (.slice (some ⟨w.heap.size, 0, none⟩) n n)) (w.alloc (.cells C 5)) = .ok (.string ⟨l.toArray⟩) (w.alloc (.cells C 5)) := by
  subst hn
  refine run_convert_bytes_back (P := Try.prog) (w.alloc (.cells C 5)) 67 9 5 ⟨w.heap.size, 0, none⟩ l.length l Try.underlying67 Try.underlying5 Try.underlying9 fun j hj => ?_
  have : (⟨w.heap.size, 0, none⟩ : Addr).add j = ⟨w.heap.size, j, none⟩ := by simp [Addr.add]; omega
  rw [this, World.cell?_alloc_at _ _ _ _ rfl, hC]
  simp [hj]
theorem of_lt {n : Nat} (h : n < 256) : ((UInt8.ofNat n).toNat : Int) = (n : Int) := by simp only [UInt8.toNat_ofNat']; omega
theorem big_back (x n k : Nat) (hk : k < n) : (M.big x n).drop (n - (k + 1)) = UInt8.ofNat (x / 256 ^ k % 256) :: (M.big x n).drop (n - k) := by
  induction n generalizing x k with
  | zero => omega
  | succ n ih =>
    show (M.big (x / 256) n ++ [UInt8.ofNat (x % 256)]).drop _ = _ :: (M.big (x / 256) n ++ [UInt8.ofNat (x % 256)]).drop _
    have hl := M.big_len (x / 256) n
    cases k with
    | zero =>
      rw [show n + 1 - (0 + 1) = n by omega, Nat.sub_zero, List.drop_append_of_le_length (by omega), List.drop_of_length_le (by omega), List.drop_of_length_le (by simp; omega)]
      simp
    | succ k =>
      rw [show n + 1 - (k + 1 + 1) = n - (k + 1) by omega, show n + 1 - (k + 1) = n - k by omega, List.drop_append_of_le_length (by omega), List.drop_append_of_le_length (by omega), ih (x / 256) k (by omega), Nat.div_div_eq_div_mul, ← Nat.pow_succ']
      rfl
set_option maxRecDepth 100000 in
set_option maxHeartbeats 1000000 in
theorem Big_any (x n : Nat) (w : World) (hn : n ≤ 8) (hx : x < 2 ^ 64) :
    Calls Try.prog 31 #[.int .u64 (x : Int), .int .i64 (n : Int)] w fun e w' => e = .returned (.string ⟨(M.big x n).toArray⟩) ∧ Below w.heap.size w w' := by
  have hx2 : x ≤ 18446744073709551615 := by omega
  have Hx := hide hx
  clear hx
  go_enter Try.func31, Try.ntmps31
  go_wp2_with fail
  go_loopw [0, 1, 5] (fun y i v wr => ∃ k : Nat, k ≤ n ∧ i = .int .i64 ((n : Int) - (k : Int)) ∧ y = .int .u64 ((x / 256 ^ k : Nat) : Int) ∧ v = .string ⟨((M.big x n).drop (n - k)).toArray⟩ ∧ Below w.heap.size w wr) (fun _ i _ _ => (intOf i).toNat)
  case atStart => exact ⟨0, Nat.zero_le _, by simp, by simp, by rw [Nat.sub_zero, List.drop_of_length_le (by rw [M.big_len]; omega)], Below.refl _ _⟩
  case round =>
    obtain ⟨k, hk, rfl, rfl, rfl, hbe⟩ := hrel
    have hyx : x / 256 ^ k ≤ 18446744073709551615 := Nat.le_trans (Nat.div_le_self _ _) hx2
    by_cases hlt : k < n
    · have hbb := big_back x n k hlt
      have hdv : x / 256 ^ (k + 1) = x / 256 ^ k / 256 := by rw [Nat.pow_succ, Nat.div_div_eq_div_mul]
      have hbl : ((M.big x n).drop (n - k)).length ≤ 8 := by rw [List.length_drop, M.big_len]; omega
      obtain ⟨y, ey⟩ : ∃ y, y = x / 256 ^ k := ⟨_, rfl⟩
      obtain ⟨D, eD⟩ : ∃ D, D = (M.big x n).drop (n - k) := ⟨_, rfl⟩
      rw [← ey] at hyx hbb hdv ⊢
      rw [← eD] at hbb hbl ⊢
      have hcv := bytes_new wr [UInt8.ofNat (y % 256)] #[.int .u8 ((y : Int) % 256)] 1 (by simp only [List.map_cons, List.map_nil]; rw [of_lt (show y % 256 < 256 by omega)]; rfl) rfl
      have hcat := cat_text [UInt8.ofNat (y % 256)] D
      have Hbb := hide hbb
      have Hdv := hide hdv
      have Hcat := hide hcat
      clear ey eD hbb hdv hcat
      have hsz := hbe.size
      go_wp2
      go_roundw
      case rel => exact ⟨k + 1, by omega, by simp; omega, by rw [unhide Hdv]; rfl, by rw [unhide Hcat, unhide Hbb]; rfl, hbe.alloc hsz _⟩
      case measure => simp [intOf]; omega
    · have hkn : k = n := by omega
      subst hkn
      rw [Nat.sub_self, List.drop_zero]
      go_wp2
      go_ret
      exact ⟨rfl, hbe⟩
theorem M.sh_full {A B : List T} (h : ∀ j, j < A.length → A.getD j T.zero = B.getD j T.zero) (hl : A.length = B.length) : M.sh A B = A.length := M.sh_all (Nat.le_refl _) (by omega) (.inl rfl) h
set_option maxRecDepth 100000 in
set_option maxHeartbeats 2000000 in
theorem same_any (v u : Value) (A B : List T) (w : World) (h1 : TIn w v A) (h2 : TIn w u B) (hA : A.length ≤ 1048576) : Calls Try.prog 33 #[v, u] w fun x w' => x = .returned (.bool (decide (A.length = B.length ∧ M.sh A B = A.length))) ∧ ∃ n, w' = w.drewN n := by
  obtain ⟨a1, c1, rfl, hc1⟩ := h1
  obtain ⟨a2, c2, rfl, hc2⟩ := h2
  have H1 := hide hc1
  have H2 := hide hc2
  clear hc1 hc2
  obtain ⟨r, hr⟩ : ∃ r, r = decide (A.length = B.length ∧ M.sh A B = A.length) := ⟨_, rfl⟩
  rw [← hr]
  have Hr := hide hr
  clear hr
  by_cases hl : A.length = B.length
  · rw [← hl]
    have hll : (((A.length : Nat) : Int) != ((A.length : Nat) : Int)) = false := by simp
    have Hl := hide hl
    clear hl
    go_enter Try.func33, Try.ntmps33
    go_wp2_with fail
    go_loopw [13] (fun i wr => ∃ k n : Nat, k ≤ A.length ∧ i = .int .i64 k ∧ Hid (∀ j, j < k → A.getD j T.zero = B.getD j T.zero) ∧ wr = w.drewN n) (fun i _ => A.length - (intOf i).toNat)
    case atStart => exact ⟨0, 0, Nat.zero_le _, rfl, fun _ h => by omega, rfl⟩
    case round =>
      obtain ⟨k, n, hk, rfl, He, rfl⟩ := hrel
      by_cases hlt : k < A.length
      · have ki : (k : Int) < (A.length : Int) := by omega
        have hkB : k < B.length := by have := unhide Hl; omega
        obtain ⟨b1, o1, rfl, q1⟩ := unhide H1 (by rintro rfl; simp at hlt)
        obtain ⟨b2, o2, rfl, q2⟩ := unhide H2 (by rintro rfl; simp at hkB)
        have r0 := q1 k hlt 0 (by omega)
        have r1 := q1 k hlt 1 (by omega)
        have r2 := q1 k hlt 2 (by omega)
        have s0 := q2 k hkB 0 (by omega)
        have s1 := q2 k hkB 1 (by omega)
        have s2 := q2 k hkB 2 (by omega)
        obtain ⟨x, hx⟩ : ∃ x, x = A.getD k T.zero := ⟨_, rfl⟩
        obtain ⟨y, hy⟩ : ∃ y, y = B.getD k T.zero := ⟨_, rfl⟩
        rw [← hx] at r0 r1 r2
        rw [← hy] at s0 s1 s2
        simp [T.cells] at r0 r1 r2 s0 s1 s2
        by_cases hxy : x = y
        · subst hxy
          have he2 : ∀ j, j < k + 1 → A.getD j T.zero = B.getD j T.zero := fun j hj => by
            by_cases e : j = k
            · rw [e, ← hx, ← hy]
            · exact unhide He j (by omega)
          have He2 := hide he2
          clear q1 q2 hx hy H1 H2 he2
          go_wp2_with fail
          go_quiet (fail)
          go_wp2
          go_roundw
          case rel => exact ⟨k + 1, _, by omega, by go_num, He2, rfl⟩
          case measure => simp [intOf]; omega
        · have hsh : M.sh A B = k := M.sh_at hlt hkB (unhide He) (by rw [← getD_eq, ← getD_eq, ← hx, ← hy]; exact hxy)
          have hd : r = false := by rw [unhide Hr, decide_eq_false_iff_not]; omega
          have Hd := hide hd
          have heq : x.eqb y = false := by rw [Bool.eq_false_iff]; exact fun e => hxy ((T.eqb_iff x y).1 e)
          have hne := agg_neq x y
          rw [heq, Bool.not_false] at hne
          clear q1 q2 hx hy H1 H2 hsh heq hxy hd
          go_wp2_with fail
          go_quiet (fail)
          go_wp2
          go_ret
          exact ⟨by rw [unhide Hd]; rfl, _, World.drewN_drewN _ _ _⟩
      · have hkn : k = A.length := by omega
        subst hkn
        have ki : ¬ (A.length : Int) < (A.length : Int) := by omega
        have hd : r = true := by rw [unhide Hr, decide_eq_true_iff]; exact ⟨unhide Hl, M.sh_full (unhide He) (unhide Hl)⟩
        have Hd := hide hd
        clear hd
        go_wp2
        go_ret
        exact ⟨by rw [unhide Hd]; rfl, _, rfl⟩
  · have hll : (((A.length : Nat) : Int) != ((B.length : Nat) : Int)) = true := by rw [bne_iff_ne]; omega
    have hd : r = false := by rw [unhide Hr, decide_eq_false_iff_not]; omega
    subst hd
    clear hl
    go_enter Try.func33, Try.ntmps33
    go_wp2
    go_ret
    exact ⟨rfl, 0, rfl⟩
end Go.Proofs.Ytbgpkkbejbidlac
