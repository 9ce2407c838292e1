/-
  wire.Append and appendNumbers.
-/
import Derived.Test.YtpmonoenppfekabDoorOper
import Derived.Test.YtpmonoenppfekabDoorEnc
namespace Go.Proofs.YtpmonoenppfekabDoor
open Go.RowKit
def U8 (l : List UInt8) : List Value := l.map fun b => Value.int .u8 (b.toNat : Int)
theorem U8_append (a b : List UInt8) : U8 (a ++ b) = U8 a ++ U8 b := by simp [U8]
theorem Tryd.info5 : (Tryd.prog.info? 5).map (fun i => (i.zero, i.size, i.bytes)) = some (some (.int .u8 0), 1, 1) := by kernel_rfl
theorem byte_at (x m : Nat) : (x : Int) / 2 ^ (8 * m) % 256 = (((UInt8.ofNat (x / 256 ^ m % 256)).toNat : Nat) : Int) := by
  have h1 : (2 : Int) ^ (8 * m) = ((256 ^ m : Nat) : Int) := by
    have h8 : ((256 : Nat) : Int) = 2 ^ 8 := rfl
    rw [Int.natCast_pow, h8, ← Int.pow_mul]
  rw [h1, UInt8.toNat_ofNat', Nat.mod_mod_of_dvd _ (by decide)]
  omega
/-- Nothing below B has turned, and no row that is not of bytes. -/
structure Fr (B : Nat) (w w' : World) : Prop where
  old : Below B w w'
  rest : ∀ (k : Nat) (c : Array Value) (t : TypeId) (fr : Nat × Nat), w.heap[k]? = some (Obj.cells c t fr) → t ≠ 5 → w'.heap[k]? = w.heap[k]?
theorem Fr.refl (B : Nat) (w : World) : Fr B w w := ⟨Below.refl _ _, fun _ _ _ _ _ _ => rfl⟩
theorem Fr.trans {B : Nat} {a b c : World} (h : Fr B a b) (k : Fr B b c) : Fr B a c :=
  ⟨h.old.trans k.old, fun i x t fr hi ht => (k.rest i x t fr ((h.rest i x t fr hi ht).trans hi) ht).trans (h.rest i x t fr hi ht)⟩
theorem Fr.alloc {B : Nat} {a w : World} (h : Fr B a w) (hB : B ≤ w.heap.size) (o : Obj) : Fr B a (w.alloc o) :=
  ⟨h.old.alloc hB o, fun i x t fr hi ht => by
    have hl : i < w.heap.size := Nat.lt_of_lt_of_le (Array.getElem?_eq_some_iff.1 hi).1 h.old.size
    rw [Below.heap_alloc w o i hl]; exact h.rest i x t fr hi ht⟩
theorem Fr.grown {B : Nat} {a w w' : World} {v : Value} {n : Nat} {xs : List Value} (h : Fr B a w) (ho : w.ownsRow B 5 1 v n xs) (hB : B ≤ w.heap.size) (hg : w.grownBy w' v.ownBlock) : Fr B a w' :=
  ⟨h.old.grown hg hB (fun k hk => (ho.lt k hk).1), fun i x t fr hi ht => by
    have h1 := h.rest i x t fr hi ht
    have hl : i < w.heap.size := Nat.lt_of_lt_of_le (Array.getElem?_eq_some_iff.1 hi).1 h.old.size
    refine (hg.block i hl ?_).trans h1
    intro e
    rcases ho.2 with ⟨rfl, _⟩ | ⟨g, cap, cur, rfl, _, hh, _⟩
    · simp [Value.ownBlock] at e
    · simp [Value.ownBlock] at e
      subst e
      rw [h1, hi] at hh
      simp at hh
      exact ht hh.2.1⟩
set_option maxRecDepth 100000 in
set_option maxHeartbeats 1000000 in
theorem Append_any (B : Nat) (v : Value) (l : List UInt8) (n : Nat) (g c : Nat) (xs : List Nat) (w : World) (hn : n ≤ 8) (hl : l.length ≤ 1000000) (hB : B ≤ w.heap.size) (hx : ∀ x ∈ xs, x < 2 ^ 64) (hm : xs.length ≤ 2)
    (ho : w.ownsRow B 5 1 v l.length (U8 l)) (hg : w.heap[g]? = some (.cells (xs.map fun (x : Nat) => Value.int .u64 (x : Int)).toArray 43 (0, 0))) :
    Calls Tryd.prog 111 #[v, .int .i64 (n : Int), .slice (some ⟨g, 0, none⟩) xs.length c] w fun e w' =>
      ∃ v', e = .returned v' ∧ w'.ownsRow B 5 1 v' (l ++ xs.flatMap fun x => M.big x n).length (U8 (l ++ xs.flatMap fun x => M.big x n)) ∧ Fr B w w' := by
  obtain ⟨i0, hi, hz0, hz1, hz2⟩ := info_parts Tryd.info5
  go_enter Tryd.func111, Tryd.ntmps111
  go_wp2_with fail
  go_loopw [0, 12] (fun v i wr => ∃ k : Nat, k ≤ xs.length ∧ i = .int .i64 k ∧ wr.ownsRow B 5 1 v (l ++ (xs.take k).flatMap fun x => M.big x n).length (U8 (l ++ (xs.take k).flatMap fun x => M.big x n)) ∧ Fr B w wr) (fun _ i _ => xs.length - (intOf i).toNat)
  case atStart => exact ⟨0, Nat.zero_le _, rfl, by simpa using ho, Fr.refl _ _⟩
  case round =>
    obtain ⟨k, hk, rfl, hown, hfr⟩ := hrel
    by_cases hlt : k < xs.length
    · obtain ⟨x, ex⟩ : ∃ x, x = xs.getD k 0 := ⟨_, rfl⟩
      have hcx : wr.cell? ⟨g, k, none⟩ = some (.int .u64 (x : Int)) := by
        have h1 := (hfr.rest g _ 43 _ hg (by decide)).trans hg
        rw [cell_of_row wr g k _ 43 (0, 0) h1, ex]
        simp [List.getD, List.getElem?_eq_getElem hlt]
      have hx1 : x < 2 ^ 64 := by rw [ex]; exact hx _ (by simp [List.getD, List.getElem?_eq_getElem hlt])
      have hx2 : x ≤ 18446744073709551615 := by omega
      have htk : (xs.take (k + 1)).flatMap (fun x => M.big x n) = (xs.take k).flatMap (fun x => M.big x n) ++ M.big x n := by
        have h1 : xs.take (k + 1) = xs.take k ++ [x] := by
          rw [List.take_add_one, List.getElem?_eq_getElem hlt, ex]; simp only [Option.toList_some, List.getD, List.getElem?_eq_getElem hlt, Option.getD_some]
        rw [h1, List.flatMap_append, List.flatMap_singleton]
      have hpl : (l ++ (xs.take k).flatMap fun x => M.big x n).length ≤ 1000016 := by
        have : ((xs.take k).flatMap fun x => M.big x n).length ≤ 16 := by
          rw [List.length_flatMap]
          have h8 : ((xs.take k).map fun x => (M.big x n).length) = (xs.take k).map fun _ => n := by simp [M.big_len]
          rw [h8, List.map_const', List.sum_replicate_nat, List.length_take]
          have := Nat.mul_le_mul (show min k xs.length ≤ 2 by omega) hn
          omega
        rw [List.length_append]; omega
      obtain ⟨P, eP⟩ : ∃ P, P = l ++ (xs.take k).flatMap fun x => M.big x n := ⟨_, rfl⟩
      have heP : l ++ (xs.take (k + 1)).flatMap (fun x => M.big x n) = P ++ M.big x n := by rw [htk, eP, List.append_assoc]
      rw [← eP] at hown hpl
      have HeP := hide heP
      have Hx := hide hx1
      clear ex htk eP heP hx1 hx
      go_wp2_with fail
      go_loopw [0, 9] (fun v i wr => ∃ j : Nat, j ≤ n ∧ i = .int .i64 ((n : Int) - 1 - (j : Int)) ∧ wr.ownsRow B 5 1 v (P ++ (M.big x n).take j).length (U8 (P ++ (M.big x n).take j)) ∧ Fr B w wr) (fun _ i _ => (intOf i + 1).toNat)
      case atStart => exact ⟨0, Nat.zero_le _, by simp, by simpa using hown, hfr⟩
      case round =>
        clear hown hfr hcx
        obtain ⟨j, hj, rfl, hown, hfr⟩ := hrel
        by_cases hj2 : j < n
        · have hsz := hfr.old.size
          have hba := byte_at x (n - 1 - j)
          have hbg := M.big_at x n j hj2
          obtain ⟨y, ey⟩ : ∃ y : UInt8, y = UInt8.ofNat (x / 256 ^ (n - 1 - j) % 256) := ⟨_, rfl⟩
          rw [← ey] at hba hbg
          have hbk : P ++ (M.big x n).take (j + 1) = P ++ (M.big x n).take j ++ [y] := by rw [hbg, List.append_assoc]
          have hlen : (P ++ (M.big x n).take j).length ≤ 1000024 := by
            rw [List.length_append, List.length_take, M.big_len]; omega
          obtain ⟨Q, eQ⟩ : ∃ Q, Q = P ++ (M.big x n).take j := ⟨_, rfl⟩
          rw [← eQ] at hbk hlen hown
          have Hbk := hide hbk
          have Hba := hide hba
          clear hba hbg hbk ey eQ
          go_wp2_with (at_builtin; rw [unhide Hba]; refine wpList_append_own _ rfl _ _ 69 rfl B 5 i0 (.int .u8 0) 1 1 Tryd.underlying69 hi hz0 hz1 hz2 rfl (by decide) _ _ _ rfl (hown.alloc _) ⟨wr.heap.size, 0, none⟩ 1 1 [.int .u8 (y.toNat : Int)] rfl rfl ?c1 ?c2 ?c3 ?c4 ?c5 ?_)
          case c1 =>
            intro j u hj
            match j, hj with
            | 0, hj => simp at hj; subst hj; simp [Addr.add]
          case c2 => intro u hu; simp at hu; subst hu; rfl
          case c3 => unfold maxLen; omega
          case c4 => omega
          case c5 => simp; omega
          intro v' w1 hown' hgrow _
          have hf1 : Fr B w w1 := (hfr.alloc (by omega) _).grown (hown.alloc _) (by simp; omega) hgrow
          have ho1 : w1.ownsRow B 5 1 v' (P ++ (M.big x n).take (j + 1)).length (U8 (P ++ (M.big x n).take (j + 1))) := by
            rw [unhide Hbk, U8_append, List.length_append]; exact hown'
          clear hown' hgrow hown Hbk Hba
          go_wp2
          go_roundw
          case rel => exact ⟨j + 1, by omega, by simp; omega, ho1, hf1⟩
          case measure => simp [intOf]; omega
        · have hjn : j = n := by omega
          subst hjn
          rw [List.take_of_length_le (by rw [M.big_len]; omega)] at hown
          rw [← unhide HeP] at hown
          clear HeP
          go_wp2
          go_roundw
          case rel => exact ⟨k + 1, by omega, by go_num, hown, hfr⟩
          case measure => simp [intOf]; omega
    · have hkl : k = xs.length := by omega
      subst hkl
      rw [List.take_length] at hown
      go_wp2
      go_ret
      exact ⟨_, rfl, hown, hfr⟩
theorem u64_wrap_eq (x : Int) : IntKind.u64.wrap x = x % 18446744073709551616 := by simp [IntKind.wrap_u64]
theorem u64_cast (x : Int) : ((M.u64 x : Nat) : Int) = x % 18446744073709551616 := by unfold M.u64; omega
set_option maxRecDepth 100000 in
set_option maxHeartbeats 1000000 in
theorem appendNumbers_any (B : Nat) (v : Value) (l : List UInt8) (f : F) (g c : Nat) (xs : List Int) (w : World) (hf : f.size ≤ 4) (hl : l.length ≤ 900000) (hB : B ≤ w.heap.size) (hm : xs.length ≤ 2)
    (ho : w.ownsRow B 5 1 v l.length (U8 l)) (hg : w.heap[g]? = some (.cells (xs.map (Value.int .i64)).toArray 3 (0, 0))) :
    Calls Tryd.prog 95 #[v, f.val, .slice (some ⟨g, 0, none⟩) xs.length c] w fun e w' =>
      ∃ v', e = .returned v' ∧ w'.ownsRow B 5 1 v' (l ++ xs.flatMap (M.nb f)).length (U8 (l ++ xs.flatMap (M.nb f))) ∧ Fr B w w' := by
  obtain ⟨n, flo, fhi⟩ := f
  simp only [F.val] at *
  have hfr0 : Fr B w (w.alloc (.cells #[.int .i64 (n : Int), .int .i64 flo, .int .i64 fhi] 92)) := (Fr.refl B w).alloc hB _
  have hb0 : (w.alloc (.cells #[.int .i64 (n : Int), .int .i64 flo, .int .i64 fhi] 92)).heap[w.heap.size]? = some (.cells #[.int .i64 (n : Int), .int .i64 flo, .int .i64 fhi] 92 (0, 0)) := heap_alloc_new w _
  have ho0 := ho.alloc (.cells #[.int .i64 (n : Int), .int .i64 flo, .int .i64 fhi] 92)
  obtain ⟨g0, eg0⟩ : ∃ g0, g0 = w.heap.size := ⟨_, rfl⟩
  have hg0 : (w.alloc (.cells #[.int .i64 (n : Int), .int .i64 flo, .int .i64 fhi] 92)).heap[g]? = some (.cells (xs.map (Value.int .i64)).toArray 3 (0, 0)) := by rw [hfr0.rest g _ 3 _ hg (by decide)]; exact hg
  go_enter Tryd.func95, Tryd.ntmps95
  go_wp2_with fail
  rw [← eg0] at hb0 ⊢
  clear eg0
  generalize w.alloc (.cells #[.int .i64 (n : Int), .int .i64 flo, .int .i64 fhi] 92) = W at *
  go_loopw [0, 11] (fun v i wr => ∃ k : Nat, k ≤ xs.length ∧ i = .int .i64 k ∧ wr.ownsRow B 5 1 v (l ++ (xs.take k).flatMap (M.nb ⟨n, flo, fhi⟩)).length (U8 (l ++ (xs.take k).flatMap (M.nb ⟨n, flo, fhi⟩))) ∧ Fr B W wr) (fun _ i _ => xs.length - (intOf i).toNat)
  case atStart => exact ⟨0, Nat.zero_le _, rfl, by simpa using ho0, Fr.refl _ _⟩
  case round =>
    obtain ⟨k, hk, rfl, hown, hfr⟩ := hrel
    by_cases hlt : k < xs.length
    · obtain ⟨x, ex⟩ : ∃ x, x = xs.getD k 0 := ⟨_, rfl⟩
      have hcx : wr.cell? ⟨g, k, none⟩ = some (.int .i64 x) := by
        have h1 := (hfr.rest g _ 3 _ hg0 (by decide)).trans hg0
        rw [cell_of_row wr g k _ 3 (0, 0) h1, ex]
        simp [List.getD, List.getElem?_eq_getElem hlt]
      have hb1 := (hfr.rest g0 _ 92 _ hb0 (by decide)).trans hb0
      have hc0 := cell_of_row wr g0 0 _ 92 (0, 0) hb1
      simp at hc0
      have htk : (xs.take (k + 1)).flatMap (M.nb ⟨n, flo, fhi⟩) = (xs.take k).flatMap (M.nb ⟨n, flo, fhi⟩) ++ M.big (M.u64 x) n := by
        have h1 : xs.take (k + 1) = xs.take k ++ [x] := by
          rw [List.take_add_one, List.getElem?_eq_getElem hlt, ex]; simp only [Option.toList_some, List.getD, List.getElem?_eq_getElem hlt, Option.getD_some]
        rw [h1, List.flatMap_append, List.flatMap_singleton]; rfl
      have hpl : (l ++ (xs.take k).flatMap (M.nb ⟨n, flo, fhi⟩)).length ≤ 900016 := by
        have : ((xs.take k).flatMap (M.nb ⟨n, flo, fhi⟩)).length ≤ 16 := by
          rw [List.length_flatMap]
          have h8 : ((xs.take k).map fun x => (M.nb ⟨n, flo, fhi⟩ x).length) = (xs.take k).map fun _ => n := by simp [M.nb_len]
          rw [h8, List.map_const', List.sum_replicate_nat, List.length_take]
          have := Nat.mul_le_mul (show min k xs.length ≤ 2 by omega) hf
          omega
        rw [List.length_append]; omega
      obtain ⟨P, eP⟩ : ∃ P, P = l ++ (xs.take k).flatMap (M.nb ⟨n, flo, fhi⟩) := ⟨_, rfl⟩
      have heP : l ++ (xs.take (k + 1)).flatMap (M.nb ⟨n, flo, fhi⟩) = P ++ [M.u64 x].flatMap (fun y => M.big y n) := by rw [htk, eP, List.append_assoc, List.flatMap_singleton]
      rw [← eP] at hown hpl
      have hsz := hfr.old.size
      have hsz0 := hfr0.old.size
      have hnew : ∀ y : Int, y = x % 18446744073709551616 → (wr.alloc (.cells #[.int .u64 y] 43)).heap[wr.heap.size]? = some (.cells (([M.u64 x]).map fun (x : Nat) => Value.int .u64 (x : Int)).toArray 43 (0, 0)) := fun y hy => by
        simp only [List.map_cons, List.map_nil, u64_cast, ← hy]; exact heap_alloc_new wr _
      have Hnew := hide hnew
      have HeP := hide heP
      have ki : (k : Int) < (xs.length : Int) := by omega
      clear ex htk eP heP hnew
      go_wp2_with fail
      refine (Append_any B u0 P n wr.heap.size 1 [M.u64 x] _ (by omega) (by omega) (by simp; omega) (fun y hy => by rw [List.mem_singleton] at hy; subst hy; exact M.u64_lt x) (by simp) (hown.alloc _) (unhide Hnew _ (u64_wrap_eq x))).mono ?_
      rintro e w1 ⟨v', rfl, ho1, hf1⟩
      rw [← unhide HeP] at ho1
      have hf2 : Fr B W w1 := (hfr.alloc (by omega) _).trans hf1
      clear HeP Hnew hf1 hown hfr
      go_wp2
      go_roundw
      case rel => exact ⟨k + 1, by omega, by go_num, ho1, hf2⟩
      case measure => simp [intOf]; omega
    · have hkl : k = xs.length := by omega
      subst hkl
      rw [List.take_length] at hown
      go_wp2
      go_ret
      exact ⟨_, rfl, hown, hfr0.trans hfr⟩
end Go.Proofs.YtpmonoenppfekabDoor
