/-
  wire.Append.
-/
import Derived.Test.YtbgpkkbejbidlacWire
import Derived.Test.YtbgpkkbejbidlacWm
import Derived.Maps.OwnSet
namespace Go.Proofs.Ytbgpkkbejbidlac
open Go.RowKit
def U8 (l : List UInt8) : List Value := l.map fun b => Value.int .u8 (b.toNat : Int)
theorem U8_append (a b : List UInt8) : U8 (a ++ b) = U8 a ++ U8 b := by simp [U8]
theorem Try.info5 : (Try.prog.info? 5).map (fun i => (i.zero, i.size, i.bytes)) = some (some (.int .u8 0), 1, 1) := by kernel_rfl
theorem byte_at (x m : Nat) : (x : Int) / 2 ^ (8 * m) % 256 = (((UInt8.ofNat (x / 256 ^ m % 256)).toNat : Nat) : Int) := by
  have h1 : (2 : Int) ^ (8 * m) = ((256 ^ m : Nat) : Int) := by
    have h8 : ((256 : Nat) : Int) = 2 ^ 8 := rfl
    rw [Int.natCast_pow, h8, ← Int.pow_mul]
  rw [h1, UInt8.toNat_ofNat', Nat.mod_mod_of_dvd _ (by decide)]
  omega
/-- Nothing below B has turned, and nothing that is no row of bytes. -/
structure Fb (B : Nat) (w w' : World) : Prop where
  old : Below B w w'
  rest : ∀ (k : Nat) (o : Obj), w.heap[k]? = some o → (∀ c fr, o ≠ Obj.cells c 5 fr) → w'.heap[k]? = some o
theorem Fb.refl (B : Nat) (w : World) : Fb B w w := ⟨Below.refl _ _, fun _ _ h _ => h⟩
theorem Fb.trans {B : Nat} {a b c : World} (h : Fb B a b) (k : Fb B b c) : Fb B a c :=
  ⟨h.old.trans k.old, fun i o hi ht => k.rest i o (h.rest i o hi ht) ht⟩
theorem Fb.alloc {B : Nat} {a w : World} (h : Fb B a w) (hB : B ≤ w.heap.size) (o : Obj) : Fb B a (w.alloc o) :=
  ⟨h.old.alloc hB o, fun i x hi ht => by
    have h1 := h.rest i x hi ht
    rw [Below.heap_alloc w o i (Array.getElem?_eq_some_iff.1 h1).1]; exact h1⟩
theorem Fb.grown {B : Nat} {a w w' : World} {v : Value} {n : Nat} {xs : List Value} (h : Fb B a w) (ho : w.ownsRow B 5 1 v n xs) (hB : B ≤ w.heap.size) (hg : w.grownBy w' v.ownBlock) : Fb B a w' :=
  ⟨h.old.grown hg hB (fun k hk => (ho.lt k hk).1), fun i x hi ht => by
    have h1 := h.rest i x hi ht
    refine (hg.block i (Array.getElem?_eq_some_iff.1 h1).1 ?_).trans h1
    intro e
    rcases ho.2 with ⟨rfl, _⟩ | ⟨g, cap, cur, rfl, _, hh, _⟩
    · simp [Value.ownBlock] at e
    · simp [Value.ownBlock] at e
      subst e
      rw [h1] at hh
      cases hh
      exact ht _ _ rfl⟩
set_option maxRecDepth 100000 in
set_option maxHeartbeats 1000000 in
theorem Append_any (B : Nat) (v : Value) (l : List UInt8) (n : Nat) (g c : Nat) (xs : List Nat) (w : World) (hn : n ≤ 8) (hl : l.length ≤ 1000000) (hB : B ≤ w.heap.size) (hx : ∀ x ∈ xs, x < 2 ^ 64) (hm : xs.length ≤ 2)
    (ho : w.ownsRow B 5 1 v l.length (U8 l)) (hg : w.heap[g]? = some (.cells (xs.map fun (x : Nat) => Value.int .u64 (x : Int)).toArray 73 (0, 0))) :
    Calls Try.prog 62 #[v, .int .i64 (n : Int), .slice (some ⟨g, 0, none⟩) xs.length c] w fun e w' =>
      ∃ v', e = .returned v' ∧ w'.ownsRow B 5 1 v' (l ++ xs.flatMap fun x => M.big x n).length (U8 (l ++ xs.flatMap fun x => M.big x n)) ∧ Fb B w w' := by
  obtain ⟨i0, hi, hz0, hz1, hz2⟩ := info_parts Try.info5
  go_enter Try.func62, Try.ntmps62
  go_wp2_with fail
  go_loopw [0, 12] (fun v i wr => ∃ k : Nat, k ≤ xs.length ∧ i = .int .i64 k ∧ wr.ownsRow B 5 1 v (l ++ (xs.take k).flatMap fun x => M.big x n).length (U8 (l ++ (xs.take k).flatMap fun x => M.big x n)) ∧ Fb B w wr) (fun _ i _ => xs.length - (intOf i).toNat)
  case atStart => exact ⟨0, Nat.zero_le _, rfl, by simpa using ho, Fb.refl _ _⟩
  case round =>
    obtain ⟨k, hk, rfl, hown, hfr⟩ := hrel
    by_cases hlt : k < xs.length
    · obtain ⟨x, ex⟩ : ∃ x, x = xs.getD k 0 := ⟨_, rfl⟩
      have hcx : wr.cell? ⟨g, k, none⟩ = some (.int .u64 (x : Int)) := by
        have h1 := hfr.rest g _ hg (by intro c fr e; cases e)
        rw [cell_of_row wr g k _ 73 (0, 0) h1, ex]
        simp [List.getD, List.getElem?_eq_getElem hlt]
      have hx1 : x < 2 ^ 64 := by rw [ex]; exact hx _ (by simp [List.getD, List.getElem?_eq_getElem hlt])
      have hx2 : x ≤ 18446744073709551615 := by omega
      have htk : (xs.take (k + 1)).flatMap (fun x => M.big x n) = (xs.take k).flatMap (fun x => M.big x n) ++ M.big x n := by
        have h1 : xs.take (k + 1) = xs.take k ++ [x] := by
          rw [List.take_add_one, List.getElem?_eq_getElem hlt, ex]; simp only [Option.toList_some, List.getD, List.getElem?_eq_getElem hlt, Option.getD_some]
        rw [h1, List.flatMap_append, List.flatMap_singleton]
      have hpl : (l ++ (xs.take k).flatMap fun x => M.big x n).length ≤ 1000016 := by
        have : ((xs.take k).flatMap fun x => M.big x n).length ≤ 16 := by
          rw [List.length_flatMap]
          have h8 : ((xs.take k).map fun x => (M.big x n).length) = (xs.take k).map fun _ => n := by simp [M.big_len]
          rw [h8, List.map_const', List.sum_replicate_nat, List.length_take]
          have := Nat.mul_le_mul (show min k xs.length ≤ 2 by omega) hn
          omega
        rw [List.length_append]; omega
      obtain ⟨P, eP⟩ : ∃ P, P = l ++ (xs.take k).flatMap fun x => M.big x n := ⟨_, rfl⟩
      have heP : l ++ (xs.take (k + 1)).flatMap (fun x => M.big x n) = P ++ M.big x n := by rw [htk, eP, List.append_assoc]
      rw [← eP] at hown hpl
      have HeP := hide heP
      have Hx := hide hx1
      clear ex htk eP heP hx1 hx
      go_wp2_with fail
      go_loopw [0, 9] (fun v i wr => ∃ j : Nat, j ≤ n ∧ i = .int .i64 ((n : Int) - 1 - (j : Int)) ∧ wr.ownsRow B 5 1 v (P ++ (M.big x n).take j).length (U8 (P ++ (M.big x n).take j)) ∧ Fb B w wr) (fun _ i _ => (intOf i + 1).toNat)
      case atStart => exact ⟨0, Nat.zero_le _, by simp, by simpa using hown, hfr⟩
      case round =>
        clear hown hfr hcx
        obtain ⟨j, hj, rfl, hown, hfr⟩ := hrel
        by_cases hj2 : j < n
        · have hsz := hfr.old.size
          have hba := byte_at x (n - 1 - j)
          have hbg := M.big_at x n j hj2
          obtain ⟨y, ey⟩ : ∃ y : UInt8, y = UInt8.ofNat (x / 256 ^ (n - 1 - j) % 256) := ⟨_, rfl⟩
          rw [← ey] at hba hbg
          have hbk : P ++ (M.big x n).take (j + 1) = P ++ (M.big x n).take j ++ [y] := by rw [hbg, List.append_assoc]
          have hlen : (P ++ (M.big x n).take j).length ≤ 1000024 := by
            rw [List.length_append, List.length_take, M.big_len]; omega
          obtain ⟨Q, eQ⟩ : ∃ Q, Q = P ++ (M.big x n).take j := ⟨_, rfl⟩
          rw [← eQ] at hbk hlen hown
          have Hbk := hide hbk
          have Hba := hide hba
          clear hba hbg hbk ey eQ
          go_wp2_with (at_builtin; rw [unhide Hba]; refine wpList_append_own _ rfl _ _ 67 rfl B 5 i0 (.int .u8 0) 1 1 Try.underlying67 hi hz0 hz1 hz2 rfl (by decide) _ _ _ rfl (hown.alloc _) ⟨wr.heap.size, 0, none⟩ 1 1 [.int .u8 (y.toNat : Int)] rfl rfl ?c1 ?c2 ?c3 ?c4 ?c5 ?_)
          case c1 =>
            intro j u hj
            match j, hj with
            | 0, hj => simp at hj; subst hj; simp [Addr.add]
          case c2 => intro u hu; simp at hu; subst hu; rfl
          case c3 => unfold maxLen; omega
          case c4 => omega
          case c5 => simp; omega
          intro v' w1 hown' hgrow _
          have hf1 : Fb B w w1 := (hfr.alloc (by omega) _).grown (hown.alloc _) (by simp; omega) hgrow
          have ho1 : w1.ownsRow B 5 1 v' (P ++ (M.big x n).take (j + 1)).length (U8 (P ++ (M.big x n).take (j + 1))) := by
            rw [unhide Hbk, U8_append, List.length_append]; exact hown'
          clear hown' hgrow hown Hbk Hba
          go_wp2
          go_roundw
          case rel => exact ⟨j + 1, by omega, by simp; omega, ho1, hf1⟩
          case measure => simp [intOf]; omega
        · have hjn : j = n := by omega
          subst hjn
          rw [List.take_of_length_le (by rw [M.big_len]; omega)] at hown
          rw [← unhide HeP] at hown
          clear HeP
          go_wp2
          go_roundw
          case rel => exact ⟨k + 1, by omega, by go_num, hown, hfr⟩
          case measure => simp [intOf]; omega
    · have hkl : k = xs.length := by omega
      subst hkl
      rw [List.take_length] at hown
      go_wp2
      go_ret
      exact ⟨_, rfl, hown, hfr⟩
end Go.Proofs.Ytbgpkkbejbidlac
