/-
  jvmcoreref1's unit and Units.
-/
import Derived.Test.YtlihhfijigoklaaEach
import Derived.Deep.QuietTactic
import Derived.BigQuiet
import Derived.Deep.RegionWith
namespace Go.Proofs.Ytlihhfijigoklaa
open Go.RowKit
namespace M
/-- The unit and its length as the reference reckons them from the first bytes. -/
def pick (l : List UInt8) : Nat × Nat :=
  if 224 ≤ (l.getD 0 0).toNat ∧ 3 ≤ l.length then ((l.getD 0 0).toNat % 16 * 4096 + (l.getD 1 0).toNat % 64 * 64 + (l.getD 2 0).toNat % 64, 3)
  else if 192 ≤ (l.getD 0 0).toNat ∧ 2 ≤ l.length then ((l.getD 0 0).toNat % 32 * 64 + (l.getD 1 0).toNat % 64, 2) else ((l.getD 0 0).toNat, 1)
theorem pick3 {l : List UInt8} (h : 224 ≤ (l.getD 0 0).toNat ∧ 3 ≤ l.length) : pick l = ((l.getD 0 0).toNat % 16 * 4096 + (l.getD 1 0).toNat % 64 * 64 + (l.getD 2 0).toNat % 64, 3) := by unfold pick; rw [if_pos h]
theorem pick2 {l : List UInt8} (h : ¬ (224 ≤ (l.getD 0 0).toNat ∧ 3 ≤ l.length)) (h2 : 192 ≤ (l.getD 0 0).toNat ∧ 2 ≤ l.length) : pick l = ((l.getD 0 0).toNat % 32 * 64 + (l.getD 1 0).toNat % 64, 2) := by unfold pick; rw [if_neg h, if_pos h2]
theorem pick1 {l : List UInt8} (h : ¬ (224 ≤ (l.getD 0 0).toNat ∧ 3 ≤ l.length)) (h2 : ¬ (192 ≤ (l.getD 0 0).toNat ∧ 2 ≤ l.length)) : pick l = ((l.getD 0 0).toNat, 1) := by unfold pick; rw [if_neg h, if_neg h2]
theorem pick_lt (l : List UInt8) : (pick l).1 < 65536 := by
  have h0 := (l.getD 0 0).toNat_lt
  by_cases h1 : 224 ≤ (l.getD 0 0).toNat ∧ 3 ≤ l.length
  · rw [pick3 h1]; simp only; omega
  · by_cases h2 : 192 ≤ (l.getD 0 0).toNat ∧ 2 ≤ l.length
    · rw [pick2 h1 h2]; simp only; omega
    · rw [pick1 h1 h2]; simp only; omega
theorem pick_len {l : List UInt8} (h : l ≠ []) : 1 ≤ (pick l).2 ∧ (pick l).2 ≤ l.length ∧ (pick l).2 ≤ 3 := by
  have hl := List.length_pos_iff.2 h
  by_cases h1 : 224 ≤ (l.getD 0 0).toNat ∧ 3 ≤ l.length
  · rw [pick3 h1]; simp only; omega
  · by_cases h2 : 192 ≤ (l.getD 0 0).toNat ∧ 2 ≤ l.length
    · rw [pick2 h1 h2]; simp only; omega
    · rw [pick1 h1 h2]; simp only; omega
theorem pick_yes {l : List UInt8} {v : Nat} {t : List UInt8} (hv : v < 65536) (h : l = enc v ++ t) : pick l = (v, size v) := by
  cases l with
  | nil =>
    exfalso; have := enc_ne v; cases he : enc v with
    | nil => exact this he
    | cons a b => rw [he] at h; cases h
  | cons x r =>
    have hxt := x.toNat_lt
    rcases begin1 hv h with ⟨a1, a2, a3⟩ | ⟨a1, a2, c, ⟨r', rfl⟩, a3, a4, a5, a6⟩ | ⟨a1, a2, c, d, ⟨r', rfl⟩, a3, a4, a5, a6, a7, a8⟩
    · rw [pick1 (by simp only [List.getD_cons_zero]; omega) (by simp only [List.getD_cons_zero]; omega)]
      unfold size; rw [if_pos (by omega), a3]; rfl
    · rw [pick2 (by simp only [List.getD_cons_zero]; omega) (by simp only [List.getD_cons_zero, List.length_cons]; omega)]
      unfold size; rw [if_neg a6, if_pos (by omega)]
      simp only [List.getD_cons_zero, List.getD_cons_succ, Prod.mk.injEq, and_true]; omega
    · rw [pick3 (by simp only [List.getD_cons_zero, List.length_cons]; omega)]
      unfold size; rw [if_neg (by omega), if_neg a8]
      simp only [List.getD_cons_zero, List.getD_cons_succ, Prod.mk.injEq, and_true]; omega
theorem pick_first {l : List UInt8} (hl : l ≠ []) (h : enc (pick l).1 = l.take (pick l).2) : (pick l).2 = size (pick l).1 ∧ l = enc (pick l).1 ++ l.drop (pick l).2 := by
  refine ⟨?_, by rw [h, List.take_append_drop]⟩
  rw [← enc_length, h, List.length_take]; have := pick_len hl; omega
theorem pick_none {l : List UInt8} (h : enc (pick l).1 ≠ l.take (pick l).2) : ∀ v, v < 65536 → ∀ r, l ≠ enc v ++ r := by
  intro v hv r hr
  refine h ?_
  rw [pick_yes hv hr, hr, List.take_left' (enc_length v)]
end M
theorem bytes_new (w : World) (l : List UInt8) (C : Array Value) (n : Nat) (hC : C = (l.map fun b => Value.int .u8 (b.toNat : Int)).toArray) (hn : n = l.length) :
    Sem.run Try.prog (convert 48 9 (.slice (some ⟨w.heap.size, 0, none⟩) n n)) (w.alloc (.cells C 5)) = .ok (.string ⟨l.toArray⟩) (w.alloc (.cells C 5)) := by
  subst hn
  refine run_convert_bytes_back (P := Try.prog) (w.alloc (.cells C 5)) 48 9 5 ⟨w.heap.size, 0, none⟩ l.length l Try.underlying48 Try.underlying5 Try.underlying9 fun j hj => ?_
  have : (⟨w.heap.size, 0, none⟩ : Addr).add j = ⟨w.heap.size, j, none⟩ := by simp [Addr.add]; omega
  rw [this, World.cell?_alloc_at _ _ _ _ rfl, hC]
  simp [hj]
theorem of_lt {n : Nat} (h : n < 256) : ((UInt8.ofNat n).toNat : Int) = (n : Int) := by simp only [UInt8.toNat_ofNat']; omega
set_option maxRecDepth 100000 in
set_option maxHeartbeats 400000 in
theorem unit_any (u : Nat) (w : World) (hu : u < 65536) :
    Calls Try.prog 20 #[.int .i64 u] w fun e w' => e = .returned (.string ⟨(M.enc u).toArray⟩) ∧ Below w.heap.size w w' := by
  by_cases h1 : 0 < u ∧ u < 128
  · have hc := bytes_new w (M.enc u) #[.int .u8 u] 1 (by rw [M.enc1 h1]; simp only [List.map_cons, List.map_nil]; rw [of_lt (show u < 256 by omega)]) (by rw [M.enc1 h1]; rfl)
    obtain ⟨E, hE⟩ : ∃ E, E = M.enc u := ⟨_, rfl⟩
    rw [← hE] at hc ⊢
    clear hE
    have hb : Below w.heap.size w (w.alloc (.cells #[.int .u8 (u : Int)] 5)) := (Below.refl _ _).alloc (Nat.le_refl _) _
    go_enter Try.func20, Try.ntmps20
    go_wp2
    go_ret
    exact ⟨rfl, hb⟩
  by_cases h2 : u < 2048
  · have hc := bytes_new w (M.enc u) #[.int .u8 (192 + (u : Int) / 64), .int .u8 (128 + (u : Int) % 64)] 2
      (by rw [M.enc2 h1 h2]; simp only [List.map_cons, List.map_nil]; rw [of_lt (show 192 + u / 64 < 256 by omega), of_lt (show 128 + u % 64 < 256 by omega)]; rfl) (by rw [M.enc2 h1 h2]; rfl)
    obtain ⟨E, hE⟩ : ∃ E, E = M.enc u := ⟨_, rfl⟩
    rw [← hE] at hc ⊢
    clear hE
    have hb : Below w.heap.size w (w.alloc (.cells #[.int .u8 (192 + (u : Int) / 64), .int .u8 (128 + (u : Int) % 64)] 5)) := (Below.refl _ _).alloc (Nat.le_refl _) _
    go_enter Try.func20, Try.ntmps20
    go_wp2
    all_goals go_ret
    all_goals exact ⟨rfl, hb⟩
  · have hc := bytes_new w (M.enc u) #[.int .u8 (224 + (u : Int) / 4096), .int .u8 (128 + (u : Int) / 64 % 64), .int .u8 (128 + (u : Int) % 64)] 3
      (by rw [M.enc3 h2]; simp only [List.map_cons, List.map_nil]; rw [of_lt (show 224 + u / 4096 < 256 by omega), of_lt (show 128 + u / 64 % 64 < 256 by omega), of_lt (show 128 + u % 64 < 256 by omega)]; rfl) (by rw [M.enc3 h2]; rfl)
    obtain ⟨E, hE⟩ : ∃ E, E = M.enc u := ⟨_, rfl⟩
    rw [← hE] at hc ⊢
    clear hE
    have hb : Below w.heap.size w (w.alloc (.cells #[.int .u8 (224 + (u : Int) / 4096), .int .u8 (128 + (u : Int) / 64 % 64), .int .u8 (128 + (u : Int) % 64)] 5)) := (Below.refl _ _).alloc (Nat.le_refl _) _
    go_enter Try.func20, Try.ntmps20
    go_wp2
    all_goals go_ret
    all_goals exact ⟨rfl, hb⟩
theorem Try.info3 : (Try.prog.info? 3).map (fun i => (i.zero, i.size, i.bytes)) = some (some (.int .i64 0), 1, 8) := by kernel_rfl
def I64 (l : List Nat) : List Value := l.map fun (u : Nat) => Value.int .i64 (u : Int)
theorem I64_snoc (l : List Nat) (u : Nat) : I64 (l ++ [u]) = I64 l ++ [.int .i64 (u : Int)] := by simp [I64]
end Go.Proofs.Ytlihhfijigoklaa
