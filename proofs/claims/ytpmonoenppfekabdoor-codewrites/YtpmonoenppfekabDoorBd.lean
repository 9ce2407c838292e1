/-
  How great the numbers of what is read may be.
-/
import Derived.Test.YtpmonoenppfekabDoorLost
namespace Go.Proofs.YtpmonoenppfekabDoor
namespace M
/-- Targets and keys within reach, and no more of them than bytes. -/
def Bd (n : Nat) (i : I) : Prop := i.at_ ≤ n ∧ (∀ t ∈ i.tgts, -8589934592 ≤ t ∧ t ≤ 8589934592) ∧ i.tgts.length ≤ n + 4 ∧ i.keys.length ≤ n + 4
theorem tgs_bd {s : List UInt8} {a : Nat} (ha : a ≤ 1048576) : ∀ {n p : Nat} {ts : List Int} {r : List Int × Nat}, (∀ t ∈ ts, -8589934592 ≤ t ∧ t ≤ 8589934592) → ts.length ≤ p → tgs s a n p ts = .ok r → (∀ t ∈ r.1, -8589934592 ≤ t ∧ t ≤ 8589934592) ∧ r.1.length ≤ r.2
  | 0, p, ts, r, h1, h2, h => by simp only [tgs, Except.ok.injEq] at h; subst h; exact ⟨h1, h2⟩
  | n + 1, p, ts, r, h1, h2, h => by
    unfold tgs at h; split at h
    · cases h
    · refine tgs_bd ha (fun t ht => ?_) (by simp; omega) h
      rw [List.mem_append, List.mem_singleton] at ht
      rcases ht with ht | rfl
      · exact h1 t ht
      · have := w4_bound s p; omega
theorem kys_bd {s : List UInt8} {a : Nat} (ha : a ≤ 1048576) : ∀ {n p : Nat} {ks ts : List Int} {r : List Int × List Int × Nat}, (∀ t ∈ ts, -8589934592 ≤ t ∧ t ≤ 8589934592) → ts.length ≤ p → ks.length ≤ p → kys s a n p ks ts = .ok r → (∀ t ∈ r.2.1, -8589934592 ≤ t ∧ t ≤ 8589934592) ∧ r.2.1.length ≤ r.2.2 ∧ r.1.length ≤ r.2.2
  | 0, p, ks, ts, r, h1, h2, h3, h => by simp only [kys, Except.ok.injEq] at h; subst h; exact ⟨h1, h2, h3⟩
  | n + 1, p, ks, ts, r, h1, h2, h3, h => by
    unfold kys at h; split at h
    · cases h
    · split at h
      · cases h
      · split at h
        · cases h
        · refine kys_bd ha (fun t ht => ?_) (by simp; omega) (by simp; omega) h
          rw [List.mem_append, List.mem_singleton] at ht
          rcases ht with ht | rfl
          · exact h1 t ht
          · have := w4_bound s (p + 4); omega
theorem layOf_size (k : Nat) : (layOf k).a.size ≤ 4 ∧ (layOf k).b.size ≤ 4 ∧ (layOf k).z.size ≤ 4 ∧ (layOf k).t.size ≤ 4 :=
  ⟨(layOf_ok k).1.1, (layOf_ok k).2.1.1, (layOf_ok k).2.2.1.1, (layOf_ok k).2.2.2.1⟩
theorem plain_bd {s : List UInt8} {a op b k : Nat} {w : Bool} {r : I × Nat} (ha : a ≤ s.length) (hs : s.length ≤ 1048576) (h : plain s a op w b (layOf k) = .ok r) : Bd s.length r.1 := by
  unfold plain at h; split at h
  · cases h
  · split at h
    · cases h
      refine ⟨ha, ?_, ?_, by simp⟩
      · intro t ht
        simp only at ht
        split at ht
        · cases ht
        · rw [List.mem_singleton] at ht
          subst ht
          have := rd_bound (layOf k).t (bs s (b + (layOf k).a.size + (layOf k).b.size + (layOf k).z.size) (layOf k).t.size) (bs_len _ _ _) (layOf_size k).2.2.2
          omega
      · simp only; split <;> simp
    · cases h
theorem sw_bd {s : List UInt8} {a op b : Nat} {k : Bool} {r : I × Nat} (ha : a ≤ s.length) (hs : s.length ≤ 1048576) (hb : b ≤ s.length) (h : sw s a op b k = .ok r) : Bd s.length r.1 := by
  unfold sw at h
  cases hp : pad s a (padN b) b with
  | error e => rw [hp] at h; cases h
  | ok p =>
    have h1 := pad_le hb hp
    rw [hp] at h; simp only at h
    have hw := w4_bound s p
    cases k
    · simp only [Bool.false_eq_true, if_false] at h
      unfold tab at h; split at h
      · cases h
      · split at h
        · cases h
        · cases ht : tgs s a (w4 s (p + 8) - w4 s (p + 4) + 1).toNat (p + 12) [(a : Int) + w4 s p] with
          | error e => rw [ht] at h; cases h
          | ok q =>
            have hle := tgs_le (by omega) ht
            have hbd := tgs_bd (by omega) (fun t ht => by rw [List.mem_singleton] at ht; subst ht; omega) (by simp) ht
            obtain ⟨q1, q2⟩ := q
            rw [ht] at h; cases h
            exact ⟨ha, hbd.1, by have := hbd.2; simp only at this hle ⊢; omega, by simp⟩
    · simp only [if_true] at h
      unfold key at h; split at h
      · cases h
      · split at h
        · cases h
        · cases ht : kys s a (w4 s (p + 4)).toNat (p + 8) [] [(a : Int) + w4 s p] with
          | error e => rw [ht] at h; cases h
          | ok q =>
            have hle := kys_le (by omega) ht
            have hbd := kys_bd (by omega) (fun t ht => by rw [List.mem_singleton] at ht; subst ht; omega) (by simp) (by simp) ht
            obtain ⟨q1, q2, q3⟩ := q
            rw [ht] at h; cases h
            exact ⟨ha, hbd.1, by have := hbd.2.1; simp only at this hle ⊢; omega, by have := hbd.2.2; simp only at this hle ⊢; omega⟩
theorem body_bd {s : List UInt8} {a op b : Nat} {w : Bool} {r : I × Nat} (ha : a ≤ s.length) (hs : s.length ≤ 1048576) (hb : b ≤ s.length) (h : body s a op w b = .ok r) : Bd s.length r.1 := by
  unfold body at h; split at h
  · cases h
  · split at h
    · exact sw_bd ha hs hb h
    · split at h
      · exact sw_bd ha hs hb h
      · exact plain_bd ha hs h
theorem ins_bd {s : List UInt8} {a : Nat} {r : I × Nat} (ha : a < s.length) (hs : s.length ≤ 1048576) (h : ins s a = .ok r) : Bd s.length r.1 := by
  unfold ins at h; split at h
  · split at h
    · cases h
    · exact body_bd (by omega) hs (by omega) h
  · exact body_bd (by omega) hs (by omega) h
end M
end Go.Proofs.YtpmonoenppfekabDoor
