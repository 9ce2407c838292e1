/-
  A map that is read is written no longer, and read again as it was: plain mathematics.
-/
import Derived.Test.YtbgpkkbejbidlacWm
namespace Go.Proofs.Ytbgpkkbejbidlac
namespace M
theorem take_of {s b r : List UInt8} {q p n : Nat} (h : s.drop q = b ++ r) (hn : b.length = n) (hq : q ≤ s.length) : take s n ⟨q, 0, p⟩ = (b, ⟨q + n, 0, p⟩) ∧ s.drop (q + n) = r ∧ q + n ≤ s.length := by
  have hl : s.length - q = b.length + r.length := by have := congrArg List.length h; simpa using this
  refine ⟨?_, ?_, by omega⟩
  · unfold take
    rw [if_pos rfl, if_neg (by simp only; omega)]
    simp only
    rw [h, List.take_left' hn]
  · rw [← List.drop_drop, h, List.drop_left' hn]
theorem num_big {n : Nat} (h : n < 65536) : num (big n 2) = n := by
  simp only [big, num, List.nil_append, List.cons_append, List.foldl_cons, List.foldl_nil, UInt8.toNat_ofNat']
  omega
theorem rd_one {s r : List UInt8} {q p : Nat} {x : UInt8} (h : s.drop q = x :: r) (hq : q ≤ s.length) : rd s 1 ⟨q, 0, p⟩ = (x.toNat, ⟨q + 1, 0, p⟩) ∧ s.drop (q + 1) = r ∧ q + 1 ≤ s.length := by
  obtain ⟨h1, h2, h3⟩ := take_of (p := p) (b := [x]) (r := r) (n := 1) (by simpa using h) rfl hq
  refine ⟨?_, h2, h3⟩
  unfold rd; rw [h1]; simp [num]
theorem rd_two {s r : List UInt8} {q p n : Nat} (h : s.drop q = big n 2 ++ r) (hn : n < 65536) (hq : q ≤ s.length) : rd s 2 ⟨q, 0, p⟩ = (n, ⟨q + 2, 0, p⟩) ∧ s.drop (q + 2) = r ∧ q + 2 ≤ s.length := by
  obtain ⟨h1, h2, h3⟩ := take_of (p := p) (n := 2) h (big_len _ _) hq
  refine ⟨?_, h2, h3⟩
  unfold rd; rw [h1, num_big hn]
/-- A type as reading gives one. -/
def Rok (t : T) : Prop := t.tag ≤ 8 ∧ (t.tag = 7 → t.at_ = 0) ∧ (t.tag = 8 → t.name = [] ∧ 0 ≤ t.at_ ∧ t.at_ ≤ 65535) ∧ (t.tag < 7 → t.name = [] ∧ t.at_ = 0)
/-- How many bytes a type has. -/
def cost (t : T) : Nat := if 7 ≤ t.tag then 3 else 1
def costs : List T → Nat
  | [] => 0
  | t :: l => cost t + costs l
theorem costs_app (a b : List T) : costs (a ++ b) = costs a + costs b := by
  induction a with
  | nil => simp [costs]
  | cons t a ih => simp only [List.cons_append, costs, ih]; omega
theorem idx_some {P : List K} {name : List UInt8} : ∀ {m k : Nat}, idx P name m = some k → cok P (k : Int) = true ∧ cls P (k : Int) = name
  | 0, _, h => by cases h
  | m + 1, k, h => by
    rw [idx] at h
    cases hi : idx P name m with
    | some j => rw [hi] at h; cases h; exact idx_some hi
    | none =>
      rw [hi] at h
      simp only at h
      split at h
      · cases h; assumption
      · cases h
theorem vt_cost {P : List K} {t : T} (h : Rok t) : (∀ b, vt P t = .ok b → b.length = cost t) ∧ ∀ e, vt P t = .error e → e = 7 := by
  obtain ⟨h1, h2, h3, h4⟩ := h
  unfold vt cost
  by_cases h7 : t.tag = 7
  · rw [if_pos h7, if_pos (by omega)]
    cases hi : idx P t.name (lim P) with
    | some k => exact ⟨fun b e => by cases e; simp [big_len], fun e g => by cases g⟩
    | none => exact ⟨(fun b e => by cases e), fun e g => by cases g; rfl⟩
  · rw [if_neg h7]
    by_cases h8 : t.tag = 8
    · rw [if_pos h8, if_pos (h3 h8).2, if_pos (by omega)]
      exact ⟨fun b e => by cases e; simp [big_len], fun e g => by cases g⟩
    · rw [if_neg h8, if_neg (by omega), if_neg (by omega)]
      exact ⟨fun b e => by cases e; rfl, fun e g => by cases g⟩
theorem vts_cost {P : List K} : ∀ {L : List T}, (∀ t ∈ L, Rok t) → (∀ b, vts P L = .ok b → b.length = costs L) ∧ ∀ e, vts P L = .error e → e = 7
  | [], _ => ⟨fun b h => by cases h; rfl, fun e h => by cases h⟩
  | t :: L, h => by
    have h1 := vt_cost (P := P) (h t (by simp))
    have h2 := vts_cost (P := P) (L := L) (fun x hx => h x (by simp [hx]))
    rw [vts, costs]
    cases hv : vt P t with
    | error e => exact ⟨(fun b g => by cases g), fun e' g => by cases g; exact h1.2 e hv⟩
    | ok c =>
      simp only
      cases hw : vts P L with
      | error e => exact ⟨(fun b g => by cases g), fun e' g => by cases g; exact h2.2 e hw⟩
      | ok d =>
        refine ⟨fun b g => ?_, fun e g => by cases g⟩
        cases g
        rw [List.length_append, h1.1 c hv, h2.1 d hw]
theorem lim_le (P : List K) : lim P ≤ 65536 := by unfold lim; omega
theorem vty_vt {s r b : List UInt8} {P : List K} {t : T} {q p : Nat} (h : Rok t) (hb : vt P t = .ok b) (hs : s.drop q = b ++ r) (hq : q ≤ s.length) :
    vty s P ⟨q, 0, p⟩ = (t, ⟨q + b.length, 0, p⟩) ∧ s.drop (q + b.length) = r ∧ q + b.length ≤ s.length := by
  obtain ⟨h1, h2, h3, h4⟩ := h
  obtain ⟨tg, nm, at_⟩ := t
  simp only at h1 h2 h3 h4
  have hto : (UInt8.ofNat tg).toNat = tg := by rw [UInt8.toNat_ofNat']; omega
  unfold vt at hb
  simp only at hb
  by_cases h7 : tg = 7
  · rw [if_pos h7] at hb
    cases hi : idx P nm (lim P) with
    | none => rw [hi] at hb; cases hb
    | some k =>
      rw [hi] at hb
      cases hb
      have hk := idx_lt hi
      have hl := lim_le P
      obtain ⟨c1, c2⟩ := idx_some hi
      have ct : tag P (k : Int) = 7 := by unfold cok at c1; simp at c1; exact c1.1
      obtain ⟨e1, e2, e3⟩ := rd_one (p := p) (x := UInt8.ofNat tg) (r := big k 2 ++ r) (by simpa using hs) hq
      obtain ⟨f1, f2, f3⟩ := rd_two (p := p) e2 (by omega) e3
      have hlen : (UInt8.ofNat tg :: big k 2).length = 3 := by simp [big_len]
      rw [hlen]
      refine ⟨?_, by rw [show q + 3 = q + 1 + 2 by omega]; exact f2, by omega⟩
      unfold vty
      rw [e1]
      simp only
      rw [f1, hto, if_pos h7]
      simp only
      rw [ct, if_pos rfl, c2, h7, h2 h7]
  · rw [if_neg h7] at hb
    by_cases h8 : tg = 8
    · rw [if_pos h8, if_pos (h3 h8).2] at hb
      cases hb
      have hr := (h3 h8).2
      obtain ⟨e1, e2, e3⟩ := rd_one (p := p) (x := UInt8.ofNat tg) (r := big at_.toNat 2 ++ r) (by simpa using hs) hq
      obtain ⟨f1, f2, f3⟩ := rd_two (p := p) e2 (by omega) e3
      have hlen : (UInt8.ofNat tg :: big at_.toNat 2).length = 3 := by simp [big_len]
      rw [hlen]
      refine ⟨?_, by rw [show q + 3 = q + 1 + 2 by omega]; exact f2, by omega⟩
      unfold vty
      rw [e1]
      simp only
      rw [f1, hto, if_neg h7, if_pos h8]
      simp only
      rw [h8, (h3 h8).1, Int.toNat_of_nonneg hr.1]
    · rw [if_neg h8, if_neg (by omega)] at hb
      cases hb
      obtain ⟨e1, e2, e3⟩ := rd_one (p := p) (x := UInt8.ofNat tg) (r := r) (by simpa using hs) hq
      refine ⟨?_, e2, e3⟩
      unfold vty
      rw [e1]
      simp only
      rw [hto, if_neg h7, if_neg h8, if_neg (by omega), (h4 (by omega)).1, (h4 (by omega)).2]
      rfl
theorem vals_vts {s : List UInt8} {P : List K} {p : Nat} : ∀ {L : List T} {b r : List UInt8} {q : Nat}, (∀ t ∈ L, Rok t) → vts P L = .ok b → s.drop q = b ++ r → q ≤ s.length →
    vals s P L.length ⟨q, 0, p⟩ = (L, ⟨q + b.length, 0, p⟩) ∧ s.drop (q + b.length) = r ∧ q + b.length ≤ s.length
  | [], b, r, q, _, hb, hs, hq => by cases hb; exact ⟨rfl, hs, hq⟩
  | t :: L, b, r, q, h, hb, hs, hq => by
    rw [vts] at hb
    cases hv : vt P t with
    | error e => rw [hv] at hb; cases hb
    | ok c =>
      rw [hv] at hb
      simp only at hb
      cases hw : vts P L with
      | error e => rw [hw] at hb; cases hb
      | ok d =>
        rw [hw] at hb
        cases hb
        obtain ⟨e1, e2, e3⟩ := vty_vt (p := p) (r := d ++ r) (h t (by simp)) hv (by rw [hs, List.append_assoc]) hq
        obtain ⟨f1, f2, f3⟩ := vals_vts (p := p) (fun x hx => h x (by simp [hx])) hw e2 e3
        rw [List.length_append, ← Nat.add_assoc]
        refine ⟨?_, f2, f3⟩
        rw [List.length_cons, vals, e1]
        simp only
        rw [if_pos trivial, f1]
end M
end Go.Proofs.Ytbgpkkbejbidlac
