/-
  The reference: the name of a class, and types as bytes.
-/
import Derived.Test.YtbgpkkbejbidlacTa
namespace Go.Proofs.Ytbgpkkbejbidlac
open Go.RowKit Go.Maps
set_option maxHeartbeats 1000000 in
theorem RString2_any (v : Value) (P : List K) (i : Int) (w : World) (h : KIn w v P) (hP : P.length ≤ 1048576) :
    Calls Try.prog 81 #[v, .int .i64 i] w fun e w' => e = .returned (.tuple #[.string ⟨(M.text P i).toArray⟩, .bool (decide (M.tag P i = 1))]) ∧ w' = w := by
  have HI := hide (Is_any v P i 1 w h hP (by decide))
  unfold M.text
  by_cases ht : M.tag P i = 1
  · rw [if_pos ht, decide_eq_true ht]
    rw [decide_eq_true ht] at HI
    obtain ⟨k, rfl, hk0, hk⟩ := tag_in ht (by decide)
    obtain ⟨b, o, cap, rfl⟩ := h.form (by intro e; subst e; simp at hk)
    obtain ⟨c0, c1, c2, c3, c4⟩ := h.at hk
    rw [kAt_in hk0 hk]
    generalize P.getD k K.zero = c at *
    clear h ht c0 c2 c3 c4
    go_enter Try.func81, Try.ntmps81
    go_wp2_with fail
    refine (unhide HI).mono ?_
    rintro e w1 ⟨rfl, hw⟩
    subst w1
    go_wp2
    go_ret2
    exact ⟨rfl, rfl⟩
  · rw [if_neg ht, decide_eq_false ht]
    rw [decide_eq_false ht] at HI
    obtain ⟨ad, cap, rfl, _⟩ := h.ex
    clear ht
    go_enter Try.func81, Try.ntmps81
    go_wp2_with fail
    refine (unhide HI).mono ?_
    rintro e w1 ⟨rfl, hw⟩
    subst w1
    go_wp2
    go_ret2
    exact ⟨rfl, rfl⟩
set_option maxHeartbeats 1000000 in
theorem ClassOf2_any (v : Value) (P : List K) (i : Int) (w : World) (h : KIn w v P) (hP : P.length ≤ 1048576) :
    Calls Try.prog 66 #[v, .int .i64 i] w fun e w' => e = .returned (.tuple #[.string ⟨(M.cls P i).toArray⟩, .bool (M.cok P i)]) ∧ w' = w := by
  have HI := hide (Is_any v P i 7 w h hP (by decide))
  have HS := hide (fun j : Int => RString2_any v P j w h hP)
  have hca := (h.at_fit i).2.1
  unfold M.cls M.cok
  by_cases ht : M.tag P i = 7
  · rw [if_pos ht, decide_eq_true ht, Bool.true_and]
    rw [decide_eq_true ht] at HI
    obtain ⟨k, rfl, hk0, hk⟩ := tag_in ht (by decide)
    obtain ⟨b, o, cap, rfl⟩ := h.form (by intro e; subst e; simp at hk)
    obtain ⟨c0, c1, c2, c3, c4⟩ := h.at hk
    rw [kAt_in hk0 hk] at hca ⊢
    generalize P.getD k K.zero = c at *
    clear h ht c0 c2 c1 c4
    go_enter Try.func66, Try.ntmps66
    go_wp2_with fail
    refine (unhide HI).mono ?_
    rintro e w1 ⟨rfl, hw⟩
    subst w1
    go_wp2_with fail
    refine (unhide HS _).mono ?_
    rintro e w1 ⟨rfl, hw⟩
    subst w1
    go_wp2
    go_ret2
    exact ⟨rfl, rfl⟩
  · rw [if_neg ht, decide_eq_false ht, Bool.false_and]
    rw [decide_eq_false ht] at HI
    obtain ⟨ad, cap, rfl, _⟩ := h.ex
    clear ht HS
    go_enter Try.func66, Try.ntmps66
    go_wp2_with fail
    refine (unhide HI).mono ?_
    rintro e w1 ⟨rfl, hw⟩
    subst w1
    go_wp2
    go_ret2
    exact ⟨rfl, rfl⟩
namespace M
/-- An index of the class of a name. -/
def good (P : List K) (name : List UInt8) (j : Nat) : Prop := cok P (j : Int) = true ∧ cls P (j : Int) = name
theorem idx_none {P : List K} {name : List UInt8} : ∀ {m : Nat}, (∀ j, j < m → ¬ good P name j) → idx P name m = none
  | 0, _ => rfl
  | m + 1, h => by
    rw [idx, idx_none (m := m) (fun j hj => h j (by omega))]
    simp only
    exact if_neg (h m (by omega))
theorem idx_first {P : List K} {name : List UInt8} {a : Nat} (ha : good P name a) (hf : ∀ j, j < a → ¬ good P name j) : ∀ {m : Nat}, a < m → idx P name m = some a
  | 0, h => by omega
  | m + 1, h => by
    rw [idx]
    by_cases e : a < m
    · rw [idx_first ha hf e]
    · have : a = m := by omega
      subst this
      rw [idx_none hf]
      simp only
      exact if_pos ha
theorem good_pos {P : List K} {name : List UInt8} (h : good P name 0) : False := by
  have h1 := h.1
  unfold cok tag kAt at h1
  simp [K.zero] at h1
/-- Where the search stands: all from i + 1 on are seen. -/
def Sn (P : List K) (name : List UInt8) (i a : Nat) : Prop := (∀ j, i < j → j < P.length → good P name j → a ≠ 0 ∧ a ≤ j) ∧ (a ≠ 0 → i < a ∧ a < P.length ∧ good P name a)
theorem Sn.start (P : List K) (name : List UInt8) : Sn P name (P.length - 1) 0 := ⟨fun j h1 h2 _ => by omega, fun h => absurd rfl h⟩
theorem Sn.hit {P : List K} {name : List UInt8} {i : Nat} (hi : i + 1 < P.length) (hg : good P name (i + 1)) : Sn P name i (i + 1) :=
  ⟨fun j h1 h2 h3 => ⟨by omega, by omega⟩, fun _ => ⟨by omega, hi, hg⟩⟩
theorem Sn.miss {P : List K} {name : List UInt8} {i a : Nat} (h : Sn P name (i + 1) a) (hg : ¬ good P name (i + 1)) : Sn P name i a :=
  ⟨fun j h1 h2 h3 => by
    by_cases e : j = i + 1
    · subst e; exact absurd h3 hg
    · exact h.1 j (by omega) h2 h3, fun hn => ⟨by have := (h.2 hn).1; omega, (h.2 hn).2⟩⟩
theorem Sn.done {P : List K} {name : List UInt8} {a : Nat} (h : Sn P name 0 a) : idx P name P.length = if a = 0 then none else some a := by
  by_cases e : a = 0
  · rw [if_pos e]
    refine idx_none fun j hj hg => ?_
    by_cases j0 : j = 0
    · subst j0; exact good_pos hg
    · exact (h.1 j (by omega) hj hg).1 e
  · rw [if_neg e]
    have := h.2 e
    refine idx_first this.2.2 (fun j hj hg => ?_) this.2.1
    by_cases j0 : j = 0
    · subst j0; exact good_pos hg
    · have := (h.1 j (by omega) (by omega) hg).2; omega
/-- Types as bytes, or the first error. -/
def Td (r : Except Nat (List UInt8)) (b : List UInt8) (x : Nat) : Prop := match r with | .ok c => x = 0 ∧ b = c | .error e => x = e ∧ e ≠ 0
theorem vts_snoc {P : List K} {t : T} : ∀ {A : List T}, vts P (A ++ [t]) = match vts P A with | .error e => .error e | .ok b => (match vt P t with | .error e => .error e | .ok c => .ok (b ++ c))
  | [] => by
    rw [List.nil_append, vts, vts]
    cases vt P t <;> simp [vts]
  | a :: A => by
    rw [List.cons_append, vts, vts, vts_snoc (A := A)]
    cases vt P a with
    | error e => rfl
    | ok b =>
      simp only
      cases vts P A with
      | error e => rfl
      | ok c =>
        simp only
        cases vt P t with
        | error e => rfl
        | ok d => simp
theorem Td.step {P : List K} {A : List T} {t : T} {l b : List UInt8} {x y : Nat} (h : Td (vts P A) l x) (g : Td (vt P t) b y) : Td (vts P (A ++ [t])) (l ++ b) (if x = 0 then y else x) := by
  rw [vts_snoc]
  unfold Td at *
  cases hv : vts P A with
  | error e =>
    rw [hv] at h
    simp only at h ⊢
    rw [if_neg (by omega)]; exact h
  | ok c =>
    rw [hv] at h
    simp only at h ⊢
    rw [if_pos h.1]
    cases ht : vt P t with
    | error e => rw [ht] at g; exact g
    | ok d =>
      rw [ht] at g
      simp only at g ⊢
      exact ⟨g.1, by rw [h.2, g.2]⟩
end M
end Go.Proofs.Ytbgpkkbejbidlac
