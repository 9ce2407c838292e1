/-
  A map that is read is written no longer, and read again as it was: the whole, as the law asks it.
-/
import Derived.Test.YtbgpkkbejbidlacRv
import Derived.Test.YtbgpkkbejbidlacWo
namespace Go.Proofs.Ytbgpkkbejbidlac
set_option linter.unusedSimpArgs false
namespace M
/-- The frames of a text; where reading ends. -/
def all (s : List UInt8) (P : List K) (F : List T) : List Fm × St := frames s P (rd s 2 ⟨0, 0, 0⟩).1 ⟨-1, F, []⟩ (rd s 2 ⟨0, 0, 0⟩).2
theorem frames_good {s : List UInt8} {P : List K} {n : Nat} {a : Fm} {st : St} (h : (frames s P n a st).2.e = 0) : st.e = 0 := by
  cases n with
  | zero => exact h
  | succ n =>
    by_cases he : st.e = 0
    · exact he
    · have hr : rd s 1 st = (0, st) := rd_bad he
      have hf : (frame s P a st).2 = st := by unfold frame; rw [hr]; simp only; rw [if_pos he]
      rw [frames, hf, if_neg he] at h
      exact absurd h he
theorem fin_good {s : List UInt8} {st : St} (h : (fin s st).e = 0) : st.e = 0 ∧ s.length ≤ st.pos := by
  unfold fin at h
  split at h
  · exact absurd h (fail_e (by decide))
  · exact ⟨h, by omega⟩
theorem round {s : List UInt8} {P : List K} {F : List T} (hl : F.length + s.length ≤ 65535) (he : (fin s (all s P F).2).e = 0) (hat : ∀ f ∈ (all s P F).1, f.at_ ≤ 65535) :
    (∀ e, write P F (all s P F).1 = .error e → e.1 = 7) ∧ (∀ j b, wrs P ((all s P F).1.take j) ⟨-1, F, []⟩ 0 = .ok b → b.length ≤ s.length) ∧
      ∀ b, write P F (all s P F).1 = .ok b → b.length ≤ s.length ∧ all b P F = ((all s P F).1, ⟨b.length, 0, 0⟩) ∧ (fin b (all b P F).2).e = 0 := by
  obtain ⟨h1, h2⟩ := fin_good he
  have hn := rd2 s ⟨0, 0, 0⟩
  have hp := rd_pos (s := s) (n := 2) (st := ⟨0, 0, 0⟩) (Nat.zero_le _)
  unfold all at h1 h2 hat ⊢
  have hr := rd_fact (frames_good h1)
  obtain ⟨i1, m, i2, i3, i4, i5⟩ := frames_fact (k := 0) h1 (by simp) hat (by simp only; omega) hp (by omega)
  rw [hr] at i2 hp
  simp only at i2 hp
  have hfp : (frames s P (rd s 2 ⟨0, 0, 0⟩).1 ⟨-1, F, []⟩ (rd s 2 ⟨0, 0, 0⟩).2).2.pos ≤ s.length := frames_pos (by rw [hr]; exact hp)
  rw [hr] at hfp
  rw [i2] at hfp
  simp only at hfp
  generalize hFs : (frames s P (rd s 2 ⟨0, 0, 0⟩).1 ⟨-1, F, []⟩ (rd s 2 ⟨0, 0, 0⟩).2).1 = Fs at *
  generalize hN : (rd s 2 ⟨0, 0, 0⟩).1 = N at *
  refine ⟨fun e g => ?_, fun j b g => by have := i4 j b g; omega, fun b g => ?_⟩
  · unfold write at g
    rw [if_neg (by omega)] at g
    cases hw : wrs P Fs ⟨-1, F, []⟩ 0 with
    | error e' => rw [hw] at g; cases g; exact i3 _ hw
    | ok b => rw [hw] at g; cases g
  · unfold write at g
    rw [if_neg (by omega)] at g
    cases hw : wrs P Fs ⟨-1, F, []⟩ 0 with
    | error e' => rw [hw] at g; cases g
    | ok b1 =>
      rw [hw] at g
      cases g
      have hb := i4 Fs.length b1 (by rw [List.take_length]; exact hw)
      obtain ⟨g1, g2, g3⟩ := rd_two (s := big Fs.length 2 ++ b1) (r := b1) (q := 0) (p := 0) (n := Fs.length) (by simp) (by omega) (Nat.zero_le _)
      obtain ⟨j1, j2, j3⟩ := i5 b1 (big Fs.length 2 ++ b1) [] (0 + 2) 0 hw (by rw [g2]; simp) g3
      have hlen : (big Fs.length 2 ++ b1).length = 0 + 2 + b1.length := by rw [List.length_append, big_len]
      rw [g1]
      simp only
      rw [i1] at j1 hlen ⊢
      rw [j1, hlen]
      refine ⟨by omega, rfl, ?_⟩
      unfold fin
      rw [if_neg (by simp only; omega)]
theorem frames_ll {s : List UInt8} {P : List K} {N : Nat} : ∀ {n : Nat} {a : Fm} {st : St}, a.locals.length + s.length ≤ N + st.pos → st.pos ≤ s.length → (∀ f ∈ (frames s P n a st).1, f.locals.length ≤ N ∧ f.stack.length ≤ s.length)
  | 0, _, _, _, _ => fun _ h => by cases h
  | n + 1, a, st, h1, h2 => by
    have hp := frame_pos (P := P) (a := a) h2
    rw [frames]
    by_cases he : (frame s P a st).2.e = 0
    · rw [if_pos he]
      obtain ⟨m, hm, hq⟩ := frame_fact he
      rw [hm] at hp
      simp only at hp
      have q1 := hq.2.1
      have q2 := hq.2.2.1
      intro f hf
      rcases List.mem_cons.1 hf with rfl | hf
      · exact ⟨by omega, by omega⟩
      · exact frames_ll (by rw [hm]; simp only; omega) (by rw [hm]; exact hp) f hf
    · rw [if_neg he]; intro f hf; cases hf
theorem all_ll {s : List UInt8} {P : List K} {F : List T} (he : (fin s (all s P F).2).e = 0) : ∀ f ∈ (all s P F).1, f.locals.length ≤ F.length + s.length ∧ f.stack.length ≤ s.length := by
  have h1 := (fin_good he).1
  have hp := rd_pos (s := s) (n := 2) (st := ⟨0, 0, 0⟩) (Nat.zero_le _)
  unfold all at h1 ⊢
  exact frames_ll (by simp only; omega) hp
theorem frames_n {s : List UInt8} {P : List K} : ∀ {n : Nat} {a : Fm} {st : St}, (frames s P n a st).1.length ≤ n
  | 0, _, _ => Nat.le_refl _
  | n + 1, a, st => by
    rw [frames]
    split
    · have := frames_n (s := s) (P := P) (n := n) (a := (frame s P a st).1) (st := (frame s P a st).2)
      simp only [List.length_cons]; omega
    · simp
theorem all_n {s : List UInt8} {P : List K} {F : List T} : (all s P F).1.length ≤ 65535 := by
  have := frames_n (s := s) (P := P) (n := (rd s 2 ⟨0, 0, 0⟩).1) (a := ⟨-1, F, []⟩) (st := (rd s 2 ⟨0, 0, 0⟩).2)
  have := rd2 s ⟨0, 0, 0⟩
  unfold all; omega
theorem vty_all {s : List UInt8} {P : List K} {st : St} (h : Txt P) : (vty s P st).1.tag < 256 ∧ (vty s P st).1.name.length ≤ maxLen := by
  have := rd1 s st
  unfold vty
  split
  · exact ⟨by simp only; omega, h.cls _⟩
  · split
    · exact ⟨by simp only; omega, by simp⟩
    · split
      · exact ⟨by simp only; omega, by simp⟩
      · exact ⟨by simp only; omega, by simp⟩
theorem vals_all {s : List UInt8} {P : List K} (h : Txt P) : ∀ {n : Nat} {st : St}, Tok (vals s P n st).1
  | 0, st => fun t ht => by cases ht
  | n + 1, st => by
    rw [vals]
    split
    · intro t ht
      rcases List.mem_cons.1 ht with rfl | ht
      · exact vty_all h
      · exact vals_all h t ht
    · intro t ht; cases ht
theorem Tok.app {A B : List T} (h1 : Tok A) (h2 : Tok B) : Tok (A ++ B) := fun t ht => by
  rcases List.mem_append.1 ht with h | h
  · exact h1 t h
  · exact h2 t h
theorem Tok.nil : Tok [] := fun t ht => by cases ht
theorem body_all {s : List UInt8} {P : List K} {L : List T} {tag from_ : Nat} {st : St} (h : Txt P) (hL : Tok L) : Tok (body s P L tag from_ st).1 ∧ Tok (body s P L tag from_ st).2.1 := by
  unfold body
  split
  · exact ⟨Tok.nil, Tok.nil⟩
  · split
    · split
      · exact ⟨Tok.nil, Tok.nil⟩
      · split
        · exact ⟨Tok.nil, Tok.nil⟩
        · split
          · exact ⟨Tok.nil, Tok.nil⟩
          · exact ⟨vals_all h, vals_all h⟩
    · split
      · exact ⟨Tok.app hL (vals_all h), Tok.nil⟩
      · split
        · split
          · exact ⟨Tok.nil, Tok.nil⟩
          · exact ⟨fun t ht => hL t (List.mem_of_mem_take ht), Tok.nil⟩
        · split
          · exact ⟨hL, vals_all h⟩
          · exact ⟨hL, Tok.nil⟩
theorem frames_all {s : List UInt8} {P : List K} (h : Txt P) : ∀ {n : Nat} {a : Fm} {st : St}, Tok a.locals → ∀ f ∈ (frames s P n a st).1, Tok f.locals ∧ Tok f.stack
  | 0, _, _, _ => fun f hf => by cases hf
  | n + 1, a, st, ha => by
    rw [frames]
    by_cases he : (frame s P a st).2.e = 0
    · rw [if_pos he]
      have hfr : Tok (frame s P a st).1.locals ∧ Tok (frame s P a st).1.stack := by
        unfold frame at he ⊢
        by_cases h1 : (rd s 1 st).2.e ≠ 0
        · rw [if_pos h1] at he; exact absurd he h1
        · rw [if_neg h1] at he ⊢
          by_cases h2 : 128 ≤ (rd s 1 st).1 ∧ (rd s 1 st).1 < 247
          · rw [if_pos h2] at he; exact absurd he (fail_e (by decide))
          · rw [if_neg h2]; exact body_all h ha
      intro f hf
      rcases List.mem_cons.1 hf with rfl | hf
      · exact hfr
      · exact frames_all h hfr.1 f hf
    · rw [if_neg he]; intro f hf; cases hf
end M
end Go.Proofs.Ytbgpkkbejbidlac
