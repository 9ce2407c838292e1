/-
  A frame as bytes, by the ways of the reference: plain mathematics.
-/
import Derived.Test.YtbgpkkbejbidlacTe
namespace Go.Proofs.Ytbgpkkbejbidlac
namespace M
theorem sh_take_right : ∀ (A B : List T) (n : Nat), sh A (B.take n) = min (sh A B) n
  | [], B, n => by simp [sh]
  | a :: l, [], n => by simp [sh]
  | a :: l, b :: m, 0 => by simp [sh]
  | a :: l, b :: m, n + 1 => by
    rw [List.take_succ_cons, sh, sh]
    split
    · rw [sh_take_right l m n]; omega
    · omega
theorem sh_take_left : ∀ (A B : List T) (n : Nat), sh (A.take n) B = min (sh A B) n
  | [], B, n => by simp [sh]
  | a :: l, B, 0 => by simp [sh]
  | a :: l, [], n + 1 => by simp [sh]
  | a :: l, b :: m, n + 1 => by
    rw [List.take_succ_cons, sh, sh]
    split
    · rw [sh_take_left l m n]; omega
    · omega
/-- A frame may be written. -/
def may (f a : Fm) : Prop := ¬ (f.at_ ≤ a.at_ ∨ 65535 < f.at_ ∨ 65535 < f.locals.length ∨ 65535 < f.stack.length)
theorem td_short {P : List K} {f a : Fm} {b c : List UInt8} {x y z : Nat} {d : Nat} (hm : may f a) (hx : ftag f a = x) (hx2 : x ≠ 255) (hd : (f.at_ - a.at_ - 1).toNat = d)
    (h1 : Td (vts P (f.locals.drop (sh f.locals a.locals))) b y) (h2 : Td (vts P f.stack) c z) :
    Td (frw P f a) (UInt8.ofNat x :: (if 247 ≤ x then big d 2 else []) ++ b ++ c) (if y = 0 then z else y) := by
  unfold frw
  rw [if_neg hm, hx, if_neg hx2, if_neg hx2, if_neg hx2, hd]
  cases h : vts P (f.locals.drop (sh f.locals a.locals)) with
  | error e => rw [h] at h1; obtain ⟨rfl, h1⟩ := h1; exact ⟨if_neg h1, h1⟩
  | ok b' =>
    rw [h] at h1
    obtain ⟨rfl, rfl⟩ := h1
    simp only
    cases h' : vts P f.stack with
    | error e => rw [h'] at h2; obtain ⟨rfl, h2⟩ := h2; exact ⟨if_pos trivial, h2⟩
    | ok c' => rw [h'] at h2; obtain ⟨rfl, rfl⟩ := h2; exact ⟨if_pos trivial, by simp⟩
theorem td_long {P : List K} {f a : Fm} {b c : List UInt8} {y z : Nat} {d : Nat} (hm : may f a) (hx : ftag f a = 255) (hd : (f.at_ - a.at_ - 1).toNat = d)
    (h1 : Td (vts P f.locals) b y) (h2 : Td (vts P f.stack) c z) :
    Td (frw P f a) (255 :: (big d 2 ++ big f.locals.length 2 ++ b ++ big f.stack.length 2 ++ c)) (if y = 0 then z else y) := by
  unfold frw
  rw [if_neg hm, hx, if_pos rfl, if_pos rfl, if_pos rfl, if_pos (by decide), hd, List.drop_zero]
  cases h : vts P f.locals with
  | error e => rw [h] at h1; obtain ⟨rfl, h1⟩ := h1; exact ⟨if_neg h1, h1⟩
  | ok b' =>
    rw [h] at h1
    obtain ⟨rfl, rfl⟩ := h1
    simp only
    cases h' : vts P f.stack with
    | error e => rw [h'] at h2; obtain ⟨rfl, h2⟩ := h2; exact ⟨if_pos trivial, h2⟩
    | ok c' => rw [h'] at h2; obtain ⟨rfl, rfl⟩ := h2; exact ⟨if_pos trivial, by simp⟩
theorem td_nil (P : List K) : Td (vts P []) [] 0 := ⟨rfl, rfl⟩
theorem td_of_nil {P : List K} {L : List T} {b : List UInt8} {x : Nat} (h : Td (vts P L) b x) (hl : L.length = 0) : b = [] ∧ x = 0 := by
  rw [List.length_eq_zero_iff.1 hl] at h
  exact ⟨h.2, h.1⟩
section
variable {P : List K} {f a : Fm} {d : Nat} (hm : may f a) (hd : (f.at_ - a.at_ - 1).toNat = d)
include hm hd
theorem way1 (hl : f.locals.length = a.locals.length) (hs : sh f.locals a.locals = f.locals.length) (hh : f.stack.length = 0) (h64 : d < 64) : Td (frw P f a) [UInt8.ofNat d] 0 := by
  have hx : ftag f a = d := by unfold ftag form; rw [hd, hs, hh, hl]; repeat' split
                               all_goals omega
  have h := td_short (P := P) hm hx (by omega) hd (by rw [hs, List.drop_length]; exact td_nil P) (by rw [List.length_eq_zero_iff.1 hh]; exact td_nil P)
  rw [if_neg (by omega)] at h
  simpa using h
theorem way2 (hl : f.locals.length = a.locals.length) (hs : sh f.locals a.locals = f.locals.length) (hh : f.stack.length = 0) (h64 : ¬ d < 64) : Td (frw P f a) (251 :: big d 2) 0 := by
  have hx : ftag f a = 251 := by unfold ftag form; rw [hd, hs, hh, hl]; repeat' split
                                 all_goals omega
  have h := td_short (P := P) hm hx (by omega) hd (by rw [hs, List.drop_length]; exact td_nil P) (by rw [List.length_eq_zero_iff.1 hh]; exact td_nil P)
  rw [if_pos (by omega)] at h
  simpa using h
theorem way3 {c : List UInt8} {z : Nat} (hl : f.locals.length = a.locals.length) (hs : sh f.locals a.locals = f.locals.length) (hh : f.stack.length = 1) (h64 : d < 64) (h2 : Td (vts P f.stack) c z) : Td (frw P f a) (UInt8.ofNat (64 + d) :: c) z := by
  have hx : ftag f a = 64 + d := by unfold ftag form; rw [hd, hs, hh, hl]; repeat' split
                                    all_goals omega
  have h := td_short (P := P) hm hx (by omega) hd (by rw [hs, List.drop_length]; exact td_nil P) h2
  rw [if_neg (by omega)] at h
  simpa using h
theorem way4 {c : List UInt8} {z : Nat} (hl : f.locals.length = a.locals.length) (hs : sh f.locals a.locals = f.locals.length) (hh : f.stack.length = 1) (h64 : ¬ d < 64) (h2 : Td (vts P f.stack) c z) : Td (frw P f a) (247 :: (big d 2 ++ c)) z := by
  have hx : ftag f a = 247 := by unfold ftag form; rw [hd, hs, hh, hl]; repeat' split
                                 all_goals omega
  have h := td_short (P := P) hm hx (by omega) hd (by rw [hs, List.drop_length]; exact td_nil P) h2
  rw [if_pos (by omega)] at h
  simpa using h
theorem way5 {n : Nat} (hl : a.locals.length = f.locals.length + n) (hn : 0 < n ∧ n ≤ 3) (hs : sh f.locals a.locals = f.locals.length) (hh : f.stack.length = 0) : Td (frw P f a) (UInt8.ofNat (251 - n) :: big d 2) 0 := by
  have hx : ftag f a = 251 - n := by unfold ftag form; rw [hd, hs, hh, hl]; repeat' split
                                     all_goals omega
  have h := td_short (P := P) hm hx (by omega) hd (by rw [hs, List.drop_length]; exact td_nil P) (by rw [List.length_eq_zero_iff.1 hh]; exact td_nil P)
  rw [if_pos (by omega)] at h
  simpa using h
theorem way6 {n : Nat} {b : List UInt8} {y : Nat} (hl : f.locals.length = a.locals.length + n) (hn : 0 < n ∧ n ≤ 3) (hs : sh f.locals a.locals = a.locals.length) (hh : f.stack.length = 0) (h1 : Td (vts P (f.locals.drop a.locals.length)) b y) :
    Td (frw P f a) (UInt8.ofNat (251 + n) :: (big d 2 ++ b)) y := by
  have hx : ftag f a = 251 + n := by unfold ftag form; rw [hd, hs, hh, hl]; repeat' split
                                     all_goals omega
  have h := td_short (P := P) hm hx (by omega) hd (by rw [hs]; exact h1) (by rw [List.length_eq_zero_iff.1 hh]; exact td_nil P)
  rw [if_pos (by omega), show (if y = 0 then 0 else y) = y by split <;> omega] at h
  simpa using h
theorem way7 {b c : List UInt8} {y z : Nat} (n1 : ¬ (f.locals.length = a.locals.length ∧ sh f.locals a.locals = f.locals.length ∧ f.stack.length ≤ 1))
    (n2 : ¬ (f.locals.length < a.locals.length ∧ a.locals.length ≤ f.locals.length + 3 ∧ sh f.locals a.locals = f.locals.length ∧ f.stack.length = 0))
    (n3 : ¬ (a.locals.length < f.locals.length ∧ f.locals.length ≤ a.locals.length + 3 ∧ sh f.locals a.locals = a.locals.length ∧ f.stack.length = 0))
    (h1 : Td (vts P f.locals) b y) (h2 : Td (vts P f.stack) c z) : Td (frw P f a) (255 :: (big d 2 ++ big f.locals.length 2 ++ b ++ big f.stack.length 2 ++ c)) (if y = 0 then z else y) := by
  have hle := sh_le f.locals a.locals
  have hx : ftag f a = 255 := by
    unfold ftag form
    generalize sh f.locals a.locals = S at *
    repeat' split
    all_goals omega
  exact td_long hm hx hd h1 h2
end
end M
end Go.Proofs.Ytbgpkkbejbidlac
