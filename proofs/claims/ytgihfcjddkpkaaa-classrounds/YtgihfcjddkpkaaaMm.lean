/-
  Maps of frames in bytes: plain mathematics, of lists of bytes. Nothing of the program is named here.
-/

import Derived.Laws.BitsAllLaws
namespace Go.Proofs.Ytgihfcjddkpkaaa
/-- A fact that no walk takes for a rule. -/
def Hid (p : Prop) : Prop := p
/-- A reader: the place of the next byte, the first error, its place. -/
structure St where
  pos : Nat
  e : Nat
  p : Nat
/-- A constant. -/
structure K where
  tag : Nat
  text : List UInt8
  bits : Nat
  a : Nat
  b : Nat
def K.zero : K := ⟨0, [], 0, 0, 0⟩
/-- A type. -/
structure T where
  tag : Nat
  name : List UInt8
  at_ : Int
/-- A frame. -/
structure Fm where
  at_ : Int
  locals : List T
  stack : List T
namespace M
def fail (st : St) (e p : Nat) : St := if st.e = 0 then ⟨st.pos, e, p⟩ else st
def take (s : List UInt8) (n : Nat) (st : St) : List UInt8 × St :=
  if st.e = 0 then (if s.length - st.pos < n then ([], ⟨st.pos, 1, s.length⟩) else ((s.drop st.pos).take n, ⟨st.pos + n, 0, st.p⟩)) else ([], st)
def num (l : List UInt8) : Nat := l.foldl (fun x b => x * 256 + b.toNat) 0
/-- A number of n bytes that is read. -/
def rd (s : List UInt8) (n : Nat) (st : St) : Nat × St := (num (take s n st).1, (take s n st).2)
theorem num_snoc (l : List UInt8) (b : UInt8) : num (l ++ [b]) = num l * 256 + b.toNat := by simp [num]
theorem num_take (l : List UInt8) (k : Nat) (hk : k < l.length) : num (l.take (k + 1)) = num (l.take k) * 256 + (l.getD k 0).toNat := by
  rw [List.take_add_one, List.getElem?_eq_getElem hk]; simp only [Option.toList_some, num_snoc, List.getD, List.getElem?_eq_getElem hk, Option.getD_some]
theorem num_lt (l : List UInt8) : num l < 256 ^ l.length := by
  suffices ∀ n, ∀ l : List UInt8, l.length = n → num l < 256 ^ n from this _ l rfl
  intro n
  induction n with
  | zero => intro l hl; rw [List.length_eq_zero_iff.1 hl]; simp [num]
  | succ n ih =>
    intro l hl
    have h1 := num_take l n (by omega)
    rw [List.take_of_length_le (by omega)] at h1
    have h2 := ih (l.take n) (by simp; omega)
    have h3 := (l.getD n 0).toNat_lt
    rw [h1, Nat.pow_succ]; omega
theorem take_len (s : List UInt8) (n : Nat) (st : St) : (take s n st).1.length ≤ n := by
  unfold take; split
  · split
    · simp
    · simp; omega
  · simp
theorem take_pos {s : List UInt8} {n : Nat} {st : St} (h : st.pos ≤ s.length) : (take s n st).2.pos ≤ s.length := by
  unfold take; split
  · split
    · exact h
    · simp only; omega
  · exact h
theorem take_bad {s : List UInt8} {k : Nat} {st : St} (h : st.e ≠ 0) : take s k st = ([], st) := by unfold take; rw [if_neg h]
theorem fail_bad {st : St} {e p : Nat} (h : st.e ≠ 0) : fail st e p = st := by unfold fail; rw [if_neg h]
theorem fail_pos (st : St) (e p : Nat) : (fail st e p).pos = st.pos := by unfold fail; split <;> rfl
theorem fail_e {st : St} {e p : Nat} (h : e ≠ 0) : (fail st e p).e ≠ 0 := by
  unfold fail; split
  · exact h
  · assumption
theorem num_le {l : List UInt8} {n : Nat} (h : l.length ≤ n) : num l < 256 ^ n := Nat.lt_of_lt_of_le (num_lt l) (Nat.pow_le_pow_right (by omega) h)
theorem rd1 (s : List UInt8) (st : St) : (rd s 1 st).1 < 256 := by have := num_le (take_len s 1 st); simpa [rd] using this
theorem rd2 (s : List UInt8) (st : St) : (rd s 2 st).1 < 65536 := by have := num_le (take_len s 2 st); simpa [rd] using this
theorem rd_pos {s : List UInt8} {n : Nat} {st : St} (h : st.pos ≤ s.length) : (rd s n st).2.pos ≤ s.length := take_pos h
theorem rd_bad {s : List UInt8} {n : Nat} {st : St} (h : st.e ≠ 0) : rd s n st = (0, st) := by unfold rd; rw [take_bad h]; rfl
/-- The constant of an index. -/
def kAt (p : List K) (i : Int) : K := if 0 < i ∧ i < (p.length : Int) then p.getD i.toNat K.zero else K.zero
def tag (p : List K) (i : Int) : Nat := (kAt p i).tag
def text (p : List K) (i : Int) : List UInt8 := if tag p i = 1 then (kAt p i).text else []
def cls (p : List K) (i : Int) : List UInt8 := if tag p i = 7 then text p ((kAt p i).a : Int) else []
/-- A type that is read. -/
def vty (s : List UInt8) (P : List K) (st : St) : T × St :=
  if (rd s 1 st).1 = 7 then (⟨7, cls P ((rd s 2 (rd s 1 st).2).1 : Int), 0⟩, if tag P ((rd s 2 (rd s 1 st).2).1 : Int) = 7 then (rd s 2 (rd s 1 st).2).2 else fail (rd s 2 (rd s 1 st).2).2 7 st.pos)
  else if (rd s 1 st).1 = 8 then (⟨8, [], ((rd s 2 (rd s 1 st).2).1 : Int)⟩, (rd s 2 (rd s 1 st).2).2)
  else if 8 < (rd s 1 st).1 then (⟨(rd s 1 st).1, [], 0⟩, fail (rd s 1 st).2 17 st.pos)
  else (⟨(rd s 1 st).1, [], 0⟩, (rd s 1 st).2)
theorem vty_pos {s : List UInt8} {P : List K} {st : St} (h : st.pos ≤ s.length) : (vty s P st).2.pos ≤ s.length := by
  have h1 := rd_pos (n := 1) h
  have h2 := rd_pos (n := 2) h1
  unfold vty
  split
  · simp only; split
    · exact h2
    · rw [fail_pos]; exact h2
  · split
    · exact h2
    · split
      · simp only; rw [fail_pos]; exact h1
      · exact h1
/-- Types that are read; only what comes of no error counts. -/
def vals (s : List UInt8) (P : List K) : Nat → St → List T × St
  | 0, st => ([], st)
  | n + 1, st => if (vty s P st).2.e = 0 then ((vty s P st).1 :: (vals s P n (vty s P st).2).1, (vals s P n (vty s P st).2).2) else ([], (vty s P st).2)
theorem vals_pos {s : List UInt8} {P : List K} : ∀ {n : Nat} {st : St}, st.pos ≤ s.length → (vals s P n st).2.pos ≤ s.length
  | 0, _, h => h
  | n + 1, st, h => by
    rw [vals]; split
    · exact vals_pos (vty_pos h)
    · exact vty_pos h
theorem vals_len {s : List UInt8} {P : List K} : ∀ {n : Nat} {st : St}, (vals s P n st).1.length ≤ n
  | 0, _ => by simp [vals]
  | n + 1, st => by
    rw [vals]; split
    · have := vals_len (s := s) (P := P) (n := n) (st := (vty s P st).2)
      simp only [List.length_cons]; omega
    · simp
/-- Where reading of types stands: those that are read, how many are left, and where. -/
def Vs (s : List UInt8) (P : List K) (n : Nat) (st0 : St) (A : List T) (m : Nat) (st : St) : Prop :=
  A.length + m = n ∧ vals s P n st0 = (A ++ (vals s P m st).1, (vals s P m st).2)
theorem Vs.zero (s : List UInt8) (P : List K) (n : Nat) (st0 : St) : Vs s P n st0 [] n st0 := ⟨by simp, by simp⟩
theorem Vs.step {s : List UInt8} {P : List K} {n : Nat} {st0 : St} {A : List T} {m : Nat} {st : St} (h : Vs s P n st0 A (m + 1) st) (he : (vty s P st).2.e = 0) : Vs s P n st0 (A ++ [(vty s P st).1]) m (vty s P st).2 := by
  refine ⟨by have := h.1; simp; omega, ?_⟩
  rw [h.2, vals, if_pos he]; simp
theorem Vs.stop {s : List UInt8} {P : List K} {n : Nat} {st0 : St} {A : List T} {m : Nat} {st : St} (h : Vs s P n st0 A (m + 1) st) (he : (vty s P st).2.e ≠ 0) : (vals s P n st0).2 = (vty s P st).2 := by
  rw [h.2, vals, if_neg he]
theorem Vs.done {s : List UInt8} {P : List K} {n : Nat} {st0 : St} {A : List T} {st : St} (h : Vs s P n st0 A 0 st) : vals s P n st0 = (A, st) := by
  rw [h.2]; simp [vals]
/-- How many bytes further the next frame is, of a tag. -/
def dlt (s : List UInt8) (tag : Nat) (st : St) : Nat × St := if tag < 64 then (tag, st) else if tag < 128 then (tag - 64, st) else rd s 2 st
/-- What stands behind the delta: the locals and the stack. -/
def body (s : List UInt8) (P : List K) (L : List T) (tag from_ : Nat) (st : St) : List T × List T × St :=
  if st.e ≠ 0 then ([], [], st)
  else if tag = 255 then
    (if (rd s 2 st).2.e ≠ 0 then ([], [], (rd s 2 st).2)
     else if (vals s P (rd s 2 st).1 (rd s 2 st).2).2.e ≠ 0 then ([], [], (vals s P (rd s 2 st).1 (rd s 2 st).2).2)
     else if (rd s 2 (vals s P (rd s 2 st).1 (rd s 2 st).2).2).2.e ≠ 0 then ([], [], (rd s 2 (vals s P (rd s 2 st).1 (rd s 2 st).2).2).2)
     else ((vals s P (rd s 2 st).1 (rd s 2 st).2).1, vals s P (rd s 2 (vals s P (rd s 2 st).1 (rd s 2 st).2).2).1 (rd s 2 (vals s P (rd s 2 st).1 (rd s 2 st).2).2).2))
  else if 251 < tag then (L ++ (vals s P (tag - 251) st).1, [], (vals s P (tag - 251) st).2)
  else if 247 < tag then (if L.length < 251 - tag then ([], [], fail st 17 from_) else (L.take (L.length - (251 - tag)), [], st))
  else if 64 ≤ tag then (L, vals s P 1 st)
  else (L, [], st)
/-- The next frame. -/
def frame (s : List UInt8) (P : List K) (a : Fm) (st : St) : Fm × St :=
  if (rd s 1 st).2.e ≠ 0 then (a, (rd s 1 st).2)
  else if 128 ≤ (rd s 1 st).1 ∧ (rd s 1 st).1 < 247 then (a, fail (rd s 1 st).2 17 st.pos)
  else (⟨a.at_ + 1 + ((dlt s (rd s 1 st).1 (rd s 1 st).2).1 : Int), (body s P a.locals (rd s 1 st).1 st.pos (dlt s (rd s 1 st).1 (rd s 1 st).2).2).1, (body s P a.locals (rd s 1 st).1 st.pos (dlt s (rd s 1 st).1 (rd s 1 st).2).2).2.1⟩,
    (body s P a.locals (rd s 1 st).1 st.pos (dlt s (rd s 1 st).1 (rd s 1 st).2).2).2.2)
/-- All frames. -/
def frames (s : List UInt8) (P : List K) : Nat → Fm → St → List Fm × St
  | 0, _, st => ([], st)
  | n + 1, a, st => if (frame s P a st).2.e = 0 then ((frame s P a st).1 :: (frames s P n (frame s P a st).1 (frame s P a st).2).1, (frames s P n (frame s P a st).1 (frame s P a st).2).2) else ([], (frame s P a st).2)
/-- Where reading of frames stands. -/
def Fs (s : List UInt8) (P : List K) (n : Nat) (a0 : Fm) (st0 : St) (A : List Fm) (a : Fm) (m : Nat) (st : St) : Prop :=
  A.length + m = n ∧ frames s P n a0 st0 = (A ++ (frames s P m a st).1, (frames s P m a st).2)
theorem Fs.zero (s : List UInt8) (P : List K) (n : Nat) (a0 : Fm) (st0 : St) : Fs s P n a0 st0 [] a0 n st0 := ⟨by simp, by simp⟩
theorem Fs.step {s : List UInt8} {P : List K} {n : Nat} {a0 : Fm} {st0 : St} {A : List Fm} {a : Fm} {m : Nat} {st : St} (h : Fs s P n a0 st0 A a (m + 1) st) (he : (frame s P a st).2.e = 0) : Fs s P n a0 st0 (A ++ [(frame s P a st).1]) (frame s P a st).1 m (frame s P a st).2 := by
  refine ⟨by have := h.1; simp; omega, ?_⟩
  rw [h.2, frames, if_pos he]; simp
theorem Fs.stop {s : List UInt8} {P : List K} {n : Nat} {a0 : Fm} {st0 : St} {A : List Fm} {a : Fm} {m : Nat} {st : St} (h : Fs s P n a0 st0 A a (m + 1) st) (he : (frame s P a st).2.e ≠ 0) : (frames s P n a0 st0).2 = (frame s P a st).2 := by
  rw [h.2, frames, if_neg he]
theorem Fs.done {s : List UInt8} {P : List K} {n : Nat} {a0 : Fm} {st0 : St} {A : List Fm} {a : Fm} {st : St} (h : Fs s P n a0 st0 A a 0 st) : frames s P n a0 st0 = (A, st) := by
  rw [h.2]; simp [frames]
/-- The answer: the frames, the error, its place. -/
def fin (s : List UInt8) (st : St) : St := if st.pos < s.length then fail st 2 st.pos else st
def read (s : List UInt8) (P : List K) (F : List T) : List Fm × St :=
  if (rd s 2 ⟨0, 0, 0⟩).2.e ≠ 0 then ([], (rd s 2 ⟨0, 0, 0⟩).2)
  else ((frames s P (rd s 2 ⟨0, 0, 0⟩).1 ⟨-1, F, []⟩ (rd s 2 ⟨0, 0, 0⟩).2).1, fin s (frames s P (rd s 2 ⟨0, 0, 0⟩).1 ⟨-1, F, []⟩ (rd s 2 ⟨0, 0, 0⟩).2).2)
theorem dlt_pos {s : List UInt8} {tag : Nat} {st : St} (h : st.pos ≤ s.length) : (dlt s tag st).2.pos ≤ s.length := by
  unfold dlt; split
  · exact h
  · split
    · exact h
    · exact rd_pos h
theorem body_pos {s : List UInt8} {P : List K} {L : List T} {tag from_ : Nat} {st : St} (h : st.pos ≤ s.length) : (body s P L tag from_ st).2.2.pos ≤ s.length := by
  have h1 := rd_pos (n := 2) h
  have h2 := vals_pos (P := P) (n := (rd s 2 st).1) h1
  have h3 := rd_pos (n := 2) h2
  unfold body
  split
  · exact h
  · split
    · split
      · exact h1
      · split
        · exact h2
        · split
          · exact h3
          · exact vals_pos h3
    · split
      · have := vals_pos (P := P) (n := tag - 251) h
        simpa only using this
      · split
        · split
          · simp only; rw [fail_pos]; exact h
          · exact h
        · split
          · exact vals_pos h
          · exact h
theorem frame_pos {s : List UInt8} {P : List K} {a : Fm} {st : St} (h : st.pos ≤ s.length) : (frame s P a st).2.pos ≤ s.length := by
  have h1 := rd_pos (n := 1) h
  unfold frame
  split
  · exact h1
  · split
    · simp only; rw [fail_pos]; exact h1
    · exact body_pos (dlt_pos h1)
set_option maxRecDepth 100000 in
theorem body_len {s : List UInt8} {P : List K} {L : List T} {tag from_ : Nat} {st : St} (ht : tag < 256) {N : Nat} (h : L.length ≤ N) (hN : 65536 ≤ N) : (body s P L tag from_ st).1.length ≤ N + 3 ∧ (body s P L tag from_ st).2.1.length ≤ 65536 := by
  have q1 := rd2 s st
  have q2 := vals_len (s := s) (P := P) (n := (rd s 2 st).1) (st := (rd s 2 st).2)
  have q3 := rd2 s (vals s P (rd s 2 st).1 (rd s 2 st).2).2
  have q4 := vals_len (s := s) (P := P) (n := (rd s 2 (vals s P (rd s 2 st).1 (rd s 2 st).2).2).1) (st := (rd s 2 (vals s P (rd s 2 st).1 (rd s 2 st).2).2).2)
  have q5 := vals_len (s := s) (P := P) (n := tag - 251) (st := st)
  have q6 := vals_len (s := s) (P := P) (n := 1) (st := st)
  unfold body
  split
  · exact ⟨by simp, by simp⟩
  · split
    · split
      · exact ⟨by simp, by simp⟩
      · split
        · exact ⟨by simp, by simp⟩
        · split
          · exact ⟨by simp, by simp⟩
          · exact ⟨by simp only; omega, by simp only; omega⟩
    · split
      · exact ⟨by simp only [List.length_append]; omega, by simp⟩
      · split
        · split
          · exact ⟨by simp, by simp⟩
          · exact ⟨by simp only [List.length_take]; omega, by simp⟩
        · split
          · exact ⟨by simp only; omega, by simp only; omega⟩
          · exact ⟨by simp only; omega, by simp⟩
theorem frame_len {s : List UInt8} {P : List K} {a : Fm} {st : St} {N : Nat} (h : a.locals.length ≤ N) (hk : a.stack.length ≤ 65536) (hN : 65536 ≤ N) : (frame s P a st).1.locals.length ≤ N + 3 ∧ (frame s P a st).1.stack.length ≤ 65536 := by
  unfold frame
  split
  · exact ⟨by simp only; omega, hk⟩
  · split
    · exact ⟨by simp only; omega, hk⟩
    · exact body_len (rd1 s st) h hN
theorem frame_at {s : List UInt8} {P : List K} {a : Fm} {st : St} : a.at_ ≤ (frame s P a st).1.at_ ∧ (frame s P a st).1.at_ ≤ a.at_ + 65536 := by
  have h2 := rd2 s (rd s 1 st).2
  unfold frame
  split
  · exact ⟨by simp only; omega, by simp only; omega⟩
  · split
    · exact ⟨by simp only; omega, by simp only; omega⟩
    · have : (dlt s (rd s 1 st).1 (rd s 1 st).2).1 < 65536 := by
        unfold dlt; split
        · simp only; omega
        · split
          · simp only; omega
          · exact h2
      exact ⟨by simp only; omega, by simp only; omega⟩
end M
end Go.Proofs.Ytgihfcjddkpkaaa
