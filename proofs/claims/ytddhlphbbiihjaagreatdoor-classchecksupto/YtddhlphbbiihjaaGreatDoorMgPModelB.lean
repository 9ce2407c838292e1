/-
  Instructions in bytes: plain mathematics, of lists of bytes. Nothing of the program is named here.
  The reader's states against the plain answers.
-/

import Derived.Laws.BitsAllLaws
namespace Go.Proofs.YtddhlphbbiihjaaGreatDoor.Dc
/-- A reader: the place of the next byte, the first error, its place. -/
structure St where
  pos : Nat
  e : Nat
  p : Nat
/-- An instruction. -/
structure I where
  at_ : Nat
  op : Nat
  wide : Bool
  a : Int
  b : Int
  low : Int
  keys : List Int
  tgts : List Int
/-- An operand: how many bytes, from where to where. -/
structure F where
  size : Nat
  low : Int
  high : Int
structure Lay where
  a : F
  b : F
  z : F
  t : F
abbrev Er := Nat × Nat
namespace M
def fail (st : St) (e p : Nat) : St := if st.e = 0 then ⟨st.pos, e, p⟩ else st
def take (s : List UInt8) (n : Nat) (st : St) : List UInt8 × St :=
  if st.e = 0 then (if s.length - st.pos < n then ([], ⟨st.pos, 1, s.length⟩) else ((s.drop st.pos).take n, ⟨st.pos + n, 0, st.p⟩)) else ([], st)
def num (l : List UInt8) : Nat := l.foldl (fun x b => x * 256 + b.toNat) 0
def sgn (n x : Nat) : Int := if 2 * x < 256 ^ n then (x : Int) else (x : Int) - ((256 ^ n : Nat) : Int)
def holds (f : F) (x : Int) : Bool := f.size == 0 || (decide (f.low ≤ x) && decide (x ≤ f.high))
def f0 : F := ⟨0, 0, 0⟩
def fw : F := ⟨4, -2147483648, 2147483647⟩
def layOf (k : Nat) : Lay :=
  if k = 2 then ⟨⟨1, -128, 127⟩, f0, f0, f0⟩
  else if k = 3 then ⟨⟨2, -32768, 32767⟩, f0, f0, f0⟩
  else if k = 4 ∨ k = 6 then ⟨⟨1, 0, 255⟩, f0, f0, f0⟩
  else if k = 5 ∨ k = 7 then ⟨⟨2, 0, 65535⟩, f0, f0, f0⟩
  else if k = 8 then ⟨⟨1, 0, 255⟩, ⟨1, -128, 127⟩, f0, f0⟩
  else if k = 9 then ⟨⟨2, 0, 65535⟩, ⟨2, -32768, 32767⟩, f0, f0⟩
  else if k = 10 then ⟨f0, f0, f0, ⟨2, -32768, 32767⟩⟩
  else if k = 11 then ⟨f0, f0, f0, fw⟩
  else if k = 12 then ⟨⟨2, 0, 65535⟩, ⟨1, 1, 255⟩, ⟨1, 0, 0⟩, f0⟩
  else if k = 13 then ⟨⟨1, 4, 11⟩, f0, f0, f0⟩
  else if k = 14 then ⟨⟨2, 0, 65535⟩, ⟨1, 1, 255⟩, f0, f0⟩
  else ⟨f0, f0, f0, f0⟩
/-- What stands behind the number of an instruction that is not wide. -/
def kind (op : Nat) : Nat :=
  if op = 16 then 2 else if op = 17 then 3 else if op = 18 then 4
  else if op = 19 ∨ op = 20 ∨ (178 ≤ op ∧ op ≤ 184) ∨ op = 187 ∨ op = 189 ∨ op = 192 ∨ op = 193 then 5
  else if (21 ≤ op ∧ op ≤ 25) ∨ (54 ≤ op ∧ op ≤ 58) then 6
  else if op = 132 then 8
  else if (153 ≤ op ∧ op ≤ 167) ∨ op = 198 ∨ op = 199 then 10
  else if op = 200 then 11
  else if op = 170 then 15
  else if op = 171 then 16
  else if op = 185 then 12
  else if op = 188 then 13
  else if op = 197 then 14
  else if op = 168 ∨ op = 169 ∨ op = 186 ∨ op = 196 ∨ 200 < op then 0
  else 1
def kindW (op : Nat) (w : Bool) : Nat := if w then (if kind op = 6 then 7 else if kind op = 8 then 9 else 0) else kind op
def bs (s : List UInt8) (p n : Nat) : List UInt8 := (s.drop p).take n
/-- A number of a switch. -/
def w4 (s : List UInt8) (p : Nat) : Int := sgn 4 (num (bs s p 4))
def rd (f : F) (l : List UInt8) : Int := if f.low < 0 then sgn f.size (num l) else (num l : Int)
def plain (s : List UInt8) (a op : Nat) (w : Bool) (b : Nat) (L : Lay) : Except Er (I × Nat) :=
  if s.length < b + (L.a.size + L.b.size + L.z.size + L.t.size) then .error (1, s.length)
  else if holds L.a (rd L.a (bs s b L.a.size)) && holds L.b (rd L.b (bs s (b + L.a.size) L.b.size)) && holds L.z (rd L.z (bs s (b + L.a.size + L.b.size) L.z.size)) then
    .ok (⟨a, op, w, rd L.a (bs s b L.a.size), rd L.b (bs s (b + L.a.size) L.b.size), 0, [], if L.t.size = 0 then [] else [(a : Int) + rd L.t (bs s (b + L.a.size + L.b.size + L.z.size) L.t.size)]⟩, b + (L.a.size + L.b.size + L.z.size + L.t.size))
  else .error (15, a)
def pad (s : List UInt8) (a : Nat) : Nat → Nat → Except Er Nat
  | 0, p => .ok p
  | n + 1, p => if s.length ≤ p then .error (1, s.length) else if num (bs s p 1) ≠ 0 then .error (15, a) else pad s a n (p + 1)
def tgs (s : List UInt8) (a : Nat) : Nat → Nat → List Int → Except Er (List Int × Nat)
  | 0, p, ts => .ok (ts, p)
  | n + 1, p, ts => if s.length < p + 4 then .error (1, s.length) else tgs s a n (p + 4) (ts ++ [(a : Int) + w4 s p])
def kys (s : List UInt8) (a : Nat) : Nat → Nat → List Int → List Int → Except Er (List Int × List Int × Nat)
  | 0, p, ks, ts => .ok (ks, ts, p)
  | n + 1, p, ks, ts => if s.length < p + 4 then .error (1, s.length) else if ks ≠ [] ∧ w4 s p ≤ ks.getLastD 0 then .error (15, a)
      else if s.length < p + 8 then .error (1, s.length) else kys s a n (p + 8) (ks ++ [w4 s p]) (ts ++ [(a : Int) + w4 s (p + 4)])
def tab (s : List UInt8) (a op p : Nat) : Except Er (I × Nat) :=
  if s.length < p + 12 then .error (1, s.length)
  else if w4 s (p + 8) < w4 s (p + 4) then .error (15, a)
  else match tgs s a (w4 s (p + 8) - w4 s (p + 4) + 1).toNat (p + 12) [(a : Int) + w4 s p] with
    | .error e => .error e
    | .ok (ts, q) => .ok (⟨a, op, false, 0, 0, w4 s (p + 4), [], ts⟩, q)
def key (s : List UInt8) (a op p : Nat) : Except Er (I × Nat) :=
  if s.length < p + 8 then .error (1, s.length)
  else if w4 s (p + 4) < 0 then .error (15, a)
  else match kys s a (w4 s (p + 4)).toNat (p + 8) [] [(a : Int) + w4 s p] with
    | .error e => .error e
    | .ok (ks, ts, q) => .ok (⟨a, op, false, 0, 0, 0, ks, ts⟩, q)
def padN (b : Nat) : Nat := (4 - b % 4) % 4
def sw (s : List UInt8) (a op b : Nat) (byKey : Bool) : Except Er (I × Nat) :=
  match pad s a (padN b) b with
  | .error e => .error e
  | .ok p => if byKey then key s a op p else tab s a op p
def body (s : List UInt8) (a op : Nat) (w : Bool) (b : Nat) : Except Er (I × Nat) :=
  if kindW op w = 0 then .error (14, a)
  else if kindW op w = 15 then sw s a op b false
  else if kindW op w = 16 then sw s a op b true
  else plain s a op w b (layOf (kindW op w))
/-- The instruction at a place, and where the next is. -/
def ins (s : List UInt8) (a : Nat) : Except Er (I × Nat) :=
  if num (bs s a 1) = 196 then (if s.length < a + 2 then .error (1, s.length) else body s a (num (bs s (a + 1) 1)) true (a + 2))
  else body s a (num (bs s a 1)) false (a + 1)
theorem tgs_le {s : List UInt8} {a : Nat} : ∀ {n p : Nat} {ts : List Int} {r : List Int × Nat}, p ≤ s.length → tgs s a n p ts = .ok r → p ≤ r.2 ∧ r.2 ≤ s.length
  | 0, p, ts, r, hp, h => by simp only [tgs, Except.ok.injEq] at h; subst h; exact ⟨Nat.le_refl _, hp⟩
  | n + 1, p, ts, r, hp, h => by
    unfold tgs at h; split at h
    · cases h
    · have := tgs_le (by omega) h; omega
theorem kys_le {s : List UInt8} {a : Nat} : ∀ {n p : Nat} {ks ts : List Int} {r : List Int × List Int × Nat}, p ≤ s.length → kys s a n p ks ts = .ok r → p ≤ r.2.2 ∧ r.2.2 ≤ s.length
  | 0, p, ks, ts, r, hp, h => by simp only [kys, Except.ok.injEq] at h; subst h; exact ⟨Nat.le_refl _, hp⟩
  | n + 1, p, ks, ts, r, hp, h => by
    unfold kys at h; split at h
    · cases h
    · split at h
      · cases h
      · split at h
        · cases h
        · have := kys_le (by omega) h; omega
theorem pad_le {s : List UInt8} {a : Nat} : ∀ {n p r : Nat}, p ≤ s.length → pad s a n p = .ok r → r = p + n ∧ r ≤ s.length
  | 0, p, r, hp, h => by simp only [pad, Except.ok.injEq] at h; subst h; exact ⟨rfl, hp⟩
  | n + 1, p, r, hp, h => by
    unfold pad at h; split at h
    · cases h
    · split at h
      · cases h
      · have := pad_le (by omega) h; omega
theorem plain_le {s : List UInt8} {a op b : Nat} {w : Bool} {L : Lay} {r : I × Nat} (h : plain s a op w b L = .ok r) : b ≤ r.2 ∧ r.2 ≤ s.length ∧ r.1.at_ = a := by
  unfold plain at h; split at h
  · cases h
  · split at h
    · cases h; exact ⟨by simp only; omega, by simp only; omega, rfl⟩
    · cases h
theorem sw_le {s : List UInt8} {a op b : Nat} {k : Bool} {r : I × Nat} (hb : b ≤ s.length) (h : sw s a op b k = .ok r) : b ≤ r.2 ∧ r.2 ≤ s.length ∧ r.1.at_ = a := by
  unfold sw at h
  cases hp : pad s a (padN b) b with
  | error e => rw [hp] at h; cases h
  | ok p =>
    have h1 := pad_le hb hp
    rw [hp] at h; simp only at h
    cases k
    · simp only [Bool.false_eq_true, if_false] at h
      unfold tab at h; split at h
      · cases h
      · split at h
        · cases h
        · cases ht : tgs s a (w4 s (p + 8) - w4 s (p + 4) + 1).toNat (p + 12) [(a : Int) + w4 s p] with
          | error e => rw [ht] at h; cases h
          | ok q =>
            have := tgs_le (by omega) ht
            rw [ht] at h; cases h; exact ⟨by simp only; omega, by simp only; omega, rfl⟩
    · simp only [if_true] at h
      unfold key at h; split at h
      · cases h
      · split at h
        · cases h
        · cases ht : kys s a (w4 s (p + 4)).toNat (p + 8) [] [(a : Int) + w4 s p] with
          | error e => rw [ht] at h; cases h
          | ok q =>
            obtain ⟨q1, q2, q3⟩ := q
            have := kys_le (by omega) ht
            rw [ht] at h; cases h; simp only at this; exact ⟨by simp only; omega, by simp only; omega, rfl⟩
theorem body_le {s : List UInt8} {a op b : Nat} {w : Bool} {r : I × Nat} (hb : b ≤ s.length) (h : body s a op w b = .ok r) : b ≤ r.2 ∧ r.2 ≤ s.length ∧ r.1.at_ = a := by
  unfold body at h; split at h
  · cases h
  · split at h
    · exact sw_le hb h
    · split at h
      · exact sw_le hb h
      · exact plain_le h
theorem ins_le {s : List UInt8} {a : Nat} {r : I × Nat} (ha : a < s.length) (h : ins s a = .ok r) : a < r.2 ∧ r.2 ≤ s.length ∧ r.1.at_ = a := by
  unfold ins at h; split at h
  · split at h
    · cases h
    · have := body_le (by omega) h; omega
  · have := body_le (by omega) h; omega
/-- All instructions from a place on, behind those of l. -/
def run (s : List UInt8) (a : Nat) (l : List I) : Except Er (List I) :=
  if _h : a < s.length then
    match ins s a with
    | .error e => .error e
    | .ok (i, q) => if a < q then run s q (l ++ [i]) else .ok l
  else .ok l
  termination_by s.length - a
theorem run_end {s : List UInt8} {a : Nat} {l : List I} (h : s.length ≤ a) : run s a l = .ok l := by rw [run, dif_neg (by omega)]
theorem run_bad {s : List UInt8} {a : Nat} {l : List I} {e : Er} (h : a < s.length) (hi : ins s a = .error e) : run s a l = .error e := by rw [run, dif_pos h, hi]
theorem run_one {s : List UInt8} {a q : Nat} {l : List I} {i : I} (h : a < s.length) (hi : ins s a = .ok (i, q)) : run s a l = run s q (l ++ [i]) := by
  have := (ins_le h hi).1; simp only at this
  rw [run, dif_pos h, hi]; simp only; rw [if_pos this]
def begins (l : List I) (t : Int) : Bool := l.any fun i => decide ((i.at_ : Int) = t)
def lost (l : List I) (i : I) : Bool := i.tgts.any fun t => !begins l t
def firstLost (l : List I) : Option Nat := l.findIdx? (lost l)
/-- What Decode answers. -/
def decode (s : List UInt8) : Except Er (List I) :=
  if s.length = 0 ∨ 65535 < s.length then .error (12, 0)
  else match run s 0 [] with
    | .error e => .error e
    | .ok l => match l.find? (lost l) with
      | none => .ok l
      | some i => .error (16, i.at_)
end M
end Go.Proofs.YtddhlphbbiihjaaGreatDoor.Dc
namespace Go.Proofs.YtddhlphbbiihjaaGreatDoor.Dc
namespace M
section
variable {s : List UInt8} {a : Nat}
theorem take_ok {k p : Nat} (h : a + k ≤ s.length) : take s k ⟨a, 0, p⟩ = (bs s a k, ⟨a + k, 0, p⟩) := by
  unfold take bs; rw [if_pos rfl, if_neg (by simp only; omega)]
theorem take_no {k p : Nat} (h : s.length - a < k) : take s k ⟨a, 0, p⟩ = ([], ⟨a, 1, s.length⟩) := by
  unfold take; rw [if_pos rfl, if_pos (by simp only; omega)]
theorem take_bad {k : Nat} {st : St} (h : st.e ≠ 0) : take s k st = ([], st) := by unfold take; rw [if_neg h]
theorem fail_bad {st : St} {e p : Nat} (h : st.e ≠ 0) : fail st e p = st := by unfold fail; rw [if_neg h]
end
/-- What becomes of the reader: the answer's place, or its error. -/
def Left {α : Type} (s : List UInt8) (st : St) (r : Except Er (α × Nat)) : Prop :=
  match r with
  | .ok (_, q) => st = ⟨q, 0, 0⟩
  | .error (e, p) => st.e = e ∧ st.p = p ∧ e ≠ 0 ∧ st.pos ≤ s.length
theorem take_zero {s : List UInt8} {st : St} (h : st.pos ≤ s.length) : take s 0 st = ([], st) := by
  unfold take; split
  · rw [if_neg (by omega)]; cases st; simp_all
  · rfl
theorem take_pos {s : List UInt8} {n : Nat} {st : St} (h : st.pos ≤ s.length) : (take s n st).2.pos ≤ s.length := by
  unfold take; split
  · split
    · exact h
    · simp only; omega
  · exact h
def after (s : List UInt8) (a : Nat) (L : Lay) (st : St) : St :=
  let r1 := take s L.a.size st
  let r2 := take s L.b.size r1.2
  let r3 := take s L.z.size r2.2
  let r4 := take s L.t.size r3.2
  if holds L.a (rd L.a r1.1) && holds L.b (rd L.b r2.1) && holds L.z (rd L.z r3.1) then r4.2 else fail r4.2 15 a
def made (s : List UInt8) (a op : Nat) (w : Bool) (L : Lay) (st : St) : I :=
  let r1 := take s L.a.size st
  let r2 := take s L.b.size r1.2
  let r3 := take s L.z.size r2.2
  let r4 := take s L.t.size r3.2
  ⟨a, op, w, rd L.a r1.1, rd L.b r2.1, 0, [], if L.t.size = 0 then [] else [(a : Int) + rd L.t r4.1]⟩
theorem after_no {s : List UInt8} {a : Nat} {L : Lay} {x y e p : Nat} (h : take s L.t.size (take s L.z.size (take s L.b.size (take s L.a.size ⟨x, 0, y⟩).2).2).2 = ([], ⟨e, 1, p⟩)) : after s a L ⟨x, 0, y⟩ = ⟨e, 1, p⟩ := by
  unfold after; simp only [h]; split
  · rfl
  · rfl
theorem plain_left {s : List UInt8} {a op b : Nat} {w : Bool} {L : Lay} (hb : b ≤ s.length) : Left s (after s a L ⟨b, 0, 0⟩) (plain s a op w b L) ∧ ∀ i q, plain s a op w b L = .ok (i, q) → i = made s a op w L ⟨b, 0, 0⟩ := by
  by_cases h1 : b + L.a.size ≤ s.length
  · by_cases h2 : b + L.a.size + L.b.size ≤ s.length
    · by_cases h3 : b + L.a.size + L.b.size + L.z.size ≤ s.length
      · by_cases h4 : b + L.a.size + L.b.size + L.z.size + L.t.size ≤ s.length
        · unfold after made plain
          simp only [take_ok h1, take_ok h2, take_ok h3, take_ok h4]
          have hlen : ¬ s.length < b + (L.a.size + L.b.size + L.z.size + L.t.size) := by omega
          simp only [if_neg hlen]
          by_cases hc : (holds L.a (rd L.a (bs s b L.a.size)) && holds L.b (rd L.b (bs s (b + L.a.size) L.b.size)) && holds L.z (rd L.z (bs s (b + L.a.size + L.b.size) L.z.size))) = true
          · simp only [if_pos hc]
            refine ⟨?_, fun i q h => ?_⟩
            · show (⟨_, 0, 0⟩ : St) = ⟨_, 0, 0⟩
              congr 1; omega
            · cases h; rfl
          · simp only [if_neg hc]
            refine ⟨⟨rfl, rfl, by omega, h4⟩, fun i q h => by cases h⟩
        · have : after s a L ⟨b, 0, 0⟩ = ⟨b + L.a.size + L.b.size + L.z.size, 1, s.length⟩ := after_no (by simp only [take_ok h1, take_ok h2, take_ok h3]; exact take_no (by omega))
          rw [this]; unfold plain; rw [if_pos (by omega)]
          exact ⟨⟨rfl, rfl, by omega, h3⟩, fun i q h => by cases h⟩
      · have : after s a L ⟨b, 0, 0⟩ = ⟨b + L.a.size + L.b.size, 1, s.length⟩ := after_no (by simp only [take_ok h1, take_ok h2]; rw [take_no (k := L.z.size) (by omega), take_bad (by simp)])
        rw [this]; unfold plain; rw [if_pos (by omega)]
        exact ⟨⟨rfl, rfl, by omega, h2⟩, fun i q h => by cases h⟩
    · have : after s a L ⟨b, 0, 0⟩ = ⟨b + L.a.size, 1, s.length⟩ := after_no (by simp only [take_ok h1]; rw [take_no (k := L.b.size) (by omega), take_bad (k := L.z.size) (by simp), take_bad (by simp)])
      rw [this]; unfold plain; rw [if_pos (by omega)]
      exact ⟨⟨rfl, rfl, by omega, h1⟩, fun i q h => by cases h⟩
  · have : after s a L ⟨b, 0, 0⟩ = ⟨b, 1, s.length⟩ := after_no (by rw [take_no (k := L.a.size) (by omega), take_bad (k := L.b.size) (by simp), take_bad (k := L.z.size) (by simp), take_bad (by simp)])
    rw [this]; unfold plain; rw [if_pos (by omega)]
    exact ⟨⟨rfl, rfl, by omega, hb⟩, fun i q h => by cases h⟩
theorem num_snoc (l : List UInt8) (b : UInt8) : num (l ++ [b]) = num l * 256 + b.toNat := by simp [num]
theorem num_take (l : List UInt8) (k : Nat) (hk : k < l.length) : num (l.take (k + 1)) = num (l.take k) * 256 + (l.getD k 0).toNat := by
  rw [List.take_add_one, List.getElem?_eq_getElem hk]; simp only [Option.toList_some, num_snoc, List.getD, List.getElem?_eq_getElem hk, Option.getD_some]
theorem num_lt (l : List UInt8) : num l < 256 ^ l.length := by
  suffices ∀ n, ∀ l : List UInt8, l.length = n → num l < 256 ^ n from this _ l rfl
  intro n
  induction n with
  | zero => intro l hl; rw [List.length_eq_zero_iff.1 hl]; simp [num]
  | succ n ih =>
    intro l hl
    have h1 := num_take l n (by omega)
    rw [List.take_of_length_le (by omega)] at h1
    have h2 := ih (l.take n) (by simp; omega)
    have h3 := (l.getD n 0).toNat_lt
    rw [h1, Nat.pow_succ]; omega
theorem take_len (s : List UInt8) (n : Nat) (st : St) : (take s n st).1.length ≤ n := by
  unfold take; split
  · split
    · simp
    · simp; omega
  · simp
theorem num_le {l : List UInt8} {n : Nat} (h : l.length ≤ n) : num l < 256 ^ n := Nat.lt_of_lt_of_le (num_lt l) (Nat.pow_le_pow_right (by omega) h)
theorem bs_len (s : List UInt8) (p n : Nat) : (bs s p n).length ≤ n := by unfold bs; exact List.length_take_le _ _
theorem sgn_bound {n x : Nat} (h : x < 256 ^ n) : -((256 ^ n : Nat) : Int) ≤ 2 * sgn n x ∧ 2 * sgn n x < ((256 ^ n : Nat) : Int) := by
  unfold sgn; split <;> omega
theorem w4_bound (s : List UInt8) (p : Nat) : -2147483648 ≤ w4 s p ∧ w4 s p ≤ 2147483647 := by
  have := sgn_bound (num_le (bs_len s p 4))
  have e : (256 ^ 4 : Nat) = 4294967296 := by decide
  rw [e] at this
  unfold w4; omega
theorem rd_bound (f : F) (l : List UInt8) (hl : l.length ≤ f.size) (hf : f.size ≤ 4) : -4294967296 ≤ rd f l ∧ rd f l ≤ 4294967295 := by
  have h1 := num_le hl
  have h2 : (256 ^ f.size : Nat) ≤ 256 ^ 4 := Nat.pow_le_pow_right (by omega) hf
  have e : (256 ^ 4 : Nat) = 4294967296 := by decide
  rw [e] at h2
  have := sgn_bound h1
  unfold rd; split <;> omega
end M
end Go.Proofs.YtddhlphbbiihjaaGreatDoor.Dc
