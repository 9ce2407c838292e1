/-
  Maps of frames that are written: plain mathematics, of lists of bytes. Nothing of the program is named here.
-/
import Derived.Test.YtbgpkkbejbidlacMf
namespace Go.Proofs.Ytbgpkkbejbidlac
namespace M
/-- The n lowest bytes of a number, the highest first. -/
def big (x : Nat) : Nat → List UInt8
  | 0 => []
  | n + 1 => big (x / 256) n ++ [UInt8.ofNat (x % 256)]
theorem big_len (x n : Nat) : (big x n).length = n := by
  induction n generalizing x with
  | zero => rfl
  | succ n ih => simp [big, ih]
theorem big_front (x n : Nat) : big x (n + 1) = UInt8.ofNat (x / 256 ^ n % 256) :: big x n := by
  induction n generalizing x with
  | zero => simp [big]
  | succ n ih =>
    show big (x / 256) (n + 1) ++ [UInt8.ofNat (x % 256)] = _
    rw [ih (x / 256), Nat.div_div_eq_div_mul, ← Nat.pow_succ']
    rfl
theorem big_at (x n j : Nat) (hj : j < n) : (big x n).take (j + 1) = (big x n).take j ++ [UInt8.ofNat (x / 256 ^ (n - 1 - j) % 256)] := by
  induction n generalizing j with
  | zero => omega
  | succ n ih =>
    rw [big_front]
    cases j with
    | zero => simp
    | succ j => rw [List.take_succ_cons, List.take_succ_cons, ih j (by omega), List.cons_append, show n + 1 - 1 - (j + 1) = n - 1 - j by omega]
theorem big_num (l : List UInt8) : big (num l) l.length = l := by
  suffices h : ∀ n (l : List UInt8), l.length = n → big (num l) n = l from h _ l rfl
  intro n
  induction n with
  | zero => intro l h; rw [List.length_eq_zero_iff.1 h]; rfl
  | succ n ih =>
    intro l h
    have hne : l ≠ [] := by rintro rfl; simp at h
    obtain ⟨d, b, rfl⟩ : ∃ d b, l = d ++ [b] := ⟨l.dropLast, l.getLast hne, (List.dropLast_concat_getLast hne).symm⟩
    have hb : b.toNat < 256 := b.toNat_lt
    rw [num_snoc]
    simp only [big]
    rw [show (num d * 256 + b.toNat) / 256 = num d by omega, show (num d * 256 + b.toNat) % 256 = b.toNat by omega, ih d (by simpa using h)]
    simp
/-- Does an index lead to a class with a name? -/
def cok (P : List K) (i : Int) : Bool := decide (tag P i = 7) && decide (tag P ((kAt P i).a : Int) = 1)
/-- The first of the indexes below m that leads to the class of a name. -/
def idx (P : List K) (name : List UInt8) : Nat → Option Nat
  | 0 => none
  | m + 1 => match idx P name m with
    | some k => some k
    | none => if cok P (m : Int) = true ∧ cls P (m : Int) = name then some m else none
def lim (P : List K) : Nat := min P.length 65536
/-- A type as bytes. -/
def vt (P : List K) (t : T) : Except Nat (List UInt8) :=
  if t.tag = 7 then (match idx P t.name (lim P) with | some k => .ok (UInt8.ofNat t.tag :: big k 2) | none => .error 7)
  else if t.tag = 8 then (if 0 ≤ t.at_ ∧ t.at_ ≤ 65535 then .ok (UInt8.ofNat t.tag :: big t.at_.toNat 2) else .error 17)
  else if 8 < t.tag then .error 17 else .ok [UInt8.ofNat t.tag]
/-- Types, one behind the other. -/
def vts (P : List K) : List T → Except Nat (List UInt8)
  | [] => .ok []
  | t :: l => match vt P t with
    | .error e => .error e
    | .ok b => match vts P l with
      | .error e => .error e
      | .ok c => .ok (b ++ c)
theorem idx_lt {P : List K} {name : List UInt8} : ∀ {m k : Nat}, idx P name m = some k → k < m
  | 0, _, h => by cases h
  | m + 1, k, h => by
    rw [idx] at h
    cases hi : idx P name m with
    | some j => rw [hi] at h; cases h; have := idx_lt hi; omega
    | none =>
      rw [hi] at h
      simp only at h
      split at h
      · cases h; omega
      · cases h
/-- Where writing of types stands. -/
def Ws (P : List K) (L : List T) (l0 : List UInt8) (k : Nat) (l : List UInt8) : Prop :=
  (match vts P L with | .error e => Except.error e | .ok b => .ok (l0 ++ b)) = (match vts P (L.drop k) with | .error e => Except.error e | .ok b => .ok (l ++ b))
theorem Ws.zero (P : List K) (L : List T) (l0 : List UInt8) : Ws P L l0 0 l0 := by unfold Ws; simp
theorem Ws.step {P : List K} {L : List T} {l0 l b : List UInt8} {k : Nat} {t : T} (h : Ws P L l0 k l) (hd : L.drop k = t :: L.drop (k + 1)) (hb : vt P t = .ok b) : Ws P L l0 (k + 1) (l ++ b) := by
  unfold Ws at h ⊢
  rw [h, hd, vts, hb]
  simp only
  cases vts P (L.drop (k + 1)) with
  | error e => rfl
  | ok c => simp
theorem Ws.stop {P : List K} {L : List T} {l0 l : List UInt8} {k e : Nat} {t : T} (h : Ws P L l0 k l) (hd : L.drop k = t :: L.drop (k + 1)) (hb : vt P t = .error e) : vts P L = .error e := by
  unfold Ws at h
  rw [hd, vts, hb] at h
  simp only at h
  cases hv : vts P L with
  | error e' => rw [hv] at h; simp at h; rw [h]
  | ok c => rw [hv] at h; simp at h
theorem Ws.done {P : List K} {L : List T} {l0 l : List UInt8} (h : Ws P L l0 L.length l) : ∃ b, vts P L = .ok b ∧ l = l0 ++ b := by
  unfold Ws at h
  rw [List.drop_length, vts] at h
  simp only [List.append_nil] at h
  cases hv : vts P L with
  | error e' => rw [hv] at h; simp at h
  | ok c => rw [hv] at h; simp at h; exact ⟨c, rfl, h.symm⟩
end M
/-- Are types the same? -/
def T.eqb (a b : T) : Bool := decide (a.tag = b.tag) && decide (a.name = b.name) && decide (a.at_ = b.at_)
theorem T.eqb_iff (a b : T) : a.eqb b = true ↔ a = b := by
  cases a; cases b
  simp [T.eqb, and_assoc]
namespace M
/-- With how many types both lists begin alike. -/
def sh : List T → List T → Nat
  | a :: l, b :: m => if a.eqb b = true then sh l m + 1 else 0
  | _, _ => 0
theorem sh_le : ∀ (a b : List T), sh a b ≤ a.length ∧ sh a b ≤ b.length
  | [], b => by simp [sh]
  | a :: l, [] => by simp [sh]
  | a :: l, b :: m => by
    have := sh_le l m
    rw [sh]; split
    · simp only [List.length_cons]; omega
    · simp
theorem sh_at : ∀ {a b : List T} {k : Nat}, k < a.length → k < b.length → (∀ j, j < k → a.getD j ⟨0, [], 0⟩ = b.getD j ⟨0, [], 0⟩) → a.getD k ⟨0, [], 0⟩ ≠ b.getD k ⟨0, [], 0⟩ → sh a b = k
  | [], _, _, h, _, _, _ => by simp at h
  | _ :: _, [], _, _, h, _, _ => by simp at h
  | x :: l, y :: m, 0, _, _, _, hne => by
    rw [sh, if_neg]
    intro e
    exact hne (by simpa using (T.eqb_iff x y).1 e)
  | x :: l, y :: m, k + 1, h1, h2, he, hne => by
    have h0 := he 0 (by omega)
    rw [sh, if_pos ((T.eqb_iff x y).2 (by simpa using h0)), sh_at (k := k) (by simpa using h1) (by simpa using h2) (fun j hj => by have := he (j + 1) (by omega); simpa using this) (by simpa using hne)]
theorem sh_all : ∀ {a b : List T} {n : Nat}, n ≤ a.length → n ≤ b.length → (n = a.length ∨ n = b.length) → (∀ j, j < n → a.getD j ⟨0, [], 0⟩ = b.getD j ⟨0, [], 0⟩) → sh a b = n
  | [], b, n, h1, _, _, _ => by simp at h1; subst h1; simp [sh]
  | x :: l, [], n, _, h2, _, _ => by simp at h2; subst h2; simp [sh]
  | x :: l, y :: m, 0, _, _, h3, _ => by simp at h3
  | x :: l, y :: m, n + 1, h1, h2, h3, he => by
    have h0 := he 0 (by omega)
    rw [sh, if_pos ((T.eqb_iff x y).2 (by simpa using h0)), sh_all (n := n) (by simpa using h1) (by simpa using h2) (by simpa using h3) (fun j hj => by have := he (j + 1) (by omega); simpa using this)]
/-- The tag of a frame. -/
def form (h less more d : Nat) : Nat :=
  if less = 0 ∧ more = 0 ∧ h = 0 ∧ d < 64 then d
  else if less = 0 ∧ more = 0 ∧ h = 1 ∧ d < 64 then 64 + d
  else if less = 0 ∧ more = 0 ∧ h = 1 then 247
  else if h = 0 ∧ more = 0 ∧ less ≤ 3 then 251 - less
  else if h = 0 ∧ less = 0 ∧ more ≤ 3 then 251 + more
  else 255
theorem form_lt (h less more d : Nat) : form h less more d < 256 := by
  unfold form; repeat' split
  all_goals omega
/-- A frame as bytes, by that ahead: the tag, how many locals are kept. -/
def ftag (f a : Fm) : Nat := form f.stack.length (a.locals.length - sh f.locals a.locals) (f.locals.length - sh f.locals a.locals) (f.at_ - a.at_ - 1).toNat
def frw (P : List K) (f a : Fm) : Except Nat (List UInt8) :=
  if f.at_ ≤ a.at_ ∨ 65535 < f.at_ ∨ 65535 < f.locals.length ∨ 65535 < f.stack.length then .error 17
  else match vts P (f.locals.drop (if ftag f a = 255 then 0 else sh f.locals a.locals)) with
    | .error e => .error e
    | .ok b => match vts P f.stack with
      | .error e => .error e
      | .ok c => .ok (UInt8.ofNat (ftag f a) :: (if 247 ≤ ftag f a then big (f.at_ - a.at_ - 1).toNat 2 else []) ++ (if ftag f a = 255 then big f.locals.length 2 else []) ++ b ++ (if ftag f a = 255 then big f.stack.length 2 else []) ++ c)
/-- All frames, from number k on. -/
def wrs (P : List K) : List Fm → Fm → Nat → Except (Nat × Nat) (List UInt8)
  | [], _, _ => .ok []
  | f :: l, a, k => match frw P f a with
    | .error e => .error (e, k)
    | .ok b => match wrs P l f (k + 1) with
      | .error e => .error e
      | .ok c => .ok (b ++ c)
def write (P : List K) (F : List T) (L : List Fm) : Except (Nat × Nat) (List UInt8) :=
  if 65535 < L.length then .error (12, 0) else match wrs P L ⟨-1, F, []⟩ 0 with
    | .error e => .error e
    | .ok b => .ok (big L.length 2 ++ b)
end M
end Go.Proofs.Ytbgpkkbejbidlac
