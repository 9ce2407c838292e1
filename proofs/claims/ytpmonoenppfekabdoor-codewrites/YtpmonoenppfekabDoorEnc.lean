/-
  Instructions as bytes: plain mathematics.
-/
import Derived.Test.YtpmonoenppfekabDoorModelB
import Derived.RowKit
namespace Go.Proofs.YtpmonoenppfekabDoor
open Go.RowKit
/-- An instruction as it may be handed in. -/
structure G where
  at_ : Int
  op : Nat
  wide : Bool
  a : Int
  b : Int
  low : Int
  keys : List Int
  tgts : List Int
def I.g (i : I) : G := ⟨(i.at_ : Int), i.op, i.wide, i.a, i.b, i.low, i.keys, i.tgts⟩
namespace M
/-- A number as n bytes, the highest first. -/
def big (x : Nat) : Nat → List UInt8
  | 0 => []
  | n + 1 => big (x / 256) n ++ [UInt8.ofNat (x % 256)]
theorem big_len (x n : Nat) : (big x n).length = n := by
  induction n generalizing x with
  | zero => rfl
  | succ n ih => simp [big, ih]
theorem big_front (x n : Nat) : big x (n + 1) = UInt8.ofNat (x / 256 ^ n % 256) :: big x n := by
  induction n generalizing x with
  | zero => simp [big]
  | succ n ih =>
    show big (x / 256) (n + 1) ++ [UInt8.ofNat (x % 256)] = _
    rw [ih (x / 256), Nat.div_div_eq_div_mul, ← Nat.pow_succ']
    rfl
theorem big_at (x n j : Nat) (hj : j < n) : (big x n).take (j + 1) = (big x n).take j ++ [UInt8.ofNat (x / 256 ^ (n - 1 - j) % 256)] := by
  induction n generalizing j with
  | zero => omega
  | succ n ih =>
    rw [big_front]
    cases j with
    | zero => simp
    | succ j => rw [List.take_succ_cons, List.take_succ_cons, ih j (by omega), List.cons_append, show n + 1 - 1 - (j + 1) = n - 1 - j by omega]
theorem big_mod (x y n : Nat) : big (x + 256 ^ n * y) n = big x n := by
  induction n generalizing x y with
  | zero => rfl
  | succ n ih =>
    simp only [big]
    have h1 : (x + 256 ^ (n + 1) * y) / 256 = x / 256 + 256 ^ n * y := by
      rw [Nat.pow_succ, Nat.mul_comm (256 ^ n) 256, Nat.mul_assoc]; omega
    have h2 : (x + 256 ^ (n + 1) * y) % 256 = x % 256 := by
      rw [Nat.pow_succ, Nat.mul_comm (256 ^ n) 256, Nat.mul_assoc]; omega
    rw [h1, h2, ih]
theorem big_num (l : List UInt8) : big (num l) l.length = l := by
  suffices h : ∀ n (l : List UInt8), l.length = n → big (num l) n = l from h _ l rfl
  intro n
  induction n with
  | zero => intro l h; rw [List.length_eq_zero_iff.1 h]; rfl
  | succ n ih =>
    intro l h
    have hne : l ≠ [] := by rintro rfl; simp at h
    obtain ⟨d, b, rfl⟩ : ∃ d b, l = d ++ [b] := ⟨l.dropLast, l.getLast hne, (List.dropLast_concat_getLast hne).symm⟩
    have hb : b.toNat < 256 := b.toNat_lt
    rw [num_snoc]
    simp only [big]
    rw [show (num d * 256 + b.toNat) / 256 = num d by omega, show (num d * 256 + b.toNat) % 256 = b.toNat by omega, ih d (by simpa using h)]
    simp
/-- A number of 64 bits, its sign let go. -/
def u64 (x : Int) : Nat := (x % 18446744073709551616).toNat
theorem u64_lt (x : Int) : u64 x < 2 ^ 64 := by unfold u64; omega
theorem u64_nat {x : Nat} (h : x < 2 ^ 64) : u64 (x : Int) = x := by unfold u64; omega
theorem u64_wrap (x : Int) : u64 (wrap64 x) = u64 x := by unfold u64 wrap64; omega
def nb (f : F) (x : Int) : List UInt8 := big (u64 x) f.size
theorem nb_len (f : F) (x : Int) : (nb f x).length = f.size := big_len _ _
theorem big_sgn {n : Nat} (hn : n ≤ 4) (l : List UInt8) (hl : l.length = n) : big (u64 (sgn n (num l))) n = l := by
  have hx := num_lt l
  rw [hl] at hx
  have h0 : big (num l) n = l := by rw [← hl]; exact big_num l
  have h4 : (256 ^ n : Nat) ≤ 256 ^ 4 := Nat.pow_le_pow_right (by omega) hn
  unfold sgn
  split
  · rw [u64_nat (by omega)]; exact h0
  · obtain ⟨P, hP⟩ : ∃ P : Nat, P = 256 ^ n := ⟨_, rfl⟩
    obtain ⟨q, hq⟩ : ∃ q : Nat, 18446744073709551616 = 256 ^ n * q := by
      refine ⟨256 ^ (8 - n), ?_⟩
      rw [← Nat.pow_add, show n + (8 - n) = 8 by omega]
    have hq1 : 0 < q := by rcases Nat.eq_zero_or_pos q with h | h; · rw [h] at hq; omega
                           · exact h
    have : u64 ((num l : Int) - ((256 ^ n : Nat) : Int)) = num l + 256 ^ n * (q - 1) := by
      have e : (256 ^ n * (q - 1) : Nat) = 18446744073709551616 - 256 ^ n := by rw [Nat.mul_sub, ← hq, Nat.mul_one]
      rw [e]
      clear e
      rw [← hP] at hx h4 hq ⊢
      unfold u64
      omega
    rw [this, big_mod]; exact h0
theorem nb_rd {f : F} (hf : f.size ≤ 4) (l : List UInt8) (hl : l.length = f.size) : nb f (rd f l) = l := by
  unfold nb rd
  split
  · exact big_sgn hf l hl
  · have hx := num_lt l
    have h4 : (256 ^ f.size : Nat) ≤ 256 ^ 4 := Nat.pow_le_pow_right (by omega) hf
    rw [hl] at hx
    rw [u64_nat (by omega), ← hl]; exact big_num l
def hasTgts (g : G) (f : F) : Bool := g.tgts.all fun t => holds f (wrap64 (t - g.at_))
def hasTable (g : G) : Bool := decide (2 ≤ g.tgts.length) && (holds fw g.low && holds fw (g.low + ((g.tgts.length : Int) - 2)))
def keyOk (ks : List Int) (k : Nat) : Bool := holds fw (ks.getD k 0) && (decide (k = 0) || decide (ks.getD (k - 1) 0 < ks.getD k 0))
def hasKeys (g : G) : Bool := decide (g.tgts.length = g.keys.length + 1) && (List.range g.keys.length).all (keyOk g.keys)
def hasOps (g : G) : Bool :=
  if kindW g.op g.wide = 15 then hasTable g && hasTgts g fw
  else if kindW g.op g.wide = 16 then hasKeys g && hasTgts g fw
  else holds (layOf (kindW g.op g.wide)).a g.a && holds (layOf (kindW g.op g.wide)).b g.b && decide (g.tgts.length = if (layOf (kindW g.op g.wide)).t.size = 0 then 0 else 1) && hasTgts g (layOf (kindW g.op g.wide)).t
/-- What is wrong with an instruction that stands at a place. -/
def wrong (g : G) (p : Nat) : Nat := if g.at_ ≠ (p : Int) then 16 else if kindW g.op g.wide = 0 then 14 else if hasOps g then 0 else 15
def plainB (g : G) (L : Lay) : List UInt8 := nb L.a g.a ++ nb L.b g.b ++ nb L.z 0 ++ g.tgts.flatMap fun t => nb L.t (t - g.at_)
def restT (g : G) (n : Nat) : List UInt8 := (List.range n).flatMap fun k => nb fw (g.tgts.getD (k + 1) 0 - g.at_)
def restK (g : G) (n : Nat) : List UInt8 := (List.range n).flatMap fun k => nb fw (g.keys.getD k 0) ++ nb fw (g.tgts.getD (k + 1) 0 - g.at_)
/-- A switch behind its number, which ends at p. -/
def swB (g : G) (p : Nat) (byKey : Bool) : List UInt8 :=
  List.replicate (padN p) 0 ++ nb fw (g.tgts.getD 0 0 - g.at_) ++ (if byKey then nb fw ((g.tgts.length : Int) - 1) ++ restK g (g.tgts.length - 1) else nb fw g.low ++ nb fw (g.low + ((g.tgts.length : Int) - 1) - 1) ++ restT g (g.tgts.length - 1))
/-- An instruction as bytes, at a place. -/
def enc1 (g : G) (p : Nat) : List UInt8 :=
  (if g.wide then [196] else []) ++ UInt8.ofNat g.op :: (if kindW g.op g.wide = 15 then swB g (p + (if g.wide then 2 else 1)) false else if kindW g.op g.wide = 16 then swB g (p + (if g.wide then 2 else 1)) true else plainB g (layOf (kindW g.op g.wide)))
def encGo : List G → Nat → List UInt8 → Except Er (List UInt8)
  | [], _, b => .ok b
  | g :: l, k, b => if wrong g b.length ≠ 0 then .error (wrong g b.length, k) else if 65535 < (b ++ enc1 g b.length).length then .error (12, k) else encGo l (k + 1) (b ++ enc1 g b.length)
def gBegins (l : List G) (t : Int) : Bool := l.any fun g => decide (g.at_ = t)
def gFirst (l : List G) : Option Nat := l.findIdx? fun g => g.tgts.any fun t => !gBegins l t
/-- What Encode answers. -/
def encode (l : List G) : Except Er (List UInt8) :=
  if l = [] then .error (12, 0)
  else match encGo l 0 [] with
    | .error e => .error e
    | .ok b => match gFirst l with
      | none => .ok b
      | some k => .error (16, k)
theorem gBegins_map (l : List I) (t : Int) : gBegins (l.map I.g) t = begins l t := by unfold gBegins begins; rw [List.any_map]; rfl
theorem gFirst_map (l : List I) : gFirst (l.map I.g) = firstLost l := by
  unfold gFirst firstLost
  rw [List.findIdx?_map]
  congr 1
  funext i
  show (i.tgts.any fun t => !gBegins (l.map I.g) t) = lost l i
  unfold lost
  congr 1
  funext t
  rw [gBegins_map]
theorem kindW_wide {op : Nat} (h : kindW op true ≠ 0) : kindW op true ≠ 15 ∧ kindW op true ≠ 16 := by
  unfold kindW at *
  simp only [if_true] at *
  split
  · omega
  · split
    · omega
    · simp_all
end M
end Go.Proofs.YtpmonoenppfekabDoor
