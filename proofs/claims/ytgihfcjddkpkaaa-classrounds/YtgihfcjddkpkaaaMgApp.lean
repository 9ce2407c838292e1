/-
  Maps of frames that are written: plain mathematics, of lists of bytes. Nothing of the program is named here.
  wire.Append.
-/
import Derived.Test.YtgihfcjddkpkaaaMf
import Derived.Test.YtgihfcjddkpkaaaWire
import Derived.Maps.OwnSet
namespace Go.Proofs.Ytgihfcjddkpkaaa
namespace M
/-- The n lowest bytes of a number, the highest first. -/
def big (x : Nat) : Nat → List UInt8
  | 0 => []
  | n + 1 => big (x / 256) n ++ [UInt8.ofNat (x % 256)]
theorem big_len (x n : Nat) : (big x n).length = n := by
  induction n generalizing x with
  | zero => rfl
  | succ n ih => simp [big, ih]
theorem big_front (x n : Nat) : big x (n + 1) = UInt8.ofNat (x / 256 ^ n % 256) :: big x n := by
  induction n generalizing x with
  | zero => simp [big]
  | succ n ih =>
    show big (x / 256) (n + 1) ++ [UInt8.ofNat (x % 256)] = _
    rw [ih (x / 256), Nat.div_div_eq_div_mul, ← Nat.pow_succ']
    rfl
theorem big_at (x n j : Nat) (hj : j < n) : (big x n).take (j + 1) = (big x n).take j ++ [UInt8.ofNat (x / 256 ^ (n - 1 - j) % 256)] := by
  induction n generalizing j with
  | zero => omega
  | succ n ih =>
    rw [big_front]
    cases j with
    | zero => simp
    | succ j => rw [List.take_succ_cons, List.take_succ_cons, ih j (by omega), List.cons_append, show n + 1 - 1 - (j + 1) = n - 1 - j by omega]
theorem big_num (l : List UInt8) : big (num l) l.length = l := by
  suffices h : ∀ n (l : List UInt8), l.length = n → big (num l) n = l from h _ l rfl
  intro n
  induction n with
  | zero => intro l h; rw [List.length_eq_zero_iff.1 h]; rfl
  | succ n ih =>
    intro l h
    have hne : l ≠ [] := by rintro rfl; simp at h
    obtain ⟨d, b, rfl⟩ : ∃ d b, l = d ++ [b] := ⟨l.dropLast, l.getLast hne, (List.dropLast_concat_getLast hne).symm⟩
    have hb : b.toNat < 256 := b.toNat_lt
    rw [num_snoc]
    simp only [big]
    rw [show (num d * 256 + b.toNat) / 256 = num d by omega, show (num d * 256 + b.toNat) % 256 = b.toNat by omega, ih d (by simpa using h)]
    simp
/-- Does an index lead to a class with a name? -/
def cok (P : List K) (i : Int) : Bool := decide (tag P i = 7) && decide (tag P ((kAt P i).a : Int) = 1)
/-- The first of the indexes below m that leads to the class of a name. -/
def idx (P : List K) (name : List UInt8) : Nat → Option Nat
  | 0 => none
  | m + 1 => match idx P name m with
    | some k => some k
    | none => if cok P (m : Int) = true ∧ cls P (m : Int) = name then some m else none
def lim (P : List K) : Nat := min P.length 65536
/-- A type as bytes. -/
def vt (P : List K) (t : T) : Except Nat (List UInt8) :=
  if t.tag = 7 then (match idx P t.name (lim P) with | some k => .ok (UInt8.ofNat t.tag :: big k 2) | none => .error 7)
  else if t.tag = 8 then (if 0 ≤ t.at_ ∧ t.at_ ≤ 65535 then .ok (UInt8.ofNat t.tag :: big t.at_.toNat 2) else .error 17)
  else if 8 < t.tag then .error 17 else .ok [UInt8.ofNat t.tag]
/-- Types, one behind the other. -/
def vts (P : List K) : List T → Except Nat (List UInt8)
  | [] => .ok []
  | t :: l => match vt P t with
    | .error e => .error e
    | .ok b => match vts P l with
      | .error e => .error e
      | .ok c => .ok (b ++ c)
theorem idx_lt {P : List K} {name : List UInt8} : ∀ {m k : Nat}, idx P name m = some k → k < m
  | 0, _, h => by cases h
  | m + 1, k, h => by
    rw [idx] at h
    cases hi : idx P name m with
    | some j => rw [hi] at h; cases h; have := idx_lt hi; omega
    | none =>
      rw [hi] at h
      simp only at h
      split at h
      · cases h; omega
      · cases h
/-- Where writing of types stands. -/
def Ws (P : List K) (L : List T) (l0 : List UInt8) (k : Nat) (l : List UInt8) : Prop :=
  (match vts P L with | .error e => Except.error e | .ok b => .ok (l0 ++ b)) = (match vts P (L.drop k) with | .error e => Except.error e | .ok b => .ok (l ++ b))
theorem Ws.zero (P : List K) (L : List T) (l0 : List UInt8) : Ws P L l0 0 l0 := by unfold Ws; simp
theorem Ws.step {P : List K} {L : List T} {l0 l b : List UInt8} {k : Nat} {t : T} (h : Ws P L l0 k l) (hd : L.drop k = t :: L.drop (k + 1)) (hb : vt P t = .ok b) : Ws P L l0 (k + 1) (l ++ b) := by
  unfold Ws at h ⊢
  rw [h, hd, vts, hb]
  simp only
  cases vts P (L.drop (k + 1)) with
  | error e => rfl
  | ok c => simp
theorem Ws.stop {P : List K} {L : List T} {l0 l : List UInt8} {k e : Nat} {t : T} (h : Ws P L l0 k l) (hd : L.drop k = t :: L.drop (k + 1)) (hb : vt P t = .error e) : vts P L = .error e := by
  unfold Ws at h
  rw [hd, vts, hb] at h
  simp only at h
  cases hv : vts P L with
  | error e' => rw [hv] at h; simp at h; rw [h]
  | ok c => rw [hv] at h; simp at h
theorem Ws.done {P : List K} {L : List T} {l0 l : List UInt8} (h : Ws P L l0 L.length l) : ∃ b, vts P L = .ok b ∧ l = l0 ++ b := by
  unfold Ws at h
  rw [List.drop_length, vts] at h
  simp only [List.append_nil] at h
  cases hv : vts P L with
  | error e' => rw [hv] at h; simp at h
  | ok c => rw [hv] at h; simp at h; exact ⟨c, rfl, h.symm⟩
end M
/-- Are types the same? -/
def T.eqb (a b : T) : Bool := decide (a.tag = b.tag) && decide (a.name = b.name) && decide (a.at_ = b.at_)
theorem T.eqb_iff (a b : T) : a.eqb b = true ↔ a = b := by
  cases a; cases b
  simp [T.eqb, and_assoc]
namespace M
/-- With how many types both lists begin alike. -/
def sh : List T → List T → Nat
  | a :: l, b :: m => if a.eqb b = true then sh l m + 1 else 0
  | _, _ => 0
theorem sh_le : ∀ (a b : List T), sh a b ≤ a.length ∧ sh a b ≤ b.length
  | [], b => by simp [sh]
  | a :: l, [] => by simp [sh]
  | a :: l, b :: m => by
    have := sh_le l m
    rw [sh]; split
    · simp only [List.length_cons]; omega
    · simp
theorem sh_at : ∀ {a b : List T} {k : Nat}, k < a.length → k < b.length → (∀ j, j < k → a.getD j ⟨0, [], 0⟩ = b.getD j ⟨0, [], 0⟩) → a.getD k ⟨0, [], 0⟩ ≠ b.getD k ⟨0, [], 0⟩ → sh a b = k
  | [], _, _, h, _, _, _ => by simp at h
  | _ :: _, [], _, _, h, _, _ => by simp at h
  | x :: l, y :: m, 0, _, _, _, hne => by
    rw [sh, if_neg]
    intro e
    exact hne (by simpa using (T.eqb_iff x y).1 e)
  | x :: l, y :: m, k + 1, h1, h2, he, hne => by
    have h0 := he 0 (by omega)
    rw [sh, if_pos ((T.eqb_iff x y).2 (by simpa using h0)), sh_at (k := k) (by simpa using h1) (by simpa using h2) (fun j hj => by have := he (j + 1) (by omega); simpa using this) (by simpa using hne)]
theorem sh_all : ∀ {a b : List T} {n : Nat}, n ≤ a.length → n ≤ b.length → (n = a.length ∨ n = b.length) → (∀ j, j < n → a.getD j ⟨0, [], 0⟩ = b.getD j ⟨0, [], 0⟩) → sh a b = n
  | [], b, n, h1, _, _, _ => by simp at h1; subst h1; simp [sh]
  | x :: l, [], n, _, h2, _, _ => by simp at h2; subst h2; simp [sh]
  | x :: l, y :: m, 0, _, _, h3, _ => by simp at h3
  | x :: l, y :: m, n + 1, h1, h2, h3, he => by
    have h0 := he 0 (by omega)
    rw [sh, if_pos ((T.eqb_iff x y).2 (by simpa using h0)), sh_all (n := n) (by simpa using h1) (by simpa using h2) (by simpa using h3) (fun j hj => by have := he (j + 1) (by omega); simpa using this)]
/-- The tag of a frame. -/
def form (h less more d : Nat) : Nat :=
  if less = 0 ∧ more = 0 ∧ h = 0 ∧ d < 64 then d
  else if less = 0 ∧ more = 0 ∧ h = 1 ∧ d < 64 then 64 + d
  else if less = 0 ∧ more = 0 ∧ h = 1 then 247
  else if h = 0 ∧ more = 0 ∧ less ≤ 3 then 251 - less
  else if h = 0 ∧ less = 0 ∧ more ≤ 3 then 251 + more
  else 255
theorem form_lt (h less more d : Nat) : form h less more d < 256 := by
  unfold form; repeat' split
  all_goals omega
/-- A frame as bytes, by that ahead: the tag, how many locals are kept. -/
def ftag (f a : Fm) : Nat := form f.stack.length (a.locals.length - sh f.locals a.locals) (f.locals.length - sh f.locals a.locals) (f.at_ - a.at_ - 1).toNat
def frw (P : List K) (f a : Fm) : Except Nat (List UInt8) :=
  if f.at_ ≤ a.at_ ∨ 65535 < f.at_ ∨ 65535 < f.locals.length ∨ 65535 < f.stack.length then .error 17
  else match vts P (f.locals.drop (if ftag f a = 255 then 0 else sh f.locals a.locals)) with
    | .error e => .error e
    | .ok b => match vts P f.stack with
      | .error e => .error e
      | .ok c => .ok (UInt8.ofNat (ftag f a) :: (if 247 ≤ ftag f a then big (f.at_ - a.at_ - 1).toNat 2 else []) ++ (if ftag f a = 255 then big f.locals.length 2 else []) ++ b ++ (if ftag f a = 255 then big f.stack.length 2 else []) ++ c)
/-- All frames, from number k on. -/
def wrs (P : List K) : List Fm → Fm → Nat → Except (Nat × Nat) (List UInt8)
  | [], _, _ => .ok []
  | f :: l, a, k => match frw P f a with
    | .error e => .error (e, k)
    | .ok b => match wrs P l f (k + 1) with
      | .error e => .error e
      | .ok c => .ok (b ++ c)
def write (P : List K) (F : List T) (L : List Fm) : Except (Nat × Nat) (List UInt8) :=
  if 65535 < L.length then .error (12, 0) else match wrs P L ⟨-1, F, []⟩ 0 with
    | .error e => .error e
    | .ok b => .ok (big L.length 2 ++ b)
end M
end Go.Proofs.Ytgihfcjddkpkaaa
namespace Go.Proofs.Ytgihfcjddkpkaaa
open Go.RowKit
def U8 (l : List UInt8) : List Value := l.map fun b => Value.int .u8 (b.toNat : Int)
theorem U8_append (a b : List UInt8) : U8 (a ++ b) = U8 a ++ U8 b := by simp [U8]
theorem Try.info5 : (Try.prog.info? 5).map (fun i => (i.zero, i.size, i.bytes)) = some (some (.int .u8 0), 1, 1) := by kernel_rfl
theorem byte_at (x m : Nat) : (x : Int) / 2 ^ (8 * m) % 256 = (((UInt8.ofNat (x / 256 ^ m % 256)).toNat : Nat) : Int) := by
  have h1 : (2 : Int) ^ (8 * m) = ((256 ^ m : Nat) : Int) := by
    have h8 : ((256 : Nat) : Int) = 2 ^ 8 := rfl
    rw [Int.natCast_pow, h8, ← Int.pow_mul]
  rw [h1, UInt8.toNat_ofNat', Nat.mod_mod_of_dvd _ (by decide)]
  omega
/-- Nothing below B has turned, and nothing that is no row of bytes. -/
structure Fb (B : Nat) (w w' : World) : Prop where
  old : Below B w w'
  rest : ∀ (k : Nat) (o : Obj), w.heap[k]? = some o → (∀ c fr, o ≠ Obj.cells c 5 fr) → w'.heap[k]? = some o
theorem Fb.refl (B : Nat) (w : World) : Fb B w w := ⟨Below.refl _ _, fun _ _ h _ => h⟩
theorem Fb.trans {B : Nat} {a b c : World} (h : Fb B a b) (k : Fb B b c) : Fb B a c :=
  ⟨h.old.trans k.old, fun i o hi ht => k.rest i o (h.rest i o hi ht) ht⟩
theorem Fb.alloc {B : Nat} {a w : World} (h : Fb B a w) (hB : B ≤ w.heap.size) (o : Obj) : Fb B a (w.alloc o) :=
  ⟨h.old.alloc hB o, fun i x hi ht => by
    have h1 := h.rest i x hi ht
    rw [Below.heap_alloc w o i (Array.getElem?_eq_some_iff.1 h1).1]; exact h1⟩
theorem Fb.grown {B : Nat} {a w w' : World} {v : Value} {n : Nat} {xs : List Value} (h : Fb B a w) (ho : w.ownsRow B 5 1 v n xs) (hB : B ≤ w.heap.size) (hg : w.grownBy w' v.ownBlock) : Fb B a w' :=
  ⟨h.old.grown hg hB (fun k hk => (ho.lt k hk).1), fun i x hi ht => by
    have h1 := h.rest i x hi ht
    refine (hg.block i (Array.getElem?_eq_some_iff.1 h1).1 ?_).trans h1
    intro e
    rcases ho.2 with ⟨rfl, _⟩ | ⟨g, cap, cur, rfl, _, hh, _⟩
    · simp [Value.ownBlock] at e
    · simp [Value.ownBlock] at e
      subst e
      rw [h1] at hh
      cases hh
      exact ht _ _ rfl⟩
set_option maxRecDepth 100000 in
set_option maxHeartbeats 1000000 in
theorem Append_any (B : Nat) (v : Value) (l : List UInt8) (n : Nat) (g c : Nat) (xs : List Nat) (w : World) (hn : n ≤ 8) (hl : l.length ≤ 1000000) (hB : B ≤ w.heap.size) (hx : ∀ x ∈ xs, x < 2 ^ 64) (hm : xs.length ≤ 2)
    (ho : w.ownsRow B 5 1 v l.length (U8 l)) (hg : w.heap[g]? = some (.cells (xs.map fun (x : Nat) => Value.int .u64 (x : Int)).toArray 73 (0, 0))) :
    Calls Try.prog 62 #[v, .int .i64 (n : Int), .slice (some ⟨g, 0, none⟩) xs.length c] w fun e w' =>
      ∃ v', e = .returned v' ∧ w'.ownsRow B 5 1 v' (l ++ xs.flatMap fun x => M.big x n).length (U8 (l ++ xs.flatMap fun x => M.big x n)) ∧ Fb B w w' := by
  obtain ⟨i0, hi, hz0, hz1, hz2⟩ := info_parts Try.info5
  go_enter Try.func62, Try.ntmps62
  go_wp2_with fail
  go_loopw [0, 12] (fun v i wr => ∃ k : Nat, k ≤ xs.length ∧ i = .int .i64 k ∧ wr.ownsRow B 5 1 v (l ++ (xs.take k).flatMap fun x => M.big x n).length (U8 (l ++ (xs.take k).flatMap fun x => M.big x n)) ∧ Fb B w wr) (fun _ i _ => xs.length - (intOf i).toNat)
  case atStart => exact ⟨0, Nat.zero_le _, rfl, by simpa using ho, Fb.refl _ _⟩
  case round =>
    obtain ⟨k, hk, rfl, hown, hfr⟩ := hrel
    by_cases hlt : k < xs.length
    · obtain ⟨x, ex⟩ : ∃ x, x = xs.getD k 0 := ⟨_, rfl⟩
      have hcx : wr.cell? ⟨g, k, none⟩ = some (.int .u64 (x : Int)) := by
        have h1 := hfr.rest g _ hg (by intro c fr e; cases e)
        rw [cell_of_row wr g k _ 73 (0, 0) h1, ex]
        simp [List.getD, List.getElem?_eq_getElem hlt]
      have hx1 : x < 2 ^ 64 := by rw [ex]; exact hx _ (by simp [List.getD, List.getElem?_eq_getElem hlt])
      have hx2 : x ≤ 18446744073709551615 := by omega
      have htk : (xs.take (k + 1)).flatMap (fun x => M.big x n) = (xs.take k).flatMap (fun x => M.big x n) ++ M.big x n := by
        have h1 : xs.take (k + 1) = xs.take k ++ [x] := by
          rw [List.take_add_one, List.getElem?_eq_getElem hlt, ex]; simp only [Option.toList_some, List.getD, List.getElem?_eq_getElem hlt, Option.getD_some]
        rw [h1, List.flatMap_append, List.flatMap_singleton]
      have hpl : (l ++ (xs.take k).flatMap fun x => M.big x n).length ≤ 1000016 := by
        have : ((xs.take k).flatMap fun x => M.big x n).length ≤ 16 := by
          rw [List.length_flatMap]
          have h8 : ((xs.take k).map fun x => (M.big x n).length) = (xs.take k).map fun _ => n := by simp [M.big_len]
          rw [h8, List.map_const', List.sum_replicate_nat, List.length_take]
          have := Nat.mul_le_mul (show min k xs.length ≤ 2 by omega) hn
          omega
        rw [List.length_append]; omega
      obtain ⟨P, eP⟩ : ∃ P, P = l ++ (xs.take k).flatMap fun x => M.big x n := ⟨_, rfl⟩
      have heP : l ++ (xs.take (k + 1)).flatMap (fun x => M.big x n) = P ++ M.big x n := by rw [htk, eP, List.append_assoc]
      rw [← eP] at hown hpl
      have HeP := hide heP
      have Hx := hide hx1
      clear ex htk eP heP hx1 hx
      go_wp2_with fail
      go_loopw [0, 9] (fun v i wr => ∃ j : Nat, j ≤ n ∧ i = .int .i64 ((n : Int) - 1 - (j : Int)) ∧ wr.ownsRow B 5 1 v (P ++ (M.big x n).take j).length (U8 (P ++ (M.big x n).take j)) ∧ Fb B w wr) (fun _ i _ => (intOf i + 1).toNat)
      case atStart => exact ⟨0, Nat.zero_le _, by simp, by simpa using hown, hfr⟩
      case round =>
        clear hown hfr hcx
        obtain ⟨j, hj, rfl, hown, hfr⟩ := hrel
        by_cases hj2 : j < n
        · have hsz := hfr.old.size
          have hba := byte_at x (n - 1 - j)
          have hbg := M.big_at x n j hj2
          obtain ⟨y, ey⟩ : ∃ y : UInt8, y = UInt8.ofNat (x / 256 ^ (n - 1 - j) % 256) := ⟨_, rfl⟩
          rw [← ey] at hba hbg
          have hbk : P ++ (M.big x n).take (j + 1) = P ++ (M.big x n).take j ++ [y] := by rw [hbg, List.append_assoc]
          have hlen : (P ++ (M.big x n).take j).length ≤ 1000024 := by
            rw [List.length_append, List.length_take, M.big_len]; omega
          obtain ⟨Q, eQ⟩ : ∃ Q, Q = P ++ (M.big x n).take j := ⟨_, rfl⟩
          rw [← eQ] at hbk hlen hown
          have Hbk := hide hbk
          have Hba := hide hba
          clear hba hbg hbk ey eQ
          go_wp2_with (at_builtin; rw [unhide Hba]; refine wpList_append_own _ rfl _ _ 67 rfl B 5 i0 (.int .u8 0) 1 1 Try.underlying67 hi hz0 hz1 hz2 rfl (by decide) _ _ _ rfl (hown.alloc _) ⟨wr.heap.size, 0, none⟩ 1 1 [.int .u8 (y.toNat : Int)] rfl rfl ?c1 ?c2 ?c3 ?c4 ?c5 ?_)
          case c1 =>
            intro j u hj
            match j, hj with
            | 0, hj => simp at hj; subst hj; simp [Addr.add]
          case c2 => intro u hu; simp at hu; subst hu; rfl
          case c3 => unfold maxLen; omega
          case c4 => omega
          case c5 => simp; omega
          intro v' w1 hown' hgrow _
          have hf1 : Fb B w w1 := (hfr.alloc (by omega) _).grown (hown.alloc _) (by simp; omega) hgrow
          have ho1 : w1.ownsRow B 5 1 v' (P ++ (M.big x n).take (j + 1)).length (U8 (P ++ (M.big x n).take (j + 1))) := by
            rw [unhide Hbk, U8_append, List.length_append]; exact hown'
          clear hown' hgrow hown Hbk Hba
          go_wp2
          go_roundw
          case rel => exact ⟨j + 1, by omega, by simp; omega, ho1, hf1⟩
          case measure => simp [intOf]; omega
        · have hjn : j = n := by omega
          subst hjn
          rw [List.take_of_length_le (by rw [M.big_len]; omega)] at hown
          rw [← unhide HeP] at hown
          clear HeP
          go_wp2
          go_roundw
          case rel => exact ⟨k + 1, by omega, by go_num, hown, hfr⟩
          case measure => simp [intOf]; omega
    · have hkl : k = xs.length := by omega
      subst hkl
      rw [List.take_length] at hown
      go_wp2
      go_ret
      exact ⟨_, rfl, hown, hfr⟩
end Go.Proofs.Ytgihfcjddkpkaaa
