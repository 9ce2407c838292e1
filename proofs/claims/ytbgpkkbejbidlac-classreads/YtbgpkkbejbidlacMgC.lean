/-
  Plain mathematics of modified UTF-8: units, their bytes, that each is written in just one way. Nothing of the program is named here.
  The leaves: unitSize, tailByte, leadByte of package pool.
  firstUnit of package pool, for whatever bytes.
  eachUnit of package pool with each of the two functions that are handed to it; Units, isText.
-/
import Derived.Test.YtbgpkkbejbidlacProg
import Derived.Laws.BitsAllLaws
import Derived.WalkKit
import Derived.WalkSpells
import Derived.WalkLawsBesides
import Derived.Laws.IdiomStrings
namespace Go.Proofs.Ytbgpkkbejbidlac.Po
set_option maxRecDepth 100000
namespace M
def enc (u : Nat) : List UInt8 :=
  if 0 < u ∧ u < 128 then [UInt8.ofNat u]
  else if u < 2048 then [UInt8.ofNat (192 + u / 64), UInt8.ofNat (128 + u % 64)]
  else [UInt8.ofNat (224 + u / 4096), UInt8.ofNat (128 + u / 64 % 64), UInt8.ofNat (128 + u % 64)]
def text : List Nat → List UInt8
  | [] => []
  | u :: l => enc u ++ text l
def size (u : Nat) : Nat := if 0 < u ∧ u < 128 then 1 else if u < 2048 then 2 else 3
theorem enc_length (u : Nat) : (enc u).length = size u := by
  unfold enc size; split
  · rfl
  · split <;> rfl
theorem size_pos (u : Nat) : 1 ≤ size u ∧ size u ≤ 3 := by
  unfold size; split
  · omega
  · split <;> omega
theorem ofNat_inj {a b : Nat} (ha : a < 256) (hb : b < 256) (h : UInt8.ofNat a = UInt8.ofNat b) : a = b := by
  have := congrArg UInt8.toNat h
  simpa [UInt8.toNat_ofNat', Nat.mod_eq_of_lt ha, Nat.mod_eq_of_lt hb] using this
theorem enc1 {u : Nat} (h : 0 < u ∧ u < 128) : enc u = [UInt8.ofNat u] := by unfold enc; rw [if_pos h]
theorem enc2 {u : Nat} (h : ¬ (0 < u ∧ u < 128)) (h2 : u < 2048) : enc u = [UInt8.ofNat (192 + u / 64), UInt8.ofNat (128 + u % 64)] := by
  unfold enc; rw [if_neg h, if_pos h2]
theorem enc3 {u : Nat} (h2 : ¬ u < 2048) : enc u = [UInt8.ofNat (224 + u / 4096), UInt8.ofNat (128 + u / 64 % 64), UInt8.ofNat (128 + u % 64)] := by
  unfold enc; rw [if_neg (by omega), if_neg h2]
theorem enc_free {u v : Nat} {r t : List UInt8} (hu : u < 65536) (hv : v < 65536) (h : enc u ++ r = enc v ++ t) : u = v ∧ r = t := by
  by_cases a1 : 0 < u ∧ u < 128 <;> by_cases b1 : 0 < v ∧ v < 128
  · rw [enc1 a1, enc1 b1] at h; simp only [List.cons_append, List.nil_append, List.cons.injEq] at h
    exact ⟨ofNat_inj (by omega) (by omega) h.1, h.2⟩
  · by_cases b2 : v < 2048
    · rw [enc1 a1, enc2 b1 b2] at h; simp only [List.cons_append, List.nil_append, List.cons.injEq] at h
      have := ofNat_inj (by omega) (by omega) h.1; omega
    · rw [enc1 a1, enc3 b2] at h; simp only [List.cons_append, List.nil_append, List.cons.injEq] at h
      have := ofNat_inj (by omega) (by omega) h.1; omega
  · by_cases a2 : u < 2048
    · rw [enc1 b1, enc2 a1 a2] at h; simp only [List.cons_append, List.nil_append, List.cons.injEq] at h
      have := ofNat_inj (by omega) (by omega) h.1; omega
    · rw [enc1 b1, enc3 a2] at h; simp only [List.cons_append, List.nil_append, List.cons.injEq] at h
      have := ofNat_inj (by omega) (by omega) h.1; omega
  · by_cases a2 : u < 2048 <;> by_cases b2 : v < 2048
    · rw [enc2 a1 a2, enc2 b1 b2] at h; simp only [List.cons_append, List.nil_append, List.cons.injEq] at h
      have e1 := ofNat_inj (by omega) (by omega) h.1; have e2 := ofNat_inj (by omega) (by omega) h.2.1
      exact ⟨by omega, h.2.2⟩
    · rw [enc2 a1 a2, enc3 b2] at h; simp only [List.cons_append, List.nil_append, List.cons.injEq] at h
      have e1 := ofNat_inj (by omega) (by omega) h.1; omega
    · rw [enc3 a2, enc2 b1 b2] at h; simp only [List.cons_append, List.nil_append, List.cons.injEq] at h
      have e1 := ofNat_inj (by omega) (by omega) h.1; omega
    · rw [enc3 a2, enc3 b2] at h; simp only [List.cons_append, List.nil_append, List.cons.injEq] at h
      have e1 := ofNat_inj (by omega) (by omega) h.1; have e2 := ofNat_inj (by omega) (by omega) h.2.1; have e3 := ofNat_inj (by omega) (by omega) h.2.2.1
      exact ⟨by omega, h.2.2.2⟩
def Ok (l : List Nat) : Prop := ∀ u, u ∈ l → u < 65536
theorem enc_ne (u : Nat) : enc u ≠ [] := by
  intro h; have := enc_length u; rw [h] at this; have := (size_pos u).1; simp at *; omega
theorem text_append (a b : List Nat) : text (a ++ b) = text a ++ text b := by
  induction a with
  | nil => rfl
  | cons u a ih => simp only [List.cons_append, text, ih, List.append_assoc]
theorem text_snoc (a : List Nat) (u : Nat) : text (a ++ [u]) = text a ++ enc u := by rw [text_append]; simp [text]
/-- What is read so far is where each reading of the whole begins. -/
theorem text_split {l m : List Nat} {r : List UInt8} (hl : Ok l) (hm : Ok m) (h : text m = text l ++ r) : ∃ t, m = l ++ t ∧ text t = r ∧ Ok t := by
  induction l generalizing m with
  | nil => exact ⟨m, rfl, by simpa [text] using h, hm⟩
  | cons u l ih =>
    cases m with
    | nil =>
      exfalso; simp only [text, List.append_assoc] at h
      have := enc_ne u; cases he : enc u with
      | nil => exact this he
      | cons a b => rw [he] at h; simp at h
    | cons v m =>
      simp only [text, List.append_assoc] at h
      obtain ⟨e, h2⟩ := enc_free (hm v (by simp)) (hl u (by simp)) h
      subst e
      obtain ⟨t, e1, e2, e3⟩ := ih (fun x hx => hl x (by simp [hx])) (fun x hx => hm x (by simp [hx])) h2
      exact ⟨t, by rw [e1]; rfl, e2, e3⟩
theorem text_inj {l m : List Nat} (hl : Ok l) (hm : Ok m) (h : text l = text m) : l = m := by
  obtain ⟨t, e1, e2, _⟩ := text_split (r := []) hm hl (by simpa using h)
  cases t with
  | nil => simpa using e1
  | cons u t => exfalso; simp only [text] at e2; have := enc_ne u; simp at e2; exact this e2.1
/-- The unit with which bytes begin, in n bytes; n = 0: they begin with none. -/
def First (l : List UInt8) (u n : Nat) : Prop :=
  (u < 65536 ∧ n = size u ∧ ∃ r, l = enc u ++ r) ∨ (n = 0 ∧ u = 0 ∧ ∀ v, v < 65536 → ∀ r, l ≠ enc v ++ r)
/-- What Units answers: these units, or none. -/
def Units (l : List UInt8) (o : Option (List Nat)) : Prop :=
  (∃ m, o = some m ∧ Ok m ∧ text m = l) ∨ (o = none ∧ ∀ m, Ok m → text m ≠ l)
theorem Units.uniq {l : List UInt8} {o p : Option (List Nat)} (h : Units l o) (g : Units l p) : o = p := by
  rcases h with ⟨m, rfl, hm, ht⟩ | ⟨rfl, hn⟩ <;> rcases g with ⟨k, rfl, hk, hs⟩ | ⟨rfl, gn⟩
  · rw [text_inj hm hk (ht.trans hs.symm)]
  · exact absurd ht (gn m hm)
  · exact absurd hs (hn k hk)
  · rfl
theorem stop_none {l : List Nat} {r : List UInt8} (hl : Ok l) (hr : r ≠ []) (h : ∀ v, v < 65536 → ∀ t, r ≠ enc v ++ t) : Units (text l ++ r) none := by
  refine .inr ⟨rfl, fun m hm he => ?_⟩
  obtain ⟨t, _, e2, e3⟩ := text_split hl hm he
  cases t with
  | nil => exact hr (by simpa [text] using e2.symm)
  | cons v t => exact h v (e3 v (by simp)) (text t) (by rw [← e2]; rfl)
theorem b2n (b : UInt8) : b = UInt8.ofNat b.toNat := by simp
/-- One byte alone. -/
theorem begin1 {b : UInt8} {r : List UInt8} {v : Nat} (hv : v < 65536) {t : List UInt8} (h : b :: r = enc v ++ t) :
    (0 < b.toNat ∧ b.toNat < 128 ∧ v = b.toNat) ∨ (192 ≤ b.toNat ∧ b.toNat < 224 ∧ ∃ c, (∃ r', r = c :: r') ∧ 128 ≤ c.toNat ∧ c.toNat < 192 ∧ v = (b.toNat - 192) * 64 + (c.toNat - 128) ∧ ¬ (0 < v ∧ v < 128)) ∨
    (224 ≤ b.toNat ∧ b.toNat < 240 ∧ ∃ c d, (∃ r', r = c :: d :: r') ∧ 128 ≤ c.toNat ∧ c.toNat < 192 ∧ 128 ≤ d.toNat ∧ d.toNat < 192 ∧ v = (b.toNat - 224) * 4096 + (c.toNat - 128) * 64 + (d.toNat - 128) ∧ ¬ v < 2048) := by
  by_cases b1 : 0 < v ∧ v < 128
  · rw [enc1 b1] at h; simp only [List.cons_append, List.nil_append, List.cons.injEq] at h
    have e := congrArg UInt8.toNat h.1
    simp only [UInt8.toNat_ofNat'] at e
    exact .inl (by omega)
  · by_cases b2 : v < 2048
    · rw [enc2 b1 b2] at h; simp only [List.cons_append, List.nil_append, List.cons.injEq] at h
      have e := congrArg UInt8.toNat h.1
      simp only [UInt8.toNat_ofNat'] at e
      refine .inr (.inl ⟨by omega, by omega, _, ⟨t, h.2⟩, ?_⟩)
      simp only [UInt8.toNat_ofNat']
      omega
    · rw [enc3 b2] at h; simp only [List.cons_append, List.nil_append, List.cons.injEq] at h
      have e := congrArg UInt8.toNat h.1
      simp only [UInt8.toNat_ofNat'] at e
      refine .inr (.inr ⟨by omega, by omega, _, _, ⟨t, h.2⟩, ?_⟩)
      simp only [UInt8.toNat_ofNat']
      omega
theorem enc_of1 {b : UInt8} (h : 0 < b.toNat ∧ b.toNat < 128) : enc b.toNat = [b] := by rw [enc1 h]; simp
theorem enc_of2 {b c : UInt8} {v : Nat} (h1 : 192 ≤ b.toNat) (h2 : b.toNat < 224) (h3 : 128 ≤ c.toNat) (h4 : c.toNat < 192) (hv : v = (b.toNat - 192) * 64 + (c.toNat - 128)) (hn : ¬ (0 < v ∧ v < 128)) : enc v = [b, c] := by
  rw [enc2 hn (by omega)]
  rw [show 192 + v / 64 = b.toNat by omega, show 128 + v % 64 = c.toNat by omega]; simp
theorem enc_of3 {b c d : UInt8} {v : Nat} (h1 : 224 ≤ b.toNat) (h2 : b.toNat < 240) (h3 : 128 ≤ c.toNat) (h4 : c.toNat < 192) (h5 : 128 ≤ d.toNat) (h6 : d.toNat < 192) (hv : v = (b.toNat - 224) * 4096 + (c.toNat - 128) * 64 + (d.toNat - 128)) (hn : ¬ v < 2048) : enc v = [b, c, d] := by
  rw [enc3 hn]
  rw [show 224 + v / 4096 = b.toNat by omega, show 128 + v / 64 % 64 = c.toNat by omega, show 128 + v % 64 = d.toNat by omega]; simp
end M
end Go.Proofs.Ytbgpkkbejbidlac.Po
namespace Go.Proofs.Ytbgpkkbejbidlac.Po
set_option maxRecDepth 100000
open Go.RowKit

theorem and128 (n : Int) (h0 : 0 ≤ n) (h1 : n ≤ 255) : (bits BinOp.and IntKind.u8 n 128 == 0) = decide (n < 128) := by
  have h : ∀ k : Fin 256, (bits BinOp.and IntKind.u8 (k.val : Int) 128 == 0) = decide ((k.val : Int) < 128) := by decide +kernel
  have := h ⟨n.toNat, by omega⟩; rwa [show ((n.toNat : Nat) : Int) = n by omega] at this
theorem and224 (n : Int) (h0 : 0 ≤ n) (h1 : n ≤ 255) : (bits BinOp.and IntKind.u8 n 224 == 192) = decide (192 ≤ n ∧ n < 224) := by
  have h : ∀ k : Fin 256, (bits BinOp.and IntKind.u8 (k.val : Int) 224 == 192) = decide (192 ≤ (k.val : Int) ∧ (k.val : Int) < 224) := by decide +kernel
  have := h ⟨n.toNat, by omega⟩; rwa [show ((n.toNat : Nat) : Int) = n by omega] at this
theorem and240 (n : Int) (h0 : 0 ≤ n) (h1 : n ≤ 255) : (bits BinOp.and IntKind.u8 n 240 == 224) = decide (224 ≤ n ∧ n < 240) := by
  have h : ∀ k : Fin 256, (bits BinOp.and IntKind.u8 (k.val : Int) 240 == 224) = decide (224 ≤ (k.val : Int) ∧ (k.val : Int) < 240) := by decide +kernel
  have := h ⟨n.toNat, by omega⟩; rwa [show ((n.toNat : Nat) : Int) = n by omega] at this
theorem and192 (n : Int) (h0 : 0 ≤ n) (h1 : n ≤ 255) : (bits BinOp.and IntKind.u8 n 192 != 128) = !decide (128 ≤ n ∧ n < 192) := by
  have h : ∀ k : Fin 256, (bits BinOp.and IntKind.u8 (k.val : Int) 192 != 128) = !decide (128 ≤ (k.val : Int) ∧ (k.val : Int) < 192) := by decide +kernel
  have := h ⟨n.toNat, by omega⟩; rwa [show ((n.toNat : Nat) : Int) = n by omega] at this
theorem or128 (n : Int) (h0 : 0 ≤ n) (h1 : n < 64) : bits BinOp.or IntKind.u8 128 n = 128 + n := by
  have h : ∀ k : Fin 64, bits BinOp.or IntKind.u8 128 (k.val : Int) = 128 + (k.val : Int) := by decide +kernel
  have := h ⟨n.toNat, by omega⟩; rwa [show ((n.toNat : Nat) : Int) = n by omega] at this
theorem or192 (n : Int) (h0 : 0 ≤ n) (h1 : n < 32) : bits BinOp.or IntKind.u8 192 n = 192 + n := by
  have h : ∀ k : Fin 32, bits BinOp.or IntKind.u8 192 (k.val : Int) = 192 + (k.val : Int) := by decide +kernel
  have := h ⟨n.toNat, by omega⟩; rwa [show ((n.toNat : Nat) : Int) = n by omega] at this
theorem or224 (n : Int) (h0 : 0 ≤ n) (h1 : n < 16) : bits BinOp.or IntKind.u8 224 n = 224 + n := by
  have h : ∀ k : Fin 16, bits BinOp.or IntKind.u8 224 (k.val : Int) = 224 + (k.val : Int) := by decide +kernel
  have := h ⟨n.toNat, by omega⟩; rwa [show ((n.toNat : Nat) : Int) = n by omega] at this
theorem and63 (n : Int) (h0 : 0 ≤ n) (h1 : n ≤ 65535) : bits BinOp.and IntKind.u16 n 63 = n % 64 := by
  rw [u16_and n 63 h0 (by omega) (by omega) (by omega)]
  have := Nat.and_two_pow_sub_one_eq_mod n.toNat 6
  simp only [Nat.reducePow, Nat.reduceSub] at this
  rw [show (63 : Int).toNat = 63 from rfl, this]; omega
theorem or16 (a b : Int) (h0 : 0 ≤ a) (h1 : a ≤ 1023) (h2 : 0 ≤ b) (h3 : b < 64) : bits BinOp.or IntKind.u16 (a * 64) b = a * 64 + b := by
  rw [u16_or (a * 64) b (by omega) (by omega) (by omega) (by omega)]
  have := Nat.two_pow_add_eq_or_of_lt (i := 6) (b := b.toNat) (by omega) a.toNat
  simp only [Nat.reducePow] at this
  rw [show (a * 64).toNat = 64 * a.toNat by omega, ← this]; omega

set_option maxHeartbeats 400000 in
theorem unitSize_any (n : Nat) (w : World) (h1 : n < 65536) :
    Calls Try.prog 132 #[.int .u16 n] w fun e w' => e = .returned (.int .i64 (M.size n)) ∧ w' = w := by
  have hs : ((M.size n : Nat) : Int) = if 1 ≤ (n : Int) ∧ (n : Int) ≤ 127 then 1 else if (n : Int) ≤ 2047 then 2 else 3 := by
    unfold M.size; split <;> split <;> (try split) <;> (try split) <;> omega
  rw [hs]; clear hs
  go_enter Try.func132, Try.ntmps132
  go_wp2
  all_goals go_ret
  all_goals exact ⟨rfl, rfl⟩
/-- The first byte of a unit: its bits, and how many bytes the unit has by it. -/
def lead (n : Int) : Int × Int := if n < 128 then (n, 1) else if 192 ≤ n ∧ n < 224 then (n % 32, 2) else if 224 ≤ n ∧ n < 240 then (n % 16, 3) else (0, 0)
set_option maxHeartbeats 400000 in
theorem leadByte_any (n : Int) (w : World) (h0 : 0 ≤ n) (h1 : n ≤ 255) :
    Calls Try.prog 131 #[.int .u8 n] w fun e w' => e = .returned (.tuple #[.int .u16 (lead n).1, .int .i64 (lead n).2]) ∧ w' = w := by
  have e1 := and128 n h0 h1
  have e2 := and224 n h0 h1
  have e3 := and240 n h0 h1
  unfold lead
  by_cases a : n < 128
  · rw [if_pos a]; simp only [a, decide_true] at e1
    go_enter Try.func131, Try.ntmps131
    go_wp2
    go_ret2
    exact ⟨rfl, rfl⟩
  · rw [if_neg a]; simp only [a, decide_false] at e1
    by_cases b : 192 ≤ n ∧ n < 224
    · rw [if_pos b]; simp only [b, and_self, decide_true] at e2
      go_enter Try.func131, Try.ntmps131
      go_wp2
      go_ret2
      exact ⟨rfl, rfl⟩
    · rw [if_neg b]; rw [decide_eq_false b] at e2
      by_cases c : 224 ≤ n ∧ n < 240
      · rw [if_pos c]; simp only [c, and_self, decide_true] at e3
        clear b
        go_enter Try.func131, Try.ntmps131
        go_wp2
        go_ret2
        exact ⟨rfl, rfl⟩
      · rw [if_neg c]; rw [decide_eq_false c] at e3
        clear b c
        go_enter Try.func131, Try.ntmps131
        go_wp2
        go_ret2
        exact ⟨rfl, rfl⟩
end Go.Proofs.Ytbgpkkbejbidlac.Po
namespace Go.Proofs.Ytbgpkkbejbidlac.Po
set_option maxRecDepth 100000
open Go.RowKit
namespace M
theorem F_one {x : UInt8} {r : List UInt8} (h : 0 < x.toNat) (h2 : x.toNat < 128) : First (x :: r) x.toNat 1 :=
  .inl ⟨by omega, by unfold size; rw [if_pos ⟨h, h2⟩], r, by rw [enc_of1 ⟨h, h2⟩]; rfl⟩
theorem F_zero {x : UInt8} {r : List UInt8} (h : x.toNat = 0) : First (x :: r) 0 0 := by
  refine .inr ⟨rfl, rfl, fun v hv t g => ?_⟩
  rcases begin1 hv g with q | ⟨q, _⟩ | ⟨q, _⟩ <;> omega
theorem F_lead {x : UInt8} {r : List UInt8} (h : (128 ≤ x.toNat ∧ x.toNat < 192) ∨ 240 ≤ x.toNat) : First (x :: r) 0 0 := by
  refine .inr ⟨rfl, rfl, fun v hv t g => ?_⟩
  rcases begin1 hv g with q | ⟨q, q', _⟩ | ⟨q, q', _⟩ <;> omega
theorem F_two {x c : UInt8} {r : List UInt8} (h1 : 192 ≤ x.toNat) (h2 : x.toNat < 224) (h3 : 128 ≤ c.toNat) (h4 : c.toNat < 192) (hn : size ((x.toNat - 192) * 64 + (c.toNat - 128)) = 2) : First (x :: c :: r) ((x.toNat - 192) * 64 + (c.toNat - 128)) 2 := by
  have hk : ¬ (0 < (x.toNat - 192) * 64 + (c.toNat - 128) ∧ (x.toNat - 192) * 64 + (c.toNat - 128) < 128) := by
    intro hk; unfold size at hn; rw [if_pos hk] at hn; omega
  exact .inl ⟨by omega, hn.symm, r, by rw [enc_of2 h1 h2 h3 h4 rfl hk]; rfl⟩
theorem F_two_no {x c : UInt8} {r : List UInt8} (h1 : 192 ≤ x.toNat) (h2 : x.toNat < 224) (h : ¬ (128 ≤ c.toNat ∧ c.toNat < 192) ∨ size ((x.toNat - 192) * 64 + (c.toNat - 128)) ≠ 2) : First (x :: c :: r) 0 0 := by
  refine .inr ⟨rfl, rfl, fun v hv t g => ?_⟩
  rcases begin1 hv g with q | ⟨q, q', c', ⟨r', e⟩, g1, g2, g3, g4⟩ | ⟨q, q', _⟩
  · omega
  · simp only [List.cons.injEq] at e
    obtain ⟨rfl, _⟩ := e
    rcases h with h | h
    · exact h ⟨g1, g2⟩
    · rw [← g3] at h; unfold size at h; rw [if_neg g4, if_pos (by omega)] at h; omega
  · omega
theorem F_two_end {x : UInt8} (h1 : 192 ≤ x.toNat) (h2 : x.toNat < 224) : First [x] 0 0 := by
  refine .inr ⟨rfl, rfl, fun v hv t g => ?_⟩
  rcases begin1 hv g with q | ⟨q, q', c', ⟨r', e⟩, _⟩ | ⟨q, q', _⟩
  · omega
  · simp at e
  · omega
theorem F_three {x c d : UInt8} {r : List UInt8} (h1 : 224 ≤ x.toNat) (h2 : x.toNat < 240) (h3 : 128 ≤ c.toNat) (h4 : c.toNat < 192) (h5 : 128 ≤ d.toNat) (h6 : d.toNat < 192)
    (hn : size ((x.toNat - 224) * 4096 + (c.toNat - 128) * 64 + (d.toNat - 128)) = 3) : First (x :: c :: d :: r) ((x.toNat - 224) * 4096 + (c.toNat - 128) * 64 + (d.toNat - 128)) 3 := by
  have hk : ¬ ((x.toNat - 224) * 4096 + (c.toNat - 128) * 64 + (d.toNat - 128) < 2048) := by
    intro hk; unfold size at hn; rw [if_pos hk] at hn; split at hn <;> omega
  exact .inl ⟨by omega, hn.symm, r, by rw [enc_of3 h1 h2 h3 h4 h5 h6 rfl hk]; rfl⟩
theorem F_three_no {x c d : UInt8} {r : List UInt8} (h1 : 224 ≤ x.toNat) (h2 : x.toNat < 240) (h : ¬ (128 ≤ c.toNat ∧ c.toNat < 192) ∨ ¬ (128 ≤ d.toNat ∧ d.toNat < 192) ∨ size ((x.toNat - 224) * 4096 + (c.toNat - 128) * 64 + (d.toNat - 128)) ≠ 3) : First (x :: c :: d :: r) 0 0 := by
  refine .inr ⟨rfl, rfl, fun v hv t g => ?_⟩
  rcases begin1 hv g with q | ⟨q, q', _⟩ | ⟨q, q', c', d', ⟨r', e⟩, g1, g2, g3, g4, g5, g6⟩
  · omega
  · omega
  · simp only [List.cons.injEq] at e
    obtain ⟨rfl, rfl, _⟩ := e
    rcases h with h | h | h
    · exact h ⟨g1, g2⟩
    · exact h ⟨g3, g4⟩
    · rw [← g5] at h; unfold size at h; rw [if_neg (by omega), if_neg g6] at h; omega
theorem F_three_end {x : UInt8} {r : List UInt8} (h1 : 224 ≤ x.toNat) (h2 : x.toNat < 240) (hr : r.length < 2) : First (x :: r) 0 0 := by
  refine .inr ⟨rfl, rfl, fun v hv t g => ?_⟩
  rcases begin1 hv g with q | ⟨q, q', _⟩ | ⟨q, q', c', d', ⟨r', e⟩, _⟩
  · omega
  · omega
  · rw [e] at hr; simp only [List.length_cons] at hr; omega
end M

theorem conv_bytes (w : World) (s : ByteArray) : ∃ (c : Nat) (w1 : World), Sem.run Try.prog (convert 9 67 (.string s)) w = .ok (.slice (some ⟨w.heap.size, 0, none⟩) s.size c) w1 ∧
    (∀ j, j < s.size → w1.cell? ⟨w.heap.size, j, none⟩ = some (.int .u8 (s.data.toList.getD j 0).toNat)) ∧ w1.heap.size = w.heap.size + 1 ∧ Below w.heap.size w w1 := by
  refine ⟨_, _, run_bytes_of_string w 9 67 5 s Try.underlying9 Try.underlying67 Try.underlying5, fun j hj => ?_, by simp, (Below.refl _ _).drew.alloc (Nat.le_refl _) _⟩
  have h := World.cell?_alloc_mark w.drew (bytesRow s (grownCap w s.size 0 5)) 5 ((bytesRow s (grownCap w s.size 0 5)).size, (bytesRow s (grownCap w s.size 0 5)).size + 1) j
  have h2 := bytesRow_at s (grownCap w s.size 0 5) j hj
  refine (h.trans h2).trans ?_
  have hj' : j < s.data.toList.length := by simpa using hj
  simp [List.getD, List.getElem?_eq_getElem hj']

abbrev Gave (s : ByteArray) (w : World) (e : Ending) (w' : World) : Prop := ∃ u n : Nat, e = .returned (.tuple #[.int .u16 u, .int .i64 n]) ∧ M.First s.data.toList u n ∧ Below w.heap.size w w'
theorem size_of_list {s : ByteArray} {l : List UInt8} (h : s.data.toList = l) : s.size = l.length := by rw [← h]; simp
theorem at_of_list {s : ByteArray} {l : List UInt8} (h : s.data.toList = l) (k : Nat) (hk : k < s.size) : s[k] = l.getD k 0 := by
  subst h; have : k < s.data.toList.length := by simpa using hk
  simp only [List.getD, List.getElem?_eq_getElem this, Option.getD_some]; rfl

set_option maxHeartbeats 400000 in
theorem first_lead (s : ByteArray) (w : World) (x : UInt8) (r : List UInt8) (hl : s.data.toList = x :: r) (hx : (128 ≤ x.toNat ∧ x.toNat < 192) ∨ 240 ≤ x.toNat) (hs : s.size ≤ 131072) :
    Calls Try.prog 130 #[.string s] w fun e w' => Gave s w e w' := by
  have hp : 1 ≤ s.size := by rw [size_of_list hl]; simp
  have hF := M.F_lead (r := r) hx
  rw [← hl] at hF
  obtain ⟨b, hb⟩ : ∃ b : Int, (s[0].toNat : Int) = b := ⟨_, rfl⟩
  have hbx : b = x.toNat := by rw [← hb, at_of_list hl 0 hp]; rfl
  have hbb : (128 ≤ b ∧ b < 192) ∨ 240 ≤ b := by omega
  have hbt : b ≤ 255 := by have := x.toNat_lt; omega
  clear hl hx hbx
  go_enter Try.func130, Try.ntmps130
  go_wp2_with fail
  refine (leadByte_any _ _ (by omega) (by omega)).mono ?_
  rintro e w' ⟨rfl, rfl⟩
  have hl : lead b = (0, 0) := by unfold lead; rw [if_neg (by omega), if_neg (by omega), if_neg (by omega)]
  rw [hl]
  clear hl hbb
  go_wp2
  go_ret2
  exact ⟨0, 0, rfl, hF, Below.refl _ _⟩

set_option maxHeartbeats 400000 in
theorem first_1 (s : ByteArray) (w : World) (x : UInt8) (r : List UInt8) (hl : s.data.toList = x :: r) (hx : x.toNat < 128) (hs : s.size ≤ 131072) :
    Calls Try.prog 130 #[.string s] w fun e w' => Gave s w e w' := by
  have hp : 1 ≤ s.size := by rw [size_of_list hl]; simp
  obtain ⟨b, hb⟩ : ∃ b : Int, (s[0].toNat : Int) = b := ⟨_, rfl⟩
  have hbx : b = x.toNat := by rw [← hb, at_of_list hl 0 hp]; rfl
  obtain ⟨cp, w1, hrun, -, hsz, hbe⟩ := conv_bytes w ByteArray.empty
  have hsx : ByteArray.empty.size = 0 := rfl
  rw [hsx] at hrun
  have hF : M.First s.data.toList (if M.size x.toNat = 1 then x.toNat else 0) (if M.size x.toNat = 1 then 1 else 0) := by
    rw [hl]
    by_cases h0 : x.toNat = 0
    · rw [h0]; exact M.F_zero h0
    · rw [show M.size x.toNat = 1 by unfold M.size; rw [if_pos (by omega)]]
      exact M.F_one (by omega) hx
  clear hl
  obtain ⟨u, hu⟩ : ∃ u : Nat, u = x.toNat := ⟨_, rfl⟩
  rw [← hu] at hbx hx hF
  clear hu
  subst hbx
  go_enter Try.func130, Try.ntmps130
  go_wp2_with fail
  refine (leadByte_any _ _ (by omega) (by omega)).mono ?_
  rintro e w' ⟨rfl, rfl⟩
  have hl : lead (u : Int) = ((u : Int), 1) := by unfold lead; rw [if_pos (by omega)]
  rw [hl]
  clear hl
  go_wp2_with fail
  refine wp_loop_rounds 1 ?_
  rw [rounds_succ]
  go_wp2_with fail
  refine (unitSize_any _ _ (by omega)).mono ?_
  rintro e w' ⟨rfl, rfl⟩
  by_cases h1 : M.size u = 1
  · rw [if_pos h1, if_pos h1] at hF
    rw [h1]
    clear h1
    go_wp2
    go_ret2
    exact ⟨u, 1, rfl, hF, hbe⟩
  · rw [if_neg h1, if_neg h1] at hF
    have h2 : ((M.size u : Int) != 1) = true := by rw [bne_iff_ne]; omega
    clear h1
    go_wp2
    go_ret2
    exact ⟨0, 0, rfl, hF, hbe⟩

set_option maxHeartbeats 400000 in
theorem first_short (s : ByteArray) (w : World) (x : UInt8) (r : List UInt8) (hl : s.data.toList = x :: r) (hx : (192 ≤ x.toNat ∧ x.toNat < 224 ∧ r = []) ∨ (224 ≤ x.toNat ∧ x.toNat < 240 ∧ r.length < 2)) (hs : s.size ≤ 131072) :
    Calls Try.prog 130 #[.string s] w fun e w' => Gave s w e w' := by
  have hp : 1 ≤ s.size := by rw [size_of_list hl]; simp
  obtain ⟨b, hb⟩ : ∃ b : Int, (s[0].toNat : Int) = b := ⟨_, rfl⟩
  have hbx : b = x.toNat := by rw [← hb, at_of_list hl 0 hp]; rfl
  have hF : M.First s.data.toList 0 0 := by
    rw [hl]
    rcases hx with ⟨h1, h2, rfl⟩ | ⟨h1, h2, h3⟩
    · exact M.F_two_end h1 h2
    · exact M.F_three_end h1 h2 h3
  have hsz : s.size = r.length + 1 := by rw [size_of_list hl]; simp
  clear hl
  obtain ⟨p, q, hpq, hlt, hq0⟩ : ∃ p q : Int, lead b = (p, q) ∧ (s.size : Int) < q ∧ q ≤ 3 := by
    rcases hx with ⟨h1, h2, rfl⟩ | ⟨h1, h2, h3⟩
    · exact ⟨_, _, by unfold lead; rw [if_neg (by omega), if_pos (by omega)], by simp at hsz; omega, by omega⟩
    · exact ⟨_, _, by unfold lead; rw [if_neg (by omega), if_neg (by omega), if_pos (by omega)], by omega, by omega⟩
  have hbb : 0 ≤ b ∧ b ≤ 255 := by have := x.toNat_lt; omega
  clear hbx hx hsz
  go_enter Try.func130, Try.ntmps130
  go_wp2_with fail
  refine (leadByte_any _ _ (by omega) (by omega)).mono ?_
  rintro e w' ⟨rfl, rfl⟩
  rw [hpq]
  clear hpq
  have hq : (q == 0) = false := by rw [beq_eq_false_iff_ne]; omega
  go_wp2
  go_ret2
  exact ⟨0, 0, rfl, hF, Below.refl _ _⟩

theorem tail_at (s : ByteArray) (x : UInt8) (r : List UInt8) (n k : Nat) (hl : s.data.toList = x :: r) (_hn : n ≤ s.size) (hk : k + 1 < n) : (s.extract 1 n).data.toList.getD k 0 = r.getD k 0 := by
  have h1 : (s.extract 1 n).data.toList = (s.data.toList.drop 1).take (n - 1) := by
    rw [ByteArray.data_extract, Array.toList_extract]
  rw [h1, hl]
  simp only [List.drop_succ_cons, List.drop_zero, List.getD]
  rw [List.getElem?_take_of_lt (by omega)]

set_option maxHeartbeats 400000 in
theorem first_2 (s : ByteArray) (w : World) (x y : UInt8) (r : List UInt8) (hl : s.data.toList = x :: y :: r) (hx : 192 ≤ x.toNat) (hx2 : x.toNat < 224) (hs : s.size ≤ 131072) :
    Calls Try.prog 130 #[.string s] w fun e w' => Gave s w e w' := by
  have hp : 2 ≤ s.size := by rw [size_of_list hl]; simp
  obtain ⟨b, hb⟩ : ∃ b : Int, (s[0].toNat : Int) = b := ⟨_, rfl⟩
  have hbx : b = x.toNat := by rw [← hb, at_of_list hl 0 (by omega)]; rfl
  obtain ⟨cp, w1, hrun, hcell, hsz, hbe⟩ := conv_bytes w (s.extract 1 2)
  have hsx : (s.extract 1 2).size = 1 := by simp; omega
  rw [hsx] at hrun hcell
  have hc0 := hcell 0 (by omega)
  rw [tail_at s x (y :: r) 2 0 hl hp (by omega)] at hc0
  simp only [List.getD_cons_zero] at hc0
  clear hcell hsx
  have hyt := y.toNat_lt
  obtain ⟨c, hc⟩ : ∃ c : Int, (y.toNat : Int) = c := ⟨_, rfl⟩
  have hF := fun h => M.F_two (x := x) (c := y) (r := r) hx hx2 h
  have hN := fun h => M.F_two_no (x := x) (c := y) (r := r) hx hx2 h
  rw [← hl] at hF hN
  rw [hc] at hc0
  have hcc : 0 ≤ c ∧ c ≤ 255 := by omega
  have e1 := and192 c (by omega) (by omega)
  have e2 := or16 (b % 32) (c % 64) (by omega) (by omega) (by omega) (by omega)
  have hbb : 192 ≤ b ∧ b < 224 := by omega
  by_cases hok : 128 ≤ c ∧ c < 192
  · rw [decide_eq_true hok] at e1
    have hF := hF (by omega) (by omega)
    have hN := fun h => hN (.inr h)
    obtain ⟨u, hu⟩ : ∃ u : Nat, u = (x.toNat - 192) * 64 + (y.toNat - 128) := ⟨_, rfl⟩
    rw [← hu] at hF hN
    have huv : (u : Int) = b % 32 * 64 + c % 64 := by omega
    rw [← huv] at e2
    have Hu : Hid (u < 65536) := by show u < 65536; omega
    have HF : Hid (M.size u = 2 → M.First s.data.toList u 2) := hF
    have HN : Hid (M.size u ≠ 2 → M.First s.data.toList 0 0) := hN
    clear hl hbx hc huv hu hF hN hyt hx hx2
    go_enter Try.func130, Try.ntmps130
    go_wp2_with fail
    refine (leadByte_any _ _ (by omega) (by omega)).mono ?_
    rintro e w' ⟨rfl, rfl⟩
    have hl : lead b = (b % 32, 2) := by unfold lead; rw [if_neg (by omega), if_pos (by omega)]
    rw [hl]
    clear hl
    go_wp2_with fail
    refine wp_loop_rounds 2 ?_
    rw [rounds_succ]
    go_wp2_with fail
    rw [rounds_succ]
    go_wp2_with fail
    refine (unitSize_any _ _ Hu.out).mono ?_
    rintro e w' ⟨rfl, rfl⟩
    by_cases h1 : M.size u = 2
    · have hF := HF.out h1
      rw [h1]
      clear h1
      go_wp2
      go_ret2
      exact ⟨u, 2, rfl, hF, hbe⟩
    · have hF := HN.out h1
      have h2 : ((M.size u : Int) != 2) = true := by rw [bne_iff_ne]; omega
      clear h1
      go_wp2
      go_ret2
      exact ⟨0, 0, rfl, hF, hbe⟩
  · rw [decide_eq_false hok] at e1
    have hN := hN (.inl (by omega))
    clear hl hF hbx hc hok hyt hx hx2
    go_enter Try.func130, Try.ntmps130
    go_wp2_with fail
    refine (leadByte_any _ _ (by omega) (by omega)).mono ?_
    rintro e w' ⟨rfl, rfl⟩
    have hl : lead b = (b % 32, 2) := by unfold lead; rw [if_neg (by omega), if_pos (by omega)]
    rw [hl]
    clear hl
    go_wp2_with fail
    refine wp_loop_rounds 1 ?_
    rw [rounds_succ]
    go_wp2_with fail
    go_ret2
    exact ⟨0, 0, rfl, hN, hbe⟩

set_option maxHeartbeats 400000 in
theorem first_3 (s : ByteArray) (w : World) (x y z : UInt8) (r : List UInt8) (hl : s.data.toList = x :: y :: z :: r) (hx : 224 ≤ x.toNat) (hx2 : x.toNat < 240) (hs : s.size ≤ 131072) :
    Calls Try.prog 130 #[.string s] w fun e w' => Gave s w e w' := by
  have hp : 3 ≤ s.size := by rw [size_of_list hl]; simp
  obtain ⟨b, hb⟩ : ∃ b : Int, (s[0].toNat : Int) = b := ⟨_, rfl⟩
  have hbx : b = x.toNat := by rw [← hb, at_of_list hl 0 (by omega)]; rfl
  obtain ⟨cp, w1, hrun, hcell, hsz, hbe⟩ := conv_bytes w (s.extract 1 3)
  have hsx : (s.extract 1 3).size = 2 := by simp; omega
  rw [hsx] at hrun hcell
  have hc0 := hcell 0 (by omega)
  have hc1 := hcell 1 (by omega)
  rw [tail_at s x (y :: z :: r) 3 0 hl hp (by omega)] at hc0
  rw [tail_at s x (y :: z :: r) 3 1 hl hp (by omega)] at hc1
  simp only [List.getD_cons_zero, List.getD_cons_succ] at hc0 hc1
  clear hcell hsx
  have hyt := y.toNat_lt
  have hzt := z.toNat_lt
  obtain ⟨c, hc⟩ : ∃ c : Int, (y.toNat : Int) = c := ⟨_, rfl⟩
  obtain ⟨d, hd⟩ : ∃ d : Int, (z.toNat : Int) = d := ⟨_, rfl⟩
  have hF := fun a1 a2 a3 a4 => M.F_three (x := x) (c := y) (d := z) (r := r) hx hx2 a1 a2 a3 a4
  have hN := fun h => M.F_three_no (x := x) (c := y) (d := z) (r := r) hx hx2 h
  rw [← hl] at hF hN
  rw [hc] at hc0
  rw [hd] at hc1
  have hcc : 0 ≤ c ∧ c ≤ 255 := by omega
  have hdd : 0 ≤ d ∧ d ≤ 255 := by omega
  have e1 := and192 c (by omega) (by omega)
  have e3 := and192 d (by omega) (by omega)
  have e2 := or16 (b % 16) (c % 64) (by omega) (by omega) (by omega) (by omega)
  have e4 := or16 (b % 16 * 64 + c % 64) (d % 64) (by omega) (by omega) (by omega) (by omega)
  have hbb : 224 ≤ b ∧ b < 240 := by omega
  by_cases hok : 128 ≤ c ∧ c < 192
  · rw [decide_eq_true hok] at e1
    by_cases hod : 128 ≤ d ∧ d < 192
    · rw [decide_eq_true hod] at e3
      have hF := hF (by omega) (by omega) (by omega) (by omega)
      have hN := fun h => hN (.inr (.inr h))
      obtain ⟨u, hu⟩ : ∃ u : Nat, u = (x.toNat - 224) * 4096 + (y.toNat - 128) * 64 + (z.toNat - 128) := ⟨_, rfl⟩
      rw [← hu] at hF hN
      obtain ⟨p, hp1⟩ : ∃ p : Int, p = b % 16 * 64 + c % 64 := ⟨_, rfl⟩
      rw [← hp1] at e2 e4
      have huv : (u : Int) = p * 64 + d % 64 := by omega
      rw [← huv] at e4
      have hpp : 0 ≤ p ∧ p ≤ 1023 := by omega
      have Hu : Hid (u < 65536) := by show u < 65536; omega
      have HF : Hid (M.size u = 3 → M.First s.data.toList u 3) := hF
      have HN : Hid (M.size u ≠ 3 → M.First s.data.toList 0 0) := hN
      clear hl hbx hc hd huv hu hp1 hF hN hyt hzt hx hx2
      go_enter Try.func130, Try.ntmps130
      go_wp2_with fail
      refine (leadByte_any _ _ (by omega) (by omega)).mono ?_
      rintro e w' ⟨rfl, rfl⟩
      have hl : lead b = (b % 16, 3) := by unfold lead; rw [if_neg (by omega), if_neg (by omega), if_pos (by omega)]
      rw [hl]
      clear hl
      go_wp2_with fail
      refine wp_loop_rounds 3 ?_
      rw [rounds_succ]
      go_wp2_with fail
      rw [rounds_succ]
      go_wp2_with fail
      rw [rounds_succ]
      go_wp2_with fail
      refine (unitSize_any _ _ Hu.out).mono ?_
      rintro e w' ⟨rfl, rfl⟩
      by_cases h1 : M.size u = 3
      · have hF := HF.out h1
        rw [h1]
        clear h1
        go_wp2
        go_ret2
        exact ⟨u, 3, rfl, hF, hbe⟩
      · have hF := HN.out h1
        have h2 : ((M.size u : Int) != 3) = true := by rw [bne_iff_ne]; omega
        clear h1
        go_wp2
        go_ret2
        exact ⟨0, 0, rfl, hF, hbe⟩
    · rw [decide_eq_false hod] at e3
      have hN := hN (.inr (.inl (by omega)))
      obtain ⟨p, hp1⟩ : ∃ p : Int, p = b % 16 * 64 + c % 64 := ⟨_, rfl⟩
      rw [← hp1] at e2 e4
      have hpp : 0 ≤ p ∧ p ≤ 1023 := by omega
      clear hl hF hbx hc hd hp1 hod hyt hzt hx hx2 e4
      go_enter Try.func130, Try.ntmps130
      go_wp2_with fail
      refine (leadByte_any _ _ (by omega) (by omega)).mono ?_
      rintro e w' ⟨rfl, rfl⟩
      have hl : lead b = (b % 16, 3) := by unfold lead; rw [if_neg (by omega), if_neg (by omega), if_pos (by omega)]
      rw [hl]
      clear hl
      go_wp2_with fail
      refine wp_loop_rounds 2 ?_
      rw [rounds_succ]
      go_wp2_with fail
      rw [rounds_succ]
      go_wp2_with fail
      go_ret2
      exact ⟨0, 0, rfl, hN, hbe⟩
  · rw [decide_eq_false hok] at e1
    have hN := hN (.inl (by omega))
    clear hl hF hbx hc hd hok hyt hzt hx hx2 e4 e3
    go_enter Try.func130, Try.ntmps130
    go_wp2_with fail
    refine (leadByte_any _ _ (by omega) (by omega)).mono ?_
    rintro e w' ⟨rfl, rfl⟩
    have hl : lead b = (b % 16, 3) := by unfold lead; rw [if_neg (by omega), if_neg (by omega), if_pos (by omega)]
    rw [hl]
    clear hl
    go_wp2_with fail
    refine wp_loop_rounds 1 ?_
    rw [rounds_succ]
    go_wp2_with fail
    go_ret2
    exact ⟨0, 0, rfl, hN, hbe⟩

/-- THE FIRST UNIT of bytes that are not none. -/
theorem firstUnit_any (s : ByteArray) (w : World) (hp : 0 < s.size) (hs : s.size ≤ 131072) :
    Calls Try.prog 130 #[.string s] w fun e w' => ∃ u n : Nat, e = .returned (.tuple #[.int .u16 u, .int .i64 n]) ∧ M.First s.data.toList u n ∧ Below w.heap.size w w' := by
  cases hl : s.data.toList with
  | nil => exfalso; have := size_of_list hl; rw [List.length_nil] at this; omega
  | cons x r =>
    rw [← hl]
    have hxt := x.toNat_lt
    by_cases h1 : x.toNat < 128
    · exact first_1 s w x r hl h1 hs
    · by_cases h2 : 192 ≤ x.toNat ∧ x.toNat < 224
      · cases r with
        | nil => exact first_short s w x [] hl (.inl ⟨h2.1, h2.2, rfl⟩) hs
        | cons y r => exact first_2 s w x y r hl h2.1 h2.2 hs
      · by_cases h3 : 224 ≤ x.toNat ∧ x.toNat < 240
        · cases r with
          | nil => exact first_short s w x [] hl (.inr ⟨h3.1, h3.2, by simp⟩) hs
          | cons y r =>
            cases r with
            | nil => exact first_short s w x [y] hl (.inr ⟨h3.1, h3.2, by simp⟩) hs
            | cons z r => exact first_3 s w x y z r hl h3.1 h3.2 hs
        · exact first_lead s w x r hl (by omega) hs
end Go.Proofs.Ytbgpkkbejbidlac.Po
namespace Go.Proofs.Ytbgpkkbejbidlac.Po
set_option maxRecDepth 100000
open Go.RowKit
theorem hide {p : Prop} (h : p) : Hid p := h
theorem unhide {p : Prop} (h : Hid p) : p := h
theorem Try.info39 : (Try.prog.info? 39).map (fun i => (i.zero, i.size, i.bytes)) = some (some (.int .u16 0), 1, 2) := by kernel_rfl
def U16 (l : List Nat) : List Value := l.map fun (u : Nat) => Value.int .u16 (u : Int)
theorem U16_snoc (l : List Nat) (u : Nat) : U16 (l ++ [u]) = U16 l ++ [.int .u16 (u : Int)] := by simp [U16]
theorem own_form {w : World} {base size n : Nat} {e : TypeId} {v : Value} {xs : List Value} (h : w.ownsRow base e size v n xs) (hn : 0 < n) : ∃ g cap, v = .slice (some ⟨g, 0, none⟩) n cap := by
  rcases h.2 with ⟨_, h0⟩ | ⟨g, cap, cur, hv, _⟩
  · omega
  · exact ⟨g, cap, hv⟩
theorem own_below {w w' : World} {base size n : Nat} {e : TypeId} {v : Value} {xs : List Value} (h : w.ownsRow base e size v n xs) {B : Nat} (hB : w.heap.size ≤ B) (hb : Below B w w') : w'.ownsRow base e size v n xs := by
  refine ⟨h.1, ?_⟩
  rcases h.2 with h2 | ⟨g, cap, cur, hv, h3, h4, h5⟩
  · exact .inl h2
  · refine .inr ⟨g, cap, cur, hv, h3, ?_, h5⟩
    rw [hb.block g ?_]
    · exact h4
    · rcases Nat.lt_or_ge g w.heap.size with hg | hg
      · omega
      · rw [Array.getElem?_eq_none hg] at h4; cases h4

/-- What holds of the box B at each head of the loop. -/
def Box (B : Nat) (s : ByteArray) (w wr : World) (k : Nat) (L : List Nat) : Prop :=
  M.Ok L ∧ M.text L = s.data.toList.take k ∧ L.length ≤ k ∧ ∃ v, wr.cell? ⟨B, 0, none⟩ = some v ∧ wr.frozen? ⟨B, 0, none⟩ = false ∧ wr.ownsRow (B + 1) 39 1 v L.length (U16 L) ∧ Below B w wr
theorem Box.step {B : Nat} {s : ByteArray} {w wr w2 w3 : World} {k : Nat} {L : List Nat} {u n : Nat} (h : Box B s w wr k L) (hu : u < 65536) (hn : n = M.size u) (r : List UInt8) (hr : s.data.toList.drop k = M.enc u ++ r) (hk : k < s.size)
    (hb : Below wr.heap.size wr w2) (hBw : B < wr.heap.size) (h3 : Below B w2 w3) (v' : Value) (e1 : w3.cell? ⟨B, 0, none⟩ = some v') (e2 : w3.frozen? ⟨B, 0, none⟩ = false) (e3 : w3.ownsRow (B + 1) 39 1 v' (L ++ [u]).length (U16 (L ++ [u]))) :
    k + n ≤ s.size ∧ Box B s w w3 (k + n) (L ++ [u]) := by
  obtain ⟨a1, a2, a3, v, a4, a5, a6, a7⟩ := h
  have hl : (s.data.toList.drop k).length = s.size - k := by simp
  have hl2 : (M.enc u).length ≤ s.size - k := by rw [← hl, hr]; simp
  rw [M.enc_length, ← hn] at hl2
  refine ⟨by omega, fun x hx => ?_, ?_, ?_, v', e1, e2, e3, a7.trans ((hb.mono (by omega)).trans h3)⟩
  · rcases List.mem_append.1 hx with q | q
    · exact a1 x q
    · simp at q; omega
  · rw [M.text_snoc, a2, List.take_add, hr, List.take_left' (by rw [M.enc_length, hn])]
  · have := (M.size_pos u).1
    rw [List.length_append, List.length_singleton]; omega
theorem Box.stop {B : Nat} {s : ByteArray} {w wr : World} {k : Nat} {L : List Nat} (h : Box B s w wr k L) (hk : k < s.size) (hr : ∀ v, v < 65536 → ∀ r, s.data.toList.drop k ≠ M.enc v ++ r) : M.Units s.data.toList none := by
  obtain ⟨a1, a2, -, -⟩ := h
  have := M.stop_none (r := s.data.toList.drop k) a1 (by intro hh; have := congrArg List.length hh; simp at this; omega) hr
  rwa [a2, List.take_append_drop] at this
theorem drop_extract (s : ByteArray) (k : Nat) : (s.extract k s.size).data.toList = s.data.toList.drop k := by
  rw [ByteArray.data_extract, Array.toList_extract, List.extract_eq_take_drop, List.take_of_length_le]
  simp

/-- What eachUnit leaves: true and the units in the box, or false. -/
def Eached (B : Nat) (s : ByteArray) (w : World) (e : Ending) (w' : World) : Prop :=
  (∃ L v, e = .returned (.bool true) ∧ M.Ok L ∧ M.text L = s.data.toList ∧ L.length ≤ s.size ∧ w'.cell? ⟨B, 0, none⟩ = some v ∧ w'.ownsRow (B + 1) 39 1 v L.length (U16 L) ∧ Below B w w') ∨
  (e = .returned (.bool false) ∧ M.Units s.data.toList none ∧ Below B w w')
/-- What pool.Units leaves. -/
def Unitsed (s : ByteArray) (w : World) (e : Ending) (w' : World) : Prop :=
  (∃ L v, M.Ok L ∧ M.text L = s.data.toList ∧ L.length ≤ s.size ∧ e = .returned (.tuple #[v, .bool true]) ∧ w'.ownsRow (w.heap.size + 1) 39 1 v L.length (U16 L) ∧ Below w.heap.size w w') ∨
  (M.Units s.data.toList none ∧ e = .returned (.tuple #[.slice none 0 0, .bool false]) ∧ Below w.heap.size w w')
end Go.Proofs.Ytbgpkkbejbidlac.Po
