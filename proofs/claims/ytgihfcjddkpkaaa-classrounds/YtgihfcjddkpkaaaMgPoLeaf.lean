/-
  Plain mathematics of modified UTF-8: units, their bytes, that each is written in just one way. Nothing of the program is named here.
  The leaves: unitSize, tailByte, leadByte of package pool.
-/
import Derived.Test.YtgihfcjddkpkaaaProg
import Derived.Laws.BitsAllLaws
import Derived.WalkKit
import Derived.WalkSpells
import Derived.WalkLawsBesides
namespace Go.Proofs.Ytgihfcjddkpkaaa.Po
set_option maxRecDepth 100000
namespace M
def enc (u : Nat) : List UInt8 :=
  if 0 < u ∧ u < 128 then [UInt8.ofNat u]
  else if u < 2048 then [UInt8.ofNat (192 + u / 64), UInt8.ofNat (128 + u % 64)]
  else [UInt8.ofNat (224 + u / 4096), UInt8.ofNat (128 + u / 64 % 64), UInt8.ofNat (128 + u % 64)]
def text : List Nat → List UInt8
  | [] => []
  | u :: l => enc u ++ text l
def size (u : Nat) : Nat := if 0 < u ∧ u < 128 then 1 else if u < 2048 then 2 else 3
theorem enc_length (u : Nat) : (enc u).length = size u := by
  unfold enc size; split
  · rfl
  · split <;> rfl
theorem size_pos (u : Nat) : 1 ≤ size u ∧ size u ≤ 3 := by
  unfold size; split
  · omega
  · split <;> omega
theorem ofNat_inj {a b : Nat} (ha : a < 256) (hb : b < 256) (h : UInt8.ofNat a = UInt8.ofNat b) : a = b := by
  have := congrArg UInt8.toNat h
  simpa [UInt8.toNat_ofNat', Nat.mod_eq_of_lt ha, Nat.mod_eq_of_lt hb] using this
theorem enc1 {u : Nat} (h : 0 < u ∧ u < 128) : enc u = [UInt8.ofNat u] := by unfold enc; rw [if_pos h]
theorem enc2 {u : Nat} (h : ¬ (0 < u ∧ u < 128)) (h2 : u < 2048) : enc u = [UInt8.ofNat (192 + u / 64), UInt8.ofNat (128 + u % 64)] := by
  unfold enc; rw [if_neg h, if_pos h2]
theorem enc3 {u : Nat} (h2 : ¬ u < 2048) : enc u = [UInt8.ofNat (224 + u / 4096), UInt8.ofNat (128 + u / 64 % 64), UInt8.ofNat (128 + u % 64)] := by
  unfold enc; rw [if_neg (by omega), if_neg h2]
theorem enc_free {u v : Nat} {r t : List UInt8} (hu : u < 65536) (hv : v < 65536) (h : enc u ++ r = enc v ++ t) : u = v ∧ r = t := by
  by_cases a1 : 0 < u ∧ u < 128 <;> by_cases b1 : 0 < v ∧ v < 128
  · rw [enc1 a1, enc1 b1] at h; simp only [List.cons_append, List.nil_append, List.cons.injEq] at h
    exact ⟨ofNat_inj (by omega) (by omega) h.1, h.2⟩
  · by_cases b2 : v < 2048
    · rw [enc1 a1, enc2 b1 b2] at h; simp only [List.cons_append, List.nil_append, List.cons.injEq] at h
      have := ofNat_inj (by omega) (by omega) h.1; omega
    · rw [enc1 a1, enc3 b2] at h; simp only [List.cons_append, List.nil_append, List.cons.injEq] at h
      have := ofNat_inj (by omega) (by omega) h.1; omega
  · by_cases a2 : u < 2048
    · rw [enc1 b1, enc2 a1 a2] at h; simp only [List.cons_append, List.nil_append, List.cons.injEq] at h
      have := ofNat_inj (by omega) (by omega) h.1; omega
    · rw [enc1 b1, enc3 a2] at h; simp only [List.cons_append, List.nil_append, List.cons.injEq] at h
      have := ofNat_inj (by omega) (by omega) h.1; omega
  · by_cases a2 : u < 2048 <;> by_cases b2 : v < 2048
    · rw [enc2 a1 a2, enc2 b1 b2] at h; simp only [List.cons_append, List.nil_append, List.cons.injEq] at h
      have e1 := ofNat_inj (by omega) (by omega) h.1; have e2 := ofNat_inj (by omega) (by omega) h.2.1
      exact ⟨by omega, h.2.2⟩
    · rw [enc2 a1 a2, enc3 b2] at h; simp only [List.cons_append, List.nil_append, List.cons.injEq] at h
      have e1 := ofNat_inj (by omega) (by omega) h.1; omega
    · rw [enc3 a2, enc2 b1 b2] at h; simp only [List.cons_append, List.nil_append, List.cons.injEq] at h
      have e1 := ofNat_inj (by omega) (by omega) h.1; omega
    · rw [enc3 a2, enc3 b2] at h; simp only [List.cons_append, List.nil_append, List.cons.injEq] at h
      have e1 := ofNat_inj (by omega) (by omega) h.1; have e2 := ofNat_inj (by omega) (by omega) h.2.1; have e3 := ofNat_inj (by omega) (by omega) h.2.2.1
      exact ⟨by omega, h.2.2.2⟩
def Ok (l : List Nat) : Prop := ∀ u, u ∈ l → u < 65536
theorem enc_ne (u : Nat) : enc u ≠ [] := by
  intro h; have := enc_length u; rw [h] at this; have := (size_pos u).1; simp at *; omega
theorem text_append (a b : List Nat) : text (a ++ b) = text a ++ text b := by
  induction a with
  | nil => rfl
  | cons u a ih => simp only [List.cons_append, text, ih, List.append_assoc]
theorem text_snoc (a : List Nat) (u : Nat) : text (a ++ [u]) = text a ++ enc u := by rw [text_append]; simp [text]
/-- What is read so far is where each reading of the whole begins. -/
theorem text_split {l m : List Nat} {r : List UInt8} (hl : Ok l) (hm : Ok m) (h : text m = text l ++ r) : ∃ t, m = l ++ t ∧ text t = r ∧ Ok t := by
  induction l generalizing m with
  | nil => exact ⟨m, rfl, by simpa [text] using h, hm⟩
  | cons u l ih =>
    cases m with
    | nil =>
      exfalso; simp only [text, List.append_assoc] at h
      have := enc_ne u; cases he : enc u with
      | nil => exact this he
      | cons a b => rw [he] at h; simp at h
    | cons v m =>
      simp only [text, List.append_assoc] at h
      obtain ⟨e, h2⟩ := enc_free (hm v (by simp)) (hl u (by simp)) h
      subst e
      obtain ⟨t, e1, e2, e3⟩ := ih (fun x hx => hl x (by simp [hx])) (fun x hx => hm x (by simp [hx])) h2
      exact ⟨t, by rw [e1]; rfl, e2, e3⟩
theorem text_inj {l m : List Nat} (hl : Ok l) (hm : Ok m) (h : text l = text m) : l = m := by
  obtain ⟨t, e1, e2, _⟩ := text_split (r := []) hm hl (by simpa using h)
  cases t with
  | nil => simpa using e1
  | cons u t => exfalso; simp only [text] at e2; have := enc_ne u; simp at e2; exact this e2.1
/-- The unit with which bytes begin, in n bytes; n = 0: they begin with none. -/
def First (l : List UInt8) (u n : Nat) : Prop :=
  (u < 65536 ∧ n = size u ∧ ∃ r, l = enc u ++ r) ∨ (n = 0 ∧ u = 0 ∧ ∀ v, v < 65536 → ∀ r, l ≠ enc v ++ r)
/-- What Units answers: these units, or none. -/
def Units (l : List UInt8) (o : Option (List Nat)) : Prop :=
  (∃ m, o = some m ∧ Ok m ∧ text m = l) ∨ (o = none ∧ ∀ m, Ok m → text m ≠ l)
theorem Units.uniq {l : List UInt8} {o p : Option (List Nat)} (h : Units l o) (g : Units l p) : o = p := by
  rcases h with ⟨m, rfl, hm, ht⟩ | ⟨rfl, hn⟩ <;> rcases g with ⟨k, rfl, hk, hs⟩ | ⟨rfl, gn⟩
  · rw [text_inj hm hk (ht.trans hs.symm)]
  · exact absurd ht (gn m hm)
  · exact absurd hs (hn k hk)
  · rfl
theorem stop_none {l : List Nat} {r : List UInt8} (hl : Ok l) (hr : r ≠ []) (h : ∀ v, v < 65536 → ∀ t, r ≠ enc v ++ t) : Units (text l ++ r) none := by
  refine .inr ⟨rfl, fun m hm he => ?_⟩
  obtain ⟨t, _, e2, e3⟩ := text_split hl hm he
  cases t with
  | nil => exact hr (by simpa [text] using e2.symm)
  | cons v t => exact h v (e3 v (by simp)) (text t) (by rw [← e2]; rfl)
theorem b2n (b : UInt8) : b = UInt8.ofNat b.toNat := by simp
/-- One byte alone. -/
theorem begin1 {b : UInt8} {r : List UInt8} {v : Nat} (hv : v < 65536) {t : List UInt8} (h : b :: r = enc v ++ t) :
    (0 < b.toNat ∧ b.toNat < 128 ∧ v = b.toNat) ∨ (192 ≤ b.toNat ∧ b.toNat < 224 ∧ ∃ c, (∃ r', r = c :: r') ∧ 128 ≤ c.toNat ∧ c.toNat < 192 ∧ v = (b.toNat - 192) * 64 + (c.toNat - 128) ∧ ¬ (0 < v ∧ v < 128)) ∨
    (224 ≤ b.toNat ∧ b.toNat < 240 ∧ ∃ c d, (∃ r', r = c :: d :: r') ∧ 128 ≤ c.toNat ∧ c.toNat < 192 ∧ 128 ≤ d.toNat ∧ d.toNat < 192 ∧ v = (b.toNat - 224) * 4096 + (c.toNat - 128) * 64 + (d.toNat - 128) ∧ ¬ v < 2048) := by
  by_cases b1 : 0 < v ∧ v < 128
  · rw [enc1 b1] at h; simp only [List.cons_append, List.nil_append, List.cons.injEq] at h
    have e := congrArg UInt8.toNat h.1
    simp only [UInt8.toNat_ofNat'] at e
    exact .inl (by omega)
  · by_cases b2 : v < 2048
    · rw [enc2 b1 b2] at h; simp only [List.cons_append, List.nil_append, List.cons.injEq] at h
      have e := congrArg UInt8.toNat h.1
      simp only [UInt8.toNat_ofNat'] at e
      refine .inr (.inl ⟨by omega, by omega, _, ⟨t, h.2⟩, ?_⟩)
      simp only [UInt8.toNat_ofNat']
      omega
    · rw [enc3 b2] at h; simp only [List.cons_append, List.nil_append, List.cons.injEq] at h
      have e := congrArg UInt8.toNat h.1
      simp only [UInt8.toNat_ofNat'] at e
      refine .inr (.inr ⟨by omega, by omega, _, _, ⟨t, h.2⟩, ?_⟩)
      simp only [UInt8.toNat_ofNat']
      omega
theorem enc_of1 {b : UInt8} (h : 0 < b.toNat ∧ b.toNat < 128) : enc b.toNat = [b] := by rw [enc1 h]; simp
theorem enc_of2 {b c : UInt8} {v : Nat} (h1 : 192 ≤ b.toNat) (h2 : b.toNat < 224) (h3 : 128 ≤ c.toNat) (h4 : c.toNat < 192) (hv : v = (b.toNat - 192) * 64 + (c.toNat - 128)) (hn : ¬ (0 < v ∧ v < 128)) : enc v = [b, c] := by
  rw [enc2 hn (by omega)]
  rw [show 192 + v / 64 = b.toNat by omega, show 128 + v % 64 = c.toNat by omega]; simp
theorem enc_of3 {b c d : UInt8} {v : Nat} (h1 : 224 ≤ b.toNat) (h2 : b.toNat < 240) (h3 : 128 ≤ c.toNat) (h4 : c.toNat < 192) (h5 : 128 ≤ d.toNat) (h6 : d.toNat < 192) (hv : v = (b.toNat - 224) * 4096 + (c.toNat - 128) * 64 + (d.toNat - 128)) (hn : ¬ v < 2048) : enc v = [b, c, d] := by
  rw [enc3 hn]
  rw [show 224 + v / 4096 = b.toNat by omega, show 128 + v / 64 % 64 = c.toNat by omega, show 128 + v % 64 = d.toNat by omega]; simp
end M
end Go.Proofs.Ytgihfcjddkpkaaa.Po
namespace Go.Proofs.Ytgihfcjddkpkaaa.Po
set_option maxRecDepth 100000
open Go.RowKit

theorem and128 (n : Int) (h0 : 0 ≤ n) (h1 : n ≤ 255) : (bits BinOp.and IntKind.u8 n 128 == 0) = decide (n < 128) := by
  have h : ∀ k : Fin 256, (bits BinOp.and IntKind.u8 (k.val : Int) 128 == 0) = decide ((k.val : Int) < 128) := by decide +kernel
  have := h ⟨n.toNat, by omega⟩; rwa [show ((n.toNat : Nat) : Int) = n by omega] at this
theorem and224 (n : Int) (h0 : 0 ≤ n) (h1 : n ≤ 255) : (bits BinOp.and IntKind.u8 n 224 == 192) = decide (192 ≤ n ∧ n < 224) := by
  have h : ∀ k : Fin 256, (bits BinOp.and IntKind.u8 (k.val : Int) 224 == 192) = decide (192 ≤ (k.val : Int) ∧ (k.val : Int) < 224) := by decide +kernel
  have := h ⟨n.toNat, by omega⟩; rwa [show ((n.toNat : Nat) : Int) = n by omega] at this
theorem and240 (n : Int) (h0 : 0 ≤ n) (h1 : n ≤ 255) : (bits BinOp.and IntKind.u8 n 240 == 224) = decide (224 ≤ n ∧ n < 240) := by
  have h : ∀ k : Fin 256, (bits BinOp.and IntKind.u8 (k.val : Int) 240 == 224) = decide (224 ≤ (k.val : Int) ∧ (k.val : Int) < 240) := by decide +kernel
  have := h ⟨n.toNat, by omega⟩; rwa [show ((n.toNat : Nat) : Int) = n by omega] at this
theorem and192 (n : Int) (h0 : 0 ≤ n) (h1 : n ≤ 255) : (bits BinOp.and IntKind.u8 n 192 != 128) = !decide (128 ≤ n ∧ n < 192) := by
  have h : ∀ k : Fin 256, (bits BinOp.and IntKind.u8 (k.val : Int) 192 != 128) = !decide (128 ≤ (k.val : Int) ∧ (k.val : Int) < 192) := by decide +kernel
  have := h ⟨n.toNat, by omega⟩; rwa [show ((n.toNat : Nat) : Int) = n by omega] at this
theorem or128 (n : Int) (h0 : 0 ≤ n) (h1 : n < 64) : bits BinOp.or IntKind.u8 128 n = 128 + n := by
  have h : ∀ k : Fin 64, bits BinOp.or IntKind.u8 128 (k.val : Int) = 128 + (k.val : Int) := by decide +kernel
  have := h ⟨n.toNat, by omega⟩; rwa [show ((n.toNat : Nat) : Int) = n by omega] at this
theorem or192 (n : Int) (h0 : 0 ≤ n) (h1 : n < 32) : bits BinOp.or IntKind.u8 192 n = 192 + n := by
  have h : ∀ k : Fin 32, bits BinOp.or IntKind.u8 192 (k.val : Int) = 192 + (k.val : Int) := by decide +kernel
  have := h ⟨n.toNat, by omega⟩; rwa [show ((n.toNat : Nat) : Int) = n by omega] at this
theorem or224 (n : Int) (h0 : 0 ≤ n) (h1 : n < 16) : bits BinOp.or IntKind.u8 224 n = 224 + n := by
  have h : ∀ k : Fin 16, bits BinOp.or IntKind.u8 224 (k.val : Int) = 224 + (k.val : Int) := by decide +kernel
  have := h ⟨n.toNat, by omega⟩; rwa [show ((n.toNat : Nat) : Int) = n by omega] at this
theorem and63 (n : Int) (h0 : 0 ≤ n) (h1 : n ≤ 65535) : bits BinOp.and IntKind.u16 n 63 = n % 64 := by
  rw [u16_and n 63 h0 (by omega) (by omega) (by omega)]
  have := Nat.and_two_pow_sub_one_eq_mod n.toNat 6
  simp only [Nat.reducePow, Nat.reduceSub] at this
  rw [show (63 : Int).toNat = 63 from rfl, this]; omega
theorem or16 (a b : Int) (h0 : 0 ≤ a) (h1 : a ≤ 1023) (h2 : 0 ≤ b) (h3 : b < 64) : bits BinOp.or IntKind.u16 (a * 64) b = a * 64 + b := by
  rw [u16_or (a * 64) b (by omega) (by omega) (by omega) (by omega)]
  have := Nat.two_pow_add_eq_or_of_lt (i := 6) (b := b.toNat) (by omega) a.toNat
  simp only [Nat.reducePow] at this
  rw [show (a * 64).toNat = 64 * a.toNat by omega, ← this]; omega

set_option maxHeartbeats 400000 in
theorem unitSize_any (n : Nat) (w : World) (h1 : n < 65536) :
    Calls Try.prog 132 #[.int .u16 n] w fun e w' => e = .returned (.int .i64 (M.size n)) ∧ w' = w := by
  have hs : ((M.size n : Nat) : Int) = if 1 ≤ (n : Int) ∧ (n : Int) ≤ 127 then 1 else if (n : Int) ≤ 2047 then 2 else 3 := by
    unfold M.size; split <;> split <;> (try split) <;> (try split) <;> omega
  rw [hs]; clear hs
  go_enter Try.func132, Try.ntmps132
  go_wp2
  all_goals go_ret
  all_goals exact ⟨rfl, rfl⟩
/-- The first byte of a unit: its bits, and how many bytes the unit has by it. -/
def lead (n : Int) : Int × Int := if n < 128 then (n, 1) else if 192 ≤ n ∧ n < 224 then (n % 32, 2) else if 224 ≤ n ∧ n < 240 then (n % 16, 3) else (0, 0)
set_option maxHeartbeats 400000 in
theorem leadByte_any (n : Int) (w : World) (h0 : 0 ≤ n) (h1 : n ≤ 255) :
    Calls Try.prog 131 #[.int .u8 n] w fun e w' => e = .returned (.tuple #[.int .u16 (lead n).1, .int .i64 (lead n).2]) ∧ w' = w := by
  have e1 := and128 n h0 h1
  have e2 := and224 n h0 h1
  have e3 := and240 n h0 h1
  unfold lead
  by_cases a : n < 128
  · rw [if_pos a]; simp only [a, decide_true] at e1
    go_enter Try.func131, Try.ntmps131
    go_wp2
    go_ret2
    exact ⟨rfl, rfl⟩
  · rw [if_neg a]; simp only [a, decide_false] at e1
    by_cases b : 192 ≤ n ∧ n < 224
    · rw [if_pos b]; simp only [b, and_self, decide_true] at e2
      go_enter Try.func131, Try.ntmps131
      go_wp2
      go_ret2
      exact ⟨rfl, rfl⟩
    · rw [if_neg b]; rw [decide_eq_false b] at e2
      by_cases c : 224 ≤ n ∧ n < 240
      · rw [if_pos c]; simp only [c, and_self, decide_true] at e3
        clear b
        go_enter Try.func131, Try.ntmps131
        go_wp2
        go_ret2
        exact ⟨rfl, rfl⟩
      · rw [if_neg c]; rw [decide_eq_false c] at e3
        clear b c
        go_enter Try.func131, Try.ntmps131
        go_wp2
        go_ret2
        exact ⟨rfl, rfl⟩
end Go.Proofs.Ytgihfcjddkpkaaa.Po
