/-
  Plain mathematics of modified UTF-8: units, their bytes, that each is written in just one way. Nothing of the program is named here.
-/
import Derived.Laws.BitsAllLaws
namespace Go.Proofs.Ytlihhfijigoklaa
namespace M
def enc (u : Nat) : List UInt8 :=
  if 0 < u ∧ u < 128 then [UInt8.ofNat u]
  else if u < 2048 then [UInt8.ofNat (192 + u / 64), UInt8.ofNat (128 + u % 64)]
  else [UInt8.ofNat (224 + u / 4096), UInt8.ofNat (128 + u / 64 % 64), UInt8.ofNat (128 + u % 64)]
def text : List Nat → List UInt8
  | [] => []
  | u :: l => enc u ++ text l
def size (u : Nat) : Nat := if 0 < u ∧ u < 128 then 1 else if u < 2048 then 2 else 3
theorem enc_length (u : Nat) : (enc u).length = size u := by
  unfold enc size; split
  · rfl
  · split <;> rfl
theorem size_pos (u : Nat) : 1 ≤ size u ∧ size u ≤ 3 := by
  unfold size; split
  · omega
  · split <;> omega
theorem ofNat_inj {a b : Nat} (ha : a < 256) (hb : b < 256) (h : UInt8.ofNat a = UInt8.ofNat b) : a = b := by
  have := congrArg UInt8.toNat h
  simpa [UInt8.toNat_ofNat', Nat.mod_eq_of_lt ha, Nat.mod_eq_of_lt hb] using this
theorem enc1 {u : Nat} (h : 0 < u ∧ u < 128) : enc u = [UInt8.ofNat u] := by unfold enc; rw [if_pos h]
theorem enc2 {u : Nat} (h : ¬ (0 < u ∧ u < 128)) (h2 : u < 2048) : enc u = [UInt8.ofNat (192 + u / 64), UInt8.ofNat (128 + u % 64)] := by
  unfold enc; rw [if_neg h, if_pos h2]
theorem enc3 {u : Nat} (h2 : ¬ u < 2048) : enc u = [UInt8.ofNat (224 + u / 4096), UInt8.ofNat (128 + u / 64 % 64), UInt8.ofNat (128 + u % 64)] := by
  unfold enc; rw [if_neg (by omega), if_neg h2]
theorem enc_free {u v : Nat} {r t : List UInt8} (hu : u < 65536) (hv : v < 65536) (h : enc u ++ r = enc v ++ t) : u = v ∧ r = t := by
  by_cases a1 : 0 < u ∧ u < 128 <;> by_cases b1 : 0 < v ∧ v < 128
  · rw [enc1 a1, enc1 b1] at h; simp only [List.cons_append, List.nil_append, List.cons.injEq] at h
    exact ⟨ofNat_inj (by omega) (by omega) h.1, h.2⟩
  · by_cases b2 : v < 2048
    · rw [enc1 a1, enc2 b1 b2] at h; simp only [List.cons_append, List.nil_append, List.cons.injEq] at h
      have := ofNat_inj (by omega) (by omega) h.1; omega
    · rw [enc1 a1, enc3 b2] at h; simp only [List.cons_append, List.nil_append, List.cons.injEq] at h
      have := ofNat_inj (by omega) (by omega) h.1; omega
  · by_cases a2 : u < 2048
    · rw [enc1 b1, enc2 a1 a2] at h; simp only [List.cons_append, List.nil_append, List.cons.injEq] at h
      have := ofNat_inj (by omega) (by omega) h.1; omega
    · rw [enc1 b1, enc3 a2] at h; simp only [List.cons_append, List.nil_append, List.cons.injEq] at h
      have := ofNat_inj (by omega) (by omega) h.1; omega
  · by_cases a2 : u < 2048 <;> by_cases b2 : v < 2048
    · rw [enc2 a1 a2, enc2 b1 b2] at h; simp only [List.cons_append, List.nil_append, List.cons.injEq] at h
      have e1 := ofNat_inj (by omega) (by omega) h.1; have e2 := ofNat_inj (by omega) (by omega) h.2.1
      exact ⟨by omega, h.2.2⟩
    · rw [enc2 a1 a2, enc3 b2] at h; simp only [List.cons_append, List.nil_append, List.cons.injEq] at h
      have e1 := ofNat_inj (by omega) (by omega) h.1; omega
    · rw [enc3 a2, enc2 b1 b2] at h; simp only [List.cons_append, List.nil_append, List.cons.injEq] at h
      have e1 := ofNat_inj (by omega) (by omega) h.1; omega
    · rw [enc3 a2, enc3 b2] at h; simp only [List.cons_append, List.nil_append, List.cons.injEq] at h
      have e1 := ofNat_inj (by omega) (by omega) h.1; have e2 := ofNat_inj (by omega) (by omega) h.2.1; have e3 := ofNat_inj (by omega) (by omega) h.2.2.1
      exact ⟨by omega, h.2.2.2⟩
def Ok (l : List Nat) : Prop := ∀ u, u ∈ l → u < 65536
theorem enc_ne (u : Nat) : enc u ≠ [] := by
  intro h; have := enc_length u; rw [h] at this; have := (size_pos u).1; simp at *; omega
theorem text_append (a b : List Nat) : text (a ++ b) = text a ++ text b := by
  induction a with
  | nil => rfl
  | cons u a ih => simp only [List.cons_append, text, ih, List.append_assoc]
theorem text_snoc (a : List Nat) (u : Nat) : text (a ++ [u]) = text a ++ enc u := by rw [text_append]; simp [text]
/-- What is read so far is where each reading of the whole begins. -/
theorem text_split {l m : List Nat} {r : List UInt8} (hl : Ok l) (hm : Ok m) (h : text m = text l ++ r) : ∃ t, m = l ++ t ∧ text t = r ∧ Ok t := by
  induction l generalizing m with
  | nil => exact ⟨m, rfl, by simpa [text] using h, hm⟩
  | cons u l ih =>
    cases m with
    | nil =>
      exfalso; simp only [text, List.append_assoc] at h
      have := enc_ne u; cases he : enc u with
      | nil => exact this he
      | cons a b => rw [he] at h; simp at h
    | cons v m =>
      simp only [text, List.append_assoc] at h
      obtain ⟨e, h2⟩ := enc_free (hm v (by simp)) (hl u (by simp)) h
      subst e
      obtain ⟨t, e1, e2, e3⟩ := ih (fun x hx => hl x (by simp [hx])) (fun x hx => hm x (by simp [hx])) h2
      exact ⟨t, by rw [e1]; rfl, e2, e3⟩
theorem text_inj {l m : List Nat} (hl : Ok l) (hm : Ok m) (h : text l = text m) : l = m := by
  obtain ⟨t, e1, e2, _⟩ := text_split (r := []) hm hl (by simpa using h)
  cases t with
  | nil => simpa using e1
  | cons u t => exfalso; simp only [text] at e2; have := enc_ne u; simp at e2; exact this e2.1
/-- The unit with which bytes begin, in n bytes; n = 0: they begin with none. -/
def First (l : List UInt8) (u n : Nat) : Prop :=
  (u < 65536 ∧ n = size u ∧ ∃ r, l = enc u ++ r) ∨ (n = 0 ∧ u = 0 ∧ ∀ v, v < 65536 → ∀ r, l ≠ enc v ++ r)
/-- What Units answers: these units, or none. -/
def Units (l : List UInt8) (o : Option (List Nat)) : Prop :=
  (∃ m, o = some m ∧ Ok m ∧ text m = l) ∨ (o = none ∧ ∀ m, Ok m → text m ≠ l)
theorem Units.uniq {l : List UInt8} {o p : Option (List Nat)} (h : Units l o) (g : Units l p) : o = p := by
  rcases h with ⟨m, rfl, hm, ht⟩ | ⟨rfl, hn⟩ <;> rcases g with ⟨k, rfl, hk, hs⟩ | ⟨rfl, gn⟩
  · rw [text_inj hm hk (ht.trans hs.symm)]
  · exact absurd ht (gn m hm)
  · exact absurd hs (hn k hk)
  · rfl
theorem stop_none {l : List Nat} {r : List UInt8} (hl : Ok l) (hr : r ≠ []) (h : ∀ v, v < 65536 → ∀ t, r ≠ enc v ++ t) : Units (text l ++ r) none := by
  refine .inr ⟨rfl, fun m hm he => ?_⟩
  obtain ⟨t, _, e2, e3⟩ := text_split hl hm he
  cases t with
  | nil => exact hr (by simpa [text] using e2.symm)
  | cons v t => exact h v (e3 v (by simp)) (text t) (by rw [← e2]; rfl)
theorem b2n (b : UInt8) : b = UInt8.ofNat b.toNat := by simp
/-- One byte alone. -/
theorem begin1 {b : UInt8} {r : List UInt8} {v : Nat} (hv : v < 65536) {t : List UInt8} (h : b :: r = enc v ++ t) :
    (0 < b.toNat ∧ b.toNat < 128 ∧ v = b.toNat) ∨ (192 ≤ b.toNat ∧ b.toNat < 224 ∧ ∃ c, (∃ r', r = c :: r') ∧ 128 ≤ c.toNat ∧ c.toNat < 192 ∧ v = (b.toNat - 192) * 64 + (c.toNat - 128) ∧ ¬ (0 < v ∧ v < 128)) ∨
    (224 ≤ b.toNat ∧ b.toNat < 240 ∧ ∃ c d, (∃ r', r = c :: d :: r') ∧ 128 ≤ c.toNat ∧ c.toNat < 192 ∧ 128 ≤ d.toNat ∧ d.toNat < 192 ∧ v = (b.toNat - 224) * 4096 + (c.toNat - 128) * 64 + (d.toNat - 128) ∧ ¬ v < 2048) := by
  by_cases b1 : 0 < v ∧ v < 128
  · rw [enc1 b1] at h; simp only [List.cons_append, List.nil_append, List.cons.injEq] at h
    have e := congrArg UInt8.toNat h.1
    simp only [UInt8.toNat_ofNat'] at e
    exact .inl (by omega)
  · by_cases b2 : v < 2048
    · rw [enc2 b1 b2] at h; simp only [List.cons_append, List.nil_append, List.cons.injEq] at h
      have e := congrArg UInt8.toNat h.1
      simp only [UInt8.toNat_ofNat'] at e
      refine .inr (.inl ⟨by omega, by omega, _, ⟨t, h.2⟩, ?_⟩)
      simp only [UInt8.toNat_ofNat']
      omega
    · rw [enc3 b2] at h; simp only [List.cons_append, List.nil_append, List.cons.injEq] at h
      have e := congrArg UInt8.toNat h.1
      simp only [UInt8.toNat_ofNat'] at e
      refine .inr (.inr ⟨by omega, by omega, _, _, ⟨t, h.2⟩, ?_⟩)
      simp only [UInt8.toNat_ofNat']
      omega
theorem enc_of1 {b : UInt8} (h : 0 < b.toNat ∧ b.toNat < 128) : enc b.toNat = [b] := by rw [enc1 h]; simp
theorem enc_of2 {b c : UInt8} {v : Nat} (h1 : 192 ≤ b.toNat) (h2 : b.toNat < 224) (h3 : 128 ≤ c.toNat) (h4 : c.toNat < 192) (hv : v = (b.toNat - 192) * 64 + (c.toNat - 128)) (hn : ¬ (0 < v ∧ v < 128)) : enc v = [b, c] := by
  rw [enc2 hn (by omega)]
  rw [show 192 + v / 64 = b.toNat by omega, show 128 + v % 64 = c.toNat by omega]; simp
theorem enc_of3 {b c d : UInt8} {v : Nat} (h1 : 224 ≤ b.toNat) (h2 : b.toNat < 240) (h3 : 128 ≤ c.toNat) (h4 : c.toNat < 192) (h5 : 128 ≤ d.toNat) (h6 : d.toNat < 192) (hv : v = (b.toNat - 224) * 4096 + (c.toNat - 128) * 64 + (d.toNat - 128)) (hn : ¬ v < 2048) : enc v = [b, c, d] := by
  rw [enc3 hn]
  rw [show 224 + v / 4096 = b.toNat by omega, show 128 + v / 64 % 64 = c.toNat by omega, show 128 + v % 64 = d.toNat by omega]; simp
end M
end Go.Proofs.Ytlihhfijigoklaa
