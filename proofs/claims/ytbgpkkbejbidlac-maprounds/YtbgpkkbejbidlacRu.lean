/-
  A frame that is written is read as it was: plain mathematics.
-/
import Derived.Test.YtbgpkkbejbidlacRt
namespace Go.Proofs.Ytbgpkkbejbidlac
set_option linter.unusedSimpArgs false
namespace M
theorem sh_take : ∀ (f a : List T), f.take (sh f a) = a.take (sh f a)
  | [], b => by simp [sh]
  | a :: l, [] => by simp [sh]
  | a :: l, b :: m => by
    rw [sh]; split
    · rename_i h
      rw [List.take_succ_cons, List.take_succ_cons, sh_take l m, (T.eqb_iff a b).1 h]
    · rfl
theorem sh_app (L M : List T) : sh (L ++ M) L = L.length := by
  induction L with
  | nil => cases M <;> simp [sh]
  | cons t L ih => rw [List.cons_append, sh, if_pos ((T.eqb_iff t t).2 rfl), ih]; rfl
theorem sh_self (L : List T) : sh L L = L.length := by have := sh_app L []; simpa using this
theorem sh_pre (L : List T) (k : Nat) (hk : k ≤ L.length) : sh (L.take k) L = k := by
  induction L generalizing k with
  | nil => simp at hk; subst hk; simp [sh]
  | cons t L ih =>
    cases k with
    | zero => simp [sh]
    | succ k => rw [List.take_succ_cons, sh, if_pos ((T.eqb_iff t t).2 rfl), ih k (by simpa using hk)]
theorem form_cases (h less more d : Nat) :
    (less = 0 ∧ more = 0 ∧ h = 0 ∧ d < 64 ∧ form h less more d = d) ∨ (less = 0 ∧ more = 0 ∧ h = 1 ∧ d < 64 ∧ form h less more d = 64 + d) ∨ (less = 0 ∧ more = 0 ∧ h = 1 ∧ 64 ≤ d ∧ form h less more d = 247) ∨
    (h = 0 ∧ more = 0 ∧ less ≤ 3 ∧ form h less more d = 251 - less) ∨ (h = 0 ∧ less = 0 ∧ 1 ≤ more ∧ more ≤ 3 ∧ form h less more d = 251 + more) ∨ form h less more d = 255 := by
  unfold form
  by_cases c1 : less = 0 ∧ more = 0 ∧ h = 0 ∧ d < 64
  · rw [if_pos c1]; exact .inl ⟨c1.1, c1.2.1, c1.2.2.1, c1.2.2.2, rfl⟩
  rw [if_neg c1]
  by_cases c2 : less = 0 ∧ more = 0 ∧ h = 1 ∧ d < 64
  · rw [if_pos c2]; exact .inr (.inl ⟨c2.1, c2.2.1, c2.2.2.1, c2.2.2.2, rfl⟩)
  rw [if_neg c2]
  by_cases c3 : less = 0 ∧ more = 0 ∧ h = 1
  · rw [if_pos c3]; exact .inr (.inr (.inl ⟨c3.1, c3.2.1, c3.2.2, by omega, rfl⟩))
  rw [if_neg c3]
  by_cases c4 : h = 0 ∧ more = 0 ∧ less ≤ 3
  · rw [if_pos c4]; exact .inr (.inr (.inr (.inl ⟨c4.1, c4.2.1, c4.2.2, rfl⟩)))
  rw [if_neg c4]
  by_cases c5 : h = 0 ∧ less = 0 ∧ more ≤ 3
  · rw [if_pos c5]; exact .inr (.inr (.inr (.inr (.inl ⟨c5.1, c5.2.1, by omega, c5.2.2, rfl⟩))))
  rw [if_neg c5]
  exact .inr (.inr (.inr (.inr (.inr rfl))))
/-- The next frame, of what its first byte and the delta are. -/
theorem frame_of {s : List UInt8} {P : List K} {a : Fm} {st : St} {x d : Nat} {s1 s2 : St} (h1 : rd s 1 st = (x, s1)) (e1 : s1.e = 0) (hx : ¬ (128 ≤ x ∧ x < 247)) (h2 : dlt s x s1 = (d, s2)) :
    frame s P a st = (⟨a.at_ + 1 + (d : Int), (body s P a.locals x st.pos s2).1, (body s P a.locals x st.pos s2).2.1⟩, (body s P a.locals x st.pos s2).2.2) := by
  unfold frame
  rw [h1]
  simp only
  rw [if_neg (fun g => g e1), if_neg hx, h2]
set_option maxRecDepth 100000 in
theorem frame_frw {s r b : List UInt8} {P : List K} {f a : Fm} {q p : Nat} (ha : -1 ≤ a.at_) (hb : frw P f a = .ok b)
    (hr1 : ∀ t ∈ f.locals.drop (if ftag f a = 255 then 0 else sh f.locals a.locals), Rok t) (hr2 : ∀ t ∈ f.stack, Rok t) (hs : s.drop q = b ++ r) (hq : q ≤ s.length) :
    frame s P a ⟨q, 0, p⟩ = (f, ⟨q + b.length, 0, p⟩) ∧ s.drop (q + b.length) = r ∧ q + b.length ≤ s.length := by
  unfold frw at hb
  by_cases hbad : f.at_ ≤ a.at_ ∨ 65535 < f.at_ ∨ 65535 < f.locals.length ∨ 65535 < f.stack.length
  · rw [if_pos hbad] at hb; cases hb
  rw [if_neg hbad] at hb
  obtain ⟨d, hd⟩ : ∃ d, d = (f.at_ - a.at_ - 1).toNat := ⟨_, rfl⟩
  have hat : f.at_ = a.at_ + 1 + (d : Int) := by omega
  have hd2 : d < 65536 := by omega
  rw [← hd] at hb
  have hT := sh_take f.locals a.locals
  have hS := sh_le f.locals a.locals
  have hF := form_cases f.stack.length (a.locals.length - sh f.locals a.locals) (f.locals.length - sh f.locals a.locals) d
  have hft : ftag f a = form f.stack.length (a.locals.length - sh f.locals a.locals) (f.locals.length - sh f.locals a.locals) d := by unfold ftag; rw [hd]
  rw [← hft] at hF
  have hlt : ftag f a < 256 := form_lt _ _ _ _
  obtain ⟨x, hx⟩ : ∃ x, x = ftag f a := ⟨_, rfl⟩
  obtain ⟨S, hSe⟩ : ∃ S, S = sh f.locals a.locals := ⟨_, rfl⟩
  rw [← hx] at hb hF hlt hr1
  rw [← hSe] at hb hF hT hS hr1
  clear hft hd hx hSe
  cases hv : vts P (f.locals.drop (if x = 255 then 0 else S)) with
  | error e => rw [hv] at hb; cases hb
  | ok b1 =>
  rw [hv] at hb
  simp only at hb
  cases hw : vts P f.stack with
  | error e => rw [hw] at hb; cases hb
  | ok b2 =>
  rw [hw] at hb
  cases hb
  obtain ⟨fat, fl, fs⟩ := f
  simp only at hat hT hS hF hv hw hr1 hr2 hs hbad ⊢
  subst hat
  have hto : (UInt8.ofNat x).toNat = x := by rw [UInt8.toNat_ofNat']; omega
  obtain ⟨e1, e2, e3⟩ := rd_one (p := p) (x := UInt8.ofNat x) (r := (if 247 ≤ x then big d 2 else []) ++ (if x = 255 then big fl.length 2 else []) ++ b1 ++ (if x = 255 then big fs.length 2 else []) ++ b2 ++ r) (by simpa using hs) hq
  rw [hto] at e1
  rcases hF with ⟨c1, c2, c3, c4, c5⟩ | ⟨c1, c2, c3, c4, c5⟩ | ⟨c1, c2, c3, c4, c5⟩ | ⟨c1, c2, c3, c5⟩ | ⟨c1, c2, c3, c4, c5⟩ | c5
  · -- the same
    rw [if_neg (by omega)] at hv
    rw [if_neg (by omega), if_neg (by omega), if_neg (by omega)] at e2 ⊢
    rw [show fl.drop S = [] from List.drop_eq_nil_of_le (by omega)] at hv
    cases hv
    have : fs = [] := List.length_eq_zero_iff.1 c3
    subst this
    cases hw
    have hfl : fl = a.locals := by rw [List.take_of_length_le (by omega), List.take_of_length_le (by omega)] at hT; exact hT
    rw [frame_of e1 rfl (by omega) (d := d) (s2 := ⟨q + 1, 0, p⟩) (by unfold dlt; rw [if_pos (by omega), c5])]
    have hB : body s P a.locals x q ⟨q + 1, 0, p⟩ = (a.locals, [], ⟨q + 1, 0, p⟩) := by unfold body; rw [if_neg (fun g => g rfl), if_neg (by omega), if_neg (by omega), if_neg (by omega), if_neg (by omega)]
    simp only [hB]
    exact ⟨by rw [hfl]; rfl, by simpa using e2, by simpa using e3⟩
  · -- the same, one on the stack
    rw [if_neg (by omega)] at hv
    rw [if_neg (by omega), if_neg (by omega), if_neg (by omega)] at e2 ⊢
    rw [show fl.drop S = [] from List.drop_eq_nil_of_le (by omega)] at hv
    cases hv
    obtain ⟨v1, v2, v3⟩ := vals_vts (p := p) (r := r) hr2 hw (by simpa using e2) e3
    rw [c3] at v1
    have hfl : fl = a.locals := by rw [List.take_of_length_le (by omega), List.take_of_length_le (by omega)] at hT; exact hT
    rw [frame_of e1 rfl (by omega) (d := d) (s2 := ⟨q + 1, 0, p⟩) (by unfold dlt; rw [if_neg (by omega), if_pos (by omega), c5, Nat.add_sub_cancel_left])]
    have hB : body s P a.locals x q ⟨q + 1, 0, p⟩ = (a.locals, fs, ⟨q + 1 + b2.length, 0, p⟩) := by unfold body; rw [if_neg (fun g => g rfl), if_neg (by omega), if_neg (by omega), if_neg (by omega), if_pos (by omega), v1]
    simp only [hB, List.append_nil, List.length_append, List.length_cons, List.length_nil, Nat.zero_add, ← Nat.add_assoc]
    exact ⟨by rw [hfl], v2, v3⟩
  · -- the same, one on the stack, far
    rw [if_neg (by omega)] at hv
    rw [if_pos (by omega), if_neg (by omega), if_neg (by omega)] at e2 ⊢
    rw [show fl.drop S = [] from List.drop_eq_nil_of_le (by omega)] at hv
    cases hv
    obtain ⟨g1, g2, g3⟩ := rd_two (p := p) (n := d) (r := b2 ++ r) (by simpa using e2) hd2 e3
    obtain ⟨v1, v2, v3⟩ := vals_vts (p := p) (r := r) hr2 hw g2 g3
    rw [c3] at v1
    have hfl : fl = a.locals := by rw [List.take_of_length_le (by omega), List.take_of_length_le (by omega)] at hT; exact hT
    rw [frame_of e1 rfl (by omega) (d := d) (s2 := ⟨q + 1 + 2, 0, p⟩) (by unfold dlt; rw [if_neg (by omega), if_neg (by omega), g1])]
    have hB : body s P a.locals x q ⟨q + 1 + 2, 0, p⟩ = (a.locals, fs, ⟨q + 1 + 2 + b2.length, 0, p⟩) := by unfold body; rw [if_neg (fun g => g rfl), if_neg (by omega), if_neg (by omega), if_neg (by omega), if_pos (by omega), v1]
    simp only [hB, List.append_nil, List.length_append, List.length_cons, List.length_nil, Nat.zero_add, big_len]
    have hz : q + (2 + 1 + b2.length) = q + 1 + 2 + b2.length := by omega
    rw [hz]
    exact ⟨by rw [hfl], v2, v3⟩
  · -- fewer
    rw [if_neg (by omega)] at hv
    rw [if_pos (by omega), if_neg (by omega), if_neg (by omega)] at e2 ⊢
    rw [show fl.drop S = [] from List.drop_eq_nil_of_le (by omega)] at hv
    cases hv
    have : fs = [] := List.length_eq_zero_iff.1 c1
    subst this
    cases hw
    obtain ⟨g1, g2, g3⟩ := rd_two (p := p) (n := d) (r := r) (by simpa using e2) hd2 e3
    have hfl : fl = a.locals.take S := by rw [List.take_of_length_le (by omega)] at hT; exact hT
    rw [frame_of e1 rfl (by omega) (d := d) (s2 := ⟨q + 1 + 2, 0, p⟩) (by unfold dlt; rw [if_neg (by omega), if_neg (by omega), g1])]
    have hB : body s P a.locals x q ⟨q + 1 + 2, 0, p⟩ = (a.locals.take S, [], ⟨q + 1 + 2, 0, p⟩) := by
      unfold body
      rw [if_neg (fun g => g rfl), if_neg (by omega), if_neg (by omega), if_pos (by omega), if_neg (by omega), show a.locals.length - (251 - x) = S by omega]
    simp only [hB, List.append_nil, List.length_append, List.length_cons, List.length_nil, Nat.zero_add, big_len]
    have hz : q + (2 + 1) = q + 1 + 2 := by omega
    rw [hz]
    exact ⟨by rw [hfl], g2, g3⟩
  · -- more
    rw [if_neg (by omega)] at hv hr1
    rw [if_pos (by omega), if_neg (by omega), if_neg (by omega)] at e2 ⊢
    have : fs = [] := List.length_eq_zero_iff.1 c1
    subst this
    cases hw
    obtain ⟨g1, g2, g3⟩ := rd_two (p := p) (n := d) (r := b1 ++ r) (by simpa using e2) hd2 e3
    obtain ⟨v1, v2, v3⟩ := vals_vts (p := p) (r := r) hr1 hv g2 g3
    rw [List.length_drop] at v1
    have hfl : fl = a.locals ++ fl.drop S := by
      have hc := List.take_append_drop S fl
      rw [hT, List.take_of_length_le (by omega)] at hc
      exact hc.symm
    rw [frame_of e1 rfl (by omega) (d := d) (s2 := ⟨q + 1 + 2, 0, p⟩) (by unfold dlt; rw [if_neg (by omega), if_neg (by omega), g1])]
    have hB : body s P a.locals x q ⟨q + 1 + 2, 0, p⟩ = (a.locals ++ fl.drop S, [], ⟨q + 1 + 2 + b1.length, 0, p⟩) := by
      unfold body
      rw [if_neg (fun g => g rfl), if_neg (by omega), if_pos (by omega), show x - 251 = fl.length - S by omega, v1]
    simp only [hB, List.append_nil, List.length_append, List.length_cons, List.length_nil, Nat.zero_add, big_len]
    have hz : q + (2 + 1 + b1.length) = q + 1 + 2 + b1.length := by omega
    rw [hz, ← hfl]
    exact ⟨rfl, v2, v3⟩
  · -- full
    rw [if_pos c5] at hv hr1
    rw [if_pos (by omega), if_pos c5, if_pos c5] at e2 ⊢
    rw [List.drop_zero] at hv hr1
    obtain ⟨g1, g2, g3⟩ := rd_two (p := p) (n := d) (r := big fl.length 2 ++ (b1 ++ (big fs.length 2 ++ (b2 ++ r)))) (by simpa using e2) hd2 e3
    obtain ⟨k1, k2, k3⟩ := rd_two (p := p) (n := fl.length) g2 (by omega) g3
    obtain ⟨v1, v2, v3⟩ := vals_vts (p := p) hr1 hv k2 k3
    obtain ⟨m1, m2, m3⟩ := rd_two (p := p) (n := fs.length) v2 (by omega) v3
    obtain ⟨n1, n2, n3⟩ := vals_vts (p := p) hr2 hw m2 m3
    rw [frame_of e1 rfl (by omega) (d := d) (s2 := ⟨q + 1 + 2, 0, p⟩) (by unfold dlt; rw [if_neg (by omega), if_neg (by omega), g1])]
    have hB : body s P a.locals x q ⟨q + 1 + 2, 0, p⟩ = (fl, fs, ⟨q + 1 + 2 + 2 + b1.length + 2 + b2.length, 0, p⟩) := by
      unfold body
      rw [if_neg (fun g => g rfl), if_pos c5, k1]
      simp only
      rw [if_neg (fun g => g rfl), v1]
      simp only
      rw [if_neg (fun g => g rfl), m1]
      simp only
      rw [if_neg (fun g => g rfl), n1]
    simp only [hB, List.append_nil, List.length_append, List.length_cons, List.length_nil, Nat.zero_add, big_len]
    have hz : q + (2 + 1 + 2 + b1.length + 2 + b2.length) = q + 1 + 2 + 2 + b1.length + 2 + b2.length := by omega
    rw [hz]
    exact ⟨rfl, n2, n3⟩
end M
end Go.Proofs.Ytbgpkkbejbidlac
