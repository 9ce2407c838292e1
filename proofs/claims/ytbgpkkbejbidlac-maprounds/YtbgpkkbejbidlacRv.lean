/-
  Frames that are read are written no longer, and read again as they were: plain mathematics.
-/
import Derived.Test.YtbgpkkbejbidlacRu
namespace Go.Proofs.Ytbgpkkbejbidlac
set_option linter.unusedSimpArgs false
namespace M
theorem rd_fact {s : List UInt8} {n : Nat} {st : St} (h : (rd s n st).2.e = 0) : (rd s n st).2 = ⟨st.pos + n, 0, st.p⟩ := by
  have he := rd_good h
  unfold rd take at h ⊢
  rw [if_pos he] at h ⊢
  by_cases hl : s.length - st.pos < n
  · rw [if_pos hl] at h; simp at h
  · rw [if_neg hl]
theorem vty_fact {s : List UInt8} {P : List K} {st : St} (h : (vty s P st).2.e = 0) : Rok (vty s P st).1 ∧ (vty s P st).2 = ⟨st.pos + cost (vty s P st).1, 0, st.p⟩ := by
  have hx := rd1 s st
  have hy := rd2 s (rd s 1 st).2
  unfold vty at h ⊢
  by_cases h7 : (rd s 1 st).1 = 7
  · rw [if_pos h7] at h ⊢
    simp only at h ⊢
    by_cases ht : tag P ((rd s 2 (rd s 1 st).2).1 : Int) = 7
    · rw [if_pos ht] at h ⊢
      have h2 := rd_fact h
      have h1 := rd_fact (rd_good h)
      rw [h2, h1]
      refine ⟨⟨by simp only; omega, fun _ => rfl, fun g => by simp only at g; omega, fun g => by simp only at g; omega⟩, ?_⟩
      simp [cost]
    · rw [if_neg ht] at h
      exact absurd h (fail_e (by decide))
  · rw [if_neg h7] at h ⊢
    by_cases h8 : (rd s 1 st).1 = 8
    · rw [if_pos h8] at h ⊢
      simp only at h ⊢
      have h2 := rd_fact h
      have h1 := rd_fact (rd_good h)
      rw [h2, h1]
      refine ⟨⟨by simp only; omega, fun g => by simp only at g; omega, fun _ => ⟨rfl, by simp only; omega, ?_⟩, fun g => by simp only at g; omega⟩, ?_⟩
      · rw [h1] at hy; simp only; omega
      · simp [cost]
    · rw [if_neg h8] at h ⊢
      by_cases h9 : 8 < (rd s 1 st).1
      · rw [if_pos h9] at h
        exact absurd h (fail_e (by decide))
      · rw [if_neg h9] at h ⊢
        simp only at h ⊢
        have h1 := rd_fact h
        rw [h1]
        refine ⟨⟨by simp only; omega, fun g => by simp only at g; omega, fun g => by simp only at g; omega, fun _ => ⟨rfl, rfl⟩⟩, ?_⟩
        unfold cost
        rw [if_neg (by simp only; omega)]
theorem vals_fact {s : List UInt8} {P : List K} : ∀ {n : Nat} {st : St}, (vals s P n st).2.e = 0 → (vals s P n st).1.length = n ∧ (∀ t ∈ (vals s P n st).1, Rok t) ∧ (vals s P n st).2 = ⟨st.pos + costs (vals s P n st).1, 0, st.p⟩
  | 0, st, h => by
    refine ⟨rfl, (fun t ht => by cases ht), ?_⟩
    obtain ⟨a, b, c⟩ := st
    simp only [vals] at h ⊢
    rw [h]; rfl
  | n + 1, st, h => by
    rw [vals] at h ⊢
    by_cases he : (vty s P st).2.e = 0
    · rw [if_pos he] at h ⊢
      simp only at h ⊢
      obtain ⟨h1, h2, h3⟩ := vals_fact h
      obtain ⟨g1, g2⟩ := vty_fact he
      refine ⟨by rw [List.length_cons, h1], fun t ht => ?_, ?_⟩
      · rcases List.mem_cons.1 ht with rfl | ht
        · exact g1
        · exact h2 t ht
      · rw [h3, costs, g2]
        simp only [Nat.add_assoc]
    · rw [if_neg he] at h
      exact absurd h he
theorem costs_le : ∀ (L : List T), L.length ≤ costs L
  | [] => Nat.le_refl _
  | t :: L => by
    have := costs_le L
    rw [List.length_cons, costs]
    unfold cost
    split <;> omega
theorem costs_drop (L : List T) (k : Nat) : costs (L.drop k) ≤ costs L := by
  have := costs_app (L.take k) (L.drop k)
  rw [List.take_append_drop] at this
  omega
/-- What a frame that was read is, of n bytes. -/
def Fq (f a : Fm) (n : Nat) : Prop :=
  a.at_ < f.at_ ∧ f.locals.length ≤ a.locals.length + n ∧ f.stack.length ≤ n ∧ (∀ t ∈ f.stack, Rok t) ∧ (∀ t ∈ f.locals.drop (if ftag f a = 255 then 0 else sh f.locals a.locals), Rok t) ∧
    1 + (if 247 ≤ ftag f a then 2 else 0) + (if ftag f a = 255 then 2 else 0) + costs (f.locals.drop (if ftag f a = 255 then 0 else sh f.locals a.locals)) + (if ftag f a = 255 then 2 else 0) + costs f.stack ≤ n
theorem Fq.ok {f a : Fm} {n : Nat} {P : List K} {b : List UInt8} (h : Fq f a n) (hb : frw P f a = .ok b) : b.length ≤ n := by
  obtain ⟨h1, h2, h3, h4, h5, h6⟩ := h
  unfold frw at hb
  by_cases hbad : f.at_ ≤ a.at_ ∨ 65535 < f.at_ ∨ 65535 < f.locals.length ∨ 65535 < f.stack.length
  · rw [if_pos hbad] at hb; cases hb
  rw [if_neg hbad] at hb
  have c1 := vts_cost (P := P) h5
  have c2 := vts_cost (P := P) h4
  cases hv : vts P (f.locals.drop (if ftag f a = 255 then 0 else sh f.locals a.locals)) with
  | error e => rw [hv] at hb; cases hb
  | ok b1 =>
  rw [hv] at hb
  simp only at hb
  cases hw : vts P f.stack with
  | error e => rw [hw] at hb; cases hb
  | ok b2 =>
  rw [hw] at hb
  cases hb
  have k1 := c1.1 b1 hv
  have k2 := c2.1 b2 hw
  have l1 : (if 247 ≤ ftag f a then big (f.at_ - a.at_ - 1).toNat 2 else []).length = if 247 ≤ ftag f a then 2 else 0 := by split <;> simp [big_len]
  have l2 : (if ftag f a = 255 then big f.locals.length 2 else []).length = if ftag f a = 255 then 2 else 0 := by split <;> simp [big_len]
  have l3 : (if ftag f a = 255 then big f.stack.length 2 else []).length = if ftag f a = 255 then 2 else 0 := by split <;> simp [big_len]
  simp only [List.length_append, List.length_cons, l1, l2, l3, k1, k2]
  omega
theorem Fq.bad {f a : Fm} {n : Nat} {P : List K} {e : Nat} (h : Fq f a n) (ha : f.at_ ≤ 65535) (hl : f.locals.length ≤ 65535) (hs : f.stack.length ≤ 65535) (hb : frw P f a = .error e) : e = 7 := by
  obtain ⟨h1, h2, h3, h4, h5, h6⟩ := h
  unfold frw at hb
  rw [if_neg (by omega)] at hb
  have c1 := vts_cost (P := P) h5
  have c2 := vts_cost (P := P) h4
  cases hv : vts P (f.locals.drop (if ftag f a = 255 then 0 else sh f.locals a.locals)) with
  | error e' => rw [hv] at hb; cases hb; exact c1.2 e hv
  | ok b1 =>
  rw [hv] at hb
  simp only at hb
  cases hw : vts P f.stack with
  | error e' => rw [hw] at hb; cases hb; exact c2.2 e hw
  | ok b2 => rw [hw] at hb; cases hb
theorem Fq.mk_small {f a : Fm} {n d : Nat} (hat : f.at_ = a.at_ + 1 + (d : Int)) (hd : d < 65536) {x : Nat} (hx : x ≠ 255) (hft : form f.stack.length (a.locals.length - sh f.locals a.locals) (f.locals.length - sh f.locals a.locals) d = x)
    (hl : f.locals.length ≤ a.locals.length + n) (hs : f.stack.length ≤ n) (h4 : ∀ t ∈ f.stack, Rok t) (h5 : ∀ t ∈ f.locals.drop (sh f.locals a.locals), Rok t)
    (h6 : 1 + (if 247 ≤ x then 2 else 0) + costs (f.locals.drop (sh f.locals a.locals)) + costs f.stack ≤ n) : Fq f a n := by
  have he : ftag f a = x := by unfold ftag; rw [show (f.at_ - a.at_ - 1).toNat = d by omega]; exact hft
  refine ⟨by omega, hl, hs, h4, ?_, ?_⟩
  · rw [he, if_neg hx]; exact h5
  · rw [he, if_neg hx, if_neg hx]; omega
set_option maxRecDepth 100000 in
theorem frame_fact {s : List UInt8} {P : List K} {a : Fm} {st : St} (h : (frame s P a st).2.e = 0) : ∃ n, (frame s P a st).2 = ⟨st.pos + n, 0, st.p⟩ ∧ Fq (frame s P a st).1 a n := by
  by_cases he1 : (rd s 1 st).2.e = 0
  rotate_left
  · unfold frame at h; rw [if_pos he1] at h; exact absurd h he1
  by_cases hm : 128 ≤ (rd s 1 st).1 ∧ (rd s 1 st).1 < 247
  · unfold frame at h; rw [if_neg (fun g => g he1), if_pos hm] at h; exact absurd h (fail_e (by decide))
  have hx256 := rd1 s st
  have hs1 := rd_fact he1
  obtain ⟨x, hx⟩ : ∃ x, rd s 1 st = (x, ⟨st.pos + 1, 0, st.p⟩) := ⟨_, by rw [← hs1]⟩
  rw [hx] at hm hx256
  simp only at hm hx256
  clear hs1 he1
  obtain ⟨d, s2, hd⟩ : ∃ d s2, dlt s x ⟨st.pos + 1, 0, st.p⟩ = (d, s2) := ⟨_, _, rfl⟩
  have hF := frame_of (P := P) (a := a) hx rfl hm hd
  rw [hF] at h ⊢
  simp only at h ⊢
  clear hF hx
  have hs2 : s2.e = 0 := by
    by_cases g : s2.e = 0
    · exact g
    · unfold body at h; rw [if_pos g] at h; exact absurd h g
  have hdl : d < 65536 ∧ s2 = ⟨st.pos + 1 + (if 247 ≤ x then 2 else 0), 0, st.p⟩ ∧ (x < 64 → d = x) ∧ (64 ≤ x → x < 128 → d = x - 64) := by
    unfold dlt at hd
    by_cases c1 : x < 64
    · rw [if_pos c1] at hd; cases hd
      exact ⟨by omega, by rw [if_neg (by omega)], fun _ => rfl, fun g => by omega⟩
    · rw [if_neg c1] at hd
      by_cases c2 : x < 128
      · rw [if_pos c2] at hd; cases hd
        exact ⟨by omega, by rw [if_neg (by omega)], fun g => by omega, fun _ _ => rfl⟩
      · rw [if_neg c2] at hd
        have q := rd2 s ⟨st.pos + 1, 0, st.p⟩
        rw [hd] at q
        have h2 := rd_fact (s := s) (n := 2) (st := ⟨st.pos + 1, 0, st.p⟩) (by rw [hd]; exact hs2)
        rw [hd] at h2
        exact ⟨q, by rw [if_pos (by omega)]; exact h2, fun g => by omega, fun _ g => by omega⟩
  obtain ⟨hd1, rfl, hd3, hd4⟩ := hdl
  clear hd hs2
  obtain ⟨B, hB⟩ : ∃ B, B = body s P a.locals x st.pos ⟨st.pos + 1 + (if 247 ≤ x then 2 else 0), 0, st.p⟩ := ⟨_, rfl⟩
  rw [← hB] at h ⊢
  unfold body at hB
  rw [if_neg (fun g => g rfl)] at hB
  by_cases c255 : x = 255
  · rw [if_pos c255] at hB
    subst c255
    rw [if_pos (show 247 ≤ 255 by omega)] at hB
    obtain ⟨n1, s3, hr⟩ : ∃ n1 s3, rd s 2 ⟨st.pos + 1 + 2, 0, st.p⟩ = (n1, s3) := ⟨_, _, rfl⟩
    rw [hr] at hB
    simp only at hB
    by_cases e3 : s3.e = 0
    rotate_left
    · rw [if_pos e3] at hB; subst hB; exact absurd h e3
    rw [if_neg (fun g => g e3)] at hB
    have r3 := rd_fact (s := s) (n := 2) (st := ⟨st.pos + 1 + 2, 0, st.p⟩) (by rw [hr]; exact e3)
    rw [hr] at r3
    simp only at r3
    subst r3
    obtain ⟨V, s4, hv⟩ : ∃ V s4, vals s P n1 ⟨st.pos + 1 + 2 + 2, 0, st.p⟩ = (V, s4) := ⟨_, _, rfl⟩
    rw [hv] at hB
    simp only at hB
    by_cases e4 : s4.e = 0
    rotate_left
    · rw [if_pos e4] at hB; subst hB; exact absurd h e4
    rw [if_neg (fun g => g e4)] at hB
    obtain ⟨v1, v2, v3⟩ := vals_fact (s := s) (P := P) (n := n1) (st := ⟨st.pos + 1 + 2 + 2, 0, st.p⟩) (by rw [hv]; exact e4)
    rw [hv] at v1 v2 v3
    simp only at v1 v2 v3
    subst v3
    obtain ⟨n2, s5, hr5⟩ : ∃ n2 s5, rd s 2 ⟨st.pos + 1 + 2 + 2 + costs V, 0, st.p⟩ = (n2, s5) := ⟨_, _, rfl⟩
    rw [hr5] at hB
    simp only at hB
    by_cases e5 : s5.e = 0
    rotate_left
    · rw [if_pos e5] at hB; subst hB; exact absurd h e5
    rw [if_neg (fun g => g e5)] at hB
    have r5 := rd_fact (s := s) (n := 2) (st := ⟨st.pos + 1 + 2 + 2 + costs V, 0, st.p⟩) (by rw [hr5]; exact e5)
    rw [hr5] at r5
    simp only at r5
    subst r5
    obtain ⟨W, s6, hw⟩ : ∃ W s6, vals s P n2 ⟨st.pos + 1 + 2 + 2 + costs V + 2, 0, st.p⟩ = (W, s6) := ⟨_, _, rfl⟩
    rw [hw] at hB
    subst hB
    simp only at h ⊢
    obtain ⟨w1, w2, w3⟩ := vals_fact (s := s) (P := P) (n := n2) (st := ⟨st.pos + 1 + 2 + 2 + costs V + 2, 0, st.p⟩) (by rw [hw]; exact h)
    rw [hw] at w1 w2 w3
    simp only at w1 w2 w3
    subst w3
    have l1 := costs_le V
    have l2 := costs_le W
    refine ⟨1 + 2 + 2 + costs V + 2 + costs W, by simp only [Nat.add_assoc], by simp only; omega, by simp only; omega, by simp only; omega, w2, fun t ht => v2 t (List.mem_of_mem_drop ht), ?_⟩
    have l3 := costs_drop V (if ftag ⟨a.at_ + 1 + (d : Int), V, W⟩ a = 255 then 0 else sh V a.locals)
    simp only
    generalize ftag ⟨a.at_ + 1 + (d : Int), V, W⟩ a = y at l3 ⊢
    generalize costs (V.drop (if y = 255 then 0 else sh V a.locals)) = z at l3 ⊢
    repeat' split
    all_goals omega
  rw [if_neg c255] at hB
  by_cases c251 : 251 < x
  · rw [if_pos c251, if_pos (by omega)] at hB
    obtain ⟨V, s4, hv⟩ : ∃ V s4, vals s P (x - 251) ⟨st.pos + 1 + 2, 0, st.p⟩ = (V, s4) := ⟨_, _, rfl⟩
    rw [hv] at hB
    subst hB
    simp only at h ⊢
    obtain ⟨v1, v2, v3⟩ := vals_fact (s := s) (P := P) (n := x - 251) (st := ⟨st.pos + 1 + 2, 0, st.p⟩) (by rw [hv]; exact h)
    rw [hv] at v1 v2 v3
    simp only at v1 v2 v3
    subst v3
    have l1 := costs_le V
    have hsh := sh_app a.locals V
    refine ⟨1 + 2 + costs V, by simp only [Nat.add_assoc], Fq.mk_small (d := d) (x := x) rfl hd1 c255 ?_ ?_ ?_ (fun t ht => by cases ht) ?_ ?_⟩
    · simp only [hsh, List.length_append, List.length_nil]
      rw [Nat.sub_self, Nat.add_sub_cancel_left, v1]
      unfold form
      rw [if_neg (by omega), if_neg (by omega), if_neg (by omega), if_neg (by omega), if_pos (by omega)]
      omega
    · simp only [List.length_append]; omega
    · simp
    · simp only [hsh]; rw [List.drop_left]; exact v2
    · simp only [hsh]; rw [List.drop_left, if_pos (by omega)]; simp [costs]
  rw [if_neg c251] at hB
  by_cases c247 : 247 < x
  · rw [if_pos c247, if_pos (show 247 ≤ x by omega)] at hB
    by_cases hlen : a.locals.length < 251 - x
    · rw [if_pos hlen] at hB; subst hB; exact absurd h (fail_e (by decide))
    rw [if_neg hlen] at hB
    subst hB
    simp only at h ⊢
    have hsh := sh_pre a.locals (a.locals.length - (251 - x)) (by omega)
    have hdr : (a.locals.take (a.locals.length - (251 - x))).drop (a.locals.length - (251 - x)) = [] := List.drop_eq_nil_of_le (by simp)
    have hlt : (a.locals.take (a.locals.length - (251 - x))).length = a.locals.length - (251 - x) := by simp
    refine ⟨1 + 2, by simp only [Nat.add_assoc], Fq.mk_small (d := d) (x := if x = 251 ∧ d < 64 then d else x) rfl hd1 (by split <;> omega) ?_ ?_ ?_ (fun t ht => by cases ht) ?_ ?_⟩
    · simp only [hsh, hlt, List.length_nil]
      rw [Nat.sub_self, show a.locals.length - (a.locals.length - (251 - x)) = 251 - x by omega]
      unfold form
      by_cases g : x = 251 ∧ d < 64
      · rw [if_pos (by omega), if_pos g]
      · rw [if_neg (by omega), if_neg (by omega), if_neg (by omega), if_pos (by omega), if_neg g]; omega
    · simp only [hlt]; omega
    · simp
    · simp only [hsh, hdr]; intro t ht; cases ht
    · simp only [hsh, hdr, costs]; repeat' split
      all_goals omega
  rw [if_neg c247] at hB
  by_cases c64 : 64 ≤ x
  · rw [if_pos c64] at hB
    obtain ⟨V, s4, hv⟩ : ∃ V s4, vals s P 1 ⟨st.pos + 1 + (if 247 ≤ x then 2 else 0), 0, st.p⟩ = (V, s4) := ⟨_, _, rfl⟩
    rw [hv] at hB
    subst hB
    simp only at h ⊢
    obtain ⟨v1, v2, v3⟩ := vals_fact (s := s) (P := P) (n := 1) (st := ⟨st.pos + 1 + (if 247 ≤ x then 2 else 0), 0, st.p⟩) (by rw [hv]; exact h)
    rw [hv] at v1 v2 v3
    simp only at v1 v2 v3
    subst v3
    have l1 := costs_le V
    have hsh := sh_self a.locals
    have hdr : a.locals.drop a.locals.length = [] := List.drop_length
    refine ⟨1 + (if 247 ≤ x then 2 else 0) + costs V, by simp only [Nat.add_assoc], Fq.mk_small (d := d) (x := if d < 64 then 64 + d else x) rfl hd1 (by split <;> omega) ?_ ?_ ?_ v2 ?_ ?_⟩
    · simp only [hsh, v1, Nat.sub_self]
      unfold form
      by_cases g : d < 64
      · rw [if_neg (by omega), if_pos (by omega), if_pos g]
      · rw [if_neg (by omega), if_neg (by omega), if_pos (by omega), if_neg g]; omega
    · simp only; omega
    · simp only; omega
    · simp only [hsh, hdr]; intro t ht; cases ht
    · simp only [hsh, hdr, costs]; repeat' split
      all_goals omega
  · rw [if_neg c64, if_neg (by omega)] at hB
    subst hB
    simp only at h ⊢
    have hsh := sh_self a.locals
    have hdr : a.locals.drop a.locals.length = [] := List.drop_length
    have hdx := hd3 (by omega)
    refine ⟨1, by simp only [Nat.add_zero], Fq.mk_small (d := d) (x := d) rfl hd1 (by omega) ?_ ?_ ?_ (fun t ht => by cases ht) ?_ ?_⟩
    · simp only [hsh, Nat.sub_self, List.length_nil]
      unfold form
      rw [if_pos (by omega)]
    · simp only; omega
    · simp
    · simp only [hsh, hdr]; intro t ht; cases ht
    · simp only [hsh, hdr, costs]; rw [if_neg (by omega)]; omega
theorem frames_fact {s : List UInt8} {P : List K} : ∀ {n : Nat} {a : Fm} {st : St} {k : Nat}, (frames s P n a st).2.e = 0 → -1 ≤ a.at_ → (∀ f ∈ (frames s P n a st).1, f.at_ ≤ 65535) → a.locals.length + s.length ≤ 65535 + st.pos → st.pos ≤ s.length → s.length ≤ 65535 →
    (frames s P n a st).1.length = n ∧ ∃ m, (frames s P n a st).2 = ⟨st.pos + m, 0, st.p⟩ ∧
      (∀ e, wrs P (frames s P n a st).1 a k = .error e → e.1 = 7) ∧
      (∀ j b, wrs P ((frames s P n a st).1.take j) a k = .ok b → b.length ≤ m) ∧
      (∀ b s' r q p, wrs P (frames s P n a st).1 a k = .ok b → s'.drop q = b ++ r → q ≤ s'.length → frames s' P n a ⟨q, 0, p⟩ = ((frames s P n a st).1, ⟨q + b.length, 0, p⟩) ∧ s'.drop (q + b.length) = r ∧ q + b.length ≤ s'.length)
  | 0, a, st, k, h, _, _, _, _, _ => by
    refine ⟨rfl, 0, ?_, (fun e g => by cases g), fun j b g => ?_, fun b s' r q p g h1 h2 => ?_⟩
    · obtain ⟨x, y, z⟩ := st
      simp only [frames] at h ⊢
      rw [h]; rfl
    · simp only [frames, List.take_nil] at g
      cases g; exact Nat.le_refl _
    · cases g; exact ⟨rfl, h1, h2⟩
  | n + 1, a, st, k, h, ha, hall, hl, hp, hsl => by
    rw [frames] at h hall ⊢
    by_cases he : (frame s P a st).2.e = 0
    rotate_left
    · rw [if_neg he] at h; exact absurd h he
    rw [if_pos he] at h hall ⊢
    simp only at h hall ⊢
    obtain ⟨m1, hm1, hq⟩ := frame_fact he
    have hpos := frame_pos (P := P) (a := a) hp
    have hat := hall _ (List.mem_cons_self ..)
    rw [hm1] at hpos
    simp only at hpos
    obtain ⟨i1, m2, i2, i3, i4, i5⟩ := frames_fact (s := s) (P := P) (n := n) (a := (frame s P a st).1) (st := (frame s P a st).2) (k := k + 1) h (by have := hq.1; omega) (fun f hf => hall f (List.mem_cons_of_mem _ hf)) (by have := hq.2.1; rw [hm1]; simp only; omega) (by rw [hm1]; exact hpos) hsl
    refine ⟨by rw [List.length_cons, i1], m1 + m2, by rw [i2, hm1]; simp only [Nat.add_assoc], fun e g => ?_, fun j b g => ?_, fun b s' r q p g h1 h2 => ?_⟩
    · rw [wrs] at g
      cases hf : frw P (frame s P a st).1 a with
      | error e' =>
        rw [hf] at g; cases g
        exact hq.bad hat (by have := hq.2.1; omega) (by have := hq.2.2.1; omega) hf
      | ok b1 =>
        rw [hf] at g
        simp only at g
        cases hw : wrs P (frames s P n (frame s P a st).1 (frame s P a st).2).1 (frame s P a st).1 (k + 1) with
        | error e' => rw [hw] at g; cases g; exact i3 _ hw
        | ok b2 => rw [hw] at g; cases g
    · cases j with
      | zero => rw [List.take_zero, wrs] at g; cases g; exact Nat.zero_le _
      | succ j =>
        rw [List.take_succ_cons, wrs] at g
        cases hf : frw P (frame s P a st).1 a with
        | error e' => rw [hf] at g; cases g
        | ok b1 =>
          rw [hf] at g
          simp only at g
          cases hw : wrs P ((frames s P n (frame s P a st).1 (frame s P a st).2).1.take j) (frame s P a st).1 (k + 1) with
          | error e' => rw [hw] at g; cases g
          | ok b2 =>
            rw [hw] at g; cases g
            have := hq.ok hf
            have := i4 j b2 hw
            rw [List.length_append]; omega
    · rw [wrs] at g
      cases hf : frw P (frame s P a st).1 a with
      | error e' => rw [hf] at g; cases g
      | ok b1 =>
        rw [hf] at g
        simp only at g
        cases hw : wrs P (frames s P n (frame s P a st).1 (frame s P a st).2).1 (frame s P a st).1 (k + 1) with
        | error e' => rw [hw] at g; cases g
        | ok b2 =>
          rw [hw] at g; cases g
          obtain ⟨u1, u2, u3⟩ := frame_frw (p := p) (r := b2 ++ r) ha hf hq.2.2.2.2.1 hq.2.2.2.1 (by rw [h1, List.append_assoc]) h2
          obtain ⟨y1, y2, y3⟩ := i5 b2 s' r (q + b1.length) p hw u2 u3
          rw [frames, u1]
          simp only
          rw [if_pos trivial, y1, List.length_append, ← Nat.add_assoc]
          exact ⟨rfl, y2, y3⟩
end M
end Go.Proofs.Ytbgpkkbejbidlac
