/-
  A map that is read is written no longer, and read again as it was: plain mathematics.
  A frame that is written is read as it was: plain mathematics.
  Frames that are read are written no longer, and read again as they were: plain mathematics.
  A map that is read is written no longer, and read again as it was: the whole, as the law asks it.
  What is read is written as it was: of reading and writing alone.
  The reader of package wire, as it lies in package class's reader.
  Package class: what is left to read, the version, the reader's pool.
-/
import Derived.Test.YtgihfcjddkpkaaaMgApp
import Derived.Test.YtgihfcjddkpkaaaWo
import Derived.Test.YtgihfcjddkpkaaaMgPoRefNum
import Derived.Test.YtgihfcjddkpkaaaWire
import Derived.Test.YtgihfcjddkpkaaaTy
namespace Go.Proofs.Ytgihfcjddkpkaaa
namespace M
theorem take_of {s b r : List UInt8} {q p n : Nat} (h : s.drop q = b ++ r) (hn : b.length = n) (hq : q ≤ s.length) : take s n ⟨q, 0, p⟩ = (b, ⟨q + n, 0, p⟩) ∧ s.drop (q + n) = r ∧ q + n ≤ s.length := by
  have hl : s.length - q = b.length + r.length := by have := congrArg List.length h; simpa using this
  refine ⟨?_, ?_, by omega⟩
  · unfold take
    rw [if_pos rfl, if_neg (by simp only; omega)]
    simp only
    rw [h, List.take_left' hn]
  · rw [← List.drop_drop, h, List.drop_left' hn]
theorem num_big {n : Nat} (h : n < 65536) : num (big n 2) = n := by
  simp only [big, num, List.nil_append, List.cons_append, List.foldl_cons, List.foldl_nil, UInt8.toNat_ofNat']
  omega
theorem rd_one {s r : List UInt8} {q p : Nat} {x : UInt8} (h : s.drop q = x :: r) (hq : q ≤ s.length) : rd s 1 ⟨q, 0, p⟩ = (x.toNat, ⟨q + 1, 0, p⟩) ∧ s.drop (q + 1) = r ∧ q + 1 ≤ s.length := by
  obtain ⟨h1, h2, h3⟩ := take_of (p := p) (b := [x]) (r := r) (n := 1) (by simpa using h) rfl hq
  refine ⟨?_, h2, h3⟩
  unfold rd; rw [h1]; simp [num]
theorem rd_two {s r : List UInt8} {q p n : Nat} (h : s.drop q = big n 2 ++ r) (hn : n < 65536) (hq : q ≤ s.length) : rd s 2 ⟨q, 0, p⟩ = (n, ⟨q + 2, 0, p⟩) ∧ s.drop (q + 2) = r ∧ q + 2 ≤ s.length := by
  obtain ⟨h1, h2, h3⟩ := take_of (p := p) (n := 2) h (big_len _ _) hq
  refine ⟨?_, h2, h3⟩
  unfold rd; rw [h1, num_big hn]
/-- A type as reading gives one. -/
def Rok (t : T) : Prop := t.tag ≤ 8 ∧ (t.tag = 7 → t.at_ = 0) ∧ (t.tag = 8 → t.name = [] ∧ 0 ≤ t.at_ ∧ t.at_ ≤ 65535) ∧ (t.tag < 7 → t.name = [] ∧ t.at_ = 0)
/-- How many bytes a type has. -/
def cost (t : T) : Nat := if 7 ≤ t.tag then 3 else 1
def costs : List T → Nat
  | [] => 0
  | t :: l => cost t + costs l
theorem costs_app (a b : List T) : costs (a ++ b) = costs a + costs b := by
  induction a with
  | nil => simp [costs]
  | cons t a ih => simp only [List.cons_append, costs, ih]; omega
theorem idx_some {P : List K} {name : List UInt8} : ∀ {m k : Nat}, idx P name m = some k → cok P (k : Int) = true ∧ cls P (k : Int) = name
  | 0, _, h => by cases h
  | m + 1, k, h => by
    rw [idx] at h
    cases hi : idx P name m with
    | some j => rw [hi] at h; cases h; exact idx_some hi
    | none =>
      rw [hi] at h
      simp only at h
      split at h
      · cases h; assumption
      · cases h
theorem vt_cost {P : List K} {t : T} (h : Rok t) : (∀ b, vt P t = .ok b → b.length = cost t) ∧ ∀ e, vt P t = .error e → e = 7 := by
  obtain ⟨h1, h2, h3, h4⟩ := h
  unfold vt cost
  by_cases h7 : t.tag = 7
  · rw [if_pos h7, if_pos (by omega)]
    cases hi : idx P t.name (lim P) with
    | some k => exact ⟨fun b e => by cases e; simp [big_len], fun e g => by cases g⟩
    | none => exact ⟨(fun b e => by cases e), fun e g => by cases g; rfl⟩
  · rw [if_neg h7]
    by_cases h8 : t.tag = 8
    · rw [if_pos h8, if_pos (h3 h8).2, if_pos (by omega)]
      exact ⟨fun b e => by cases e; simp [big_len], fun e g => by cases g⟩
    · rw [if_neg h8, if_neg (by omega), if_neg (by omega)]
      exact ⟨fun b e => by cases e; rfl, fun e g => by cases g⟩
theorem vts_cost {P : List K} : ∀ {L : List T}, (∀ t ∈ L, Rok t) → (∀ b, vts P L = .ok b → b.length = costs L) ∧ ∀ e, vts P L = .error e → e = 7
  | [], _ => ⟨fun b h => by cases h; rfl, fun e h => by cases h⟩
  | t :: L, h => by
    have h1 := vt_cost (P := P) (h t (by simp))
    have h2 := vts_cost (P := P) (L := L) (fun x hx => h x (by simp [hx]))
    rw [vts, costs]
    cases hv : vt P t with
    | error e => exact ⟨(fun b g => by cases g), fun e' g => by cases g; exact h1.2 e hv⟩
    | ok c =>
      simp only
      cases hw : vts P L with
      | error e => exact ⟨(fun b g => by cases g), fun e' g => by cases g; exact h2.2 e hw⟩
      | ok d =>
        refine ⟨fun b g => ?_, fun e g => by cases g⟩
        cases g
        rw [List.length_append, h1.1 c hv, h2.1 d hw]
theorem lim_le (P : List K) : lim P ≤ 65536 := by unfold lim; omega
theorem vty_vt {s r b : List UInt8} {P : List K} {t : T} {q p : Nat} (h : Rok t) (hb : vt P t = .ok b) (hs : s.drop q = b ++ r) (hq : q ≤ s.length) :
    vty s P ⟨q, 0, p⟩ = (t, ⟨q + b.length, 0, p⟩) ∧ s.drop (q + b.length) = r ∧ q + b.length ≤ s.length := by
  obtain ⟨h1, h2, h3, h4⟩ := h
  obtain ⟨tg, nm, at_⟩ := t
  simp only at h1 h2 h3 h4
  have hto : (UInt8.ofNat tg).toNat = tg := by rw [UInt8.toNat_ofNat']; omega
  unfold vt at hb
  simp only at hb
  by_cases h7 : tg = 7
  · rw [if_pos h7] at hb
    cases hi : idx P nm (lim P) with
    | none => rw [hi] at hb; cases hb
    | some k =>
      rw [hi] at hb
      cases hb
      have hk := idx_lt hi
      have hl := lim_le P
      obtain ⟨c1, c2⟩ := idx_some hi
      have ct : tag P (k : Int) = 7 := by unfold cok at c1; simp at c1; exact c1.1
      obtain ⟨e1, e2, e3⟩ := rd_one (p := p) (x := UInt8.ofNat tg) (r := big k 2 ++ r) (by simpa using hs) hq
      obtain ⟨f1, f2, f3⟩ := rd_two (p := p) e2 (by omega) e3
      have hlen : (UInt8.ofNat tg :: big k 2).length = 3 := by simp [big_len]
      rw [hlen]
      refine ⟨?_, by rw [show q + 3 = q + 1 + 2 by omega]; exact f2, by omega⟩
      unfold vty
      rw [e1]
      simp only
      rw [f1, hto, if_pos h7]
      simp only
      rw [ct, if_pos rfl, c2, h7, h2 h7]
  · rw [if_neg h7] at hb
    by_cases h8 : tg = 8
    · rw [if_pos h8, if_pos (h3 h8).2] at hb
      cases hb
      have hr := (h3 h8).2
      obtain ⟨e1, e2, e3⟩ := rd_one (p := p) (x := UInt8.ofNat tg) (r := big at_.toNat 2 ++ r) (by simpa using hs) hq
      obtain ⟨f1, f2, f3⟩ := rd_two (p := p) e2 (by omega) e3
      have hlen : (UInt8.ofNat tg :: big at_.toNat 2).length = 3 := by simp [big_len]
      rw [hlen]
      refine ⟨?_, by rw [show q + 3 = q + 1 + 2 by omega]; exact f2, by omega⟩
      unfold vty
      rw [e1]
      simp only
      rw [f1, hto, if_neg h7, if_pos h8]
      simp only
      rw [h8, (h3 h8).1, Int.toNat_of_nonneg hr.1]
    · rw [if_neg h8, if_neg (by omega)] at hb
      cases hb
      obtain ⟨e1, e2, e3⟩ := rd_one (p := p) (x := UInt8.ofNat tg) (r := r) (by simpa using hs) hq
      refine ⟨?_, e2, e3⟩
      unfold vty
      rw [e1]
      simp only
      rw [hto, if_neg h7, if_neg h8, if_neg (by omega), (h4 (by omega)).1, (h4 (by omega)).2]
      rfl
theorem vals_vts {s : List UInt8} {P : List K} {p : Nat} : ∀ {L : List T} {b r : List UInt8} {q : Nat}, (∀ t ∈ L, Rok t) → vts P L = .ok b → s.drop q = b ++ r → q ≤ s.length →
    vals s P L.length ⟨q, 0, p⟩ = (L, ⟨q + b.length, 0, p⟩) ∧ s.drop (q + b.length) = r ∧ q + b.length ≤ s.length
  | [], b, r, q, _, hb, hs, hq => by cases hb; exact ⟨rfl, hs, hq⟩
  | t :: L, b, r, q, h, hb, hs, hq => by
    rw [vts] at hb
    cases hv : vt P t with
    | error e => rw [hv] at hb; cases hb
    | ok c =>
      rw [hv] at hb
      simp only at hb
      cases hw : vts P L with
      | error e => rw [hw] at hb; cases hb
      | ok d =>
        rw [hw] at hb
        cases hb
        obtain ⟨e1, e2, e3⟩ := vty_vt (p := p) (r := d ++ r) (h t (by simp)) hv (by rw [hs, List.append_assoc]) hq
        obtain ⟨f1, f2, f3⟩ := vals_vts (p := p) (fun x hx => h x (by simp [hx])) hw e2 e3
        rw [List.length_append, ← Nat.add_assoc]
        refine ⟨?_, f2, f3⟩
        rw [List.length_cons, vals, e1]
        simp only
        rw [if_pos trivial, f1]
end M
end Go.Proofs.Ytgihfcjddkpkaaa
namespace Go.Proofs.Ytgihfcjddkpkaaa
set_option linter.unusedSimpArgs false
namespace M
theorem sh_take : ∀ (f a : List T), f.take (sh f a) = a.take (sh f a)
  | [], b => by simp [sh]
  | a :: l, [] => by simp [sh]
  | a :: l, b :: m => by
    rw [sh]; split
    · rename_i h
      rw [List.take_succ_cons, List.take_succ_cons, sh_take l m, (T.eqb_iff a b).1 h]
    · rfl
theorem sh_app (L M : List T) : sh (L ++ M) L = L.length := by
  induction L with
  | nil => cases M <;> simp [sh]
  | cons t L ih => rw [List.cons_append, sh, if_pos ((T.eqb_iff t t).2 rfl), ih]; rfl
theorem sh_self (L : List T) : sh L L = L.length := by have := sh_app L []; simpa using this
theorem sh_pre (L : List T) (k : Nat) (hk : k ≤ L.length) : sh (L.take k) L = k := by
  induction L generalizing k with
  | nil => simp at hk; subst hk; simp [sh]
  | cons t L ih =>
    cases k with
    | zero => simp [sh]
    | succ k => rw [List.take_succ_cons, sh, if_pos ((T.eqb_iff t t).2 rfl), ih k (by simpa using hk)]
theorem form_cases (h less more d : Nat) :
    (less = 0 ∧ more = 0 ∧ h = 0 ∧ d < 64 ∧ form h less more d = d) ∨ (less = 0 ∧ more = 0 ∧ h = 1 ∧ d < 64 ∧ form h less more d = 64 + d) ∨ (less = 0 ∧ more = 0 ∧ h = 1 ∧ 64 ≤ d ∧ form h less more d = 247) ∨
    (h = 0 ∧ more = 0 ∧ less ≤ 3 ∧ form h less more d = 251 - less) ∨ (h = 0 ∧ less = 0 ∧ 1 ≤ more ∧ more ≤ 3 ∧ form h less more d = 251 + more) ∨ form h less more d = 255 := by
  unfold form
  by_cases c1 : less = 0 ∧ more = 0 ∧ h = 0 ∧ d < 64
  · rw [if_pos c1]; exact .inl ⟨c1.1, c1.2.1, c1.2.2.1, c1.2.2.2, rfl⟩
  rw [if_neg c1]
  by_cases c2 : less = 0 ∧ more = 0 ∧ h = 1 ∧ d < 64
  · rw [if_pos c2]; exact .inr (.inl ⟨c2.1, c2.2.1, c2.2.2.1, c2.2.2.2, rfl⟩)
  rw [if_neg c2]
  by_cases c3 : less = 0 ∧ more = 0 ∧ h = 1
  · rw [if_pos c3]; exact .inr (.inr (.inl ⟨c3.1, c3.2.1, c3.2.2, by omega, rfl⟩))
  rw [if_neg c3]
  by_cases c4 : h = 0 ∧ more = 0 ∧ less ≤ 3
  · rw [if_pos c4]; exact .inr (.inr (.inr (.inl ⟨c4.1, c4.2.1, c4.2.2, rfl⟩)))
  rw [if_neg c4]
  by_cases c5 : h = 0 ∧ less = 0 ∧ more ≤ 3
  · rw [if_pos c5]; exact .inr (.inr (.inr (.inr (.inl ⟨c5.1, c5.2.1, by omega, c5.2.2, rfl⟩))))
  rw [if_neg c5]
  exact .inr (.inr (.inr (.inr (.inr rfl))))
/-- The next frame, of what its first byte and the delta are. -/
theorem frame_of {s : List UInt8} {P : List K} {a : Fm} {st : St} {x d : Nat} {s1 s2 : St} (h1 : rd s 1 st = (x, s1)) (e1 : s1.e = 0) (hx : ¬ (128 ≤ x ∧ x < 247)) (h2 : dlt s x s1 = (d, s2)) :
    frame s P a st = (⟨a.at_ + 1 + (d : Int), (body s P a.locals x st.pos s2).1, (body s P a.locals x st.pos s2).2.1⟩, (body s P a.locals x st.pos s2).2.2) := by
  unfold frame
  rw [h1]
  simp only
  rw [if_neg (fun g => g e1), if_neg hx, h2]
set_option maxRecDepth 100000 in
theorem frame_frw {s r b : List UInt8} {P : List K} {f a : Fm} {q p : Nat} (ha : -1 ≤ a.at_) (hb : frw P f a = .ok b)
    (hr1 : ∀ t ∈ f.locals.drop (if ftag f a = 255 then 0 else sh f.locals a.locals), Rok t) (hr2 : ∀ t ∈ f.stack, Rok t) (hs : s.drop q = b ++ r) (hq : q ≤ s.length) :
    frame s P a ⟨q, 0, p⟩ = (f, ⟨q + b.length, 0, p⟩) ∧ s.drop (q + b.length) = r ∧ q + b.length ≤ s.length := by
  unfold frw at hb
  by_cases hbad : f.at_ ≤ a.at_ ∨ 65535 < f.at_ ∨ 65535 < f.locals.length ∨ 65535 < f.stack.length
  · rw [if_pos hbad] at hb; cases hb
  rw [if_neg hbad] at hb
  obtain ⟨d, hd⟩ : ∃ d, d = (f.at_ - a.at_ - 1).toNat := ⟨_, rfl⟩
  have hat : f.at_ = a.at_ + 1 + (d : Int) := by omega
  have hd2 : d < 65536 := by omega
  rw [← hd] at hb
  have hT := sh_take f.locals a.locals
  have hS := sh_le f.locals a.locals
  have hF := form_cases f.stack.length (a.locals.length - sh f.locals a.locals) (f.locals.length - sh f.locals a.locals) d
  have hft : ftag f a = form f.stack.length (a.locals.length - sh f.locals a.locals) (f.locals.length - sh f.locals a.locals) d := by unfold ftag; rw [hd]
  rw [← hft] at hF
  have hlt : ftag f a < 256 := form_lt _ _ _ _
  obtain ⟨x, hx⟩ : ∃ x, x = ftag f a := ⟨_, rfl⟩
  obtain ⟨S, hSe⟩ : ∃ S, S = sh f.locals a.locals := ⟨_, rfl⟩
  rw [← hx] at hb hF hlt hr1
  rw [← hSe] at hb hF hT hS hr1
  clear hft hd hx hSe
  cases hv : vts P (f.locals.drop (if x = 255 then 0 else S)) with
  | error e => rw [hv] at hb; cases hb
  | ok b1 =>
  rw [hv] at hb
  simp only at hb
  cases hw : vts P f.stack with
  | error e => rw [hw] at hb; cases hb
  | ok b2 =>
  rw [hw] at hb
  cases hb
  obtain ⟨fat, fl, fs⟩ := f
  simp only at hat hT hS hF hv hw hr1 hr2 hs hbad ⊢
  subst hat
  have hto : (UInt8.ofNat x).toNat = x := by rw [UInt8.toNat_ofNat']; omega
  obtain ⟨e1, e2, e3⟩ := rd_one (p := p) (x := UInt8.ofNat x) (r := (if 247 ≤ x then big d 2 else []) ++ (if x = 255 then big fl.length 2 else []) ++ b1 ++ (if x = 255 then big fs.length 2 else []) ++ b2 ++ r) (by simpa using hs) hq
  rw [hto] at e1
  rcases hF with ⟨c1, c2, c3, c4, c5⟩ | ⟨c1, c2, c3, c4, c5⟩ | ⟨c1, c2, c3, c4, c5⟩ | ⟨c1, c2, c3, c5⟩ | ⟨c1, c2, c3, c4, c5⟩ | c5
  · -- the same
    rw [if_neg (by omega)] at hv
    rw [if_neg (by omega), if_neg (by omega), if_neg (by omega)] at e2 ⊢
    rw [show fl.drop S = [] from List.drop_eq_nil_of_le (by omega)] at hv
    cases hv
    have : fs = [] := List.length_eq_zero_iff.1 c3
    subst this
    cases hw
    have hfl : fl = a.locals := by rw [List.take_of_length_le (by omega), List.take_of_length_le (by omega)] at hT; exact hT
    rw [frame_of e1 rfl (by omega) (d := d) (s2 := ⟨q + 1, 0, p⟩) (by unfold dlt; rw [if_pos (by omega), c5])]
    have hB : body s P a.locals x q ⟨q + 1, 0, p⟩ = (a.locals, [], ⟨q + 1, 0, p⟩) := by unfold body; rw [if_neg (fun g => g rfl), if_neg (by omega), if_neg (by omega), if_neg (by omega), if_neg (by omega)]
    simp only [hB]
    exact ⟨by rw [hfl]; rfl, by simpa using e2, by simpa using e3⟩
  · -- the same, one on the stack
    rw [if_neg (by omega)] at hv
    rw [if_neg (by omega), if_neg (by omega), if_neg (by omega)] at e2 ⊢
    rw [show fl.drop S = [] from List.drop_eq_nil_of_le (by omega)] at hv
    cases hv
    obtain ⟨v1, v2, v3⟩ := vals_vts (p := p) (r := r) hr2 hw (by simpa using e2) e3
    rw [c3] at v1
    have hfl : fl = a.locals := by rw [List.take_of_length_le (by omega), List.take_of_length_le (by omega)] at hT; exact hT
    rw [frame_of e1 rfl (by omega) (d := d) (s2 := ⟨q + 1, 0, p⟩) (by unfold dlt; rw [if_neg (by omega), if_pos (by omega), c5, Nat.add_sub_cancel_left])]
    have hB : body s P a.locals x q ⟨q + 1, 0, p⟩ = (a.locals, fs, ⟨q + 1 + b2.length, 0, p⟩) := by unfold body; rw [if_neg (fun g => g rfl), if_neg (by omega), if_neg (by omega), if_neg (by omega), if_pos (by omega), v1]
    simp only [hB, List.append_nil, List.length_append, List.length_cons, List.length_nil, Nat.zero_add, ← Nat.add_assoc]
    exact ⟨by rw [hfl], v2, v3⟩
  · -- the same, one on the stack, far
    rw [if_neg (by omega)] at hv
    rw [if_pos (by omega), if_neg (by omega), if_neg (by omega)] at e2 ⊢
    rw [show fl.drop S = [] from List.drop_eq_nil_of_le (by omega)] at hv
    cases hv
    obtain ⟨g1, g2, g3⟩ := rd_two (p := p) (n := d) (r := b2 ++ r) (by simpa using e2) hd2 e3
    obtain ⟨v1, v2, v3⟩ := vals_vts (p := p) (r := r) hr2 hw g2 g3
    rw [c3] at v1
    have hfl : fl = a.locals := by rw [List.take_of_length_le (by omega), List.take_of_length_le (by omega)] at hT; exact hT
    rw [frame_of e1 rfl (by omega) (d := d) (s2 := ⟨q + 1 + 2, 0, p⟩) (by unfold dlt; rw [if_neg (by omega), if_neg (by omega), g1])]
    have hB : body s P a.locals x q ⟨q + 1 + 2, 0, p⟩ = (a.locals, fs, ⟨q + 1 + 2 + b2.length, 0, p⟩) := by unfold body; rw [if_neg (fun g => g rfl), if_neg (by omega), if_neg (by omega), if_neg (by omega), if_pos (by omega), v1]
    simp only [hB, List.append_nil, List.length_append, List.length_cons, List.length_nil, Nat.zero_add, big_len]
    have hz : q + (2 + 1 + b2.length) = q + 1 + 2 + b2.length := by omega
    rw [hz]
    exact ⟨by rw [hfl], v2, v3⟩
  · -- fewer
    rw [if_neg (by omega)] at hv
    rw [if_pos (by omega), if_neg (by omega), if_neg (by omega)] at e2 ⊢
    rw [show fl.drop S = [] from List.drop_eq_nil_of_le (by omega)] at hv
    cases hv
    have : fs = [] := List.length_eq_zero_iff.1 c1
    subst this
    cases hw
    obtain ⟨g1, g2, g3⟩ := rd_two (p := p) (n := d) (r := r) (by simpa using e2) hd2 e3
    have hfl : fl = a.locals.take S := by rw [List.take_of_length_le (by omega)] at hT; exact hT
    rw [frame_of e1 rfl (by omega) (d := d) (s2 := ⟨q + 1 + 2, 0, p⟩) (by unfold dlt; rw [if_neg (by omega), if_neg (by omega), g1])]
    have hB : body s P a.locals x q ⟨q + 1 + 2, 0, p⟩ = (a.locals.take S, [], ⟨q + 1 + 2, 0, p⟩) := by
      unfold body
      rw [if_neg (fun g => g rfl), if_neg (by omega), if_neg (by omega), if_pos (by omega), if_neg (by omega), show a.locals.length - (251 - x) = S by omega]
    simp only [hB, List.append_nil, List.length_append, List.length_cons, List.length_nil, Nat.zero_add, big_len]
    have hz : q + (2 + 1) = q + 1 + 2 := by omega
    rw [hz]
    exact ⟨by rw [hfl], g2, g3⟩
  · -- more
    rw [if_neg (by omega)] at hv hr1
    rw [if_pos (by omega), if_neg (by omega), if_neg (by omega)] at e2 ⊢
    have : fs = [] := List.length_eq_zero_iff.1 c1
    subst this
    cases hw
    obtain ⟨g1, g2, g3⟩ := rd_two (p := p) (n := d) (r := b1 ++ r) (by simpa using e2) hd2 e3
    obtain ⟨v1, v2, v3⟩ := vals_vts (p := p) (r := r) hr1 hv g2 g3
    rw [List.length_drop] at v1
    have hfl : fl = a.locals ++ fl.drop S := by
      have hc := List.take_append_drop S fl
      rw [hT, List.take_of_length_le (by omega)] at hc
      exact hc.symm
    rw [frame_of e1 rfl (by omega) (d := d) (s2 := ⟨q + 1 + 2, 0, p⟩) (by unfold dlt; rw [if_neg (by omega), if_neg (by omega), g1])]
    have hB : body s P a.locals x q ⟨q + 1 + 2, 0, p⟩ = (a.locals ++ fl.drop S, [], ⟨q + 1 + 2 + b1.length, 0, p⟩) := by
      unfold body
      rw [if_neg (fun g => g rfl), if_neg (by omega), if_pos (by omega), show x - 251 = fl.length - S by omega, v1]
    simp only [hB, List.append_nil, List.length_append, List.length_cons, List.length_nil, Nat.zero_add, big_len]
    have hz : q + (2 + 1 + b1.length) = q + 1 + 2 + b1.length := by omega
    rw [hz, ← hfl]
    exact ⟨rfl, v2, v3⟩
  · -- full
    rw [if_pos c5] at hv hr1
    rw [if_pos (by omega), if_pos c5, if_pos c5] at e2 ⊢
    rw [List.drop_zero] at hv hr1
    obtain ⟨g1, g2, g3⟩ := rd_two (p := p) (n := d) (r := big fl.length 2 ++ (b1 ++ (big fs.length 2 ++ (b2 ++ r)))) (by simpa using e2) hd2 e3
    obtain ⟨k1, k2, k3⟩ := rd_two (p := p) (n := fl.length) g2 (by omega) g3
    obtain ⟨v1, v2, v3⟩ := vals_vts (p := p) hr1 hv k2 k3
    obtain ⟨m1, m2, m3⟩ := rd_two (p := p) (n := fs.length) v2 (by omega) v3
    obtain ⟨n1, n2, n3⟩ := vals_vts (p := p) hr2 hw m2 m3
    rw [frame_of e1 rfl (by omega) (d := d) (s2 := ⟨q + 1 + 2, 0, p⟩) (by unfold dlt; rw [if_neg (by omega), if_neg (by omega), g1])]
    have hB : body s P a.locals x q ⟨q + 1 + 2, 0, p⟩ = (fl, fs, ⟨q + 1 + 2 + 2 + b1.length + 2 + b2.length, 0, p⟩) := by
      unfold body
      rw [if_neg (fun g => g rfl), if_pos c5, k1]
      simp only
      rw [if_neg (fun g => g rfl), v1]
      simp only
      rw [if_neg (fun g => g rfl), m1]
      simp only
      rw [if_neg (fun g => g rfl), n1]
    simp only [hB, List.append_nil, List.length_append, List.length_cons, List.length_nil, Nat.zero_add, big_len]
    have hz : q + (2 + 1 + 2 + b1.length + 2 + b2.length) = q + 1 + 2 + 2 + b1.length + 2 + b2.length := by omega
    rw [hz]
    exact ⟨rfl, n2, n3⟩
end M
end Go.Proofs.Ytgihfcjddkpkaaa
namespace Go.Proofs.Ytgihfcjddkpkaaa
set_option linter.unusedSimpArgs false
namespace M
theorem rd_fact {s : List UInt8} {n : Nat} {st : St} (h : (rd s n st).2.e = 0) : (rd s n st).2 = ⟨st.pos + n, 0, st.p⟩ := by
  have he := rd_good h
  unfold rd take at h ⊢
  rw [if_pos he] at h ⊢
  by_cases hl : s.length - st.pos < n
  · rw [if_pos hl] at h; simp at h
  · rw [if_neg hl]
theorem vty_fact {s : List UInt8} {P : List K} {st : St} (h : (vty s P st).2.e = 0) : Rok (vty s P st).1 ∧ (vty s P st).2 = ⟨st.pos + cost (vty s P st).1, 0, st.p⟩ := by
  have hx := rd1 s st
  have hy := rd2 s (rd s 1 st).2
  unfold vty at h ⊢
  by_cases h7 : (rd s 1 st).1 = 7
  · rw [if_pos h7] at h ⊢
    simp only at h ⊢
    by_cases ht : tag P ((rd s 2 (rd s 1 st).2).1 : Int) = 7
    · rw [if_pos ht] at h ⊢
      have h2 := rd_fact h
      have h1 := rd_fact (rd_good h)
      rw [h2, h1]
      refine ⟨⟨by simp only; omega, fun _ => rfl, fun g => by simp only at g; omega, fun g => by simp only at g; omega⟩, ?_⟩
      simp [cost]
    · rw [if_neg ht] at h
      exact absurd h (fail_e (by decide))
  · rw [if_neg h7] at h ⊢
    by_cases h8 : (rd s 1 st).1 = 8
    · rw [if_pos h8] at h ⊢
      simp only at h ⊢
      have h2 := rd_fact h
      have h1 := rd_fact (rd_good h)
      rw [h2, h1]
      refine ⟨⟨by simp only; omega, fun g => by simp only at g; omega, fun _ => ⟨rfl, by simp only; omega, ?_⟩, fun g => by simp only at g; omega⟩, ?_⟩
      · rw [h1] at hy; simp only; omega
      · simp [cost]
    · rw [if_neg h8] at h ⊢
      by_cases h9 : 8 < (rd s 1 st).1
      · rw [if_pos h9] at h
        exact absurd h (fail_e (by decide))
      · rw [if_neg h9] at h ⊢
        simp only at h ⊢
        have h1 := rd_fact h
        rw [h1]
        refine ⟨⟨by simp only; omega, fun g => by simp only at g; omega, fun g => by simp only at g; omega, fun _ => ⟨rfl, rfl⟩⟩, ?_⟩
        unfold cost
        rw [if_neg (by simp only; omega)]
theorem vals_fact {s : List UInt8} {P : List K} : ∀ {n : Nat} {st : St}, (vals s P n st).2.e = 0 → (vals s P n st).1.length = n ∧ (∀ t ∈ (vals s P n st).1, Rok t) ∧ (vals s P n st).2 = ⟨st.pos + costs (vals s P n st).1, 0, st.p⟩
  | 0, st, h => by
    refine ⟨rfl, (fun t ht => by cases ht), ?_⟩
    obtain ⟨a, b, c⟩ := st
    simp only [vals] at h ⊢
    rw [h]; rfl
  | n + 1, st, h => by
    rw [vals] at h ⊢
    by_cases he : (vty s P st).2.e = 0
    · rw [if_pos he] at h ⊢
      simp only at h ⊢
      obtain ⟨h1, h2, h3⟩ := vals_fact h
      obtain ⟨g1, g2⟩ := vty_fact he
      refine ⟨by rw [List.length_cons, h1], fun t ht => ?_, ?_⟩
      · rcases List.mem_cons.1 ht with rfl | ht
        · exact g1
        · exact h2 t ht
      · rw [h3, costs, g2]
        simp only [Nat.add_assoc]
    · rw [if_neg he] at h
      exact absurd h he
theorem costs_le : ∀ (L : List T), L.length ≤ costs L
  | [] => Nat.le_refl _
  | t :: L => by
    have := costs_le L
    rw [List.length_cons, costs]
    unfold cost
    split <;> omega
theorem costs_drop (L : List T) (k : Nat) : costs (L.drop k) ≤ costs L := by
  have := costs_app (L.take k) (L.drop k)
  rw [List.take_append_drop] at this
  omega
/-- What a frame that was read is, of n bytes. -/
def Fq (f a : Fm) (n : Nat) : Prop :=
  a.at_ < f.at_ ∧ f.locals.length ≤ a.locals.length + n ∧ f.stack.length ≤ n ∧ (∀ t ∈ f.stack, Rok t) ∧ (∀ t ∈ f.locals.drop (if ftag f a = 255 then 0 else sh f.locals a.locals), Rok t) ∧
    1 + (if 247 ≤ ftag f a then 2 else 0) + (if ftag f a = 255 then 2 else 0) + costs (f.locals.drop (if ftag f a = 255 then 0 else sh f.locals a.locals)) + (if ftag f a = 255 then 2 else 0) + costs f.stack ≤ n
theorem Fq.ok {f a : Fm} {n : Nat} {P : List K} {b : List UInt8} (h : Fq f a n) (hb : frw P f a = .ok b) : b.length ≤ n := by
  obtain ⟨h1, h2, h3, h4, h5, h6⟩ := h
  unfold frw at hb
  by_cases hbad : f.at_ ≤ a.at_ ∨ 65535 < f.at_ ∨ 65535 < f.locals.length ∨ 65535 < f.stack.length
  · rw [if_pos hbad] at hb; cases hb
  rw [if_neg hbad] at hb
  have c1 := vts_cost (P := P) h5
  have c2 := vts_cost (P := P) h4
  cases hv : vts P (f.locals.drop (if ftag f a = 255 then 0 else sh f.locals a.locals)) with
  | error e => rw [hv] at hb; cases hb
  | ok b1 =>
  rw [hv] at hb
  simp only at hb
  cases hw : vts P f.stack with
  | error e => rw [hw] at hb; cases hb
  | ok b2 =>
  rw [hw] at hb
  cases hb
  have k1 := c1.1 b1 hv
  have k2 := c2.1 b2 hw
  have l1 : (if 247 ≤ ftag f a then big (f.at_ - a.at_ - 1).toNat 2 else []).length = if 247 ≤ ftag f a then 2 else 0 := by split <;> simp [big_len]
  have l2 : (if ftag f a = 255 then big f.locals.length 2 else []).length = if ftag f a = 255 then 2 else 0 := by split <;> simp [big_len]
  have l3 : (if ftag f a = 255 then big f.stack.length 2 else []).length = if ftag f a = 255 then 2 else 0 := by split <;> simp [big_len]
  simp only [List.length_append, List.length_cons, l1, l2, l3, k1, k2]
  omega
theorem Fq.bad {f a : Fm} {n : Nat} {P : List K} {e : Nat} (h : Fq f a n) (ha : f.at_ ≤ 65535) (hl : f.locals.length ≤ 65535) (hs : f.stack.length ≤ 65535) (hb : frw P f a = .error e) : e = 7 := by
  obtain ⟨h1, h2, h3, h4, h5, h6⟩ := h
  unfold frw at hb
  rw [if_neg (by omega)] at hb
  have c1 := vts_cost (P := P) h5
  have c2 := vts_cost (P := P) h4
  cases hv : vts P (f.locals.drop (if ftag f a = 255 then 0 else sh f.locals a.locals)) with
  | error e' => rw [hv] at hb; cases hb; exact c1.2 e hv
  | ok b1 =>
  rw [hv] at hb
  simp only at hb
  cases hw : vts P f.stack with
  | error e' => rw [hw] at hb; cases hb; exact c2.2 e hw
  | ok b2 => rw [hw] at hb; cases hb
theorem Fq.mk_small {f a : Fm} {n d : Nat} (hat : f.at_ = a.at_ + 1 + (d : Int)) (hd : d < 65536) {x : Nat} (hx : x ≠ 255) (hft : form f.stack.length (a.locals.length - sh f.locals a.locals) (f.locals.length - sh f.locals a.locals) d = x)
    (hl : f.locals.length ≤ a.locals.length + n) (hs : f.stack.length ≤ n) (h4 : ∀ t ∈ f.stack, Rok t) (h5 : ∀ t ∈ f.locals.drop (sh f.locals a.locals), Rok t)
    (h6 : 1 + (if 247 ≤ x then 2 else 0) + costs (f.locals.drop (sh f.locals a.locals)) + costs f.stack ≤ n) : Fq f a n := by
  have he : ftag f a = x := by unfold ftag; rw [show (f.at_ - a.at_ - 1).toNat = d by omega]; exact hft
  refine ⟨by omega, hl, hs, h4, ?_, ?_⟩
  · rw [he, if_neg hx]; exact h5
  · rw [he, if_neg hx, if_neg hx]; omega
set_option maxRecDepth 100000 in
theorem frame_fact {s : List UInt8} {P : List K} {a : Fm} {st : St} (h : (frame s P a st).2.e = 0) : ∃ n, (frame s P a st).2 = ⟨st.pos + n, 0, st.p⟩ ∧ Fq (frame s P a st).1 a n := by
  by_cases he1 : (rd s 1 st).2.e = 0
  rotate_left
  · unfold frame at h; rw [if_pos he1] at h; exact absurd h he1
  by_cases hm : 128 ≤ (rd s 1 st).1 ∧ (rd s 1 st).1 < 247
  · unfold frame at h; rw [if_neg (fun g => g he1), if_pos hm] at h; exact absurd h (fail_e (by decide))
  have hx256 := rd1 s st
  have hs1 := rd_fact he1
  obtain ⟨x, hx⟩ : ∃ x, rd s 1 st = (x, ⟨st.pos + 1, 0, st.p⟩) := ⟨_, by rw [← hs1]⟩
  rw [hx] at hm hx256
  simp only at hm hx256
  clear hs1 he1
  obtain ⟨d, s2, hd⟩ : ∃ d s2, dlt s x ⟨st.pos + 1, 0, st.p⟩ = (d, s2) := ⟨_, _, rfl⟩
  have hF := frame_of (P := P) (a := a) hx rfl hm hd
  rw [hF] at h ⊢
  simp only at h ⊢
  clear hF hx
  have hs2 : s2.e = 0 := by
    by_cases g : s2.e = 0
    · exact g
    · unfold body at h; rw [if_pos g] at h; exact absurd h g
  have hdl : d < 65536 ∧ s2 = ⟨st.pos + 1 + (if 247 ≤ x then 2 else 0), 0, st.p⟩ ∧ (x < 64 → d = x) ∧ (64 ≤ x → x < 128 → d = x - 64) := by
    unfold dlt at hd
    by_cases c1 : x < 64
    · rw [if_pos c1] at hd; cases hd
      exact ⟨by omega, by rw [if_neg (by omega)], fun _ => rfl, fun g => by omega⟩
    · rw [if_neg c1] at hd
      by_cases c2 : x < 128
      · rw [if_pos c2] at hd; cases hd
        exact ⟨by omega, by rw [if_neg (by omega)], fun g => by omega, fun _ _ => rfl⟩
      · rw [if_neg c2] at hd
        have q := rd2 s ⟨st.pos + 1, 0, st.p⟩
        rw [hd] at q
        have h2 := rd_fact (s := s) (n := 2) (st := ⟨st.pos + 1, 0, st.p⟩) (by rw [hd]; exact hs2)
        rw [hd] at h2
        exact ⟨q, by rw [if_pos (by omega)]; exact h2, fun g => by omega, fun _ g => by omega⟩
  obtain ⟨hd1, rfl, hd3, hd4⟩ := hdl
  clear hd hs2
  obtain ⟨B, hB⟩ : ∃ B, B = body s P a.locals x st.pos ⟨st.pos + 1 + (if 247 ≤ x then 2 else 0), 0, st.p⟩ := ⟨_, rfl⟩
  rw [← hB] at h ⊢
  unfold body at hB
  rw [if_neg (fun g => g rfl)] at hB
  by_cases c255 : x = 255
  · rw [if_pos c255] at hB
    subst c255
    rw [if_pos (show 247 ≤ 255 by omega)] at hB
    obtain ⟨n1, s3, hr⟩ : ∃ n1 s3, rd s 2 ⟨st.pos + 1 + 2, 0, st.p⟩ = (n1, s3) := ⟨_, _, rfl⟩
    rw [hr] at hB
    simp only at hB
    by_cases e3 : s3.e = 0
    rotate_left
    · rw [if_pos e3] at hB; subst hB; exact absurd h e3
    rw [if_neg (fun g => g e3)] at hB
    have r3 := rd_fact (s := s) (n := 2) (st := ⟨st.pos + 1 + 2, 0, st.p⟩) (by rw [hr]; exact e3)
    rw [hr] at r3
    simp only at r3
    subst r3
    obtain ⟨V, s4, hv⟩ : ∃ V s4, vals s P n1 ⟨st.pos + 1 + 2 + 2, 0, st.p⟩ = (V, s4) := ⟨_, _, rfl⟩
    rw [hv] at hB
    simp only at hB
    by_cases e4 : s4.e = 0
    rotate_left
    · rw [if_pos e4] at hB; subst hB; exact absurd h e4
    rw [if_neg (fun g => g e4)] at hB
    obtain ⟨v1, v2, v3⟩ := vals_fact (s := s) (P := P) (n := n1) (st := ⟨st.pos + 1 + 2 + 2, 0, st.p⟩) (by rw [hv]; exact e4)
    rw [hv] at v1 v2 v3
    simp only at v1 v2 v3
    subst v3
    obtain ⟨n2, s5, hr5⟩ : ∃ n2 s5, rd s 2 ⟨st.pos + 1 + 2 + 2 + costs V, 0, st.p⟩ = (n2, s5) := ⟨_, _, rfl⟩
    rw [hr5] at hB
    simp only at hB
    by_cases e5 : s5.e = 0
    rotate_left
    · rw [if_pos e5] at hB; subst hB; exact absurd h e5
    rw [if_neg (fun g => g e5)] at hB
    have r5 := rd_fact (s := s) (n := 2) (st := ⟨st.pos + 1 + 2 + 2 + costs V, 0, st.p⟩) (by rw [hr5]; exact e5)
    rw [hr5] at r5
    simp only at r5
    subst r5
    obtain ⟨W, s6, hw⟩ : ∃ W s6, vals s P n2 ⟨st.pos + 1 + 2 + 2 + costs V + 2, 0, st.p⟩ = (W, s6) := ⟨_, _, rfl⟩
    rw [hw] at hB
    subst hB
    simp only at h ⊢
    obtain ⟨w1, w2, w3⟩ := vals_fact (s := s) (P := P) (n := n2) (st := ⟨st.pos + 1 + 2 + 2 + costs V + 2, 0, st.p⟩) (by rw [hw]; exact h)
    rw [hw] at w1 w2 w3
    simp only at w1 w2 w3
    subst w3
    have l1 := costs_le V
    have l2 := costs_le W
    refine ⟨1 + 2 + 2 + costs V + 2 + costs W, by simp only [Nat.add_assoc], by simp only; omega, by simp only; omega, by simp only; omega, w2, fun t ht => v2 t (List.mem_of_mem_drop ht), ?_⟩
    have l3 := costs_drop V (if ftag ⟨a.at_ + 1 + (d : Int), V, W⟩ a = 255 then 0 else sh V a.locals)
    simp only
    generalize ftag ⟨a.at_ + 1 + (d : Int), V, W⟩ a = y at l3 ⊢
    generalize costs (V.drop (if y = 255 then 0 else sh V a.locals)) = z at l3 ⊢
    repeat' split
    all_goals omega
  rw [if_neg c255] at hB
  by_cases c251 : 251 < x
  · rw [if_pos c251, if_pos (by omega)] at hB
    obtain ⟨V, s4, hv⟩ : ∃ V s4, vals s P (x - 251) ⟨st.pos + 1 + 2, 0, st.p⟩ = (V, s4) := ⟨_, _, rfl⟩
    rw [hv] at hB
    subst hB
    simp only at h ⊢
    obtain ⟨v1, v2, v3⟩ := vals_fact (s := s) (P := P) (n := x - 251) (st := ⟨st.pos + 1 + 2, 0, st.p⟩) (by rw [hv]; exact h)
    rw [hv] at v1 v2 v3
    simp only at v1 v2 v3
    subst v3
    have l1 := costs_le V
    have hsh := sh_app a.locals V
    refine ⟨1 + 2 + costs V, by simp only [Nat.add_assoc], Fq.mk_small (d := d) (x := x) rfl hd1 c255 ?_ ?_ ?_ (fun t ht => by cases ht) ?_ ?_⟩
    · simp only [hsh, List.length_append, List.length_nil]
      rw [Nat.sub_self, Nat.add_sub_cancel_left, v1]
      unfold form
      rw [if_neg (by omega), if_neg (by omega), if_neg (by omega), if_neg (by omega), if_pos (by omega)]
      omega
    · simp only [List.length_append]; omega
    · simp
    · simp only [hsh]; rw [List.drop_left]; exact v2
    · simp only [hsh]; rw [List.drop_left, if_pos (by omega)]; simp [costs]
  rw [if_neg c251] at hB
  by_cases c247 : 247 < x
  · rw [if_pos c247, if_pos (show 247 ≤ x by omega)] at hB
    by_cases hlen : a.locals.length < 251 - x
    · rw [if_pos hlen] at hB; subst hB; exact absurd h (fail_e (by decide))
    rw [if_neg hlen] at hB
    subst hB
    simp only at h ⊢
    have hsh := sh_pre a.locals (a.locals.length - (251 - x)) (by omega)
    have hdr : (a.locals.take (a.locals.length - (251 - x))).drop (a.locals.length - (251 - x)) = [] := List.drop_eq_nil_of_le (by simp)
    have hlt : (a.locals.take (a.locals.length - (251 - x))).length = a.locals.length - (251 - x) := by simp
    refine ⟨1 + 2, by simp only [Nat.add_assoc], Fq.mk_small (d := d) (x := if x = 251 ∧ d < 64 then d else x) rfl hd1 (by split <;> omega) ?_ ?_ ?_ (fun t ht => by cases ht) ?_ ?_⟩
    · simp only [hsh, hlt, List.length_nil]
      rw [Nat.sub_self, show a.locals.length - (a.locals.length - (251 - x)) = 251 - x by omega]
      unfold form
      by_cases g : x = 251 ∧ d < 64
      · rw [if_pos (by omega), if_pos g]
      · rw [if_neg (by omega), if_neg (by omega), if_neg (by omega), if_pos (by omega), if_neg g]; omega
    · simp only [hlt]; omega
    · simp
    · simp only [hsh, hdr]; intro t ht; cases ht
    · simp only [hsh, hdr, costs]; repeat' split
      all_goals omega
  rw [if_neg c247] at hB
  by_cases c64 : 64 ≤ x
  · rw [if_pos c64] at hB
    obtain ⟨V, s4, hv⟩ : ∃ V s4, vals s P 1 ⟨st.pos + 1 + (if 247 ≤ x then 2 else 0), 0, st.p⟩ = (V, s4) := ⟨_, _, rfl⟩
    rw [hv] at hB
    subst hB
    simp only at h ⊢
    obtain ⟨v1, v2, v3⟩ := vals_fact (s := s) (P := P) (n := 1) (st := ⟨st.pos + 1 + (if 247 ≤ x then 2 else 0), 0, st.p⟩) (by rw [hv]; exact h)
    rw [hv] at v1 v2 v3
    simp only at v1 v2 v3
    subst v3
    have l1 := costs_le V
    have hsh := sh_self a.locals
    have hdr : a.locals.drop a.locals.length = [] := List.drop_length
    refine ⟨1 + (if 247 ≤ x then 2 else 0) + costs V, by simp only [Nat.add_assoc], Fq.mk_small (d := d) (x := if d < 64 then 64 + d else x) rfl hd1 (by split <;> omega) ?_ ?_ ?_ v2 ?_ ?_⟩
    · simp only [hsh, v1, Nat.sub_self]
      unfold form
      by_cases g : d < 64
      · rw [if_neg (by omega), if_pos (by omega), if_pos g]
      · rw [if_neg (by omega), if_neg (by omega), if_pos (by omega), if_neg g]; omega
    · simp only; omega
    · simp only; omega
    · simp only [hsh, hdr]; intro t ht; cases ht
    · simp only [hsh, hdr, costs]; repeat' split
      all_goals omega
  · rw [if_neg c64, if_neg (by omega)] at hB
    subst hB
    simp only at h ⊢
    have hsh := sh_self a.locals
    have hdr : a.locals.drop a.locals.length = [] := List.drop_length
    have hdx := hd3 (by omega)
    refine ⟨1, by simp only [Nat.add_zero], Fq.mk_small (d := d) (x := d) rfl hd1 (by omega) ?_ ?_ ?_ (fun t ht => by cases ht) ?_ ?_⟩
    · simp only [hsh, Nat.sub_self, List.length_nil]
      unfold form
      rw [if_pos (by omega)]
    · simp only; omega
    · simp
    · simp only [hsh, hdr]; intro t ht; cases ht
    · simp only [hsh, hdr, costs]; rw [if_neg (by omega)]; omega
theorem frames_fact {s : List UInt8} {P : List K} : ∀ {n : Nat} {a : Fm} {st : St} {k : Nat}, (frames s P n a st).2.e = 0 → -1 ≤ a.at_ → (∀ f ∈ (frames s P n a st).1, f.at_ ≤ 65535) → a.locals.length + s.length ≤ 65535 + st.pos → st.pos ≤ s.length → s.length ≤ 65535 →
    (frames s P n a st).1.length = n ∧ ∃ m, (frames s P n a st).2 = ⟨st.pos + m, 0, st.p⟩ ∧
      (∀ e, wrs P (frames s P n a st).1 a k = .error e → e.1 = 7) ∧
      (∀ j b, wrs P ((frames s P n a st).1.take j) a k = .ok b → b.length ≤ m) ∧
      (∀ b s' r q p, wrs P (frames s P n a st).1 a k = .ok b → s'.drop q = b ++ r → q ≤ s'.length → frames s' P n a ⟨q, 0, p⟩ = ((frames s P n a st).1, ⟨q + b.length, 0, p⟩) ∧ s'.drop (q + b.length) = r ∧ q + b.length ≤ s'.length)
  | 0, a, st, k, h, _, _, _, _, _ => by
    refine ⟨rfl, 0, ?_, (fun e g => by cases g), fun j b g => ?_, fun b s' r q p g h1 h2 => ?_⟩
    · obtain ⟨x, y, z⟩ := st
      simp only [frames] at h ⊢
      rw [h]; rfl
    · simp only [frames, List.take_nil] at g
      cases g; exact Nat.le_refl _
    · cases g; exact ⟨rfl, h1, h2⟩
  | n + 1, a, st, k, h, ha, hall, hl, hp, hsl => by
    rw [frames] at h hall ⊢
    by_cases he : (frame s P a st).2.e = 0
    rotate_left
    · rw [if_neg he] at h; exact absurd h he
    rw [if_pos he] at h hall ⊢
    simp only at h hall ⊢
    obtain ⟨m1, hm1, hq⟩ := frame_fact he
    have hpos := frame_pos (P := P) (a := a) hp
    have hat := hall _ (List.mem_cons_self ..)
    rw [hm1] at hpos
    simp only at hpos
    obtain ⟨i1, m2, i2, i3, i4, i5⟩ := frames_fact (s := s) (P := P) (n := n) (a := (frame s P a st).1) (st := (frame s P a st).2) (k := k + 1) h (by have := hq.1; omega) (fun f hf => hall f (List.mem_cons_of_mem _ hf)) (by have := hq.2.1; rw [hm1]; simp only; omega) (by rw [hm1]; exact hpos) hsl
    refine ⟨by rw [List.length_cons, i1], m1 + m2, by rw [i2, hm1]; simp only [Nat.add_assoc], fun e g => ?_, fun j b g => ?_, fun b s' r q p g h1 h2 => ?_⟩
    · rw [wrs] at g
      cases hf : frw P (frame s P a st).1 a with
      | error e' =>
        rw [hf] at g; cases g
        exact hq.bad hat (by have := hq.2.1; omega) (by have := hq.2.2.1; omega) hf
      | ok b1 =>
        rw [hf] at g
        simp only at g
        cases hw : wrs P (frames s P n (frame s P a st).1 (frame s P a st).2).1 (frame s P a st).1 (k + 1) with
        | error e' => rw [hw] at g; cases g; exact i3 _ hw
        | ok b2 => rw [hw] at g; cases g
    · cases j with
      | zero => rw [List.take_zero, wrs] at g; cases g; exact Nat.zero_le _
      | succ j =>
        rw [List.take_succ_cons, wrs] at g
        cases hf : frw P (frame s P a st).1 a with
        | error e' => rw [hf] at g; cases g
        | ok b1 =>
          rw [hf] at g
          simp only at g
          cases hw : wrs P ((frames s P n (frame s P a st).1 (frame s P a st).2).1.take j) (frame s P a st).1 (k + 1) with
          | error e' => rw [hw] at g; cases g
          | ok b2 =>
            rw [hw] at g; cases g
            have := hq.ok hf
            have := i4 j b2 hw
            rw [List.length_append]; omega
    · rw [wrs] at g
      cases hf : frw P (frame s P a st).1 a with
      | error e' => rw [hf] at g; cases g
      | ok b1 =>
        rw [hf] at g
        simp only at g
        cases hw : wrs P (frames s P n (frame s P a st).1 (frame s P a st).2).1 (frame s P a st).1 (k + 1) with
        | error e' => rw [hw] at g; cases g
        | ok b2 =>
          rw [hw] at g; cases g
          obtain ⟨u1, u2, u3⟩ := frame_frw (p := p) (r := b2 ++ r) ha hf hq.2.2.2.2.1 hq.2.2.2.1 (by rw [h1, List.append_assoc]) h2
          obtain ⟨y1, y2, y3⟩ := i5 b2 s' r (q + b1.length) p hw u2 u3
          rw [frames, u1]
          simp only
          rw [if_pos trivial, y1, List.length_append, ← Nat.add_assoc]
          exact ⟨rfl, y2, y3⟩
end M
end Go.Proofs.Ytgihfcjddkpkaaa
namespace Go.Proofs.Ytgihfcjddkpkaaa
set_option linter.unusedSimpArgs false
namespace M
/-- The frames of a text; where reading ends. -/
def all (s : List UInt8) (P : List K) (F : List T) : List Fm × St := frames s P (rd s 2 ⟨0, 0, 0⟩).1 ⟨-1, F, []⟩ (rd s 2 ⟨0, 0, 0⟩).2
theorem frames_good {s : List UInt8} {P : List K} {n : Nat} {a : Fm} {st : St} (h : (frames s P n a st).2.e = 0) : st.e = 0 := by
  cases n with
  | zero => exact h
  | succ n =>
    by_cases he : st.e = 0
    · exact he
    · have hr : rd s 1 st = (0, st) := rd_bad he
      have hf : (frame s P a st).2 = st := by unfold frame; rw [hr]; simp only; rw [if_pos he]
      rw [frames, hf, if_neg he] at h
      exact absurd h he
theorem fin_good {s : List UInt8} {st : St} (h : (fin s st).e = 0) : st.e = 0 ∧ s.length ≤ st.pos := by
  unfold fin at h
  split at h
  · exact absurd h (fail_e (by decide))
  · exact ⟨h, by omega⟩
theorem round {s : List UInt8} {P : List K} {F : List T} (hl : F.length + s.length ≤ 65535) (he : (fin s (all s P F).2).e = 0) (hat : ∀ f ∈ (all s P F).1, f.at_ ≤ 65535) :
    (∀ e, write P F (all s P F).1 = .error e → e.1 = 7) ∧ (∀ j b, wrs P ((all s P F).1.take j) ⟨-1, F, []⟩ 0 = .ok b → b.length ≤ s.length) ∧
      ∀ b, write P F (all s P F).1 = .ok b → b.length ≤ s.length ∧ all b P F = ((all s P F).1, ⟨b.length, 0, 0⟩) ∧ (fin b (all b P F).2).e = 0 := by
  obtain ⟨h1, h2⟩ := fin_good he
  have hn := rd2 s ⟨0, 0, 0⟩
  have hp := rd_pos (s := s) (n := 2) (st := ⟨0, 0, 0⟩) (Nat.zero_le _)
  unfold all at h1 h2 hat ⊢
  have hr := rd_fact (frames_good h1)
  obtain ⟨i1, m, i2, i3, i4, i5⟩ := frames_fact (k := 0) h1 (by simp) hat (by simp only; omega) hp (by omega)
  rw [hr] at i2 hp
  simp only at i2 hp
  have hfp : (frames s P (rd s 2 ⟨0, 0, 0⟩).1 ⟨-1, F, []⟩ (rd s 2 ⟨0, 0, 0⟩).2).2.pos ≤ s.length := frames_pos (by rw [hr]; exact hp)
  rw [hr] at hfp
  rw [i2] at hfp
  simp only at hfp
  generalize hFs : (frames s P (rd s 2 ⟨0, 0, 0⟩).1 ⟨-1, F, []⟩ (rd s 2 ⟨0, 0, 0⟩).2).1 = Fs at *
  generalize hN : (rd s 2 ⟨0, 0, 0⟩).1 = N at *
  refine ⟨fun e g => ?_, fun j b g => by have := i4 j b g; omega, fun b g => ?_⟩
  · unfold write at g
    rw [if_neg (by omega)] at g
    cases hw : wrs P Fs ⟨-1, F, []⟩ 0 with
    | error e' => rw [hw] at g; cases g; exact i3 _ hw
    | ok b => rw [hw] at g; cases g
  · unfold write at g
    rw [if_neg (by omega)] at g
    cases hw : wrs P Fs ⟨-1, F, []⟩ 0 with
    | error e' => rw [hw] at g; cases g
    | ok b1 =>
      rw [hw] at g
      cases g
      have hb := i4 Fs.length b1 (by rw [List.take_length]; exact hw)
      obtain ⟨g1, g2, g3⟩ := rd_two (s := big Fs.length 2 ++ b1) (r := b1) (q := 0) (p := 0) (n := Fs.length) (by simp) (by omega) (Nat.zero_le _)
      obtain ⟨j1, j2, j3⟩ := i5 b1 (big Fs.length 2 ++ b1) [] (0 + 2) 0 hw (by rw [g2]; simp) g3
      have hlen : (big Fs.length 2 ++ b1).length = 0 + 2 + b1.length := by rw [List.length_append, big_len]
      rw [g1]
      simp only
      rw [i1] at j1 hlen ⊢
      rw [j1, hlen]
      refine ⟨by omega, rfl, ?_⟩
      unfold fin
      rw [if_neg (by simp only; omega)]
theorem frames_ll {s : List UInt8} {P : List K} {N : Nat} : ∀ {n : Nat} {a : Fm} {st : St}, a.locals.length + s.length ≤ N + st.pos → st.pos ≤ s.length → (∀ f ∈ (frames s P n a st).1, f.locals.length ≤ N ∧ f.stack.length ≤ s.length)
  | 0, _, _, _, _ => fun _ h => by cases h
  | n + 1, a, st, h1, h2 => by
    have hp := frame_pos (P := P) (a := a) h2
    rw [frames]
    by_cases he : (frame s P a st).2.e = 0
    · rw [if_pos he]
      obtain ⟨m, hm, hq⟩ := frame_fact he
      rw [hm] at hp
      simp only at hp
      have q1 := hq.2.1
      have q2 := hq.2.2.1
      intro f hf
      rcases List.mem_cons.1 hf with rfl | hf
      · exact ⟨by omega, by omega⟩
      · exact frames_ll (by rw [hm]; simp only; omega) (by rw [hm]; exact hp) f hf
    · rw [if_neg he]; intro f hf; cases hf
theorem all_ll {s : List UInt8} {P : List K} {F : List T} (he : (fin s (all s P F).2).e = 0) : ∀ f ∈ (all s P F).1, f.locals.length ≤ F.length + s.length ∧ f.stack.length ≤ s.length := by
  have h1 := (fin_good he).1
  have hp := rd_pos (s := s) (n := 2) (st := ⟨0, 0, 0⟩) (Nat.zero_le _)
  unfold all at h1 ⊢
  exact frames_ll (by simp only; omega) hp
theorem frames_n {s : List UInt8} {P : List K} : ∀ {n : Nat} {a : Fm} {st : St}, (frames s P n a st).1.length ≤ n
  | 0, _, _ => Nat.le_refl _
  | n + 1, a, st => by
    rw [frames]
    split
    · have := frames_n (s := s) (P := P) (n := n) (a := (frame s P a st).1) (st := (frame s P a st).2)
      simp only [List.length_cons]; omega
    · simp
theorem all_n {s : List UInt8} {P : List K} {F : List T} : (all s P F).1.length ≤ 65535 := by
  have := frames_n (s := s) (P := P) (n := (rd s 2 ⟨0, 0, 0⟩).1) (a := ⟨-1, F, []⟩) (st := (rd s 2 ⟨0, 0, 0⟩).2)
  have := rd2 s ⟨0, 0, 0⟩
  unfold all; omega
theorem vty_all {s : List UInt8} {P : List K} {st : St} (h : Txt P) : (vty s P st).1.tag < 256 ∧ (vty s P st).1.name.length ≤ maxLen := by
  have := rd1 s st
  unfold vty
  split
  · exact ⟨by simp only; omega, h.cls _⟩
  · split
    · exact ⟨by simp only; omega, by simp⟩
    · split
      · exact ⟨by simp only; omega, by simp⟩
      · exact ⟨by simp only; omega, by simp⟩
theorem vals_all {s : List UInt8} {P : List K} (h : Txt P) : ∀ {n : Nat} {st : St}, Tok (vals s P n st).1
  | 0, st => fun t ht => by cases ht
  | n + 1, st => by
    rw [vals]
    split
    · intro t ht
      rcases List.mem_cons.1 ht with rfl | ht
      · exact vty_all h
      · exact vals_all h t ht
    · intro t ht; cases ht
theorem Tok.app {A B : List T} (h1 : Tok A) (h2 : Tok B) : Tok (A ++ B) := fun t ht => by
  rcases List.mem_append.1 ht with h | h
  · exact h1 t h
  · exact h2 t h
theorem Tok.nil : Tok [] := fun t ht => by cases ht
theorem body_all {s : List UInt8} {P : List K} {L : List T} {tag from_ : Nat} {st : St} (h : Txt P) (hL : Tok L) : Tok (body s P L tag from_ st).1 ∧ Tok (body s P L tag from_ st).2.1 := by
  unfold body
  split
  · exact ⟨Tok.nil, Tok.nil⟩
  · split
    · split
      · exact ⟨Tok.nil, Tok.nil⟩
      · split
        · exact ⟨Tok.nil, Tok.nil⟩
        · split
          · exact ⟨Tok.nil, Tok.nil⟩
          · exact ⟨vals_all h, vals_all h⟩
    · split
      · exact ⟨Tok.app hL (vals_all h), Tok.nil⟩
      · split
        · split
          · exact ⟨Tok.nil, Tok.nil⟩
          · exact ⟨fun t ht => hL t (List.mem_of_mem_take ht), Tok.nil⟩
        · split
          · exact ⟨hL, vals_all h⟩
          · exact ⟨hL, Tok.nil⟩
theorem frames_all {s : List UInt8} {P : List K} (h : Txt P) : ∀ {n : Nat} {a : Fm} {st : St}, Tok a.locals → ∀ f ∈ (frames s P n a st).1, Tok f.locals ∧ Tok f.stack
  | 0, _, _, _ => fun f hf => by cases hf
  | n + 1, a, st, ha => by
    rw [frames]
    by_cases he : (frame s P a st).2.e = 0
    · rw [if_pos he]
      have hfr : Tok (frame s P a st).1.locals ∧ Tok (frame s P a st).1.stack := by
        unfold frame at he ⊢
        by_cases h1 : (rd s 1 st).2.e ≠ 0
        · rw [if_pos h1] at he; exact absurd he h1
        · rw [if_neg h1] at he ⊢
          by_cases h2 : 128 ≤ (rd s 1 st).1 ∧ (rd s 1 st).1 < 247
          · rw [if_pos h2] at he; exact absurd he (fail_e (by decide))
          · rw [if_neg h2]; exact body_all h ha
      intro f hf
      rcases List.mem_cons.1 hf with rfl | hf
      · exact hfr
      · exact frames_all h hfr.1 f hf
    · rw [if_neg he]; intro f hf; cases hf
end M
end Go.Proofs.Ytgihfcjddkpkaaa
namespace Go.Proofs.Ytgihfcjddkpkaaa.Po
theorem num_cons (b : UInt8) (l : List UInt8) : ∀ x, (b :: l).foldl (fun x b => x * 256 + b.toNat) x = l.foldl (fun x b => x * 256 + b.toNat) (x * 256 + b.toNat) := fun _ => rfl
/-- Bytes are the big-endian bytes of their number. -/
theorem big_num (n : Nat) : ∀ l : List UInt8, l.length = n → M.big (M.num l) n = l := by
  induction n with
  | zero => intro l hl; rw [List.length_eq_zero_iff.1 hl]; rfl
  | succ n ih =>
    intro l hl
    have h1 := num_take l n (by omega)
    rw [List.take_of_length_le (by omega)] at h1
    have h2 := (l.getD n 0).toNat_lt
    show M.big (M.num l / 256) n ++ [UInt8.ofNat (M.num l % 256)] = l
    rw [h1, show (M.num (l.take n) * 256 + (l.getD n 0).toNat) / 256 = M.num (l.take n) by omega, show (M.num (l.take n) * 256 + (l.getD n 0).toNat) % 256 = (l.getD n 0).toNat by omega, ih _ (by simp; omega)]
    have h3 : l = l.take n ++ [l.getD n 0] := by
      have : l.take (n + 1) = l.take n ++ [l.getD n 0] := by
        rw [List.take_add_one, List.getElem?_eq_getElem (by omega)]; simp only [Option.toList_some, List.getD, List.getElem?_eq_getElem (show n < l.length by omega), Option.getD_some]
      rw [← this, List.take_of_length_le (by omega)]
    rw [show UInt8.ofNat (l.getD n 0).toNat = l.getD n 0 by simp]
    exact h3.symm
section
variable {s : List UInt8}
theorem take_good {k : Nat} {st : St} (hp : st.pos ≤ s.length) (h : (M.take s k st).2.e = 0) : st.e = 0 ∧ st.pos + k ≤ s.length ∧ M.take s k st = ((s.drop st.pos).take k, ⟨st.pos + k, 0, st.p⟩) := by
  unfold M.take at h ⊢
  by_cases he : st.e = 0
  · rw [if_pos he] at h ⊢
    by_cases hk : s.length - st.pos < k
    · rw [if_pos hk] at h; simp at h
    · rw [if_neg hk]; exact ⟨he, by omega, rfl⟩
  · rw [if_neg he] at h; exact absurd h he
theorem take_e' {k : Nat} {st : St} (h : (M.take s k st).2.e = 0) : st.e = 0 := by
  unfold M.take at h; split at h
  · assumption
  · exact h
theorem fail_good {st : St} {e p : Nat} (he : e ≠ 0) (h : (M.fail st e p).e = 0) : False := by
  unfold M.fail at h; split at h
  · exact he h
  · exact absurd h ‹_›
end
/-- A constant that was read in full: its bytes, and that it stands in bytes that begin alike. -/
structure Got (s : List UInt8) (a : Nat) (c : K) (x : St) : Prop where
  pos : x = ⟨a + (M.cb c).length, 0, 0⟩
  fits : a + (M.cb c).length ≤ s.length
  bytes : (s.drop a).take (M.cb c).length = M.cb c
  right : Wrong c 0
  tag : c.tag ≠ 0
  fit : Fits c
  txt : c.text.length ≤ (M.cb c).length
  again : ∀ s' m, s'.take m = s.take m → m ≤ s'.length → m ≤ s.length → a + (M.cb c).length ≤ m → CM s' ⟨a, 0, 0⟩ c x
theorem part_eq {s s' : List UInt8} {m p k : Nat} (h : s'.take m = s.take m) (hk : p + k ≤ m) : (s'.drop p).take k = (s.drop p).take k := by
  have e1 : ∀ t : List UInt8, (t.drop p).take k = ((t.take m).drop p).take k := fun t => by
    rw [List.drop_take, List.take_take, show min k (m - p) = k by omega]
  rw [e1 s', e1 s, h]
theorem head_eq {s : List UInt8} {a : Nat} (h : a < s.length) (k : Nat) : (s.drop a).take (k + 1) = s.getD a 0 :: (s.drop (a + 1)).take k := by
  rw [List.drop_eq_getElem_cons h, List.take_succ_cons]; simp [List.getD, List.getElem?_eq_getElem h]
theorem num_lt' (l : List UInt8) (k : Nat) (h : l.length ≤ k) : M.num l < 256 ^ k := Nat.lt_of_lt_of_le (num_lt l) (Nat.pow_le_pow_right (by omega) h)
theorem take_take_len {s : List UInt8} {a k : Nat} (h : a + k ≤ s.length) : ((s.drop a).take k).length = k := by simp; omega
theorem take_add {s : List UInt8} {a j k : Nat} : (s.drop a).take (j + k) = (s.drop a).take j ++ (s.drop (a + j)).take k := by
  rw [List.take_add, List.drop_drop]
theorem got {s : List UInt8} {a : Nat} {c : K} {x : St} (ha : a ≤ s.length) (h : CM s ⟨a, 0, 0⟩ c x) (he : x.e = 0) : Got s a c x := by
  have h1 : (M.take s 1 ⟨a, 0, 0⟩).2.e = 0 := by
    rcases h with ⟨_, _, ⟨_, rfl⟩ | ⟨_, rfl⟩⟩ | ⟨_, _, rfl⟩ | ⟨_, _, rfl⟩ | ⟨_, _, rfl⟩ | ⟨_, _, rfl⟩ | ⟨_, _, rfl⟩
    · exact take_e' (take_e' he)
    · exact (fail_good (by omega) he).elim
    · exact take_e' he
    · exact take_e' he
    · exact take_e' he
    · exact take_e' (take_e' he)
    · exact (fail_good (by omega) he).elim
  obtain ⟨-, b1, q1⟩ := take_good (s := s) (st := ⟨a, 0, 0⟩) ha h1
  simp only at b1 q1
  have hal : a < s.length := by omega
  have hn := num_one hal
  have ht := (s.getD a 0).toNat_lt
  unfold CM at h
  rw [q1] at h
  simp only [hn] at h
  obtain ⟨t, et⟩ : ∃ t, t = (s.getD a 0).toNat := ⟨_, rfl⟩
  rw [← et] at h ht
  have hof : UInt8.ofNat t = s.getD a 0 := by rw [et]; simp
  have hone : ∀ s' m, s'.take m = s.take m → m ≤ s'.length → a + 1 ≤ m → M.num (M.take s' 1 ⟨a, 0, 0⟩).1 = t ∧ (M.take s' 1 ⟨a, 0, 0⟩).2 = ⟨a + 1, 0, 0⟩ := fun s' m hm hl' hk => by
    rw [take_ok (by omega)]
    simp only
    rw [part_eq hm hk, hn, et]; exact ⟨rfl, trivial⟩
  have hmore : ∀ s' m p k, s'.take m = s.take m → m ≤ s'.length → p + k ≤ m → M.take s' k ⟨p, 0, 0⟩ = ((s.drop p).take k, ⟨p + k, 0, 0⟩) := fun s' m p k hm hl' hk => by
    rw [take_ok (by omega), part_eq hm hk]
  rcases h with ⟨g1, g2, g3⟩ | ⟨g1, g2, rfl⟩ | ⟨g1, g2, rfl⟩ | ⟨g1, g2, rfl⟩ | ⟨g1, g2, rfl⟩ | ⟨g1, g2, rfl⟩
  · rcases g3 with ⟨hx, rfl⟩ | ⟨_, rfl⟩
    rotate_left
    · exact (fail_good (by omega) he).elim
    have he2 := take_e' he
    obtain ⟨-, b2, q2⟩ := take_good (s := s) (st := ⟨a + 1, 0, 0⟩) b1 he2
    simp only at b2 q2
    rw [q2] at g2 he ⊢
    simp only at g2 he ⊢
    obtain ⟨-, b3, q3⟩ := take_good (s := s) (st := ⟨a + 1 + 2, 0, 0⟩) b2 he
    simp only at b3 q3
    rw [q3] at g2 ⊢
    simp only at g2 ⊢
    have hl4 := take_take_len (s := s) (a := a + 1) (k := 2) b2
    have hl5 := take_take_len (s := s) (a := a + 1 + 2) b3
    have hnl := num_lt' ((s.drop (a + 1)).take 2) 2 (by omega)
    obtain ⟨k, ek⟩ : ∃ k, k = M.num ((s.drop (a + 1)).take 2) := ⟨_, rfl⟩
    rw [← ek] at g2 b3 hl5 hnl ⊢
    have hcb : M.cb c = (s.drop a).take (3 + k) := by
      rw [g2, show 3 + k = (2 + k) + 1 by omega, head_eq hal (2 + k), ← hof, take_add, g1]
      show UInt8.ofNat 1 :: (M.big ((s.drop (a + 1 + 2)).take k).length 2 ++ (s.drop (a + 1 + 2)).take k) = _
      rw [hl5, ek, big_num 2 _ hl4]
    have hln : (M.cb c).length = 3 + k := by rw [hcb]; exact take_take_len (by omega)
    refine ⟨by rw [hln]; congr 1; omega, by omega, by rw [hln, hcb], ?_, by rw [g2]; simp, ?_, ?_, fun s' m hm hl' hl hk => ?_⟩
    · rw [g2]; rw [g2] at hx; exact .inl ⟨rfl, .inr ⟨hx, .inr ⟨by simp only; omega, rfl⟩⟩⟩
    · rw [g2]; exact ⟨by simp, by simp only; omega, by simp, by simp, by simp⟩
    · rw [hln, g2]; simp only; omega
    · rw [hln] at hk
      obtain ⟨r1, r2⟩ := hone s' m hm hl' (by omega)
      unfold CM
      rw [r1, r2, hmore s' m (a + 1) 2 hm hl' (by omega)]
      simp only
      rw [← ek, hmore s' m (a + 1 + 2) k hm hl' (by omega)]
      exact .inl ⟨g1, g2, .inl ⟨hx, rfl⟩⟩
  · obtain ⟨-, b2, q2⟩ := take_good (s := s) (st := ⟨a + 1, 0, 0⟩) b1 he
    simp only at b2 q2
    rw [q2] at g2 ⊢
    have hl4 := take_take_len (s := s) (a := a + 1) (k := 4) b2
    have hcb : M.cb c = (s.drop a).take 5 := by
      rw [g2, head_eq hal 4, ← hof]
      unfold M.cb M.cbody; simp only
      rw [if_neg (by omega), if_neg (by omega), if_pos g1, big_num 4 _ hl4]
    have hln : (M.cb c).length = 5 := by rw [hcb]; exact take_take_len (by omega)
    have hnl := num_lt' ((s.drop (a + 1)).take 4) 4 (by omega)
    refine ⟨by rw [hln], by omega, by rw [hln, hcb], ?_, by rw [g2]; simp only; omega, ?_, ?_, fun s' m hm hl' hl hk => ?_⟩
    · rw [g2]; exact .inr (.inl ⟨g1, .inr ⟨by simpa using hnl, rfl⟩⟩)
    · rw [g2]; exact ⟨ht, by simp, by simp only; omega, by simp, by simp⟩
    · rw [g2]; simp
    · rw [hln] at hk
      obtain ⟨r1, r2⟩ := hone s' m hm hl' (by omega)
      unfold CM
      rw [r1, r2, hmore s' m (a + 1) 4 hm hl' (by omega)]
      exact .inr (.inl ⟨g1, g2, rfl⟩)
  · obtain ⟨-, b2, q2⟩ := take_good (s := s) (st := ⟨a + 1, 0, 0⟩) b1 he
    simp only at b2 q2
    rw [q2] at g2 ⊢
    have hl4 := take_take_len (s := s) (a := a + 1) (k := 8) b2
    have hcb : M.cb c = (s.drop a).take 9 := by
      rw [g2, head_eq hal 8, ← hof]
      unfold M.cb M.cbody; simp only
      rw [if_neg (by omega), if_neg (by omega), if_neg (by omega), if_pos g1, big_num 8 _ hl4]
    have hln : (M.cb c).length = 9 := by rw [hcb]; exact take_take_len (by omega)
    have hnl := num_lt' ((s.drop (a + 1)).take 8) 8 (by omega)
    refine ⟨by rw [hln], by omega, by rw [hln, hcb], ?_, by rw [g2]; simp only; omega, ?_, ?_, fun s' m hm hl' hl hk => ?_⟩
    · rw [g2]; exact .inr (.inr (.inl ⟨.inr (by simp only; omega), rfl⟩))
    · rw [g2]; exact ⟨ht, by simp, by simp only; omega, by simp, by simp⟩
    · rw [g2]; simp
    · rw [hln] at hk
      obtain ⟨r1, r2⟩ := hone s' m hm hl' (by omega)
      unfold CM
      rw [r1, r2, hmore s' m (a + 1) 8 hm hl' (by omega)]
      exact .inr (.inr (.inl ⟨g1, g2, rfl⟩))
  · obtain ⟨-, b2, q2⟩ := take_good (s := s) (st := ⟨a + 1, 0, 0⟩) b1 he
    simp only at b2 q2
    rw [q2] at g2 ⊢
    have hl4 := take_take_len (s := s) (a := a + 1) (k := 2) b2
    have hcb : M.cb c = (s.drop a).take 3 := by
      rw [g2, head_eq hal 2, ← hof]
      unfold M.cb M.cbody; simp only
      rw [if_neg (by omega), if_neg (by omega), if_neg (by omega), if_neg (by omega), if_pos g1, big_num 2 _ hl4]
    have hln : (M.cb c).length = 3 := by rw [hcb]; exact take_take_len (by omega)
    have hnl := num_lt' ((s.drop (a + 1)).take 2) 2 (by omega)
    refine ⟨by rw [hln], by omega, by rw [hln, hcb], ?_, by rw [g2]; simp only; omega, ?_, ?_, fun s' m hm hl' hl hk => ?_⟩
    · rw [g2]; exact .inr (.inr (.inl ⟨.inr (by simp only; omega), rfl⟩))
    · rw [g2]; exact ⟨ht, by simp, by simp, by simp only; omega, by simp⟩
    · rw [g2]; simp
    · rw [hln] at hk
      obtain ⟨r1, r2⟩ := hone s' m hm hl' (by omega)
      unfold CM
      rw [r1, r2, hmore s' m (a + 1) 2 hm hl' (by omega)]
      exact .inr (.inr (.inr (.inl ⟨g1, g2, rfl⟩)))
  · have he2 := take_e' he
    obtain ⟨-, b2, q2⟩ := take_good (s := s) (st := ⟨a + 1, 0, 0⟩) b1 he2
    simp only at b2 q2
    rw [q2] at g2 he ⊢
    simp only at g2 he ⊢
    obtain ⟨-, b3, q3⟩ := take_good (s := s) (st := ⟨a + 1 + 2, 0, 0⟩) b2 he
    simp only at b3 q3
    rw [q3] at g2 ⊢
    have hl4 := take_take_len (s := s) (a := a + 1) (k := 2) b2
    have hl5 := take_take_len (s := s) (a := a + 1 + 2) (k := 2) b3
    have hcb : M.cb c = (s.drop a).take 5 := by
      rw [g2, head_eq hal 4, ← hof, show (4 : Nat) = 2 + 2 from rfl, take_add]
      unfold M.cb M.cbody; simp only
      rw [if_neg (by omega), if_neg (by omega), if_neg (by omega), if_neg (by omega), if_neg (by omega), big_num 2 _ hl4, big_num 2 _ hl5]
    have hln : (M.cb c).length = 5 := by rw [hcb]; exact take_take_len (by omega)
    have hnl := num_lt' ((s.drop (a + 1)).take 2) 2 (by omega)
    have hnl2 := num_lt' ((s.drop (a + 1 + 2)).take 2) 2 (by omega)
    refine ⟨by rw [hln], by omega, by rw [hln, hcb], ?_, by rw [g2]; simp only; omega, ?_, ?_, fun s' m hm hl' hl hk => ?_⟩
    · rw [g2]; exact .inr (.inr (.inl ⟨.inr (by simp only; omega), rfl⟩))
    · rw [g2]; exact ⟨ht, by simp, by simp, by simp only; omega, by simp only; omega⟩
    · rw [g2]; simp
    · rw [hln] at hk
      obtain ⟨r1, r2⟩ := hone s' m hm hl' (by omega)
      unfold CM
      rw [r1, r2, hmore s' m (a + 1) 2 hm hl' (by omega)]
      simp only
      rw [hmore s' m (a + 1 + 2) 2 hm hl' (by omega)]
      exact .inr (.inr (.inr (.inr (.inl ⟨g1, g2, rfl⟩))))
  · exact (fail_good (by omega) he).elim
/-- What is read so far. -/
structure Pre (s : List UInt8) (n : Nat) (l : List K) (a : Nat) : Prop where
  le : a ≤ s.length
  bytes : s.take a = M.big n 2 ++ l.flatMap M.cb
  scan : ∀ t r, Scan t l.length false r → Scan (l ++ t) 0 true r
  fit : AllFit l
  txt : texts l ≤ a
theorem texts_snoc (l : List K) (c : K) : texts (l ++ [c]) = texts l + c.text.length := by
  induction l with
  | nil => simp [texts]
  | cons d l ih => simp only [List.cons_append, texts, ih]; omega
theorem Pre.next {s : List UInt8} {n : Nat} {l : List K} {a : Nat} {c : K} {x : St} (h : Pre s n l a) (g : Got s a c x) (ht : ¬ Two c) : Pre s n (l ++ [c]) x.pos := by
  have hp : x.pos = a + (M.cb c).length := by rw [g.pos]
  refine ⟨by rw [hp]; exact g.fits, ?_, fun t r hr => ?_, fun d hd => ?_, by rw [hp, texts_snoc]; have := h.txt; have := g.txt; omega⟩
  · rw [hp, List.take_add, h.bytes, g.bytes, List.flatMap_append, List.flatMap_singleton, List.append_assoc]
  · rw [List.append_assoc]
    refine h.scan _ _ (.inr ⟨(decide_eq_false g.tag).symm, 0, g.right, .inr ⟨rfl, ?_⟩⟩)
    rw [show twoB c.tag = false from decide_eq_false ht]
    rw [List.length_append, List.length_singleton] at hr
    exact hr
  · rcases List.mem_append.1 hd with q | q
    · exact h.fit d q
    · simp at q; rw [q]; exact g.fit
theorem wrong_zero : Wrong K.zero 0 := .inr (.inr (.inl ⟨.inl rfl, rfl⟩))
theorem fits_zero : Fits K.zero := ⟨by decide, by decide, by decide, by decide, by decide⟩
theorem Pre.next2 {s : List UInt8} {n : Nat} {l : List K} {a : Nat} {c : K} {x : St} (h : Pre s n l a) (g : Got s a c x) (ht : Two c) : Pre s n (l ++ [c] ++ [K.zero]) x.pos := by
  have hp : x.pos = a + (M.cb c).length := by rw [g.pos]
  refine ⟨by rw [hp]; exact g.fits, ?_, fun t r hr => ?_, fun d hd => ?_, by rw [hp, texts_snoc, texts_snoc]; have := h.txt; have := g.txt; simp only [K.zero, List.length_nil]; omega⟩
  · rw [hp, List.take_add, h.bytes, g.bytes, List.flatMap_append, List.flatMap_append, List.flatMap_singleton, List.flatMap_singleton, show M.cb K.zero = [] from rfl, List.append_nil, List.append_assoc]
  · rw [List.append_assoc, List.append_assoc]
    refine h.scan _ _ (.inr ⟨(decide_eq_false g.tag).symm, 0, g.right, .inr ⟨rfl, ?_⟩⟩)
    rw [show twoB c.tag = true from decide_eq_true ht]
    refine .inr ⟨rfl, 0, wrong_zero, .inr ⟨rfl, ?_⟩⟩
    rw [List.length_append, List.length_append, List.length_singleton, List.length_singleton] at hr
    exact hr
  · rcases List.mem_append.1 hd with q | q
    · rcases List.mem_append.1 q with q | q
      · exact h.fit d q
      · simp at q; rw [q]; exact g.fit
    · simp at q; rw [q]; exact fits_zero
theorem rounds {s : List UInt8} {n : Nat} : ∀ {f : Nat} {l : List K} {a : Nat} {lo : List K} {m p : Nat}, Fin' s n f l a (lo, m, 0, p) → Pre s n l a → l.length ≤ n →
    Pre s n lo m ∧ lo.length = n ∧ a ≤ m ∧ p = 0 ∧ ∀ s', s'.take m = s.take m → m ≤ s'.length → Fin' s' n f l a (lo, m, 0, 0)
  | 0, _, _, _, _, _, h, _, _ => h.elim
  | f + 1, l, a, lo, m, p, h, hp, hl => by
    rcases h with ⟨h1, h2⟩ | ⟨h1, c, x, hc, ⟨h2, h3⟩ | ⟨h2, ⟨h3, h4⟩ | ⟨_, _, h4⟩ | ⟨h3, h3', h4⟩⟩⟩
    · simp only [Prod.mk.injEq] at h2
      obtain ⟨rfl, rfl, _, rfl⟩ := h2
      exact ⟨hp, by omega, Nat.le_refl _, rfl, fun s' _ _ => .inl ⟨h1, rfl⟩⟩
    · simp only [Prod.mk.injEq] at h3
      exact absurd h3.2.2.1.symm h2
    · have hg := got hp.le hc h2
      obtain ⟨r1, r2, r3, r4, r5⟩ := rounds h4 (hp.next hg h3) (by simp; omega)
      have hx : x.pos = a + (M.cb c).length := by rw [hg.pos]
      refine ⟨r1, r2, by omega, r4, fun s' hs hl' => .inr ⟨h1, c, x, hg.again s' m hs hl' r1.le (by omega), .inr ⟨h2, .inl ⟨h3, r5 s' hs hl'⟩⟩⟩⟩
    · simp at h4
    · have hg := got hp.le hc h2
      obtain ⟨r1, r2, r3, r4, r5⟩ := rounds h4 (hp.next2 hg h3) (by simp; omega)
      have hx : x.pos = a + (M.cb c).length := by rw [hg.pos]
      refine ⟨r1, r2, by omega, r4, fun s' hs hl' => .inr ⟨h1, c, x, hg.again s' m hs hl' r1.le (by omega), .inr ⟨h2, .inr (.inr ⟨h3, h3', r5 s' hs hl'⟩)⟩⟩⟩
theorem read_write {s : List UInt8} {l : List K} {n p : Nat} (h : ReadRes s (l, n, 0, p)) :
    WriteRes l (s.take n, 0, 0) ∧ (∀ more, ReadRes (s.take n ++ more) (l, n, 0, 0)) ∧ AllFit l ∧ texts l ≤ s.length ∧ 1 ≤ l.length ∧ l.length ≤ 65535 ∧ n ≤ s.length := by
  rcases h with ⟨_, h2⟩ | ⟨_, _, h2⟩ | ⟨h1, h2, f, h3⟩
  · simp at h2
  · simp at h2
  have hnl := num_lt' (s.take 2) 2 (List.length_take_le _ _)
  have h2l : (s.take 2).length = 2 := by simp; omega
  have hpre : Pre s (M.num (s.take 2)) [K.zero] 2 := by
    refine ⟨h1, ?_, fun t r hr => .inr ⟨rfl, 0, wrong_zero, .inr ⟨rfl, hr⟩⟩, fun c hc => ?_, by simp [texts, K.zero]⟩
    · rw [big_num 2 _ h2l]; simp [M.cb, K.zero]
    · simp at hc; rw [hc]; exact fits_zero
  obtain ⟨r1, r2, r3, r4, r5⟩ := rounds h3 hpre (by simp; omega)
  have hsc : Scan l 0 true (0, 0) := by
    have := r1.scan [] (0, 0) (.inr ⟨rfl, rfl⟩)
    simpa using this
  have htx := r1.txt
  have hle := r1.le
  refine ⟨.inr ⟨by omega, by omega, 0, 0, hsc, .inr ⟨rfl, ?_⟩⟩, fun more => ?_, r1.fit, by omega, by omega, by omega, hle⟩
  · rw [r2, ← r1.bytes]
  · have ht : (s.take n ++ more).take 2 = s.take 2 := by
      rw [List.take_append_of_le_length (by simp; omega), List.take_take, show min 2 n = 2 by omega]
    refine .inr (.inr ⟨by simp; omega, by rw [ht]; exact h2, f, ?_⟩)
    rw [ht]
    refine r5 _ ?_ (by simp; omega)
    rw [List.take_append_of_le_length (by simp; omega), List.take_take, Nat.min_self]
end Go.Proofs.Ytgihfcjddkpkaaa.Po
namespace Go.Proofs.Ytgihfcjddkpkaaa.Rc
set_option maxRecDepth 100000
open Go.RowKit
/-- The block of a reader. -/
def Rd (w : World) (R : Nat) (pv : Value) (s : ByteArray) (st : St) : Prop :=
  w.heap[R]? = some (.cells #[.string s, .int .i64 (st.pos : Int), .int .i64 (st.e : Int), .int .i64 (st.p : Int), pv] 80 (0, 0))
section
variable {w w' : World} {R : Nat} {pv : Value} {s : ByteArray} {st : St}
theorem Rd.lt (h : Rd w R pv s st) : R < w.heap.size := (Array.getElem?_eq_some_iff.1 h).1
theorem Rd.cell (h : Rd w R pv s st) (i : Nat) : w.cell? ⟨R, i, none⟩ = (#[.string s, .int .i64 (st.pos : Int), .int .i64 (st.e : Int), .int .i64 (st.p : Int), pv] : Array Value)[i]? := cell_of_row w R i _ 80 (0, 0) h
theorem Rd.frozen (h : Rd w R pv s st) (i : Nat) : w.frozen? ⟨R, i, none⟩ = false := by
  unfold World.frozen?; unfold Rd at h; simp only [h]; simp
theorem Rd.cells (h : Rd w R pv s st) : w.cell? ⟨R, 0, none⟩ = some (.string s) ∧ w.cell? ⟨R, 1, none⟩ = some (.int .i64 (st.pos : Int)) ∧ w.cell? ⟨R, 2, none⟩ = some (.int .i64 (st.e : Int)) ∧
    w.cell? ⟨R, 3, none⟩ = some (.int .i64 (st.p : Int)) :=
  ⟨h.cell 0, h.cell 1, h.cell 2, h.cell 3⟩
theorem Rd.kept {row : Option Nat} (h : Rd w R pv s st) (hg : w.grownBy w' row) (hne : some R ≠ row) : Rd w' R pv s st := by
  unfold Rd; rw [hg.block R h.lt hne]; exact h
theorem Rd.drewN (h : Rd w R pv s st) (n : Nat) : Rd (w.drewN n) R pv s st := h
theorem Rd.drew (h : Rd w R pv s st) : Rd w.drew R pv s st := h
theorem Rd.setPos (h : Rd w R pv s st) (x : Nat) : Rd (w.setCell ⟨R, 1, none⟩ (.int .i64 (x : Int))) R pv s ⟨x, st.e, st.p⟩ := by
  unfold Rd; rw [heap_setCell_same w R 1 _ 80 _ h]; rfl
theorem Rd.setErr (h : Rd w R pv s st) (e p : Nat) : Rd ((w.setCell ⟨R, 2, none⟩ (.int .i64 (e : Int))).setCell ⟨R, 3, none⟩ (.int .i64 (p : Int))) R pv s ⟨st.pos, e, p⟩ := by
  have h1 : (w.setCell ⟨R, 2, none⟩ (.int .i64 (e : Int))).heap[R]? = _ := heap_setCell_same w R 2 _ 80 _ h
  unfold Rd; rw [heap_setCell_same _ R 3 _ 80 _ h1]; rfl
end
set_option maxHeartbeats 400000 in
theorem Good_any (R : Nat) (pv : Value) (s : ByteArray) (st : St) (w : World) (h : Rd w R pv s st) :
    Calls Try.prog 59 #[.pointer (some ⟨R, 0, none⟩)] w fun e w' => e = .returned (.bool (decide (st.e = 0))) ∧ w' = w := by
  obtain ⟨h0, h1, h2, h3⟩ := h.cells
  have hd : (((st.e : Int) == 0) : Bool) = decide (st.e = 0) := by rw [Bool.eq_iff_iff]; simp
  clear h
  go_enter Try.func59, Try.ntmps59
  go_wp2
  go_ret
  exact ⟨rfl, rfl⟩
set_option maxHeartbeats 400000 in
theorem At_any (R : Nat) (pv : Value) (s : ByteArray) (st : St) (w : World) (h : Rd w R pv s st) :
    Calls Try.prog 88 #[.pointer (some ⟨R, 0, none⟩)] w fun e w' => e = .returned (.int .i64 (st.pos : Int)) ∧ w' = w := by
  obtain ⟨h0, h1, h2, h3⟩ := h.cells
  clear h
  go_enter Try.func88, Try.ntmps88
  go_wp2
  go_ret
  exact ⟨rfl, rfl⟩
set_option maxHeartbeats 400000 in
theorem Err_any (R : Nat) (pv : Value) (s : ByteArray) (st : St) (w : World) (h : Rd w R pv s st) :
    Calls Try.prog 27 #[.pointer (some ⟨R, 0, none⟩)] w fun e w' => e = .returned (.tuple #[.int .i64 (st.e : Int), .int .i64 (st.p : Int)]) ∧ ∃ n, w' = w.drewN n := by
  obtain ⟨h0, h1, h2, h3⟩ := h.cells
  clear h
  go_enter Try.func27, Try.ntmps27
  go_wp2_with fail
  go_quiet (fail)
  go_wp2
  go_ret2
  exact ⟨rfl, _, rfl⟩
set_option maxHeartbeats 400000 in
theorem Fail_any (R : Nat) (pv : Value) (s : ByteArray) (st : St) (e p : Nat) (w : World) (h : Rd w R pv s st) :
    Calls Try.prog 68 #[.pointer (some ⟨R, 0, none⟩), .int .i64 (e : Int), .int .i64 (p : Int)] w fun x w' => x = .returned (.tuple #[]) ∧ Rd w' R pv s (M.fail st e p) ∧ w.grownBy w' (some R) ∧ w'.heap.size = w.heap.size := by
  obtain ⟨h0, h1, h2, h3⟩ := h.cells
  have hf2 := h.frozen 2
  have hf3 := h.frozen 3
  by_cases he : st.e = 0
  · have hr := h.setErr e p
    rw [show M.fail st e p = ⟨st.pos, e, p⟩ by unfold M.fail; rw [if_pos he]]
    have hg := grown_trans (grown_set w R 2 (.int .i64 (e : Int))) (grown_set _ R 3 (.int .i64 (p : Int)))
    go_enter Try.func68, Try.ntmps68
    go_wp2_with fail
    refine (Good_any R pv s st w h).mono ?_
    rintro e1 w1 ⟨rfl, hw⟩
    subst w1
    rw [decide_eq_true he]
    clear he
    go_wp2
    go_end0
    exact ⟨rfl, hr, hg, by simp⟩
  · rw [show M.fail st e p = st by unfold M.fail; rw [if_neg he]]
    go_enter Try.func68, Try.ntmps68
    go_wp2_with fail
    refine (Good_any R pv s st w h).mono ?_
    rintro e1 w1 ⟨rfl, hw⟩
    subst w1
    rw [decide_eq_false he]
    clear he
    go_wp2
    go_end0
    exact ⟨rfl, h, grown_refl _ _, rfl⟩
theorem Rd.setPosN {w : World} {R : Nat} {pv : Value} {s : ByteArray} {st : St} (h : Rd w R pv s st) (k n : Nat) (he : st.e = 0) :
    Rd ((w.drewN k).setCell ⟨R, 1, none⟩ (.int .i64 ((st.pos : Int) + (n : Int)))) R pv s ⟨st.pos + n, 0, st.p⟩ := by
  have hq := (h.drewN k).setPos (st.pos + n)
  rw [he, Int.natCast_add] at hq
  exact hq
def Took (R : Nat) (pv : Value) (s : ByteArray) (st' : St) (w : World) (x : Value) (e : Ending) (w' : World) : Prop :=
  e = .returned x ∧ Rd w' R pv s st' ∧ w.grownBy w' (some R)
set_option maxHeartbeats 400000 in
theorem Take_any (R : Nat) (pv : Value) (s : ByteArray) (st : St) (n : Nat) (w : World) (h : Rd w R pv s st) (hs : s.size ≤ 131072) (hn : n ≤ 4294967295) (hp : st.pos ≤ s.size) :
    Calls Try.prog 96 #[.pointer (some ⟨R, 0, none⟩), .int .i64 (n : Int)] w fun x w' => Took R pv s (M.take s.data.toList n st).2 w (.string ⟨(M.take s.data.toList n st).1.toArray⟩) x w' := by
  obtain ⟨h0, h1, h2, h3⟩ := h.cells
  have hl : s.data.toList.length = s.size := by simp
  have hf1 := h.frozen 1
  by_cases hr : s.size - st.pos < n
  · have hri : (s.size : Int) - (st.pos : Int) < (n : Int) := by omega
    have hres : M.take s.data.toList n st = ([], M.fail st 1 s.size) := by
      unfold M.take M.fail; rw [hl]
      by_cases he : st.e = 0
      · rw [if_pos he, if_pos hr, if_pos he]
      · rw [if_neg he, if_neg he]
    rw [hres]
    have hbad : (M.fail st 1 s.size).e ≠ 0 := by
      unfold M.fail; split
      · simp
      · assumption
    clear hres hl hr
    go_enter Try.func96, Try.ntmps96
    go_wp2_with fail
    go_quiet (fail)
    go_wp2_with fail
    refine (Fail_any R pv s st 1 s.size _ (h.drewN _)).mono ?_
    rintro e w1 ⟨rfl, hr1, hg1, hz1⟩
    clear h0 h1 h2 h3 hf1
    go_wp2_with fail
    refine (Good_any R pv s _ w1 hr1).mono ?_
    rintro e w2 ⟨rfl, hw⟩
    subst w2
    rw [decide_eq_false hbad]
    clear hbad
    go_wp2
    go_ret
    exact ⟨rfl, hr1, grown_trans (grown_drewN w (some R) _) hg1⟩
  · have hri : (n : Int) ≤ (s.size : Int) - (st.pos : Int) := by omega
    by_cases he : st.e = 0
    · have hres : M.take s.data.toList n st = ((s.data.toList.drop st.pos).take n, ⟨st.pos + n, 0, st.p⟩) := by
        unfold M.take; rw [hl, if_pos he, if_neg hr]
      rw [hres]
      have hx := extract_list s st.pos n
      have Hx := hide hx
      clear hres hl hx hr
      go_enter Try.func96, Try.ntmps96
      go_wp2_with fail
      go_quiet (fail)
      go_wp2_with fail
      refine (Good_any R pv s st _ (h.drewN _)).mono ?_
      rintro e w2 ⟨rfl, hw⟩
      subst w2
      rw [decide_eq_true he]
      have He := hide he
      clear he
      have hk1 : (st.pos : Int) + (n : Int) ≤ (s.size : Int) := by omega
      go_wp2_with fail
      go_quiet (fail)
      go_wp2
      go_ret
      exact ⟨congrArg (fun z => Ending.returned (.string z)) (unhide Hx), h.setPosN _ n (unhide He), grown_trans (grown_drewN w (some R) _) (grown_set _ R 1 _)⟩
    · have hres : M.take s.data.toList n st = ([], st) := by unfold M.take; rw [if_neg he]
      rw [hres]
      clear hres hl hr
      go_enter Try.func96, Try.ntmps96
      go_wp2_with fail
      go_quiet (fail)
      go_wp2_with fail
      refine (Good_any R pv s st _ (h.drewN _)).mono ?_
      rintro e w2 ⟨rfl, hw⟩
      subst w2
      rw [decide_eq_false he]
      clear he
      go_wp2
      go_ret
      exact ⟨rfl, h.drewN _, grown_drewN w (some R) _⟩
set_option maxHeartbeats 400000 in
theorem Number_any (R : Nat) (pv : Value) (s : ByteArray) (st : St) (n : Nat) (w : World) (h : Rd w R pv s st) (hs : s.size ≤ 131072) (hn : n ≤ 8) (hp : st.pos ≤ s.size) :
    Calls Try.prog 67 #[.pointer (some ⟨R, 0, none⟩), .int .i64 (n : Int)] w fun x w' => Took R pv s (M.take s.data.toList n st).2 w (.int .u64 (M.num (M.take s.data.toList n st).1 : Nat)) x w' := by
  have hl := M.take_len s.data.toList n st
  have hc := Take_any R pv s st n w h hs (by omega) hp
  obtain ⟨T, st', hT⟩ : ∃ T st', M.take s.data.toList n st = (T, st') := ⟨_, _, rfl⟩
  rw [hT] at hl hc ⊢
  clear hT h
  simp only at hl hc ⊢
  have Hc := hide hc
  clear hc
  go_enter Try.func67, Try.ntmps67
  go_wp2_with fail
  refine (unhide Hc).mono ?_
  clear Hc
  rintro e w1 ⟨rfl, hr1, hg1⟩
  obtain ⟨cp, w2, hrun, hcell, hsz, hbe⟩ := conv_bytes w1 ⟨T.toArray⟩
  have hts : (⟨T.toArray⟩ : ByteArray).size = T.length := by show T.toArray.size = _; simp
  rw [hts] at hrun hcell
  have hcell' : ∀ j, j < T.length → w2.cell? ⟨w1.heap.size, j, none⟩ = some (.int .u8 ((T.getD j 0).toNat : Int)) := hcell
  have Hcell := hide hcell'
  clear hcell hcell' hts
  go_wp2_with fail
  go_loopw [5, 13] (fun x i wr => ∃ k : Nat, k ≤ T.length ∧ i = .int .i64 k ∧ x = .int .u64 (M.num (T.take k) : Nat) ∧ wr = w2) (fun _ i _ => T.length - (intOf i).toNat)
  case atStart => exact ⟨0, Nat.zero_le _, rfl, rfl, rfl⟩
  case round =>
    obtain ⟨k, hk, rfl, rfl, rfl⟩ := hrel
    by_cases hlt : k < T.length
    · have hck := unhide Hcell k hlt
      obtain ⟨b, hb⟩ : ∃ b : Nat, b = (T.getD k 0).toNat := ⟨_, rfl⟩
      have hnt := M.num_take T k hlt
      have hbt : b < 256 := by rw [hb]; exact (T.getD k 0).toNat_lt
      have hx := M.num_lt (T.take k)
      have hx7 : M.num (T.take k) ≤ 72057594037927935 := by
        have hlk : (T.take k).length ≤ 7 := by rw [List.length_take]; omega
        have := Nat.pow_le_pow_right (show 0 < 256 by omega) hlk
        have e7 : 256 ^ 7 = 72057594037927936 := by decide
        omega
      rw [← hb] at hnt hck
      clear hb hx
      obtain ⟨x, hxx⟩ : ∃ x, x = M.num (T.take k) := ⟨_, rfl⟩
      rw [← hxx] at hnt hx7 ⊢
      have Hnt := hide hnt
      clear hxx hnt
      have ho := or64 x b hx7 hbt
      rw [← unhide Hnt] at ho
      have Ho := hide ho
      clear ho Hnt
      go_wp2
      go_roundw
      case rel => exact ⟨k + 1, by omega, by go_num, by rw [unhide Ho], trivial⟩
      case measure => simp [intOf]; omega
    · have hkl : k = T.length := by omega
      subst hkl
      rw [List.take_length]
      have hz := hr1.lt
      have hr2 : Rd wr R pv s st' := hr1.kept (grown_of_below hbe none) (by simp)
      have hg2 := grown_trans hg1 (grown_of_below hbe (some R))
      clear hrun Hcell hr1 hg1 hbe
      go_wp2
      go_ret
      exact ⟨rfl, hr2, hg2⟩
set_option maxHeartbeats 400000 in
theorem Uint16_any (R : Nat) (pv : Value) (s : ByteArray) (st : St) (w : World) (h : Rd w R pv s st) (hs : s.size ≤ 131072) (hp : st.pos ≤ s.size) :
    Calls Try.prog 57 #[.pointer (some ⟨R, 0, none⟩)] w fun x w' => Took R pv s (M.take s.data.toList 2 st).2 w (.int .u16 (M.num (M.take s.data.toList 2 st).1 : Nat)) x w' := by
  have hl := M.take_len s.data.toList 2 st
  have hc := Number_any R pv s st 2 w h hs (by omega) hp
  obtain ⟨T, st', hT⟩ : ∃ T st', M.take s.data.toList 2 st = (T, st') := ⟨_, _, rfl⟩
  rw [hT] at hl hc ⊢
  clear hT h
  simp only at hl hc ⊢
  have hx := M.num_lt T
  have hx2 : M.num T ≤ 65535 := by have := Nat.pow_le_pow_right (show 0 < 256 by omega) hl; omega
  have Hc := hide hc
  clear hc hx hl
  go_enter Try.func57, Try.ntmps57
  go_wp2_with fail
  refine (unhide Hc).mono ?_
  clear Hc
  rintro e w1 ⟨rfl, hr1, hg1⟩
  go_wp2
  go_ret
  exact ⟨rfl, hr1, hg1⟩
set_option maxHeartbeats 400000 in
theorem Finish_any (R : Nat) (pv : Value) (s : ByteArray) (st : St) (w : World) (h : Rd w R pv s st) (hp : st.pos ≤ s.size) :
    Calls Try.prog 35 #[.pointer (some ⟨R, 0, none⟩)] w fun x w' => x = .returned (.tuple #[]) ∧ Rd w' R pv s (M.fin s.data.toList st) ∧ w.grownBy w' (some R) := by
  obtain ⟨h0, h1, h2, h3⟩ := h.cells
  have hl : s.data.toList.length = s.size := by simp
  unfold M.fin
  rw [hl]
  by_cases hlt : st.pos < s.size
  · rw [if_pos hlt]
    have hi : (st.pos : Int) < (s.size : Int) := by omega
    have HF := hide (fun n => Fail_any R pv s st 2 st.pos (w.drewN n) (h.drewN n))
    clear hl hlt h hp
    go_enter Try.func35, Try.ntmps35
    go_wp2_with fail
    go_quiet (fail)
    go_wp2_with fail
    refine (unhide HF _).mono ?_
    rintro e w1 ⟨rfl, hr1, hg1, hz1⟩
    clear HF h0 h1 h2 h3
    go_wp2
    go_end0
    exact ⟨rfl, hr1, grown_trans (grown_drewN w (some R) _) hg1⟩
  · rw [if_neg hlt]
    have hi : ¬ (st.pos : Int) < (s.size : Int) := by omega
    clear hl hlt hp
    go_enter Try.func35, Try.ntmps35
    go_wp2_with fail
    go_quiet (fail)
    go_wp2
    go_end0
    exact ⟨rfl, h.drewN _, grown_drewN w (some R) _⟩
end Go.Proofs.Ytgihfcjddkpkaaa.Rc
namespace Go.Proofs.Ytgihfcjddkpkaaa.Rc
open Go.RowKit
namespace M
/-- The bytes that are left; none behind an error. -/
def rest (s : List UInt8) (st : St) : List UInt8 := if st.e = 0 then s.drop st.pos else []
def known (minor major : Nat) : Bool := decide (minor = 0) && (decide (major = 50) || decide (major = 51))
end M
set_option maxRecDepth 100000 in
set_option maxHeartbeats 400000 in
theorem Rest_any (R : Nat) (pv : Value) (s : ByteArray) (st : St) (w : World) (h : Rd w R pv s st) (hp : st.pos ≤ s.data.toList.length) :
    Calls Try.prog 98 #[.pointer (some ⟨R, 0, none⟩)] w fun x w' => x = .returned (.string ⟨(M.rest s.data.toList st).toArray⟩) ∧ ∃ n, w' = w.drewN n := by
  have H := hide h
  obtain ⟨h0, h1, h2, h3⟩ := h.cells
  have hl : s.data.toList.length = s.size := by simp
  have hpi : (st.pos : Int) ≤ (s.size : Int) := by omega
  have HG := hide (Good_any R pv s st w h)
  by_cases he : st.e = 0
  · rw [decide_eq_true he] at HG
    have hx : s.extract st.pos s.size = ⟨(M.rest s.data.toList st).toArray⟩ := by
      unfold M.rest
      rw [if_pos he]
      apply ByteArray.ext; apply Array.ext'
      rw [ByteArray.data_extract, Array.toList_extract, List.extract_eq_take_drop]
      rw [List.take_of_length_le]
      rw [List.length_drop, hl]
      exact Nat.le_refl _
    have Hx := hide hx
    clear he hl h hx
    go_enter Try.func98, Try.ntmps98
    go_wp2_with fail
    refine (unhide HG).mono ?_
    rintro e w1 ⟨rfl, hw⟩
    subst w1
    clear HG
    go_wp2_with fail
    go_quiet (fail)
    go_wp2
    go_ret
    exact ⟨congrArg (fun z => Ending.returned (.string z)) (unhide Hx), _, rfl⟩
  · rw [decide_eq_false he] at HG
    have hx : M.rest s.data.toList st = [] := by unfold M.rest; rw [if_neg he]
    rw [hx]
    clear he hl h hx
    go_enter Try.func98, Try.ntmps98
    go_wp2_with fail
    refine (unhide HG).mono ?_
    rintro e w1 ⟨rfl, hw⟩
    subst w1
    clear HG
    go_wp2
    go_ret
    exact ⟨rfl, 0, rfl⟩
set_option maxRecDepth 100000 in
theorem known_any (a b : Nat) (w : World) : Calls Try.prog 46 #[.int .u16 (a : Int), .int .u16 (b : Int)] w fun x w' => x = .returned (.bool (M.known a b)) ∧ w' = w := by
  by_cases ha : a = 0
  · have qa : (((a : Int) == 0) : Bool) = true := by rw [ha]; rfl
    by_cases hb : b = 50
    · have qb : (((b : Int) == 50) : Bool) = true := by rw [hb]; rfl
      have hk : M.known a b = true := by simp [M.known, ha, hb]
      rw [hk]
      clear ha hb hk
      go_enter Try.func46, Try.ntmps46
      go_wp2
      go_ret
      exact ⟨rfl, rfl⟩
    · have qb : (((b : Int) == 50) : Bool) = false := by rw [beq_eq_false_iff_ne]; omega
      have hk : (((b : Int) == 51) : Bool) = M.known a b := by rw [Bool.eq_iff_iff]; simp [M.known, ha, hb]; omega
      clear ha hb
      go_enter Try.func46, Try.ntmps46
      go_wp2
      go_ret
      exact ⟨rfl, rfl⟩
  · have qa : (((a : Int) == 0) : Bool) = false := by rw [beq_eq_false_iff_ne]; omega
    have hk : M.known a b = false := by simp [M.known, ha]
    rw [hk]
    clear ha hk
    go_enter Try.func46, Try.ntmps46
    go_wp2
    go_ret
    exact ⟨rfl, rfl⟩
/-- The reader gets its pool. -/
theorem Rd.setPool {w : World} {R : Nat} {pv : Value} {s : ByteArray} {st : St} (h : Rd w R pv s st) (v : Value) : Rd (w.setCell ⟨R, 4, none⟩ v) R v s st := by
  unfold Rd; rw [heap_setCell_same w R 4 _ 80 _ h]; rfl
end Go.Proofs.Ytgihfcjddkpkaaa.Rc
