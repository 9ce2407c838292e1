/-
  What is read is written as it was: of reading and writing alone.
-/
import Derived.Test.YtlihhfijigoklaaWrite
import Derived.Test.YtlihhfijigoklaaRefNum
namespace Go.Proofs.Ytlihhfijigoklaa
theorem num_cons (b : UInt8) (l : List UInt8) : ∀ x, (b :: l).foldl (fun x b => x * 256 + b.toNat) x = l.foldl (fun x b => x * 256 + b.toNat) (x * 256 + b.toNat) := fun _ => rfl
/-- Bytes are the big-endian bytes of their number. -/
theorem big_num (n : Nat) : ∀ l : List UInt8, l.length = n → M.big (M.num l) n = l := by
  induction n with
  | zero => intro l hl; rw [List.length_eq_zero_iff.1 hl]; rfl
  | succ n ih =>
    intro l hl
    have h1 := num_take l n (by omega)
    rw [List.take_of_length_le (by omega)] at h1
    have h2 := (l.getD n 0).toNat_lt
    show M.big (M.num l / 256) n ++ [UInt8.ofNat (M.num l % 256)] = l
    rw [h1, show (M.num (l.take n) * 256 + (l.getD n 0).toNat) / 256 = M.num (l.take n) by omega, show (M.num (l.take n) * 256 + (l.getD n 0).toNat) % 256 = (l.getD n 0).toNat by omega, ih _ (by simp; omega)]
    have h3 : l = l.take n ++ [l.getD n 0] := by
      have : l.take (n + 1) = l.take n ++ [l.getD n 0] := by
        rw [List.take_add_one, List.getElem?_eq_getElem (by omega)]; simp only [Option.toList_some, List.getD, List.getElem?_eq_getElem (show n < l.length by omega), Option.getD_some]
      rw [← this, List.take_of_length_le (by omega)]
    rw [show UInt8.ofNat (l.getD n 0).toNat = l.getD n 0 by simp]
    exact h3.symm
section
variable {s : List UInt8}
theorem take_good {k : Nat} {st : St} (hp : st.pos ≤ s.length) (h : (M.take s k st).2.e = 0) : st.e = 0 ∧ st.pos + k ≤ s.length ∧ M.take s k st = ((s.drop st.pos).take k, ⟨st.pos + k, 0, st.p⟩) := by
  unfold M.take at h ⊢
  by_cases he : st.e = 0
  · rw [if_pos he] at h ⊢
    by_cases hk : s.length - st.pos < k
    · rw [if_pos hk] at h; simp at h
    · rw [if_neg hk]; exact ⟨he, by omega, rfl⟩
  · rw [if_neg he] at h; exact absurd h he
theorem take_e' {k : Nat} {st : St} (h : (M.take s k st).2.e = 0) : st.e = 0 := by
  unfold M.take at h; split at h
  · assumption
  · exact h
theorem fail_good {st : St} {e p : Nat} (he : e ≠ 0) (h : (M.fail st e p).e = 0) : False := by
  unfold M.fail at h; split at h
  · exact he h
  · exact absurd h ‹_›
end
/-- A constant that was read in full: its bytes, and that it stands in bytes that begin alike. -/
structure Got (s : List UInt8) (a : Nat) (c : K) (x : St) : Prop where
  pos : x = ⟨a + (M.cb c).length, 0, 0⟩
  fits : a + (M.cb c).length ≤ s.length
  bytes : (s.drop a).take (M.cb c).length = M.cb c
  right : Wrong c 0
  tag : c.tag ≠ 0
  fit : Fits c
  txt : c.text.length ≤ (M.cb c).length
  again : ∀ s' m, s'.take m = s.take m → m ≤ s'.length → m ≤ s.length → a + (M.cb c).length ≤ m → CM s' ⟨a, 0, 0⟩ c x
theorem part_eq {s s' : List UInt8} {m p k : Nat} (h : s'.take m = s.take m) (hk : p + k ≤ m) : (s'.drop p).take k = (s.drop p).take k := by
  have e1 : ∀ t : List UInt8, (t.drop p).take k = ((t.take m).drop p).take k := fun t => by
    rw [List.drop_take, List.take_take, show min k (m - p) = k by omega]
  rw [e1 s', e1 s, h]
theorem head_eq {s : List UInt8} {a : Nat} (h : a < s.length) (k : Nat) : (s.drop a).take (k + 1) = s.getD a 0 :: (s.drop (a + 1)).take k := by
  rw [List.drop_eq_getElem_cons h, List.take_succ_cons]; simp [List.getD, List.getElem?_eq_getElem h]
theorem num_lt' (l : List UInt8) (k : Nat) (h : l.length ≤ k) : M.num l < 256 ^ k := Nat.lt_of_lt_of_le (num_lt l) (Nat.pow_le_pow_right (by omega) h)
theorem take_take_len {s : List UInt8} {a k : Nat} (h : a + k ≤ s.length) : ((s.drop a).take k).length = k := by simp; omega
theorem take_add {s : List UInt8} {a j k : Nat} : (s.drop a).take (j + k) = (s.drop a).take j ++ (s.drop (a + j)).take k := by
  rw [List.take_add, List.drop_drop]
theorem got {s : List UInt8} {a : Nat} {c : K} {x : St} (ha : a ≤ s.length) (h : CM s ⟨a, 0, 0⟩ c x) (he : x.e = 0) : Got s a c x := by
  have h1 : (M.take s 1 ⟨a, 0, 0⟩).2.e = 0 := by
    rcases h with ⟨_, _, ⟨_, rfl⟩ | ⟨_, rfl⟩⟩ | ⟨_, _, rfl⟩ | ⟨_, _, rfl⟩ | ⟨_, _, rfl⟩ | ⟨_, _, rfl⟩ | ⟨_, _, rfl⟩
    · exact take_e' (take_e' he)
    · exact (fail_good (by omega) he).elim
    · exact take_e' he
    · exact take_e' he
    · exact take_e' he
    · exact take_e' (take_e' he)
    · exact (fail_good (by omega) he).elim
  obtain ⟨-, b1, q1⟩ := take_good (s := s) (st := ⟨a, 0, 0⟩) ha h1
  simp only at b1 q1
  have hal : a < s.length := by omega
  have hn := num_one hal
  have ht := (s.getD a 0).toNat_lt
  unfold CM at h
  rw [q1] at h
  simp only [hn] at h
  obtain ⟨t, et⟩ : ∃ t, t = (s.getD a 0).toNat := ⟨_, rfl⟩
  rw [← et] at h ht
  have hof : UInt8.ofNat t = s.getD a 0 := by rw [et]; simp
  have hone : ∀ s' m, s'.take m = s.take m → m ≤ s'.length → a + 1 ≤ m → M.num (M.take s' 1 ⟨a, 0, 0⟩).1 = t ∧ (M.take s' 1 ⟨a, 0, 0⟩).2 = ⟨a + 1, 0, 0⟩ := fun s' m hm hl' hk => by
    rw [take_ok (by omega)]
    simp only
    rw [part_eq hm hk, hn, et]; exact ⟨rfl, trivial⟩
  have hmore : ∀ s' m p k, s'.take m = s.take m → m ≤ s'.length → p + k ≤ m → M.take s' k ⟨p, 0, 0⟩ = ((s.drop p).take k, ⟨p + k, 0, 0⟩) := fun s' m p k hm hl' hk => by
    rw [take_ok (by omega), part_eq hm hk]
  rcases h with ⟨g1, g2, g3⟩ | ⟨g1, g2, rfl⟩ | ⟨g1, g2, rfl⟩ | ⟨g1, g2, rfl⟩ | ⟨g1, g2, rfl⟩ | ⟨g1, g2, rfl⟩
  · rcases g3 with ⟨hx, rfl⟩ | ⟨_, rfl⟩
    rotate_left
    · exact (fail_good (by omega) he).elim
    have he2 := take_e' he
    obtain ⟨-, b2, q2⟩ := take_good (s := s) (st := ⟨a + 1, 0, 0⟩) b1 he2
    simp only at b2 q2
    rw [q2] at g2 he ⊢
    simp only at g2 he ⊢
    obtain ⟨-, b3, q3⟩ := take_good (s := s) (st := ⟨a + 1 + 2, 0, 0⟩) b2 he
    simp only at b3 q3
    rw [q3] at g2 ⊢
    simp only at g2 ⊢
    have hl4 := take_take_len (s := s) (a := a + 1) (k := 2) b2
    have hl5 := take_take_len (s := s) (a := a + 1 + 2) b3
    have hnl := num_lt' ((s.drop (a + 1)).take 2) 2 (by omega)
    obtain ⟨k, ek⟩ : ∃ k, k = M.num ((s.drop (a + 1)).take 2) := ⟨_, rfl⟩
    rw [← ek] at g2 b3 hl5 hnl ⊢
    have hcb : M.cb c = (s.drop a).take (3 + k) := by
      rw [g2, show 3 + k = (2 + k) + 1 by omega, head_eq hal (2 + k), ← hof, take_add, g1]
      show UInt8.ofNat 1 :: (M.big ((s.drop (a + 1 + 2)).take k).length 2 ++ (s.drop (a + 1 + 2)).take k) = _
      rw [hl5, ek, big_num 2 _ hl4]
    have hln : (M.cb c).length = 3 + k := by rw [hcb]; exact take_take_len (by omega)
    refine ⟨by rw [hln]; congr 1; omega, by omega, by rw [hln, hcb], ?_, by rw [g2]; simp, ?_, ?_, fun s' m hm hl' hl hk => ?_⟩
    · rw [g2]; rw [g2] at hx; exact .inl ⟨rfl, .inr ⟨hx, .inr ⟨by simp only; omega, rfl⟩⟩⟩
    · rw [g2]; exact ⟨by simp, by simp only; omega, by simp, by simp, by simp⟩
    · rw [hln, g2]; simp only; omega
    · rw [hln] at hk
      obtain ⟨r1, r2⟩ := hone s' m hm hl' (by omega)
      unfold CM
      rw [r1, r2, hmore s' m (a + 1) 2 hm hl' (by omega)]
      simp only
      rw [← ek, hmore s' m (a + 1 + 2) k hm hl' (by omega)]
      exact .inl ⟨g1, g2, .inl ⟨hx, rfl⟩⟩
  · obtain ⟨-, b2, q2⟩ := take_good (s := s) (st := ⟨a + 1, 0, 0⟩) b1 he
    simp only at b2 q2
    rw [q2] at g2 ⊢
    have hl4 := take_take_len (s := s) (a := a + 1) (k := 4) b2
    have hcb : M.cb c = (s.drop a).take 5 := by
      rw [g2, head_eq hal 4, ← hof]
      unfold M.cb M.cbody; simp only
      rw [if_neg (by omega), if_neg (by omega), if_pos g1, big_num 4 _ hl4]
    have hln : (M.cb c).length = 5 := by rw [hcb]; exact take_take_len (by omega)
    have hnl := num_lt' ((s.drop (a + 1)).take 4) 4 (by omega)
    refine ⟨by rw [hln], by omega, by rw [hln, hcb], ?_, by rw [g2]; simp only; omega, ?_, ?_, fun s' m hm hl' hl hk => ?_⟩
    · rw [g2]; exact .inr (.inl ⟨g1, .inr ⟨by simpa using hnl, rfl⟩⟩)
    · rw [g2]; exact ⟨ht, by simp, by simp only; omega, by simp, by simp⟩
    · rw [g2]; simp
    · rw [hln] at hk
      obtain ⟨r1, r2⟩ := hone s' m hm hl' (by omega)
      unfold CM
      rw [r1, r2, hmore s' m (a + 1) 4 hm hl' (by omega)]
      exact .inr (.inl ⟨g1, g2, rfl⟩)
  · obtain ⟨-, b2, q2⟩ := take_good (s := s) (st := ⟨a + 1, 0, 0⟩) b1 he
    simp only at b2 q2
    rw [q2] at g2 ⊢
    have hl4 := take_take_len (s := s) (a := a + 1) (k := 8) b2
    have hcb : M.cb c = (s.drop a).take 9 := by
      rw [g2, head_eq hal 8, ← hof]
      unfold M.cb M.cbody; simp only
      rw [if_neg (by omega), if_neg (by omega), if_neg (by omega), if_pos g1, big_num 8 _ hl4]
    have hln : (M.cb c).length = 9 := by rw [hcb]; exact take_take_len (by omega)
    have hnl := num_lt' ((s.drop (a + 1)).take 8) 8 (by omega)
    refine ⟨by rw [hln], by omega, by rw [hln, hcb], ?_, by rw [g2]; simp only; omega, ?_, ?_, fun s' m hm hl' hl hk => ?_⟩
    · rw [g2]; exact .inr (.inr (.inl ⟨.inr (by simp only; omega), rfl⟩))
    · rw [g2]; exact ⟨ht, by simp, by simp only; omega, by simp, by simp⟩
    · rw [g2]; simp
    · rw [hln] at hk
      obtain ⟨r1, r2⟩ := hone s' m hm hl' (by omega)
      unfold CM
      rw [r1, r2, hmore s' m (a + 1) 8 hm hl' (by omega)]
      exact .inr (.inr (.inl ⟨g1, g2, rfl⟩))
  · obtain ⟨-, b2, q2⟩ := take_good (s := s) (st := ⟨a + 1, 0, 0⟩) b1 he
    simp only at b2 q2
    rw [q2] at g2 ⊢
    have hl4 := take_take_len (s := s) (a := a + 1) (k := 2) b2
    have hcb : M.cb c = (s.drop a).take 3 := by
      rw [g2, head_eq hal 2, ← hof]
      unfold M.cb M.cbody; simp only
      rw [if_neg (by omega), if_neg (by omega), if_neg (by omega), if_neg (by omega), if_pos g1, big_num 2 _ hl4]
    have hln : (M.cb c).length = 3 := by rw [hcb]; exact take_take_len (by omega)
    have hnl := num_lt' ((s.drop (a + 1)).take 2) 2 (by omega)
    refine ⟨by rw [hln], by omega, by rw [hln, hcb], ?_, by rw [g2]; simp only; omega, ?_, ?_, fun s' m hm hl' hl hk => ?_⟩
    · rw [g2]; exact .inr (.inr (.inl ⟨.inr (by simp only; omega), rfl⟩))
    · rw [g2]; exact ⟨ht, by simp, by simp, by simp only; omega, by simp⟩
    · rw [g2]; simp
    · rw [hln] at hk
      obtain ⟨r1, r2⟩ := hone s' m hm hl' (by omega)
      unfold CM
      rw [r1, r2, hmore s' m (a + 1) 2 hm hl' (by omega)]
      exact .inr (.inr (.inr (.inl ⟨g1, g2, rfl⟩)))
  · have he2 := take_e' he
    obtain ⟨-, b2, q2⟩ := take_good (s := s) (st := ⟨a + 1, 0, 0⟩) b1 he2
    simp only at b2 q2
    rw [q2] at g2 he ⊢
    simp only at g2 he ⊢
    obtain ⟨-, b3, q3⟩ := take_good (s := s) (st := ⟨a + 1 + 2, 0, 0⟩) b2 he
    simp only at b3 q3
    rw [q3] at g2 ⊢
    have hl4 := take_take_len (s := s) (a := a + 1) (k := 2) b2
    have hl5 := take_take_len (s := s) (a := a + 1 + 2) (k := 2) b3
    have hcb : M.cb c = (s.drop a).take 5 := by
      rw [g2, head_eq hal 4, ← hof, show (4 : Nat) = 2 + 2 from rfl, take_add]
      unfold M.cb M.cbody; simp only
      rw [if_neg (by omega), if_neg (by omega), if_neg (by omega), if_neg (by omega), if_neg (by omega), big_num 2 _ hl4, big_num 2 _ hl5]
    have hln : (M.cb c).length = 5 := by rw [hcb]; exact take_take_len (by omega)
    have hnl := num_lt' ((s.drop (a + 1)).take 2) 2 (by omega)
    have hnl2 := num_lt' ((s.drop (a + 1 + 2)).take 2) 2 (by omega)
    refine ⟨by rw [hln], by omega, by rw [hln, hcb], ?_, by rw [g2]; simp only; omega, ?_, ?_, fun s' m hm hl' hl hk => ?_⟩
    · rw [g2]; exact .inr (.inr (.inl ⟨.inr (by simp only; omega), rfl⟩))
    · rw [g2]; exact ⟨ht, by simp, by simp, by simp only; omega, by simp only; omega⟩
    · rw [g2]; simp
    · rw [hln] at hk
      obtain ⟨r1, r2⟩ := hone s' m hm hl' (by omega)
      unfold CM
      rw [r1, r2, hmore s' m (a + 1) 2 hm hl' (by omega)]
      simp only
      rw [hmore s' m (a + 1 + 2) 2 hm hl' (by omega)]
      exact .inr (.inr (.inr (.inr (.inl ⟨g1, g2, rfl⟩))))
  · exact (fail_good (by omega) he).elim
/-- What is read so far. -/
structure Pre (s : List UInt8) (n : Nat) (l : List K) (a : Nat) : Prop where
  le : a ≤ s.length
  bytes : s.take a = M.big n 2 ++ l.flatMap M.cb
  scan : ∀ t r, Scan t l.length false r → Scan (l ++ t) 0 true r
  fit : AllFit l
  txt : texts l ≤ a
theorem texts_snoc (l : List K) (c : K) : texts (l ++ [c]) = texts l + c.text.length := by
  induction l with
  | nil => simp [texts]
  | cons d l ih => simp only [List.cons_append, texts, ih]; omega
theorem Pre.next {s : List UInt8} {n : Nat} {l : List K} {a : Nat} {c : K} {x : St} (h : Pre s n l a) (g : Got s a c x) (ht : ¬ Two c) : Pre s n (l ++ [c]) x.pos := by
  have hp : x.pos = a + (M.cb c).length := by rw [g.pos]
  refine ⟨by rw [hp]; exact g.fits, ?_, fun t r hr => ?_, fun d hd => ?_, by rw [hp, texts_snoc]; have := h.txt; have := g.txt; omega⟩
  · rw [hp, List.take_add, h.bytes, g.bytes, List.flatMap_append, List.flatMap_singleton, List.append_assoc]
  · rw [List.append_assoc]
    refine h.scan _ _ (.inr ⟨(decide_eq_false g.tag).symm, 0, g.right, .inr ⟨rfl, ?_⟩⟩)
    rw [show twoB c.tag = false from decide_eq_false ht]
    rw [List.length_append, List.length_singleton] at hr
    exact hr
  · rcases List.mem_append.1 hd with q | q
    · exact h.fit d q
    · simp at q; rw [q]; exact g.fit
theorem wrong_zero : Wrong K.zero 0 := .inr (.inr (.inl ⟨.inl rfl, rfl⟩))
theorem fits_zero : Fits K.zero := ⟨by decide, by decide, by decide, by decide, by decide⟩
theorem Pre.next2 {s : List UInt8} {n : Nat} {l : List K} {a : Nat} {c : K} {x : St} (h : Pre s n l a) (g : Got s a c x) (ht : Two c) : Pre s n (l ++ [c] ++ [K.zero]) x.pos := by
  have hp : x.pos = a + (M.cb c).length := by rw [g.pos]
  refine ⟨by rw [hp]; exact g.fits, ?_, fun t r hr => ?_, fun d hd => ?_, by rw [hp, texts_snoc, texts_snoc]; have := h.txt; have := g.txt; simp only [K.zero, List.length_nil]; omega⟩
  · rw [hp, List.take_add, h.bytes, g.bytes, List.flatMap_append, List.flatMap_append, List.flatMap_singleton, List.flatMap_singleton, show M.cb K.zero = [] from rfl, List.append_nil, List.append_assoc]
  · rw [List.append_assoc, List.append_assoc]
    refine h.scan _ _ (.inr ⟨(decide_eq_false g.tag).symm, 0, g.right, .inr ⟨rfl, ?_⟩⟩)
    rw [show twoB c.tag = true from decide_eq_true ht]
    refine .inr ⟨rfl, 0, wrong_zero, .inr ⟨rfl, ?_⟩⟩
    rw [List.length_append, List.length_append, List.length_singleton, List.length_singleton] at hr
    exact hr
  · rcases List.mem_append.1 hd with q | q
    · rcases List.mem_append.1 q with q | q
      · exact h.fit d q
      · simp at q; rw [q]; exact g.fit
    · simp at q; rw [q]; exact fits_zero
theorem rounds {s : List UInt8} {n : Nat} : ∀ {f : Nat} {l : List K} {a : Nat} {lo : List K} {m p : Nat}, Fin' s n f l a (lo, m, 0, p) → Pre s n l a → l.length ≤ n →
    Pre s n lo m ∧ lo.length = n ∧ a ≤ m ∧ p = 0 ∧ ∀ s', s'.take m = s.take m → m ≤ s'.length → Fin' s' n f l a (lo, m, 0, 0)
  | 0, _, _, _, _, _, h, _, _ => h.elim
  | f + 1, l, a, lo, m, p, h, hp, hl => by
    rcases h with ⟨h1, h2⟩ | ⟨h1, c, x, hc, ⟨h2, h3⟩ | ⟨h2, ⟨h3, h4⟩ | ⟨_, _, h4⟩ | ⟨h3, h3', h4⟩⟩⟩
    · simp only [Prod.mk.injEq] at h2
      obtain ⟨rfl, rfl, _, rfl⟩ := h2
      exact ⟨hp, by omega, Nat.le_refl _, rfl, fun s' _ _ => .inl ⟨h1, rfl⟩⟩
    · simp only [Prod.mk.injEq] at h3
      exact absurd h3.2.2.1.symm h2
    · have hg := got hp.le hc h2
      obtain ⟨r1, r2, r3, r4, r5⟩ := rounds h4 (hp.next hg h3) (by simp; omega)
      have hx : x.pos = a + (M.cb c).length := by rw [hg.pos]
      refine ⟨r1, r2, by omega, r4, fun s' hs hl' => .inr ⟨h1, c, x, hg.again s' m hs hl' r1.le (by omega), .inr ⟨h2, .inl ⟨h3, r5 s' hs hl'⟩⟩⟩⟩
    · simp at h4
    · have hg := got hp.le hc h2
      obtain ⟨r1, r2, r3, r4, r5⟩ := rounds h4 (hp.next2 hg h3) (by simp; omega)
      have hx : x.pos = a + (M.cb c).length := by rw [hg.pos]
      refine ⟨r1, r2, by omega, r4, fun s' hs hl' => .inr ⟨h1, c, x, hg.again s' m hs hl' r1.le (by omega), .inr ⟨h2, .inr (.inr ⟨h3, h3', r5 s' hs hl'⟩)⟩⟩⟩
theorem read_write {s : List UInt8} {l : List K} {n p : Nat} (h : ReadRes s (l, n, 0, p)) :
    WriteRes l (s.take n, 0, 0) ∧ (∀ more, ReadRes (s.take n ++ more) (l, n, 0, 0)) ∧ AllFit l ∧ texts l ≤ s.length ∧ 1 ≤ l.length ∧ l.length ≤ 65535 ∧ n ≤ s.length := by
  rcases h with ⟨_, h2⟩ | ⟨_, _, h2⟩ | ⟨h1, h2, f, h3⟩
  · simp at h2
  · simp at h2
  have hnl := num_lt' (s.take 2) 2 (List.length_take_le _ _)
  have h2l : (s.take 2).length = 2 := by simp; omega
  have hpre : Pre s (M.num (s.take 2)) [K.zero] 2 := by
    refine ⟨h1, ?_, fun t r hr => .inr ⟨rfl, 0, wrong_zero, .inr ⟨rfl, hr⟩⟩, fun c hc => ?_, by simp [texts, K.zero]⟩
    · rw [big_num 2 _ h2l]; simp [M.cb, K.zero]
    · simp at hc; rw [hc]; exact fits_zero
  obtain ⟨r1, r2, r3, r4, r5⟩ := rounds h3 hpre (by simp; omega)
  have hsc : Scan l 0 true (0, 0) := by
    have := r1.scan [] (0, 0) (.inr ⟨rfl, rfl⟩)
    simpa using this
  have htx := r1.txt
  have hle := r1.le
  refine ⟨.inr ⟨by omega, by omega, 0, 0, hsc, .inr ⟨rfl, ?_⟩⟩, fun more => ?_, r1.fit, by omega, by omega, by omega, hle⟩
  · rw [r2, ← r1.bytes]
  · have ht : (s.take n ++ more).take 2 = s.take 2 := by
      rw [List.take_append_of_le_length (by simp; omega), List.take_take, show min 2 n = 2 by omega]
    refine .inr (.inr ⟨by simp; omega, by rw [ht]; exact h2, f, ?_⟩)
    rw [ht]
    refine r5 _ ?_ (by simp; omega)
    rw [List.take_append_of_le_length (by simp; omega), List.take_take, Nat.min_self]
end Go.Proofs.Ytlihhfijigoklaa
