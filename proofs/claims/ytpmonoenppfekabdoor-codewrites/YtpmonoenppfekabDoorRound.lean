/-
  Instructions that are read are written as they were: plain mathematics.
-/
import Derived.Test.YtpmonoenppfekabDoorEnc
namespace Go.Proofs.YtpmonoenppfekabDoor
open Go.RowKit
namespace M
theorem bs_length {s : List UInt8} {p n : Nat} (h : p + n ≤ s.length) : (bs s p n).length = n := by unfold bs; rw [List.length_take, List.length_drop]; omega
theorem bs_append (s : List UInt8) (p m n : Nat) : bs s p m ++ bs s (p + m) n = bs s p (m + n) := by
  unfold bs; rw [List.take_add, List.drop_drop]
theorem bs_zero (s : List UInt8) (p : Nat) : bs s p 0 = [] := by simp [bs]
theorem nb_bs {f : F} (hf : f.size ≤ 4) {s : List UInt8} {p : Nat} (h : p + f.size ≤ s.length) : nb f (rd f (bs s p f.size)) = bs s p f.size := nb_rd hf _ (bs_length h)
theorem nb_w4 {s : List UInt8} {p : Nat} (h : p + 4 ≤ s.length) : nb fw (w4 s p) = bs s p 4 := nb_bs (f := fw) (by decide) h
theorem w4_holds (s : List UInt8) (p : Nat) : holds fw (w4 s p) = true := by
  have := w4_bound s p
  unfold holds fw; simp; omega
theorem byte_one {s : List UInt8} {p : Nat} (h : p < s.length) : bs s p 1 = [UInt8.ofNat (num (bs s p 1))] := by
  have hl : (bs s p 1).length = 1 := bs_length (by omega)
  have := big_num (bs s p 1)
  rw [hl] at this
  simp only [big, List.nil_append] at this
  have hx := num_lt (bs s p 1)
  rw [hl] at hx
  rw [Nat.mod_eq_of_lt (by omega)] at this
  exact this.symm
theorem wrap_small {x : Int} (h1 : -8589934592 ≤ x) (h2 : x ≤ 8589934592) : wrap64 x = x := by unfold wrap64; omega
theorem layOf_sizes (k : Nat) : (layOf k).a.size ≤ 4 ∧ (layOf k).b.size ≤ 4 ∧ (layOf k).z.size ≤ 4 ∧ (layOf k).t.size ≤ 4 := by
  unfold layOf
  repeat' split
  all_goals decide
theorem layOf_z (k : Nat) : (layOf k).z = f0 ∨ (layOf k).z = ⟨1, 0, 0⟩ := by
  unfold layOf
  repeat' split
  all_goals simp
theorem layOf_t (k : Nat) : (layOf k).t = f0 ∨ (layOf k).t = ⟨2, -32768, 32767⟩ ∨ (layOf k).t = fw := by
  unfold layOf
  repeat' split
  all_goals simp
theorem rd_holds {f : F} (hf : f = f0 ∨ f = ⟨2, -32768, 32767⟩ ∨ f = fw) {l : List UInt8} (hl : l.length ≤ f.size) : holds f (rd f l) = true ∧ -4294967296 ≤ rd f l ∧ rd f l ≤ 4294967295 := by
  refine ⟨?_, rd_bound f l hl (by rcases hf with rfl | rfl | rfl <;> decide)⟩
  rcases hf with rfl | rfl | rfl
  · rfl
  · have := sgn_bound (num_le hl)
    simp only [Nat.reducePow] at this
    unfold holds rd
    simp; omega
  · have := sgn_bound (num_le hl)
    simp only [fw, Nat.reducePow] at this
    unfold holds rd fw
    simp; omega
theorem plain_enc {s : List UInt8} {a op b k q : Nat} {w : Bool} {i : I} (hk : k = kindW op w) (h15 : k ≠ 15) (h16 : k ≠ 16) (h : plain s a op w b (layOf k) = .ok (i, q)) :
    i.at_ = a ∧ i.op = op ∧ i.wide = w ∧ hasOps i.g = true ∧ plainB i.g (layOf k) = bs s b (q - b) := by
  obtain ⟨z1, z2, z3, z4⟩ := layOf_sizes k
  have hz := layOf_z k
  have ht := layOf_t k
  unfold plain at h
  split at h
  · cases h
  · rename_i hlen
    split at h
    · rename_i hh
      simp only [Bool.and_eq_true] at hh
      obtain ⟨⟨h1, h2⟩, h3⟩ := hh
      cases h
      have r4 := rd_holds ht (l := bs s (b + (layOf k).a.size + (layOf k).b.size + (layOf k).z.size) (layOf k).t.size) (bs_len _ _ _)
      refine ⟨rfl, rfl, rfl, ?_, ?_⟩
      · unfold hasOps I.g
        simp only
        rw [← hk, if_neg h15, if_neg h16]
        simp only [Bool.and_eq_true, decide_eq_true_eq]
        refine ⟨⟨⟨h1, h2⟩, ?_⟩, ?_⟩
        · split <;> rfl
        · unfold hasTgts
          simp only
          split
          · rfl
          · simp only [List.all_cons, List.all_nil, Bool.and_true]
            rw [show ((a : Int) + rd (layOf k).t (bs s (b + (layOf k).a.size + (layOf k).b.size + (layOf k).z.size) (layOf k).t.size) - (a : Int)) = rd (layOf k).t (bs s (b + (layOf k).a.size + (layOf k).b.size + (layOf k).z.size) (layOf k).t.size) by omega]
            rw [wrap_small (by omega) (by omega)]
            exact r4.1
      · unfold plainB I.g
        simp only
        have e1 : nb (layOf k).a (rd (layOf k).a (bs s b (layOf k).a.size)) = bs s b (layOf k).a.size := nb_bs z1 (by omega)
        have e2 : nb (layOf k).b (rd (layOf k).b (bs s (b + (layOf k).a.size) (layOf k).b.size)) = bs s (b + (layOf k).a.size) (layOf k).b.size := nb_bs z2 (by omega)
        have e3 : nb (layOf k).z 0 = bs s (b + (layOf k).a.size + (layOf k).b.size) (layOf k).z.size := by
          have e := nb_bs z3 (s := s) (p := b + (layOf k).a.size + (layOf k).b.size) (by omega)
          rcases hz with hz | hz
          · rw [hz]; simp only [f0]; rw [bs_zero]; rfl
          · have h0 : rd (layOf k).z (bs s (b + (layOf k).a.size + (layOf k).b.size) (layOf k).z.size) = 0 := by
              generalize rd (layOf k).z (bs s (b + (layOf k).a.size + (layOf k).b.size) (layOf k).z.size) = x at h3
              rw [hz] at h3
              unfold holds at h3
              simp at h3
              omega
            rw [h0] at e; exact e
        have e4 : (if (layOf k).t.size = 0 then ([] : List Int) else [(a : Int) + rd (layOf k).t (bs s (b + (layOf k).a.size + (layOf k).b.size + (layOf k).z.size) (layOf k).t.size)]).flatMap (fun t => nb (layOf k).t (t - (a : Int))) = bs s (b + (layOf k).a.size + (layOf k).b.size + (layOf k).z.size) (layOf k).t.size := by
          split
          · rename_i h0; rw [h0, bs_zero]; rfl
          · rw [List.flatMap_singleton]
            rw [show ((a : Int) + rd (layOf k).t (bs s (b + (layOf k).a.size + (layOf k).b.size + (layOf k).z.size) (layOf k).t.size) - (a : Int)) = rd (layOf k).t (bs s (b + (layOf k).a.size + (layOf k).b.size + (layOf k).z.size) (layOf k).t.size) by omega]
            exact nb_bs z4 (by omega)
        rw [e1, e2, e3, e4, bs_append, Nat.add_assoc b, bs_append, Nat.add_assoc b, bs_append]
        congr 1
        omega
    · cases h
theorem pad_zero {s : List UInt8} {a : Nat} : ∀ {n p r : Nat}, pad s a n p = .ok r → bs s p n = List.replicate n 0 ∧ r = p + n
  | 0, p, r, h => by simp only [pad, Except.ok.injEq] at h; subst h; exact ⟨bs_zero _ _, rfl⟩
  | n + 1, p, r, h => by
    unfold pad at h; split at h
    · cases h
    · rename_i hp
      split at h
      · cases h
      · rename_i h0
        obtain ⟨h1, h2⟩ := pad_zero h
        have h0' : num (bs s p 1) = 0 := by omega
        have hb := byte_one (s := s) (p := p) (by omega)
        rw [h0'] at hb
        refine ⟨?_, by omega⟩
        rw [show n + 1 = 1 + n by omega, ← bs_append, hb, h1, Nat.add_comm 1 n, List.replicate_succ]
        rfl
theorem tgs_eq {s : List UInt8} {a : Nat} : ∀ {n p : Nat} {ts : List Int} {r : List Int × Nat}, tgs s a n p ts = .ok r → r.1 = ts ++ (List.range n).map (fun i => (a : Int) + w4 s (p + 4 * i)) ∧ r.2 = p + 4 * n ∧ (0 < n → p + 4 * n ≤ s.length)
  | 0, p, ts, r, h => by simp only [tgs, Except.ok.injEq] at h; subst h; exact ⟨by simp, by simp, by omega⟩
  | n + 1, p, ts, r, h => by
    unfold tgs at h; split at h
    · cases h
    · rename_i hp
      obtain ⟨h1, h2, h3⟩ := tgs_eq h
      refine ⟨?_, by omega, fun _ => ?_⟩
      · rw [h1, List.range_succ_eq_map, List.append_assoc]
        simp only [List.map_cons, List.map_map, List.singleton_append, Nat.mul_zero, Nat.add_zero]
        congr 2
        apply List.map_congr_left
        intro i _
        simp only [Function.comp]
        congr 2
        omega
      · rcases Nat.eq_zero_or_pos n with h0 | h0
        · subst h0; omega
        · have := h3 h0; omega
theorem kys_eq {s : List UInt8} {a : Nat} : ∀ {n p : Nat} {ks ts : List Int} {r : List Int × List Int × Nat}, kys s a n p ks ts = .ok r →
    r.1 = ks ++ (List.range n).map (fun i => w4 s (p + 8 * i)) ∧ r.2.1 = ts ++ (List.range n).map (fun i => (a : Int) + w4 s (p + 8 * i + 4)) ∧ r.2.2 = p + 8 * n ∧ (0 < n → p + 8 * n ≤ s.length) ∧
    (∀ k, 0 < k → ks.length ≤ k → k < ks.length + n → r.1.getD (k - 1) 0 < r.1.getD k 0)
  | 0, p, ks, ts, r, h => by simp only [kys, Except.ok.injEq] at h; subst h; exact ⟨by simp, by simp, by simp, by omega, by omega⟩
  | n + 1, p, ks, ts, r, h => by
    unfold kys at h; split at h
    · cases h
    · split at h
      · cases h
      · rename_i hr
        split at h
        · cases h
        · rename_i hp
          obtain ⟨h1, h2, h3, h4, h5⟩ := kys_eq h
          refine ⟨?_, ?_, by omega, fun _ => ?_, fun k k0 k1 k2 => ?_⟩
          · rw [h1, List.range_succ_eq_map, List.append_assoc]
            simp only [List.map_cons, List.map_map, List.singleton_append, Nat.mul_zero, Nat.add_zero]
            congr 2
            apply List.map_congr_left
            intro i _
            simp only [Function.comp]
            congr 1
            omega
          · rw [h2, List.range_succ_eq_map, List.append_assoc]
            simp only [List.map_cons, List.map_map, List.singleton_append, Nat.mul_zero, Nat.add_zero]
            congr 2
            apply List.map_congr_left
            intro i _
            simp only [Function.comp]
            congr 2
            omega
          · rcases Nat.eq_zero_or_pos n with h0 | h0
            · subst h0; omega
            · have := h4 h0; omega
          · rcases Nat.lt_or_ge ks.length k with hk | hk
            · exact h5 k k0 (by simp; omega) (by simp; omega)
            · have hk : k = ks.length := by omega
              subst hk
              have hne : ks ≠ [] := by rintro rfl; simp at k0
              have hlt : ks.getLastD 0 < w4 s p := by
                have := not_and.1 hr hne
                omega
              have e1 : r.1.getD (ks.length - 1) 0 = ks.getLastD 0 := by
                rw [h1, List.getD_eq_getElem?_getD, List.append_assoc, List.getElem?_append_left (by omega), List.getLastD_eq_getLast?, List.getLast?_eq_getElem?]
              have e2 : r.1.getD ks.length 0 = w4 s p := by
                rw [h1, List.getD_eq_getElem?_getD, List.append_assoc, List.getElem?_append_right (Nat.le_refl _)]
                simp
              rw [e1, e2]; exact hlt
theorem flat4 (s : List UInt8) (p n : Nat) : (List.range n).flatMap (fun k => bs s (p + 4 * k) 4) = bs s p (4 * n) := by
  induction n with
  | zero => simp [bs_zero]
  | succ n ih => rw [List.range_succ, List.flatMap_append, ih, List.flatMap_singleton, bs_append]; rfl
theorem flat8 (s : List UInt8) (p n : Nat) : (List.range n).flatMap (fun k => bs s (p + 8 * k) 4 ++ bs s (p + 8 * k + 4) 4) = bs s p (8 * n) := by
  induction n with
  | zero => simp [bs_zero]
  | succ n ih => rw [List.range_succ, List.flatMap_append, ih, List.flatMap_singleton, bs_append, bs_append]; rfl
theorem flatMap_range_congr {n : Nat} {f g : Nat → List UInt8} (h : ∀ k, k < n → f k = g k) : (List.range n).flatMap f = (List.range n).flatMap g := by
  induction n with
  | zero => rfl
  | succ n ih => rw [List.range_succ, List.flatMap_append, List.flatMap_append, ih (fun k hk => h k (by omega)), List.flatMap_singleton, List.flatMap_singleton, h n (by omega)]
theorem tgts_holds {s : List UInt8} {a : Nat} {n : Nat} {f : Nat → Nat} (p : Nat) : (((a : Int) + w4 s p) :: (List.range n).map (fun i => (a : Int) + w4 s (f i))).all (fun t => holds fw (wrap64 (t - (a : Int)))) = true := by
  have h0 : ∀ q, holds fw (wrap64 ((a : Int) + w4 s q - (a : Int))) = true := fun q => by
    have hb := w4_bound s q
    rw [show ((a : Int) + w4 s q - (a : Int)) = w4 s q by omega, wrap_small (by omega) (by omega)]
    exact w4_holds s q
  rw [List.all_cons, h0, Bool.true_and, List.all_eq_true]
  intro t ht
  obtain ⟨i, _, rfl⟩ := List.mem_map.1 ht
  exact h0 _
theorem sw_enc {s : List UInt8} {a op b q : Nat} {k : Bool} {i : I} (hk : kindW op false = if k then 16 else 15) (hb : b ≤ s.length) (h : sw s a op b k = .ok (i, q)) :
    i.at_ = a ∧ i.op = op ∧ i.wide = false ∧ hasOps i.g = true ∧ swB i.g b k = bs s b (q - b) := by
  unfold sw at h
  cases hp : pad s a (padN b) b with
  | error e => rw [hp] at h; cases h
  | ok p =>
    obtain ⟨hz, hpb⟩ := pad_zero hp
    have hpl := (pad_le hb hp).2
    rw [hp] at h; simp only at h
    cases k
    · simp only [Bool.false_eq_true, if_false] at h hk
      unfold tab at h; split at h
      · cases h
      · rename_i hl
        split at h
        · cases h
        · rename_i hlo
          cases ht : tgs s a (w4 s (p + 8) - w4 s (p + 4) + 1).toNat (p + 12) [(a : Int) + w4 s p] with
          | error e => rw [ht] at h; cases h
          | ok r =>
            obtain ⟨ts, q'⟩ := r
            rw [ht] at h; cases h
            obtain ⟨h1, h2, h3⟩ := tgs_eq ht
            simp only at h1 h2
            obtain ⟨n, hn⟩ : ∃ n, n = (w4 s (p + 8) - w4 s (p + 4) + 1).toNat := ⟨_, rfl⟩
            rw [← hn] at h1 h2 h3
            have h3 := h3 (by omega)
            subst h1
            subst h2
            have hn2 : w4 s (p + 4) + ((n : Int) - 1) = w4 s (p + 8) := by omega
            refine ⟨rfl, rfl, rfl, ?_, ?_⟩
            · unfold hasOps I.g
              simp only
              rw [hk, if_pos rfl, Bool.and_eq_true]
              refine ⟨?_, tgts_holds p⟩
              unfold hasTable
              simp only [List.singleton_append, List.length_cons, List.length_map, List.length_range, Bool.and_eq_true, decide_eq_true_eq]
              refine ⟨by omega, w4_holds _ _, ?_⟩
              rw [show w4 s (p + 4) + (((n + 1 : Nat) : Int) - 2) = w4 s (p + 8) by omega]
              exact w4_holds _ _
            · unfold swB I.g
              simp only [List.singleton_append, List.length_cons, List.length_map, List.length_range, Bool.false_eq_true, if_false, List.getD_cons_zero, Nat.add_sub_cancel]
              rw [show ((a : Int) + w4 s p - (a : Int)) = w4 s p by omega, show w4 s (p + 4) + (((n + 1 : Nat) : Int) - 1) - 1 = w4 s (p + 8) by omega, nb_w4 (by omega), nb_w4 (by omega), nb_w4 (by omega), ← hz]
              have hr : restT ⟨(a : Int), op, false, 0, 0, w4 s (p + 4), [], ((a : Int) + w4 s p) :: (List.range n).map fun i => (a : Int) + w4 s (p + 12 + 4 * i)⟩ n = bs s (p + 12) (4 * n) := by
                unfold restT
                rw [← flat4]
                apply flatMap_range_congr
                intro k hk
                simp only [List.getD_eq_getElem?_getD, List.getElem?_cons_succ, List.getElem?_map, List.getElem?_range hk, Option.map_some, Option.getD_some]
                rw [show ((a : Int) + w4 s (p + 12 + 4 * k) - (a : Int)) = w4 s (p + 12 + 4 * k) by omega, nb_w4 (by omega)]
              rw [hr, hpb]
              have e1 := bs_append s b (padN b) 4
              have e2 := bs_append s (b + padN b + 4) 4 4
              have e3 := bs_append s (b + padN b + 4) 8 (4 * n)
              have e4 := bs_append s b (padN b + 4) (8 + 4 * n)
              rw [e1, e2, show b + padN b + 12 = b + padN b + 4 + 8 by omega, e3, show b + padN b + 4 = b + (padN b + 4) by omega, e4]
              congr 1
              omega
    · simp only [if_true] at h hk
      unfold key at h; split at h
      · cases h
      · rename_i hl
        split at h
        · cases h
        · rename_i hlo
          cases ht : kys s a (w4 s (p + 4)).toNat (p + 8) [] [(a : Int) + w4 s p] with
          | error e => rw [ht] at h; cases h
          | ok r =>
            obtain ⟨ks, ts, q'⟩ := r
            rw [ht] at h; cases h
            obtain ⟨h0, h1, h2, h3, h5⟩ := kys_eq ht
            simp only at h0 h1 h2 h5
            obtain ⟨n, hn⟩ : ∃ n, n = (w4 s (p + 4)).toNat := ⟨_, rfl⟩
            rw [← hn] at h0 h1 h2 h3 h5
            have h3 : p + 8 + 8 * n ≤ s.length := by
              rcases Nat.eq_zero_or_pos n with e | e
              · subst e; omega
              · exact h3 e
            rw [List.nil_append] at h0
            subst h1
            subst h2
            have hkl : ks.length = n := by rw [h0]; simp
            have hka : ∀ k, k < n → ks.getD k 0 = w4 s (p + 8 + 8 * k) := fun k hk => by
              rw [h0]; simp [List.getD_eq_getElem?_getD, hk]
            refine ⟨rfl, rfl, rfl, ?_, ?_⟩
            · unfold hasOps I.g
              simp only
              rw [hk, if_neg (by decide), if_pos rfl, Bool.and_eq_true]
              refine ⟨?_, tgts_holds p⟩
              unfold hasKeys
              simp only [List.singleton_append, List.length_cons, List.length_map, List.length_range, Bool.and_eq_true, decide_eq_true_eq, List.all_eq_true, List.mem_range]
              refine ⟨by omega, fun k hk => ?_⟩
              unfold keyOk
              rw [hka k (by omega), w4_holds, Bool.true_and, ← hka k (by omega)]
              rcases Nat.eq_zero_or_pos k with e | e
              · simp [e]
              · have := h5 k e (by simp) (by simp; omega)
                simp only [Bool.or_eq_true, decide_eq_true_eq]; exact .inr this
            · unfold swB I.g
              simp only [List.singleton_append, List.length_cons, List.length_map, List.length_range, if_true, List.getD_cons_zero, Nat.add_sub_cancel]
              rw [show ((a : Int) + w4 s p - (a : Int)) = w4 s p by omega, show (((n + 1 : Nat) : Int) - 1) = w4 s (p + 4) by omega, nb_w4 (by omega), nb_w4 (by omega), ← hz]
              have hr : restK ⟨(a : Int), op, false, 0, 0, 0, ks, ((a : Int) + w4 s p) :: (List.range n).map fun i => (a : Int) + w4 s (p + 8 + 8 * i + 4)⟩ n = bs s (p + 8) (8 * n) := by
                unfold restK
                rw [← flat8]
                apply flatMap_range_congr
                intro k hk
                simp only [hka k hk]
                simp only [List.getD_eq_getElem?_getD, List.getElem?_cons_succ, List.getElem?_map, List.getElem?_range hk, Option.map_some, Option.getD_some]
                rw [show ((a : Int) + w4 s (p + 8 + 8 * k + 4) - (a : Int)) = w4 s (p + 8 + 8 * k + 4) by omega, nb_w4 (by omega), nb_w4 (by omega)]
              rw [hr, hpb]
              have e1 := bs_append s b (padN b) 4
              have e3 := bs_append s (b + padN b + 4) 4 (8 * n)
              have e4 := bs_append s b (padN b + 4) (4 + 8 * n)
              rw [e1, show b + padN b + 8 = b + padN b + 4 + 4 by omega, e3, show b + padN b + 4 = b + (padN b + 4) by omega, e4]
              congr 1
              omega
theorem body_enc {s : List UInt8} {a op b q : Nat} {w : Bool} {i : I} (hb : b ≤ s.length) (h : body s a op w b = .ok (i, q)) :
    i.at_ = a ∧ i.op = op ∧ i.wide = w ∧ kindW op w ≠ 0 ∧ hasOps i.g = true ∧ (if kindW op w = 15 then swB i.g b false else if kindW op w = 16 then swB i.g b true else plainB i.g (layOf (kindW op w))) = bs s b (q - b) := by
  unfold body at h
  split at h
  · cases h
  · rename_i h0
    split at h
    · rename_i h15
      have hw : w = false := by
        cases w
        · rfl
        · exact absurd h15 (kindW_wide h0).1
      subst hw
      obtain ⟨e1, e2, e3, e4, e5⟩ := sw_enc (k := false) (by simpa using h15) hb h
      exact ⟨e1, e2, e3, h0, e4, by rw [if_pos h15]; exact e5⟩
    · rename_i h15
      split at h
      · rename_i h16
        have hw : w = false := by
          cases w
          · rfl
          · exact absurd h16 (kindW_wide h0).2
        subst hw
        obtain ⟨e1, e2, e3, e4, e5⟩ := sw_enc (k := true) (by simpa using h16) hb h
        exact ⟨e1, e2, e3, h0, e4, by rw [if_neg h15, if_pos h16]; exact e5⟩
      · rename_i h16
        obtain ⟨e1, e2, e3, e4, e5⟩ := plain_enc rfl h15 h16 h
        exact ⟨e1, e2, e3, h0, e4, by rw [if_neg h15, if_neg h16]; exact e5⟩
/-- What is read at a place is written as it was. -/
theorem ins_enc {s : List UInt8} {a q : Nat} {i : I} (ha : a < s.length) (h : ins s a = .ok (i, q)) : wrong i.g a = 0 ∧ enc1 i.g a = bs s a (q - a) := by
  have hle := ins_le ha h
  unfold ins at h
  have hb := byte_one ha
  split at h
  · rename_i h196
    split at h
    · cases h
    · rename_i h2
      obtain ⟨e1, e2, e3, e4, e5, e6⟩ := body_enc (by omega) h
      have hq := (body_le (by omega) h).1
      simp only at hq
      refine ⟨?_, ?_⟩
      · unfold wrong
        rw [if_neg (by simp [I.g, e1]), if_neg (by simpa [I.g, e2, e3] using e4), if_pos e5]
      · unfold enc1
        have w1 : i.g.wide = true := e3
        have w2 : i.g.op = num (bs s (a + 1) 1) := e2
        have hb2 := byte_one (s := s) (p := a + 1) (by omega)
        rw [w1, w2]
        simp only [if_true]
        have h3 : ([196] : List UInt8) = bs s a 1 := by rw [hb, h196]; rfl
        have h4 : UInt8.ofNat (num (bs s (a + 1) 1)) :: bs s (a + 2) (q - (a + 2)) = bs s (a + 1) 1 ++ bs s (a + 2) (q - (a + 2)) := by
          conv => rhs; rw [hb2]
          rfl
        rw [e6, h3, h4, show a + 2 = a + 1 + 1 by omega, bs_append, bs_append]
        congr 1
        omega
  · obtain ⟨e1, e2, e3, e4, e5, e6⟩ := body_enc (by omega) h
    have hq := (body_le (by omega) h).1
    simp only at hq
    refine ⟨?_, ?_⟩
    · unfold wrong
      rw [if_neg (by simp [I.g, e1]), if_neg (by simpa [I.g, e2, e3] using e4), if_pos e5]
    · unfold enc1
      have w1 : i.g.wide = false := e3
      have w2 : i.g.op = num (bs s a 1) := e2
      rw [w1, w2]
      simp only [Bool.false_eq_true, if_false, List.nil_append]
      have h4 : UInt8.ofNat (num (bs s a 1)) :: bs s (a + 1) (q - (a + 1)) = bs s a 1 ++ bs s (a + 1) (q - (a + 1)) := by
        conv => rhs; rw [hb]
        rfl
      rw [e6, h4, bs_append]
      congr 1
      omega
theorem run_enc {s : List UInt8} (hs : s.length ≤ 65535) : ∀ (d a : Nat) (acc l : List I), s.length - a ≤ d → a ≤ s.length → run s a acc = .ok l → ∃ r, l = acc ++ r ∧ encGo (r.map I.g) acc.length (bs s 0 a) = .ok s := by
  intro d
  induction d with
  | zero =>
    intro a acc l h1 h2 h
    rw [run_end (by omega)] at h
    cases h
    refine ⟨[], by simp, ?_⟩
    simp only [List.map_nil, encGo, bs, List.drop_zero]
    rw [List.take_of_length_le (by omega)]
  | succ d ih =>
    intro a acc l h1 h2 h
    rcases Nat.lt_or_ge a s.length with ha | ha
    · cases hi : ins s a with
      | error e => rw [run_bad ha hi] at h; cases h
      | ok r =>
        obtain ⟨i, q⟩ := r
        rw [run_one ha hi] at h
        have hle := ins_le ha hi
        simp only at hle
        obtain ⟨r, rfl, hr⟩ := ih q (acc ++ [i]) l (by omega) (by omega) h
        refine ⟨i :: r, by simp, ?_⟩
        obtain ⟨h3, h4⟩ := ins_enc ha hi
        have hbl : (bs s 0 a).length = a := bs_length (by omega)
        have hcat : bs s 0 a ++ bs s a (q - a) = bs s 0 q := by
          have := bs_append s 0 a (q - a)
          rw [Nat.zero_add, show a + (q - a) = q by omega] at this
          exact this
        simp only [List.map_cons, encGo]
        rw [hbl, h3, if_neg (by simp), h4, hcat, if_neg (by rw [bs_length (by omega)]; omega)]
        simpa using hr
    · rw [run_end ha] at h
      cases h
      refine ⟨[], by simp, ?_⟩
      simp only [List.map_nil, encGo, bs, List.drop_zero]
      rw [List.take_of_length_le (by omega)]
/-- WHAT DECODE GIVES, ENCODE WRITES AS IT WAS. -/
theorem decode_encode {s : List UInt8} {l : List I} (h : decode s = .ok l) : encode (l.map I.g) = .ok s := by
  unfold decode at h
  split at h
  · cases h
  · rename_i hl
    cases hr : run s 0 [] with
    | error e => rw [hr] at h; cases h
    | ok l' =>
      rw [hr] at h
      simp only at h
      split at h
      · rename_i hf
        cases h
        obtain ⟨r, h1, h2⟩ := run_enc (by omega) s.length 0 [] l (by omega) (by omega) hr
        rw [List.nil_append] at h1
        subst h1
        rw [bs_zero] at h2
        simp only [List.length_nil] at h2
        have hne : l ≠ [] := by
          rintro rfl
          simp only [List.map_nil, encGo, Except.ok.injEq] at h2
          rw [← h2] at hl
          simp at hl
        have hg : gFirst (l.map I.g) = none := by
          rw [gFirst_map]
          unfold firstLost
          rw [List.findIdx?_eq_none_iff]
          intro x hx
          rw [List.find?_eq_none] at hf
          simpa using hf x hx
        unfold encode
        rw [if_neg (by simpa using hne), h2]
        simp only
        rw [hg]
      · cases h
end M
end Go.Proofs.YtpmonoenppfekabDoor
