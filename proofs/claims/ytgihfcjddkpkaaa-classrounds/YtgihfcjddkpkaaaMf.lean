/-
  The next frame, as the program reads it, and as the reference does: plain mathematics.
-/
import Derived.Test.YtgihfcjddkpkaaaMm
namespace Go.Proofs.Ytgihfcjddkpkaaa
namespace M
theorem vty_bad {s : List UInt8} {P : List K} {st : St} (h : st.e ≠ 0) : (vty s P st).2 = st := by
  unfold vty; rw [rd_bad h]; simp
theorem vals_bad {s : List UInt8} {P : List K} {n : Nat} {st : St} (h : st.e ≠ 0) : vals s P n st = ([], st) := by
  cases n with
  | zero => rfl
  | succ n => rw [vals, vty_bad h, if_neg h]
theorem vals_good {s : List UInt8} {P : List K} {n : Nat} {st : St} (h : (vals s P n st).2.e = 0) : st.e = 0 := by
  by_cases he : st.e = 0
  · exact he
  · rw [vals_bad he] at h; exact absurd h he
theorem rd_good {s : List UInt8} {n : Nat} {st : St} (h : (rd s n st).2.e = 0) : st.e = 0 := by
  by_cases he : st.e = 0
  · exact he
  · rw [rd_bad he] at h; exact absurd h he
theorem rd_none {s : List UInt8} {n : Nat} {st : St} (h : (rd s n st).2.e ≠ 0) : (rd s n st).1 = 0 := by
  unfold rd take at h ⊢
  by_cases he : st.e = 0
  · rw [if_pos he] at h ⊢
    by_cases hl : s.length - st.pos < n
    · rw [if_pos hl]; rfl
    · rw [if_neg hl] at h; simp at h
  · rw [if_neg he]; rfl
def sB (x q : Nat) (st : St) : St := if 128 ≤ x ∧ x < 247 then fail st 17 q else st
/-- How many locals are kept, how many are read. -/
def km (s : List UInt8) (len x : Nat) (st : St) : Int × Nat × St :=
  if x = 255 then (0, rd s 2 st) else if 251 < x then ((len : Int), x - 251, st) else if 247 < x then ((len : Int) - (251 - (x : Int)), 0, st) else ((len : Int), 0, st)
def s4 (k : Int) (q : Nat) (st : St) : St := if k < 0 then fail st 17 q else st
/-- How many types the stack has. -/
def hgt (s : List UInt8) (x : Nat) (st : St) : Nat × St := if x = 255 then rd s 2 st else if 64 ≤ x ∧ x ≤ 247 then (1, st) else (0, st)
/-- What is read behind the delta. -/
def tailP (s : List UInt8) (P : List K) (L : List T) (x : Nat) (k : Int) (n : Nat) (st : St) : List T × List T × St :=
  if st.e ≠ 0 then ([], [], st) else
    (L.take k.toNat ++ (vals s P n st).1, vals s P (hgt s x (vals s P n st).2).1 (hgt s x (vals s P n st).2).2)
def bodyP (s : List UInt8) (P : List K) (L : List T) (x q : Nat) (st : St) : List T × List T × St :=
  tailP s P L x (km s L.length x st).1 (km s L.length x st).2.1 (s4 (km s L.length x st).1 q (km s L.length x st).2.2)
theorem hgt_bad {s : List UInt8} {x : Nat} {st : St} (h : st.e ≠ 0) : (hgt s x st).2 = st := by
  unfold hgt; rw [rd_bad h]; split
  · rfl
  · split <;> rfl
theorem tailP_bad {s : List UInt8} {P : List K} {L : List T} {x : Nat} {k : Int} {n : Nat} {st : St} (h : st.e ≠ 0) : tailP s P L x k n st = ([], [], st) := by unfold tailP; rw [if_pos h]
theorem tailP_ok {s : List UInt8} {P : List K} {L : List T} {x : Nat} {k : Int} {n : Nat} {st : St} (h : st.e = 0) :
    tailP s P L x k n st = (L.take k.toNat ++ (vals s P n st).1, vals s P (hgt s x (vals s P n st).2).1 (hgt s x (vals s P n st).2).2) := by unfold tailP; rw [if_neg (fun g => g h)]
theorem vals_zero (s : List UInt8) (P : List K) (st : St) : vals s P 0 st = ([], st) := rfl
theorem body_eq {s : List UInt8} {P : List K} {L : List T} {x q : Nat} {st : St} (hx : ¬ (128 ≤ x ∧ x < 247)) (hx2 : x < 256) :
    (bodyP s P L x q st).2.2 = (body s P L x q st).2.2 ∧ ((bodyP s P L x q st).2.2.e = 0 → bodyP s P L x q st = body s P L x q st) := by
  by_cases he : st.e = 0
  · have hne : ¬ st.e ≠ 0 := fun h => h he
    by_cases h255 : x = 255
    · subst h255
      have hk : km s L.length 255 st = (0, rd s 2 st) := by unfold km; rw [if_pos rfl]
      have h4 : s4 0 q (rd s 2 st).2 = (rd s 2 st).2 := by unfold s4; rw [if_neg (by omega)]
      have hh : ∀ z : St, hgt s 255 z = rd s 2 z := fun z => by unfold hgt; rw [if_pos rfl]
      have hA : bodyP s P L 255 q st = tailP s P L 255 0 (rd s 2 st).1 (rd s 2 st).2 := by unfold bodyP; rw [hk]; simp only; rw [h4]
      rw [hA]
      unfold body
      rw [if_neg hne, if_pos (show (255 : Nat) = 255 from rfl)]
      by_cases e1 : (rd s 2 st).2.e = 0
      · rw [if_neg (show ¬ (rd s 2 st).2.e ≠ 0 from fun h => h e1), tailP_ok e1, hh]
        by_cases e2 : (vals s P (rd s 2 st).1 (rd s 2 st).2).2.e = 0
        · rw [if_neg (show ¬ (vals s P (rd s 2 st).1 (rd s 2 st).2).2.e ≠ 0 from fun h => h e2)]
          by_cases e3 : (rd s 2 (vals s P (rd s 2 st).1 (rd s 2 st).2).2).2.e = 0
          · rw [if_neg (show ¬ (rd s 2 (vals s P (rd s 2 st).1 (rd s 2 st).2).2).2.e ≠ 0 from fun h => h e3)]
            exact ⟨rfl, fun _ => by simp⟩
          · rw [if_pos e3, vals_bad e3]
            exact ⟨rfl, fun h => absurd h e3⟩
        · rw [if_pos e2, rd_bad e2, vals_bad e2]
          exact ⟨rfl, fun h => absurd h e2⟩
      · rw [if_pos e1, tailP_bad e1]
        exact ⟨rfl, fun h => absurd h e1⟩
    · by_cases h251 : 251 < x
      · have hk : km s L.length x st = ((L.length : Int), x - 251, st) := by unfold km; rw [if_neg h255, if_pos h251]
        have hh : ∀ z : St, hgt s x z = (0, z) := fun z => by unfold hgt; rw [if_neg h255, if_neg (by omega)]
        have h4 : s4 (L.length : Int) q st = st := by unfold s4; rw [if_neg (by omega)]
        have hA : bodyP s P L x q st = tailP s P L x (L.length : Int) (x - 251) st := by unfold bodyP; rw [hk]; simp only; rw [h4]
        have hB : body s P L x q st = (L ++ (vals s P (x - 251) st).1, [], (vals s P (x - 251) st).2) := by unfold body; rw [if_neg hne, if_neg h255, if_pos h251]
        rw [hA, hB, tailP_ok he, hh, vals_zero]
        refine ⟨?_, fun _ => ?_⟩
        · simp only
        · simp only [Int.toNat_natCast, List.take_length]
      · by_cases h247 : 247 < x
        · have hk : km s L.length x st = ((L.length : Int) - (251 - (x : Int)), 0, st) := by unfold km; rw [if_neg h255, if_neg h251, if_pos h247]
          have hh : ∀ z : St, hgt s x z = (0, z) := fun z => by unfold hgt; rw [if_neg h255, if_neg (by omega)]
          by_cases hl : L.length < 251 - x
          · have h4 : s4 ((L.length : Int) - (251 - (x : Int))) q st = fail st 17 q := by unfold s4; rw [if_pos (by omega)]
            have hf : (fail st 17 q).e ≠ 0 := fail_e (by decide)
            have hA : bodyP s P L x q st = ([], [], fail st 17 q) := by unfold bodyP; rw [hk]; simp only; rw [h4, tailP_bad hf]
            have hB : body s P L x q st = ([], [], fail st 17 q) := by unfold body; rw [if_neg hne, if_neg h255, if_neg h251, if_pos h247, if_pos hl]
            rw [hA, hB]
            exact ⟨rfl, fun _ => rfl⟩
          · have h4 : s4 ((L.length : Int) - (251 - (x : Int))) q st = st := by unfold s4; rw [if_neg (by omega)]
            have hA : bodyP s P L x q st = tailP s P L x ((L.length : Int) - (251 - (x : Int))) 0 st := by unfold bodyP; rw [hk]; simp only; rw [h4]
            have hB : body s P L x q st = (L.take (L.length - (251 - x)), [], st) := by unfold body; rw [if_neg hne, if_neg h255, if_neg h251, if_pos h247, if_neg hl]
            have e1 : ((L.length : Int) - (251 - (x : Int))).toNat = L.length - (251 - x) := by omega
            rw [hA, hB, tailP_ok he, hh, vals_zero, e1, vals_zero]
            exact ⟨rfl, fun _ => by rw [List.append_nil]⟩
        · have hk : km s L.length x st = ((L.length : Int), 0, st) := by unfold km; rw [if_neg h255, if_neg h251, if_neg h247]
          have h4 : s4 (L.length : Int) q st = st := by unfold s4; rw [if_neg (by omega)]
          have hA : bodyP s P L x q st = tailP s P L x (L.length : Int) 0 st := by unfold bodyP; rw [hk]; simp only; rw [h4]
          by_cases h64 : 64 ≤ x
          · have hh : ∀ z : St, hgt s x z = (1, z) := fun z => by unfold hgt; rw [if_neg h255, if_pos ⟨h64, by omega⟩]
            have hB : body s P L x q st = (L, vals s P 1 st) := by unfold body; rw [if_neg hne, if_neg h255, if_neg h251, if_neg h247, if_pos h64]
            rw [hA, hB, tailP_ok he, vals_zero, hh]
            exact ⟨rfl, fun _ => by rw [Int.toNat_natCast, List.take_length, List.append_nil]⟩
          · have hh : ∀ z : St, hgt s x z = (0, z) := fun z => by unfold hgt; rw [if_neg h255, if_neg (by omega)]
            have hB : body s P L x q st = (L, [], st) := by unfold body; rw [if_neg hne, if_neg h255, if_neg h251, if_neg h247, if_neg h64]
            rw [hA, hB, tailP_ok he, vals_zero, hh, vals_zero]
            exact ⟨rfl, fun _ => by rw [Int.toNat_natCast, List.take_length, List.append_nil]⟩
  · have hk : (km s L.length x st).2.2 = st := by
      unfold km; rw [rd_bad he]; split
      · rfl
      · split
        · rfl
        · split <;> rfl
    have h4 : s4 (km s L.length x st).1 q st = st := by unfold s4; rw [fail_bad he]; split <;> rfl
    have hA : bodyP s P L x q st = ([], [], st) := by unfold bodyP; rw [hk, h4, tailP_bad he]
    have hB : body s P L x q st = ([], [], st) := by unfold body; rw [if_pos he]
    rw [hA, hB]
    exact ⟨rfl, fun _ => rfl⟩
theorem km_pos {s : List UInt8} {len x : Nat} {st : St} (h : st.pos ≤ s.length) : (km s len x st).2.2.pos ≤ s.length := by
  unfold km; split
  · exact rd_pos h
  · split
    · exact h
    · split <;> exact h
theorem km_le {s : List UInt8} {len x : Nat} {st : St} : (km s len x st).1 ≤ (len : Int) ∨ 255 < x := by
  unfold km; split
  · left; simp only; omega
  · split
    · left; simp only; omega
    · split
      · by_cases hx : x ≤ 251
        · left; simp only; omega
        · omega
      · left; simp only; omega
/-- The next frame, on the program's way. -/
def frP (s : List UInt8) (P : List K) (a : Fm) (st : St) : Fm × St :=
  (⟨a.at_ + 1 + ((dlt s (rd s 1 st).1 (sB (rd s 1 st).1 st.pos (rd s 1 st).2)).1 : Int), (bodyP s P a.locals (rd s 1 st).1 st.pos (dlt s (rd s 1 st).1 (sB (rd s 1 st).1 st.pos (rd s 1 st).2)).2).1, (bodyP s P a.locals (rd s 1 st).1 st.pos (dlt s (rd s 1 st).1 (sB (rd s 1 st).1 st.pos (rd s 1 st).2)).2).2.1⟩,
    (bodyP s P a.locals (rd s 1 st).1 st.pos (dlt s (rd s 1 st).1 (sB (rd s 1 st).1 st.pos (rd s 1 st).2)).2).2.2)
theorem bodyP_bad {s : List UInt8} {P : List K} {L : List T} {x q : Nat} {st : St} (he : st.e ≠ 0) : (bodyP s P L x q st).2.2 = st := by
  have hk : (km s L.length x st).2.2 = st := by
    unfold km; rw [rd_bad he]; split
    · rfl
    · split
      · rfl
      · split <;> rfl
  have h4 : s4 (km s L.length x st).1 q st = st := by unfold s4; rw [fail_bad he]; split <;> rfl
  unfold bodyP
  rw [hk, h4, tailP_bad he]
theorem dlt_bad {s : List UInt8} {x : Nat} {st : St} (he : st.e ≠ 0) : (dlt s x st).2 = st := by
  unfold dlt; rw [rd_bad he]; split
  · rfl
  · split <;> rfl
theorem frP_eq (s : List UInt8) (P : List K) (a : Fm) (st : St) : (frP s P a st).2 = (frame s P a st).2 ∧ ((frP s P a st).2.e = 0 → frP s P a st = frame s P a st) := by
  have hx := rd1 s st
  unfold frP frame
  by_cases h1 : (rd s 1 st).2.e = 0
  · rw [if_neg (show ¬ (rd s 1 st).2.e ≠ 0 from fun h => h h1)]
    by_cases h2 : 128 ≤ (rd s 1 st).1 ∧ (rd s 1 st).1 < 247
    · rw [if_pos h2]
      have hb : sB (rd s 1 st).1 st.pos (rd s 1 st).2 = fail (rd s 1 st).2 17 st.pos := by unfold sB; rw [if_pos h2]
      have hf : (fail (rd s 1 st).2 17 st.pos).e ≠ 0 := fail_e (by decide)
      rw [hb, dlt_bad hf]
      simp only
      rw [bodyP_bad hf]
      exact ⟨rfl, fun h => absurd h hf⟩
    · rw [if_neg h2]
      have hb : sB (rd s 1 st).1 st.pos (rd s 1 st).2 = (rd s 1 st).2 := by unfold sB; rw [if_neg h2]
      rw [hb]
      obtain ⟨e1, e2⟩ := body_eq (s := s) (P := P) (L := a.locals) (x := (rd s 1 st).1) (q := st.pos) (st := (dlt s (rd s 1 st).1 (rd s 1 st).2).2) h2 hx
      exact ⟨e1, fun h => by rw [e2 h]⟩
  · rw [if_pos h1]
    have hb : sB (rd s 1 st).1 st.pos (rd s 1 st).2 = (rd s 1 st).2 := by unfold sB; rw [fail_bad h1]; split <;> rfl
    rw [hb, dlt_bad h1]
    simp only
    rw [bodyP_bad h1]
    exact ⟨rfl, fun h => absurd h h1⟩
end M
end Go.Proofs.Ytgihfcjddkpkaaa
