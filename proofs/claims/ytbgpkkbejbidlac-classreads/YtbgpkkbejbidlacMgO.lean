/-
  The next frame, as the program reads it, and as the reference does: plain mathematics.
  Package maps: types, delta, height.
-/
import Derived.Test.YtbgpkkbejbidlacMm
import Derived.Test.YtbgpkkbejbidlacTy
namespace Go.Proofs.Ytbgpkkbejbidlac
namespace M
theorem vty_bad {s : List UInt8} {P : List K} {st : St} (h : st.e ≠ 0) : (vty s P st).2 = st := by
  unfold vty; rw [rd_bad h]; simp
theorem vals_bad {s : List UInt8} {P : List K} {n : Nat} {st : St} (h : st.e ≠ 0) : vals s P n st = ([], st) := by
  cases n with
  | zero => rfl
  | succ n => rw [vals, vty_bad h, if_neg h]
theorem vals_good {s : List UInt8} {P : List K} {n : Nat} {st : St} (h : (vals s P n st).2.e = 0) : st.e = 0 := by
  by_cases he : st.e = 0
  · exact he
  · rw [vals_bad he] at h; exact absurd h he
theorem rd_good {s : List UInt8} {n : Nat} {st : St} (h : (rd s n st).2.e = 0) : st.e = 0 := by
  by_cases he : st.e = 0
  · exact he
  · rw [rd_bad he] at h; exact absurd h he
theorem rd_none {s : List UInt8} {n : Nat} {st : St} (h : (rd s n st).2.e ≠ 0) : (rd s n st).1 = 0 := by
  unfold rd take at h ⊢
  by_cases he : st.e = 0
  · rw [if_pos he] at h ⊢
    by_cases hl : s.length - st.pos < n
    · rw [if_pos hl]; rfl
    · rw [if_neg hl] at h; simp at h
  · rw [if_neg he]; rfl
def sB (x q : Nat) (st : St) : St := if 128 ≤ x ∧ x < 247 then fail st 17 q else st
/-- How many locals are kept, how many are read. -/
def km (s : List UInt8) (len x : Nat) (st : St) : Int × Nat × St :=
  if x = 255 then (0, rd s 2 st) else if 251 < x then ((len : Int), x - 251, st) else if 247 < x then ((len : Int) - (251 - (x : Int)), 0, st) else ((len : Int), 0, st)
def s4 (k : Int) (q : Nat) (st : St) : St := if k < 0 then fail st 17 q else st
/-- How many types the stack has. -/
def hgt (s : List UInt8) (x : Nat) (st : St) : Nat × St := if x = 255 then rd s 2 st else if 64 ≤ x ∧ x ≤ 247 then (1, st) else (0, st)
/-- What is read behind the delta. -/
def tailP (s : List UInt8) (P : List K) (L : List T) (x : Nat) (k : Int) (n : Nat) (st : St) : List T × List T × St :=
  if st.e ≠ 0 then ([], [], st) else
    (L.take k.toNat ++ (vals s P n st).1, vals s P (hgt s x (vals s P n st).2).1 (hgt s x (vals s P n st).2).2)
def bodyP (s : List UInt8) (P : List K) (L : List T) (x q : Nat) (st : St) : List T × List T × St :=
  tailP s P L x (km s L.length x st).1 (km s L.length x st).2.1 (s4 (km s L.length x st).1 q (km s L.length x st).2.2)
theorem hgt_bad {s : List UInt8} {x : Nat} {st : St} (h : st.e ≠ 0) : (hgt s x st).2 = st := by
  unfold hgt; rw [rd_bad h]; split
  · rfl
  · split <;> rfl
theorem tailP_bad {s : List UInt8} {P : List K} {L : List T} {x : Nat} {k : Int} {n : Nat} {st : St} (h : st.e ≠ 0) : tailP s P L x k n st = ([], [], st) := by unfold tailP; rw [if_pos h]
theorem tailP_ok {s : List UInt8} {P : List K} {L : List T} {x : Nat} {k : Int} {n : Nat} {st : St} (h : st.e = 0) :
    tailP s P L x k n st = (L.take k.toNat ++ (vals s P n st).1, vals s P (hgt s x (vals s P n st).2).1 (hgt s x (vals s P n st).2).2) := by unfold tailP; rw [if_neg (fun g => g h)]
theorem vals_zero (s : List UInt8) (P : List K) (st : St) : vals s P 0 st = ([], st) := rfl
theorem body_eq {s : List UInt8} {P : List K} {L : List T} {x q : Nat} {st : St} (hx : ¬ (128 ≤ x ∧ x < 247)) (hx2 : x < 256) :
    (bodyP s P L x q st).2.2 = (body s P L x q st).2.2 ∧ ((bodyP s P L x q st).2.2.e = 0 → bodyP s P L x q st = body s P L x q st) := by
  by_cases he : st.e = 0
  · have hne : ¬ st.e ≠ 0 := fun h => h he
    by_cases h255 : x = 255
    · subst h255
      have hk : km s L.length 255 st = (0, rd s 2 st) := by unfold km; rw [if_pos rfl]
      have h4 : s4 0 q (rd s 2 st).2 = (rd s 2 st).2 := by unfold s4; rw [if_neg (by omega)]
      have hh : ∀ z : St, hgt s 255 z = rd s 2 z := fun z => by unfold hgt; rw [if_pos rfl]
      have hA : bodyP s P L 255 q st = tailP s P L 255 0 (rd s 2 st).1 (rd s 2 st).2 := by unfold bodyP; rw [hk]; simp only; rw [h4]
      rw [hA]
      unfold body
      rw [if_neg hne, if_pos (show (255 : Nat) = 255 from rfl)]
      by_cases e1 : (rd s 2 st).2.e = 0
      · rw [if_neg (show ¬ (rd s 2 st).2.e ≠ 0 from fun h => h e1), tailP_ok e1, hh]
        by_cases e2 : (vals s P (rd s 2 st).1 (rd s 2 st).2).2.e = 0
        · rw [if_neg (show ¬ (vals s P (rd s 2 st).1 (rd s 2 st).2).2.e ≠ 0 from fun h => h e2)]
          by_cases e3 : (rd s 2 (vals s P (rd s 2 st).1 (rd s 2 st).2).2).2.e = 0
          · rw [if_neg (show ¬ (rd s 2 (vals s P (rd s 2 st).1 (rd s 2 st).2).2).2.e ≠ 0 from fun h => h e3)]
            exact ⟨rfl, fun _ => by simp⟩
          · rw [if_pos e3, vals_bad e3]
            exact ⟨rfl, fun h => absurd h e3⟩
        · rw [if_pos e2, rd_bad e2, vals_bad e2]
          exact ⟨rfl, fun h => absurd h e2⟩
      · rw [if_pos e1, tailP_bad e1]
        exact ⟨rfl, fun h => absurd h e1⟩
    · by_cases h251 : 251 < x
      · have hk : km s L.length x st = ((L.length : Int), x - 251, st) := by unfold km; rw [if_neg h255, if_pos h251]
        have hh : ∀ z : St, hgt s x z = (0, z) := fun z => by unfold hgt; rw [if_neg h255, if_neg (by omega)]
        have h4 : s4 (L.length : Int) q st = st := by unfold s4; rw [if_neg (by omega)]
        have hA : bodyP s P L x q st = tailP s P L x (L.length : Int) (x - 251) st := by unfold bodyP; rw [hk]; simp only; rw [h4]
        have hB : body s P L x q st = (L ++ (vals s P (x - 251) st).1, [], (vals s P (x - 251) st).2) := by unfold body; rw [if_neg hne, if_neg h255, if_pos h251]
        rw [hA, hB, tailP_ok he, hh, vals_zero]
        refine ⟨?_, fun _ => ?_⟩
        · simp only
        · simp only [Int.toNat_natCast, List.take_length]
      · by_cases h247 : 247 < x
        · have hk : km s L.length x st = ((L.length : Int) - (251 - (x : Int)), 0, st) := by unfold km; rw [if_neg h255, if_neg h251, if_pos h247]
          have hh : ∀ z : St, hgt s x z = (0, z) := fun z => by unfold hgt; rw [if_neg h255, if_neg (by omega)]
          by_cases hl : L.length < 251 - x
          · have h4 : s4 ((L.length : Int) - (251 - (x : Int))) q st = fail st 17 q := by unfold s4; rw [if_pos (by omega)]
            have hf : (fail st 17 q).e ≠ 0 := fail_e (by decide)
            have hA : bodyP s P L x q st = ([], [], fail st 17 q) := by unfold bodyP; rw [hk]; simp only; rw [h4, tailP_bad hf]
            have hB : body s P L x q st = ([], [], fail st 17 q) := by unfold body; rw [if_neg hne, if_neg h255, if_neg h251, if_pos h247, if_pos hl]
            rw [hA, hB]
            exact ⟨rfl, fun _ => rfl⟩
          · have h4 : s4 ((L.length : Int) - (251 - (x : Int))) q st = st := by unfold s4; rw [if_neg (by omega)]
            have hA : bodyP s P L x q st = tailP s P L x ((L.length : Int) - (251 - (x : Int))) 0 st := by unfold bodyP; rw [hk]; simp only; rw [h4]
            have hB : body s P L x q st = (L.take (L.length - (251 - x)), [], st) := by unfold body; rw [if_neg hne, if_neg h255, if_neg h251, if_pos h247, if_neg hl]
            have e1 : ((L.length : Int) - (251 - (x : Int))).toNat = L.length - (251 - x) := by omega
            rw [hA, hB, tailP_ok he, hh, vals_zero, e1, vals_zero]
            exact ⟨rfl, fun _ => by rw [List.append_nil]⟩
        · have hk : km s L.length x st = ((L.length : Int), 0, st) := by unfold km; rw [if_neg h255, if_neg h251, if_neg h247]
          have h4 : s4 (L.length : Int) q st = st := by unfold s4; rw [if_neg (by omega)]
          have hA : bodyP s P L x q st = tailP s P L x (L.length : Int) 0 st := by unfold bodyP; rw [hk]; simp only; rw [h4]
          by_cases h64 : 64 ≤ x
          · have hh : ∀ z : St, hgt s x z = (1, z) := fun z => by unfold hgt; rw [if_neg h255, if_pos ⟨h64, by omega⟩]
            have hB : body s P L x q st = (L, vals s P 1 st) := by unfold body; rw [if_neg hne, if_neg h255, if_neg h251, if_neg h247, if_pos h64]
            rw [hA, hB, tailP_ok he, vals_zero, hh]
            exact ⟨rfl, fun _ => by rw [Int.toNat_natCast, List.take_length, List.append_nil]⟩
          · have hh : ∀ z : St, hgt s x z = (0, z) := fun z => by unfold hgt; rw [if_neg h255, if_neg (by omega)]
            have hB : body s P L x q st = (L, [], st) := by unfold body; rw [if_neg hne, if_neg h255, if_neg h251, if_neg h247, if_neg h64]
            rw [hA, hB, tailP_ok he, vals_zero, hh, vals_zero]
            exact ⟨rfl, fun _ => by rw [Int.toNat_natCast, List.take_length, List.append_nil]⟩
  · have hk : (km s L.length x st).2.2 = st := by
      unfold km; rw [rd_bad he]; split
      · rfl
      · split
        · rfl
        · split <;> rfl
    have h4 : s4 (km s L.length x st).1 q st = st := by unfold s4; rw [fail_bad he]; split <;> rfl
    have hA : bodyP s P L x q st = ([], [], st) := by unfold bodyP; rw [hk, h4, tailP_bad he]
    have hB : body s P L x q st = ([], [], st) := by unfold body; rw [if_pos he]
    rw [hA, hB]
    exact ⟨rfl, fun _ => rfl⟩
theorem km_pos {s : List UInt8} {len x : Nat} {st : St} (h : st.pos ≤ s.length) : (km s len x st).2.2.pos ≤ s.length := by
  unfold km; split
  · exact rd_pos h
  · split
    · exact h
    · split <;> exact h
theorem km_le {s : List UInt8} {len x : Nat} {st : St} : (km s len x st).1 ≤ (len : Int) ∨ 255 < x := by
  unfold km; split
  · left; simp only; omega
  · split
    · left; simp only; omega
    · split
      · by_cases hx : x ≤ 251
        · left; simp only; omega
        · omega
      · left; simp only; omega
/-- The next frame, on the program's way. -/
def frP (s : List UInt8) (P : List K) (a : Fm) (st : St) : Fm × St :=
  (⟨a.at_ + 1 + ((dlt s (rd s 1 st).1 (sB (rd s 1 st).1 st.pos (rd s 1 st).2)).1 : Int), (bodyP s P a.locals (rd s 1 st).1 st.pos (dlt s (rd s 1 st).1 (sB (rd s 1 st).1 st.pos (rd s 1 st).2)).2).1, (bodyP s P a.locals (rd s 1 st).1 st.pos (dlt s (rd s 1 st).1 (sB (rd s 1 st).1 st.pos (rd s 1 st).2)).2).2.1⟩,
    (bodyP s P a.locals (rd s 1 st).1 st.pos (dlt s (rd s 1 st).1 (sB (rd s 1 st).1 st.pos (rd s 1 st).2)).2).2.2)
theorem bodyP_bad {s : List UInt8} {P : List K} {L : List T} {x q : Nat} {st : St} (he : st.e ≠ 0) : (bodyP s P L x q st).2.2 = st := by
  have hk : (km s L.length x st).2.2 = st := by
    unfold km; rw [rd_bad he]; split
    · rfl
    · split
      · rfl
      · split <;> rfl
  have h4 : s4 (km s L.length x st).1 q st = st := by unfold s4; rw [fail_bad he]; split <;> rfl
  unfold bodyP
  rw [hk, h4, tailP_bad he]
theorem dlt_bad {s : List UInt8} {x : Nat} {st : St} (he : st.e ≠ 0) : (dlt s x st).2 = st := by
  unfold dlt; rw [rd_bad he]; split
  · rfl
  · split <;> rfl
theorem frP_eq (s : List UInt8) (P : List K) (a : Fm) (st : St) : (frP s P a st).2 = (frame s P a st).2 ∧ ((frP s P a st).2.e = 0 → frP s P a st = frame s P a st) := by
  have hx := rd1 s st
  unfold frP frame
  by_cases h1 : (rd s 1 st).2.e = 0
  · rw [if_neg (show ¬ (rd s 1 st).2.e ≠ 0 from fun h => h h1)]
    by_cases h2 : 128 ≤ (rd s 1 st).1 ∧ (rd s 1 st).1 < 247
    · rw [if_pos h2]
      have hb : sB (rd s 1 st).1 st.pos (rd s 1 st).2 = fail (rd s 1 st).2 17 st.pos := by unfold sB; rw [if_pos h2]
      have hf : (fail (rd s 1 st).2 17 st.pos).e ≠ 0 := fail_e (by decide)
      rw [hb, dlt_bad hf]
      simp only
      rw [bodyP_bad hf]
      exact ⟨rfl, fun h => absurd h hf⟩
    · rw [if_neg h2]
      have hb : sB (rd s 1 st).1 st.pos (rd s 1 st).2 = (rd s 1 st).2 := by unfold sB; rw [if_neg h2]
      rw [hb]
      obtain ⟨e1, e2⟩ := body_eq (s := s) (P := P) (L := a.locals) (x := (rd s 1 st).1) (q := st.pos) (st := (dlt s (rd s 1 st).1 (rd s 1 st).2).2) h2 hx
      exact ⟨e1, fun h => by rw [e2 h]⟩
  · rw [if_pos h1]
    have hb : sB (rd s 1 st).1 st.pos (rd s 1 st).2 = (rd s 1 st).2 := by unfold sB; rw [fail_bad h1]; split <;> rfl
    rw [hb, dlt_bad h1]
    simp only
    rw [bodyP_bad h1]
    exact ⟨rfl, fun h => absurd h h1⟩
end M
end Go.Proofs.Ytbgpkkbejbidlac
namespace Go.Proofs.Ytbgpkkbejbidlac
open Go.RowKit
/-- What types leaves: the list is new, if there was no error. -/
def Tys (R : Nat) (pv : Value) (s : ByteArray) (P : List K) (st' : St) (L : List T) (w : World) (e : Ending) (w' : World) : Prop :=
  ∃ v, e = .returned v ∧ Rx w' R pv s P st' ∧ w.grownBy w' (some R) ∧ (st'.e = 0 → w'.ownsRow w.heap.size 76 3 v L.length (TC L)) ∧ ∃ ad n cap, v = .slice ad n cap
theorem own_slice {w : World} {B n : Nat} {v : Value} {xs : List Value} (h : w.ownsRow B 76 3 v n xs) : ∃ ad n cap, v = .slice ad n cap := by
  rcases h.2 with ⟨rfl, _⟩ | ⟨g, cap, cur, rfl, _⟩
  · exact ⟨_, _, _, rfl⟩
  · exact ⟨_, _, _, rfl⟩
theorem own_grown {w w' : World} {B n R : Nat} {v : Value} {xs : List Value} (h : w.ownsRow B 76 3 v n xs) (hg : w.grownBy w' (some R)) (hR : R < B) : w'.ownsRow B 76 3 v n xs :=
  h.kept hg (.inr fun e => by have := (h.lt R e).1; omega)
theorem grown_own {w0 w1 w2 : World} {row r2 : Option Nat} (h : w0.grownBy w1 row) (g : w1.grownBy w2 r2) (hb : ∀ b, r2 = some b → w0.heap.size ≤ b) : w0.grownBy w2 row :=
  ⟨g.os.trans h.os, g.tape.trans h.tape, g.output.trans h.output, Nat.le_trans h.size g.size, fun k hk hne => by
    rw [g.block k (Nat.lt_of_lt_of_le hk h.size) (fun e => by have := hb k e.symm; omega)]; exact h.block k hk hne⟩
set_option maxRecDepth 100000 in
set_option maxHeartbeats 2000000 in
theorem types_any (R : Nat) (pv kv : Value) (s : ByteArray) (P : List K) (A : List T) (n : Nat) (st : St) (w : World) (h : Rx w R pv s P st) (hs : s.size ≤ 131072) (hP : P.length ≤ 1048576) (hn : n ≤ 65535) (hA : A.length ≤ 900000) (hk : TIn w kv A) :
    Calls Try.prog 91 #[.pointer (some ⟨R, 0, none⟩), kv, .int .i64 (n : Int)] w fun x w' => Tys R pv s P (M.vals s.data.toList P n st).2 (A ++ (M.vals s.data.toList P n st).1) w x w' := by
  obtain ⟨i0, hi, hz0, hz1, hz2⟩ := info_parts Try.info76
  have H0 := hide h
  have hRl := h.rd.lt
  have HK := hide hk
  obtain ⟨ad, cap, ekv, _⟩ := hk
  subst ekv
  clear h
  go_enter Try.func91, Try.ntmps91
  go_wp2_with (at_builtin; refine wpList_copy _ rfl _ _ rfl _ A rfl rfl (unhide HK) (by omega) w.heap.size (Nat.le_refl _) ?_)
  intro v0 w0 ho0 hb0
  clear HK
  go_wp2_with fail
  go_loopw [7, 12] (fun v i wr => ∃ (k : Nat) (L : List T) (st1 : St), k ≤ n ∧ i = .int .i64 k ∧ Hid (M.Vs s.data.toList P n st L (n - k) st1) ∧ L.length = k ∧ Hid (wr.ownsRow w.heap.size 76 3 v (A ++ L).length (TC (A ++ L))) ∧ Hid (Rx wr R pv s P st1) ∧ Hid (w.grownBy wr (some R))) (fun _ i _ => n - (intOf i).toNat)
  case atStart => exact ⟨0, [], st, Nat.zero_le _, rfl, M.Vs.zero _ _ _ _, rfl, hide (by simpa using ho0), (unhide H0).below hb0, grown_of_below hb0 _⟩
  case round =>
    clear ho0 hb0
    obtain ⟨k, L, st1, hkn, rfl, HV, hLk, Ho, Hr, Hg⟩ := hrel
    by_cases hlt : k < n
    · have hki : (k : Int) < (n : Int) := by omega
      have HT := hide (vtype_any R pv s P st1 wr (unhide Hr) hs hP)
      have HV2 : Hid (M.Vs s.data.toList P n st L ((n - (k + 1)) + 1) st1) := by
        have : n - (k + 1) + 1 = n - k := by omega
        rw [this]; exact HV
      have HL := hide hLk
      have HSt := hide (fun he => (unhide HV2).step he)
      have HSp := hide (fun he => (unhide HV2).stop he)
      obtain ⟨t, st2, hVt⟩ : ∃ t st2, M.vty s.data.toList P st1 = (t, st2) := ⟨_, _, rfl⟩
      rw [hVt] at HT HSt HSp
      simp only at HT HSt HSp
      clear hVt HV HV2 hLk
      unfold T.val at HT
      go_wp2_with fail
      refine (unhide HT).mono ?_
      rintro e w1 ⟨rfl, hr1, hg1⟩
      have ho1 := own_grown (unhide Ho) hg1 hRl
      have hgw1 := grown_trans (unhide Hg) hg1
      obtain ⟨p, hp⟩ : ∃ p, p = w1.heap.size := ⟨_, rfl⟩
      obtain ⟨w2, hw2⟩ : ∃ w2, w2 = w1.alloc (.cells #[.int .u8 (t.tag : Int), .string ⟨t.name.toArray⟩, .int .i64 t.at_] 76) := ⟨_, rfl⟩
      have hp2 : Bk w2 p #[.int .u8 (t.tag : Int), .string ⟨t.name.toArray⟩, .int .i64 t.at_] 76 := by rw [hw2, hp]; exact Bk.new _ _ _
      have hgw2 : w.grownBy w2 (some R) := by rw [hw2]; exact grown_alloc hgw1 _
      have hr2 : Rx w2 R pv s P st2 := by rw [hw2]; exact hr1.below ((Below.refl _ _).alloc (Nat.le_refl _) _)
      have ho2 := ho1.alloc (.cells #[.int .u8 (t.tag : Int), .string ⟨t.name.toArray⟩, .int .i64 t.at_] 76)
      rw [← hw2] at ho2
      have HW2 := hide hw2
      have HPp := hide hp
      have HG := hide (Gd_any R pv s P st2 w2 hr2)
      clear HT hw2 hp ho1 hgw1 hr1 hg1 Ho Hr Hg
      go_upto_region 5 with fail
      rw [← unhide HW2, ← unhide HPp]
      clear HW2 HPp
      go_wp2_with fail
      refine (unhide HG).mono ?_
      rintro e w3 ⟨rfl, hw3⟩
      subst w3
      clear HG
      by_cases he2 : st2.e = 0
      · rw [decide_eq_true he2]
        have HSt2 := hide (unhide HSt he2)
        have He2 := hide he2
        have k0 : w2.cell? ⟨p, 0, none⟩ = some (.int .u8 (t.tag : Int)) := hp2.cell 0
        have k1 : w2.cell? ⟨p, 1, none⟩ = some (.string ⟨t.name.toArray⟩) := hp2.cell 1
        have k2 : w2.cell? ⟨p, 2, none⟩ = some (.int .i64 t.at_) := hp2.cell 2
        have hLn : L.length = k := unhide HL
        have hAL : (A ++ L).length ≤ 1000000 := by simp; omega
        clear HSt HSp he2
        obtain ⟨Z, hZ⟩ : ∃ Z, Z = A ++ L := ⟨_, rfl⟩
        rw [← hZ] at ho2 hAL
        have HZ := hide hZ
        clear hZ hLn
        go_wp2_with (at_builtin; refine wpList_append_own_at _ rfl _ _ 23 rfl w.heap.size 76 i0 (.agg #[.int .u8 0, .string ⟨#[]⟩, .int .i64 0]) 3 32 Try.underlying23 hi hz0 hz1 hz2 rfl (by decide) _ Z.length (TC Z) rfl (ho2.alloc _) ⟨w2.heap.size, 0, none⟩ 1 1 t.cells rfl rfl ?c1 ?c2 ?c3 ?c4 ?c5 ?_)
        case c1 =>
          intro j u hj
          rw [Addr.add_lit, Nat.zero_add, (Bk.new w2 _ 76).cell j]
          simpa [T.cells] using hj
        case c2 => intro u hu; simp [T.cells] at hu; rcases hu with rfl | rfl | rfl <;> rfl
        case c3 => unfold maxLen; omega
        case c4 => omega
        case c5 => have := hgw2.size; simp; omega
        intro v' w3 hown' hgrow _ _
        have hlt2 := (ho2.alloc (.cells #[.int .u8 (t.tag : Int), .string ⟨t.name.toArray⟩, .int .i64 t.at_] 76)).lt
        have hgw3 := grown_own (grown_alloc hgw2 (.cells #[.int .u8 (t.tag : Int), .string ⟨t.name.toArray⟩, .int .i64 t.at_] 76)) hgrow (fun b e => (hlt2 b e).1)
        have hrd3 : Rd w3 R pv s st2 := (hr2.below ((Below.refl _ _).alloc (Nat.le_refl _) _)).rd.kept hgrow (fun e => by have := (hlt2 R e.symm).1; omega)
        have Hr3 := hide ((unhide H0).step hrd3 hgw3 hr2.pos)
        have Hg3 := hide hgw3
        have Ho3 : Hid (w3.ownsRow w.heap.size 76 3 v' (A ++ (L ++ [t])).length (TC (A ++ (L ++ [t])))) := by
          show World.ownsRow _ _ _ _ _ _ _
          have e1 : A ++ (L ++ [t]) = Z ++ [t] := by rw [unhide HZ, List.append_assoc]
          rw [e1, TC_snoc, List.length_append, List.length_singleton]; exact hown'
        clear hown' hgrow hgw3 hrd3 hlt2 ho2 hgw2 hr2 HZ hAL
        go_wp2
        go_roundw
        case rel => exact ⟨k + 1, L ++ [t], st2, by omega, by go_num, HSt2, by simp; exact unhide HL, Ho3, Hr3, Hg3⟩
        case measure => simp [intOf]; omega
      · rw [decide_eq_false he2]
        have HSp2 := hide (unhide HSp he2)
        have He2 := hide he2
        clear HSt HSp he2
        go_wp2
        go_ret
        exact ⟨_, rfl, by rw [unhide HSp2]; exact hr2, hgw2, fun h => absurd (by rw [unhide HSp2] at h; exact h) (unhide He2), ⟨_, _, _, rfl⟩⟩
    · have hki : ¬ (k : Int) < (n : Int) := by omega
      have hkl : n - k = 0 := by omega
      rw [hkl] at HV
      have HD := hide ((unhide HV).done)
      have HS := hide (own_slice (unhide Ho))
      clear HV hkl hLk
      go_wp2
      go_ret
      exact ⟨_, rfl, by rw [unhide HD]; exact unhide Hr, unhide Hg, fun _ => by rw [unhide HD]; exact unhide Ho, unhide HS⟩
theorem TC_nil_app (L : List T) : [] ++ L = L := rfl
set_option maxHeartbeats 1000000 in
theorem delta_any (R : Nat) (pv : Value) (s : ByteArray) (P : List K) (x : Nat) (st : St) (w : World) (h : Rx w R pv s P st) (hs : s.size ≤ 131072) :
    Calls Try.prog 90 #[.pointer (some ⟨R, 0, none⟩), .int .i64 (x : Int)] w fun e w' => Tk R pv s P (M.dlt s.data.toList x st).2 w (.int .i64 ((M.dlt s.data.toList x st).1 : Nat)) e w' := by
  unfold M.dlt
  by_cases h64 : x < 64
  · rw [if_pos h64]
    have hi : (x : Int) < 64 := by omega
    have Hr := hide h
    clear h64 h
    go_enter Try.func90, Try.ntmps90
    go_wp2
    go_ret
    exact ⟨rfl, unhide Hr, grown_refl _ _⟩
  · rw [if_neg h64]
    have hi : ¬ (x : Int) < 64 := by omega
    by_cases h128 : x < 128
    · rw [if_pos h128]
      have hi2 : (x : Int) < 128 := by omega
      have hsub : ((x - 64 : Nat) : Int) = (x : Int) - 64 := by omega
      have Hs := hide hsub
      have Hr := hide h
      clear h64 h h128 hsub
      go_enter Try.func90, Try.ntmps90
      go_wp2
      go_ret
      exact ⟨by rw [unhide Hs]; rfl, unhide Hr, grown_refl _ _⟩
    · rw [if_neg h128]
      have hi2 : ¬ (x : Int) < 128 := by omega
      have hx := M.rd2 s.data.toList st
      have HU := hide (U16_any R pv s P st w h hs)
      obtain ⟨y, st1, hT⟩ : ∃ y st1, M.rd s.data.toList 2 st = (y, st1) := ⟨_, _, rfl⟩
      rw [hT] at hx HU ⊢
      simp only at hx HU ⊢
      clear hT h h64 h128
      go_enter Try.func90, Try.ntmps90
      go_wp2_with fail
      refine (unhide HU).mono ?_
      rintro e w1 ⟨rfl, hr1, hg1⟩
      clear HU
      go_wp2
      go_ret
      exact ⟨rfl, hr1, hg1⟩
theorem dlt_lt (s : List UInt8) (x : Nat) (st : St) : (M.dlt s x st).1 < 65536 := by
  unfold M.dlt; split
  · simp only; omega
  · split
    · simp only; omega
    · exact M.rd2 s st
set_option maxHeartbeats 1000000 in
theorem height_any (R : Nat) (pv : Value) (s : ByteArray) (P : List K) (x : Nat) (st : St) (w : World) (h : Rx w R pv s P st) (hs : s.size ≤ 131072) :
    Calls Try.prog 92 #[.pointer (some ⟨R, 0, none⟩), .int .i64 (x : Int)] w fun e w' => Tk R pv s P (M.hgt s.data.toList x st).2 w (.int .i64 ((M.hgt s.data.toList x st).1 : Nat)) e w' := by
  unfold M.hgt
  by_cases h255 : x = 255
  · rw [if_pos h255]
    have hi : (((x : Int) == 255) : Bool) = true := by rw [h255]; rfl
    have hx := M.rd2 s.data.toList st
    have HU := hide (U16_any R pv s P st w h hs)
    obtain ⟨y, st1, hT⟩ : ∃ y st1, M.rd s.data.toList 2 st = (y, st1) := ⟨_, _, rfl⟩
    rw [hT] at hx HU ⊢
    simp only at hx HU ⊢
    clear hT h h255
    go_enter Try.func92, Try.ntmps92
    go_wp2_with fail
    refine (unhide HU).mono ?_
    rintro e w1 ⟨rfl, hr1, hg1⟩
    clear HU
    go_wp2
    go_ret
    exact ⟨rfl, hr1, hg1⟩
  · rw [if_neg h255]
    have hi : (((x : Int) == 255) : Bool) = false := by rw [beq_eq_false_iff_ne]; omega
    by_cases h64 : 64 ≤ x
    · have hj : (64 : Int) ≤ (x : Int) := by omega
      by_cases h247 : x ≤ 247
      · rw [if_pos ⟨h64, h247⟩]
        have hk : (x : Int) ≤ 247 := by omega
        have Hr := hide h
        clear h64 h h247 h255
        go_enter Try.func92, Try.ntmps92
        go_wp2
        go_ret
        exact ⟨rfl, unhide Hr, grown_refl _ _⟩
      · rw [if_neg (fun g => h247 g.2)]
        have hk : ¬ (x : Int) ≤ 247 := by omega
        have Hr := hide h
        clear h64 h h247 h255
        go_enter Try.func92, Try.ntmps92
        go_wp2
        go_ret
        exact ⟨rfl, unhide Hr, grown_refl _ _⟩
    · rw [if_neg (fun g => h64 g.1)]
      have hj : ¬ (64 : Int) ≤ (x : Int) := by omega
      have Hr := hide h
      clear h64 h h255
      go_enter Try.func92, Try.ntmps92
      go_wp2
      go_ret
      exact ⟨rfl, unhide Hr, grown_refl _ _⟩
theorem hgt_lt (s : List UInt8) (x : Nat) (st : St) : (M.hgt s x st).1 < 65536 := by
  unfold M.hgt; split
  · exact M.rd2 s st
  · split
    · simp only; omega
    · simp only; omega
end Go.Proofs.Ytbgpkkbejbidlac
