/-
  The reference: what is wrong, numbers.
  The reference: an attribute.
-/
import Derived.Test.YtgihfcjddkpkaaaMgYh
import Derived.Test.YtgihfcjddkpkaaaMgTa
namespace Go.Proofs.Ytgihfcjddkpkaaa.Cl
set_option linter.unusedVariables false
open Go.RowKit Go.Maps
/-- What the reference writes with: a class, and what is wrong. -/
def Rb (w : World) (R : Nat) (c : Csi) (vp vi vf vm : Value) (e : Nat) : Prop :=
  Bk w R #[.int .u16 (c.minor : Int), .int .u16 (c.major : Int), .int .u16 (c.flags : Int), .int .u16 (c.this : Int), .int .u16 (c.super : Int), vp, vi, vf, vm, .int .i64 (e : Int)] 118
theorem Rb.below {w w' : World} {R : Nat} {c : Csi} {vp vi vf vm : Value} {e : Nat} (h : Rb w R c vp vi vf vm e) (hb : Below w.heap.size w w') : Rb w' R c vp vi vf vm e := Bk.below h hb
theorem Rb.lt {w : World} {R : Nat} {c : Csi} {vp vi vf vm : Value} {e : Nat} (h : Rb w R c vp vi vf vm e) : R < w.heap.size := Bk.lt h
theorem Rb.alloc {w : World} {R : Nat} {c : Csi} {vp vi vf vm : Value} {e : Nat} (h : Rb w R c vp vi vf vm e) (o : Obj) : Rb (w.alloc o) R c vp vi vf vm e := Bk.alloc h o
set_option maxHeartbeats 1000000 in
theorem rfail_any (R : Nat) (c : Csi) (vp vi vf vm : Value) (e k : Nat) (w : World) (h : Rb w R c vp vi vf vm e) :
    Calls Try.prog 52 #[.pointer (some ⟨R, 0, none⟩), .int .i64 (k : Int)] w fun x w' => x = .returned (.tuple #[]) ∧ Rb w' R c vp vi vf vm (M.fl e k) ∧ w.grownBy w' (some R) := by
  have k9 : w.cell? ⟨R, 9, none⟩ = some (.int .i64 (e : Int)) := Bk.cell h 9
  have kf := Bk.frozen h 9
  by_cases he : e = 0
  · have hd : (((e : Int) == 0) : Bool) = true := by rw [he]; rfl
    have HW : Hid (Rb (w.setCell ⟨R, 9, none⟩ (.int .i64 (k : Int))) R c vp vi vf vm (M.fl e k)) := by
      have hq : M.fl e k = k := by unfold M.fl; rw [if_pos he]
      rw [hq]
      exact Bk.set h 9 (.int .i64 (k : Int))
    have HG := hide (grown_set w R 9 (.int .i64 (k : Int)))
    clear he h
    go_enter Try.func52, Try.ntmps52
    go_wp2
    go_end0
    exact ⟨rfl, unhide HW, unhide HG⟩
  · have hd : (((e : Int) == 0) : Bool) = false := by rw [beq_eq_false_iff_ne]; omega
    have hq : M.fl e k = e := by unfold M.fl; rw [if_neg he]
    rw [hq]
    have HW := hide h
    clear he h hq
    go_enter Try.func52, Try.ntmps52
    go_wp2
    go_end0
    exact ⟨rfl, unhide HW, grown_refl _ _⟩
set_option maxRecDepth 100000 in
set_option maxHeartbeats 1000000 in
theorem rnum2_any (R : Nat) (c : Csi) (vp vi vf vm : Value) (e : Nat) (x : Int) (w : World) (h : Rb w R c vp vi vf vm e) (hx : Okx x) :
    Calls Try.prog 54 #[.pointer (some ⟨R, 0, none⟩), .int .i64 x, .int .i64 2] w fun r w' => r = .returned (.string ⟨(M.rnum x 2 e).2.toArray⟩) ∧ Rb w' R c vp vi vf vm (M.rnum x 2 e).1 ∧ w.grownBy w' (some R) := by
  obtain ⟨y, hy⟩ : ∃ y : Nat, y = (x % 2 ^ 64).toNat := ⟨_, rfl⟩
  have hy2 : x % 18446744073709551616 = (y : Int) := by rw [hy]; omega
  have hyi : IntKind.u64.wrap x = (y : Int) := by rw [IntKind.wrap_u64]; exact hy2
  have hylt : y < 2 ^ 64 := by rw [hy]; omega
  have HBg := hide (fun w => Big_any y 2 w (by omega) hylt)
  have hr2 : (M.rnum x 2 e).2 = M.big y 2 := by unfold M.rnum; rw [hy]
  have HR2 := hide hr2
  obtain ⟨x1, x2⟩ := id hx
  by_cases hf : M.fits x 2
  · have hr1 : (M.rnum x 2 e).1 = e := by unfold M.rnum; rw [if_pos hf]
    have HR1 := hide hr1
    have d0 : ¬ x < 0 := by have := hf.1; omega
    have d1 : ¬ (65536 : Int) ≤ x := by have h2 : x < 65536 := hf.2; omega
    clear hr1 hr2 hf hylt hy hx
    go_enter Try.func54, Try.ntmps54
    go_wp2_with fail
    refine (unhide HBg _).mono ?_
    rintro r w1 ⟨rfl, hb1⟩
    have H1 := hide (And.intro (h.below hb1) (grown_of_below hb1 (some R)))
    clear hb1
    go_wp2
    go_ret
    exact ⟨by rw [unhide HR2]; rfl, by rw [unhide HR1]; exact (unhide H1).1, (unhide H1).2⟩
  · have hr1 : (M.rnum x 2 e).1 = M.fl e 12 := by unfold M.rnum; rw [if_neg hf]
    have HR1 := hide hr1
    have HFl := hide (rfail_any R c vp vi vf vm e 12 w h)
    clear hr1 hr2 hylt hy hx
    by_cases d0 : x < 0
    · clear hf
      go_enter Try.func54, Try.ntmps54
      go_wp2_with fail
      refine (unhide HFl).mono ?_
      rintro r w0 ⟨rfl, h0, g0⟩
      go_wp2_with fail
      refine (unhide HBg _).mono ?_
      rintro r w1 ⟨rfl, hb1⟩
      have H1 := hide (And.intro (h0.below hb1) (grown_trans g0 (grown_of_below hb1 (some R))))
      clear hb1 h0 g0
      go_wp2
      go_ret
      exact ⟨by rw [unhide HR2]; rfl, by rw [unhide HR1]; exact (unhide H1).1, (unhide H1).2⟩
    · have d1 : (65536 : Int) ≤ x := by
        rcases Int.lt_or_le x 65536 with h1 | h1
        · exact absurd ⟨by omega, h1⟩ hf
        · exact h1
      clear hf
      go_enter Try.func54, Try.ntmps54
      go_wp2_with fail
      refine (unhide HFl).mono ?_
      rintro r w0 ⟨rfl, h0, g0⟩
      go_wp2_with fail
      refine (unhide HBg _).mono ?_
      rintro r w1 ⟨rfl, hb1⟩
      have H1 := hide (And.intro (h0.below hb1) (grown_trans g0 (grown_of_below hb1 (some R))))
      clear hb1 h0 g0
      go_wp2
      go_ret
      exact ⟨by rw [unhide HR2]; rfl, by rw [unhide HR1]; exact (unhide H1).1, (unhide H1).2⟩
set_option maxRecDepth 100000 in
set_option maxHeartbeats 1000000 in
theorem rnum4_any (R : Nat) (c : Csi) (vp vi vf vm : Value) (e : Nat) (x : Int) (w : World) (h : Rb w R c vp vi vf vm e) (hx : Okx x) :
    Calls Try.prog 54 #[.pointer (some ⟨R, 0, none⟩), .int .i64 x, .int .i64 4] w fun r w' => r = .returned (.string ⟨(M.rnum x 4 e).2.toArray⟩) ∧ Rb w' R c vp vi vf vm (M.rnum x 4 e).1 ∧ w.grownBy w' (some R) := by
  obtain ⟨y, hy⟩ : ∃ y : Nat, y = (x % 2 ^ 64).toNat := ⟨_, rfl⟩
  have hy2 : x % 18446744073709551616 = (y : Int) := by rw [hy]; omega
  have hyi : IntKind.u64.wrap x = (y : Int) := by rw [IntKind.wrap_u64]; exact hy2
  have hylt : y < 2 ^ 64 := by rw [hy]; omega
  have HBg := hide (fun w => Big_any y 4 w (by omega) hylt)
  have hr2 : (M.rnum x 4 e).2 = M.big y 4 := by unfold M.rnum; rw [hy]
  have HR2 := hide hr2
  obtain ⟨x1, x2⟩ := id hx
  by_cases hf : M.fits x 4
  · have hr1 : (M.rnum x 4 e).1 = e := by unfold M.rnum; rw [if_pos hf]
    have HR1 := hide hr1
    have d0 : ¬ x < 0 := by have := hf.1; omega
    have d1 : ¬ (4294967296 : Int) ≤ x := by have h2 : x < 4294967296 := hf.2; omega
    clear hr1 hr2 hf hylt hy hx
    go_enter Try.func54, Try.ntmps54
    go_wp2_with fail
    refine (unhide HBg _).mono ?_
    rintro r w1 ⟨rfl, hb1⟩
    have H1 := hide (And.intro (h.below hb1) (grown_of_below hb1 (some R)))
    clear hb1
    go_wp2
    go_ret
    exact ⟨by rw [unhide HR2]; rfl, by rw [unhide HR1]; exact (unhide H1).1, (unhide H1).2⟩
  · have hr1 : (M.rnum x 4 e).1 = M.fl e 12 := by unfold M.rnum; rw [if_neg hf]
    have HR1 := hide hr1
    have HFl := hide (rfail_any R c vp vi vf vm e 12 w h)
    clear hr1 hr2 hylt hy hx
    by_cases d0 : x < 0
    · clear hf
      go_enter Try.func54, Try.ntmps54
      go_wp2_with fail
      refine (unhide HFl).mono ?_
      rintro r w0 ⟨rfl, h0, g0⟩
      go_wp2_with fail
      refine (unhide HBg _).mono ?_
      rintro r w1 ⟨rfl, hb1⟩
      have H1 := hide (And.intro (h0.below hb1) (grown_trans g0 (grown_of_below hb1 (some R))))
      clear hb1 h0 g0
      go_wp2
      go_ret
      exact ⟨by rw [unhide HR2]; rfl, by rw [unhide HR1]; exact (unhide H1).1, (unhide H1).2⟩
    · have d1 : (4294967296 : Int) ≤ x := by
        rcases Int.lt_or_le x 4294967296 with h1 | h1
        · exact absurd ⟨by omega, h1⟩ hf
        · exact h1
      clear hf
      go_enter Try.func54, Try.ntmps54
      go_wp2_with fail
      refine (unhide HFl).mono ?_
      rintro r w0 ⟨rfl, h0, g0⟩
      go_wp2_with fail
      refine (unhide HBg _).mono ?_
      rintro r w1 ⟨rfl, hb1⟩
      have H1 := hide (And.intro (h0.below hb1) (grown_trans g0 (grown_of_below hb1 (some R))))
      clear hb1 h0 g0
      go_wp2
      go_ret
      exact ⟨by rw [unhide HR2]; rfl, by rw [unhide HR1]; exact (unhide H1).1, (unhide H1).2⟩
end Go.Proofs.Ytgihfcjddkpkaaa.Cl
namespace Go.Proofs.Ytgihfcjddkpkaaa.Cl
set_option linter.unusedVariables false
open Go.RowKit Go.Maps
/-- A pool whose first constant is none. -/
def qp (P : List K) : List K := P.set 0 K.zero
theorem qp_len (P : List K) : (qp P).length = P.length := by unfold qp; simp
theorem qp_at (P : List K) {k : Nat} (hk : 0 < k) : (qp P).getD k K.zero = P.getD k K.zero := by
  unfold qp
  simp only [List.getD]
  rw [List.getElem?_set_ne (by omega)]
theorem qp_zero (P : List K) : (qp P).getD 0 K.zero = K.zero := by
  unfold qp
  cases P with
  | nil => rfl
  | cons c P => rfl
namespace M
theorem idxT_one (P : List K) (name : List UInt8) : idxT (qp P) name 1 = none := by
  rw [idxT, idxT]
  simp only
  rw [qp_zero, if_neg (by intro h; have := h.1; simp [K.zero] at this)]
theorem idxT_next {P : List K} {name : List UInt8} {k : Nat} (h : idxT P name k = none) : idxT P name (k + 1) = if (P.getD k K.zero).tag = 1 ∧ (P.getD k K.zero).text = name then some k else none := by
  rw [idxT, h]
theorem idxT_mono {P : List K} {name : List UInt8} {m k : Nat} (h : idxT P name m = some k) : ∀ j, idxT P name (m + j) = some k
  | 0 => h
  | j + 1 => by
    have := idxT_mono h j
    rw [show m + (j + 1) = (m + j) + 1 by omega, idxT, this]
end M
theorem Rb.kin {w w0 : World} {R : Nat} {vp : Value} {P : List K} (h : KIn w0 vp P) (hb : Below w0.heap.size w0 w) : KIn w vp P := h.below hb
set_option maxRecDepth 100000 in
set_option maxHeartbeats 2000000 in
theorem ratt_any (R : Nat) (c : Csi) (vp vi vf vm : Value) (e : Nat) (name body : List UInt8) (w : World) (h : Rb w R c vp vi vf vm e) (hk : KIn w vp c.pool) (hP : c.pool.length ≤ 1048576) (hb : body.length ≤ 1000000) (hnm : name.length ≤ 1000) :
    Calls Try.prog 55 #[.pointer (some ⟨R, 0, none⟩), .string ⟨name.toArray⟩, .string ⟨body.toArray⟩] w fun r w' => r = .returned (.string ⟨(M.ratt (qp c.pool) name body e).2.toArray⟩) ∧ Rb w' R c vp vi vf vm (M.ratt (qp c.pool) name body e).1 ∧ w.grownBy w' (some R) := by
  obtain ⟨pa, pc, rfl, _⟩ := hk.ex
  have k5 : w.cell? ⟨R, 5, none⟩ = some (.slice pa c.pool.length pc) := Bk.cell h 5
  obtain ⟨rr, hrr⟩ : ∃ r, r = M.ratt (qp c.pool) name body e := ⟨_, rfl⟩
  rw [← hrr]
  have Hrr := hide hrr
  have Hk := hide hk
  have Hb := hide hb
  clear hrr hk
  go_enter Try.func55, Try.ntmps55
  go_wp2_with fail
  go_loopw [7] (fun y wr => ∃ k : Nat, 1 ≤ k ∧ (k = 1 ∨ k ≤ c.pool.length) ∧ y = .int .i64 (k : Int) ∧ Hid (M.idxT (qp c.pool) name k = none) ∧ wr = w) (fun y _ => c.pool.length + 1 - (intOf y).toNat)
  case atStart => exact ⟨1, by omega, .inl rfl, rfl, M.idxT_one _ _, rfl⟩
  case round =>
    obtain ⟨k, hk1, hk2, rfl, Hn, rfl⟩ := hrel
    by_cases hlt : k < c.pool.length
    · have ki : (k : Int) < (c.pool.length : Int) := by omega
      obtain ⟨b, o, cap2, ev⟩ := (unhide Hk).form (by intro e; rw [e] at hlt; simp at hlt)
      cases ev
      obtain ⟨c0, c1, c2, c3, c4⟩ := (unhide Hk).at hlt
      have hst := M.idxT_next (unhide Hn)
      rw [qp_at _ (by omega)] at hst
      obtain ⟨x, hx⟩ : ∃ x, x = c.pool.getD k K.zero := ⟨_, rfl⟩
      rw [← hx] at c0 c1 c2 c3 c4 hst
      have Hst := hide hst
      clear hx hst
      by_cases ht : x.tag = 1
      · have d0 : (((x.tag : Int) == 1) : Bool) = true := by rw [ht]; rfl
        by_cases hnx : x.text = name
        · rw [hnx] at c1
          have hfd : M.idxT (qp c.pool) name (qp c.pool).length = some k := by
            have h1 := unhide Hst
            rw [if_pos ⟨ht, hnx⟩] at h1
            have := M.idxT_mono h1 (c.pool.length - (k + 1))
            rw [show k + 1 + (c.pool.length - (k + 1)) = c.pool.length by omega] at this
            rw [qp_len]; exact this
          have hr : rr = M.seqR (M.seqR (M.rnum (k : Int) 2) (M.rnum (body.length : Int) 4)) (M.rtext body) e := by
            rw [unhide Hrr]; unfold M.ratt; rw [hfd]
          have HN1 := hide (rnum2_any R c (.slice (some ⟨b, o, none⟩) c.pool.length pc) vi vf vm e (k : Int) wr h (Okx.nat (by omega)))
          obtain ⟨e1, he1⟩ : ∃ a, a = (M.rnum (k : Int) 2 e).1 := ⟨_, rfl⟩
          obtain ⟨s1, hs1⟩ : ∃ a : ByteArray, a = ⟨(M.rnum (k : Int) 2 e).2.toArray⟩ := ⟨_, rfl⟩
          rw [← he1, ← hs1] at HN1
          have HN2 := hide (fun W (hW : Rb W R c (.slice (some ⟨b, o, none⟩) c.pool.length pc) vi vf vm e1) => rnum4_any R c (.slice (some ⟨b, o, none⟩) c.pool.length pc) vi vf vm e1 (body.length : Int) W hW (Okx.nat (by omega)))
          obtain ⟨e2, he2⟩ : ∃ a, a = (M.rnum (body.length : Int) 4 e1).1 := ⟨_, rfl⟩
          obtain ⟨s2, hs2⟩ : ∃ a : ByteArray, a = ⟨(M.rnum (body.length : Int) 4 e1).2.toArray⟩ := ⟨_, rfl⟩
          rw [← he2, ← hs2] at HN2
          have hr1 : rr.1 = e2 := by rw [hr]; simp only [M.seqR, M.rtext, ← he1, ← he2]
          have hr2 : (⟨rr.2.toArray⟩ : ByteArray) = s1 ++ s2 ++ ⟨body.toArray⟩ := by
            rw [hr, hs1, hs2, cat_text, cat_text]; simp only [M.seqR, M.rtext, ← he1]
          have z1 : (s1.size : Int) ≤ 100 := by rw [hs1]; simp [ByteArray.size, M.rnum, Ytgihfcjddkpkaaa.M.big_len]
          have z2 : (s2.size : Int) ≤ 100 := by rw [hs2]; simp [ByteArray.size, M.rnum, Ytgihfcjddkpkaaa.M.big_len]
          have Hr1 := hide hr1
          have Hr2 := hide hr2
          clear hr hr1 hr2 he1 he2 hs1 hs2 Hst Hn hfd ht hnx Hrr
          go_wp2_with fail
          refine (unhide HN1).mono ?_
          rintro r w1 ⟨rfl, h1, g1⟩
          clear HN1
          go_wp2_with fail
          refine (unhide HN2 _ h1).mono ?_
          rintro r w2 ⟨rfl, h2, g2⟩
          have H2 := hide (And.intro h2 (grown_trans g1 g2))
          clear HN2 h1 g1 h2 g2 c0 c1 c2 c3 c4
          go_wp2
          go_ret
          exact ⟨by rw [unhide Hr2]; rfl, by rw [unhide Hr1]; exact (unhide H2).1, (unhide H2).2⟩
        · have hq : (x.text == name) = false := by rw [beq_eq_false_iff_ne]; exact hnx
          have hn2 : M.idxT (qp c.pool) name (k + 1) = none := by rw [unhide Hst, if_neg (fun g => hnx g.2)]
          have Hn2 := hide hn2
          clear hn2 Hst Hn ht hnx
          go_wp2
          go_roundw
          case rel => exact ⟨k + 1, by omega, .inr (by omega), by go_num, Hn2, trivial⟩
          case measure => simp [intOf]; omega
      · have d0 : (((x.tag : Int) == 1) : Bool) = false := by rw [beq_eq_false_iff_ne]; omega
        have hn2 : M.idxT (qp c.pool) name (k + 1) = none := by rw [unhide Hst, if_neg (fun g => ht g.1)]
        have Hn2 := hide hn2
        clear hn2 Hst Hn ht
        go_wp2
        go_roundw
        case rel => exact ⟨k + 1, by omega, .inr (by omega), by go_num, Hn2, trivial⟩
        case measure => simp [intOf]; omega
    · have ki : ¬ (k : Int) < (c.pool.length : Int) := by omega
      have hfd : M.idxT (qp c.pool) name (qp c.pool).length = none := by
        rw [qp_len]
        rcases hk2 with rfl | hk2
        · cases hq : M.idxT (qp c.pool) name c.pool.length with
          | none => rfl
          | some j =>
            have := M.idxT_lt hq
            have h1 : c.pool.length = 1 := by omega
            rw [h1, unhide Hn] at hq
            cases hq
        · have : k = c.pool.length := by omega
          rw [← this]; exact unhide Hn
      have hr : rr = (M.fl e 8, []) := by rw [unhide Hrr, M.ratt_none hfd]
      have Hr := hide hr
      have HF := hide (rfail_any R c _ vi vf vm e 8 wr h)
      clear hr hfd Hn Hrr
      go_wp2_with fail
      refine (unhide HF).mono ?_
      rintro r w1 ⟨rfl, h1, g1⟩
      have H1 := hide (And.intro h1 g1)
      clear h1 g1 HF
      go_wp2
      go_ret
      exact ⟨by rw [unhide Hr]; rfl, by rw [unhide Hr]; exact (unhide H1).1, (unhide H1).2⟩
end Go.Proofs.Ytgihfcjddkpkaaa.Cl
