/-
  The reference: the head of an attribute, and what is passed over.
-/
import Derived.Test.YtbgpkkbejbidlacMgA
import Derived.Test.YtbgpkkbejbidlacMgB
import Derived.Lib.QuietBelow
import Derived.Deep.RegionHeld3
namespace Go.Proofs.Ytbgpkkbejbidlac
set_option linter.unusedVariables false
open Go.RowKit
theorem RStr_any (v : Value) (P : List K) (i : Int) (w : World) (h : KIn w v P) (hP : P.length ≤ 1048576) :
    Calls Try.prog 81 #[v, .int .i64 i] w fun e w' => e = .returned (.tuple #[.string ⟨(M.text P i).toArray⟩, .bool (decide (M.tag P i = 1))]) ∧ w' = w := by
  have HI := hide (Is_any v P i 1 w h hP (by decide))
  unfold M.text
  by_cases ht : M.tag P i = 1
  · rw [if_pos ht]
    rw [decide_eq_true ht] at HI ⊢
    obtain ⟨k, rfl, hk0, hk⟩ := tag_in ht (by decide)
    obtain ⟨b, o, cap, rfl⟩ := h.form (by intro e; subst e; simp at hk)
    obtain ⟨c0, c1, c2, c3, c4⟩ := h.at hk
    rw [kAt_in hk0 hk]
    generalize P.getD k K.zero = c at *
    clear h ht c0 c2 c3 c4
    go_enter Try.func81, Try.ntmps81
    go_wp2_with fail
    refine (unhide HI).mono ?_
    rintro e w1 ⟨rfl, hw⟩
    subst w1
    go_wp2
    go_ret2
    exact ⟨rfl, rfl⟩
  · rw [if_neg ht]
    rw [decide_eq_false ht] at HI ⊢
    obtain ⟨ad, cap, rfl, _⟩ := h.ex
    clear ht
    go_enter Try.func81, Try.ntmps81
    go_wp2_with fail
    refine (unhide HI).mono ?_
    rintro e w1 ⟨rfl, hw⟩
    subst w1
    go_wp2
    go_ret2
    exact ⟨rfl, rfl⟩
set_option maxHeartbeats 1000000 in
theorem ctake_bad (C : Nat) (s : ByteArray) (st : St) (n : Int) (w : World) (h : Cut w C s st) (he : st.e ≠ 0) :
    Calls Try.prog 36 #[.pointer (some ⟨C, 0, none⟩), .int .i64 n] w fun x w' => Tc C s st w (.string ⟨#[]⟩) x w' := by
  obtain ⟨h0, h1, h2, h3⟩ := h.cells
  have hd : (((st.e : Int) == 0) : Bool) = false := by rw [beq_eq_false_iff_ne]; omega
  have hd2 : (((st.e : Int) != 0) : Bool) = true := by simpa using he
  have HR := hide h
  clear he h
  go_enter Try.func36, Try.ntmps36
  go_wp2_with fail
  go_quiet (fail)
  go_wp2
  go_ret
  exact ⟨rfl, (unhide HR).drewN _, grown_drewN w (some C) _⟩
section
variable {w w' : World} {Q C : Nat} {pv : Value} {s : ByteArray} {P : List K} {st st' : St}
theorem Rg.ne (h : Rg w Q C pv s st) : some Q ≠ some C := fun e => by
  cases e
  have h1 := h.q
  have h2 := h.c
  unfold Bk at h1
  unfold Cut at h2
  rw [h1] at h2
  simp at h2
theorem Rg.step (h : Rg w Q C pv s st) (hg : w.grownBy w' (some C)) (hc : Cut w' C s st') (hp : st'.pos ≤ s.data.toList.length) : Rg w' Q C pv s st' := ⟨h.q.kept hg h.ne, hc, hp⟩
theorem Rg.kept (h : Rg w Q C pv s st) (hb : Below w.heap.size w w') : Rg w' Q C pv s st := ⟨h.q.below hb, h.c.below hb, h.pos⟩
theorem Rg.drewN (h : Rg w Q C pv s st) (n : Nat) : Rg (w.drewN n) Q C pv s st := ⟨h.q, h.c, h.pos⟩
theorem Rg.k0 (h : Rg w Q C pv s st) : w.cell? ⟨Q, 0, none⟩ = some (.pointer (some ⟨C, 0, none⟩)) := h.q.cell 0
theorem Rg.k1 (h : Rg w Q C pv s st) : w.cell? ⟨Q, 1, none⟩ = some pv := h.q.cell 1
end
/-- The pool lies elsewhere than the cut. -/
def Ofc (C : Nat) (pv : Value) (P : List K) : Prop := P ≠ [] → ∀ b o n c, pv = .slice (some ⟨b, o, none⟩) n c → b ≠ C
theorem Ofc.kept {w w' : World} {C : Nat} {pv : Value} {P : List K} (h : Ofc C pv P) (hk : KIn w pv P) (hg : w.grownBy w' (some C)) : KIn w' pv P := hk.kept hg fun hne b o n c e => by have := h hne b o n c e; simpa using this
/-- What a call of attribute gives. -/
def AtV (s : List UInt8) (P : List K) (st : St) : Value :=
  .tuple #[.string ⟨(if (M.hd s P st).2.e = 0 then M.text P ((M.rd s 2 st).1 : Int) else []).toArray⟩, .int .i64 (st.pos : Int), .int .i64 (if (M.hd s P st).2.e = 0 then ((M.hd s P st).2.pos : Int) + ((M.hd s P st).1 : Int) else -1)]
set_option maxRecDepth 100000 in
set_option maxHeartbeats 1000000 in
theorem attribute_any (Q C : Nat) (pv : Value) (s : ByteArray) (P : List K) (st : St) (w : World) (h : Rg w Q C pv s st) (hs : s.size ≤ 131072) (hP : P.length ≤ 1048576) (hk : KIn w pv P) (hC : Ofc C pv P) :
    Calls Try.prog 43 #[.pointer (some ⟨Q, 0, none⟩)] w fun x w' => x = .returned (AtV s.data.toList P st) ∧ Rg w' Q C pv s (M.hd s.data.toList P st).2 ∧ w.grownBy w' (some C) := by
  have H := hide h
  have Hk := hide hk
  have k0 := h.k0
  have k1 := h.k1
  have j1 : w.cell? ⟨C, 1, none⟩ = some (.int .i64 (st.pos : Int)) := h.c.cell 1
  have hl : s.data.toList.length = s.size := by simp
  have hsz : st.pos ≤ 131072 := by have := h.pos; omega
  unfold AtV M.hd
  have HN := hide (cnum_any C s st 2 w h.c hs (by omega) h.pos)
  have hp1 := M.rd_pos (n := 2) h.pos
  have c1 := M.rd2 s.data.toList st
  obtain ⟨k, st1, e1⟩ : ∃ a b, M.rd s.data.toList 2 st = (a, b) := ⟨_, _, rfl⟩
  rw [e1] at HN hp1 c1 ⊢
  simp only at HN hp1 c1 ⊢
  have HS := hide (fun W (hW : KIn W pv P) => RStr_any pv P (k : Int) W hW hP)
  obtain ⟨nm, hnm⟩ : ∃ nm, nm = M.text P (k : Int) := ⟨_, rfl⟩
  rw [← hnm] at HS ⊢
  obtain ⟨st2, e2⟩ : ∃ st2, st2 = (if M.tag P (k : Int) = 1 then st1 else M.fail st1 7 st.pos) := ⟨_, rfl⟩
  rw [← e2]
  have hp2 : st2.pos ≤ s.data.toList.length := by
    rw [e2]; split
    · exact hp1
    · rw [M.fail_pos]; exact hp1
  have HN4 := hide (fun W (hW : Cut W C s st2) => cnum_any C s st2 4 W hW hs (by omega) hp2)
  have hp3 := M.rd_pos (n := 4) hp2
  have c3 : (M.rd s.data.toList 4 st2).1 < 4294967296 := by have := M.num_le (M.take_len s.data.toList 4 st2); simpa [M.rd] using this
  obtain ⟨n, st3, e3⟩ : ∃ a b, M.rd s.data.toList 4 st2 = (a, b) := ⟨_, _, rfl⟩
  rw [e3] at HN4 hp3 c3 ⊢
  simp only at HN4 hp3 c3 ⊢
  have hp3' : st3.pos ≤ 131072 := by omega
  have hwr : IntKind.i64.wrap ((st3.pos : Int) + (n : Int)) = (st3.pos : Int) + (n : Int) := by rw [IntKind.wrap_i64]; omega
  have HF := hide (fun W (hW : Cut W C s st1) => cfail_any C s st1 7 st.pos W hW)
  obtain ⟨b1, hb1⟩ : ∃ b, b = decide (M.tag P (k : Int) = 1) := ⟨_, rfl⟩
  rw [← hb1] at HS
  have E2 := hide e2
  obtain ⟨nv, hnv⟩ : ∃ nv, nv = (if st3.e = 0 then nm else []) := ⟨_, rfl⟩
  obtain ⟨ev, hev⟩ : ∃ ev : Int, ev = (if st3.e = 0 then (st3.pos : Int) + (n : Int) else -1) := ⟨_, rfl⟩
  rw [← hnv, ← hev]
  have Hnv := hide hnv
  have Hev := hide hev
  clear h hk hl e1 e3 hnm e2 hnv hev
  obtain ⟨pad, pcap, epv, _⟩ := (unhide Hk).ex
  subst epv
  go_enter Try.func43, Try.ntmps43
  go_wp2_with fail
  refine (unhide HN).mono ?_
  rintro e w1 ⟨rfl, hc1, hg1⟩
  have hR1 := (unhide H).step hg1 hc1 hp1
  have hk1 := hC.kept (unhide Hk) hg1
  have HS1 := hide (unhide HS w1 hk1)
  have r0 := hR1.k0
  have r1 := hR1.k1
  have r2 : w1.cell? ⟨C, 2, none⟩ = some (.int .i64 (st1.e : Int)) := hc1.cell 2
  clear HN HS k0 k1 j1
  go_wp2_with fail
  refine (unhide HS1).mono ?_
  rintro e w2 ⟨rfl, hw⟩
  subst w2
  clear HS1
  by_cases he : st1.e = 0
  · have hd : (((st1.e : Int) == 0) : Bool) = true := by rw [he]; rfl
    cases b1 with
    | true =>
      have q : st2 = st1 := by rw [unhide E2, if_pos (of_decide_eq_true hb1.symm)]
      subst q
      have HN5 := hide (unhide HN4 w1 hc1)
      clear hb1 E2 he HN4
      go_wp2_with fail
      refine (unhide HN5).mono ?_
      rintro e w3 ⟨rfl, hc3, hg3⟩
      have hR3 := hR1.step hg3 hc3 hp3
      have t0 := hR3.k0
      have t1 : w3.cell? ⟨C, 1, none⟩ = some (.int .i64 (st3.pos : Int)) := hc3.cell 1
      have t2 : w3.cell? ⟨C, 2, none⟩ = some (.int .i64 (st3.e : Int)) := hc3.cell 2
      clear HN5 r0 r1 r2
      by_cases h3 : st3.e = 0
      · have d3 : (((st3.e : Int) != 0) : Bool) = false := by rw [h3]; rfl
        have hn3 := unhide Hnv
        have he3 := unhide Hev
        rw [if_pos h3] at hn3 he3
        subst hn3 he3
        clear h3
        go_wp2_with fail
        go_quiet (fail)
        go_wp2
        go_ret3
        exact ⟨rfl, hR3.drewN _, grown_trans (grown_trans hg1 hg3) (grown_drewN _ _ _)⟩
      · have d3 : (((st3.e : Int) != 0) : Bool) = true := by simpa using h3
        have hn3 := unhide Hnv
        have he3 := unhide Hev
        rw [if_neg h3] at hn3 he3
        subst hn3 he3
        clear h3
        go_wp2
        go_ret3
        exact ⟨rfl, hR3, grown_trans hg1 hg3⟩
    | false =>
      have q : st2 = M.fail st1 7 st.pos := by rw [unhide E2, if_neg (of_decide_eq_false hb1.symm)]
      have HF1 := hide (unhide HF w1 hc1)
      rw [← q] at HF1
      clear hb1 E2 he q HF
      go_wp2_with fail
      refine (unhide HF1).mono ?_
      rintro e w2 ⟨rfl, hc2, hg2⟩
      have hR2 := hR1.step hg2 hc2 hp2
      have u0 := hR2.k0
      have HN5 := hide (unhide HN4 w2 hc2)
      clear HN4 HF1 r0 r1 r2
      go_wp2_with fail
      refine (unhide HN5).mono ?_
      rintro e w3 ⟨rfl, hc3, hg3⟩
      have hR3 := hR2.step hg3 hc3 hp3
      have t0 := hR3.k0
      have t1 : w3.cell? ⟨C, 1, none⟩ = some (.int .i64 (st3.pos : Int)) := hc3.cell 1
      have t2 : w3.cell? ⟨C, 2, none⟩ = some (.int .i64 (st3.e : Int)) := hc3.cell 2
      clear HN5 u0
      by_cases h3 : st3.e = 0
      · have d3 : (((st3.e : Int) != 0) : Bool) = false := by rw [h3]; rfl
        have hn3 := unhide Hnv
        have he3 := unhide Hev
        rw [if_pos h3] at hn3 he3
        subst hn3 he3
        clear h3
        go_wp2_with fail
        go_quiet (fail)
        go_wp2
        go_ret3
        exact ⟨rfl, hR3.drewN _, grown_trans (grown_trans (grown_trans hg1 hg2) hg3) (grown_drewN _ _ _)⟩
      · have d3 : (((st3.e : Int) != 0) : Bool) = true := by simpa using h3
        have hn3 := unhide Hnv
        have he3 := unhide Hev
        rw [if_neg h3] at hn3 he3
        subst hn3 he3
        clear h3
        go_wp2
        go_ret3
        exact ⟨rfl, hR3, grown_trans (grown_trans hg1 hg2) hg3⟩
  · have hd : (((st1.e : Int) == 0) : Bool) = false := by rw [beq_eq_false_iff_ne]; omega
    have q : st2 = st1 := by
      rw [unhide E2]; split
      · rfl
      · exact M.fail_bad he
    subst q
    have HN5 := hide (unhide HN4 w1 hc1)
    clear hb1 E2 he HN4
    go_wp2_with fail
    refine (unhide HN5).mono ?_
    rintro e w3 ⟨rfl, hc3, hg3⟩
    have hR3 := hR1.step hg3 hc3 hp3
    have t0 := hR3.k0
    have t1 : w3.cell? ⟨C, 1, none⟩ = some (.int .i64 (st3.pos : Int)) := hc3.cell 1
    have t2 : w3.cell? ⟨C, 2, none⟩ = some (.int .i64 (st3.e : Int)) := hc3.cell 2
    clear HN5 r0 r1 r2
    by_cases h3 : st3.e = 0
    · have d3 : (((st3.e : Int) != 0) : Bool) = false := by rw [h3]; rfl
      have hn3 := unhide Hnv
      have he3 := unhide Hev
      rw [if_pos h3] at hn3 he3
      subst hn3 he3
      clear h3
      go_wp2_with fail
      go_quiet (fail)
      go_wp2
      go_ret3
      exact ⟨rfl, hR3.drewN _, grown_trans (grown_trans hg1 hg3) (grown_drewN _ _ _)⟩
    · have d3 : (((st3.e : Int) != 0) : Bool) = true := by simpa using h3
      have hn3 := unhide Hnv
      have he3 := unhide Hev
      rw [if_neg h3] at hn3 he3
      subst hn3 he3
      clear h3
      go_wp2
      go_ret3
      exact ⟨rfl, hR3, grown_trans hg1 hg3⟩
/-- An attribute that was not looked at. -/
theorem over_pass (Q C : Nat) (pv : Value) (s : ByteArray) (st : St) (a n : Nat) (w : World) (h : Rg w Q C pv s st) (hs : s.size ≤ 131072) (hn : n < 4294967296) :
    Calls Try.prog 44 #[.pointer (some ⟨Q, 0, none⟩), .bool false, .int .i64 (a : Int), .int .i64 ((st.pos : Int) + (n : Int))] w fun x w' => x = .returned (.tuple #[]) ∧ Rg w' Q C pv s (M.take s.data.toList n st).2 ∧ w.grownBy w' (some C) := by
  have H := hide h
  have k0 := h.k0
  have j1 : w.cell? ⟨C, 1, none⟩ = some (.int .i64 (st.pos : Int)) := h.c.cell 1
  have hl : s.data.toList.length = s.size := by simp
  have hsz := h.pos
  have HT := hide (fun W (hW : Cut W C s st) => ctake_any C s st n W hW hs (by omega) (by omega))
  have hcD : Cut w.drew C s st := h.c
  have hp1 := M.take_pos (n := n) h.pos
  have hwr : IntKind.i64.wrap ((st.pos : Int) + (n : Int) - (st.pos : Int)) = (n : Int) := by rw [IntKind.wrap_i64]; omega
  clear h hl
  go_enter Try.func44, Try.ntmps44
  go_wp2_with fail
  go_region_with (go_at_call 36; refine (unhide HT _ ?_).mono ?_; exact hcD; rintro e w1 ⟨rfl, hc1, hg1⟩)
  all_goals
    have hg1' : w.grownBy w1 (some C) := ⟨hg1.os, hg1.tape, hg1.output, hg1.size, hg1.block⟩
    have HR1 := hide ((unhide H).step hg1' hc1 hp1)
    have Hg := hide hg1'
    clear HT k0 j1 hc1 hg1 hg1'
    go_wp2
    go_end0
    exact ⟨rfl, unhide HR1, unhide Hg⟩
theorem over_bad (Q C : Nat) (pv : Value) (s : ByteArray) (st : St) (a : Nat) (w : World) (h : Rg w Q C pv s st) (hs : s.size ≤ 131072) (he : st.e ≠ 0) :
    Calls Try.prog 44 #[.pointer (some ⟨Q, 0, none⟩), .bool false, .int .i64 (a : Int), .int .i64 (-1)] w fun x w' => x = .returned (.tuple #[]) ∧ Rg w' Q C pv s st ∧ w.grownBy w' (some C) := by
  have H := hide h
  have k0 := h.k0
  have j1 : w.cell? ⟨C, 1, none⟩ = some (.int .i64 (st.pos : Int)) := h.c.cell 1
  have HT := hide (fun n W (hW : Cut W C s st) => ctake_bad C s st n W hW he)
  have hcD : Cut w.drew C s st := h.c
  have hp1 := h.pos
  clear h he
  go_enter Try.func44, Try.ntmps44
  go_wp2_with fail
  go_region_with (go_at_call 36; refine (unhide HT _ _ ?_).mono ?_; exact hcD; rintro e w1 ⟨rfl, hc1, hg1⟩)
  all_goals
    have hg1' : w.grownBy w1 (some C) := ⟨hg1.os, hg1.tape, hg1.output, hg1.size, hg1.block⟩
    have HR1 := hide ((unhide H).step hg1' hc1 hp1)
    have Hg := hide hg1'
    clear HT k0 j1 hc1 hg1 hg1'
    go_wp2
    go_end0
    exact ⟨rfl, unhide HR1, unhide Hg⟩
/-- An attribute that was looked at. -/
theorem over_looked (Q C : Nat) (pv : Value) (s : ByteArray) (st : St) (a E : Nat) (w : World) (h : Rg w Q C pv s st) (hE : E ≤ 8589934592) :
    Calls Try.prog 44 #[.pointer (some ⟨Q, 0, none⟩), .bool true, .int .i64 (a : Int), .int .i64 (E : Int)] w fun x w' => x = .returned (.tuple #[]) ∧ Rg w' Q C pv s (if st.pos = E then st else M.fail st 12 a) ∧ w.grownBy w' (some C) := by
  have H := hide h
  have k0 := h.k0
  have j1 : w.cell? ⟨C, 1, none⟩ = some (.int .i64 (st.pos : Int)) := h.c.cell 1
  have j2 : w.cell? ⟨C, 2, none⟩ = some (.int .i64 (st.e : Int)) := h.c.cell 2
  have HF := hide (fun n => cfail_any C s st 12 a (w.drewN n) (h.c.drewN n))
  have HF0 := hide (cfail_any C s st 12 a w h.c)
  have hp1 : (M.fail st 12 a).pos ≤ s.data.toList.length := by rw [M.fail_pos]; exact h.pos
  by_cases he : st.e = 0
  · have hd : (((st.e : Int) == 0) : Bool) = true := by rw [he]; rfl
    by_cases hq : st.pos = E
    · rw [if_pos hq]
      have dq : (((st.pos : Int) != (E : Int)) : Bool) = false := by rw [hq]; simp
      clear h he hq
      go_enter Try.func44, Try.ntmps44
      go_wp2
      go_end0
      first
      | exact ⟨rfl, unhide H, grown_refl _ _⟩
      | exact ⟨rfl, (unhide H).drewN _, grown_drewN _ _ _⟩
    · rw [if_neg hq]
      have dq : (((st.pos : Int) != (E : Int)) : Bool) = true := by rw [bne_iff_ne]; omega
      clear h he hq
      go_enter Try.func44, Try.ntmps44
      go_wp2_with fail
      first
      | refine (unhide HF0).mono ?_
      | refine (unhide HF _).mono ?_
      rintro e w1 ⟨rfl, hc1, hg1⟩
      have HR1 := hide ((unhide H).step hg1 hc1 hp1)
      have Hg := hide hg1
      clear HF HF0 k0 j1 j2 hc1 hg1
      go_wp2
      go_end0
      exact ⟨rfl, unhide HR1, unhide Hg⟩
  · have hd : (((st.e : Int) == 0) : Bool) = false := by rw [beq_eq_false_iff_ne]; omega
    rw [show (if st.pos = E then st else M.fail st 12 a) = st by
      split
      · rfl
      · exact M.fail_bad he]
    clear h he
    go_enter Try.func44, Try.ntmps44
    go_wp2
    go_end0
    first
    | exact ⟨rfl, unhide H, grown_refl _ _⟩
    | exact ⟨rfl, (unhide H).drewN _, grown_drewN _ _ _⟩
end Go.Proofs.Ytbgpkkbejbidlac
