/-
  The reference's space: Put, Get, Set, Word: the walks.
-/
import Derived.Test.YtaapakpanbfmlaaRc
namespace Go.Proofs.Ytaapakpanbfmlaa
namespace Rs
open Go.RowKit Hp
set_option linter.unusedVariables false
set_option linter.unusedSimpArgs false
theorem nrefs_pos {L : List Tv} {ro : List Nat} {k : Int} (h : 0 < nrefs L ro k) : ∃ n x, k = ((n : Nat) : Int) ∧ n < 16 ∧ ro.getD n 0 = x ∧ ∃ hx : x < L.length, nrefs L ro k = (L[x]).t.refs.length := by
  unfold nrefs at h
  by_cases hk : at16 k = true
  · obtain ⟨n, rfl, hn⟩ := at16_nat hk
    rw [if_pos hk] at h
    simp only [Int.toNat_natCast] at h
    refine ⟨n, _, rfl, hn, rfl, ?_⟩
    by_cases h0 : ro.getD n 0 = 0
    · rw [if_pos h0] at h; omega
    · rw [if_neg h0] at h
      cases hx : L[ro.getD n 0]? with
      | none => rw [hx] at h; simp at h
      | some t =>
        have hl := (List.getElem?_eq_some_iff.1 hx).1
        refine ⟨hl, ?_⟩
        unfold nrefs
        rw [if_pos hk]
        simp only [Int.toNat_natCast]
        rw [if_neg h0, List.getElem?_eq_getElem hl]; rfl
  · rw [if_neg hk] at h; omega
theorem nwords_pos {L : List Tv} {ro : List Nat} {k : Int} (h : 0 < nwords L ro k) : ∃ n x, k = ((n : Nat) : Int) ∧ n < 16 ∧ ro.getD n 0 = x ∧ ∃ hx : x < L.length, nwords L ro k = (L[x]).t.words.length := by
  unfold nwords at h
  by_cases hk : at16 k = true
  · obtain ⟨n, rfl, hn⟩ := at16_nat hk
    rw [if_pos hk] at h
    simp only [Int.toNat_natCast] at h
    refine ⟨n, _, rfl, hn, rfl, ?_⟩
    by_cases h0 : ro.getD n 0 = 0
    · rw [if_pos h0] at h; omega
    · rw [if_neg h0] at h
      cases hx : L[ro.getD n 0]? with
      | none => rw [hx] at h; simp at h
      | some t =>
        have hl := (List.getElem?_eq_some_iff.1 hx).1
        refine ⟨hl, ?_⟩
        unfold nwords
        rw [if_pos hk]
        simp only [Int.toNat_natCast]
        rw [if_neg h0, List.getElem?_eq_getElem hl]; rfl
  · rw [if_neg hk] at h; omega
set_option maxRecDepth 100000 in
set_option maxHeartbeats 4000000 in
theorem rput_any (k i j : Int) (w : World) {B sb rb lim us : Nat} {lv : Value} {L : List Tv} {ro : List Nat} (h : Sp w B sb rb lv L ro lim us) (hro : ∀ x ∈ ro, x < L.length) :
    Calls Try.prog 22 #[.pointer (some ⟨sb, 0, none⟩), .int .i64 k, .int .i64 i, .int .i64 j] w fun e w' =>
      (¬ (0 ≤ i ∧ i < (nrefs L ro k : Int) ∧ at16 j = true) ∧ e = .returned (.int .i64 7) ∧ Fr [] w w' ∧ Sp w' B sb rb lv L ro lim us) ∨
      (∃ n m x f, ∃ hx : x < L.length, k = ((n : Nat) : Int) ∧ n < 16 ∧ ro.getD n 0 = x ∧ j = ((m : Nat) : Int) ∧ m < 16 ∧ i = ((f : Nat) : Int) ∧ f < (L[x]).t.refs.length ∧ e = .returned (.int .i64 0) ∧ Fr (tblocks L) w w' ∧ Sp w' B sb rb lv (L.set x ((L[x]).withRefs ((L[x]).t.refs.set f (ro.getD m 0)))) ro lim us) := by
  have HR := hide (rrefs_any k w h hro)
  have HJ := hide (fun w1 => at_any j w1)
  have HS := hide h
  by_cases h1 : i < 0
  · clear h
    go_enter Try.func22, Try.ntmps22
    go_wp2
    go_ret
    exact .inl ⟨fun h => by omega, rfl, Fr.refl _ _, unhide HS⟩
  by_cases h2 : (nrefs L ro k : Int) ≤ i
  · clear h
    go_enter Try.func22, Try.ntmps22
    go_wp2_with fail
    refine (unhide HR).mono ?_
    rintro e w1 ⟨rfl, n1, hw1⟩
    subst w1
    go_wp2
    go_ret
    exact .inl ⟨fun h => by omega, rfl, (Fr.refl _ _).drewN _, (unhide HS).drewN _⟩
  generalize hj : at16 j = bj at *
  cases bj
  · clear h
    go_enter Try.func22, Try.ntmps22
    go_wp2_with fail
    refine (unhide HR).mono ?_
    rintro e w1 ⟨rfl, n1, hw1⟩
    subst w1
    go_wp2_with fail
    refine (unhide HJ _).mono ?_
    rintro e w1 ⟨rfl, hw1⟩
    subst w1
    go_wp2
    go_ret
    exact .inl ⟨fun h => by simp at h, rfl, (Fr.refl _ _).drewN _, (unhide HS).drewN _⟩
  obtain ⟨n, x, rfl, hn, hnx, hx, hnr⟩ := nrefs_pos (L := L) (ro := ro) (k := k) (by omega)
  obtain ⟨m, rfl, hm⟩ := at16_nat hj
  obtain ⟨f, rfl⟩ : ∃ f : Nat, i = (f : Int) := ⟨i.toNat, by omega⟩
  have hf : f < (L[x]).t.refs.length := by omega
  have HW : Hid (∀ q, ∃ g, (L[x]).rv = .slice (some ⟨g, 0, none⟩) (L[x]).t.refs.length (L[x]).t.refs.length ∧ g ∈ tblocks L ∧ (w.drewN q).cell? ⟨g, f, none⟩ = some (.int .i64 (((L[x]).t.refs.getD f 0 : Nat) : Int)) ∧ (w.drewN q).frozen? ⟨g, f, none⟩ = false ∧
      Sp ((w.drewN (q + 1)).setCell ⟨g, f, none⟩ (.int .i64 ((ro.getD m 0 : Nat) : Int))) B sb rb lv (L.set x ((L[x]).withRefs ((L[x]).t.refs.set f (ro.getD m 0)))) ro lim us) := hide (fun q => ((unhide HS).drewN (q + 1)).setRef hx hf (ro.getD m 0))
  have c1 := h.rootsv
  have c2 := h.lv0
  have c3 := h.cell n hn
  have c4 := h.cell m hm
  rw [hnx] at c3
  obtain ⟨g, cap, hlv, d0, _, _⟩ := h.thing x hx
  rw [hlv] at c2
  have hni : (n : Int) < 16 := by omega
  have hmi : (m : Int) < 16 := by omega
  have hxi : (x : Int) < (L.length : Int) := by omega
  have hfi : (f : Int) < ((L[x]).t.refs.length : Int) := by omega
  rw [hnr] at HR
  have h1' : ¬ ((f : Int) < 0) := h1
  have h2' : ¬ (((L[x]).t.refs.length : Int) ≤ (f : Int)) := by omega
  obtain ⟨gr, hgr, hgt, _⟩ := unhide HW 0
  rw [hgr] at d0
  have Hgr := hide hgr
  clear h hj h2 h1 hgr
  have Hf := hide hf
  have Hnx := hide hnx
  clear hf hnx hnr
  go_enter Try.func22, Try.ntmps22
  go_wp2_with fail
  refine (unhide HR).mono ?_
  rintro e w1 ⟨rfl, n1, hw1⟩
  subst w1
  go_wp2_with fail
  refine (unhide HJ _).mono ?_
  rintro e w1 ⟨rfl, hw1⟩
  subst w1
  obtain ⟨gr2, hgr2, hgt2, k1, k2, hSp⟩ := unhide HW n1
  have hge : gr2 = gr := by have := (unhide Hgr).symm.trans hgr2; cases this; rfl
  subst hge
  have k1' : w.cell? ⟨gr2, f, none⟩ = some (.int .i64 (((L[x]).t.refs.getD f 0 : Nat) : Int)) := k1
  have k2' : w.frozen? ⟨gr2, f, none⟩ = false := k2
  have HSp := hide hSp
  clear hSp hgr2 HW k1 k2
  generalize hy : ro.getD m 0 = y at c4 HSp
  have Hy := hide hy
  clear hy
  go_wp2_with fail
  go_region
  all_goals
    go_wp2
    go_ret
    exact .inr ⟨n, m, x, f, hx, rfl, hn, unhide Hnx, rfl, hm, rfl, unhide Hf, rfl, ((Fr.refl _ _).drewN _).set hgt2 _, by rw [unhide Hy]; exact unhide HSp⟩
set_option maxRecDepth 100000 in
set_option maxHeartbeats 4000000 in
theorem rset_any (k i : Int) (z : Nat) (w : World) {B sb rb lim us : Nat} {lv : Value} {L : List Tv} {ro : List Nat} (h : Sp w B sb rb lv L ro lim us) (hro : ∀ x ∈ ro, x < L.length) :
    Calls Try.prog 25 #[.pointer (some ⟨sb, 0, none⟩), .int .i64 k, .int .i64 i, .int .u64 (z : Int)] w fun e w' =>
      (¬ (0 ≤ i ∧ i < (nwords L ro k : Int)) ∧ e = .returned (.int .i64 7) ∧ Fr [] w w' ∧ Sp w' B sb rb lv L ro lim us) ∨
      (∃ n x f, ∃ hx : x < L.length, k = ((n : Nat) : Int) ∧ n < 16 ∧ ro.getD n 0 = x ∧ i = ((f : Nat) : Int) ∧ f < (L[x]).t.words.length ∧ e = .returned (.int .i64 0) ∧ Fr (tblocks L) w w' ∧ Sp w' B sb rb lv (L.set x ((L[x]).withWords ((L[x]).t.words.set f z))) ro lim us) := by
  have HR := hide (rwords_any k w h hro)
  have HS := hide h
  by_cases h1 : i < 0
  · clear h
    go_enter Try.func25, Try.ntmps25
    go_wp2
    go_ret
    exact .inl ⟨fun h => by omega, rfl, Fr.refl _ _, unhide HS⟩
  by_cases h2 : (nwords L ro k : Int) ≤ i
  · clear h
    go_enter Try.func25, Try.ntmps25
    go_wp2_with fail
    refine (unhide HR).mono ?_
    rintro e w1 ⟨rfl, n1, hw1⟩
    subst w1
    go_wp2
    go_ret
    exact .inl ⟨fun h => by omega, rfl, (Fr.refl _ _).drewN _, (unhide HS).drewN _⟩
  obtain ⟨n, x, rfl, hn, hnx, hx, hnr⟩ := nwords_pos (L := L) (ro := ro) (k := k) (by omega)
  obtain ⟨f, rfl⟩ : ∃ f : Nat, i = (f : Int) := ⟨i.toNat, by omega⟩
  have hf : f < (L[x]).t.words.length := by omega
  have HW : Hid (∀ q, ∃ g, (L[x]).wv = .slice (some ⟨g, 0, none⟩) (L[x]).t.words.length (L[x]).t.words.length ∧ g ∈ tblocks L ∧ (w.drewN q).cell? ⟨g, f, none⟩ = some (.int .u64 (((L[x]).t.words.getD f 0 : Nat) : Int)) ∧ (w.drewN q).frozen? ⟨g, f, none⟩ = false ∧
      Sp ((w.drewN (q + 1)).setCell ⟨g, f, none⟩ (.int .u64 (z : Int))) B sb rb lv (L.set x ((L[x]).withWords ((L[x]).t.words.set f z))) ro lim us) := hide (fun q => ((unhide HS).drewN (q + 1)).setWord hx hf z)
  have c1 := h.rootsv
  have c2 := h.lv0
  have c3 := h.cell n hn
  rw [hnx] at c3
  obtain ⟨g, cap, hlv, _, d1, _⟩ := h.thing x hx
  rw [hlv] at c2
  have hni : (n : Int) < 16 := by omega
  have hxi : (x : Int) < (L.length : Int) := by omega
  have hfi : (f : Int) < ((L[x]).t.words.length : Int) := by omega
  rw [hnr] at HR
  have h1' : ¬ ((f : Int) < 0) := h1
  have h2' : ¬ (((L[x]).t.words.length : Int) ≤ (f : Int)) := by omega
  obtain ⟨gr, hgr, hgt, _⟩ := unhide HW 0
  rw [hgr] at d1
  have Hgr := hide hgr
  clear h h2 h1 hgr
  have Hf := hide hf
  have Hnx := hide hnx
  clear hf hnx hnr
  go_enter Try.func25, Try.ntmps25
  go_wp2_with fail
  refine (unhide HR).mono ?_
  rintro e w1 ⟨rfl, n1, hw1⟩
  subst w1
  obtain ⟨gr2, hgr2, hgt2, k1, k2, hSp⟩ := unhide HW n1
  have hge : gr2 = gr := by have := (unhide Hgr).symm.trans hgr2; cases this; rfl
  subst hge
  have k1' : w.cell? ⟨gr2, f, none⟩ = some (.int .u64 (((L[x]).t.words.getD f 0 : Nat) : Int)) := k1
  have k2' : w.frozen? ⟨gr2, f, none⟩ = false := k2
  have HSp := hide hSp
  clear hSp hgr2 HW k1 k2
  go_wp2_with fail
  go_region
  all_goals
    go_wp2
    go_ret
    exact .inr ⟨n, x, f, hx, rfl, hn, unhide Hnx, rfl, unhide Hf, rfl, ((Fr.refl _ _).drewN _).set hgt2 _, unhide HSp⟩
end Rs
end Go.Proofs.Ytaapakpanbfmlaa
