/-
  The program's heap: words, until, fits.
-/
import Derived.Test.YtaapakpanbfmlaaQc
namespace Go.Proofs.Ytaapakpanbfmlaa
namespace Rs
open Go.RowKit Hp
set_option linter.unusedVariables false
set_option linter.unusedSimpArgs false
set_option maxRecDepth 100000 in
set_option maxHeartbeats 2000000 in
theorem words44_any (sb yw ow : Nat) (w : World) (h4 : w.cell? ⟨sb, 4, none⟩ = some (.int .i64 (yw : Int))) (h6 : w.cell? ⟨sb, 6, none⟩ = some (.int .i64 (ow : Int))) (hy : yw ≤ 4294967296) (ho : ow ≤ 4294967296) :
    Calls Try.prog 44 #[.pointer (some ⟨sb, 0, none⟩)] w fun e w' => e = .returned (.int .i64 ((yw + ow : Nat) : Int)) ∧ ∃ n, w' = w.drewN n := by
  have e1 : ((yw + ow : Nat) : Int) = (yw : Int) + (ow : Int) := by omega
  rw [e1]
  have hyi : (yw : Int) ≤ 4294967296 := by omega
  have hoi : (ow : Int) ≤ 4294967296 := by omega
  clear e1
  go_enter Try.func44, Try.ntmps44
  go_wp2_with fail
  go_quiet (fail)
  go_wp2
  go_ret
  exact ⟨rfl, _, rfl⟩
set_option maxRecDepth 100000 in
set_option maxHeartbeats 4000000 in
theorem until61_any (sb lim tot sz : Nat) (w : World) (h0 : w.cell? ⟨sb, 0, none⟩ = some (.int .i64 (lim : Int))) (hl : lim ≤ 16384) (ht : tot ≤ 8589934592) (hs : sz ≤ 1073741824) (HW : Hid (∀ q, Calls Try.prog 44 #[.pointer (some ⟨sb, 0, none⟩)] (w.drewN q) fun e w' => e = .returned (.int .i64 (tot : Int)) ∧ ∃ n, w' = (w.drewN q).drewN n)) :
    Calls Try.prog 61 #[.pointer (some ⟨sb, 0, none⟩), .int .i64 (sz : Int)] w fun e w' => e = .returned (.int .i64 (lim : Int)) ∧ ∃ n, w' = w.drewN n := by
  have hli : (lim : Int) ≤ 16384 := by omega
  have hti : (tot : Int) ≤ 8589934592 := by omega
  have hsi : (sz : Int) ≤ 1073741824 := by omega
  have w1 : IntKind.i64.wrap ((lim : Int) / 2 - (tot : Int)) = (lim : Int) / 2 - (tot : Int) := wrap_id _ (by omega) (by omega)
  have w2 : IntKind.i64.wrap ((sz : Int) + (tot : Int)) = (sz : Int) + (tot : Int) := wrap_id _ (by omega) (by omega)
  have w3 : IntKind.i64.wrap (2 * ((sz : Int) + (tot : Int))) = 2 * ((sz : Int) + (tot : Int)) := wrap_id _ (by omega) (by omega)
  have m1 : min (lim : Int) (max 1048576 (2 * ((sz : Int) + (tot : Int)))) = (lim : Int) := by omega
  by_cases hc : (lim : Int) / 2 - (tot : Int) ≤ (sz : Int)
  · go_enter Try.func61, Try.ntmps61
    go_wp2_with fail
    go_quiet ((go_at_call 44; exact Calls.quiet_of (unhide HW _)))
    go_wp2
    go_ret
    exact ⟨rfl, _, rfl⟩
  · go_enter Try.func61, Try.ntmps61
    go_wp2_with fail
    go_quiet ((go_at_call 44; exact Calls.quiet_of (unhide HW _)))
    go_wp2_with fail
    have HW2 : Hid (∀ q, Calls Try.prog 44 #[.pointer (some ⟨sb, 0, none⟩)] ((w.drewN nq).drewN q) fun e w' => e = .returned (.int .i64 (tot : Int)) ∧ ∃ n, w' = ((w.drewN nq).drewN q).drewN n) := fun q => by
      rw [World.drewN_drewN]; exact unhide HW _
    have h0' : (w.drewN nq).cell? ⟨sb, 0, none⟩ = some (.int .i64 (lim : Int)) := h0
    have HQ : Hid (∃ n, w.drewN nq = w.drewN n) := ⟨_, rfl⟩
    generalize w.drewN nq = w2 at h0' HW2 HQ ⊢
    clear HW h0
    go_quiet ((go_at_call 44; exact Calls.quiet_of (unhide HW2 _)))
    go_wp2
    go_ret
    obtain ⟨n, hn⟩ := unhide HQ
    exact ⟨rfl, _, by rw [hn, World.drewN_drewN]⟩
/-- A state of the heap's numbers, which the walk of makeRoom looks at. -/
structure Mn (w : World) (sb lim room yw ow : Nat) : Prop where
  c0 : w.cell? ⟨sb, 0, none⟩ = some (.int .i64 (lim : Int))
  c1 : w.cell? ⟨sb, 1, none⟩ = some (.int .i64 (room : Int))
  c2 : w.cell? ⟨sb, 2, none⟩ = some (.int .i64 (lim : Int))
  c4 : w.cell? ⟨sb, 4, none⟩ = some (.int .i64 (yw : Int))
  c6 : w.cell? ⟨sb, 6, none⟩ = some (.int .i64 (ow : Int))
  f2 : w.frozen? ⟨sb, 2, none⟩ = false
  hy : yw ≤ 4294967296
  ho : ow ≤ 4294967296
theorem Mn.words {w : World} {sb lim room yw ow : Nat} (h : Mn w sb lim room yw ow) (q : Nat) : Calls Try.prog 44 #[.pointer (some ⟨sb, 0, none⟩)] (w.drewN q) fun e w' => e = .returned (.int .i64 ((yw + ow : Nat) : Int)) ∧ ∃ n, w' = (w.drewN q).drewN n :=
  words44_any sb yw ow (w.drewN q) h.c4 h.c6 h.hy h.ho
theorem Mn.drewN {w : World} {sb lim room yw ow : Nat} (h : Mn w sb lim room yw ow) (q : Nat) : Mn (w.drewN q) sb lim room yw ow := ⟨h.c0, h.c1, h.c2, h.c4, h.c6, h.f2, h.hy, h.ho⟩
set_option maxRecDepth 100000 in
set_option maxHeartbeats 1000000 in
/-- makeRoom, where nothing is collected. -/
theorem room46_none (sb lim room yw ow sz : Nat) (fr : Value) (w : World) (h : Mn w sb lim room yw ow) (hl : lim ≤ 16384) (hrm : room ≤ 16384) (hs : sz ≤ 1073741824) (hA : sz + (yw + ow) ≤ lim) (hB : ¬ (sz ≤ room ∧ room < sz + yw)) :
    Calls Try.prog 46 #[.pointer (some ⟨sb, 0, none⟩), fr, .int .i64 (sz : Int)] w fun e w' => e = .returned (.bool true) ∧ ∃ n, w' = w.drewN n := by
  have HH := hide h
  obtain ⟨c0, c1, c2, c4, c6, f2, hy, ho⟩ := h
  have HW0 := hide (unhide HH).words
  generalize htot0 : ((yw + ow : Nat) : Int) = tot at HW0
  have HQ0 : Hid (∀ A k, Calls Try.prog 44 #[.pointer (some ⟨sb, 0, none⟩)] (w.drewN (A + k)) fun e w' => e = .returned (.int .i64 tot) ∧ ∃ m, w' = w.drewN (A + m)) := fun A k => (unhide HW0 (A + k)).mono (by rintro e w' ⟨he, n, hn⟩; exact ⟨he, k + n, by rw [hn, World.drewN_drewN, Nat.add_assoc]⟩)
  have hli : (lim : Int) ≤ 16384 := by omega
  have hri : (room : Int) ≤ 16384 := by omega
  have hsi : (sz : Int) ≤ 1073741824 := by omega
  have hyi0 : (yw : Int) ≤ 4294967296 := by omega
  have ta0 : (0 : Int) ≤ tot := by omega
  have tb0 : tot ≤ 8589934592 := by omega
  have wa0 : IntKind.i64.wrap ((lim : Int) - tot) = (lim : Int) - tot := wrap_id _ (by omega) (by omega)
  have wb0 : IntKind.i64.wrap ((room : Int) - (yw : Int)) = (room : Int) - (yw : Int) := wrap_id _ (by omega) (by omega)
  have a1 : ¬ ((lim : Int) - tot < (sz : Int)) := by omega
  have a2 : (sz : Int) ≤ (lim : Int) - tot := by omega
  by_cases b1 : (sz : Int) ≤ (room : Int)
  · have b2 : ¬ ((room : Int) - (yw : Int) < (sz : Int)) := by omega
    clear htot0 hy ho hA hB hs hl hrm
    generalize (sz : Int) = sI at *
    generalize (room : Int) = rI at *
    go_enter Try.func46, Try.ntmps46
    go_wp2_with fail
    go_quiet ((go_at_call 44; exact Calls.quiet_of (unhide HW0 _)))
    go_wp2_with fail
    go_quiet (fail)
    go_wp2_with fail
    go_quiet ((go_at_call 44; exact unhide HQ0 _ _))
    go_wp2_with fail
    go_quiet ((go_at_call 44; exact unhide HQ0 _ _))
    go_wp2
    go_ret
    exact ⟨rfl, _, by rw [World.drewN_drewN, World.drewN_drewN, World.drewN_drewN]⟩
  · have Hdec : Hid (decide ((sz : Int) ≤ (room : Int)) = false) := decide_eq_false b1
    have Hd1 : Hid (decide ((lim : Int) - tot < (sz : Int)) = false) := decide_eq_false a1
    clear b1
    clear htot0 hy ho hA hB hs hl hrm
    generalize (sz : Int) = sI at *
    generalize (room : Int) = rI at *
    go_enter Try.func46, Try.ntmps46
    go_wp2_with fail
    go_quiet ((go_at_call 44; exact Calls.quiet_of (unhide HW0 _)))
    go_wp2_with fail
    refine wp_region_quiet_lit (by kernel_rfl) (by kernel_rfl) ?_
    repeat (first | rw [unhide Hd1] | rw [unhide Hdec] | (go_big_quiet_step (fail)))
    refine wpQuiet_nil ?_
    rintro _ ⟨nq, rfl⟩
    go_wp2_with fail
    go_quiet ((go_at_call 44; exact unhide HQ0 _ _))
    go_wp2_with fail
    go_quiet ((go_at_call 44; exact unhide HQ0 _ _))
    go_wp2
    go_ret
    exact ⟨rfl, _, by rw [World.drewN_drewN, World.drewN_drewN, World.drewN_drewN]⟩
set_option maxRecDepth 100000 in
set_option maxHeartbeats 4000000 in
/-- makeRoom, where the young are looked at, and, if that is not enough, all. -/
theorem room46_some (sb lim room yw ow sz : Nat) (fr : Value) (w : World) {R : Nat → Nat → World → Prop} {R2 : Nat → Nat → World → Prop} {J : World → Prop} (h : Mn w sb lim room yw ow) (hl : lim ≤ 16384) (hrm : room ≤ 16384) (hs : sz ≤ 1073741824) (hAB : lim < sz + (yw + ow) ∨ (sz ≤ room ∧ room < sz + yw))
    (HY : Hid (∀ q, Calls Try.prog 43 #[.pointer (some ⟨sb, 0, none⟩), fr] (w.drewN q) fun e w' => e = .returned (.tuple #[]) ∧ ∃ yw1 ow1, R yw1 ow1 w')) (HR : Hid (∀ yw1 ow1 w', R yw1 ow1 w' → Mn w' sb lim room yw1 ow1))
    (HA : Hid (∀ yw1 ow1 w' q, R yw1 ow1 w' → lim < sz + (yw1 + ow1) → Calls Try.prog 42 #[.pointer (some ⟨sb, 0, none⟩), fr] (w'.drewN q) fun e w2 => e = .returned (.tuple #[]) ∧ ∃ yw2 ow2, R2 yw2 ow2 w2)) (HR2 : Hid (∀ yw2 ow2 w', R2 yw2 ow2 w' → Mn w' sb lim room yw2 ow2)) (HJ1 : Hid (∀ yw1 ow1 w' q, R yw1 ow1 w' → sz + (yw1 + ow1) ≤ lim → J (w'.drewN q))) :
    Calls Try.prog 46 #[.pointer (some ⟨sb, 0, none⟩), fr, .int .i64 (sz : Int)] w fun e w' => (e = .returned (.bool true) ∧ J w') ∨ ∃ yw2 ow2 w2 n m, e = .returned (.bool (decide (sz + (yw2 + ow2) ≤ lim))) ∧ R2 yw2 ow2 w2 ∧ w' = ((w2.drewN n).setCell ⟨sb, 2, none⟩ (.int .i64 (lim : Int))).drewN m := by
  have HH := hide h
  obtain ⟨c0, c1, c2, c4, c6, f2, hy, ho⟩ := h
  have HW0 := hide (unhide HH).words
  generalize htot0 : ((yw + ow : Nat) : Int) = tot at HW0
  have HQ0 : Hid (∀ A k, Calls Try.prog 44 #[.pointer (some ⟨sb, 0, none⟩)] (w.drewN (A + k)) fun e w' => e = .returned (.int .i64 tot) ∧ ∃ m, w' = w.drewN (A + m)) := fun A k => (unhide HW0 (A + k)).mono (by rintro e w' ⟨he, n, hn⟩; exact ⟨he, k + n, by rw [hn, World.drewN_drewN, Nat.add_assoc]⟩)
  have hli : (lim : Int) ≤ 16384 := by omega
  have hri : (room : Int) ≤ 16384 := by omega
  have hsi : (sz : Int) ≤ 1073741824 := by omega
  have hyi0 : (yw : Int) ≤ 4294967296 := by omega
  have ta0 : (0 : Int) ≤ tot := by omega
  have tb0 : tot ≤ 8589934592 := by omega
  have wa0 : IntKind.i64.wrap ((lim : Int) - tot) = (lim : Int) - tot := wrap_id _ (by omega) (by omega)
  have wb0 : IntKind.i64.wrap ((room : Int) - (yw : Int)) = (room : Int) - (yw : Int) := wrap_id _ (by omega) (by omega)
  by_cases a1 : (lim : Int) - tot < (sz : Int)
  · clear htot0 hy ho hAB
    go_enter Try.func46, Try.ntmps46
    go_wp2_with fail
    go_quiet ((go_at_call 44; exact Calls.quiet_of (unhide HW0 _)))
    go_wp2_with fail
    go_quiet (fail)
    go_wp2_with fail
    clear c0 c1 c2 c4 c6 f2 HW0 HQ0 wa0 wb0 hyi0 ta0 tb0
    refine (unhide HY _).mono ?_
    rintro e w1 ⟨rfl, yw1, ow1, hr1⟩
    have HR1 := hide hr1
    have HH1 := hide (unhide HR _ _ _ hr1)
    clear hr1
    obtain ⟨c0, c1, c2, c4, c6, f2, hy, ho⟩ := unhide HH1
    have HW1 := hide (unhide HH1).words
    generalize htot1 : ((yw1 + ow1 : Nat) : Int) = tot1 at HW1
    have HQ1 : Hid (∀ A k, Calls Try.prog 44 #[.pointer (some ⟨sb, 0, none⟩)] (w1.drewN (A + k)) fun e w' => e = .returned (.int .i64 tot1) ∧ ∃ m, w' = w1.drewN (A + m)) := fun A k => (unhide HW1 (A + k)).mono (by rintro e w' ⟨he, n, hn⟩; exact ⟨he, k + n, by rw [hn, World.drewN_drewN, Nat.add_assoc]⟩)
    have hyi1 : (yw1 : Int) ≤ 4294967296 := by omega
    have ta1 : (0 : Int) ≤ tot1 := by omega
    have tb1 : tot1 ≤ 8589934592 := by omega
    have wa1 : IntKind.i64.wrap ((lim : Int) - tot1) = (lim : Int) - tot1 := wrap_id _ (by omega) (by omega)
    have wb1 : IntKind.i64.wrap ((room : Int) - (yw1 : Int)) = (room : Int) - (yw1 : Int) := wrap_id _ (by omega) (by omega)
    by_cases a3 : (lim : Int) - tot1 < (sz : Int)
    · have HA1 := hide (fun q => unhide HA _ _ w1 q (unhide HR1) (by omega))
      clear htot1 hy ho
      go_wp2_with fail
      go_quiet ((go_at_call 44; exact Calls.quiet_of (unhide HW1 _)))
      go_wp2_with fail
      refine (unhide HA1 _).mono ?_
      rintro e w2 ⟨rfl, yw2, ow2, hr2⟩
      have HR3 := hide hr2
      have HH2 := hide (unhide HR2 _ _ _ hr2)
      clear hr2 c0 c1 c2 c4 c6 f2 HW1 HQ1 wa1 wb1 hyi1 ta1 tb1
      obtain ⟨c0, c1, c2, c4, c6, f2, hy, ho⟩ := unhide HH2
      have HW2 := hide (unhide HH2).words
      generalize htot2 : ((yw2 + ow2 : Nat) : Int) = tot2 at HW2
      have HQ2 : Hid (∀ A k, Calls Try.prog 44 #[.pointer (some ⟨sb, 0, none⟩)] (w2.drewN (A + k)) fun e w' => e = .returned (.int .i64 tot2) ∧ ∃ m, w' = w2.drewN (A + m)) := fun A k => (unhide HW2 (A + k)).mono (by rintro e w' ⟨he, n, hn⟩; exact ⟨he, k + n, by rw [hn, World.drewN_drewN, Nat.add_assoc]⟩)
      have hyi2 : (yw2 : Int) ≤ 4294967296 := by omega
      have ta2 : (0 : Int) ≤ tot2 := by omega
      have tb2 : tot2 ≤ 8589934592 := by omega
      have wa2 : IntKind.i64.wrap ((lim : Int) - tot2) = (lim : Int) - tot2 := wrap_id _ (by omega) (by omega)
      have wb2 : IntKind.i64.wrap ((room : Int) - (yw2 : Int)) = (room : Int) - (yw2 : Int) := wrap_id _ (by omega) (by omega)
      have HU := hide (until61_any sb lim (yw2 + ow2) sz w2 c0 (by omega) (by omega) (by omega) (by rw [htot2]; exact HW2))
      have hdec : decide (sz + (yw2 + ow2) ≤ lim) = decide ((sz : Int) ≤ (lim : Int) - tot2) := by rw [Bool.eq_iff_iff]; simp; omega
      have Hdec := hide hdec
      clear hdec
      have Ht2 := hide htot2
      clear htot2 hy ho
      go_wp2_with fail
      refine (unhide HU).mono ?_
      rintro e w3 ⟨rfl, n3, hw3⟩
      subst w3
      go_wp2_with fail
      have d0 : ((w2.drewN n3).setCell ⟨sb, 2, none⟩ (.int .i64 (lim : Int))).cell? ⟨sb, 0, none⟩ = some (.int .i64 (lim : Int)) := by rw [cell_other (by omega)]; exact c0
      have d4 : ((w2.drewN n3).setCell ⟨sb, 2, none⟩ (.int .i64 (lim : Int))).cell? ⟨sb, 4, none⟩ = some (.int .i64 (yw2 : Int)) := by rw [cell_other (by omega)]; exact c4
      have d6 : ((w2.drewN n3).setCell ⟨sb, 2, none⟩ (.int .i64 (lim : Int))).cell? ⟨sb, 6, none⟩ = some (.int .i64 (ow2 : Int)) := by rw [cell_other (by omega)]; exact c6
      have HWx := hide (fun q => words44_any sb yw2 ow2 (((w2.drewN n3).setCell ⟨sb, 2, none⟩ (.int .i64 (lim : Int))).drewN q) d4 d6 (unhide HH2).hy (unhide HH2).ho)
      rw [unhide Ht2] at HWx
      have HE : Hid (∃ n m, (w2.drewN n3).setCell ⟨sb, 2, none⟩ (.int .i64 (lim : Int)) = ((w2.drewN n).setCell ⟨sb, 2, none⟩ (.int .i64 (lim : Int))).drewN m) := ⟨n3, 0, rfl⟩
      generalize (w2.drewN n3).setCell ⟨sb, 2, none⟩ (.int .i64 (lim : Int)) = w4 at d0 d4 d6 HWx HE ⊢
      clear c0 c1 c2 c4 c6 f2
      go_quiet ((go_at_call 44; exact Calls.quiet_of (unhide HWx _)))
      go_wp2
      go_ret
      obtain ⟨n, m, hnm⟩ := unhide HE
      refine .inr ⟨yw2, ow2, w2, n, m + nq, ?_, unhide HR3, by rw [hnm, World.drewN_drewN]⟩
      rw [unhide Hdec]
      first | rfl | simp
    · have a4 : (sz : Int) ≤ (lim : Int) - tot1 := by omega
      have HJ2 := hide (fun q => unhide HJ1 _ _ w1 q (unhide HR1) (by omega))
      clear htot1 hy ho
      go_wp2_with fail
      go_quiet ((go_at_call 44; exact Calls.quiet_of (unhide HW1 _)))
      go_wp2_with fail
      go_quiet ((go_at_call 44; exact unhide HQ1 _ _))
      go_wp2
      go_ret
      refine .inl ⟨rfl, ?_⟩
      rw [World.drewN_drewN]; exact unhide HJ2 _
  · have b1 : (sz : Int) ≤ (room : Int) := by omega
    have b2 : (room : Int) - (yw : Int) < (sz : Int) := by omega
    clear htot0 hy ho hAB
    go_enter Try.func46, Try.ntmps46
    go_wp2_with fail
    go_quiet ((go_at_call 44; exact Calls.quiet_of (unhide HW0 _)))
    go_wp2_with fail
    go_quiet (fail)
    go_wp2_with fail
    clear c0 c1 c2 c4 c6 f2 HW0 HQ0 wa0 wb0 hyi0 ta0 tb0
    refine (unhide HY _).mono ?_
    rintro e w1 ⟨rfl, yw1, ow1, hr1⟩
    have HR1 := hide hr1
    have HH1 := hide (unhide HR _ _ _ hr1)
    clear hr1
    obtain ⟨c0, c1, c2, c4, c6, f2, hy, ho⟩ := unhide HH1
    have HW1 := hide (unhide HH1).words
    generalize htot1 : ((yw1 + ow1 : Nat) : Int) = tot1 at HW1
    have HQ1 : Hid (∀ A k, Calls Try.prog 44 #[.pointer (some ⟨sb, 0, none⟩)] (w1.drewN (A + k)) fun e w' => e = .returned (.int .i64 tot1) ∧ ∃ m, w' = w1.drewN (A + m)) := fun A k => (unhide HW1 (A + k)).mono (by rintro e w' ⟨he, n, hn⟩; exact ⟨he, k + n, by rw [hn, World.drewN_drewN, Nat.add_assoc]⟩)
    have hyi1 : (yw1 : Int) ≤ 4294967296 := by omega
    have ta1 : (0 : Int) ≤ tot1 := by omega
    have tb1 : tot1 ≤ 8589934592 := by omega
    have wa1 : IntKind.i64.wrap ((lim : Int) - tot1) = (lim : Int) - tot1 := wrap_id _ (by omega) (by omega)
    have wb1 : IntKind.i64.wrap ((room : Int) - (yw1 : Int)) = (room : Int) - (yw1 : Int) := wrap_id _ (by omega) (by omega)
    by_cases a3 : (lim : Int) - tot1 < (sz : Int)
    · have HA1 := hide (fun q => unhide HA _ _ w1 q (unhide HR1) (by omega))
      clear htot1 hy ho
      go_wp2_with fail
      go_quiet ((go_at_call 44; exact Calls.quiet_of (unhide HW1 _)))
      go_wp2_with fail
      refine (unhide HA1 _).mono ?_
      rintro e w2 ⟨rfl, yw2, ow2, hr2⟩
      have HR3 := hide hr2
      have HH2 := hide (unhide HR2 _ _ _ hr2)
      clear hr2 c0 c1 c2 c4 c6 f2 HW1 HQ1 wa1 wb1 hyi1 ta1 tb1
      obtain ⟨c0, c1, c2, c4, c6, f2, hy, ho⟩ := unhide HH2
      have HW2 := hide (unhide HH2).words
      generalize htot2 : ((yw2 + ow2 : Nat) : Int) = tot2 at HW2
      have HQ2 : Hid (∀ A k, Calls Try.prog 44 #[.pointer (some ⟨sb, 0, none⟩)] (w2.drewN (A + k)) fun e w' => e = .returned (.int .i64 tot2) ∧ ∃ m, w' = w2.drewN (A + m)) := fun A k => (unhide HW2 (A + k)).mono (by rintro e w' ⟨he, n, hn⟩; exact ⟨he, k + n, by rw [hn, World.drewN_drewN, Nat.add_assoc]⟩)
      have hyi2 : (yw2 : Int) ≤ 4294967296 := by omega
      have ta2 : (0 : Int) ≤ tot2 := by omega
      have tb2 : tot2 ≤ 8589934592 := by omega
      have wa2 : IntKind.i64.wrap ((lim : Int) - tot2) = (lim : Int) - tot2 := wrap_id _ (by omega) (by omega)
      have wb2 : IntKind.i64.wrap ((room : Int) - (yw2 : Int)) = (room : Int) - (yw2 : Int) := wrap_id _ (by omega) (by omega)
      have HU := hide (until61_any sb lim (yw2 + ow2) sz w2 c0 (by omega) (by omega) (by omega) (by rw [htot2]; exact HW2))
      have hdec : decide (sz + (yw2 + ow2) ≤ lim) = decide ((sz : Int) ≤ (lim : Int) - tot2) := by rw [Bool.eq_iff_iff]; simp; omega
      have Hdec := hide hdec
      clear hdec
      have Ht2 := hide htot2
      clear htot2 hy ho
      go_wp2_with fail
      refine (unhide HU).mono ?_
      rintro e w3 ⟨rfl, n3, hw3⟩
      subst w3
      go_wp2_with fail
      have d0 : ((w2.drewN n3).setCell ⟨sb, 2, none⟩ (.int .i64 (lim : Int))).cell? ⟨sb, 0, none⟩ = some (.int .i64 (lim : Int)) := by rw [cell_other (by omega)]; exact c0
      have d4 : ((w2.drewN n3).setCell ⟨sb, 2, none⟩ (.int .i64 (lim : Int))).cell? ⟨sb, 4, none⟩ = some (.int .i64 (yw2 : Int)) := by rw [cell_other (by omega)]; exact c4
      have d6 : ((w2.drewN n3).setCell ⟨sb, 2, none⟩ (.int .i64 (lim : Int))).cell? ⟨sb, 6, none⟩ = some (.int .i64 (ow2 : Int)) := by rw [cell_other (by omega)]; exact c6
      have HWx := hide (fun q => words44_any sb yw2 ow2 (((w2.drewN n3).setCell ⟨sb, 2, none⟩ (.int .i64 (lim : Int))).drewN q) d4 d6 (unhide HH2).hy (unhide HH2).ho)
      rw [unhide Ht2] at HWx
      have HE : Hid (∃ n m, (w2.drewN n3).setCell ⟨sb, 2, none⟩ (.int .i64 (lim : Int)) = ((w2.drewN n).setCell ⟨sb, 2, none⟩ (.int .i64 (lim : Int))).drewN m) := ⟨n3, 0, rfl⟩
      generalize (w2.drewN n3).setCell ⟨sb, 2, none⟩ (.int .i64 (lim : Int)) = w4 at d0 d4 d6 HWx HE ⊢
      clear c0 c1 c2 c4 c6 f2
      go_quiet ((go_at_call 44; exact Calls.quiet_of (unhide HWx _)))
      go_wp2
      go_ret
      obtain ⟨n, m, hnm⟩ := unhide HE
      refine .inr ⟨yw2, ow2, w2, n, m + nq, ?_, unhide HR3, by rw [hnm, World.drewN_drewN]⟩
      rw [unhide Hdec]
      first | rfl | simp
    · have a4 : (sz : Int) ≤ (lim : Int) - tot1 := by omega
      have HJ2 := hide (fun q => unhide HJ1 _ _ w1 q (unhide HR1) (by omega))
      clear htot1 hy ho
      go_wp2_with fail
      go_quiet ((go_at_call 44; exact Calls.quiet_of (unhide HW1 _)))
      go_wp2_with fail
      go_quiet ((go_at_call 44; exact unhide HQ1 _ _))
      go_wp2
      go_ret
      refine .inl ⟨rfl, ?_⟩
      rw [World.drewN_drewN]; exact unhide HJ2 _
end Rs
end Go.Proofs.Ytaapakpanbfmlaa
