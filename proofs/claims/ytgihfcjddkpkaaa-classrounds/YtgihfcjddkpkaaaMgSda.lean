/-
  sameTypes, sameFrames: lists that are the same, by the statement's own reckoning.
  sameTypes, sameFrames, samePool: lists that are the same, however long they are (the sum that 'weight' builds may pass its type's end).
  sameCode, of code of any numbers.
-/
import Derived.Test.YtgihfcjddkpkaaaMgCn
import Derived.Test.YtgihfcjddkpkaaaKn
import Derived.Test.YtgihfcjddkpkaaaYf
import Derived.Lib.QuietBelow
namespace Go.Proofs.Ytgihfcjddkpkaaa
open Go.RowKit
set_option maxRecDepth 100000 in
set_option maxHeartbeats 2000000 in
theorem sameTypes_eq (v u : Value) (xs : List T) (w : World) (h1 : TIn w v xs) (h2 : TIn w u xs) (hl : xs.length ≤ 1048576) : Calls Try.prog 14 #[v, u] w fun x w' => x = .returned (.bool true) ∧ ∃ n, w' = w.drewN n := by
  obtain ⟨a1, c1, rfl, hc1⟩ := h1
  obtain ⟨a2, c2, rfl, hc2⟩ := h2
  have H1 := hide hc1
  have H2 := hide hc2
  clear hc1 hc2
  have hll : (((xs.length : Nat) : Int) != ((xs.length : Nat) : Int)) = false := by simp
  go_enter Try.func14, Try.ntmps14
  go_wp2_with fail
  go_loopw [13] (fun i wr => ∃ k n : Nat, k ≤ xs.length ∧ i = .int .i64 k ∧ wr = w.drewN n) (fun i _ => xs.length - (intOf i).toNat)
  case atStart => exact ⟨0, 0, Nat.zero_le _, rfl, rfl⟩
  case round =>
    obtain ⟨k, n, hk, rfl, rfl⟩ := hrel
    by_cases hlt : k < xs.length
    · have hne : xs ≠ [] := by rintro rfl; simp at hlt
      obtain ⟨b1, o1, rfl, q1⟩ := unhide H1 hne
      obtain ⟨b2, o2, rfl, q2⟩ := unhide H2 hne
      obtain ⟨x, hx⟩ : ∃ x, x = xs.getD k T.zero := ⟨_, rfl⟩
      have r0 := q1 k hlt 0 (by omega)
      have r1 := q1 k hlt 1 (by omega)
      have r2 := q1 k hlt 2 (by omega)
      have s0 := q2 k hlt 0 (by omega)
      have s1 := q2 k hlt 1 (by omega)
      have s2 := q2 k hlt 2 (by omega)
      rw [← hx] at r0 r1 r2 s0 s1 s2
      simp [T.cells] at r0 r1 r2 s0 s1 s2
      clear q1 q2 hx H1 H2 hne
      have ki : (k : Int) < (xs.length : Int) := by omega
      go_wp2_with fail
      go_quiet (fail)
      go_wp2
      go_roundw
      case rel => exact ⟨k + 1, _, by omega, by go_num, rfl⟩
      case measure => simp [intOf]; omega
    · have ki : (xs.length : Int) ≤ (k : Int) := by omega
      go_wp2
      go_ret
      exact ⟨rfl, _, rfl⟩
theorem TIn.drewN {w : World} {v : Value} {L : List T} (h : TIn w v L) (n : Nat) : TIn (w.drewN n) v L := h
set_option maxRecDepth 100000 in
set_option maxHeartbeats 4000000 in
theorem sameFrames_eq (v u : Value) (L K : List J) (w : World) (h1 : Has w v L) (h2 : Has w u K) (he : L.map J.f = K.map J.f) (hl : L.length ≤ 1048576) (hb : ∀ j ∈ L, j.f.locals.length ≤ 1048576 ∧ j.f.stack.length ≤ 1048576) :
    Calls Try.prog 10 #[v, u] w fun x w' => x = .returned (.bool true) ∧ ∃ n, w' = w.drewN n := by
  have hlk : L.length = K.length := by have := congrArg List.length he; simpa using this
  obtain ⟨⟨a1, c1, rfl, hc1⟩, ho1⟩ := h1
  obtain ⟨⟨a2, c2, rfl, hc2⟩, ho2⟩ := h2
  rw [← hlk]
  have H1 := hide hc1
  have H2 := hide hc2
  have O1 := hide ho1
  have O2 := hide ho2
  have HE := hide he
  have HB := hide hb
  have HL := hide hlk
  clear hc1 hc2 ho1 ho2 he hb hlk
  have hll : (((L.length : Nat) : Int) != ((L.length : Nat) : Int)) = false := by simp
  go_enter Try.func10, Try.ntmps10
  go_wp2_with fail
  go_loopw [13] (fun i wr => ∃ k n : Nat, k ≤ L.length ∧ i = .int .i64 k ∧ wr = w.drewN n) (fun i _ => L.length - (intOf i).toNat)
  case atStart => exact ⟨0, 0, Nat.zero_le _, rfl, rfl⟩
  case round =>
    obtain ⟨k, n, hk, rfl, hwr⟩ := hrel
    have Hwr := hide hwr
    clear hwr
    by_cases hlt : k < L.length
    · have hlt2 : k < K.length := by rw [← unhide HL]; exact hlt
      have hne : L ≠ [] := by rintro rfl; simp at hlt
      have hne2 : K ≠ [] := by rintro rfl; simp at hlt2
      obtain ⟨b1, o1, rfl, q1⟩ := unhide H1 hne
      obtain ⟨b2, o2, rfl, q2⟩ := unhide H2 hne2
      have hij : (L[k]).f = (K[k]).f := by
        have := congrArg (fun l => l[k]?) (unhide HE)
        simpa [hlt, hlt2] using this
      obtain ⟨x0, x1, x2⟩ := At3.of (q1 k hlt)
      obtain ⟨y0, y1, y2⟩ := At3.of (q2 k hlt2)
      obtain ⟨m1, m2⟩ := unhide O1 _ (List.getElem_mem hlt)
      obtain ⟨n1, n2⟩ := unhide O2 _ (List.getElem_mem hlt2)
      obtain ⟨d1, d2⟩ := unhide HB _ (List.getElem_mem hlt)
      have hcell : ∀ a, wr.cell? a = w.cell? a := fun a => by rw [unhide Hwr]; rfl
      rw [← hcell] at x0 x1 x2 y0 y1 y2
      have hbw : Below w.heap.size w wr := by rw [unhide Hwr]; exact ⟨rfl, rfl, rfl, Nat.le_refl _, fun _ _ => rfl⟩
      have m1 := m1.below hbw
      have m2 := m2.below hbw
      have n1 := n1.below hbw
      have n2 := n2.below hbw
      clear hcell hbw
      rw [← hij] at n1 n2 y0
      generalize (L[k]).f = f at *
      generalize (L[k]).lv = kx at *
      generalize (L[k]).sv = tx at *
      generalize (K[k]).lv = ky at *
      generalize (K[k]).sv = ty at *
      have HKf := hide (fun m => sameTypes_eq kx ky f.locals (wr.drewN m) (m1.drewN m) (n1.drewN m) d1)
      have HTf := hide (fun m => sameTypes_eq tx ty f.stack (wr.drewN m) (m2.drewN m) (n2.drewN m) d2)
      obtain ⟨p1, p2, e1, _⟩ := m1
      obtain ⟨p3, p4, e2, _⟩ := m2
      obtain ⟨p5, p6, e3, _⟩ := n1
      obtain ⟨p7, p8, e4, _⟩ := n2
      subst e1 e2 e3 e4
      clear H1 H2 O1 O2 HE HB q1 q2 hne hne2 hij d1 d2
      have ki : (k : Int) < (L.length : Int) := by omega
      have f0 : (f.at_ != f.at_) = false := by simp
      go_wp2_with fail
      go_quiet (first | (go_at_call_of 14 p1; exact Calls.quiet_of (unhide HKf _)) | (go_at_call_of 14 p3; exact Calls.quiet_of (unhide HTf _)))
      go_wp2
      go_roundw
      case rel => exact ⟨k + 1, n + nq, by omega, by go_num, by rw [unhide Hwr, World.drewN_drewN]⟩
      case measure => simp [intOf]; omega
    · have ki : (L.length : Int) ≤ (k : Int) := by omega
      go_wp2
      go_ret
      exact ⟨rfl, n, unhide Hwr⟩
end Go.Proofs.Ytgihfcjddkpkaaa
namespace Go.Proofs.Ytgihfcjddkpkaaa
open Go.RowKit
set_option maxRecDepth 100000 in
set_option maxHeartbeats 2000000 in
theorem sameTypesG_eq (v u : Value) (xs : List T) (w : World) (h1 : TIn w v xs) (h2 : TIn w u xs) (hl : xs.length ≤ 70368744177664) : Calls Try.prog 14 #[v, u] w fun x w' => x = .returned (.bool true) ∧ ∃ n, w' = w.drewN n := by
  obtain ⟨a1, c1, rfl, hc1⟩ := h1
  obtain ⟨a2, c2, rfl, hc2⟩ := h2
  have H1 := hide hc1
  have H2 := hide hc2
  clear hc1 hc2
  have hll : (((xs.length : Nat) : Int) != ((xs.length : Nat) : Int)) = false := by simp
  go_enter Try.func14, Try.ntmps14
  go_wp2_with fail
  go_loopw [13] (fun i wr => ∃ k n : Nat, k ≤ xs.length ∧ i = .int .i64 k ∧ wr = w.drewN n) (fun i _ => xs.length - (intOf i).toNat)
  case atStart => exact ⟨0, 0, Nat.zero_le _, rfl, rfl⟩
  case round =>
    obtain ⟨k, n, hk, rfl, rfl⟩ := hrel
    by_cases hlt : k < xs.length
    · have hne : xs ≠ [] := by rintro rfl; simp at hlt
      obtain ⟨b1, o1, rfl, q1⟩ := unhide H1 hne
      obtain ⟨b2, o2, rfl, q2⟩ := unhide H2 hne
      obtain ⟨x, hx⟩ : ∃ x, x = xs.getD k T.zero := ⟨_, rfl⟩
      have r0 := q1 k hlt 0 (by omega)
      have r1 := q1 k hlt 1 (by omega)
      have r2 := q1 k hlt 2 (by omega)
      have s0 := q2 k hlt 0 (by omega)
      have s1 := q2 k hlt 1 (by omega)
      have s2 := q2 k hlt 2 (by omega)
      rw [← hx] at r0 r1 r2 s0 s1 s2
      simp [T.cells] at r0 r1 r2 s0 s1 s2
      clear q1 q2 hx H1 H2 hne
      have ki : (k : Int) < (xs.length : Int) := by omega
      go_wp2_with fail
      go_quiet (fail)
      go_wp2
      go_roundw
      case rel => exact ⟨k + 1, _, by omega, by go_num, rfl⟩
      case measure => simp [intOf]; omega
    · have ki : (xs.length : Int) ≤ (k : Int) := by omega
      go_wp2
      go_ret
      exact ⟨rfl, _, rfl⟩
set_option maxRecDepth 100000 in
set_option maxHeartbeats 4000000 in
theorem sameFramesG_eq (v u : Value) (L K : List J) (w : World) (h1 : Has w v L) (h2 : Has w u K) (he : L.map J.f = K.map J.f) (hl : L.length ≤ 70368744177664) (hb : ∀ j ∈ L, j.f.locals.length ≤ 70368744177664 ∧ j.f.stack.length ≤ 70368744177664) :
    Calls Try.prog 10 #[v, u] w fun x w' => x = .returned (.bool true) ∧ ∃ n, w' = w.drewN n := by
  have hlk : L.length = K.length := by have := congrArg List.length he; simpa using this
  obtain ⟨⟨a1, c1, rfl, hc1⟩, ho1⟩ := h1
  obtain ⟨⟨a2, c2, rfl, hc2⟩, ho2⟩ := h2
  rw [← hlk]
  have H1 := hide hc1
  have H2 := hide hc2
  have O1 := hide ho1
  have O2 := hide ho2
  have HE := hide he
  have HB := hide hb
  have HL := hide hlk
  clear hc1 hc2 ho1 ho2 he hb hlk
  have hll : (((L.length : Nat) : Int) != ((L.length : Nat) : Int)) = false := by simp
  go_enter Try.func10, Try.ntmps10
  go_wp2_with fail
  go_loopw [13] (fun i wr => ∃ k n : Nat, k ≤ L.length ∧ i = .int .i64 k ∧ wr = w.drewN n) (fun i _ => L.length - (intOf i).toNat)
  case atStart => exact ⟨0, 0, Nat.zero_le _, rfl, rfl⟩
  case round =>
    obtain ⟨k, n, hk, rfl, hwr⟩ := hrel
    have Hwr := hide hwr
    clear hwr
    by_cases hlt : k < L.length
    · have hlt2 : k < K.length := by rw [← unhide HL]; exact hlt
      have hne : L ≠ [] := by rintro rfl; simp at hlt
      have hne2 : K ≠ [] := by rintro rfl; simp at hlt2
      obtain ⟨b1, o1, rfl, q1⟩ := unhide H1 hne
      obtain ⟨b2, o2, rfl, q2⟩ := unhide H2 hne2
      have hij : (L[k]).f = (K[k]).f := by
        have := congrArg (fun l => l[k]?) (unhide HE)
        simpa [hlt, hlt2] using this
      obtain ⟨x0, x1, x2⟩ := At3.of (q1 k hlt)
      obtain ⟨y0, y1, y2⟩ := At3.of (q2 k hlt2)
      obtain ⟨m1, m2⟩ := unhide O1 _ (List.getElem_mem hlt)
      obtain ⟨n1, n2⟩ := unhide O2 _ (List.getElem_mem hlt2)
      obtain ⟨d1, d2⟩ := unhide HB _ (List.getElem_mem hlt)
      have hcell : ∀ a, wr.cell? a = w.cell? a := fun a => by rw [unhide Hwr]; rfl
      rw [← hcell] at x0 x1 x2 y0 y1 y2
      have hbw : Below w.heap.size w wr := by rw [unhide Hwr]; exact ⟨rfl, rfl, rfl, Nat.le_refl _, fun _ _ => rfl⟩
      have m1 := m1.below hbw
      have m2 := m2.below hbw
      have n1 := n1.below hbw
      have n2 := n2.below hbw
      clear hcell hbw
      rw [← hij] at n1 n2 y0
      generalize (L[k]).f = f at *
      generalize (L[k]).lv = kx at *
      generalize (L[k]).sv = tx at *
      generalize (K[k]).lv = ky at *
      generalize (K[k]).sv = ty at *
      have HKf := hide (fun m => sameTypesG_eq kx ky f.locals (wr.drewN m) (m1.drewN m) (n1.drewN m) d1)
      have HTf := hide (fun m => sameTypesG_eq tx ty f.stack (wr.drewN m) (m2.drewN m) (n2.drewN m) d2)
      obtain ⟨p1, p2, e1, _⟩ := m1
      obtain ⟨p3, p4, e2, _⟩ := m2
      obtain ⟨p5, p6, e3, _⟩ := n1
      obtain ⟨p7, p8, e4, _⟩ := n2
      subst e1 e2 e3 e4
      clear H1 H2 O1 O2 HE HB q1 q2 hne hne2 hij d1 d2
      have ki : (k : Int) < (L.length : Int) := by omega
      have f0 : (f.at_ != f.at_) = false := by simp
      go_wp2_with fail
      go_quiet (first | (go_at_call_of 14 p1; exact Calls.quiet_of (unhide HKf _)) | (go_at_call_of 14 p3; exact Calls.quiet_of (unhide HTf _)))
      go_wp2
      go_roundw
      case rel => exact ⟨k + 1, n + nq, by omega, by go_num, by rw [unhide Hwr, World.drewN_drewN]⟩
      case measure => simp [intOf]; omega
    · have ki : (L.length : Int) ≤ (k : Int) := by omega
      go_wp2
      go_ret
      exact ⟨rfl, n, unhide Hwr⟩
set_option maxRecDepth 100000 in
set_option maxHeartbeats 2000000 in
theorem samePoolG_eq (v u : Value) (P : List K) (w : World) (h1 : KIn w v P) (h2 : KIn w u P) (hl : P.length ≤ 70368744177664) : Calls Try.prog 15 #[v, u] w fun x w' => x = .returned (.bool true) ∧ ∃ n, w' = w.drewN n := by
  obtain ⟨a1, c1, rfl, hc1⟩ := h1.ex
  obtain ⟨a2, c2, rfl, hc2⟩ := h2.ex
  have H1 := hide hc1
  have H2 := hide hc2
  clear hc1 hc2 h1 h2
  have hll : (((P.length : Nat) : Int) != ((P.length : Nat) : Int)) = false := by simp
  go_enter Try.func15, Try.ntmps15
  go_wp2_with fail
  go_loopw [13] (fun i wr => ∃ k n : Nat, k ≤ P.length ∧ i = .int .i64 k ∧ wr = w.drewN n) (fun i _ => P.length - (intOf i).toNat)
  case atStart => exact ⟨0, 0, Nat.zero_le _, rfl, rfl⟩
  case round =>
    obtain ⟨k, n, hk, rfl, rfl⟩ := hrel
    by_cases hlt : k < P.length
    · have hne : P ≠ [] := by rintro rfl; simp at hlt
      obtain ⟨b1, o1, rfl, q1⟩ := unhide H1 hne
      obtain ⟨b2, o2, rfl, q2⟩ := unhide H2 hne
      obtain ⟨x, hx⟩ : ∃ x, x = P.getD k K.zero := ⟨_, rfl⟩
      have r0 := q1 k hlt 0 (by omega)
      have r1 := q1 k hlt 1 (by omega)
      have r2 := q1 k hlt 2 (by omega)
      have r3 := q1 k hlt 3 (by omega)
      have r4 := q1 k hlt 4 (by omega)
      have s0 := q2 k hlt 0 (by omega)
      have s1 := q2 k hlt 1 (by omega)
      have s2 := q2 k hlt 2 (by omega)
      have s3 := q2 k hlt 3 (by omega)
      have s4 := q2 k hlt 4 (by omega)
      rw [← hx] at r0 r1 r2 r3 r4 s0 s1 s2 s3 s4
      simp [K.cells] at r0 r1 r2 r3 r4 s0 s1 s2 s3 s4
      clear q1 q2 hx H1 H2 hne
      have ki : (k : Int) < (P.length : Int) := by omega
      go_wp2_with fail
      go_quiet (fail)
      go_wp2
      go_roundw
      case rel => exact ⟨k + 1, _, by omega, by go_num, rfl⟩
      case measure => simp [intOf]; omega
    · have ki : (P.length : Int) ≤ (k : Int) := by omega
      go_wp2
      go_ret
      exact ⟨rfl, _, rfl⟩
end Go.Proofs.Ytgihfcjddkpkaaa
namespace Go.Proofs.Ytgihfcjddkpkaaa.Cl
set_option linter.unusedVariables false
open Go.RowKit
/-- Code, as a value. -/
def cdv (c : Ci) (hv : Value) : Value := .agg #[.int .i64 (c.stack : Int), .int .i64 (c.locals : Int), .string ⟨c.bytes.toArray⟩, hv, .string ⟨c.map.toArray⟩]
set_option maxRecDepth 100000 in
set_option maxHeartbeats 2000000 in
theorem sameCode_eq (c : Ci) (v u : Value) (w : World) (h1 : FIn Hi.cells 4 Hi.zero w v c.handlers) (h2 : FIn Hi.cells 4 Hi.zero w u c.handlers) (hl : c.handlers.length ≤ 1048576) :
    Calls Try.prog 45 #[cdv c v, cdv c u] w fun x w' => x = .returned (.bool true) ∧ Below w.heap.size w w' := by
  unfold cdv
  obtain ⟨a1, c1, rfl, hc1⟩ := h1
  obtain ⟨a2, c2, rfl, hc2⟩ := h2
  obtain ⟨wA, hwA⟩ : ∃ wA, wA = (w.alloc (.cells #[.int .i64 (c.stack : Int), .int .i64 (c.locals : Int), .string ⟨c.bytes.toArray⟩, .slice a1 c.handlers.length c1, .string ⟨c.map.toArray⟩] 99)).alloc (.cells #[.int .i64 (c.stack : Int), .int .i64 (c.locals : Int), .string ⟨c.bytes.toArray⟩, .slice a2 c.handlers.length c2, .string ⟨c.map.toArray⟩] 99) := ⟨_, rfl⟩
  have b1 : Below w.heap.size w (w.alloc (.cells #[.int .i64 (c.stack : Int), .int .i64 (c.locals : Int), .string ⟨c.bytes.toArray⟩, .slice a1 c.handlers.length c1, .string ⟨c.map.toArray⟩] 99)) := (Below.refl _ _).alloc (Nat.le_refl _) _
  have b2 : Below w.heap.size w wA := by rw [hwA]; exact b1.alloc b1.size _
  have A1 : Bk wA w.heap.size #[.int .i64 (c.stack : Int), .int .i64 (c.locals : Int), .string ⟨c.bytes.toArray⟩, .slice a1 c.handlers.length c1, .string ⟨c.map.toArray⟩] 99 := by rw [hwA]; exact (Bk.new _ _ _).alloc _
  have A2 : Bk wA (w.heap.size + 1) #[.int .i64 (c.stack : Int), .int .i64 (c.locals : Int), .string ⟨c.bytes.toArray⟩, .slice a2 c.handlers.length c2, .string ⟨c.map.toArray⟩] 99 := by
    rw [hwA]; have := Bk.new (w.alloc (.cells #[.int .i64 (c.stack : Int), .int .i64 (c.locals : Int), .string ⟨c.bytes.toArray⟩, .slice a1 c.handlers.length c1, .string ⟨c.map.toArray⟩] 99)) #[.int .i64 (c.stack : Int), .int .i64 (c.locals : Int), .string ⟨c.bytes.toArray⟩, .slice a2 c.handlers.length c2, .string ⟨c.map.toArray⟩] 99; simpa using this
  have H1 := hide ((FIn.below (f := Hi.cells) (z := 4) (d := Hi.zero) (v := .slice a1 c.handlers.length c1) (l := c.handlers) Hi.len ⟨a1, c1, rfl, hc1⟩ b2))
  have H2 := hide ((FIn.below (f := Hi.cells) (z := 4) (d := Hi.zero) (v := .slice a2 c.handlers.length c2) (l := c.handlers) Hi.len ⟨a2, c2, rfl, hc2⟩ b2))
  have HB := hide b2
  have HwA := hide hwA
  have p0 := A1.cell 0
  have p1 := A1.cell 1
  have p2 := A1.cell 2
  have p3 := A1.cell 3
  have p4 := A1.cell 4
  have q0 := A2.cell 0
  have q1 := A2.cell 1
  have q2 := A2.cell 2
  have q3 := A2.cell 3
  have q4 := A2.cell 4
  simp at p0 p1 p2 p3 p4 q0 q1 q2 q3 q4
  have r1 : (((c.stack : Int) != (c.stack : Int)) : Bool) = false := by simp
  have r2 : (((c.locals : Int) != (c.locals : Int)) : Bool) = false := by simp
  have r3 : (((c.handlers.length : Nat) : Int) != ((c.handlers.length : Nat) : Int)) = false := by simp
  clear hc1 hc2 b1 b2 A1 A2 hwA
  go_enter Try.func45, Try.ntmps45
  go_upto_region 1 with fail
  rw [← unhide HwA]
  clear HwA
  go_wp2_with fail
  go_loopw [44] (fun i wr => ∃ k n : Nat, k ≤ c.handlers.length ∧ i = .int .i64 k ∧ wr = wA.drewN n) (fun i _ => c.handlers.length - (intOf i).toNat)
  case atStart => exact ⟨0, 0, Nat.zero_le _, rfl, rfl⟩
  case round =>
    obtain ⟨k, n, hk, rfl, rfl⟩ := hrel
    by_cases hlt : k < c.handlers.length
    · have hne : c.handlers ≠ [] := by intro e; rw [e] at hlt; simp at hlt
      obtain ⟨_, _, e1, G1⟩ := unhide H1
      obtain ⟨_, _, e2, G2⟩ := unhide H2
      cases e1
      cases e2
      obtain ⟨b1, o1, rfl, g1⟩ := G1 hne
      obtain ⟨b2, o2, rfl, g2⟩ := G2 hne
      obtain ⟨x, hx⟩ : ∃ x, x = c.handlers.getD k Hi.zero := ⟨_, rfl⟩
      have s0 := g1 k hlt 0 (by omega)
      have s1 := g1 k hlt 1 (by omega)
      have s2 := g1 k hlt 2 (by omega)
      have s3 := g1 k hlt 3 (by omega)
      have t0 := g2 k hlt 0 (by omega)
      have t1 := g2 k hlt 1 (by omega)
      have t2 := g2 k hlt 2 (by omega)
      have t3 := g2 k hlt 3 (by omega)
      rw [← hx] at s0 s1 s2 s3 t0 t1 t2 t3
      simp [Hi.cells] at s0 s1 s2 s3 t0 t1 t2 t3
      clear g1 g2 hx H1 H2 hne HB G1 G2
      have ki : (k : Int) < (c.handlers.length : Int) := by omega
      go_wp2_with fail
      go_quiet (fail)
      go_wp2
      go_roundw
      case rel => exact ⟨k + 1, _, by omega, by go_num, rfl⟩
      case measure => simp [intOf]; omega
    · have ki : (c.handlers.length : Int) ≤ (k : Int) := by omega
      go_wp2
      go_ret
      exact ⟨rfl, (unhide HB).os, (unhide HB).tape, (unhide HB).output, (unhide HB).size, (unhide HB).block⟩
end Go.Proofs.Ytgihfcjddkpkaaa.Cl
