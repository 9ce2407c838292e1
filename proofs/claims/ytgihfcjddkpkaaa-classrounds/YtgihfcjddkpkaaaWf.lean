/-
  Package maps: shared, formOf.
-/
import Derived.Test.YtgihfcjddkpkaaaMgWv
import Derived.Laws.StructEq
namespace Go.Proofs.Ytgihfcjddkpkaaa
open Go.RowKit Go.Maps
theorem held76 : Try.prog.stoodInHeld 76 = false := by kernel_rfl
theorem flds76 : Try.prog.underlying 76 = some (.struct (Try.prog.fieldsOf 76)) := by kernel_rfl
theorem agg_neq (x y : T) (W : World) : Sem.run Try.prog (binOp .neq 76 (.agg #[.int .u8 (x.tag : Int), .string ⟨x.name.toArray⟩, .int .i64 x.at_]) (.agg #[.int .u8 (y.tag : Int), .string ⟨y.name.toArray⟩, .int .i64 y.at_])) W = .ok (.bool (!(x.eqb y))) W := by
  have u3 := Try.underlying3
  have u5 := Try.underlying5
  have u9 := Try.underlying9
  rw [run_neq_struct, show (10000 : Nat) = 9999 + 1 from rfl, run_equalIn_agg W 9999 76 _ _ flds76 held76]
  simp only [Program.fieldsOf, Try.underlying76]
  go_simp
  have hc : ((x.tag : Int) = (y.tag : Int)) ↔ (x.tag = y.tag) := by omega
  by_cases h1 : x.tag = y.tag <;> by_cases h2 : x.name = y.name <;> by_cases h3 : x.at_ = y.at_ <;> simp [T.eqb, hc, h1, h2, h3]
set_option maxRecDepth 100000 in
set_option maxHeartbeats 2000000 in
theorem shared_any (v u : Value) (A B : List T) (w : World) (h1 : TIn w v A) (h2 : TIn w u B) (hA : A.length ≤ 1048576) (hB : B.length ≤ 1048576) : Calls Try.prog 63 #[v, u] w fun x w' => x = .returned (.int .i64 (M.sh A B : Nat)) ∧ ∃ n, w' = w.drewN n := by
  obtain ⟨a1, c1, rfl, hc1⟩ := h1
  obtain ⟨a2, c2, rfl, hc2⟩ := h2
  have H1 := hide hc1
  have H2 := hide hc2
  clear hc1 hc2
  obtain ⟨N, hN⟩ : ∃ N, N = min A.length B.length := ⟨_, rfl⟩
  have hNi : min (A.length : Int) (B.length : Int) = (N : Int) := by rw [hN]; omega
  have HN := hide hN
  have hNA : N ≤ A.length := by omega
  have hNB : N ≤ B.length := by omega
  clear hN
  go_enter Try.func63, Try.ntmps63
  go_wp2_with fail
  go_loopw [13] (fun i wr => ∃ k n : Nat, k ≤ N ∧ i = .int .i64 k ∧ Hid (∀ j, j < k → A.getD j T.zero = B.getD j T.zero) ∧ wr = w.drewN n) (fun i _ => N - (intOf i).toNat)
  case atStart => exact ⟨0, 0, Nat.zero_le _, rfl, fun _ h => by omega, rfl⟩
  case round =>
    obtain ⟨k, n, hk, rfl, He, rfl⟩ := hrel
    by_cases hlt : k < N
    · have ki : (k : Int) < (N : Int) := by omega
      have hkA : k < A.length := by omega
      have hkB : k < B.length := by omega
      have kA : (k : Int) < (A.length : Int) := by omega
      have kB : (k : Int) < (B.length : Int) := by omega
      obtain ⟨b1, o1, rfl, q1⟩ := unhide H1 (by rintro rfl; simp at hkA)
      obtain ⟨b2, o2, rfl, q2⟩ := unhide H2 (by rintro rfl; simp at hkB)
      have r0 := q1 k hkA 0 (by omega)
      have r1 := q1 k hkA 1 (by omega)
      have r2 := q1 k hkA 2 (by omega)
      have s0 := q2 k hkB 0 (by omega)
      have s1 := q2 k hkB 1 (by omega)
      have s2 := q2 k hkB 2 (by omega)
      obtain ⟨x, hx⟩ : ∃ x, x = A.getD k T.zero := ⟨_, rfl⟩
      obtain ⟨y, hy⟩ : ∃ y, y = B.getD k T.zero := ⟨_, rfl⟩
      rw [← hx] at r0 r1 r2
      rw [← hy] at s0 s1 s2
      simp [T.cells] at r0 r1 r2 s0 s1 s2
      by_cases hxy : x = y
      · subst hxy
        have he2 : ∀ j, j < k + 1 → A.getD j T.zero = B.getD j T.zero := fun j hj => by
          by_cases e : j = k
          · rw [e, ← hx, ← hy]
          · exact unhide He j (by omega)
        have He2 := hide he2
        clear q1 q2 hx hy H1 H2 he2
        go_wp2_with fail
        go_quiet (fail)
        go_wp2
        go_roundw
        case rel => exact ⟨k + 1, _, by omega, by go_num, He2, rfl⟩
        case measure => simp [intOf]; omega
      · have hsh : M.sh A B = k := M.sh_at hkA hkB (unhide He) (by rw [← getD_eq, ← getD_eq, ← hx, ← hy]; exact hxy)
        have Hsh := hide hsh
        have heq : x.eqb y = false := by rw [Bool.eq_false_iff]; exact fun e => hxy ((T.eqb_iff x y).1 e)
        have hne := agg_neq x y
        rw [heq, Bool.not_false] at hne
        clear q1 q2 hx hy H1 H2 hsh heq hxy
        go_wp2_with fail
        go_quiet (fail)
        go_wp2
        go_ret
        exact ⟨by rw [unhide Hsh]; rfl, _, World.drewN_drewN _ _ _⟩
    · have hkn : k = N := by omega
      subst hkn
      have ki : ¬ (k : Int) < (k : Int) := by omega
      have hsh : M.sh A B = k := M.sh_all hNA hNB (by have := unhide HN; omega) (unhide He)
      have Hsh := hide hsh
      clear hsh
      go_wp2
      go_ret
      exact ⟨by rw [unhide Hsh]; rfl, _, rfl⟩
set_option maxRecDepth 100000 in
set_option maxHeartbeats 4000000 in
theorem formOf_any (h less more d : Nat) (w : World) (hh : h ≤ 1000000) (hl : less ≤ 1000000) (hm : more ≤ 1000000) (hd : d ≤ 1000000) : Calls Try.prog 64 #[.int .i64 (h : Int), .int .i64 (less : Int), .int .i64 (more : Int), .int .i64 (d : Int)] w fun x w' => x = .returned (.int .i64 (M.form h less more d : Nat)) ∧ w' = w := by
  rcases (show (less = 0 ∧ more = 0 ∧ h = 0 ∧ d < 64) ∨ (less = 0 ∧ more = 0 ∧ h = 0 ∧ 64 ≤ d) ∨ (less = 0 ∧ more = 0 ∧ h = 1 ∧ d < 64) ∨ (less = 0 ∧ more = 0 ∧ h = 1 ∧ 64 ≤ d) ∨ (less = 0 ∧ more = 0 ∧ 1 < h) ∨ (less = 0 ∧ more ≠ 0 ∧ h = 0 ∧ more ≤ 3) ∨ (less = 0 ∧ more ≠ 0 ∧ h = 0 ∧ 3 < more) ∨ (less = 0 ∧ more ≠ 0 ∧ h ≠ 0) ∨ (less ≠ 0 ∧ h = 0 ∧ more = 0 ∧ less ≤ 3) ∨ (less ≠ 0 ∧ h = 0 ∧ more = 0 ∧ 3 < less) ∨ (less ≠ 0 ∧ h = 0 ∧ more ≠ 0) ∨ (less ≠ 0 ∧ h ≠ 0) by omega) with g | g | g | g | g | g | g | g | g | g | g | g
  · have hf : ((M.form h less more d : Nat) : Int) = (d : Int) := by
      have : M.form h less more d = d := by unfold M.form; (repeat' split) <;> omega
      omega
    have fl : (((less : Int) == 0) : Bool) = true := by rw [beq_iff_eq]; omega
    have fm : (((more : Int) == 0) : Bool) = true := by rw [beq_iff_eq]; omega
    have fa : (((h : Int) == 0) : Bool) = true := by rw [beq_iff_eq]; omega
    have q0 : (d : Int) < 64 := by omega
    have Hf := hide hf
    clear g hf
    go_enter Try.func64, Try.ntmps64
    go_wp2
    go_ret
    exact ⟨by rw [unhide Hf]; first | rfl | simp, rfl⟩
  · have hf : ((M.form h less more d : Nat) : Int) = 251 - (less : Int) := by
      have : M.form h less more d = 251 - less := by unfold M.form; (repeat' split) <;> omega
      omega
    have fl : (((less : Int) == 0) : Bool) = true := by rw [beq_iff_eq]; omega
    have fm : (((more : Int) == 0) : Bool) = true := by rw [beq_iff_eq]; omega
    have fa : (((h : Int) == 0) : Bool) = true := by rw [beq_iff_eq]; omega
    have fb : (((h : Int) == 1) : Bool) = false := by rw [beq_eq_false_iff_ne]; omega
    have q0 : ¬ (d : Int) < 64 := by omega
    have q1 : (less : Int) ≤ 3 := by omega
    have Hf := hide hf
    clear g hf
    go_enter Try.func64, Try.ntmps64
    go_wp2
    go_ret
    exact ⟨by rw [unhide Hf]; first | rfl | simp, rfl⟩
  · have hf : ((M.form h less more d : Nat) : Int) = 64 + (d : Int) := by
      have : M.form h less more d = 64 + d := by unfold M.form; (repeat' split) <;> omega
      omega
    have fl : (((less : Int) == 0) : Bool) = true := by rw [beq_iff_eq]; omega
    have fm : (((more : Int) == 0) : Bool) = true := by rw [beq_iff_eq]; omega
    have fa : (((h : Int) == 0) : Bool) = false := by rw [beq_eq_false_iff_ne]; omega
    have fb : (((h : Int) == 1) : Bool) = true := by rw [beq_iff_eq]; omega
    have q0 : (d : Int) < 64 := by omega
    have Hf := hide hf
    clear g hf
    go_enter Try.func64, Try.ntmps64
    go_wp2
    go_ret
    exact ⟨by rw [unhide Hf]; first | rfl | simp, rfl⟩
  · have hf : ((M.form h less more d : Nat) : Int) = 247 := by
      have : M.form h less more d = 247 := by unfold M.form; (repeat' split) <;> omega
      omega
    have fl : (((less : Int) == 0) : Bool) = true := by rw [beq_iff_eq]; omega
    have fm : (((more : Int) == 0) : Bool) = true := by rw [beq_iff_eq]; omega
    have fa : (((h : Int) == 0) : Bool) = false := by rw [beq_eq_false_iff_ne]; omega
    have fb : (((h : Int) == 1) : Bool) = true := by rw [beq_iff_eq]; omega
    have q0 : ¬ (d : Int) < 64 := by omega
    have Hf := hide hf
    clear g hf
    go_enter Try.func64, Try.ntmps64
    go_wp2
    go_ret
    exact ⟨by rw [unhide Hf]; first | rfl | simp, rfl⟩
  · have hf : ((M.form h less more d : Nat) : Int) = 255 := by
      have : M.form h less more d = 255 := by unfold M.form; (repeat' split) <;> omega
      omega
    have fl : (((less : Int) == 0) : Bool) = true := by rw [beq_iff_eq]; omega
    have fm : (((more : Int) == 0) : Bool) = true := by rw [beq_iff_eq]; omega
    have fa : (((h : Int) == 0) : Bool) = false := by rw [beq_eq_false_iff_ne]; omega
    have fb : (((h : Int) == 1) : Bool) = false := by rw [beq_eq_false_iff_ne]; omega
    have Hf := hide hf
    clear g hf
    go_enter Try.func64, Try.ntmps64
    go_wp2
    go_ret
    exact ⟨by rw [unhide Hf]; first | rfl | simp, rfl⟩
  · have hf : ((M.form h less more d : Nat) : Int) = 251 + (more : Int) := by
      have : M.form h less more d = 251 + more := by unfold M.form; (repeat' split) <;> omega
      omega
    have fl : (((less : Int) == 0) : Bool) = true := by rw [beq_iff_eq]; omega
    have fm : (((more : Int) == 0) : Bool) = false := by rw [beq_eq_false_iff_ne]; omega
    have fa : (((h : Int) == 0) : Bool) = true := by rw [beq_iff_eq]; omega
    have q0 : (more : Int) ≤ 3 := by omega
    have Hf := hide hf
    clear g hf
    go_enter Try.func64, Try.ntmps64
    go_wp2
    go_ret
    exact ⟨by rw [unhide Hf]; first | rfl | simp, rfl⟩
  · have hf : ((M.form h less more d : Nat) : Int) = 255 := by
      have : M.form h less more d = 255 := by unfold M.form; (repeat' split) <;> omega
      omega
    have fl : (((less : Int) == 0) : Bool) = true := by rw [beq_iff_eq]; omega
    have fm : (((more : Int) == 0) : Bool) = false := by rw [beq_eq_false_iff_ne]; omega
    have fa : (((h : Int) == 0) : Bool) = true := by rw [beq_iff_eq]; omega
    have q0 : ¬ (more : Int) ≤ 3 := by omega
    have Hf := hide hf
    clear g hf
    go_enter Try.func64, Try.ntmps64
    go_wp2
    go_ret
    exact ⟨by rw [unhide Hf]; first | rfl | simp, rfl⟩
  · have hf : ((M.form h less more d : Nat) : Int) = 255 := by
      have : M.form h less more d = 255 := by unfold M.form; (repeat' split) <;> omega
      omega
    have fl : (((less : Int) == 0) : Bool) = true := by rw [beq_iff_eq]; omega
    have fm : (((more : Int) == 0) : Bool) = false := by rw [beq_eq_false_iff_ne]; omega
    have fa : (((h : Int) == 0) : Bool) = false := by rw [beq_eq_false_iff_ne]; omega
    have Hf := hide hf
    clear g hf
    go_enter Try.func64, Try.ntmps64
    go_wp2
    go_ret
    exact ⟨by rw [unhide Hf]; first | rfl | simp, rfl⟩
  · have hf : ((M.form h less more d : Nat) : Int) = 251 - (less : Int) := by
      have : M.form h less more d = 251 - less := by unfold M.form; (repeat' split) <;> omega
      omega
    have fl : (((less : Int) == 0) : Bool) = false := by rw [beq_eq_false_iff_ne]; omega
    have fm : (((more : Int) == 0) : Bool) = true := by rw [beq_iff_eq]; omega
    have fa : (((h : Int) == 0) : Bool) = true := by rw [beq_iff_eq]; omega
    have q0 : (less : Int) ≤ 3 := by omega
    have Hf := hide hf
    clear g hf
    go_enter Try.func64, Try.ntmps64
    go_wp2
    go_ret
    exact ⟨by rw [unhide Hf]; first | rfl | simp, rfl⟩
  · have hf : ((M.form h less more d : Nat) : Int) = 255 := by
      have : M.form h less more d = 255 := by unfold M.form; (repeat' split) <;> omega
      omega
    have fl : (((less : Int) == 0) : Bool) = false := by rw [beq_eq_false_iff_ne]; omega
    have fm : (((more : Int) == 0) : Bool) = true := by rw [beq_iff_eq]; omega
    have fa : (((h : Int) == 0) : Bool) = true := by rw [beq_iff_eq]; omega
    have q0 : ¬ (less : Int) ≤ 3 := by omega
    have Hf := hide hf
    clear g hf
    go_enter Try.func64, Try.ntmps64
    go_wp2
    go_ret
    exact ⟨by rw [unhide Hf]; first | rfl | simp, rfl⟩
  · have hf : ((M.form h less more d : Nat) : Int) = 255 := by
      have : M.form h less more d = 255 := by unfold M.form; (repeat' split) <;> omega
      omega
    have fl : (((less : Int) == 0) : Bool) = false := by rw [beq_eq_false_iff_ne]; omega
    have fm : (((more : Int) == 0) : Bool) = false := by rw [beq_eq_false_iff_ne]; omega
    have fa : (((h : Int) == 0) : Bool) = true := by rw [beq_iff_eq]; omega
    have Hf := hide hf
    clear g hf
    go_enter Try.func64, Try.ntmps64
    go_wp2
    go_ret
    exact ⟨by rw [unhide Hf]; first | rfl | simp, rfl⟩
  · have hf : ((M.form h less more d : Nat) : Int) = 255 := by
      have : M.form h less more d = 255 := by unfold M.form; (repeat' split) <;> omega
      omega
    have fl : (((less : Int) == 0) : Bool) = false := by rw [beq_eq_false_iff_ne]; omega
    have fa : (((h : Int) == 0) : Bool) = false := by rw [beq_eq_false_iff_ne]; omega
    have Hf := hide hf
    clear g hf
    go_enter Try.func64, Try.ntmps64
    go_wp2
    go_ret
    exact ⟨by rw [unhide Hf]; first | rfl | simp, rfl⟩
end Go.Proofs.Ytgihfcjddkpkaaa
