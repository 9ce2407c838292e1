/-
  pool.Read.
-/
import Derived.Test.YtlihhfijigoklaaPool
namespace Go.Proofs.Ytlihhfijigoklaa
open Go.RowKit
set_option maxHeartbeats 400000 in
theorem NewReader_any (s : ByteArray) (w : World) :
    Calls Try.prog 23 #[.string s] w fun e w' => e = .returned (.agg #[.string s, .int .i64 0, .int .i64 0, .int .i64 0]) ∧ Below w.heap.size w w' := by
  go_enter Try.func23, Try.ntmps23
  go_wp2
  exact bodyPost_ret (v := .agg #[.string s, .int .i64 0, .int .i64 0, .int .i64 0]) (by simp [results, Try.results23, go_sem]) rfl ⟨rfl, (Below.refl _ _).alloc (Nat.le_refl _) _⟩
/-- What Read gives. -/
def Out (w0 w : World) (v : Value) (l : List K) : Prop := (l = [] ∧ v = .slice none 0 0) ∨ ∃ B, w0.heap.size ≤ B ∧ w.ownsRow B 43 5 v l.length (KC l)
def Readed (s : ByteArray) (w : World) (e : Ending) (w' : World) : Prop :=
  ∃ l n x p v, ReadRes s.data.toList (l, n, x, p) ∧ e = .returned (.tuple #[v, .int .i64 (n : Nat), .int .i64 (x : Nat), .int .i64 (p : Nat)]) ∧ Out w w' v l ∧ Below w.heap.size w w'
set_option maxRecDepth 100000 in
set_option maxHeartbeats 1000000 in
theorem Read_any (s : ByteArray) (w : World) (hs : s.size ≤ 131072) :
    Calls Try.prog 12 #[.string s] w fun e w' => Readed s w e w' := by
  have hpool : ∀ w0 R w, At w0 w R s ⟨0, 0, 0⟩ 0 (.slice none 0 0) [] → Calls Try.prog 24 #[.pointer (some ⟨R, 0, none⟩)] w fun e w' => Pooled w0 R s e w' := fun w0 R w h => by
    by_cases hb : s.size < 2 ∨ (2 ≤ s.size ∧ M.num (s.data.toList.take 2) = 0)
    · exact pool_bad w0 R s w h hs hb
    · exact pool_any w0 R s w h hs (by omega) (by omega)
  have Hpool := hide hpool
  clear hpool
  go_enter Try.func12, Try.ntmps12
  go_wp2_with fail
  refine (NewReader_any s w).mono ?_
  rintro e w1 ⟨rfl, hb1⟩
  go_wp2_with fail
  have hA0 : At w1 (w1.alloc (.cells #[.string s, .int .i64 0, .int .i64 0, .int .i64 0, .int .i64 0, .slice none 0 0] 56)) w1.heap.size s ⟨0, 0, 0⟩ 0 (.slice none 0 0) [] :=
    ⟨heap_alloc_new w1 _, World.ownsRow_nil _ _ _ _, (Below.refl _ _).alloc (Nat.le_refl _) _⟩
  refine (unhide Hpool w1 w1.heap.size _ hA0).mono ?_
  rintro e w2 ⟨rfl, st, n, v, l, hA, hok, hbad⟩
  have hb2 : Below w.heap.size w w2 := hb1.trans (hA.old.mono hb1.size)
  obtain ⟨R, hR⟩ : ∃ R, R = w1.heap.size := ⟨_, rfl⟩
  have hRw : w.heap.size ≤ R := by rw [hR]; exact hb1.size
  rw [← hR] at hA ⊢
  clear hA0 Hpool hb1 hR
  go_wp2_with fail
  refine (Err_any R s st _ v w2 hA.rd).mono ?_
  rintro e w3 ⟨rfl, k, hk⟩
  have hA3 : At w1 w3 R s st n v l := by rw [hk]; exact ⟨hA.rd, hA.own, below_drewN hA.old _⟩
  have hb3 : Below w.heap.size w w3 := by rw [hk]; exact below_drewN hb2 _
  clear hk hA hb2
  have hA := hA3
  have hb2 := hb3
  clear hA3 hb3
  obtain ⟨d0, d1, d2, d3, d4, d5⟩ := hA.rd.cells
  by_cases he : st.e = 0
  · have hok := hok he
    have heb : ((st.e : Int) != 0) = false := by rw [he]; rfl
    have hat : ∀ j, Calls Try.prog 26 #[.pointer (some ⟨R, 0, none⟩)] (w3.drewN j) fun e w' => e = .returned (.int .i64 (st.pos : Int)) ∧ w' = w3.drewN j := fun j =>
      At_any R s st _ v _ (hA.rd.drewN j)
    have Hat := hide hat
    clear hat hbad he
    obtain ⟨a, c, rfl⟩ := own_len hA.own
    go_wp2_with fail
    go_quiet ((go_at_call 26; exact Calls.quiet_of_same (unhide Hat _)))
    go_wp2
    refine bodyPost_ret (v := .tuple #[.slice a l.length c, .int .i64 (st.pos : Int), .int .i64 0, .int .i64 0]) (by simp [results, Try.results12, go_sem]) rfl ?_
    exact ⟨l, st.pos, 0, 0, _, hok, rfl, .inr ⟨R + 1, by omega, hA.own⟩, below_drewN hb2 _⟩
  · have hbad := hbad he
    have heb : ((st.e : Int) != 0) = true := by rw [bne_iff_ne]; omega
    clear hok he
    go_wp2
    refine bodyPost_ret (v := .tuple #[.slice none 0 0, .int .i64 0, .int .i64 (st.e : Int), .int .i64 (st.p : Int)]) (by simp [results, Try.results12, go_sem]) rfl ?_
    exact ⟨[], 0, st.e, st.p, _, hbad, rfl, .inl ⟨rfl, rfl⟩, hb2⟩
end Go.Proofs.Ytlihhfijigoklaa
