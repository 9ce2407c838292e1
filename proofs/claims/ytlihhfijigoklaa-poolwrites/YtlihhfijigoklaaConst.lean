/-
  Constants as data; a law for an append inside a statement that leaves its order open.
-/
import Derived.Test.YtlihhfijigoklaaWireB
import Derived.Test.YtlihhfijigoklaaIsText
import Derived.Deep.RegionLaw
namespace Go.Proofs.Ytlihhfijigoklaa
open Go.RowKit
theorem step_append_own {P : Program} {ops : Array Oper} {o : Oper} {a : Act} {w : World} {K : Act → World → Prop} {Q : Exit → Act → World → Prop} {E : Prop} (hg : o.guard = none) (s x : Operand) (t : TypeId)
    (ho : o.op = .call { callee := .builtin .append, args := #[s, x], argTypes := #[t, t] })
    (base : Nat) (e : TypeId) (i : TypeInfo) (z : Value) (size bytes : Nat) (ht : P.underlying t = some (.slice e)) (hi : P.info? e = some i) (hz : i.zero = some z)
    (hsize : i.size = size) (hby : i.bytes = bytes) (hzs : z.cells.size = size) (hsz : 0 < size)
    (v : Value) (n : Nat) (xs : List Value) (hs : a.eval s = v) (hown : w.ownsRow base e size v n xs)
    (ad : Addr) (m c : Nat) (news : List Value) (hx : a.eval x = .slice (some ad) m c) (hl : news.length = m * size) (hnews : ∀ j u, news[j]? = some u → w.cell? (ad.add j) = some u) (h1 : ∀ u ∈ news, u.oneCell' = true)
    (h63 : n + m ≤ maxLen) (hbytes : (n + m) * bytes ≤ 140737488355328) (hbase : base ≤ w.heap.size)
    (h : ∀ v' w', w'.ownsRow base e size v' (n + m) (xs ++ news) → w.grownBy w' v.ownBlock → K (a.put o.dst v') w') :
    if Region.wanted o (yielded ops a.tmps) = true then Oper.wp P o a w K Q else E := by
  have hw : Region.wanted o (yielded ops a.tmps) = true := by simp [Region.wanted, hg]
  rw [if_pos hw]
  exact wp_append_own (P := P) w s x t ho base e i z size bytes ht hi hz hsize hby hzs hsz v n xs hs hown ad m c news hx hl hnews h1 h63 hbytes hbase (fun v' w' a b _ => h v' w' a b)
/-- A constant. -/
structure K where
  tag : Nat
  text : List UInt8
  bits : Nat
  a : Nat
  b : Nat
def K.zero : K := ⟨0, [], 0, 0, 0⟩
def K.cells (c : K) : List Value := [.int .u8 (c.tag : Int), .string ⟨c.text.toArray⟩, .int .u64 (c.bits : Int), .int .u16 (c.a : Int), .int .u16 (c.b : Int)]
def KC : List K → List Value
  | [] => []
  | c :: l => c.cells ++ KC l
theorem KC_append (a b : List K) : KC (a ++ b) = KC a ++ KC b := by
  induction a with
  | nil => rfl
  | cons c a ih => simp only [List.cons_append, KC, ih, List.append_assoc]
theorem KC_snoc (l : List K) (c : K) : KC (l ++ [c]) = KC l ++ c.cells := by rw [KC_append]; simp [KC]
theorem KC_length (l : List K) : (KC l).length = l.length * 5 := by
  induction l with
  | nil => rfl
  | cons c l ih => simp only [KC, List.length_append, List.length_cons, ih, K.cells, List.length_nil]; omega
theorem Try.info43 : (Try.prog.info? 43).map (fun i => (i.zero, i.size, i.bytes)) = some (some (.agg #[.int .u8 0, .string ⟨#[]⟩, .int .u64 0, .int .u16 0, .int .u16 0]), 5, 40) := by kernel_rfl
/-- A reader's list: its value owns the row of these constants. -/
def Own (w : World) (R : Nat) (v : Value) (l : List K) : Prop := w.ownsRow (R + 1) 43 5 v l.length (KC l)
theorem take_pos {s : List UInt8} {n : Nat} {st : St} (h : st.pos ≤ s.length) : (M.take s n st).2.pos ≤ s.length := by
  unfold M.take; split
  · split
    · exact h
    · simp only; omega
  · exact h
theorem fail_pos (st : St) (e p : Nat) : (M.fail st e p).pos = st.pos := by unfold M.fail; split <;> rfl
theorem one5 (c : K) : ∀ u ∈ c.cells, u.oneCell' = true := by
  intro u hu; simp [K.cells] at hu; rcases hu with rfl | rfl | rfl | rfl | rfl <;> rfl
theorem at5 {w : World} {g : Nat} {c : K} (h0 : w.cell? ⟨g, 0, none⟩ = some (.int .u8 (c.tag : Int))) (h1 : w.cell? ⟨g, 1, none⟩ = some (.string ⟨c.text.toArray⟩)) (h2 : w.cell? ⟨g, 2, none⟩ = some (.int .u64 (c.bits : Int)))
    (h3 : w.cell? ⟨g, 3, none⟩ = some (.int .u16 (c.a : Int))) (h4 : w.cell? ⟨g, 4, none⟩ = some (.int .u16 (c.b : Int))) : ∀ j u, c.cells[j]? = some u → w.cell? ((⟨g, 0, none⟩ : Addr).add j) = some u := by
  intro j u hj
  match j, hj with
  | 0, hj => simp [K.cells] at hj; subst hj; simpa [Addr.add] using h0
  | 1, hj => simp [K.cells] at hj; subst hj; simpa [Addr.add] using h1
  | 2, hj => simp [K.cells] at hj; subst hj; simpa [Addr.add] using h2
  | 3, hj => simp [K.cells] at hj; subst hj; simpa [Addr.add] using h3
  | 4, hj => simp [K.cells] at hj; subst hj; simpa [Addr.add] using h4
set_option maxHeartbeats 400000 in
theorem takesTwo_any (n : Nat) (w : World) (h : n < 256) : Calls Try.prog 39 #[.int .u8 (n : Int)] w fun e w' => e = .returned (.bool (decide (n = 5 ∨ n = 6))) ∧ w' = w := by
  by_cases h5 : n = 5
  · subst h5
    go_enter Try.func39, Try.ntmps39
    go_wp2
    go_ret
    exact ⟨rfl, rfl⟩
  · have e5 : ((n : Int) == 5) = false := by rw [beq_eq_false_iff_ne]; omega
    by_cases h6 : n = 6
    · subst h6
      go_enter Try.func39, Try.ntmps39
      go_wp2
      go_ret
      exact ⟨rfl, rfl⟩
    · have e6 : ((n : Int) == 6) = false := by rw [beq_eq_false_iff_ne]; omega
      rw [decide_eq_false (by omega)]
      clear h5 h6
      go_enter Try.func39, Try.ntmps39
      go_wp2
      go_ret
      exact ⟨rfl, rfl⟩
end Go.Proofs.Ytlihhfijigoklaa
