/-
  What MapWrites leans on: how long a map is; more frames than there may be; a copy of a pool.
-/
import Derived.Test.YtbgpkkbejbidlacTn
import Derived.Test.YtbgpkkbejbidlacTe
namespace Go.Proofs.Ytbgpkkbejbidlac
open Go.RowKit
namespace M
theorem vts_le {P : List K} : ∀ {L : List T} {b : List UInt8}, vts P L = .ok b → b.length ≤ 3 * L.length
  | [], b, h => by cases h; simp
  | t :: L, b, h => by
    rw [vts] at h
    cases hv : vt P t with
    | error e => rw [hv] at h; cases h
    | ok c =>
      rw [hv] at h
      simp only at h
      cases hw : vts P L with
      | error e => rw [hw] at h; cases h
      | ok d =>
        rw [hw] at h
        cases h
        have h1 := vt_len hv
        have h2 := vts_le hw
        rw [List.length_append, List.length_cons]; omega
theorem frw_le {P : List K} {f a : Fm} {b : List UInt8} (h : frw P f a = .ok b) : b.length ≤ 7 + 3 * (f.locals.length + f.stack.length) := by
  unfold frw at h
  split at h
  · cases h
  · cases hv : vts P (f.locals.drop (if ftag f a = 255 then 0 else sh f.locals a.locals)) with
    | error e => rw [hv] at h; cases h
    | ok b1 =>
      rw [hv] at h
      simp only at h
      cases hw : vts P f.stack with
      | error e => rw [hw] at h; cases h
      | ok b2 =>
        rw [hw] at h
        cases h
        have h1 := vts_le hv
        have h2 := vts_le hw
        rw [List.length_drop] at h1
        have l1 : (if 247 ≤ ftag f a then big (f.at_ - a.at_ - 1).toNat 2 else []).length ≤ 2 := by split <;> simp [big_len]
        have l2 : (if ftag f a = 255 then big f.locals.length 2 else []).length ≤ 2 := by split <;> simp [big_len]
        have l3 : (if ftag f a = 255 then big f.stack.length 2 else []).length ≤ 2 := by split <;> simp [big_len]
        simp only [List.length_append, List.length_cons]
        omega
theorem wrs_le {P : List K} : ∀ {L : List J} {a : Fm} {k : Nat} {b : List UInt8}, wrs P (L.map J.f) a k = .ok b → b.length ≤ 7 * L.length + 3 * wsum L
  | [], _, _, b, h => by cases h; simp
  | j :: L, a, k, b, h => by
    rw [List.map_cons, wrs] at h
    cases hv : frw P j.f a with
    | error e => rw [hv] at h; cases h
    | ok c =>
      rw [hv] at h
      simp only at h
      cases hw : wrs P (L.map J.f) j.f (k + 1) with
      | error e => rw [hw] at h; cases h
      | ok d =>
        rw [hw] at h
        cases h
        have h1 := frw_le hv
        have h2 := wrs_le hw
        rw [List.length_append, List.length_cons, wsum]; omega
end M
theorem wsum_take (L : List J) (k : Nat) : wsum (L.take k) ≤ wsum L := by
  have := wsum_app (L.take k) (L.drop k)
  rw [List.take_append_drop] at this
  omega
set_option maxRecDepth 100000 in
theorem Write_many (ad : Option Addr) (n c : Nat) (pad : Option Addr) (pn pc : Nat) (lad : Option Addr) (ln lc : Nat) (w : World) (hn : 65535 < n) :
    Calls Try.prog 9 #[.slice ad n c, .slice pad pn pc, .slice lad ln lc] w fun e w' => e = .returned (.tuple #[.string ⟨#[]⟩, .int .i64 12, .int .i64 0]) ∧ w' = w := by
  have q1 : (65535 : Int) < (n : Int) := by omega
  go_enter Try.func9, Try.ntmps9
  go_wp2
  go_ret3
  exact ⟨rfl, rfl⟩
set_option maxRecDepth 100000 in
theorem WriteMap_many (ad : Option Addr) (n c : Nat) (pad : Option Addr) (pn pc : Nat) (lad : Option Addr) (ln lc : Nat) (w : World) (hn : 65535 < n) :
    Calls Try.prog 13 #[.slice ad n c, .slice pad pn pc, .slice lad ln lc] w fun e w' => e = .returned (.tuple #[.string ⟨#[]⟩, .int .i64 12, .int .i64 0]) ∧ w' = w := by
  have q1 : (65535 : Int) < (n : Int) := by omega
  go_enter Try.func13, Try.ntmps13
  go_wp2
  go_ret3
  exact ⟨rfl, rfl⟩
def PC : List K → List Value
  | [] => []
  | c :: l => c.cells ++ PC l
theorem K.cells_len (c : K) : c.cells.length = 5 := rfl
theorem PC_length (l : List K) : (PC l).length = l.length * 5 := by
  induction l with
  | nil => rfl
  | cons c a ih => simp only [PC, List.length_append, ih, K.cells_len, List.length_cons]; omega
theorem PC_at (l : List K) (k i : Nat) (hk : k < l.length) (hi : i < 5) : (PC l)[k * 5 + i]? = (l.getD k K.zero).cells[i]? := by
  induction l generalizing k with
  | nil => simp at hk
  | cons c a ih =>
    cases k with
    | zero =>
      simp only [PC, Nat.zero_mul, Nat.zero_add]
      rw [List.getElem?_append_left (by rw [K.cells_len]; omega)]
      rfl
    | succ k =>
      simp only [PC]
      rw [List.getElem?_append_right (by rw [K.cells_len]; omega), K.cells_len, show (k + 1) * 5 + i - 5 = k * 5 + i by omega]
      exact ih k (by simpa using hk)
theorem PC_one (l : List K) : ∀ u ∈ PC l, u.oneCell' = true := by
  induction l with
  | nil => intro u h; cases h
  | cons c a ih =>
    intro u h
    rw [PC, List.mem_append] at h
    rcases h with h | h
    · simp only [K.cells, List.mem_cons, List.not_mem_nil, or_false] at h
      rcases h with rfl | rfl | rfl | rfl | rfl <;> rfl
    · exact ih u h
theorem Try.info78 : (Try.prog.info? 78).map (fun i => (i.zero, i.size, i.bytes)) = some (some (.agg #[.int .u8 0, .string ⟨#[]⟩, .int .u64 0, .int .u16 0, .int .u16 0]), 5, 40) := by kernel_rfl
theorem KIn.of_own {w : World} {B : Nat} {v : Value} {P : List K} (hf : ∀ c ∈ P, c.tag < 256 ∧ c.a < 65536 ∧ c.b < 65536) (h : w.ownsRow B 78 5 v P.length (PC P)) : KIn w v P := by
  refine ⟨hf, ?_⟩
  rcases h.2 with ⟨rfl, h0⟩ | ⟨g, cap, cur, rfl, h1⟩
  · exact ⟨none, 0, by rw [h0], fun hne => absurd (List.length_eq_zero_iff.1 h0) hne⟩
  · refine ⟨_, _, rfl, fun _ => ⟨g, 0, rfl, fun k hk i hi => ?_⟩⟩
    have e := PC_at P k i hk hi
    have hc : (P.getD k K.zero).cells[i]? = some ((P.getD k K.zero).cells[i]'(by rw [K.cells_len]; exact hi)) := List.getElem?_eq_getElem _
    rw [hc] at e ⊢
    have := h.cells (g := g) rfl (k * 5 + i) _ e
    rw [Addr.add_lit] at this
    rw [show 0 + k * 5 + i = 0 + (k * 5 + i) by omega]
    exact this
/-- append([]Const(nil), xs...): a copy. -/
theorem run_copyK (w : World) (ty : TypeId) (x : Value) (xs : List K) (h : KIn w x xs) (hl : xs.length * 40 ≤ 140737488355328) (B : Nat) (hB : B ≤ w.heap.size) :
    ∃ v' w', (Builtin.append_ #[22, 22] ty #[.slice none 0 0, x]).run Try.prog w = .ok v' w' ∧ w'.ownsRow B 78 5 v' xs.length (PC xs) ∧ Below w.heap.size w w' := by
  obtain ⟨i, hi, hz, hsize, hby⟩ := info_parts Try.info78
  obtain ⟨ad, cap, rfl, hc⟩ := h.ex
  by_cases h0 : xs = []
  · subst h0
    refine ⟨.slice none 0 0, w, ?_, World.ownsRow_nil _ _ _ _, Below.refl _ _⟩
    cases ad <;> simp [Builtin.append_, run_underlying Try.underlying22, sizeOf, typeInfo, hi, Builtin.lenOf, Builtin.firstCells, loadCells, loadCellsFrom]
  · obtain ⟨b, o, rfl, hk⟩ := hc h0
    obtain ⟨v', w', hr, h2, h3, _⟩ := run_append_own_at (P := Try.prog) w B 22 ty 78 i (.agg #[.int .u8 0, .string ⟨#[]⟩, .int .u64 0, .int .u16 0, .int .u16 0]) 5 40 Try.underlying22 hi hz hsize hby rfl (by decide) (.slice none 0 0) 0 [] (World.ownsRow_nil _ _ _ _) ⟨b, o, none⟩ xs.length cap (PC xs) (PC_length xs)
      (fun j u hj => by
        rw [Addr.add_lit]
        have hjl : j < xs.length * 5 := by rw [← PC_length]; exact (List.getElem?_eq_some_iff.1 hj).1
        have e := PC_at xs (j / 5) (j % 5) (by omega) (by omega)
        rw [show j / 5 * 5 + j % 5 = j by omega, hj] at e
        have := hk (j / 5) (by omega) (j % 5) (by omega)
        rw [← e, show o + j / 5 * 5 + j % 5 = o + j by omega] at this
        exact this)
      (PC_one xs) (by unfold maxLen; omega) (by omega) hB
    rw [Nat.zero_add, List.nil_append] at h2
    exact ⟨v', w', hr, h2, ⟨h3.os, h3.tape, h3.output, h3.size, fun k hk => h3.block k hk (by simp [Value.ownBlock])⟩⟩
theorem wpList_copyK (w : World) {ops : Array Oper} {rest : List Oper} {o : Oper} {a : Act} {Q : Exit → Act → World → Prop} (hgd : o.guard = none) (s x : Operand)
    (ho : o.op = .call { callee := .builtin .append, args := #[s, x], argTypes := #[22, 22] })
    (v : Value) (xs : List K) (hs : a.eval s = .slice none 0 0) (hx : a.eval x = v) (h : KIn w v xs) (hl : xs.length * 40 ≤ 140737488355328) (B : Nat) (hB : B ≤ w.heap.size)
    (hk : ∀ v' w', w'.ownsRow B 78 5 v' xs.length (PC xs) → Below w.heap.size w w' → wpList Try.prog ops Q rest (a.put o.dst v') w') : wpList Try.prog ops Q (o :: rest) a w := by
  refine wpList_plain hgd fun K hK => ?_
  obtain ⟨v', w', hr, h2, h3⟩ := run_copyK w o.type v xs h hl B hB
  unfold Oper.wp execOp
  simp only [ho, resolve, invoke, builtin, Sem.run_bind, Sem.run_pure, Result.andThen_ok, List.map_toArray, List.map_cons, List.map_nil, hs, hx, hr]
  exact hK _ _ (hk v' w' h2 h3)
end Go.Proofs.Ytbgpkkbejbidlac
