/-
  ClassWrites: copies of lists.
  ClassWrites: another.
-/
import Derived.Test.YtgihfcjddkpkaaaMgZk
import Derived.Deep.RegionHeld3
namespace Go.Proofs.Ytgihfcjddkpkaaa.Cl
set_option linter.unusedVariables false
set_option linter.unusedSimpArgs false
open Go.RowKit Go.Maps
theorem flat_len {α : Type} (f : α → List Value) (z : Nat) (hf : ∀ x, (f x).length = z) (l : List α) : (l.flatMap f).length = l.length * z := by
  induction l with
  | nil => simp
  | cons x l ih => rw [List.flatMap_cons, List.length_append, hf, ih, List.length_cons, Nat.succ_mul]; omega
/-- append(nil, l...): a copy of whatever can be read. -/
theorem run_copyF {α : Type} (f : α → List Value) (z : Nat) (d : α) (t ty e : TypeId) (i : TypeInfo) (zv : Value) (bytes : Nat) (ht : Try.prog.underlying t = some (.slice e)) (hi : Try.prog.info? e = some i) (hz : i.zero = some zv) (hsize : i.size = z) (hby : i.bytes = bytes) (hzs : zv.cells.size = z) (hz0 : 0 < z)
    (hf : ∀ x, (f x).length = z) (h1 : ∀ x, ∀ u ∈ f x, u.oneCell' = true) (w : World) (v : Value) (l : List α) (h : FIn f z d w v l) (hl : l.length ≤ 4000000) (hb : bytes ≤ 1000) :
    ∃ v' w', (Builtin.append_ #[t, t] ty #[.slice none 0 0, v]).run Try.prog w = .ok v' w' ∧ w'.ownsRow w.heap.size e z v' l.length (l.flatMap f) ∧ Below w.heap.size w w' := by
  obtain ⟨ad, cap, rfl, hc⟩ := h
  by_cases h0 : l = []
  · subst h0
    refine ⟨.slice none 0 0, w, ?_, World.ownsRow_nil _ _ _ _, Below.refl _ _⟩
    cases ad <;> simp [Builtin.append_, run_underlying ht, sizeOf, typeInfo, hi, Builtin.lenOf, Builtin.firstCells, loadCells, loadCellsFrom]
  · obtain ⟨b, o, rfl, hk⟩ := hc h0
    have hbb : l.length * bytes ≤ 4000000 * 1000 := Nat.mul_le_mul hl hb
    obtain ⟨v', w', hr, h2, h3, _⟩ := run_append_own_at (P := Try.prog) w w.heap.size t ty e i zv z bytes ht hi hz hsize hby hzs hz0 (.slice none 0 0) 0 [] (World.ownsRow_nil _ _ _ _) ⟨b, o, none⟩ l.length cap (l.flatMap f) (flat_len f z hf l)
      (fun j u hj => by
        rw [Addr.add_lit]
        have hjl : j < l.length * z := by rw [← flat_len f z hf l]; exact (List.getElem?_eq_some_iff.1 hj).1
        have hjk : j / z < l.length := Nat.div_lt_of_lt_mul (by rw [Nat.mul_comm]; exact hjl)
        have hjm : j % z < z := Nat.mod_lt _ hz0
        have hd : j / z * z + j % z = j := by rw [Nat.mul_comm]; exact Nat.div_add_mod j z
        have e1 := flat_at f z hf d l (j / z) (j % z) hjk hjm
        rw [hd] at e1
        have e2 := hk (j / z) hjk (j % z) hjm
        rw [show o + j / z * z + j % z = o + j by omega] at e2
        rw [e2, ← e1]; exact hj)
      (fun u hu => by obtain ⟨x, _, hx⟩ := List.mem_flatMap.1 hu; exact h1 x u hx) (by unfold maxLen; omega) (by simp only [Nat.zero_add]; omega) (Nat.le_refl _)
    rw [Nat.zero_add, List.nil_append] at h2
    exact ⟨v', w', hr, h2, ⟨h3.os, h3.tape, h3.output, h3.size, fun k hk => h3.block k hk (by simp [Value.ownBlock])⟩⟩
theorem KIn_F {w : World} {v : Value} {P : List K} (h : KIn w v P) : FIn K.cells 5 K.zero w v P := h.ex
theorem Kc_len (c : K) : c.cells.length = 5 := rfl
theorem KIn_of {w : World} {v : Value} {P : List K} (hf : ∀ c ∈ P, c.tag < 256 ∧ c.a < 65536 ∧ c.b < 65536) (h : FIn K.cells 5 K.zero w v P) : KIn w v P := ⟨hf, h⟩
theorem one_K (c : K) : ∀ u ∈ c.cells, u.oneCell' = true := by
  intro u h
  simp only [K.cells, List.mem_cons, List.not_mem_nil, or_false] at h
  rcases h with rfl | rfl | rfl | rfl | rfl <;> rfl
theorem one_U (x : Nat) : ∀ u ∈ Uc x, u.oneCell' = true := by
  intro u h
  simp only [Uc, List.mem_cons, List.not_mem_nil, or_false] at h
  subst h; rfl
theorem one_F (x : Fd) : ∀ u ∈ Fc x, u.oneCell' = true := by
  intro u h
  simp only [Fc, List.mem_cons, List.not_mem_nil, or_false] at h
  rcases h with rfl | rfl | rfl | rfl <;> rfl
theorem one_H (x : Hi) : ∀ u ∈ x.cells, u.oneCell' = true := by
  intro u h
  simp only [Hi.cells, List.mem_cons, List.not_mem_nil, or_false] at h
  rcases h with rfl | rfl | rfl | rfl <;> rfl
/-- The cells of a method whose handlers are a slice. -/
def Mc (x : Mi × Option Addr × Nat) : List Value := Mv.cells ⟨x.1, .slice x.2.1 x.1.code.handlers.length x.2.2⟩
theorem Mc_len (x : Mi × Option Addr × Nat) : (Mc x).length = 9 := rfl
theorem one_M (x : Mi × Option Addr × Nat) : ∀ u ∈ Mc x, u.oneCell' = true := by
  intro u h
  simp only [Mc, Mv.cells, List.mem_cons, List.not_mem_nil, or_false] at h
  rcases h with rfl | rfl | rfl | rfl | rfl | rfl | rfl | rfl | rfl <;> rfl
theorem infoK : (Try.prog.info? 78).map (fun i => (i.zero, i.size, i.bytes)) = some (some (.agg #[.int .u8 0, .string ⟨#[]⟩, .int .u64 0, .int .u16 0, .int .u16 0]), 5, 40) := by kernel_rfl
theorem infoU : (Try.prog.info? 39).map (fun i => (i.zero, i.size, i.bytes)) = some (some (.int .u16 0), 1, 2) := by kernel_rfl
theorem infoF : (Try.prog.info? 95).map (fun i => (i.zero, i.size, i.bytes)) = some (some (.agg #[.int .u16 0, .int .u16 0, .int .u16 0, .int .u16 0]), 4, 8) := by kernel_rfl
theorem infoH : (Try.prog.info? 152).map (fun i => (i.zero, i.size, i.bytes)) = some (some (.agg #[.int .i64 0, .int .i64 0, .int .i64 0, .int .u16 0]), 4, 32) := by kernel_rfl
theorem infoM : (Try.prog.info? 101).map (fun i => (i.zero, i.size, i.bytes)) = some (some (.agg #[.int .u16 0, .int .u16 0, .int .u16 0, .bool false, .int .i64 0, .int .i64 0, .string ⟨#[]⟩, .slice none 0 0, .string ⟨#[]⟩]), 9, 80) := by kernel_rfl
theorem wpList_copyF {α : Type} (f : α → List Value) (z : Nat) (d : α) (t e : TypeId) (zv : Value) (bytes : Nat) (ht : Try.prog.underlying t = some (.slice e)) (hinf : (Try.prog.info? e).map (fun i => (i.zero, i.size, i.bytes)) = some (some zv, z, bytes)) (hzs : zv.cells.size = z) (hz0 : 0 < z)
    (hf : ∀ x, (f x).length = z) (h1 : ∀ x, ∀ u ∈ f x, u.oneCell' = true) (w : World) {ops : Array Oper} {rest : List Oper} {o : Oper} {a : Act} {Q : Exit → Act → World → Prop} (hgd : o.guard = none) (s x : Operand)
    (ho : o.op = .call { callee := .builtin .append, args := #[s, x], argTypes := #[t, t] })
    (v : Value) (l : List α) (hs : a.eval s = .slice none 0 0) (hx : a.eval x = v) (h : FIn f z d w v l) (hl : l.length ≤ 4000000) (hb : bytes ≤ 1000)
    (hk : ∀ v' w', w'.ownsRow w.heap.size e z v' l.length (l.flatMap f) → Below w.heap.size w w' → wpList Try.prog ops Q rest (a.put o.dst v') w') : wpList Try.prog ops Q (o :: rest) a w := by
  refine wpList_plain hgd fun K hK => ?_
  obtain ⟨i, hi, hz, hsize, hby⟩ := info_parts hinf
  obtain ⟨v', w', hr, h2, h3⟩ := run_copyF f z d t o.type e i zv bytes ht hi hz hsize hby hzs hz0 hf h1 w v l h hl hb
  unfold Oper.wp execOp
  simp only [ho, resolve, invoke, builtin, Sem.run_bind, Sem.run_pure, Result.andThen_ok, List.map_toArray, List.map_cons, List.map_nil, hs, hx, hr]
  exact hK _ _ (hk v' w' h2 h3)
theorem oper_copyF {α : Type} (f : α → List Value) (z : Nat) (d : α) (t e : TypeId) (zv : Value) (bytes : Nat) (ht : Try.prog.underlying t = some (.slice e)) (hinf : (Try.prog.info? e).map (fun i => (i.zero, i.size, i.bytes)) = some (some zv, z, bytes)) (hzs : zv.cells.size = z) (hz0 : 0 < z)
    (hf : ∀ x, (f x).length = z) (h1 : ∀ x, ∀ u ∈ f x, u.oneCell' = true) {w : World} {o : Oper} {a : Act} {K : Act → World → Prop} {Q : Exit → Act → World → Prop} (s x : Operand)
    (ho : o.op = .call { callee := .builtin .append, args := #[s, x], argTypes := #[t, t] })
    (v : Value) (l : List α) (hs : a.eval s = .slice none 0 0) (hx : a.eval x = v) (h : FIn f z d w v l) (hl : l.length ≤ 4000000) (hb : bytes ≤ 1000)
    (hk : ∀ v' w', w'.ownsRow w.heap.size e z v' l.length (l.flatMap f) → Below w.heap.size w w' → K (a.put o.dst v') w') : Oper.wp Try.prog o a w K Q := by
  obtain ⟨i, hi, hz, hsize, hby⟩ := info_parts hinf
  obtain ⟨v', w', hr, h2, h3⟩ := run_copyF f z d t o.type e i zv bytes ht hi hz hsize hby hzs hz0 hf h1 w v l h hl hb
  unfold Oper.wp execOp
  simp only [ho, resolve, invoke, builtin, Sem.run_bind, Sem.run_pure, Result.andThen_ok, List.map_toArray, List.map_cons, List.map_nil, hs, hx, hr]
  exact hk v' w' h2 h3
/-- A cell of a row of one's own is written. -/
theorem own_set {w : World} {B e z n c g j : Nat} {xs : List Value} {v : Value} (h : w.ownsRow B e z (.slice (some ⟨g, 0, none⟩) n c) n xs) :
    (w.setCell ⟨g, j, none⟩ v).ownsRow B e z (.slice (some ⟨g, 0, none⟩) n c) n (xs.set j v) := by
  rcases h.2 with ⟨h0, _⟩ | ⟨g', cap, cur, h0, h2, h3, h4, h5, h6, h7⟩
  · cases h0
  · cases h0
    have e1 := heap_setCell_same w g j _ e v h3
    refine ⟨by rw [List.length_set]; exact h.1, .inr ⟨g, c, _, rfl, h2, e1, h4, h5, by simpa using h6, ?_⟩⟩
    rw [← h7]
    simp [List.take_set]
theorem flat_set {α : Type} (f : α → List Value) (z : Nat) (hf : ∀ x, (f x).length = z) (l : List α) (k i : Nat) (y d : α) (v : Value) (hk : k < l.length) (hi : i < z) (hy : f y = (f (l.getD k d)).set i v) : (l.flatMap f).set (k * z + i) v = (l.set k y).flatMap f := by
  induction l generalizing k with
  | nil => simp at hk
  | cons x l ih =>
    cases k with
    | zero =>
      rw [Nat.zero_mul, Nat.zero_add, List.flatMap_cons, List.set_append_left _ _ (by rw [hf]; exact hi), List.set_cons_zero, List.flatMap_cons, hy]
      rfl
    | succ k =>
      rw [List.flatMap_cons, List.set_append_right _ _ (by rw [hf]; have : z ≤ (k + 1) * z := Nat.le_mul_of_pos_left z (Nat.succ_pos k); omega), hf, show (k + 1) * z + i - z = k * z + i by rw [Nat.succ_mul]; omega]
      rw [ih k (by simpa using hk) (by simpa using hy), List.set_cons_succ, List.flatMap_cons]
end Go.Proofs.Ytgihfcjddkpkaaa.Cl
namespace Go.Proofs.Ytgihfcjddkpkaaa.Cl
set_option linter.unusedVariables false
set_option linter.unusedSimpArgs false
open Go.RowKit Go.Maps
theorem own_slice {w : World} {B e z n : Nat} {v : Value} {xs : List Value} (h : w.ownsRow B e z v n xs) : ∃ ad cp, v = .slice ad n cp := by
  rcases h.2 with ⟨rfl, h0⟩ | ⟨g, cap, cur, rfl, _⟩
  · exact ⟨none, 0, by rw [h0]⟩
  · exact ⟨_, _, rfl⟩
theorem own_base {w : World} {B B' e z n : Nat} {v : Value} {xs : List Value} (h : w.ownsRow B e z v n xs) (hB : B' ≤ B) : w.ownsRow B' e z v n xs := by
  refine ⟨h.1, ?_⟩
  rcases h.2 with h0 | ⟨g, cap, cur, rfl, h1, h2⟩
  · exact .inl h0
  · exact .inr ⟨g, cap, cur, rfl, Nat.le_trans hB h1, h2⟩
theorem own_type {w : World} {B e z n g : Nat} {v : Value} {xs cs : List Value} {t : TypeId} {ar : Array Value} {fz : Nat × Nat} (h : w.ownsRow B e z v n xs) (hg : w.heap[g]? = some (.cells ar t fz)) (ht : e ≠ t) : v.ownBlock ≠ some g := by
  rcases h.2 with ⟨rfl, h0⟩ | ⟨g', cap, cur, rfl, h1, h2, _⟩
  · intro e; cases e
  · intro e
    have : g' = g := by simpa [Value.ownBlock] using e
    subst this
    rw [h2] at hg
    cases hg
    exact ht rfl
theorem own_ne {w : World} {B e z n B' e' z' n' : Nat} {v v' : Value} {xs xs' : List Value} (h : w.ownsRow B e z v n xs) (h' : w.ownsRow B' e' z' v' n' xs') (hne : e ≠ e') : ∀ b, v'.ownBlock = some b → v.ownBlock ≠ some b := by
  intro b hb
  rcases h'.2 with ⟨rfl, h0⟩ | ⟨g', cap, cur, rfl, h1, h2, _⟩
  · cases hb
  · have : g' = b := by simpa [Value.ownBlock] using hb
    subst this
    exact own_type (cs := []) h h2 hne
/-- A copy of a class, in the making: its methods' first k have handlers of their own. -/
structure An (w wr : World) (c : Csi) (vp vi vf vm : Value) (T0 T : List (Mi × Option Addr × Nat)) (k : Nat) : Prop where
  cb : Bk wr w.heap.size #[.int .u16 (c.minor : Int), .int .u16 (c.major : Int), .int .u16 (c.flags : Int), .int .u16 (c.this : Int), .int .u16 (c.super : Int), vp, vi, vf, vm] 44
  rb : Bk wr (w.heap.size + 1) #[.int .u16 0, .int .u16 0, .int .u16 0, .int .u16 0, .int .u16 0, .slice none 0 0, .slice none 0 0, .slice none 0 0, .slice none 0 0] 44
  p : wr.ownsRow w.heap.size 78 5 vp c.pool.length (c.pool.flatMap K.cells)
  i : wr.ownsRow w.heap.size 39 1 vi c.ifaces.length (c.ifaces.flatMap Uc)
  f : wr.ownsRow w.heap.size 95 4 vf c.fields.length (c.fields.flatMap Fc)
  m : wr.ownsRow w.heap.size 101 9 vm T.length (T.flatMap Mc)
  h : ∀ j, j < k → ∀ x, T[j]? = some x → wr.ownsRow w.heap.size 152 4 (.slice x.2.1 x.1.code.handlers.length x.2.2) x.1.code.handlers.length (x.1.code.handlers.flatMap Hi.cells)
  r : ∀ j, k ≤ j → T[j]? = T0[j]?
  e : T.map Prod.fst = c.methods
  u : Below w.heap.size w wr
theorem An.below {w wr w' : World} {c : Csi} {vp vi vf vm : Value} {T0 T : List (Mi × Option Addr × Nat)} {k : Nat} (h : An w wr c vp vi vf vm T0 T k) (hb : Below wr.heap.size wr w') : An w w' c vp vi vf vm T0 T k :=
  have g := grown_of_below hb none
  ⟨h.cb.below hb, h.rb.below hb, ins_kept h.p g (fun _ e => by cases e), ins_kept h.i g (fun _ e => by cases e), ins_kept h.f g (fun _ e => by cases e), ins_kept h.m g (fun _ e => by cases e), fun j hj x hx => ins_kept (h.h j hj x hx) g (fun _ e => by cases e), h.r, h.e, h.u.trans (hb.mono h.u.size)⟩
theorem An.step {w wr : World} {c : Csi} {vp vi vf : Value} {g mc k : Nat} {T0 T : List (Mi × Option Addr × Nat)} {x : Mi × Option Addr × Nat} {ad : Option Addr} {cp : Nat} (h : An w wr c vp vi vf (.slice (some ⟨g, 0, none⟩) T.length mc) T0 T k) (hk : k < T.length) (hx : T[k]? = some x)
    (ho : wr.ownsRow w.heap.size 152 4 (.slice ad x.1.code.handlers.length cp) x.1.code.handlers.length (x.1.code.handlers.flatMap Hi.cells)) :
    An w (wr.setCell ⟨g, k * 9 + 7, none⟩ (.slice ad x.1.code.handlers.length cp)) c vp vi vf (.slice (some ⟨g, 0, none⟩) (T.set k (x.1, ad, cp)).length mc) T0 (T.set k (x.1, ad, cp)) (k + 1) := by
  have hg : ∃ cur fz, wr.heap[g]? = some (.cells cur 101 fz) := by
    rcases h.m.2 with ⟨h0, _⟩ | ⟨g', cap, cur, h0, h2, h3, _⟩
    · cases h0
    · cases h0; exact ⟨cur, _, h3⟩
  obtain ⟨cur, fz, hgb⟩ := hg
  have hgB : w.heap.size ≤ g := by
    rcases h.m.2 with ⟨h0, _⟩ | ⟨g', cap, cur, h0, h2, h3, _⟩
    · cases h0
    · cases h0; exact h2
  have gs := grown_set wr g (k * 9 + 7) (.slice ad x.1.code.handlers.length cp)
  have nb : ∀ {b : Nat} {cs : Array Value}, Bk wr b cs 44 → some b ≠ some g := fun hb e => by
    cases e
    unfold Bk at hb
    rw [hgb] at hb
    cases hb
  have hfs : (T.flatMap Mc).set (k * 9 + 7) (.slice ad x.1.code.handlers.length cp) = (T.set k (x.1, ad, cp)).flatMap Mc := by
    refine flat_set Mc 9 Mc_len T k 7 (x.1, ad, cp) x _ hk (by decide) ?_
    have : T.getD k x = x := by simp [List.getD, hx]
    rw [this]
    rfl
  have hm := own_set (j := k * 9 + 7) (v := .slice ad x.1.code.handlers.length cp) h.m
  rw [hfs] at hm
  rw [List.length_set]
  refine ⟨h.cb.kept gs (nb h.cb), h.rb.kept gs (nb h.rb), ins_kept h.p gs (fun b e => by cases e; exact own_type (cs := []) h.p hgb (by decide)), ins_kept h.i gs (fun b e => by cases e; exact own_type (cs := []) h.i hgb (by decide)), ins_kept h.f gs (fun b e => by cases e; exact own_type (cs := []) h.f hgb (by decide)), by rw [List.length_set]; exact hm, fun j hj y hy => ?_, fun j hj => ?_, ?_, h.u.setCell (p := ⟨g, k * 9 + 7, none⟩) hgB _⟩
  · by_cases e : j = k
    · subst e
      rw [List.getElem?_set_self hk] at hy
      cases hy
      exact ins_kept ho gs (fun b e => by cases e; exact own_type (cs := []) ho hgb (by decide))
    · rw [List.getElem?_set_ne (fun q => e q.symm)] at hy
      have := h.h j (by omega) y hy
      exact ins_kept this gs (fun b e => by cases e; exact own_type (cs := []) this hgb (by decide))
  · rw [List.getElem?_set_ne (by omega)]; exact h.r j (by omega)
  · rw [← h.e, List.map_set]
    apply List.ext_getElem?
    intro j
    by_cases e : j = k
    · subst e
      rw [List.getElem?_set_self (by simpa using hk), List.getElem?_map, hx]; rfl
    · rw [List.getElem?_set_ne (fun q => e q.symm)]
end Go.Proofs.Ytgihfcjddkpkaaa.Cl
