/-
  Package maps: class, vtype, types.
-/
import Derived.Test.YtgihfcjddkpkaaaKn
import Derived.Deep.OwnRows
import Derived.Deep.RegionHeldLaw
import Derived.Deep.CutBlock
import Derived.Laws.AppendOwnNone
namespace Go.Proofs.Ytgihfcjddkpkaaa
open Go.RowKit
def T.cells (t : T) : List Value := [.int .u8 (t.tag : Int), .string ⟨t.name.toArray⟩, .int .i64 t.at_]
def T.val (t : T) : Value := .agg #[.int .u8 (t.tag : Int), .string ⟨t.name.toArray⟩, .int .i64 t.at_]
def T.zero : T := ⟨0, [], 0⟩
def TC : List T → List Value
  | [] => []
  | c :: l => c.cells ++ TC l
theorem TC_append (a b : List T) : TC (a ++ b) = TC a ++ TC b := by
  induction a with
  | nil => rfl
  | cons c a ih => simp only [List.cons_append, TC, ih, List.append_assoc]
theorem TC_snoc (l : List T) (c : T) : TC (l ++ [c]) = TC l ++ c.cells := by rw [TC_append]; simp [TC]
theorem TC_length (l : List T) : (TC l).length = l.length * 3 := by
  induction l with
  | nil => rfl
  | cons c l ih => simp only [TC, List.length_append, List.length_cons, ih, T.cells, List.length_nil]; omega
theorem TC_at : ∀ (l : List T) (k i : Nat), k < l.length → i < 3 → (TC l)[k * 3 + i]? = (l.getD k T.zero).cells[i]?
  | [], _, _, h, _ => by simp at h
  | c :: l, 0, i, _, hi => by
    rw [TC, List.getElem?_append_left (by simp [T.cells]; omega)]; simp
  | c :: l, k + 1, i, h, hi => by
    have := TC_at l k i (by simpa using h) hi
    rw [TC, List.getElem?_append_right (by simp [T.cells]; omega), show (k + 1) * 3 + i - c.cells.length = k * 3 + i by simp [T.cells]; omega, this]; simp
theorem TC_one (l : List T) : ∀ u ∈ TC l, u.oneCell' = true := by
  induction l with
  | nil => intro u hu; cases hu
  | cons c l ih =>
    intro u hu
    rw [TC] at hu
    rcases List.mem_append.1 hu with h | h
    · simp [T.cells] at h; rcases h with rfl | rfl | rfl <;> rfl
    · exact ih u h
/-- A list of types that can be read. -/
def TIn (w : World) (v : Value) (L : List T) : Prop :=
  ∃ ad cap, v = .slice ad L.length cap ∧ (L ≠ [] → ∃ b o, ad = some ⟨b, o, none⟩ ∧ ∀ k, k < L.length → ∀ i, i < 3 → w.cell? ⟨b, o + k * 3 + i, none⟩ = (L.getD k T.zero).cells[i]?)
theorem TIn.nil (w : World) (ad : Option Addr) (cap : Nat) : TIn w (.slice ad 0 cap) [] := ⟨ad, cap, rfl, fun h => absurd rfl h⟩
theorem TIn.cellsOf {w w' : World} {v : Value} {L : List T} (h : TIn w v L) (hc : L ≠ [] → ∀ b i u, w.cell? ⟨b, i, none⟩ = some u → (∃ o n c, v = .slice (some ⟨b, o, none⟩) n c) → w'.cell? ⟨b, i, none⟩ = some u) : TIn w' v L := by
  obtain ⟨ad, cap, e, h1⟩ := h
  refine ⟨ad, cap, e, fun hne => ?_⟩
  obtain ⟨b, o, e1, h2⟩ := h1 hne
  refine ⟨b, o, e1, fun k hk i hi => ?_⟩
  have h3 := h2 k hk i hi
  obtain ⟨u, h4⟩ : ∃ u, (L.getD k T.zero).cells[i]? = some u := ⟨_, List.getElem?_eq_getElem (by simpa [T.cells] using hi)⟩
  rw [h4] at h3 ⊢
  exact hc hne b _ u h3 ⟨o, _, _, by rw [e, e1]⟩
theorem TIn.below {w w' : World} {v : Value} {L : List T} (h : TIn w v L) (hb : Below w.heap.size w w') : TIn w' v L :=
  h.cellsOf fun _ b i u hu _ => by rw [hb.cell (cell_lt hu)]; exact hu
theorem TIn.kept {w w' : World} {v : Value} {L : List T} {row : Option Nat} (h : TIn w v L) (hg : w.grownBy w' row) (hne : L ≠ [] → ∀ b o n c, v = .slice (some ⟨b, o, none⟩) n c → some b ≠ row) : TIn w' v L :=
  h.cellsOf fun hn b i u hu hv => by
    obtain ⟨o, n, c, hv⟩ := hv
    have hb := hg.block b (cell_lt hu) (hne hn b o n c hv)
    unfold World.cell? at hu ⊢
    simp only at hu ⊢
    rw [hb]; exact hu
theorem TIn.at {w : World} {b o n cap : Nat} {L : List T} (h : TIn w (.slice (some ⟨b, o, none⟩) n cap) L) {k : Nat} (hk : k < L.length) :
    w.cell? ⟨b, o + k * 3, none⟩ = some (.int .u8 ((L.getD k T.zero).tag : Int)) ∧ w.cell? ⟨b, o + k * 3 + 1, none⟩ = some (.string ⟨(L.getD k T.zero).name.toArray⟩) ∧ w.cell? ⟨b, o + k * 3 + 2, none⟩ = some (.int .i64 (L.getD k T.zero).at_) := by
  obtain ⟨ad, cap', e, h1⟩ := h
  obtain ⟨b', o', e1, h2⟩ := h1 (by intro e; subst e; simp at hk)
  cases e
  cases e1
  exact ⟨h2 k hk 0 (by omega), h2 k hk 1 (by omega), h2 k hk 2 (by omega)⟩
theorem TIn.form {w : World} {v : Value} {L : List T} (h : TIn w v L) (hne : L ≠ []) : ∃ b o cap, v = .slice (some ⟨b, o, none⟩) L.length cap := by
  obtain ⟨ad, cap, e, h1⟩ := h
  obtain ⟨b, o, e1, _⟩ := h1 hne
  exact ⟨b, o, cap, by rw [e, e1]⟩
theorem TIn.of_own {w : World} {B : Nat} {v : Value} {L : List T} (h : w.ownsRow B 76 3 v L.length (TC L)) : TIn w v L := by
  rcases h.2 with ⟨rfl, h0⟩ | ⟨g, cap, cur, rfl, h1⟩
  · exact ⟨none, 0, by rw [h0], fun hne => absurd (List.length_eq_zero_iff.1 h0) hne⟩
  · refine ⟨_, _, rfl, fun _ => ⟨g, 0, rfl, fun k hk i hi => ?_⟩⟩
    have e := TC_at L k i hk hi
    obtain ⟨u, h4⟩ : ∃ u, (L.getD k T.zero).cells[i]? = some u := ⟨_, List.getElem?_eq_getElem (by simpa [T.cells] using hi)⟩
    rw [h4] at e ⊢
    have := h.cells (g := g) rfl (k * 3 + i) _ e
    rw [Addr.add_lit] at this
    rw [show 0 + k * 3 + i = 0 + (k * 3 + i) by omega]
    exact this
/-- The first n of them. -/
theorem TIn.take {w : World} {ad : Option Addr} {len cap cap' : Nat} {L : List T} (h : TIn w (.slice ad len cap) L) (n : Nat) (hn : n ≤ L.length) : TIn w (.slice ad n cap') (L.take n) := by
  obtain ⟨ad', cap2, e, h1⟩ := h
  have hl : (L.take n).length = n := by simp; omega
  refine ⟨ad, cap', by rw [hl], fun hne => ?_⟩
  have hLne : L ≠ [] := by intro e; subst e; simp at hne
  obtain ⟨b, o, e1, h2⟩ := h1 hLne
  cases e
  refine ⟨b, o, e1, fun k hk i hi => ?_⟩
  rw [hl] at hk
  rw [h2 k (by omega) i hi]
  congr 2
  simp [List.getD, hk]
theorem Try.info76 : (Try.prog.info? 76).map (fun i => (i.zero, i.size, i.bytes)) = some (some (.agg #[.int .u8 0, .string ⟨#[]⟩, .int .i64 0]), 3, 32) := by kernel_rfl
/-- append([]VType(nil), xs...): a copy. -/
theorem run_copy (w : World) (ty : TypeId) (x : Value) (xs : List T) (h : TIn w x xs) (hl : xs.length ≤ 1048576) (B : Nat) (hB : B ≤ w.heap.size) :
    ∃ v' w', (Builtin.append_ #[23, 23] ty #[.slice none 0 0, x]).run Try.prog w = .ok v' w' ∧ w'.ownsRow B 76 3 v' xs.length (TC xs) ∧ Below w.heap.size w w' := by
  obtain ⟨i, hi, hz, hsize, hby⟩ := info_parts Try.info76
  obtain ⟨ad, cap, rfl, hc⟩ := h
  by_cases h0 : xs = []
  · subst h0
    refine ⟨.slice none 0 0, w, ?_, World.ownsRow_nil _ _ _ _, Below.refl _ _⟩
    cases ad <;> simp [Builtin.append_, run_underlying Try.underlying23, sizeOf, typeInfo, hi, Builtin.lenOf, Builtin.firstCells, loadCells, loadCellsFrom]
  · obtain ⟨b, o, rfl, hk⟩ := hc h0
    obtain ⟨v', w', hr, h2, h3, _⟩ := run_append_own_at (P := Try.prog) w B 23 ty 76 i (.agg #[.int .u8 0, .string ⟨#[]⟩, .int .i64 0]) 3 32 Try.underlying23 hi hz hsize hby rfl (by decide) (.slice none 0 0) 0 [] (World.ownsRow_nil _ _ _ _) ⟨b, o, none⟩ xs.length cap (TC xs) (TC_length xs)
      (fun j u hj => by
        rw [Addr.add_lit]
        have hjl : j < xs.length * 3 := by rw [← TC_length]; exact (List.getElem?_eq_some_iff.1 hj).1
        have e := TC_at xs (j / 3) (j % 3) (by omega) (by omega)
        rw [show j / 3 * 3 + j % 3 = j by omega, hj] at e
        have := hk (j / 3) (by omega) (j % 3) (by omega)
        rw [← e, show o + j / 3 * 3 + j % 3 = o + j by omega] at this
        exact this)
      (TC_one xs) (by unfold maxLen; omega) (by omega) hB
    rw [Nat.zero_add, List.nil_append] at h2
    exact ⟨v', w', hr, h2, ⟨h3.os, h3.tape, h3.output, h3.size, fun k hk => h3.block k hk (by simp [Value.ownBlock])⟩⟩
theorem wpList_copy (w : World) {ops : Array Oper} {rest : List Oper} {o : Oper} {a : Act} {Q : Exit → Act → World → Prop} (hgd : o.guard = none) (s x : Operand)
    (ho : o.op = .call { callee := .builtin .append, args := #[s, x], argTypes := #[23, 23] })
    (v : Value) (xs : List T) (hs : a.eval s = .slice none 0 0) (hx : a.eval x = v) (h : TIn w v xs) (hl : xs.length ≤ 1048576) (B : Nat) (hB : B ≤ w.heap.size)
    (hk : ∀ v' w', w'.ownsRow B 76 3 v' xs.length (TC xs) → Below w.heap.size w w' → wpList Try.prog ops Q rest (a.put o.dst v') w') : wpList Try.prog ops Q (o :: rest) a w := by
  refine wpList_plain hgd fun K hK => ?_
  obtain ⟨v', w', hr, h2, h3⟩ := run_copy w o.type v xs h hl B hB
  unfold Oper.wp execOp
  simp only [ho, resolve, invoke, builtin, Sem.run_bind, Sem.run_pure, Result.andThen_ok, List.map_toArray, List.map_cons, List.map_nil, hs, hx, hr]
  exact hK _ _ (hk v' w' h2 h3)
/-- A reader of frames, and its pool. -/
structure Rx (w : World) (R : Nat) (pv : Value) (s : ByteArray) (P : List K) (st : St) : Prop where
  rd : Rd w R pv s st
  pool : KIn w pv P
  ne : P ≠ [] → ∀ b o n c, pv = .slice (some ⟨b, o, none⟩) n c → b ≠ R
  pos : st.pos ≤ s.data.toList.length
section
variable {w w' : World} {R : Nat} {pv : Value} {s : ByteArray} {P : List K} {st st' : St}
theorem Rx.step (h : Rx w R pv s P st) (hr : Rd w' R pv s st') (hg : w.grownBy w' (some R)) (hp : st'.pos ≤ s.data.toList.length) : Rx w' R pv s P st' :=
  ⟨hr, h.pool.kept hg (fun hp b o n c e => by simpa using h.ne hp b o n c e), h.ne, hp⟩
theorem Rx.below (h : Rx w R pv s P st) (hb : Below w.heap.size w w') : Rx w' R pv s P st :=
  ⟨h.rd.kept (grown_of_below hb none) (by simp), h.pool.below hb, h.ne, h.pos⟩
theorem Rx.grown (h : Rx w R pv s P st) {row : Option Nat} (hg : w.grownBy w' row) (h1 : some R ≠ row) (h2 : P ≠ [] → ∀ b o n c, pv = .slice (some ⟨b, o, none⟩) n c → some b ≠ row) : Rx w' R pv s P st :=
  ⟨h.rd.kept hg h1, h.pool.kept hg h2, h.ne, h.pos⟩
theorem Rx.sz (h : Rx w R pv s P st) : st.pos ≤ s.size := by have := h.pos; simpa using this
end
/-- What a step of the reader leaves: the answer, the reader, and that nothing else has changed. -/
def Tk (R : Nat) (pv : Value) (s : ByteArray) (P : List K) (st' : St) (w : World) (x : Value) (e : Ending) (w' : World) : Prop :=
  e = .returned x ∧ Rx w' R pv s P st' ∧ w.grownBy w' (some R)
section
variable (R : Nat) (pv : Value) (s : ByteArray) (P : List K) (st : St) (w : World)
theorem U8_any (h : Rx w R pv s P st) (hs : s.size ≤ 131072) : Calls Try.prog 89 #[.pointer (some ⟨R, 0, none⟩)] w fun x w' => Tk R pv s P (M.rd s.data.toList 1 st).2 w (.int .u8 ((M.rd s.data.toList 1 st).1 : Nat)) x w' :=
  (Uint8_any R pv s st w h.rd hs h.sz).mono fun _ _ ⟨h1, h2, h3⟩ => ⟨h1, h.step h2 h3 (M.rd_pos h.pos), h3⟩
theorem U16_any (h : Rx w R pv s P st) (hs : s.size ≤ 131072) : Calls Try.prog 57 #[.pointer (some ⟨R, 0, none⟩)] w fun x w' => Tk R pv s P (M.rd s.data.toList 2 st).2 w (.int .u16 ((M.rd s.data.toList 2 st).1 : Nat)) x w' :=
  (Uint16_any R pv s st w h.rd hs h.sz).mono fun _ _ ⟨h1, h2, h3⟩ => ⟨h1, h.step h2 h3 (M.rd_pos h.pos), h3⟩
theorem Fl_any (h : Rx w R pv s P st) (e p : Nat) : Calls Try.prog 68 #[.pointer (some ⟨R, 0, none⟩), .int .i64 (e : Int), .int .i64 (p : Int)] w fun x w' => Tk R pv s P (M.fail st e p) w (.tuple #[]) x w' :=
  (Fail_any R pv s st e p w h.rd).mono fun _ _ ⟨h1, h2, h3, _⟩ => ⟨h1, h.step h2 h3 (by rw [M.fail_pos]; exact h.pos), h3⟩
theorem Gd_any (h : Rx w R pv s P st) : Calls Try.prog 59 #[.pointer (some ⟨R, 0, none⟩)] w fun e w' => e = .returned (.bool (decide (st.e = 0))) ∧ w' = w := Good_any R pv s st w h.rd
end
theorem wrap_id (x : Nat) (h : x < 65536) : wrap64 (x : Int) = (x : Int) := by simp [wrap64]; omega
set_option maxHeartbeats 1000000 in
theorem class_any (R : Nat) (pv : Value) (s : ByteArray) (P : List K) (st : St) (f : Nat) (w : World) (h : Rx w R pv s P st) (hs : s.size ≤ 131072) (hP : P.length ≤ 1048576) :
    Calls Try.prog 123 #[.pointer (some ⟨R, 0, none⟩), .int .i64 (f : Int)] w fun x w' =>
      Tk R pv s P (if M.tag P ((M.rd s.data.toList 2 st).1 : Int) = 7 then (M.rd s.data.toList 2 st).2 else M.fail (M.rd s.data.toList 2 st).2 7 f) w (.string ⟨(M.cls P ((M.rd s.data.toList 2 st).1 : Int)).toArray⟩) x w' := by
  have hx := M.rd2 s.data.toList st
  have HU := hide (U16_any R pv s P st w h hs)
  obtain ⟨x, st1, hT⟩ : ∃ x st1, M.rd s.data.toList 2 st = (x, st1) := ⟨_, _, rfl⟩
  rw [hT] at hx HU ⊢
  simp only at hx HU ⊢
  clear hT h
  have HF := hide (fun (w1 : World) (h1 : Rx w1 R pv s P st1) => Fl_any R pv s P st1 w1 h1 7 f)
  have HH := hide (fun (w1 : World) (h1 : Rx w1 R pv s P st1) => Has_any pv _ P [7] (x : Int) (w1.alloc (.cells #[.int .u8 7] 5)) (h1.pool.below ((Below.refl w1.heap.size w1).alloc (Nat.le_refl _) _)) hP (UIn.made w1 7) (by simp))
  rw [contains_one] at HH
  have HC := hide (fun (w1 : World) (st1 : St) (h1 : Rx w1 R pv s P st1) => Class_any pv P (x : Int) w1 h1.pool hP)
  generalize M.cls P (x : Int) = C at HC ⊢
  by_cases ht : M.tag P (x : Int) = 7
  · rw [if_pos ht]
    rw [decide_eq_true ht] at HH
    clear ht HF
    go_enter Try.func123, Try.ntmps123
    go_wp2_with fail
    refine (unhide HU).mono ?_
    rintro e w1 ⟨rfl, hr1, hg1⟩
    have c4 : w1.cell? ⟨R, 4, none⟩ = some pv := hr1.rd.cell 4
    have HR1 := hide hr1
    clear HU
    go_wp2_with fail
    refine (unhide HH _ (unhide HR1)).mono ?_
    rintro e w2 ⟨rfl, hb2⟩
    have hb3 := ((Below.refl w1.heap.size w1).alloc (Nat.le_refl _) (.cells #[.int .u8 7] 5)).trans (hb2.mono (by simp))
    have hr2 := (unhide HR1).below hb3
    have c42 : w2.cell? ⟨R, 4, none⟩ = some pv := hr2.rd.cell 4
    have HR2 := hide hr2
    clear HH hb2 hr2 c4
    go_wp2_with fail
    refine (unhide HC _ _ (unhide HR2)).mono ?_
    rintro e w3 ⟨⟨q, rfl⟩, hb4⟩
    have hb5 := hb3.trans (hb4.mono hb3.size)
    clear HC c42
    go_wp2
    go_ret
    exact ⟨rfl, (unhide HR1).below hb5, grown_trans hg1 (grown_of_below hb5 _)⟩
  · rw [if_neg ht]
    rw [decide_eq_false ht] at HH
    clear ht
    go_enter Try.func123, Try.ntmps123
    go_wp2_with fail
    refine (unhide HU).mono ?_
    rintro e w1 ⟨rfl, hr1, hg1⟩
    have c4 : w1.cell? ⟨R, 4, none⟩ = some pv := hr1.rd.cell 4
    have HR1 := hide hr1
    clear HU
    go_wp2_with fail
    refine (unhide HH _ (unhide HR1)).mono ?_
    rintro e w2 ⟨rfl, hb2⟩
    have hb3 := ((Below.refl w1.heap.size w1).alloc (Nat.le_refl _) (.cells #[.int .u8 7] 5)).trans (hb2.mono (by simp))
    have HR2 := hide ((unhide HR1).below hb3)
    clear HH hb2 c4
    go_wp2_with fail
    refine (unhide HF _ (unhide HR2)).mono ?_
    rintro e w3 ⟨rfl, hr3, hg3⟩
    have c43 : w3.cell? ⟨R, 4, none⟩ = some pv := hr3.rd.cell 4
    have HR3 := hide hr3
    have hg4 := grown_trans (grown_trans hg1 (grown_of_below hb3 _)) hg3
    clear HF hr3 hr1
    go_wp2_with fail
    refine (unhide HC _ _ (unhide HR3)).mono ?_
    rintro e w4 ⟨⟨q, rfl⟩, hb4⟩
    clear HC c43
    go_wp2
    go_ret
    exact ⟨rfl, (unhide HR3).below hb4, grown_trans hg4 (grown_of_below hb4 _)⟩
/-- A block of cells. -/
def Bk (w : World) (g : Nat) (cs : Array Value) (t : TypeId) : Prop := w.heap[g]? = some (.cells cs t (0, 0))
section
variable {w w' : World} {g : Nat} {cs : Array Value} {t : TypeId}
theorem Bk.lt (h : Bk w g cs t) : g < w.heap.size := (Array.getElem?_eq_some_iff.1 h).1
theorem Bk.cell (h : Bk w g cs t) (i : Nat) : w.cell? ⟨g, i, none⟩ = cs[i]? := cell_of_row w g i _ t (0, 0) h
theorem Bk.frozen (h : Bk w g cs t) (i : Nat) : w.frozen? ⟨g, i, none⟩ = false := by
  unfold World.frozen?; unfold Bk at h; simp only [h]; simp
theorem Bk.kept {row : Option Nat} (h : Bk w g cs t) (hg : w.grownBy w' row) (hne : some g ≠ row) : Bk w' g cs t := by
  unfold Bk; rw [hg.block g h.lt hne]; exact h
theorem Bk.below (h : Bk w g cs t) (hb : Below w.heap.size w w') : Bk w' g cs t := h.kept (grown_of_below hb none) (by simp)
theorem Bk.alloc (h : Bk w g cs t) (o : Obj) : Bk (w.alloc o) g cs t := h.kept (World.grownBy_alloc w o none) (by simp)
theorem Bk.new (w : World) (cs : Array Value) (t : TypeId) : Bk (w.alloc (.cells cs t)) w.heap.size cs t := heap_alloc_new _ _
theorem Bk.set (h : Bk w g cs t) (i : Nat) (v : Value) : Bk (w.setCell ⟨g, i, none⟩ v) g (cs.setIfInBounds i v) t := by
  unfold Bk; rw [heap_setCell_same w g i _ t _ h]
theorem Bk.other (h : Bk w g cs t) {b : Nat} (i : Nat) (v : Value) (hne : g ≠ b) : Bk (w.setCell ⟨b, i, none⟩ v) g cs t := h.kept (grown_set w b i v) (by simpa using hne)
end
theorem Rd.other {w : World} {R : Nat} {pv : Value} {s : ByteArray} {st : St} (h : Rd w R pv s st) {b : Nat} (i : Nat) (v : Value) (hne : R ≠ b) : Rd (w.setCell ⟨b, i, none⟩ v) R pv s st := h.kept (grown_set w b i v) (by simpa using hne)
theorem grown_new {w0 w : World} {row : Option Nat} (h : w0.grownBy w row) {q : Nat} (hq : w0.heap.size ≤ q) (i : Nat) (v : Value) : w0.grownBy (w.setCell ⟨q, i, none⟩ v) row :=
  ⟨h.os, h.tape, h.output, by have := h.size; simpa using this, fun k hk hne => by
    rw [Below.heap_setCell w ⟨q, i, none⟩ v k (by simp only; omega)]; exact h.block k hk hne⟩
theorem grown_alloc {w0 w : World} {row : Option Nat} (h : w0.grownBy w row) (o : Obj) : w0.grownBy (w.alloc o) row := grown_trans h (World.grownBy_alloc w o row)
/-- A struct of three cells is handed back. -/
theorem end3 {w w1 : World} {R Q : Nat} {pv : Value} {s : ByteArray} {P : List K} {st st' : St} {a b c : Value} {t : TypeId} (h0 : Rx w R pv s P st) (hg : w.grownBy w1 (some R)) (hr : Rd w1 R pv s st') (hp : st'.pos ≤ s.data.toList.length)
    (hQ : Bk w1 Q #[a, b, c] t) (hQw : w.heap.size ≤ Q) (x y z : Value) :
    Bk (((w1.setCell ⟨Q, 0, none⟩ x).setCell ⟨Q, 1, none⟩ y).setCell ⟨Q, 2, none⟩ z) Q #[x, y, z] t ∧ Rx (((w1.setCell ⟨Q, 0, none⟩ x).setCell ⟨Q, 1, none⟩ y).setCell ⟨Q, 2, none⟩ z) R pv s P st' ∧
      w.grownBy (((w1.setCell ⟨Q, 0, none⟩ x).setCell ⟨Q, 1, none⟩ y).setCell ⟨Q, 2, none⟩ z) (some R) := by
  have hRQ : R ≠ Q := by have := h0.rd.lt; omega
  have hg2 := grown_new (grown_new (grown_new hg hQw 0 x) hQw 1 y) hQw 2 z
  exact ⟨((hQ.set 0 x).set 1 y).set 2 z, h0.step (((hr.other 0 x hRQ).other 1 y hRQ).other 2 z hRQ) hg2 hp, hg2⟩
theorem vt_mid {w wA w1 : World} {R : Nat} {pv : Value} {s : ByteArray} {P : List K} {st1 : St} (x : Nat) (hr1 : Rx w1 R pv s P st1) (hQA : Bk wA w.heap.size #[.int .u8 0, .string ⟨#[]⟩, .int .i64 0] 76) (hgA : w.grownBy wA (some R)) (hg1 : wA.grownBy w1 (some R)) (hRl : R < w.heap.size) :
    ∃ p w2, p = w1.heap.size ∧ w2 = w1.alloc (.cells #[.int .u8 (x : Int), .string ⟨#[]⟩, .int .i64 0] 76) ∧ w.heap.size < p ∧ Bk w2 p #[.int .u8 (x : Int), .string ⟨#[]⟩, .int .i64 0] 76 ∧ Bk w2 w.heap.size #[.int .u8 0, .string ⟨#[]⟩, .int .i64 0] 76 ∧ w.grownBy w2 (some R) ∧ Rx w2 R pv s P st1 := by
  have hQ1 := hQA.kept hg1 (by simp; omega)
  exact ⟨_, _, rfl, rfl, hQ1.lt, Bk.new _ _ _, hQ1.alloc _, grown_alloc (grown_trans hgA hg1) _, hr1.below ((Below.refl _ _).alloc (Nat.le_refl _) _)⟩
theorem M.vty_cases (s : List UInt8) (P : List K) (st : St) {x : Nat} {st1 : St} (h : M.rd s 1 st = (x, st1)) :
    (M.vty s P st).1.tag = x ∧ ((x = 7 ∧ (M.vty s P st).1.name = M.cls P ((M.rd s 2 st1).1 : Int) ∧ (M.vty s P st).1.at_ = 0 ∧ (M.vty s P st).2 = if M.tag P ((M.rd s 2 st1).1 : Int) = 7 then (M.rd s 2 st1).2 else M.fail (M.rd s 2 st1).2 7 st.pos) ∨
      (x = 8 ∧ (M.vty s P st).1.name = [] ∧ (M.vty s P st).1.at_ = ((M.rd s 2 st1).1 : Int) ∧ (M.vty s P st).2 = (M.rd s 2 st1).2) ∨
      (8 < x ∧ (M.vty s P st).1.name = [] ∧ (M.vty s P st).1.at_ = 0 ∧ (M.vty s P st).2 = M.fail st1 17 st.pos) ∨
      (x < 7 ∧ (M.vty s P st).1.name = [] ∧ (M.vty s P st).1.at_ = 0 ∧ (M.vty s P st).2 = st1)) := by
  unfold M.vty
  rw [h]
  simp only
  by_cases h7 : x = 7
  · subst h7; simp
  · rw [if_neg h7]
    by_cases h8 : x = 8
    · subst h8; simp
    · rw [if_neg h8]
      by_cases h9 : 8 < x
      · rw [if_pos h9]; exact ⟨rfl, .inr (.inr (.inl ⟨h9, rfl, rfl, rfl⟩))⟩
      · rw [if_neg h9]; exact ⟨rfl, .inr (.inr (.inr ⟨by omega, rfl, rfl, rfl⟩))⟩
set_option maxRecDepth 100000 in
set_option maxHeartbeats 1000000 in
theorem vtype_any (R : Nat) (pv : Value) (s : ByteArray) (P : List K) (st : St) (w : World) (h : Rx w R pv s P st) (hs : s.size ≤ 131072) (hP : P.length ≤ 1048576) :
    Calls Try.prog 113 #[.pointer (some ⟨R, 0, none⟩)] w fun x w' => Tk R pv s P (M.vty s.data.toList P st).2 w (M.vty s.data.toList P st).1.val x w' := by
  have hx := M.rd1 s.data.toList st
  have hpos := M.vty_pos (P := P) h.pos
  obtain ⟨wA, hwA⟩ : ∃ wA, wA = w.alloc (.cells #[.int .u8 0, .string ⟨#[]⟩, .int .i64 0] 76) := ⟨_, rfl⟩
  have hbA : Below w.heap.size w wA := by rw [hwA]; exact (Below.refl _ _).alloc (Nat.le_refl _) _
  have hQA : Bk wA w.heap.size #[.int .u8 0, .string ⟨#[]⟩, .int .i64 0] 76 := by rw [hwA]; exact Bk.new _ _ _
  have hrA := h.below hbA
  have HAt := hide (At_any R pv s st wA hrA.rd)
  have HU := hide (U8_any R pv s P st wA hrA hs)
  have hgA := grown_of_below hbA (some R)
  have H0 := hide h
  have hRl := h.rd.lt
  obtain ⟨x, st1, hT⟩ : ∃ x st1, M.rd s.data.toList 1 st = (x, st1) := ⟨_, _, rfl⟩
  have hcs := M.vty_cases s.data.toList P st hT
  rw [hT] at hx HU
  simp only at hx HU
  obtain ⟨q, hq⟩ : ∃ q, q = st.pos := ⟨_, rfl⟩
  rw [← hq] at HAt hcs
  obtain ⟨t, stV, hVV⟩ : ∃ t stV, M.vty s.data.toList P st = (t, stV) := ⟨_, _, rfl⟩
  rw [hVV] at hcs hpos ⊢
  simp only at hcs hpos ⊢
  obtain ⟨htg, hcs⟩ := hcs
  have HTag := hide htg
  have HCs := hide hcs
  have Hpos := hide hpos
  clear hT h hrA hq hVV hcs htg hpos
  go_enter Try.func113, Try.ntmps113
  go_wp2_with fail
  rw [← hwA]
  clear hwA
  refine (unhide HAt).mono ?_
  rintro e w1 ⟨rfl, hw⟩
  subst w1
  go_wp2_with fail
  refine (unhide HU).mono ?_
  rintro e w1 ⟨rfl, hr1, hg1⟩
  obtain ⟨p, w2, hp, hw2, hpw, hp2, hQ2, hgw2, hr2⟩ := vt_mid x hr1 hQA hgA hg1 hRl
  have Hr2 := hide hr2
  have HW2 := hide hw2
  have HP := hide hp
  clear HAt HU hr1 hg1 hgA hQA hbA hw2 hp hr2
  go_upto_block 0 with fail
  rw [← unhide HW2, ← unhide HP]
  clear HW2 HP
  go_cut [] (fun w' => Hid (Bk w' p #[.int .u8 (x : Int), .string ⟨t.name.toArray⟩, .int .i64 t.at_] 76 ∧ Bk w' w.heap.size #[.int .u8 0, .string ⟨#[]⟩, .int .i64 0] 76 ∧ w.grownBy w' (some R) ∧ Rd w' R pv s stV))
  case first =>
    have k0 : w2.cell? ⟨p, 0, none⟩ = some (.int .u8 (x : Int)) := hp2.cell 0
    rcases unhide HCs with ⟨hx7, hn, ha, hst⟩ | ⟨hx7, hn, ha, hst⟩ | ⟨hx7, hn, ha, hst⟩ | ⟨hx7, hn, ha, hst⟩
    · have f7 : (((x : Int) == 7) : Bool) = true := by rw [hx7]; rfl
      have HC := hide (class_any R pv s P st1 q w2 (unhide Hr2) hs hP)
      rw [← hst, ← hn] at HC
      have Ha := hide ha
      clear hx7 hn hst ha HCs
      go_wp2_with fail
      refine (unhide HC).mono ?_
      rintro e w3 ⟨rfl, hr3, hg3⟩
      have hp3 := hp2.kept hg3 (by simp; omega)
      have hQ3 := hQ2.kept hg3 (by simp; omega)
      have k1 : w3.cell? ⟨p, 1, none⟩ = some (.string ⟨#[]⟩) := hp3.cell 1
      have kf := hp3.frozen 1
      clear HC k0
      go_wp2
      go_meet
      exact ⟨by rw [unhide Ha]; exact hp3.set 1 _, hQ3.other 1 _ (by omega), grown_new (grown_trans hgw2 hg3) (by omega) 1 _, hr3.rd.other 1 _ (by omega)⟩
    · have f7 : (((x : Int) == 7) : Bool) = false := by rw [hx7]; rfl
      have f8 : (((x : Int) == 8) : Bool) = true := by rw [hx7]; rfl
      have hx2 := M.rd2 s.data.toList st1
      have HU := hide (U16_any R pv s P st1 w2 (unhide Hr2) hs)
      rw [← hst] at HU
      generalize (M.rd s.data.toList 2 st1).1 = y at *
      have Hn := hide hn
      have Ha := hide ha
      clear hx7 hn hst ha HCs
      go_wp2_with fail
      refine (unhide HU).mono ?_
      rintro e w3 ⟨rfl, hr3, hg3⟩
      have hp3 := hp2.kept hg3 (by simp; omega)
      have hQ3 := hQ2.kept hg3 (by simp; omega)
      have k1 : w3.cell? ⟨p, 2, none⟩ = some (.int .i64 0) := hp3.cell 2
      have kf := hp3.frozen 2
      clear HU k0
      go_wp2
      go_meet
      exact ⟨by rw [unhide Ha, unhide Hn]; exact hp3.set 2 _, hQ3.other 2 _ (by omega), grown_new (grown_trans hgw2 hg3) (by omega) 2 _, hr3.rd.other 2 _ (by omega)⟩
    · have f7 : (((x : Int) == 7) : Bool) = false := by rw [beq_eq_false_iff_ne]; omega
      have f8 : (((x : Int) == 8) : Bool) = false := by rw [beq_eq_false_iff_ne]; omega
      have f9 : (8 : Int) < (x : Int) := by omega
      have HF := hide (Fl_any R pv s P st1 w2 (unhide Hr2) 17 q)
      rw [← hst] at HF
      have Hn := hide hn
      have Ha := hide ha
      clear hx7 hn hst ha HCs
      go_wp2_with fail
      refine (unhide HF).mono ?_
      rintro e w3 ⟨rfl, hr3, hg3⟩
      have hp3 := hp2.kept hg3 (by simp; omega)
      have hQ3 := hQ2.kept hg3 (by simp; omega)
      clear HF k0
      go_wp2
      go_meet
      exact ⟨by rw [unhide Ha, unhide Hn]; exact hp3, hQ3, grown_trans hgw2 hg3, hr3.rd⟩
    · have f7 : (((x : Int) == 7) : Bool) = false := by rw [beq_eq_false_iff_ne]; omega
      have f8 : (((x : Int) == 8) : Bool) = false := by rw [beq_eq_false_iff_ne]; omega
      have f9 : ¬ (8 : Int) < (x : Int) := by omega
      have Hst := hide hst
      have Hn := hide hn
      have Ha := hide ha
      clear hx7 hn hst ha HCs
      go_wp2
      go_meet
      exact ⟨by rw [unhide Ha, unhide Hn]; exact hp2, hQ2, hgw2, by rw [unhide Hst]; exact (unhide Hr2).rd⟩
  case rest =>
    clear hp2 hQ2 hgw2 Hr2 HCs
    obtain ⟨hp4, hQ4, hg4, hr4⟩ := unhide hcut
    have k0 : wc.cell? ⟨p, 0, none⟩ = some (.int .u8 (x : Int)) := hp4.cell 0
    have k1 : wc.cell? ⟨p, 1, none⟩ = some (.string ⟨t.name.toArray⟩) := hp4.cell 1
    have k2 : wc.cell? ⟨p, 2, none⟩ = some (.int .i64 t.at_) := hp4.cell 2
    have q0 : wc.cell? ⟨w.heap.size, 0, none⟩ = some (.int .u8 0) := hQ4.cell 0
    have q1 : wc.cell? ⟨w.heap.size, 1, none⟩ = some (.string ⟨#[]⟩) := hQ4.cell 1
    have q2 : wc.cell? ⟨w.heap.size, 2, none⟩ = some (.int .i64 0) := hQ4.cell 2
    have qf := hQ4.frozen
    have HE := hide (end3 (unhide H0) hg4 hr4 (unhide Hpos) hQ4 (Nat.le_refl _) (.int .u8 (x : Int)) (.string ⟨t.name.toArray⟩) (.int .i64 t.at_))
    clear hp4 hQ4 hg4 hr4 H0 Hpos hcut
    go_wp2
    obtain ⟨e1, e2, e3⟩ := unhide HE
    refine bodyPost_ret (results_cell_row Try.results113 _ _ w.heap.size 76 _ (0, 0) _ rfl e1 Try.underlying76 rfl (by kernel_rfl)) rfl ?_
    exact ⟨by unfold T.val; rw [unhide HTag], e2, e3⟩
end Go.Proofs.Ytgihfcjddkpkaaa
