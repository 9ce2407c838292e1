/-
  twin: a copy of all.
-/
import Derived.Test.YtpmonoenppfekabDoorSameV
import Derived.Test.YtpmonoenppfekabDoorDec
import Derived.Laws.AppendOwnNone
namespace Go.Proofs.YtpmonoenppfekabDoor
open Go.RowKit
def VC : List V → List Value
  | [] => []
  | c :: l => c.arr.toList ++ VC l
theorem VC_append (a b : List V) : VC (a ++ b) = VC a ++ VC b := by
  induction a with
  | nil => rfl
  | cons c a ih => simp only [List.cons_append, VC, ih, List.append_assoc]
theorem V.arr_length (c : V) : c.arr.toList.length = 8 := rfl
theorem VC_at (l : List V) (k : Nat) (hk : k < l.length) (i : Nat) (hi : i < 8) : (VC l)[k * 8 + i]? = (l[k]).arr[i]? := by
  induction l generalizing k with
  | nil => simp at hk
  | cons c a ih =>
    cases k with
    | zero =>
      simp only [VC, Nat.zero_mul, Nat.zero_add, List.getElem_cons_zero]
      rw [List.getElem?_append_left (by rw [V.arr_length]; omega)]
      simp
    | succ k =>
      simp only [VC, List.getElem_cons_succ]
      rw [List.getElem?_append_right (by rw [V.arr_length]; omega), V.arr_length, show (k + 1) * 8 + i - 8 = k * 8 + i by omega]
      exact ih k (by simpa using hk)
/-- A row of numbers of one's own, and one of instructions, are never one. -/
theorem rows_ne {w : World} {B n m : Nat} {v u : Value} {xs ys : List Value} (h : w.ownsRow B 3 1 v n xs) (k : w.ownsRow B 35 8 u m ys) : ∀ b, u.ownBlock = some b → v.ownBlock ≠ some b := by
  intro b e1 e2
  rcases h.2 with ⟨rfl, _⟩ | ⟨g, cap, cur, rfl, _, hg, _⟩
  · cases e2
  · cases e2
    rcases k.2 with ⟨rfl, _⟩ | ⟨g', cap', cur', rfl, _, hg', _⟩
    · cases e1
    · cases e1
      rw [hg] at hg'
      simp at hg'
/-- The copy as it is made. -/
structure Tw (w0 w : World) (v : Value) (K : List V) : Prop where
  old : Below w0.heap.size w0 w
  row : w.ownsRow w0.heap.size 35 8 v K.length (VC K)
  own : ∀ c ∈ K, w.ownsRow w0.heap.size 3 1 c.kv c.g.keys.length (c.g.keys.map (Value.int .i64)) ∧ w.ownsRow w0.heap.size 3 1 c.tv c.g.tgts.length (c.g.tgts.map (Value.int .i64))
theorem Tw.below {w0 w w' : World} {v : Value} {K : List V} (h : Tw w0 w v K) (hb : Below w.heap.size w w') : Tw w0 w' v K :=
  ⟨h.old.trans (hb.mono h.old.size), ins_kept h.row (grown_of_below hb none) (fun _ e => by cases e), fun c hc => ⟨row_kept (h.own c hc).1 (grown_of_below hb none) (fun _ e => by cases e), row_kept (h.own c hc).2 (grown_of_below hb none) (fun _ e => by cases e)⟩⟩
theorem Tw.set {w0 w : World} {v : Value} {K : List V} {p i : Nat} (h : Tw w0 w v K) (hp : w0.heap.size ≤ p) (x : Value) (hv : v.ownBlock ≠ some p) (hk : ∀ c ∈ K, c.kv.ownBlock ≠ some p ∧ c.tv.ownBlock ≠ some p) : Tw w0 (w.setCell ⟨p, i, none⟩ x) v K :=
  ⟨h.old.setCell (p := ⟨p, i, none⟩) hp x, ins_kept h.row (grown_set w p i x) (fun b e => by cases e; exact hv), fun c hc => ⟨row_kept (h.own c hc).1 (grown_set w p i x) (fun b e => by cases e; exact (hk c hc).1), row_kept (h.own c hc).2 (grown_set w p i x) (fun b e => by cases e; exact (hk c hc).2)⟩⟩
theorem Tw.push {w0 w w' : World} {v v' : Value} {K : List V} {c : V} {o : Obj} (h : Tw w0 w v K) (hc : w.ownsRow w0.heap.size 3 1 c.kv c.g.keys.length (c.g.keys.map (Value.int .i64)) ∧ w.ownsRow w0.heap.size 3 1 c.tv c.g.tgts.length (c.g.tgts.map (Value.int .i64)))
    (hrow : w'.ownsRow w0.heap.size 35 8 v' (K.length + 1) (VC K ++ c.arr.toList)) (hg : (w.alloc o).grownBy w' v.ownBlock) : Tw w0 w' v' (K ++ [c]) := by
  have hal : w.grownBy (w.alloc o) none := World.grownBy_alloc w o none
  have hra := ins_kept h.row hal (fun _ e => by cases e)
  have kp : ∀ {u : Value} {n : Nat} {xs : List Value}, w.ownsRow w0.heap.size 3 1 u n xs → w'.ownsRow w0.heap.size 3 1 u n xs := fun hu =>
    row_kept (row_kept hu hal (fun _ e => by cases e)) hg (rows_ne (row_kept hu hal (fun _ e => by cases e)) hra)
  refine ⟨(h.old.alloc h.old.size o).grown hg (by have := h.old.size; simp; omega) (fun k hk => (ins_in h.row hk).1), ?_, fun d hd => ?_⟩
  · rw [VC_append, List.length_append]
    simpa [VC] using hrow
  · rw [List.mem_append, List.mem_singleton] at hd
    rcases hd with hd | rfl
    · exact ⟨kp (h.own d hd).1, kp (h.own d hd).2⟩
    · exact ⟨kp hc.1, kp hc.2⟩
theorem Tw.has {w0 w : World} {v : Value} {K : List V} (h : Tw w0 w v K) (hf : ∀ c ∈ K, c.g.op < 256 ∧ c.g.keys.length ≤ 100000 ∧ c.g.tgts.length ≤ 100000 ∧ ∀ t ∈ c.g.tgts, (Lit.int .i64 t).wf = true) : GHas w v K := by
  refine ⟨?_, fun c hc => ?_⟩
  · rcases h.row.2 with ⟨rfl, h0⟩ | ⟨g, cap, cur, rfl, h1⟩
    · exact ⟨none, 0, by rw [h0], fun hne => absurd (List.length_eq_zero_iff.1 h0) hne⟩
    · refine ⟨_, _, rfl, fun _ => ⟨g, 0, rfl, fun k hk i hi => ?_⟩⟩
      have e := VC_at K k hk i hi
      have hc : (K[k]).arr[i]? = some ((K[k]).arr[i]'(by show i < 8; exact hi)) := Array.getElem?_eq_getElem _
      rw [hc] at e ⊢
      have := h.row.cells (g := g) rfl (k * 8 + i) _ e
      rw [Addr.add_lit] at this
      rw [show 0 + k * 8 + i = 0 + (k * 8 + i) by omega]
      exact this
  · obtain ⟨f1, f2, f3, f4⟩ := hf c hc
    refine ⟨⟨HasI.of_own (h.own c hc).1, HasI.of_own (h.own c hc).2, f1, by omega, by omega⟩, f3, f4, fun a n cp e => ?_⟩
    rcases (h.own c hc).2.2 with ⟨h0, _⟩ | ⟨g, cap, cur, h1, _, _, h4, _⟩
    · rw [h0] at e; cases e; exact Nat.le_refl _
    · rw [h1] at e; cases e; exact h4
theorem Vb.frozen {w : World} {p : Nat} {c : V} (h : Vb w p c) (i : Nat) : w.frozen? ⟨p, i, none⟩ = false := by
  unfold World.frozen?; unfold Vb at h; simp only [h]; simp
theorem Vb.setK {w : World} {p : Nat} {c : V} (h : Vb w p c) (x : Value) : Vb (w.setCell ⟨p, 6, none⟩ x) p { c with kv := x } := by
  unfold Vb; rw [heap_setCell_same w p 6 _ 35 _ h]; rfl
theorem Vb.setT {w : World} {p : Nat} {c : V} (h : Vb w p c) (x : Value) : Vb (w.setCell ⟨p, 7, none⟩ x) p { c with tv := x } := by
  unfold Vb; rw [heap_setCell_same w p 7 _ 35 _ h]; rfl
theorem row_off {w : World} {B n p : Nat} {v : Value} {xs : List Value} {c : V} (h : w.ownsRow B 3 1 v n xs) (hv : Vb w p c) : v.ownBlock ≠ some p := by
  intro e
  rcases h.2 with ⟨rfl, _⟩ | ⟨g, cap, cur, rfl, _, hg, _⟩
  · cases e
  · cases e
    unfold Vb at hv
    rw [hg] at hv
    simp at hv
/-- append([]int(nil), xs...): a copy. -/
theorem run_copy {P : Program} (w : World) (t ty : TypeId) (i : TypeInfo) (ht : P.underlying t = some (.slice 3)) (hi : P.info? 3 = some i) (hz : i.zero = some (.int .i64 0)) (hsize : i.size = 1) (hby : i.bytes = 8)
    (x : Value) (xs : List Int) (h : HasI w x xs) (hl : xs.length ≤ 1048576) (B : Nat) (hB : B ≤ w.heap.size) :
    ∃ v' w', (Builtin.append_ #[t, t] ty #[.slice none 0 0, x]).run P w = .ok v' w' ∧ w'.ownsRow B 3 1 v' xs.length (xs.map (Value.int .i64)) ∧ Below w.heap.size w w' := by
  obtain ⟨ad, cap, rfl, hc⟩ := h
  by_cases h0 : xs = []
  · subst h0
    refine ⟨.slice none 0 0, w, ?_, World.ownsRow_nil _ _ _ _, Below.refl _ _⟩
    cases ad <;> simp [Builtin.append_, run_underlying ht, sizeOf, typeInfo, hi, Builtin.lenOf, Builtin.firstCells, loadCells, loadCellsFrom]
  · obtain ⟨b, o, rfl, hk⟩ := hc h0
    obtain ⟨v', w', hr, h2, h3, _⟩ := run_append_own_at (P := P) w B t ty 3 i (.int .i64 0) 1 8 ht hi hz hsize hby rfl (by decide) (.slice none 0 0) 0 [] (World.ownsRow_nil _ _ _ _) ⟨b, o, none⟩ xs.length cap (xs.map (Value.int .i64)) (by simp)
      (fun j u hj => by
        rw [Addr.add_lit]
        rw [List.getElem?_map] at hj
        obtain ⟨y, hy, rfl⟩ := Option.map_eq_some_iff.1 hj
        have hjl : j < xs.length := (List.getElem?_eq_some_iff.1 hy).1
        rw [hk j hjl, List.getD_eq_getElem?_getD, hy]; rfl)
      (fun u hu => by obtain ⟨y, _, rfl⟩ := List.mem_map.1 hu; rfl) (by unfold maxLen; omega) (by omega) hB
    rw [Nat.zero_add, List.nil_append] at h2
    exact ⟨v', w', hr, h2, ⟨h3.os, h3.tape, h3.output, h3.size, fun k hk => h3.block k hk (by simp [Value.ownBlock])⟩⟩
theorem wpList_copy {P : Program} (w : World) {ops : Array Oper} {rest : List Oper} {o : Oper} {a : Act} {Q : Exit → Act → World → Prop} (hgd : o.guard = none) (s x : Operand) (t : TypeId)
    (ho : o.op = .call { callee := .builtin .append, args := #[s, x], argTypes := #[t, t] })
    (i : TypeInfo) (ht : P.underlying t = some (.slice 3)) (hi : P.info? 3 = some i) (hz : i.zero = some (.int .i64 0)) (hsize : i.size = 1) (hby : i.bytes = 8)
    (v : Value) (xs : List Int) (hs : a.eval s = .slice none 0 0) (hx : a.eval x = v) (h : HasI w v xs) (hl : xs.length ≤ 1048576) (B : Nat) (hB : B ≤ w.heap.size)
    (hk : ∀ v' w', w'.ownsRow B 3 1 v' xs.length (xs.map (Value.int .i64)) → Below w.heap.size w w' → wpList P ops Q rest (a.put o.dst v') w') : wpList P ops Q (o :: rest) a w := by
  refine wpList_plain hgd fun K hK => ?_
  obtain ⟨v', w', hr, h2, h3⟩ := run_copy (P := P) w t o.type i ht hi hz hsize hby v xs h hl B hB
  unfold Oper.wp execOp
  simp only [ho, resolve, invoke, builtin, Sem.run_bind, Sem.run_pure, Result.andThen_ok, List.map_toArray, List.map_cons, List.map_nil, hs, hx, hr]
  exact hK _ _ (hk v' w' h2 h3)
set_option maxRecDepth 100000 in
set_option maxHeartbeats 2000000 in
theorem twin_any (L : List V) (v : Value) (w : World) (h : GHas w v L) (hl : L.length ≤ 100000) : Calls Tryd.prog 20 #[v] w fun e w' => ∃ v' K, e = .returned v' ∧ K.map V.g = L.map V.g ∧ Tw w w' v' K := by
  obtain ⟨i0, hi, hz0, hz1, hz2⟩ := info_parts Tryd.info35
  obtain ⟨j0, hj, hy0, hy1, hy2⟩ := info_parts Tryd.info3
  obtain ⟨ad, cap, rfl, hc⟩ := h.form
  have HH := hide h
  have HC := hide hc
  clear h hc
  go_enter Tryd.func20, Tryd.ntmps20
  go_wp2_with fail
  go_loopw [3, 8] (fun v i wr => ∃ (k : Nat) (K : List V), k ≤ L.length ∧ i = .int .i64 k ∧ Hid (K.map V.g = (L.map V.g).take k) ∧ Hid (Tw w wr v K) ∧ ∃ o n c, v = .slice o n c) (fun _ i _ => L.length - (intOf i).toNat)
  case atStart => exact ⟨0, [], Nat.zero_le _, rfl, rfl, ⟨Below.refl _ _, World.ownsRow_nil _ _ _ _, fun _ h => by cases h⟩, _, _, _, rfl⟩
  case round =>
    obtain ⟨k, K, hk, rfl, HK, HT, vo, vn, vc, rfl⟩ := hrel
    by_cases hlt : k < L.length
    · have hT := unhide HT
      have hfit := (unhide HH).fit _ (List.getElem_mem hlt)
      have hne : L ≠ [] := by rintro rfl; simp at hlt
      obtain ⟨b0, o0, rfl, hcell⟩ := unhide HC hne
      have hcl := hcell k hlt
      have hKl : K.length = k := by
        have := congrArg List.length (unhide HK)
        simp at this; omega
      have hKn : (L.map V.g).take (k + 1) = (L.map V.g).take k ++ [(L[k]).g] := by
        rw [List.take_add_one, List.getElem?_eq_getElem (by simpa using hlt)]; simp
      have hrowform : vn = k := by
        rcases hT.row.2 with ⟨h1, h2⟩ | ⟨g, cp, cur, h1, _⟩
        · cases h1; omega
        · cases h1; omega
      subst hrowform
      obtain ⟨c, hcL⟩ : ∃ c, c = L[vn] := ⟨_, rfl⟩
      simp only [← hcL] at hfit hcl hKn
      have hkI := hfit.ok.k
      have htI := hfit.ok.t
      have hkl := hfit.ok.kl
      have htl := hfit.ok.tl
      obtain ⟨at2, cap2, et, _⟩ := htI
      obtain ⟨ak2, capk, ek, _⟩ := hkI
      have hkI := hfit.ok.k
      have htI := hfit.ok.t
      obtain ⟨⟨at_, op, wide, a, bb, low, keys, tgts⟩, kv, tv⟩ := c
      simp only at et ek hkI htI hkl htl hKn
      subst et
      subst ek
      have x0 := hcl 0 (by omega)
      have x1 := hcl 1 (by omega)
      have x2 := hcl 2 (by omega)
      have x3 := hcl 3 (by omega)
      have x4 := hcl 4 (by omega)
      have x5 := hcl 5 (by omega)
      have x6 := hcl 6 (by omega)
      have x7 := hcl 7 (by omega)
      simp only [V.arr] at x0 x1 x2 x3 x4 x5 x6 x7
      simp at x0 x1 x2 x3 x4 x5 x6 x7
      have hb0 : b0 < w.heap.size := cell_lt x0
      have hcw : ∀ o, wr.cell? ⟨b0, o, none⟩ = w.cell? ⟨b0, o, none⟩ := fun o => hT.old.cell hb0
      rw [← hcw] at x0 x1 x2 x3 x4 x5 x6 x7
      obtain ⟨W2, hW2⟩ : ∃ W2, W2 = wr.alloc (.cells #[.int .i64 at_, .int .u8 (op : Int), .bool wide, .int .i64 a, .int .i64 bb, .int .i64 low, .slice ak2 keys.length capk, .slice at2 tgts.length cap2] 35) := ⟨_, rfl⟩
      have hbel : Below wr.heap.size wr W2 := by rw [hW2]; exact (Below.refl _ _).alloc (Nat.le_refl _) _
      have v2 : Vb W2 wr.heap.size ⟨⟨at_, op, wide, a, bb, low, keys, tgts⟩, .slice ak2 keys.length capk, .slice at2 tgts.length cap2⟩ := by rw [hW2]; exact heap_alloc_new wr _
      have hT2 := hT.below hbel
      have hkW := (hkI.below hT.old).below hbel
      have hsz := hT2.old.size
      have ki : (vn : Int) < (L.length : Int) := by omega
      have hpf : w.heap.size ≤ wr.heap.size := hT.old.size
      have hvp : (Value.slice vo vn vc).ownBlock ≠ some wr.heap.size := fun e => by have := (ins_in hT.row e).2; omega
      have hKp : ∀ c ∈ K, c.kv.ownBlock ≠ some wr.heap.size ∧ c.tv.ownBlock ≠ some wr.heap.size := fun c hc => ⟨fun e => by have := (row_in (hT.own c hc).1 e).2; omega, fun e => by have := (row_in (hT.own c hc).2 e).2; omega⟩
      have y6 := v2.cell 6
      simp [V.arr] at y6
      have HKn := hide hKn
      have HKl := hide hKl
      clear hcl hcell hne hfit hcw hKn hKl hT hcL
      go_upto_region 5 with fail
      rw [← hW2]
      obtain ⟨p, ep⟩ : ∃ p, p = wr.heap.size := ⟨_, rfl⟩
      rw [← ep] at y6 v2 hvp hKp hpf ⊢
      clear hW2 ep x0 x1 x2 x3 x4 x5 x6 x7 hbel
      have Htk := hide (fun (w9 : World) (hb : Below w.heap.size w w9) => htI.below hb)
      go_upto_region 6 with (at_builtin; refine wpList_copy _ rfl _ _ 33 rfl j0 Tryd.underlying33 hj hy0 hy1 hy2 (.slice ak2 keys.length capk) keys rfl rfl hkW hkl w.heap.size hsz ?_; intro kv' w3 hok hb3; obtain ⟨k1, k2, k3, rfl⟩ := row_form hok; have v3 := v2.below hb3; have z6 := v3.cell 6; have f6 := v3.frozen 6; simp [V.arr] at z6)
      have v4 := v3.setK (.slice k1 k2 k3)
      have hT3 := hT2.below hb3
      have hT4 := hT3.set (i := 6) hpf (.slice k1 k2 k3) hvp hKp
      have hok4 := row_kept hok (grown_set w3 p 6 (.slice k1 k2 k3)) (fun b e => by cases e; exact row_off hok v3)
      clear hok hT3 v3 z6 f6 y6 v2 hT2 hkW hb3 hsz
      generalize w3.setCell ⟨p, 6, none⟩ (.slice k1 k2 k3) = W4 at *
      have y7 := v4.cell 7
      simp [V.arr] at y7
      have htW := unhide Htk W4 hT4.old
      have hsz := hT4.old.size
      go_upto_region 7 with (at_builtin; refine wpList_copy _ rfl _ _ 33 rfl j0 Tryd.underlying33 hj hy0 hy1 hy2 (.slice at2 tgts.length cap2) tgts rfl rfl htW htl w.heap.size hsz ?_; intro tv' w5 hot hb5; obtain ⟨t1, t2, t3, rfl⟩ := row_form hot; have v5 := v4.below hb5; have z7 := v5.cell 7; have f7 := v5.frozen 7; simp [V.arr] at z7)
      have v6 := v5.setT (.slice t1 t2 t3)
      have hT5 := hT4.below hb5
      have hT6 := hT5.set (i := 7) hpf (.slice t1 t2 t3) hvp hKp
      have hok5 := row_kept hok4 (grown_of_below hb5 none) (fun _ e => by cases e)
      have hok6 := row_kept hok5 (grown_set w5 p 7 (.slice t1 t2 t3)) (fun b e => by cases e; exact row_off hok5 v5)
      have hot6 := row_kept hot (grown_set w5 p 7 (.slice t1 t2 t3)) (fun b e => by cases e; exact row_off hot v5)
      clear hok4 hok5 hot hT4 hT5 v4 v5 z7 f7 y7 htW hb5 hsz
      generalize w5.setCell ⟨p, 7, none⟩ (.slice t1 t2 t3) = W6 at *
      have y0 := v6.cell 0
      have y1 := v6.cell 1
      have y2 := v6.cell 2
      have y3 := v6.cell 3
      have y4 := v6.cell 4
      have y5 := v6.cell 5
      have y6 := v6.cell 6
      have y7 := v6.cell 7
      simp [V.arr] at y0 y1 y2 y3 y4 y5 y6 y7
      have hrow := hT6.row
      rw [unhide HKl] at hrow
      have hsz := hT6.old.size
      go_wp2_with (at_builtin; refine wpList_append_own_at _ rfl _ _ 27 rfl w.heap.size 35 i0 (.agg #[.int .i64 0, .int .u8 0, .bool false, .int .i64 0, .int .i64 0, .int .i64 0, .slice none 0 0, .slice none 0 0]) 8 88 Tryd.underlying27 hi hz0 hz1 hz2 rfl (by decide) (.slice vo vn vc) vn _ rfl (ins_kept hrow (World.grownBy_alloc W6 _ none) (fun _ e => by cases e)) ⟨W6.heap.size, 0, none⟩ 1 1 [.int .i64 at_, .int .u8 (op : Int), .bool wide, .int .i64 a, .int .i64 bb, .int .i64 low, .slice k1 k2 k3, .slice t1 t2 t3] rfl rfl (new8 W6 _ 35) (one8 _ _ _ _ _ _ _ _ _ _ _ _) (by unfold maxLen; omega) (by omega) (by simp; omega) ?_; intro v' w7 hown' hgrow _ _)
      have hT7 : Tw w w7 v' (K ++ [⟨⟨at_, op, wide, a, bb, low, keys, tgts⟩, .slice k1 k2 k3, .slice t1 t2 t3⟩]) := hT6.push ⟨hok6, hot6⟩ (by rw [unhide HKl]; exact hown') hgrow
      have HT7 := hide hT7
      have HK7 : Hid ((K ++ [(⟨⟨at_, op, wide, a, bb, low, keys, tgts⟩, .slice k1 k2 k3, .slice t1 t2 t3⟩ : V)]).map V.g = (L.map V.g).take (vn + 1)) := by
        unfold Hid; rw [unhide HKn, List.map_append, unhide HK]; rfl
      obtain ⟨g9, c9, e9⟩ := own_form hown' (by omega)
      subst e9
      clear hT7 hown' hgrow hT6
      go_roundw
      case rel => exact ⟨vn + 1, _, by omega, by go_num, HK7, HT7, _, _, _, rfl⟩
      case measure => simp [intOf]; omega
    · have hkl : k = L.length := by omega
      subst hkl
      have ki : ¬ (L.length : Int) < (L.length : Int) := by omega
      have hK := unhide HK
      rw [List.take_of_length_le (by simp)] at hK
      have HK2 := hide hK
      clear hK HK
      go_wp2
      go_ret
      first | exact ⟨_, K, rfl, unhide HK2, unhide HT⟩ | exact ⟨_, rfl, K, unhide HK2, unhide HT⟩
end Go.Proofs.YtpmonoenppfekabDoor
