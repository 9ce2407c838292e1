/-
  Package maps: a writer: number, vtype, types.
  Package maps: a writer: vtype, types.
-/
import Derived.Test.YtgihfcjddkpkaaaMgXb
import Derived.Deep.RegionLaw
import Derived.Deep.RegionHeld3
namespace Go.Proofs.Ytgihfcjddkpkaaa
open Go.RowKit Go.Maps
/-- The function that tells indexes. -/
def fv (Kb Pb : Nat) : Value := .func (Fn.func 60) #[] #[.pointer (some ⟨Kb, 0, none⟩), .pointer (some ⟨Pb, 0, none⟩)]
/-- A writer that has written l. -/
structure Wt (w0 w : World) (W Kb Pb : Nat) (pv : Value) (P : List K) (l : List UInt8) : Prop where
  blk : ∃ bv, Bk w W #[bv, fv Kb Pb] 69 ∧ w.ownsRow w0.heap.size 5 1 bv l.length (U8 l)
  kst : Kst w Kb w0.heap.size P
  pb : Bk w Pb #[pv] 58
  bel : Below w0.heap.size w0 w
  neW : W ≠ Kb
  geW : w0.heap.size ≤ W
  geK : w0.heap.size ≤ Kb
/-- What a writer's step leaves as it was. -/
structure Fw (W Kb : Nat) (w w' : World) : Prop where
  size : w.heap.size ≤ w'.heap.size
  rest : ∀ (k : Nat) (o : Obj), w.heap[k]? = some o → (∀ c fr, o ≠ Obj.cells c 5 fr) → k ≠ W → k ≠ Kb → w'.heap[k]? = some o
theorem Fw.refl (W Kb : Nat) (w : World) : Fw W Kb w w := ⟨Nat.le_refl _, fun _ _ h _ _ _ => h⟩
theorem Fw.trans {W Kb : Nat} {a b c : World} (h : Fw W Kb a b) (k : Fw W Kb b c) : Fw W Kb a c :=
  ⟨Nat.le_trans h.size k.size, fun i o hi ht h1 h2 => k.rest i o (h.rest i o hi ht h1 h2) ht h1 h2⟩
theorem Fw.alloc {W Kb : Nat} {a w : World} (h : Fw W Kb a w) (o : Obj) : Fw W Kb a (w.alloc o) :=
  ⟨by have := h.size; simp; omega, fun i x hi ht h1 h2 => by
    have h3 := h.rest i x hi ht h1 h2
    rw [Below.heap_alloc w o i (Array.getElem?_eq_some_iff.1 h3).1]; exact h3⟩
theorem Fw.fb {W Kb B : Nat} {a b c : World} (h : Fw W Kb a b) (k : Fb B b c) : Fw W Kb a c :=
  ⟨Nat.le_trans h.size k.old.size, fun i o hi ht h1 h2 => k.rest i o (h.rest i o hi ht h1 h2) ht⟩
theorem Fw.grown {W Kb : Nat} {a b c : World} (h : Fw W Kb a b) {row : Option Nat} (hg : b.grownBy c row) (hr : row = some W ∨ row = some Kb ∨ row = none) : Fw W Kb a c :=
  ⟨Nat.le_trans h.size hg.size, fun i o hi ht h1 h2 => by
    have h3 := h.rest i o hi ht h1 h2
    refine (hg.block i (Array.getElem?_eq_some_iff.1 h3).1 ?_).trans h3
    rcases hr with rfl | rfl | rfl
    · simpa using h1
    · simpa using h2
    · simp⟩
theorem Bk.fw {W Kb : Nat} {w w' : World} {g : Nat} {cs : Array Value} {t : TypeId} (h : Bk w g cs t) (hf : Fw W Kb w w') (ht : t ≠ 5) (h1 : g ≠ W) (h2 : g ≠ Kb) : Bk w' g cs t :=
  hf.rest g _ h (by intro c fr e; cases e; exact ht rfl) h1 h2
theorem Bk.fb {B : Nat} {w w' : World} {g : Nat} {cs : Array Value} {t : TypeId} (h : Bk w g cs t) (hf : Fb B w w') (ht : t ≠ 5) : Bk w' g cs t :=
  hf.rest g _ h (by intro c fr e; cases e; exact ht rfl)
theorem ownsMap_heap {w w' : World} {m n : Nat} {D : DataW Unit} (h : w.ownsMap Try.prog 9 (plainElem Try.prog 3) m n D) (e : ∀ o, w.heap[m]? = some o → (∀ c fr, o ≠ Obj.cells c 5 fr) → w'.heap[m]? = some o) : w'.ownsMap Try.prog 9 (plainElem Try.prog 3) m n D := by
  obtain ⟨es, clock, hb, r⟩ := h
  exact ⟨es, clock, e _ hb (by intro c fr e; cases e), r⟩
theorem Kst.turn {w w' : World} {Kb B : Nat} {P : List K} (h : Kst w Kb B P) (e : ∀ k o, B ≤ k → w.heap[k]? = some o → (∀ c fr, o ≠ Obj.cells c 5 fr) → (k = Kb ∨ ∀ c t fr, o ≠ Obj.cells c t fr) → w'.heap[k]? = some o) (hK : B ≤ Kb) : Kst w' Kb B P := by
  rcases h with h | ⟨m, D, n, h, hm, ho, hI⟩
  · exact .inl (e Kb _ hK h (by intro c fr e; cases e) (.inl rfl))
  · refine .inr ⟨m, D, n, e Kb _ hK h (by intro c fr e; cases e) (.inl rfl), hm, ?_, hI⟩
    obtain ⟨es, clock, hb, r⟩ := ho
    exact ⟨es, clock, e m _ hm hb (by intro c fr e; cases e) (.inr (by intro c t fr e; cases e)), r⟩
section
variable {w0 w w' : World} {W Kb Pb : Nat} {pv : Value} {P : List K} {l : List UInt8}
theorem own5_slice {B n : Nat} {v : Value} {xs : List Value} (h : w.ownsRow B 5 1 v n xs) : ∃ ad c, v = .slice ad n c := by
  rcases h.2 with ⟨rfl, h0⟩ | ⟨g, cap, cur, rfl, _⟩
  · exact ⟨none, 0, by rw [h0]⟩
  · exact ⟨_, _, rfl⟩
theorem Wt.neP (h : Wt w0 w W Kb Pb pv P l) : W ≠ Pb := fun e => by
  obtain ⟨bv, hb, _⟩ := h.blk
  have h2 := h.pb
  rw [← e] at h2
  unfold Bk at hb h2
  rw [hb] at h2
  simp at h2
theorem Wt.neKP (h : Wt w0 w W Kb Pb pv P l) : Kb ≠ Pb := fun e => by
  have h2 := h.pb
  rw [← e] at h2
  unfold Bk at h2
  rcases h.kst with h1 | ⟨m, D, n, h1, _⟩
  · unfold Bk at h1; rw [h1] at h2; simp at h2
  · unfold Bk at h1; rw [h1] at h2; simp at h2
/-- Bytes are appended, and the slice is stored. -/
theorem Wt.put (h : Wt w0 w W Kb Pb pv P l) {l' : List UInt8} {bv' : Value} (hf : Fb w0.heap.size w w') (ho : w'.ownsRow w0.heap.size 5 1 bv' l'.length (U8 l')) :
    Wt w0 (w'.setCell ⟨W, 0, none⟩ bv') W Kb Pb pv P l' ∧ Fw W Kb w (w'.setCell ⟨W, 0, none⟩ bv') := by
  obtain ⟨bv, hb, _⟩ := h.blk
  have hb' := hb.fb hf (by decide)
  have hno : bv'.ownBlock ≠ some W := fun e => by
    rcases ho.2 with ⟨rfl, _⟩ | ⟨g, cap, cur, rfl, _, hh, _⟩
    · cases e
    · cases e
      unfold Bk at hb'
      rw [hb'] at hh
      simp at hh
  have hset : ∀ k, k ≠ W → (w'.setCell ⟨W, 0, none⟩ bv').heap[k]? = w'.heap[k]? := fun k hk => Below.heap_setCell w' ⟨W, 0, none⟩ bv' k (by simpa using hk)
  have hg := grown_set w' W 0 bv'
  refine ⟨⟨⟨bv', hb'.set 0 bv', ?_⟩, ?_, ?_, (h.bel.trans hf.old).setCell h.geW _, h.neW, h.geW, h.geK⟩, (Fw.refl W Kb w).fb hf |>.grown hg (.inl rfl)⟩
  · refine ⟨ho.1, ?_⟩
    rcases ho.2 with h0 | ⟨g, cap, cur, rfl, h1, h2, h3⟩
    · exact .inl h0
    · refine .inr ⟨g, cap, cur, rfl, h1, ?_, h3⟩
      rw [hset g (fun e => hno (by rw [e]; rfl))]; exact h2
  · refine h.kst.turn (fun k o _ hk ht hc => ?_) h.geK
    have h3 := hf.rest k o hk ht
    rw [hset k ?_]
    · exact h3
    · intro e
      rcases hc with e2 | e2
      · exact h.neW (e.symm.trans e2)
      · rw [e] at hk
        unfold Bk at hb
        rw [hb] at hk
        cases hk
        exact e2 _ _ _ rfl
  · exact (h.pb.fb hf (by decide)).other 0 _ (fun e => h.neP e.symm)
/-- A step that turns what is known of classes alone. -/
theorem Wt.look (h : Wt w0 w W Kb Pb pv P l) (hg : w.grownBy w' (some Kb)) (hk : Kst w' Kb w0.heap.size P) : Wt w0 w' W Kb Pb pv P l := by
  obtain ⟨bv, hb, ho⟩ := h.blk
  refine ⟨⟨bv, hb.kept hg (by simpa using h.neW), ?_⟩, hk, h.pb.kept hg (by simpa using fun e => h.neKP e.symm), h.bel.grown hg h.bel.size (fun k e => by cases e; exact h.geK), h.neW, h.geW, h.geK⟩
  refine ⟨ho.1, ?_⟩
  rcases ho.2 with h0 | ⟨g, cap, cur, rfl, h1, h2, h3⟩
  · exact .inl h0
  · refine .inr ⟨g, cap, cur, rfl, h1, ?_, h3⟩
    rw [hg.block g (Array.getElem?_eq_some_iff.1 h2).1 (fun e => by
      cases e
      rcases h.kst with q | ⟨m, D, n, q, _⟩
      · unfold Bk at q; rw [q] at h2; simp at h2
      · unfold Bk at q; rw [q] at h2; simp at h2)]
    exact h2
theorem Wt.alloc (h : Wt w0 w W Kb Pb pv P l) (o : Obj) : Wt w0 (w.alloc o) W Kb Pb pv P l := by
  obtain ⟨bv, hb, ho⟩ := h.blk
  refine ⟨⟨bv, hb.alloc o, ho.alloc o⟩, h.kst.turn (fun k x _ hk _ _ => ?_) h.geK, h.pb.alloc o, h.bel.alloc h.bel.size o, h.neW, h.geW, h.geK⟩
  rw [Below.heap_alloc w o k (Array.getElem?_eq_some_iff.1 hk).1]; exact hk
end
set_option maxRecDepth 100000 in
set_option maxHeartbeats 1000000 in
theorem number_any (w0 w : World) (W Kb Pb : Nat) (pv : Value) (P : List K) (l : List UInt8) (n : Nat) (h : Wt w0 w W Kb Pb pv P l) (hn : n ≤ 65535) (hl : l.length ≤ 1000000) :
    Calls Try.prog 29 #[.pointer (some ⟨W, 0, none⟩), .int .i64 (n : Int)] w fun e w' => e = .returned (.tuple #[]) ∧ Wt w0 w' W Kb Pb pv P (l ++ M.big n 2) ∧ Fw W Kb w w' := by
  obtain ⟨bv, hb, ho⟩ := h.blk
  have H := hide h
  have hbs := h.bel.size
  obtain ⟨ad, c, ev⟩ := own5_slice ho
  subst ev
  have k0 : w.cell? ⟨W, 0, none⟩ = some (.slice ad l.length c) := hb.cell 0
  obtain ⟨wA, hwA⟩ : ∃ wA, wA = w.alloc (.cells #[.int .u64 (n : Int)] 73) := ⟨_, rfl⟩
  have hfA : Fb w0.heap.size w wA := by rw [hwA]; exact (Fb.refl _ _).alloc hbs _
  have hoA : wA.ownsRow w0.heap.size 5 1 (.slice ad l.length c) l.length (U8 l) := by rw [hwA]; exact ho.alloc _
  have hgA : wA.heap[w.heap.size]? = some (.cells (([n].map fun (x : Nat) => Value.int .u64 (x : Int)).toArray) 73 (0, 0)) := by rw [hwA]; exact heap_alloc_new _ _
  have HA := hide (Append_any w0.heap.size (.slice ad l.length c) l 2 w.heap.size 1 [n] wA (by decide) (by omega) (Nat.le_trans hbs hfA.old.size) (fun x hx => by simp at hx; omega) (by simp) hoA hgA)
  simp only [List.flatMap_cons, List.flatMap_nil, List.append_nil] at HA
  generalize l ++ M.big n 2 = l2 at HA ⊢
  have HwA := hide hwA
  clear hwA hgA hoA ho h
  go_enter Try.func29, Try.ntmps29
  go_wp2_with fail
  rw [← unhide HwA]
  refine (unhide HA).mono ?_
  rintro e w1 ⟨v1, rfl, ho1, hf1⟩
  have hf2 := hfA.trans hf1
  obtain ⟨ad1, c1, e1⟩ := own5_slice ho1
  subst e1
  have hb1 := hb.fb hf2 (by decide)
  have k1 : w1.cell? ⟨W, 0, none⟩ = some (.slice ad l.length c) := hb1.cell 0
  have kf := hb1.frozen 0
  have hput := (unhide H).put hf2 ho1
  have HP := hide hput
  clear HA HwA hput hf1 hfA hf2 ho1 k0 hb
  go_wp2
  go_end0
  exact ⟨rfl, (unhide HP).1, (unhide HP).2⟩
end Go.Proofs.Ytgihfcjddkpkaaa
namespace Go.Proofs.Ytgihfcjddkpkaaa
open Go.RowKit Go.Maps
theorem step_append_at {P : Program} {ops : Array Oper} {o : Oper} {a : Act} {w : World} {K : Act → World → Prop} {Q : Exit → Act → World → Prop} {E : Prop} (hg : o.guard = none) (s x : Operand) (t : TypeId)
    (ho : o.op = .call { callee := .builtin .append, args := #[s, x], argTypes := #[t, t] })
    (base : Nat) (e : TypeId) (i : TypeInfo) (z : Value) (size bytes : Nat) (ht : P.underlying t = some (.slice e)) (hi : P.info? e = some i) (hz : i.zero = some z)
    (hsize : i.size = size) (hby : i.bytes = bytes) (hzs : z.cells.size = size) (hsz : 0 < size)
    (v : Value) (n : Nat) (xs : List Value) (hs : a.eval s = v) (hown : w.ownsRow base e size v n xs)
    (ad : Addr) (m c : Nat) (news : List Value) (hx : a.eval x = .slice (some ad) m c) (hl : news.length = m * size) (hnews : ∀ j u, news[j]? = some u → w.cell? (ad.add j) = some u) (h1 : ∀ u ∈ news, u.oneCell' = true)
    (h63 : n + m ≤ maxLen) (hbytes : (n + m) * bytes ≤ 140737488355328) (hbase : base ≤ w.heap.size)
    (h : ∀ v' w', w'.ownsRow base e size v' (n + m) (xs ++ news) → w.grownBy w' v.ownBlock → (v'.ownBlock = v.ownBlock ∨ v'.ownBlock = some w.heap.size) → K (a.put o.dst v') w') :
    if Region.wanted o (yielded ops a.tmps) = true then Oper.wp P o a w K Q else E := by
  have hw : Region.wanted o (yielded ops a.tmps) = true := by simp [Region.wanted, hg]
  rw [if_pos hw]
  obtain ⟨v', w', hr, h2, h3, _, h5⟩ := run_append_own_at (P := P) w base t o.type e i z size bytes ht hi hz hsize hby hzs hsz v n xs hown ad m c news hl hnews h1 h63 hbytes hbase
  unfold Oper.wp execOp
  simp only [ho, resolve, invoke, builtin, Sem.run_bind, Sem.run_pure, Result.andThen_ok, List.map_toArray, List.map_cons, List.map_nil, hs, hx, hr]
  exact h v' w' h2 h3 h5
/-- What writing of types leaves: the error, and, if there is none, what is written. -/
def VtR (w0 : World) (W Kb Pb : Nat) (pv : Value) (P : List K) (r : Except Nat (List UInt8)) (l : List UInt8) (w : World) (e : Ending) (w' : World) : Prop :=
  ∃ z : Nat, e = .returned (.int .i64 (z : Int)) ∧ Below w0.heap.size w0 w' ∧ Fw W Kb w w' ∧ ((∃ b, r = .ok b ∧ z = 0 ∧ Wt w0 w' W Kb Pb pv P (l ++ b)) ∨ (r = .error z ∧ z ≠ 0))
theorem Fb.drew {B : Nat} (w : World) : Fb B w w.drew := ⟨(Below.refl _ _).drew, fun _ _ h _ => h⟩
theorem cell_one (w : World) (v : Value) (t : TypeId) : ∀ j u, ([v] : List Value)[j]? = some u → (w.alloc (.cells #[v] t)).cell? ((⟨w.heap.size, 0, none⟩ : Addr).add j) = some u := fun j u hj => by
  match j, hj with
  | 0, hj => simp at hj; subst hj; simp [Addr.add]
theorem one_u8 (x : Int) : ∀ u ∈ ([.int .u8 x] : List Value), u.oneCell' = true := by intro u hu; simp at hu; subst hu; rfl
theorem fb_app {B : Nat} {w w1 w2 : World} {v : Value} {n : Nat} {xs : List Value} {o : Obj} (h : Fb B w w1) (hB : B ≤ w1.heap.size) (ho : (w1.alloc o).ownsRow B 5 1 v n xs) (hg : (w1.alloc o).grownBy w2 v.ownBlock) : Fb B w w2 :=
  (h.alloc hB o).grown ho (by simp; omega) hg
theorem U8_one (l : List UInt8) (x : Nat) (hx : x < 256) : U8 (l ++ [UInt8.ofNat x]) = U8 l ++ [.int .u8 (x : Int)] := by
  rw [U8_append]
  have : (UInt8.ofNat x).toNat = x := by rw [UInt8.toNat_ofNat']; omega
  simp [U8, this]
set_option maxRecDepth 100000 in
set_option maxHeartbeats 4000000 in
theorem wvtype_any (w0 w : World) (W Kb Pb : Nat) (pv : Value) (P : List K) (l : List UInt8) (t : T) (h : Wt w0 w W Kb Pb pv P l) (hpool : KIn w0 pv P) (hl : l.length ≤ 900000) (hP : P.length ≤ 1048576) (htx : Txt P) (htg : t.tag < 256) (hnm : t.name.length ≤ maxLen) :
    Calls Try.prog 94 #[.pointer (some ⟨W, 0, none⟩), t.val] w fun e w' => VtR w0 W Kb Pb pv P (M.vt P t) l w e w' := by
  obtain ⟨i0, hi, hz0, hz1, hz2⟩ := info_parts Try.info5
  obtain ⟨bv, hb, ho⟩ := h.blk
  have H := hide h
  have hbs := h.bel.size
  obtain ⟨ad, c, ev⟩ := own5_slice ho
  subst ev
  obtain ⟨X, hX⟩ : ∃ X, X = w.heap.size := ⟨_, rfl⟩
  obtain ⟨wA, hwA⟩ : ∃ wA, wA = w.alloc (.cells #[.int .u8 (t.tag : Int), .string ⟨t.name.toArray⟩, .int .i64 t.at_] 76) := ⟨_, rfl⟩
  have hfA : Fb w0.heap.size w wA := by rw [hwA]; exact (Fb.refl _ _).alloc hbs _
  have hoA : wA.ownsRow w0.heap.size 5 1 (.slice ad l.length c) l.length (U8 l) := by rw [hwA]; exact ho.alloc _
  have hXA : Bk wA X #[.int .u8 (t.tag : Int), .string ⟨t.name.toArray⟩, .int .i64 t.at_] 76 := by rw [hwA, hX]; exact Bk.new _ _ _
  have hbA := hb.fb hfA (by decide)
  have hXW : X ≠ W := by rw [hX]; have := hb.lt; omega
  have hXK : X ≠ Kb := by rw [hX]; have := h.kst.lt; omega
  have k0 : wA.cell? ⟨W, 0, none⟩ = some (.slice ad l.length c) := hbA.cell 0
  have kf := hbA.frozen 0
  have x0 : wA.cell? ⟨X, 0, none⟩ = some (.int .u8 (t.tag : Int)) := hXA.cell 0
  have HwA := hide hwA
  have HX := hide hX
  have hAs := hfA.old.size
  have hWl := hbA.lt
  have hXl := hXA.lt
  unfold T.val
  clear hwA hX ho hb h
  go_enter Try.func94, Try.ntmps94
  go_upto_region 1 with fail
  rw [← unhide HwA, ← unhide HX]
  clear HwA HX
  go_cut [] (fun w' => Hid (Wt w0 w' W Kb Pb pv P (l ++ [UInt8.ofNat t.tag]) ∧ Fw W Kb w w' ∧ Bk w' X #[.int .u8 (t.tag : Int), .string ⟨t.name.toArray⟩, .int .i64 t.at_] 76))
  case first =>
    go_region_law (first
      | (refine step_append_at rfl (.tmp 11) (.tmp 14) 67 rfl w0.heap.size 5 i0 (.int .u8 0) 1 1 Try.underlying67 hi hz0 hz1 hz2 rfl (by decide) (.slice ad l.length c) l.length (U8 l) (by simp [Act.eval]) (show (wA.drew.alloc _).ownsRow _ _ _ _ _ _ from hoA.alloc _) ⟨wA.heap.size, 0, none⟩ 1 1 [.int .u8 (t.tag : Int)] (by simp [Act.eval]) rfl (cell_one wA.drew _ 5) (one_u8 _) (by unfold maxLen; omega) (by omega) (by simp; omega) ?_; intro v' w7 hown7 hgrow7 hloc7; have hf7 : Fb w0.heap.size wA.drew w7 := fb_app (Fb.refl _ _) (by simp; omega) (hoA.alloc _) hgrow7; obtain ⟨a7, c7, e7⟩ := own5_slice hown7; subst e7; have b7 := (show Bk wA.drew W _ 69 from hbA).fb hf7 (by decide); have k7 := b7.cell 0; have f7 := b7.frozen 0; simp at k7))
    all_goals
      have hfw := (hfA.trans (Fb.drew wA)).trans hf7
      have ho7 : w7.ownsRow w0.heap.size 5 1 (.slice a7 (l.length + 1) c7) (l ++ [UInt8.ofNat t.tag]).length (U8 (l ++ [UInt8.ofNat t.tag])) := by rw [U8_one l t.tag htg, List.length_append]; exact hown7
      have hput := (unhide H).put hfw ho7
      have hX7 := ((show Bk wA.drew X _ 76 from hXA).fb hf7 (by decide)).other 0 (.slice a7 (l.length + 1) c7) hXW
      have HPu := hide hput
      have HX7 := hide hX7
      clear hput hX7 hown7 hgrow7 hf7 hfw ho7 b7
      go_wp2
      go_meet
      exact ⟨(unhide HPu).1, (unhide HPu).2, unhide HX7⟩
  case rest =>
    clear hbA hoA hXA hfA k0 kf x0 hAs hWl hXl
    obtain ⟨hW1, hF1, hX1⟩ := unhide hcut
    clear hcut
    obtain ⟨tb, htb⟩ : ∃ tb, tb = UInt8.ofNat t.tag := ⟨_, rfl⟩
    rw [← htb] at hW1
    have Htb := hide htb
    clear htb
    have HW1 := hide hW1
    have HF1 := hide hF1
    have x0 : wc.cell? ⟨X, 0, none⟩ = some (.int .u8 (t.tag : Int)) := hX1.cell 0
    have x1 : wc.cell? ⟨X, 1, none⟩ = some (.string ⟨t.name.toArray⟩) := hX1.cell 1
    have x2 : wc.cell? ⟨X, 2, none⟩ = some (.int .i64 t.at_) := hX1.cell 2
    have hbel := hW1.bel
    have hll : (l ++ [tb]).length ≤ 1000000 := by simp; omega
    have HX1 := hide hX1
    obtain ⟨bv1, hbv1, _⟩ := hW1.blk
    have w1c : wc.cell? ⟨W, 1, none⟩ = some (fv Kb Pb) := hbv1.cell 1
    rcases (show t.tag = 7 ∨ t.tag = 8 ∨ 8 < t.tag ∨ t.tag < 7 by omega) with h7 | h7 | h7 | h7
    · have f7 : (((t.tag : Int) == 7) : Bool) = true := by rw [h7]; rfl
      have hvt : M.vt P t = (match M.idx P t.name (M.lim P) with | some k => .ok (tb :: M.big k 2) | none => .error 7) := by unfold M.vt; rw [if_pos h7, unhide Htb]; cases M.idx P t.name (M.lim P) <;> rfl
      have HCl := hide (closure_any Kb Pb w0.heap.size pv P t.name wc.drew hW1.kst hW1.pb ((hpool.below hW1.bel).below ⟨rfl, rfl, rfl, Nat.le_refl _, fun _ _ => rfl⟩) hW1.bel.size hnm hP htx)
      have Hvt := hide hvt
      have hcl := fun k (e : M.idx P t.name (M.lim P) = some k) => M.idx_lt e
      have Hcl := hide hcl
      obtain ⟨r, hr⟩ : ∃ r, r = M.idx P t.name (M.lim P) := ⟨_, rfl⟩
      have Hr := hide hr
      clear h7 hvt hcl hr hbv1 hX1 hW1 hF1
      unfold fv at w1c
      go_upto_region 3 with fail
      go_cut [5, 6] (fun a b w' => ∃ c : Int, a = .int .i64 c ∧ b = .bool r.isSome ∧ Hid ((∀ k : Nat, r = some k → c = (k : Int)) ∧ Wt w0 w' W Kb Pb pv P (l ++ [tb]) ∧ Fw W Kb w w'))
      case first =>
        go_region_held3 (fun w' => w'.cell? ⟨W, 1, none⟩ = some (.func (Fn.func 60) #[] #[.pointer (some ⟨Kb, 0, none⟩), .pointer (some ⟨Pb, 0, none⟩)]) ∧ w'.cell? ⟨X, 1, none⟩ = some (.string ⟨t.name.toArray⟩)) (go_keep)
          ((go_at_call 60; refine (unhide HCl).mono ?_; rintro e w4 ⟨c4, rfl, hc4, hk4, hg4⟩; have hg5 : wc.grownBy w4 (some Kb) := ⟨hg4.os, hg4.tape, hg4.output, hg4.size, hg4.block⟩; have hW4 := (unhide HW1).look hg5 hk4; have hX4 := (unhide HX1).kept hg5 (by simpa using hXK); have z1 := hX4.cell 1; simp at z1; obtain ⟨bv4, hbv4, hz4⟩ := hW4.blk; have z0 := hbv4.cell 1; simp [fv] at z0; rw [← unhide Hr] at hc4; rw [← unhide Hr]))
        all_goals
          have hF4 := (unhide HF1).grown hg5 (.inr (.inl rfl))
          clear hz4 hbv4
          go_wp2
          go_meet
          exact ⟨c4, rfl, rfl, hc4, hW4, hF4⟩
      case rest =>
        clear HCl HW1 HF1 x0 x1 x2 w1c
        obtain ⟨c5, rfl, rfl, H5⟩ := hcut
        obtain ⟨hc5, hW5, hF5⟩ := unhide H5
        clear H5
        cases hr2 : r with
        | none =>
          have hv2 : M.vt P t = .error 7 := by rw [unhide Hvt, ← unhide Hr, hr2]
          have Hv2 := hide hv2
          have Hbe := hide hW5.bel
          clear hr2 hv2 hc5
          go_wp2
          go_ret
          exact ⟨7, rfl, unhide Hbe, hF5, .inr ⟨unhide Hv2, by decide⟩⟩
        | some k =>
          have hck := hc5 k hr2
          have hkl := unhide Hcl k (by rw [← unhide Hr]; exact hr2)
          have hk6 : k ≤ 65535 := by unfold M.lim at hkl; omega
          have hv2 : M.vt P t = .ok (tb :: M.big k 2) := by rw [unhide Hvt, ← unhide Hr, hr2]
          have Hv2 := hide hv2
          have HNu := hide (number_any w0 wc W Kb Pb pv P (l ++ [tb]) k hW5 hk6 hll)
          rw [List.append_assoc, List.singleton_append] at HNu
          subst hck
          clear hr2 hv2 hc5 hkl
          go_wp2_with fail
          refine (unhide HNu).mono ?_
          rintro e w6 ⟨rfl, hW6, hF6⟩
          clear HNu
          go_wp2
          go_ret
          exact ⟨0, rfl, hW6.bel, hF5.trans hF6, .inl ⟨_, unhide Hv2, rfl, hW6⟩⟩
    · have f7 : (((t.tag : Int) == 7) : Bool) = false := by rw [h7]; rfl
      have f8 : (((t.tag : Int) == 8) : Bool) = true := by rw [h7]; rfl
      have hvt : M.vt P t = (if 0 ≤ t.at_ ∧ t.at_ ≤ 65535 then .ok (tb :: M.big t.at_.toNat 2) else .error 17) := by unfold M.vt; rw [if_neg (by omega), if_pos h7, unhide Htb]
      by_cases ha : 0 ≤ t.at_ ∧ t.at_ ≤ 65535
      · rw [if_pos ha] at hvt
        obtain ⟨n, hn⟩ : ∃ n : Nat, t.at_ = (n : Int) := ⟨t.at_.toNat, by omega⟩
        have hn6 : n ≤ 65535 := by omega
        have HNu := hide (number_any w0 wc W Kb Pb pv P (l ++ [tb]) n hW1 hn6 hll)
        rw [List.append_assoc, List.singleton_append] at HNu
        have hvt2 : M.vt P t = .ok (tb :: M.big n 2) := by rw [hvt, hn, Int.toNat_natCast]
        have Hvt := hide hvt2
        rw [hn] at x2
        have hn0 : ¬ (n : Int) < 0 := by omega
        have hn1 : ¬ (65535 : Int) < (n : Int) := by omega
        clear h7 hvt hvt2 ha hn hbv1 hX1 hW1 hF1
        go_wp2_with fail
        refine (unhide HNu).mono ?_
        rintro e w6 ⟨rfl, hW6, hF6⟩
        clear HNu
        go_wp2
        go_ret
        exact ⟨0, rfl, hW6.bel, (unhide HF1).trans hF6, .inl ⟨_, unhide Hvt, rfl, hW6⟩⟩
      · rw [if_neg ha] at hvt
        have Hvt := hide hvt
        have f9 : t.at_ < 0 ∨ (¬ t.at_ < 0 ∧ 65535 < t.at_) := by omega
        clear h7 hvt ha hbv1 hX1 hW1 hF1
        rcases f9 with f9 | ⟨f9, f10⟩
        all_goals
          go_wp2
          go_ret
          exact ⟨17, rfl, hbel, unhide HF1, .inr ⟨unhide Hvt, by decide⟩⟩
    · have f7 : (((t.tag : Int) == 7) : Bool) = false := by rw [beq_eq_false_iff_ne]; omega
      have f8 : (((t.tag : Int) == 8) : Bool) = false := by rw [beq_eq_false_iff_ne]; omega
      have f9 : (8 : Int) < (t.tag : Int) := by omega
      have Hvt := hide (show M.vt P t = .error 17 by unfold M.vt; rw [if_neg (by omega), if_neg (by omega), if_pos h7])
      clear h7 hbv1 hX1 hW1 hF1
      go_wp2
      go_ret
      exact ⟨17, rfl, hbel, unhide HF1, .inr ⟨unhide Hvt, by decide⟩⟩
    · have f7 : (((t.tag : Int) == 7) : Bool) = false := by rw [beq_eq_false_iff_ne]; omega
      have f8 : (((t.tag : Int) == 8) : Bool) = false := by rw [beq_eq_false_iff_ne]; omega
      have f9 : ¬ (8 : Int) < (t.tag : Int) := by omega
      have Hvt := hide (show M.vt P t = .ok [tb] by unfold M.vt; rw [if_neg (by omega), if_neg (by omega), if_neg (by omega), unhide Htb])
      clear h7 hbv1 hX1 hW1 hF1
      go_wp2
      go_ret
      exact ⟨0, rfl, hbel, unhide HF1, .inl ⟨_, unhide Hvt, rfl, unhide HW1⟩⟩
theorem drop_at (L : List T) {k : Nat} (h : k < L.length) : L.drop k = L.getD k T.zero :: L.drop (k + 1) := by
  rw [List.drop_eq_getElem_cons h, getD_at _ _ h]
theorem getD_eq (L : List T) (k : Nat) : L.getD k T.zero = L.getD k ⟨0, [], 0⟩ := rfl
/-- Types that a program can hold. -/
def Tok (L : List T) : Prop := ∀ t ∈ L, t.tag < 256 ∧ t.name.length ≤ maxLen
theorem vt_len {P : List K} {t : T} {b : List UInt8} (h : M.vt P t = .ok b) : b.length ≤ 3 := by
  unfold M.vt at h
  split at h
  · cases hi : M.idx P t.name (M.lim P) with
    | some k => rw [hi] at h; cases h; simp [M.big_len]
    | none => rw [hi] at h; cases h
  · split at h
    · split at h
      · cases h; simp [M.big_len]
      · cases h
    · split at h
      · cases h
      · cases h; simp
set_option maxRecDepth 100000 in
set_option maxHeartbeats 2000000 in
theorem wtypes_any (w0 w : World) (W Kb Pb : Nat) (pv lv : Value) (P : List K) (l : List UInt8) (L : List T) (h : Wt w0 w W Kb Pb pv P l) (hpool : KIn w0 pv P) (hl : l.length + 3 * L.length ≤ 900000) (hP : P.length ≤ 1048576) (htx : Txt P) (hT : TIn w0 lv L) (hok : Tok L) :
    Calls Try.prog 65 #[.pointer (some ⟨W, 0, none⟩), lv] w fun e w' => VtR w0 W Kb Pb pv P (M.vts P L) l w e w' := by
  have H0 := hide h
  have HT := hide hT
  have Hok := hide hok
  have hWl : W < w.heap.size := by obtain ⟨bv, hb, _⟩ := h.blk; exact hb.lt
  have hKl := h.kst.lt
  obtain ⟨ad, cap, ev, hc⟩ := hT
  subst ev
  have Hc := hide hc
  clear h hc hok
  go_enter Try.func65, Try.ntmps65
  go_wp2_with fail
  go_loopw [10] (fun i wr => ∃ (k : Nat) (l1 : List UInt8), k ≤ L.length ∧ i = .int .i64 k ∧ l1.length ≤ l.length + 3 * k ∧ Hid (M.Ws P L l k l1) ∧ Hid (Wt w0 wr W Kb Pb pv P l1) ∧ Hid (Fw W Kb w wr)) (fun i _ => L.length - (intOf i).toNat)
  case atStart => exact ⟨0, l, Nat.zero_le _, rfl, by omega, M.Ws.zero P L l, unhide H0, Fw.refl _ _ _⟩
  case round =>
    obtain ⟨k, l1, hk, rfl, hl1, HWs, HW, HF⟩ := hrel
    by_cases hlt : k < L.length
    · have ki : (k : Int) < (L.length : Int) := by omega
      have hne : L ≠ [] := by rintro rfl; simp at hlt
      obtain ⟨b, o, rfl, hcell⟩ := unhide Hc hne
      have hd := drop_at L hlt
      have hmem : L.getD k T.zero ∈ L := by rw [getD_at _ _ hlt]; exact List.getElem_mem hlt
      have hoks := unhide Hok _ hmem
      have c0 := hcell k hlt 0 (by omega)
      have c1 := hcell k hlt 1 (by omega)
      have c2 := hcell k hlt 2 (by omega)
      obtain ⟨t, et⟩ : ∃ t, t = L.getD k T.zero := ⟨_, rfl⟩
      rw [← et] at hd hoks c0 c1 c2
      simp [T.cells] at c0 c1 c2
      have hbel := (unhide HW).bel
      rw [← hbel.cell (cell_lt c0)] at c0
      rw [← hbel.cell (cell_lt c1)] at c1
      rw [← hbel.cell (cell_lt c2)] at c2
      have HVt := hide (wvtype_any w0 (wr.alloc (.cells #[.int .u8 (t.tag : Int), .string ⟨t.name.toArray⟩, .int .i64 t.at_] 76)) W Kb Pb pv P l1 t ((unhide HW).alloc _) hpool (by omega) hP htx hoks.1 hoks.2)
      have Hd := hide hd
      unfold T.val at HVt
      clear hd hmem hcell hne et
      go_wp2_with fail
      refine (unhide HVt).mono ?_
      rintro e w2 ⟨z, rfl, hb2, hF2, hres⟩
      have hF3 := ((unhide HF).alloc (.cells #[.int .u8 (t.tag : Int), .string ⟨t.name.toArray⟩, .int .i64 t.at_] 76)).trans hF2
      clear HVt
      rcases hres with ⟨bs, hvt, rfl, hW2⟩ | ⟨hvt, hz⟩
      · have HWs2 := hide ((unhide HWs).step (unhide Hd) hvt)
        have hbl := vt_len hvt
        have HW2 := hide hW2
        have HF3 := hide hF3
        clear hvt hW2 hF3 hF2 hb2
        go_wp2
        go_roundw
        case rel => exact ⟨k + 1, l1 ++ bs, by omega, by go_num, by simp; omega, HWs2, HW2, HF3⟩
        case measure => simp [intOf]; omega
      · have hst := (unhide HWs).stop (unhide Hd) hvt
        have Hst := hide hst
        have hz1 : (((z : Int) != 0) : Bool) = true := by simpa using hz
        have Hz := hide hz
        clear hvt hst hz
        go_wp2
        go_ret
        exact ⟨z, rfl, hb2, hF3, .inr ⟨unhide Hst, unhide Hz⟩⟩
    · have hkl : k = L.length := by omega
      subst hkl
      have ki : ¬ (L.length : Int) < (L.length : Int) := by omega
      obtain ⟨bs, hb1, hb2⟩ := (unhide HWs).done
      have Hb1 := hide hb1
      have Hb2 := hide hb2
      clear hb1 hb2
      go_wp2
      go_ret
      exact ⟨0, rfl, (unhide HW).bel, unhide HF, .inl ⟨bs, unhide Hb1, rfl, by rw [← unhide Hb2]; exact unhide HW⟩⟩
end Go.Proofs.Ytgihfcjddkpkaaa
