/-
  Package maps: a writer: number, vtype, types.
-/
import Derived.Test.YtbgpkkbejbidlacIx
import Derived.Deep.RegionLaw
import Derived.Deep.RegionHeld3
namespace Go.Proofs.Ytbgpkkbejbidlac
open Go.RowKit Go.Maps
/-- The function that tells indexes. -/
def fv (Kb Pb : Nat) : Value := .func (Fn.func 60) #[] #[.pointer (some ⟨Kb, 0, none⟩), .pointer (some ⟨Pb, 0, none⟩)]
/-- A writer that has written l. -/
structure Wt (w0 w : World) (W Kb Pb : Nat) (pv : Value) (P : List K) (l : List UInt8) : Prop where
  blk : ∃ bv, Bk w W #[bv, fv Kb Pb] 69 ∧ w.ownsRow w0.heap.size 5 1 bv l.length (U8 l)
  kst : Kst w Kb w0.heap.size P
  pb : Bk w Pb #[pv] 58
  bel : Below w0.heap.size w0 w
  neW : W ≠ Kb
  geW : w0.heap.size ≤ W
  geK : w0.heap.size ≤ Kb
/-- What a writer's step leaves as it was. -/
structure Fw (W Kb : Nat) (w w' : World) : Prop where
  size : w.heap.size ≤ w'.heap.size
  rest : ∀ (k : Nat) (o : Obj), w.heap[k]? = some o → (∀ c fr, o ≠ Obj.cells c 5 fr) → k ≠ W → k ≠ Kb → w'.heap[k]? = some o
theorem Fw.refl (W Kb : Nat) (w : World) : Fw W Kb w w := ⟨Nat.le_refl _, fun _ _ h _ _ _ => h⟩
theorem Fw.trans {W Kb : Nat} {a b c : World} (h : Fw W Kb a b) (k : Fw W Kb b c) : Fw W Kb a c :=
  ⟨Nat.le_trans h.size k.size, fun i o hi ht h1 h2 => k.rest i o (h.rest i o hi ht h1 h2) ht h1 h2⟩
theorem Fw.alloc {W Kb : Nat} {a w : World} (h : Fw W Kb a w) (o : Obj) : Fw W Kb a (w.alloc o) :=
  ⟨by have := h.size; simp; omega, fun i x hi ht h1 h2 => by
    have h3 := h.rest i x hi ht h1 h2
    rw [Below.heap_alloc w o i (Array.getElem?_eq_some_iff.1 h3).1]; exact h3⟩
theorem Fw.fb {W Kb B : Nat} {a b c : World} (h : Fw W Kb a b) (k : Fb B b c) : Fw W Kb a c :=
  ⟨Nat.le_trans h.size k.old.size, fun i o hi ht h1 h2 => k.rest i o (h.rest i o hi ht h1 h2) ht⟩
theorem Fw.grown {W Kb : Nat} {a b c : World} (h : Fw W Kb a b) {row : Option Nat} (hg : b.grownBy c row) (hr : row = some W ∨ row = some Kb ∨ row = none) : Fw W Kb a c :=
  ⟨Nat.le_trans h.size hg.size, fun i o hi ht h1 h2 => by
    have h3 := h.rest i o hi ht h1 h2
    refine (hg.block i (Array.getElem?_eq_some_iff.1 h3).1 ?_).trans h3
    rcases hr with rfl | rfl | rfl
    · simpa using h1
    · simpa using h2
    · simp⟩
theorem Bk.fw {W Kb : Nat} {w w' : World} {g : Nat} {cs : Array Value} {t : TypeId} (h : Bk w g cs t) (hf : Fw W Kb w w') (ht : t ≠ 5) (h1 : g ≠ W) (h2 : g ≠ Kb) : Bk w' g cs t :=
  hf.rest g _ h (by intro c fr e; cases e; exact ht rfl) h1 h2
theorem Bk.fb {B : Nat} {w w' : World} {g : Nat} {cs : Array Value} {t : TypeId} (h : Bk w g cs t) (hf : Fb B w w') (ht : t ≠ 5) : Bk w' g cs t :=
  hf.rest g _ h (by intro c fr e; cases e; exact ht rfl)
theorem ownsMap_heap {w w' : World} {m n : Nat} {D : DataW Unit} (h : w.ownsMap Try.prog 9 (plainElem Try.prog 3) m n D) (e : ∀ o, w.heap[m]? = some o → (∀ c fr, o ≠ Obj.cells c 5 fr) → w'.heap[m]? = some o) : w'.ownsMap Try.prog 9 (plainElem Try.prog 3) m n D := by
  obtain ⟨es, clock, hb, r⟩ := h
  exact ⟨es, clock, e _ hb (by intro c fr e; cases e), r⟩
theorem Kst.turn {w w' : World} {Kb B : Nat} {P : List K} (h : Kst w Kb B P) (e : ∀ k o, B ≤ k → w.heap[k]? = some o → (∀ c fr, o ≠ Obj.cells c 5 fr) → (k = Kb ∨ ∀ c t fr, o ≠ Obj.cells c t fr) → w'.heap[k]? = some o) (hK : B ≤ Kb) : Kst w' Kb B P := by
  rcases h with h | ⟨m, D, n, h, hm, ho, hI⟩
  · exact .inl (e Kb _ hK h (by intro c fr e; cases e) (.inl rfl))
  · refine .inr ⟨m, D, n, e Kb _ hK h (by intro c fr e; cases e) (.inl rfl), hm, ?_, hI⟩
    obtain ⟨es, clock, hb, r⟩ := ho
    exact ⟨es, clock, e m _ hm hb (by intro c fr e; cases e) (.inr (by intro c t fr e; cases e)), r⟩
section
variable {w0 w w' : World} {W Kb Pb : Nat} {pv : Value} {P : List K} {l : List UInt8}
theorem own5_slice {B n : Nat} {v : Value} {xs : List Value} (h : w.ownsRow B 5 1 v n xs) : ∃ ad c, v = .slice ad n c := by
  rcases h.2 with ⟨rfl, h0⟩ | ⟨g, cap, cur, rfl, _⟩
  · exact ⟨none, 0, by rw [h0]⟩
  · exact ⟨_, _, rfl⟩
theorem Wt.neP (h : Wt w0 w W Kb Pb pv P l) : W ≠ Pb := fun e => by
  obtain ⟨bv, hb, _⟩ := h.blk
  have h2 := h.pb
  rw [← e] at h2
  unfold Bk at hb h2
  rw [hb] at h2
  simp at h2
theorem Wt.neKP (h : Wt w0 w W Kb Pb pv P l) : Kb ≠ Pb := fun e => by
  have h2 := h.pb
  rw [← e] at h2
  unfold Bk at h2
  rcases h.kst with h1 | ⟨m, D, n, h1, _⟩
  · unfold Bk at h1; rw [h1] at h2; simp at h2
  · unfold Bk at h1; rw [h1] at h2; simp at h2
/-- Bytes are appended, and the slice is stored. -/
theorem Wt.put (h : Wt w0 w W Kb Pb pv P l) {l' : List UInt8} {bv' : Value} (hf : Fb w0.heap.size w w') (ho : w'.ownsRow w0.heap.size 5 1 bv' l'.length (U8 l')) :
    Wt w0 (w'.setCell ⟨W, 0, none⟩ bv') W Kb Pb pv P l' ∧ Fw W Kb w (w'.setCell ⟨W, 0, none⟩ bv') := by
  obtain ⟨bv, hb, _⟩ := h.blk
  have hb' := hb.fb hf (by decide)
  have hno : bv'.ownBlock ≠ some W := fun e => by
    rcases ho.2 with ⟨rfl, _⟩ | ⟨g, cap, cur, rfl, _, hh, _⟩
    · cases e
    · cases e
      unfold Bk at hb'
      rw [hb'] at hh
      simp at hh
  have hset : ∀ k, k ≠ W → (w'.setCell ⟨W, 0, none⟩ bv').heap[k]? = w'.heap[k]? := fun k hk => Below.heap_setCell w' ⟨W, 0, none⟩ bv' k (by simpa using hk)
  have hg := grown_set w' W 0 bv'
  refine ⟨⟨⟨bv', hb'.set 0 bv', ?_⟩, ?_, ?_, (h.bel.trans hf.old).setCell h.geW _, h.neW, h.geW, h.geK⟩, (Fw.refl W Kb w).fb hf |>.grown hg (.inl rfl)⟩
  · refine ⟨ho.1, ?_⟩
    rcases ho.2 with h0 | ⟨g, cap, cur, rfl, h1, h2, h3⟩
    · exact .inl h0
    · refine .inr ⟨g, cap, cur, rfl, h1, ?_, h3⟩
      rw [hset g (fun e => hno (by rw [e]; rfl))]; exact h2
  · refine h.kst.turn (fun k o _ hk ht hc => ?_) h.geK
    have h3 := hf.rest k o hk ht
    rw [hset k ?_]
    · exact h3
    · intro e
      rcases hc with e2 | e2
      · exact h.neW (e.symm.trans e2)
      · rw [e] at hk
        unfold Bk at hb
        rw [hb] at hk
        cases hk
        exact e2 _ _ _ rfl
  · exact (h.pb.fb hf (by decide)).other 0 _ (fun e => h.neP e.symm)
/-- A step that turns what is known of classes alone. -/
theorem Wt.look (h : Wt w0 w W Kb Pb pv P l) (hg : w.grownBy w' (some Kb)) (hk : Kst w' Kb w0.heap.size P) : Wt w0 w' W Kb Pb pv P l := by
  obtain ⟨bv, hb, ho⟩ := h.blk
  refine ⟨⟨bv, hb.kept hg (by simpa using h.neW), ?_⟩, hk, h.pb.kept hg (by simpa using fun e => h.neKP e.symm), h.bel.grown hg h.bel.size (fun k e => by cases e; exact h.geK), h.neW, h.geW, h.geK⟩
  refine ⟨ho.1, ?_⟩
  rcases ho.2 with h0 | ⟨g, cap, cur, rfl, h1, h2, h3⟩
  · exact .inl h0
  · refine .inr ⟨g, cap, cur, rfl, h1, ?_, h3⟩
    rw [hg.block g (Array.getElem?_eq_some_iff.1 h2).1 (fun e => by
      cases e
      rcases h.kst with q | ⟨m, D, n, q, _⟩
      · unfold Bk at q; rw [q] at h2; simp at h2
      · unfold Bk at q; rw [q] at h2; simp at h2)]
    exact h2
theorem Wt.alloc (h : Wt w0 w W Kb Pb pv P l) (o : Obj) : Wt w0 (w.alloc o) W Kb Pb pv P l := by
  obtain ⟨bv, hb, ho⟩ := h.blk
  refine ⟨⟨bv, hb.alloc o, ho.alloc o⟩, h.kst.turn (fun k x _ hk _ _ => ?_) h.geK, h.pb.alloc o, h.bel.alloc h.bel.size o, h.neW, h.geW, h.geK⟩
  rw [Below.heap_alloc w o k (Array.getElem?_eq_some_iff.1 hk).1]; exact hk
end
set_option maxRecDepth 100000 in
set_option maxHeartbeats 1000000 in
theorem number_any (w0 w : World) (W Kb Pb : Nat) (pv : Value) (P : List K) (l : List UInt8) (n : Nat) (h : Wt w0 w W Kb Pb pv P l) (hn : n ≤ 65535) (hl : l.length ≤ 1000000) :
    Calls Try.prog 29 #[.pointer (some ⟨W, 0, none⟩), .int .i64 (n : Int)] w fun e w' => e = .returned (.tuple #[]) ∧ Wt w0 w' W Kb Pb pv P (l ++ M.big n 2) ∧ Fw W Kb w w' := by
  obtain ⟨bv, hb, ho⟩ := h.blk
  have H := hide h
  have hbs := h.bel.size
  obtain ⟨ad, c, ev⟩ := own5_slice ho
  subst ev
  have k0 : w.cell? ⟨W, 0, none⟩ = some (.slice ad l.length c) := hb.cell 0
  obtain ⟨wA, hwA⟩ : ∃ wA, wA = w.alloc (.cells #[.int .u64 (n : Int)] 73) := ⟨_, rfl⟩
  have hfA : Fb w0.heap.size w wA := by rw [hwA]; exact (Fb.refl _ _).alloc hbs _
  have hoA : wA.ownsRow w0.heap.size 5 1 (.slice ad l.length c) l.length (U8 l) := by rw [hwA]; exact ho.alloc _
  have hgA : wA.heap[w.heap.size]? = some (.cells (([n].map fun (x : Nat) => Value.int .u64 (x : Int)).toArray) 73 (0, 0)) := by rw [hwA]; exact heap_alloc_new _ _
  have HA := hide (Append_any w0.heap.size (.slice ad l.length c) l 2 w.heap.size 1 [n] wA (by decide) (by omega) (Nat.le_trans hbs hfA.old.size) (fun x hx => by simp at hx; omega) (by simp) hoA hgA)
  simp only [List.flatMap_cons, List.flatMap_nil, List.append_nil] at HA
  generalize l ++ M.big n 2 = l2 at HA ⊢
  have HwA := hide hwA
  clear hwA hgA hoA ho h
  go_enter Try.func29, Try.ntmps29
  go_wp2_with fail
  rw [← unhide HwA]
  refine (unhide HA).mono ?_
  rintro e w1 ⟨v1, rfl, ho1, hf1⟩
  have hf2 := hfA.trans hf1
  obtain ⟨ad1, c1, e1⟩ := own5_slice ho1
  subst e1
  have hb1 := hb.fb hf2 (by decide)
  have k1 : w1.cell? ⟨W, 0, none⟩ = some (.slice ad l.length c) := hb1.cell 0
  have kf := hb1.frozen 0
  have hput := (unhide H).put hf2 ho1
  have HP := hide hput
  clear HA HwA hput hf1 hfA hf2 ho1 k0 hb
  go_wp2
  go_end0
  exact ⟨rfl, (unhide HP).1, (unhide HP).2⟩
end Go.Proofs.Ytbgpkkbejbidlac
