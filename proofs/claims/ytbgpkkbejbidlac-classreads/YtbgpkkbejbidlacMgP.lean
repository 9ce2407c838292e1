/-
  Class files, as the reference reads them, and as package class does: one answer. Plain mathematics.
  The reference: ReadClass.
-/
import Derived.Test.YtbgpkkbejbidlacMgB
import Derived.Test.YtbgpkkbejbidlacCy
import Derived.Test.YtbgpkkbejbidlacRcb
import Derived.Test.YtbgpkkbejbidlacRcc
import Derived.Test.YtbgpkkbejbidlacRcd
import Derived.Test.YtbgpkkbejbidlacPoRefRead
import Derived.Deep.CutBlock
namespace Go.Proofs.Ytbgpkkbejbidlac
set_option linter.unusedVariables false
namespace M
/-- A class file, as the reference reads it, by an answer of its reader of pools. -/
def clsR (s : List UInt8) (st : St) (r : Po.Res) : Cs × St :=
  let h := Cl.M.hdr s st
  let k := Cl.M.cst s h.2.2 r
  let t := M.three s k.2
  let i := M.lst s (M.u16 s) t.2.2.2
  let f := M.lst s (M.fldR s (k.1.map Cl.kOf)) i.2
  let m := M.lst s (M.mthR s (k.1.map Cl.kOf)) f.2
  let z := M.attsNR s (k.1.map Cl.kOf) (M.none_ s) () m.2
  (⟨h.1, h.2.1, k.1.map Cl.kOf, t.1, t.2.1, t.2.2.1, i.1, f.1, m.1⟩, z.2)
theorem attsNR_bad {σ : Type} {s : List UInt8} {P : List K} {A : σ → Nat → List UInt8 → Nat → St → σ × St} {x : σ} {st : St} (h : st.e ≠ 0) : attsNR s P A x st = (x, st) := by
  unfold attsNR; rw [rd_bad h]; exact attsR_bad h
/-- The end of a class: the lists that follow the numbers. -/
def tl1 (s : List UInt8) (a b c d e : Nat) (P : List K) (is : List Nat) (f : List Fd × St) : Cs × St :=
  (⟨a, b, P, c, d, e, is, f.1, (M.lst s (M.mth s P) f.2).1⟩, (M.attsN s P (M.none_ s) () (M.lst s (M.mth s P) f.2).2).2)
def tl1R (s : List UInt8) (a b c d e : Nat) (P : List K) (is : List Nat) (f : List Fd × St) : Cs × St :=
  (⟨a, b, P, c, d, e, is, f.1, (M.lst s (M.mthR s P) f.2).1⟩, (M.attsNR s P (M.none_ s) () (M.lst s (M.mthR s P) f.2).2).2)
theorem tl0_lk {s : List UInt8} {P : List K} {a b c d e : Nat} {is : List Nat} {fs : List Fd} {m' m : List Mt × St} (h : Lk m' m) :
    Lk ((⟨a, b, P, c, d, e, is, fs, m'.1⟩ : Cs), (M.attsNR s P (M.none_ s) () m'.2).2) ((⟨a, b, P, c, d, e, is, fs, m.1⟩ : Cs), (M.attsN s P (M.none_ s) () m.2).2) := by
  have hz := attsNR_lk (s := s) (P := P) (Like.refl (M.none_ s)) none_stable () m.2
  by_cases g : m.2.e = 0
  · rw [h.2 g]
    exact ⟨hz.1, fun _ => by simp only [hz.1]⟩
  · have g' : m'.2.e ≠ 0 := by rw [h.1]; exact g
    rw [attsNR_bad g', attsN_bad g]
    exact ⟨h.1, fun k => absurd k g⟩
theorem lst_badR {α : Type} {s : List UInt8} {f : St → α × St} {st : St} (h : st.e ≠ 0) : lst s f st = ([], st) := lst_bad h
theorem tl1_lk {s : List UInt8} {P : List K} {a b c d e : Nat} {is : List Nat} {f' f : List Fd × St} (h : Lk f' f) : Lk (tl1R s a b c d e P is f') (tl1 s a b c d e P is f) := by
  by_cases g : f.2.e = 0
  · rw [h.2 g]
    exact tl0_lk (lst_lk (fun st => mthR_lk st) f.2)
  · have g' : f'.2.e ≠ 0 := by rw [h.1]; exact g
    unfold tl1R tl1
    rw [lst_bad g', lst_bad g]
    simp only
    rw [attsNR_bad g', attsN_bad g]
    exact ⟨h.1, fun k => absurd k g⟩
theorem clsR_lk (s : List UInt8) (st : St) (r : Po.Res) : Lk (clsR s st r) (Cl.M.cls s st r) :=
  tl1_lk (s := s) (P := ((Cl.M.cst s (Cl.M.hdr s st).2.2 r).1.map Cl.kOf)) (a := (Cl.M.hdr s st).1) (b := (Cl.M.hdr s st).2.1) (c := (M.three s (Cl.M.cst s (Cl.M.hdr s st).2.2 r).2).1) (d := (M.three s (Cl.M.cst s (Cl.M.hdr s st).2.2 r).2).2.1) (e := (M.three s (Cl.M.cst s (Cl.M.hdr s st).2.2 r).2).2.2.1) (is := (M.lst s (M.u16 s) (M.three s (Cl.M.cst s (Cl.M.hdr s st).2.2 r).2).2.2.2).1)
    (lst_lk (fun st => fldR_lk st) (M.lst s (M.u16 s) (M.three s (Cl.M.cst s (Cl.M.hdr s st).2.2 r).2).2.2.2).2)
/-- The first four bytes, and the number that they are. -/
theorem num_magic {l : List UInt8} (h : l.length = 4) : num l = 3405691582 ↔ l = [202, 254, 186, 190] := by
  match l, h with
  | [a, b, c, d], _ =>
    have ha := a.toNat_lt
    have hb := b.toNat_lt
    have hc := c.toNat_lt
    have hd := d.toNat_lt
    have e : num [a, b, c, d] = ((a.toNat * 256 + b.toNat) * 256 + c.toNat) * 256 + d.toNat := by simp [num]
    rw [e]
    constructor
    · intro h
      have h1 : a.toNat = 202 := by omega
      have h2 : b.toNat = 254 := by omega
      have h3 : c.toNat = 186 := by omega
      have h4 : d.toNat = 190 := by omega
      rw [show a = 202 from UInt8.toNat_inj.1 h1, show b = 254 from UInt8.toNat_inj.1 h2, show c = 186 from UInt8.toNat_inj.1 h3, show d = 190 from UInt8.toNat_inj.1 h4]
    · intro h
      have h1 : a = 202 := (List.cons.inj h).1
      have h2 : b = 254 := (List.cons.inj (List.cons.inj h).2).1
      have h3 : c = 186 := (List.cons.inj (List.cons.inj (List.cons.inj h).2).2).1
      have h4 : d = 190 := (List.cons.inj (List.cons.inj (List.cons.inj (List.cons.inj h).2).2).2).1
      have n1 : a.toNat = 202 := by rw [h1]; rfl
      have n2 : b.toNat = 254 := by rw [h2]; rfl
      have n3 : c.toNat = 186 := by rw [h3]; rfl
      have n4 : d.toNat = 190 := by rw [h4]; rfl
      rw [n1, n2, n3, n4]
theorem take_full {s : List UInt8} {n : Nat} {st : St} (h : (take s n st).2.e = 0) : (take s n st).1.length = n ∧ st.e = 0 := by
  unfold take at h ⊢
  by_cases he : st.e = 0
  · rw [if_pos he] at h ⊢
    by_cases hr : s.length - st.pos < n
    · rw [if_pos hr] at h; exact absurd h (by simp)
    · rw [if_neg hr]; simp; omega
  · rw [if_neg he] at h; exact absurd h he
theorem magic_eq (s : List UInt8) (st : St) : (if (take s 4 st).1 = [202, 254, 186, 190] then (take s 4 st).2 else fail (take s 4 st).2 3 0) = (if (rd s 4 st).1 = 3405691582 then (rd s 4 st).2 else fail (rd s 4 st).2 3 0) := by
  unfold rd
  simp only
  by_cases h : (take s 4 st).2.e = 0
  · have := num_magic (take_full h).1
    by_cases g : (take s 4 st).1 = [202, 254, 186, 190]
    · rw [if_pos g, if_pos (this.2 g)]
    · rw [if_neg g, if_neg (fun k => g (this.1 k))]
  · rw [fail_bad h]; simp
end M
end Go.Proofs.Ytbgpkkbejbidlac
namespace Go.Proofs.Ytbgpkkbejbidlac
set_option linter.unusedVariables false
open Go.RowKit
open Cl (HC FC UC MC LM Mj Own kOf)
/-- ReadClass ahead of its class. -/
structure PW (w0 w : World) (Q C : Nat) (s : ByteArray) (st : St) : Prop where
  rg : Rg w Q C (.slice none 0 0) s st
  q : Bk w w0.heap.size #[.int .u16 0, .int .u16 0, .int .u16 0, .int .u16 0, .int .u16 0, .slice none 0 0, .slice none 0 0, .slice none 0 0, .slice none 0 0] 44
  be : Below w0.heap.size w0 w
  o1 : w0.heap.size < C
  o2 : C < Q
theorem PW.cut {w0 w w' : World} {Q C : Nat} {s : ByteArray} {st st' : St} (h : PW w0 w Q C s st) (hc : Cut w' C s st') (hg : w.grownBy w' (some C)) (hp : st'.pos ≤ s.data.toList.length) : PW w0 w' Q C s st' := by
  have h1 := h.o1
  exact ⟨h.rg.step hg hc hp, h.q.kept hg (fun e => by cases e; omega), h.be.grown hg h.be.size (fun k e => by cases e; omega), h.o1, h.o2⟩
/-- A class is begun. -/
theorem PW.begun {w0 w : World} {Q C : Nat} {s : ByteArray} {st : St} (h : PW w0 w Q C s st) (cs : Array Value) : RW w0 (w.alloc (.cells cs 44)) (w.alloc (.cells cs 44)) Q C w.heap.size (.slice none 0 0) s st cs (.slice none 0 0) (.slice none 0 0) (.slice none 0 0) [] [] [] [] := by
  have hb : Below w.heap.size w (w.alloc (.cells cs 44)) := (Below.refl _ _).alloc (Nat.le_refl _) _
  exact ⟨h.rg.kept hb, Bk.new _ _ _, h.q.below hb, h.be.trans (hb.mono h.be.size), ⟨.inl ⟨rfl, rfl⟩, World.ownsRow_nil _ _ _ _, World.ownsRow_nil _ _ _ _, LM.nil _ _⟩, h.o1, h.o2, h.rg.q.lt, by simp, Nat.le_refl _, (fun c hc => (by cases hc)), (by simp)⟩
/-- The reading gets its pool, and the class, and the place moves. -/
theorem RW.pooled {w0 wB w : World} {Q C bc : Nat} {s : ByteArray} {st : St} {x0 x1 x2 x3 x4 x5 x6 x7 x8 : Value} {v : Value} {l : List Po.K} {n : Nat} (h : RW w0 wB w Q C bc (.slice none 0 0) s st #[x0, x1, x2, x3, x4, x5, x6, x7, x8] (.slice none 0 0) (.slice none 0 0) (.slice none 0 0) [] [] [] []) (ho : Po.Out wB w v l) (hf : ∀ c ∈ l, Po.Fit c) (hl : l.length ≤ 65536) (hn : st.pos + n ≤ s.data.toList.length) {W : World} {p : Value} (hp : p = .int .i64 (((st.pos + n : Nat)) : Int)) (hW : W = ((w.setCell ⟨C, 1, none⟩ p).setCell ⟨Q, 1, none⟩ v).setCell ⟨bc, 5, none⟩ v) :
    RW w0 wB W Q C bc v s ⟨st.pos + n, st.e, st.p⟩ #[x0, x1, x2, x3, x4, v, x6, x7, x8] (.slice none 0 0) (.slice none 0 0) (.slice none 0 0) l [] [] [] := by
  have h1 := h.o1
  have h2 := h.o2
  have h3 := h.o3
  have h4 := h.o4
  subst hp hW
  have g1 := grown_set w C 1 (.int .i64 (((st.pos + n : Nat)) : Int))
  have g2 := grown_set (w.setCell ⟨C, 1, none⟩ (.int .i64 (((st.pos + n : Nat)) : Int))) Q 1 v
  have g3 := grown_set ((w.setCell ⟨C, 1, none⟩ (.int .i64 (((st.pos + n : Nat)) : Int))).setCell ⟨Q, 1, none⟩ v) bc 5 v
  have c1 := h.rg.c.setPos (st.pos + n)
  have c2 := c1.kept g2 (fun e => by cases e; omega)
  have c3 := c2.kept g3 (fun e => by cases e; omega)
  have q1 := h.rg.q.kept g1 (fun e => by cases e; omega)
  have q2 := q1.set 1 v
  simp only [List.setIfInBounds_toArray, List.set_cons_zero, List.set_cons_succ] at q2
  have q3 := q2.kept g3 (fun e => by cases e; omega)
  have b2 := (h.c.kept g1 (fun e => by cases e; omega)).kept g2 (fun e => by cases e; omega)
  have b3 := b2.set 5 v
  simp only [List.setIfInBounds_toArray, List.set_cons_zero, List.set_cons_succ] at b3
  have r3 := ((h.q.kept g1 (fun e => by cases e; omega)).kept g2 (fun e => by cases e; omega)).kept g3 (fun e => by cases e; omega)
  have e1 := h.be.grown g1 h.be.size (fun k e => by cases e; omega)
  have e2 := e1.grown g2 e1.size (fun k e => by cases e; omega)
  have e3 := e2.grown g3 e2.size (fun k e => by cases e; omega)
  have o0 : Own wB w v (.slice none 0 0) (.slice none 0 0) (.slice none 0 0) l [] [] [] := ⟨ho, World.ownsRow_nil _ _ _ _, World.ownsRow_nil _ _ _ _, LM.nil _ _⟩
  have o3 := ((o0.kept g1 (fun b e => by cases e; omega)).kept g2 (fun b e => by cases e; omega)).kept g3 (fun b e => by cases e; omega)
  exact ⟨⟨q3, c3, hn⟩, b3, r3, e3, o3, h.o1, h.o2, h.o3, h.o4, by have := h.hz; simpa using this, hf, hl⟩
theorem cst_at {s : List UInt8} {st : St} {r : Po.Res} (hp : st.pos ≤ s.length) (h : Po.Fact (s.drop st.pos) r) (he : st.e = 0) : Cl.M.cst s st r = (r.1, ⟨st.pos + r.2.1, (if r.2.2.1 = 0 then st else M.fail st r.2.2.1 (st.pos + r.2.2.2)).e, (if r.2.2.1 = 0 then st else M.fail st r.2.2.1 (st.pos + r.2.2.2)).p⟩) ∧ st.pos + r.2.1 ≤ s.length := by
  obtain ⟨h1, h2, h3, h4⟩ := h
  unfold Cl.M.cst
  by_cases hr : r.2.2.1 = 0
  · rw [if_pos hr]
    have g := (h1 hr).1
    rw [List.length_drop] at g
    unfold M.take
    rw [if_pos he, if_neg (by omega)]
    exact ⟨by rw [he], by omega⟩
  · rw [if_neg hr]
    have hb := M.fail_e (st := st) (p := st.pos + r.2.2.2) hr
    rw [M.take_bad hb, (h2 hr).2]
    refine ⟨?_, by omega⟩
    have := M.fail_pos st r.2.2.1 (st.pos + r.2.2.2)
    generalize M.fail st r.2.2.1 (st.pos + r.2.2.2) = y at *
    cases y
    simp only at this ⊢
    rw [this]; rfl
theorem cst_bad {s : List UInt8} {st : St} (he : st.e ≠ 0) : Po.ReadRes (Cl.M.rest s st) ([], 0, 1, 0) ∧ Cl.M.cst s st ([], 0, 1, 0) = ([], st) := by
  have hr : Cl.M.rest s st = [] := by unfold Cl.M.rest; rw [if_neg he]
  rw [hr]
  refine ⟨.inl ⟨by simp, rfl⟩, ?_⟩
  unfold Cl.M.cst
  simp only
  rw [if_neg (by simp), M.fail_bad he, M.take_bad he]
end Go.Proofs.Ytbgpkkbejbidlac
