/-
  Class files in bytes, as package class reads them: plain mathematics, of lists of bytes. Nothing of the program is named here.
  Fields, code, methods, as package class reads them: plain mathematics.
  Class files, as the reference reads them: plain mathematics. Behind an error its values are others than package class's; the error, its place and where it stands are the same.
-/
import Derived.Test.YtbgpkkbejbidlacMm
namespace Go.Proofs.Ytbgpkkbejbidlac
/-- A handler, a field, code, a method, a class. -/
structure Hn where
  from_ : Nat
  to_ : Nat
  target : Nat
  type_ : Nat
structure Fd where
  flags : Nat
  name : Nat
  type_ : Nat
  value : Nat
structure Cd where
  stack : Nat
  locals : Nat
  bytes : List UInt8
  handlers : List Hn
  map : List UInt8
structure Mt where
  flags : Nat
  name : Nat
  type_ : Nat
  has : Bool
  code : Cd
def Cd.zero : Cd := ⟨0, 0, [], [], []⟩
structure Cs where
  minor : Nat
  major : Nat
  pool : List K
  flags : Nat
  this : Nat
  super : Nat
  ifaces : List Nat
  fields : List Fd
  methods : List Mt
namespace M
section
variable {α : Type}
/-- One after the other, as long as nothing is wrong. -/
def reps (f : St → α × St) : Nat → St → List α × St
  | 0, st => ([], st)
  | n + 1, st => if st.e = 0 then ((f st).1 :: (reps f n (f st).2).1, (reps f n (f st).2).2) else ([], st)
def Rs (f : St → α × St) (n : Nat) (st0 : St) (A : List α) (m : Nat) (st : St) : Prop := A.length + m = n ∧ reps f n st0 = (A ++ (reps f m st).1, (reps f m st).2)
variable {f : St → α × St} {n m : Nat} {st0 st : St} {A : List α}
theorem Rs.zero : Rs f n st0 [] n st0 := ⟨by simp, by simp⟩
theorem Rs.step (h : Rs f n st0 A (m + 1) st) (he : st.e = 0) : Rs f n st0 (A ++ [(f st).1]) m (f st).2 := by
  refine ⟨by have := h.1; simp; omega, ?_⟩
  rw [h.2, reps, if_pos he]; simp
theorem Rs.stop (h : Rs f n st0 A m st) (he : st.e ≠ 0) : reps f n st0 = (A, st) := by
  rw [h.2]
  cases m with
  | zero => simp [reps]
  | succ m => rw [reps, if_neg he]; simp
theorem Rs.done (h : Rs f n st0 A 0 st) : reps f n st0 = (A, st) := by rw [h.2]; simp [reps]
/-- Lists: how many, and then each. -/
def lst (s : List UInt8) (f : St → α × St) (st : St) : List α × St := reps f (rd s 2 st).1 (rd s 2 st).2
theorem reps_pos {L : Nat} (hf : ∀ st : St, st.pos ≤ L → (f st).2.pos ≤ L) : ∀ {n : Nat} {st : St}, st.pos ≤ L → (reps f n st).2.pos ≤ L
  | 0, _, h => h
  | n + 1, st, h => by
    rw [reps]; split
    · exact reps_pos hf (hf _ h)
    · exact h
end
def u16 (s : List UInt8) (st : St) : Nat × St := rd s 2 st
def hnd (s : List UInt8) (st : St) : Hn × St :=
  (⟨(rd s 2 st).1, (rd s 2 (rd s 2 st).2).1, (rd s 2 (rd s 2 (rd s 2 st).2).2).1, (rd s 2 (rd s 2 (rd s 2 (rd s 2 st).2).2).2).1⟩, (rd s 2 (rd s 2 (rd s 2 (rd s 2 st).2).2).2).2)
theorem hnd_pos {s : List UInt8} {st : St} (h : st.pos ≤ s.length) : (hnd s st).2.pos ≤ s.length := rd_pos (rd_pos (rd_pos (rd_pos h)))
theorem hnd_lt (s : List UInt8) (st : St) : (hnd s st).1.from_ < 65536 ∧ (hnd s st).1.to_ < 65536 ∧ (hnd s st).1.target < 65536 ∧ (hnd s st).1.type_ < 65536 := ⟨rd2 _ _, rd2 _ _, rd2 _ _, rd2 _ _⟩
/-- An attribute: what is done with it is told by what was found so far, where it begins, its name, its length. -/
def att {σ : Type} (s : List UInt8) (P : List K) (A : σ → Nat → List UInt8 → Nat → St → σ × St) (x : σ) (st : St) : σ × St :=
  A x st.pos (text P ((rd s 2 st).1 : Int)) (rd s 4 (if tag P ((rd s 2 st).1 : Int) = 1 then (rd s 2 st).2 else fail (rd s 2 st).2 7 st.pos)).1 (rd s 4 (if tag P ((rd s 2 st).1 : Int) = 1 then (rd s 2 st).2 else fail (rd s 2 st).2 7 st.pos)).2
def atts {σ : Type} (s : List UInt8) (P : List K) (A : σ → Nat → List UInt8 → Nat → St → σ × St) : Nat → σ → St → σ × St
  | 0, x, st => (x, st)
  | n + 1, x, st => if st.e = 0 then atts s P A n (att s P A x st).1 (att s P A x st).2 else (x, st)
def none_ (s : List UInt8) (x : Unit) (_ : Nat) (_ : List UInt8) (n : Nat) (st : St) : Unit × St := (x, (take s n st).2)
/-- Where attributes of one name count: the first is read, a second may not be. -/
def once {σ : Type} (s : List UInt8) (counts : List UInt8) (read : σ → Nat → St → σ × St) (x : Bool × σ) (at_ : Nat) (name : List UInt8) (n : Nat) (st : St) : (Bool × σ) × St :=
  if name = counts then ((true, (read x.2 n (if x.1 = true then fail st 11 at_ else st)).1),
    if (read x.2 n (if x.1 = true then fail st 11 at_ else st)).2.pos = st.pos + n then (read x.2 n (if x.1 = true then fail st 11 at_ else st)).2 else fail (read x.2 n (if x.1 = true then fail st 11 at_ else st)).2 12 at_)
  else (x, (take s n st).2)
end M
end Go.Proofs.Ytbgpkkbejbidlac
namespace Go.Proofs.Ytbgpkkbejbidlac
namespace M
def cvName : List UInt8 := [67, 111, 110, 115, 116, 97, 110, 116, 86, 97, 108, 117, 101]
def codeName : List UInt8 := [67, 111, 100, 101]
def mapName : List UInt8 := [83, 116, 97, 99, 107, 77, 97, 112, 84, 97, 98, 108, 101]
/-- The value of a field. -/
def fval (s : List UInt8) (_ : Nat) (_ : Nat) (st : St) : Nat × St := rd s 2 st
/-- Attributes, of a count that is read. -/
def attsN {σ : Type} (s : List UInt8) (P : List K) (A : σ → Nat → List UInt8 → Nat → St → σ × St) (x : σ) (st : St) : σ × St := atts s P A (rd s 2 st).1 x (rd s 2 st).2
def three (s : List UInt8) (st : St) : Nat × Nat × Nat × St := ((rd s 2 st).1, (rd s 2 (rd s 2 st).2).1, (rd s 2 (rd s 2 (rd s 2 st).2).2).1, (rd s 2 (rd s 2 (rd s 2 st).2).2).2)
theorem three_lt (s : List UInt8) (st : St) : (three s st).1 < 65536 ∧ (three s st).2.1 < 65536 ∧ (three s st).2.2.1 < 65536 := ⟨rd2 _ _, rd2 _ _, rd2 _ _⟩
theorem three_pos {s : List UInt8} {st : St} (h : st.pos ≤ s.length) : (three s st).2.2.2.pos ≤ s.length := rd_pos (rd_pos (rd_pos h))
def fld (s : List UInt8) (P : List K) (st : St) : Fd × St :=
  (⟨(three s st).1, (three s st).2.1, (three s st).2.2.1, (attsN s P (once s cvName (fval s)) (false, 0) (three s st).2.2.2).1.2⟩, (attsN s P (once s cvName (fval s)) (false, 0) (three s st).2.2.2).2)
/-- What is in a map's attribute. -/
def mval (s : List UInt8) (_ : List UInt8) (n : Nat) (st : St) : List UInt8 × St := take s n st
def cod (s : List UInt8) (P : List K) (st : St) : Cd × St :=
  let a := rd s 2 st
  let b := rd s 2 a.2
  let n := rd s 4 b.2
  let t := take s n.1 n.2
  let h := lst s (hnd s) t.2
  let r := attsN s P (once s mapName (mval s)) (false, []) h.2
  (⟨a.1, b.1, t.1, h.1, r.1.2⟩, r.2)
/-- What is in a Code attribute. -/
def cval (s : List UInt8) (P : List K) (_ : Bool × Cd) (_ : Nat) (st : St) : (Bool × Cd) × St := ((true, (cod s P st).1), (cod s P st).2)
def mth (s : List UInt8) (P : List K) (st : St) : Mt × St :=
  let r := attsN s P (once s codeName (cval s P)) (false, (false, Cd.zero)) (three s st).2.2.2
  (⟨(three s st).1, (three s st).2.1, (three s st).2.2.1, r.1.2.1, r.1.2.2⟩, r.2)
end M
end Go.Proofs.Ytbgpkkbejbidlac
namespace Go.Proofs.Ytbgpkkbejbidlac
set_option linter.unusedSimpArgs false
namespace M
section
variable {σ α : Type} {s : List UInt8} {P : List K}
/-- The head of an attribute: its length, and where what is in it begins. -/
def hd (s : List UInt8) (P : List K) (st : St) : Nat × St := rd s 4 (if tag P ((rd s 2 st).1 : Int) = 1 then (rd s 2 st).2 else fail (rd s 2 st).2 7 st.pos)
theorem att_hd (A : σ → Nat → List UInt8 → Nat → St → σ × St) (x : σ) (st : St) : att s P A x st = A x st.pos (text P ((rd s 2 st).1 : Int)) (hd s P st).1 (hd s P st).2 := rfl
/-- An attribute, as the reference reads it. -/
def attR (s : List UInt8) (P : List K) (A : σ → Nat → List UInt8 → Nat → St → σ × St) (x : σ) (st : St) : σ × St :=
  if (hd s P st).2.e = 0 then A x st.pos (text P ((rd s 2 st).1 : Int)) (hd s P st).1 (hd s P st).2 else (x, (hd s P st).2)
def attsR (s : List UInt8) (P : List K) (A : σ → Nat → List UInt8 → Nat → St → σ × St) : Nat → σ → St → σ × St
  | 0, x, st => (x, st)
  | n + 1, x, st => if st.e = 0 then attsR s P A n (attR s P A x st).1 (attR s P A x st).2 else (x, st)
def attsNR (s : List UInt8) (P : List K) (A : σ → Nat → List UInt8 → Nat → St → σ × St) (x : σ) (st : St) : σ × St := attsR s P A (rd s 2 st).1 x (rd s 2 st).2
/-- What is done with an attribute leaves a state behind an error. -/
def Stable (A : σ → Nat → List UInt8 → Nat → St → σ × St) : Prop := ∀ x a nm n st, st.e ≠ 0 → (A x a nm n st).2 = st
/-- The same place; and where nothing is wrong, the same. -/
def Lk (p q : α × St) : Prop := p.2 = q.2 ∧ (q.2.e = 0 → p = q)
theorem Lk.refl (p : α × St) : Lk p p := ⟨rfl, fun _ => rfl⟩
def Like (A' A : σ → Nat → List UInt8 → Nat → St → σ × St) : Prop := ∀ x a nm n st, Lk (A' x a nm n st) (A x a nm n st)
theorem Like.refl (A : σ → Nat → List UInt8 → Nat → St → σ × St) : Like A A := fun _ _ _ _ _ => Lk.refl _
theorem atts_bad {A : σ → Nat → List UInt8 → Nat → St → σ × St} {n : Nat} {x : σ} {st : St} (h : st.e ≠ 0) : atts s P A n x st = (x, st) := by
  cases n with
  | zero => rfl
  | succ n => rw [atts, if_neg h]
theorem attsR_bad {A : σ → Nat → List UInt8 → Nat → St → σ × St} {n : Nat} {x : σ} {st : St} (h : st.e ≠ 0) : attsR s P A n x st = (x, st) := by
  cases n with
  | zero => rfl
  | succ n => rw [attsR, if_neg h]
theorem attR_lk {A' A : σ → Nat → List UInt8 → Nat → St → σ × St} (hA : Like A' A) (hs : Stable A) (x : σ) (st : St) : Lk (attR s P A' x st) (att s P A x st) := by
  rw [att_hd]
  unfold attR
  by_cases h : (hd s P st).2.e = 0
  · rw [if_pos h]; exact hA _ _ _ _ _
  · rw [if_neg h]
    have e := hs x st.pos (text P ((rd s 2 st).1 : Int)) (hd s P st).1 (hd s P st).2 h
    exact ⟨e.symm, fun g => absurd (e ▸ g) h⟩
theorem attsR_lk {A' A : σ → Nat → List UInt8 → Nat → St → σ × St} (hA : Like A' A) (hs : Stable A) : ∀ (n : Nat) (x : σ) (st : St), Lk (attsR s P A' n x st) (atts s P A n x st)
  | 0, x, st => Lk.refl _
  | n + 1, x, st => by
    rw [attsR, atts]
    by_cases h : st.e = 0
    · rw [if_pos h, if_pos h]
      have h1 := attR_lk (s := s) (P := P) hA hs x st
      by_cases g : (att s P A x st).2.e = 0
      · rw [h1.2 g]; exact attsR_lk hA hs n _ _
      · have g' : (attR s P A' x st).2.e ≠ 0 := by rw [h1.1]; exact g
        rw [attsR_bad g', atts_bad g]
        exact ⟨h1.1, fun k => absurd k g⟩
    · rw [if_neg h, if_neg h]; exact Lk.refl _
theorem attsNR_lk {A' A : σ → Nat → List UInt8 → Nat → St → σ × St} (hA : Like A' A) (hs : Stable A) (x : σ) (st : St) : Lk (attsNR s P A' x st) (attsN s P A x st) := attsR_lk hA hs _ _ _
theorem attsN_bad {A : σ → Nat → List UInt8 → Nat → St → σ × St} {x : σ} {st : St} (h : st.e ≠ 0) : attsN s P A x st = (x, st) := by
  unfold attsN; rw [rd_bad h]; exact atts_bad h
theorem reps_bad {f : St → α × St} {n : Nat} {st : St} (h : st.e ≠ 0) : reps f n st = ([], st) := by
  cases n with
  | zero => rfl
  | succ n => rw [reps, if_neg h]
theorem lst_bad {f : St → α × St} {st : St} (h : st.e ≠ 0) : lst s f st = ([], st) := by
  unfold lst; rw [rd_bad h]; rfl
theorem reps_lk {f' f : St → α × St} (hf : ∀ st, Lk (f' st) (f st)) : ∀ (n : Nat) (st : St), Lk (reps f' n st) (reps f n st)
  | 0, st => Lk.refl _
  | n + 1, st => by
    rw [reps, reps]
    by_cases h : st.e = 0
    · rw [if_pos h, if_pos h]
      have h1 := hf st
      by_cases g : (f st).2.e = 0
      · rw [h1.2 g]
        have h2 := reps_lk hf n (f st).2
        exact ⟨h2.1, fun k => by rw [h2.2 k]⟩
      · have g' : (f' st).2.e ≠ 0 := by rw [h1.1]; exact g
        rw [reps_bad g', reps_bad g]
        exact ⟨h1.1, fun k => absurd k g⟩
    · rw [if_neg h, if_neg h]; exact Lk.refl _
theorem lst_lk {f' f : St → α × St} (hf : ∀ st, Lk (f' st) (f st)) (st : St) : Lk (lst s f' st) (lst s f st) := reps_lk hf _ _
theorem once_lk {counts : List UInt8} {r' r : σ → Nat → St → σ × St} (hr : ∀ x n st, Lk (r' x n st) (r x n st)) : Like (once s counts r') (once s counts r) := by
  intro x a nm n st
  unfold once
  by_cases h : nm = counts
  · rw [if_pos h, if_pos h]
    have h1 := hr x.2 n (if x.1 = true then fail st 11 a else st)
    generalize (if x.1 = true then fail st 11 a else st) = st1 at *
    refine ⟨by simp only [h1.1], fun g => ?_⟩
    have g1 : (r x.2 n st1).2.e = 0 := by
      simp only at g
      split at g
      · exact g
      · exact Classical.byContradiction fun k => by rw [fail_bad k] at g; exact k g
    rw [h1.2 g1]
  · rw [if_neg h, if_neg h]; exact Lk.refl _
theorem once_stable {counts : List UInt8} {r : σ → Nat → St → σ × St} (hr : ∀ x n st, st.e ≠ 0 → (r x n st).2 = st) : Stable (once s counts r) := by
  intro x a nm n st h
  unfold once
  have h1 : (if x.1 = true then fail st 11 a else st) = st := by
    split
    · exact fail_bad h
    · rfl
  split
  · simp only [h1, hr _ _ _ h, fail_bad h, ite_self]
  · exact congrArg Prod.snd (take_bad h)
theorem none_stable : Stable (none_ s) := fun _ _ _ _ _ h => congrArg Prod.snd (take_bad h)
end
section
variable {s : List UInt8} {P : List K}
def fldR (s : List UInt8) (P : List K) (st : St) : Fd × St :=
  (⟨(three s st).1, (three s st).2.1, (three s st).2.2.1, (attsNR s P (once s cvName (fval s)) (false, 0) (three s st).2.2.2).1.2⟩, (attsNR s P (once s cvName (fval s)) (false, 0) (three s st).2.2.2).2)
theorem fval_bad (x n : Nat) (st : St) (h : st.e ≠ 0) : (fval s x n st).2 = st := congrArg Prod.snd (rd_bad h)
theorem fldR_lk (st : St) : Lk (fldR s P st) (fld s P st) := by
  have h := attsNR_lk (s := s) (P := P) (Like.refl (once s cvName (fval s))) (once_stable fval_bad) (false, 0) (three s st).2.2.2
  exact ⟨h.1, fun g => by unfold fldR fld; rw [h.2 g]⟩
def codR (s : List UInt8) (P : List K) (st : St) : Cd × St :=
  let a := rd s 2 st
  let b := rd s 2 a.2
  let n := rd s 4 b.2
  let t := take s n.1 n.2
  let h := lst s (hnd s) t.2
  let r := attsNR s P (once s mapName (mval s)) (false, []) h.2
  (⟨a.1, b.1, t.1, h.1, r.1.2⟩, r.2)
theorem mval_bad (x : List UInt8) (n : Nat) (st : St) (h : st.e ≠ 0) : (mval s x n st).2 = st := congrArg Prod.snd (take_bad h)
theorem codR_lk (st : St) : Lk (codR s P st) (cod s P st) := by
  have key : ∀ (a b : Nat) (t : List UInt8) (h : List Hn) (x y : (Bool × List UInt8) × St), Lk x y → Lk ((⟨a, b, t, h, x.1.2⟩ : Cd), x.2) ((⟨a, b, t, h, y.1.2⟩ : Cd), y.2) :=
    fun a b t h x y hl => ⟨hl.1, fun g => by rw [hl.2 g]⟩
  exact key _ _ _ _ _ _ (attsNR_lk (Like.refl (once s mapName (mval s))) (once_stable mval_bad) (false, []) _)
theorem cod_bad {st : St} (h : st.e ≠ 0) : (cod s P st).2 = st := by
  unfold cod
  simp only [rd_bad h, take_bad h, lst_bad h, attsN_bad h]
def cvalR (s : List UInt8) (P : List K) (_ : Bool × Cd) (_ : Nat) (st : St) : (Bool × Cd) × St := ((true, (codR s P st).1), (codR s P st).2)
def mthR (s : List UInt8) (P : List K) (st : St) : Mt × St :=
  let r := attsNR s P (once s codeName (cvalR s P)) (false, (false, Cd.zero)) (three s st).2.2.2
  (⟨(three s st).1, (three s st).2.1, (three s st).2.2.1, r.1.2.1, r.1.2.2⟩, r.2)
theorem cval_lk (x : Bool × Cd) (n : Nat) (st : St) : Lk (cvalR s P x n st) (cval s P x n st) := by
  have key : ∀ (x y : Cd × St), Lk x y → Lk ((true, x.1), x.2) ((true, y.1), y.2) := fun x y hl => ⟨hl.1, fun g => by rw [hl.2 g]⟩
  unfold cvalR cval
  exact key _ _ (codR_lk st)
theorem cval_bad (x : Bool × Cd) (n : Nat) (st : St) (h : st.e ≠ 0) : (cval s P x n st).2 = st := by
  have e : (cval s P x n st).2 = (cod s P st).2 := by simp only [cval]
  rw [e]
  exact cod_bad h
def mkM (a b c : Nat) (x : (Bool × (Bool × Cd)) × St) : Mt × St := (⟨a, b, c, x.1.2.1, x.1.2.2⟩, x.2)
theorem mkM_lk {a b c : Nat} {x y : (Bool × (Bool × Cd)) × St} (h : Lk x y) : Lk (mkM a b c x) (mkM a b c y) := ⟨h.1, fun g => by rw [h.2 g]⟩
theorem mthR_mk (s : List UInt8) (P : List K) (st : St) : mthR s P st = mkM (three s st).1 (three s st).2.1 (three s st).2.2.1 (attsNR s P (once s codeName (cvalR s P)) (false, (false, Cd.zero)) (three s st).2.2.2) := by unfold mthR mkM; rfl
theorem mth_mk (s : List UInt8) (P : List K) (st : St) : mth s P st = mkM (three s st).1 (three s st).2.1 (three s st).2.2.1 (attsN s P (once s codeName (cval s P)) (false, (false, Cd.zero)) (three s st).2.2.2) := by unfold mth mkM; rfl
theorem codes_like (s : List UInt8) (P : List K) : Like (once s codeName (cvalR s P)) (once s codeName (cval s P)) := once_lk cval_lk
theorem codes_stable (s : List UInt8) (P : List K) : Stable (once s codeName (cval s P)) := once_stable cval_bad
theorem mthR_lk (st : St) : Lk (mthR s P st) (mth s P st) := by
  rw [mthR_mk, mth_mk]
  exact mkM_lk (attsNR_lk (s := s) (P := P) (codes_like s P) (codes_stable s P) (false, (false, Cd.zero)) (three s st).2.2.2)
end
end M
end Go.Proofs.Ytbgpkkbejbidlac
