/-
  Classes that are read again: plain mathematics: what is written of fields, code, methods, as bytes, and that it is read as it was.
  Classes that are read again: plain mathematics: what is read is such that it can be written, in no more bytes.
  Classes that are read again: plain mathematics: attributes that were read; fields, code, methods.
  Classes that are read again: plain mathematics: what package class writes of what was read, as bytes.
  Classes that are read again: plain mathematics: the whole.
  Classes that are read again: plain mathematics: what was written is read as it was, the whole.
  Classes that are read again: the one class of classWorks.
-/
import Derived.Test.YtgihfcjddkpkaaaMhA
import Derived.Test.YtgihfcjddkpkaaaMgCn
import Derived.Test.YtgihfcjddkpkaaaMgXb
import Derived.Test.YtgihfcjddkpkaaaMgYh
import Derived.Test.YtgihfcjddkpkaaaMhE
namespace Go.Proofs.Ytgihfcjddkpkaaa.Cl
set_option linter.unusedVariables false
set_option linter.unusedSimpArgs false
theorem num_big (x n : Nat) (h : x < 256 ^ n) : M.num (M.big x n) = x := by
  induction n generalizing x with
  | zero => have : x = 0 := by simpa using h
            subst this; rfl
  | succ n ih =>
    rw [M.big, M.num_snoc, ih (x / 256) (by rw [Nat.pow_succ] at h; omega)]
    have : (UInt8.ofNat (x % 256)).toNat = x % 256 := by simp
    rw [this]; omega
/-- Bytes that are read as x. -/
def Rdz {α : Type} (s : List UInt8) (f : St → α × St) (b : List UInt8) (x : α) : Prop :=
  ∀ q p r, s.drop q = b ++ r → q ≤ s.length → f ⟨q, 0, p⟩ = (x, ⟨q + b.length, 0, p⟩)
theorem next {s b r : List UInt8} {q : Nat} (h : s.drop q = b ++ r) (hq : q ≤ s.length) : s.drop (q + b.length) = r ∧ q + b.length ≤ s.length := by
  have hl : s.length - q = b.length + r.length := by have := congrArg List.length h; simpa using this
  exact ⟨by rw [← List.drop_drop, h, List.drop_left' rfl], by omega⟩
theorem Rdz.num {s : List UInt8} {x n : Nat} (h : x < 256 ^ n) : Rdz s (M.rd s n) (M.big x n) x := fun q p r hs hq => by
  obtain ⟨h1, h2, h3⟩ := M.take_of (p := p) (n := n) hs (M.big_len _ _) hq
  unfold M.rd
  rw [h1, num_big x n h, M.big_len]
theorem Rdz.txt {s b : List UInt8} : Rdz s (M.take s b.length) b b := fun q p r hs hq => (M.take_of (p := p) hs rfl hq).1
theorem Rdz.reps {α : Type} {s : List UInt8} {f : St → α × St} {b : α → List UInt8} : ∀ {L : List α}, (∀ x ∈ L, Rdz s f (b x) x) → Rdz s (M.reps f L.length) (L.flatMap b) L
  | [], _ => fun q p r hs hq => rfl
  | x :: L, h => fun q p r hs hq => by
    rw [List.flatMap_cons, List.append_assoc] at hs
    obtain ⟨n1, n2⟩ := next hs hq
    have h1 := h x List.mem_cons_self q p _ hs hq
    have h2 := Rdz.reps (L := L) (fun y hy => h y (List.mem_cons_of_mem _ hy)) (q + (b x).length) p r n1 n2
    rw [List.length_cons, M.reps, if_pos rfl, h1]
    simp only
    rw [h2]
    simp [List.flatMap_cons, Nat.add_assoc]
theorem Rdz.lst {α : Type} {s : List UInt8} {f : St → α × St} {b : α → List UInt8} {L : List α} (hl : L.length < 65536) (h : ∀ x ∈ L, Rdz s f (b x) x) : Rdz s (M.lst s f) (M.big L.length 2 ++ L.flatMap b) L := fun q p r hs hq => by
  rw [List.append_assoc] at hs
  obtain ⟨n1, n2⟩ := next hs hq
  unfold M.lst
  rw [Rdz.num (by simpa using hl) q p _ hs hq]
  simp only
  rw [Rdz.reps h _ p r n1 n2]
  simp [Nat.add_assoc]
/-- Where a name stands. -/
def ix (P : List K) (name : List UInt8) : Nat := (M.idxT P name P.length).getD 0
/-- A name that a pool has, behind the pool's first place. -/
structure Has (P : List K) (name : List UInt8) : Prop where
  some_ : (M.idxT P name P.length).isSome = true
  lt : ix P name < 65536
  tag : M.tag P (ix P name : Int) = 1
  text : M.text P (ix P name : Int) = name
/-- One attribute. -/
def batt (P : List K) (name body : List UInt8) : List UInt8 := M.big (ix P name) 2 ++ (M.big body.length 4 ++ body)
theorem att_of {σ : Type} {s : List UInt8} {P : List K} {A : σ → Nat → List UInt8 → Nat → St → σ × St} {x : σ} {name body r : List UInt8} {q p : Nat} (hn : Has P name) (hb : body.length < 4294967296) (hs : s.drop q = batt P name body ++ r) (hq : q ≤ s.length) :
    M.att s P A x ⟨q, 0, p⟩ = A x q name body.length ⟨q + 6, 0, p⟩ ∧ s.drop (q + 6) = body ++ r ∧ q + 6 ≤ s.length := by
  unfold batt at hs
  rw [List.append_assoc, List.append_assoc] at hs
  obtain ⟨n1, n2⟩ := next hs hq
  obtain ⟨n3, n4⟩ := next n1 n2
  have h1 := Rdz.num (n := 2) (by simpa using hn.lt) q p _ hs hq
  have h2 := Rdz.num (n := 4) (by simpa using hb) _ p _ n1 n2
  rw [M.big_len, M.big_len] at n3 n4
  refine ⟨?_, n3, n4⟩
  unfold M.att
  rw [h1]
  simp only
  rw [if_pos hn.tag, h2, hn.text]
  simp only [M.big_len]
theorem once_of {σ : Type} {s : List UInt8} {P : List K} {read : σ → Nat → St → σ × St} {d v : σ} {name body r : List UInt8} {q p : Nat} (hn : Has P name) (hb : body.length < 4294967296) (hr : Rdz s (read d body.length) body v)
    (hs : s.drop q = M.big 1 2 ++ batt P name body ++ r) (hq : q ≤ s.length) :
    M.attsN s P (M.once s name read) (false, d) ⟨q, 0, p⟩ = ((true, v), ⟨q + (M.big 1 2 ++ batt P name body).length, 0, p⟩) := by
  rw [List.append_assoc] at hs
  obtain ⟨n1, n2⟩ := next hs hq
  obtain ⟨h2, n3, n4⟩ := att_of (A := M.once s name read) (x := (false, d)) (p := p) hn hb n1 n2
  have h3 := hr _ p _ n3 n4
  unfold M.attsN
  rw [Rdz.num (n := 2) (by decide) q p _ hs hq]
  simp only
  rw [M.atts, if_pos rfl, M.atts, h2]
  unfold M.once
  rw [if_pos rfl]
  simp only [Bool.false_eq_true, if_false]
  rw [h3]
  simp only [if_true]
  simp [batt, M.big_len]
  omega
theorem none_of {σ : Type} {s : List UInt8} {P : List K} {A : σ → Nat → List UInt8 → Nat → St → σ × St} {x : σ} : Rdz s (M.attsN s P A x) (M.big 0 2) x := fun q p r hs hq => by
  unfold M.attsN
  rw [Rdz.num (n := 2) (by decide) q p _ hs hq]
  rfl
/-! Fields. -/
def bfld (P : List K) (f : Fd) : List UInt8 := M.big f.flags 2 ++ (M.big f.name 2 ++ (M.big f.type_ 2 ++ (if f.value = 0 then M.big 0 2 else M.big 1 2 ++ batt P M.cvName (M.big f.value 2))))
structure QF (P : List K) (f : Fd) : Prop where
  a : f.flags < 65536
  b : f.name < 65536
  c : f.type_ < 65536
  d : f.value < 65536
  n : f.value ≠ 0 → Has P M.cvName
theorem three_of {s r : List UInt8} {a b c q p : Nat} (ha : a < 65536) (hb : b < 65536) (hc : c < 65536) (hs : s.drop q = M.big a 2 ++ (M.big b 2 ++ (M.big c 2 ++ r))) (hq : q ≤ s.length) :
    M.three s ⟨q, 0, p⟩ = (a, b, c, ⟨q + 6, 0, p⟩) ∧ s.drop (q + 6) = r ∧ q + 6 ≤ s.length := by
  obtain ⟨n1, n2⟩ := next hs hq
  obtain ⟨n3, n4⟩ := next n1 n2
  obtain ⟨n5, n6⟩ := next n3 n4
  have h1 := Rdz.num (n := 2) (by simpa using ha) q p _ hs hq
  have h2 := Rdz.num (n := 2) (by simpa using hb) _ p _ n1 n2
  have h3 := Rdz.num (n := 2) (by simpa using hc) _ p _ n3 n4
  simp only [M.big_len] at n1 n2 n3 n4 n5 n6 h1 h2 h3
  refine ⟨?_, n5, n6⟩
  unfold M.three
  rw [h1]; simp only
  rw [h2]; simp only
  rw [h3]
theorem fld_of {s : List UInt8} {P : List K} {f : Fd} (h : QF P f) : Rdz s (M.fld s P) (bfld P f) f := fun q p r hs hq => by
  unfold bfld at hs
  simp only [List.append_assoc] at hs
  obtain ⟨h1, n1, n2⟩ := three_of (p := p) h.a h.b h.c hs hq
  unfold M.fld
  rw [h1]
  simp only
  by_cases hv : f.value = 0
  · rw [if_pos hv] at n1
    rw [none_of _ p r n1 n2]
    unfold bfld
    rw [if_pos hv]
    obtain ⟨x1, x2, x3, x4⟩ := f
    simp only at hv
    subst hv
    simp only [List.length_append, M.big_len]
  · rw [if_neg hv] at n1
    rw [once_of (h.n hv) (by rw [M.big_len]; decide) (fun q p r hs hq => by unfold M.fval; exact Rdz.num (n := 2) (by simpa using h.d) q p r hs hq) n1 n2]
    unfold bfld
    rw [if_neg hv]
    simp only [List.length_append, M.big_len, batt]
/-! Code. -/
def bhnd (h : Hn) : List UInt8 := M.big h.from_ 2 ++ (M.big h.to_ 2 ++ (M.big h.target 2 ++ M.big h.type_ 2))
structure QH (h : Hn) : Prop where
  a : h.from_ < 65536
  b : h.to_ < 65536
  c : h.target < 65536
  d : h.type_ < 65536
theorem hnd_of {s : List UInt8} {h : Hn} (g : QH h) : Rdz s (M.hnd s) (bhnd h) h := fun q p r hs hq => by
  unfold bhnd at hs
  simp only [List.append_assoc] at hs
  obtain ⟨n1, n2⟩ := next hs hq
  obtain ⟨n3, n4⟩ := next n1 n2
  obtain ⟨n5, n6⟩ := next n3 n4
  have h1 := Rdz.num (n := 2) (by simpa using g.a) q p _ hs hq
  have h2 := Rdz.num (n := 2) (by simpa using g.b) _ p _ n1 n2
  have h3 := Rdz.num (n := 2) (by simpa using g.c) _ p _ n3 n4
  have h4 := Rdz.num (n := 2) (by simpa using g.d) _ p _ n5 n6
  unfold M.hnd bhnd
  rw [h1]; simp only
  rw [h2]; simp only
  rw [h3]; simp only
  rw [h4]
  simp only [List.length_append, M.big_len]
def bmap (P : List K) (s : List UInt8) : List UInt8 := if s = [] then M.big 0 2 else M.big 1 2 ++ batt P M.mapName s
def bcod (P : List K) (c : Cd) : List UInt8 := M.big c.stack 2 ++ (M.big c.locals 2 ++ (M.big c.bytes.length 4 ++ (c.bytes ++ ((M.big c.handlers.length 2 ++ c.handlers.flatMap bhnd) ++ bmap P c.map))))
structure QC (P : List K) (j : Cd) : Prop where
  a : j.stack < 65536
  b : j.locals < 65536
  c : j.bytes.length < 4294967296
  d : j.handlers.length < 65536
  e : ∀ h ∈ j.handlers, QH h
  f : j.map.length < 4294967296
  n : j.map ≠ [] → Has P M.mapName
theorem cod_of {s : List UInt8} {P : List K} {c : Cd} (h : QC P c) : Rdz s (M.cod s P) (bcod P c) c := fun q p r hs hq => by
  unfold bcod at hs
  rw [List.append_assoc, List.append_assoc, List.append_assoc, List.append_assoc, List.append_assoc] at hs
  obtain ⟨n1, n2⟩ := next hs hq
  obtain ⟨n3, n4⟩ := next n1 n2
  obtain ⟨n5, n6⟩ := next n3 n4
  obtain ⟨n7, n8⟩ := next n5 n6
  obtain ⟨n9, n10⟩ := next n7 n8
  have h1 := Rdz.num (n := 2) (by simpa using h.a) q p _ hs hq
  have h2 := Rdz.num (n := 2) (by simpa using h.b) _ p _ n1 n2
  have h3 := Rdz.num (n := 4) (by simpa using h.c) _ p _ n3 n4
  have h4 := Rdz.txt _ p _ n5 n6
  have h5 := Rdz.lst h.d (fun x hx => hnd_of (h.e x hx)) _ p _ n7 n8
  unfold M.cod
  rw [h1]; simp only
  rw [h2]; simp only
  rw [h3]; simp only
  rw [h4]; simp only
  rw [h5]; simp only
  unfold bmap at n9
  by_cases hm : c.map = []
  · rw [if_pos hm] at n9
    rw [none_of _ p r n9 n10]
    unfold bcod bmap
    rw [if_pos hm]
    obtain ⟨x1, x2, x3, x4, x5⟩ := c
    simp only at hm
    subst hm
    simp only [List.length_append, M.big_len, Nat.add_assoc]
  · rw [if_neg hm] at n9
    rw [once_of (read := M.mval s) (d := []) (h.n hm) h.f (fun q p r hs hq => by unfold M.mval; exact Rdz.txt q p r hs hq) n9 n10]
    unfold bcod bmap
    rw [if_neg hm]
    simp only [List.length_append, M.big_len, Nat.add_assoc]
/-! Methods. -/
def bmth (P : List K) (m : Mt) : List UInt8 := M.big m.flags 2 ++ (M.big m.name 2 ++ (M.big m.type_ 2 ++ (if m.has = true then M.big 1 2 ++ batt P M.codeName (bcod P m.code) else M.big 0 2)))
structure QM (P : List K) (m : Mt) : Prop where
  a : m.flags < 65536
  b : m.name < 65536
  c : m.type_ < 65536
  d : m.has = true → QC P m.code ∧ Has P M.codeName ∧ (bcod P m.code).length < 4294967296
  e : m.has = false → m.code = Cd.zero
theorem mth_of {s : List UInt8} {P : List K} {m : Mt} (h : QM P m) : Rdz s (M.mth s P) (bmth P m) m := fun q p r hs hq => by
  unfold bmth at hs
  simp only [List.append_assoc] at hs
  obtain ⟨h1, n1, n2⟩ := three_of (p := p) h.a h.b h.c hs hq
  unfold M.mth
  rw [h1]
  simp only
  obtain ⟨x1, x2, x3, x4, x5⟩ := m
  cases x4 with
  | false =>
    simp only [Bool.false_eq_true, if_false] at n1
    rw [none_of _ p r n1 n2]
    have := h.e rfl
    simp only at this
    subst this
    unfold bmth
    simp only [Bool.false_eq_true, if_false, List.length_append, M.big_len]
  | true =>
    simp only [if_true] at n1
    obtain ⟨g1, g2, g3⟩ := h.d rfl
    rw [once_of (read := M.cval s P) (v := (true, x5)) g2 g3 (fun q p r hs hq => by unfold M.cval; rw [cod_of g1 q p r hs hq]) n1 n2]
    unfold bmth
    simp only [if_true, List.length_append, M.big_len, batt, Prod.mk.injEq, St.mk.injEq, true_and, and_true]
    omega
end Go.Proofs.Ytgihfcjddkpkaaa.Cl
namespace Go.Proofs.Ytgihfcjddkpkaaa.Cl
set_option linter.unusedVariables false
set_option linter.unusedSimpArgs false
/-- What is read without an error: how far it goes, and what is known of it. -/
def Fct {α : Type} (f : St → α × St) (R : α → Nat → Prop) : Prop := ∀ st, (f st).2.e = 0 → st.e = 0 ∧ ∃ n, (f st).2 = ⟨st.pos + n, 0, st.p⟩ ∧ R (f st).1 n
theorem Fct.take (s : List UInt8) (k : Nat) : Fct (M.take s k) (fun l n => n = k ∧ l.length = k) := fun st h => by
  unfold M.take at h ⊢
  by_cases he : st.e = 0
  · rw [if_pos he] at h ⊢
    by_cases hl : s.length - st.pos < k
    · rw [if_pos hl] at h; simp at h
    · rw [if_neg hl]
      exact ⟨he, k, rfl, rfl, by simp; omega⟩
  · rw [if_neg he] at h; exact absurd h he
theorem Fct.rd (s : List UInt8) (k : Nat) : Fct (M.rd s k) (fun x n => n = k ∧ x < 256 ^ k) := fun st h => by
  obtain ⟨h1, n, h2, h3, h4⟩ := Fct.take s k st h
  exact ⟨h1, n, h2, h3, by have := M.num_lt (M.take s k st).1; rw [h4] at this; exact this⟩
theorem fail_good {st : St} {e p : Nat} (he : e ≠ 0) : (M.fail st e p).e ≠ 0 := M.fail_e he
theorem Fct.reps {α : Type} {f : St → α × St} {b : α → List UInt8} {Q : α → Prop} (h : Fct f (fun x n => (b x).length ≤ n ∧ Q x)) :
    ∀ k, Fct (M.reps f k) (fun L n => L.length = k ∧ (L.flatMap b).length ≤ n ∧ ∀ x ∈ L, Q x)
  | 0 => fun st he => ⟨he, 0, by obtain ⟨a, b, c⟩ := st; change b = 0 at he; subst he; rfl, rfl, by simp [M.reps], fun x hx => by cases hx⟩
  | k + 1 => fun st he => by
    by_cases h0 : st.e = 0
    · simp only [M.reps, if_pos h0] at he ⊢
      obtain ⟨h1, n1, e1, l1, le1, q1⟩ := Fct.reps h k _ he
      obtain ⟨h2, n2, e2, le2, q2⟩ := h st h1
      refine ⟨h2, n2 + n1, ?_, by rw [List.length_cons, l1], ?_, fun x hx => ?_⟩
      · rw [e1, e2]; simp only [Nat.add_assoc]
      · rw [List.flatMap_cons, List.length_append]; omega
      · rcases List.mem_cons.1 hx with rfl | hx
        · exact q2
        · exact q1 x hx
    · simp only [M.reps, if_neg h0] at he; exact absurd he h0
theorem Fct.lst {α : Type} {s : List UInt8} {f : St → α × St} {b : α → List UInt8} {Q : α → Prop} (h : Fct f (fun x n => (b x).length ≤ n ∧ Q x)) :
    Fct (M.lst s f) (fun L n => L.length < 65536 ∧ (M.big L.length 2 ++ L.flatMap b).length ≤ n ∧ ∀ x ∈ L, Q x) := fun st he => by
  unfold M.lst at he ⊢
  obtain ⟨h1, n1, e1, l1, le1, q1⟩ := Fct.reps h _ _ he
  obtain ⟨h2, n2, e2, en, lt⟩ := Fct.rd s 2 st h1
  refine ⟨h2, n2 + n1, ?_, by rw [l1]; simpa using lt, ?_, q1⟩
  · rw [e1, e2]; simp only [Nat.add_assoc]
  · rw [List.length_append, M.big_len]; omega
/-- A name that stands at an index that is read. -/
theorem idxT_has {P : List K} {name : List UInt8} : ∀ {m k : Nat}, k < m → (P.getD k K.zero).tag = 1 → (P.getD k K.zero).text = name → ∃ i, M.idxT P name m = some i ∧ i ≤ k
  | 0, k, h, _, _ => by omega
  | m + 1, k, h, h1, h2 => by
    rw [M.idxT]
    by_cases hk : k < m
    · obtain ⟨i, hi, hl⟩ := idxT_has hk h1 h2
      rw [hi]; exact ⟨i, rfl, hl⟩
    · obtain rfl : k = m := by omega
      cases hc : M.idxT P name k with
      | some i => exact ⟨i, rfl, by
          have : ∀ {m k : Nat}, M.idxT P name m = some k → k < m := fun {m k} => by
            induction m generalizing k with
            | zero => intro h; cases h
            | succ m ih =>
              intro h
              rw [M.idxT] at h
              cases hc : M.idxT P name m with
              | some i => rw [hc] at h; simp only [Option.some.injEq] at h; subst h; have := ih hc; omega
              | none =>
                rw [hc] at h
                simp only at h
                split at h
                · simp only [Option.some.injEq] at h; omega
                · cases h
          have := this hc
          omega⟩
      | none => simp only; rw [if_pos ⟨h1, h2⟩]; exact ⟨k, rfl, Nat.le_refl _⟩
theorem idxT_tag {P : List K} {name : List UInt8} : ∀ {m i : Nat}, M.idxT P name m = some i → i < m ∧ (P.getD i K.zero).tag = 1 ∧ (P.getD i K.zero).text = name
  | 0, i, h => by cases h
  | m + 1, i, h => by
    rw [M.idxT] at h
    cases hc : M.idxT P name m with
    | some j => rw [hc] at h; simp only [Option.some.injEq] at h; subst h; obtain ⟨a, b⟩ := idxT_tag hc; exact ⟨by omega, b⟩
    | none =>
      rw [hc] at h
      simp only at h
      split at h
      · rename_i g; simp only [Option.some.injEq] at h; subst h; exact ⟨by omega, g⟩
      · cases h
theorem Has.of {P : List K} {name : List UInt8} {k : Nat} (h0 : (P.getD 0 K.zero).tag = 0) (hk : k < 65536) (ht : M.tag P (k : Int) = 1) (hx : M.text P (k : Int) = name) : Has P name := by
  unfold M.text at hx
  rw [if_pos ht] at hx
  unfold M.tag M.kAt at ht
  unfold M.kAt at hx
  by_cases hr : 0 < (k : Int) ∧ (k : Int) < (P.length : Int)
  · rw [if_pos hr] at ht hx
    rw [Int.toNat_natCast] at ht hx
    obtain ⟨i, hi, hl⟩ := idxT_has (m := P.length) (by omega) ht hx
    obtain ⟨a, b, c⟩ := idxT_tag hi
    have hix : ix P name = i := by unfold ix; rw [hi]; rfl
    have hi0 : 0 < i := by
      rcases Nat.eq_zero_or_pos i with e | e
      · subst e; rw [h0] at b; cases b
      · exact e
    have hkA : M.kAt P (i : Int) = P.getD i K.zero := by
      unfold M.kAt; rw [if_pos ⟨by omega, by omega⟩, Int.toNat_natCast]
    have htg : M.tag P (i : Int) = 1 := by unfold M.tag; rw [hkA, b]
    exact ⟨by rw [hi]; rfl, by omega, by rw [hix]; exact htg, by rw [hix]; unfold M.text; rw [if_pos htg, hkA, c]⟩
  · rw [if_neg hr] at ht; cases ht
end Go.Proofs.Ytgihfcjddkpkaaa.Cl
namespace Go.Proofs.Ytgihfcjddkpkaaa.Cl
set_option linter.unusedVariables false
set_option linter.unusedSimpArgs false
/-- A name that was found at an index. -/
def Nm (P : List K) (name : List UInt8) : Prop := ∃ k : Nat, k < 65536 ∧ M.tag P (k : Int) = 1 ∧ M.text P (k : Int) = name
theorem att_fact {σ : Type} {s : List UInt8} {P : List K} {A : σ → Nat → List UInt8 → Nat → St → σ × St} {x : σ} {st : St} (hA : ∀ (x : σ) (q : Nat) (l : List UInt8) (n : Nat) (st : St), (A x q l n st).2.e = 0 → st.e = 0) (h : (M.att s P A x st).2.e = 0) :
    st.e = 0 ∧ ∃ (k n : Nat), k < 65536 ∧ M.tag P (k : Int) = 1 ∧ n < 4294967296 ∧ M.att s P A x st = A x st.pos (M.text P (k : Int)) n ⟨st.pos + 6, 0, st.p⟩ := by
  have h0 := hA _ _ _ _ _ h
  obtain ⟨h1, n1, e1, r1, l1⟩ := Fct.rd s 4 _ h0
  by_cases ht : M.tag P ((M.rd s 2 st).1 : Int) = 1
  · rw [if_pos ht] at h1
    obtain ⟨h2, n2, e2, r2, l2⟩ := Fct.rd s 2 st h1
    refine ⟨h2, (M.rd s 2 st).1, _, by simpa using l2, ht, by simpa using l1, ?_⟩
    unfold M.att
    rw [e1, if_pos ht, e2, r1, r2]
  · rw [if_neg ht] at h1
    exact absurd h1 (M.fail_e (by decide))
section
variable {σ : Type} {s : List UInt8} {P : List K} {name : List UInt8} {read : σ → Nat → St → σ × St} {R : σ → Nat → Prop}
theorem once_good (hr : ∀ d k, Fct (read d k) R) (x : Bool × σ) (q : Nat) (l : List UInt8) (n : Nat) (st : St) (h : (M.once s name read x q l n st).2.e = 0) : st.e = 0 := by
  unfold M.once at h
  by_cases hn : l = name
  · rw [if_pos hn] at h
    simp only at h
    have h1 : (read x.2 n (if x.1 = true then M.fail st 11 q else st)).2.e = 0 := by
      by_cases hp : (read x.2 n (if x.1 = true then M.fail st 11 q else st)).2.pos = st.pos + n
      · rw [if_pos hp] at h; exact h
      · rw [if_neg hp] at h; exact absurd h (M.fail_e (by decide))
    have h2 := (hr _ _ _ h1).1
    by_cases hx : x.1 = true
    · rw [if_pos hx] at h2; exact absurd h2 (M.fail_e (by decide))
    · rw [if_neg hx] at h2; exact h2
  · rw [if_neg hn] at h
    exact (Fct.take s n st h).1
theorem once_fact (hr : ∀ d k, Fct (read d k) R) (x : Bool × σ) (q : Nat) (l : List UInt8) (n : Nat) (st : St) (h : (M.once s name read x q l n st).2.e = 0) :
    (M.once s name read x q l n st).2 = ⟨st.pos + n, 0, st.p⟩ ∧ ((M.once s name read x q l n st).1 = x ∨ (x.1 = false ∧ l = name ∧ (M.once s name read x q l n st).1.1 = true ∧ R (M.once s name read x q l n st).1.2 n)) := by
  unfold M.once at h ⊢
  by_cases hn : l = name
  · rw [if_pos hn] at h ⊢
    simp only at h ⊢
    by_cases hp : (read x.2 n (if x.1 = true then M.fail st 11 q else st)).2.pos = st.pos + n
    · rw [if_pos hp] at h ⊢
      obtain ⟨h2, m, e2, r2⟩ := hr _ _ _ h
      by_cases hx : x.1 = true
      · rw [if_pos hx] at h2; exact absurd h2 (M.fail_e (by decide))
      · rw [if_neg hx] at h2 e2 r2 hp ⊢
        have hm : m = n := by rw [e2] at hp; simp only at hp; omega
        subst hm
        exact ⟨e2, .inr ⟨by simpa using hx, hn, trivial, r2⟩⟩
    · rw [if_neg hp] at h; exact absurd h (M.fail_e (by decide))
  · rw [if_neg hn] at h ⊢
    obtain ⟨_, m, e2, r2, _⟩ := Fct.take s n st h
    exact ⟨by rw [e2, r2], .inl rfl⟩
theorem atts_fact (hr : ∀ d k, Fct (read d k) R) : ∀ (k : Nat) (x : Bool × σ), Fct (M.atts s P (M.once s name read) k x)
    (fun y n => y = x ∨ (x.1 = false ∧ y.1 = true ∧ Nm P name ∧ ∃ m, m < 4294967296 ∧ 6 + m ≤ n ∧ R y.2 m))
  | 0, x => fun st he => ⟨he, 0, by obtain ⟨a, b, c⟩ := st; change b = 0 at he; subst he; rfl, .inl rfl⟩
  | k + 1, x => fun st he => by
    by_cases h0 : st.e = 0
    · simp only [M.atts, if_pos h0] at he ⊢
      obtain ⟨h1, n1, e1, r1⟩ := atts_fact hr k _ _ he
      obtain ⟨_, i, n, hi, ht, hn, ea⟩ := att_fact (fun x q l n st h => once_good hr x q l n st h) h1
      have h1' := h1
      rw [ea] at h1'
      obtain ⟨e2, r2⟩ := once_fact hr x st.pos (M.text P (i : Int)) n ⟨st.pos + 6, 0, st.p⟩ h1'
      rw [← ea] at e2 r2
      refine ⟨h0, 6 + n + n1, ?_, ?_⟩
      · rw [e1, e2]; simp only [Nat.add_assoc]
      · rcases r1 with r1 | ⟨a1, a2, a3, m, a4, a5, a6⟩
        · rcases r2 with r2 | ⟨b1, b2, b3, b4⟩
          · exact .inl (r1.trans r2)
          · rw [r1]
            exact .inr ⟨b1, b3, ⟨i, hi, ht, b2⟩, n, hn, by omega, b4⟩
        · rcases r2 with r2 | ⟨b1, b2, b3, b4⟩
          · rw [r2] at a1
            exact .inr ⟨a1, a2, a3, m, a4, by omega, a6⟩
          · rw [b3] at a1; cases a1
    · simp only [M.atts, if_neg h0] at he; exact absurd he h0
theorem attsN_fact (hr : ∀ d k, Fct (read d k) R) (d : σ) : Fct (M.attsN s P (M.once s name read) (false, d))
    (fun y n => 2 ≤ n ∧ (y = (false, d) ∨ (y.1 = true ∧ Nm P name ∧ ∃ m, m < 4294967296 ∧ 8 + m ≤ n ∧ R y.2 m))) := fun st he => by
  unfold M.attsN at he ⊢
  obtain ⟨h1, n1, e1, r1⟩ := atts_fact hr _ _ _ he
  obtain ⟨h2, n2, e2, r2, _⟩ := Fct.rd s 2 st h1
  refine ⟨h2, n2 + n1, by rw [e1, e2]; simp only [Nat.add_assoc], by omega, ?_⟩
  rcases r1 with r1 | ⟨a1, a2, a3, m, a4, a5, a6⟩
  · exact .inl r1
  · exact .inr ⟨a2, a3, m, a4, by omega, a6⟩
end
theorem three_fact (s : List UInt8) (st : St) (h : (M.three s st).2.2.2.e = 0) : st.e = 0 ∧ (M.three s st).2.2.2 = ⟨st.pos + 6, 0, st.p⟩ := by
  unfold M.three at h ⊢
  simp only at h ⊢
  obtain ⟨h1, n1, e1, r1, _⟩ := Fct.rd s 2 _ h
  obtain ⟨h2, n2, e2, r2, _⟩ := Fct.rd s 2 _ h1
  obtain ⟨h3, n3, e3, r3, _⟩ := Fct.rd s 2 _ h2
  exact ⟨h3, by rw [e1, e2, e3, r1, r2, r3]⟩
theorem fld_fact {s : List UInt8} {P : List K} (h0 : (P.getD 0 K.zero).tag = 0) : Fct (M.fld s P) (fun f n => (bfld P f).length ≤ n ∧ QF P f) := fun st he => by
  unfold M.fld at he ⊢
  simp only at he ⊢
  obtain ⟨l1, l2, l3⟩ := M.three_lt s st
  obtain ⟨h1, n1, e1, r0, r1⟩ := attsN_fact (read := M.fval s) (R := fun x n => n = 2 ∧ x < 256 ^ 2) (fun d k => Fct.rd s 2) 0 _ he
  obtain ⟨h2, e2⟩ := three_fact s st h1
  refine ⟨h2, 6 + n1, by rw [e1, e2]; simp only [Nat.add_assoc], ?_⟩
  rcases r1 with r1 | ⟨a1, ⟨k, k1, k2, k3⟩, m, a4, a5, a6, a7⟩
  · rw [r1]
    refine ⟨?_, ⟨l1, l2, l3, by simp, fun h => absurd rfl h⟩⟩
    simp only [bfld, if_true, List.length_append, M.big_len]
    omega
  · refine ⟨?_, ⟨l1, l2, l3, by simpa using a7, fun _ => Has.of h0 k1 k2 k3⟩⟩
    simp only [bfld]
    split
    · simp only [List.length_append, M.big_len]; omega
    · simp only [List.length_append, M.big_len, batt]; omega
theorem hnd_fact {s : List UInt8} : Fct (M.hnd s) (fun h n => (bhnd h).length ≤ n ∧ QH h) := fun st he => by
  obtain ⟨l1, l2, l3, l4⟩ := M.hnd_lt s st
  unfold M.hnd at he ⊢
  simp only at he ⊢
  obtain ⟨h1, n1, e1, r1, _⟩ := Fct.rd s 2 _ he
  obtain ⟨h2, n2, e2, r2, _⟩ := Fct.rd s 2 _ h1
  obtain ⟨h3, n3, e3, r3, _⟩ := Fct.rd s 2 _ h2
  obtain ⟨h4, n4, e4, r4, _⟩ := Fct.rd s 2 _ h3
  exact ⟨h4, 8, by rw [e1, e2, e3, e4, r1, r2, r3, r4], by simp only [bhnd, List.length_append, M.big_len]; omega, ⟨l1, l2, l3, l4⟩⟩
theorem cod_fact {s : List UInt8} {P : List K} (h0 : (P.getD 0 K.zero).tag = 0) : Fct (M.cod s P) (fun c n => (bcod P c).length ≤ n ∧ QC P c) := fun st he => by
  unfold M.cod at he ⊢
  simp only at he ⊢
  obtain ⟨h1, n1, e1, r0, r1⟩ := attsN_fact (read := M.mval s) (R := fun x n => x.length = n) (fun d k st h => by obtain ⟨a, n, b, c, d⟩ := Fct.take s k st h; exact ⟨a, n, b, by rw [c]; exact d⟩) [] _ he
  obtain ⟨h2, n2, e2, b2, r2, q2⟩ := Fct.lst hnd_fact _ h1
  obtain ⟨h3, n3, e3, r3, b3⟩ := Fct.take s _ _ h2
  obtain ⟨h4, n4, e4, r4, b4⟩ := Fct.rd s 4 _ h3
  obtain ⟨h5, n5, e5, r5, b5⟩ := Fct.rd s 2 _ h4
  obtain ⟨h6, n6, e6, r6, b6⟩ := Fct.rd s 2 _ h5
  refine ⟨h6, n6 + (n5 + (n4 + (n3 + (n2 + n1)))), by rw [e1, e2, e3, e4, e5, e6]; simp only [Nat.add_assoc], ?_⟩
  rw [List.length_append, M.big_len] at r2
  have hb : ((M.take s (M.rd s 4 (M.rd s 2 (M.rd s 2 st).2).2).1 (M.rd s 4 (M.rd s 2 (M.rd s 2 st).2).2).2).1).length < 4294967296 := by
    rw [b3]; simpa using b4
  rcases r1 with r1 | ⟨a1, ⟨k, k1, k2, k3⟩, m, a4, a5, a6⟩
  · rw [r1]
    refine ⟨?_, ⟨by simpa using b6, by simpa using b5, hb, b2, q2, by simp, fun h => absurd rfl h⟩⟩
    simp only [bcod, bmap, if_true, List.length_append, M.big_len]
    omega
  · refine ⟨?_, ⟨by simpa using b6, by simpa using b5, hb, b2, q2, by simp only; omega, fun _ => Has.of h0 k1 k2 k3⟩⟩
    simp only [bcod, bmap]
    split
    · simp only [List.length_append, M.big_len]; omega
    · simp only [List.length_append, M.big_len, batt]; omega
def RC (P : List K) (x : Bool × Cd) (n : Nat) : Prop := x.1 = true ∧ (bcod P x.2).length ≤ n ∧ QC P x.2
theorem cval_fact {s : List UInt8} {P : List K} (h0 : (P.getD 0 K.zero).tag = 0) (d : Bool × Cd) (k : Nat) : Fct (M.cval s P d k) (RC P) := fun st h => by
  simp only [M.cval] at h ⊢
  obtain ⟨a, n, b, c1, c2⟩ := cod_fact h0 st h
  exact ⟨a, n, b, rfl, c1, c2⟩
theorem mth_fact {s : List UInt8} {P : List K} (h0 : (P.getD 0 K.zero).tag = 0) : Fct (M.mth s P) (fun m n => (bmth P m).length ≤ n ∧ QM P m) := fun st he => by
  unfold M.mth at he ⊢
  simp only at he ⊢
  obtain ⟨l1, l2, l3⟩ := M.three_lt s st
  obtain ⟨h1, n1, e1, r0, r1⟩ := attsN_fact (read := M.cval s P) (R := RC P) (fun d k => cval_fact h0 d k) (false, Cd.zero) _ he
  obtain ⟨h2, e2⟩ := three_fact s st h1
  refine ⟨h2, 6 + n1, by rw [e1, e2]; simp only [Nat.add_assoc], ?_⟩
  rcases r1 with r1 | ⟨a1, ⟨k, k1, k2, k3⟩, m, a4, a5, a6, a7, a8⟩
  · rw [r1]
    refine ⟨?_, ⟨l1, l2, l3, (fun h => by cases h), fun _ => rfl⟩⟩
    simp only [bmth, Bool.false_eq_true, if_false, List.length_append, M.big_len]
    omega
  · refine ⟨?_, ⟨l1, l2, l3, fun _ => ⟨a8, Has.of h0 k1 k2 k3, by simp only; omega⟩, fun h => by simp only at h; rw [a6] at h; cases h⟩⟩
    simp only [bmth]
    rw [if_pos a6]
    simp only [List.length_append, M.big_len, batt]
    omega
end Go.Proofs.Ytgihfcjddkpkaaa.Cl
namespace Go.Proofs.Ytgihfcjddkpkaaa.Cl
set_option linter.unusedVariables false
set_option linter.unusedSimpArgs false
def hiOf (h : Hn) : Hi := ⟨(h.from_ : Int), (h.to_ : Int), (h.target : Int), h.type_⟩
def ciOf (c : Cd) : Ci := ⟨(c.stack : Int), (c.locals : Int), c.bytes, c.handlers.map hiOf, c.map⟩
def miOf (m : Mt) : Mi := ⟨m.flags, m.name, m.type_, m.has, ciOf m.code⟩
def csiOf (c : Cs) : Csi := ⟨c.minor, c.major, c.pool, c.flags, c.this, c.super, c.ifaces, c.fields, c.methods.map miOf⟩
theorem num_of (l : List UInt8) {x n : Nat} (hn : n ≤ 4) (h : x < 256 ^ n) : M.wnum ⟨l, 0⟩ n (x : Int) = ⟨l ++ M.big x n, 0⟩ := by
  have hp : 256 ^ n ≤ 256 ^ 4 := Nat.pow_le_pow_right (by decide) hn
  have h64 : x < 2 ^ 64 := Nat.lt_of_lt_of_le h (Nat.le_trans hp (by decide))
  unfold M.wnum
  have hf : M.fits (x : Int) n := ⟨by omega, by have h2 : ((x : Nat) : Int) < ((256 ^ n : Nat) : Int) := Int.ofNat_lt.2 h; rw [Int.natCast_pow] at h2; exact h2⟩
  rw [if_pos hf]
  have e : ((x : Int) % 2 ^ 64).toNat = x := by
    rw [Int.emod_eq_of_lt (by omega) (by omega)]; simp
  rw [e]
theorem nums_of (l : List UInt8) {n : Nat} (hn : n ≤ 4) : ∀ (xs : List Nat), (∀ x ∈ xs, x < 256 ^ n) → M.wnums ⟨l, 0⟩ n (xs.map (fun x : Nat => (x : Int))) = ⟨l ++ xs.flatMap (fun x => M.big x n), 0⟩ := by
  intro xs
  induction xs generalizing l with
  | nil => intro _; simp [M.wnums]
  | cons x xs ih =>
    intro h
    have h1 := num_of l hn (h x List.mem_cons_self)
    have h2 := ih (l ++ M.big x n) (fun y hy => h y (List.mem_cons_of_mem _ hy))
    unfold M.wnums at h2 ⊢
    rw [List.map_cons, List.foldl_cons, h1, h2, List.flatMap_cons, List.append_assoc]
theorem one_of (l : List UInt8) {x : Nat} (h : x < 65536) : M.wnums ⟨l, 0⟩ 2 [(x : Int)] = ⟨l ++ M.big x 2, 0⟩ := by
  have := nums_of l (n := 2) (by decide) [x] (by simpa using h); simpa using this
theorem one4_of (l : List UInt8) {x : Nat} (h : x < 4294967296) : M.wnums ⟨l, 0⟩ 4 [(x : Int)] = ⟨l ++ M.big x 4, 0⟩ := by
  have := nums_of l (n := 4) (by decide) [x] (by simpa using h); simpa using this
theorem zero_of (l : List UInt8) : M.wnums ⟨l, 0⟩ 2 [0] = ⟨l ++ M.big 0 2, 0⟩ := one_of l (x := 0) (by decide)
theorem two_of (l : List UInt8) {x y : Nat} (h : x < 65536) (h2 : y < 65536) : M.wnums ⟨l, 0⟩ 2 [(x : Int), (y : Int)] = ⟨l ++ (M.big x 2 ++ M.big y 2), 0⟩ := by
  have := nums_of l (n := 2) (by decide) [x, y] (by simp; omega); simpa using this
theorem nums3_of (l : List UInt8) {x y z : Nat} (h : x < 65536) (h2 : y < 65536) (h3 : z < 65536) : M.wnums ⟨l, 0⟩ 2 [(x : Int), (y : Int), (z : Int)] = ⟨l ++ (M.big x 2 ++ (M.big y 2 ++ M.big z 2)), 0⟩ := by
  have := nums_of l (n := 2) (by decide) [x, y, z] (by simp; omega); simpa using this
theorem nums4_of (l : List UInt8) {x y z t : Nat} (h : x < 65536) (h2 : y < 65536) (h3 : z < 65536) (h4 : t < 65536) : M.wnums ⟨l, 0⟩ 2 [(x : Int), (y : Int), (z : Int), (t : Int)] = ⟨l ++ (M.big x 2 ++ (M.big y 2 ++ (M.big z 2 ++ M.big t 2))), 0⟩ := by
  have := nums_of l (n := 2) (by decide) [x, y, z, t] (by simp; omega); simpa using this
theorem text_of (l s : List UInt8) : M.wtext ⟨l, 0⟩ s = ⟨l ++ s, 0⟩ := by unfold M.wtext; rw [if_pos rfl]
theorem head_of (l : List UInt8) {P : List K} {name : List UInt8} {n : Nat} (h : Has P name) (hn : n < 4294967296) : M.whead P ⟨l, 0⟩ name (n : Int) = ⟨l ++ (M.big 1 2 ++ (M.big (ix P name) 2 ++ M.big n 4)), 0⟩ := by
  unfold M.whead
  rw [if_pos h.some_]
  have e := two_of l (x := 1) (y := ix P name) (by decide) h.lt
  unfold ix at e ⊢
  have e1 : (((1 : Nat) : Int)) = 1 := rfl
  rw [e1] at e
  rw [e, one4_of _ hn]
  simp only [List.append_assoc]
theorem fold_of {α : Type} {f : M.Wo → α → M.Wo} {b : α → List UInt8} : ∀ {L : List α}, (∀ x ∈ L, ∀ l, f ⟨l, 0⟩ x = ⟨l ++ b x, 0⟩) → ∀ l, L.foldl f ⟨l, 0⟩ = ⟨l ++ L.flatMap b, 0⟩
  | [], _, l => by simp
  | x :: L, h, l => by
    rw [List.foldl_cons, h x List.mem_cons_self l, fold_of (fun y hy => h y (List.mem_cons_of_mem _ hy)) _, List.flatMap_cons, List.append_assoc]
theorem wfld_of {P : List K} {f : Fd} (h : QF P f) (l : List UInt8) : M.wfld P ⟨l, 0⟩ f = ⟨l ++ bfld P f, 0⟩ := by
  unfold M.wfld bfld
  rw [nums3_of l h.a h.b h.c]
  by_cases hv : f.value = 0
  · rw [if_pos hv, if_pos hv, zero_of]
    simp only [List.append_assoc]
  · rw [if_neg hv, if_neg hv]
    have e := head_of (l ++ (M.big f.flags 2 ++ (M.big f.name 2 ++ M.big f.type_ 2))) (n := 2) (h.n hv) (by decide)
    have e1 : (((2 : Nat) : Int)) = 2 := rfl
    rw [e1] at e
    have e2 : M.valueN = M.cvName := rfl
    rw [e2, e, one_of _ h.d]
    simp only [batt, M.big_len, List.append_assoc]
theorem whands_of {L : List Hn} (h : ∀ x ∈ L, QH x) (l : List UInt8) : M.whands ⟨l, 0⟩ (L.map hiOf) = ⟨l ++ L.flatMap bhnd, 0⟩ := by
  unfold M.whands
  rw [List.foldl_map]
  refine fold_of (fun x hx l => ?_) l
  have g := h x hx
  exact nums4_of l g.a g.b g.c g.d
theorem wmap_of {P : List K} {s : List UInt8} (h : s.length < 4294967296) (hn : s ≠ [] → Has P M.mapName) (l : List UInt8) : M.wmap P ⟨l, 0⟩ s = ⟨l ++ bmap P s, 0⟩ := by
  unfold M.wmap bmap
  by_cases hs : s = []
  · rw [if_pos hs, if_pos hs, zero_of]
  · rw [if_neg hs, if_neg hs]
    have e2 : M.mapN = M.mapName := rfl
    rw [e2, head_of l (hn hs) h, text_of]
    simp only [batt, List.append_assoc]
theorem wcode_of {P : List K} {c : Cd} (h : QC P c) (l : List UInt8) : M.wcode P ⟨l, 0⟩ (ciOf c) = ⟨l ++ bcod P c, 0⟩ := by
  unfold M.wcode ciOf
  simp only
  rw [two_of l h.a h.b, one4_of _ h.c, text_of]
  rw [show ((c.handlers.map hiOf).length : Int) = (c.handlers.length : Int) by rw [List.length_map]]
  rw [one_of _ h.d, whands_of h.e, wmap_of h.f h.n]
  simp only [bcod, List.append_assoc]
theorem clen_of {P : List K} (c : Cd) : M.clen (ciOf c) = (bcod P c).length := by
  unfold M.clen ciOf bcod bmap
  simp only [List.length_append, M.big_len, List.length_map]
  have hb : ∀ L : List Hn, (L.flatMap bhnd).length = 8 * L.length := fun L => by
    induction L with
    | nil => rfl
    | cons x L ih => rw [List.flatMap_cons, List.length_append, ih, List.length_cons]; simp only [bhnd, List.length_append, M.big_len]; omega
  rw [hb]
  split
  · simp only [M.big_len]; omega
  · simp only [List.length_append, M.big_len, batt]; omega
theorem wmth_of {P : List K} {m : Mt} (h : QM P m) (l : List UInt8) : M.wmth P ⟨l, 0⟩ (miOf m) = ⟨l ++ bmth P m, 0⟩ := by
  unfold M.wmth miOf bmth
  simp only
  rw [nums3_of l h.a h.b h.c]
  cases hm : m.has with
  | false =>
    simp only [Bool.false_eq_true, if_false]
    rw [zero_of]
    simp only [List.append_assoc]
  | true =>
    simp only [if_true]
    obtain ⟨g1, g2, g3⟩ := h.d hm
    have e2 : M.codeN = M.codeName := rfl
    rw [e2, clen_of (P := P), head_of _ g2 g3, wcode_of g1]
    simp only [batt, List.append_assoc]
/-! The whole. -/
def bcls (c : Cs) (pb : List UInt8) : List UInt8 :=
  M.big 3405691582 4 ++ (M.big c.minor 2 ++ (M.big c.major 2 ++ (pb ++ (M.big c.flags 2 ++ (M.big c.this 2 ++ (M.big c.super 2 ++ ((M.big c.ifaces.length 2 ++ c.ifaces.flatMap (fun x => M.big x 2)) ++ ((M.big c.fields.length 2 ++ c.fields.flatMap (bfld c.pool)) ++ ((M.big c.methods.length 2 ++ c.methods.flatMap (bmth c.pool)) ++ M.big 0 2)))))))))
structure QK (c : Cs) : Prop where
  v : M.knownB (csiOf c) = true
  a : c.minor < 65536
  b : c.major < 65536
  d : c.flags < 65536
  e : c.this < 65536
  f : c.super < 65536
  il : c.ifaces.length < 65536
  i : ∀ x ∈ c.ifaces, x < 65536
  fl : c.fields.length < 65536
  fq : ∀ x ∈ c.fields, QF c.pool x
  ml : c.methods.length < 65536
  mq : ∀ x ∈ c.methods, QM c.pool x
theorem wall_of {c : Cs} (h : QK c) (pb : List UInt8) : M.wall (csiOf c) pb = ⟨bcls c pb, 0⟩ := by
  unfold M.wall M.wcls csiOf
  simp only
  have e0 : M.wnums ⟨[], 0⟩ 4 [3405691582] = ⟨[] ++ M.big 3405691582 4, 0⟩ := by
    have e := one4_of [] (x := 3405691582) (by omega)
    rw [Int.cast_ofNat_Int] at e
    exact e
  obtain ⟨mg, hmg⟩ : ∃ mg, mg = M.big 3405691582 4 := ⟨_, rfl⟩
  rw [← hmg] at e0
  rw [e0, two_of _ h.a h.b, text_of, nums4_of _ h.d h.e h.f h.il]
  have e1 : ∀ l, M.wifs ⟨l, 0⟩ c.ifaces = ⟨l ++ c.ifaces.flatMap (fun x => M.big x 2), 0⟩ := fun l => by
    unfold M.wifs
    exact fold_of (f := fun o (x : Nat) => M.wnums o 2 [(x : Int)]) (b := fun x => M.big x 2) (fun x hx l => by have := h.i x hx; exact one_of l this) l
  rw [e1, one_of _ h.fl]
  have e2 : ∀ l, M.wflds c.pool ⟨l, 0⟩ c.fields = ⟨l ++ c.fields.flatMap (bfld c.pool), 0⟩ := fun l => by
    unfold M.wflds
    exact fold_of (fun x hx l => wfld_of (h.fq x hx) l) l
  rw [e2, show ((c.methods.map miOf).length : Int) = (c.methods.length : Int) by rw [List.length_map], one_of _ h.ml]
  have e3 : ∀ l, M.wmths c.pool ⟨l, 0⟩ (c.methods.map miOf) = ⟨l ++ c.methods.flatMap (bmth c.pool), 0⟩ := fun l => by
    unfold M.wmths
    rw [List.foldl_map]
    exact fold_of (fun x hx l => wmth_of (h.mq x hx) l) l
  rw [e3, zero_of]
  simp only [bcls, List.append_assoc, List.nil_append, hmg]
theorem wout_of {c : Cs} (h : QK c) (pb : List UInt8) : M.wout (csiOf c) pb 0 = (0, bcls c pb) := by
  unfold M.wout
  rw [if_pos h.v, if_pos rfl, wall_of h, if_pos rfl]
end Go.Proofs.Ytgihfcjddkpkaaa.Cl
namespace Go.Proofs.Ytgihfcjddkpkaaa.Cl
set_option linter.unusedVariables false
set_option linter.unusedSimpArgs false
open Rc (kOf)
theorem rd_in {s : List UInt8} {n : Nat} {st : St} (hn : 0 < n) (h : (M.rd s n st).2.e = 0) : (M.rd s n st).2.pos ≤ s.length := by
  unfold M.rd M.take at h ⊢
  by_cases he : st.e = 0
  · rw [if_pos he] at h ⊢
    by_cases hl : s.length - st.pos < n
    · rw [if_pos hl] at h; simp at h
    · rw [if_neg hl]; simp only; omega
  · rw [if_neg he] at h; exact absurd h he
theorem none_good (s : List UInt8) (x : Unit) (q : Nat) (l : List UInt8) (n : Nat) (st : St) (h : (M.none_ s x q l n st).2.e = 0) : st.e = 0 := (Fct.take s n st h).1
theorem atts_none {s : List UInt8} {P : List K} : ∀ (k : Nat) (st : St), (M.atts s P (M.none_ s) k () st).2.e = 0 → st.pos ≤ s.length → st.e = 0 ∧ (M.atts s P (M.none_ s) k () st).2.pos ≤ s.length ∧ st.pos ≤ (M.atts s P (M.none_ s) k () st).2.pos
  | 0, st, he, hp => ⟨he, hp, Nat.le_refl _⟩
  | k + 1, st, he, hp => by
    by_cases h0 : st.e = 0
    · simp only [M.atts, if_pos h0] at he ⊢
      have h1 : (M.att s P (M.none_ s) () st).2.e = 0 := by
        by_cases h2 : (M.att s P (M.none_ s) () st).2.e = 0
        · exact h2
        · cases k with
          | zero => exact he
          | succ k => simp only [M.atts, if_neg h2] at he; exact he
      obtain ⟨_, i, n, hi, ht, hn, ea⟩ := att_fact (fun x q l n st h => none_good s x q l n st h) h1
      have h1' := h1
      rw [ea] at h1'
      obtain ⟨_, m, e2, r2, _⟩ := Fct.take s n ⟨st.pos + 6, 0, st.p⟩ h1'
      have hp2 : (M.att s P (M.none_ s) () st).2.pos ≤ s.length ∧ st.pos ≤ (M.att s P (M.none_ s) () st).2.pos := by
        rw [ea]
        have e3 : (M.none_ s () st.pos (M.text P (i : Int)) n ⟨st.pos + 6, 0, st.p⟩).2 = (M.take s n ⟨st.pos + 6, 0, st.p⟩).2 := rfl
        rw [e3]
        refine ⟨?_, by rw [e2]; simp only; omega⟩
        have h6 : st.pos + 6 ≤ s.length := by
          unfold M.att at h1
          have h7 := none_good s _ _ _ _ _ h1
          have h8 := rd_in (by decide) h7
          by_cases ht2 : M.tag P ((M.rd s 2 st).1 : Int) = 1
          · rw [if_pos ht2] at h7 h8
            obtain ⟨h9, m1, e4, r4, _⟩ := Fct.rd s 4 _ h7
            obtain ⟨_, m2, e5, r5, _⟩ := Fct.rd s 2 _ h9
            rw [e4, e5, r4, r5] at h8
            simp only at h8
            omega
          · rw [if_neg ht2] at h7
            exact absurd (Fct.rd s 4 _ h7).1 (M.fail_e (by decide))
        exact M.take_pos (st := ⟨st.pos + 6, 0, st.p⟩) h6
      obtain ⟨a, b, c⟩ := atts_none k _ he hp2.1
      exact ⟨h0, b, Nat.le_trans hp2.2 c⟩
    · simp only [M.atts, if_neg h0] at he; exact absurd he h0
theorem attsN_none {s : List UInt8} {P : List K} {st : St} (h : (M.attsN s P (M.none_ s) () st).2.e = 0) : st.e = 0 ∧ (M.attsN s P (M.none_ s) () st).2.pos ≤ s.length ∧ st.pos + 2 ≤ (M.attsN s P (M.none_ s) () st).2.pos := by
  unfold M.attsN at h ⊢
  have h0 : (M.rd s 2 st).2.e = 0 := by
    by_cases h2 : (M.rd s 2 st).2.e = 0
    · exact h2
    · cases hk : (M.rd s 2 st).1 with
      | zero => rw [hk] at h; exact h
      | succ k => rw [hk] at h; simp only [M.atts, if_neg h2] at h; exact h
  obtain ⟨h1, n, e1, r1, _⟩ := Fct.rd s 2 st h0
  obtain ⟨_, b, c⟩ := atts_none _ _ h (rd_in (by decide) h0)
  refine ⟨h1, b, ?_⟩
  have e2 : (M.rd s 2 st).2.pos = st.pos + 2 := by rw [e1, r1]
  omega
theorem reps_good {α : Type} {f : St → α × St} {k : Nat} {st : St} (h : (M.reps f k st).2.e = 0) : st.e = 0 := by
  cases k with
  | zero => exact h
  | succ k =>
    by_cases h0 : st.e = 0
    · exact h0
    · simp only [M.reps, if_neg h0] at h; exact h
theorem lst_good {α : Type} {s : List UInt8} {f : St → α × St} {st : St} (h : (M.lst s f st).2.e = 0) : st.e = 0 := by
  unfold M.lst at h
  exact (Fct.rd s 2 st (reps_good h)).1
theorem u16_fact (s : List UInt8) : Fct (M.u16 s) (fun x n => (M.big x 2).length ≤ n ∧ x < 65536) := fun st h => by
  unfold M.u16 at h ⊢
  obtain ⟨a, n, b, c, d⟩ := Fct.rd s 2 st h
  exact ⟨a, n, b, by simp only [M.big_len]; omega, by simpa using d⟩
theorem hdr_fact {s : List UInt8} (h : (Rc.M.hdr s ⟨0, 0, 0⟩).2.2.e = 0) : (Rc.M.hdr s ⟨0, 0, 0⟩).2.2 = ⟨8, 0, 0⟩ ∧ (Rc.M.hdr s ⟨0, 0, 0⟩).1 < 65536 ∧ (Rc.M.hdr s ⟨0, 0, 0⟩).2.1 < 65536 ∧ Rc.M.known (Rc.M.hdr s ⟨0, 0, 0⟩).1 (Rc.M.hdr s ⟨0, 0, 0⟩).2.1 = true ∧ 8 ≤ s.length := by
  unfold Rc.M.hdr at h ⊢
  simp only at h ⊢
  by_cases hk : Rc.M.known (M.rd s 2 (if (M.rd s 4 ⟨0, 0, 0⟩).1 = 3405691582 then (M.rd s 4 ⟨0, 0, 0⟩).2 else M.fail (M.rd s 4 ⟨0, 0, 0⟩).2 3 0)).1 (M.rd s 2 (M.rd s 2 (if (M.rd s 4 ⟨0, 0, 0⟩).1 = 3405691582 then (M.rd s 4 ⟨0, 0, 0⟩).2 else M.fail (M.rd s 4 ⟨0, 0, 0⟩).2 3 0)).2).1 = true
  · rw [if_pos hk] at h ⊢
    have hin := rd_in (by decide) h
    obtain ⟨h1, n1, e1, r1, b1⟩ := Fct.rd s 2 _ h
    obtain ⟨h2, n2, e2, r2, b2⟩ := Fct.rd s 2 _ h1
    by_cases hm : (M.rd s 4 ⟨0, 0, 0⟩).1 = 3405691582
    · rw [if_pos hm] at h2 e2 e1 b1 b2 hk hin ⊢
      obtain ⟨h3, n3, e3, r3, b3⟩ := Fct.rd s 4 _ h2
      have e4 : (M.rd s 2 (M.rd s 2 (M.rd s 4 ⟨0, 0, 0⟩).2).2).2 = ⟨8, 0, 0⟩ := by rw [e1, e2, e3, r1, r2, r3]
      refine ⟨e4, by simpa using b2, by simpa using b1, hk, ?_⟩
      rw [e4] at hin
      exact hin
    · rw [if_neg hm] at h2
      exact absurd h2 (M.fail_e (by decide))
  · rw [if_neg hk] at h
    exact absurd h (M.fail_e (by decide))
theorem pk_kOf (l : List Po.K) : (l.map kOf).map pk = l := by
  rw [List.map_map]
  induction l with
  | nil => rfl
  | cons x l ih => rw [List.map_cons, ih]; rfl
/-- What was read without an error. -/
theorem cls_fact {s : List UInt8} {r : Po.Res} (hr : Po.ReadRes (Rc.M.rest s (Rc.M.hdr s ⟨0, 0, 0⟩).2.2) r) (he : (M.fin s (Rc.M.cls s ⟨0, 0, 0⟩ r).2).e = 0) :
    QK (Rc.M.cls s ⟨0, 0, 0⟩ r).1 ∧ ∃ pb, Po.WriteRes r.1 (pb, 0, 0) ∧ (∀ more, Po.ReadRes (pb ++ more) (r.1, pb.length, 0, 0)) ∧ (bcls (Rc.M.cls s ⟨0, 0, 0⟩ r).1 pb).length ≤ s.length ∧ (Rc.M.cls s ⟨0, 0, 0⟩ r).1.pool = r.1.map kOf ∧ Po.AllFit r.1 ∧ Po.texts r.1 ≤ s.length := by
  obtain ⟨l, n, x, p⟩ := r
  unfold Rc.M.cls at he ⊢
  simp only at he ⊢
  generalize hH : Rc.M.hdr s ⟨0, 0, 0⟩ = h at *
  generalize hK : Rc.M.cst s h.2.2 (l, n, x, p) = k at *
  have hk1 : k.1 = l := by rw [← hK]; rfl
  have hk2 : k.2 = (M.take s n (if x = 0 then h.2.2 else M.fail h.2.2 x (h.2.2.pos + p))).2 := by rw [← hK]; rfl
  rw [hk1] at he ⊢
  generalize hP : l.map kOf = P at *
  generalize hT : M.three s k.2 = t at *
  generalize hI : M.lst s (M.u16 s) t.2.2.2 = i at *
  generalize hF : M.lst s (M.fld s P) i.2 = f at *
  generalize hM : M.lst s (M.mth s P) f.2 = m at *
  generalize hZ : M.attsN s P (M.none_ s) () m.2 = z at *
  obtain ⟨hz, _⟩ := M.fin_good he
  have z1 := attsN_none (s := s) (P := P) (st := m.2) (by rw [hZ]; exact hz)
  rw [hZ] at z1
  obtain ⟨m0, z2, z3⟩ := z1
  have f0 : f.2.e = 0 := lst_good (s := s) (f := M.mth s P) (by rw [hM]; exact m0)
  have i0 : i.2.e = 0 := lst_good (s := s) (f := M.fld s P) (by rw [hF]; exact f0)
  have t0 : t.2.2.2.e = 0 := lst_good (s := s) (f := M.u16 s) (by rw [hI]; exact i0)
  have t1 := three_fact s k.2 (by rw [hT]; exact t0)
  rw [hT] at t1
  obtain ⟨k0, t2⟩ := t1
  have tl := M.three_lt s k.2
  rw [hT] at tl
  rw [hk2] at k0
  obtain ⟨c0, nk, c1, c2, _⟩ := Fct.take s n _ k0
  have hx : x = 0 := by
    by_cases hx : x = 0
    · exact hx
    · rw [if_neg hx] at c0; exact absurd c0 (M.fail_e hx)
  subst hx
  rw [if_pos rfl] at c0 c1 hk2
  have h8 := hdr_fact (s := s) (by rw [hH]; exact c0)
  rw [hH] at h8
  obtain ⟨he8, hv1, hv2, hv3, hs8⟩ := h8
  rw [he8] at hr c1 hk2
  have hrest : Rc.M.rest s ⟨8, 0, 0⟩ = s.drop 8 := by unfold Rc.M.rest; rw [if_pos rfl]
  rw [hrest] at hr
  obtain ⟨w1, w2, w3, w4, w5, w6, w7⟩ := Po.read_write hr
  rw [List.length_drop] at w4 w7
  have hpbl : ((s.drop 8).take n).length = n := by rw [List.length_take, List.length_drop]; omega
  have hP0 : (P.getD 0 K.zero).tag = 0 := (Pw.of (P := P) (bs := (s.drop 8).take n) (k := 0) (by rw [← hP, pk_kOf]; exact w1)).z
  have kp : k.2.pos = 8 + n := by rw [hk2, c1, c2]
  obtain ⟨_, ni, ei, li, bi_, qi⟩ := Fct.lst (s := s) (f := M.u16 s) (b := fun x => M.big x 2) (Q := fun x => x < 65536) (u16_fact s) t.2.2.2 (by rw [hI]; exact i0)
  obtain ⟨_, nf, ef, lf, bf, qf⟩ := Fct.lst (s := s) (fld_fact hP0) i.2 (by rw [hF]; exact f0)
  obtain ⟨_, nm, em, lm, bm, qm⟩ := Fct.lst (s := s) (mth_fact hP0) f.2 (by rw [hM]; exact m0)
  rw [hI] at ei li bi_ qi
  rw [hF] at ef lf bf qf
  rw [hM] at em lm bm qm
  have hpt : t.2.2.2.pos = 8 + n + 6 := by rw [t2, kp]
  have hpi : i.2.pos = t.2.2.2.pos + ni := by rw [ei]
  have hpf : f.2.pos = i.2.pos + nf := by rw [ef]
  have hpm : m.2.pos = f.2.pos + nm := by rw [em]
  refine ⟨⟨hv3, hv1, hv2, tl.1, tl.2.1, tl.2.2, li, qi, lf, qf, lm, qm⟩, (s.drop 8).take n, w1, by rw [hpbl]; exact w2, ?_, rfl, w3, by omega⟩
  simp only [bcls]
  rw [List.length_append] at bi_ bf bm
  simp only [List.length_append, M.big_len, hpbl] at bi_ bf bm ⊢
  omega
end Go.Proofs.Ytgihfcjddkpkaaa.Cl
namespace Go.Proofs.Ytgihfcjddkpkaaa.Cl
set_option linter.unusedVariables false
set_option linter.unusedSimpArgs false
open Rc (kOf)
theorem hdr_of {t r : List UInt8} {a b : Nat} (hs : t = M.big 3405691582 4 ++ (M.big a 2 ++ (M.big b 2 ++ r))) (ha : a < 65536) (hb : b < 65536) (hk : Rc.M.known a b = true) :
    Rc.M.hdr t ⟨0, 0, 0⟩ = (a, b, ⟨8, 0, 0⟩) ∧ t.drop 8 = r ∧ 8 ≤ t.length := by
  have h0 : t.drop 0 = M.big 3405691582 4 ++ (M.big a 2 ++ (M.big b 2 ++ r)) := by rw [List.drop_zero]; exact hs
  obtain ⟨n1, n2⟩ := next h0 (Nat.zero_le _)
  obtain ⟨n3, n4⟩ := next n1 n2
  obtain ⟨n5, n6⟩ := next n3 n4
  have h1 := Rdz.num (n := 4) (by omega) 0 0 _ h0 (Nat.zero_le _)
  have h2 := Rdz.num (n := 2) (by simpa using ha) _ 0 _ n1 n2
  have h3 := Rdz.num (n := 2) (by simpa using hb) _ 0 _ n3 n4
  simp only [M.big_len, Nat.zero_add] at n1 n2 n3 n4 n5 n6 h1 h2 h3
  refine ⟨?_, n5, n6⟩
  unfold Rc.M.hdr
  simp only
  rw [h1]
  simp only [if_true]
  rw [h2]
  simp only
  rw [h3]
  simp only
  rw [if_pos hk]
theorem cls_of {c : Cs} {l : List Po.K} {pb : List UInt8} (h : QK c) (hp : c.pool = l.map kOf) (hread : ∀ more, Po.ReadRes (pb ++ more) (l, pb.length, 0, 0)) {r : Po.Res}
    (hr : Po.ReadRes (Rc.M.rest (bcls c pb) (Rc.M.hdr (bcls c pb) ⟨0, 0, 0⟩).2.2) r) :
    r = (l, pb.length, 0, 0) ∧ Rc.M.cls (bcls c pb) ⟨0, 0, 0⟩ r = (c, ⟨(bcls c pb).length, 0, 0⟩) := by
  obtain ⟨t, ht⟩ : ∃ t, t = bcls c pb := ⟨_, rfl⟩
  rw [← ht] at hr ⊢
  have ht' := ht
  unfold bcls at ht'
  obtain ⟨e0, n1, n2⟩ := hdr_of ht' h.a h.b h.v
  rw [e0] at hr
  have hrest : Rc.M.rest t ⟨8, 0, 0⟩ = t.drop 8 := by unfold Rc.M.rest; rw [if_pos rfl]
  simp only at hr
  rw [hrest, n1] at hr
  obtain rfl := Po.ReadRes.uniq hr (hread _)
  refine ⟨rfl, ?_⟩
  obtain ⟨n3, n4⟩ := next n1 n2
  have e1 := Rdz.txt 8 0 _ n1 n2
  obtain ⟨e2, n5, n6⟩ := three_of (p := 0) h.d h.e h.f n3 n4
  have e3 := Rdz.lst (s := t) (f := M.u16 t) (b := fun x => M.big x 2) h.il (fun x hx => by have := h.i x hx; exact Rdz.num (n := 2) (by simpa using this)) _ 0 _ n5 n6
  obtain ⟨n7, n8⟩ := next n5 n6
  have e4 := Rdz.lst (s := t) h.fl (fun x hx => fld_of (h.fq x hx)) _ 0 _ n7 n8
  obtain ⟨n9, n10⟩ := next n7 n8
  have e5 := Rdz.lst (s := t) h.ml (fun x hx => mth_of (h.mq x hx)) _ 0 _ n9 n10
  obtain ⟨n11, n12⟩ := next n9 n10
  have e6 := none_of (s := t) (P := l.map kOf) (A := M.none_ t) (x := ()) _ 0 [] (by rw [List.append_nil]; exact n11) n12
  have hend := congrArg List.length n11
  rw [List.length_drop] at hend
  unfold Rc.M.cls Rc.M.cst
  simp only
  rw [e0]
  simp only [if_true]
  rw [e1]
  simp only
  rw [e2]
  simp only
  rw [e3]
  simp only
  rw [← hp, e4]
  simp only
  rw [e5]
  simp only
  rw [← hp] at e6
  rw [e6]
  simp only [Prod.mk.injEq, St.mk.injEq, true_and, and_true]
  omega
end Go.Proofs.Ytgihfcjddkpkaaa.Cl
namespace Go.Proofs.Ytgihfcjddkpkaaa.Cl
set_option linter.unusedVariables false
def s0 : List UInt8 := [0, 8, 1, 0, 1, 65, 7, 0, 1, 1, 0, 16, 106, 97, 118, 97, 47, 108, 97, 110, 103, 47, 79, 98, 106, 101, 99, 116, 7, 0, 3, 1, 0, 4, 67, 111, 100, 101, 1, 0, 3, 40, 41, 86, 1, 0, 1, 73]
def p0 : List Po.K := [Po.K.zero, ⟨1, [65], 0, 0, 0⟩, ⟨7, [], 0, 1, 0⟩, ⟨1, [106, 97, 118, 97, 47, 108, 97, 110, 103, 47, 79, 98, 106, 101, 99, 116], 0, 0, 0⟩, ⟨7, [], 0, 3, 0⟩, ⟨1, [67, 111, 100, 101], 0, 0, 0⟩, ⟨1, [40, 41, 86], 0, 0, 0⟩, ⟨1, [73], 0, 0, 0⟩]
open Po in
theorem sample0 : ReadRes s0 (p0, 48, 0, 0) := by
  refine .inr (.inr ⟨by decide, by decide, ?_⟩)
  have x1 : Po.M.IsText [65] := ⟨[65], (by intro u hu; simp at hu; omega), by decide⟩
  have x2 : Po.M.IsText [106, 97, 118, 97, 47, 108, 97, 110, 103, 47, 79, 98, 106, 101, 99, 116] := ⟨[106, 97, 118, 97, 47, 108, 97, 110, 103, 47, 79, 98, 106, 101, 99, 116], (by intro u hu; simp at hu; omega), by decide⟩
  have x3 : Po.M.IsText [67, 111, 100, 101] := ⟨[67, 111, 100, 101], (by intro u hu; simp at hu; omega), by decide⟩
  have x4 : Po.M.IsText [40, 41, 86] := ⟨[40, 41, 86], (by intro u hu; simp at hu; omega), by decide⟩
  have x5 : Po.M.IsText [73] := ⟨[73], (by intro u hu; simp at hu; omega), by decide⟩
  have h1 := cm_1 (s := s0) (a := 2) (by decide) (by decide) (by decide) x1
  have h2 := cm_78 (s := s0) (a := 6) (by decide) (by decide)
  have h3 := cm_1 (s := s0) (a := 9) (by decide) (by decide) (by decide) x2
  have h4 := cm_78 (s := s0) (a := 28) (by decide) (by decide)
  have h5 := cm_1 (s := s0) (a := 31) (by decide) (by decide) (by decide) x3
  have h6 := cm_1 (s := s0) (a := 38) (by decide) (by decide) (by decide) x4
  have h7 := cm_1 (s := s0) (a := 44) (by decide) (by decide) (by decide) x5
  exact Final.one (by decide) h1 rfl (by unfold Two; decide) (Final.one (by decide) h2 rfl (by unfold Two; decide) (Final.one (by decide) h3 rfl (by unfold Two; decide) (Final.one (by decide) h4 rfl (by unfold Two; decide)
    (Final.one (by decide) h5 rfl (by unfold Two; decide) (Final.one (by decide) h6 rfl (by unfold Two; decide) (Final.one (by decide) h7 rfl (by unfold Two; decide) (Final.done (by decide))))))))
end Go.Proofs.Ytgihfcjddkpkaaa.Cl
