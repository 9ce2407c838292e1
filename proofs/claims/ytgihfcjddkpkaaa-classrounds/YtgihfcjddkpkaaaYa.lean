/-
  Classes that are written: plain mathematics: what package class writes, what the reference tells, and that they are the same.
-/
import Derived.Test.YtgihfcjddkpkaaaXg
namespace Go.Proofs.Ytgihfcjddkpkaaa.Cl
set_option linter.unusedVariables false
/-- A handler, code, a method, a class, of any numbers. -/
structure Hi where
  from_ : Int
  to_ : Int
  target : Int
  type_ : Nat
structure Ci where
  stack : Int
  locals : Int
  bytes : List UInt8
  handlers : List Hi
  map : List UInt8
structure Mi where
  flags : Nat
  name : Nat
  type_ : Nat
  has : Bool
  code : Ci
structure Csi where
  minor : Nat
  major : Nat
  pool : List K
  flags : Nat
  this : Nat
  super : Nat
  ifaces : List Nat
  fields : List Fd
  methods : List Mi
namespace M
def codeN : List UInt8 := [67, 111, 100, 101]
def valueN : List UInt8 := [67, 111, 110, 115, 116, 97, 110, 116, 86, 97, 108, 117, 101]
def mapN : List UInt8 := [83, 116, 97, 99, 107, 77, 97, 112, 84, 97, 98, 108, 101]
/-! What package class writes. -/
def whand (o : Wo) (h : Hi) : Wo := wnums o 2 [h.from_, h.to_, h.target, (h.type_ : Int)]
def whands (o : Wo) (l : List Hi) : Wo := l.foldl whand o
def wmap (P : List K) (o : Wo) (s : List UInt8) : Wo := if s = [] then wnums o 2 [0] else wtext (whead P o mapN (s.length : Int)) s
def wcode (P : List K) (o : Wo) (c : Ci) : Wo :=
  wmap P (whands (wnums (wtext (wnums (wnums o 2 [c.stack, c.locals]) 4 [(c.bytes.length : Int)]) c.bytes) 2 [(c.handlers.length : Int)]) c.handlers) c.map
def clen (c : Ci) : Nat := 12 + c.bytes.length + 8 * c.handlers.length + (if c.map = [] then 0 else 6 + c.map.length)
def wfld (P : List K) (o : Wo) (f : Fd) : Wo :=
  if f.value = 0 then wnums (wnums o 2 [(f.flags : Int), (f.name : Int), (f.type_ : Int)]) 2 [0]
  else wnums (whead P (wnums o 2 [(f.flags : Int), (f.name : Int), (f.type_ : Int)]) valueN 2) 2 [(f.value : Int)]
def wmth (P : List K) (o : Wo) (m : Mi) : Wo :=
  if m.has = true then wcode P (whead P (wnums o 2 [(m.flags : Int), (m.name : Int), (m.type_ : Int)]) codeN (clen m.code : Int)) m.code
  else wnums (wnums o 2 [(m.flags : Int), (m.name : Int), (m.type_ : Int)]) 2 [0]
def wifs (o : Wo) (l : List Nat) : Wo := l.foldl (fun o (x : Nat) => wnums o 2 [(x : Int)]) o
def wflds (P : List K) (o : Wo) (l : List Fd) : Wo := l.foldl (wfld P) o
def wmths (P : List K) (o : Wo) (l : List Mi) : Wo := l.foldl (wmth P) o
def wcls (o : Wo) (c : Csi) : Wo :=
  wnums (wmths c.pool (wnums (wflds c.pool (wnums (wifs (wnums o 2 [(c.flags : Int), (c.this : Int), (c.super : Int), (c.ifaces.length : Int)]) c.ifaces) 2 [(c.fields.length : Int)]) c.fields) 2 [(c.methods.length : Int)]) c.methods) 2 [0]
/-! How long it is at the most. -/
theorem wtext_len (o : Wo) (s : List UInt8) : (wtext o s).l.length ≤ o.l.length + s.length := by
  unfold wtext; split
  · simp
  · omega
theorem whead_len (P : List K) (o : Wo) (name : List UInt8) (ln : Int) : (whead P o name ln).l.length = o.l.length + 8 := by
  unfold whead
  rw [wnums_len, wnums_len]
  simp only [List.length_cons, List.length_nil]
  split
  · omega
  · rw [wfail_l]
theorem whands_len (o : Wo) (l : List Hi) : (whands o l).l.length = o.l.length + 8 * l.length := by
  unfold whands
  induction l generalizing o with
  | nil => simp
  | cons h l ih =>
    rw [List.foldl_cons, ih]
    unfold whand
    rw [wnums_len]
    simp only [List.length_cons, List.length_nil]
    omega
theorem wmap_len (P : List K) (o : Wo) (s : List UInt8) : (wmap P o s).l.length ≤ o.l.length + 2 + (if s = [] then 0 else 6 + s.length) := by
  unfold wmap
  split
  · rw [wnums_len]; simp
  · have := wtext_len (whead P o mapN (s.length : Int)) s
    rw [whead_len] at this
    omega
theorem wcode_len (P : List K) (o : Wo) (c : Ci) : (wcode P o c).l.length ≤ o.l.length + clen c := by
  unfold wcode clen
  have h1 := wmap_len P (whands (wnums (wtext (wnums (wnums o 2 [c.stack, c.locals]) 4 [(c.bytes.length : Int)]) c.bytes) 2 [(c.handlers.length : Int)]) c.handlers) c.map
  rw [whands_len, wnums_len] at h1
  have h2 := wtext_len (wnums (wnums o 2 [c.stack, c.locals]) 4 [(c.bytes.length : Int)]) c.bytes
  rw [wnums_len, wnums_len] at h2
  simp only [List.length_cons, List.length_nil] at h1 h2
  omega
theorem wfld_len (P : List K) (o : Wo) (f : Fd) : (wfld P o f).l.length ≤ o.l.length + 16 := by
  unfold wfld
  split
  · rw [wnums_len, wnums_len]; simp only [List.length_cons, List.length_nil]; omega
  · rw [wnums_len, whead_len, wnums_len]; simp only [List.length_cons, List.length_nil]; omega
def mcost (m : Mi) : Nat := 14 + clen m.code
theorem wmth_len (P : List K) (o : Wo) (m : Mi) : (wmth P o m).l.length ≤ o.l.length + mcost m := by
  unfold wmth mcost
  split
  · have := wcode_len P (whead P (wnums o 2 [(m.flags : Int), (m.name : Int), (m.type_ : Int)]) codeN (clen m.code : Int)) m.code
    rw [whead_len, wnums_len] at this
    simp only [List.length_cons, List.length_nil] at this
    omega
  · rw [wnums_len, wnums_len]; simp only [List.length_cons, List.length_nil]; omega
theorem wifs_len (o : Wo) (l : List Nat) : (wifs o l).l.length = o.l.length + 2 * l.length := by
  unfold wifs
  induction l generalizing o with
  | nil => simp
  | cons h l ih =>
    rw [List.foldl_cons, ih, wnums_len]
    simp only [List.length_cons, List.length_nil]
    omega
theorem wflds_len (P : List K) (o : Wo) (l : List Fd) : (wflds P o l).l.length ≤ o.l.length + 16 * l.length := by
  unfold wflds
  induction l generalizing o with
  | nil => simp
  | cons h l ih =>
    rw [List.foldl_cons]
    have h1 := ih (wfld P o h)
    have h2 := wfld_len P o h
    simp only [List.length_cons]
    omega
def mcosts (l : List Mi) : Nat := (l.map mcost).sum
theorem wmths_len (P : List K) (o : Wo) (l : List Mi) : (wmths P o l).l.length ≤ o.l.length + mcosts l := by
  unfold wmths mcosts
  induction l generalizing o with
  | nil => simp
  | cons h l ih =>
    rw [List.foldl_cons]
    have h1 := ih (wmth P o h)
    have h2 := wmth_len P o h
    simp only [List.map_cons, List.sum_cons]
    omega
theorem mcosts_take (l : List Mi) (k : Nat) : mcosts (l.take k) ≤ mcosts l := by
  unfold mcosts
  induction l generalizing k with
  | nil => simp
  | cons x l ih =>
    cases k with
    | zero => simp
    | succ k => simp only [List.take_succ_cons, List.map_cons, List.sum_cons]; have := ih k; omega
theorem mcosts_len (l : List Mi) : l.length ≤ mcosts l := by
  unfold mcosts
  induction l with
  | nil => simp
  | cons x l ih => simp only [List.map_cons, List.sum_cons, List.length_cons]; have h1 : 1 ≤ mcost x := (by unfold mcost; omega); omega
theorem mcosts_step (l : List Mi) (d : Mi) {k : Nat} (hk : k < l.length) : mcosts (l.take k) + mcost (l.getD k d) ≤ mcosts l := by
  unfold mcosts
  induction l generalizing k with
  | nil => simp at hk
  | cons x l ih =>
    cases k with
    | zero => simp
    | succ k =>
      have := ih (k := k) (by simpa using hk)
      simp only [List.take_succ_cons, List.map_cons, List.sum_cons, List.getD_cons_succ]
      omega
/-! What the reference writes: what is wrong, and bytes. -/
def fl (e k : Nat) : Nat := if e = 0 then k else e
abbrev Rw := Nat → Nat × List UInt8
def rnum (x : Int) (n : Nat) : Rw := fun e => (if fits x n then e else fl e 12, Ytgihfcjddkpkaaa.M.big (x % 2 ^ 64).toNat n)
def rtext (s : List UInt8) : Rw := fun e => (e, s)
def seqR (f g : Rw) : Rw := fun e => ((g (f e).1).1, (f e).2 ++ (g (f e).1).2)
def ratt (P : List K) (name body : List UInt8) : Rw := fun e =>
  match idxT P name P.length with
  | some k => seqR (seqR (rnum (k : Int) 2) (rnum (body.length : Int) 4)) (rtext body) e
  | none => (fl e 8, [])
def foldR {α : Type} (f : α → Rw) : List α → Rw
  | [] => rtext []
  | x :: l => seqR (f x) (foldR f l)
def rhand (h : Hi) : Rw := seqR (seqR (seqR (rnum h.from_ 2) (rnum h.to_ 2)) (rnum h.target 2)) (rnum (h.type_ : Int) 2)
def rmap (P : List K) (s : List UInt8) : Rw := if s = [] then rtext [0, 0] else seqR (rtext [0, 1]) (ratt P mapN s)
/-- What is in a code. -/
def rbody (P : List K) (c : Ci) : Rw :=
  seqR (seqR (seqR (seqR (seqR (seqR (rnum c.stack 2) (rnum c.locals 2)) (rnum (c.bytes.length : Int) 4)) (rtext c.bytes)) (rnum (c.handlers.length : Int) 2)) (foldR rhand c.handlers)) (rmap P c.map)
def rcode (P : List K) (c : Ci) : Rw := fun e =>
  ratt P codeN (rbody P c (ratt P codeN [] e).1).2 (rbody P c (ratt P codeN [] e).1).1
def rfld (P : List K) (f : Fd) : Rw :=
  seqR (seqR (seqR (rnum (f.flags : Int) 2) (rnum (f.name : Int) 2)) (rnum (f.type_ : Int) 2))
    (if f.value = 0 then rtext [0, 0] else fun e => ((ratt P valueN (rnum (f.value : Int) 2 e).2 (rnum (f.value : Int) 2 e).1).1, [0, 1] ++ (ratt P valueN (rnum (f.value : Int) 2 e).2 (rnum (f.value : Int) 2 e).1).2))
def rmth (P : List K) (m : Mi) : Rw :=
  seqR (seqR (seqR (rnum (m.flags : Int) 2) (rnum (m.name : Int) 2)) (rnum (m.type_ : Int) 2))
    (if m.has = true then fun e => ((rcode P m.code e).1, [0, 1] ++ (rcode P m.code e).2) else rtext [0, 0])
/-- One writes what the other tells. -/
def At (o o' : Wo) (r : Nat × List UInt8) : Prop := o'.e = r.1 ∧ (o'.e = 0 → o.e = 0 ∧ o'.l = o.l ++ r.2)
def Rel (f : Wo → Wo) (g : Rw) : Prop := ∀ o, At o (f o) (g o.e)
theorem Rel.comp {f1 f2 : Wo → Wo} {g1 g2 : Rw} (h1 : Rel f1 g1) (h2 : Rel f2 g2) : Rel (fun o => f2 (f1 o)) (seqR g1 g2) := by
  intro o
  obtain ⟨a1, a2⟩ := h1 o
  obtain ⟨b1, b2⟩ := h2 (f1 o)
  refine ⟨by simp only [seqR]; rw [b1, a1], fun h => ?_⟩
  obtain ⟨c1, c2⟩ := b2 h
  obtain ⟨d1, d2⟩ := a2 c1
  refine ⟨d1, ?_⟩
  simp only [seqR]
  rw [c2, d2, a1, List.append_assoc]
theorem Rel.stays {f : Wo → Wo} {g : Rw} (h : Rel f g) {o : Wo} (ho : o.e ≠ 0) : (f o).e ≠ 0 := fun e => ho ((h o).2 e).1
theorem Rel.zero {f : Wo → Wo} {g : Rw} (h : Rel f g) {e : Nat} (he : (g e).1 = 0) : e = 0 := by
  have := (h ⟨[], e⟩)
  exact (this.2 (this.1.trans he)).1
theorem fl_ne {e k : Nat} (hk : k ≠ 0) : fl e k ≠ 0 := by unfold fl; split <;> omega
theorem fl_of {e k : Nat} (he : e ≠ 0) : fl e k = e := by unfold fl; rw [if_neg he]
theorem wfail_e (o : Wo) (k : Nat) : (wfail o k).e = fl o.e k := by unfold wfail fl; split <;> rfl
theorem Rel.num (x : Int) (n : Nat) : Rel (fun o => wnum o n x) (rnum x n) := by
  intro o
  show At o (wnum o n x) (rnum x n o.e)
  unfold rnum wnum
  by_cases h : fits x n
  · rw [if_pos h, if_pos h]
    exact ⟨rfl, fun h => ⟨h, rfl⟩⟩
  · rw [if_neg h, if_neg h, wfail_e]
    exact ⟨rfl, fun h0 => absurd h0 (fl_ne (by decide))⟩
theorem Rel.text (s : List UInt8) : Rel (fun o => wtext o s) (rtext s) := by
  intro o
  show At o (wtext o s) (rtext s o.e)
  unfold wtext rtext
  by_cases h : o.e = 0
  · rw [if_pos h]; exact ⟨rfl, fun _ => ⟨h, rfl⟩⟩
  · rw [if_neg h]; exact ⟨rfl, fun h0 => absurd h0 h⟩
theorem Rel.same : Rel (fun o => o) (rtext []) := fun o => ⟨rfl, fun h => ⟨h, by simp [rtext]⟩⟩
theorem wnums_nil (o : Wo) (n : Nat) : wnums o n [] = o := rfl
theorem wnums_cons (o : Wo) (n : Nat) (x : Int) (xs : List Int) : wnums o n (x :: xs) = wnums (wnum o n x) n xs := rfl
theorem Rel.fold {α : Type} {f : Wo → α → Wo} {g : α → Rw} (h : ∀ x, Rel (fun o => f o x) (g x)) : ∀ l : List α, Rel (fun o => l.foldl f o) (foldR g l)
  | [] => Rel.same
  | x :: l => by
    have := (h x).comp (Rel.fold h l)
    exact this
theorem Rel.foldOn {α : Type} {f : Wo → α → Wo} {g : α → Rw} : ∀ (l : List α) (h : ∀ x ∈ l, Rel (fun o => f o x) (g x)), Rel (fun o => l.foldl f o) (foldR g l)
  | [], _ => Rel.same
  | x :: l, h => (h x (by simp)).comp (Rel.foldOn l (fun y hy => h y (by simp [hy])))
theorem Rel.one (x : Int) (n : Nat) : Rel (fun o => wnums o n [x]) (rnum x n) := by
  intro o
  show At o (wnums o n [x]) (rnum x n o.e)
  rw [wnums_cons, wnums_nil]
  exact Rel.num x n o
theorem Rel.two (x y : Int) (n : Nat) : Rel (fun o => wnums o n [x, y]) (seqR (rnum x n) (rnum y n)) := by
  intro o
  show At o (wnums o n [x, y]) _
  rw [wnums_cons, wnums_cons, wnums_nil]
  exact ((Rel.num x n).comp (Rel.num y n)) o
theorem Rel.three (x y z : Int) (n : Nat) : Rel (fun o => wnums o n [x, y, z]) (seqR (seqR (rnum x n) (rnum y n)) (rnum z n)) := by
  intro o
  show At o (wnums o n [x, y, z]) _
  rw [wnums_cons, wnums_cons, wnums_cons, wnums_nil]
  exact (((Rel.num x n).comp (Rel.num y n)).comp (Rel.num z n)) o
theorem Rel.four (x y z u : Int) (n : Nat) : Rel (fun o => wnums o n [x, y, z, u]) (seqR (seqR (seqR (rnum x n) (rnum y n)) (rnum z n)) (rnum u n)) := by
  intro o
  show At o (wnums o n [x, y, z, u]) _
  rw [wnums_cons, wnums_cons, wnums_cons, wnums_cons, wnums_nil]
  exact ((((Rel.num x n).comp (Rel.num y n)).comp (Rel.num z n)).comp (Rel.num u n)) o
theorem rtext_fst (s : List UInt8) (e : Nat) : (rtext s e).1 = e := rfl
theorem seqR_fst (f g : Rw) (e : Nat) : (seqR f g e).1 = (g (f e).1).1 := rfl
theorem Rel.hand (h : Hi) : Rel (fun o => whand o h) (rhand h) := Rel.four h.from_ h.to_ h.target (h.type_ : Int) 2
theorem big0 : Ytgihfcjddkpkaaa.M.big ((0 : Int) % 2 ^ 64).toNat 2 = [0, 0] := rfl
theorem big1 : Ytgihfcjddkpkaaa.M.big ((1 : Int) % 2 ^ 64).toNat 2 = [0, 1] := rfl
theorem rnum0 : rnum 0 2 = rtext [0, 0] := by
  funext e
  unfold rnum rtext
  rw [if_pos (by unfold fits; decide), big0]
theorem rnum1 : rnum 1 2 = rtext [0, 1] := by
  funext e
  unfold rnum rtext
  rw [if_pos (by unfold fits; decide), big1]
theorem fits_nat {k n m : Nat} (h : k < m) (hm : (m : Int) ≤ 256 ^ n) : fits (k : Int) n := ⟨by omega, by omega⟩
theorem rnum_fits {x : Int} {n : Nat} (h : fits x n) : rnum x n = rtext (Ytgihfcjddkpkaaa.M.big (x % 2 ^ 64).toNat n) := by
  funext e; unfold rnum rtext; rw [if_pos h]
theorem seqR_text (a b : List UInt8) : seqR (rtext a) (rtext b) = rtext (a ++ b) := by funext e; rfl
theorem seqR_assoc (f g h : Rw) : seqR (seqR f g) h = seqR f (seqR g h) := by funext e; simp only [seqR, List.append_assoc]
/-- The head of an attribute, of a name that is there. -/
theorem Rel.head_some {P : List K} {name : List UInt8} {k : Nat} {ln : Nat} (hk : idxT P name P.length = some k) (hP : P.length ≤ 65535) (hl : ln < 4294967296) :
    Rel (fun o => whead P o name (ln : Int)) (rtext ([0, 1] ++ (Ytgihfcjddkpkaaa.M.big ((k : Int) % 2 ^ 64).toNat 2 ++ Ytgihfcjddkpkaaa.M.big ((ln : Int) % 2 ^ 64).toNat 4))) := by
  have hk2 := idxT_lt hk
  have h1 : fits (k : Int) 2 := fits_nat (m := 65536) (by omega) (by decide)
  have h2 : fits (ln : Int) 4 := fits_nat (m := 4294967296) hl (by decide)
  have := ((Rel.num 1 2).comp (Rel.num (k : Int) 2)).comp (Rel.num (ln : Int) 4)
  rw [rnum1, rnum_fits h1, rnum_fits h2, seqR_text, seqR_text, List.append_assoc] at this
  intro o
  have e : whead P o name (ln : Int) = wnum (wnum (wnum o 2 1) 2 (k : Int)) 4 (ln : Int) := by
    unfold whead
    rw [hk]
    rfl
  show At o (whead P o name (ln : Int)) _
  rw [e]
  exact this o
theorem head_none {P : List K} {name : List UInt8} (ln : Int) (o : Wo) (hk : idxT P name P.length = none) : (whead P o name ln).e ≠ 0 := by
  intro h
  have h1 := (((Rel.num 1 2).comp (Rel.num 0 2)).comp (Rel.num ln 4)) (wfail o 8)
  have e : whead P o name ln = wnum (wnum (wnum (wfail o 8) 2 1) 2 0) 4 ln := by
    unfold whead
    rw [hk]
    rfl
  rw [e] at h
  have := (h1.2 h).1
  rw [wfail_e] at this
  exact fl_ne (by decide) this
theorem head_none_e {P : List K} {name : List UInt8} {ln : Nat} (o : Wo) (hk : idxT P name P.length = none) (hl : ln < 4294967296) : (whead P o name (ln : Int)).e = fl o.e 8 := by
  have h2 : fits (ln : Int) 4 := fits_nat (m := 4294967296) hl (by decide)
  have h1 := (((Rel.num 1 2).comp (Rel.num 0 2)).comp (Rel.num (ln : Int) 4)) (wfail o 8)
  have e : whead P o name (ln : Int) = wnum (wnum (wnum (wfail o 8) 2 1) 2 0) 4 (ln : Int) := by
    unfold whead
    rw [hk]
    rfl
  rw [e]
  refine h1.1.trans ?_
  rw [rnum1, rnum0, rnum_fits h2, wfail_e]
  rfl
theorem ratt_some {P : List K} {name body : List UInt8} {k : Nat} (hk : idxT P name P.length = some k) (hP : P.length ≤ 65535) (hl : body.length < 4294967296) :
    ratt P name body = rtext (Ytgihfcjddkpkaaa.M.big ((k : Int) % 2 ^ 64).toNat 2 ++ Ytgihfcjddkpkaaa.M.big ((body.length : Int) % 2 ^ 64).toNat 4 ++ body) := by
  have hk2 := idxT_lt hk
  have h1 : fits (k : Int) 2 := fits_nat (m := 65536) (by omega) (by decide)
  have h2 : fits (body.length : Int) 4 := fits_nat (m := 4294967296) hl (by decide)
  funext e
  unfold ratt
  rw [hk]
  simp only
  rw [rnum_fits h1, rnum_fits h2, seqR_text, seqR_text]
theorem ratt_none {P : List K} {name body : List UInt8} (hk : idxT P name P.length = none) : ratt P name body = fun e => (fl e 8, []) := by
  funext e
  unfold ratt
  rw [hk]
/-- An attribute whose bytes are given. -/
theorem Rel.att {P : List K} (name body : List UInt8) (hP : P.length ≤ 65535) (hl : body.length < 4294967296) :
    Rel (fun o => wtext (whead P o name (body.length : Int)) body) (seqR (rtext [0, 1]) (ratt P name body)) := by
  cases hk : idxT P name P.length with
  | some k =>
    rw [ratt_some hk hP hl]
    have := (Rel.head_some hk hP hl).comp (Rel.text body)
    rw [seqR_text] at this ⊢
    rw [List.append_assoc] at this
    exact this
  | none =>
    rw [ratt_none hk]
    intro o
    have h1 := head_none_e o hk hl
    have h2 := head_none (body.length : Int) o hk
    have h3 : wtext (whead P o name (body.length : Int)) body = whead P o name (body.length : Int) := by unfold wtext; rw [if_neg h2]
    show At o (wtext (whead P o name (body.length : Int)) body) _
    rw [h3]
    exact ⟨h1, fun h => absurd h h2⟩
theorem Rel.map_ {P : List K} (s : List UInt8) (hP : P.length ≤ 65535) (hl : s.length < 4294967296) : Rel (fun o => wmap P o s) (rmap P s) := by
  unfold wmap rmap
  by_cases h : s = []
  · simp only [if_pos h]
    have := Rel.one 0 2
    rw [rnum0] at this
    exact this
  · simp only [if_neg h]
    exact Rel.att mapN s hP hl
theorem Rel.body {P : List K} (c : Ci) (hP : P.length ≤ 65535) (hm : c.map.length < 4294967296) : Rel (fun o => wcode P o c) (rbody P c) := by
  unfold wcode rbody
  have := (((((Rel.two c.stack c.locals 2).comp (Rel.one (c.bytes.length : Int) 4)).comp (Rel.text c.bytes)).comp (Rel.one (c.handlers.length : Int) 2)).comp (Rel.fold Rel.hand c.handlers)).comp (Rel.map_ c.map hP hm)
  exact this
theorem rmap_len {P : List K} (s : List UInt8) (hP : P.length ≤ 65535) (hl : s.length < 4294967296) {e : Nat} (h : (rmap P s e).1 = 0) : (rmap P s e).2.length = 2 + (if s = [] then 0 else 6 + s.length) := by
  unfold rmap at h ⊢
  by_cases hs : s = []
  · simp [hs, rtext]
  · simp only [if_neg hs] at h ⊢
    cases hk : idxT P mapN P.length with
    | some k =>
      rw [ratt_some hk hP hl, seqR_text]
      simp only [rtext, List.length_append, Ytgihfcjddkpkaaa.M.big_len, List.length_cons, List.length_nil]
      try omega
    | none =>
      rw [ratt_none hk] at h
      exact absurd h (fl_ne (by decide))
theorem rhands_len (l : List Hi) (e : Nat) : (foldR rhand l e).2.length = 8 * l.length := by
  induction l generalizing e with
  | nil => rfl
  | cons h l ih =>
    simp only [foldR, seqR, List.length_append, ih, rhand, rnum, Ytgihfcjddkpkaaa.M.big_len, List.length_cons]
    omega
theorem rbody_len {P : List K} (c : Ci) (hP : P.length ≤ 65535) (hm : c.map.length < 4294967296) {e : Nat} (h : (rbody P c e).1 = 0) : (rbody P c e).2.length = clen c := by
  unfold rbody at h ⊢
  rw [seqR_fst] at h
  have hm2 := rmap_len (P := P) c.map hP hm h
  have e1 : ∀ (f g : Rw) (a : Nat), (seqR f g a).2.length = (f a).2.length + (g (f a).1).2.length := fun f g a => by simp [seqR]
  have e2 : ∀ (x : Int) (n : Nat) (a : Nat), (rnum x n a).2.length = n := fun x n a => by simp [rnum, Ytgihfcjddkpkaaa.M.big_len]
  have e3 : ∀ (s : List UInt8) (a : Nat), (rtext s a).2.length = s.length := fun _ _ => rfl
  rw [e1, hm2, e1, e1, e1, e1, e1, rhands_len, e2, e2, e2, e2, e3]
  unfold clen
  omega
theorem Rel.code {P : List K} (c : Ci) (hP : P.length ≤ 65535) (hc : clen c < 4294967296) :
    Rel (fun o => wcode P (whead P o codeN (clen c : Int)) c) (fun e => ((rcode P c e).1, [0, 1] ++ (rcode P c e).2)) := by
  have hm : c.map.length < 4294967296 := by
    unfold clen at hc
    by_cases h : c.map = []
    · rw [h]; decide
    · rw [if_neg h] at hc; omega
  have hb := Rel.body c hP hm
  cases hk : idxT P codeN P.length with
  | some k =>
    have h1 := (Rel.head_some hk hP hc).comp hb
    have ha : ∀ e, (ratt P codeN [] e).1 = e := fun e => by rw [ratt_some hk hP (by decide)]; rfl
    intro o
    obtain ⟨a1, a2⟩ := h1 o
    have a1' : (wcode P (whead P o codeN (clen c : Int)) c).e = (rbody P c o.e).1 := a1
    show At o (wcode P (whead P o codeN (clen c : Int)) c) ((rcode P c o.e).1, [0, 1] ++ (rcode P c o.e).2)
    unfold rcode
    rw [ha]
    by_cases hz : (rbody P c o.e).1 = 0
    · have hl := rbody_len c hP hm hz
      have hl2 : (rbody P c o.e).2.length < 4294967296 := by rw [hl]; exact hc
      rw [ratt_some hk hP hl2]
      refine ⟨a1', fun h => ?_⟩
      obtain ⟨b1, b2⟩ := a2 h
      refine ⟨b1, ?_⟩
      simp only at b2 ⊢
      rw [b2, hl]
      simp only [seqR, rtext, List.append_assoc]
    · refine ⟨a1'.trans ?_, fun h => absurd (a1'.symm.trans h) hz⟩
      simp only
      unfold ratt
      rw [hk]
      have hk2 := idxT_lt hk
      have hz2 : ∀ x n, (rnum x n (rbody P c o.e).1).1 = (rbody P c o.e).1 := fun x n => by
        unfold rnum; simp only; split
        · rfl
        · exact fl_of hz
      simp only [seqR, rtext, hz2]
  | none =>
    intro o
    have h1 := head_none_e o hk hc
    have h2 := head_none (clen c : Int) o hk
    obtain ⟨b1, b2⟩ := hb (whead P o codeN (clen c : Int))
    have h3 := hb.stays h2
    show At o (wcode P (whead P o codeN (clen c : Int)) c) ((rcode P c o.e).1, [0, 1] ++ (rcode P c o.e).2)
    unfold rcode
    rw [ratt_none hk, ratt_none hk]
    refine ⟨?_, fun h => absurd h h3⟩
    rw [h1] at b1
    have b1' : (wcode P (whead P o codeN (clen c : Int)) c).e = (rbody P c (fl o.e 8)).1 := b1
    have h3' : (rbody P c (fl o.e 8)).1 ≠ 0 := fun h => h3 (b1'.trans h)
    rw [b1']
    exact (fl_of h3').symm
theorem Rel.fld {P : List K} (f : Fd) (hP : P.length ≤ 65535) (hv : f.value < 65536) : Rel (fun o => wfld P o f) (rfld P f) := by
  have hn := Rel.three (f.flags : Int) (f.name : Int) (f.type_ : Int) 2
  unfold wfld rfld
  by_cases h : f.value = 0
  · simp only [if_pos h]
    have := hn.comp (Rel.one 0 2)
    rw [rnum0] at this
    exact this
  · simp only [if_neg h]
    have hf : fits (f.value : Int) 2 := fits_nat (m := 65536) hv (by decide)
    suffices key : Rel (fun o => wnums (whead P o valueN 2) 2 [(f.value : Int)]) (fun e => ((ratt P valueN (rnum (f.value : Int) 2 e).2 (rnum (f.value : Int) 2 e).1).1, [0, 1] ++ (ratt P valueN (rnum (f.value : Int) 2 e).2 (rnum (f.value : Int) 2 e).1).2)) by
      have := hn.comp key
      exact this
    have e : (fun e => ((ratt P valueN (rnum (f.value : Int) 2 e).2 (rnum (f.value : Int) 2 e).1).1, [0, 1] ++ (ratt P valueN (rnum (f.value : Int) 2 e).2 (rnum (f.value : Int) 2 e).1).2)) = seqR (rtext [0, 1]) (ratt P valueN (Ytgihfcjddkpkaaa.M.big ((f.value : Int) % 2 ^ 64).toNat 2)) := by
      funext e
      rw [rnum_fits hf]
      generalize Ytgihfcjddkpkaaa.M.big ((f.value : Int) % 2 ^ 64).toNat 2 = X
      simp only [rtext, seqR]
    rw [e]
    have hl : (Ytgihfcjddkpkaaa.M.big ((f.value : Int) % 2 ^ 64).toNat 2).length = 2 := Ytgihfcjddkpkaaa.M.big_len _ _
    cases hk : idxT P valueN P.length with
    | some k =>
      rw [ratt_some hk hP (by omega), hl]
      have := (Rel.head_some (ln := 2) hk hP (by decide)).comp (Rel.one (f.value : Int) 2)
      rw [rnum_fits hf, seqR_text] at this
      rw [seqR_text]
      rw [List.append_assoc, show ((2 : Nat) : Int) = 2 from rfl] at this
      rw [show ((2 : Nat) : Int) = 2 from rfl]
      exact this
    | none =>
      rw [ratt_none hk]
      intro o
      have h1 := head_none_e (ln := 2) o hk (by decide)
      rw [show ((2 : Nat) : Int) = 2 from rfl] at h1
      have h2 := head_none (2 : Int) o hk
      have h3 := (Rel.one (f.value : Int) 2) (whead P o valueN 2)
      have h4 := (Rel.one (f.value : Int) 2).stays h2
      have h5 : (rnum (f.value : Int) 2 (whead P o valueN 2).e).1 = (whead P o valueN 2).e := by rw [rnum_fits hf]; exact rtext_fst _ _
      have h6 := (h3.1.trans h5).trans h1
      exact ⟨h6, fun h => absurd h h4⟩
theorem Rel.mth {P : List K} (m : Mi) (hP : P.length ≤ 65535) (hc : clen m.code < 4294967296) : Rel (fun o => wmth P o m) (rmth P m) := by
  have hn := Rel.three (m.flags : Int) (m.name : Int) (m.type_ : Int) 2
  unfold wmth rmth
  by_cases h : m.has = true
  · simp only [if_pos h]
    have := hn.comp (Rel.code m.code hP hc)
    exact this
  · simp only [if_neg h]
    have := hn.comp (Rel.one 0 2)
    rw [rnum0] at this
    exact this
/-- What stands behind the pool. -/
def rtail (c : Csi) : Rw :=
  seqR (seqR (seqR (seqR (seqR (seqR (seqR (seqR (seqR (rnum (c.flags : Int) 2) (rnum (c.this : Int) 2)) (rnum (c.super : Int) 2)) (rnum (c.ifaces.length : Int) 2)) (foldR (fun x : Nat => rnum (x : Int) 2) c.ifaces)) (rnum (c.fields.length : Int) 2)) (foldR (rfld c.pool) c.fields)) (rnum (c.methods.length : Int) 2)) (foldR (rmth c.pool) c.methods)) (rtext [0, 0])
theorem Rel.cls (c : Csi) (hP : c.pool.length ≤ 65535) (hv : ∀ f ∈ c.fields, f.value < 65536) (hc : ∀ m ∈ c.methods, clen m.code < 4294967296) : Rel (fun o => wcls o c) (rtail c) := by
  have h0 := Rel.four (c.flags : Int) (c.this : Int) (c.super : Int) (c.ifaces.length : Int) 2
  have h1 := h0.comp (Rel.fold (fun x : Nat => Rel.one (x : Int) 2) c.ifaces)
  have h2 := h1.comp (Rel.one (c.fields.length : Int) 2)
  have h3 := h2.comp (Rel.foldOn c.fields (fun f hf => Rel.fld f hP (hv f hf)))
  have h4 := h3.comp (Rel.one (c.methods.length : Int) 2)
  have h5 := h4.comp (Rel.foldOn c.methods (fun m hm => Rel.mth m hP (hc m hm)))
  have h6 := h5.comp (Rel.one 0 2)
  rw [rnum0] at h6
  exact h6
end M
end Go.Proofs.Ytgihfcjddkpkaaa.Cl
