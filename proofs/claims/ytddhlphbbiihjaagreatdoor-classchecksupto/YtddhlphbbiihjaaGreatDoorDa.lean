/-
  A class that can be read: size, another, sameClass (carried from 715d5bd).
-/
import Derived.Test.YtddhlphbbiihjaaGreatDoorKn
import Derived.Deep.OwnRows
import Derived.Deep.CutBlock
import Derived.StringKeys
import Derived.Deep.RegionHeld3
import Derived.Laws.StructEq
import Derived.Lib.AppendStr
import Derived.Lib.FrozenHead
import Derived.Deep.Slices
import Derived.SizedLaws
import Derived.OpenShut
import Derived.ShutString
import Derived.ChangeOld
set_option linter.unusedVariables false
set_option linter.unusedSimpArgs false
namespace Go.Proofs.YtddhlphbbiihjaaGreatDoor.Cl
open Go.RowKit Go.Maps Kn
theorem grown_set (w : World) (b i : Nat) (v : Value) : w.grownBy (w.setCell ⟨b, i, none⟩ v) (some b) :=
  ⟨rfl, rfl, rfl, by simp, fun k _ hne => Below.heap_setCell w ⟨b, i, none⟩ v k (by intro h; subst h; exact hne rfl)⟩
theorem grown_of_below {w w' : World} (h : Below w.heap.size w w') (row : Option Nat) : w.grownBy w' row := ⟨h.os, h.tape, h.output, h.size, fun k hk _ => h.block k hk⟩
/-- A block of cells. -/
def Bk (w : World) (g : Nat) (cs : Array Value) (t : TypeId) : Prop := w.heap[g]? = some (.cells cs t (0, 0))
section
variable {w w' : World} {g : Nat} {cs : Array Value} {t : TypeId}
theorem Bk.lt (h : Bk w g cs t) : g < w.heap.size := (Array.getElem?_eq_some_iff.1 h).1
end
section
variable {w w' : World} {g : Nat} {cs : Array Value} {t : TypeId}
theorem Bk.cell (h : Bk w g cs t) (i : Nat) : w.cell? ⟨g, i, none⟩ = cs[i]? := cell_of_row w g i _ t (0, 0) h
end
section
variable {w w' : World} {g : Nat} {cs : Array Value} {t : TypeId}
theorem Bk.frozen (h : Bk w g cs t) (i : Nat) : w.frozen? ⟨g, i, none⟩ = false := by
  unfold World.frozen?; unfold Bk at h; simp only [h]; simp
end
section
variable {w w' : World} {g : Nat} {cs : Array Value} {t : TypeId}
theorem Bk.kept {row : Option Nat} (h : Bk w g cs t) (hg : w.grownBy w' row) (hne : some g ≠ row) : Bk w' g cs t := by
  unfold Bk; rw [hg.block g h.lt hne]; exact h
end
section
variable {w w' : World} {g : Nat} {cs : Array Value} {t : TypeId}
theorem Bk.below (h : Bk w g cs t) (hb : Below w.heap.size w w') : Bk w' g cs t := h.kept (grown_of_below hb none) (by simp)
end
section
variable {w w' : World} {g : Nat} {cs : Array Value} {t : TypeId}
theorem Bk.alloc (h : Bk w g cs t) (o : Obj) : Bk (w.alloc o) g cs t := h.kept (World.grownBy_alloc w o none) (by simp)
end
section
variable {w w' : World} {g : Nat} {cs : Array Value} {t : TypeId}
theorem Bk.new (w : World) (cs : Array Value) (t : TypeId) : Bk (w.alloc (.cells cs t)) w.heap.size cs t := heap_alloc_new _ _
end
section
variable {w w' : World} {g : Nat} {cs : Array Value} {t : TypeId}
theorem Bk.set (h : Bk w g cs t) (i : Nat) (v : Value) : Bk (w.setCell ⟨g, i, none⟩ v) g (cs.setIfInBounds i v) t := by
  unfold Bk; rw [heap_setCell_same w g i _ t _ h]
end
theorem ins_kept {w w' : World} {B e k n : Nat} {v : Value} {xs : List Value} {row : Option Nat} (h : w.ownsRow B e k v n xs) (hg : w.grownBy w' row) (hr : ∀ b, row = some b → v.ownBlock ≠ some b) : w'.ownsRow B e k v n xs := by
  refine ⟨h.1, ?_⟩
  rcases h.2 with h0 | ⟨g, cap, cur, rfl, h1, h2, h3⟩
  · exact .inl h0
  · refine .inr ⟨g, cap, cur, rfl, h1, ?_, h3⟩
    rw [hg.block g (Array.getElem?_eq_some_iff.1 h2).1 (fun e => hr g e.symm rfl)]; exact h2
structure Fd where
  flags : Nat
  name : Nat
  type_ : Nat
  value : Nat
/-- A handler, code, a method, a class, of any numbers. -/
structure Hi where
  from_ : Int
  to_ : Int
  target : Int
  type_ : Nat
structure Ci where
  stack : Int
  locals : Int
  bytes : List UInt8
  handlers : List Hi
  map : List UInt8
structure Mi where
  flags : Nat
  name : Nat
  type_ : Nat
  has : Bool
  code : Ci
structure Csi where
  minor : Nat
  major : Nat
  pool : List K
  flags : Nat
  this : Nat
  super : Nat
  ifaces : List Nat
  fields : List Fd
  methods : List Mi
def Okx (x : Int) : Prop := -9223372036854775808 ≤ x ∧ x < 9223372036854775808
structure FdOk (f : Fd) : Prop where
  a : f.flags < 65536
  b : f.name < 65536
  c : f.type_ < 65536
  d : f.value < 65536
/-- A list of structs that can be read. -/
def FIn {α : Type} (f : α → List Value) (z : Nat) (d : α) (w : World) (v : Value) (l : List α) : Prop :=
  ∃ ad cap, v = .slice ad l.length cap ∧ (l ≠ [] → ∃ b o, ad = some ⟨b, o, none⟩ ∧ ∀ k, k < l.length → ∀ i, i < z → w.cell? ⟨b, o + k * z + i, none⟩ = (f (l.getD k d))[i]?)
section
variable {α : Type} {f : α → List Value} {z : Nat} {d : α} {w w' : World} {v : Value} {l : List α}
theorem flat_at {α : Type} (f : α → List Value) (z : Nat) (hf : ∀ x, (f x).length = z) (d : α) : ∀ (l : List α) (k i : Nat), k < l.length → i < z → (l.flatMap f)[k * z + i]? = (f (l.getD k d))[i]?
  | [], k, i, h, _ => by simp at h
  | x :: l, 0, i, _, hi => by
    rw [List.flatMap_cons, Nat.zero_mul, Nat.zero_add, List.getElem?_append_left (by rw [hf]; exact hi)]; rfl
  | x :: l, k + 1, i, h, hi => by
    rw [List.flatMap_cons, List.getElem?_append_right (by rw [hf]; have : z ≤ (k + 1) * z := Nat.le_mul_of_pos_left z (Nat.succ_pos k); omega), hf]
    rw [show (k + 1) * z + i - z = k * z + i by rw [Nat.succ_mul]; omega]
    have := flat_at f z hf d l k i (by simpa using h) hi
    rw [this]; rfl
end
section
variable {α : Type} {f : α → List Value} {z : Nat} {d : α} {w w' : World} {v : Value} {l : List α}
theorem FIn.of_row {B e : Nat} (hf : ∀ x, (f x).length = z) (h : w.ownsRow B e z v l.length (l.flatMap f)) : FIn f z d w v l := by
  rcases h.2 with ⟨rfl, h0⟩ | ⟨g, cap, cur, rfl, h1⟩
  · exact ⟨none, 0, by rw [h0], fun hne => absurd (List.length_eq_zero_iff.1 h0) hne⟩
  · refine ⟨_, _, rfl, fun _ => ⟨g, 0, rfl, fun k hk i hi => ?_⟩⟩
    have e := flat_at f z hf d l k i hk hi
    have hc : (f (l.getD k d))[i]? = some ((f (l.getD k d))[i]'(by rw [hf]; exact hi)) := List.getElem?_eq_getElem _
    rw [hc] at e ⊢
    have := h.cells (g := g) rfl (k * z + i) _ e
    rw [Addr.add_lit] at this
    rw [show 0 + k * z + i = 0 + (k * z + i) by omega]
    exact this
end
section
variable {α : Type} {f : α → List Value} {z : Nat} {d : α} {w w' : World} {v : Value} {l : List α}
end
section
variable {α : Type} {f : α → List Value} {z : Nat} {d : α} {w w' : World} {v : Value} {l : List α}
theorem FIn.below (hf : ∀ x, (f x).length = z) (h : FIn f z d w v l) (hb : Below w.heap.size w w') : FIn f z d w' v l := by
  obtain ⟨ad, cap, e, h1⟩ := h
  refine ⟨ad, cap, e, fun hne => ?_⟩
  obtain ⟨b, o, e1, h2⟩ := h1 hne
  refine ⟨b, o, e1, fun k hk i hi => ?_⟩
  have hq := h2 k hk i hi
  have hc : (f (l.getD k d))[i]? = some ((f (l.getD k d))[i]'(by rw [hf]; exact hi)) := List.getElem?_eq_getElem _
  have hlt := cell_lt (hq.trans hc)
  rw [hb.cell hlt]
  exact hq
end
def Hi.cells (h : Hi) : List Value := [.int .i64 h.from_, .int .i64 h.to_, .int .i64 h.target, .int .u16 (h.type_ : Int)]
theorem Hi.len (h : Hi) : h.cells.length = 4 := rfl
def Hi.zero : Hi := ⟨0, 0, 0, 0⟩
structure Hi.Ok (h : Hi) : Prop where
  a : Okx h.from_
  b : Okx h.to_
  c : Okx h.target
  d : h.type_ < 65536
structure Ci.Ok (c : Ci) : Prop where
  a : Okx c.stack
  b : Okx c.locals
  h : ∀ x ∈ c.handlers, x.Ok
structure Mi.Ok (j : Mi) : Prop where
  a : j.flags < 65536
  b : j.name < 65536
  c : j.type_ < 65536
  d : j.code.Ok
def Uc (x : Nat) : List Value := [.int .u16 (x : Int)]
theorem Uc_len (x : Nat) : (Uc x).length = 1 := rfl
def Fc (f : Fd) : List Value := [.int .u16 (f.flags : Int), .int .u16 (f.name : Int), .int .u16 (f.type_ : Int), .int .u16 (f.value : Int)]
theorem Fc_len (x : Fd) : (Fc x).length = 4 := rfl
def Fz : Fd := ⟨0, 0, 0, 0⟩
/-- A method, and where its handlers lie. -/
structure Mv where
  m : Mi
  hv : Value
def Mv.cells (j : Mv) : List Value := [.int .u16 (j.m.flags : Int), .int .u16 (j.m.name : Int), .int .u16 (j.m.type_ : Int), .bool j.m.has, .int .i64 j.m.code.stack, .int .i64 j.m.code.locals, .string ⟨j.m.code.bytes.toArray⟩, j.hv, .string ⟨j.m.code.map.toArray⟩]
theorem Mv.len (j : Mv) : j.cells.length = 9 := rfl
def Mv.zero : Mv := ⟨⟨0, 0, 0, false, ⟨0, 0, [], [], []⟩⟩, .slice none 0 0⟩
/-- A class whose lists can be read. -/
structure Cin (w : World) (c : Csi) (vp vi vf vm : Value) (L : List Mv) : Prop where
  p : KIn w vp c.pool
  i : FIn Uc 1 0 w vi c.ifaces
  f : FIn Fc 4 Fz w vf c.fields
  m : FIn Mv.cells 9 Mv.zero w vm L
  h : ∀ j ∈ L, FIn Hi.cells 4 Hi.zero w j.hv j.m.code.handlers
  e : L.map Mv.m = c.methods
theorem Cin.below {w w' : World} {c : Csi} {vp vi vf vm : Value} {L : List Mv} (h : Cin w c vp vi vf vm L) (hb : Below w.heap.size w w') : Cin w' c vp vi vf vm L :=
  ⟨h.p.below hb, h.i.below Uc_len hb, h.f.below Fc_len hb, h.m.below Mv.len hb, fun j hj => (h.h j hj).below Hi.len hb, h.e⟩
structure Csi.Ok (c : Csi) : Prop where
  x1 : c.minor < 65536
  x2 : c.major < 65536
  x3 : c.flags < 65536
  x4 : c.this < 65536
  x5 : c.super < 65536
  xi : ∀ x ∈ c.ifaces, x < 65536
  xf : ∀ f ∈ c.fields, FdOk f
  xm : ∀ m ∈ c.methods, m.Ok
set_option maxRecDepth 100000 in
set_option maxHeartbeats 2000000 in
theorem samePoolG_eq (v u : Value) (P : List K) (w : World) (h1 : KIn w v P) (h2 : KIn w u P) (hl : P.length ≤ 70368744177664) : Calls Tryz.prog 17 #[v, u] w fun x w' => x = .returned (.bool true) ∧ ∃ n, w' = w.drewN n := by
  obtain ⟨a1, c1, rfl, hc1⟩ := h1.ex
  obtain ⟨a2, c2, rfl, hc2⟩ := h2.ex
  have H1 := hide hc1
  have H2 := hide hc2
  clear hc1 hc2 h1 h2
  have hll : (((P.length : Nat) : Int) != ((P.length : Nat) : Int)) = false := by simp
  go_enter Tryz.func17, Tryz.ntmps17
  go_wp2_with fail
  go_loopw [13] (fun i wr => ∃ k n : Nat, k ≤ P.length ∧ i = .int .i64 k ∧ wr = w.drewN n) (fun i _ => P.length - (intOf i).toNat)
  case atStart => exact ⟨0, 0, Nat.zero_le _, rfl, rfl⟩
  case round =>
    obtain ⟨k, n, hk, rfl, rfl⟩ := hrel
    by_cases hlt : k < P.length
    · have hne : P ≠ [] := by rintro rfl; simp at hlt
      obtain ⟨b1, o1, rfl, q1⟩ := unhide H1 hne
      obtain ⟨b2, o2, rfl, q2⟩ := unhide H2 hne
      obtain ⟨x, hx⟩ : ∃ x, x = P.getD k K.zero := ⟨_, rfl⟩
      have r0 := q1 k hlt 0 (by omega)
      have r1 := q1 k hlt 1 (by omega)
      have r2 := q1 k hlt 2 (by omega)
      have r3 := q1 k hlt 3 (by omega)
      have r4 := q1 k hlt 4 (by omega)
      have s0 := q2 k hlt 0 (by omega)
      have s1 := q2 k hlt 1 (by omega)
      have s2 := q2 k hlt 2 (by omega)
      have s3 := q2 k hlt 3 (by omega)
      have s4 := q2 k hlt 4 (by omega)
      rw [← hx] at r0 r1 r2 r3 r4 s0 s1 s2 s3 s4
      simp [K.cells] at r0 r1 r2 r3 r4 s0 s1 s2 s3 s4
      clear q1 q2 hx H1 H2 hne
      have ki : (k : Int) < (P.length : Int) := by omega
      go_wp2_with fail
      go_quiet (fail)
      go_wp2
      go_roundw
      case rel => exact ⟨k + 1, _, by omega, by go_num, rfl⟩
      case measure => simp [intOf]; omega
    · have ki : (P.length : Int) ≤ (k : Int) := by omega
      go_wp2
      go_ret
      exact ⟨rfl, _, rfl⟩
/-- Code, as a value. -/
def cdv (c : Ci) (hv : Value) : Value := .agg #[.int .i64 (c.stack : Int), .int .i64 (c.locals : Int), .string ⟨c.bytes.toArray⟩, hv, .string ⟨c.map.toArray⟩]
set_option maxRecDepth 100000 in
set_option maxHeartbeats 2000000 in
theorem sameCode_eq (c : Ci) (v u : Value) (w : World) (h1 : FIn Hi.cells 4 Hi.zero w v c.handlers) (h2 : FIn Hi.cells 4 Hi.zero w u c.handlers) (hl : c.handlers.length ≤ 1048576) :
    Calls Tryz.prog 18 #[cdv c v, cdv c u] w fun x w' => x = .returned (.bool true) ∧ Below w.heap.size w w' := by
  unfold cdv
  obtain ⟨a1, c1, rfl, hc1⟩ := h1
  obtain ⟨a2, c2, rfl, hc2⟩ := h2
  obtain ⟨wA, hwA⟩ : ∃ wA, wA = (w.alloc (.cells #[.int .i64 (c.stack : Int), .int .i64 (c.locals : Int), .string ⟨c.bytes.toArray⟩, .slice a1 c.handlers.length c1, .string ⟨c.map.toArray⟩] 41)).alloc (.cells #[.int .i64 (c.stack : Int), .int .i64 (c.locals : Int), .string ⟨c.bytes.toArray⟩, .slice a2 c.handlers.length c2, .string ⟨c.map.toArray⟩] 41) := ⟨_, rfl⟩
  have b1 : Below w.heap.size w (w.alloc (.cells #[.int .i64 (c.stack : Int), .int .i64 (c.locals : Int), .string ⟨c.bytes.toArray⟩, .slice a1 c.handlers.length c1, .string ⟨c.map.toArray⟩] 41)) := (Below.refl _ _).alloc (Nat.le_refl _) _
  have b2 : Below w.heap.size w wA := by rw [hwA]; exact b1.alloc b1.size _
  have A1 : Bk wA w.heap.size #[.int .i64 (c.stack : Int), .int .i64 (c.locals : Int), .string ⟨c.bytes.toArray⟩, .slice a1 c.handlers.length c1, .string ⟨c.map.toArray⟩] 41 := by rw [hwA]; exact (Bk.new _ _ _).alloc _
  have A2 : Bk wA (w.heap.size + 1) #[.int .i64 (c.stack : Int), .int .i64 (c.locals : Int), .string ⟨c.bytes.toArray⟩, .slice a2 c.handlers.length c2, .string ⟨c.map.toArray⟩] 41 := by
    rw [hwA]; have := Bk.new (w.alloc (.cells #[.int .i64 (c.stack : Int), .int .i64 (c.locals : Int), .string ⟨c.bytes.toArray⟩, .slice a1 c.handlers.length c1, .string ⟨c.map.toArray⟩] 41)) #[.int .i64 (c.stack : Int), .int .i64 (c.locals : Int), .string ⟨c.bytes.toArray⟩, .slice a2 c.handlers.length c2, .string ⟨c.map.toArray⟩] 41; simpa using this
  have H1 := hide ((FIn.below (f := Hi.cells) (z := 4) (d := Hi.zero) (v := .slice a1 c.handlers.length c1) (l := c.handlers) Hi.len ⟨a1, c1, rfl, hc1⟩ b2))
  have H2 := hide ((FIn.below (f := Hi.cells) (z := 4) (d := Hi.zero) (v := .slice a2 c.handlers.length c2) (l := c.handlers) Hi.len ⟨a2, c2, rfl, hc2⟩ b2))
  have HB := hide b2
  have HwA := hide hwA
  have p0 := A1.cell 0
  have p1 := A1.cell 1
  have p2 := A1.cell 2
  have p3 := A1.cell 3
  have p4 := A1.cell 4
  have q0 := A2.cell 0
  have q1 := A2.cell 1
  have q2 := A2.cell 2
  have q3 := A2.cell 3
  have q4 := A2.cell 4
  simp at p0 p1 p2 p3 p4 q0 q1 q2 q3 q4
  have r1 : (((c.stack : Int) != (c.stack : Int)) : Bool) = false := by simp
  have r2 : (((c.locals : Int) != (c.locals : Int)) : Bool) = false := by simp
  have r3 : (((c.handlers.length : Nat) : Int) != ((c.handlers.length : Nat) : Int)) = false := by simp
  clear hc1 hc2 b1 b2 A1 A2 hwA
  go_enter Tryz.func18, Tryz.ntmps18
  go_upto_region 1 with fail
  rw [← unhide HwA]
  clear HwA
  go_wp2_with fail
  go_loopw [44] (fun i wr => ∃ k n : Nat, k ≤ c.handlers.length ∧ i = .int .i64 k ∧ wr = wA.drewN n) (fun i _ => c.handlers.length - (intOf i).toNat)
  case atStart => exact ⟨0, 0, Nat.zero_le _, rfl, rfl⟩
  case round =>
    obtain ⟨k, n, hk, rfl, rfl⟩ := hrel
    by_cases hlt : k < c.handlers.length
    · have hne : c.handlers ≠ [] := by intro e; rw [e] at hlt; simp at hlt
      obtain ⟨_, _, e1, G1⟩ := unhide H1
      obtain ⟨_, _, e2, G2⟩ := unhide H2
      cases e1
      cases e2
      obtain ⟨b1, o1, rfl, g1⟩ := G1 hne
      obtain ⟨b2, o2, rfl, g2⟩ := G2 hne
      obtain ⟨x, hx⟩ : ∃ x, x = c.handlers.getD k Hi.zero := ⟨_, rfl⟩
      have s0 := g1 k hlt 0 (by omega)
      have s1 := g1 k hlt 1 (by omega)
      have s2 := g1 k hlt 2 (by omega)
      have s3 := g1 k hlt 3 (by omega)
      have t0 := g2 k hlt 0 (by omega)
      have t1 := g2 k hlt 1 (by omega)
      have t2 := g2 k hlt 2 (by omega)
      have t3 := g2 k hlt 3 (by omega)
      rw [← hx] at s0 s1 s2 s3 t0 t1 t2 t3
      simp [Hi.cells] at s0 s1 s2 s3 t0 t1 t2 t3
      clear g1 g2 hx H1 H2 hne HB G1 G2
      have ki : (k : Int) < (c.handlers.length : Int) := by omega
      go_wp2_with fail
      go_quiet (fail)
      go_wp2
      go_roundw
      case rel => exact ⟨k + 1, _, by omega, by go_num, rfl⟩
      case measure => simp [intOf]; omega
    · have ki : (c.handlers.length : Int) ≤ (k : Int) := by omega
      go_wp2
      go_ret
      exact ⟨rfl, (unhide HB).os, (unhide HB).tape, (unhide HB).output, (unhide HB).size, (unhide HB).block⟩
structure ClsB (c : Csi) : Prop where
  p : c.pool.length ≤ 1048576
  i : c.ifaces.length ≤ 1048576
  f : c.fields.length ≤ 1048576
  m : c.methods.length ≤ 1048576
  h : ∀ x ∈ c.methods, x.code.handlers.length ≤ 1048576
/-- A class as a value. -/
def clvv (c : Csi) (vp vi vf vm : Value) : Value := .agg #[.int .u16 (c.minor : Int), .int .u16 (c.major : Int), .int .u16 (c.flags : Int), .int .u16 (c.this : Int), .int .u16 (c.super : Int), vp, vi, vf, vm]
set_option maxRecDepth 1000000 in
set_option maxHeartbeats 4000000 in
theorem sameClass_eq (c : Csi) (vp vi vf vm vp' vi' vf' vm' : Value) (L L' : List Mv) (w : World) (h1 : Cin w c vp vi vf vm L) (h2 : Cin w c vp' vi' vf' vm' L') (hb : ClsB c) :
    Calls Tryz.prog 8 #[clvv c vp vi vf vm, clvv c vp' vi' vf' vm'] w fun x w' => x = .returned (.bool true) ∧ Below w.heap.size w w' := by
  unfold clvv
  obtain ⟨pa, pc, rfl, _⟩ := h1.p.ex
  obtain ⟨ia, ic, rfl, _⟩ := h1.i
  obtain ⟨fa, fc, rfl, _⟩ := h1.f
  obtain ⟨ma, mc, rfl, _⟩ := h1.m
  obtain ⟨pa', pc', rfl, _⟩ := h2.p.ex
  obtain ⟨ia', ic', rfl, _⟩ := h2.i
  obtain ⟨fa', fc', rfl, _⟩ := h2.f
  obtain ⟨ma', mc', rfl, _⟩ := h2.m
  have hLL : L'.length = L.length := by have := congrArg List.length (h2.e.trans h1.e.symm); simpa using this
  have hLm : L.length ≤ 1048576 := by have := congrArg List.length h1.e; have := hb.m; simp at *; omega
  obtain ⟨wA, hwA⟩ : ∃ wA, wA = (w.alloc (.cells #[.int .u16 (c.minor : Int), .int .u16 (c.major : Int), .int .u16 (c.flags : Int), .int .u16 (c.this : Int), .int .u16 (c.super : Int), .slice pa c.pool.length pc, .slice ia c.ifaces.length ic, .slice fa c.fields.length fc, .slice ma L.length mc] 28)).alloc (.cells #[.int .u16 (c.minor : Int), .int .u16 (c.major : Int), .int .u16 (c.flags : Int), .int .u16 (c.this : Int), .int .u16 (c.super : Int), .slice pa' c.pool.length pc', .slice ia' c.ifaces.length ic', .slice fa' c.fields.length fc', .slice ma' L'.length mc'] 28) := ⟨_, rfl⟩
  have b1 : Below w.heap.size w (w.alloc (.cells #[.int .u16 (c.minor : Int), .int .u16 (c.major : Int), .int .u16 (c.flags : Int), .int .u16 (c.this : Int), .int .u16 (c.super : Int), .slice pa c.pool.length pc, .slice ia c.ifaces.length ic, .slice fa c.fields.length fc, .slice ma L.length mc] 28)) := (Below.refl _ _).alloc (Nat.le_refl _) _
  have b2 : Below w.heap.size w wA := by rw [hwA]; exact b1.alloc b1.size _
  have HA1 : Hid (Bk wA w.heap.size #[.int .u16 (c.minor : Int), .int .u16 (c.major : Int), .int .u16 (c.flags : Int), .int .u16 (c.this : Int), .int .u16 (c.super : Int), .slice pa c.pool.length pc, .slice ia c.ifaces.length ic, .slice fa c.fields.length fc, .slice ma L.length mc] 28) := by rw [hwA]; exact (Bk.new _ _ _).alloc _
  have hA2 : Bk wA (w.heap.size + 1) #[.int .u16 (c.minor : Int), .int .u16 (c.major : Int), .int .u16 (c.flags : Int), .int .u16 (c.this : Int), .int .u16 (c.super : Int), .slice pa' c.pool.length pc', .slice ia' c.ifaces.length ic', .slice fa' c.fields.length fc', .slice ma' L'.length mc'] 28 := by
    rw [hwA]; have := Bk.new (w.alloc (.cells #[.int .u16 (c.minor : Int), .int .u16 (c.major : Int), .int .u16 (c.flags : Int), .int .u16 (c.this : Int), .int .u16 (c.super : Int), .slice pa c.pool.length pc, .slice ia c.ifaces.length ic, .slice fa c.fields.length fc, .slice ma L.length mc] 28)) #[.int .u16 (c.minor : Int), .int .u16 (c.major : Int), .int .u16 (c.flags : Int), .int .u16 (c.this : Int), .int .u16 (c.super : Int), .slice pa' c.pool.length pc', .slice ia' c.ifaces.length ic', .slice fa' c.fields.length fc', .slice ma' L'.length mc'] 28; simpa using this
  have HA2 := hide hA2
  clear hA2
  have H1 := hide (h1.below b2)
  have H2 := hide (h2.below b2)
  have HB := hide b2
  have HwA := hide hwA
  have Hbd := hide hb
  have HLL := hide hLL
  have p0 := (unhide HA1).cell 0
  have q0 := (unhide HA2).cell 0
  have p1 := (unhide HA1).cell 1
  have q1 := (unhide HA2).cell 1
  have p2 := (unhide HA1).cell 2
  have q2 := (unhide HA2).cell 2
  have p3 := (unhide HA1).cell 3
  have q3 := (unhide HA2).cell 3
  have p4 := (unhide HA1).cell 4
  have q4 := (unhide HA2).cell 4
  have p5 := (unhide HA1).cell 5
  have q5 := (unhide HA2).cell 5
  have p6 := (unhide HA1).cell 6
  have q6 := (unhide HA2).cell 6
  have p7 := (unhide HA1).cell 7
  have q7 := (unhide HA2).cell 7
  have p8 := (unhide HA1).cell 8
  have q8 := (unhide HA2).cell 8
  simp at p0 q0 p1 q1 p2 q2 p3 q3 p4 q4 p5 q5 p6 q6 p7 q7 p8 q8
  rw [hLL] at q8
  have r0 : (((c.minor : Int) != (c.minor : Int)) : Bool) = false := by simp
  have r1 : (((c.major : Int) != (c.major : Int)) : Bool) = false := by simp
  have r2 : (((c.flags : Int) != (c.flags : Int)) : Bool) = false := by simp
  have r3 : (((c.this : Int) != (c.this : Int)) : Bool) = false := by simp
  have r4 : (((c.super : Int) != (c.super : Int)) : Bool) = false := by simp
  have e0 : ((((c.pool.length : Nat) : Int) != ((c.pool.length : Nat) : Int)) : Bool) = false := by simp
  have e1 : ((((c.ifaces.length : Nat) : Int) != ((c.ifaces.length : Nat) : Int)) : Bool) = false := by simp
  have e2 : ((((c.fields.length : Nat) : Int) != ((c.fields.length : Nat) : Int)) : Bool) = false := by simp
  have e3 : ((((L.length : Nat) : Int) != ((L.length : Nat) : Int)) : Bool) = false := by simp
  have HSP := hide (samePoolG_eq _ _ c.pool wA (unhide H1).p (unhide H2).p (by have := hb.p; omega))
  clear h1 h2 hb b1 b2 hwA hLL
  go_enter Tryz.func8, Tryz.ntmps8
  go_upto_region 1 with fail
  rw [← unhide HwA]
  clear HwA
  go_wp2_with fail
  refine (unhide HSP).mono ?_
  rintro e wP ⟨rfl, np, hwP⟩
  have HBP : Hid (Below wA.heap.size wA wP) := by rw [hwP]; exact ⟨rfl, rfl, rfl, Nat.le_refl _, fun _ _ => rfl⟩
  clear HSP hwP p0 q0 p1 q1 p2 q2 p3 q3 p4 q4 p5 q5 p6 q6 p7 q7 p8 q8 r0 r1 r2 r3 r4 e0 e1 e2 e3
  have p6 := ((unhide HA1).kept (grown_of_below (unhide HBP) none) (by simp)).cell 6
  simp at p6
  go_wp2_with fail
  go_loopw [88] (fun i wr => ∃ k : Nat, k ≤ c.ifaces.length ∧ i = .int .i64 k ∧ Hid (Below wA.heap.size wA wr)) (fun i _ => c.ifaces.length - (intOf i).toNat)
  case atStart => exact ⟨0, Nat.zero_le _, rfl, HBP⟩
  case round =>
    clear p6
    obtain ⟨k, hk, rfl, HW⟩ := hrel
    have A1 := (unhide HA1).kept (grown_of_below (unhide HW) none) (by simp)
    have A2 := (unhide HA2).kept (grown_of_below (unhide HW) none) (by simp)
    by_cases hlt : k < c.ifaces.length
    · have hne : c.ifaces ≠ [] := by intro e; rw [e] at hlt; simp at hlt
      obtain ⟨_, _, x1, G1⟩ := ((unhide H1).below (unhide HW)).i
      obtain ⟨_, _, x2, G2⟩ := ((unhide H2).below (unhide HW)).i
      cases x1
      cases x2
      obtain ⟨b1, o1, rfl, g1⟩ := G1 hne
      obtain ⟨b2, o2, rfl, g2⟩ := G2 hne
      obtain ⟨x, hx⟩ : ∃ x, x = c.ifaces.getD k (0 : Nat) := ⟨_, rfl⟩
      have s0 := g1 k hlt 0 (by omega)
      have t0 := g2 k hlt 0 (by omega)
      rw [← hx] at s0 t0
      simp [Uc] at s0 t0
      have p6 := A1.cell 6
      have q6 := A2.cell 6
      simp at p6 q6
      clear g1 g2 hx hne G1 G2 A1 A2
      have ki : (k : Int) < (c.ifaces.length : Int) := by omega
      have kb : c.ifaces.length ≤ 1048576 := (unhide Hbd).i
      go_wp2_with fail
      go_quiet (fail)
      go_wp2
      go_roundw
      case rel => exact ⟨k + 1, by omega, by go_num, ⟨(unhide HW).os, (unhide HW).tape, (unhide HW).output, (unhide HW).size, (unhide HW).block⟩⟩
      case measure => simp [intOf]; omega
    · have ki : (c.ifaces.length : Int) ≤ (k : Int) := by omega
      have p7 := A1.cell 7
      simp at p7
      clear A1 A2
      go_wp2_with fail
      go_loopw [106] (fun i wr => ∃ k : Nat, k ≤ c.fields.length ∧ i = .int .i64 k ∧ Hid (Below wA.heap.size wA wr)) (fun i _ => c.fields.length - (intOf i).toNat)
      case atStart => exact ⟨0, Nat.zero_le _, rfl, HW⟩
      case round =>
        clear p7 HW ki hk
        obtain ⟨k, hk, rfl, HW⟩ := hrel
        have A1 := (unhide HA1).kept (grown_of_below (unhide HW) none) (by simp)
        have A2 := (unhide HA2).kept (grown_of_below (unhide HW) none) (by simp)
        by_cases hlt : k < c.fields.length
        · have hne : c.fields ≠ [] := by intro e; rw [e] at hlt; simp at hlt
          obtain ⟨_, _, x1, G1⟩ := ((unhide H1).below (unhide HW)).f
          obtain ⟨_, _, x2, G2⟩ := ((unhide H2).below (unhide HW)).f
          cases x1
          cases x2
          obtain ⟨b1, o1, rfl, g1⟩ := G1 hne
          obtain ⟨b2, o2, rfl, g2⟩ := G2 hne
          obtain ⟨x, hx⟩ : ∃ x, x = c.fields.getD k Fz := ⟨_, rfl⟩
          have s0 := g1 k hlt 0 (by omega)
          have t0 := g2 k hlt 0 (by omega)
          have s1 := g1 k hlt 1 (by omega)
          have t1 := g2 k hlt 1 (by omega)
          have s2 := g1 k hlt 2 (by omega)
          have t2 := g2 k hlt 2 (by omega)
          have s3 := g1 k hlt 3 (by omega)
          have t3 := g2 k hlt 3 (by omega)
          rw [← hx] at s0 t0 s1 t1 s2 t2 s3 t3
          simp [Fc] at s0 t0 s1 t1 s2 t2 s3 t3
          have p7 := A1.cell 7
          have q7 := A2.cell 7
          simp at p7 q7
          clear g1 g2 hx hne G1 G2 A1 A2
          have ki : (k : Int) < (c.fields.length : Int) := by omega
          have kb : c.fields.length ≤ 1048576 := (unhide Hbd).f
          go_wp2_with fail
          go_quiet (fail)
          go_wp2
          go_roundw
          case rel => exact ⟨k + 1, by omega, by go_num, ⟨(unhide HW).os, (unhide HW).tape, (unhide HW).output, (unhide HW).size, (unhide HW).block⟩⟩
          case measure => simp [intOf]; omega
        · have ki : (c.fields.length : Int) ≤ (k : Int) := by omega
          have p8 := A1.cell 8
          simp at p8
          clear A1 A2
          go_wp2_with fail
          go_loopw [124] (fun i wr => ∃ k : Nat, k ≤ L.length ∧ i = .int .i64 k ∧ Hid (Below wA.heap.size wA wr)) (fun i _ => L.length - (intOf i).toNat)
          case atStart => exact ⟨0, Nat.zero_le _, rfl, HW⟩
          case round =>
            clear p8 HW ki hk
            obtain ⟨k, hk, rfl, HW⟩ := hrel
            have A1 := (unhide HA1).kept (grown_of_below (unhide HW) none) (by simp)
            have A2 := (unhide HA2).kept (grown_of_below (unhide HW) none) (by simp)
            have hz1 := A2.lt
            by_cases hlt : k < L.length
            · have hlt2 : k < L'.length := by rw [unhide HLL]; exact hlt
              have hne : L ≠ [] := by intro e; rw [e] at hlt; simp at hlt
              have hne2 : L' ≠ [] := by intro e; rw [e] at hlt2; simp at hlt2
              have K1 := (unhide H1).below (unhide HW)
              have K2 := (unhide H2).below (unhide HW)
              obtain ⟨_, _, x1, G1⟩ := K1.m
              obtain ⟨_, _, x2, G2⟩ := K2.m
              cases x1
              cases x2
              obtain ⟨b1, o1, rfl, g1⟩ := G1 hne
              obtain ⟨b2, o2, rfl, g2⟩ := G2 hne2
              have hx1 : L.getD k Mv.zero = L[k] := by simp [List.getD, hlt]
              have hx2 : L'.getD k Mv.zero = L'[k] := by simp [List.getD, hlt2]
              have hmm : (L'[k]).m = (L[k]).m := by
                have := congrArg (fun l => l[k]?) ((unhide H2).e.trans (unhide H1).e.symm)
                simpa [hlt, hlt2] using this
              have J1 := K1.h _ (List.getElem_mem hlt)
              have J2 := K2.h _ (List.getElem_mem hlt2)
              have hbh : (L[k]).m.code.handlers.length ≤ 1048576 := (unhide Hbd).h _ (by rw [← (unhide H1).e]; exact List.mem_map_of_mem (List.getElem_mem hlt))
              rw [hmm] at J2
              have s0 := g1 k hlt 0 (by omega)
              have t0 := g2 k hlt2 0 (by omega)
              have s1 := g1 k hlt 1 (by omega)
              have t1 := g2 k hlt2 1 (by omega)
              have s2 := g1 k hlt 2 (by omega)
              have t2 := g2 k hlt2 2 (by omega)
              have s3 := g1 k hlt 3 (by omega)
              have t3 := g2 k hlt2 3 (by omega)
              have s4 := g1 k hlt 4 (by omega)
              have t4 := g2 k hlt2 4 (by omega)
              have s5 := g1 k hlt 5 (by omega)
              have t5 := g2 k hlt2 5 (by omega)
              have s6 := g1 k hlt 6 (by omega)
              have t6 := g2 k hlt2 6 (by omega)
              have s7 := g1 k hlt 7 (by omega)
              have t7 := g2 k hlt2 7 (by omega)
              have s8 := g1 k hlt 8 (by omega)
              have t8 := g2 k hlt2 8 (by omega)
              rw [hx1] at s0 s1 s2 s3 s4 s5 s6 s7 s8
              rw [hx2] at t0 t1 t2 t3 t4 t5 t6 t7 t8
              simp [Mv.cells] at s0 s1 s2 s3 s4 s5 s6 s7 s8 t0 t1 t2 t3 t4 t5 t6 t7 t8
              rw [hmm] at t0 t1 t2 t3 t4 t5 t6 t8
              generalize (L[k]).m = x at *
              generalize (L[k]).hv = v at *
              generalize (L'[k]).hv = v' at *
              have lt1 := cell_lt s0
              have lt2 := cell_lt t0
              simp only at lt1 lt2
              have p8 := A1.cell 8
              have q8 := A2.cell 8
              simp at p8 q8
              rw [unhide HLL] at q8
              clear g1 g2 hne hne2 G1 G2 A1 hx1 hx2 hmm K1 K2
              have nb1 : ¬ wr.heap.size = b1 := by omega
              have nb2 : ¬ wr.heap.size = b2 := by omega
              have nb3 : ¬ b1 = wr.heap.size := by omega
              have nb4 : ¬ b2 = wr.heap.size := by omega
              have nb5 : ¬ w.heap.size + 1 = wr.heap.size := by omega
              have nb6 : ¬ wr.heap.size = w.heap.size + 1 := by omega
              have hbX : Below wr.heap.size wr ((wr.alloc (.cells #[.int .u16 (x.flags : Int), .int .u16 (x.name : Int), .int .u16 (x.type_ : Int), .bool x.has, .int .i64 (x.code.stack : Int), .int .i64 (x.code.locals : Int), .string ⟨x.code.bytes.toArray⟩, v, .string ⟨x.code.map.toArray⟩] 43)).alloc (.cells #[.int .u16 (x.flags : Int), .int .u16 (x.name : Int), .int .u16 (x.type_ : Int), .bool x.has, .int .i64 (x.code.stack : Int), .int .i64 (x.code.locals : Int), .string ⟨x.code.bytes.toArray⟩, v', .string ⟨x.code.map.toArray⟩] 43)) := by
                have h1 : Below wr.heap.size wr (wr.alloc (.cells #[.int .u16 (x.flags : Int), .int .u16 (x.name : Int), .int .u16 (x.type_ : Int), .bool x.has, .int .i64 (x.code.stack : Int), .int .i64 (x.code.locals : Int), .string ⟨x.code.bytes.toArray⟩, v, .string ⟨x.code.map.toArray⟩] 43)) := (Below.refl _ _).alloc (Nat.le_refl _) _
                exact h1.alloc h1.size _
              have HSC := hide (sameCode_eq x.code v v' _ (J1.below Hi.len hbX) (J2.below Hi.len hbX) hbh)
              unfold cdv at HSC
              have HBX : Hid (Below wA.heap.size wA ((wr.alloc (.cells #[.int .u16 (x.flags : Int), .int .u16 (x.name : Int), .int .u16 (x.type_ : Int), .bool x.has, .int .i64 (x.code.stack : Int), .int .i64 (x.code.locals : Int), .string ⟨x.code.bytes.toArray⟩, v, .string ⟨x.code.map.toArray⟩] 43)).alloc (.cells #[.int .u16 (x.flags : Int), .int .u16 (x.name : Int), .int .u16 (x.type_ : Int), .bool x.has, .int .i64 (x.code.stack : Int), .int .i64 (x.code.locals : Int), .string ⟨x.code.bytes.toArray⟩, v', .string ⟨x.code.map.toArray⟩] 43))) := (unhide HW).trans (hbX.mono (unhide HW).size)
              obtain ⟨va, vc, ev, _⟩ := J1
              obtain ⟨va', vc', ev', _⟩ := J2
              subst ev ev'
              clear A2 hbX
              have ki : (k : Int) < (L.length : Int) := by omega
              have m0 : (((x.flags : Int) != (x.flags : Int)) : Bool) = false := by simp
              have m1 : (((x.name : Int) != (x.name : Int)) : Bool) = false := by simp
              have m2 : (((x.type_ : Int) != (x.type_ : Int)) : Bool) = false := by simp
              have m3 : ((x.has != x.has) : Bool) = false := by simp
              go_wp2_with fail
              refine (unhide HSC).mono ?_
              rintro e wS ⟨rfl, hbS⟩
              have HBS : Hid (Below wA.heap.size wA wS) := (unhide HBX).trans (hbS.mono (unhide HBX).size)
              clear HSC HBX hbS s0 s1 s2 s3 s4 s5 s6 s7 s8 t0 t1 t2 t3 t4 t5 t6 t7 t8 p8 q8
              go_wp2
              go_roundw
              case rel => exact ⟨k + 1, by omega, by go_num, HBS⟩
              case measure => simp [intOf]; omega
            · have ki : (L.length : Int) ≤ (k : Int) := by omega
              have HE : Hid (Below w.heap.size w wr) := (unhide HB).trans ((unhide HW).mono (unhide HB).size)
              clear A1 A2 hz1
              go_wp2
              go_ret
              exact ⟨rfl, unhide HE⟩
section
variable {w0 w w' : World} {W Kb Pb : Nat} {pv : Value} {P : List K} {l : List UInt8}
end
def clv (c : Csi) (vp vi vf vm : Value) : Value := .agg #[.int .u16 (c.minor : Int), .int .u16 (c.major : Int), .int .u16 (c.flags : Int), .int .u16 (c.this : Int), .int .u16 (c.super : Int), vp, vi, vf, vm]
theorem sum_step {α : Type} (f : α → Nat) (l : List α) (d : α) {k : Nat} (hk : k < l.length) : ((l.take (k + 1)).map f).sum = ((l.take k).map f).sum + f (l.getD k d) := by
  rw [List.take_add_one, List.getElem?_eq_getElem hk]
  simp only [Option.toList_some, List.map_append, List.map_cons, List.map_nil, List.sum_append, List.sum_cons, List.sum_nil, Nat.add_zero, List.getD, List.getElem?_eq_getElem hk, Option.getD_some]
theorem sum_le {α : Type} (f : α → Nat) (l : List α) (k : Nat) : ((l.take k).map f).sum ≤ (l.map f).sum := by
  induction l generalizing k with
  | nil => simp
  | cons x l ih =>
    cases k with
    | zero => simp
    | succ k => simp only [List.take_succ_cons, List.map_cons, List.sum_cons]; have := ih k; omega
def ksz (c : K) : Nat := c.text.length
def msz (m : Mi) : Nat := m.code.bytes.length + m.code.map.length + m.code.handlers.length
/-- How great a class is, as the statement reckons. -/
def Csi.size (c : Csi) : Nat := c.pool.length + c.ifaces.length + c.fields.length + c.methods.length + (c.pool.map ksz).sum + (c.methods.map msz).sum
set_option maxRecDepth 100000 in
set_option maxHeartbeats 4000000 in
theorem size_any (c : Csi) (vp vi vf vm : Value) (L : List Mv) (w : World) (hC : Cin w c vp vi vf vm L) (hs : c.size ≤ 4000000) :
    Calls Tryz.prog 4 #[clv c vp vi vf vm] w fun r w' => r = .returned (.int .i64 (c.size : Int)) ∧ Below w.heap.size w w' := by
  unfold clv
  have HC := hide hC
  obtain ⟨pa, pc, rfl, _⟩ := hC.p.ex
  obtain ⟨ia, ic, rfl, _⟩ := hC.i
  obtain ⟨fa, fc, rfl, _⟩ := hC.f
  obtain ⟨ma, mc, rfl, _⟩ := hC.m
  have hLl : L.length = c.methods.length := by have := congrArg List.length hC.e; simpa using this
  have hsz : c.size = c.pool.length + c.ifaces.length + c.fields.length + c.methods.length + (c.pool.map ksz).sum + (c.methods.map msz).sum := rfl
  obtain ⟨A0, hA0⟩ : ∃ A, A = c.pool.length + c.ifaces.length + c.fields.length + c.methods.length := ⟨_, rfl⟩
  have HA0 : Hid ((c.pool.length : Int) + (c.ifaces.length : Int) + (c.fields.length : Int) + (L.length : Int) = (A0 : Int)) := by unfold Hid; rw [hA0, hLl]; omega
  have Hsz : Hid (c.size = A0 + (c.pool.map ksz).sum + (c.methods.map msz).sum) := by unfold Hid; rw [hsz, hA0]
  have hb1 : c.pool.length ≤ 4000000 := by omega
  have hb2 : c.ifaces.length ≤ 4000000 := by omega
  have hb3 : c.fields.length ≤ 4000000 := by omega
  have hb4 : L.length ≤ 4000000 := by omega
  have hb5 : A0 + (c.pool.map ksz).sum + (c.methods.map msz).sum ≤ 4000000 := by omega
  obtain ⟨wA, hwA⟩ : ∃ wA, wA = w.alloc (.cells #[.int .u16 (c.minor : Int), .int .u16 (c.major : Int), .int .u16 (c.flags : Int), .int .u16 (c.this : Int), .int .u16 (c.super : Int), .slice pa c.pool.length pc, .slice ia c.ifaces.length ic, .slice fa c.fields.length fc, .slice ma L.length mc] 28) := ⟨_, rfl⟩
  have hbA : Below w.heap.size w wA := by rw [hwA]; exact (Below.refl _ _).alloc (Nat.le_refl _) _
  have b0 : Bk wA w.heap.size #[.int .u16 (c.minor : Int), .int .u16 (c.major : Int), .int .u16 (c.flags : Int), .int .u16 (c.this : Int), .int .u16 (c.super : Int), .slice pa c.pool.length pc, .slice ia c.ifaces.length ic, .slice fa c.fields.length fc, .slice ma L.length mc] 28 := by rw [hwA]; exact Bk.new w _ _
  have c5 := b0.cell 5
  have c6 := b0.cell 6
  have c7 := b0.cell 7
  have c8 := b0.cell 8
  simp at c5 c6 c7 c8
  have HA := hide hwA
  have HB := hide b0
  have HBl := hide hbA
  have HLl := hide hLl
  clear hwA b0 hbA hC hsz hA0 hLl hs
  go_enter Tryz.func4, Tryz.ntmps4
  go_upto_region 1 with fail
  rw [← unhide HA]
  clear HA
  go_wp2_with fail
  rw [unhide HA0]
  clear c5 c6 c7 c8
  go_loopw [3, 26] (fun v i wr => ∃ k : Nat, k ≤ c.pool.length ∧ i = .int .i64 k ∧ v = .int .i64 ((A0 + ((c.pool.take k).map ksz).sum : Nat) : Int) ∧ Hid (Below wA.heap.size wA wr)) (fun _ i _ => c.pool.length - (intOf i).toNat)
  case atStart => exact ⟨0, Nat.zero_le _, rfl, by simp, Below.refl _ _⟩
  case round =>
    obtain ⟨k, hk, rfl, rfl, HW⟩ := hrel
    by_cases hlt : k < c.pool.length
    · have ki : (k : Int) < (c.pool.length : Int) := by omega
      have hp := ((unhide HC).p.below (unhide HBl)).below (unhide HW)
      obtain ⟨b, o, cap, ev⟩ := hp.form (by intro e; rw [e] at hlt; simp at hlt)
      cases ev
      obtain ⟨r0, r1, r2, r3, r4⟩ := hp.at hlt
      have hst := sum_step ksz c.pool K.zero hlt
      have hle := sum_le ksz c.pool (k + 1)
      obtain ⟨x, hx⟩ : ∃ x, x = c.pool.getD k K.zero := ⟨_, rfl⟩
      rw [← hx] at r0 r1 r2 r3 r4 hst
      have hxz : ksz x = x.text.length := rfl
      rw [hxz] at hst
      obtain ⟨S, hS⟩ : ∃ S, S = ((c.pool.take k).map ksz).sum := ⟨_, rfl⟩
      rw [← hS] at hst
      rw [← hS]
      have hxl : x.text.length ≤ 4000000 := by omega
      have hSl : S + x.text.length ≤ 4000000 := by omega
      have hAS : A0 + S + x.text.length ≤ 4000000 := by omega
      have Hst := hide hst
      have hbB := (unhide HW).alloc (unhide HW).size (.cells #[.int .u8 (x.tag : Int), .string ⟨x.text.toArray⟩, .int .u64 (x.bits : Int), .int .u16 (x.a : Int), .int .u16 (x.b : Int)] 38)
      have HbB := hide hbB
      clear hst hle hx hxz hp hS hbB
      go_wp2
      go_roundw
      case rel => exact ⟨k + 1, by omega, by go_num, by rw [unhide Hst]; first | rfl | (congr 1; omega) | (simp; omega), unhide HbB⟩
      case measure => simp [intOf]; omega
    · have hkl : k = c.pool.length := by omega
      subst hkl
      have ki : ¬ ((c.pool.length : Nat) : Int) < ((c.pool.length : Nat) : Int) := by omega
      rw [List.take_length]
      obtain ⟨A1, hA1⟩ : ∃ A, A = A0 + (c.pool.map ksz).sum := ⟨_, rfl⟩
      rw [← hA1] at hb5 Hsz
      rw [← hA1]
      have hBr : Below w.heap.size w wr := (unhide HBl).trans ((unhide HW).mono (unhide HBl).size)
      have c8 := ((unhide HB).below (unhide HW)).cell 8
      simp at c8
      have HBr := hide hBr
      generalize hwr : wr = wr1 at *
      clear hwr hA1 hBr
      go_wp2_with fail
      clear c8
      go_loopw [3, 39] (fun v i wr => ∃ k : Nat, k ≤ L.length ∧ i = .int .i64 k ∧ v = .int .i64 ((A1 + ((c.methods.take k).map msz).sum : Nat) : Int) ∧ Hid (Below wr1.heap.size wr1 wr)) (fun _ i _ => L.length - (intOf i).toNat)
      case atStart => exact ⟨0, Nat.zero_le _, rfl, by simp, Below.refl _ _⟩
      case round =>
        clear HW
        obtain ⟨k, hk2, rfl, rfl, HW⟩ := hrel
        have hbr := (unhide HBr).trans ((unhide HW).mono (unhide HBr).size)
        by_cases hlt2 : k < L.length
        · have ki2 : (k : Int) < (L.length : Int) := by omega
          have hkm : k < c.methods.length := by rw [← unhide HLl]; exact hlt2
          have hne : L ≠ [] := by intro e; rw [e] at hlt2; simp at hlt2
          have hCr := (unhide HC).below hbr
          obtain ⟨_, _, x1, G1⟩ := hCr.m
          cases x1
          obtain ⟨g1, o1', rfl, g2⟩ := G1 hne
          obtain ⟨x, hx⟩ : ∃ x, x = L.getD k Mv.zero := ⟨_, rfl⟩
          have hxm : x ∈ L := by rw [hx]; simp [List.getD, List.getElem?_eq_getElem hlt2]
          have hxh := (unhide HC).h x hxm
          have s0 := g2 k hlt2 0 (by omega)
          have s1 := g2 k hlt2 1 (by omega)
          have s2 := g2 k hlt2 2 (by omega)
          have s3 := g2 k hlt2 3 (by omega)
          have s4 := g2 k hlt2 4 (by omega)
          have s5 := g2 k hlt2 5 (by omega)
          have s6 := g2 k hlt2 6 (by omega)
          have s7 := g2 k hlt2 7 (by omega)
          have s8 := g2 k hlt2 8 (by omega)
          rw [← hx] at s0 s1 s2 s3 s4 s5 s6 s7 s8
          simp [Mv.cells] at s0 s1 s2 s3 s4 s5 s6 s7 s8
          have hgx : c.methods.getD k Mv.zero.m = x.m := by
            rw [hx]
            simp only [List.getD, List.getElem?_eq_getElem hlt2, List.getElem?_eq_getElem hkm, Option.getD_some]
            simp only [← (unhide HC).e, List.getElem_map]
          have hst := sum_step msz c.methods Mv.zero.m hkm
          have hle := sum_le msz c.methods (k + 1)
          rw [hgx] at hst
          obtain ⟨ya, yc, ey, _⟩ := id hxh
          rw [ey] at s7
          have hxz : msz x.m = x.m.code.bytes.length + x.m.code.map.length + x.m.code.handlers.length := rfl
          rw [hxz] at hst
          obtain ⟨S, hS⟩ : ∃ S, S = ((c.methods.take k).map msz).sum := ⟨_, rfl⟩
          rw [← hS] at hst
          rw [← hS]
          have x1l : x.m.code.bytes.length ≤ 4000000 := by omega
          have x2l : x.m.code.map.length ≤ 4000000 := by omega
          have x3l : x.m.code.handlers.length ≤ 4000000 := by omega
          have hAS : A1 + S + (x.m.code.bytes.length + x.m.code.map.length + x.m.code.handlers.length) ≤ 4000000 := by omega
          have Hst := hide hst
          have hbB := (unhide HW).alloc (unhide HW).size (.cells #[.int .u16 (x.m.flags : Int), .int .u16 (x.m.name : Int), .int .u16 (x.m.type_ : Int), .bool x.m.has, .int .i64 x.m.code.stack, .int .i64 x.m.code.locals, .string ⟨x.m.code.bytes.toArray⟩, .slice ya x.m.code.handlers.length yc, .string ⟨x.m.code.map.toArray⟩] 43)
          have HbB := hide hbB
          clear hst hle hx hxz hCr hS hbB g2 G1 hne hxm hxh hgx ey hbr
          go_wp2
          go_roundw
          case rel => exact ⟨k + 1, by omega, by go_num, by rw [unhide Hst]; first | rfl | (congr 1; omega) | (simp; omega), unhide HbB⟩
          case measure => simp [intOf]; omega
        · have hkl : k = L.length := by omega
          subst hkl
          have ki2 : ¬ ((L.length : Nat) : Int) < ((L.length : Nat) : Int) := by omega
          have htk : c.methods.take L.length = c.methods := by rw [unhide HLl]; exact List.take_length
          rw [htk]
          clear htk
          go_wp2
          go_ret
          exact ⟨by rw [unhide Hsz]; rfl, hbr⟩
theorem flat_len {α : Type} (f : α → List Value) (z : Nat) (hf : ∀ x, (f x).length = z) (l : List α) : (l.flatMap f).length = l.length * z := by
  induction l with
  | nil => simp
  | cons x l ih => rw [List.flatMap_cons, List.length_append, hf, ih, List.length_cons, Nat.succ_mul]; omega
/-- append(nil, l...): a copy of whatever can be read. -/
theorem run_copyF {α : Type} (f : α → List Value) (z : Nat) (d : α) (t ty e : TypeId) (i : TypeInfo) (zv : Value) (bytes : Nat) (ht : Tryz.prog.underlying t = some (.slice e)) (hi : Tryz.prog.info? e = some i) (hz : i.zero = some zv) (hsize : i.size = z) (hby : i.bytes = bytes) (hzs : zv.cells.size = z) (hz0 : 0 < z)
    (hf : ∀ x, (f x).length = z) (h1 : ∀ x, ∀ u ∈ f x, u.oneCell' = true) (w : World) (v : Value) (l : List α) (h : FIn f z d w v l) (hl : l.length ≤ 4000000) (hb : bytes ≤ 1000) :
    ∃ v' w', (Builtin.append_ #[t, t] ty #[.slice none 0 0, v]).run Tryz.prog w = .ok v' w' ∧ w'.ownsRow w.heap.size e z v' l.length (l.flatMap f) ∧ Below w.heap.size w w' := by
  obtain ⟨ad, cap, rfl, hc⟩ := h
  by_cases h0 : l = []
  · subst h0
    refine ⟨.slice none 0 0, w, ?_, World.ownsRow_nil _ _ _ _, Below.refl _ _⟩
    cases ad <;> simp [Builtin.append_, run_underlying ht, sizeOf, typeInfo, hi, Builtin.lenOf, Builtin.firstCells, loadCells, loadCellsFrom]
  · obtain ⟨b, o, rfl, hk⟩ := hc h0
    have hbb : l.length * bytes ≤ 4000000 * 1000 := Nat.mul_le_mul hl hb
    obtain ⟨v', w', hr, h2, h3, _⟩ := run_append_own_at (P := Tryz.prog) w w.heap.size t ty e i zv z bytes ht hi hz hsize hby hzs hz0 (.slice none 0 0) 0 [] (World.ownsRow_nil _ _ _ _) ⟨b, o, none⟩ l.length cap (l.flatMap f) (flat_len f z hf l)
      (fun j u hj => by
        rw [Addr.add_lit]
        have hjl : j < l.length * z := by rw [← flat_len f z hf l]; exact (List.getElem?_eq_some_iff.1 hj).1
        have hjk : j / z < l.length := Nat.div_lt_of_lt_mul (by rw [Nat.mul_comm]; exact hjl)
        have hjm : j % z < z := Nat.mod_lt _ hz0
        have hd : j / z * z + j % z = j := by rw [Nat.mul_comm]; exact Nat.div_add_mod j z
        have e1 := flat_at f z hf d l (j / z) (j % z) hjk hjm
        rw [hd] at e1
        have e2 := hk (j / z) hjk (j % z) hjm
        rw [show o + j / z * z + j % z = o + j by omega] at e2
        rw [e2, ← e1]; exact hj)
      (fun u hu => by obtain ⟨x, _, hx⟩ := List.mem_flatMap.1 hu; exact h1 x u hx) (by unfold maxLen; omega) (by simp only [Nat.zero_add]; omega) (Nat.le_refl _)
    rw [Nat.zero_add, List.nil_append] at h2
    exact ⟨v', w', hr, h2, ⟨h3.os, h3.tape, h3.output, h3.size, fun k hk => h3.block k hk (by simp [Value.ownBlock])⟩⟩
theorem KIn_F {w : World} {v : Value} {P : List K} (h : KIn w v P) : FIn K.cells 5 K.zero w v P := h.ex
theorem Kc_len (c : K) : c.cells.length = 5 := rfl
theorem KIn_of {w : World} {v : Value} {P : List K} (hf : ∀ c ∈ P, c.tag < 256 ∧ c.a < 65536 ∧ c.b < 65536) (h : FIn K.cells 5 K.zero w v P) : KIn w v P := ⟨hf, h⟩
theorem one_K (c : K) : ∀ u ∈ c.cells, u.oneCell' = true := by
  intro u h
  simp only [K.cells, List.mem_cons, List.not_mem_nil, or_false] at h
  rcases h with rfl | rfl | rfl | rfl | rfl <;> rfl
theorem one_U (x : Nat) : ∀ u ∈ Uc x, u.oneCell' = true := by
  intro u h
  simp only [Uc, List.mem_cons, List.not_mem_nil, or_false] at h
  subst h; rfl
theorem one_F (x : Fd) : ∀ u ∈ Fc x, u.oneCell' = true := by
  intro u h
  simp only [Fc, List.mem_cons, List.not_mem_nil, or_false] at h
  rcases h with rfl | rfl | rfl | rfl <;> rfl
theorem one_H (x : Hi) : ∀ u ∈ x.cells, u.oneCell' = true := by
  intro u h
  simp only [Hi.cells, List.mem_cons, List.not_mem_nil, or_false] at h
  rcases h with rfl | rfl | rfl | rfl <;> rfl
/-- The cells of a method whose handlers are a slice. -/
def Mc (x : Mi × Option Addr × Nat) : List Value := Mv.cells ⟨x.1, .slice x.2.1 x.1.code.handlers.length x.2.2⟩
theorem Mc_len (x : Mi × Option Addr × Nat) : (Mc x).length = 9 := rfl
theorem one_M (x : Mi × Option Addr × Nat) : ∀ u ∈ Mc x, u.oneCell' = true := by
  intro u h
  simp only [Mc, Mv.cells, List.mem_cons, List.not_mem_nil, or_false] at h
  rcases h with rfl | rfl | rfl | rfl | rfl | rfl | rfl | rfl | rfl <;> rfl
theorem infoK : (Tryz.prog.info? 38).map (fun i => (i.zero, i.size, i.bytes)) = some (some (.agg #[.int .u8 0, .string ⟨#[]⟩, .int .u64 0, .int .u16 0, .int .u16 0]), 5, 40) := by kernel_rfl
theorem infoU : (Tryz.prog.info? 22).map (fun i => (i.zero, i.size, i.bytes)) = some (some (.int .u16 0), 1, 2) := by kernel_rfl
theorem infoF : (Tryz.prog.info? 52).map (fun i => (i.zero, i.size, i.bytes)) = some (some (.agg #[.int .u16 0, .int .u16 0, .int .u16 0, .int .u16 0]), 4, 8) := by kernel_rfl
theorem infoH : (Tryz.prog.info? 98).map (fun i => (i.zero, i.size, i.bytes)) = some (some (.agg #[.int .i64 0, .int .i64 0, .int .i64 0, .int .u16 0]), 4, 32) := by kernel_rfl
theorem infoM : (Tryz.prog.info? 43).map (fun i => (i.zero, i.size, i.bytes)) = some (some (.agg #[.int .u16 0, .int .u16 0, .int .u16 0, .bool false, .int .i64 0, .int .i64 0, .string ⟨#[]⟩, .slice none 0 0, .string ⟨#[]⟩]), 9, 80) := by kernel_rfl
theorem wpList_copyF {α : Type} (f : α → List Value) (z : Nat) (d : α) (t e : TypeId) (zv : Value) (bytes : Nat) (ht : Tryz.prog.underlying t = some (.slice e)) (hinf : (Tryz.prog.info? e).map (fun i => (i.zero, i.size, i.bytes)) = some (some zv, z, bytes)) (hzs : zv.cells.size = z) (hz0 : 0 < z)
    (hf : ∀ x, (f x).length = z) (h1 : ∀ x, ∀ u ∈ f x, u.oneCell' = true) (w : World) {ops : Array Oper} {rest : List Oper} {o : Oper} {a : Act} {Q : Exit → Act → World → Prop} (hgd : o.guard = none) (s x : Operand)
    (ho : o.op = .call { callee := .builtin .append, args := #[s, x], argTypes := #[t, t] })
    (v : Value) (l : List α) (hs : a.eval s = .slice none 0 0) (hx : a.eval x = v) (h : FIn f z d w v l) (hl : l.length ≤ 4000000) (hb : bytes ≤ 1000)
    (hk : ∀ v' w', w'.ownsRow w.heap.size e z v' l.length (l.flatMap f) → Below w.heap.size w w' → wpList Tryz.prog ops Q rest (a.put o.dst v') w') : wpList Tryz.prog ops Q (o :: rest) a w := by
  refine wpList_plain hgd fun K hK => ?_
  obtain ⟨i, hi, hz, hsize, hby⟩ := info_parts hinf
  obtain ⟨v', w', hr, h2, h3⟩ := run_copyF f z d t o.type e i zv bytes ht hi hz hsize hby hzs hz0 hf h1 w v l h hl hb
  unfold Oper.wp execOp
  simp only [ho, resolve, invoke, builtin, Sem.run_bind, Sem.run_pure, Result.andThen_ok, List.map_toArray, List.map_cons, List.map_nil, hs, hx, hr]
  exact hK _ _ (hk v' w' h2 h3)
theorem oper_copyF {α : Type} (f : α → List Value) (z : Nat) (d : α) (t e : TypeId) (zv : Value) (bytes : Nat) (ht : Tryz.prog.underlying t = some (.slice e)) (hinf : (Tryz.prog.info? e).map (fun i => (i.zero, i.size, i.bytes)) = some (some zv, z, bytes)) (hzs : zv.cells.size = z) (hz0 : 0 < z)
    (hf : ∀ x, (f x).length = z) (h1 : ∀ x, ∀ u ∈ f x, u.oneCell' = true) {w : World} {o : Oper} {a : Act} {K : Act → World → Prop} {Q : Exit → Act → World → Prop} (s x : Operand)
    (ho : o.op = .call { callee := .builtin .append, args := #[s, x], argTypes := #[t, t] })
    (v : Value) (l : List α) (hs : a.eval s = .slice none 0 0) (hx : a.eval x = v) (h : FIn f z d w v l) (hl : l.length ≤ 4000000) (hb : bytes ≤ 1000)
    (hk : ∀ v' w', w'.ownsRow w.heap.size e z v' l.length (l.flatMap f) → Below w.heap.size w w' → K (a.put o.dst v') w') : Oper.wp Tryz.prog o a w K Q := by
  obtain ⟨i, hi, hz, hsize, hby⟩ := info_parts hinf
  obtain ⟨v', w', hr, h2, h3⟩ := run_copyF f z d t o.type e i zv bytes ht hi hz hsize hby hzs hz0 hf h1 w v l h hl hb
  unfold Oper.wp execOp
  simp only [ho, resolve, invoke, builtin, Sem.run_bind, Sem.run_pure, Result.andThen_ok, List.map_toArray, List.map_cons, List.map_nil, hs, hx, hr]
  exact hk v' w' h2 h3
/-- A cell of a row of one's own is written. -/
theorem own_set {w : World} {B e z n c g j : Nat} {xs : List Value} {v : Value} (h : w.ownsRow B e z (.slice (some ⟨g, 0, none⟩) n c) n xs) :
    (w.setCell ⟨g, j, none⟩ v).ownsRow B e z (.slice (some ⟨g, 0, none⟩) n c) n (xs.set j v) := by
  rcases h.2 with ⟨h0, _⟩ | ⟨g', cap, cur, h0, h2, h3, h4, h5, h6, h7⟩
  · cases h0
  · cases h0
    have e1 := heap_setCell_same w g j _ e v h3
    refine ⟨by rw [List.length_set]; exact h.1, .inr ⟨g, c, _, rfl, h2, e1, h4, h5, by simpa using h6, ?_⟩⟩
    rw [← h7]
    simp [List.take_set]
theorem flat_set {α : Type} (f : α → List Value) (z : Nat) (hf : ∀ x, (f x).length = z) (l : List α) (k i : Nat) (y d : α) (v : Value) (hk : k < l.length) (hi : i < z) (hy : f y = (f (l.getD k d)).set i v) : (l.flatMap f).set (k * z + i) v = (l.set k y).flatMap f := by
  induction l generalizing k with
  | nil => simp at hk
  | cons x l ih =>
    cases k with
    | zero =>
      rw [Nat.zero_mul, Nat.zero_add, List.flatMap_cons, List.set_append_left _ _ (by rw [hf]; exact hi), List.set_cons_zero, List.flatMap_cons, hy]
      rfl
    | succ k =>
      rw [List.flatMap_cons, List.set_append_right _ _ (by rw [hf]; have : z ≤ (k + 1) * z := Nat.le_mul_of_pos_left z (Nat.succ_pos k); omega), hf, show (k + 1) * z + i - z = k * z + i by rw [Nat.succ_mul]; omega]
      rw [ih k (by simpa using hk) (by simpa using hy), List.set_cons_succ, List.flatMap_cons]
theorem own_slice {w : World} {B e z n : Nat} {v : Value} {xs : List Value} (h : w.ownsRow B e z v n xs) : ∃ ad cp, v = .slice ad n cp := by
  rcases h.2 with ⟨rfl, h0⟩ | ⟨g, cap, cur, rfl, _⟩
  · exact ⟨none, 0, by rw [h0]⟩
  · exact ⟨_, _, rfl⟩
theorem own_base {w : World} {B B' e z n : Nat} {v : Value} {xs : List Value} (h : w.ownsRow B e z v n xs) (hB : B' ≤ B) : w.ownsRow B' e z v n xs := by
  refine ⟨h.1, ?_⟩
  rcases h.2 with h0 | ⟨g, cap, cur, rfl, h1, h2⟩
  · exact .inl h0
  · exact .inr ⟨g, cap, cur, rfl, Nat.le_trans hB h1, h2⟩
theorem own_type {w : World} {B e z n g : Nat} {v : Value} {xs cs : List Value} {t : TypeId} {ar : Array Value} {fz : Nat × Nat} (h : w.ownsRow B e z v n xs) (hg : w.heap[g]? = some (.cells ar t fz)) (ht : e ≠ t) : v.ownBlock ≠ some g := by
  rcases h.2 with ⟨rfl, h0⟩ | ⟨g', cap, cur, rfl, h1, h2, _⟩
  · intro e; cases e
  · intro e
    have : g' = g := by simpa [Value.ownBlock] using e
    subst this
    rw [h2] at hg
    cases hg
    exact ht rfl
/-- A copy of a class, in the making: its methods' first k have handlers of their own. -/
structure An (w wr : World) (c : Csi) (vp vi vf vm : Value) (T0 T : List (Mi × Option Addr × Nat)) (k : Nat) : Prop where
  cb : Bk wr w.heap.size #[.int .u16 (c.minor : Int), .int .u16 (c.major : Int), .int .u16 (c.flags : Int), .int .u16 (c.this : Int), .int .u16 (c.super : Int), vp, vi, vf, vm] 28
  rb : Bk wr (w.heap.size + 1) #[.int .u16 0, .int .u16 0, .int .u16 0, .int .u16 0, .int .u16 0, .slice none 0 0, .slice none 0 0, .slice none 0 0, .slice none 0 0] 28
  p : wr.ownsRow w.heap.size 38 5 vp c.pool.length (c.pool.flatMap K.cells)
  i : wr.ownsRow w.heap.size 22 1 vi c.ifaces.length (c.ifaces.flatMap Uc)
  f : wr.ownsRow w.heap.size 52 4 vf c.fields.length (c.fields.flatMap Fc)
  m : wr.ownsRow w.heap.size 43 9 vm T.length (T.flatMap Mc)
  h : ∀ j, j < k → ∀ x, T[j]? = some x → wr.ownsRow w.heap.size 98 4 (.slice x.2.1 x.1.code.handlers.length x.2.2) x.1.code.handlers.length (x.1.code.handlers.flatMap Hi.cells)
  r : ∀ j, k ≤ j → T[j]? = T0[j]?
  e : T.map Prod.fst = c.methods
  u : Below w.heap.size w wr
theorem An.below {w wr w' : World} {c : Csi} {vp vi vf vm : Value} {T0 T : List (Mi × Option Addr × Nat)} {k : Nat} (h : An w wr c vp vi vf vm T0 T k) (hb : Below wr.heap.size wr w') : An w w' c vp vi vf vm T0 T k :=
  have g := grown_of_below hb none
  ⟨h.cb.below hb, h.rb.below hb, ins_kept h.p g (fun _ e => by cases e), ins_kept h.i g (fun _ e => by cases e), ins_kept h.f g (fun _ e => by cases e), ins_kept h.m g (fun _ e => by cases e), fun j hj x hx => ins_kept (h.h j hj x hx) g (fun _ e => by cases e), h.r, h.e, h.u.trans (hb.mono h.u.size)⟩
theorem An.step {w wr : World} {c : Csi} {vp vi vf : Value} {g mc k : Nat} {T0 T : List (Mi × Option Addr × Nat)} {x : Mi × Option Addr × Nat} {ad : Option Addr} {cp : Nat} (h : An w wr c vp vi vf (.slice (some ⟨g, 0, none⟩) T.length mc) T0 T k) (hk : k < T.length) (hx : T[k]? = some x)
    (ho : wr.ownsRow w.heap.size 98 4 (.slice ad x.1.code.handlers.length cp) x.1.code.handlers.length (x.1.code.handlers.flatMap Hi.cells)) :
    An w (wr.setCell ⟨g, k * 9 + 7, none⟩ (.slice ad x.1.code.handlers.length cp)) c vp vi vf (.slice (some ⟨g, 0, none⟩) (T.set k (x.1, ad, cp)).length mc) T0 (T.set k (x.1, ad, cp)) (k + 1) := by
  have hg : ∃ cur fz, wr.heap[g]? = some (.cells cur 43 fz) := by
    rcases h.m.2 with ⟨h0, _⟩ | ⟨g', cap, cur, h0, h2, h3, _⟩
    · cases h0
    · cases h0; exact ⟨cur, _, h3⟩
  obtain ⟨cur, fz, hgb⟩ := hg
  have hgB : w.heap.size ≤ g := by
    rcases h.m.2 with ⟨h0, _⟩ | ⟨g', cap, cur, h0, h2, h3, _⟩
    · cases h0
    · cases h0; exact h2
  have gs := grown_set wr g (k * 9 + 7) (.slice ad x.1.code.handlers.length cp)
  have nb : ∀ {b : Nat} {cs : Array Value}, Bk wr b cs 28 → some b ≠ some g := fun hb e => by
    cases e
    unfold Bk at hb
    rw [hgb] at hb
    cases hb
  have hfs : (T.flatMap Mc).set (k * 9 + 7) (.slice ad x.1.code.handlers.length cp) = (T.set k (x.1, ad, cp)).flatMap Mc := by
    refine flat_set Mc 9 Mc_len T k 7 (x.1, ad, cp) x _ hk (by decide) ?_
    have : T.getD k x = x := by simp [List.getD, hx]
    rw [this]
    rfl
  have hm := own_set (j := k * 9 + 7) (v := .slice ad x.1.code.handlers.length cp) h.m
  rw [hfs] at hm
  rw [List.length_set]
  refine ⟨h.cb.kept gs (nb h.cb), h.rb.kept gs (nb h.rb), ins_kept h.p gs (fun b e => by cases e; exact own_type (cs := []) h.p hgb (by decide)), ins_kept h.i gs (fun b e => by cases e; exact own_type (cs := []) h.i hgb (by decide)), ins_kept h.f gs (fun b e => by cases e; exact own_type (cs := []) h.f hgb (by decide)), by rw [List.length_set]; exact hm, fun j hj y hy => ?_, fun j hj => ?_, ?_, h.u.setCell (p := ⟨g, k * 9 + 7, none⟩) hgB _⟩
  · by_cases e : j = k
    · subst e
      rw [List.getElem?_set_self hk] at hy
      cases hy
      exact ins_kept ho gs (fun b e => by cases e; exact own_type (cs := []) ho hgb (by decide))
    · rw [List.getElem?_set_ne (fun q => e q.symm)] at hy
      have := h.h j (by omega) y hy
      exact ins_kept this gs (fun b e => by cases e; exact own_type (cs := []) this hgb (by decide))
  · rw [List.getElem?_set_ne (by omega)]; exact h.r j (by omega)
  · rw [← h.e, List.map_set]
    apply List.ext_getElem?
    intro j
    by_cases e : j = k
    · subst e
      rw [List.getElem?_set_self (by simpa using hk), List.getElem?_map, hx]; rfl
    · rw [List.getElem?_set_ne (fun q => e q.symm)]
def adOf : Value → Option Addr
  | .slice a _ _ => a
  | _ => none
def cpOf : Value → Nat
  | .slice _ _ c => c
  | _ => 0
def mtOf (j : Mv) : Mi × Option Addr × Nat := (j.m, adOf j.hv, cpOf j.hv)
def mvOf (x : Mi × Option Addr × Nat) : Mv := ⟨x.1, .slice x.2.1 x.1.code.handlers.length x.2.2⟩
def Mz : Mi × Option Addr × Nat := mtOf Mv.zero
theorem mv_mt {w : World} {j : Mv} (h : FIn Hi.cells 4 Hi.zero w j.hv j.m.code.handlers) : mvOf (mtOf j) = j := by
  obtain ⟨ad, cap, e, _⟩ := h
  obtain ⟨m, hv⟩ := j
  simp only at e
  subst e
  rfl
theorem Fm_of {w : World} {c : Csi} {vp vi vf vm : Value} {L : List Mv} (h : Cin w c vp vi vf vm L) : FIn Mc 9 Mz w vm (L.map mtOf) := by
  obtain ⟨ad, cap, e, h1⟩ := h.m
  refine ⟨ad, cap, by rw [List.length_map]; exact e, fun hne => ?_⟩
  obtain ⟨b, o, e1, h2⟩ := h1 (by rintro rfl; exact hne rfl)
  refine ⟨b, o, e1, fun k hk i hi => ?_⟩
  have hk' : k < L.length := by simpa using hk
  rw [h2 k hk' i hi]
  have e2 : (L.map mtOf).getD k Mz = mtOf (L.getD k Mv.zero) := by simp [List.getD, List.getElem?_eq_getElem hk', Mz]
  have hm : L.getD k Mv.zero ∈ L := by simp [List.getD, List.getElem?_eq_getElem hk']
  rw [e2]
  have e3 : Mc (mtOf (L.getD k Mv.zero)) = (mvOf (mtOf (L.getD k Mv.zero))).cells := rfl
  rw [e3, mv_mt (h.h _ hm)]
theorem sum_mem {α : Type} (f : α → Nat) {l : List α} {x : α} (h : x ∈ l) : f x ≤ (l.map f).sum := by
  induction l with
  | nil => cases h
  | cons y l ih =>
    simp only [List.map_cons, List.sum_cons]
    rcases List.mem_cons.1 h with rfl | h
    · omega
    · have := ih h; omega
theorem own_frozen {w : World} {B e z n c g : Nat} {xs : List Value} (h : w.ownsRow B e z (.slice (some ⟨g, 0, none⟩) n c) n xs) (j : Nat) : w.frozen? ⟨g, j, none⟩ = false := by
  rcases h.2 with ⟨h0, _⟩ | ⟨g', cap, cur, h0, h2, h3, h4, h5, h6, h7⟩
  · cases h0
  · cases h0
    exact frozen_of_row w g j _ e h3
theorem own_adr {w : World} {B e z n c : Nat} {ad : Option Addr} {xs : List Value} (h : w.ownsRow B e z (.slice ad n c) n xs) (hn : 0 < n) : ∃ g, ad = some ⟨g, 0, none⟩ := by
  rcases h.2 with ⟨h0, h1⟩ | ⟨g', cap, cur, h0, h2⟩
  · omega
  · cases h0; exact ⟨_, rfl⟩
end Go.Proofs.YtddhlphbbiihjaaGreatDoor.Cl
