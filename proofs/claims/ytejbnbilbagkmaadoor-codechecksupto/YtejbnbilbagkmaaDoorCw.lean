/-
  Instructions and where their lists lie; weight, twin, same (carried from 60cd14c).
-/
import Derived.Test.YtejbnbilbagkmaaDoorBase
import Derived.Laws.BitsAllLaws
import Derived.Laws.RangeAny
import Derived.Laws.DeepStrings4
import Derived.Laws.Slices
import Derived.Laws.Strings3
import Derived.Laws.BytesArg
import Derived.Laws.IdiomStrings
import Derived.Lib.Walk
import Derived.Lib.Strings
import Derived.Lib.Slices
import Derived.WalkKit
import Derived.WalkSpells
import Derived.WalkLawsBesides
import Derived.ProofKit
import Derived.WalkMore
import Derived.BigQuiet
import Derived.Deep.RegionWith
import Derived.Deep.LoopGhost
import Derived.Deep.QuietTactic
import Derived.Maps.AppendAt
import Derived.Deep.Cut
import Derived.Lib.QuietBelow
import Derived.Deep.RegionHeldLaw
import Derived.Deep.RegionLaw
import Derived.Deep.DeepCutAuto
import Derived.Maps.OwnSet
import Derived.RowKit
import Derived.Laws.AppendOwnNone
namespace Go.Proofs.YtejbnbilbagkmaaDoor.Cw
open Go.RowKit
set_option linter.unusedVariables false
set_option linter.unusedSimpArgs false
theorem grown_set (w : World) (b i : Nat) (v : Value) : w.grownBy (w.setCell ⟨b, i, none⟩ v) (some b) :=
  ⟨rfl, rfl, rfl, by simp, fun k _ hne => Below.heap_setCell w ⟨b, i, none⟩ v k (by intro h; subst h; exact hne rfl)⟩
theorem grown_of_below {w w' : World} (h : Below w.heap.size w w') (row : Option Nat) : w.grownBy w' row := ⟨h.os, h.tape, h.output, h.size, fun k hk _ => h.block k hk⟩
theorem row_in {w : World} {B : Nat} {v : Value} {n : Nat} {xs : List Value} (h : w.ownsRow B 3 1 v n xs) {b : Nat} (hb : v.ownBlock = some b) : B ≤ b ∧ b < w.heap.size := by
  rcases h.2 with ⟨rfl, _⟩ | ⟨g, cap, cur, rfl, h1, h2, _⟩
  · cases hb
  · cases hb; exact ⟨h1, (Array.getElem?_eq_some_iff.1 h2).1⟩
theorem row_kept {w w' : World} {B : Nat} {v : Value} {n : Nat} {xs : List Value} {row : Option Nat} (h : w.ownsRow B 3 1 v n xs) (hg : w.grownBy w' row) (hr : ∀ b, row = some b → v.ownBlock ≠ some b) : w'.ownsRow B 3 1 v n xs := by
  refine ⟨h.1, ?_⟩
  rcases h.2 with h0 | ⟨g, cap, cur, rfl, h1, h2, h3⟩
  · exact .inl h0
  · refine .inr ⟨g, cap, cur, rfl, h1, ?_, h3⟩
    rw [hg.block g (Array.getElem?_eq_some_iff.1 h2).1 (fun e => hr g e.symm rfl)]; exact h2
theorem own_form {w : World} {B : Nat} {e : TypeId} {k : Nat} {v : Value} {n : Nat} {xs : List Value} (h : w.ownsRow B e k v n xs) (hn : 0 < n) : ∃ g c, v = .slice (some ⟨g, 0, none⟩) n c := by
  rcases h.2 with ⟨_, h0⟩ | ⟨g, cap, cur, rfl, _⟩
  · omega
  · exact ⟨g, cap, rfl⟩
theorem Tryd.info3 : (Tryd.prog.info? 3).map (fun i => (i.zero, i.size, i.bytes)) = some (some (.int .i64 0), 1, 8) := by kernel_rfl
theorem row_form {w : World} {B e k n : Nat} {v : Value} {xs : List Value} (h : w.ownsRow B e k v n xs) : ∃ o m c, v = .slice o m c := by
  rcases h.2 with ⟨rfl, _⟩ | ⟨g, cap, cur, rfl, _⟩
  · exact ⟨_, _, _, rfl⟩
  · exact ⟨_, _, _, rfl⟩
theorem ins_in {w : World} {B e k n : Nat} {v : Value} {xs : List Value} (h : w.ownsRow B e k v n xs) {b : Nat} (hb : v.ownBlock = some b) : B ≤ b ∧ b < w.heap.size := by
  rcases h.2 with ⟨rfl, _⟩ | ⟨g, cap, cur, rfl, h1, h2, _⟩
  · cases hb
  · cases hb; exact ⟨h1, (Array.getElem?_eq_some_iff.1 h2).1⟩
theorem ins_kept {w w' : World} {B e k n : Nat} {v : Value} {xs : List Value} {row : Option Nat} (h : w.ownsRow B e k v n xs) (hg : w.grownBy w' row) (hr : ∀ b, row = some b → v.ownBlock ≠ some b) : w'.ownsRow B e k v n xs := by
  refine ⟨h.1, ?_⟩
  rcases h.2 with h0 | ⟨g, cap, cur, rfl, h1, h2, h3⟩
  · exact .inl h0
  · refine .inr ⟨g, cap, cur, rfl, h1, ?_, h3⟩
    rw [hg.block g (Array.getElem?_eq_some_iff.1 h2).1 (fun e => hr g e.symm rfl)]; exact h2
/-- A list of numbers that can be read. -/
def HasI (w : World) (v : Value) (xs : List Int) : Prop := ∃ ad cap, v = .slice ad xs.length cap ∧ (xs ≠ [] → ∃ b o, ad = some ⟨b, o, none⟩ ∧ ∀ k, k < xs.length → w.cell? ⟨b, o + k, none⟩ = some (.int .i64 (xs.getD k 0)))
theorem Tryd.info50 : (Tryd.prog.info? 50).map (fun i => (i.zero, i.size, i.bytes)) = some (some (.agg #[.int .i64 0, .int .u8 0, .bool false, .int .i64 0, .int .i64 0, .int .i64 0, .slice none 0 0, .slice none 0 0]), 8, 88) := by kernel_rfl
theorem new8 (w : World) (xs : List Value) (t : TypeId) : ∀ j u, xs[j]? = some u → (w.alloc (.cells xs.toArray t)).cell? ((⟨w.heap.size, 0, none⟩ : Addr).add j) = some u := by
  intro j u hj
  rw [Addr.add_lit, Nat.zero_add]
  have h := cell_of_row (w.alloc (.cells xs.toArray t)) w.heap.size j xs.toArray t (0, 0) (heap_alloc_new w _)
  rw [h]; simpa using hj
theorem one8 (a1 a2 a3 a4 : Int) (o : Int) (b : Bool) (k1 : Option Addr) (k2 k3 : Nat) (t1 : Option Addr) (t2 t3 : Nat) : ∀ u ∈ [Value.int .i64 a1, .int .u8 o, .bool b, .int .i64 a2, .int .i64 a3, .int .i64 a4, .slice k1 k2 k3, .slice t1 t2 t3], u.oneCell' = true := by
  intro u hu
  simp only [List.mem_cons, List.not_mem_nil, or_false] at hu
  rcases hu with rfl | rfl | rfl | rfl | rfl | rfl | rfl | rfl <;> rfl
set_option maxRecDepth 100000 in
set_option maxHeartbeats 2000000 in
theorem sameInts_eq (v u : Value) (xs : List Int) (w : World) (h1 : HasI w v xs) (h2 : HasI w u xs) (hl : xs.length ≤ 1048576) : Calls Tryd.prog 35 #[v, u] w fun x w' => x = .returned (.bool true) ∧ ∃ n, w' = w.drewN n := by
  obtain ⟨a1, c1, rfl, hc1⟩ := h1
  obtain ⟨a2, c2, rfl, hc2⟩ := h2
  have H1 := hide hc1
  have H2 := hide hc2
  clear hc1 hc2
  have hll : (((xs.length : Nat) : Int) != ((xs.length : Nat) : Int)) = false := by simp
  go_enter Tryd.func35, Tryd.ntmps35
  go_wp2_with fail
  go_loopw [13] (fun i wr => ∃ k n : Nat, k ≤ xs.length ∧ i = .int .i64 k ∧ wr = w.drewN n) (fun i _ => xs.length - (intOf i).toNat)
  case atStart => exact ⟨0, 0, Nat.zero_le _, rfl, rfl⟩
  case round =>
    obtain ⟨k, n, hk, rfl, rfl⟩ := hrel
    by_cases hlt : k < xs.length
    · have hne : xs ≠ [] := by rintro rfl; simp at hlt
      obtain ⟨b1, o1, rfl, q1⟩ := unhide H1 hne
      obtain ⟨b2, o2, rfl, q2⟩ := unhide H2 hne
      have r1 := q1 k hlt
      have r2 := q2 k hlt
      obtain ⟨x, hx⟩ : ∃ x, x = xs.getD k 0 := ⟨_, rfl⟩
      rw [← hx] at r1 r2
      clear q1 q2 hx H1 H2 hne
      have ki : (k : Int) < (xs.length : Int) := by omega
      have hxx : (x != x) = false := by simp
      go_wp2_with fail
      go_quiet (fail)
      go_wp2
      go_roundw
      case rel => exact ⟨k + 1, _, by omega, by go_num, rfl⟩
      case measure => simp [intOf]; omega
    · have ki : (xs.length : Int) ≤ (k : Int) := by omega
      go_wp2
      go_ret
      exact ⟨rfl, _, rfl⟩
theorem HasI.drewN {w : World} {v : Value} {xs : List Int} (h : HasI w v xs) (n : Nat) : HasI (w.drewN n) v xs := h
theorem HasI.form {w : World} {v : Value} {xs : List Int} (h : HasI w v xs) : ∃ a c, v = .slice a xs.length c := by
  obtain ⟨a, c, e, _⟩ := h; exact ⟨a, c, e⟩
theorem HasI.below {w w' : World} {v : Value} {xs : List Int} (h : HasI w v xs) (hb : Below w.heap.size w w') : HasI w' v xs := by
  obtain ⟨a, c, e, hc⟩ := h
  refine ⟨a, c, e, fun hne => ?_⟩
  obtain ⟨b, o, e1, hk⟩ := hc hne
  exact ⟨b, o, e1, fun k hl => (hb.cell (cell_lt (hk k hl))).trans (hk k hl)⟩
/-- An instruction as it may be handed in. -/
structure G where
  at_ : Int
  op : Nat
  wide : Bool
  a : Int
  b : Int
  low : Int
  keys : List Int
  tgts : List Int
/-- An instruction, and where its lists lie. -/
structure V where
  g : G
  kv : Value
  tv : Value
def V.arr (c : V) : Array Value := #[.int .i64 c.g.at_, .int .u8 (c.g.op : Int), .bool c.g.wide, .int .i64 c.g.a, .int .i64 c.g.b, .int .i64 c.g.low, c.kv, c.tv]
structure V.Ok (w : World) (c : V) : Prop where
  k : HasI w c.kv c.g.keys
  t : HasI w c.tv c.g.tgts
  op : c.g.op < 256
  kl : c.g.keys.length ≤ 1048576
  tl : c.g.tgts.length ≤ 1048576
theorem V.Ok.below {w w' : World} {c : V} (h : c.Ok w) (hb : Below w.heap.size w w') : c.Ok w' := ⟨h.k.below hb, h.t.below hb, h.op, h.kl, h.tl⟩
/-- The block of a copy. -/
def Vb (w : World) (p : Nat) (c : V) : Prop := w.heap[p]? = some (.cells c.arr 50 (0, 0))
theorem Vb.cell {w : World} {p : Nat} {c : V} (h : Vb w p c) (i : Nat) : w.cell? ⟨p, i, none⟩ = c.arr[i]? := cell_of_row w p i _ 50 (0, 0) h
theorem Vb.lt {w : World} {p : Nat} {c : V} (h : Vb w p c) : p < w.heap.size := (Array.getElem?_eq_some_iff.1 h).1
theorem Vb.below {w w' : World} {p : Nat} {c : V} (h : Vb w p c) (hb : Below w.heap.size w w') : Vb w' p c := by
  unfold Vb; rw [hb.block p h.lt]; exact h
/-- What is asked of an instruction that is handed in. -/
structure V.Fit (w : World) (c : V) : Prop where
  ok : c.Ok w
  tl : c.g.tgts.length ≤ 100000
  wf : ∀ t ∈ c.g.tgts, (Lit.int .i64 t).wf = true
  cap : ∀ ad n cap, c.tv = .slice ad n cap → n ≤ cap
theorem V.Fit.below {w w' : World} {c : V} (h : c.Fit w) (hb : Below w.heap.size w w') : c.Fit w' := ⟨h.ok.below hb, h.tl, h.wf, h.cap⟩
/-- A list of instructions that can be read. -/
structure GHas (w : World) (v : Value) (L : List V) : Prop where
  form : ∃ ad cap, v = .slice ad L.length cap ∧ (L ≠ [] → ∃ b o, ad = some ⟨b, o, none⟩ ∧ ∀ k (hk : k < L.length), ∀ i, i < 8 → w.cell? ⟨b, o + k * 8 + i, none⟩ = (L[k]).arr[i]?)
  fit : ∀ c ∈ L, c.Fit w
/-- The eight cells of an instruction that is handed in. -/
def At8v (w : World) (b o : Nat) (c : V) : Prop := w.cell? ⟨b, o, none⟩ = some (.int .i64 c.g.at_) ∧ w.cell? ⟨b, o + 1, none⟩ = some (.int .u8 (c.g.op : Int)) ∧ w.cell? ⟨b, o + 2, none⟩ = some (.bool c.g.wide) ∧ w.cell? ⟨b, o + 3, none⟩ = some (.int .i64 c.g.a) ∧
  w.cell? ⟨b, o + 4, none⟩ = some (.int .i64 c.g.b) ∧ w.cell? ⟨b, o + 5, none⟩ = some (.int .i64 c.g.low) ∧ w.cell? ⟨b, o + 6, none⟩ = some c.kv ∧ w.cell? ⟨b, o + 7, none⟩ = some c.tv
theorem At8v.of {w : World} {b o k : Nat} {c : V} (h : ∀ i, i < 8 → w.cell? ⟨b, o + k * 8 + i, none⟩ = c.arr[i]?) : At8v w b (o + k * 8) c :=
  ⟨h 0 (by omega), h 1 (by omega), h 2 (by omega), h 3 (by omega), h 4 (by omega), h 5 (by omega), h 6 (by omega), h 7 (by omega)⟩
set_option maxRecDepth 100000 in
set_option maxHeartbeats 2000000 in
theorem sameV_eq (v u : Value) (L K : List V) (w : World) (h1 : GHas w v L) (h2 : GHas w u K) (he : L.map V.g = K.map V.g) (hl : L.length ≤ 1048576) :
    Calls Tryd.prog 20 #[v, u] w fun x w' => x = .returned (.bool true) ∧ Below w.heap.size w w' := by
  have hlk : L.length = K.length := by have := congrArg List.length he; simpa using this
  have ho1 := fun c (hc : c ∈ L) => (h1.fit c hc).ok
  have ho2 := fun c (hc : c ∈ K) => (h2.fit c hc).ok
  obtain ⟨⟨a1, c1, rfl, hc1⟩, _⟩ := h1
  obtain ⟨⟨a2, c2, rfl, hc2⟩, _⟩ := h2
  rw [← hlk]
  have H1 := hide hc1
  have H2 := hide hc2
  have O1 := hide ho1
  have O2 := hide ho2
  have HE := hide he
  have HL := hide hlk
  clear hc1 hc2 ho1 ho2 he hlk
  have hll : (((L.length : Nat) : Int) != ((L.length : Nat) : Int)) = false := by simp
  go_enter Tryd.func20, Tryd.ntmps20
  go_wp2_with fail
  go_loopw [15] (fun i wr => ∃ k : Nat, k ≤ L.length ∧ i = .int .i64 k ∧ Below w.heap.size w wr) (fun i _ => L.length - (intOf i).toNat)
  case atStart => exact ⟨0, Nat.zero_le _, rfl, Below.refl _ _⟩
  case round =>
    obtain ⟨k, hk, rfl, hnx⟩ := hrel
    by_cases hlt : k < L.length
    · have hlt2 : k < K.length := by rw [← unhide HL]; exact hlt
      have hne : L ≠ [] := by rintro rfl; simp at hlt
      have hne2 : K ≠ [] := by rintro rfl; simp at hlt2
      obtain ⟨b1, o1, rfl, q1⟩ := unhide H1 hne
      obtain ⟨b2, o2, rfl, q2⟩ := unhide H2 hne2
      have hij : (L[k]).g = (K[k]).g := by
        have := congrArg (fun l => l[k]?) (unhide HE)
        simpa [hlt, hlt2] using this
      have hx := At8v.of (q1 k hlt)
      have hy := At8v.of (q2 k hlt2)
      have l1 := cell_lt hx.1
      have l2 := cell_lt hy.1
      obtain ⟨m1, m2, _, d1, d2⟩ := unhide O1 _ (List.getElem_mem hlt)
      obtain ⟨n1, n2, _, _, _⟩ := unhide O2 _ (List.getElem_mem hlt2)
      rw [← hij] at n1 n2
      obtain ⟨x0, x1, x2, x3, x4, x5, x6, x7⟩ := hx
      obtain ⟨y0, y1, y2, y3, y4, y5, y6, y7⟩ := hy
      simp only [← hij] at y0 y1 y2 y3 y4 y5 y6 y7
      generalize (L[k]).g = i at *
      generalize (L[k]).kv = kx at *
      generalize (L[k]).tv = tx at *
      generalize (K[k]).kv = ky at *
      generalize (K[k]).tv = ty at *
      have l1' : ∀ o, wr.cell? ⟨b1, o, none⟩ = w.cell? ⟨b1, o, none⟩ := fun o => hnx.cell l1
      have l2' : ∀ o, wr.cell? ⟨b2, o, none⟩ = w.cell? ⟨b2, o, none⟩ := fun o => hnx.cell l2
      rw [← l1'] at x0 x1 x2 x3 x4 x5 x6 x7
      rw [← l2'] at y0 y1 y2 y3 y4 y5 y6 y7
      have m1 := m1.below hnx
      have m2 := m2.below hnx
      have n1 := n1.below hnx
      have n2 := n2.below hnx
      obtain ⟨p1, p2, rfl⟩ := m1.form
      obtain ⟨p3, p4, rfl⟩ := m2.form
      obtain ⟨p5, p6, rfl⟩ := n1.form
      obtain ⟨p7, p8, rfl⟩ := n2.form
      have HK := hide (fun w1 (hb1 : Below wr.heap.size wr w1) => sameInts_eq _ _ _ w1 (m1.below hb1) (n1.below hb1) d1)
      have HT := hide (fun w1 (hb1 : Below wr.heap.size wr w1) => sameInts_eq _ _ _ w1 (m2.below hb1) (n2.below hb1) d2)
      clear l1' l2' H1 H2 O1 O2 HE m1 m2 n1 n2 q1 q2 hne hne2 hij d1 d2
      have ki : (k : Int) < (L.length : Int) := by omega
      go_upto_region 7 with fail
      have hbx : Below wr.heap.size wr (wr.alloc (.cells #[.int .i64 i.at_, .int .u8 (i.op : Int), .bool i.wide, .int .i64 i.a, .int .i64 i.b, .int .i64 i.low, .slice p1 i.keys.length p2, .slice p3 i.tgts.length p4] 50)) := (Below.refl _ _).alloc (Nat.le_refl _) _
      have hzx : (wr.alloc (.cells #[.int .i64 i.at_, .int .u8 (i.op : Int), .bool i.wide, .int .i64 i.a, .int .i64 i.b, .int .i64 i.low, .slice p1 i.keys.length p2, .slice p3 i.tgts.length p4] 50)).heap.size = wr.heap.size + 1 := by simp
      have l2r : b2 < wr.heap.size := Nat.lt_of_lt_of_le l2 hnx.size
      have l2' : ∀ o, (wr.alloc (.cells #[.int .i64 i.at_, .int .u8 (i.op : Int), .bool i.wide, .int .i64 i.a, .int .i64 i.b, .int .i64 i.low, .slice p1 i.keys.length p2, .slice p3 i.tgts.length p4] 50)).cell? ⟨b2, o, none⟩ = wr.cell? ⟨b2, o, none⟩ := fun o => hbx.cell l2r
      rw [← l2'] at y0 y1 y2 y3 y4 y5 y6 y7
      have hxb : (wr.alloc (.cells #[.int .i64 i.at_, .int .u8 (i.op : Int), .bool i.wide, .int .i64 i.a, .int .i64 i.b, .int .i64 i.low, .slice p1 i.keys.length p2, .slice p3 i.tgts.length p4] 50)).heap[wr.heap.size]? = some (.cells #[.int .i64 i.at_, .int .u8 (i.op : Int), .bool i.wide, .int .i64 i.a, .int .i64 i.b, .int .i64 i.low, .slice p1 i.keys.length p2, .slice p3 i.tgts.length p4] 50 (0, 0)) := heap_alloc_new wr _
      generalize wr.alloc (.cells #[.int .i64 i.at_, .int .u8 (i.op : Int), .bool i.wide, .int .i64 i.a, .int .i64 i.b, .int .i64 i.low, .slice p1 i.keys.length p2, .slice p3 i.tgts.length p4] 50) = WX at *
      clear l2' x0 x1 x2 x3 x4 x5 x6 x7
      go_upto_region 8 with fail
      have hby : Below wr.heap.size wr (WX.alloc (.cells #[.int .i64 i.at_, .int .u8 (i.op : Int), .bool i.wide, .int .i64 i.a, .int .i64 i.b, .int .i64 i.low, .slice p5 i.keys.length p6, .slice p7 i.tgts.length p8] 50)) := hbx.alloc (by omega) _
      have hxy : (WX.alloc (.cells #[.int .i64 i.at_, .int .u8 (i.op : Int), .bool i.wide, .int .i64 i.a, .int .i64 i.b, .int .i64 i.low, .slice p5 i.keys.length p6, .slice p7 i.tgts.length p8] 50)).heap[wr.heap.size]? = some (.cells #[.int .i64 i.at_, .int .u8 (i.op : Int), .bool i.wide, .int .i64 i.a, .int .i64 i.b, .int .i64 i.low, .slice p1 i.keys.length p2, .slice p3 i.tgts.length p4] 50 (0, 0)) := by rw [heap_alloc_old _ _ (by omega)]; exact hxb
      have hyb : (WX.alloc (.cells #[.int .i64 i.at_, .int .u8 (i.op : Int), .bool i.wide, .int .i64 i.a, .int .i64 i.b, .int .i64 i.low, .slice p5 i.keys.length p6, .slice p7 i.tgts.length p8] 50)).heap[WX.heap.size]? = some (.cells #[.int .i64 i.at_, .int .u8 (i.op : Int), .bool i.wide, .int .i64 i.a, .int .i64 i.b, .int .i64 i.low, .slice p5 i.keys.length p6, .slice p7 i.tgts.length p8] 50 (0, 0)) := heap_alloc_new WX _
      rw [hzx] at hyb
      generalize WX.alloc (.cells #[.int .i64 i.at_, .int .u8 (i.op : Int), .bool i.wide, .int .i64 i.a, .int .i64 i.b, .int .i64 i.low, .slice p5 i.keys.length p6, .slice p7 i.tgts.length p8] 50) = WY at *
      clear y0 y1 y2 y3 y4 y5 y6 y7 hxb hbx hzx WX
      have x0 := cell_of_row WY wr.heap.size 0 _ 50 (0, 0) hxy
      have y0 := cell_of_row WY (wr.heap.size + 1) 0 _ 50 (0, 0) hyb
      have x1 := cell_of_row WY wr.heap.size 1 _ 50 (0, 0) hxy
      have y1 := cell_of_row WY (wr.heap.size + 1) 1 _ 50 (0, 0) hyb
      have x2 := cell_of_row WY wr.heap.size 2 _ 50 (0, 0) hxy
      have y2 := cell_of_row WY (wr.heap.size + 1) 2 _ 50 (0, 0) hyb
      have x3 := cell_of_row WY wr.heap.size 3 _ 50 (0, 0) hxy
      have y3 := cell_of_row WY (wr.heap.size + 1) 3 _ 50 (0, 0) hyb
      have x4 := cell_of_row WY wr.heap.size 4 _ 50 (0, 0) hxy
      have y4 := cell_of_row WY (wr.heap.size + 1) 4 _ 50 (0, 0) hyb
      have x5 := cell_of_row WY wr.heap.size 5 _ 50 (0, 0) hxy
      have y5 := cell_of_row WY (wr.heap.size + 1) 5 _ 50 (0, 0) hyb
      have x6 := cell_of_row WY wr.heap.size 6 _ 50 (0, 0) hxy
      have y6 := cell_of_row WY (wr.heap.size + 1) 6 _ 50 (0, 0) hyb
      have x7 := cell_of_row WY wr.heap.size 7 _ 50 (0, 0) hxy
      have y7 := cell_of_row WY (wr.heap.size + 1) 7 _ 50 (0, 0) hyb
      simp at x0 x1 x2 x3 x4 x5 x6 x7 y0 y1 y2 y3 y4 y5 y6 y7
      clear hxy hyb
      have f0 : (i.at_ != i.at_) = false := by simp
      have f1 : ((i.op : Int) != (i.op : Int)) = false := by simp
      have f2 : (i.wide != i.wide) = false := by simp
      have f3 : (i.a != i.a) = false := by simp
      have f4 : (i.b != i.b) = false := by simp
      have f5 : (i.low != i.low) = false := by simp
      go_wp2_with fail
      refine (unhide HK _ hby).mono ?_
      rintro e w5 ⟨rfl, n5, rfl⟩
      have hb5 : Below wr.heap.size wr (WY.drewN n5) := ⟨hby.os, hby.tape, hby.output, hby.size, hby.block⟩
      go_wp2_with fail
      refine (unhide HT _ hb5).mono ?_
      rintro e w6 ⟨rfl, n6, rfl⟩
      have hb6 : Below wr.heap.size wr (WY.drewN (n5 + n6)) := ⟨hb5.os, hb5.tape, hb5.output, hb5.size, hb5.block⟩
      go_wp2
      go_roundw
      case rel => exact ⟨k + 1, by omega, by go_num, hnx.trans (hb6.mono hnx.size)⟩
      case measure => simp [intOf]; omega
    · have ki : (L.length : Int) ≤ (k : Int) := by omega
      go_wp2
      go_ret
      exact ⟨rfl, hnx⟩
def VC : List V → List Value
  | [] => []
  | c :: l => c.arr.toList ++ VC l
theorem VC_append (a b : List V) : VC (a ++ b) = VC a ++ VC b := by
  induction a with
  | nil => rfl
  | cons c a ih => simp only [List.cons_append, VC, ih, List.append_assoc]
/-- A row of numbers of one's own, and one of instructions, are never one. -/
theorem rows_ne {w : World} {B n m : Nat} {v u : Value} {xs ys : List Value} (h : w.ownsRow B 3 1 v n xs) (k : w.ownsRow B 50 8 u m ys) : ∀ b, u.ownBlock = some b → v.ownBlock ≠ some b := by
  intro b e1 e2
  rcases h.2 with ⟨rfl, _⟩ | ⟨g, cap, cur, rfl, _, hg, _⟩
  · cases e2
  · cases e2
    rcases k.2 with ⟨rfl, _⟩ | ⟨g', cap', cur', rfl, _, hg', _⟩
    · cases e1
    · cases e1
      rw [hg] at hg'
      simp at hg'
/-- The copy as it is made. -/
structure Tw (w0 w : World) (v : Value) (K : List V) : Prop where
  old : Below w0.heap.size w0 w
  row : w.ownsRow w0.heap.size 50 8 v K.length (VC K)
  own : ∀ c ∈ K, w.ownsRow w0.heap.size 3 1 c.kv c.g.keys.length (c.g.keys.map (Value.int .i64)) ∧ w.ownsRow w0.heap.size 3 1 c.tv c.g.tgts.length (c.g.tgts.map (Value.int .i64))
theorem Tw.below {w0 w w' : World} {v : Value} {K : List V} (h : Tw w0 w v K) (hb : Below w.heap.size w w') : Tw w0 w' v K :=
  ⟨h.old.trans (hb.mono h.old.size), ins_kept h.row (grown_of_below hb none) (fun _ e => by cases e), fun c hc => ⟨row_kept (h.own c hc).1 (grown_of_below hb none) (fun _ e => by cases e), row_kept (h.own c hc).2 (grown_of_below hb none) (fun _ e => by cases e)⟩⟩
theorem Tw.set {w0 w : World} {v : Value} {K : List V} {p i : Nat} (h : Tw w0 w v K) (hp : w0.heap.size ≤ p) (x : Value) (hv : v.ownBlock ≠ some p) (hk : ∀ c ∈ K, c.kv.ownBlock ≠ some p ∧ c.tv.ownBlock ≠ some p) : Tw w0 (w.setCell ⟨p, i, none⟩ x) v K :=
  ⟨h.old.setCell (p := ⟨p, i, none⟩) hp x, ins_kept h.row (grown_set w p i x) (fun b e => by cases e; exact hv), fun c hc => ⟨row_kept (h.own c hc).1 (grown_set w p i x) (fun b e => by cases e; exact (hk c hc).1), row_kept (h.own c hc).2 (grown_set w p i x) (fun b e => by cases e; exact (hk c hc).2)⟩⟩
theorem Tw.push {w0 w w' : World} {v v' : Value} {K : List V} {c : V} {o : Obj} (h : Tw w0 w v K) (hc : w.ownsRow w0.heap.size 3 1 c.kv c.g.keys.length (c.g.keys.map (Value.int .i64)) ∧ w.ownsRow w0.heap.size 3 1 c.tv c.g.tgts.length (c.g.tgts.map (Value.int .i64)))
    (hrow : w'.ownsRow w0.heap.size 50 8 v' (K.length + 1) (VC K ++ c.arr.toList)) (hg : (w.alloc o).grownBy w' v.ownBlock) : Tw w0 w' v' (K ++ [c]) := by
  have hal : w.grownBy (w.alloc o) none := World.grownBy_alloc w o none
  have hra := ins_kept h.row hal (fun _ e => by cases e)
  have kp : ∀ {u : Value} {n : Nat} {xs : List Value}, w.ownsRow w0.heap.size 3 1 u n xs → w'.ownsRow w0.heap.size 3 1 u n xs := fun hu =>
    row_kept (row_kept hu hal (fun _ e => by cases e)) hg (rows_ne (row_kept hu hal (fun _ e => by cases e)) hra)
  refine ⟨(h.old.alloc h.old.size o).grown hg (by have := h.old.size; simp; omega) (fun k hk => (ins_in h.row hk).1), ?_, fun d hd => ?_⟩
  · rw [VC_append, List.length_append]
    simpa [VC] using hrow
  · rw [List.mem_append, List.mem_singleton] at hd
    rcases hd with hd | rfl
    · exact ⟨kp (h.own d hd).1, kp (h.own d hd).2⟩
    · exact ⟨kp hc.1, kp hc.2⟩
theorem Vb.frozen {w : World} {p : Nat} {c : V} (h : Vb w p c) (i : Nat) : w.frozen? ⟨p, i, none⟩ = false := by
  unfold World.frozen?; unfold Vb at h; simp only [h]; simp
theorem Vb.setK {w : World} {p : Nat} {c : V} (h : Vb w p c) (x : Value) : Vb (w.setCell ⟨p, 6, none⟩ x) p { c with kv := x } := by
  unfold Vb; rw [heap_setCell_same w p 6 _ 50 _ h]; rfl
theorem Vb.setT {w : World} {p : Nat} {c : V} (h : Vb w p c) (x : Value) : Vb (w.setCell ⟨p, 7, none⟩ x) p { c with tv := x } := by
  unfold Vb; rw [heap_setCell_same w p 7 _ 50 _ h]; rfl
theorem row_off {w : World} {B n p : Nat} {v : Value} {xs : List Value} {c : V} (h : w.ownsRow B 3 1 v n xs) (hv : Vb w p c) : v.ownBlock ≠ some p := by
  intro e
  rcases h.2 with ⟨rfl, _⟩ | ⟨g, cap, cur, rfl, _, hg, _⟩
  · cases e
  · cases e
    unfold Vb at hv
    rw [hg] at hv
    simp at hv
/-- append([]int(nil), xs...): a copy. -/
theorem run_copy {P : Program} (w : World) (t ty : TypeId) (i : TypeInfo) (ht : P.underlying t = some (.slice 3)) (hi : P.info? 3 = some i) (hz : i.zero = some (.int .i64 0)) (hsize : i.size = 1) (hby : i.bytes = 8)
    (x : Value) (xs : List Int) (h : HasI w x xs) (hl : xs.length ≤ 1048576) (B : Nat) (hB : B ≤ w.heap.size) :
    ∃ v' w', (Builtin.append_ #[t, t] ty #[.slice none 0 0, x]).run P w = .ok v' w' ∧ w'.ownsRow B 3 1 v' xs.length (xs.map (Value.int .i64)) ∧ Below w.heap.size w w' := by
  obtain ⟨ad, cap, rfl, hc⟩ := h
  by_cases h0 : xs = []
  · subst h0
    refine ⟨.slice none 0 0, w, ?_, World.ownsRow_nil _ _ _ _, Below.refl _ _⟩
    cases ad <;> simp [Builtin.append_, run_underlying ht, sizeOf, typeInfo, hi, Builtin.lenOf, Builtin.firstCells, loadCells, loadCellsFrom]
  · obtain ⟨b, o, rfl, hk⟩ := hc h0
    obtain ⟨v', w', hr, h2, h3, _⟩ := run_append_own_at (P := P) w B t ty 3 i (.int .i64 0) 1 8 ht hi hz hsize hby rfl (by decide) (.slice none 0 0) 0 [] (World.ownsRow_nil _ _ _ _) ⟨b, o, none⟩ xs.length cap (xs.map (Value.int .i64)) (by simp)
      (fun j u hj => by
        rw [Addr.add_lit]
        rw [List.getElem?_map] at hj
        obtain ⟨y, hy, rfl⟩ := Option.map_eq_some_iff.1 hj
        have hjl : j < xs.length := (List.getElem?_eq_some_iff.1 hy).1
        rw [hk j hjl, List.getD_eq_getElem?_getD, hy]; rfl)
      (fun u hu => by obtain ⟨y, _, rfl⟩ := List.mem_map.1 hu; rfl) (by unfold maxLen; omega) (by omega) hB
    rw [Nat.zero_add, List.nil_append] at h2
    exact ⟨v', w', hr, h2, ⟨h3.os, h3.tape, h3.output, h3.size, fun k hk => h3.block k hk (by simp [Value.ownBlock])⟩⟩
theorem wpList_copy {P : Program} (w : World) {ops : Array Oper} {rest : List Oper} {o : Oper} {a : Act} {Q : Exit → Act → World → Prop} (hgd : o.guard = none) (s x : Operand) (t : TypeId)
    (ho : o.op = .call { callee := .builtin .append, args := #[s, x], argTypes := #[t, t] })
    (i : TypeInfo) (ht : P.underlying t = some (.slice 3)) (hi : P.info? 3 = some i) (hz : i.zero = some (.int .i64 0)) (hsize : i.size = 1) (hby : i.bytes = 8)
    (v : Value) (xs : List Int) (hs : a.eval s = .slice none 0 0) (hx : a.eval x = v) (h : HasI w v xs) (hl : xs.length ≤ 1048576) (B : Nat) (hB : B ≤ w.heap.size)
    (hk : ∀ v' w', w'.ownsRow B 3 1 v' xs.length (xs.map (Value.int .i64)) → Below w.heap.size w w' → wpList P ops Q rest (a.put o.dst v') w') : wpList P ops Q (o :: rest) a w := by
  refine wpList_plain hgd fun K hK => ?_
  obtain ⟨v', w', hr, h2, h3⟩ := run_copy (P := P) w t o.type i ht hi hz hsize hby v xs h hl B hB
  unfold Oper.wp execOp
  simp only [ho, resolve, invoke, builtin, Sem.run_bind, Sem.run_pure, Result.andThen_ok, List.map_toArray, List.map_cons, List.map_nil, hs, hx, hr]
  exact hK _ _ (hk v' w' h2 h3)
set_option maxRecDepth 100000 in
set_option maxHeartbeats 2000000 in
theorem twin_any (L : List V) (v : Value) (w : World) (h : GHas w v L) (hl : L.length ≤ 100000) : Calls Tryd.prog 17 #[v] w fun e w' => ∃ v' K, e = .returned v' ∧ K.map V.g = L.map V.g ∧ Tw w w' v' K := by
  obtain ⟨i0, hi, hz0, hz1, hz2⟩ := info_parts Tryd.info50
  obtain ⟨j0, hj, hy0, hy1, hy2⟩ := info_parts Tryd.info3
  obtain ⟨ad, cap, rfl, hc⟩ := h.form
  have HH := hide h
  have HC := hide hc
  clear h hc
  go_enter Tryd.func17, Tryd.ntmps17
  go_wp2_with fail
  go_loopw [3, 8] (fun v i wr => ∃ (k : Nat) (K : List V), k ≤ L.length ∧ i = .int .i64 k ∧ Hid (K.map V.g = (L.map V.g).take k) ∧ Hid (Tw w wr v K) ∧ ∃ o n c, v = .slice o n c) (fun _ i _ => L.length - (intOf i).toNat)
  case atStart => exact ⟨0, [], Nat.zero_le _, rfl, rfl, ⟨Below.refl _ _, World.ownsRow_nil _ _ _ _, fun _ h => by cases h⟩, _, _, _, rfl⟩
  case round =>
    obtain ⟨k, K, hk, rfl, HK, HT, vo, vn, vc, rfl⟩ := hrel
    by_cases hlt : k < L.length
    · have hT := unhide HT
      have hfit := (unhide HH).fit _ (List.getElem_mem hlt)
      have hne : L ≠ [] := by rintro rfl; simp at hlt
      obtain ⟨b0, o0, rfl, hcell⟩ := unhide HC hne
      have hcl := hcell k hlt
      have hKl : K.length = k := by
        have := congrArg List.length (unhide HK)
        simp at this; omega
      have hKn : (L.map V.g).take (k + 1) = (L.map V.g).take k ++ [(L[k]).g] := by
        rw [List.take_add_one, List.getElem?_eq_getElem (by simpa using hlt)]; simp
      have hrowform : vn = k := by
        rcases hT.row.2 with ⟨h1, h2⟩ | ⟨g, cp, cur, h1, _⟩
        · cases h1; omega
        · cases h1; omega
      subst hrowform
      obtain ⟨c, hcL⟩ : ∃ c, c = L[vn] := ⟨_, rfl⟩
      simp only [← hcL] at hfit hcl hKn
      have hkI := hfit.ok.k
      have htI := hfit.ok.t
      have hkl := hfit.ok.kl
      have htl := hfit.ok.tl
      obtain ⟨at2, cap2, et, _⟩ := htI
      obtain ⟨ak2, capk, ek, _⟩ := hkI
      have hkI := hfit.ok.k
      have htI := hfit.ok.t
      obtain ⟨⟨at_, op, wide, a, bb, low, keys, tgts⟩, kv, tv⟩ := c
      simp only at et ek hkI htI hkl htl hKn
      subst et
      subst ek
      have x0 := hcl 0 (by omega)
      have x1 := hcl 1 (by omega)
      have x2 := hcl 2 (by omega)
      have x3 := hcl 3 (by omega)
      have x4 := hcl 4 (by omega)
      have x5 := hcl 5 (by omega)
      have x6 := hcl 6 (by omega)
      have x7 := hcl 7 (by omega)
      simp only [V.arr] at x0 x1 x2 x3 x4 x5 x6 x7
      simp at x0 x1 x2 x3 x4 x5 x6 x7
      have hb0 : b0 < w.heap.size := cell_lt x0
      have hcw : ∀ o, wr.cell? ⟨b0, o, none⟩ = w.cell? ⟨b0, o, none⟩ := fun o => hT.old.cell hb0
      rw [← hcw] at x0 x1 x2 x3 x4 x5 x6 x7
      obtain ⟨W2, hW2⟩ : ∃ W2, W2 = wr.alloc (.cells #[.int .i64 at_, .int .u8 (op : Int), .bool wide, .int .i64 a, .int .i64 bb, .int .i64 low, .slice ak2 keys.length capk, .slice at2 tgts.length cap2] 50) := ⟨_, rfl⟩
      have hbel : Below wr.heap.size wr W2 := by rw [hW2]; exact (Below.refl _ _).alloc (Nat.le_refl _) _
      have v2 : Vb W2 wr.heap.size ⟨⟨at_, op, wide, a, bb, low, keys, tgts⟩, .slice ak2 keys.length capk, .slice at2 tgts.length cap2⟩ := by rw [hW2]; exact heap_alloc_new wr _
      have hT2 := hT.below hbel
      have hkW := (hkI.below hT.old).below hbel
      have hsz := hT2.old.size
      have ki : (vn : Int) < (L.length : Int) := by omega
      have hpf : w.heap.size ≤ wr.heap.size := hT.old.size
      have hvp : (Value.slice vo vn vc).ownBlock ≠ some wr.heap.size := fun e => by have := (ins_in hT.row e).2; omega
      have hKp : ∀ c ∈ K, c.kv.ownBlock ≠ some wr.heap.size ∧ c.tv.ownBlock ≠ some wr.heap.size := fun c hc => ⟨fun e => by have := (row_in (hT.own c hc).1 e).2; omega, fun e => by have := (row_in (hT.own c hc).2 e).2; omega⟩
      have y6 := v2.cell 6
      simp [V.arr] at y6
      have HKn := hide hKn
      have HKl := hide hKl
      clear hcl hcell hne hfit hcw hKn hKl hT hcL
      go_upto_region 5 with fail
      rw [← hW2]
      obtain ⟨p, ep⟩ : ∃ p, p = wr.heap.size := ⟨_, rfl⟩
      rw [← ep] at y6 v2 hvp hKp hpf ⊢
      clear hW2 ep x0 x1 x2 x3 x4 x5 x6 x7 hbel
      have Htk := hide (fun (w9 : World) (hb : Below w.heap.size w w9) => htI.below hb)
      go_upto_region 6 with (at_builtin; refine wpList_copy _ rfl _ _ 48 rfl j0 Tryd.underlying48 hj hy0 hy1 hy2 (.slice ak2 keys.length capk) keys rfl rfl hkW hkl w.heap.size hsz ?_; intro kv' w3 hok hb3; obtain ⟨k1, k2, k3, rfl⟩ := row_form hok; have v3 := v2.below hb3; have z6 := v3.cell 6; have f6 := v3.frozen 6; simp [V.arr] at z6)
      have v4 := v3.setK (.slice k1 k2 k3)
      have hT3 := hT2.below hb3
      have hT4 := hT3.set (i := 6) hpf (.slice k1 k2 k3) hvp hKp
      have hok4 := row_kept hok (grown_set w3 p 6 (.slice k1 k2 k3)) (fun b e => by cases e; exact row_off hok v3)
      clear hok hT3 v3 z6 f6 y6 v2 hT2 hkW hb3 hsz
      generalize w3.setCell ⟨p, 6, none⟩ (.slice k1 k2 k3) = W4 at *
      have y7 := v4.cell 7
      simp [V.arr] at y7
      have htW := unhide Htk W4 hT4.old
      have hsz := hT4.old.size
      go_upto_region 7 with (at_builtin; refine wpList_copy _ rfl _ _ 48 rfl j0 Tryd.underlying48 hj hy0 hy1 hy2 (.slice at2 tgts.length cap2) tgts rfl rfl htW htl w.heap.size hsz ?_; intro tv' w5 hot hb5; obtain ⟨t1, t2, t3, rfl⟩ := row_form hot; have v5 := v4.below hb5; have z7 := v5.cell 7; have f7 := v5.frozen 7; simp [V.arr] at z7)
      have v6 := v5.setT (.slice t1 t2 t3)
      have hT5 := hT4.below hb5
      have hT6 := hT5.set (i := 7) hpf (.slice t1 t2 t3) hvp hKp
      have hok5 := row_kept hok4 (grown_of_below hb5 none) (fun _ e => by cases e)
      have hok6 := row_kept hok5 (grown_set w5 p 7 (.slice t1 t2 t3)) (fun b e => by cases e; exact row_off hok5 v5)
      have hot6 := row_kept hot (grown_set w5 p 7 (.slice t1 t2 t3)) (fun b e => by cases e; exact row_off hot v5)
      clear hok4 hok5 hot hT4 hT5 v4 v5 z7 f7 y7 htW hb5 hsz
      generalize w5.setCell ⟨p, 7, none⟩ (.slice t1 t2 t3) = W6 at *
      have y0 := v6.cell 0
      have y1 := v6.cell 1
      have y2 := v6.cell 2
      have y3 := v6.cell 3
      have y4 := v6.cell 4
      have y5 := v6.cell 5
      have y6 := v6.cell 6
      have y7 := v6.cell 7
      simp [V.arr] at y0 y1 y2 y3 y4 y5 y6 y7
      have hrow := hT6.row
      rw [unhide HKl] at hrow
      have hsz := hT6.old.size
      go_wp2_with (at_builtin; refine wpList_append_own_at _ rfl _ _ 29 rfl w.heap.size 50 i0 (.agg #[.int .i64 0, .int .u8 0, .bool false, .int .i64 0, .int .i64 0, .int .i64 0, .slice none 0 0, .slice none 0 0]) 8 88 Tryd.underlying29 hi hz0 hz1 hz2 rfl (by decide) (.slice vo vn vc) vn _ rfl (ins_kept hrow (World.grownBy_alloc W6 _ none) (fun _ e => by cases e)) ⟨W6.heap.size, 0, none⟩ 1 1 [.int .i64 at_, .int .u8 (op : Int), .bool wide, .int .i64 a, .int .i64 bb, .int .i64 low, .slice k1 k2 k3, .slice t1 t2 t3] rfl rfl (new8 W6 _ 50) (one8 _ _ _ _ _ _ _ _ _ _ _ _) (by unfold maxLen; omega) (by omega) (by simp; omega) ?_; intro v' w7 hown' hgrow _ _)
      have hT7 : Tw w w7 v' (K ++ [⟨⟨at_, op, wide, a, bb, low, keys, tgts⟩, .slice k1 k2 k3, .slice t1 t2 t3⟩]) := hT6.push ⟨hok6, hot6⟩ (by rw [unhide HKl]; exact hown') hgrow
      have HT7 := hide hT7
      have HK7 : Hid ((K ++ [(⟨⟨at_, op, wide, a, bb, low, keys, tgts⟩, .slice k1 k2 k3, .slice t1 t2 t3⟩ : V)]).map V.g = (L.map V.g).take (vn + 1)) := by
        unfold Hid; rw [unhide HKn, List.map_append, unhide HK]; rfl
      obtain ⟨g9, c9, e9⟩ := own_form hown' (by omega)
      subst e9
      clear hT7 hown' hgrow hT6
      go_roundw
      case rel => exact ⟨vn + 1, _, by omega, by go_num, HK7, HT7, _, _, _, rfl⟩
      case measure => simp [intOf]; omega
    · have hkl : k = L.length := by omega
      subst hkl
      have ki : ¬ (L.length : Int) < (L.length : Int) := by omega
      have hK := unhide HK
      rw [List.take_of_length_le (by simp)] at hK
      have HK2 := hide hK
      clear hK HK
      go_wp2
      go_ret
      first | exact ⟨_, K, rfl, unhide HK2, unhide HT⟩ | exact ⟨_, rfl, K, unhide HK2, unhide HT⟩
/-- What is known of an instruction that is handed in, before it is weighed. -/
structure V.Wk (w : World) (c : V) : Prop where
  k : HasI w c.kv c.g.keys
  t : HasI w c.tv c.g.tgts
  op : c.g.op < 256
  kb : c.g.keys.length ≤ 35184372088832
  tb : c.g.tgts.length ≤ 35184372088832
  wf : ∀ t ∈ c.g.tgts, (Lit.int .i64 t).wf = true
  cap : ∀ ad n cap, c.tv = .slice ad n cap → n ≤ cap
structure WHas (w : World) (v : Value) (L : List V) : Prop where
  form : ∃ ad cap, v = .slice ad L.length cap ∧ (L ≠ [] → ∃ b o, ad = some ⟨b, o, none⟩ ∧ ∀ k (hk : k < L.length), ∀ i, i < 8 → w.cell? ⟨b, o + k * 8 + i, none⟩ = (L[k]).arr[i]?)
  wk : ∀ c ∈ L, c.Wk w
theorem WHas.below {w w' : World} {v : Value} {L : List V} (h : WHas w v L) (hb : Below w.heap.size w w') : WHas w' v L := by
  refine ⟨?_, fun c hc => ⟨(h.wk c hc).k.below hb, (h.wk c hc).t.below hb, (h.wk c hc).op, (h.wk c hc).kb, (h.wk c hc).tb, (h.wk c hc).wf, (h.wk c hc).cap⟩⟩
  obtain ⟨ad, cap, e, hc⟩ := h.form
  refine ⟨ad, cap, e, fun hne => ?_⟩
  obtain ⟨b, o, e1, hk⟩ := hc hne
  refine ⟨b, o, e1, fun k hk1 i hi => ?_⟩
  have h5 := hk k hk1 i hi
  have hci : (L[k]).arr[i]? = some ((L[k]).arr[i]'(by show i < 8; exact hi)) := Array.getElem?_eq_getElem _
  rw [hci] at h5 ⊢
  rw [hb.cell (cell_lt h5)]; exact h5
set_option maxRecDepth 100000 in
set_option maxHeartbeats 2000000 in
theorem weight_any (L : List V) (v : Value) (w : World) (h : WHas w v L) (hl : L.length ≤ 35184372088832) : Calls Tryd.prog 16 #[v] w fun e w' =>
    ∃ r : Nat, e = .returned (.int .i64 (r : Int)) ∧ r ≤ 140737488355328 ∧ (r ≤ 32768 → L.length ≤ 32768 ∧ ∀ c ∈ L, c.g.keys.length + c.g.tgts.length ≤ 32768) ∧ Below w.heap.size w w' := by
  obtain ⟨ad, cap, rfl, hc⟩ := h.form
  have HH := hide h
  have HC := hide hc
  clear h hc
  go_enter Tryd.func16, Tryd.ntmps16
  go_wp2_with fail
  go_loopw [3, 10] (fun nv i wr => ∃ (k r : Nat), k ≤ L.length ∧ i = .int .i64 k ∧ nv = .int .i64 (r : Int) ∧ Hid (L.length ≤ r) ∧ r ≤ 35184372088832 ∧ Hid (∀ j (hj : j < L.length), j < k → (L[j]).g.keys.length + (L[j]).g.tgts.length ≤ r) ∧ Hid (Below w.heap.size w wr)) (fun _ i _ => L.length - (intOf i).toNat)
  case atStart => exact ⟨0, L.length, Nat.zero_le _, rfl, rfl, Nat.le_refl _, hl, fun j _ hj => by omega, Below.refl _ _⟩
  case round =>
    obtain ⟨k, r, hk, rfl, rfl, HL, hr, HA, HB⟩ := hrel
    by_cases hlt : k < L.length
    · have hB := unhide HB
      have hwk := (unhide HH).wk _ (List.getElem_mem hlt)
      have hne : L ≠ [] := by rintro rfl; simp at hlt
      obtain ⟨b0, o0, rfl, hcell⟩ := unhide HC hne
      have hcl := hcell k hlt
      obtain ⟨c, hcL⟩ : ∃ c, c = L[k] := ⟨_, rfl⟩
      simp only [← hcL] at hwk hcl
      have HcL := hide hcL
      obtain ⟨at2, cap2, et, _⟩ := hwk.t
      obtain ⟨ak2, capk, ek, _⟩ := hwk.k
      have hkb := hwk.kb
      have htb := hwk.tb
      obtain ⟨⟨at_, op, wide, a, bb, low, keys, tgts⟩, kv, tv⟩ := c
      simp only at et ek hkb htb
      subst et
      subst ek
      have x0 := hcl 0 (by omega)
      have x1 := hcl 1 (by omega)
      have x2 := hcl 2 (by omega)
      have x3 := hcl 3 (by omega)
      have x4 := hcl 4 (by omega)
      have x5 := hcl 5 (by omega)
      have x6 := hcl 6 (by omega)
      have x7 := hcl 7 (by omega)
      simp only [V.arr] at x0 x1 x2 x3 x4 x5 x6 x7
      simp at x0 x1 x2 x3 x4 x5 x6 x7
      have hb0 : b0 < w.heap.size := cell_lt x0
      have hcw : ∀ o, wr.cell? ⟨b0, o, none⟩ = w.cell? ⟨b0, o, none⟩ := fun o => hB.cell hb0
      rw [← hcw] at x0 x1 x2 x3 x4 x5 x6 x7
      obtain ⟨W2, hW2⟩ : ∃ W2, W2 = wr.alloc (.cells #[.int .i64 at_, .int .u8 (op : Int), .bool wide, .int .i64 a, .int .i64 bb, .int .i64 low, .slice ak2 keys.length capk, .slice at2 tgts.length cap2] 50) := ⟨_, rfl⟩
      have v2 : Vb W2 wr.heap.size ⟨⟨at_, op, wide, a, bb, low, keys, tgts⟩, .slice ak2 keys.length capk, .slice at2 tgts.length cap2⟩ := by rw [hW2]; exact heap_alloc_new wr _
      have hB2 : Below w.heap.size w W2 := by rw [hW2]; exact hB.alloc hB.size _
      have y6 := v2.cell 6
      have y7 := v2.cell 7
      simp [V.arr] at y6 y7
      have HB2 := hide hB2
      have ki : (k : Int) < (L.length : Int) := by omega
      clear hcl hcell hne hwk hcw hcL hB v2 hB2
      go_upto_region 5 with fail
      rw [← hW2]
      obtain ⟨p, ep⟩ : ∃ p, p = wr.heap.size := ⟨_, rfl⟩
      rw [← ep] at y6 y7 ⊢
      clear hW2 ep x0 x1 x2 x3 x4 x5 x6 x7
      by_cases hbig : 32768 < r + (keys.length + tgts.length)
      · have hbi : (32768 : Int) < (r : Int) + ((keys.length : Int) + (tgts.length : Int)) := by omega
        go_wp2
        go_ret
        refine ⟨r + (keys.length + tgts.length), ?_, by omega, fun e => by omega, unhide HB2⟩
        go_num
      · have hbi : ¬ (32768 : Int) < (r : Int) + ((keys.length : Int) + (tgts.length : Int)) := by omega
        have HL2 : Hid (L.length ≤ r + (keys.length + tgts.length)) := by have := unhide HL; unfold Hid; omega
        have HA2 : Hid (∀ j (hj : j < L.length), j < k + 1 → (L[j]).g.keys.length + (L[j]).g.tgts.length ≤ r + (keys.length + tgts.length)) := fun j hj h1 => by
          rcases Nat.lt_or_ge j k with h | h
          · have := unhide HA j hj h; omega
          · have : j = k := by omega
            subst this; rw [← unhide HcL]; simp only; omega
        go_wp2
        go_roundw
        case rel => exact ⟨k + 1, r + (keys.length + tgts.length), by omega, by go_num, by go_num, HL2, by omega, HA2, HB2⟩
        case measure => simp [intOf]; omega
    · have hkl : k = L.length := by omega
      subst hkl
      have ki : ¬ (L.length : Int) < (L.length : Int) := by omega
      go_wp2
      go_ret
      refine ⟨r, rfl, by omega, fun e => ⟨by have := unhide HL; omega, fun c hc => ?_⟩, unhide HB⟩
      obtain ⟨q, hq, rfl⟩ := List.getElem_of_mem hc
      have := unhide HA q hq hq
      omega

end Go.Proofs.YtejbnbilbagkmaaDoor.Cw
