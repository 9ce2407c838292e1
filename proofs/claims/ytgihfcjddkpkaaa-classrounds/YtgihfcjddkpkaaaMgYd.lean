/-
  Package class: what is written: how long a code is.
  Package class: what is written: a field.
  Package class: what is written: fields, code, methods.
  Package class: what is written: code.
-/
import Derived.Test.YtgihfcjddkpkaaaMgXf
import Derived.Test.YtgihfcjddkpkaaaYa
import Derived.Deep.RegionHeld3
namespace Go.Proofs.Ytgihfcjddkpkaaa.Cl
set_option linter.unusedVariables false
open Go.RowKit
set_option maxHeartbeats 1000000 in
set_option maxRecDepth 100000 in
theorem codeLength_any (a b : Int) (bs mp : List UInt8) (ha : Option Addr) (hn hc : Nat) (w : World) (hb : bs.length ≤ 1000000) (hm : mp.length ≤ 1000000) (hh : hn ≤ 1000000) :
    Calls Try.prog 110 #[.agg #[.int .i64 a, .int .i64 b, .string ⟨bs.toArray⟩, .slice ha hn hc, .string ⟨mp.toArray⟩]] w fun x w' => x = .returned (.int .i64 ((12 + bs.length + 8 * hn + (if mp = [] then 0 else 6 + mp.length) : Nat) : Int)) ∧ w' = w.alloc (.cells #[.int .i64 a, .int .i64 b, .string ⟨bs.toArray⟩, .slice ha hn hc, .string ⟨mp.toArray⟩] 99) := by
  by_cases hmp : mp = []
  · subst hmp
    rw [if_pos rfl]
    have hv : (8 + (bs.length : Int) + 2 + 8 * (hn : Int) + 2) = ((12 + bs.length + 8 * hn + 0 : Nat) : Int) := by omega
    have HV := hide hv
    clear hv
    go_enter Try.func110, Try.ntmps110
    go_wp2
    go_ret
    exact ⟨by rw [unhide HV]; simp, rfl⟩
  · have hme : mp.isEmpty = false := by cases mp with | nil => exact absurd rfl hmp | cons x xs => rfl
    rw [if_neg hmp]
    have hv : (8 + (bs.length : Int) + 2 + 8 * (hn : Int) + 2 + (6 + (mp.length : Int))) = ((12 + bs.length + 8 * hn + (6 + mp.length) : Nat) : Int) := by omega
    have HV := hide hv
    clear hv
    go_enter Try.func110, Try.ntmps110
    go_wp2
    go_ret
    exact ⟨by rw [unhide HV]; rfl, rfl⟩
end Go.Proofs.Ytgihfcjddkpkaaa.Cl
namespace Go.Proofs.Ytgihfcjddkpkaaa.Cl
set_option linter.unusedVariables false
open Go.RowKit Go.Maps
def Okx (x : Int) : Prop := -9223372036854775808 ≤ x ∧ x < 9223372036854775808
theorem Okx.nat {n : Nat} (h : n < 9223372036854775808) : Okx (n : Int) := ⟨by omega, by omega⟩
/-- Numbers of a slice that was just laid. -/
theorem nums2 {B W m : Nat} {P : List K} {o : M.Wo} {w : World} (h : Wm B P w W m o) (hW : W < B) (xs : List Int) (hl : o.l.length + 2 * xs.length ≤ 1000000) (hx : ∀ x ∈ xs, Okx x) (c : Nat) :
    Calls Try.prog 49 #[.pointer (some ⟨W, 0, none⟩), .int .i64 2, .slice (some ⟨w.heap.size, 0, none⟩) xs.length c] (w.alloc (.cells (xs.map fun (x : Int) => Value.int .i64 x).toArray 3)) fun e w' => e = .returned (.tuple #[]) ∧ Wm B P w' W m (M.wnums o 2 xs) ∧ Fx B W w w' := by
  refine (numbers2_any B W w.heap.size c (.map (some m)) o xs (w.alloc (.cells (xs.map fun (x : Int) => Value.int .i64 x).toArray 3)) (h.c.alloc _) hW hl hx (by have := h.c.lt; omega) (heap_alloc_new w _)).mono ?_
  rintro e w' ⟨rfl, h1, f1⟩
  have hf := (Fx.alloc B W w (.cells (xs.map fun (x : Int) => Value.int .i64 x).toArray 3)).trans f1
  exact ⟨rfl, h.fx hf h1, hf⟩
theorem nums4 {B W m : Nat} {P : List K} {o : M.Wo} {w : World} (h : Wm B P w W m o) (hW : W < B) (xs : List Int) (hl : o.l.length + 4 * xs.length ≤ 1000000) (hx : ∀ x ∈ xs, Okx x) (c : Nat) :
    Calls Try.prog 49 #[.pointer (some ⟨W, 0, none⟩), .int .i64 4, .slice (some ⟨w.heap.size, 0, none⟩) xs.length c] (w.alloc (.cells (xs.map fun (x : Int) => Value.int .i64 x).toArray 3)) fun e w' => e = .returned (.tuple #[]) ∧ Wm B P w' W m (M.wnums o 4 xs) ∧ Fx B W w w' := by
  refine (numbers4_any B W w.heap.size c (.map (some m)) o xs (w.alloc (.cells (xs.map fun (x : Int) => Value.int .i64 x).toArray 3)) (h.c.alloc _) hW hl hx (by have := h.c.lt; omega) (heap_alloc_new w _)).mono ?_
  rintro e w' ⟨rfl, h1, f1⟩
  have hf := (Fx.alloc B W w (.cells (xs.map fun (x : Int) => Value.int .i64 x).toArray 3)).trans f1
  exact ⟨rfl, h.fx hf h1, hf⟩
theorem wtxt {B W m : Nat} {P : List K} {o : M.Wo} {w : World} (h : Wm B P w W m o) (hW : W < B) (s : List UInt8) (hl : o.l.length + s.length ≤ 1000000) :
    Calls Try.prog 50 #[.pointer (some ⟨W, 0, none⟩), .string ⟨s.toArray⟩] w fun e w' => e = .returned (.tuple #[]) ∧ Wm B P w' W m (M.wtext o s) ∧ Fx B W w w' := by
  refine (text_any B W (.map (some m)) o s w h.c hW hl).mono ?_
  rintro e w' ⟨rfl, h1, f1⟩
  exact ⟨rfl, h.fx f1 h1, f1⟩
theorem noatt {B W m : Nat} {P : List K} {o : M.Wo} {w : World} (h : Wm B P w W m o) (hW : W < B) (hl : o.l.length + 2 ≤ 1000000) (f : Value) (name : ByteArray) (ln : Int) :
    Calls Try.prog 108 #[.pointer (some ⟨W, 0, none⟩), .bool false, .string name, .int .i64 ln, f] w fun e w' => e = .returned (.tuple #[]) ∧ Wm B P w' W m (M.wnums o 2 [0]) ∧ Fx B W w w' := by
  refine (attributes_no B W (.map (some m)) f o name ln w h.c hW hl).mono ?_
  rintro e w' ⟨rfl, h1, f1⟩
  exact ⟨rfl, h.fx f1 h1, f1⟩
/-- A block that the writer leaves as it is. -/
theorem fxb {B W : Nat} {w w' : World} {g : Nat} {cs : Array Value} {t : TypeId} (h : Bk w g cs t) (hf : Fx B W w w') (hg : g ≠ W) (ht : t ≠ 5) : Bk w' g cs t :=
  hf.rest g _ h hg (.inr (by intro c fr e; cases e; exact ht rfl))
set_option maxRecDepth 100000 in
set_option maxHeartbeats 1000000 in
theorem field1_any (B W m b0 b1 : Nat) (P : List K) (o : M.Wo) (f : Fd) (w : World) (h : Wm B P w W m o) (hW : W < B) (hl : o.l.length + 2 ≤ 1000000) (hv : f.value < 65536)
    (h0 : Bk w b0 #[.pointer (some ⟨W, 0, none⟩)] 155) (h1 : Bk w b1 #[.int .u16 (f.flags : Int), .int .u16 (f.name : Int), .int .u16 (f.type_ : Int), .int .u16 (f.value : Int)] 95) :
    Calls Try.prog 109 #[.pointer (some ⟨b0, 0, none⟩), .pointer (some ⟨b1, 0, none⟩)] w fun e w' => e = .returned (.tuple #[]) ∧ Wm B P w' W m (M.wnums o 2 [(f.value : Int)]) ∧ Fx B W w w' := by
  have c0 : w.cell? ⟨b0, 0, none⟩ = some (.pointer (some ⟨W, 0, none⟩)) := h0.cell 0
  have c1 : w.cell? ⟨b1, 3, none⟩ = some (.int .u16 (f.value : Int)) := h1.cell 3
  have HN := hide (nums2 h hW [(f.value : Int)] (by simpa using hl) (by intro x hx; simp at hx; subst hx; exact Okx.nat (by omega)) 1)
  clear h h0 h1
  go_enter Try.func109, Try.ntmps109
  go_wp2_with fail
  refine (unhide HN).mono ?_
  rintro e w1 ⟨rfl, h1, f1⟩
  have H1 := hide (And.intro h1 f1)
  clear h1 f1 HN
  go_wp2
  go_end0
  exact ⟨rfl, (unhide H1).1, (unhide H1).2⟩
end Go.Proofs.Ytgihfcjddkpkaaa.Cl
namespace Go.Proofs.Ytgihfcjddkpkaaa.Cl
set_option linter.unusedVariables false
open Go.RowKit Go.Maps
structure FdOk (f : Fd) : Prop where
  a : f.flags < 65536
  b : f.name < 65536
  c : f.type_ < 65536
  d : f.value < 65536
set_option maxRecDepth 100000 in
set_option maxHeartbeats 2000000 in
theorem field_any (B W m : Nat) (P : List K) (o : M.Wo) (f : Fd) (w : World) (h : Wm B P w W m o) (hW : W < B) (hP : P.length ≤ 1048576) (hl : o.l.length + 200 ≤ 1000000) (hf : FdOk f) :
    Calls Try.prog 86 #[.pointer (some ⟨W, 0, none⟩), .agg #[.int .u16 (f.flags : Int), .int .u16 (f.name : Int), .int .u16 (f.type_ : Int), .int .u16 (f.value : Int)]] w fun e w' => e = .returned (.tuple #[]) ∧ Wm B P w' W m (M.wfld P o f) ∧ Fx B W w w' := by
  obtain ⟨q1, q2, q3, q4⟩ := hf
  have hWl := h.c.lt
  obtain ⟨wA, hwA⟩ : ∃ wA, wA = (w.alloc (.cells #[.pointer (some ⟨W, 0, none⟩)] 155)).alloc (.cells #[.int .u16 (f.flags : Int), .int .u16 (f.name : Int), .int .u16 (f.type_ : Int), .int .u16 (f.value : Int)] 95) := ⟨_, rfl⟩
  have hA : Wm B P wA W m o := by rw [hwA]; exact (h.alloc _).alloc _
  have fA : Fx B W w wA := by rw [hwA]; exact (Fx.alloc B W w _).trans (Fx.alloc B W _ _)
  have b0 : Bk wA w.heap.size #[.pointer (some ⟨W, 0, none⟩)] 155 := by rw [hwA]; exact (Bk.new w _ _).alloc _
  have b1 : Bk wA (w.heap.size + 1) #[.int .u16 (f.flags : Int), .int .u16 (f.name : Int), .int .u16 (f.type_ : Int), .int .u16 (f.value : Int)] 95 := by
    have := Bk.new (w.alloc (.cells #[.pointer (some ⟨W, 0, none⟩)] 155)) #[.int .u16 (f.flags : Int), .int .u16 (f.name : Int), .int .u16 (f.type_ : Int), .int .u16 (f.value : Int)] 95
    rw [hwA]; simpa using this
  have HN := hide (nums2 hA hW [(f.flags : Int), (f.name : Int), (f.type_ : Int)] (by simp; omega) (by intro x hx; simp at hx; rcases hx with rfl | rfl | rfl <;> exact Okx.nat (by omega)) 3)
  have c0 := b0.cell 0
  have c1 := b1.cell 0
  have c2 := b1.cell 1
  have c3 := b1.cell 2
  have c4 := b1.cell 3
  simp at c0 c1 c2 c3 c4
  have HA := hide hwA
  have HB := hide (And.intro b0 b1)
  have HF := hide fA
  clear h hA b0 b1 hwA fA
  go_enter Try.func86, Try.ntmps86
  go_upto_region 1 with fail
  rw [← unhide HA]
  clear HA
  go_wp2_with fail
  refine (unhide HN).mono ?_
  rintro e w1 ⟨rfl, h1, f1⟩
  have hl1 : (M.wnums o 2 [(f.flags : Int), (f.name : Int), (f.type_ : Int)]).l.length + 100 ≤ 1000000 := by rw [M.wnums_len]; simp; omega
  have hwf : M.wfld P o f = if f.value = 0 then M.wnums (M.wnums o 2 [(f.flags : Int), (f.name : Int), (f.type_ : Int)]) 2 [0] else M.wnums (M.whead P (M.wnums o 2 [(f.flags : Int), (f.name : Int), (f.type_ : Int)]) M.valueN 2) 2 [(f.value : Int)] := rfl
  generalize M.wnums o 2 [(f.flags : Int), (f.name : Int), (f.type_ : Int)] = o1 at *
  have e0 := fxb (unhide HB).1 f1 (by omega) (by decide)
  have e1 := fxb (unhide HB).2 f1 (by omega) (by decide)
  have d0 := e0.cell 0
  have d4 := e1.cell 3
  simp at d0 d4
  clear c0 c1 c2 c3 c4 HN HB
  have F1 := hide ((unhide HF).trans f1)
  by_cases hv : f.value = 0
  · rw [if_pos hv] at hwf
    have Hq := hide hwf
    have n0 : (((f.value : Int) != 0) : Bool) = false := by rw [bne_eq_false_iff_eq]; omega
    have n1 : ((f.value : Int) == 0) = true := by rw [beq_iff_eq]; omega
    have HC := hide (fun f n l => noatt h1 hW (by omega) f n l)
    clear hwf hv e0 e1 HF f1
    go_wp2_with fail
    refine (unhide HC _ _ _).mono ?_
    rintro e w2 ⟨rfl, h2, f2⟩
    have H2 := hide (And.intro h2 ((unhide F1).trans f2))
    clear h2 f2 HC h1 F1
    go_wp2
    go_end0
    exact ⟨rfl, by rw [unhide Hq]; exact (unhide H2).1, (unhide H2).2⟩
  · rw [if_neg hv] at hwf
    have Hq := hide hwf
    have n0 : (((f.value : Int) != 0) : Bool) = true := by rw [bne_iff_ne]; omega
    have n1 : ((f.value : Int) == 0) = false := by rw [beq_eq_false_iff_ne]; omega
    have hlh : (M.whead P o1 M.valueN 2).l.length + 2 ≤ 1000000 := by rw [M.whead_len]; omega
    have HC := hide (attributes109_any B W m P o1 (M.wnums (M.whead P o1 M.valueN 2) 2 [(f.value : Int)]) M.valueN 2 (.pointer (some ⟨w.heap.size, 0, none⟩)) (.pointer (some ⟨w.heap.size + 1, 0, none⟩)) w1 h1 hW hP (by decide) hl1 (by decide)
      (fun w2 h2 f2 => field1_any B W m w.heap.size (w.heap.size + 1) P (M.whead P o1 M.valueN 2) f w2 h2 hW hlh q4 (fxb e0 f2 (by omega) (by decide)) (fxb e1 f2 (by omega) (by decide))))
    unfold M.valueN at HC
    clear hwf hv e0 e1 HF f1
    go_wp2_with fail
    refine (unhide HC).mono ?_
    rintro e w2 ⟨rfl, h2, f2⟩
    have H2 := hide (And.intro h2 ((unhide F1).trans f2))
    clear h2 f2 HC h1 F1
    go_wp2
    go_end0
    exact ⟨rfl, by rw [unhide Hq]; exact (unhide H2).1, (unhide H2).2⟩
end Go.Proofs.Ytgihfcjddkpkaaa.Cl
namespace Go.Proofs.Ytgihfcjddkpkaaa.Cl
set_option linter.unusedVariables false
open Go.RowKit Go.Maps
/-- What lay below stays, whatever the writer does. -/
theorem Fx.below {B W N : Nat} {w0 w w' : World} (hf : Fx B W w w') (hb : Below N w0 w) (hN : N ≤ w0.heap.size) (hNW : N ≤ W) (hW : W < B) : Below N w0 w' := by
  refine ⟨hf.os.trans hb.os, hf.tape.trans hb.tape, hf.output.trans hb.output, Nat.le_trans hb.size hf.size, fun k hk => ?_⟩
  have h1 := hb.block k hk
  have h2 : w0.heap[k]? = some (w0.heap[k]'(by omega)) := Array.getElem?_eq_getElem _
  rw [h2] at h1 ⊢
  exact hf.rest k _ h1 (by omega) (.inl (by omega))
/-- A list of structs that can be read. -/
def FIn {α : Type} (f : α → List Value) (z : Nat) (d : α) (w : World) (v : Value) (l : List α) : Prop :=
  ∃ ad cap, v = .slice ad l.length cap ∧ (l ≠ [] → ∃ b o, ad = some ⟨b, o, none⟩ ∧ ∀ k, k < l.length → ∀ i, i < z → w.cell? ⟨b, o + k * z + i, none⟩ = (f (l.getD k d))[i]?)
section
variable {α : Type} {f : α → List Value} {z : Nat} {d : α} {w w' : World} {v : Value} {l : List α}
theorem flat_at {α : Type} (f : α → List Value) (z : Nat) (hf : ∀ x, (f x).length = z) (d : α) : ∀ (l : List α) (k i : Nat), k < l.length → i < z → (l.flatMap f)[k * z + i]? = (f (l.getD k d))[i]?
  | [], k, i, h, _ => by simp at h
  | x :: l, 0, i, _, hi => by
    rw [List.flatMap_cons, Nat.zero_mul, Nat.zero_add, List.getElem?_append_left (by rw [hf]; exact hi)]; rfl
  | x :: l, k + 1, i, h, hi => by
    rw [List.flatMap_cons, List.getElem?_append_right (by rw [hf]; have : z ≤ (k + 1) * z := Nat.le_mul_of_pos_left z (Nat.succ_pos k); omega), hf]
    rw [show (k + 1) * z + i - z = k * z + i by rw [Nat.succ_mul]; omega]
    have := flat_at f z hf d l k i (by simpa using h) hi
    rw [this]; rfl
theorem FIn.of_row {B e : Nat} (hf : ∀ x, (f x).length = z) (h : w.ownsRow B e z v l.length (l.flatMap f)) : FIn f z d w v l := by
  rcases h.2 with ⟨rfl, h0⟩ | ⟨g, cap, cur, rfl, h1⟩
  · exact ⟨none, 0, by rw [h0], fun hne => absurd (List.length_eq_zero_iff.1 h0) hne⟩
  · refine ⟨_, _, rfl, fun _ => ⟨g, 0, rfl, fun k hk i hi => ?_⟩⟩
    have e := flat_at f z hf d l k i hk hi
    have hc : (f (l.getD k d))[i]? = some ((f (l.getD k d))[i]'(by rw [hf]; exact hi)) := List.getElem?_eq_getElem _
    rw [hc] at e ⊢
    have := h.cells (g := g) rfl (k * z + i) _ e
    rw [Addr.add_lit] at this
    rw [show 0 + k * z + i = 0 + (k * z + i) by omega]
    exact this
theorem FIn.nil : FIn f z d w (.slice none 0 0) ([] : List α) := ⟨none, 0, rfl, fun h => absurd rfl h⟩
theorem FIn.below (hf : ∀ x, (f x).length = z) (h : FIn f z d w v l) (hb : Below w.heap.size w w') : FIn f z d w' v l := by
  obtain ⟨ad, cap, e, h1⟩ := h
  refine ⟨ad, cap, e, fun hne => ?_⟩
  obtain ⟨b, o, e1, h2⟩ := h1 hne
  refine ⟨b, o, e1, fun k hk i hi => ?_⟩
  have hq := h2 k hk i hi
  have hc : (f (l.getD k d))[i]? = some ((f (l.getD k d))[i]'(by rw [hf]; exact hi)) := List.getElem?_eq_getElem _
  have hlt := cell_lt (hq.trans hc)
  rw [hb.cell hlt]
  exact hq
end
def Hi.cells (h : Hi) : List Value := [.int .i64 h.from_, .int .i64 h.to_, .int .i64 h.target, .int .u16 (h.type_ : Int)]
theorem Hi.len (h : Hi) : h.cells.length = 4 := rfl
def Hi.zero : Hi := ⟨0, 0, 0, 0⟩
structure Hi.Ok (h : Hi) : Prop where
  a : Okx h.from_
  b : Okx h.to_
  c : Okx h.target
  d : h.type_ < 65536
structure Ci.Ok (c : Ci) : Prop where
  a : Okx c.stack
  b : Okx c.locals
  h : ∀ x ∈ c.handlers, x.Ok
theorem foldl_take {α : Type} (f : M.Wo → α → M.Wo) (o : M.Wo) (l : List α) (d : α) {k : Nat} (hk : k < l.length) : (l.take (k + 1)).foldl f o = f ((l.take k).foldl f o) (l.getD k d) := by
  rw [List.take_add_one, List.getElem?_eq_getElem hk]
  simp only [Option.toList_some, List.foldl_append, List.foldl_cons, List.foldl_nil, List.getD, List.getElem?_eq_getElem hk, Option.getD_some]
set_option maxRecDepth 100000 in
set_option maxHeartbeats 1000000 in
theorem code1_any (B W m b0 b1 : Nat) (P : List K) (o : M.Wo) (s : List UInt8) (v0 v1 v2 v3 : Value) (w : World) (h : Wm B P w W m o) (hW : W < B) (hl : o.l.length + s.length ≤ 1000000)
    (h0 : Bk w b0 #[.pointer (some ⟨W, 0, none⟩)] 155) (h1 : Bk w b1 #[v0, v1, v2, v3, .string ⟨s.toArray⟩] 99) :
    Calls Try.prog 122 #[.pointer (some ⟨b0, 0, none⟩), .pointer (some ⟨b1, 0, none⟩)] w fun e w' => e = .returned (.tuple #[]) ∧ Wm B P w' W m (M.wtext o s) ∧ Fx B W w w' := by
  have c0 : w.cell? ⟨b0, 0, none⟩ = some (.pointer (some ⟨W, 0, none⟩)) := h0.cell 0
  have c1 : w.cell? ⟨b1, 4, none⟩ = some (.string ⟨s.toArray⟩) := h1.cell 4
  have HN := hide (wtxt h hW s hl)
  clear h h0 h1
  go_enter Try.func122, Try.ntmps122
  go_wp2_with fail
  refine (unhide HN).mono ?_
  rintro e w1 ⟨rfl, h1, f1⟩
  have H1 := hide (And.intro h1 f1)
  clear h1 f1 HN
  go_wp2
  go_end0
  exact ⟨rfl, (unhide H1).1, (unhide H1).2⟩
set_option maxRecDepth 100000 in
set_option maxHeartbeats 4000000 in
theorem code_any (B W m : Nat) (P : List K) (o : M.Wo) (c : Ci) (hv : Value) (w0 w : World) (h : Wm B P w W m o) (hW : W < B) (hP : P.length ≤ 1048576) (hl : o.l.length + M.clen c + 200 ≤ 1000000) (hc : c.Ok)
    (hb : Below w0.heap.size w0 w) (hw0 : w0.heap.size ≤ W) (hH : FIn Hi.cells 4 Hi.zero w0 hv c.handlers) :
    Calls Try.prog 112 #[.pointer (some ⟨W, 0, none⟩), .agg #[.int .i64 c.stack, .int .i64 c.locals, .string ⟨c.bytes.toArray⟩, hv, .string ⟨c.map.toArray⟩]] w fun e w' => e = .returned (.tuple #[]) ∧ Wm B P w' W m (M.wcode P o c) ∧ Fx B W w w' := by
  obtain ⟨ha, hcap, rfl, hhc⟩ := hH
  have hWl := h.c.lt
  obtain ⟨wA, hwA⟩ : ∃ wA, wA = (w.alloc (.cells #[.pointer (some ⟨W, 0, none⟩)] 155)).alloc (.cells #[.int .i64 c.stack, .int .i64 c.locals, .string ⟨c.bytes.toArray⟩, .slice ha c.handlers.length hcap, .string ⟨c.map.toArray⟩] 99) := ⟨_, rfl⟩
  have hA : Wm B P wA W m o := by rw [hwA]; exact (h.alloc _).alloc _
  have fA : Fx B W w wA := by rw [hwA]; exact (Fx.alloc B W w _).trans (Fx.alloc B W _ _)
  have b0 : Bk wA w.heap.size #[.pointer (some ⟨W, 0, none⟩)] 155 := by rw [hwA]; exact (Bk.new w _ _).alloc _
  have b1 : Bk wA (w.heap.size + 1) #[.int .i64 c.stack, .int .i64 c.locals, .string ⟨c.bytes.toArray⟩, .slice ha c.handlers.length hcap, .string ⟨c.map.toArray⟩] 99 := by
    have := Bk.new (w.alloc (.cells #[.pointer (some ⟨W, 0, none⟩)] 155)) #[.int .i64 c.stack, .int .i64 c.locals, .string ⟨c.bytes.toArray⟩, .slice ha c.handlers.length hcap, .string ⟨c.map.toArray⟩] 99
    rw [hwA]; simpa using this
  have hcl : 12 + c.bytes.length + 8 * c.handlers.length + (if c.map = [] then 0 else 6 + c.map.length) = M.clen c := rfl
  have HN := hide (nums2 hA hW [c.stack, c.locals] (by simp; omega) (by intro x hx; simp at hx; rcases hx with rfl | rfl; exact hc.a; exact hc.b) 2)
  have c0 := b0.cell 0
  have c1 := b1.cell 0
  have c2 := b1.cell 1
  simp at c0 c1 c2
  have HA := hide hwA
  have HB := hide (And.intro b0 b1)
  have HF := hide fA
  have hwc : M.wcode P o c = M.wmap P (M.whands (M.wnums (M.wtext (M.wnums (M.wnums o 2 [c.stack, c.locals]) 4 [(c.bytes.length : Int)]) c.bytes) 2 [(c.handlers.length : Int)]) c.handlers) c.map := rfl
  have Hwc := hide hwc
  have HBl := hide hb
  have Hhc := hide hhc
  have Hok := hide hc.h
  clear h hA b0 b1 hwA fA hwc hb hhc hc
  go_enter Try.func112, Try.ntmps112
  go_upto_region 1 with fail
  rw [← unhide HA]
  clear HA
  go_wp2_with fail
  refine (unhide HN).mono ?_
  rintro e w1 ⟨rfl, h1, f1⟩
  have l1 : (M.wnums o 2 [c.stack, c.locals]).l.length = o.l.length + 4 := by rw [M.wnums_len]; simp
  generalize M.wnums o 2 [c.stack, c.locals] = o1 at *
  clear HN c0 c1 c2
  have B1 := hide (And.intro (fxb (unhide HB).1 f1 (by omega) (by decide)) (fxb (unhide HB).2 f1 (by omega) (by decide)))
  have F1 := hide ((unhide HF).trans f1)
  have c0 := (unhide B1).1.cell 0
  have c1 := (unhide B1).2.cell 2
  simp at c0 c1
  have HN := hide (nums4 h1 hW [(c.bytes.length : Int)] (by simp; omega) (by intro x hx; simp at hx; subst hx; exact Okx.nat (by omega)) 1)
  clear HB HF f1 h1
  go_wp2_with fail
  refine (unhide HN).mono ?_
  rintro e w2 ⟨rfl, h2, f2⟩
  have l2 : (M.wnums o1 4 [(c.bytes.length : Int)]).l.length = o.l.length + 8 := by rw [M.wnums_len]; simp; omega
  generalize M.wnums o1 4 [(c.bytes.length : Int)] = o2 at *
  clear HN c0 c1 l1
  have B2 := hide (And.intro (fxb (unhide B1).1 f2 (by omega) (by decide)) (fxb (unhide B1).2 f2 (by omega) (by decide)))
  have F2 := hide ((unhide F1).trans f2)
  have c0 := (unhide B2).1.cell 0
  have c1 := (unhide B2).2.cell 2
  simp at c0 c1
  have HN := hide (wtxt h2 hW c.bytes (by omega))
  clear B1 F1 f2 h2
  go_wp2_with fail
  refine (unhide HN).mono ?_
  rintro e w3 ⟨rfl, h3, f3⟩
  have l3 := M.wtext_len o2 c.bytes
  generalize M.wtext o2 c.bytes = o3 at *
  clear HN c0 c1
  have B3 := hide (And.intro (fxb (unhide B2).1 f3 (by omega) (by decide)) (fxb (unhide B2).2 f3 (by omega) (by decide)))
  have F3 := hide ((unhide F2).trans f3)
  have c0 := (unhide B3).1.cell 0
  have c1 := (unhide B3).2.cell 3
  simp at c0 c1
  have HN := hide (nums2 h3 hW [(c.handlers.length : Int)] (by simp; omega) (by intro x hx; simp at hx; subst hx; exact Okx.nat (by omega)) 1)
  clear B2 F2 f3 h3
  go_wp2_with fail
  refine (unhide HN).mono ?_
  rintro e w4 ⟨rfl, h4, f4⟩
  have l4 : (M.wnums o3 2 [(c.handlers.length : Int)]).l.length = o3.l.length + 2 := by rw [M.wnums_len]; simp
  generalize M.wnums o3 2 [(c.handlers.length : Int)] = o4 at *
  clear HN c0 c1
  have B4 := hide (And.intro (fxb (unhide B3).1 f4 (by omega) (by decide)) (fxb (unhide B3).2 f4 (by omega) (by decide)))
  have F4 := hide ((unhide F3).trans f4)
  have c1 := (unhide B4).2.cell 3
  simp at c1
  have H4 := hide h4
  clear B3 F3 f4 h4
  go_wp2_with fail
  clear c1
  go_loopw [32] (fun i wr => ∃ k : Nat, k ≤ c.handlers.length ∧ i = .int .i64 k ∧ Hid (Wm B P wr W m (M.whands o4 (c.handlers.take k))) ∧ Hid (Fx B W w wr) ∧ Hid (Bk wr w.heap.size #[.pointer (some ⟨W, 0, none⟩)] 155 ∧ Bk wr (w.heap.size + 1) #[.int .i64 c.stack, .int .i64 c.locals, .string ⟨c.bytes.toArray⟩, .slice ha c.handlers.length hcap, .string ⟨c.map.toArray⟩] 99)) (fun i _ => c.handlers.length - (intOf i).toNat)
  case atStart => exact ⟨0, Nat.zero_le _, rfl, unhide H4, unhide F4, unhide B4⟩
  case round =>
    clear H4 F4 B4
    obtain ⟨k, hk, rfl, HWr, HFr, HBr⟩ := hrel
    by_cases hlt : k < c.handlers.length
    · have hne : c.handlers ≠ [] := by intro e; rw [e] at hlt; simp at hlt
      have hfx := FIn.below (f := Hi.cells) (z := 4) (d := Hi.zero) (v := .slice ha c.handlers.length hcap) (l := c.handlers) Hi.len ⟨ha, hcap, rfl, unhide Hhc⟩ ((unhide HFr).below (unhide HBl) (Nat.le_refl _) hw0 hW)
      obtain ⟨_, _, x1, G1⟩ := hfx
      cases x1
      obtain ⟨g1, o1', rfl, g2⟩ := G1 hne
      obtain ⟨x, hx⟩ : ∃ x, x = c.handlers.getD k Hi.zero := ⟨_, rfl⟩
      have hxm : x ∈ c.handlers := by rw [hx]; simp [List.getD, List.getElem?_eq_getElem hlt]
      have hxo := unhide Hok x hxm
      have s0 := g2 k hlt 0 (by omega)
      have s1 := g2 k hlt 1 (by omega)
      have s2 := g2 k hlt 2 (by omega)
      have s3 := g2 k hlt 3 (by omega)
      rw [← hx] at s0 s1 s2 s3
      simp [Hi.cells] at s0 s1 s2 s3
      have ki : (k : Int) < (c.handlers.length : Int) := by omega
      have hstep : M.whands o4 (c.handlers.take (k + 1)) = M.whand (M.whands o4 (c.handlers.take k)) x := by unfold M.whands; rw [hx]; exact foldl_take _ _ _ _ hlt
      have hwd : M.whand (M.whands o4 (c.handlers.take k)) x = M.wnums (M.whands o4 (c.handlers.take k)) 2 [x.from_, x.to_, x.target, (x.type_ : Int)] := rfl
      rw [hwd] at hstep
      have Hst := hide hstep
      have hlk := M.whands_len o4 (c.handlers.take k)
      rw [List.length_take] at hlk
      generalize M.whands o4 (c.handlers.take k) = ok at *
      obtain ⟨wB, hwB⟩ : ∃ wB, wB = wr.alloc (.cells #[.int .i64 x.from_, .int .i64 x.to_, .int .i64 x.target, .int .u16 (x.type_ : Int)] 152) := ⟨_, rfl⟩
      have hB1 : Wm B P wB W m ok := by rw [hwB]; exact (unhide HWr).alloc _
      have fB : Fx B W wr wB := by rw [hwB]; exact Fx.alloc B W wr _
      have bB : Bk wB wr.heap.size #[.int .i64 x.from_, .int .i64 x.to_, .int .i64 x.target, .int .u16 (x.type_ : Int)] 152 := by rw [hwB]; exact Bk.new wr _ _
      have HN := hide (nums2 hB1 hW [x.from_, x.to_, x.target, (x.type_ : Int)] (by simp; omega) (by intro y hy; simp at hy; rcases hy with rfl | rfl | rfl | rfl; exact hxo.a; exact hxo.b; exact hxo.c; exact Okx.nat (by have := hxo.d; omega)) 4)
      have hWr := (unhide HWr).c.lt
      have hszr := (unhide HFr).size
      have d0 := (fxb (unhide HBr).1 fB (by omega) (by decide)).cell 0
      have p0 := bB.cell 0
      have p1 := bB.cell 1
      have p2 := bB.cell 2
      have p3 := bB.cell 3
      simp at d0 p0 p1 p2 p3
      have hxd := hxo.d
      have HwB := hide hwB
      have HFB := hide ((unhide HFr).trans fB)
      have HBB := hide (And.intro (fxb (unhide HBr).1 fB (by omega) (by decide)) (fxb (unhide HBr).2 fB (by omega) (by decide)))
      clear hstep hwd hwB hB1 fB bB HWr HFr HBr hxm hxo g2 G1 hne hx hlk
      go_upto_region 8 with fail
      rw [← unhide HwB]
      clear HwB s0 s1 s2 s3
      go_wp2_with fail
      refine (unhide HN).mono ?_
      rintro e w5 ⟨rfl, h5, f5⟩
      rw [← unhide Hst] at h5
      have H5 := hide h5
      have F5 := hide ((unhide HFB).trans f5)
      have B5 := hide (And.intro (fxb (unhide HBB).1 f5 (by omega) (by decide)) (fxb (unhide HBB).2 f5 (by omega) (by decide)))
      clear h5 f5 HN HFB HBB d0 p0 p1 p2 p3
      go_wp2
      go_roundw
      case rel => exact ⟨k + 1, by omega, by go_num, unhide H5, unhide F5, unhide B5⟩
      case measure => simp [intOf]; omega
    · have hkl : k = c.handlers.length := by omega
      subst hkl
      rw [List.take_length] at HWr
      have ki : ¬ ((c.handlers.length : Nat) : Int) < ((c.handlers.length : Nat) : Int) := by omega
      have l5 := M.whands_len o4 c.handlers
      have hwm : M.wmap P (M.whands o4 c.handlers) c.map = if c.map = [] then M.wnums (M.whands o4 c.handlers) 2 [0] else M.wtext (M.whead P (M.whands o4 c.handlers) M.mapN (c.map.length : Int)) c.map := rfl
      rw [hwm] at Hwc
      clear hwm
      generalize M.whands o4 c.handlers = o5 at *
      have c0 := (unhide HBr).1.cell 0
      have c1 := (unhide HBr).2.cell 4
      simp at c0 c1
      have hszr := (unhide HFr).size
      by_cases hm : c.map = []
      · rw [if_pos hm] at Hwc
        have n0 : c.map.isEmpty = true := by rw [hm]; rfl
        rw [hm] at c1
        have HC := hide (fun f n l => noatt (unhide HWr) hW (by omega) f n l)
        clear hm HWr HBr
        go_wp2_with fail
        refine (unhide HC _ _ _).mono ?_
        rintro e w6 ⟨rfl, h6, f6⟩
        have H6 := hide (And.intro h6 ((unhide HFr).trans f6))
        clear h6 f6 HC HFr
        go_wp2
        go_end0
        exact ⟨rfl, by rw [unhide Hwc]; exact (unhide H6).1, (unhide H6).2⟩
      · rw [if_neg hm] at Hwc
        rw [if_neg hm] at hcl
        have n0 : c.map.isEmpty = false := by cases hq : c.map with | nil => exact absurd hq hm | cons x xs => rfl
        have hlh := M.whead_len P o5 M.mapN (c.map.length : Int)
        have HC := hide (attributes122_any B W m P o5 (M.wtext (M.whead P o5 M.mapN (c.map.length : Int)) c.map) M.mapN (c.map.length : Int) (.pointer (some ⟨w.heap.size, 0, none⟩)) (.pointer (some ⟨w.heap.size + 1, 0, none⟩)) wr (unhide HWr) hW hP (by decide) (by omega) (Okx.nat (by omega))
          (fun w6 h6 f6 => code1_any B W m w.heap.size (w.heap.size + 1) P (M.whead P o5 M.mapN (c.map.length : Int)) c.map _ _ _ _ w6 h6 hW (by omega) (fxb (unhide HBr).1 f6 (by omega) (by decide)) (fxb (unhide HBr).2 f6 (by omega) (by decide))))
        unfold M.mapN at HC
        clear hm HWr HBr hlh
        go_wp2_with fail
        refine (unhide HC).mono ?_
        rintro e w6 ⟨rfl, h6, f6⟩
        have H6 := hide (And.intro h6 ((unhide HFr).trans f6))
        clear h6 f6 HC HFr
        go_wp2
        go_end0
        exact ⟨rfl, by rw [unhide Hwc]; exact (unhide H6).1, (unhide H6).2⟩
end Go.Proofs.Ytgihfcjddkpkaaa.Cl
