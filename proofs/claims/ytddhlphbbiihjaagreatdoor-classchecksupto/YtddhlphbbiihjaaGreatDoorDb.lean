/-
  A class from what it reads as (carried from 715d5bd).
-/
import Derived.Test.YtddhlphbbiihjaaGreatDoorRows
import Derived.Test.YtddhlphbbiihjaaGreatDoorDa
set_option linter.unusedVariables false
set_option linter.unusedSimpArgs false
namespace Go.Proofs.YtddhlphbbiihjaaGreatDoor.Cl
open Go.RowKit Go.Maps Kn
theorem own : ownKnob Tryz.prog.godebug = none := by kernel_rfl
theorem laidOut : laidOutB Tryz.prog = true := by kernel_rfl
theorem u3 : Tryz.prog.underlying 3 = some (.int .i64) := by kernel_rfl
theorem u4 : Tryz.prog.underlying 4 = some .bool := by kernel_rfl
theorem u5 : Tryz.prog.underlying 5 = some (.int .u8) := by kernel_rfl
theorem u9 : Tryz.prog.underlying 9 = some .string := by kernel_rfl
theorem u73 : Tryz.prog.underlying 36 = some (.int .u64) := by kernel_rfl
theorem u39 : Tryz.prog.underlying 22 = some (.int .u16) := by kernel_rfl
theorem c3 : Tryz.prog.cellsOf 3 = 1 := by kernel_rfl
theorem c4 : Tryz.prog.cellsOf 4 = 1 := by kernel_rfl
theorem c5 : Tryz.prog.cellsOf 5 = 1 := by kernel_rfl
theorem c9 : Tryz.prog.cellsOf 9 = 1 := by kernel_rfl
theorem c73 : Tryz.prog.cellsOf 36 = 1 := by kernel_rfl
theorem c39 : Tryz.prog.cellsOf 22 = 1 := by kernel_rfl
theorem c78 : Tryz.prog.cellsOf 38 = 5 := by kernel_rfl
theorem c95 : Tryz.prog.cellsOf 52 = 4 := by kernel_rfl
theorem c101 : Tryz.prog.cellsOf 43 = 9 := by kernel_rfl
theorem c99 : Tryz.prog.cellsOf 41 = 5 := by kernel_rfl
theorem c97 : Tryz.prog.cellsOf 39 = 1 := by kernel_rfl
theorem c152 : Tryz.prog.cellsOf 98 = 4 := by kernel_rfl
theorem c22 : Tryz.prog.cellsOf 23 = 1 := by kernel_rfl
theorem c40 : Tryz.prog.cellsOf 24 = 1 := by kernel_rfl
theorem c41 : Tryz.prog.cellsOf 25 = 1 := by kernel_rfl
theorem c42 : Tryz.prog.cellsOf 26 = 1 := by kernel_rfl
theorem c44 : Tryz.prog.cellsOf 28 = 9 := by kernel_rfl
theorem b8 {n : Int} (h : (Lit.int .u8 n).wf = true) : 0 ≤ n ∧ n ≤ 255 := by simpa [Lit.wf, IntKind.min, IntKind.max, IntKind.signed, IntKind.bits] using h
theorem b16 {n : Int} (h : (Lit.int .u16 n).wf = true) : 0 ≤ n ∧ n ≤ 65535 := by simpa [Lit.wf, IntKind.min, IntKind.max, IntKind.signed, IntKind.bits] using h
theorem b64 {n : Int} (h : (Lit.int .u64 n).wf = true) : 0 ≤ n ∧ n ≤ 18446744073709551615 := by simpa [Lit.wf, IntKind.min, IntKind.max, IntKind.signed, IntKind.bits] using h
theorem bi {n : Int} (h : (Lit.int .i64 n).wf = true) : Okx n := by
  have h1 : -9223372036854775808 ≤ n ∧ n ≤ 9223372036854775807 := by simpa [Lit.wf, IntKind.min, IntKind.max, IntKind.signed, IntKind.bits] using h
  exact ⟨h1.1, by omega⟩
section
variable {H : Type} {enc : TypeId × Value → H} {w : World}
/-- Whatever is read is of bulk 1 at least. -/
theorem bulk_pos (d : DataW H) : 1 ≤ Rows.uptoBulk d := by
  cases d with
  | lit l => cases l <;> simp [Rows.uptoBulk]
  | _ => simp [Rows.uptoBulk]
end
section
variable {H : Type} {enc : TypeId × Value → H} {w : World}
end
section
variable {H : Type} {enc : TypeId × Value → H} {w : World}
theorem bulk_sum {α : Type} (g : α → Nat) (F : Nat → α) (D : Nat → DataW H) : ∀ l : List Nat, (∀ i ∈ l, g (F i) + 1 ≤ Rows.uptoBulk (D i)) → ((l.map F).map g).sum + l.length ≤ Rows.uptoBulkAll (l.map D)
  | [], _ => by simp
  | i :: l, h => by
    have h1 := bulk_sum g F D l (fun j hj => h j (List.mem_cons_of_mem _ hj))
    have h2 := h i List.mem_cons_self
    simp only [List.map_cons, List.sum_cons, List.length_cons, Rows.uptoBulkAll]
    omega
end
section
variable {H : Type} {enc : TypeId × Value → H} {w : World}
/-- A list of structs, from what it reads as. -/
theorem is_slice {α : Type} {f : α → List Value} {z : Nat} {d0 : α} {g : α → Nat} {Q : α → Prop} {t e : TypeId} (hu : Tryz.prog.underlying t = some (.slice e)) (hz : Tryz.prog.cellsOf e = z) (h0 : 0 < z)
    (one : ∀ {n : Nat} {cs : List Value} {d : DataW H} {pl : List MemPlace}, DataW.trod enc Tryz.prog w 0 (fun _ => true) true n e cs = some (d, pl) → ∃ x : α, cs = f x ∧ Q x ∧ g x + 1 ≤ Rows.uptoBulk d)
    {v : Value} {fuel : Nat} {d : DataW H} {pl : List MemPlace} (h : DataW.trod enc Tryz.prog w 0 (fun _ => true) true fuel t [v] = some (d, pl)) :
    ∃ l : List α, FIn f z d0 w v l ∧ (∀ x ∈ l, Q x) ∧ (l.map g).sum + l.length + 1 ≤ Rows.uptoBulk d := by
  rcases Go.Deep.open_slice hu h with ⟨h0, hd⟩ | ⟨x, len, cap', m, n, D, Pl, hcs, hb, hl, hm, hmm, hx, hall⟩
  · simp only [List.cons.injEq, and_true] at h0
    subst h0
    exact ⟨[], ⟨none, 0, rfl, fun hne => absurd rfl hne⟩, (fun _ h => by cases h), by simpa using bulk_pos d⟩
  simp only [List.cons.injEq, and_true] at hcs
  subst hcs
  simp only [if_true] at hmm
  subst hmm
  simp only [Prod.mk.injEq] at hx
  rw [hx.1, Rows.uptoBulk]
  have each : ∀ i, i < len → ∃ c : α, (∀ j, j < z → w.cell? (x.add (i * z + j)) = (f c)[j]?) ∧ (f c).length = z ∧ Q c ∧ g c + 1 ≤ Rows.uptoBulk (D i) := fun i hi => by
    obtain ⟨cs', g1, g2⟩ := hall i (by omega)
    rw [hz] at g1
    obtain ⟨_, g4, g3⟩ := World.cells?_some g1
    obtain ⟨c, rfl, hc⟩ := one g2
    exact ⟨c, fun j hj => by rw [← Go.Deep.add_add]; exact g3 j hj, g4, hc⟩
  haveI : Inhabited α := ⟨d0⟩
  obtain ⟨F, hF⟩ := Go.Deep.choose_lt each
  obtain ⟨b, off, spot⟩ := x
  refine ⟨(List.range len).map F, ⟨some ⟨b, off, spot⟩, m, by simp, fun hne => ?_⟩, fun c hc => ?_, ?_⟩
  · have hpos : 0 < len := by
      rcases Nat.eq_zero_or_pos len with e | e
      · subst e; simp at hne
      · exact e
    have h00 := (hF 0 hpos).1 0 h0
    have hlen := (hF 0 hpos).2.1
    have hspot : spot = none := by
      have h1 : (f (F 0))[0]? = some ((f (F 0))[0]'(by omega)) := List.getElem?_eq_getElem _
      rw [h1] at h00
      have := World.cell?_spot h00
      simpa [Addr.add] using this
    subst hspot
    refine ⟨b, off, rfl, fun k hk i hi => ?_⟩
    have hk' : k < len := by simpa using hk
    have := (hF k hk').1 i hi
    rw [Addr.add_lit] at this
    rw [show off + k * z + i = off + (k * z + i) by omega, this]
    simp [List.getD, hk']
  · obtain ⟨i, hi, rfl⟩ := List.mem_map.1 hc
    exact (hF i (List.mem_range.1 hi)).2.2.1
  · have := bulk_sum g F D (List.range len) (fun i hi => (hF i (List.mem_range.1 hi)).2.2.2)
    rw [List.length_range] at this
    rw [List.length_map, List.length_range]
    omega
end
section
variable {H : Type} {enc : TypeId × Value → H} {w : World}
set_option maxRecDepth 100000 in
/-- One constant. -/
theorem one_const {n : Nat} {cs : List Value} {d : DataW H} {pl : List MemPlace} (h : DataW.trod enc Tryz.prog w 0 (fun _ => true) true n 38 cs = some (d, pl)) :
    ∃ c : K, cs = c.cells ∧ ((c.tag < 256 ∧ c.a < 65536 ∧ c.b < 65536) ∧ c.bits < 2 ^ 64) ∧ ksz c + 1 ≤ Rows.uptoBulk d := by
  obtain ⟨xs, k, hk, hxy, hcl, hxl, hf⟩ := DataW.trod_struct Tryz.underlying38 h
  rw [c78] at hcl
  match xs, hxl, cs, hcl with
  | [y0, y1, y2, y3, y4], _, [v0, v1, v2, v3, v4], _ =>
    have g0 := hf 0 _ rfl
    have g1 := hf 1 _ rfl
    have g2 := hf 2 _ rfl
    have g3 := hf 3 _ rfl
    have g4 := hf 4 _ rfl
    simp [c5, c9, c73, c39] at g0 g1 g2 g3 g4
    obtain ⟨n0, e0, q0, p0⟩ := DataW.trod_int u5 g0
    obtain ⟨s1, e1, q1, p1⟩ := DataW.trod_string u9 g1
    obtain ⟨n2, e2, q2, p2⟩ := DataW.trod_int u73 g2
    obtain ⟨n3, e3, q3, p3⟩ := DataW.trod_int u39 g3
    obtain ⟨n4, e4, q4, p4⟩ := DataW.trod_int u39 g4
    simp only [List.cons.injEq, and_true] at e0 e1 e2 e3 e4
    subst e0 e1 e2 e3 e4 q0 q1 q2 q3 q4
    simp only [Prod.mk.injEq] at hxy
    obtain ⟨hd, _⟩ := hxy
    simp only [List.map_cons, List.map_nil] at hd
    have b0 := b8 p0
    have b2 := b64 p2
    have b3 := b16 p3
    have b4 := b16 p4
    refine ⟨⟨n0.toNat, s1.data.toList, n2.toNat, n3.toNat, n4.toNat⟩, ?_, ⟨⟨?_, ?_, ?_⟩, ?_⟩, ?_⟩
    · have t0 : ((n0.toNat : Nat) : Int) = n0 := by omega
      have t2 : ((n2.toNat : Nat) : Int) = n2 := by omega
      have t3 : ((n3.toNat : Nat) : Int) = n3 := by omega
      have t4 : ((n4.toNat : Nat) : Int) = n4 := by omega
      simp only [K.cells, t0, t2, t3, t4, Array.toArray_toList]
    · simp only; omega
    · simp only; omega
    · simp only; omega
    · simp only; omega
    · rw [hd]
      simp only [Rows.uptoBulk, Rows.uptoBulkAll, ksz]
      omega
end
section
variable {H : Type} {enc : TypeId × Value → H} {w : World}
theorem one_u16 {n : Nat} {cs : List Value} {d : DataW H} {pl : List MemPlace} (h : DataW.trod enc Tryz.prog w 0 (fun _ => true) true n 22 cs = some (d, pl)) :
    ∃ c : Nat, cs = Uc c ∧ c < 65536 ∧ (fun _ => 0) c + 1 ≤ Rows.uptoBulk d := by
  obtain ⟨n0, e0, q0, p0⟩ := DataW.trod_int u39 h
  have b0 := b16 p0
  refine ⟨n0.toNat, ?_, by omega, by have := bulk_pos d; simpa using this⟩
  have t0 : ((n0.toNat : Nat) : Int) = n0 := by omega
  rw [e0, Uc, t0]
end
section
variable {H : Type} {enc : TypeId × Value → H} {w : World}
set_option maxRecDepth 100000 in
theorem one_field {n : Nat} {cs : List Value} {d : DataW H} {pl : List MemPlace} (h : DataW.trod enc Tryz.prog w 0 (fun _ => true) true n 52 cs = some (d, pl)) :
    ∃ c : Fd, cs = Fc c ∧ FdOk c ∧ (fun _ => 0) c + 1 ≤ Rows.uptoBulk d := by
  obtain ⟨xs, k, hk, hxy, hcl, hxl, hf⟩ := DataW.trod_struct Tryz.underlying52 h
  rw [c95] at hcl
  match xs, hxl, cs, hcl with
  | [y0, y1, y2, y3], _, [v0, v1, v2, v3], _ =>
    have g0 := hf 0 _ rfl
    have g1 := hf 1 _ rfl
    have g2 := hf 2 _ rfl
    have g3 := hf 3 _ rfl
    simp [c39] at g0 g1 g2 g3
    obtain ⟨n0, e0, q0, p0⟩ := DataW.trod_int u39 g0
    obtain ⟨n1, e1, q1, p1⟩ := DataW.trod_int u39 g1
    obtain ⟨n2, e2, q2, p2⟩ := DataW.trod_int u39 g2
    obtain ⟨n3, e3, q3, p3⟩ := DataW.trod_int u39 g3
    simp only [List.cons.injEq, and_true] at e0 e1 e2 e3
    subst e0 e1 e2 e3 q0 q1 q2 q3
    have b0 := b16 p0
    have b1 := b16 p1
    have b2 := b16 p2
    have b3 := b16 p3
    refine ⟨⟨n0.toNat, n1.toNat, n2.toNat, n3.toNat⟩, ?_, ⟨?_, ?_, ?_, ?_⟩, by have := bulk_pos d; simpa using this⟩
    · have t0 : ((n0.toNat : Nat) : Int) = n0 := by omega
      have t1 : ((n1.toNat : Nat) : Int) = n1 := by omega
      have t2 : ((n2.toNat : Nat) : Int) = n2 := by omega
      have t3 : ((n3.toNat : Nat) : Int) = n3 := by omega
      simp only [Fc, t0, t1, t2, t3]
    · simp only; omega
    · simp only; omega
    · simp only; omega
    · simp only; omega
end
section
variable {H : Type} {enc : TypeId × Value → H} {w : World}
set_option maxRecDepth 100000 in
theorem one_hand {n : Nat} {cs : List Value} {d : DataW H} {pl : List MemPlace} (h : DataW.trod enc Tryz.prog w 0 (fun _ => true) true n 98 cs = some (d, pl)) :
    ∃ c : Hi, cs = c.cells ∧ c.Ok ∧ (fun _ => 0) c + 1 ≤ Rows.uptoBulk d := by
  obtain ⟨xs, k, hk, hxy, hcl, hxl, hf⟩ := DataW.trod_struct Tryz.underlying98 h
  rw [c152] at hcl
  match xs, hxl, cs, hcl with
  | [y0, y1, y2, y3], _, [v0, v1, v2, v3], _ =>
    have g0 := hf 0 _ rfl
    have g1 := hf 1 _ rfl
    have g2 := hf 2 _ rfl
    have g3 := hf 3 _ rfl
    simp [c39, c3] at g0 g1 g2 g3
    obtain ⟨n0, e0, q0, p0⟩ := DataW.trod_int u3 g0
    obtain ⟨n1, e1, q1, p1⟩ := DataW.trod_int u3 g1
    obtain ⟨n2, e2, q2, p2⟩ := DataW.trod_int u3 g2
    obtain ⟨n3, e3, q3, p3⟩ := DataW.trod_int u39 g3
    simp only [List.cons.injEq, and_true] at e0 e1 e2 e3
    subst e0 e1 e2 e3 q0 q1 q2 q3
    have b3 := b16 p3
    refine ⟨⟨n0, n1, n2, n3.toNat⟩, ?_, ⟨bi p0, bi p1, bi p2, ?_⟩, by have := bulk_pos d; simpa using this⟩
    · have t3 : ((n3.toNat : Nat) : Int) = n3 := by omega
      simp only [Hi.cells, t3]
    · simp only; omega
end
section
variable {H : Type} {enc : TypeId × Value → H} {w : World}
theorem sum_zero {α : Type} (l : List α) : (l.map (fun _ => 0)).sum = 0 := by
  induction l with
  | nil => rfl
  | cons x l ih => rw [List.map_cons, List.sum_cons, ih]
end
section
variable {H : Type} {enc : TypeId × Value → H} {w : World}
set_option maxRecDepth 100000 in
/-- A method's code, and where its handlers lie. -/
theorem one_code {n : Nat} {cs : List Value} {d : DataW H} {pl : List MemPlace} (h : DataW.trod enc Tryz.prog w 0 (fun _ => true) true n 41 cs = some (d, pl)) :
    ∃ (c : Ci) (hv : Value), cs = [.int .i64 c.stack, .int .i64 c.locals, .string ⟨c.bytes.toArray⟩, hv, .string ⟨c.map.toArray⟩] ∧ c.Ok ∧ FIn Hi.cells 4 Hi.zero w hv c.handlers ∧ c.bytes.length + c.map.length + c.handlers.length + 1 ≤ Rows.uptoBulk d := by
  obtain ⟨xs, k, hk, hxy, hcl, hxl, hf⟩ := DataW.trod_struct Tryz.underlying41 h
  rw [c99] at hcl
  match xs, hxl, cs, hcl with
  | [y0, y1, y2, y3, y4], _, [v0, v1, v2, v3, v4], _ =>
    have g0 := hf 0 _ rfl
    have g1 := hf 1 _ rfl
    have g2 := hf 2 _ rfl
    have g3 := hf 3 _ rfl
    have g4 := hf 4 _ rfl
    simp [c3, c9, c97] at g0 g1 g2 g3 g4
    obtain ⟨n0, e0, q0, p0⟩ := DataW.trod_int u3 g0
    obtain ⟨n1, e1, q1, p1⟩ := DataW.trod_int u3 g1
    obtain ⟨s2, e2, q2, p2⟩ := DataW.trod_string u9 g2
    obtain ⟨s4, e4, q4, p4⟩ := DataW.trod_string u9 g4
    simp only [List.cons.injEq, and_true] at e0 e1 e2 e4
    subst e0 e1 e2 e4 q0 q1 q2 q4
    obtain ⟨d3, l3⟩ := y3
    obtain ⟨hs, hF, hok, hsum⟩ := is_slice (f := Hi.cells) (z := 4) (d0 := Hi.zero) (g := fun _ => 0) (Q := Hi.Ok) Tryz.underlying39 c152 (by decide) (fun h => one_hand h) g3
    rw [sum_zero] at hsum
    simp only [Prod.mk.injEq] at hxy
    obtain ⟨hd, _⟩ := hxy
    simp only [List.map_cons, List.map_nil] at hd
    refine ⟨⟨n0, n1, s2.data.toList, hs, s4.data.toList⟩, v3, ?_, ⟨bi p0, bi p1, hok⟩, hF, ?_⟩
    · simp only [Array.toArray_toList]
    · rw [hd]
      simp only [Rows.uptoBulk, Rows.uptoBulkAll]
      omega
end
section
variable {H : Type} {enc : TypeId × Value → H} {w : World}
set_option maxRecDepth 100000 in
/-- One method. -/
theorem one_method {n : Nat} {cs : List Value} {d : DataW H} {pl : List MemPlace} (h : DataW.trod enc Tryz.prog w 0 (fun _ => true) true n 43 cs = some (d, pl)) :
    ∃ j : Mv, cs = j.cells ∧ (j.m.Ok ∧ FIn Hi.cells 4 Hi.zero w j.hv j.m.code.handlers) ∧ (fun j : Mv => msz j.m) j + 1 ≤ Rows.uptoBulk d := by
  obtain ⟨xs, k, hk, hxy, hcl, hxl, hf⟩ := DataW.trod_struct Tryz.underlying43 h
  rw [c101] at hcl
  match xs, hxl, cs, hcl with
  | [y0, y1, y2, y3, y4], _, [v0, v1, v2, v3, v4, v5, v6, v7, v8], _ =>
    have g0 := hf 0 _ rfl
    have g1 := hf 1 _ rfl
    have g2 := hf 2 _ rfl
    have g3 := hf 3 _ rfl
    have g4 := hf 4 _ rfl
    simp [c39, c4, c99] at g0 g1 g2 g3 g4
    obtain ⟨n0, e0, q0, p0⟩ := DataW.trod_int u39 g0
    obtain ⟨n1, e1, q1, p1⟩ := DataW.trod_int u39 g1
    obtain ⟨n2, e2, q2, p2⟩ := DataW.trod_int u39 g2
    obtain ⟨n3, e3, q3⟩ := DataW.trod_bool u4 g3
    simp only [List.cons.injEq, and_true] at e0 e1 e2 e3
    subst e0 e1 e2 e3 q0 q1 q2 q3
    obtain ⟨d4, l4⟩ := y4
    obtain ⟨c, hv, ec, hco, hF, hsum⟩ := one_code g4
    simp only [List.cons.injEq, and_true] at ec
    obtain ⟨rfl, rfl, rfl, rfl, rfl⟩ := ec
    simp only [Prod.mk.injEq] at hxy
    obtain ⟨hd, _⟩ := hxy
    simp only [List.map_cons, List.map_nil] at hd
    have b0 := b16 p0
    have b1 := b16 p1
    have b2 := b16 p2
    refine ⟨⟨⟨n0.toNat, n1.toNat, n2.toNat, n3, c⟩, v7⟩, ?_, ⟨⟨?_, ?_, ?_, hco⟩, hF⟩, ?_⟩
    · have t0 : ((n0.toNat : Nat) : Int) = n0 := by omega
      have t1 : ((n1.toNat : Nat) : Int) = n1 := by omega
      have t2 : ((n2.toNat : Nat) : Int) = n2 := by omega
      simp only [Mv.cells, t0, t1, t2]
    · simp only; omega
    · simp only; omega
    · simp only; omega
    · rw [hd]
      simp only [Rows.uptoBulk, Rows.uptoBulkAll, msz]
      omega
end
section
variable {H : Type} {enc : TypeId × Value → H} {w : World}
set_option maxRecDepth 100000 in
/-- A class. -/
theorem is_class {n : Nat} {cs : List Value} {d : DataW H} {pl : List MemPlace} (h : DataW.trod enc Tryz.prog w 0 (fun _ => true) true n 28 cs = some (d, pl)) :
    ∃ (c : Csi) (vp vi vf vm : Value) (L : List Mv), .agg cs.toArray = clv c vp vi vf vm ∧ Cin w c vp vi vf vm L ∧ c.Ok ∧ (∀ k ∈ c.pool, k.bits < 2 ^ 64) ∧ c.size ≤ Rows.uptoBulk d := by
  obtain ⟨xs, k, hk, hxy, hcl, hxl, hf⟩ := DataW.trod_struct Tryz.underlying28 h
  rw [c44] at hcl
  match xs, hxl, cs, hcl with
  | [y0, y1, y2, y3, y4, y5, y6, y7, y8], _, [v0, v1, v2, v3, v4, v5, v6, v7, v8], _ =>
    have g0 := hf 0 _ rfl
    have g1 := hf 1 _ rfl
    have g2 := hf 2 _ rfl
    have g3 := hf 3 _ rfl
    have g4 := hf 4 _ rfl
    have g5 := hf 5 _ rfl
    have g6 := hf 6 _ rfl
    have g7 := hf 7 _ rfl
    have g8 := hf 8 _ rfl
    simp [c39, c22, c40, c41, c42] at g0 g1 g2 g3 g4 g5 g6 g7 g8
    obtain ⟨n0, e0, q0, p0⟩ := DataW.trod_int u39 g0
    obtain ⟨n1, e1, q1, p1⟩ := DataW.trod_int u39 g1
    obtain ⟨n2, e2, q2, p2⟩ := DataW.trod_int u39 g2
    obtain ⟨n3, e3, q3, p3⟩ := DataW.trod_int u39 g3
    obtain ⟨n4, e4, q4, p4⟩ := DataW.trod_int u39 g4
    simp only [List.cons.injEq, and_true] at e0 e1 e2 e3 e4
    subst e0 e1 e2 e3 e4 q0 q1 q2 q3 q4
    obtain ⟨d5, l5⟩ := y5
    obtain ⟨d6, l6⟩ := y6
    obtain ⟨d7, l7⟩ := y7
    obtain ⟨d8, l8⟩ := y8
    obtain ⟨P, hP, okP, sP⟩ := is_slice (f := K.cells) (z := 5) (d0 := K.zero) (g := ksz) (Q := fun c => (c.tag < 256 ∧ c.a < 65536 ∧ c.b < 65536) ∧ c.bits < 2 ^ 64) Tryz.underlying23 c78 (by decide) (fun h => one_const h) g5
    obtain ⟨I, hI, okI, sI⟩ := is_slice (f := Uc) (z := 1) (d0 := 0) (g := fun _ => 0) (Q := fun c => c < 65536) Tryz.underlying24 c39 (by decide) (fun h => one_u16 h) g6
    obtain ⟨F, hF, okF, sF⟩ := is_slice (f := Fc) (z := 4) (d0 := Fz) (g := fun _ => 0) (Q := FdOk) Tryz.underlying25 c95 (by decide) (fun h => one_field h) g7
    obtain ⟨L, hL, okL, sL⟩ := is_slice (f := Mv.cells) (z := 9) (d0 := Mv.zero) (g := fun j => msz j.m) (Q := fun j => j.m.Ok ∧ FIn Hi.cells 4 Hi.zero w j.hv j.m.code.handlers) Tryz.underlying26 c101 (by decide) (fun h => one_method h) g8
    rw [sum_zero] at sI sF
    have b0 := b16 p0
    have b1 := b16 p1
    have b2 := b16 p2
    have b3 := b16 p3
    have b4 := b16 p4
    simp only [Prod.mk.injEq] at hxy
    obtain ⟨hd, _⟩ := hxy
    simp only [List.map_cons, List.map_nil] at hd
    refine ⟨⟨n0.toNat, n1.toNat, P, n2.toNat, n3.toNat, n4.toNat, I, F, L.map Mv.m⟩, v5, v6, v7, v8, L, ?_, ⟨⟨fun c hc => (okP c hc).1, hP⟩, hI, hF, hL, fun j hj => (okL j hj).2, rfl⟩, ⟨?_, ?_, ?_, ?_, ?_, okI, okF, fun m hm => ?_⟩, fun k hk => (okP k hk).2, ?_⟩
    · have t0 : ((n0.toNat : Nat) : Int) = n0 := by omega
      have t1 : ((n1.toNat : Nat) : Int) = n1 := by omega
      have t2 : ((n2.toNat : Nat) : Int) = n2 := by omega
      have t3 : ((n3.toNat : Nat) : Int) = n3 := by omega
      have t4 : ((n4.toNat : Nat) : Int) = n4 := by omega
      simp only [clv, t0, t1, t2, t3, t4]
    · simp only; omega
    · simp only; omega
    · simp only; omega
    · simp only; omega
    · simp only; omega
    · obtain ⟨j, hj, rfl⟩ := List.mem_map.1 hm
      exact (okL j hj).1
    · rw [hd]
      have e1 : ((L.map Mv.m).map msz).sum = (L.map (fun j => msz j.m)).sum := by rw [List.map_map]; rfl
      simp only [Csi.size, Rows.uptoBulk, Rows.uptoBulkAll, List.length_map]
      rw [e1]
      omega
end

end Go.Proofs.YtddhlphbbiihjaaGreatDoor.Cl
