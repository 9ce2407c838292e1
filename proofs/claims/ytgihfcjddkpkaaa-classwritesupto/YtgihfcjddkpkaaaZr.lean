/-
  ClassWrites: a class, from what it reads as: its parts.
-/
import Derived.Test.YtgihfcjddkpkaaaMgZq
namespace Go.Proofs.Ytgihfcjddkpkaaa.classWrites
open Go.ChangeShapes Go.WideShapes Go.ChangeAt Go.RowKit Cl
set_option linter.unusedVariables false
set_option linter.unusedSimpArgs false
section
variable {H : Type} {enc : TypeId × Value → H} {w : World}
set_option maxRecDepth 100000 in
/-- One constant. -/
theorem one_const {n : Nat} {cs : List Value} {d : DataW H} {pl : List MemPlace} (h : DataW.trod enc Try.prog w 0 (fun _ => true) true n 78 cs = some (d, pl)) :
    ∃ c : K, cs = c.cells ∧ ((c.tag < 256 ∧ c.a < 65536 ∧ c.b < 65536) ∧ c.bits < 2 ^ 64) ∧ ksz c + 1 ≤ Rows.uptoBulk d := by
  obtain ⟨xs, k, hk, hxy, hcl, hxl, hf⟩ := DataW.trod_struct Try.underlying78 h
  rw [c78] at hcl
  match xs, hxl, cs, hcl with
  | [y0, y1, y2, y3, y4], _, [v0, v1, v2, v3, v4], _ =>
    have g0 := hf 0 _ rfl
    have g1 := hf 1 _ rfl
    have g2 := hf 2 _ rfl
    have g3 := hf 3 _ rfl
    have g4 := hf 4 _ rfl
    simp [c5, c9, c73, c39] at g0 g1 g2 g3 g4
    obtain ⟨n0, e0, q0, p0⟩ := DataW.trod_int u5 g0
    obtain ⟨s1, e1, q1, p1⟩ := DataW.trod_string u9 g1
    obtain ⟨n2, e2, q2, p2⟩ := DataW.trod_int u73 g2
    obtain ⟨n3, e3, q3, p3⟩ := DataW.trod_int u39 g3
    obtain ⟨n4, e4, q4, p4⟩ := DataW.trod_int u39 g4
    simp only [List.cons.injEq, and_true] at e0 e1 e2 e3 e4
    subst e0 e1 e2 e3 e4 q0 q1 q2 q3 q4
    simp only [Prod.mk.injEq] at hxy
    obtain ⟨hd, _⟩ := hxy
    simp only [List.map_cons, List.map_nil] at hd
    have b0 := b8 p0
    have b2 := b64 p2
    have b3 := b16 p3
    have b4 := b16 p4
    refine ⟨⟨n0.toNat, s1.data.toList, n2.toNat, n3.toNat, n4.toNat⟩, ?_, ⟨⟨?_, ?_, ?_⟩, ?_⟩, ?_⟩
    · have t0 : ((n0.toNat : Nat) : Int) = n0 := by omega
      have t2 : ((n2.toNat : Nat) : Int) = n2 := by omega
      have t3 : ((n3.toNat : Nat) : Int) = n3 := by omega
      have t4 : ((n4.toNat : Nat) : Int) = n4 := by omega
      simp only [K.cells, t0, t2, t3, t4, Array.toArray_toList]
    · simp only; omega
    · simp only; omega
    · simp only; omega
    · simp only; omega
    · rw [hd]
      simp only [Rows.uptoBulk, Rows.uptoBulkAll, ksz]
      omega
theorem one_u16 {n : Nat} {cs : List Value} {d : DataW H} {pl : List MemPlace} (h : DataW.trod enc Try.prog w 0 (fun _ => true) true n 39 cs = some (d, pl)) :
    ∃ c : Nat, cs = Uc c ∧ c < 65536 ∧ (fun _ => 0) c + 1 ≤ Rows.uptoBulk d := by
  obtain ⟨n0, e0, q0, p0⟩ := DataW.trod_int u39 h
  have b0 := b16 p0
  refine ⟨n0.toNat, ?_, by omega, by have := bulk_pos d; simpa using this⟩
  have t0 : ((n0.toNat : Nat) : Int) = n0 := by omega
  rw [e0, Uc, t0]
set_option maxRecDepth 100000 in
theorem one_field {n : Nat} {cs : List Value} {d : DataW H} {pl : List MemPlace} (h : DataW.trod enc Try.prog w 0 (fun _ => true) true n 95 cs = some (d, pl)) :
    ∃ c : Fd, cs = Fc c ∧ FdOk c ∧ (fun _ => 0) c + 1 ≤ Rows.uptoBulk d := by
  obtain ⟨xs, k, hk, hxy, hcl, hxl, hf⟩ := DataW.trod_struct Try.underlying95 h
  rw [c95] at hcl
  match xs, hxl, cs, hcl with
  | [y0, y1, y2, y3], _, [v0, v1, v2, v3], _ =>
    have g0 := hf 0 _ rfl
    have g1 := hf 1 _ rfl
    have g2 := hf 2 _ rfl
    have g3 := hf 3 _ rfl
    simp [c39] at g0 g1 g2 g3
    obtain ⟨n0, e0, q0, p0⟩ := DataW.trod_int u39 g0
    obtain ⟨n1, e1, q1, p1⟩ := DataW.trod_int u39 g1
    obtain ⟨n2, e2, q2, p2⟩ := DataW.trod_int u39 g2
    obtain ⟨n3, e3, q3, p3⟩ := DataW.trod_int u39 g3
    simp only [List.cons.injEq, and_true] at e0 e1 e2 e3
    subst e0 e1 e2 e3 q0 q1 q2 q3
    have b0 := b16 p0
    have b1 := b16 p1
    have b2 := b16 p2
    have b3 := b16 p3
    refine ⟨⟨n0.toNat, n1.toNat, n2.toNat, n3.toNat⟩, ?_, ⟨?_, ?_, ?_, ?_⟩, by have := bulk_pos d; simpa using this⟩
    · have t0 : ((n0.toNat : Nat) : Int) = n0 := by omega
      have t1 : ((n1.toNat : Nat) : Int) = n1 := by omega
      have t2 : ((n2.toNat : Nat) : Int) = n2 := by omega
      have t3 : ((n3.toNat : Nat) : Int) = n3 := by omega
      simp only [Fc, t0, t1, t2, t3]
    · simp only; omega
    · simp only; omega
    · simp only; omega
    · simp only; omega
set_option maxRecDepth 100000 in
theorem one_hand {n : Nat} {cs : List Value} {d : DataW H} {pl : List MemPlace} (h : DataW.trod enc Try.prog w 0 (fun _ => true) true n 152 cs = some (d, pl)) :
    ∃ c : Hi, cs = c.cells ∧ c.Ok ∧ (fun _ => 0) c + 1 ≤ Rows.uptoBulk d := by
  obtain ⟨xs, k, hk, hxy, hcl, hxl, hf⟩ := DataW.trod_struct Try.underlying152 h
  rw [c152] at hcl
  match xs, hxl, cs, hcl with
  | [y0, y1, y2, y3], _, [v0, v1, v2, v3], _ =>
    have g0 := hf 0 _ rfl
    have g1 := hf 1 _ rfl
    have g2 := hf 2 _ rfl
    have g3 := hf 3 _ rfl
    simp [c39, c3] at g0 g1 g2 g3
    obtain ⟨n0, e0, q0, p0⟩ := DataW.trod_int u3 g0
    obtain ⟨n1, e1, q1, p1⟩ := DataW.trod_int u3 g1
    obtain ⟨n2, e2, q2, p2⟩ := DataW.trod_int u3 g2
    obtain ⟨n3, e3, q3, p3⟩ := DataW.trod_int u39 g3
    simp only [List.cons.injEq, and_true] at e0 e1 e2 e3
    subst e0 e1 e2 e3 q0 q1 q2 q3
    have b3 := b16 p3
    refine ⟨⟨n0, n1, n2, n3.toNat⟩, ?_, ⟨bi p0, bi p1, bi p2, ?_⟩, by have := bulk_pos d; simpa using this⟩
    · have t3 : ((n3.toNat : Nat) : Int) = n3 := by omega
      simp only [Hi.cells, t3]
    · simp only; omega
theorem sum_zero {α : Type} (l : List α) : (l.map (fun _ => 0)).sum = 0 := by
  induction l with
  | nil => rfl
  | cons x l ih => rw [List.map_cons, List.sum_cons, ih]
set_option maxRecDepth 100000 in
/-- A method's code, and where its handlers lie. -/
theorem one_code {n : Nat} {cs : List Value} {d : DataW H} {pl : List MemPlace} (h : DataW.trod enc Try.prog w 0 (fun _ => true) true n 99 cs = some (d, pl)) :
    ∃ (c : Ci) (hv : Value), cs = [.int .i64 c.stack, .int .i64 c.locals, .string ⟨c.bytes.toArray⟩, hv, .string ⟨c.map.toArray⟩] ∧ c.Ok ∧ FIn Hi.cells 4 Hi.zero w hv c.handlers ∧ c.bytes.length + c.map.length + c.handlers.length + 1 ≤ Rows.uptoBulk d := by
  obtain ⟨xs, k, hk, hxy, hcl, hxl, hf⟩ := DataW.trod_struct Try.underlying99 h
  rw [c99] at hcl
  match xs, hxl, cs, hcl with
  | [y0, y1, y2, y3, y4], _, [v0, v1, v2, v3, v4], _ =>
    have g0 := hf 0 _ rfl
    have g1 := hf 1 _ rfl
    have g2 := hf 2 _ rfl
    have g3 := hf 3 _ rfl
    have g4 := hf 4 _ rfl
    simp [c3, c9, c97] at g0 g1 g2 g3 g4
    obtain ⟨n0, e0, q0, p0⟩ := DataW.trod_int u3 g0
    obtain ⟨n1, e1, q1, p1⟩ := DataW.trod_int u3 g1
    obtain ⟨s2, e2, q2, p2⟩ := DataW.trod_string u9 g2
    obtain ⟨s4, e4, q4, p4⟩ := DataW.trod_string u9 g4
    simp only [List.cons.injEq, and_true] at e0 e1 e2 e4
    subst e0 e1 e2 e4 q0 q1 q2 q4
    obtain ⟨d3, l3⟩ := y3
    obtain ⟨hs, hF, hok, hsum⟩ := is_slice (f := Hi.cells) (z := 4) (d0 := Hi.zero) (g := fun _ => 0) (Q := Hi.Ok) Try.underlying97 c152 (by decide) (fun h => one_hand h) g3
    rw [sum_zero] at hsum
    simp only [Prod.mk.injEq] at hxy
    obtain ⟨hd, _⟩ := hxy
    simp only [List.map_cons, List.map_nil] at hd
    refine ⟨⟨n0, n1, s2.data.toList, hs, s4.data.toList⟩, v3, ?_, ⟨bi p0, bi p1, hok⟩, hF, ?_⟩
    · simp only [Array.toArray_toList]
    · rw [hd]
      simp only [Rows.uptoBulk, Rows.uptoBulkAll]
      omega
set_option maxRecDepth 100000 in
/-- One method. -/
theorem one_method {n : Nat} {cs : List Value} {d : DataW H} {pl : List MemPlace} (h : DataW.trod enc Try.prog w 0 (fun _ => true) true n 101 cs = some (d, pl)) :
    ∃ j : Mv, cs = j.cells ∧ (j.m.Ok ∧ FIn Hi.cells 4 Hi.zero w j.hv j.m.code.handlers) ∧ (fun j : Mv => msz j.m) j + 1 ≤ Rows.uptoBulk d := by
  obtain ⟨xs, k, hk, hxy, hcl, hxl, hf⟩ := DataW.trod_struct Try.underlying101 h
  rw [c101] at hcl
  match xs, hxl, cs, hcl with
  | [y0, y1, y2, y3, y4], _, [v0, v1, v2, v3, v4, v5, v6, v7, v8], _ =>
    have g0 := hf 0 _ rfl
    have g1 := hf 1 _ rfl
    have g2 := hf 2 _ rfl
    have g3 := hf 3 _ rfl
    have g4 := hf 4 _ rfl
    simp [c39, c4, c99] at g0 g1 g2 g3 g4
    obtain ⟨n0, e0, q0, p0⟩ := DataW.trod_int u39 g0
    obtain ⟨n1, e1, q1, p1⟩ := DataW.trod_int u39 g1
    obtain ⟨n2, e2, q2, p2⟩ := DataW.trod_int u39 g2
    obtain ⟨n3, e3, q3⟩ := DataW.trod_bool u4 g3
    simp only [List.cons.injEq, and_true] at e0 e1 e2 e3
    subst e0 e1 e2 e3 q0 q1 q2 q3
    obtain ⟨d4, l4⟩ := y4
    obtain ⟨c, hv, ec, hco, hF, hsum⟩ := one_code g4
    simp only [List.cons.injEq, and_true] at ec
    obtain ⟨rfl, rfl, rfl, rfl, rfl⟩ := ec
    simp only [Prod.mk.injEq] at hxy
    obtain ⟨hd, _⟩ := hxy
    simp only [List.map_cons, List.map_nil] at hd
    have b0 := b16 p0
    have b1 := b16 p1
    have b2 := b16 p2
    refine ⟨⟨⟨n0.toNat, n1.toNat, n2.toNat, n3, c⟩, v7⟩, ?_, ⟨⟨?_, ?_, ?_, hco⟩, hF⟩, ?_⟩
    · have t0 : ((n0.toNat : Nat) : Int) = n0 := by omega
      have t1 : ((n1.toNat : Nat) : Int) = n1 := by omega
      have t2 : ((n2.toNat : Nat) : Int) = n2 := by omega
      simp only [Mv.cells, t0, t1, t2]
    · simp only; omega
    · simp only; omega
    · simp only; omega
    · rw [hd]
      simp only [Rows.uptoBulk, Rows.uptoBulkAll, msz]
      omega
set_option maxRecDepth 100000 in
/-- A class. -/
theorem is_class {n : Nat} {cs : List Value} {d : DataW H} {pl : List MemPlace} (h : DataW.trod enc Try.prog w 0 (fun _ => true) true n 44 cs = some (d, pl)) :
    ∃ (c : Csi) (vp vi vf vm : Value) (L : List Mv), .agg cs.toArray = clv c vp vi vf vm ∧ Cin w c vp vi vf vm L ∧ c.Ok ∧ (∀ k ∈ c.pool, k.bits < 2 ^ 64) ∧ c.size ≤ Rows.uptoBulk d := by
  obtain ⟨xs, k, hk, hxy, hcl, hxl, hf⟩ := DataW.trod_struct Try.underlying44 h
  rw [c44] at hcl
  match xs, hxl, cs, hcl with
  | [y0, y1, y2, y3, y4, y5, y6, y7, y8], _, [v0, v1, v2, v3, v4, v5, v6, v7, v8], _ =>
    have g0 := hf 0 _ rfl
    have g1 := hf 1 _ rfl
    have g2 := hf 2 _ rfl
    have g3 := hf 3 _ rfl
    have g4 := hf 4 _ rfl
    have g5 := hf 5 _ rfl
    have g6 := hf 6 _ rfl
    have g7 := hf 7 _ rfl
    have g8 := hf 8 _ rfl
    simp [c39, c22, c40, c41, c42] at g0 g1 g2 g3 g4 g5 g6 g7 g8
    obtain ⟨n0, e0, q0, p0⟩ := DataW.trod_int u39 g0
    obtain ⟨n1, e1, q1, p1⟩ := DataW.trod_int u39 g1
    obtain ⟨n2, e2, q2, p2⟩ := DataW.trod_int u39 g2
    obtain ⟨n3, e3, q3, p3⟩ := DataW.trod_int u39 g3
    obtain ⟨n4, e4, q4, p4⟩ := DataW.trod_int u39 g4
    simp only [List.cons.injEq, and_true] at e0 e1 e2 e3 e4
    subst e0 e1 e2 e3 e4 q0 q1 q2 q3 q4
    obtain ⟨d5, l5⟩ := y5
    obtain ⟨d6, l6⟩ := y6
    obtain ⟨d7, l7⟩ := y7
    obtain ⟨d8, l8⟩ := y8
    obtain ⟨P, hP, okP, sP⟩ := is_slice (f := K.cells) (z := 5) (d0 := K.zero) (g := ksz) (Q := fun c => (c.tag < 256 ∧ c.a < 65536 ∧ c.b < 65536) ∧ c.bits < 2 ^ 64) Try.underlying22 c78 (by decide) (fun h => one_const h) g5
    obtain ⟨I, hI, okI, sI⟩ := is_slice (f := Uc) (z := 1) (d0 := 0) (g := fun _ => 0) (Q := fun c => c < 65536) Try.underlying40 c39 (by decide) (fun h => one_u16 h) g6
    obtain ⟨F, hF, okF, sF⟩ := is_slice (f := Fc) (z := 4) (d0 := Fz) (g := fun _ => 0) (Q := FdOk) Try.underlying41 c95 (by decide) (fun h => one_field h) g7
    obtain ⟨L, hL, okL, sL⟩ := is_slice (f := Mv.cells) (z := 9) (d0 := Mv.zero) (g := fun j => msz j.m) (Q := fun j => j.m.Ok ∧ FIn Hi.cells 4 Hi.zero w j.hv j.m.code.handlers) Try.underlying42 c101 (by decide) (fun h => one_method h) g8
    rw [sum_zero] at sI sF
    have b0 := b16 p0
    have b1 := b16 p1
    have b2 := b16 p2
    have b3 := b16 p3
    have b4 := b16 p4
    simp only [Prod.mk.injEq] at hxy
    obtain ⟨hd, _⟩ := hxy
    simp only [List.map_cons, List.map_nil] at hd
    refine ⟨⟨n0.toNat, n1.toNat, P, n2.toNat, n3.toNat, n4.toNat, I, F, L.map Mv.m⟩, v5, v6, v7, v8, L, ?_, ⟨⟨fun c hc => (okP c hc).1, hP⟩, hI, hF, hL, fun j hj => (okL j hj).2, rfl⟩, ⟨?_, ?_, ?_, ?_, ?_, okI, okF, fun m hm => ?_⟩, fun k hk => (okP k hk).2, ?_⟩
    · have t0 : ((n0.toNat : Nat) : Int) = n0 := by omega
      have t1 : ((n1.toNat : Nat) : Int) = n1 := by omega
      have t2 : ((n2.toNat : Nat) : Int) = n2 := by omega
      have t3 : ((n3.toNat : Nat) : Int) = n3 := by omega
      have t4 : ((n4.toNat : Nat) : Int) = n4 := by omega
      simp only [clv, t0, t1, t2, t3, t4]
    · simp only; omega
    · simp only; omega
    · simp only; omega
    · simp only; omega
    · simp only; omega
    · obtain ⟨j, hj, rfl⟩ := List.mem_map.1 hm
      exact (okL j hj).1
    · rw [hd]
      have e1 : ((L.map Mv.m).map msz).sum = (L.map (fun j => msz j.m)).sum := by rw [List.map_map]; rfl
      simp only [Csi.size, Rows.uptoBulk, Rows.uptoBulkAll, List.length_map]
      rw [e1]
      omega
end
end Go.Proofs.Ytgihfcjddkpkaaa.classWrites
