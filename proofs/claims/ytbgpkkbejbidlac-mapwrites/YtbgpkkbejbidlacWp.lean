/-
  MapWrites: the row, of what the reference's WriteMap answers (WMS): its arguments, three lists of structs, opened at every index.
-/
import Derived.Test.YtbgpkkbejbidlacRows
import Derived.Test.YtbgpkkbejbidlacWy
import Derived.Deep.Slices
import Derived.SizedLaws
import Derived.WalkKit
import Derived.ProofKit
import Derived.OpenShut
import Derived.ShutString
import Derived.ChangeOld
import Derived.Below
namespace Go.Proofs.Ytbgpkkbejbidlac.mapWrites
open Go.ChangeShapes Go.WideShapes Go.ChangeAt Go.RowKit
open Go.ChangeMaps (open_string shut_string)
set_option linter.unusedVariables false

theorem own : ownKnob Try.prog.godebug = none := by kernel_rfl
theorem laidOut : laidOutB Try.prog = true := by kernel_rfl
theorem u5 : Try.prog.underlying 5 = some (.int .u8) := by kernel_rfl
theorem u9 : Try.prog.underlying 9 = some .string := by kernel_rfl
theorem u3 : Try.prog.underlying 3 = some (.int .i64) := by kernel_rfl
theorem u59 : Try.prog.underlying 73 = some (.int .u64) := by kernel_rfl
theorem u54 : Try.prog.underlying 39 = some (.int .u16) := by kernel_rfl
theorem c70 : Try.prog.cellsOf 78 = 5 := by kernel_rfl
theorem c25 : Try.prog.cellsOf 76 = 3 := by kernel_rfl
theorem c3 : Try.prog.cellsOf 3 = 1 := by kernel_rfl
theorem c5 : Try.prog.cellsOf 5 = 1 := by kernel_rfl
theorem c9 : Try.prog.cellsOf 9 = 1 := by kernel_rfl
theorem c59 : Try.prog.cellsOf 73 = 1 := by kernel_rfl
theorem c54 : Try.prog.cellsOf 39 = 1 := by kernel_rfl
theorem b70 : Try.prog.bytesOf 78 = 40 := by kernel_rfl
theorem b29 : Try.prog.bytesOf 29 = 56 := by kernel_rfl
theorem c29 : Try.prog.cellsOf 29 = 3 := by kernel_rfl
theorem c23 : Try.prog.cellsOf 23 = 1 := by kernel_rfl
theorem b25 : Try.prog.bytesOf 76 = 32 := by kernel_rfl
theorem reach : reachBytes = 140737488351232 := rfl
section
variable {H : Type} {enc : TypeId × Value → H} {w : World}
theorem all_weights {d : DataW H} {e : TypeId} : ∀ {ds : List (DataW H)}, d ∈ ds → ∀ m ∈ d.weights Try.prog e, m ∈ DataW.weightsAll Try.prog e ds
  | x :: ds, h, m, hm => by
    rw [DataW.weightsAll, List.mem_append]
    rcases List.mem_cons.1 h with rfl | h
    · exact .inl hm
    · exact .inr (all_weights h m hm)
set_option maxRecDepth 20000 in
/-- One constant, from what it reads as. -/
theorem one_const {n : Nat} {cs : List Value} {d : DataW H} {pl : List MemPlace} (h : DataW.trod enc Try.prog w 0 (fun _ => true) true n 78 cs = some (d, pl)) :
    ∃ c : K, cs = c.cells ∧ (c.tag < 256 ∧ c.a < 65536 ∧ c.b < 65536) ∧ Hid (c.text.length ≤ maxLen) := by
  obtain ⟨xs, k, hk, hxy, hcl, hxl, hf⟩ := DataW.trod_struct Try.underlying78 h
  rw [c70] at hcl
  match xs, hxl, cs, hcl with
  | [y0, y1, y2, y3, y4], _, [v0, v1, v2, v3, v4], _ =>
    have g0 := hf 0 _ rfl
    have g1 := hf 1 _ rfl
    have g2 := hf 2 _ rfl
    have g3 := hf 3 _ rfl
    have g4 := hf 4 _ rfl
    simp [c5, c9, c59, c54] at g0 g1 g2 g3 g4
    obtain ⟨n0, e0, q0, p0⟩ := DataW.trod_int u5 g0
    obtain ⟨s1, e1, q1, p1⟩ := DataW.trod_string u9 g1
    obtain ⟨n2, e2, q2, p2⟩ := DataW.trod_int u59 g2
    obtain ⟨n3, e3, q3, p3⟩ := DataW.trod_int u54 g3
    obtain ⟨n4, e4, q4, p4⟩ := DataW.trod_int u54 g4
    simp only [List.cons.injEq, and_true] at e0 e1 e2 e3 e4
    subst e0 e1 e2 e3 e4 q0 q1 q2 q3 q4
    have b0 := bounds_u8 p0
    have b2 := bounds_u64 p2
    have b3 := bounds_u16 p3
    have b4 := bounds_u16 p4
    refine ⟨⟨n0.toNat, s1.data.toList, n2.toNat, n3.toNat, n4.toNat⟩, ?_, ⟨?_, ?_, ?_⟩, by rw [Array.length_toList]; exact p1⟩
    · have t0 : ((n0.toNat : Nat) : Int) = n0 := by omega
      have t2 : ((n2.toNat : Nat) : Int) = n2 := by omega
      have t3 : ((n3.toNat : Nat) : Int) = n3 := by omega
      have t4 : ((n4.toNat : Nat) : Int) = n4 := by omega
      simp only [K.cells, t0, t2, t3, t4, Array.toArray_toList]
    · simp only; omega
    · simp only; omega
    · simp only; omega
set_option maxRecDepth 20000 in
/-- One type, from what it reads as. -/
theorem one_type {n : Nat} {cs : List Value} {d : DataW H} {pl : List MemPlace} (h : DataW.trod enc Try.prog w 0 (fun _ => true) true n 76 cs = some (d, pl)) : ∃ t : T, cs = t.cells ∧ t.tag < 256 ∧ Hid (t.name.length ≤ maxLen) := by
  obtain ⟨xs, k, hk, hxy, hcl, hxl, hf⟩ := DataW.trod_struct Try.underlying76 h
  rw [c25] at hcl
  match xs, hxl, cs, hcl with
  | [y0, y1, y2], _, [v0, v1, v2], _ =>
    have g0 := hf 0 _ rfl
    have g1 := hf 1 _ rfl
    have g2 := hf 2 _ rfl
    simp [c5, c9, c3] at g0 g1 g2
    obtain ⟨n0, e0, q0, p0⟩ := DataW.trod_int u5 g0
    obtain ⟨s1, e1, q1, p1⟩ := DataW.trod_string u9 g1
    obtain ⟨n2, e2, q2, p2⟩ := DataW.trod_int u3 g2
    simp only [List.cons.injEq, and_true] at e0 e1 e2
    subst e0 e1 e2 q0 q1 q2
    have b0 := bounds_u8 p0
    refine ⟨⟨n0.toNat, s1.data.toList, n2⟩, ?_, by simp only; omega, by rw [Array.length_toList]; exact p1⟩
    have t0 : ((n0.toNat : Nat) : Int) = n0 := by omega
    simp only [T.cells, t0, Array.toArray_toList]
/-- The pool, from what it reads as. -/
theorem is_pool {v : Value} {fuel : Nat} {d : DataW H} {pl : List MemPlace} (h : DataW.trod enc Try.prog w 0 (fun _ => true) true fuel 22 [v] = some (d, pl)) (hw : ∀ m ∈ d.weights Try.prog 22, m ≤ reachBytes) :
    ∃ P : List K, KIn w v P ∧ P.length * 40 ≤ 140737488355328 ∧ Txt P := by
  rcases Go.Deep.open_slice Try.underlying22 h with ⟨h0, _⟩ | ⟨x, len, cap', m, n, D, Pl, hcs, hb, hl, hm, hmm, hx, hall⟩
  · simp only [List.cons.injEq, and_true] at h0
    subst h0
    exact ⟨[], ⟨(fun _ h => by cases h), none, 0, rfl, fun hne => absurd rfl hne⟩, by simp, fun _ h => by cases h⟩
  simp only [List.cons.injEq, and_true] at hcs
  subst hcs
  simp only [if_true] at hmm
  subst hmm
  simp only [Prod.mk.injEq] at hx
  have hln : len * 40 ≤ reachBytes := by
    have := hw (((List.range len).map D).length + ((List.range (m - len)).map fun j => D (len + j)).length |> (· * Try.prog.bytesOf 78)) (by rw [hx.1]; simp [DataW.weights, Try.underlying22])
    simp [b70] at this
    omega
  have each : ∀ i, i < len → ∃ c : K, (∀ j, j < 5 → w.cell? (x.add (i * 5 + j)) = c.cells[j]?) ∧ (c.tag < 256 ∧ c.a < 65536 ∧ c.b < 65536) ∧ c.text.length ≤ maxLen := fun i hi => by
    obtain ⟨cs', g1, g2⟩ := hall i (by omega)
    rw [c70] at g1
    obtain ⟨_, _, g3⟩ := World.cells?_some g1
    obtain ⟨c, rfl, hc⟩ := one_const g2
    exact ⟨c, fun j hj => by rw [← Go.Deep.add_add]; exact g3 j hj, hc⟩
  haveI : Inhabited K := ⟨K.zero⟩
  obtain ⟨f, hf⟩ := Go.Deep.choose_lt each
  obtain ⟨b, off, spot⟩ := x
  refine ⟨(List.range len).map f, ⟨fun c hc => ?_, some ⟨b, off, spot⟩, m, by simp, fun hne => ?_⟩, by rw [reach] at hln; simp; omega, fun c hc => by obtain ⟨i, hi, rfl⟩ := List.mem_map.1 hc; exact (hf i (List.mem_range.1 hi)).2.2⟩
  · obtain ⟨i, hi, rfl⟩ := List.mem_map.1 hc
    exact (hf i (List.mem_range.1 hi)).2.1
  · have hpos : 0 < len := by
      rcases Nat.eq_zero_or_pos len with e | e
      · subst e; simp at hne
      · exact e
    have h00 := (hf 0 hpos).1 0 (by omega)
    have hspot : spot = none := by
      have := World.cell?_spot (show w.cell? _ = some _ from h00)
      simpa [Addr.add] using this
    subst hspot
    refine ⟨b, off, rfl, fun k hk i hi => ?_⟩
    have hk' : k < len := by simpa using hk
    have := (hf k hk').1 i hi
    rw [Addr.add_lit] at this
    rw [show off + k * 5 + i = off + (k * 5 + i) by omega, this]
    simp [List.getD, hk']
/-- The types, from what they read as. -/
theorem is_types {v : Value} {fuel : Nat} {d : DataW H} {pl : List MemPlace} (h : DataW.trod enc Try.prog w 0 (fun _ => true) true fuel 23 [v] = some (d, pl)) (hw : ∀ m ∈ d.weights Try.prog 23, m ≤ reachBytes) :
    ∃ L : List T, TIn w v L ∧ L.length ≤ 4398046511104 ∧ Tok L ∧ ∀ ad n c, v = .slice ad n c → n ≤ c := by
  rcases Go.Deep.open_slice Try.underlying23 h with ⟨h0, _⟩ | ⟨x, len, cap', m, n, D, Pl, hcs, hb, hl, hm, hmm, hx, hall⟩
  · simp only [List.cons.injEq, and_true] at h0
    subst h0
    exact ⟨[], ⟨none, 0, rfl, fun hne => absurd rfl hne⟩, by simp, (fun _ h => by cases h), fun ad n c e => by cases e; exact Nat.le_refl _⟩
  simp only [List.cons.injEq, and_true] at hcs
  subst hcs
  simp only [if_true] at hmm
  subst hmm
  simp only [Prod.mk.injEq] at hx
  have hln : len * 32 ≤ reachBytes := by
    have := hw (((List.range len).map D).length + ((List.range (m - len)).map fun j => D (len + j)).length |> (· * Try.prog.bytesOf 76)) (by rw [hx.1]; simp [DataW.weights, Try.underlying23])
    simp [b25] at this
    omega
  have each : ∀ i, i < len → ∃ c : T, (∀ j, j < 3 → w.cell? (x.add (i * 3 + j)) = c.cells[j]?) ∧ c.tag < 256 ∧ c.name.length ≤ maxLen := fun i hi => by
    obtain ⟨cs', g1, g2⟩ := hall i (by omega)
    rw [c25] at g1
    obtain ⟨_, _, g3⟩ := World.cells?_some g1
    obtain ⟨c, rfl, hc⟩ := one_type g2
    exact ⟨c, fun j hj => by rw [← Go.Deep.add_add]; exact g3 j hj, hc⟩
  haveI : Inhabited T := ⟨T.zero⟩
  obtain ⟨f, hf⟩ := Go.Deep.choose_lt each
  obtain ⟨b, off, spot⟩ := x
  refine ⟨(List.range len).map f, ⟨some ⟨b, off, spot⟩, m, by simp, fun hne => ?_⟩, by rw [reach] at hln; simp; omega, (fun c hc => by obtain ⟨i, hi, rfl⟩ := List.mem_map.1 hc; exact (hf i (List.mem_range.1 hi)).2), fun ad n c e => by cases e; exact hl⟩
  have hpos : 0 < len := by
    rcases Nat.eq_zero_or_pos len with e | e
    · subst e; simp at hne
    · exact e
  have h00 := (hf 0 hpos).1 0 (by omega)
  have hspot : spot = none := by
    have := World.cell?_spot (show w.cell? _ = some _ from h00)
    simpa [Addr.add] using this
  subst hspot
  refine ⟨b, off, rfl, fun k hk i hi => ?_⟩
  have hk' : k < len := by simpa using hk
  have := (hf k hk').1 i hi
  rw [Addr.add_lit] at this
  rw [show off + k * 3 + i = off + (k * 3 + i) by omega, this]
  simp [List.getD, hk']
set_option maxRecDepth 100000 in
/-- One frame, from what it reads as. -/
theorem one_frame {n : Nat} {cs : List Value} {d : DataW H} {pl : List MemPlace} (h : DataW.trod enc Try.prog w 0 (fun _ => true) true n 29 cs = some (d, pl)) (hw : ∀ m ∈ d.weights Try.prog 29, m ≤ reachBytes) :
    ∃ c : J, cs = c.cells ∧ TIn w c.lv c.f.locals ∧ TIn w c.sv c.f.stack ∧ c.f.locals.length ≤ 4398046511104 ∧ c.f.stack.length ≤ 4398046511104 ∧ Tok c.f.locals ∧ Tok c.f.stack ∧ ∀ ad n cp, c.lv = .slice ad n cp → n ≤ cp := by
  obtain ⟨xs, k, hk, hxy, hcl, hxl, hf⟩ := DataW.trod_struct Try.underlying29 h
  rw [c29] at hcl
  match xs, hxl, cs, hcl with
  | [y0, y1, y2], _, [v0, v1, v2], _ =>
    have g0 := hf 0 _ rfl
    have g1 := hf 1 _ rfl
    have g2 := hf 2 _ rfl
    simp [c3, c23] at g0 g1 g2
    obtain ⟨n0, e0, q0, p0⟩ := DataW.trod_int u3 g0
    simp only [List.cons.injEq, and_true] at e0
    subst e0 q0
    simp only [Prod.mk.injEq] at hxy
    obtain ⟨hd, _⟩ := hxy
    obtain ⟨d1, l1⟩ := y1
    obtain ⟨d2, l2⟩ := y2
    have h1 : ∀ m ∈ d1.weights Try.prog 23, m ≤ reachBytes := fun m hm => hw m (by
      rw [hd]
      simp only [List.map_cons, List.map_nil, DataW.weights, DataW.weightsEach, Try.underlying29]
      simp [hm])
    have h2 : ∀ m ∈ d2.weights Try.prog 23, m ≤ reachBytes := fun m hm => hw m (by
      rw [hd]
      simp only [List.map_cons, List.map_nil, DataW.weights, DataW.weightsEach, Try.underlying29]
      simp [hm])
    obtain ⟨A, a1, a2, a3, a4⟩ := is_types g1 h1
    obtain ⟨B, b1, b2, b3, _⟩ := is_types g2 h2
    exact ⟨⟨⟨n0, A, B⟩, v1, v2⟩, rfl, a1, b1, a2, b2, a3, b3, a4⟩
/-- The frames, from what they read as. -/
theorem is_frames {v : Value} {fuel : Nat} {d : DataW H} {pl : List MemPlace} (h : DataW.trod enc Try.prog w 0 (fun _ => true) true fuel 24 [v] = some (d, pl)) (hw : ∀ m ∈ d.weights Try.prog 24, m ≤ reachBytes) :
    ∃ L : List J, Has w v L ∧ L.length * 56 ≤ 140737488355328 ∧ (∀ j ∈ L, j.f.locals.length ≤ 4398046511104 ∧ j.f.stack.length ≤ 4398046511104) ∧ (∀ j ∈ L, Tok j.f.locals ∧ Tok j.f.stack) ∧ ∀ j ∈ L, ∀ ad n c, j.lv = .slice ad n c → n ≤ c := by
  rcases Go.Deep.open_slice Try.underlying24 h with ⟨h0, _⟩ | ⟨x, len, cap', m, n, D, Pl, hcs, hb, hl, hm, hmm, hx, hall⟩
  · simp only [List.cons.injEq, and_true] at h0
    subst h0
    exact ⟨[], ⟨⟨none, 0, rfl, fun hne => absurd rfl hne⟩, fun _ h => by cases h⟩, by simp, (fun _ h => by cases h), (fun _ h => by cases h), fun _ h => by cases h⟩
  simp only [List.cons.injEq, and_true] at hcs
  subst hcs
  simp only [if_true] at hmm
  subst hmm
  simp only [Prod.mk.injEq] at hx
  have hwd : ∀ i, i < len → ∀ k ∈ (D i).weights Try.prog 29, k ≤ reachBytes := fun i hi k hk => by
    refine hw k ?_
    rw [hx.1]
    simp only [DataW.weights, Try.underlying24, List.mem_cons, List.mem_append]
    exact .inr (.inl (all_weights (List.mem_map.2 ⟨i, List.mem_range.2 hi, rfl⟩) k hk))
  have hln : len * 56 ≤ reachBytes := by
    have := hw (((List.range len).map D).length + ((List.range (m - len)).map fun j => D (len + j)).length |> (· * Try.prog.bytesOf 29)) (by rw [hx.1]; simp [DataW.weights, Try.underlying24])
    simp [b29] at this
    omega
  have each : ∀ i, i < len → ∃ c : J, (∀ j, j < 3 → w.cell? (x.add (i * 3 + j)) = c.cells[j]?) ∧ TIn w c.lv c.f.locals ∧ TIn w c.sv c.f.stack ∧ c.f.locals.length ≤ 4398046511104 ∧ c.f.stack.length ≤ 4398046511104 ∧ Tok c.f.locals ∧ Tok c.f.stack ∧ ∀ ad n cp, c.lv = .slice ad n cp → n ≤ cp := fun i hi => by
    obtain ⟨cs', g1, g2⟩ := hall i (by omega)
    rw [c29] at g1
    obtain ⟨_, _, g3⟩ := World.cells?_some g1
    obtain ⟨c, rfl, hc⟩ := one_frame g2 (hwd i hi)
    exact ⟨c, fun j hj => by rw [← Go.Deep.add_add]; exact g3 j hj, hc⟩
  haveI : Inhabited J := ⟨⟨⟨0, [], []⟩, .slice none 0 0, .slice none 0 0⟩⟩
  obtain ⟨f, hf⟩ := Go.Deep.choose_lt each
  obtain ⟨b, off, spot⟩ := x
  have hmem : ∀ c ∈ (List.range len).map f, ∃ i, i < len ∧ f i = c := fun c hc => by
    obtain ⟨i, hi, e⟩ := List.mem_map.1 hc
    exact ⟨i, List.mem_range.1 hi, e⟩
  refine ⟨(List.range len).map f, ⟨⟨some ⟨b, off, spot⟩, m, by simp, fun hne => ?_⟩, fun c hc => ?_⟩, by rw [reach] at hln; simp; omega, fun c hc => ?_, fun c hc => ?_, fun c hc => ?_⟩
  · have hpos : 0 < len := by
      rcases Nat.eq_zero_or_pos len with e | e
      · subst e; simp at hne
      · exact e
    have h00 := (hf 0 hpos).1 0 (by omega)
    have hspot : spot = none := by
      have := World.cell?_spot (show w.cell? _ = some _ from h00)
      simpa [Addr.add] using this
    subst hspot
    refine ⟨b, off, rfl, fun k hk i hi => ?_⟩
    have hk' : k < len := by simpa using hk
    have := (hf k hk').1 i hi
    rw [Addr.add_lit] at this
    rw [show off + k * 3 + i = off + (k * 3 + i) by omega, this]
    simp
  · obtain ⟨i, hi, rfl⟩ := hmem c hc
    exact ⟨(hf i hi).2.1, (hf i hi).2.2.1⟩
  · obtain ⟨i, hi, rfl⟩ := hmem c hc
    exact ⟨(hf i hi).2.2.2.1, (hf i hi).2.2.2.2.1⟩
  · obtain ⟨i, hi, rfl⟩ := hmem c hc
    exact ⟨(hf i hi).2.2.2.2.2.1, (hf i hi).2.2.2.2.2.2.1⟩
  · obtain ⟨i, hi, rfl⟩ := hmem c hc
    exact (hf i hi).2.2.2.2.2.2.2
end
set_option maxRecDepth 100000 in
theorem lifted (hWM : WMS) (os : Os) (started : os.Started) (H : Type) (enc : TypeId × Value → H) :
    ReturnsInHanded {} Try.checked os 4 .any (Rows.mapWritesSpec.pre6 enc Try.prog Try.f4 Rows.mapWritesRow.domain false) (Rows.mapWritesSpec.post enc Try.prog Try.f4 false true false false) := by
  refine returnsInHanded_of_change_sized (C := Try.checked) own started (by kernel_rfl) Try.func4
    (ChangeSpec.witness6 (enc := enc) (C := Try.checked) false ⟨#[], #[.slice none 0 0, .slice none 0 0, .slice none 0 0], []⟩ 8 (by kernel_rfl) (by kernel_rfl) (by kernel_rfl) (by kernel_rfl)) ?_
  intro W base args ds gs before hval0 hW hcnd hsz _
  have hval : ∀ (j : Nat) t v, Try.f4.params[j]? = some t → args[j]? = some v → Value.okWide Try.prog W .any base t v := hval0
  have hW' := hW
  obtain ⟨p, q, hA0, hV, rfl, hfz, hnd⟩ := hW
  have hA : DataW.TrodAll enc Try.prog W 0 (fun _ => true) true Try.f4.params.toList args.toList ds p := hA0
  rw [Try.params4] at hA hval
  obtain ⟨v0, vs0, d0, ds0, p0, q0, hargs, rfl, rfl, h0, r0⟩ := trodAll_cons hA
  obtain ⟨v1, vs1, d1, ds1, p1, q1, rfl, rfl, rfl, h1, r1⟩ := trodAll_cons r0
  obtain ⟨v2, vs2, d2, ds2, p2, q2, rfl, rfl, rfl, h2, r2⟩ := trodAll_cons r1
  obtain ⟨rfl, rfl, rfl⟩ := trodAll_nil r2
  obtain rfl : args = #[v0, v1, v2] := by cases args; simp_all
  obtain ⟨rfl, rfl⟩ := trodVars_none hV
  obtain ⟨ad0, len0, cap0, rfl⟩ := okWide_slice Try.underlying24 (hval 0 24 v0 rfl rfl)
  obtain ⟨ad1, len1, cap1, rfl⟩ := okWide_slice Try.underlying22 (hval 1 22 v1 rfl rfl)
  obtain ⟨ad2, len2, cap2, rfl⟩ := okWide_slice Try.underlying23 (hval 2 23 v2 rfl rfl)
  have k0 := h0
  have k1 := h1
  have k2 := h2
  have lt0 : ∀ x ∈ p0, x.block < W.heap.size := by obtain ⟨m, hm⟩ := k0; exact DataW.trod_lt m _ _ _ hm
  have lt1 : ∀ x ∈ p1, x.block < W.heap.size := by obtain ⟨m, hm⟩ := k1; exact DataW.trod_lt m _ _ _ hm
  have lt2 : ∀ x ∈ p2, x.block < W.heap.size := by obtain ⟨m, hm⟩ := k2; exact DataW.trod_lt m _ _ _ hm
  have w0 : ∃ L : List J, Has W (.slice ad0 len0 cap0) L ∧ L.length * 56 ≤ 140737488355328 ∧ (∀ j ∈ L, j.f.locals.length ≤ 4398046511104 ∧ j.f.stack.length ≤ 4398046511104) ∧ (∀ j ∈ L, Tok j.f.locals ∧ Tok j.f.stack) ∧ ∀ j ∈ L, ∀ ad n c, j.lv = .slice ad n c → n ≤ c := by
    obtain ⟨fuel, hf⟩ := h0
    refine is_frames (d := d0) (pl := p0) (fuel := fuel) hf fun m hm => ?_
    have := List.all_eq_true.1 hsz m (DataW.weights_mem_each (j := 0) (t := 24) (d := d0) (by rw [Try.params4]; rfl) rfl m hm)
    simpa using this
  have w1 : ∃ P : List K, KIn W (.slice ad1 len1 cap1) P ∧ P.length * 40 ≤ 140737488355328 ∧ Txt P := by
    obtain ⟨fuel, hf⟩ := h1
    refine is_pool (d := d1) (pl := p1) (fuel := fuel) hf fun m hm => ?_
    have := List.all_eq_true.1 hsz m (DataW.weights_mem_each (j := 1) (t := 22) (d := d1) (by rw [Try.params4]; rfl) rfl m hm)
    simpa using this
  have w2 : ∃ L : List T, TIn W (.slice ad2 len2 cap2) L ∧ L.length ≤ 4398046511104 ∧ Tok L ∧ ∀ ad n c, Value.slice ad2 len2 cap2 = .slice ad n c → n ≤ c := by
    obtain ⟨fuel, hf⟩ := h2
    refine is_types (d := d2) (pl := p2) (fuel := fuel) hf fun m hm => ?_
    have := List.all_eq_true.1 hsz m (DataW.weights_mem_each (j := 2) (t := 23) (d := d2) (by rw [Try.params4]; rfl) rfl m hm)
    simpa using this
  clear hA0 hval0
  obtain ⟨P, hP1, hP2, hP3⟩ := w1
  obtain ⟨L, hL1, hL2, hL3, hL4⟩ := w2
  obtain ⟨Lf, hF1, hF2, hF3, hF4, hF5⟩ := w0
  refine (mwrites_walk hWM (.slice ad0 len0 cap0) (.slice ad1 len1 cap1) (.slice ad2 len2 cap2) Lf P L W hF2 hP2 hL2 hF1 hP1 hL1 hF3 hP3 hF4 hF5).mono fun e W' ⟨he, bel⟩ => ?_
  subst he
  exact ⟨_, rfl, _, _, _, [], _, [], hW', trodAll_mk1 (shut_bool Try.underlying4 _), (trodAll_cons_mk (Below.trod laidOut (by kernel_rfl) (of_decide_eq_true (by kernel_rfl)) k0 bel lt0) (trodAll_cons_mk (Below.trod laidOut (by kernel_rfl) (of_decide_eq_true (by kernel_rfl)) k1 bel lt1) (trodAll_cons_mk (Below.trod laidOut (by kernel_rfl) (of_decide_eq_true (by kernel_rfl)) k2 bel lt2) trodAll_mk0))), rfl, bel.frame _, fun h => by cases h⟩

theorem over (hWM : WMS) : Rows.mapWritesRow.holds Try.pinned (OpenSpec.ofChange Rows.mapWritesSpec) :=
  OpenClaim.holds_of_wide 4 Try.f4 rfl rfl rfl rfl rfl rfl rfl ⟨rfl, rfl, rfl, rfl, rfl⟩ rfl rfl rfl rfl rfl (by kernel_rfl) Try.func4 (by kernel_rfl)
    (of_decide_eq_true (by kernel_rfl)) (by unfold Func.isWrapper; first | (rw [if_pos (by decide +kernel)]; kernel_rfl) | (rw [if_neg (by decide +kernel)]; exact ⟨rfl, rfl⟩))
    (fun os started H enc _ => lifted hWM os started H enc)

end Go.Proofs.Ytbgpkkbejbidlac.mapWrites
