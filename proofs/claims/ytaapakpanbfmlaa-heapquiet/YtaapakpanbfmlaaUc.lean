/-
  The steps that come in, opened at every index.
-/
import Derived.Test.YtaapakpanbfmlaaUb
import Derived.Deep.Slices
import Derived.SizedLaws
import Derived.WalkKit
import Derived.ProofKit
import Derived.OpenShut
import Derived.ShutString
import Derived.ChangeOld
import Derived.Below
namespace Go.Proofs.Ytaapakpanbfmlaa
namespace Rs
open Go.ChangeShapes Go.WideShapes Go.ChangeAt Go.RowKit
set_option linter.unusedVariables false
theorem c32 : Try.prog.cellsOf 32 = 5 := by kernel_rfl
theorem c3 : Try.prog.cellsOf 3 = 1 := by kernel_rfl
theorem c30 : Try.prog.cellsOf 30 = 1 := by kernel_rfl
section
variable {H : Type} {enc : TypeId × Value → H} {w : World}
set_option maxRecDepth 100000 in
/-- One step, from what it reads as. -/
theorem one_op {n : Nat} {cs : List Value} {d : DataW H} {pl : List MemPlace} (h : DataW.trod enc Try.prog w 0 (fun _ => true) true n 32 cs = some (d, pl)) :
    ∃ (kd a b cc : Int) (x : Nat), cs = [.int .i64 kd, .int .i64 a, .int .i64 b, .int .i64 cc, .int .u64 (x : Int)] := by
  obtain ⟨xs, k, hk, hxy, hcl, hxl, hf⟩ := DataW.trod_struct Try.underlying32 h
  rw [c32] at hcl
  match xs, hxl, cs, hcl with
  | [y0, y1, y2, y3, y4], _, [v0, v1, v2, v3, v4], _ =>
    have g0 := hf 0 _ rfl
    have g1 := hf 1 _ rfl
    have g2 := hf 2 _ rfl
    have g3 := hf 3 _ rfl
    have g4 := hf 4 _ rfl
    simp [c3, c30] at g0 g1 g2 g3 g4
    obtain ⟨n0, e0, q0, p0⟩ := DataW.trod_int Try.underlying3 g0
    obtain ⟨n1, e1, q1, p1⟩ := DataW.trod_int Try.underlying3 g1
    obtain ⟨n2, e2, q2, p2⟩ := DataW.trod_int Try.underlying3 g2
    obtain ⟨n3, e3, q3, p3⟩ := DataW.trod_int Try.underlying3 g3
    obtain ⟨n4, e4, q4, p4⟩ := DataW.trod_int Try.underlying30 g4
    simp only [List.cons.injEq, and_true] at e0 e1 e2 e3 e4
    subst e0 e1 e2 e3 e4
    have b4 := bounds_u64 p4
    refine ⟨n0, n1, n2, n3, n4.toNat, ?_⟩
    have t4 : ((n4.toNat : Nat) : Int) = n4 := by omega
    rw [t4]
set_option maxRecDepth 100000 in
/-- The list, from what it reads as. -/
theorem is_scr {a : Option Addr} {len cap fuel : Nat} {d : DataW H} {pl : List MemPlace} (h : DataW.trod enc Try.prog w 0 (fun _ => true) true fuel 22 [.slice a len cap] = some (d, pl)) : Scr w a len := by
  rcases Go.Deep.open_slice Try.underlying22 h with ⟨h0, _⟩ | ⟨x, len', cap', m, n, D, Pl, hcs, hb, hl, hm, hmm, hx, hall⟩
  · simp only [List.cons.injEq, Value.slice.injEq, and_true] at h0
    intro k hk
    omega
  simp only [List.cons.injEq, Value.slice.injEq, and_true] at hcs
  obtain ⟨rfl, rfl, rfl⟩ := hcs
  simp only [if_true] at hmm
  subst hmm
  intro i hi
  obtain ⟨cs', g1, g2⟩ := hall i (by omega)
  rw [c32] at g1
  obtain ⟨_, _, g3⟩ := World.cells?_some g1
  obtain ⟨kd, a, b, cc, z, rfl⟩ := one_op g2
  have each : ∀ j, j < 5 → w.cell? (x.add (i * 5 + j)) = ([.int .i64 kd, .int .i64 a, .int .i64 b, .int .i64 cc, .int .u64 (z : Int)] : List Value)[j]? := fun j hj => by rw [← Go.Deep.add_add]; exact g3 j hj
  obtain ⟨cs0, G1, G2⟩ := hall 0 (by omega)
  rw [c32] at G1
  obtain ⟨_, _, G3⟩ := World.cells?_some G1
  obtain ⟨kd0, a0, b0, cc0, z0, rfl⟩ := one_op G2
  have G0 := G3 0 (by omega)
  obtain ⟨g, off, spot⟩ := x
  have hspot : spot = none := by
    have := World.cell?_spot (show w.cell? _ = some _ from G0)
    simpa [Addr.add] using this
  subst hspot
  have e2 : ∀ j, j < 5 → w.cell? ⟨g, off + i * 5 + j, none⟩ = ([.int .i64 kd, .int .i64 a, .int .i64 b, .int .i64 cc, .int .u64 (z : Int)] : List Value)[j]? := fun j hj => by
    have := each j hj
    rw [Go.WideShapes.add_plain, ← Nat.add_assoc] at this; exact this
  have hg : g < w.heap.size := cell_lt (show w.cell? ⟨g, off + i * 5 + 0, none⟩ = some _ from e2 0 (by omega))
  exact ⟨g, off, rfl, hg, kd, a, b, cc, z, e2 0 (by omega), e2 1 (by omega), e2 2 (by omega), e2 3 (by omega), e2 4 (by omega)⟩
end
theorem quiet4_any (lim room : Int) (ad : Option Addr) (n cap : Nat) (w : World) (hs : Scr w ad n) :
    Calls Try.prog 4 #[.int .i64 lim, .int .i64 room, .slice ad n cap] w fun e w' => e = .returned (.bool true) ∧ Below w.heap.size w w' := by
  by_cases h : lim < 0 ∨ 16384 < lim ∨ room < 0 ∨ lim < room ∨ 16384 < (n : Int)
  · exact quiet4_out lim room ad n cap w h
  · obtain ⟨l, rfl⟩ : ∃ l : Nat, lim = (l : Int) := ⟨lim.toNat, by omega⟩
    obtain ⟨r, rfl⟩ : ∃ r : Nat, room = (r : Int) := ⟨room.toNat, by omega⟩
    exact quiet4_main l r ad n cap w (by omega) (by omega) (by omega) hs
end Rs
end Go.Proofs.Ytaapakpanbfmlaa
