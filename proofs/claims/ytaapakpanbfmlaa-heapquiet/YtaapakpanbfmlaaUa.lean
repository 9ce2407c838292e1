/-
  HeapQuiet: two spaces of the program, one with, one without the looks.
-/
import Derived.Test.YtaapakpanbfmlaaQo
namespace Go.Proofs.Ytaapakpanbfmlaa
namespace Rs
open Go.RowKit Hp
set_option linter.unusedVariables false
set_option linter.unusedSimpArgs false
def Run (w0 : World) (c c' : Cf) (N : Nat) (w : World) : Prop := ∃ s s' φ, Bes w0 w c s N c' s' N ∧ Iso (grF s.F) s.ro (grF s'.F) s'.ro φ
def Mid (w0 : World) (c c' : Cf) (N : Nat) (o : Option Opn) (ans : Int × Int) (w : World) : Prop := ∃ s : St, ∃ s1 s' φ, Bes w0 w c s1 (N + 1) c' s' N ∧ Zok (grF s.F) ∧ Iso (grF s.F) s.ro (grF s'.F) s'.ro φ ∧ EffO c.lim o s ans s1
section
variable {w0 w : World} {c c' : Cf} {N : Nat}
theorem Run.below (h : Run w0 c c' N w) : Below w0.heap.size w0 w := by obtain ⟨_, _, _, b, _⟩ := h; exact b.fr
theorem Run.fresh {w1 : World} (h : Run w0 c c' N w) (f : Fr [] w w1) : Run w0 c c' N w1 := by
  obtain ⟨s, s', φ, b, i⟩ := h; exact ⟨s, s', φ, b.fresh f, i⟩
theorem Run.up (h : Run w0 c c' N w) (hN : N < 32768) : Run w0 c c' (N + 1) w := by
  obtain ⟨s, s', φ, b, i⟩ := h; exact ⟨s, s', φ, ((b.up hN).symm.up hN).symm, i⟩
theorem Run.collect (h : Run w0 c c' N w) (hN : N < 32768) (b : Bool) : Calls Try.prog 7 #[.pointer (some ⟨c.sb, 0, none⟩), .bool b] w fun e w' => ∃ v, e = .returned (.int .i64 v) ∧ Run w0 c c' (N + 1) w' := by
  obtain ⟨s, s', φ, hb, i⟩ := h
  cases b
  · refine (pminor hb.ra).mono ?_
    rintro e w' ⟨ans, s1, rfl, r, ev, _, ψ, j⟩
    obtain ⟨ψ', j', _⟩ := j.symm
    exact ⟨_, rfl, s1, s', _, (((hb.left r ev).up hN).symm.up hN).symm, j'.trans i⟩
  · refine (pmajor hb.ra).mono ?_
    rintro e w' ⟨ans, s1, rfl, r, ev, m, _, _, ψ, j⟩
    obtain ⟨ψ', j', _⟩ := j.symm
    exact ⟨_, rfl, s1, s', _, (((hb.left r ev).up hN).symm.up hN).symm, j'.trans i⟩
theorem Run.ansA (h : Run w0 c c' N w) (o : Obj) (hl : c.lim ≤ 16384) (hrm : c.room ≤ 16384) (hN : N < 32768) (k a b cc : Int) (x : Nat) :
    Calls Try.prog 15 #[.pointer (some ⟨c.sb, 0, none⟩), .agg #[.int .i64 k, .int .i64 a, .int .i64 b, .int .i64 cc, .int .u64 (x : Int)]] (w.alloc o) fun e w' => ∃ u v, e = .returned (.tuple #[.int .u64 u, .int .i64 v]) ∧ Mid w0 c c' N (toOp k a b cc x) (u, v) w' ∧ w'.heap[w.heap.size]? = some o := by
  obtain ⟨s, s', φ, hb0, i⟩ := h
  have hb := hb0.fresh (fr_alloc w o [])
  refine (pans hb.ra hl hrm hN k a b cc x).mono ?_
  rintro e w' ⟨ans, s1, rfl, r, ev, ef⟩
  refine ⟨ans.1, ans.2, rfl, ⟨s, s1, s', φ, hb.left r ev, hb.ra.zok, i, ef⟩, ?_⟩
  rw [ev.block w.heap.size (by simp) (fun p hp => by have := (hb0.ra.cl.has p).lt _ hp; omega)]
  exact heap_alloc_new _ _
theorem Mid.ansB {k a b cc : Int} {x : Nat} {u v : Int} (h : Mid w0 c c' N (toOp k a b cc x) (u, v) w) (hlm : c'.lim = c.lim) (hl : c.lim ≤ 16384) (hrm : c'.room ≤ 16384) (hN : N < 32768) :
    Calls Try.prog 15 #[.pointer (some ⟨c'.sb, 0, none⟩), .agg #[.int .i64 k, .int .i64 a, .int .i64 b, .int .i64 cc, .int .u64 (x : Int)]] w fun e w' => e = .returned (.tuple #[.int .u64 u, .int .i64 v]) ∧ Run w0 c c' (N + 1) w' := by
  obtain ⟨s, s1, s', φ, hb, zg, i, ef⟩ := h
  refine (pans hb.rb (by omega) hrm hN k a b cc x).mono ?_
  rintro e w' ⟨ans, s2, rfl, r, ev, eh⟩
  rw [hlm] at eh
  cases ho : toOp k a b cc x with
  | none =>
    rw [ho] at ef eh
    obtain ⟨e1, rfl⟩ := ef
    obtain ⟨rfl, rfl⟩ := eh
    cases e1
    exact ⟨rfl, s1, s2, φ, hb.right r ev, i⟩
  | some op =>
    rw [ho] at ef eh
    obtain ⟨e1, ψ, j⟩ := Eff.sim i zg hb.rb.zok ef eh
    subst e1
    exact ⟨rfl, s1, s2, ψ, hb.right r ev, j⟩
/-- At the end: how many words can be reached. -/
def EndM (w0 : World) (c c' : Cf) (v : Int) (w : World) : Prop := ∃ N s N' s' m, Bes w0 w c s N c' s' N' ∧ v = ((m : Nat) : Int) ∧ Wds (grF s'.F) s'.ro m
theorem Run.endA (h : Run w0 c c' N w) : Calls Try.prog 7 #[.pointer (some ⟨c.sb, 0, none⟩), .bool true] w fun e w' => ∃ v, e = .returned (.int .i64 v) ∧ EndM w0 c c' v w' := by
  obtain ⟨s, s', φ, hb, i⟩ := h
  refine (pmajor hb.ra).mono ?_
  rintro e w' ⟨ans, s1, rfl, r, ev, m, hm, rfl, ψ, j⟩
  exact ⟨_, rfl, _, s1, _, s', m, hb.left r ev, rfl, hm.iso i⟩
theorem EndM.endB {v : Int} (h : EndM w0 c c' v w) : Calls Try.prog 7 #[.pointer (some ⟨c'.sb, 0, none⟩), .bool true] w fun e w' => e = .returned (.int .i64 v) ∧ Below w0.heap.size w0 w' := by
  obtain ⟨N, s, N', s', m, hb, rfl, hm⟩ := h
  refine (pmajor hb.rb).mono ?_
  rintro e w' ⟨ans, s1, rfl, r, ev, n, hn, rfl, ψ, j⟩
  exact ⟨by rw [hm.eq hn]; rfl, (hb.right r ev).fr⟩
/-- The first steps. -/
def Ini0 (w0 : World) (c c' : Cf) (w : World) : Prop := Bes w0 w c St.new 0 c' St.new 0
def IniA (w0 : World) (c c' : Cf) (w : World) : Prop := ∃ s1, Bes w0 w c s1 1 c' St.new 0 ∧ Zok (grF St.new.F) ∧ Eff c.lim (.make 0 1 1) (grF St.new.F) St.new.ro (0, 0) (grF s1.F) s1.ro
def IniB (ws : List Nat) (w0 : World) (c c' : Cf) (w : World) : Prop := ∃ s s' φ, Bes w0 w c s 1 c' s' 1 ∧ Iso (grF s.F) s.ro (grF s'.F) s'.ro φ ∧ Q0 ws (grF s.F) s.ro ∧ Q0 ws (grF s'.F) s'.ro
def IniC (w0 : World) (c c' : Cf) (w : World) : Prop := ∃ s : St, ∃ s1 s' φ, Bes w0 w c s1 1 c' s' 1 ∧ Zok (grF s.F) ∧ Iso (grF s.F) s.ro (grF s'.F) s'.ro φ ∧ Eff c.lim (.set 0 0 7) (grF s.F) s.ro (0, 0) (grF s1.F) s1.ro ∧ Q0 [7] (grF s1.F) s1.ro ∧ Q0 [0] (grF s'.F) s'.ro
theorem Ini0.run (h : Ini0 w0 c c' w) : Run w0 c c' 1 w := Run.up ⟨St.new, St.new, _, h, h.ra.isoRefl⟩ (by omega)
theorem IniB.run {ws : List Nat} (h : IniB ws w0 c c' w) : Run w0 c c' 1 w := by obtain ⟨s, s', φ, b, i, _⟩ := h; exact ⟨s, s', φ, b, i⟩
theorem Ini0.make (h : Ini0 w0 c c' w) (hl : c.lim ≤ 16384) (hrm : c.room ≤ 16384) (h5 : 5 < c.lim) : Calls Try.prog 10 #[.pointer (some ⟨c.sb, 0, none⟩), .int .i64 0, .int .i64 1, .int .i64 1] w fun e w' => e = .returned (.int .i64 0) ∧ IniA w0 c c' w' := by
  refine (pmake h.ra hl hrm (by omega) 0 1 1).mono ?_
  rintro e w' ⟨ans, s1, rfl, r, ev, ef⟩
  obtain ⟨rfl, _⟩ := ef.make0 rfl h5
  exact ⟨rfl, s1, Bes.left h r ev, h.ra.zok, ef⟩
theorem IniA.make (h : IniA w0 c c' w) (hlm : c'.lim = c.lim) (hl : c.lim ≤ 16384) (hrm : c'.room ≤ 16384) (h5 : 5 < c.lim) : Calls Try.prog 10 #[.pointer (some ⟨c'.sb, 0, none⟩), .int .i64 0, .int .i64 1, .int .i64 1] w fun e w' => e = .returned (.int .i64 0) ∧ IniB [0] w0 c c' w' := by
  obtain ⟨s1, hb, hz, ef⟩ := h
  refine (pmake hb.rb (by omega) hrm (by omega) 0 1 1).mono ?_
  rintro e w' ⟨ans, s2, rfl, r, ev, eh⟩
  rw [hlm] at eh
  obtain ⟨rfl, q2⟩ := eh.make0 rfl h5
  obtain ⟨_, q1⟩ := ef.make0 rfl h5
  obtain ⟨_, ψ, j⟩ := Eff.sim hb.rb.isoRefl hz hz ef eh
  exact ⟨rfl, s1, s2, ψ, hb.right r ev, j, q1, q2⟩
theorem IniB.set (h : IniB [0] w0 c c' w) : Calls Try.prog 11 #[.pointer (some ⟨c.sb, 0, none⟩), .int .i64 0, .int .i64 0, .int .u64 7] w fun e w' => e = .returned (.int .i64 0) ∧ IniC w0 c c' w' := by
  obtain ⟨s, s', φ, hb, i, q, q'⟩ := h
  refine (pset hb.ra 0 0 7).mono ?_
  rintro e w' ⟨ans, s1, rfl, r, ev, ef⟩
  obtain ⟨rfl, q1⟩ := ef.set0 q
  exact ⟨rfl, s, s1, s', φ, hb.left r ev, hb.ra.zok, i, ef, q1, q'⟩
theorem IniC.set (h : IniC w0 c c' w) (hlm : c'.lim = c.lim) : Calls Try.prog 11 #[.pointer (some ⟨c'.sb, 0, none⟩), .int .i64 0, .int .i64 0, .int .u64 7] w fun e w' => e = .returned (.int .i64 0) ∧ IniB [7] w0 c c' w' := by
  obtain ⟨s, s1, s', φ, hb, zg, i, ef, q1, q'⟩ := h
  refine (pset hb.rb 0 0 7).mono ?_
  rintro e w' ⟨ans, s2, rfl, r, ev, eh⟩
  rw [hlm] at eh
  obtain ⟨rfl, q2⟩ := eh.set0 q'
  obtain ⟨_, ψ, j⟩ := Eff.sim i zg hb.rb.zok ef eh
  exact ⟨rfl, s1, s2, ψ, hb.right r ev, j, q1, q2⟩
theorem IniB.symm {ws : List Nat} (h : IniB ws w0 c c' w) : IniB ws w0 c' c w := by
  obtain ⟨s, s', φ, hb, i, q, q'⟩ := h
  obtain ⟨ψ, j, _⟩ := i.symm
  exact ⟨s', s, ψ, hb.symm, j, q', q⟩
theorem IniB.word (h : IniB [7] w0 c c' w) : Calls Try.prog 12 #[.pointer (some ⟨c.sb, 0, none⟩), .int .i64 0, .int .i64 0] w fun e w' => e = .returned (.tuple #[.int .u64 7, .int .i64 0]) ∧ IniB [7] w0 c c' w' := by
  obtain ⟨s, s', φ, hb, i, q, q'⟩ := h
  refine (pword hb.ra 0 0).mono ?_
  rintro e w' ⟨ans, s1, rfl, r, ev, ef⟩
  obtain ⟨rfl, e1, e2⟩ := ef.word0 q
  exact ⟨rfl, s1, s', φ, hb.left r ev, by rw [e1, e2]; exact i, by rw [e1, e2]; exact q, q'⟩
theorem IniB.same (h : IniB [7] w0 c c' w) : Calls Try.prog 13 #[.pointer (some ⟨c.sb, 0, none⟩), .int .i64 0, .int .i64 1] w fun e w' => e = .returned (.tuple #[.bool false, .int .i64 0]) ∧ IniB [7] w0 c c' w' := by
  obtain ⟨s, s', φ, hb, i, q, q'⟩ := h
  refine (psame hb.ra 0 1).mono ?_
  rintro e w' ⟨ans, s1, rfl, r, ev, ef⟩
  obtain ⟨rfl, e1, e2⟩ := ef.sameF q
  exact ⟨rfl, s1, s', φ, hb.left r ev, by rw [e1, e2]; exact i, by rw [e1, e2]; exact q, q'⟩
theorem IniB.put (h : IniB [7] w0 c c' w) : Calls Try.prog 14 #[.pointer (some ⟨c.sb, 0, none⟩), .int .i64 0, .int .i64 0, .int .i64 16] w fun e w' => e = .returned (.int .i64 7) ∧ IniB [7] w0 c c' w' := by
  obtain ⟨s, s', φ, hb, i, q, q'⟩ := h
  refine (pput hb.ra 0 0 16).mono ?_
  rintro e w' ⟨ans, s1, rfl, r, ev, ef⟩
  obtain ⟨rfl, e1, e2⟩ := ef.putF
  exact ⟨rfl, s1, s', φ, hb.left r ev, by rw [e1, e2]; exact i, by rw [e1, e2]; exact q, q'⟩
/-- Two new spaces. -/
theorem ini0 {w1 w2 : World} {sb sb' lim room room' : Nat} (h1 : Fr [] w0 w1) (h2 : w0.heap.size ≤ sb) (h3 : Re ⟨w0.heap.size, sb, lim, room⟩ w1 St.new 0) (h4 : Fr [] w1 w2) (h5 : w1.heap.size ≤ sb') (h6 : Re ⟨w1.heap.size, sb', lim, room'⟩ w2 St.new 0) : Ini0 w0 ⟨w0.heap.size, sb, lim, room⟩ ⟨w1.heap.size, sb', lim, room'⟩ w2 := by
  have hs := h3.cl.sbl
  have hs : sb < w1.heap.size := hs
  have z1 := h1.size
  refine ⟨h3.ofCl (h3.cl.fresh h4), h6, fun p p' b hb hb' => ?_, fun p b hb => ?_, fun p b hb => ?_, ?_⟩
  · have e1 : b = sb := St.new_bl _ p b hb
    have e2 : b = sb' := St.new_bl _ p' b hb'
    omega
  · have e1 : b = sb := St.new_bl _ p b hb
    omega
  · have e1 : b = sb' := St.new_bl _ p b hb
    omega
  · have f := h1.trans h4
    exact ⟨f.os, f.tape, f.output, f.size, fun k hk => f.block k hk (by simp)⟩
end
end Rs
end Go.Proofs.Ytaapakpanbfmlaa
