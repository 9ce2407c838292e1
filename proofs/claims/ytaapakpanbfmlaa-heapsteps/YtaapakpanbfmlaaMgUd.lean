/-
  HeapSteps: the law's step.
-/
import Derived.Test.YtaapakpanbfmlaaMgSe
import Derived.Test.YtaapakpanbfmlaaMgSh
import Derived.Test.YtaapakpanbfmlaaQo
import Derived.Deep.Slices
import Derived.SizedLaws
import Derived.WalkKit
import Derived.ProofKit
import Derived.OpenShut
import Derived.ShutString
import Derived.ChangeOld
import Derived.Below
namespace Go.Proofs.Ytaapakpanbfmlaa
namespace Rs
open Go.RowKit Hp
set_option linter.unusedVariables false
set_option linter.unusedSimpArgs false
theorem ROk.up {c : Cr} {w w' : World} {s : RSt} {N : Nat} {op : Opn} {mk : Int × Int → Ending} {e : Ending} (hN : N < 32768) (h : ROk c w s N op mk e w') : ROk c w s (N + 1) op mk e w' := by
  obtain ⟨ans, s', h1, h2, h3, h4⟩ := h
  exact ⟨ans, s', h1, h2.up hN, h3, h4⟩
section
variable {w0 w : World} {wb N : Nat} {c : Cf} {c' : Cr}
theorem step6 (h : Run3 w0 wb c c' N w) (hl : c.lim ≤ 16384) (hrm : c.room ≤ 16384) (hlm : c'.lim = c.lim) (hN : N < 32768) (k a b cc : Int) (x : Nat) :
    Calls Try.prog 6 #[.pointer (some ⟨wb, 0, none⟩), .agg #[.int .i64 k, .int .i64 a, .int .i64 b, .int .i64 cc, .int .u64 (x : Int)]] w (St6 fun w' => Run3 w0 wb c c' (N + 1) w') := by
  have h0 := h
  obtain ⟨hwb, hwk⟩ := h.cells
  obtain ⟨s, s', φ, hp, i, hk⟩ := h
  by_cases k1 : k = 1
  · subst k1
    refine (st6_1 wb c.sb c'.sb a b cc x w (R1 := fun v w1 => ∃ ans : Int × Int, ans.2 = v ∧ M1 w0 w wb c c' N s s' (.make a b cc) #[.int .i64 1, .int .i64 a, .int .i64 b, .int .i64 cc, .int .u64 (x : Int)] ans w1) (R2 := M2 w0 w wb c c' N #[.int .i64 1, .int .i64 a, .int .i64 b, .int .i64 cc, .int .u64 (x : Int)]) hwb hwk (hide fun j => (arm1 (mk := mkE) hp hwk (fun W r => pmake r hl hrm hN a b cc) j).mono ?_) (hide ?_) (hide ?_) (hide fun w2 m => m.2)).mono fun e w' hh => ⟨hh.1, hh.2.1⟩
    · rintro e w1 ⟨ans, rfl, m⟩
      exact ⟨ans.2, rfl, ans, rfl, m⟩
    · rintro v w1 ⟨ans, rfl, m⟩
      exact m.kp
    · rintro v w1 ⟨ans, rfl, m⟩
      exact arm2 (mk := mkE) hlm i (fun W r => qmake r hN a b cc) m 0
  by_cases k2 : k = 2
  · subst k2
    refine (st6_2 wb c.sb c'.sb a b cc x w (R1 := fun v w1 => ∃ ans : Int × Int, ans.2 = v ∧ M1 w0 w wb c c' N s s' (.copy a b) #[.int .i64 2, .int .i64 a, .int .i64 b, .int .i64 cc, .int .u64 (x : Int)] ans w1) (R2 := M2 w0 w wb c c' N #[.int .i64 2, .int .i64 a, .int .i64 b, .int .i64 cc, .int .u64 (x : Int)]) hwb hwk (hide fun j => (arm1 (mk := mkE) hp hwk (fun W r => (pcopy r a b).mono fun e w hh => hh.up hN) j).mono ?_) (hide ?_) (hide ?_) (hide fun w2 m => m.2)).mono fun e w' hh => ⟨hh.1, hh.2.1⟩
    · rintro e w1 ⟨ans, rfl, m⟩
      exact ⟨ans.2, rfl, ans, rfl, m⟩
    · rintro v w1 ⟨ans, rfl, m⟩
      exact m.kp
    · rintro v w1 ⟨ans, rfl, m⟩
      exact arm2 (mk := mkE) hlm i (fun W r => (qcopy r a b).mono fun e w hh => hh.up hN) m 0
  by_cases k3 : k = 3
  · subst k3
    refine (st6_3 wb c.sb c'.sb a b cc x w (R1 := fun v w1 => ∃ ans : Int × Int, ans.2 = v ∧ M1 w0 w wb c c' N s s' (.drop a) #[.int .i64 3, .int .i64 a, .int .i64 b, .int .i64 cc, .int .u64 (x : Int)] ans w1) (R2 := M2 w0 w wb c c' N #[.int .i64 3, .int .i64 a, .int .i64 b, .int .i64 cc, .int .u64 (x : Int)]) hwb hwk (hide fun j => (arm1 (mk := mkE) hp hwk (fun W r => (pdrop r a).mono fun e w hh => hh.up hN) j).mono ?_) (hide ?_) (hide ?_) (hide fun w2 m => m.2)).mono fun e w' hh => ⟨hh.1, hh.2.1⟩
    · rintro e w1 ⟨ans, rfl, m⟩
      exact ⟨ans.2, rfl, ans, rfl, m⟩
    · rintro v w1 ⟨ans, rfl, m⟩
      exact m.kp
    · rintro v w1 ⟨ans, rfl, m⟩
      exact arm2 (mk := mkE) hlm i (fun W r => (qdrop r a).mono fun e w hh => hh.up hN) m 0
  by_cases k4 : k = 4
  · subst k4
    refine (st6_4 wb c.sb c'.sb a b cc x w (R1 := fun v w1 => ∃ ans : Int × Int, ans.2 = v ∧ M1 w0 w wb c c' N s s' (.put a b cc) #[.int .i64 4, .int .i64 a, .int .i64 b, .int .i64 cc, .int .u64 (x : Int)] ans w1) (R2 := M2 w0 w wb c c' N #[.int .i64 4, .int .i64 a, .int .i64 b, .int .i64 cc, .int .u64 (x : Int)]) hwb hwk (hide fun j => (arm1 (mk := mkE) hp hwk (fun W r => (pput r a b cc).mono fun e w hh => hh.up hN) j).mono ?_) (hide ?_) (hide ?_) (hide fun w2 m => m.2)).mono fun e w' hh => ⟨hh.1, hh.2.1⟩
    · rintro e w1 ⟨ans, rfl, m⟩
      exact ⟨ans.2, rfl, ans, rfl, m⟩
    · rintro v w1 ⟨ans, rfl, m⟩
      exact m.kp
    · rintro v w1 ⟨ans, rfl, m⟩
      exact arm2 (mk := mkE) hlm i (fun W r => (qput r a b cc).mono fun e w hh => hh.up hN) m 0
  by_cases k5 : k = 5
  · subst k5
    refine (st6_5 wb c.sb c'.sb a b cc x w (R1 := fun v w1 => ∃ ans : Int × Int, ans.2 = v ∧ M1 w0 w wb c c' N s s' (.get a b cc) #[.int .i64 5, .int .i64 a, .int .i64 b, .int .i64 cc, .int .u64 (x : Int)] ans w1) (R2 := M2 w0 w wb c c' N #[.int .i64 5, .int .i64 a, .int .i64 b, .int .i64 cc, .int .u64 (x : Int)]) hwb hwk (hide fun j => (arm1 (mk := mkE) hp hwk (fun W r => (pget r a b cc).mono fun e w hh => hh.up hN) j).mono ?_) (hide ?_) (hide ?_) (hide fun w2 m => m.2)).mono fun e w' hh => ⟨hh.1, hh.2.1⟩
    · rintro e w1 ⟨ans, rfl, m⟩
      exact ⟨ans.2, rfl, ans, rfl, m⟩
    · rintro v w1 ⟨ans, rfl, m⟩
      exact m.kp
    · rintro v w1 ⟨ans, rfl, m⟩
      exact arm2 (mk := mkE) hlm i (fun W r => (qget r a b cc).mono fun e w hh => hh.up hN) m 0
  by_cases k6 : k = 6
  · subst k6
    refine (st6_6 wb c.sb c'.sb a b cc x w (R1 := fun v w1 => ∃ ans : Int × Int, ans.2 = v ∧ M1 w0 w wb c c' N s s' (.set a b x) #[.int .i64 6, .int .i64 a, .int .i64 b, .int .i64 cc, .int .u64 (x : Int)] ans w1) (R2 := M2 w0 w wb c c' N #[.int .i64 6, .int .i64 a, .int .i64 b, .int .i64 cc, .int .u64 (x : Int)]) hwb hwk (hide fun j => (arm1 (mk := mkE) hp hwk (fun W r => (pset r a b x).mono fun e w hh => hh.up hN) j).mono ?_) (hide ?_) (hide ?_) (hide fun w2 m => m.2)).mono fun e w' hh => ⟨hh.1, hh.2.1⟩
    · rintro e w1 ⟨ans, rfl, m⟩
      exact ⟨ans.2, rfl, ans, rfl, m⟩
    · rintro v w1 ⟨ans, rfl, m⟩
      exact m.kp
    · rintro v w1 ⟨ans, rfl, m⟩
      exact arm2 (mk := mkE) hlm i (fun W r => (qset r a b x).mono fun e w hh => hh.up hN) m 0
  by_cases k7 : k = 7
  · subst k7
    refine (st6_7 wb c.sb c'.sb a b cc x w (R1 := fun u v w1 => M1 w0 w wb c c' N s s' (.word a b) #[.int .i64 7, .int .i64 a, .int .i64 b, .int .i64 cc, .int .u64 (x : Int)] (u, v) w1) (R2 := M2 w0 w wb c c' N #[.int .i64 7, .int .i64 a, .int .i64 b, .int .i64 cc, .int .u64 (x : Int)]) hwb hwk (hide fun j => (arm1 (mk := mkW) hp hwk (fun W r => (pword r a b).mono fun e w hh => hh.up hN) j).mono ?_) (hide ?_) (hide ?_) (hide fun w2 m => m.2)).mono fun e w' hh => ⟨hh.1, hh.2.1⟩
    · rintro e w1 ⟨ans, rfl, m⟩
      exact ⟨ans.1, ans.2, rfl, m⟩
    · intro u v w1 m
      exact m.kp
    · intro u v w1 j m
      exact arm2 (mk := mkW) hlm i (fun W r => (qword r a b).mono fun e w hh => hh.up hN) m j
  by_cases k8 : k = 8
  · subst k8
    refine (st6_8 wb c.sb c'.sb a b cc x w (R1 := fun u v w1 => ∃ ans : Int × Int, u = decide (ans.1 = 1) ∧ v = ans.2 ∧ M1 w0 w wb c c' N s s' (.same a b) #[.int .i64 8, .int .i64 a, .int .i64 b, .int .i64 cc, .int .u64 (x : Int)] ans w1) (R2 := M2 w0 w wb c c' N #[.int .i64 8, .int .i64 a, .int .i64 b, .int .i64 cc, .int .u64 (x : Int)]) hwb hwk (hide fun j => (arm1 (mk := mkS) hp hwk (fun W r => (psame r a b).mono fun e w hh => hh.up hN) j).mono ?_) (hide ?_) (hide ?_) (hide fun w2 m => m.2)).mono fun e w' hh => ⟨hh.1, hh.2.1⟩
    · rintro e w1 ⟨ans, rfl, m⟩
      exact ⟨decide (ans.1 = 1), ans.2, rfl, ans, rfl, rfl, m⟩
    · rintro u v w1 ⟨ans, rfl, rfl, m⟩
      exact m.kp
    · rintro u v w1 j ⟨ans, rfl, rfl, m⟩
      exact arm2 (mk := mkS) hlm i (fun W r => (qsame r a b).mono fun e w hh => hh.up hN) m j
  by_cases k9 : k = 9
  · subst k9
    have h1 := hp.more (.cells #[.int .i64 9, .int .i64 a, .int .i64 b, .int .i64 cc, .int .u64 (x : Int)] 32)
    refine (st6_9 wb c.sb c'.sb a b cc x w (R2 := fun w' => Run3 w0 wb c c' (N + 1) w') hwb hwk (hide ((pminor h1.ra).mono ?_)))
    rintro e w1 ⟨ans, s1, rfl, r, ev, rfl, ψ, j⟩
    obtain ⟨ψ', j', _⟩ := j.symm
    obtain ⟨h2, e2⟩ := h1.left r ev
    refine ⟨rfl, Run3.up ⟨s1, s', _, h2.less (by simp), j'.trans i, ?_⟩ hN⟩
    rw [e2 wb (by simp), Below.heap_alloc w _ wb hwb]; exact hwk
  by_cases k10 : k = 10
  · subst k10
    refine (st6_10 wb c.sb c'.sb a b cc x w (R1 := fun v w1 => ∃ ans : Int × Int, ans.1 = v ∧ M1 w0 w wb c c' N s s' .major #[.int .i64 10, .int .i64 a, .int .i64 b, .int .i64 cc, .int .u64 (x : Int)] ans w1) (R2 := M2 w0 w wb c c' N #[.int .i64 10, .int .i64 a, .int .i64 b, .int .i64 cc, .int .u64 (x : Int)]) hwb hwk (hide fun j => (arm1 (mk := mkC) hp hwk (fun W r => (pmajor r).mono fun e w hh => hh.up hN) j).mono ?_) (hide ?_) (hide ?_) (hide fun w2 m => m.2)).mono fun e w' hh => ⟨hh.1, hh.2.1⟩
    · rintro e w1 ⟨ans, rfl, m⟩
      exact ⟨ans.1, rfl, ans, rfl, m⟩
    · rintro v w1 ⟨ans, rfl, m⟩
      exact m.kp
    · rintro v w1 ⟨ans, rfl, m⟩
      exact arm2 (mk := mkC) hlm i (fun W r => (qmajor r).mono fun e w hh => hh.up hN) m 0
  · have n1 : ∀ i : Int, k ≠ i → (k == i) = false := fun i hi => by rw [beq_eq_false_iff_ne]; exact hi
    refine (st6_no wb k a b cc x w (n1 _ k1) (n1 _ k2) (n1 _ k3) (n1 _ k4) (n1 _ k5) (n1 _ k6) (n1 _ k7) (n1 _ k8) (n1 _ k9) (n1 _ k10)).mono ?_
    rintro e w' ⟨rfl, hf⟩
    exact ⟨rfl, (h0.fresh hf).up hN⟩
end
end Rs
end Go.Proofs.Ytaapakpanbfmlaa

namespace Go.Proofs.Ytaapakpanbfmlaa
namespace Rs
open Go.RowKit Hp
set_option linter.unusedVariables false
set_option linter.unusedSimpArgs false
theorem Rr.new {c : Cr} {w : World} {lv : Value} (hsp : Sp w c.B c.sb c.rb lv [Tv.zero] (List.replicate 16 0) c.lim 0) (hB : c.B ≤ w.heap.size) (hl : c.lim ≤ 16384) : Rr c w ⟨lv, [Tv.zero], List.replicate 16 0, 0⟩ 0 := by
  refine ⟨hsp, ⟨Tv.zero, rfl, rfl⟩, fun x hx => ?_, ⟨fun t ht z hz => ?_⟩, by simp, by omega, Nat.zero_le _, ?_, fun m hm => ?_, hB, hl⟩
  · have hx : x ∈ List.replicate 16 0 := hx
    rw [List.eq_of_mem_replicate hx]; simp
  · have ht : t ∈ [Tv.zero].map Tv.t := ht
    simp [Tv.zero] at ht
    subst ht; cases hz
  · simp [Tv.zero, szT]
  · rw [hm.eq (wds_zero rfl)]; omega
theorem pr_new {w0 w1 w2 : World} {sb lim room sb' rb : Nat} {lv : Value} (h1 : Fr [] w0 w1) (h2 : w0.heap.size ≤ sb) (h3 : Re ⟨w0.heap.size, sb, lim, room⟩ w1 St.new 0) (h4 : Fr [] w1 w2) (h5 : w1.heap.size ≤ sb') (h6 : w1.heap.size ≤ rb) (h7 : Sp w2 w1.heap.size sb' rb lv [Tv.zero] (List.replicate 16 0) lim 0) (hl : lim ≤ 16384) :
    Run3 w0 w2.heap.size ⟨w0.heap.size, sb, lim, room⟩ ⟨w1.heap.size, sb', rb, lim⟩ 0 (w2.alloc (.cells #[.pointer (some ⟨sb, 0, none⟩), .pointer (some ⟨sb', 0, none⟩)] 29)) := by
  have hs : sb < w1.heap.size := h3.cl.sbl
  have z1 := h1.size
  have z2 := h4.size
  have hfp : ∀ b ∈ RSt.fp (⟨w1.heap.size, sb', rb, lim⟩ : Cr) ⟨lv, [Tv.zero], List.replicate 16 0, 0⟩, w1.heap.size ≤ b := fun b hb => by
    unfold RSt.fp Sp.fp at hb
    simp only [List.mem_cons, List.mem_append] at hb
    rcases hb with e | e | e | e
    · omega
    · omega
    · have := h7.l.lt b (by cases hv : lv.ownBlock with
        | none => rw [hv] at e; simp at e
        | some g => rw [hv] at e; simp at e; rw [e])
      exact this.1
    · simp [tblocks, Tv.zero, Value.ownBlock] at e
  have hp : Pr w0 w2 [] ⟨w0.heap.size, sb, lim, room⟩ St.new 0 ⟨w1.heap.size, sb', rb, lim⟩ ⟨lv, [Tv.zero], List.replicate 16 0, 0⟩ 0 := by
    refine ⟨h3.ofCl (h3.cl.fresh h4), Rr.new (c := ⟨w1.heap.size, sb', rb, lim⟩) h7 z2 hl, fun p b hb hb' => ?_, fun p b hb => ?_, fun b hb => Nat.le_trans z1 (hfp b hb), ?_, by simp⟩
    · have e1 : b = sb := St.new_bl _ p b hb
      have := hfp b hb'; omega
    · have e1 : b = sb := St.new_bl _ p b hb
      omega
    · have f := h1.trans h4
      exact ⟨f.os, f.tape, f.output, f.size, fun k hk => f.block k hk (by simp)⟩
  refine ⟨_, _, fun _ => 0, hp.more _, ⟨rfl, rfl, fun a ha => ?_, fun a b ha => ?_⟩, heap_alloc_new _ _⟩
  all_goals
    have h0 : Rch (grF St.new.F) (List.replicate 16 0) a := ha
    have hw := wds_zero (g := grF St.new.F) (ro := List.replicate 16 0) rfl
    have := h3.rch h0
    simp [St.new] at this
def Sp5 (w : World) (lim room : Nat) (e : Ending) (w' : World) : Prop := ∃ wb c c', e = .returned (.tuple #[.pointer (some ⟨wb, 0, none⟩), .bool true]) ∧ Run3 w wb c c' 0 w' ∧ c.lim = lim ∧ c.room = room ∧ c'.lim = lim
set_option maxRecDepth 100000 in
set_option maxHeartbeats 2000000 in
theorem spaces5_main (lim room : Nat) (w : World) (hl : lim ≤ 16384) (hr : room ≤ lim) : Calls Try.prog 5 #[.int .i64 (lim : Int), .int .i64 (room : Int)] w (Sp5 w lim room) := by
  have hli : (lim : Int) ≤ 16384 := by omega
  have hri : (room : Int) ≤ (lim : Int) := by omega
  have HLR := hide (And.intro hl hr)
  clear hl hr
  go_enter Try.func5, Try.ntmps5
  go_wp2_with fail
  refine (pnew lim room w (unhide HLR).1 (unhide HLR).2).mono ?_
  rintro e w1 ⟨sb, rfl, hf1, hs1, hre1⟩
  have HP1 := hide (And.intro hf1 (And.intro hs1 hre1))
  clear hf1 hs1 hre1
  go_wp2_with fail
  refine (rnew_any lim w1).mono ?_
  rintro e w2 ⟨sb', rb, lv, rfl, hf2, hs2, hs3, hsp⟩
  have HR := hide (pr_new (unhide HP1).1 (unhide HP1).2.1 (unhide HP1).2.2 hf2 hs2 hs3 hsp (unhide HLR).1)
  clear hf2 hs2 hs3 hsp HP1
  go_wp2
  go_ret2
  exact ⟨_, _, _, rfl, unhide HR, rfl, rfl, rfl⟩
set_option maxRecDepth 100000 in
set_option maxHeartbeats 2000000 in
theorem spaces5_out (lim room : Int) (w : World) (h : lim < 0 ∨ 16384 < lim ∨ room < 0 ∨ lim < room) : Calls Try.prog 5 #[.int .i64 lim, .int .i64 room] w fun e w' => e = .returned (.tuple #[.pointer none, .bool false]) ∧ w' = w := by
  by_cases h1 : lim < 0
  · clear h
    go_enter Try.func5, Try.ntmps5
    go_wp2
    go_ret2
    exact ⟨rfl, rfl⟩
  by_cases h2 : 16384 < lim
  · clear h
    go_enter Try.func5, Try.ntmps5
    go_wp2
    go_ret2
    exact ⟨rfl, rfl⟩
  by_cases h3 : room < 0
  · clear h
    go_enter Try.func5, Try.ntmps5
    go_wp2
    go_ret2
    exact ⟨rfl, rfl⟩
  have h4 : lim < room := by omega
  clear h
  go_enter Try.func5, Try.ntmps5
  go_wp2
  go_ret2
  exact ⟨rfl, rfl⟩
section
variable {w0 w : World} {wb N : Nat} {c : Cf} {c' : Cr}
def End3 (w0 : World) (wb : Nat) (c : Cf) (c' : Cr) (v : Int) (w1 : World) : Prop := ∃ s1 N s' m, Pr w0 w1 [wb] c s1 N c' s' N ∧ v = ((m : Nat) : Int) ∧ Wds (gR s') s'.ro m ∧ w1.heap[wb]? = some (.cells #[.pointer (some ⟨c.sb, 0, none⟩), .pointer (some ⟨c'.sb, 0, none⟩)] 29 (0, 0))
def End4 (w0 : World) (wb : Nat) (c : Cf) (c' : Cr) (w1 : World) : Prop := Below w0.heap.size w0 w1 ∧ w1.heap[wb]? = some (.cells #[.pointer (some ⟨c.sb, 0, none⟩), .pointer (some ⟨c'.sb, 0, none⟩)] 29 (0, 0))
theorem Run3.endA (h : Run3 w0 wb c c' N w) (j : Nat) : Calls Try.prog 7 #[.pointer (some ⟨c.sb, 0, none⟩), .bool true] (w.drewN j) fun e w1 => ∃ v, e = .returned (.int .i64 v) ∧ End3 w0 wb c c' v w1 := by
  obtain ⟨s, s', φ, hp, i, hk⟩ := h
  have hpj := hp.drewN j
  refine (pmajor hpj.ra).mono ?_
  rintro e w1 ⟨ans, s1, rfl, r, ev, m, hm, rfl, ψ, _⟩
  obtain ⟨h2, e2⟩ := hpj.left r ev
  exact ⟨_, rfl, s1, N, s', m, h2, rfl, hm.iso i, by rw [e2 wb (by simp)]; exact hk⟩
theorem End3.endB {v : Int} (h : End3 w0 wb c c' v w) : Calls Try.prog 8 #[.pointer (some ⟨c'.sb, 0, none⟩)] w fun e w2 => e = .returned (.int .i64 v) ∧ End4 w0 wb c c' w2 := by
  obtain ⟨s1, N, s', m, hp, rfl, hm, hk⟩ := h
  refine (qmajor hp.rb).mono ?_
  rintro e w2 ⟨ans, s2, rfl, r, ev, n, hn, rfl, _⟩
  obtain ⟨h2, e2⟩ := hp.right r ev
  exact ⟨by rw [hm.eq hn]; rfl, h2.fr, by rw [e2 wb (by simp)]; exact hk⟩
theorem End3.cells {v : Int} (h : End3 w0 wb c c' v w) : w.heap[wb]? = some (.cells #[.pointer (some ⟨c.sb, 0, none⟩), .pointer (some ⟨c'.sb, 0, none⟩)] 29 (0, 0)) := by
  obtain ⟨_, _, _, _, _, _, _, hk⟩ := h; exact hk
end
end Rs
end Go.Proofs.Ytaapakpanbfmlaa

namespace Go.Proofs.Ytaapakpanbfmlaa
namespace Rs
open Go.ChangeShapes Go.WideShapes Go.ChangeAt Go.RowKit
set_option linter.unusedVariables false
/-- The steps that came in. -/
def Scr (w : World) (ad : Option Addr) (n : Nat) : Prop := ∀ k, k < n → ∃ g off, ad = some ⟨g, off, none⟩ ∧ g < w.heap.size ∧ ∃ (kd a b cc : Int) (x : Nat), w.cell? ⟨g, off + k * 5, none⟩ = some (.int .i64 kd) ∧ w.cell? ⟨g, off + k * 5 + 1, none⟩ = some (.int .i64 a) ∧ w.cell? ⟨g, off + k * 5 + 2, none⟩ = some (.int .i64 b) ∧ w.cell? ⟨g, off + k * 5 + 3, none⟩ = some (.int .i64 cc) ∧ w.cell? ⟨g, off + k * 5 + 4, none⟩ = some (.int .u64 (x : Int))
theorem c32 : Try.prog.cellsOf 32 = 5 := by kernel_rfl
theorem c3 : Try.prog.cellsOf 3 = 1 := by kernel_rfl
theorem c30 : Try.prog.cellsOf 30 = 1 := by kernel_rfl
section
variable {H : Type} {enc : TypeId × Value → H} {w : World}
set_option maxRecDepth 100000 in
/-- One step, from what it reads as. -/
theorem one_op {n : Nat} {cs : List Value} {d : DataW H} {pl : List MemPlace} (h : DataW.trod enc Try.prog w 0 (fun _ => true) true n 32 cs = some (d, pl)) :
    ∃ (kd a b cc : Int) (x : Nat), cs = [.int .i64 kd, .int .i64 a, .int .i64 b, .int .i64 cc, .int .u64 (x : Int)] := by
  obtain ⟨xs, k, hk, hxy, hcl, hxl, hf⟩ := DataW.trod_struct Try.underlying32 h
  rw [c32] at hcl
  match xs, hxl, cs, hcl with
  | [y0, y1, y2, y3, y4], _, [v0, v1, v2, v3, v4], _ =>
    have g0 := hf 0 _ rfl
    have g1 := hf 1 _ rfl
    have g2 := hf 2 _ rfl
    have g3 := hf 3 _ rfl
    have g4 := hf 4 _ rfl
    simp [c3, c30] at g0 g1 g2 g3 g4
    obtain ⟨n0, e0, q0, p0⟩ := DataW.trod_int Try.underlying3 g0
    obtain ⟨n1, e1, q1, p1⟩ := DataW.trod_int Try.underlying3 g1
    obtain ⟨n2, e2, q2, p2⟩ := DataW.trod_int Try.underlying3 g2
    obtain ⟨n3, e3, q3, p3⟩ := DataW.trod_int Try.underlying3 g3
    obtain ⟨n4, e4, q4, p4⟩ := DataW.trod_int Try.underlying30 g4
    simp only [List.cons.injEq, and_true] at e0 e1 e2 e3 e4
    subst e0 e1 e2 e3 e4
    have b4 := bounds_u64 p4
    refine ⟨n0, n1, n2, n3, n4.toNat, ?_⟩
    have t4 : ((n4.toNat : Nat) : Int) = n4 := by omega
    rw [t4]
set_option maxRecDepth 100000 in
/-- The list, from what it reads as. -/
theorem is_scr {a : Option Addr} {len cap fuel : Nat} {d : DataW H} {pl : List MemPlace} (h : DataW.trod enc Try.prog w 0 (fun _ => true) true fuel 22 [.slice a len cap] = some (d, pl)) : Scr w a len := by
  rcases Go.Deep.open_slice Try.underlying22 h with ⟨h0, _⟩ | ⟨x, len', cap', m, n, D, Pl, hcs, hb, hl, hm, hmm, hx, hall⟩
  · simp only [List.cons.injEq, Value.slice.injEq, and_true] at h0
    intro k hk
    omega
  simp only [List.cons.injEq, Value.slice.injEq, and_true] at hcs
  obtain ⟨rfl, rfl, rfl⟩ := hcs
  simp only [if_true] at hmm
  subst hmm
  intro i hi
  obtain ⟨cs', g1, g2⟩ := hall i (by omega)
  rw [c32] at g1
  obtain ⟨_, _, g3⟩ := World.cells?_some g1
  obtain ⟨kd, a, b, cc, z, rfl⟩ := one_op g2
  have each : ∀ j, j < 5 → w.cell? (x.add (i * 5 + j)) = ([.int .i64 kd, .int .i64 a, .int .i64 b, .int .i64 cc, .int .u64 (z : Int)] : List Value)[j]? := fun j hj => by rw [← Go.Deep.add_add]; exact g3 j hj
  obtain ⟨cs0, G1, G2⟩ := hall 0 (by omega)
  rw [c32] at G1
  obtain ⟨_, _, G3⟩ := World.cells?_some G1
  obtain ⟨kd0, a0, b0, cc0, z0, rfl⟩ := one_op G2
  have G0 := G3 0 (by omega)
  obtain ⟨g, off, spot⟩ := x
  have hspot : spot = none := by
    have := World.cell?_spot (show w.cell? _ = some _ from G0)
    simpa [Addr.add] using this
  subst hspot
  have e2 : ∀ j, j < 5 → w.cell? ⟨g, off + i * 5 + j, none⟩ = ([.int .i64 kd, .int .i64 a, .int .i64 b, .int .i64 cc, .int .u64 (z : Int)] : List Value)[j]? := fun j hj => by
    have := each j hj
    rw [Go.WideShapes.add_plain, ← Nat.add_assoc] at this; exact this
  have hg : g < w.heap.size := cell_lt (show w.cell? ⟨g, off + i * 5 + 0, none⟩ = some _ from e2 0 (by omega))
  exact ⟨g, off, rfl, hg, kd, a, b, cc, z, e2 0 (by omega), e2 1 (by omega), e2 2 (by omega), e2 3 (by omega), e2 4 (by omega)⟩
end
end Rs
end Go.Proofs.Ytaapakpanbfmlaa

namespace Go.Proofs.Ytaapakpanbfmlaa
namespace Rs
open Go.RowKit Hp
set_option linter.unusedVariables false
set_option linter.unusedSimpArgs false
set_option maxRecDepth 100000 in
set_option maxHeartbeats 4000000 in
theorem steps3_out (lim room : Int) (ad : Option Addr) (n cap : Nat) (w : World) (h : lim < 0 ∨ 16384 < lim ∨ room < 0 ∨ lim < room) :
    Calls Try.prog 3 #[.int .i64 lim, .int .i64 room, .slice ad n cap] w fun e w' => e = .returned (.bool true) ∧ Below w.heap.size w w' := by
  have HS := hide (spaces5_out lim room w h)
  clear h
  go_enter Try.func3, Try.ntmps3
  go_wp2_with fail
  refine (unhide HS).mono ?_
  rintro e w1 ⟨rfl, hw1⟩
  subst w1
  go_wp2
  go_ret
  exact ⟨rfl, Below.refl _ _⟩
set_option maxRecDepth 100000 in
set_option maxHeartbeats 4000000 in
theorem steps3_main (lim room : Nat) (ad : Option Addr) (n cap : Nat) (w : World) (hl : lim ≤ 16384) (hr : room ≤ lim) (hs : Scr w ad n) :
    Calls Try.prog 3 #[.int .i64 (lim : Int), .int .i64 (room : Int), .slice ad n cap] w fun e w' => e = .returned (.bool true) ∧ Below w.heap.size w w' := by
  have HSp := hide (spaces5_main lim room w hl hr)
  have HS := hide hs
  by_cases hn : 16384 < (n : Int)
  · clear hs
    go_enter Try.func3, Try.ntmps3
    go_wp2_with fail
    refine (unhide HSp).mono ?_
    rintro e w1 ⟨wb, c, c', rfl, hrun, _⟩
    have HB := hide hrun.below
    clear hrun
    go_wp2
    go_ret
    exact ⟨rfl, unhide HB⟩
  · have Hn : Hid (n ≤ 16384) := by have : n ≤ 16384 := by omega
                                    exact this
    have HLR := hide (And.intro hl hr)
    clear hs hl hr
    go_enter Try.func3, Try.ntmps3
    go_wp2_with fail
    refine (unhide HSp).mono ?_
    rintro e w1 ⟨wb, c, c', rfl, hrun, hc1, hc2, hc3⟩
    have HC : Hid (c.lim ≤ 16384 ∧ c.room ≤ 16384 ∧ c'.lim = c.lim) := by
      obtain ⟨q1, q2⟩ := unhide HLR
      exact ⟨by omega, by omega, by omega⟩
    have HR := hide hrun
    have z0 := cell_of_row w1 wb 0 _ 29 (0, 0) hrun.cells.2
    simp at z0
    clear hrun hc1 hc2 hc3 HSp HLR
    go_wp2_with fail
    clear z0
    go_loopw [31] (fun i wr => ∃ k : Nat, k ≤ n ∧ i = .int .i64 (k : Nat) ∧ Hid (Run3 w wb c c' k wr)) (fun i _ => n - (intOf i).toNat)
    case atStart => exact ⟨0, Nat.zero_le _, rfl, HR⟩
    case round =>
      clear HR
      obtain ⟨k, hk, rfl, hrun⟩ := hrel
      by_cases hlt : k < n
      · obtain ⟨g, off, rfl, hg, kd, a, b, cc, x, x0, x1, x2, x3, x4⟩ := unhide HS k hlt
        have hbe := (unhide hrun).below
        rw [← hbe.cell hg] at x0 x1 x2 x3 x4
        have HA := hide ((unhide hrun).fresh (fr_alloc wr (.cells #[.int .i64 kd, .int .i64 a, .int .i64 b, .int .i64 cc, .int .u64 (x : Int)] 32) []))
        have hki : (k : Int) < (n : Int) := by omega
        have HKN := hide hlt
        clear hrun hbe hk hlt hg HS
        go_wp2_with fail
        refine (step6 (unhide HA) (unhide HC).1 (unhide HC).2.1 (unhide HC).2.2 (by have := unhide HKN; have := unhide Hn; omega) kd a b cc x).mono ?_
        rintro e w5 ⟨rfl, hr5⟩
        have HR5 := hide hr5
        clear hr5 HA
        go_wp2
        go_roundw
        case rel => exact ⟨k + 1, unhide HKN, by go_num, HR5⟩
        case measure => have := unhide HKN; simp [intOf]; omega
      · have hkn : k = n := by omega
        subst hkn
        have hki : ¬ (k : Int) < (k : Int) := by omega
        have z0 := cell_of_row wr wb 0 _ 29 (0, 0) (unhide hrun).cells.2
        have z1 := cell_of_row wr wb 1 _ 29 (0, 0) (unhide hrun).cells.2
        simp at z0 z1
        clear HS hlt hk
        go_wp2_with fail
        go_region_held3 (fun w' => w'.cell? ⟨wb, 0, none⟩ = some (.pointer (some ⟨c.sb, 0, none⟩)) ∧ w'.cell? ⟨wb, 1, none⟩ = some (.pointer (some ⟨c'.sb, 0, none⟩))) (go_keep) (first | (go_at_call 7; refine (Run3.endA (unhide hrun) _).mono ?_; rintro e w5 ⟨v, rfl, hm⟩; have HM := hide hm; have y0 := cell_of_row w5 wb 0 _ 29 (0, 0) hm.cells; have y1 := cell_of_row w5 wb 1 _ 29 (0, 0) hm.cells; simp at y0 y1; clear hm) | (go_at_call 8; refine (End3.endB (unhide HM)).mono ?_; rintro e w6 ⟨rfl, hb6⟩; have HB6 := hide hb6; have x0 := cell_of_row w6 wb 0 _ 29 (0, 0) hb6.2; have x1 := cell_of_row w6 wb 1 _ 29 (0, 0) hb6.2; simp at x0 x1; clear hb6) | fail)
        have v1 : (v == v) = true := by simp
        go_wp2
        go_ret
        exact ⟨rfl, (unhide HB6).1⟩
theorem steps3_any (lim room : Int) (ad : Option Addr) (n cap : Nat) (w : World) (hs : Scr w ad n) :
    Calls Try.prog 3 #[.int .i64 lim, .int .i64 room, .slice ad n cap] w fun e w' => e = .returned (.bool true) ∧ Below w.heap.size w w' := by
  by_cases h : lim < 0 ∨ 16384 < lim ∨ room < 0 ∨ lim < room
  · exact steps3_out lim room ad n cap w h
  · obtain ⟨l, rfl⟩ : ∃ l : Nat, lim = (l : Int) := ⟨lim.toNat, by omega⟩
    obtain ⟨r, rfl⟩ : ∃ r : Nat, room = (r : Int) := ⟨room.toNat, by omega⟩
    exact steps3_main l r ad n cap w (by omega) (by omega) hs
end Rs
end Go.Proofs.Ytaapakpanbfmlaa
