/-
  One step of one space, by its number; two spaces side by side; the first steps.
-/
import Derived.Test.YtaapakpanbfmlaaQn
namespace Go.Proofs.Ytaapakpanbfmlaa
namespace Hp
open Rs
set_option linter.unusedSectionVars false
set_option linter.unusedVariables false
section
variable {α : Type} [DecidableEq α]
def Opn.plain : Opn → Bool
  | .word _ _ | .same _ _ | .minor | .major => false
  | _ => true
theorem Eff.fst {lim : Nat} {op : Opn} {g g' : Gr α} {ro ro' : List α} {ans : Int × Int} (hp : op.plain = true) (h : Eff lim op g ro ans g' ro') : ans.1 = 0 := by
  cases op with
  | word a k => cases hp
  | same a b => cases hp
  | minor => cases hp
  | major => cases hp
  | drop a => obtain ⟨_, h⟩ := h; split at h <;> rw [h.1]
  | copy a b => obtain ⟨_, h⟩ := h; split at h <;> rw [h.1]
  | put a k f => obtain ⟨_, h⟩ := h; split at h <;> rw [h.1]
  | get t a k => obtain ⟨_, h⟩ := h; split at h <;> rw [h.1]
  | set a k x => obtain ⟨_, h⟩ := h; split at h <;> rw [h.1]
  | make k r q =>
    have h : (if at16 k = true ∧ 0 ≤ r ∧ 0 ≤ q then _ else _) := h
    by_cases hc : at16 k = true ∧ 0 ≤ r ∧ 0 ≤ q
    · rw [if_pos hc] at h
      obtain ⟨m, _, h⟩ := h
      split at h <;> rw [h.1]
    · rw [if_neg hc] at h
      rw [h.1]
theorem Eff.same01 {lim : Nat} {a b : Int} {g g' : Gr α} {ro ro' : List α} {ans : Int × Int} (h : Eff lim (.same a b) g ro ans g' ro') : ans.1 = if ans.1 = 1 then 1 else 0 := by
  obtain ⟨_, _, h⟩ := h
  split at h
  · rw [h]
    by_cases he : rootG g ro a = rootG g ro b
    · simp [he]
    · simp [he]
  · rw [h]; simp
/-- At place 0 a thing with these words, at place 1 nothing. -/
structure Q0 (ws : List Nat) (g : Gr α) (ro : List α) : Prop where
  a : rootG g ro 0 ≠ g.z
  b : rootG g ro 1 = g.z
  w : wordsG g ro 0 = ws
theorem wds_zero {g : Gr α} {ro : List α} (h : ro = List.replicate 16 g.z) : Wds g ro 0 := by
  refine ⟨[], List.nodup_nil, fun a => ⟨fun h => by simp at h, fun hr => ?_⟩, rfl⟩
  exfalso
  induction hr with
  | root h1 h2 => rw [h] at h1; exact h2 (List.eq_of_mem_replicate h1)
  | step _ _ _ _ ih => exact ih
theorem at0 : at16 0 = true := by decide
theorem at1 : at16 1 = true := by decide
theorem at16n : at16 16 = false := by decide
theorem Eff.makePos {lim : Nat} {k r q : Int} {g g' : Gr α} {ro ro' : List α} {ans : Int × Int} (ha : at16 k = true ∧ 0 ≤ r ∧ 0 ≤ q) (h : Eff lim (.make k r q) g ro ans g' ro') : ∃ m : Nat, Wds g ro m ∧ if m + (2 + r.toNat + q.toNat) ≤ lim then ans = (0, 0) ∧ ∃ g1 ro1 ψ a, Iso g ro g1 ro1 ψ ∧ a ≠ g1.z ∧ ¬ Rch g1 ro1 a ∧ g' = g1.upd a (List.replicate r.toNat g1.z, List.replicate q.toNat 0) ∧ ro' = ro1.set k.toNat a else ans = (0, 28) ∧ ∃ ψ, Iso g ro g' ro' ψ := by
  have h : (if at16 k = true ∧ 0 ≤ r ∧ 0 ≤ q then _ else _) := h
  rw [if_pos ha] at h
  exact h
theorem Eff.make0 {lim : Nat} {g g' : Gr α} {ro ro' : List α} {ans : Int × Int} (hro : ro = List.replicate 16 g.z) (hl : 5 < lim) (h : Eff lim (.make 0 1 1) g ro ans g' ro') : ans = (0, 0) ∧ Q0 [0] g' ro' := by
  obtain ⟨m, hm, h⟩ := h.makePos ⟨at0, by omega, by omega⟩
  have hm0 := hm.eq (wds_zero hro)
  subst hm0
  rw [if_pos (by simp; omega)] at h
  obtain ⟨rfl, g1, ro1, ψ, a, i, ha, na, rfl, rfl⟩ := h
  have hr1 : ro1 = List.replicate 16 g1.z := by rw [i.roots, hro, List.map_replicate, i.z]
  have e0 : rootG (g1.upd a (List.replicate (1 : Int).toNat g1.z, List.replicate (1 : Int).toNat 0)) (ro1.set (0 : Int).toNat a) 0 = a := by
    unfold rootG; rw [hr1]; rfl
  refine ⟨rfl, ⟨by rw [e0]; exact ha, by unfold rootG; rw [hr1]; rfl, ?_⟩⟩
  unfold wordsG
  rw [if_pos at0, e0, upd_same]
  rfl
theorem Eff.set0 {lim : Nat} {g g' : Gr α} {ro ro' : List α} {ans : Int × Int} (q : Q0 [0] g ro) (h : Eff lim (.set 0 0 7) g ro ans g' ro') : ans = (0, 0) ∧ Q0 [7] g' ro' := by
  obtain ⟨rfl, h⟩ := h
  rw [q.w, if_pos (by decide)] at h
  obtain ⟨rfl, rfl⟩ := h
  refine ⟨rfl, ⟨q.a, q.b, ?_⟩⟩
  unfold wordsG
  rw [if_pos at0]
  have e : rootG (g.upd (rootG g ro' 0) (refsG g ro' 0, [0].set (0 : Int).toNat 7)) ro' 0 = rootG g ro' 0 := rfl
  rw [e, upd_same]
  rfl
theorem Eff.word0 {lim : Nat} {g g' : Gr α} {ro ro' : List α} {ans : Int × Int} (q : Q0 [7] g ro) (h : Eff lim (.word 0 0) g ro ans g' ro') : ans = (7, 0) ∧ g' = g ∧ ro' = ro := by
  obtain ⟨rfl, rfl, h⟩ := h
  rw [q.w, if_pos (by decide)] at h
  exact ⟨h, rfl, rfl⟩
theorem Eff.sameF {lim : Nat} {ws : List Nat} {g g' : Gr α} {ro ro' : List α} {ans : Int × Int} (q : Q0 ws g ro) (h : Eff lim (.same 0 1) g ro ans g' ro') : ans = (0, 0) ∧ g' = g ∧ ro' = ro := by
  obtain ⟨rfl, rfl, h⟩ := h
  rw [if_pos ⟨at0, at1⟩, if_neg (by rw [q.b]; exact q.a)] at h
  exact ⟨h, rfl, rfl⟩
theorem Eff.putF {lim : Nat} {g g' : Gr α} {ro ro' : List α} {ans : Int × Int} (h : Eff lim (.put 0 0 16) g ro ans g' ro') : ans = (0, 7) ∧ g' = g ∧ ro' = ro := by
  obtain ⟨rfl, h⟩ := h
  rw [if_neg (by rw [at16n]; simp)] at h
  exact ⟨h.1, h.2, rfl⟩
end
end Hp
namespace Rs
open Go.RowKit Hp
set_option linter.unusedVariables false
set_option linter.unusedSimpArgs false
/-- The step of a number. -/
def toOp (k a b cc : Int) (x : Nat) : Option Opn :=
  if k = 1 then some (.make a b cc) else if k = 2 then some (.copy a b) else if k = 3 then some (.drop a) else if k = 4 then some (.put a b cc) else if k = 5 then some (.get a b cc) else if k = 6 then some (.set a b x) else if k = 7 then some (.word a b) else if k = 8 then some (.same a b) else none
/-- What a step of that number leaves. -/
def EffO (lim : Nat) (o : Option Opn) (s : St) (ans : Int × Int) (s' : St) : Prop := match o with
  | some op => Eff lim op (grF s.F) s.ro ans (grF s'.F) s'.ro
  | none => ans = (0, 0) ∧ s' = s
/-- Two spaces side by side. -/
structure Bes (w0 w : World) (c : Cf) (s : St) (N : Nat) (c' : Cf) (s' : St) (N' : Nat) : Prop where
  ra : Re c w s N
  rb : Re c' w s' N'
  ap : ∀ p p', ∀ b ∈ s.bl c p, b ∉ s'.bl c' p'
  la : ∀ p, ∀ b ∈ s.bl c p, w0.heap.size ≤ b
  lb : ∀ p, ∀ b ∈ s'.bl c' p, w0.heap.size ≤ b
  fr : Below w0.heap.size w0 w
section
variable {w0 w w1 : World} {c c' : Cf} {s s' s1 : St} {N N' N1 : Nat}
theorem Bes.symm (h : Bes w0 w c s N c' s' N') : Bes w0 w c' s' N' c s N := ⟨h.rb, h.ra, fun p p' b hb hb' => h.ap p' p b hb' hb, h.lb, h.la, h.fr⟩
theorem Bes.left (h : Bes w0 w c s N c' s' N') (r : Re c w1 s1 N1) (e : Ev c w s w1 s1) : Bes w0 w1 c s1 N1 c' s' N' := by
  refine ⟨r, h.rb.ofCl ⟨fun p => (h.rb.cl.has p).same (fun b hb => e.block b ((h.rb.cl.has p).lt b hb) (fun p0 hp0 => h.ap p0 p b hp0 hb)), h.rb.cl.ap, Nat.le_trans h.rb.cl.B e.size⟩, fun p p' b hb hb' => ?_, fun p b hb => ?_, h.lb, h.fr.trans ⟨e.os, e.tape, e.output, e.size, fun k hk => e.block k (Nat.lt_of_lt_of_le hk h.fr.size) (fun p hp => by have := h.la p k hp; omega)⟩⟩
  · rcases e.fp p b hb with ⟨p0, h0⟩ | h0
    · exact h.ap p0 p' b h0 hb'
    · have := (h.rb.cl.has p').lt b hb'; omega
  · rcases e.fp p b hb with ⟨p0, h0⟩ | h0
    · exact h.la p0 b h0
    · exact Nat.le_trans h.fr.size h0
theorem Bes.right (h : Bes w0 w c s N c' s' N') (r : Re c' w1 s1 N1) (e : Ev c' w s' w1 s1) : Bes w0 w1 c s N c' s1 N1 := (h.symm.left r e).symm
theorem Bes.fresh (h : Bes w0 w c s N c' s' N') (f : Fr [] w w1) : Bes w0 w1 c s N c' s' N' := h.left (h.ra.ofCl (h.ra.cl.fresh f)) (Ev.fresh f)
theorem Bes.up (h : Bes w0 w c s N c' s' N') (h1 : N < 32768) : Bes w0 w c s (N + 1) c' s' N' := ⟨h.ra.up h1, h.rb, h.ap, h.la, h.lb, h.fr⟩
end
section
variable {c : Cf} {w w' : World} {s : St} {N : Nat}
theorem POk.up {op : Opn} {mk : Int × Int → Ending} {e : Ending} (hN : N < 32768) (h : POk c w s N op mk e w') : POk c w s (N + 1) op mk e w' := by
  obtain ⟨ans, s', h1, h2, h3, h4⟩ := h
  exact ⟨ans, s', h1, h2.up hN, h3, h4⟩
theorem pans_E {op : Opn} (hp : op.plain = true) {f : Nat} {args : Array Value} {sb : Nat} {v : Value} {o : Obj} (hw : Calls Try.prog f args (w.alloc o) (POk c (w.alloc o) s (N + 1) op mkE)) : Calls Try.prog f args (w.alloc o) fun e w' => ∃ v, e = .returned (.int .i64 v) ∧ ∃ ans s', ans = ((0 : Int), v) ∧ Re c w' s' (N + 1) ∧ Ev c (w.alloc o) s w' s' ∧ Eff c.lim op (grF s.F) s.ro ans (grF s'.F) s'.ro := by
  refine hw.mono ?_
  rintro e w' ⟨ans, s', rfl, h2, h3, h4⟩
  exact ⟨ans.2, rfl, ans, s', Prod.ext (h4.fst hp) rfl, h2, h3, h4⟩
/-- One step of one space, by its number. -/
theorem pans (h : Re c w s N) (hl : c.lim ≤ 16384) (hrm : c.room ≤ 16384) (hN : N < 32768) (k a b cc : Int) (x : Nat) : Calls Try.prog 15 #[.pointer (some ⟨c.sb, 0, none⟩), .agg #[.int .i64 k, .int .i64 a, .int .i64 b, .int .i64 cc, .int .u64 (x : Int)]] w fun e w' => ∃ ans s', e = mkW ans ∧ Re c w' s' (N + 1) ∧ Ev c w s w' s' ∧ EffO c.lim (toOp k a b cc x) s ans s' := by
  have hfr := fr_alloc w (.cells #[.int .i64 k, .int .i64 a, .int .i64 b, .int .i64 cc, .int .u64 (x : Int)] 32) []
  have ha := h.ofCl (h.cl.fresh hfr)
  have hea : Ev c w s _ s := Ev.fresh hfr
  have fin : ∀ (op : Opn), toOp k a b cc x = some op → ∀ e w', AnsE (fun v w' => ∃ ans s', ans = ((0 : Int), v) ∧ Re c w' s' (N + 1) ∧ Ev c (w.alloc (.cells #[.int .i64 k, .int .i64 a, .int .i64 b, .int .i64 cc, .int .u64 (x : Int)] 32)) s w' s' ∧ Eff c.lim op (grF s.F) s.ro ans (grF s'.F) s'.ro) e w' → ∃ ans s', e = mkW ans ∧ Re c w' s' (N + 1) ∧ Ev c w s w' s' ∧ EffO c.lim (toOp k a b cc x) s ans s' := by
    rintro op ho e w' ⟨v, rfl, ans, s', rfl, h1, h2, h3⟩
    exact ⟨_, s', rfl, h1, hea.trans h2, by rw [ho]; exact h3⟩
  by_cases k1 : k = 1
  · subst k1
    exact (ans15_1 c.sb a b cc x w (hide (pans_E (sb := 0) (v := undef) rfl (pmake ha hl hrm hN a b cc)))).mono (fin _ rfl)
  by_cases k2 : k = 2
  · subst k2
    exact (ans15_2 c.sb a b cc x w (hide (pans_E (sb := 0) (v := undef) rfl ((pcopy ha a b).mono fun e w' hh => hh.up hN)))).mono (fin _ rfl)
  by_cases k3 : k = 3
  · subst k3
    exact (ans15_3 c.sb a b cc x w (hide (pans_E (sb := 0) (v := undef) rfl ((pdrop ha a).mono fun e w' hh => hh.up hN)))).mono (fin _ rfl)
  by_cases k4 : k = 4
  · subst k4
    exact (ans15_4 c.sb a b cc x w (hide (pans_E (sb := 0) (v := undef) rfl ((pput ha a b cc).mono fun e w' hh => hh.up hN)))).mono (fin _ rfl)
  by_cases k5 : k = 5
  · subst k5
    exact (ans15_5 c.sb a b cc x w (hide (pans_E (sb := 0) (v := undef) rfl ((pget ha a b cc).mono fun e w' hh => hh.up hN)))).mono (fin _ rfl)
  by_cases k6 : k = 6
  · subst k6
    exact (ans15_6 c.sb a b cc x w (hide (pans_E (sb := 0) (v := undef) rfl ((pset ha a b x).mono fun e w' hh => hh.up hN)))).mono (fin _ rfl)
  by_cases k7 : k = 7
  · subst k7
    refine (ans15_7 c.sb a b cc x w (R := fun u v w' => POk c (w.alloc (.cells #[.int .i64 7, .int .i64 a, .int .i64 b, .int .i64 cc, .int .u64 (x : Int)] 32)) s (N + 1) (.word a b) mkW (mkW (u, v)) w') (hide ((pword ha a b).mono ?_))).mono ?_
    · rintro e w' hh
      obtain ⟨ans, s', rfl, h2, h3, h4⟩ := hh.up hN
      exact ⟨ans.1, ans.2, rfl, ans, s', rfl, h2, h3, h4⟩
    · rintro e w' ⟨u, v, rfl, ans, s', he, h2, h3, h4⟩
      exact ⟨ans, s', he, h2, hea.trans h3, h4⟩
  by_cases k8 : k = 8
  · subst k8
    refine (ans15_8 c.sb a b cc x w (R := fun u v w' => POk c (w.alloc (.cells #[.int .i64 8, .int .i64 a, .int .i64 b, .int .i64 cc, .int .u64 (x : Int)] 32)) s (N + 1) (.same a b) mkS (.returned (.tuple #[.bool u, .int .i64 v])) w') (hide ((psame ha a b).mono ?_))).mono ?_
    · rintro e w' hh
      obtain ⟨ans, s', rfl, h2, h3, h4⟩ := hh.up hN
      exact ⟨decide (ans.1 = 1), ans.2, rfl, ans, s', rfl, h2, h3, h4⟩
    · rintro e w' ⟨u, v, rfl, ans, s', he, h2, h3, h4⟩
      refine ⟨ans, s', ?_, h2, hea.trans h3, h4⟩
      unfold mkS at he
      simp at he
      unfold mkW
      rw [h4.same01, he.1, he.2]
      by_cases h1 : ans.1 = 1 <;> simp [h1]
  · have n1 : ∀ i : Int, k ≠ i → (k == i) = false := fun i hi => by rw [beq_eq_false_iff_ne]; exact hi
    refine (ans15_no c.sb k a b cc x w (n1 _ k1) (n1 _ k2) (n1 _ k3) (n1 _ k4) (n1 _ k5) (n1 _ k6) (n1 _ k7) (n1 _ k8)).mono ?_
    rintro e w' ⟨rfl, hf⟩
    refine ⟨(0, 0), s, rfl, (h.ofCl (h.cl.fresh hf)).up hN, Ev.fresh hf, ?_⟩
    have : toOp k a b cc x = none := by unfold toOp; rw [if_neg k1, if_neg k2, if_neg k3, if_neg k4, if_neg k5, if_neg k6, if_neg k7, if_neg k8]
    rw [this]
    exact ⟨rfl, rfl⟩
end
end Rs
end Go.Proofs.Ytaapakpanbfmlaa
