/-
  The space at rest; things under other numbers; the spare table.
-/
import Derived.Test.YtaapakpanbfmlaaPx
namespace Go.Proofs.Ytaapakpanbfmlaa
namespace Rs
open Go.RowKit Hp
set_option linter.unusedVariables false
set_option linter.unusedSimpArgs false
/-- What a reference leads to. -/
def srcF (s : St) (r : Int) : Option Tp := if 0 < r then (s.l .o)[(r - 1).toNat]? else if r < 0 then (s.l .y)[(-r - 1).toNat]? else none
/-- The things as a graph. -/
def grF (F : Int → Option Tp) : Gr Int := ⟨0, fun r => (F r).map absT⟩
/-- The space at rest. -/
structure Re (c : Cf) (w : World) (s : St) (N : Nat) : Prop where
  cl : Cl c w s
  F : ∀ r, s.F r = srcF s r
  mv : ∀ d, ∀ t ∈ s.l d, t.mv = 0
  z : s.l .z = []
  sp : s.sp = s.v .z
  closed : ∀ r t, s.F r = some t → ∀ x ∈ t.r.xs, x = 0 ∨ (s.F x).isSome = true
  roots : ∀ x ∈ s.ro, x = 0 ∨ (s.F x).isSome = true
  cross : ∀ r t k x, 0 < r → s.F r = some t → t.r.xs[k]? = some x → x < 0 → (r, k) ∈ s.C
  Cok : ∀ r k, (r, k) ∈ s.C → 0 < r ∧ ∃ t, s.F r = some t ∧ k < t.r.xs.length
  szs : ∀ r t, s.F r = some t → t.r.xs.length ≤ 32768 ∧ t.q.xs.length ≤ 32768
  qs : ∀ r t, s.F r = some t → ∀ x ∈ t.q.xs, 0 ≤ x
  yw : s.yw = ((s.l .y).map Tp.sz).sum
  ow : s.ow = ((s.l .o).map Tp.sz).sum
  n : (s.l .o).length + (s.l .y).length ≤ N
  N : N ≤ 32768
theorem srcF_ref (s : St) (d : Tb) (hd : d = .o ∨ d = .y) (j : Nat) : srcF s (refOf d j) = (s.l d)[j]? := by
  unfold srcF refOf
  rcases hd with rfl | rfl
  · simp only; rw [if_pos (by omega)]; congr 1; omega
  · simp only; rw [if_neg (by omega), if_pos (by omega)]; congr 1; omega
theorem srcF_zero (s : St) : srcF s 0 = none := by unfold srcF; simp
theorem srcF_some {s : St} {r : Int} {t : Tp} (h : srcF s r = some t) : ∃ d, (d = .o ∨ d = .y) ∧ ∃ j, r = refOf d j ∧ (s.l d)[j]? = some t := by
  unfold srcF at h
  by_cases h1 : 0 < r
  · rw [if_pos h1] at h
    exact ⟨.o, .inl rfl, (r - 1).toNat, by unfold refOf; simp only; omega, h⟩
  · rw [if_neg h1] at h
    by_cases h2 : r < 0
    · rw [if_pos h2] at h
      exact ⟨.y, .inr rfl, (-r - 1).toNat, by unfold refOf; simp only; omega, h⟩
    · rw [if_neg h2] at h; cases h
/-- The same rows under other numbers. -/
theorem Cl.rekey {c : Cf} {w : World} {s : St} (h : Cl c w s) (F' : Int → Option Tp) (ι : Int → Int) (h1 : ∀ r t', F' r = some t' → ∃ t, s.F (ι r) = some t ∧ t'.r = t.r ∧ t'.q = t.q) (h2 : ∀ r r', (F' r).isSome = true → (F' r').isSome = true → ι r = ι r' → r = r') : Cl c w { s with F := F' } ∧ ∀ p, ∀ b ∈ St.bl c { s with F := F' } p, ∃ p0, b ∈ s.bl c p0 := by
  have hrow : ∀ r, ∀ b ∈ St.bl c { s with F := F' } (.row r), (F' r).isSome = true ∧ b ∈ s.bl c (.row (ι r)) := fun r b hb => by
    simp only [St.bl] at hb
    cases hF : F' r with
    | none => rw [hF] at hb; simp at hb
    | some t' =>
      rw [hF] at hb
      have hb : b ∈ t'.own := hb
      obtain ⟨t, e1, e2, e3⟩ := h1 r t' hF
      refine ⟨rfl, ?_⟩
      simp only [St.bl]
      rw [e1]
      show b ∈ t.own
      unfold Tp.own at hb ⊢
      rw [e2, e3] at hb; exact hb
  refine ⟨⟨fun p => ?_, fun p p' hpp b hb hb' => ?_, h.B⟩, fun p b hb => ?_⟩
  · cases p with
    | sb => exact h.has .sb
    | cv => exact h.has .cv
    | tab d => exact h.has (.tab d)
    | row r =>
      intro t' ht'
      obtain ⟨t, e1, e2, e3⟩ := h1 r t' ht'
      have := h.has (.row (ι r)) t e1
      unfold Tp.own at this ⊢
      rw [e2, e3]; exact this
  · cases p with
    | row r =>
      obtain ⟨a1, a2⟩ := hrow r b hb
      cases p' with
      | row r' =>
        obtain ⟨a3, a4⟩ := hrow r' b hb'
        have hne : r ≠ r' := fun e => hpp (by rw [e])
        exact h.ap (.row (ι r)) (.row (ι r')) (fun e => hne (h2 r r' a1 a3 (by injection e))) b a2 a4
      | sb => exact h.ap (.row (ι r)) .sb (by simp) b a2 hb'
      | cv => exact h.ap (.row (ι r)) .cv (by simp) b a2 hb'
      | tab d => exact h.ap (.row (ι r)) (.tab d) (by simp) b a2 hb'
    | sb =>
      cases p' with
      | row r' => exact h.ap .sb (.row (ι r')) (by simp) b hb (hrow r' b hb').2
      | sb => exact absurd rfl hpp
      | cv => exact h.ap .sb .cv (by simp) b hb hb'
      | tab d => exact h.ap .sb (.tab d) (by simp) b hb hb'
    | cv =>
      cases p' with
      | row r' => exact h.ap .cv (.row (ι r')) (by simp) b hb (hrow r' b hb').2
      | sb => exact h.ap .cv .sb (by simp) b hb hb'
      | cv => exact absurd rfl hpp
      | tab d => exact h.ap .cv (.tab d) (by simp) b hb hb'
    | tab d =>
      cases p' with
      | row r' => exact h.ap (.tab d) (.row (ι r')) (by simp) b hb (hrow r' b hb').2
      | sb => exact h.ap (.tab d) .sb (by simp) b hb hb'
      | cv => exact h.ap (.tab d) .cv (by simp) b hb hb'
      | tab d' => exact h.ap (.tab d) (.tab d') hpp b hb hb'
  · cases p with
    | row r => exact ⟨_, (hrow r b hb).2⟩
    | sb => exact ⟨.sb, hb⟩
    | cv => exact ⟨.cv, hb⟩
    | tab d => exact ⟨.tab d, hb⟩
/-- The table that things have left is spare. -/
def St.spared (s : St) (v : Value) : St := { s with v := updAt s.v .z v, l := updAt s.l .z [], sp := v }
theorem Cl.spare {c : Cf} {w W : World} {s : St} (h : Cl c w s) {a : Option Addr} {n cap : Nat} (hv : s.v .z = .slice a n cap) (hfr : Fr (ob (s.v .z)) w W) (hown : W.ownsRow c.B 96 9 (.slice a 0 cap) 0 []) :
    W.heap[c.sb]? = w.heap[c.sb]? ∧ Cl c (W.setCell ⟨c.sb, 7, none⟩ (.slice a 0 cap)) (s.spared (.slice a 0 cap)) ∧ Ev c w s (W.setCell ⟨c.sb, 7, none⟩ (.slice a 0 cap)) (s.spared (.slice a 0 cap)) := by
  have hsn : c.sb ∉ ob (s.v .z) := fun e => h.ap .sb (.tab .z) (by simp) c.sb (by simp [St.bl]) e
  have hsb := h.sbl
  have hW : W.heap[c.sb]? = w.heap[c.sb]? := hfr.block c.sb hsb hsn
  have hWs := hW.trans (h.has .sb).1
  have a1 := heap_setCell_same W c.sb 7 _ 59 (.slice a 0 cap) hWs
  have hF : Fr (c.sb :: ob (s.v .z)) w (W.setCell ⟨c.sb, 7, none⟩ (.slice a 0 cap)) := (hfr.mono (fun b hb => List.mem_cons_of_mem _ hb)).set (List.mem_cons_self ..) _
  generalize hw' : W.setCell ⟨c.sb, 7, none⟩ (.slice a 0 cap) = w' at a1 hF ⊢
  have hbl : ∀ p, ∀ b ∈ (s.spared (.slice a 0 cap)).bl c p, b ∈ s.bl c p := by
    intro p b hb
    cases p with
    | sb => exact hb
    | cv => exact hb
    | row r => exact hb
    | tab d =>
      by_cases hd : d = .z
      · subst hd
        simp only [St.bl, St.spared, updAt_same] at hb
        simp only [St.bl]; rw [hv]
        cases a with
        | none => simp [ob, Value.ownBlock] at hb
        | some x => simpa [ob, Value.ownBlock] using hb
      · simp only [St.bl, St.spared] at hb
        rw [updAt_ne _ _ hd] at hb; exact hb
  refine ⟨hW, h.upd (fun p => p = .sb ∨ p = .tab .z) (fun p hp => ?_) (fun p hp b hb => ?_) (fun p hp => ?_) (fun p hp b hb => .inl (hbl p b hb)) (fun p p' hp hp' hne b hb hlb _ => ?_) hF.size, Ev.of hF (fun b hb => ?_) (fun p b hb => .inl (hbl p b hb))⟩
  · cases p with
    | sb => exact absurd (.inl rfl) hp
    | cv => exact ⟨fun h => h, rfl⟩
    | row r => exact ⟨fun h => h, rfl⟩
    | tab d =>
      have hd : d ≠ .z := fun e => hp (.inr (by rw [e]))
      refine ⟨fun h => ?_, ?_⟩
      · unfold Has at h ⊢
        simp only [St.spared]
        rw [updAt_ne _ _ hd, updAt_ne _ _ hd]; exact h
      · simp only [St.bl, St.spared]; rw [updAt_ne _ _ hd]
  · refine hF.block b ((h.has p).lt b hb) (fun e => ?_)
    rcases List.mem_cons.1 e with e | e
    · exact h.ap p .sb (fun e2 => hp (.inl e2)) b hb (by simp [St.bl, e])
    · exact h.ap p (.tab .z) (fun e2 => hp (.inr e2)) b hb e
  · rcases hp with rfl | rfl
    · refine ⟨?_, (h.has .sb).2⟩
      rw [a1]
      congr 2
    · unfold Has
      simp only [St.spared, updAt_same]
      refine row_kept (F := [c.sb]) (w := W) (w' := w') hown ?_ (fun b hb e => ?_)
      · rw [← hw']
        exact (Fr.refl _ _).set (by simp) _
      · rw [List.mem_singleton] at e
        refine hsn ?_
        rw [hv, ← e]
        cases a with
        | none => simp [Value.ownBlock] at hb
        | some x => simpa [ob, Value.ownBlock] using hb
  · have := (h.has p).lt b (hbl p b hb); omega
  · rcases List.mem_cons.1 hb with e | e
    · exact ⟨.sb, by simp [St.bl, e]⟩
    · exact ⟨.tab .z, e⟩
/-- The old go into the table that is spare. -/
def sw : Tb → Tb
  | .o => .z
  | .y => .y
  | .z => .o
def St.turned (s : St) : St := { s with v := fun d => s.v (sw d), l := fun d => s.l (sw d), ow := 0 }
theorem Cl.turned {c : Cf} {w : World} {s : St} (h : Cl c w s) (hsp : s.sp = s.v .z) : Cl c ((w.setCell ⟨c.sb, 5, none⟩ (s.v .z)).setCell ⟨c.sb, 6, none⟩ (.int .i64 0)) s.turned ∧ Ev c w s ((w.setCell ⟨c.sb, 5, none⟩ (s.v .z)).setCell ⟨c.sb, 6, none⟩ (.int .i64 0)) s.turned := by
  have a1 := heap_setCell_same w c.sb 5 _ 59 (s.v .z) (h.has .sb).1
  have a2 := heap_setCell_same _ c.sb 6 _ 59 (.int .i64 0) a1
  have hF : Fr [c.sb] w ((w.setCell ⟨c.sb, 5, none⟩ (s.v .z)).setCell ⟨c.sb, 6, none⟩ (.int .i64 0)) := ((Fr.refl _ _).set (by simp) _).set (by simp) _
  generalize ((w.setCell ⟨c.sb, 5, none⟩ (s.v .z)).setCell ⟨c.sb, 6, none⟩ (.int .i64 0)) = w' at a2 hF ⊢
  -- which part is which
  let π : Part → Part := fun p => match p with
    | .tab .o => .tab .z
    | .tab .z => .tab .o
    | p => p
  have hπ : ∀ p, s.turned.bl c p = s.bl c (π p) := fun p => by
    cases p with
    | tab d => cases d <;> rfl
    | sb => rfl
    | cv => rfl
    | row r => rfl
  have hπi : ∀ p p', p ≠ p' → π p ≠ π p' := fun p p' hne e => hne (by
    cases p with
    | tab d => cases p' with
      | tab d' => cases d <;> cases d' <;> simp_all [π]
      | sb => cases d <;> simp_all [π]
      | cv => cases d <;> simp_all [π]
      | row r => cases d <;> simp_all [π]
    | sb => cases p' with
      | tab d' => cases d' <;> simp_all [π]
      | sb => rfl
      | cv => simp_all [π]
      | row r => simp_all [π]
    | cv => cases p' with
      | tab d' => cases d' <;> simp_all [π]
      | sb => simp_all [π]
      | cv => rfl
      | row r => simp_all [π]
    | row r => cases p' with
      | tab d' => cases d' <;> simp_all [π]
      | sb => simp_all [π]
      | cv => simp_all [π]
      | row r' => simp_all [π])
  have hoth : ∀ p, p ≠ .sb → ∀ b ∈ s.bl c p, w'.heap[b]? = w.heap[b]? := fun p hp b hb => hF.block b ((h.has p).lt b hb) (fun e => h.ap p .sb hp b hb e)
  refine ⟨⟨fun p => ?_, fun p p' hpp b hb hb' => h.ap (π p) (π p') (hπi p p' hpp) b (by rw [← hπ]; exact hb) (by rw [← hπ]; exact hb'), Nat.le_trans h.B hF.size⟩, Ev.of hF (fun b hb => ⟨.sb, hb⟩) (fun p b hb => ?_) |>.said (s2 := s.turned) (s1 := s) (fun p b hb => ⟨π p, by rw [← hπ]; exact hb⟩)⟩
  · cases p with
    | sb =>
      refine ⟨?_, (h.has .sb).2⟩
      rw [a2]
      congr 2
    | cv => exact (h.has .cv).same (hoth .cv (by simp))
    | row r => exact (h.has (.row r)).same (hoth (.row r) (by simp))
    | tab d =>
      cases d with
      | o => exact (h.has (.tab .z)).same (hoth (.tab .z) (by simp))
      | y => exact (h.has (.tab .y)).same (hoth (.tab .y) (by simp))
      | z => exact (h.has (.tab .o)).same (hoth (.tab .o) (by simp))
  · exact .inl hb
end Rs
end Go.Proofs.Ytaapakpanbfmlaa
