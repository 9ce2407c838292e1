/-
  While things move: all references of a thing that has moved are turned.
-/
import Derived.Test.YtaapakpanbfmlaaPr
namespace Go.Proofs.Ytaapakpanbfmlaa
namespace Rs
open Go.RowKit Hp
set_option linter.unusedVariables false
set_option linter.unusedSimpArgs false
section
variable {c : Cf} {w : World} {s : St} {G : Gf} {loc : Int → Int} {ord : List Int} {P : Nat → Nat → Prop}
theorem Co.congrP (h : Co c w s G loc ord P) {P' : Nat → Nat → Prop} (hP : ∀ a b, P' a b ↔ P a b) : Co c w s G loc ord P' := by
  have : P' = P := funext fun a => funext fun b => propext (hP a b)
  rw [this]; exact h
/-- What lies apart may turn. -/
theorem Co.apart (h : Co c w s G loc ord P) {w' : World} {L : List Nat} (hf : Fr L w w') (hn : ∀ p, ∀ b ∈ s.bl c p, b ∉ L) : Co c w' s G loc ord P :=
  ⟨h.cl.kept hf hn, h.gc, h.lo, h.on, h.ty, h.tz, h.tn, h.un, h.okm, h.okd, h.F0, h.szs, h.ow, h.yw, h.cap, h.Pn, h.pre, h.tl, h.z0, h.qs⟩
theorem Ev.later {w0 wr wr' : World} {s0 s' : St} {L : List Nat} (h : Ev c w0 s0 wr s') (hf : Fr L wr wr') (hl : ∀ b ∈ L, w0.heap.size ≤ b) : Ev c w0 s0 wr' s' :=
  ⟨hf.os.trans h.os, hf.tape.trans h.tape, hf.output.trans h.output, Nat.le_trans h.size hf.size, fun k hk hn => by
    rw [hf.block k (Nat.lt_of_lt_of_le hk h.size) (fun e => by have := hl k e; omega)]; exact h.block k hk hn, h.fp⟩
theorem Thg.apart {w0 : World} {s0 s' : St} {loc0 loc' : Int → Int} {ord' : List Int} {wr wr' : World} {j : Nat} {r : Int} {sh : Option (Nat × Array MapEntry × Nat)} {t' : Tp} {fn : FuncId} {cap : Array Value} {bx L : List Nat} {Bs : World → St → Prop} (hf : Fv c G fn cap bx Bs) (h : Thg c w0 s0 G loc0 wr s' loc' ord' P j r sh t' Bs) (hfr : Fr L wr wr') (h1 : ∀ p, ∀ b ∈ s'.bl c p, b ∉ L) (h2 : ∀ b ∈ bx, b ∉ L) (h3 : ∀ b ∈ L, w0.heap.size ≤ b) : Thg c w0 s0 G loc0 wr' s' loc' ord' P j r sh t' Bs := by
  refine ⟨h.co.apart hfr h1, h.ev.later hfr h3, h.le, h.o, h.F, h.sh.same (fun b hb => ?_), hf.bs0 wr s' wr' s' rfl rfl hfr.size (fun b hb => ?_) (fun b hb => (hf.bl wr s' h.bs b hb).2) h.bs⟩
  · have hb' : b ∈ s'.bl c (.row r) := by simp only [St.bl]; rw [h.F]; exact List.mem_append_left _ hb
    exact hfr.block b ((h.co.cl.has (.row r)).lt b hb') (h1 _ b hb')
  · exact hfr.block b (hf.bl wr s' h.bs b hb).1 (h2 b hb)
/-- turn, of a copy of a thing's row. -/
theorem turn64_any {fn : FuncId} {cap : Array Value} {bx : List Nat} {Bs : World → St → Prop} (hf : Fv c G fn cap bx Bs) {w0 : World} {s0 : St} {loc0 : Int → Int} {j rb : Nat} {r : Int} {t : Tp} {cur : Array Value} {ty : TypeId}
    (hco : Co c w s G loc ord P) (hev : Ev c w0 s0 w s) (hle : Le s0 s loc0 loc) (ho : ord[j]? = some r) (hF : s.F r = some t) (hbs : Bs w s) (hnP : ∀ k, ¬ P j k) (hrb : w.heap[rb]? = some (.cells cur ty (0, 0))) (hrn : ∀ p, rb ∉ s.bl c p) (hr1 : cur[1]? = some t.r.sv) (hr2 : cur[2]? = some t.r.pv) :
    Calls Try.prog 64 #[.pointer (some ⟨rb, 0, none⟩), .func (.func fn) #[] cap] w fun e w' => e = .returned (.tuple #[]) ∧ ∃ s' loc' ord', Co c w' s' G loc' ord' (fun a b => P a b ∨ a = j) ∧ Ev c w0 s0 w' s' ∧ Le s0 s' loc0 loc' ∧ Bs w' s' := by
  have c1 : w.cell? ⟨rb, 1, none⟩ = some t.r.sv := by rw [cell_of_row w rb 1 _ ty (0, 0) hrb]; exact hr1
  have c2 : w.cell? ⟨rb, 2, none⟩ = some t.r.pv := by rw [cell_of_row w rb 2 _ ty (0, 0) hrb]; exact hr2
  have hrl : rb < w.heap.size := (Array.getElem?_eq_some_iff.1 hrb).1
  have hrow := (hco.cl.has (.row r) t hF).1
  have hsz := (hco.szs r t hF).1
  rcases hrow.2 with hN | ⟨g, hS⟩ | ⟨m, es, clock, hP⟩
  · -- nothing yet
    refine (turn64_near rb t.r.sv _ w (J := fun w' => w' = w) c1 (hide (by rw [hN.sv]; exact turnAll_nil _ w)) (hide (fun w' e => by rw [e, c2, hN.pv]))).mono ?_
    rintro e w' ⟨rfl, w1, rfl, hfr⟩
    refine ⟨rfl, s, loc, ord, ?_, hev.later hfr (by simp), hle, hf.bs0 w1 s w' s rfl rfl hfr.size (fun b hb => hfr.block b (hf.bl w1 s hbs b hb).1 (by simp)) (fun b hb => (hf.bl w1 s hbs b hb).2) hbs⟩
    exact (hco.skipS ho hF (fun _ => True) (fun k _ _ => hN.z k) (fun a b => P a b ∨ a = j) (fun a b => by simp)).apart hfr (by simp)
  · -- side by side
    have hT : Thg c w0 s0 G loc0 w s loc ord P j r none t Bs := ⟨hco, hev, hle, ho, hF, ⟨g, hS⟩, hbs⟩
    refine (turn64_near rb t.r.sv _ w (J := fun w' => ∃ s' loc' ord' t', Thg c w0 s0 G loc0 w' s' loc' ord' (PJ P j 0 t.r.xs.length) j r none t' Bs ∧ Ev c w s w' s' ∧ t'.r.xs.length = t.r.xs.length ∧ t'.r.sv = t.r.sv ∧ t'.r.pv = t.r.pv) c1 (hide ?_) (hide ?_)).mono ?_
    · have := turnAll_any hf hT (g := g) (off := 0) (len := t.r.xs.length) (cc := t.r.xs.length) ⟨hS.sv, rfl, rfl⟩ (by omega) (fun k _ _ => hnP k)
      rw [← hS.sv] at this
      exact this
    · rintro w' ⟨s', loc', ord', t', hT', hE, _⟩
      rw [cell_of_row w' rb 2 _ ty (0, 0) (by rw [(hE.keeps hrl hrn).1]; exact hrb), hr2, hS.pv]
    · rintro e w' ⟨rfl, w1, ⟨s', loc', ord', t', hT', hE, e1, e2, e3⟩, hfr⟩
      have hT2 := hT'.apart hf hfr (by simp) (by simp) (by simp)
      refine ⟨rfl, s', loc', ord', ?_, hT2.ev, hT2.le, hT2.bs⟩
      refine hT2.co.skipS hT2.o hT2.F (fun _ => True) (fun k _ hk => ?_) _ (fun a b => ?_)
      · rcases Nat.lt_or_ge k t.r.xs.length with h1 | h1
        · exact absurd (.inr ⟨rfl, by omega, by omega⟩) hk
        · rw [List.getD_eq_getElem?_getD, List.getElem?_eq_none_iff.2 (by omega)]; rfl
      · unfold PJ
        constructor
        · rintro (h1 | h1)
          · exact .inl (.inl h1)
          · exact .inr ⟨h1, trivial⟩
        · rintro ((h1 | h1) | h1)
          · exact .inl h1
          · exact .inr h1.1
          · exact .inr h1.1
  · -- by pages
    have hT : Thg c w0 s0 G loc0 w s loc ord P j r (some (m, es, clock)) t Bs := ⟨hco, hev, hle, ho, hF, hP, hbs⟩
    have hmo : m ∈ s.bl c (.row r) := by simp only [St.bl]; rw [hF]; exact List.mem_append_left _ (by rw [hP.own]; exact List.mem_cons_self ..)
    have hml := (hco.cl.has (.row r)).lt m hmo
    refine (turn64_far rb m _ w es clock (L := fun it seen wr => ∃ s' loc' ord' t', Thg c w0 s0 G loc0 wr s' loc' ord' (fun a b => P a b ∨ (a = j ∧ ∃ e ∈ es.toList, e.born ∈ seen ∧ e.key = .int .i64 ((b / 256 : Nat) : Int))) j r (some (m, es, clock)) t' Bs ∧ w.heap.size ≤ it ∧ it < wr.heap.size ∧ (∀ p, it ∉ s'.bl c p) ∧ t'.r.xs.length = t.r.xs.length)
      (by rw [c1, hP.sv]) (by rw [c2, hP.pv]) hP.blk (hide hP.st) (hide ?_) (hide ?_) (hide ?_) (hide ?_) (hide ?_)).mono ?_
    · intro e he
      obtain ⟨p, g, _, e2, _⟩ := hP.pg e he
      exact ⟨g, e2⟩
    · have hfr : Fr [] w (w.alloc (.mapIter (some m) clock #[] clock)) := Fr.of_below ((Below.refl _ _).alloc (Nat.le_refl _) _)
      have hT2 := hT.apart hf hfr (by simp) (by simp) (by simp)
      refine ⟨s, loc, ord, t, ⟨hT2.co.congrP (fun a b => ?_), hT2.ev, hT2.le, hT2.o, hT2.F, hT2.sh, hT2.bs⟩, Nat.le_refl _, by simp, fun p hp => ?_, rfl⟩
      · simp
      · have := (hco.cl.has p).lt _ hp; omega
    · rintro it seen wr ⟨s', loc', ord', t', hT', h1, h2, h3, h4⟩
      have hp : Pgs .i64 121 wr t'.r m es clock := hT'.sh
      exact ⟨hp.blk, by omega⟩
    · rintro it seen wr wr' ⟨s', loc', ord', t', hT', h1, h2, h3, h4⟩ hfr
      have hbx := hf.bl w s hbs
      refine ⟨s', loc', ord', t', hT'.apart hf hfr (fun p b hb e => h3 p (by rw [← List.mem_singleton.1 e]; exact hb)) (fun b hb e => ?_) (fun b hb => ?_), h1, Nat.lt_of_lt_of_le h2 hfr.size, h3, h4⟩
      · have := (hbx b hb).1; rw [List.mem_singleton.1 e] at this; omega
      · rw [List.mem_singleton.1 hb]; exact Nat.le_trans hev.size h1
    · rintro it seen wr ⟨s', loc', ord', t', hT', h1, h2, h3, h4⟩ e he
      have hp : Pgs .i64 121 wr t'.r m es clock := hT'.sh
      have hel : e ∈ es.toList ∧ e.born ∉ seen := by
        unfold leftOf at he
        rw [Array.toList_filter] at he
        have := List.mem_filter.1 he
        exact ⟨this.1, by simpa using this.2⟩
      obtain ⟨p, g, e1, e2, e3⟩ := hp.pg e hel.1
      refine ⟨g, e2, ?_⟩
      refine (turnAll_any hf hT' (g := g) (off := 256 * p) (len := 256) ⟨e, hel.1, p, e1, e2, rfl, rfl⟩ (by omega) (fun k hk1 hk2 hh => ?_)).mono ?_
      · rcases hh with hh | ⟨_, e', he', hs', hk'⟩
        · exact hnP k hh
        · have : k / 256 = p := by omega
          rw [this] at hk'
          have := born_key hP.st he' hel.1 (hk'.trans e1.symm)
          rw [this] at hs'
          exact hel.2 hs'
      · rintro e' w' ⟨rfl, s2, loc2, ord2, t2, hT2, hE, f1, f2, f3⟩
        have hk := hE.keeps h2 h3
        refine ⟨rfl, ⟨s2, loc2, ord2, t2, ⟨hT2.co.congrP (fun a b => ?_), hT2.ev, hT2.le, hT2.o, hT2.F, hT2.sh, hT2.bs⟩, h1, Nat.lt_of_lt_of_le h2 hE.size, hk.2, by rw [f1, h4]⟩, hk.1⟩
        unfold PJ
        constructor
        · rintro (q1 | ⟨q1, e', he', hs', hk'⟩)
          · exact .inl (.inl q1)
          · rcases Array.mem_push.1 hs' with q2 | q2
            · exact .inl (.inr ⟨q1, e', he', q2, hk'⟩)
            · have hbe : e' = e := by
                have hn := hP.st.2.1
                obtain ⟨i1, hi1, rfl⟩ := List.getElem_of_mem he'
                obtain ⟨i2, hi2, hi2e⟩ := List.getElem_of_mem hel.1
                have hkk : (es.toList.map (·.born))[i1]'(by simpa using hi1) = (es.toList.map (·.born))[i2]'(by simpa using hi2) := by rw [List.getElem_map, List.getElem_map, hi2e]; exact q2
                have := (List.getElem_inj hn).1 hkk
                subst this; exact hi2e
              rw [hbe, e1] at hk'
              have := key_inj hk'
              exact .inr ⟨q1, by omega, by omega⟩
        · rintro ((q1 | ⟨q1, e', he', hs', hk'⟩) | q1)
          · exact .inl q1
          · exact .inr ⟨q1, e', he', Array.mem_push.2 (.inl hs'), hk'⟩
          · have : b / 256 = p := by omega
            exact .inr ⟨q1.1, e, hel.1, Array.mem_push.2 (.inr rfl), by rw [e1, this]⟩
    · rintro e w' ⟨rfl, it, seen, ⟨s', loc', ord', t', hT', h1, h2, h3, h4⟩, hz⟩
      have hp : Pgs .i64 121 w' t'.r m es clock := hT'.sh
      refine ⟨rfl, s', loc', ord', ?_, hT'.ev, hT'.le, hT'.bs⟩
      refine hT'.co.skipS hT'.o hT'.F (fun _ => True) (fun k _ hk => ?_) _ (fun a b => ?_)
      · by_cases h0 : t'.r.xs.getD k 0 = 0
        · exact h0
        · obtain ⟨e, he, hke⟩ := hp.all k h0
          refine absurd (.inr ⟨rfl, e, he, ?_, hke⟩) hk
          by_cases hb : e.born ∈ seen
          · exact hb
          · have hl : e ∈ (leftOf es seen).toList := by
              unfold leftOf
              rw [Array.toList_filter]
              exact List.mem_filter.2 ⟨he, by simpa using hb⟩
            have hl2 : leftOf es seen = #[] := Array.eq_empty_of_size_eq_zero hz
            rw [hl2] at hl
            simp at hl
      · constructor
        · rintro (q1 | q1)
          · exact .inl (.inl q1)
          · exact .inr ⟨q1, trivial⟩
        · rintro ((q1 | q1) | q1)
          · exact .inl q1
          · exact .inr q1.1
          · exact .inr q1.1
end
end Rs
end Go.Proofs.Ytaapakpanbfmlaa
