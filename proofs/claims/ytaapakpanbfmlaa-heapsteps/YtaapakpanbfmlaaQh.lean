/-
  The program's Space: Drop, Copy, Same, Get, Word, Set, Put do to the graph what they should.
-/
import Derived.Test.YtaapakpanbfmlaaQg
namespace Go.Proofs.Ytaapakpanbfmlaa
namespace Rs
open Go.RowKit Hp
set_option linter.unusedVariables false
set_option linter.unusedSimpArgs false
/-- What a step of the program leaves. -/
def POk (c : Cf) (w : World) (s : St) (N : Nat) (op : Opn) (mk : Int × Int → Ending) (e : Ending) (w' : World) : Prop := ∃ ans s', e = mk ans ∧ Re c w' s' N ∧ Ev c w s w' s' ∧ Eff c.lim op (grF s.F) s.ro ans (grF s'.F) s'.ro
def mkE (a : Int × Int) : Ending := .returned (.int .i64 a.2)
def mkW (a : Int × Int) : Ending := .returned (.tuple #[.int .u64 a.1, .int .i64 a.2])
def mkS (a : Int × Int) : Ending := .returned (.tuple #[.bool (decide (a.1 = 1)), .int .i64 a.2])
def mkC (a : Int × Int) : Ending := .returned (.int .i64 a.1)
section
variable {c : Cf} {w : World} {s : St} {N : Nat}
theorem pdrop (h : Re c w s N) (k : Int) : Calls Try.prog 20 #[.pointer (some ⟨c.sb, 0, none⟩), .int .i64 k] w (POk c w s N (.drop k) mkE) := by
  refine (drop20_any k c.sb s.ro w h.cl.pla).mono ?_
  rintro e w' ⟨rfl, rfl⟩
  by_cases hk : at16 k = true
  · rw [if_pos hk, if_pos hk]
    exact ⟨(0, 0), _, rfl, h.setRoot k.toNat (.inl rfl), Ev.setRoot c w s _ _ _, rfl, by rw [if_pos hk]; exact ⟨rfl, rfl⟩⟩
  · rw [if_neg hk, if_neg hk]
    exact ⟨(0, 7), s, rfl, h, Ev.refl _ _ _, rfl, by rw [if_neg hk]; exact ⟨rfl, rfl⟩⟩
theorem pcopy (h : Re c w s N) (a b : Int) : Calls Try.prog 18 #[.pointer (some ⟨c.sb, 0, none⟩), .int .i64 a, .int .i64 b] w (POk c w s N (.copy a b) mkE) := by
  refine (copy18_any a b c.sb s.ro w h.cl.pla).mono ?_
  rintro e w' ⟨rfl, q, hw'⟩
  by_cases hk : at16 a = true ∧ at16 b = true
  · rw [if_pos hk] at hw' ⊢
    subst hw'
    have hx : s.ro.getD b.toNat 0 = 0 ∨ (s.F (s.ro.getD b.toNat 0)).isSome = true := by
      rcases h.root b with h0 | ⟨_, _, _, t, _, _, ht⟩
      · exact .inl h0
      · exact .inr (by rw [ht]; rfl)
    refine ⟨(0, 0), _, rfl, (h.drewN q).setRoot a.toNat hx, (Ev.drewN q).trans (Ev.setRoot c _ s _ _ _), rfl, ?_⟩
    rw [if_pos hk]; exact ⟨rfl, rfl⟩
  · rw [if_neg hk] at hw' ⊢
    subst hw'
    exact ⟨(0, 7), s, rfl, h, Ev.refl _ _ _, rfl, by rw [if_neg hk]; exact ⟨rfl, rfl⟩⟩
theorem psame (h : Re c w s N) (a b : Int) : Calls Try.prog 13 #[.pointer (some ⟨c.sb, 0, none⟩), .int .i64 a, .int .i64 b] w (POk c w s N (.same a b) mkS) := by
  refine (same13_any a b c.sb s.ro w h.cl.pla).mono ?_
  rintro e w' ⟨rfl, q, rfl⟩
  by_cases hk : at16 a = true ∧ at16 b = true
  · rw [if_pos hk, if_pos hk]
    refine ⟨((if rootG (grF s.F) s.ro a = rootG (grF s.F) s.ro b then 1 else 0), 0), s, ?_, h.drewN q, Ev.drewN q, rfl, rfl, by rw [if_pos hk]⟩
    unfold mkS
    have e : rootG (grF s.F) s.ro a = s.ro.getD a.toNat 0 := rfl
    have e' : rootG (grF s.F) s.ro b = s.ro.getD b.toNat 0 := rfl
    rw [e, e']
    by_cases he : s.ro.getD a.toNat 0 = s.ro.getD b.toNat 0
    · simp [he]
    · simp only [if_neg he, decide_eq_false he]; rfl
  · rw [if_neg hk, if_neg hk]
    exact ⟨(0, 7), s, rfl, h.drewN q, Ev.drewN q, rfl, rfl, by rw [if_neg hk]⟩
theorem pword (h : Re c w s N) (a k : Int) : Calls Try.prog 12 #[.pointer (some ⟨c.sb, 0, none⟩), .int .i64 a, .int .i64 k] w (POk c w s N (.word a k) mkW) := by
  by_cases ha : at16 a = true
  · obtain ⟨p0, p1⟩ := h.parts a ha
    rcases h.root a with h0 | ⟨d, hd, j, t, e1, e2, e3⟩
    · refine (word12_walk a k 0 c.sb s.ro w (bk := false) h.cl.pla (hide (fun _ q => by rw [h0]; exact word36_zero k (w.drewN q) c.sb))).mono ?_
      rintro e w' ⟨he, q, rfl⟩
      rw [if_pos ha] at he
      refine ⟨(0, 7), s, he, h.drewN q, Ev.drewN q, rfl, rfl, ?_⟩
      rw [(p0 h0).2]
      have : inG k ([] : List Nat).length = false := by unfold inG; simp
      rw [this]; rfl
    · obtain ⟨z1, z2⟩ := h.szs _ t e3
      have hq := h.qs _ t e3
      refine (word12_walk a k _ c.sb s.ro w (bk := inB k t.q.xs.length) h.cl.pla (hide (fun _ q => by
        have := word36_any (c := c) (w := w.drewN q) (h.cl.heq rfl) d hd e2 e3 (h.dlen d hd) (by omega) hq k
        rw [e1]; exact this))).mono ?_
      rintro e w' ⟨he, q, rfl⟩
      rw [if_pos ha] at he
      have hw2 := (p1 t e3).2
      refine ⟨(if inB k t.q.xs.length = true then t.q.xs.getD k.toNat 0 else 0, if inB k t.q.xs.length = true then 0 else 7), s, he, h.drewN q, Ev.drewN q, rfl, rfl, ?_⟩
      · rw [hw2, List.length_map]
        by_cases hb : inB k t.q.xs.length = true
        · rw [if_pos hb, if_pos hb, if_pos (by rw [← inB_inG]; exact hb)]
          have hk := inB_nat hb
          obtain ⟨i, rfl, hi⟩ := hk
          congr 1
          rw [List.getD_eq_getElem?_getD, List.getD_eq_getElem?_getD, List.getElem?_map]
          show (t.q.xs[i]?).getD 0 = (((t.q.xs[i]?).map Int.toNat).getD 0 : Nat)
          rw [List.getElem?_eq_getElem hi]
          have := hq _ (List.getElem_mem hi)
          show t.q.xs[i] = ((t.q.xs[i]).toNat : Int)
          omega
        · rw [if_neg hb, if_neg hb, if_neg (by rw [← inB_inG]; exact hb)]
  · refine (word12_walk a k 0 c.sb s.ro w (bk := false) h.cl.pla (hide (fun hh => absurd hh ha))).mono ?_
    rintro e w' ⟨he, q, rfl⟩
    rw [if_neg ha] at he
    refine ⟨(0, 7), s, he, h.drewN q, Ev.drewN q, rfl, rfl, ?_⟩
    have : wordsG (grF s.F) s.ro a = [] := by unfold wordsG; rw [if_neg ha]
    rw [this]
    have : inG k ([] : List Nat).length = false := by unfold inG; simp
    rw [this]; rfl
theorem pget (h : Re c w s N) (t0 a k : Int) : Calls Try.prog 23 #[.pointer (some ⟨c.sb, 0, none⟩), .int .i64 t0, .int .i64 a, .int .i64 k] w (POk c w s N (.get t0 a k) mkE) := by
  have hnil : inG k ([] : List Int).length = false := by unfold inG; simp
  by_cases ha : at16 t0 = true ∧ at16 a = true
  · obtain ⟨p0, p1⟩ := h.parts a ha.2
    rcases h.root a with h0 | ⟨d, hd, j, t, e1, e2, e3⟩
    · refine (get23_walk t0 a k 0 c.sb s.ro w (bk := false) h.cl.pla (hide (fun _ _ q => by rw [h0]; exact get40_zero k (w.drewN q) c.sb))).mono ?_
      intro e w' he
      rw [if_pos ha] at he
      obtain ⟨rfl, q, hq⟩ := he
      simp at hq
      subst hq
      refine ⟨(0, 7), s, rfl, h.drewN q, Ev.drewN q, rfl, ?_⟩
      rw [(p0 h0).1, hnil, if_neg (by simp)]; exact ⟨rfl, rfl⟩
    · obtain ⟨z1, z2⟩ := h.szs _ t e3
      refine (get23_walk t0 a k _ c.sb s.ro w (bk := inB k t.r.xs.length) h.cl.pla (hide (fun _ _ q => by
        have := get40_any (c := c) (w := w.drewN q) (h.cl.heq rfl) d hd e2 e3 (h.dlen d hd) (by omega) k
        rw [e1]; exact this))).mono ?_
      intro e w' he
      rw [if_pos ha] at he
      obtain ⟨rfl, q, hq⟩ := he
      by_cases hb : inB k t.r.xs.length = true
      · rw [if_pos hb] at hq ⊢
        rw [if_pos hb] at hq
        subst hq
        have hx : t.r.xs.getD k.toNat 0 = 0 ∨ (s.F (t.r.xs.getD k.toNat 0)).isSome = true := by
          obtain ⟨i, rfl, hi⟩ := inB_nat hb
          refine h.closed _ t e3 _ ?_
          rw [List.getD_eq_getElem?_getD]
          show (t.r.xs[i]?).getD 0 ∈ _
          rw [List.getElem?_eq_getElem hi]; exact List.getElem_mem hi
        refine ⟨(0, 0), _, rfl, (h.drewN q).setRoot t0.toNat hx, (Ev.drewN q).trans (Ev.setRoot c _ s _ _ _), rfl, ?_⟩
        rw [(p1 t e3).1, if_pos ⟨ha.1, hb⟩]; exact ⟨rfl, rfl⟩
      · rw [if_neg hb] at hq ⊢
        subst hq
        refine ⟨(0, 7), s, rfl, h.drewN q, Ev.drewN q, rfl, ?_⟩
        rw [(p1 t e3).1, if_neg (fun e => hb e.2)]; exact ⟨rfl, rfl⟩
  · refine (get23_walk t0 a k 0 c.sb s.ro w (bk := false) h.cl.pla (hide (fun h1 h2 => absurd ⟨h1, h2⟩ ha))).mono ?_
    intro e w' he
    rw [if_neg ha] at he
    obtain ⟨rfl, rfl⟩ := he
    refine ⟨(0, 7), s, rfl, h, Ev.refl _ _ _, rfl, ?_⟩
    rw [if_neg]
    · exact ⟨rfl, rfl⟩
    · rintro ⟨h1, h2⟩
      have h3 : ¬ at16 a = true := fun e => ha ⟨h1, e⟩
      have : refsG (grF s.F) s.ro a = [] := by unfold refsG; rw [if_neg h3]
      rw [this, hnil] at h2; cases h2
theorem ev_put {d : Tb} {j : Nat} {r : Int} {t t' : Tp} {w1 : World} {cv' : Value} {C' : List (Int × Nat)} {G : List Nat} (hF : s.F r = some t) (hfr : Fr G w w1) (hG : ∀ b ∈ G, ∃ p, b ∈ s.bl c p) (hn : ∀ b ∈ t'.own, b ∈ t.own ∨ w.heap.size ≤ b) (hc : ∀ b ∈ mblk cv', b ∈ mblk s.cv ∨ w.heap.size ≤ b) : Ev c w s w1 { s.put d j r t' with cv := cv', C := C' } := by
  refine Ev.of hfr hG (fun p b hb => ?_)
  cases p with
  | sb => exact .inl hb
  | cv => exact hc b hb
  | tab e => exact .inl hb
  | row y =>
    by_cases hy : y = r
    · subst hy
      simp only [St.bl, St.put, updAt_same] at hb
      simp only [St.bl]; rw [hF]; exact hn b hb
    · simp only [St.bl, St.put] at hb ⊢
      rw [updAt_ne _ _ hy] at hb; exact .inl hb
theorem pset (h : Re c w s N) (a k : Int) (x : Nat) : Calls Try.prog 11 #[.pointer (some ⟨c.sb, 0, none⟩), .int .i64 a, .int .i64 k, .int .u64 (x : Int)] w (POk c w s N (.set a k x) mkE) := by
  have hnil : inG k ([] : List Nat).length = false := by unfold inG; simp
  by_cases ha : at16 a = true
  · obtain ⟨p0, p1⟩ := h.parts a ha
    rcases h.root a with h0 | ⟨d, hd, j, t, e1, e2, e3⟩
    · refine (set11_walk a k x c.sb s.ro w (bk := false) (Q := fun w' => ∃ q, w' = w.drewN q) h.cl.pla (hide (fun _ q => by rw [h0]; exact (set35_zero k x (w.drewN q) c.sb).mono (fun e w' he => ⟨he.1, q, he.2⟩)))).mono ?_
      intro e w' he
      rw [if_pos ha] at he
      obtain ⟨rfl, q, rfl⟩ := he
      refine ⟨(0, 7), s, rfl, h.drewN q, Ev.drewN q, rfl, ?_⟩
      rw [(p0 h0).2, hnil, if_neg (by simp)]; exact ⟨rfl, rfl⟩
    · obtain ⟨z1, z2⟩ := h.szs _ t e3
      rw [e1] at e3
      refine (set11_walk a k x c.sb s.ro w (bk := inB k t.q.xs.length) (Q := fun w' => ∃ q, if inB k t.q.xs.length = true then ∃ q', q'.xs = t.q.xs.set k.toNat x ∧ (∀ b ∈ q'.own, b ∈ t.q.own ∨ w.heap.size ≤ b) ∧ Fr (ob (s.v d) ++ t.own) w w' ∧ Cl c w' (s.put d j (refOf d j) ⟨t.r, q', t.mv⟩) else w' = w.drewN q) h.cl.pla (hide (fun _ q => by
        have := set35_any (c := c) (w := w.drewN q) (h.cl.heq rfl) d hd e2 e3 (h.dlen d hd) (by omega) k x
        rw [e1]
        refine this.mono (fun e w' he => ⟨he.1, q, ?_⟩)
        have he2 := he.2
        by_cases hb : inB k t.q.xs.length = true
        · rw [if_pos hb] at he2 ⊢
          obtain ⟨q', a1, a2, a3, a4⟩ := he2
          exact ⟨q', a1, a2, ⟨a3.os, a3.tape, a3.output, a3.size, a3.block⟩, a4⟩
        · rw [if_neg hb] at he2 ⊢; exact he2))).mono ?_
      intro e w' he
      rw [if_pos ha] at he
      obtain ⟨rfl, q, hq⟩ := he
      rw [← e1] at e3
      have hw2 := (p1 t e3).2
      have hr2 := (p1 t e3).1
      rw [e1] at e3
      by_cases hb : inB k t.q.xs.length = true
      · rw [if_pos hb] at hq ⊢
        obtain ⟨q', a1, a2, a3, a4⟩ := hq
        have hre := h.put (t' := ⟨t.r, q', t.mv⟩) hd e2 (cv' := s.cv) (C' := s.C) a4 rfl rfl (by show q'.xs.length = _; rw [a1, List.length_set]) (fun y hy => h.closed _ t e3 y hy) (fun y hy => by
          have hy : y ∈ q'.xs := hy
          rw [a1] at hy
          rcases mem_set_sub hy with h1 | h1
          · exact h.qs _ t e3 y h1
          · rw [h1]; omega) (fun y hy => hy) (fun k' y hr hk hy => h.cross _ t k' y hr e3 hk hy) (fun r k' hk => .inl hk)
        refine ⟨(0, 0), _, rfl, hre, ?_, rfl, ?_⟩
        · refine ev_put e3 a3 (fun b hb => ?_) (fun b hb => ?_) (fun b hb => .inl hb)
          · rcases List.mem_append.1 hb with h1 | h1
            · exact ⟨.tab d, h1⟩
            · exact ⟨.row (refOf d j), by simp only [St.bl]; rw [e3]; exact h1⟩
          · rcases List.mem_append.1 hb with h1 | h1
            · exact .inl (List.mem_append_left _ h1)
            · exact (a2 b h1).imp (fun h => List.mem_append_right _ h) id
        · rw [hw2, hr2, List.length_map, if_pos (by rw [← inB_inG]; exact hb)]
          refine ⟨rfl, ?_⟩
          show grF (updAt s.F (refOf d j) (some ⟨t.r, q', t.mv⟩)) = _
          have er : rootG (grF s.F) s.ro a = refOf d j := e1
          rw [upd_gr, er]
          congr 1
          unfold absT
          congr 1
          show q'.xs.map Int.toNat = _
          rw [a1, List.map_set]
          simp
      · rw [if_neg hb] at hq ⊢
        subst hq
        refine ⟨(0, 7), s, rfl, h.drewN q, Ev.drewN q, rfl, ?_⟩
        rw [hw2, List.length_map, if_neg (by rw [← inB_inG]; exact hb)]; exact ⟨rfl, rfl⟩
  · refine (set11_walk a k x c.sb s.ro w (bk := false) (Q := fun _ => True) h.cl.pla (hide (fun hh => absurd hh ha))).mono ?_
    intro e w' he
    rw [if_neg ha] at he
    obtain ⟨rfl, rfl⟩ := he
    refine ⟨(0, 7), s, rfl, h, Ev.refl _ _ _, rfl, ?_⟩
    have : wordsG (grF s.F) s.ro a = [] := by unfold wordsG; rw [if_neg ha]
    rw [this, hnil, if_neg (by simp)]; exact ⟨rfl, rfl⟩
theorem pput (h : Re c w s N) (a k f : Int) : Calls Try.prog 14 #[.pointer (some ⟨c.sb, 0, none⟩), .int .i64 a, .int .i64 k, .int .i64 f] w (POk c w s N (.put a k f) mkE) := by
  have hnil : inG k ([] : List Int).length = false := by unfold inG; simp
  by_cases ha : at16 a = true ∧ at16 f = true
  · obtain ⟨p0, p1⟩ := h.parts a ha.1
    have hfx : s.ro.getD f.toNat 0 = 0 ∨ (s.F (s.ro.getD f.toNat 0)).isSome = true := by
      rcases h.root f with h0 | ⟨_, _, _, t, _, _, ht⟩
      · exact .inl h0
      · exact .inr (by rw [ht]; rfl)
    rcases h.root a with h0 | ⟨d, hd, j, t, e1, e2, e3⟩
    · refine (put14_walk a k f c.sb s.ro w (bk := false) (Q := fun w' => ∃ q, w' = w.drewN q) h.cl.pla (hide (fun _ _ q => by rw [h0]; exact (put37_zero k _ (w.drewN q) c.sb).mono (fun e w' he => ⟨he.1, q, he.2⟩)))).mono ?_
      intro e w' he
      rw [if_pos ha] at he
      obtain ⟨rfl, q, rfl⟩ := he
      refine ⟨(0, 7), s, rfl, h.drewN q, Ev.drewN q, rfl, ?_⟩
      rw [(p0 h0).1, hnil, if_neg (by simp)]; exact ⟨rfl, rfl⟩
    · obtain ⟨z1, z2⟩ := h.szs _ t e3
      have hw2 := (p1 t e3).2
      have hr2 := (p1 t e3).1
      rw [e1] at e3
      generalize hy : s.ro.getD f.toNat 0 = y at hfx
      refine (put14_walk a k f c.sb s.ro w (bk := inB k t.r.xs.length) (Q := fun w' => ∃ q, if inB k t.r.xs.length = true then ∃ r' cv', r'.xs = t.r.xs.set k.toNat y ∧ (∀ b ∈ r'.own, b ∈ t.r.own ∨ w.heap.size ≤ b) ∧ (∀ b ∈ mblk cv', b ∈ mblk s.cv ∨ w.heap.size ≤ b) ∧ Fr (c.sb :: (mblk s.cv ++ (ob (s.v d) ++ t.own))) w w' ∧ Cl c w' { s.put d j (refOf d j) ⟨r', t.q, t.mv⟩ with cv := cv', C := if 0 < refOf d j ∧ y < 0 then addC s.C (refOf d j, k.toNat) else s.C } else w' = w.drewN q) h.cl.pla (hide (fun _ _ q => by
        have := put37_any (c := c) (w := w.drewN q) (h.cl.heq rfl) d hd e2 e3 (h.dlen d hd) (by omega) k y
        rw [e1, hy]
        refine this.mono (fun e w' he => ⟨he.1, q, ?_⟩)
        have he2 := he.2
        by_cases hb : inB k t.r.xs.length = true
        · rw [if_pos hb] at he2 ⊢
          obtain ⟨r', cv', a1, a2, a2', a3, a4⟩ := he2
          exact ⟨r', cv', a1, a2, a2', ⟨a3.os, a3.tape, a3.output, a3.size, a3.block⟩, a4⟩
        · rw [if_neg hb] at he2 ⊢; exact he2))).mono ?_
      intro e w' he
      rw [if_pos ha] at he
      obtain ⟨rfl, q, hq⟩ := he
      by_cases hb : inB k t.r.xs.length = true
      · rw [if_pos hb] at hq ⊢
        obtain ⟨r', cv', a1, a2, a2', a3, a4⟩ := hq
        obtain ⟨i, rfl, hi⟩ := inB_nat hb
        have hre := h.put (t' := ⟨r', t.q, t.mv⟩) hd e2 a4 rfl (by show r'.xs.length = _; rw [a1, List.length_set]) rfl (fun z hz => by
          have hz : z ∈ r'.xs := hz
          rw [a1] at hz
          rcases mem_set_sub hz with h1 | h1
          · exact h.closed _ t e3 z h1
          · rw [h1]; exact hfx) (h.qs _ t e3) (fun z hz => by
          split
          · exact mem_addC.2 (.inl hz)
          · exact hz) (fun k' z hr hk hz => by
          have hk : r'.xs[k']? = some z := hk
          rw [a1, List.getElem?_set] at hk
          by_cases hik : (i : Int).toNat = k'
          · rw [if_pos hik] at hk
            have hi' : (i : Int).toNat < t.r.xs.length := hi
            rw [if_pos hi'] at hk
            have hzy : y = z := Option.some.inj hk
            rw [if_pos ⟨hr, by rw [hzy]; exact hz⟩, ← hik]
            exact mem_addC.2 (.inr rfl)
          · rw [if_neg hik] at hk
            have := h.cross _ t k' z hr e3 hk hz
            split
            · exact mem_addC.2 (.inl this)
            · exact this) (fun r k' hk => by
          split at hk
          · rename_i hcond
            rcases mem_addC.1 hk with h1 | h1
            · exact .inl h1
            · simp only [Prod.mk.injEq] at h1
              exact .inr ⟨by rw [h1.1]; exact hcond.1, h1.1, by rw [h1.2]; exact hi⟩
          · exact .inl hk)
        refine ⟨(0, 0), _, rfl, hre, ?_, rfl, ?_⟩
        · refine ev_put e3 a3 (fun b hb => ?_) (fun b hb => ?_) a2'
          · rcases List.mem_cons.1 hb with h1 | h1
            · exact ⟨.sb, by simp [St.bl, h1]⟩
            · rcases List.mem_append.1 h1 with h1 | h1
              · exact ⟨.cv, h1⟩
              · rcases List.mem_append.1 h1 with h1 | h1
                · exact ⟨.tab d, h1⟩
                · exact ⟨.row (refOf d j), by simp only [St.bl]; rw [e3]; exact h1⟩
          · rcases List.mem_append.1 hb with h1 | h1
            · exact (a2 b h1).imp (fun h => List.mem_append_left _ h) id
            · exact .inl (List.mem_append_right _ h1)
        · rw [hw2, hr2, if_pos ⟨ha.2, hb⟩]
          refine ⟨rfl, ?_⟩
          show grF (updAt s.F (refOf d j) (some ⟨r', t.q, t.mv⟩)) = _
          have er : rootG (grF s.F) s.ro a = refOf d j := e1
          have ef : rootG (grF s.F) s.ro f = y := hy
          rw [upd_gr, er, ef]
          congr 1
          unfold absT
          show (r'.xs, _) = _
          rw [a1]
      · rw [if_neg hb] at hq ⊢
        subst hq
        refine ⟨(0, 7), s, rfl, h.drewN q, Ev.drewN q, rfl, ?_⟩
        rw [hr2, if_neg (fun e => hb e.2)]; exact ⟨rfl, rfl⟩
  · refine (put14_walk a k f c.sb s.ro w (bk := false) (Q := fun _ => True) h.cl.pla (hide (fun h1 h2 => absurd ⟨h1, h2⟩ ha))).mono ?_
    intro e w' he
    rw [if_neg ha] at he
    obtain ⟨rfl, rfl⟩ := he
    refine ⟨(0, 7), s, rfl, h, Ev.refl _ _ _, rfl, ?_⟩
    rw [if_neg]
    · exact ⟨rfl, rfl⟩
    · rintro ⟨h1, h2⟩
      have h3 : ¬ at16 a = true := fun e => ha ⟨e, h1⟩
      have : refsG (grF s.F) s.ro a = [] := by unfold refsG; rw [if_neg h3]
      rw [this, hnil] at h2; cases h2
end
end Rs
end Go.Proofs.Ytaapakpanbfmlaa
