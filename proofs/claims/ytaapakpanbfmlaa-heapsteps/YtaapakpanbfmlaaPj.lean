/-
  The program's heap: a thing of a table has another row.
-/
import Derived.Test.YtaapakpanbfmlaaPi
namespace Go.Proofs.Ytaapakpanbfmlaa
namespace Rs
open Go.RowKit Hp
set_option linter.unusedVariables false
set_option linter.unusedSimpArgs false
def updAt {ι α : Type} [DecidableEq ι] (f : ι → α) (i : ι) (x : α) : ι → α := fun j => if j = i then x else f j
theorem updAt_same {ι α : Type} [DecidableEq ι] (f : ι → α) (i : ι) (x : α) : updAt f i x i = x := by unfold updAt; simp
theorem updAt_ne {ι α : Type} [DecidableEq ι] (f : ι → α) {i j : ι} (x : α) (h : j ≠ i) : updAt f i x j = f j := by unfold updAt; simp [h]
/-- The j-th thing of a table, which r names, is another. -/
def St.put (s : St) (d : Tb) (j : Nat) (r : Int) (t : Tp) : St := { s with l := updAt s.l d ((s.l d).set j t), F := updAt s.F r (some t) }
theorem Cl.setThing {c : Cf} {w w' : World} {s : St} (h : Cl c w s) {d : Tb} {j : Nat} {r : Int} {t : Tp} (t' : Tp) {g n cap : Nat} (hF : s.F r = some t) (hv : s.v d = .slice (some ⟨g, 0, none⟩) n cap)
    (hrow : RowIs .i64 55 121 w' t'.r ∧ RowIs .u64 30 120 w' t'.q ∧ t'.own.Nodup) (hnew : ∀ b ∈ t'.own, b ∈ t.own ∨ w.heap.size ≤ b) (hfr : Fr (g :: t.own) w w')
    (htab : w'.ownsRow c.B 96 9 (s.v d) (s.l d).length (((s.l d).set j t').flatMap Tp.cells)) : Cl c w' (s.put d j r t') := by
  have hgd : g ∈ s.bl c (.tab d) := by simp [St.bl, ob, hv, Value.ownBlock]
  have hrow' : s.bl c (.row r) = t.own := by simp only [St.bl]; rw [hF]
  have hrow2 : (s.put d j r t').bl c (.row r) = t'.own := by simp only [St.bl, St.put, updAt_same]
  refine h.upd (fun p => p = .tab d ∨ p = .row r) (fun p hp => ?_) (fun p hp b hb => ?_) (fun p hp => ?_) (fun p hp b hb => ?_) (fun p p' hp hp' hne b hb hlb hb' => ?_) hfr.size
  · cases p with
    | sb => exact ⟨fun h => h, rfl⟩
    | cv => exact ⟨fun h => h, rfl⟩
    | tab e =>
      have he : e ≠ d := fun e2 => hp (.inl (by rw [e2]))
      refine ⟨fun h => ?_, rfl⟩
      unfold Has at h ⊢
      simp only [St.put]
      rw [updAt_ne _ _ he]; exact h
    | row x =>
      have hx : x ≠ r := fun e2 => hp (.inr (by rw [e2]))
      refine ⟨fun h => ?_, ?_⟩
      · unfold Has at h ⊢
        simp only [St.put]
        rw [updAt_ne _ _ hx]; exact h
      · simp only [St.bl, St.put]; rw [updAt_ne _ _ hx]
  · refine hfr.block b ((h.has p).lt b hb) (fun e => ?_)
    rcases List.mem_cons.1 e with e | e
    · exact h.ap p (.tab d) (fun e2 => hp (.inl e2)) b hb (by rw [e]; exact hgd)
    · exact h.ap p (.row r) (fun e2 => hp (.inr e2)) b hb (by rw [hrow']; exact e)
  · rcases hp with rfl | rfl
    · unfold Has
      simp only [St.put, updAt_same]
      rw [List.length_set]; exact htab
    · intro t2 ht2
      simp only [St.put, updAt_same, Option.some.injEq] at ht2
      subst ht2; exact hrow
  · rcases hp with rfl | rfl
    · exact .inl hb
    · rw [hrow2] at hb; rw [hrow']; exact hnew b hb
  · have hold : ∀ b ∈ (s.put d j r t').bl c (.tab d), b < w.heap.size := fun b hb => (h.has (.tab d)).lt b hb
    rcases hp with rfl | rfl
    · have := hold b hb; omega
    · rcases hp' with rfl | rfl
      · have := hold b hb'; omega
      · exact hne rfl
/-- The table's block behind set. -/
theorem tab_set2 {c : Cf} {w w' : World} {s : St} (h : Cl c w s) {d : Tb} {j a b : Nat} {t t' : Tp} {u v : Value} (hj : (s.l d)[j]? = some t) {g cap : Nat} {cur : Array Value} (hv : s.v d = .slice (some ⟨g, 0, none⟩) (s.l d).length cap) (hg : w.heap[g]? = some (.cells cur 96 (0, 0)))
    (hc : w'.heap[g]? = some (.cells ((cur.setIfInBounds (j * 9 + a) u).setIfInBounds (j * 9 + b) v) 96 (0, 0))) (ha : a < 9) (hb : b < 9) (ht : t'.cells = (t.cells.set a u).set b v) :
    w'.ownsRow c.B 96 9 (s.v d) (s.l d).length (((s.l d).set j t').flatMap Tp.cells) := by
  have h' : w.ownsRow c.B 96 9 (s.v d) (s.l d).length ((s.l d).flatMap Tp.cells) := h.has (.tab d)
  have hl := (List.getElem?_eq_some_iff.1 hj).1
  refine ⟨by rw [flat9_len, List.length_set], ?_⟩
  rcases h'.2 with ⟨_, h0⟩ | ⟨g', cap', cur', e, h1, h2, h3, h4, h5, h6⟩
  · omega
  · rw [hv] at e
    cases e
    rw [hg] at h2
    cases h2
    refine .inr ⟨g, cap, _, hv, h1, hc, h3, h4, by simpa using h5, ?_⟩
    rw [Array.toList_setIfInBounds, Array.toList_setIfInBounds, List.take_set, List.take_set, h6]
    exact (flat9_set2 _ j a b t t' u v hj ha hb ht).symm
theorem nodup_own {w : World} {s : St} {c : Cf} {r : Int} {t : Tp} (h : Cl c w s) (hF : s.F r = some t) : t.r.own.Nodup ∧ t.q.own.Nodup ∧ ∀ a ∈ t.r.own, ∀ b ∈ t.q.own, a ≠ b := by
  have := (h.has (.row r) t hF).2.2
  unfold Tp.own at this
  rw [List.nodup_append] at this
  exact this
theorem Cl.gno {c : Cf} {w : World} {s : St} (h : Cl c w s) {d : Tb} {r : Int} {t : Tp} {g n cap : Nat} (hF : s.F r = some t) (hv : s.v d = .slice (some ⟨g, 0, none⟩) n cap) : g ∉ t.own := by
  have hgd : g ∈ s.bl c (.tab d) := by simp [St.bl, ob, hv, Value.ownBlock]
  have := h.ap (.tab d) (.row r) (by simp) g hgd
  simp only [St.bl] at this
  rw [hF] at this; exact this
/-- set of a reference, in the space. -/
theorem Cl.setRef {c : Cf} {w w' : World} {s : St} (h : Cl c w s) {d : Tb} {j i : Nat} {r x : Int} {t : Tp} {r' : Rv} {g cap : Nat} {cur : Array Value} (hj : (s.l d)[j]? = some t) (hF : s.F r = some t) (hv : s.v d = .slice (some ⟨g, 0, none⟩) (s.l d).length cap) (hg : w.heap[g]? = some (.cells cur 96 (0, 0)))
    (ho : SetOk .i64 55 121 w w' t.r g (j * 9) cur 96 i x r') : Cl c w' (s.put d j r ⟨r', t.q, t.mv⟩) := by
  obtain ⟨n1, n2, n3⟩ := nodup_own h hF
  have hq := (h.has (.row r) t hF).2.1
  have hgn := h.gno hF hv
  have hgq : g ∉ t.q.own := fun e => hgn (List.mem_append_right _ e)
  have hlen : r'.xs.length = t.r.xs.length := by rw [ho.xs, List.length_set]
  refine h.setThing ⟨r', t.q, t.mv⟩ hF hv ⟨ho.row, hq.kept ho.fr (fun b hb e => ?_), ?_⟩ (fun b hb => ?_) (ho.fr.mono (fun b hb => ?_)) (tab_set2 h hj hv hg ho.blk (by omega) (by omega) ?_)
  · rcases List.mem_cons.1 e with e | e
    · exact hgq (e ▸ hb)
    · exact n3 b e b hb rfl
  · show (r'.own ++ t.q.own).Nodup
    rw [List.nodup_append]
    refine ⟨ho.row.1, n2, fun a ha b hb e => ?_⟩
    rcases ho.new a ha with h1 | h1
    · exact n3 a h1 b hb e
    · have := hq.lt b hb; omega
  · rcases List.mem_append.1 hb with hb | hb
    · rcases ho.new b hb with h1 | h1
      · exact .inl (List.mem_append_left _ h1)
      · exact .inr h1
    · exact .inl (List.mem_append_right _ hb)
  · rcases List.mem_cons.1 hb with e | e
    · rw [e]; exact List.mem_cons_self ..
    · exact List.mem_cons_of_mem _ (List.mem_append_left _ e)
  · unfold Tp.cells
    simp [hlen]
/-- set of a word, in the space. -/
theorem Cl.setWord {c : Cf} {w w' : World} {s : St} (h : Cl c w s) {d : Tb} {j i : Nat} {r x : Int} {t : Tp} {r' : Rv} {g cap : Nat} {cur : Array Value} (hj : (s.l d)[j]? = some t) (hF : s.F r = some t) (hv : s.v d = .slice (some ⟨g, 0, none⟩) (s.l d).length cap) (hg : w.heap[g]? = some (.cells cur 96 (0, 0)))
    (ho : SetOk .u64 30 120 w w' t.q g (j * 9 + 3) cur 96 i x r') : Cl c w' (s.put d j r ⟨t.r, r', t.mv⟩) := by
  obtain ⟨n1, n2, n3⟩ := nodup_own h hF
  have hq := (h.has (.row r) t hF).1
  have hgn := h.gno hF hv
  have hgq : g ∉ t.r.own := fun e => hgn (List.mem_append_left _ e)
  have hlen : r'.xs.length = t.q.xs.length := by rw [ho.xs, List.length_set]
  refine h.setThing ⟨t.r, r', t.mv⟩ hF hv ⟨hq.kept ho.fr (fun b hb e => ?_), ho.row, ?_⟩ (fun b hb => ?_) (ho.fr.mono (fun b hb => ?_)) (tab_set2 h hj hv hg ho.blk (by omega) (by omega) ?_)
  · rcases List.mem_cons.1 e with e | e
    · exact hgq (e ▸ hb)
    · exact n3 b hb b e rfl
  · show (t.r.own ++ r'.own).Nodup
    rw [List.nodup_append]
    refine ⟨n1, ho.row.1, fun a ha b hb e => ?_⟩
    rcases ho.new b hb with h1 | h1
    · exact n3 a ha b h1 e
    · have := hq.lt a ha; omega
  · rcases List.mem_append.1 hb with hb | hb
    · exact .inl (List.mem_append_left _ hb)
    · rcases ho.new b hb with h1 | h1
      · exact .inl (List.mem_append_right _ h1)
      · exact .inr h1
  · rcases List.mem_cons.1 hb with e | e
    · rw [e]; exact List.mem_cons_self ..
    · exact List.mem_cons_of_mem _ (List.mem_append_right _ e)
  · unfold Tp.cells
    simp [hlen]
/-- at, of whatever table's thing. -/
theorem at49_any {c : Cf} {w : World} {s : St} (h : Cl c w s) (d : Tb) (hd : d = .o ∨ d = .y) {j g cap : Nat} (hj : j < (s.l d).length) (hn : (s.l d).length ≤ 1073741824) (hv : s.v d = .slice (some ⟨g, 0, none⟩) (s.l d).length cap) :
    Calls Try.prog 49 #[.pointer (some ⟨c.sb, 0, none⟩), .int .i64 (refOf d j)] w fun e w' => e = .returned (.pointer (some ⟨g, j * 9, none⟩)) ∧ w' = w := by
  rcases hd with rfl | rfl
  · exact at49_old j _ cap g c.sb w hj hn (by rw [h.cell 5 rfl, hv])
  · exact at49_young j _ cap g c.sb w hj hn (by rw [h.cell 3 rfl, hv])
end Rs
end Go.Proofs.Ytaapakpanbfmlaa
