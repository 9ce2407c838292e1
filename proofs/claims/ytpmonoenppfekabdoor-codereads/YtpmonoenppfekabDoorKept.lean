/-
  Lists of one's own that are written into: all of a list of instructions at once.
-/
import Derived.Test.YtpmonoenppfekabDoorSameL
import Derived.Laws.OwnMore
namespace Go.Proofs.YtpmonoenppfekabDoor
open Go.RowKit
/-- append to a list of one's own: what lay there lies there still, whatever becomes of the new one. -/
theorem run_append_still {P : Program} (w : World) (base : Nat) (t ty e : TypeId) (i : TypeInfo) (z : Value) (size bytes : Nat) (ht : P.underlying t = some (.slice e)) (hi : P.info? e = some i) (hz : i.zero = some z)
    (hsize : i.size = size) (hby : i.bytes = bytes) (v : Value) (n : Nat) (xs : List Value) (hown : w.ownsRow base e size v n xs)
    (a : Addr) (m c : Nat) (news : List Value) (hl : news.length = m * size) (hnews : ∀ j u, news[j]? = some u → w.cell? (a.add j) = some u) (h1 : ∀ u ∈ news, u.oneCell' = true)
    (hm : 0 < m) (h63 : n + m ≤ maxLen) (hbytes : (n + m) * bytes ≤ 140737488355328) :
    ∃ v' w', (Builtin.append_ #[t, t] ty #[v, .slice (some a) m c]).run P w = .ok v' w' ∧ w'.ownsRow base e size v n xs ∧ w.grownBy w' v.ownBlock := by
  subst hsize
  subst hby
  have hsmall : n + m ≤ 9223372036854775807 := by simp only [maxLen] at h63; omega
  rcases hown.2 with ⟨rfl, rfl⟩ | ⟨g, cap, cur, rfl, hbg, hg, hnc, hcm, hcs, htake⟩
  · have hx : xs = [] := List.eq_nil_of_length_eq_zero (by simpa using hown.1)
    subst hx
    have hr := run_append_nil (P := P) w t ty e i z ht hi hz a m c news hl hnews hm (by omega) (by simp only [Nat.zero_add] at hbytes; omega)
    exact ⟨_, _, hr, World.ownsRow_nil _ _ _ _, ⟨rfl, rfl, rfl, by simp, fun k hk _ => heap_alloc_old w.drew _ hk⟩⟩
  · have hgl : g < w.heap.size := (Array.getElem?_eq_some_iff.1 hg).1
    by_cases hroom : n + m ≤ cap
    · have hfit : n * i.size + news.length ≤ cur.size := by rw [hl, hcs, ← Nat.add_mul]; exact Nat.mul_le_mul_right _ hroom
      have hr := run_append_room (P := P) w t ty e i ht hi g n cap cur hg a m c news hl hnews h1 hroom hfit
      refine ⟨_, _, hr, ⟨hown.1, .inr ⟨g, cap, _, rfl, hbg, setRow_heap w g cur _ e _ hg, hnc, hcm, ?_, ?_⟩⟩, ⟨rfl, rfl, rfl, by simp, fun k _ hk => setRow_other w g k _ (fun e => hk (by simp [Value.ownBlock, e]))⟩⟩
      · simp only [List.size_toArray, List.length_append, List.length_take, List.length_drop, Array.length_toList]
        omega
      · rw [htake, List.append_assoc, ← hown.1]
        exact List.take_left
    · have holds : ∀ j u, xs[j]? = some u → w.cell? ((⟨g, 0, none⟩ : Addr).add j) = some u := hown.cells (g := g) rfl
      have hr := run_append_grow (P := P) w t ty e i z ht hi hz ⟨g, 0, none⟩ n cap xs hown.1 holds a m c news hl hnews (by omega) (by omega) (growslice_fits (by omega) hbytes)
      refine ⟨_, _, hr, ⟨hown.1, .inr ⟨g, cap, cur, rfl, hbg, ?_, hnc, hcm, hcs, htake⟩⟩, ⟨rfl, rfl, rfl, by simp, fun k hk _ => heap_alloc_old w.drew _ hk⟩⟩
      rw [heap_alloc_old w.drew _ hgl]; exact hg
theorem wpList_append_still {P : Program} (w : World) {ops : Array Oper} {rest : List Oper} {o : Oper} {a : Act} {Q : Exit → Act → World → Prop} (hgd : o.guard = none) (s x : Operand) (t : TypeId)
    (ho : o.op = .call { callee := .builtin .append, args := #[s, x], argTypes := #[t, t] })
    (base : Nat) (e : TypeId) (i : TypeInfo) (z : Value) (size bytes : Nat) (ht : P.underlying t = some (.slice e)) (hi : P.info? e = some i) (hz : i.zero = some z)
    (hsize : i.size = size) (hby : i.bytes = bytes)
    (v : Value) (n : Nat) (xs : List Value) (hs : a.eval s = v) (hown : w.ownsRow base e size v n xs)
    (ad : Addr) (m c : Nat) (news : List Value) (hx : a.eval x = .slice (some ad) m c) (hl : news.length = m * size) (hnews : ∀ j u, news[j]? = some u → w.cell? (ad.add j) = some u) (h1 : ∀ u ∈ news, u.oneCell' = true)
    (hm : 0 < m) (h63 : n + m ≤ maxLen) (hbytes : (n + m) * bytes ≤ 140737488355328)
    (h : ∀ v' w', w'.ownsRow base e size v n xs → w.grownBy w' v.ownBlock → wpList P ops Q rest (a.put o.dst v') w') :
    wpList P ops Q (o :: rest) a w := by
  refine wpList_plain hgd fun K hK => ?_
  obtain ⟨v', w', hr, h2, h3⟩ := run_append_still (P := P) w base t o.type e i z size bytes ht hi hz hsize hby v n xs hown ad m c news hl hnews h1 hm h63 hbytes
  unfold Oper.wp execOp
  simp only [ho, resolve, invoke, builtin, Sem.run_bind, Sem.run_pure, Result.andThen_ok, List.map_toArray, List.map_cons, List.map_nil, hs, hx, hr]
  exact hK _ _ (h v' w' h2 h3)
/-- A list of instructions of one's own, whose lists hold now K k and T k. -/
structure Rws (w : World) (B : Nat) (v : Value) (L : List J) (K T : Nat → List Int) : Prop where
  row : w.ownsRow B 35 8 v L.length (JC L)
  own : ∀ k (hk : k < L.length), Own2 w B (L[k]).kv (L[k]).tv (K k) (T k)
  apart : (v.ownBlock.toList ++ blocks L).Nodup
def KOf (L : List J) (k : Nat) : List Int := if hk : k < L.length then (L[k]).i.keys else []
def TOf (L : List J) (k : Nat) : List Int := if hk : k < L.length then (L[k]).i.tgts else []
theorem Rws.of_lst {w : World} {B : Nat} {v : Value} {L : List J} (h : Lst w B v L) : Rws w B v L (KOf L) (TOf L) :=
  ⟨h.row, fun k hk => by have := h.own _ (List.getElem_mem hk); simpa only [KOf, TOf, dif_pos hk] using this, h.apart⟩
/-- No block is met twice. -/
theorem blocks_ne {L : List J} (h : (blocks L).Nodup) {k m : Nat} (hk : k < L.length) (hm : m < L.length) (hne : k ≠ m) {b : Nat} (hb : b ∈ J.blocks (L[k])) : b ∉ J.blocks (L[m]) := by
  unfold blocks List.Nodup at h
  rw [List.pairwise_flatMap] at h
  have hp := h.2
  rw [List.pairwise_iff_getElem] at hp
  rcases Nat.lt_or_gt_of_ne hne with hl | hl
  · exact fun hc => hp k m hk hm hl b hb b hc rfl
  · exact fun hc => hp m k hm hk hl b hc b hb rfl
/-- A step that turns no row of the list but those of one instruction, and these as told. -/
theorem Rws.turn {w w' : World} {B : Nat} {v : Value} {L : List J} {K T : Nat → List Int} (h : Rws w B v L K T) {k : Nat} (hk : k < L.length) {row : Option Nat} (hg : w.grownBy w' row) (hr : ∀ b, row = some b → b ∈ J.blocks (L[k]))
    {ks ts : List Int} (ho : Own2 w' B (L[k]).kv (L[k]).tv ks ts) : Rws w' B v L (fun i => if i = k then ks else K i) (fun i => if i = k then ts else T i) := by
  have hnd := List.nodup_append.1 h.apart
  refine ⟨ins_kept h.row hg (fun b e e2 => ?_), fun m hm => ?_, h.apart⟩
  · exact hnd.2.2 b (by simp [e2]) b (by unfold blocks; exact List.mem_flatMap.2 ⟨_, List.getElem_mem hk, hr b e⟩) rfl
  · by_cases e : m = k
    · subst e; simpa using ho
    · simp only [if_neg e]
      refine (h.own m hm).keptX hg (fun b e1 e2 => ?_) (fun b e1 e2 => ?_)
      · exact blocks_ne hnd.2.1 hk hm (fun x => e x.symm) (hr b e1) (by unfold J.blocks; simp [e2])
      · exact blocks_ne hnd.2.1 hk hm (fun x => e x.symm) (hr b e1) (by unfold J.blocks; simp [e2])
theorem Rws.kept {w w' : World} {B : Nat} {v : Value} {L : List J} {K T : Nat → List Int} (h : Rws w B v L K T) (hg : w.grownBy w' none) : Rws w' B v L K T :=
  ⟨ins_kept h.row hg (fun _ e => by cases e), fun k hk => (h.own k hk).kept hg (fun _ e => by cases e), h.apart⟩
theorem Rws.congr {w : World} {B : Nat} {v : Value} {L : List J} {K T K' T' : Nat → List Int} (h : Rws w B v L K T) (hK : ∀ k, k < L.length → K k = K' k) (hT : ∀ k, k < L.length → T k = T' k) : Rws w B v L K' T' :=
  ⟨h.row, fun k hk => by rw [← hK k hk, ← hT k hk]; exact h.own k hk, h.apart⟩
/-- A number is written into a list of keys. -/
theorem Rws.setK {w : World} {B : Nat} {v : Value} {L : List J} {K T : Nat → List Int} (h : Rws w B v L K T) {k : Nat} (hk : k < L.length) {g n c j : Nat} (hv : (L[k]).kv = .slice (some ⟨g, 0, none⟩) n c) (x : Int) :
    Rws (w.setCell ⟨g, j, none⟩ (.int .i64 x)) B v L (fun i => if i = k then (K k).set j x else K i) T := by
  have ho := h.own k hk
  have hb : (L[k]).kv.ownBlock = some g := by rw [hv]; rfl
  have hgr := grown_set w g j (.int .i64 x)
  refine (h.turn hk (row := some g) hgr (fun b e => by cases e; unfold J.blocks; simp [hb]) (ks := (K k).set j x) (ts := T k) ⟨?_, ?_, ho.apart⟩).congr (fun _ _ => rfl) (fun i _ => ?_)
  · rcases ho.k.2 with ⟨h0, _⟩ | ⟨g', cap, cur, h1, h2, h3, h4, h5, h6, h7⟩
    · rw [hv] at h0; cases h0
    · rw [hv] at h1
      cases h1
      refine ⟨by simp, .inr ⟨g, c, _, by rw [hv, List.length_set], h2, heap_setCell_same w g j _ 3 _ h3, by simpa using h4, h5, by simpa using h6, ?_⟩⟩
      rw [List.map_set, ← h7]
      simp [List.take_set]
  · exact row_kept ho.t hgr (fun b e => by cases e; exact ho.apart g hb)
  · by_cases e : i = k
    · simp [e]
    · simp [e]
theorem Rws.setT {w : World} {B : Nat} {v : Value} {L : List J} {K T : Nat → List Int} (h : Rws w B v L K T) {k : Nat} (hk : k < L.length) {g n c j : Nat} (hv : (L[k]).tv = .slice (some ⟨g, 0, none⟩) n c) (x : Int) :
    Rws (w.setCell ⟨g, j, none⟩ (.int .i64 x)) B v L K (fun i => if i = k then (T k).set j x else T i) := by
  have ho := h.own k hk
  have hb : (L[k]).tv.ownBlock = some g := by rw [hv]; rfl
  have hgr := grown_set w g j (.int .i64 x)
  refine (h.turn hk (row := some g) hgr (fun b e => by cases e; unfold J.blocks; simp [hb]) (ks := K k) (ts := (T k).set j x) ⟨?_, ?_, ho.apart⟩).congr (fun i _ => ?_) (fun _ _ => rfl)
  · exact row_kept ho.k hgr (fun b e e2 => by cases e; exact ho.apart g e2 hb)
  · rcases ho.t.2 with ⟨h0, _⟩ | ⟨g', cap, cur, h1, h2, h3, h4, h5, h6, h7⟩
    · rw [hv] at h0; cases h0
    · rw [hv] at h1
      cases h1
      refine ⟨by simp, .inr ⟨g, c, _, by rw [hv, List.length_set], h2, heap_setCell_same w g j _ 3 _ h3, by simpa using h4, h5, by simpa using h6, ?_⟩⟩
      rw [List.map_set, ← h7]
      simp [List.take_set]
  · by_cases e : i = k
    · simp [e]
    · simp [e]
/-- A list is appended to, and what comes of it is let go. -/
theorem Rws.appK {w w' : World} {B : Nat} {v : Value} {L : List J} {K T : Nat → List Int} (h : Rws w B v L K T) {k : Nat} (hk : k < L.length) (hg : w.grownBy w' (L[k]).kv.ownBlock)
    (hK : w'.ownsRow B 3 1 (L[k]).kv (K k).length ((K k).map (Value.int .i64))) : Rws w' B v L K T := by
  have ho := h.own k hk
  refine (h.turn hk (row := (L[k]).kv.ownBlock) hg (fun b e => by unfold J.blocks; simp [e]) (ks := K k) (ts := T k) ⟨hK, row_kept ho.t hg (fun b e => ho.apart b e), ho.apart⟩).congr (fun i _ => ?_) (fun i _ => ?_)
  · by_cases e : i = k
    · simp [e]
    · simp [e]
  · by_cases e : i = k
    · simp [e]
    · simp [e]
theorem Rws.appT {w w' : World} {B : Nat} {v : Value} {L : List J} {K T : Nat → List Int} (h : Rws w B v L K T) {k : Nat} (hk : k < L.length) (hg : w.grownBy w' (L[k]).tv.ownBlock)
    (hT : w'.ownsRow B 3 1 (L[k]).tv (T k).length ((T k).map (Value.int .i64))) : Rws w' B v L K T := by
  have ho := h.own k hk
  refine (h.turn hk (row := (L[k]).tv.ownBlock) hg (fun b e => by unfold J.blocks; simp [e]) (ks := K k) (ts := T k) ⟨row_kept ho.k hg (fun b e e2 => ho.apart b e2 e), hT, ho.apart⟩).congr (fun i _ => ?_) (fun i _ => ?_)
  · by_cases e : i = k
    · simp [e]
    · simp [e]
  · by_cases e : i = k
    · simp [e]
    · simp [e]
theorem below_app {w w' : World} {B n : Nat} {v : Value} {xs : List Value} {o : Obj} {b0 : World} (hb : Below B b0 w) (hB : B ≤ w.heap.size) (ho : (w.alloc o).ownsRow B 3 1 v n xs) (hg : (w.alloc o).grownBy w' v.ownBlock) : Below B b0 w' :=
  (hb.alloc hB o).grown hg (by simp; omega) (fun k hk => (row_in ho hk).1)
theorem Rws.has {w : World} {B : Nat} {v : Value} {L : List J} {K T : Nat → List Int} (h : Rws w B v L K T) : ∃ ad cap, v = .slice ad L.length cap ∧ (L ≠ [] → ∃ b, ad = some ⟨b, 0, none⟩ ∧ B ≤ b ∧ b < w.heap.size ∧ ∀ k (hk : k < L.length), At8 w b (k * 8) (L[k]).c) := by
  rcases h.row.2 with ⟨rfl, h0⟩ | ⟨g, cap, cur, rfl, h1, h2, h3⟩
  · exact ⟨none, 0, by rw [h0], fun hne => absurd (List.length_eq_zero_iff.1 h0) hne⟩
  · refine ⟨_, _, rfl, fun _ => ⟨g, rfl, h1, (Array.getElem?_eq_some_iff.1 h2).1, fun k hk => ?_⟩⟩
    have : At8 w g (0 + k * 8) (L[k]).c := At8.of (fun i hi => by
      have e := JC_at L k hk i hi
      have hc : (L[k]).cells[i]? = some ((L[k]).cells[i]'(by rw [J.cells_length]; exact hi)) := List.getElem?_eq_getElem _
      rw [hc] at e ⊢
      have := h.row.cells (g := g) rfl (k * 8 + i) _ e
      rw [Addr.add_lit] at this
      rw [show 0 + k * 8 + i = 0 + (k * 8 + i) by omega]
      exact this)
    rwa [Nat.zero_add] at this
end Go.Proofs.YtpmonoenppfekabDoor
