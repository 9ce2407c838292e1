/-
  Lists of one's own that are written into: all of a list of frames at once.
-/
import Derived.Test.YtbgpkkbejbidlabSm
import Derived.Laws.OwnMore
namespace Go.Proofs.Ytbgpkkbejbidlab
open Go.RowKit
/-- append to a list of one's own: what lay there lies there still, whatever becomes of the new one. -/
theorem run_append_still {P : Program} (w : World) (base : Nat) (t ty e : TypeId) (i : TypeInfo) (z : Value) (size bytes : Nat) (ht : P.underlying t = some (.slice e)) (hi : P.info? e = some i) (hz : i.zero = some z)
    (hsize : i.size = size) (hby : i.bytes = bytes) (v : Value) (n : Nat) (xs : List Value) (hown : w.ownsRow base e size v n xs)
    (a : Addr) (m c : Nat) (news : List Value) (hl : news.length = m * size) (hnews : ∀ j u, news[j]? = some u → w.cell? (a.add j) = some u) (h1 : ∀ u ∈ news, u.oneCell' = true)
    (hm : 0 < m) (h63 : n + m ≤ maxLen) (hbytes : (n + m) * bytes ≤ 140737488355328) :
    ∃ v' w', (Builtin.append_ #[t, t] ty #[v, .slice (some a) m c]).run P w = .ok v' w' ∧ w'.ownsRow base e size v n xs ∧ w.grownBy w' v.ownBlock := by
  subst hsize
  subst hby
  have hsmall : n + m ≤ 9223372036854775807 := by simp only [maxLen] at h63; omega
  rcases hown.2 with ⟨rfl, rfl⟩ | ⟨g, cap, cur, rfl, hbg, hg, hnc, hcm, hcs, htake⟩
  · have hx : xs = [] := List.eq_nil_of_length_eq_zero (by simpa using hown.1)
    subst hx
    have hr := run_append_nil (P := P) w t ty e i z ht hi hz a m c news hl hnews hm (by omega) (by simp only [Nat.zero_add] at hbytes; omega)
    exact ⟨_, _, hr, World.ownsRow_nil _ _ _ _, ⟨rfl, rfl, rfl, by simp, fun k hk _ => heap_alloc_old w.drew _ hk⟩⟩
  · have hgl : g < w.heap.size := (Array.getElem?_eq_some_iff.1 hg).1
    by_cases hroom : n + m ≤ cap
    · have hfit : n * i.size + news.length ≤ cur.size := by rw [hl, hcs, ← Nat.add_mul]; exact Nat.mul_le_mul_right _ hroom
      have hr := run_append_room (P := P) w t ty e i ht hi g n cap cur hg a m c news hl hnews h1 hroom hfit
      refine ⟨_, _, hr, ⟨hown.1, .inr ⟨g, cap, _, rfl, hbg, setRow_heap w g cur _ e _ hg, hnc, hcm, ?_, ?_⟩⟩, ⟨rfl, rfl, rfl, by simp, fun k _ hk => setRow_other w g k _ (fun e => hk (by simp [Value.ownBlock, e]))⟩⟩
      · simp only [List.size_toArray, List.length_append, List.length_take, List.length_drop, Array.length_toList]
        omega
      · rw [htake, List.append_assoc, ← hown.1]
        exact List.take_left
    · have holds : ∀ j u, xs[j]? = some u → w.cell? ((⟨g, 0, none⟩ : Addr).add j) = some u := hown.cells (g := g) rfl
      have hr := run_append_grow (P := P) w t ty e i z ht hi hz ⟨g, 0, none⟩ n cap xs hown.1 holds a m c news hl hnews (by omega) (by omega) (growslice_fits (by omega) hbytes)
      refine ⟨_, _, hr, ⟨hown.1, .inr ⟨g, cap, cur, rfl, hbg, ?_, hnc, hcm, hcs, htake⟩⟩, ⟨rfl, rfl, rfl, by simp, fun k hk _ => heap_alloc_old w.drew _ hk⟩⟩
      rw [heap_alloc_old w.drew _ hgl]; exact hg
theorem wpList_append_still {P : Program} (w : World) {ops : Array Oper} {rest : List Oper} {o : Oper} {a : Act} {Q : Exit → Act → World → Prop} (hgd : o.guard = none) (s x : Operand) (t : TypeId)
    (ho : o.op = .call { callee := .builtin .append, args := #[s, x], argTypes := #[t, t] })
    (base : Nat) (e : TypeId) (i : TypeInfo) (z : Value) (size bytes : Nat) (ht : P.underlying t = some (.slice e)) (hi : P.info? e = some i) (hz : i.zero = some z)
    (hsize : i.size = size) (hby : i.bytes = bytes)
    (v : Value) (n : Nat) (xs : List Value) (hs : a.eval s = v) (hown : w.ownsRow base e size v n xs)
    (ad : Addr) (m c : Nat) (news : List Value) (hx : a.eval x = .slice (some ad) m c) (hl : news.length = m * size) (hnews : ∀ j u, news[j]? = some u → w.cell? (ad.add j) = some u) (h1 : ∀ u ∈ news, u.oneCell' = true)
    (hm : 0 < m) (h63 : n + m ≤ maxLen) (hbytes : (n + m) * bytes ≤ 140737488355328)
    (h : ∀ v' w', w'.ownsRow base e size v n xs → w.grownBy w' v.ownBlock → wpList P ops Q rest (a.put o.dst v') w') :
    wpList P ops Q (o :: rest) a w := by
  refine wpList_plain hgd fun K hK => ?_
  obtain ⟨v', w', hr, h2, h3⟩ := run_append_still (P := P) w base t o.type e i z size bytes ht hi hz hsize hby v n xs hown ad m c news hl hnews h1 hm h63 hbytes
  unfold Oper.wp execOp
  simp only [ho, resolve, invoke, builtin, Sem.run_bind, Sem.run_pure, Result.andThen_ok, List.map_toArray, List.map_cons, List.map_nil, hs, hx, hr]
  exact hK _ _ (h v' w' h2 h3)
/-- A type is written into a list. -/
theorem TC_set (L : List T) (j : Nat) (t : T) : TC (L.set j t) = (((TC L).set (j * 3) (.int .u8 (t.tag : Int))).set (j * 3 + 1) (.string ⟨t.name.toArray⟩)).set (j * 3 + 2) (.int .i64 t.at_) := by
  induction L generalizing j with
  | nil => simp [TC]
  | cons c L ih =>
    cases j with
    | zero => simp [TC, T.cells]
    | succ j =>
      rw [List.set_cons_succ, TC, TC, ih]
      have e : ∀ (i : Nat) (l : List Value) (v : Value), (c.cells ++ l).set (i + 3) v = c.cells ++ l.set i v := fun i l v => by
        rw [List.set_append_right _ _ (by simp [T.cells])]; simp [T.cells]
      rw [show (j + 1) * 3 = j * 3 + 3 by omega, show j * 3 + 3 + 1 = j * 3 + 1 + 3 by omega, show j * 3 + 3 + 2 = j * 3 + 2 + 3 by omega, e, e, e]
theorem own_setT {w : World} {B n c g j : Nat} {L : List T} {t : T} (h : w.ownsRow B 25 3 (.slice (some ⟨g, 0, none⟩) n c) L.length (TC L)) :
    (((w.setCell ⟨g, j * 3, none⟩ (.int .u8 (t.tag : Int))).setCell ⟨g, j * 3 + 1, none⟩ (.string ⟨t.name.toArray⟩)).setCell ⟨g, j * 3 + 2, none⟩ (.int .i64 t.at_)).ownsRow B 25 3 (.slice (some ⟨g, 0, none⟩) n c) (L.set j t).length (TC (L.set j t)) := by
  rcases h.2 with ⟨h0, _⟩ | ⟨g', cap, cur, h0, h2, h3, h4, h5, h6, h7⟩
  · cases h0
  · cases h0
    have e1 := heap_setCell_same w g (j * 3) _ 25 (.int .u8 (t.tag : Int)) h3
    have e2 := heap_setCell_same _ g (j * 3 + 1) _ 25 (.string ⟨t.name.toArray⟩) e1
    have e3 := heap_setCell_same _ g (j * 3 + 2) _ 25 (.int .i64 t.at_) e2
    rw [List.length_set]
    refine ⟨by rw [TC_length, List.length_set], .inr ⟨g, c, _, rfl, h2, e3, h4, h5, by simpa using h6, ?_⟩⟩
    rw [TC_set, ← h7]
    simp [List.take_set]
/-- A list of frames of one's own, whose lists hold now K k and S k. -/
structure Rws (w : World) (B : Nat) (v : Value) (L : List J) (K S : Nat → List T) : Prop where
  row : w.ownsRow B 42 3 v L.length (JC L)
  own : ∀ k (hk : k < L.length), Own2 w B (L[k]).lv (L[k]).sv (K k) (S k)
  apart : (v.ownBlock.toList ++ blocks L).Nodup
def KOf (L : List J) (k : Nat) : List T := if hk : k < L.length then (L[k]).f.locals else []
def SOf (L : List J) (k : Nat) : List T := if hk : k < L.length then (L[k]).f.stack else []
theorem Rws.of_lst {w : World} {B : Nat} {v : Value} {L : List J} (h : Lst w B v L) : Rws w B v L (KOf L) (SOf L) :=
  ⟨h.row, fun k hk => by have := h.own _ (List.getElem_mem hk); simpa only [KOf, SOf, dif_pos hk] using this, h.apart⟩
/-- No block is met twice. -/
theorem blocks_ne {L : List J} (h : (blocks L).Nodup) {k m : Nat} (hk : k < L.length) (hm : m < L.length) (hne : k ≠ m) {b : Nat} (hb : b ∈ J.blocks (L[k])) : b ∉ J.blocks (L[m]) := by
  unfold blocks List.Nodup at h
  rw [List.pairwise_flatMap] at h
  have hp := h.2
  rw [List.pairwise_iff_getElem] at hp
  rcases Nat.lt_or_gt_of_ne hne with hl | hl
  · exact fun hc => hp k m hk hm hl b hb b hc rfl
  · exact fun hc => hp m k hm hk hl b hc b hb rfl
/-- A step that turns no row of the list but those of one frame, and these as told. -/
theorem Rws.turn {w w' : World} {B : Nat} {v : Value} {L : List J} {K S : Nat → List T} (h : Rws w B v L K S) {k : Nat} (hk : k < L.length) {row : Option Nat} (hg : w.grownBy w' row) (hr : ∀ b, row = some b → b ∈ J.blocks (L[k]))
    {ks ss : List T} (ho : Own2 w' B (L[k]).lv (L[k]).sv ks ss) : Rws w' B v L (fun i => if i = k then ks else K i) (fun i => if i = k then ss else S i) := by
  have hnd := List.nodup_append.1 h.apart
  refine ⟨ins_kept h.row hg (fun b e e2 => ?_), fun m hm => ?_, h.apart⟩
  · exact hnd.2.2 b (by simp [e2]) b (by unfold blocks; exact List.mem_flatMap.2 ⟨_, List.getElem_mem hk, hr b e⟩) rfl
  · by_cases e : m = k
    · subst e; simpa using ho
    · simp only [if_neg e]
      refine (h.own m hm).keptX hg (fun b e1 e2 => ?_) (fun b e1 e2 => ?_)
      · exact blocks_ne hnd.2.1 hk hm (fun x => e x.symm) (hr b e1) (by unfold J.blocks; simp [e2])
      · exact blocks_ne hnd.2.1 hk hm (fun x => e x.symm) (hr b e1) (by unfold J.blocks; simp [e2])
theorem Rws.kept {w w' : World} {B : Nat} {v : Value} {L : List J} {K S : Nat → List T} (h : Rws w B v L K S) (hg : w.grownBy w' none) : Rws w' B v L K S :=
  ⟨ins_kept h.row hg (fun _ e => by cases e), fun k hk => (h.own k hk).kept hg (fun _ e => by cases e), h.apart⟩
theorem Rws.congr {w : World} {B : Nat} {v : Value} {L : List J} {K S K' S' : Nat → List T} (h : Rws w B v L K S) (hK : ∀ k, k < L.length → K k = K' k) (hS : ∀ k, k < L.length → S k = S' k) : Rws w B v L K' S' :=
  ⟨h.row, fun k hk => by rw [← hK k hk, ← hS k hk]; exact h.own k hk, h.apart⟩
theorem grown_set3 (w : World) (g i j k : Nat) (x y z : Value) : w.grownBy (((w.setCell ⟨g, i, none⟩ x).setCell ⟨g, j, none⟩ y).setCell ⟨g, k, none⟩ z) (some g) :=
  grown_trans (grown_trans (grown_set w g i x) (grown_set _ g j y)) (grown_set _ g k z)
/-- A type is written into a list of locals. -/
theorem Rws.setK {w : World} {B : Nat} {v : Value} {L : List J} {K S : Nat → List T} (h : Rws w B v L K S) {k : Nat} (hk : k < L.length) {g n c j : Nat} (hv : (L[k]).lv = .slice (some ⟨g, 0, none⟩) n c) (t : T) :
    Rws (((w.setCell ⟨g, j * 3, none⟩ (.int .u8 (t.tag : Int))).setCell ⟨g, j * 3 + 1, none⟩ (.string ⟨t.name.toArray⟩)).setCell ⟨g, j * 3 + 2, none⟩ (.int .i64 t.at_)) B v L (fun i => if i = k then (K k).set j t else K i) S := by
  have ho := h.own k hk
  have hb : (L[k]).lv.ownBlock = some g := by rw [hv]; rfl
  have hgr := grown_set3 w g (j * 3) (j * 3 + 1) (j * 3 + 2) (.int .u8 (t.tag : Int)) (.string ⟨t.name.toArray⟩) (.int .i64 t.at_)
  refine (h.turn hk (row := some g) hgr (fun b e => by cases e; unfold J.blocks; simp [hb]) (ks := (K k).set j t) (ss := S k) ⟨?_, ?_, ho.apart⟩).congr (fun _ _ => rfl) (fun i _ => ?_)
  · have := ho.l
    rw [hv] at this ⊢
    exact own_setT this
  · exact ins_kept ho.s hgr (fun b e => by cases e; exact ho.apart g hb)
  · by_cases e : i = k
    · simp [e]
    · simp [e]
theorem Rws.setS {w : World} {B : Nat} {v : Value} {L : List J} {K S : Nat → List T} (h : Rws w B v L K S) {k : Nat} (hk : k < L.length) {g n c j : Nat} (hv : (L[k]).sv = .slice (some ⟨g, 0, none⟩) n c) (t : T) :
    Rws (((w.setCell ⟨g, j * 3, none⟩ (.int .u8 (t.tag : Int))).setCell ⟨g, j * 3 + 1, none⟩ (.string ⟨t.name.toArray⟩)).setCell ⟨g, j * 3 + 2, none⟩ (.int .i64 t.at_)) B v L K (fun i => if i = k then (S k).set j t else S i) := by
  have ho := h.own k hk
  have hb : (L[k]).sv.ownBlock = some g := by rw [hv]; rfl
  have hgr := grown_set3 w g (j * 3) (j * 3 + 1) (j * 3 + 2) (.int .u8 (t.tag : Int)) (.string ⟨t.name.toArray⟩) (.int .i64 t.at_)
  refine (h.turn hk (row := some g) hgr (fun b e => by cases e; unfold J.blocks; simp [hb]) (ks := K k) (ss := (S k).set j t) ⟨?_, ?_, ho.apart⟩).congr (fun i _ => ?_) (fun _ _ => rfl)
  · exact ins_kept ho.l hgr (fun b e e2 => by cases e; exact ho.apart g e2 hb)
  · have := ho.s
    rw [hv] at this ⊢
    exact own_setT this
  · by_cases e : i = k
    · simp [e]
    · simp [e]
/-- A list is appended to, and what comes of it is let go. -/
theorem Rws.appK {w w' : World} {B : Nat} {v : Value} {L : List J} {K S : Nat → List T} (h : Rws w B v L K S) {k : Nat} (hk : k < L.length) (hg : w.grownBy w' (L[k]).lv.ownBlock)
    (hK : w'.ownsRow B 25 3 (L[k]).lv (K k).length (TC (K k))) : Rws w' B v L K S := by
  have ho := h.own k hk
  refine (h.turn hk (row := (L[k]).lv.ownBlock) hg (fun b e => by unfold J.blocks; simp [e]) (ks := K k) (ss := S k) ⟨hK, ins_kept ho.s hg (fun b e => ho.apart b e), ho.apart⟩).congr (fun i _ => ?_) (fun i _ => ?_)
  · by_cases e : i = k
    · simp [e]
    · simp [e]
  · by_cases e : i = k
    · simp [e]
    · simp [e]
theorem Rws.appS {w w' : World} {B : Nat} {v : Value} {L : List J} {K S : Nat → List T} (h : Rws w B v L K S) {k : Nat} (hk : k < L.length) (hg : w.grownBy w' (L[k]).sv.ownBlock)
    (hS : w'.ownsRow B 25 3 (L[k]).sv (S k).length (TC (S k))) : Rws w' B v L K S := by
  have ho := h.own k hk
  refine (h.turn hk (row := (L[k]).sv.ownBlock) hg (fun b e => by unfold J.blocks; simp [e]) (ks := K k) (ss := S k) ⟨ins_kept ho.l hg (fun b e e2 => ho.apart b e2 e), hS, ho.apart⟩).congr (fun i _ => ?_) (fun i _ => ?_)
  · by_cases e : i = k
    · simp [e]
    · simp [e]
  · by_cases e : i = k
    · simp [e]
    · simp [e]
theorem below_app {w w' : World} {B n : Nat} {v : Value} {xs : List Value} {o : Obj} {b0 : World} (hb : Below B b0 w) (hB : B ≤ w.heap.size) (ho : (w.alloc o).ownsRow B 25 3 v n xs) (hg : (w.alloc o).grownBy w' v.ownBlock) : Below B b0 w' :=
  (hb.alloc hB o).grown hg (by simp; omega) (fun k hk => (ins_in ho hk).1)
theorem Rws.has {w : World} {B : Nat} {v : Value} {L : List J} {K S : Nat → List T} (h : Rws w B v L K S) : ∃ ad cap, v = .slice ad L.length cap ∧ (L ≠ [] → ∃ b, ad = some ⟨b, 0, none⟩ ∧ B ≤ b ∧ b < w.heap.size ∧ ∀ k (hk : k < L.length), At3 w b (k * 3) (L[k])) := by
  rcases h.row.2 with ⟨rfl, h0⟩ | ⟨g, cap, cur, rfl, h1, h2, h3⟩
  · exact ⟨none, 0, by rw [h0], fun hne => absurd (List.length_eq_zero_iff.1 h0) hne⟩
  · refine ⟨_, _, rfl, fun _ => ⟨g, rfl, h1, (Array.getElem?_eq_some_iff.1 h2).1, fun k hk => ?_⟩⟩
    have : At3 w g (0 + k * 3) (L[k]) := At3.of (fun i hi => by
      have e := JC_at L k hk i hi
      have hc : (L[k]).cells[i]? = some ((L[k]).cells[i]'(by rw [J.cells_length]; exact hi)) := List.getElem?_eq_getElem _
      rw [hc] at e ⊢
      have := h.row.cells (g := g) rfl (k * 3 + i) _ e
      rw [Addr.add_lit] at this
      rw [show 0 + k * 3 + i = 0 + (k * 3 + i) by omega]
      exact this)
    rwa [Nat.zero_add] at this
/-- What the statement writes into all lists. -/
def f78 (k : Nat) : T := ⟨78, [], (k : Int)⟩
def f79 (k : Nat) : T := ⟨79, [], (k : Int)⟩
def FK (L : List J) (k m : Nat) : List T := if m < k then List.replicate (KOf L m).length (f78 m) else KOf L m
def FS (L : List J) (k m : Nat) : List T := if m < k then List.replicate (SOf L m).length (f79 m) else SOf L m
theorem FK_len (L : List J) (k m : Nat) : (FK L k m).length = (KOf L m).length := by unfold FK; split <;> simp
theorem FS_len (L : List J) (k m : Nat) : (FS L k m).length = (SOf L m).length := by unfold FS; split <;> simp
theorem KOf_le {L : List J} (h : ∀ j ∈ L, j.f.locals.length ≤ 1048576 ∧ j.f.stack.length ≤ 1048576) (m : Nat) : (KOf L m).length ≤ 1048576 ∧ (SOf L m).length ≤ 1048576 := by
  unfold KOf SOf
  by_cases hm : m < L.length
  · rw [dif_pos hm, dif_pos hm]; exact h _ (List.getElem_mem hm)
  · rw [dif_neg hm, dif_neg hm]; simp
theorem Rws.below {w w' : World} {B : Nat} {v : Value} {L : List J} {K S : Nat → List T} (h : Rws w B v L K S) (hb : Below w.heap.size w w') : Rws w' B v L K S := h.kept (grown_of_below hb none)
theorem all_rep {xs : List T} {n : Nat} {c : T} (hl : xs.length = n) (h : ∀ t, t < n → xs.getD t T.zero = c) : xs = List.replicate n c := by
  apply List.ext_getElem?
  intro i
  rcases Nat.lt_or_ge i n with hi | hi
  · have := h i hi
    rw [List.getD_eq_getElem?_getD, List.getElem?_eq_getElem (by omega)] at this
    rw [List.getElem?_eq_getElem (by omega), List.getElem?_replicate_of_lt hi]
    simpa using this
  · rw [List.getElem?_eq_none (by omega), List.getElem?_eq_none (by simpa using hi)]
theorem set_lt {xs : List T} {n j : Nat} {c : T} (hl : xs.length = n) (hj : j < n) (h : ∀ t, t < j → xs.getD t T.zero = c) : ∀ t, t < j + 1 → (xs.set j c).getD t T.zero = c := by
  intro t ht
  rw [List.getD_eq_getElem?_getD, List.getElem?_set]
  by_cases e : j = t
  · rw [if_pos e, if_pos (by omega)]; rfl
  · rw [if_neg e, ← List.getD_eq_getElem?_getD]; exact h t (by omega)
theorem FK_next (L : List J) (k m : Nat) : (if m = k then List.replicate (KOf L k).length (f78 k) else FK L k m) = FK L (k + 1) m := by
  unfold FK
  by_cases e : m = k
  · subst e; simp
  · rw [if_neg e]
    by_cases h : m < k
    · rw [if_pos h, if_pos (by omega)]
    · rw [if_neg h, if_neg (by omega)]
theorem FS_next (L : List J) (k m : Nat) : (if m = k then List.replicate (SOf L k).length (f79 k) else FS L k m) = FS L (k + 1) m := by
  unfold FS
  by_cases e : m = k
  · subst e; simp
  · rw [if_neg e]
    by_cases h : m < k
    · rw [if_pos h, if_pos (by omega)]
    · rw [if_neg h, if_neg (by omega)]
theorem own_sl {w : World} {B n : Nat} {v : Value} {xs : List Value} (h : w.ownsRow B 25 3 v n xs) : ∃ o c, v = .slice o n c ∧ (0 < n → ∃ g, o = some ⟨g, 0, none⟩ ∧ B ≤ g ∧ g < w.heap.size) := by
  rcases h.2 with ⟨rfl, rfl⟩ | ⟨g, cap, cur, rfl, h1, h2, _⟩
  · exact ⟨none, 0, rfl, by omega⟩
  · exact ⟨_, _, rfl, fun _ => ⟨g, rfl, h1, (Array.getElem?_eq_some_iff.1 h2).1⟩⟩
/-- The three cells of an element of a list of one's own. -/
theorem own_at3 {w : World} {B n g c : Nat} {L : List T} (h : w.ownsRow B 25 3 (.slice (some ⟨g, 0, none⟩) n c) L.length (TC L)) {j : Nat} (hj : j < L.length) :
    w.cell? ⟨g, j * 3, none⟩ = some (.int .u8 ((L.getD j T.zero).tag : Int)) ∧ w.cell? ⟨g, j * 3 + 1, none⟩ = some (.string ⟨(L.getD j T.zero).name.toArray⟩) ∧ w.cell? ⟨g, j * 3 + 2, none⟩ = some (.int .i64 (L.getD j T.zero).at_) := by
  have := (TIn.of_own h).at hj
  simpa only [Nat.zero_add] using this
end Go.Proofs.Ytbgpkkbejbidlab
