/-
  The reference's space: Make: the walk.
  The reference's space: a thing more.
-/
import Derived.Test.YtaapakpanbfmlaaRi
namespace Go.Proofs.Ytaapakpanbfmlaa
namespace Rs
open Go.RowKit Hp
set_option linter.unusedVariables false
set_option linter.unusedSimpArgs false
/-- A thing that was just made: no references, all words 0. -/
def fresh (r q : Nat) : T := ⟨List.replicate r 0, List.replicate q 0⟩
/-- What Make asks for: a place, no negative numbers, no more than the limit. -/
theorem made_ints (n : Nat) (w : World) : RowN .i64 3 (w.alloc (.cells (madeCells #[.int .i64 0] n) 3)) (.slice (some ⟨w.heap.size, 0, none⟩) n n) (List.replicate n 0) := by
  refine .inr ⟨w.heap.size, by simp, ?_⟩
  have e : ((List.replicate n 0).map fun (x : Nat) => Value.int .i64 (x : Int)).toArray = madeCells #[.int .i64 0] n := by
    apply Array.toList_inj.1
    rw [toList_madeCells_one]; simp
  rw [e]
  exact heap_alloc_new w _
theorem made_words (n : Nat) (w : World) : RowN .u64 30 (w.alloc (.cells (madeCells #[.int .u64 0] n) 30)) (.slice (some ⟨w.heap.size, 0, none⟩) n n) (List.replicate n 0) := by
  refine .inr ⟨w.heap.size, by simp, ?_⟩
  have e : ((List.replicate n 0).map fun (x : Nat) => Value.int .u64 (x : Int)).toArray = madeCells #[.int .u64 0] n := by
    apply Array.toList_inj.1
    rw [toList_madeCells_one]; simp
  rw [e]
  exact heap_alloc_new w _
set_option maxRecDepth 100000 in
set_option maxHeartbeats 4000000 in
theorem rmake_bad (k r q : Int) (w : World) {B sb rb lim us : Nat} {lv : Value} {L : List Tv} {ro : List Nat} (h : Sp w B sb rb lv L ro lim us) (hb : ¬ (at16 k = true ∧ 0 ≤ r ∧ 0 ≤ q)) :
    Calls Try.prog 17 #[.pointer (some ⟨sb, 0, none⟩), .int .i64 k, .int .i64 r, .int .i64 q] w fun e w' => e = .returned (.int .i64 7) ∧ Fr [] w w' ∧ Sp w' B sb rb lv L ro lim us := by
  have HA := hide (at_any k w)
  have HS := hide h
  clear h
  generalize hk : at16 k = bk at *
  cases bk
  · clear hb hk
    go_enter Try.func17, Try.ntmps17
    go_wp2_with fail
    refine (unhide HA).mono ?_
    rintro e w1 ⟨rfl, hw1⟩
    subst w1
    go_wp2
    go_ret
    exact ⟨rfl, Fr.refl _ _, unhide HS⟩
  by_cases hr : r < 0
  · clear hb hk
    go_enter Try.func17, Try.ntmps17
    go_wp2_with fail
    refine (unhide HA).mono ?_
    rintro e w1 ⟨rfl, hw1⟩
    subst w1
    go_wp2
    go_ret
    exact ⟨rfl, Fr.refl _ _, unhide HS⟩
  · have hq : q < 0 := by
      rcases Int.lt_or_le q 0 with h | h
      · exact h
      · exact absurd ⟨rfl, by omega, h⟩ hb
    clear hb hk
    go_enter Try.func17, Try.ntmps17
    go_wp2_with fail
    refine (unhide HA).mono ?_
    rintro e w1 ⟨rfl, hw1⟩
    subst w1
    go_wp2
    go_ret
    exact ⟨rfl, Fr.refl _ _, unhide HS⟩
set_option maxRecDepth 100000 in
set_option maxHeartbeats 4000000 in
theorem rmake_great (k r q : Int) (w : World) {B sb rb lim us : Nat} {lv : Value} {L : List Tv} {ro : List Nat} (h : Sp w B sb rb lv L ro lim us) (hk : at16 k = true) (hr : 0 ≤ r) (hq : 0 ≤ q) (hb : (lim : Int) < r ∨ (lim : Int) < q) :
    Calls Try.prog 17 #[.pointer (some ⟨sb, 0, none⟩), .int .i64 k, .int .i64 r, .int .i64 q] w fun e w' => e = .returned (.int .i64 28) ∧ Fr [] w w' ∧ Sp w' B sb rb lv L ro lim us := by
  have HA := hide (at_any k w)
  rw [hk] at HA
  have HS := hide h
  have c2 := h.bcell.1
  clear h hk
  have hr' : ¬ r < 0 := by omega
  have hq' : ¬ q < 0 := by omega
  by_cases h1 : (lim : Int) < r
  · clear hb
    go_enter Try.func17, Try.ntmps17
    go_wp2_with fail
    refine (unhide HA).mono ?_
    rintro e w1 ⟨rfl, hw1⟩
    subst w1
    go_wp2
    go_ret
    exact ⟨rfl, Fr.refl _ _, unhide HS⟩
  · have h2 : (lim : Int) < q := by omega
    clear hb
    go_enter Try.func17, Try.ntmps17
    go_wp2_with fail
    refine (unhide HA).mono ?_
    rintro e w1 ⟨rfl, hw1⟩
    subst w1
    go_wp2
    go_ret
    exact ⟨rfl, Fr.refl _ _, unhide HS⟩
end Rs
end Go.Proofs.Ytaapakpanbfmlaa
namespace Go.Proofs.Ytaapakpanbfmlaa
namespace Rs
open Go.RowKit Hp
set_option linter.unusedVariables false
set_option linter.unusedSimpArgs false
theorem RowN.lt {k : IntKind} {ty : TypeId} {w : World} {v : Value} {xs : List Nat} (h : RowN k ty w v xs) : ∀ b ∈ v.ownBlock.toList, b < w.heap.size := by
  intro b hb
  rcases h with ⟨rfl, _⟩ | ⟨g, rfl, h⟩
  · simp [Value.ownBlock] at hb
  · simp [Value.ownBlock] at hb
    subst hb
    exact (Array.getElem?_eq_some_iff.1 h).1
theorem Sp.below {w : World} {B sb rb lim us : Nat} {lv : Value} {L : List Tv} {ro : List Nat} (h : Sp w B sb rb lv L ro lim us) : ∀ b ∈ Sp.fp sb rb lv L, b < w.heap.size := by
  intro b hb
  unfold Sp.fp at hb
  rcases List.mem_cons.1 hb with rfl | hb
  · exact (Array.getElem?_eq_some_iff.1 h.b).1
  rcases List.mem_cons.1 hb with rfl | hb
  · exact (Array.getElem?_eq_some_iff.1 h.r).1
  rcases List.mem_append.1 hb with hb | hb
  · exact (h.l.lt b (by cases hl : lv.ownBlock with
      | none => rw [hl] at hb; simp at hb
      | some g => rw [hl] at hb; simp at hb; rw [hb])).2
  · obtain ⟨x, hx, hb⟩ := List.mem_flatMap.1 hb
    rcases List.mem_append.1 hb with hb | hb
    · exact (h.t x hx).1.lt b hb
    · exact (h.t x hx).2.lt b hb
theorem RowN.same {k : IntKind} {ty : TypeId} {w w' : World} {v : Value} {xs : List Nat} (h : RowN k ty w v xs) (hn : ∀ b ∈ v.ownBlock.toList, w'.heap[b]? = w.heap[b]?) : RowN k ty w' v xs := by
  rcases h with h | ⟨g, rfl, h⟩
  · exact .inl h
  · exact .inr ⟨g, rfl, by rw [hn g (by simp [Value.ownBlock])]; exact h⟩
theorem tblocks_snoc (L : List Tv) (x : Tv) : tblocks (L ++ [x]) = tblocks L ++ (x.rv.ownBlock.toList ++ x.wv.ownBlock.toList) := by
  unfold tblocks; rw [List.flatMap_append]; simp
/-- A thing more: the list of things has grown, where it was or elsewhere. -/
theorem Sp.made {W W3 W4 : World} {B sb rb lim us : Nat} {lv v' : Value} {L : List Tv} {ro : List Nat} (x : Tv) (h : Sp W B sb rb lv L ro lim us) (h3 : Below W.heap.size W W3)
    (hr : RowN .i64 3 W3 x.rv x.t.refs) (hw : RowN .u64 30 W3 x.wv x.t.words) (hn : (x.rv.ownBlock.toList ++ x.wv.ownBlock.toList).Nodup) (hnew : ∀ b ∈ x.rv.ownBlock.toList ++ x.wv.ownBlock.toList, W.heap.size ≤ b)
    (hown : W4.ownsRow B 71 3 v' (L ++ [x]).length ((L ++ [x]).flatMap Tv.cells)) (hg : W3.grownBy W4 lv.ownBlock) (hat : v'.ownBlock = lv.ownBlock ∨ v'.ownBlock = some W3.heap.size) :
    Fr (sb :: lv.ownBlock.toList) W (W4.setCell ⟨sb, 0, none⟩ v') ∧ Sp (W4.setCell ⟨sb, 0, none⟩ v') B sb rb v' (L ++ [x]) ro lim us := by
  have hlow := h.below
  unfold Sp.fp at hlow
  have hap := h.apart
  rw [List.nodup_cons, List.nodup_cons, List.nodup_append] at hap
  obtain ⟨n1, n2, n3, n4, n5⟩ := hap
  obtain ⟨gv, cv, rfl, hgB, hgl⟩ := hown.form (by simp)
  have hat' : gv ∈ lv.ownBlock.toList ∨ gv = W3.heap.size := by
    rcases hat with e | e
    · left; rw [← e]; simp [Value.ownBlock]
    · right; simpa [Value.ownBlock] using e
  have hsz3 := h3.size
  have hS : sb < W.heap.size := hlow sb (by simp)
  have hR : rb < W.heap.size := hlow rb (by simp)
  have hT : ∀ b ∈ tblocks L, b < W.heap.size := fun b hb => hlow b (by simp [hb])
  have hV : ∀ b ∈ lv.ownBlock.toList, b < W.heap.size := fun b hb => hlow b (by
    exact List.mem_cons_of_mem _ (List.mem_cons_of_mem _ (List.mem_append_left _ hb)))
  have hne : ∀ b, b ∉ lv.ownBlock.toList → some b ≠ lv.ownBlock := fun b hb e => hb (by rw [← e]; simp)
  have hsv : sb ∉ lv.ownBlock.toList := fun e => n1 (List.mem_cons_of_mem _ (List.mem_append_left _ e))
  have hrv : rb ∉ lv.ownBlock.toList := fun e => n2 (List.mem_append_left _ e)
  have hst : sb ∉ tblocks L := fun e => n1 (List.mem_cons_of_mem _ (List.mem_append_right _ e))
  have hrt : rb ∉ tblocks L := fun e => n2 (List.mem_append_right _ e)
  have hsr : sb ≠ rb := fun e => n1 (by rw [e]; exact List.mem_cons_self ..)
  have old : ∀ b, b < W.heap.size → b ∉ lv.ownBlock.toList → W4.heap[b]? = W.heap[b]? := fun b hb hv => (hg.block b (by omega) (hne b hv)).trans (h3.block b hb)
  have hset : ∀ b, b ≠ sb → (W4.setCell ⟨sb, 0, none⟩ (.slice (some ⟨gv, 0, none⟩) (L ++ [x]).length cv)).heap[b]? = W4.heap[b]? := fun b hb => Below.heap_setCell W4 ⟨sb, 0, none⟩ _ b hb
  have hgs : gv ≠ sb := by
    rcases hat' with e | e
    · exact fun e2 => hsv (e2 ▸ e)
    · omega
  have hnl : ∀ b ∈ x.rv.ownBlock.toList ++ x.wv.ownBlock.toList, b < W3.heap.size := fun b hb => by
    rcases List.mem_append.1 hb with hb | hb
    · exact hr.lt b hb
    · exact hw.lt b hb
  have new : ∀ b ∈ x.rv.ownBlock.toList ++ x.wv.ownBlock.toList, (W4.setCell ⟨sb, 0, none⟩ (.slice (some ⟨gv, 0, none⟩) (L ++ [x]).length cv)).heap[b]? = W3.heap[b]? := fun b hb => by
    have h1 := hnew b hb
    rw [hset b (by omega)]
    exact hg.block b (hnl b hb) (hne b (fun e => by have := hV b e; omega))
  have hb4 : W4.heap[sb]? = some (.cells #[lv, .slice (some ⟨rb, 0, none⟩) 16 16, .int .i64 (lim : Int), .int .i64 (us : Int)] 67 (0, 0)) := (old sb hS hsv).trans h.b
  refine ⟨⟨?_, ?_, ?_, ?_, fun k hk hn => ?_⟩, ⟨?_, ?_, h.rl, ?_, fun z hz => ?_, ?_⟩⟩
  · exact hg.os.trans h3.os
  · exact hg.tape.trans h3.tape
  · exact hg.output.trans h3.output
  · have := hg.size; simp; omega
  · have h1 : k ≠ sb := fun e => hn (by rw [e]; exact List.mem_cons_self ..)
    rw [hset k h1]
    exact old k hk (fun e => hn (List.mem_cons_of_mem _ e))
  · rw [heap_setCell_same W4 sb 0 _ 67 _ hb4]; rfl
  · rw [hset rb (fun e => hsr e.symm)]; exact (old rb hR hrv).trans h.r
  · exact row_kept hown ((Fr.refl [sb] W4).set (by simp) _) (fun b hb e => by simp [Value.ownBlock] at hb e; omega)
  · rcases List.mem_append.1 hz with hz | hz
    · have hq : ∀ b ∈ z.rv.ownBlock.toList ++ z.wv.ownBlock.toList, (W4.setCell ⟨sb, 0, none⟩ (.slice (some ⟨gv, 0, none⟩) (L ++ [x]).length cv)).heap[b]? = W.heap[b]? := fun b hb => by
        have hbt : b ∈ tblocks L := List.mem_flatMap.2 ⟨z, hz, hb⟩
        rw [hset b (fun e => hst (e ▸ hbt))]
        exact old b (hT b hbt) (fun e => n5 b e b hbt rfl)
      exact ⟨(h.t z hz).1.same (fun b hb => hq b (List.mem_append_left _ hb)), (h.t z hz).2.same (fun b hb => hq b (List.mem_append_right _ hb))⟩
    · rw [List.mem_singleton.1 hz]
      exact ⟨hr.same (fun b hb => new b (List.mem_append_left _ hb)), hw.same (fun b hb => new b (List.mem_append_right _ hb))⟩
  · have hov : (Value.slice (some ⟨gv, 0, none⟩) (L ++ [x]).length cv).ownBlock.toList = [gv] := rfl
    rw [hov, tblocks_snoc, List.nodup_cons, List.nodup_cons, List.nodup_append, List.nodup_append]
    have hgr : gv ≠ rb := by
      rcases hat' with e | e
      · exact fun e2 => hrv (e2 ▸ e)
      · omega
    have hgt : gv ∉ tblocks L := by
      rcases hat' with e | e
      · exact fun e2 => n5 gv e gv e2 rfl
      · exact fun e2 => by have := hT gv e2; omega
    have hgn : gv ∉ x.rv.ownBlock.toList ++ x.wv.ownBlock.toList := fun e2 => by
      have h1 := hnew gv e2
      have h2 := hnl gv e2
      rcases hat' with e | e
      · have := hV gv e; omega
      · omega
    refine ⟨fun hm => ?_, fun hm => ?_, by simp, ⟨n4, hn, fun a ha b hb e => ?_⟩, fun a ha b hb e => ?_⟩
    · rcases List.mem_cons.1 hm with e | hm
      · exact hsr e
      · rcases List.mem_append.1 hm with hm | hm
        · exact hgs (List.mem_singleton.1 hm).symm
        · rcases List.mem_append.1 hm with hm | hm
          · exact hst hm
          · have := hnew sb hm; omega
    · rcases List.mem_append.1 hm with hm | hm
      · exact hgr (List.mem_singleton.1 hm).symm
      · rcases List.mem_append.1 hm with hm | hm
        · exact hrt hm
        · have := hnew rb hm; omega
    · have h1 := hT a ha
      have h2 := hnew b hb
      omega
    · rw [List.mem_singleton.1 ha] at e
      rcases List.mem_append.1 hb with hb | hb
      · exact hgt (e ▸ hb)
      · exact hgn (e ▸ hb)
end Rs
end Go.Proofs.Ytaapakpanbfmlaa
