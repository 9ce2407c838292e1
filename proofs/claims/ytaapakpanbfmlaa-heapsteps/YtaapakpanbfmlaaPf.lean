/-
  The program's rows: pages; set.
-/
import Derived.Test.YtaapakpanbfmlaaPe
import Derived.Test.YtaapakpanbfmlaaMgRf
namespace Go.Proofs.Ytaapakpanbfmlaa
namespace Rs
open Go.RowKit Hp
set_option linter.unusedVariables false
set_option linter.unusedSimpArgs false
theorem cell_lt {w : World} {a : Addr} {v : Value} (h : w.cell? a = some v) : a.block < w.heap.size := by
  rcases Nat.lt_or_ge a.block w.heap.size with h1 | h1
  · exact h1
  · simp [World.cell?, Array.getElem?_eq_none h1] at h
/-- A cell, and whether it may be written, is as it was when something else was laid. -/
theorem alloc_cell {w : World} {a : Addr} {v : Value} (h : w.cell? a = some v) (o : Obj) : (w.alloc o).cell? a = some v := by
  rw [World.cell?_of_block (w := w) (Below.heap_alloc w o a.block (cell_lt h))]; exact h
theorem alloc_frozen {w : World} {a : Addr} {v : Value} (h : w.cell? a = some v) {b : Bool} (hf : w.frozen? a = b) (o : Obj) : (w.alloc o).frozen? a = b := by
  rw [World.frozen?_of_block (w := w) (Below.heap_alloc w o a.block (cell_lt h))]; exact hf
theorem frozen_of {w : World} {g i : Nat} {cs : Array Value} {t : TypeId} (h : w.heap[g]? = some (.cells cs t (0, 0))) : w.frozen? ⟨g, i, none⟩ = false := by
  unfold World.frozen?; rw [h]; simp
theorem under88 : Try.prog.underlying 88 = some (.slice 55) := by kernel_rfl
theorem info55 : (Try.prog.info? 55).map (fun i => (i.zero, i.size, i.bytes)) = some (some (.int .i64 0), 1, 8) := by kernel_rfl
theorem mk_refs (n : Nat) (hn : n ≤ 1073741824) (w : World) : Sem.run Try.prog (Instr.makeSlice 88 (.int .i64 (n : Int)) (.int .i64 (n : Int))) w = .ok (.slice (some ⟨w.heap.size, 0, none⟩) n n) (w.alloc (.cells (madeCells #[.int .i64 0] n) 55)) :=
  run_make_row' (P := Try.prog) 88 55 (.int .i64 0) 8 under88 info55 rfl .i64 .i64 n (by omega) (by omega) w
theorem upd_new {tM tE : TypeId} (hu : Try.prog.underlying tM = some (.map 3 tE)) {W : World} {m : Nat} {es : Array MapEntry} {clock : Nat} (hb : W.heap[m]? = some (.map es clock)) (hk : ∀ x ∈ es.toList, MapKept.IsKey (.int .i64) x.key) {i : Int} (hi : ∀ e ∈ es.toList, e.key ≠ .int .i64 i) (v : Value) :
    (Instr.mapUpdate tM (.map (some m)) (.int .i64 i) v).run Try.prog W = .ok () { W with heap := W.heap.setIfInBounds m (.map (es.push { key := .int .i64 i, val := v, born := clock }) (clock + 1)) } := by
  rcases MapKept.findNow_spec (keyInt i) es.toList 0 hk with ⟨h1, h2⟩ | ⟨j, e', h1, h2, h3⟩
  · simp [Instr.mapUpdate, run_underlying hu, MapKept.run_getObj_map hb, MapKept.run_checkKey und3 (keyInt i), MapKept.run_findKey und3 h1, MapKept.run_setObj_map _ hb, Result.andThen]
  · exact absurd h3 (hi e' (List.mem_of_getElem? h2))
/-- A page more. -/
theorem Pgs.more {k : IntKind} {tP : TypeId} {w w' : World} {r : Rv} {m : Nat} {es : Array MapEntry} {clock p g : Nat} (h : Pgs k tP w r m es clock) (hn : r.own.Nodup) (hp : ∀ e ∈ es.toList, e.key ≠ .int .i64 (p : Int)) (hg : g ∉ r.own)
    (hm : w'.heap[m]? = some (.map (es.push { key := .int .i64 (p : Int), val := .pointer (some ⟨g, 0, none⟩), born := clock }) (clock + 1))) (hpg : w'.heap[g]? = some (.cells (page k [] 0).toArray tP (0, 0))) (hold : ∀ b ∈ r.own, b ≠ m → w'.heap[b]? = w.heap[b]?) :
    Pgs k tP w' ⟨r.xs, r.sv, r.pv, r.own ++ [g]⟩ m (es.push { key := .int .i64 (p : Int), val := .pointer (some ⟨g, 0, none⟩), born := clock }) (clock + 1) ∧ (r.own ++ [g]).Nodup := by
  have hz : page k r.xs p = page k [] 0 := by
    unfold page
    refine List.map_congr_left (fun i hi => ?_)
    have hi' := List.mem_range.1 hi
    have : r.xs.getD (256 * p + i) 0 = 0 := by
      by_cases h0 : r.xs.getD (256 * p + i) 0 = 0
      · exact h0
      · obtain ⟨e, he, hk⟩ := h.all _ h0
        rw [show (256 * p + i) / 256 = p by omega] at hk
        exact absurd hk (hp e he)
    rw [this]; simp
  refine ⟨⟨h.sv, h.pv, h.far, ?_, hm, MapKept.stamped_push h.st hp, fun e he => ?_, fun i hi => ?_⟩, ?_⟩
  · show r.own ++ [g] = _
    rw [h.own]; simp [pblk]
  · simp only [Array.toList_push, List.mem_append, List.mem_singleton] at he
    rcases he with he | rfl
    · obtain ⟨q, g', h1, h2, h3⟩ := h.pg e he
      refine ⟨q, g', h1, h2, ?_⟩
      have hgo : g' ∈ es.toList.map fun e => pblk e.val := List.mem_map.2 ⟨e, he, by rw [h2]; rfl⟩
      have hn2 := hn
      rw [h.own, List.nodup_cons] at hn2
      rw [hold g' (by rw [h.own]; exact List.mem_cons_of_mem _ hgo) (fun e2 => hn2.1 (e2 ▸ hgo))]
      exact h3
    · exact ⟨p, g, rfl, rfl, by rw [hpg]; show _ = some (Obj.cells (page k r.xs p).toArray tP (0, 0)); rw [hz]⟩
  · obtain ⟨e, he, hk⟩ := h.all i hi
    exact ⟨e, by simp [he], hk⟩
  · rw [List.nodup_append]
    exact ⟨hn, by simp, fun a ha b hb e => by rw [List.mem_singleton] at hb; rw [hb] at e; exact hg (e ▸ ha)⟩
/-- A row that has its page, of which nothing is told but that it is new or was there. -/
structure FarOk (k : IntKind) (tP : TypeId) (w w' : World) (r : Rv) (b o : Nat) (cur : Array Value) (ty : TypeId) (i g : Nat) (r' : Rv) (m : Nat) (es : Array MapEntry) (clock : Nat) (e : MapEntry) : Prop where
  xs : r'.xs = r.xs
  pgs : Pgs k tP w' r' m es clock
  nd : r'.own.Nodup
  mem : e ∈ es.toList
  key : e.key = .int .i64 ((i / 256 : Nat) : Int)
  val : e.val = .pointer (some ⟨g, 0, none⟩)
  blk : w'.heap[b]? = some (.cells (cur.setIfInBounds (o + 2) r'.pv) ty (0, 0))
  fr : Fr (b :: r.own) w w'
  new : ∀ c ∈ r'.own, c ∈ r.own ∨ w.heap.size ≤ c
theorem set_id {cur : Array Value} {i : Nat} {v : Value} (h : cur[i]? = some v) : cur.setIfInBounds i v = cur := by
  apply Array.ext_getElem?
  intro j
  rw [Array.getElem?_setIfInBounds]
  by_cases hij : i = j
  · subst hij
    have := (Array.getElem?_eq_some_iff.1 h).1
    rw [if_pos rfl, if_pos this, h]
  · rw [if_neg hij]
/-- What set leaves. -/
structure SetOk (k : IntKind) (tS tP : TypeId) (w w' : World) (r : Rv) (b o : Nat) (cur : Array Value) (ty : TypeId) (i : Nat) (x : Int) (r' : Rv) : Prop where
  xs : r'.xs = r.xs.set i x
  row : RowIs k tS tP w' r'
  blk : w'.heap[b]? = some (.cells ((cur.setIfInBounds (o + 1) r'.sv).setIfInBounds (o + 2) r'.pv) ty (0, 0))
  fr : Fr (b :: r.own) w w'
  new : ∀ c ∈ r'.own, c ∈ r.own ∨ w.heap.size ≤ c
theorem mkmap92 (w : World) : Sem.run Try.prog (Instr.makeMap 92 none) w = .ok (.map (some w.heap.size)) (w.alloc (.map #[] 0)) := by
  kernel_rfl
theorem eqmap92 (w : World) (m : Nat) : Sem.run Try.prog (binOp .eql 92 (.map (some m)) (.map none)) w = .ok (.bool false) w := by kernel_rfl
theorem eqnil92 (w : World) : Sem.run Try.prog (binOp .eql 92 (.map none) (.map none)) w = .ok (.bool true) w := by kernel_rfl
theorem zpage120 : Try.zeroCells120 = (page .u64 [] 0).toArray := by kernel_rfl
set_option maxRecDepth 100000 in
set_option maxHeartbeats 2000000 in
theorem page62_has (k p g : Nat) (hd : (k : Int) / 256 = (p : Int)) (w : World) {b o m : Nat} (hk : k ≤ 1073741824) (h2 : w.cell? ⟨b, o + 2, none⟩ = some (.map (some m)))
    (hlk : Sem.run Try.prog (Instr.lookup 92 (.map (some m)) (.int .i64 (p : Int)) false) w = .ok (.pointer (some ⟨g, 0, none⟩)) w) :
    Calls Try.prog 62 #[.pointer (some ⟨b, o, none⟩), .int .i64 (k : Int)] w fun e w' => e = .returned (.pointer (some ⟨g, 0, none⟩)) ∧ w' = w := by
  have hki : (k : Int) ≤ 1073741824 := by omega
  go_enter Try.func62, Try.ntmps62
  go_wp2
  go_ret
  exact ⟨rfl, rfl⟩
set_option maxRecDepth 100000 in
set_option maxHeartbeats 2000000 in
theorem page62_lack (k p : Nat) (hd : (k : Int) / 256 = (p : Int)) (w W2 : World) {b o m : Nat} (hk : k ≤ 1073741824) (h2 : w.cell? ⟨b, o + 2, none⟩ = some (.map (some m)))
    (hlk : Sem.run Try.prog (Instr.lookup 92 (.map (some m)) (.int .i64 (p : Int)) false) w = .ok (.pointer none) w)
    (hup : Sem.run Try.prog (Instr.mapUpdate 92 (.map (some m)) (.int .i64 (p : Int)) (.pointer (some ⟨w.heap.size, 0, none⟩))) (w.alloc (.cells Try.zeroCells120 120)) = .ok () W2) :
    Calls Try.prog 62 #[.pointer (some ⟨b, o, none⟩), .int .i64 (k : Int)] w fun e w' => e = .returned (.pointer (some ⟨w.heap.size, 0, none⟩)) ∧ w' = W2 := by
  have hki : (k : Int) ≤ 1073741824 := by omega
  have q1 := eqmap92
  have hbs : b < w.heap.size := cell_lt h2
  have q2 := alloc_cell h2 (.cells Try.zeroCells120 120)
  have q3 : ¬ b = w.heap.size := by omega
  clear hbs
  go_enter Try.func62, Try.ntmps62
  go_wp2
  go_ret
  exact ⟨rfl, rfl⟩
set_option maxRecDepth 100000 in
set_option maxHeartbeats 2000000 in
theorem page62_new (k p : Nat) (hd : (k : Int) / 256 = (p : Int)) (w W2 : World) {b o : Nat} (hk : k ≤ 1073741824) (h2 : w.cell? ⟨b, o + 2, none⟩ = some (.map none)) (hf : w.frozen? ⟨b, o + 2, none⟩ = false)
    (hup : Sem.run Try.prog (Instr.mapUpdate 92 (.map (some w.heap.size)) (.int .i64 (p : Int)) (.pointer (some ⟨w.heap.size + 1, 0, none⟩))) (((w.alloc (.map #[] 0)).setCell ⟨b, o + 2, none⟩ (.map (some w.heap.size))).alloc (.cells Try.zeroCells120 120)) = .ok () W2) :
    Calls Try.prog 62 #[.pointer (some ⟨b, o, none⟩), .int .i64 (k : Int)] w fun e w' => e = .returned (.pointer (some ⟨w.heap.size + 1, 0, none⟩)) ∧ w' = W2 := by
  have hki : (k : Int) ≤ 1073741824 := by omega
  have q1 := eqnil92
  have q4 := mkmap92
  have hlk := look92
  have hbs : b < w.heap.size := cell_lt h2
  have q3 : ¬ b = w.heap.size := by omega
  have q5 : ¬ b = w.heap.size + 1 := by omega
  have q6 := alloc_cell h2 (.map #[] 0)
  have q7 := alloc_frozen h2 hf (.map #[] 0)
  have q9 : ((w.alloc (.map #[] 0)).setCell ⟨b, o + 2, none⟩ (.map (some w.heap.size))).cell? ⟨b, o + 2, none⟩ = some (.map (some w.heap.size)) := World.cell?_setCell_same' _ _ _ (by rw [q6]; rfl)
  have q8 := alloc_cell q9 (.cells Try.zeroCells120 120)
  clear hbs
  go_enter Try.func62, Try.ntmps62
  go_wp2
  go_ret
  exact ⟨rfl, rfl⟩
/-- pageOf, whatever is there. -/
theorem page62_any (i : Nat) (w : World) {b o : Nat} {cur : Array Value} {ty : TypeId} (r : Rv) (hr : RowIs .u64 30 120 w r) (hl : 4096 < r.xs.length) (hi : i < r.xs.length) (hl2 : r.xs.length ≤ 1073741824) (hb : w.heap[b]? = some (.cells cur ty (0, 0))) (hbn : b ∉ r.own) (h2 : cur[o + 2]? = some r.pv) :
    Calls Try.prog 62 #[.pointer (some ⟨b, o, none⟩), .int .i64 (i : Int)] w fun e w' => ∃ g r' m es clock en, e = .returned (.pointer (some ⟨g, 0, none⟩)) ∧ r'.sv = r.sv ∧ FarOk .u64 120 w w' r b o cur ty i g r' m es clock en := by
  have hbl : b < w.heap.size := (Array.getElem?_eq_some_iff.1 hb).1
  have c2 : w.cell? ⟨b, o + 2, none⟩ = some r.pv := by rw [cell_of_row w b (o + 2) _ ty (0, 0) hb]; exact h2
  rcases hr.2 with h | ⟨g, h⟩ | ⟨m, es, c, h⟩
  · -- nothing yet
    have hb1 : (w.alloc (.map #[] 0)).heap[b]? = some (.cells cur ty (0, 0)) := by rw [Below.heap_alloc w _ b hbl]; exact hb
    have hb2 := heap_setCell_same (w.alloc (.map #[] 0)) b (o + 2) cur ty (.map (some w.heap.size)) hb1
    have s1 : ((w.alloc (.map #[] 0)).setCell ⟨b, o + 2, none⟩ (.map (some w.heap.size))).heap.size = w.heap.size + 1 := by simp
    generalize hW1 : (w.alloc (.map #[] 0)).setCell ⟨b, o + 2, none⟩ (.map (some w.heap.size)) = W1 at hb2 s1
    have hW1m : W1.heap[w.heap.size]? = some (.map #[] 0) := by
      rw [← hW1, heap_setB (by omega)]; exact heap_alloc_new w _
    have hW1o : ∀ c, c < w.heap.size → c ≠ b → W1.heap[c]? = w.heap[c]? := fun c hc hcb => by
      rw [← hW1, heap_setB hcb]; exact Below.heap_alloc w _ c hc
    have hm2 : (W1.alloc (.cells Try.zeroCells120 120)).heap[w.heap.size]? = some (.map #[] 0) := by rw [Below.heap_alloc W1 _ _ (by omega)]; exact hW1m
    have hup := upd_new und92 hm2 (by simp) (i := ((i / 256 : Nat) : Int)) (by simp) (.pointer (some ⟨w.heap.size + 1, 0, none⟩))
    rw [← hW1] at hup
    refine (page62_new i (i / 256) (div_p i) w _ (by omega) (by rw [c2, h.pv]) (frozen_of hb) hup).mono ?_
    rintro e w' ⟨rfl, hw'⟩
    rw [hW1] at hw'
    have hs := MapKept.heap_set (o' := .map ((#[] : Array MapEntry).push { key := .int .i64 ((i / 256 : Nat) : Int), val := .pointer (some ⟨w.heap.size + 1, 0, none⟩), born := 0 }) (0 + 1)) hm2
    have hp0 : Pgs .u64 120 W1 ⟨r.xs, r.sv, .map (some w.heap.size), [w.heap.size]⟩ w.heap.size #[] 0 :=
      ⟨h.sv, rfl, hl, by simp, hW1m, MapKept.stamped_empty 0, by simp, fun j hj => absurd (h.z j) hj⟩
    have hg' : w'.heap[w.heap.size + 1]? = some (.cells (page .u64 [] 0).toArray 120 (0, 0)) := by
      rw [hw']
      show (((W1.alloc (.cells Try.zeroCells120 120)).heap.setIfInBounds w.heap.size _)[w.heap.size + 1]? = _)
      rw [hs.2 _ (by omega), ← s1, ← zpage120]; exact heap_alloc_new W1 _
    have hold : ∀ c, c < w.heap.size → c ≠ b → w'.heap[c]? = w.heap[c]? := fun c hc hcb => by
      rw [hw']
      show (((W1.alloc (.cells Try.zeroCells120 120)).heap.setIfInBounds w.heap.size _)[c]? = _)
      rw [hs.2 _ (by omega), Below.heap_alloc W1 _ c (by omega)]; exact hW1o c hc hcb
    obtain ⟨hp1, hn1⟩ := hp0.more (by simp) (by simp) (by simp) (by rw [hw']; exact hs.1) hg' (fun c hc hcm => absurd (List.mem_singleton.1 hc) hcm)
    refine ⟨w.heap.size + 1, ⟨r.xs, r.sv, .map (some w.heap.size), [w.heap.size] ++ [w.heap.size + 1]⟩, w.heap.size, _, _, { key := .int .i64 ((i / 256 : Nat) : Int), val := .pointer (some ⟨w.heap.size + 1, 0, none⟩), born := 0 }, rfl, rfl, ⟨rfl, hp1, hn1, by simp, rfl, rfl, ?_, ⟨?_, ?_, ?_, ?_, fun c hc hcn => ?_⟩, fun c hc => ?_⟩⟩
    · rw [hw']
      show (((W1.alloc (.cells Try.zeroCells120 120)).heap.setIfInBounds w.heap.size _)[b]? = _)
      rw [hs.2 _ (by omega), Below.heap_alloc W1 _ b (by omega)]; exact hb2
    · rw [hw', ← hW1]; rfl
    · rw [hw', ← hW1]; rfl
    · rw [hw', ← hW1]; rfl
    · rw [hw']
      show w.heap.size ≤ ((W1.alloc (.cells Try.zeroCells120 120)).heap.setIfInBounds w.heap.size _).size
      simp; omega
    · exact hold c hc (fun e => hcn (by rw [e]; exact List.mem_cons_self ..))
    · right
      simp at hc; omega
  · exact absurd h.near (by omega)
  · by_cases he : ∃ e ∈ es.toList, e.key = .int .i64 ((i / 256 : Nat) : Int)
    · obtain ⟨e, he, hke⟩ := he
      obtain ⟨p, g, e1, e2, e3⟩ := h.pg e he
      refine (page62_has i (i / 256) g (div_p i) w (by omega) (by rw [c2, h.pv]) (by rw [← e2]; exact look_some und92 h.blk h.keys h.st he hke)).mono ?_
      rintro _ w' ⟨rfl, rfl⟩
      exact ⟨g, r, m, es, c, e, rfl, rfl, rfl, h, hr.1, he, hke, e2, by rw [hb, set_id h2], Fr.refl _ _, fun c hc => .inl hc⟩
    · have hno : ∀ e ∈ es.toList, e.key ≠ .int .i64 ((i / 256 : Nat) : Int) := fun e he2 e2 => he ⟨e, he2, e2⟩
      have hml : m < w.heap.size := (Array.getElem?_eq_some_iff.1 h.blk).1
      have hm2 : (w.alloc (.cells Try.zeroCells120 120)).heap[m]? = some (.map es c) := by rw [Below.heap_alloc w _ m hml]; exact h.blk
      have hup := upd_new und92 hm2 h.keys hno (.pointer (some ⟨w.heap.size, 0, none⟩))
      refine (page62_lack i (i / 256) (div_p i) w _ (by omega) (by rw [c2, h.pv]) (look_none und92 (zero113 w) h.blk h.keys hno) hup).mono ?_
      rintro e w' ⟨rfl, hw'⟩
      have hs := MapKept.heap_set (o' := .map (es.push { key := .int .i64 ((i / 256 : Nat) : Int), val := .pointer (some ⟨w.heap.size, 0, none⟩), born := c }) (c + 1)) hm2
      have hmo : m ∈ r.own := by rw [h.own]; exact List.mem_cons_self ..
      have hlt := hr.lt
      have hold : ∀ a, a < w.heap.size → a ≠ m → w'.heap[a]? = w.heap[a]? := fun a ha ham => by
        rw [hw']
        show (((w.alloc (.cells Try.zeroCells120 120)).heap.setIfInBounds m _)[a]? = _)
        rw [hs.2 _ ham]; exact Below.heap_alloc w _ a ha
      have hg' : w'.heap[w.heap.size]? = some (.cells (page .u64 [] 0).toArray 120 (0, 0)) := by
        rw [hw']
        show (((w.alloc (.cells Try.zeroCells120 120)).heap.setIfInBounds m _)[w.heap.size]? = _)
        rw [hs.2 _ (by omega), ← zpage120]; exact heap_alloc_new w _
      obtain ⟨hp1, hn1⟩ := h.more hr.1 hno (fun e => by have := hlt _ e; omega) (by rw [hw']; exact hs.1) hg' (fun a ha ham => hold a (hlt a ha) ham)
      refine ⟨w.heap.size, ⟨r.xs, r.sv, r.pv, r.own ++ [w.heap.size]⟩, m, _, _, { key := .int .i64 ((i / 256 : Nat) : Int), val := .pointer (some ⟨w.heap.size, 0, none⟩), born := c }, rfl, rfl, ⟨rfl, hp1, hn1, by simp, rfl, rfl, ?_, ⟨?_, ?_, ?_, ?_, fun a ha han => ?_⟩, fun a ha => ?_⟩⟩
      · show w'.heap[b]? = some (.cells (cur.setIfInBounds (o + 2) r.pv) ty (0, 0))
        rw [hold b hbl (fun e => hbn (e ▸ hmo)), hb, set_id h2]
      · rw [hw']; rfl
      · rw [hw']; rfl
      · rw [hw']; rfl
      · rw [hw']
        show w.heap.size ≤ ((w.alloc (.cells Try.zeroCells120 120)).heap.setIfInBounds m _).size
        simp
      · exact hold a ha (fun e => han (by rw [e]; exact List.mem_cons_of_mem _ hmo))
      · rcases List.mem_append.1 ha with ha | ha
        · exact .inl ha
        · right; rw [List.mem_singleton.1 ha]; exact Nat.le_refl _
theorem eqs69 (w : World) (a : Addr) (n c : Nat) : Sem.run Try.prog (binOp .eql 69 (.slice (some a) n c) (.slice none 0 0)) w = .ok (.bool false) w := by kernel_rfl
theorem eqn69 (w : World) : Sem.run Try.prog (binOp .eql 69 (.slice none 0 0) (.slice none 0 0)) w = .ok (.bool true) w := by kernel_rfl
set_option maxRecDepth 100000 in
set_option maxHeartbeats 2000000 in
theorem set51_side (i : Nat) (x : Int) (w : World) {b o n c g : Nat} {y : Value} (hn : n ≤ 4096) (h0 : w.cell? ⟨b, o, none⟩ = some (.int .i64 (n : Int))) (h1 : w.cell? ⟨b, o + 1, none⟩ = some (.slice (some ⟨g, 0, none⟩) n c)) (hi : i < n) (hc : w.cell? ⟨g, i, none⟩ = some y) (hf : w.frozen? ⟨g, i, none⟩ = false) :
    Calls Try.prog 51 #[.pointer (some ⟨b, o, none⟩), .int .i64 (i : Int), .int .u64 x] w fun e w' => e = .returned (.tuple #[]) ∧ w' = w.setCell ⟨g, i, none⟩ (.int .u64 x) := by
  have hki : (i : Int) < (n : Int) := by omega
  have hd : decide ((n : Int) > 4096) = false := decide_eq_false (by omega)
  have hd2 : ¬ ((4096 : Int) < (n : Int)) := by omega
  have q1 := eqs69
  go_enter Try.func51, Try.ntmps51
  go_wp2
  go_end0
  exact ⟨rfl, rfl⟩
set_option maxRecDepth 100000 in
set_option maxHeartbeats 2000000 in
theorem set51_new (i : Nat) (x : Int) (w : World) {b o n : Nat} (hn : n ≤ 4096) (h0 : w.cell? ⟨b, o, none⟩ = some (.int .i64 (n : Int))) (h1 : w.cell? ⟨b, o + 1, none⟩ = some (.slice none 0 0)) (hi : i < n) (hf : w.frozen? ⟨b, o + 1, none⟩ = false) :
    Calls Try.prog 51 #[.pointer (some ⟨b, o, none⟩), .int .i64 (i : Int), .int .u64 x] w fun e w' => e = .returned (.tuple #[]) ∧ w' = ((w.alloc (.cells (madeCells #[.int .u64 0] n) 30)).setCell ⟨b, o + 1, none⟩ (.slice (some ⟨w.heap.size, 0, none⟩) n n)).setCell ⟨w.heap.size, i, none⟩ (.int .u64 x) := by
  have hki : (i : Int) < (n : Int) := by omega
  have hd : decide ((n : Int) > 4096) = false := decide_eq_false (by omega)
  have hd2 : ¬ ((4096 : Int) < (n : Int)) := by omega
  have q1 := eqn69
  have q2 := mk_words n (by omega)
  have hbs : b < w.heap.size := cell_lt h1
  have q3 : ¬ b = w.heap.size := by omega
  have q3' : ¬ w.heap.size = b := by omega
  have q4 := alloc_cell h1 (.cells (madeCells #[.int .u64 0] n) 30)
  have q5 := alloc_frozen h1 hf (.cells (madeCells #[.int .u64 0] n) 30)
  have q6 : ((w.alloc (.cells (madeCells #[.int .u64 0] n) 30)).setCell ⟨b, o + 1, none⟩ (.slice (some ⟨w.heap.size, 0, none⟩) n n)).cell? ⟨b, o + 1, none⟩ = some (.slice (some ⟨w.heap.size, 0, none⟩) n n) := World.cell?_setCell_same' _ _ _ (by rw [q4]; rfl)
  have hM : ((w.alloc (.cells (madeCells #[.int .u64 0] n) 30)).setCell ⟨b, o + 1, none⟩ (.slice (some ⟨w.heap.size, 0, none⟩) n n)).heap[w.heap.size]? = some (.cells (madeCells #[.int .u64 0] n) 30 (0, 0)) := by rw [heap_setB q3']; exact heap_alloc_new w _
  have q7 : ((w.alloc (.cells (madeCells #[.int .u64 0] n) 30)).setCell ⟨b, o + 1, none⟩ (.slice (some ⟨w.heap.size, 0, none⟩) n n)).cell? ⟨w.heap.size, i, none⟩ = some (.int .u64 0) := by
    rw [cell_of_row _ _ i _ 30 (0, 0) hM, ← Array.getElem?_toList, toList_madeCells_one]; simp [hi]
  have q8 : ((w.alloc (.cells (madeCells #[.int .u64 0] n) 30)).setCell ⟨b, o + 1, none⟩ (.slice (some ⟨w.heap.size, 0, none⟩) n n)).frozen? ⟨w.heap.size, i, none⟩ = false := frozen_of hM
  clear hbs hM
  go_enter Try.func51, Try.ntmps51
  go_wp2
  go_end0
  exact ⟨rfl, rfl⟩
set_option maxRecDepth 100000 in
set_option maxHeartbeats 2000000 in
theorem set51_far (i p q : Nat) (hd : (i : Int) / 256 = (p : Int)) (hm : (i : Int) % 256 = (q : Int)) (hq : (q : Int) < 256) (hi : i ≤ 1073741824) (x : Int) (w : World) {b o n : Nat} {R : Nat → World → Prop} (hn : 4096 < n) (h0 : w.cell? ⟨b, o, none⟩ = some (.int .i64 (n : Int)))
    (hp : Calls Try.prog 62 #[.pointer (some ⟨b, o, none⟩), .int .i64 (i : Int)] w fun e w' => ∃ g, e = .returned (.pointer (some ⟨g, 0, none⟩)) ∧ R g w') (hR : ∀ g w', R g w' → (∃ y, w'.cell? ⟨g, q, none⟩ = some y) ∧ w'.frozen? ⟨g, q, none⟩ = false) :
    Calls Try.prog 51 #[.pointer (some ⟨b, o, none⟩), .int .i64 (i : Int), .int .u64 x] w fun e w' => e = .returned (.tuple #[]) ∧ ∃ g w1, R g w1 ∧ w' = w1.setCell ⟨g, q, none⟩ (.int .u64 x) := by
  have hki : (i : Int) ≤ 1073741824 := by omega
  have hd1 : decide ((n : Int) > 4096) = true := decide_eq_true (by omega)
  have hd2 : ((4096 : Int) < (n : Int)) := by omega
  have HP := hide hp
  have HR := hide hR
  clear hp hR
  go_enter Try.func51, Try.ntmps51
  go_wp2_with fail
  refine (unhide HP).mono ?_
  rintro e w1 ⟨g, rfl, hr⟩
  obtain ⟨⟨y, hy⟩, hf⟩ := unhide HR g w1 hr
  have H2 := hide hr
  clear hr HR HP
  go_wp2
  refine bodyPost_ret (results_none rfl _ _ _) rfl ?_
  exact ⟨rfl, g, w1, unhide H2, rfl⟩
/-- set, whatever the row is. -/
theorem set51_any (i : Nat) (x : Int) (w : World) {b o : Nat} {cur : Array Value} {ty : TypeId} (r : Rv) (hr : RowIs .u64 30 120 w r) (hi : i < r.xs.length) (hl : r.xs.length ≤ 1073741824) (hb : w.heap[b]? = some (.cells cur ty (0, 0))) (hbn : b ∉ r.own) (h0 : cur[o]? = some (.int .i64 (r.xs.length : Int))) (h1 : cur[o + 1]? = some r.sv) (h2 : cur[o + 2]? = some r.pv) :
    Calls Try.prog 51 #[.pointer (some ⟨b, o, none⟩), .int .i64 (i : Int), .int .u64 x] w fun e w' => e = .returned (.tuple #[]) ∧ ∃ r', SetOk .u64 30 120 w w' r b o cur ty i x r' := by
  have hbl : b < w.heap.size := (Array.getElem?_eq_some_iff.1 hb).1
  have c0 : w.cell? ⟨b, o, none⟩ = some (.int .i64 (r.xs.length : Int)) := by rw [cell_of_row w b o _ ty (0, 0) hb]; exact h0
  have c1 : w.cell? ⟨b, o + 1, none⟩ = some r.sv := by rw [cell_of_row w b (o + 1) _ ty (0, 0) hb]; exact h1
  by_cases hfar : 4096 < r.xs.length
  · have hp := page62_any i w r hr hfar hi hl hb hbn h2
    refine (set51_far i (i / 256) (i % 256) (div_p i) (mod_q i) (by omega) (by omega) x w (n := r.xs.length) (R := fun g w' => ∃ r' m es clock en, r'.sv = r.sv ∧ FarOk .u64 120 w w' r b o cur ty i g r' m es clock en) hfar c0 (hp.mono ?_) ?_).mono ?_
    · rintro e w' ⟨g, r', m, es, clock, en, rfl, hh⟩
      exact ⟨g, rfl, r', m, es, clock, en, hh⟩
    · rintro g w' ⟨r', m, es, clock, en, hsv, hF⟩
      obtain ⟨p, g', e1, e2, e3⟩ := hF.pgs.pg en hF.mem
      rw [hF.val] at e2
      injection e2 with e2; injection e2 with e2; injection e2 with e2
      subst e2
      refine ⟨⟨.int .u64 (r'.xs.getD (256 * p + i % 256) 0), ?_⟩, frozen_of e3⟩
      · rw [cell_of_row w' g (i % 256) _ 120 (0, 0) e3, List.getElem?_toArray]
        exact page_get _ _ _ _ (by omega)
    · rintro e w' ⟨rfl, g, w1, ⟨r', m, es, clock, en, hsv, hF⟩, rfl⟩
      have hgo : g ∈ r'.own := by
        rw [hF.pgs.own]
        exact List.mem_cons_of_mem _ (List.mem_map.2 ⟨en, hF.mem, by rw [hF.val]; rfl⟩)
      have hgb : b ≠ g := fun e => by
        rcases hF.new g hgo with h | h
        · exact hbn (e ▸ h)
        · omega
      refine ⟨rfl, r'.put i x, by show r'.xs.set i x = _; rw [hF.xs], ⟨hF.nd, .inr (.inr ⟨m, es, clock, hF.pgs.put hF.nd (by rw [hF.xs]; exact hi) x hF.mem hF.key hF.val⟩)⟩, ?_, ?_, hF.new⟩
      · rw [heap_setB hgb, hF.blk]
        show _ = some (Obj.cells ((cur.setIfInBounds (o + 1) r'.sv).setIfInBounds (o + 2) r'.pv) ty (0, 0))
        rw [hsv, set_id h1]
      · refine ⟨hF.fr.os, hF.fr.tape, hF.fr.output, by have := hF.fr.size; simpa using this, fun c hc hcn => ?_⟩
        have hcg : c ≠ g := fun e => by
          rcases hF.new g hgo with h | h
          · exact hcn (by rw [e]; exact List.mem_cons_of_mem _ h)
          · omega
        rw [heap_setB hcg]; exact hF.fr.block c hc hcn
  · rcases hr.2 with h | ⟨g, h⟩ | ⟨m, es, c, h⟩
    · refine (set51_new i x w (n := r.xs.length) (by omega) c0 (by rw [c1, h.sv]) hi (frozen_of hb)).mono ?_
      rintro e w' ⟨rfl, rfl⟩
      have hne : w.heap.size ≠ b := by omega
      have hne' : b ≠ w.heap.size := by omega
      have hb1 : (w.alloc (.cells (madeCells #[.int .u64 0] r.xs.length) 30)).heap[b]? = some (.cells cur ty (0, 0)) := by rw [Below.heap_alloc w _ b hbl]; exact hb
      have hM : ((w.alloc (.cells (madeCells #[.int .u64 0] r.xs.length) 30)).setCell ⟨b, o + 1, none⟩ (.slice (some ⟨w.heap.size, 0, none⟩) r.xs.length r.xs.length)).heap[w.heap.size]? = some (.cells (r.xs.map (Value.int .u64)).toArray 30 (0, 0)) := by
        rw [heap_setB hne, heap_alloc_new]
        congr 2
        apply Array.toList_inj.1
        rw [toList_madeCells_one]
        apply List.ext_getElem?
        intro j
        rw [List.getElem?_replicate]
        show _ = (r.xs.map (Value.int .u64))[j]?
        rw [List.getElem?_map]
        by_cases hj : j < r.xs.length
        · have := h.z j
          rw [List.getD_eq_getElem?_getD, List.getElem?_eq_getElem hj] at this
          have this : r.xs[j] = 0 := this
          rw [if_pos hj, List.getElem?_eq_getElem hj, this]; rfl
        · rw [if_neg hj, List.getElem?_eq_none_iff.2 (by omega)]; rfl
      have hS : Sid .u64 30 ((w.alloc (.cells (madeCells #[.int .u64 0] r.xs.length) 30)).setCell ⟨b, o + 1, none⟩ (.slice (some ⟨w.heap.size, 0, none⟩) r.xs.length r.xs.length)) ⟨r.xs, .slice (some ⟨w.heap.size, 0, none⟩) r.xs.length r.xs.length, .map none, [w.heap.size]⟩ w.heap.size := ⟨rfl, rfl, by show r.xs.length ≤ _; omega, rfl, hM⟩
      refine ⟨rfl, ⟨r.xs.set i x, .slice (some ⟨w.heap.size, 0, none⟩) r.xs.length r.xs.length, .map none, [w.heap.size]⟩, rfl, ⟨by simp, .inr (.inl ⟨w.heap.size, hS.put (tP := 120) hi x⟩)⟩, ?_, ?_, fun c hc => .inr (by rw [List.mem_singleton.1 hc]; exact Nat.le_refl _)⟩
      · rw [heap_setB hne', heap_setCell_same _ b (o + 1) cur ty _ hb1]
        show _ = some (Obj.cells ((cur.setIfInBounds (o + 1) (.slice (some ⟨w.heap.size, 0, none⟩) r.xs.length r.xs.length)).setIfInBounds (o + 2) (.map none)) ty (0, 0))
        rw [set_id (i := o + 2)]
        rw [Array.getElem?_setIfInBounds, if_neg (by omega), h2, h.pv]
      · refine ⟨rfl, rfl, rfl, by simp, fun c hc hcn => ?_⟩
        rw [heap_setB (by omega), heap_setB (fun e => hcn (by rw [e]; exact List.mem_cons_self ..))]
        exact Below.heap_alloc w _ c hc
    · have hgo : g ∈ r.own := by rw [h.own]; simp
      refine (set51_side i x w (n := r.xs.length) (c := r.xs.length) (g := g) (y := .int .u64 (r.xs.getD i 0)) (by omega) c0 (by rw [c1, h.sv]) hi ?_ (frozen_of h.blk)).mono ?_
      · rw [cell_of_row w g i _ 30 (0, 0) h.blk]
        simp [List.getD_eq_getElem?_getD, hi]
      · rintro e w' ⟨rfl, rfl⟩
        refine ⟨rfl, r.put i x, rfl, ⟨hr.1, .inr (.inl ⟨g, h.put (tP := 120) hi x⟩)⟩, ?_, (Fr.refl _ _).set (List.mem_cons_of_mem _ hgo) _, fun c hc => .inl hc⟩
        have hbg : b ≠ g := fun e => hbn (by rw [e]; exact hgo)
        rw [heap_setB hbg, hb]
        show _ = some (Obj.cells ((cur.setIfInBounds (o + 1) r.sv).setIfInBounds (o + 2) r.pv) ty (0, 0))
        rw [set_id h1, set_id h2]
    · exact absurd h.far hfar
theorem mkmap89 (w : World) : Sem.run Try.prog (Instr.makeMap 89 none) w = .ok (.map (some w.heap.size)) (w.alloc (.map #[] 0)) := by
  kernel_rfl
theorem eqmap89 (w : World) (m : Nat) : Sem.run Try.prog (binOp .eql 89 (.map (some m)) (.map none)) w = .ok (.bool false) w := by kernel_rfl
theorem eqnil89 (w : World) : Sem.run Try.prog (binOp .eql 89 (.map none) (.map none)) w = .ok (.bool true) w := by kernel_rfl
theorem zpage121 : Try.zeroCells121 = (page .i64 [] 0).toArray := by kernel_rfl
set_option maxRecDepth 100000 in
set_option maxHeartbeats 2000000 in
theorem page63_has (k p g : Nat) (hd : (k : Int) / 256 = (p : Int)) (w : World) {b o m : Nat} (hk : k ≤ 1073741824) (h2 : w.cell? ⟨b, o + 2, none⟩ = some (.map (some m)))
    (hlk : Sem.run Try.prog (Instr.lookup 89 (.map (some m)) (.int .i64 (p : Int)) false) w = .ok (.pointer (some ⟨g, 0, none⟩)) w) :
    Calls Try.prog 63 #[.pointer (some ⟨b, o, none⟩), .int .i64 (k : Int)] w fun e w' => e = .returned (.pointer (some ⟨g, 0, none⟩)) ∧ w' = w := by
  have hki : (k : Int) ≤ 1073741824 := by omega
  go_enter Try.func63, Try.ntmps63
  go_wp2
  go_ret
  exact ⟨rfl, rfl⟩
set_option maxRecDepth 100000 in
set_option maxHeartbeats 2000000 in
theorem page63_lack (k p : Nat) (hd : (k : Int) / 256 = (p : Int)) (w W2 : World) {b o m : Nat} (hk : k ≤ 1073741824) (h2 : w.cell? ⟨b, o + 2, none⟩ = some (.map (some m)))
    (hlk : Sem.run Try.prog (Instr.lookup 89 (.map (some m)) (.int .i64 (p : Int)) false) w = .ok (.pointer none) w)
    (hup : Sem.run Try.prog (Instr.mapUpdate 89 (.map (some m)) (.int .i64 (p : Int)) (.pointer (some ⟨w.heap.size, 0, none⟩))) (w.alloc (.cells Try.zeroCells121 121)) = .ok () W2) :
    Calls Try.prog 63 #[.pointer (some ⟨b, o, none⟩), .int .i64 (k : Int)] w fun e w' => e = .returned (.pointer (some ⟨w.heap.size, 0, none⟩)) ∧ w' = W2 := by
  have hki : (k : Int) ≤ 1073741824 := by omega
  have q1 := eqmap89
  have hbs : b < w.heap.size := cell_lt h2
  have q2 := alloc_cell h2 (.cells Try.zeroCells121 121)
  have q3 : ¬ b = w.heap.size := by omega
  clear hbs
  go_enter Try.func63, Try.ntmps63
  go_wp2
  go_ret
  exact ⟨rfl, rfl⟩
set_option maxRecDepth 100000 in
set_option maxHeartbeats 2000000 in
theorem page63_new (k p : Nat) (hd : (k : Int) / 256 = (p : Int)) (w W2 : World) {b o : Nat} (hk : k ≤ 1073741824) (h2 : w.cell? ⟨b, o + 2, none⟩ = some (.map none)) (hf : w.frozen? ⟨b, o + 2, none⟩ = false)
    (hup : Sem.run Try.prog (Instr.mapUpdate 89 (.map (some w.heap.size)) (.int .i64 (p : Int)) (.pointer (some ⟨w.heap.size + 1, 0, none⟩))) (((w.alloc (.map #[] 0)).setCell ⟨b, o + 2, none⟩ (.map (some w.heap.size))).alloc (.cells Try.zeroCells121 121)) = .ok () W2) :
    Calls Try.prog 63 #[.pointer (some ⟨b, o, none⟩), .int .i64 (k : Int)] w fun e w' => e = .returned (.pointer (some ⟨w.heap.size + 1, 0, none⟩)) ∧ w' = W2 := by
  have hki : (k : Int) ≤ 1073741824 := by omega
  have q1 := eqnil89
  have q4 := mkmap89
  have hlk := look89
  have hbs : b < w.heap.size := cell_lt h2
  have q3 : ¬ b = w.heap.size := by omega
  have q5 : ¬ b = w.heap.size + 1 := by omega
  have q6 := alloc_cell h2 (.map #[] 0)
  have q7 := alloc_frozen h2 hf (.map #[] 0)
  have q9 : ((w.alloc (.map #[] 0)).setCell ⟨b, o + 2, none⟩ (.map (some w.heap.size))).cell? ⟨b, o + 2, none⟩ = some (.map (some w.heap.size)) := World.cell?_setCell_same' _ _ _ (by rw [q6]; rfl)
  have q8 := alloc_cell q9 (.cells Try.zeroCells121 121)
  clear hbs
  go_enter Try.func63, Try.ntmps63
  go_wp2
  go_ret
  exact ⟨rfl, rfl⟩
/-- pageOf, whatever is there. -/
theorem page63_any (i : Nat) (w : World) {b o : Nat} {cur : Array Value} {ty : TypeId} (r : Rv) (hr : RowIs .i64 55 121 w r) (hl : 4096 < r.xs.length) (hi : i < r.xs.length) (hl2 : r.xs.length ≤ 1073741824) (hb : w.heap[b]? = some (.cells cur ty (0, 0))) (hbn : b ∉ r.own) (h2 : cur[o + 2]? = some r.pv) :
    Calls Try.prog 63 #[.pointer (some ⟨b, o, none⟩), .int .i64 (i : Int)] w fun e w' => ∃ g r' m es clock en, e = .returned (.pointer (some ⟨g, 0, none⟩)) ∧ r'.sv = r.sv ∧ FarOk .i64 121 w w' r b o cur ty i g r' m es clock en := by
  have hbl : b < w.heap.size := (Array.getElem?_eq_some_iff.1 hb).1
  have c2 : w.cell? ⟨b, o + 2, none⟩ = some r.pv := by rw [cell_of_row w b (o + 2) _ ty (0, 0) hb]; exact h2
  rcases hr.2 with h | ⟨g, h⟩ | ⟨m, es, c, h⟩
  · -- nothing yet
    have hb1 : (w.alloc (.map #[] 0)).heap[b]? = some (.cells cur ty (0, 0)) := by rw [Below.heap_alloc w _ b hbl]; exact hb
    have hb2 := heap_setCell_same (w.alloc (.map #[] 0)) b (o + 2) cur ty (.map (some w.heap.size)) hb1
    have s1 : ((w.alloc (.map #[] 0)).setCell ⟨b, o + 2, none⟩ (.map (some w.heap.size))).heap.size = w.heap.size + 1 := by simp
    generalize hW1 : (w.alloc (.map #[] 0)).setCell ⟨b, o + 2, none⟩ (.map (some w.heap.size)) = W1 at hb2 s1
    have hW1m : W1.heap[w.heap.size]? = some (.map #[] 0) := by
      rw [← hW1, heap_setB (by omega)]; exact heap_alloc_new w _
    have hW1o : ∀ c, c < w.heap.size → c ≠ b → W1.heap[c]? = w.heap[c]? := fun c hc hcb => by
      rw [← hW1, heap_setB hcb]; exact Below.heap_alloc w _ c hc
    have hm2 : (W1.alloc (.cells Try.zeroCells121 121)).heap[w.heap.size]? = some (.map #[] 0) := by rw [Below.heap_alloc W1 _ _ (by omega)]; exact hW1m
    have hup := upd_new und89 hm2 (by simp) (i := ((i / 256 : Nat) : Int)) (by simp) (.pointer (some ⟨w.heap.size + 1, 0, none⟩))
    rw [← hW1] at hup
    refine (page63_new i (i / 256) (div_p i) w _ (by omega) (by rw [c2, h.pv]) (frozen_of hb) hup).mono ?_
    rintro e w' ⟨rfl, hw'⟩
    rw [hW1] at hw'
    have hs := MapKept.heap_set (o' := .map ((#[] : Array MapEntry).push { key := .int .i64 ((i / 256 : Nat) : Int), val := .pointer (some ⟨w.heap.size + 1, 0, none⟩), born := 0 }) (0 + 1)) hm2
    have hp0 : Pgs .i64 121 W1 ⟨r.xs, r.sv, .map (some w.heap.size), [w.heap.size]⟩ w.heap.size #[] 0 :=
      ⟨h.sv, rfl, hl, by simp, hW1m, MapKept.stamped_empty 0, by simp, fun j hj => absurd (h.z j) hj⟩
    have hg' : w'.heap[w.heap.size + 1]? = some (.cells (page .i64 [] 0).toArray 121 (0, 0)) := by
      rw [hw']
      show (((W1.alloc (.cells Try.zeroCells121 121)).heap.setIfInBounds w.heap.size _)[w.heap.size + 1]? = _)
      rw [hs.2 _ (by omega), ← s1, ← zpage121]; exact heap_alloc_new W1 _
    have hold : ∀ c, c < w.heap.size → c ≠ b → w'.heap[c]? = w.heap[c]? := fun c hc hcb => by
      rw [hw']
      show (((W1.alloc (.cells Try.zeroCells121 121)).heap.setIfInBounds w.heap.size _)[c]? = _)
      rw [hs.2 _ (by omega), Below.heap_alloc W1 _ c (by omega)]; exact hW1o c hc hcb
    obtain ⟨hp1, hn1⟩ := hp0.more (by simp) (by simp) (by simp) (by rw [hw']; exact hs.1) hg' (fun c hc hcm => absurd (List.mem_singleton.1 hc) hcm)
    refine ⟨w.heap.size + 1, ⟨r.xs, r.sv, .map (some w.heap.size), [w.heap.size] ++ [w.heap.size + 1]⟩, w.heap.size, _, _, { key := .int .i64 ((i / 256 : Nat) : Int), val := .pointer (some ⟨w.heap.size + 1, 0, none⟩), born := 0 }, rfl, rfl, ⟨rfl, hp1, hn1, by simp, rfl, rfl, ?_, ⟨?_, ?_, ?_, ?_, fun c hc hcn => ?_⟩, fun c hc => ?_⟩⟩
    · rw [hw']
      show (((W1.alloc (.cells Try.zeroCells121 121)).heap.setIfInBounds w.heap.size _)[b]? = _)
      rw [hs.2 _ (by omega), Below.heap_alloc W1 _ b (by omega)]; exact hb2
    · rw [hw', ← hW1]; rfl
    · rw [hw', ← hW1]; rfl
    · rw [hw', ← hW1]; rfl
    · rw [hw']
      show w.heap.size ≤ ((W1.alloc (.cells Try.zeroCells121 121)).heap.setIfInBounds w.heap.size _).size
      simp; omega
    · exact hold c hc (fun e => hcn (by rw [e]; exact List.mem_cons_self ..))
    · right
      simp at hc; omega
  · exact absurd h.near (by omega)
  · by_cases he : ∃ e ∈ es.toList, e.key = .int .i64 ((i / 256 : Nat) : Int)
    · obtain ⟨e, he, hke⟩ := he
      obtain ⟨p, g, e1, e2, e3⟩ := h.pg e he
      refine (page63_has i (i / 256) g (div_p i) w (by omega) (by rw [c2, h.pv]) (by rw [← e2]; exact look_some und89 h.blk h.keys h.st he hke)).mono ?_
      rintro _ w' ⟨rfl, rfl⟩
      exact ⟨g, r, m, es, c, e, rfl, rfl, rfl, h, hr.1, he, hke, e2, by rw [hb, set_id h2], Fr.refl _ _, fun c hc => .inl hc⟩
    · have hno : ∀ e ∈ es.toList, e.key ≠ .int .i64 ((i / 256 : Nat) : Int) := fun e he2 e2 => he ⟨e, he2, e2⟩
      have hml : m < w.heap.size := (Array.getElem?_eq_some_iff.1 h.blk).1
      have hm2 : (w.alloc (.cells Try.zeroCells121 121)).heap[m]? = some (.map es c) := by rw [Below.heap_alloc w _ m hml]; exact h.blk
      have hup := upd_new und89 hm2 h.keys hno (.pointer (some ⟨w.heap.size, 0, none⟩))
      refine (page63_lack i (i / 256) (div_p i) w _ (by omega) (by rw [c2, h.pv]) (look_none und89 (zero116 w) h.blk h.keys hno) hup).mono ?_
      rintro e w' ⟨rfl, hw'⟩
      have hs := MapKept.heap_set (o' := .map (es.push { key := .int .i64 ((i / 256 : Nat) : Int), val := .pointer (some ⟨w.heap.size, 0, none⟩), born := c }) (c + 1)) hm2
      have hmo : m ∈ r.own := by rw [h.own]; exact List.mem_cons_self ..
      have hlt := hr.lt
      have hold : ∀ a, a < w.heap.size → a ≠ m → w'.heap[a]? = w.heap[a]? := fun a ha ham => by
        rw [hw']
        show (((w.alloc (.cells Try.zeroCells121 121)).heap.setIfInBounds m _)[a]? = _)
        rw [hs.2 _ ham]; exact Below.heap_alloc w _ a ha
      have hg' : w'.heap[w.heap.size]? = some (.cells (page .i64 [] 0).toArray 121 (0, 0)) := by
        rw [hw']
        show (((w.alloc (.cells Try.zeroCells121 121)).heap.setIfInBounds m _)[w.heap.size]? = _)
        rw [hs.2 _ (by omega), ← zpage121]; exact heap_alloc_new w _
      obtain ⟨hp1, hn1⟩ := h.more hr.1 hno (fun e => by have := hlt _ e; omega) (by rw [hw']; exact hs.1) hg' (fun a ha ham => hold a (hlt a ha) ham)
      refine ⟨w.heap.size, ⟨r.xs, r.sv, r.pv, r.own ++ [w.heap.size]⟩, m, _, _, { key := .int .i64 ((i / 256 : Nat) : Int), val := .pointer (some ⟨w.heap.size, 0, none⟩), born := c }, rfl, rfl, ⟨rfl, hp1, hn1, by simp, rfl, rfl, ?_, ⟨?_, ?_, ?_, ?_, fun a ha han => ?_⟩, fun a ha => ?_⟩⟩
      · show w'.heap[b]? = some (.cells (cur.setIfInBounds (o + 2) r.pv) ty (0, 0))
        rw [hold b hbl (fun e => hbn (e ▸ hmo)), hb, set_id h2]
      · rw [hw']; rfl
      · rw [hw']; rfl
      · rw [hw']; rfl
      · rw [hw']
        show w.heap.size ≤ ((w.alloc (.cells Try.zeroCells121 121)).heap.setIfInBounds m _).size
        simp
      · exact hold a ha (fun e => han (by rw [e]; exact List.mem_cons_of_mem _ hmo))
      · rcases List.mem_append.1 ha with ha | ha
        · exact .inl ha
        · right; rw [List.mem_singleton.1 ha]; exact Nat.le_refl _
theorem eqs88 (w : World) (a : Addr) (n c : Nat) : Sem.run Try.prog (binOp .eql 88 (.slice (some a) n c) (.slice none 0 0)) w = .ok (.bool false) w := by kernel_rfl
theorem eqn88 (w : World) : Sem.run Try.prog (binOp .eql 88 (.slice none 0 0) (.slice none 0 0)) w = .ok (.bool true) w := by kernel_rfl
set_option maxRecDepth 100000 in
set_option maxHeartbeats 2000000 in
theorem set54_side (i : Nat) (x : Int) (w : World) {b o n c g : Nat} {y : Value} (hn : n ≤ 4096) (h0 : w.cell? ⟨b, o, none⟩ = some (.int .i64 (n : Int))) (h1 : w.cell? ⟨b, o + 1, none⟩ = some (.slice (some ⟨g, 0, none⟩) n c)) (hi : i < n) (hc : w.cell? ⟨g, i, none⟩ = some y) (hf : w.frozen? ⟨g, i, none⟩ = false) :
    Calls Try.prog 54 #[.pointer (some ⟨b, o, none⟩), .int .i64 (i : Int), .int .i64 x] w fun e w' => e = .returned (.tuple #[]) ∧ w' = w.setCell ⟨g, i, none⟩ (.int .i64 x) := by
  have hki : (i : Int) < (n : Int) := by omega
  have hd : decide ((n : Int) > 4096) = false := decide_eq_false (by omega)
  have hd2 : ¬ ((4096 : Int) < (n : Int)) := by omega
  have q1 := eqs88
  go_enter Try.func54, Try.ntmps54
  go_wp2
  go_end0
  exact ⟨rfl, rfl⟩
set_option maxRecDepth 100000 in
set_option maxHeartbeats 2000000 in
theorem set54_new (i : Nat) (x : Int) (w : World) {b o n : Nat} (hn : n ≤ 4096) (h0 : w.cell? ⟨b, o, none⟩ = some (.int .i64 (n : Int))) (h1 : w.cell? ⟨b, o + 1, none⟩ = some (.slice none 0 0)) (hi : i < n) (hf : w.frozen? ⟨b, o + 1, none⟩ = false) :
    Calls Try.prog 54 #[.pointer (some ⟨b, o, none⟩), .int .i64 (i : Int), .int .i64 x] w fun e w' => e = .returned (.tuple #[]) ∧ w' = ((w.alloc (.cells (madeCells #[.int .i64 0] n) 55)).setCell ⟨b, o + 1, none⟩ (.slice (some ⟨w.heap.size, 0, none⟩) n n)).setCell ⟨w.heap.size, i, none⟩ (.int .i64 x) := by
  have hki : (i : Int) < (n : Int) := by omega
  have hd : decide ((n : Int) > 4096) = false := decide_eq_false (by omega)
  have hd2 : ¬ ((4096 : Int) < (n : Int)) := by omega
  have q1 := eqn88
  have q2 := mk_refs n (by omega)
  have hbs : b < w.heap.size := cell_lt h1
  have q3 : ¬ b = w.heap.size := by omega
  have q3' : ¬ w.heap.size = b := by omega
  have q4 := alloc_cell h1 (.cells (madeCells #[.int .i64 0] n) 55)
  have q5 := alloc_frozen h1 hf (.cells (madeCells #[.int .i64 0] n) 55)
  have q6 : ((w.alloc (.cells (madeCells #[.int .i64 0] n) 55)).setCell ⟨b, o + 1, none⟩ (.slice (some ⟨w.heap.size, 0, none⟩) n n)).cell? ⟨b, o + 1, none⟩ = some (.slice (some ⟨w.heap.size, 0, none⟩) n n) := World.cell?_setCell_same' _ _ _ (by rw [q4]; rfl)
  have hM : ((w.alloc (.cells (madeCells #[.int .i64 0] n) 55)).setCell ⟨b, o + 1, none⟩ (.slice (some ⟨w.heap.size, 0, none⟩) n n)).heap[w.heap.size]? = some (.cells (madeCells #[.int .i64 0] n) 55 (0, 0)) := by rw [heap_setB q3']; exact heap_alloc_new w _
  have q7 : ((w.alloc (.cells (madeCells #[.int .i64 0] n) 55)).setCell ⟨b, o + 1, none⟩ (.slice (some ⟨w.heap.size, 0, none⟩) n n)).cell? ⟨w.heap.size, i, none⟩ = some (.int .i64 0) := by
    rw [cell_of_row _ _ i _ 55 (0, 0) hM, ← Array.getElem?_toList, toList_madeCells_one]; simp [hi]
  have q8 : ((w.alloc (.cells (madeCells #[.int .i64 0] n) 55)).setCell ⟨b, o + 1, none⟩ (.slice (some ⟨w.heap.size, 0, none⟩) n n)).frozen? ⟨w.heap.size, i, none⟩ = false := frozen_of hM
  clear hbs hM
  go_enter Try.func54, Try.ntmps54
  go_wp2
  go_end0
  exact ⟨rfl, rfl⟩
set_option maxRecDepth 100000 in
set_option maxHeartbeats 2000000 in
theorem set54_far (i p q : Nat) (hd : (i : Int) / 256 = (p : Int)) (hm : (i : Int) % 256 = (q : Int)) (hq : (q : Int) < 256) (hi : i ≤ 1073741824) (x : Int) (w : World) {b o n : Nat} {R : Nat → World → Prop} (hn : 4096 < n) (h0 : w.cell? ⟨b, o, none⟩ = some (.int .i64 (n : Int)))
    (hp : Calls Try.prog 63 #[.pointer (some ⟨b, o, none⟩), .int .i64 (i : Int)] w fun e w' => ∃ g, e = .returned (.pointer (some ⟨g, 0, none⟩)) ∧ R g w') (hR : ∀ g w', R g w' → (∃ y, w'.cell? ⟨g, q, none⟩ = some y) ∧ w'.frozen? ⟨g, q, none⟩ = false) :
    Calls Try.prog 54 #[.pointer (some ⟨b, o, none⟩), .int .i64 (i : Int), .int .i64 x] w fun e w' => e = .returned (.tuple #[]) ∧ ∃ g w1, R g w1 ∧ w' = w1.setCell ⟨g, q, none⟩ (.int .i64 x) := by
  have hki : (i : Int) ≤ 1073741824 := by omega
  have hd1 : decide ((n : Int) > 4096) = true := decide_eq_true (by omega)
  have hd2 : ((4096 : Int) < (n : Int)) := by omega
  have HP := hide hp
  have HR := hide hR
  clear hp hR
  go_enter Try.func54, Try.ntmps54
  go_wp2_with fail
  refine (unhide HP).mono ?_
  rintro e w1 ⟨g, rfl, hr⟩
  obtain ⟨⟨y, hy⟩, hf⟩ := unhide HR g w1 hr
  have H2 := hide hr
  clear hr HR HP
  go_wp2
  refine bodyPost_ret (results_none rfl _ _ _) rfl ?_
  exact ⟨rfl, g, w1, unhide H2, rfl⟩
/-- set, whatever the row is. -/
theorem set54_any (i : Nat) (x : Int) (w : World) {b o : Nat} {cur : Array Value} {ty : TypeId} (r : Rv) (hr : RowIs .i64 55 121 w r) (hi : i < r.xs.length) (hl : r.xs.length ≤ 1073741824) (hb : w.heap[b]? = some (.cells cur ty (0, 0))) (hbn : b ∉ r.own) (h0 : cur[o]? = some (.int .i64 (r.xs.length : Int))) (h1 : cur[o + 1]? = some r.sv) (h2 : cur[o + 2]? = some r.pv) :
    Calls Try.prog 54 #[.pointer (some ⟨b, o, none⟩), .int .i64 (i : Int), .int .i64 x] w fun e w' => e = .returned (.tuple #[]) ∧ ∃ r', SetOk .i64 55 121 w w' r b o cur ty i x r' := by
  have hbl : b < w.heap.size := (Array.getElem?_eq_some_iff.1 hb).1
  have c0 : w.cell? ⟨b, o, none⟩ = some (.int .i64 (r.xs.length : Int)) := by rw [cell_of_row w b o _ ty (0, 0) hb]; exact h0
  have c1 : w.cell? ⟨b, o + 1, none⟩ = some r.sv := by rw [cell_of_row w b (o + 1) _ ty (0, 0) hb]; exact h1
  by_cases hfar : 4096 < r.xs.length
  · have hp := page63_any i w r hr hfar hi hl hb hbn h2
    refine (set54_far i (i / 256) (i % 256) (div_p i) (mod_q i) (by omega) (by omega) x w (n := r.xs.length) (R := fun g w' => ∃ r' m es clock en, r'.sv = r.sv ∧ FarOk .i64 121 w w' r b o cur ty i g r' m es clock en) hfar c0 (hp.mono ?_) ?_).mono ?_
    · rintro e w' ⟨g, r', m, es, clock, en, rfl, hh⟩
      exact ⟨g, rfl, r', m, es, clock, en, hh⟩
    · rintro g w' ⟨r', m, es, clock, en, hsv, hF⟩
      obtain ⟨p, g', e1, e2, e3⟩ := hF.pgs.pg en hF.mem
      rw [hF.val] at e2
      injection e2 with e2; injection e2 with e2; injection e2 with e2
      subst e2
      refine ⟨⟨.int .i64 (r'.xs.getD (256 * p + i % 256) 0), ?_⟩, frozen_of e3⟩
      · rw [cell_of_row w' g (i % 256) _ 121 (0, 0) e3, List.getElem?_toArray]
        exact page_get _ _ _ _ (by omega)
    · rintro e w' ⟨rfl, g, w1, ⟨r', m, es, clock, en, hsv, hF⟩, rfl⟩
      have hgo : g ∈ r'.own := by
        rw [hF.pgs.own]
        exact List.mem_cons_of_mem _ (List.mem_map.2 ⟨en, hF.mem, by rw [hF.val]; rfl⟩)
      have hgb : b ≠ g := fun e => by
        rcases hF.new g hgo with h | h
        · exact hbn (e ▸ h)
        · omega
      refine ⟨rfl, r'.put i x, by show r'.xs.set i x = _; rw [hF.xs], ⟨hF.nd, .inr (.inr ⟨m, es, clock, hF.pgs.put hF.nd (by rw [hF.xs]; exact hi) x hF.mem hF.key hF.val⟩)⟩, ?_, ?_, hF.new⟩
      · rw [heap_setB hgb, hF.blk]
        show _ = some (Obj.cells ((cur.setIfInBounds (o + 1) r'.sv).setIfInBounds (o + 2) r'.pv) ty (0, 0))
        rw [hsv, set_id h1]
      · refine ⟨hF.fr.os, hF.fr.tape, hF.fr.output, by have := hF.fr.size; simpa using this, fun c hc hcn => ?_⟩
        have hcg : c ≠ g := fun e => by
          rcases hF.new g hgo with h | h
          · exact hcn (by rw [e]; exact List.mem_cons_of_mem _ h)
          · omega
        rw [heap_setB hcg]; exact hF.fr.block c hc hcn
  · rcases hr.2 with h | ⟨g, h⟩ | ⟨m, es, c, h⟩
    · refine (set54_new i x w (n := r.xs.length) (by omega) c0 (by rw [c1, h.sv]) hi (frozen_of hb)).mono ?_
      rintro e w' ⟨rfl, rfl⟩
      have hne : w.heap.size ≠ b := by omega
      have hne' : b ≠ w.heap.size := by omega
      have hb1 : (w.alloc (.cells (madeCells #[.int .i64 0] r.xs.length) 55)).heap[b]? = some (.cells cur ty (0, 0)) := by rw [Below.heap_alloc w _ b hbl]; exact hb
      have hM : ((w.alloc (.cells (madeCells #[.int .i64 0] r.xs.length) 55)).setCell ⟨b, o + 1, none⟩ (.slice (some ⟨w.heap.size, 0, none⟩) r.xs.length r.xs.length)).heap[w.heap.size]? = some (.cells (r.xs.map (Value.int .i64)).toArray 55 (0, 0)) := by
        rw [heap_setB hne, heap_alloc_new]
        congr 2
        apply Array.toList_inj.1
        rw [toList_madeCells_one]
        apply List.ext_getElem?
        intro j
        rw [List.getElem?_replicate]
        show _ = (r.xs.map (Value.int .i64))[j]?
        rw [List.getElem?_map]
        by_cases hj : j < r.xs.length
        · have := h.z j
          rw [List.getD_eq_getElem?_getD, List.getElem?_eq_getElem hj] at this
          have this : r.xs[j] = 0 := this
          rw [if_pos hj, List.getElem?_eq_getElem hj, this]; rfl
        · rw [if_neg hj, List.getElem?_eq_none_iff.2 (by omega)]; rfl
      have hS : Sid .i64 55 ((w.alloc (.cells (madeCells #[.int .i64 0] r.xs.length) 55)).setCell ⟨b, o + 1, none⟩ (.slice (some ⟨w.heap.size, 0, none⟩) r.xs.length r.xs.length)) ⟨r.xs, .slice (some ⟨w.heap.size, 0, none⟩) r.xs.length r.xs.length, .map none, [w.heap.size]⟩ w.heap.size := ⟨rfl, rfl, by show r.xs.length ≤ _; omega, rfl, hM⟩
      refine ⟨rfl, ⟨r.xs.set i x, .slice (some ⟨w.heap.size, 0, none⟩) r.xs.length r.xs.length, .map none, [w.heap.size]⟩, rfl, ⟨by simp, .inr (.inl ⟨w.heap.size, hS.put (tP := 121) hi x⟩)⟩, ?_, ?_, fun c hc => .inr (by rw [List.mem_singleton.1 hc]; exact Nat.le_refl _)⟩
      · rw [heap_setB hne', heap_setCell_same _ b (o + 1) cur ty _ hb1]
        show _ = some (Obj.cells ((cur.setIfInBounds (o + 1) (.slice (some ⟨w.heap.size, 0, none⟩) r.xs.length r.xs.length)).setIfInBounds (o + 2) (.map none)) ty (0, 0))
        rw [set_id (i := o + 2)]
        rw [Array.getElem?_setIfInBounds, if_neg (by omega), h2, h.pv]
      · refine ⟨rfl, rfl, rfl, by simp, fun c hc hcn => ?_⟩
        rw [heap_setB (by omega), heap_setB (fun e => hcn (by rw [e]; exact List.mem_cons_self ..))]
        exact Below.heap_alloc w _ c hc
    · have hgo : g ∈ r.own := by rw [h.own]; simp
      refine (set54_side i x w (n := r.xs.length) (c := r.xs.length) (g := g) (y := .int .i64 (r.xs.getD i 0)) (by omega) c0 (by rw [c1, h.sv]) hi ?_ (frozen_of h.blk)).mono ?_
      · rw [cell_of_row w g i _ 55 (0, 0) h.blk]
        simp [List.getD_eq_getElem?_getD, hi]
      · rintro e w' ⟨rfl, rfl⟩
        refine ⟨rfl, r.put i x, rfl, ⟨hr.1, .inr (.inl ⟨g, h.put (tP := 121) hi x⟩)⟩, ?_, (Fr.refl _ _).set (List.mem_cons_of_mem _ hgo) _, fun c hc => .inl hc⟩
        have hbg : b ≠ g := fun e => hbn (by rw [e]; exact hgo)
        rw [heap_setB hbg, hb]
        show _ = some (Obj.cells ((cur.setIfInBounds (o + 1) r.sv).setIfInBounds (o + 2) r.pv) ty (0, 0))
        rw [set_id h1, set_id h2]
    · exact absurd h.far hfar
end Rs
end Go.Proofs.Ytaapakpanbfmlaa
