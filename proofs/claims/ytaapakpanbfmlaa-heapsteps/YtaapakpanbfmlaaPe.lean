/-
  The program's rows: looking for a page; get.
-/
import Derived.Test.YtaapakpanbfmlaaMgPd
namespace Go.Proofs.Ytaapakpanbfmlaa
namespace Rs
open Go.RowKit Hp
set_option linter.unusedVariables false
set_option linter.unusedSimpArgs false
theorem und3 : Try.prog.underlying 3 = some (.int .i64) := by kernel_rfl
theorem und92 : Try.prog.underlying 92 = some (.map 3 113) := by kernel_rfl
theorem und89 : Try.prog.underlying 89 = some (.map 3 116) := by kernel_rfl
theorem zero113 (w : World) : (zeroValue 113).run Try.prog w = .ok (.pointer none) w := by kernel_rfl
theorem zero116 (w : World) : (zeroValue 116).run Try.prog w = .ok (.pointer none) w := by kernel_rfl
theorem keyInt (i : Int) : MapKept.IsKey (.int .i64) (.int .i64 i) := by simp [MapKept.IsKey]
theorem look_some {tM tE : TypeId} (hu : Try.prog.underlying tM = some (.map 3 tE)) {w : World} {m : Nat} {es : Array MapEntry} {clock : Nat} (hb : w.heap[m]? = some (.map es clock)) (hk : ∀ x ∈ es.toList, MapKept.IsKey (.int .i64) x.key) (hs : MapKept.Stamped es clock) {i : Int} {e : MapEntry} (he : e ∈ es.toList) (hi : e.key = .int .i64 i) :
    (Instr.lookup tM (.map (some m)) (.int .i64 i) false).run Try.prog w = .ok e.val w := by
  rcases MapKept.findNow_spec (keyInt i) es.toList 0 hk with ⟨h1, h2⟩ | ⟨j, e', h1, h2, h3⟩
  · exact absurd hi (h2 e he)
  · have hm : e' ∈ es.toList := List.mem_of_getElem? h2
    have : e' = e := born_key hs hm he (h3.trans hi.symm)
    subst this
    simp [Instr.lookup, run_underlying hu, MapKept.run_getObj_map hb, MapKept.run_checkKey und3 (keyInt i), MapKept.run_findKey und3 h1, Result.andThen]
theorem look_none {tM tE : TypeId} (hu : Try.prog.underlying tM = some (.map 3 tE)) {w : World} (hz : (zeroValue tE).run Try.prog w = .ok (.pointer none) w) {m : Nat} {es : Array MapEntry} {clock : Nat} (hb : w.heap[m]? = some (.map es clock)) (hk : ∀ x ∈ es.toList, MapKept.IsKey (.int .i64) x.key) {i : Int} (hi : ∀ e ∈ es.toList, e.key ≠ .int .i64 i) :
    (Instr.lookup tM (.map (some m)) (.int .i64 i) false).run Try.prog w = .ok (.pointer none) w := by
  rcases MapKept.findNow_spec (keyInt i) es.toList 0 hk with ⟨h1, h2⟩ | ⟨j, e', h1, h2, h3⟩
  · simp [Instr.lookup, run_underlying hu, MapKept.run_getObj_map hb, MapKept.run_checkKey und3 (keyInt i), MapKept.run_findKey und3 h1, hz, Result.andThen]
  · exact absurd h3 (hi e' (List.mem_of_getElem? h2))
theorem Pgs.keys {k : IntKind} {tP : TypeId} {w : World} {r : Rv} {m : Nat} {es : Array MapEntry} {clock : Nat} (h : Pgs k tP w r m es clock) : ∀ x ∈ es.toList, MapKept.IsKey (.int .i64) x.key := fun x hx => by
  obtain ⟨p, _, h1, _⟩ := h.pg x hx
  rw [h1]; exact keyInt _
set_option maxRecDepth 100000 in
set_option maxHeartbeats 2000000 in
theorem get52_page (k p q : Nat) (hd : (k : Int) / 256 = (p : Int)) (hm : (k : Int) % 256 = (q : Int)) (hq : (q : Int) < 256) (x : Nat) (w : World) {b o m g : Nat} (hk : k ≤ 1073741824) (h : w.cell? ⟨b, o + 1, none⟩ = some (.slice none 0 0)) (h2 : w.cell? ⟨b, o + 2, none⟩ = some (.map (some m)))
    (hlk : Sem.run Try.prog (Instr.lookup 92 (.map (some m)) (.int .i64 (p : Int)) false) w = .ok (.pointer (some ⟨g, 0, none⟩)) w) (hx : w.cell? ⟨g, q, none⟩ = some (.int .u64 (x : Int))) :
    Calls Try.prog 52 #[.pointer (some ⟨b, o, none⟩), .int .i64 (k : Int)] w fun e w' => e = .returned (.int .u64 (x : Int)) ∧ w' = w := by
  have hki : (k : Int) ≤ 1073741824 := by omega
  go_enter Try.func52, Try.ntmps52
  go_wp2
  go_ret
  exact ⟨rfl, rfl⟩
set_option maxRecDepth 100000 in
set_option maxHeartbeats 2000000 in
theorem get52_lack (k p : Nat) (hd : (k : Int) / 256 = (p : Int)) (w : World) {b o m : Nat} (hk : k ≤ 1073741824) (h : w.cell? ⟨b, o + 1, none⟩ = some (.slice none 0 0)) (h2 : w.cell? ⟨b, o + 2, none⟩ = some (.map (some m)))
    (hlk : Sem.run Try.prog (Instr.lookup 92 (.map (some m)) (.int .i64 (p : Int)) false) w = .ok (.pointer none) w) :
    Calls Try.prog 52 #[.pointer (some ⟨b, o, none⟩), .int .i64 (k : Int)] w fun e w' => e = .returned (.int .u64 0) ∧ w' = w := by
  have hki : (k : Int) ≤ 1073741824 := by omega
  go_enter Try.func52, Try.ntmps52
  go_wp2
  go_ret
  exact ⟨rfl, rfl⟩
set_option maxRecDepth 100000 in
set_option maxHeartbeats 2000000 in
theorem get56_page (k p q : Nat) (hd : (k : Int) / 256 = (p : Int)) (hm : (k : Int) % 256 = (q : Int)) (hq : (q : Int) < 256) (x : Int) (w : World) {b o m g : Nat} (hk : k ≤ 1073741824) (h : w.cell? ⟨b, o + 1, none⟩ = some (.slice none 0 0)) (h2 : w.cell? ⟨b, o + 2, none⟩ = some (.map (some m)))
    (hlk : Sem.run Try.prog (Instr.lookup 89 (.map (some m)) (.int .i64 (p : Int)) false) w = .ok (.pointer (some ⟨g, 0, none⟩)) w) (hx : w.cell? ⟨g, q, none⟩ = some (.int .i64 x)) :
    Calls Try.prog 56 #[.pointer (some ⟨b, o, none⟩), .int .i64 (k : Int)] w fun e w' => e = .returned (.int .i64 x) ∧ w' = w := by
  have hki : (k : Int) ≤ 1073741824 := by omega
  go_enter Try.func56, Try.ntmps56
  go_wp2
  go_ret
  exact ⟨rfl, rfl⟩
set_option maxRecDepth 100000 in
set_option maxHeartbeats 2000000 in
theorem get56_lack (k p : Nat) (hd : (k : Int) / 256 = (p : Int)) (w : World) {b o m : Nat} (hk : k ≤ 1073741824) (h : w.cell? ⟨b, o + 1, none⟩ = some (.slice none 0 0)) (h2 : w.cell? ⟨b, o + 2, none⟩ = some (.map (some m)))
    (hlk : Sem.run Try.prog (Instr.lookup 89 (.map (some m)) (.int .i64 (p : Int)) false) w = .ok (.pointer none) w) :
    Calls Try.prog 56 #[.pointer (some ⟨b, o, none⟩), .int .i64 (k : Int)] w fun e w' => e = .returned (.int .i64 0) ∧ w' = w := by
  have hki : (k : Int) ≤ 1073741824 := by omega
  go_enter Try.func56, Try.ntmps56
  go_wp2
  go_ret
  exact ⟨rfl, rfl⟩
theorem div_p (k : Nat) : (k : Int) / 256 = ((k / 256 : Nat) : Int) := by omega
theorem mod_q (k : Nat) : (k : Int) % 256 = ((k % 256 : Nat) : Int) := by omega
/-- get: whatever the row is. -/
theorem get56_any (k : Nat) (w : World) {b o : Nat} (r : Rv) (hr : RowIs .i64 55 121 w r) (hk : k < r.xs.length) (hl : r.xs.length ≤ 1073741824) (h1 : w.cell? ⟨b, o + 1, none⟩ = some r.sv) (h2 : w.cell? ⟨b, o + 2, none⟩ = some r.pv) :
    Calls Try.prog 56 #[.pointer (some ⟨b, o, none⟩), .int .i64 (k : Int)] w fun e w' => e = .returned (.int .i64 (r.xs.getD k 0)) ∧ w' = w := by
  rcases hr.2 with h | ⟨g, h⟩ | ⟨m, es, c, h⟩
  · rw [h.z k]
    exact get56_none k w (by omega) (by rw [h1, h.sv]) (by rw [h2, h.pv])
  · refine get56_side k _ w (by rw [h1, h.sv]) hk ?_
    rw [cell_of_row w g k _ 55 (0, 0) h.blk]
    simp [List.getD_eq_getElem?_getD, hk]
  · by_cases he : ∃ e ∈ es.toList, e.key = .int .i64 ((k / 256 : Nat) : Int)
    · obtain ⟨e, he, hke⟩ := he
      obtain ⟨p, g, e1, e2, e3⟩ := h.pg e he
      have hp : p = k / 256 := key_inj (e1.symm.trans hke)
      subst hp
      refine get56_page k (k / 256) (k % 256) (div_p k) (mod_q k) (by omega) _ w (by omega) (by rw [h1, h.sv]) (by rw [h2, h.pv]) (g := g) (by rw [← e2]; exact look_some und89 h.blk h.keys h.st he hke) ?_
      rw [cell_of_row w g (k % 256) _ 121 (0, 0) e3]
      show (page .i64 r.xs (k / 256)).toArray[k % 256]? = _
      rw [List.getElem?_toArray, page_get _ _ _ _ (by omega), show 256 * (k / 256) + k % 256 = k by omega]
    · have h0 : r.xs.getD k 0 = 0 := by
        by_cases h0 : r.xs.getD k 0 = 0
        · exact h0
        · exact absurd (h.all k h0) he
      rw [h0]
      exact get56_lack k (k / 256) (div_p k) w (by omega) (by rw [h1, h.sv]) (by rw [h2, h.pv]) (look_none und89 (zero116 w) h.blk h.keys (fun e he2 e2 => he ⟨e, he2, e2⟩))
theorem get52_any (k : Nat) (w : World) {b o : Nat} (r : Rv) (hr : RowIs .u64 30 120 w r) (hk : k < r.xs.length) (hl : r.xs.length ≤ 1073741824) (hp : ∀ x ∈ r.xs, 0 ≤ x) (h1 : w.cell? ⟨b, o + 1, none⟩ = some r.sv) (h2 : w.cell? ⟨b, o + 2, none⟩ = some r.pv) :
    Calls Try.prog 52 #[.pointer (some ⟨b, o, none⟩), .int .i64 (k : Int)] w fun e w' => e = .returned (.int .u64 (r.xs.getD k 0)) ∧ w' = w := by
  have hx : r.xs.getD k 0 = (((r.xs.getD k 0).toNat : Nat) : Int) := by
    have : 0 ≤ r.xs.getD k 0 := by
      rw [List.getD_eq_getElem?_getD, List.getElem?_eq_getElem hk]
      exact hp _ (List.getElem_mem hk)
    omega
  rcases hr.2 with h | ⟨g, h⟩ | ⟨m, es, c, h⟩
  · rw [h.z k]
    exact get52_none k w (by omega) (by rw [h1, h.sv]) (by rw [h2, h.pv])
  · rw [hx]
    refine get52_side k _ w (by rw [h1, h.sv]) hk ?_
    rw [cell_of_row w g k _ 30 (0, 0) h.blk, ← hx]
    simp [List.getD_eq_getElem?_getD, hk]
  · by_cases he : ∃ e ∈ es.toList, e.key = .int .i64 ((k / 256 : Nat) : Int)
    · obtain ⟨e, he, hke⟩ := he
      obtain ⟨p, g, e1, e2, e3⟩ := h.pg e he
      have hp : p = k / 256 := key_inj (e1.symm.trans hke)
      subst hp
      rw [hx]
      refine get52_page k (k / 256) (k % 256) (div_p k) (mod_q k) (by omega) _ w (by omega) (by rw [h1, h.sv]) (by rw [h2, h.pv]) (g := g) (by rw [← e2]; exact look_some und92 h.blk h.keys h.st he hke) ?_
      rw [cell_of_row w g (k % 256) _ 120 (0, 0) e3, ← hx]
      show (page .u64 r.xs (k / 256)).toArray[k % 256]? = _
      rw [List.getElem?_toArray, page_get _ _ _ _ (by omega), show 256 * (k / 256) + k % 256 = k by omega]
    · have h0 : r.xs.getD k 0 = 0 := by
        by_cases h0 : r.xs.getD k 0 = 0
        · exact h0
        · exact absurd (h.all k h0) he
      rw [h0]
      exact get52_lack k (k / 256) (div_p k) w (by omega) (by rw [h1, h.sv]) (by rw [h2, h.pv]) (look_none und92 (zero113 w) h.blk h.keys (fun e he2 e2 => he ⟨e, he2, e2⟩))
end Rs
end Go.Proofs.Ytaapakpanbfmlaa
