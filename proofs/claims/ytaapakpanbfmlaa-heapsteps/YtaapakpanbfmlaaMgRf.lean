/-
  The reference's space: Get, Word: the walks.
  The reference's space: size, NewSpace.
-/
import Derived.Test.YtaapakpanbfmlaaRd
import Derived.Deep.OwnRows
namespace Go.Proofs.Ytaapakpanbfmlaa
namespace Rs
open Go.RowKit Hp
set_option linter.unusedVariables false
set_option linter.unusedSimpArgs false
theorem RowN.at_ {k : IntKind} {ty : TypeId} {w : World} {v : Value} {xs : List Nat} (h : RowN k ty w v xs) {f : Nat} (hf : f < xs.length) : ∃ g, v = .slice (some ⟨g, 0, none⟩) xs.length xs.length ∧ w.cell? ⟨g, f, none⟩ = some (.int k ((xs.getD f 0 : Nat) : Int)) := by
  rcases h with ⟨_, rfl⟩ | ⟨g, h, h1⟩
  · simp at hf
  · refine ⟨g, h, ?_⟩
    rw [cell_of_row w g f _ ty (0, 0) h1]
    simp [List.getD_eq_getElem?_getD, hf]
set_option maxRecDepth 100000 in
set_option maxHeartbeats 4000000 in
theorem rget_any (j k i : Int) (w : World) {B sb rb lim us : Nat} {lv : Value} {L : List Tv} {ro : List Nat} (h : Sp w B sb rb lv L ro lim us) (hro : ∀ x ∈ ro, x < L.length) :
    Calls Try.prog 24 #[.pointer (some ⟨sb, 0, none⟩), .int .i64 j, .int .i64 k, .int .i64 i] w fun e w' =>
      (¬ (0 ≤ i ∧ i < (nrefs L ro k : Int) ∧ at16 j = true) ∧ e = .returned (.int .i64 7) ∧ Fr [] w w' ∧ Sp w' B sb rb lv L ro lim us) ∨
      (∃ n m x f, ∃ hx : x < L.length, k = ((n : Nat) : Int) ∧ n < 16 ∧ ro.getD n 0 = x ∧ j = ((m : Nat) : Int) ∧ m < 16 ∧ i = ((f : Nat) : Int) ∧ f < (L[x]).t.refs.length ∧ e = .returned (.int .i64 0) ∧ Fr [rb] w w' ∧ Sp w' B sb rb lv L (ro.set m ((L[x]).t.refs.getD f 0)) lim us) := by
  have HR := hide (rrefs_any k w h hro)
  have HJ := hide (fun w1 => at_any j w1)
  have HS := hide h
  by_cases h1 : i < 0
  · clear h
    go_enter Try.func24, Try.ntmps24
    go_wp2
    go_ret
    exact .inl ⟨fun h => by omega, rfl, Fr.refl _ _, unhide HS⟩
  by_cases h2 : (nrefs L ro k : Int) ≤ i
  · clear h
    go_enter Try.func24, Try.ntmps24
    go_wp2_with fail
    refine (unhide HR).mono ?_
    rintro e w1 ⟨rfl, n1, hw1⟩
    subst w1
    go_wp2
    go_ret
    exact .inl ⟨fun h => by omega, rfl, (Fr.refl _ _).drewN _, (unhide HS).drewN _⟩
  generalize hj : at16 j = bj at *
  cases bj
  · clear h
    go_enter Try.func24, Try.ntmps24
    go_wp2_with fail
    refine (unhide HR).mono ?_
    rintro e w1 ⟨rfl, n1, hw1⟩
    subst w1
    go_wp2_with fail
    refine (unhide HJ _).mono ?_
    rintro e w1 ⟨rfl, hw1⟩
    subst w1
    go_wp2
    go_ret
    exact .inl ⟨fun h => by simp at h, rfl, (Fr.refl _ _).drewN _, (unhide HS).drewN _⟩
  obtain ⟨n, x, rfl, hn, hnx, hx, hnr⟩ := nrefs_pos (L := L) (ro := ro) (k := k) (by omega)
  obtain ⟨m, rfl, hm⟩ := at16_nat hj
  obtain ⟨f, rfl⟩ : ∃ f : Nat, i = (f : Int) := ⟨i.toNat, by omega⟩
  have hf : f < (L[x]).t.refs.length := by omega
  obtain ⟨gr, hgr, k1⟩ := (h.t _ (List.getElem_mem hx)).1.at_ hf
  have HW : Hid (∀ q, Sp ((w.drewN (q + 1)).setCell ⟨rb, m, none⟩ (.int .i64 (((L[x]).t.refs.getD f 0 : Nat) : Int))) B sb rb lv L (ro.set m ((L[x]).t.refs.getD f 0)) lim us) := hide (fun q => ((unhide HS).drewN (q + 1)).setRoot m _)
  have c1 := h.rootsv
  have c2 := h.lv0
  have c3 := h.cell n hn
  have c4 := h.cell m hm
  have c5 := h.rfrozen m
  rw [hnx] at c3
  obtain ⟨g, cap, hlv, d0, _, _⟩ := h.thing x hx
  rw [hlv] at c2
  have hni : (n : Int) < 16 := by omega
  have hmi : (m : Int) < 16 := by omega
  have hxi : (x : Int) < (L.length : Int) := by omega
  have hfi : (f : Int) < ((L[x]).t.refs.length : Int) := by omega
  rw [hnr] at HR
  have h1' : ¬ ((f : Int) < 0) := h1
  have h2' : ¬ (((L[x]).t.refs.length : Int) ≤ (f : Int)) := by omega
  rw [hgr] at d0
  clear h hj h2 h1 hgr
  have Hf := hide hf
  have Hnx := hide hnx
  clear hf hnx hnr
  generalize hz : (L[x]).t.refs.getD f 0 = z at k1 HW
  have Hz := hide hz
  clear hz
  go_enter Try.func24, Try.ntmps24
  go_wp2_with fail
  refine (unhide HR).mono ?_
  rintro e w1 ⟨rfl, n1, hw1⟩
  subst w1
  go_wp2_with fail
  refine (unhide HJ _).mono ?_
  rintro e w1 ⟨rfl, hw1⟩
  subst w1
  have HSp := hide (unhide HW n1)
  clear HW
  generalize hy : ro.getD m 0 = y at c4
  clear hy
  go_wp2_with fail
  go_region
  all_goals
    go_wp2
    go_ret
    exact .inr ⟨n, m, x, f, hx, rfl, hn, unhide Hnx, rfl, hm, rfl, unhide Hf, rfl, ((Fr.refl _ _).drewN _).set (by simp) _, by rw [unhide Hz]; exact unhide HSp⟩
set_option maxRecDepth 100000 in
set_option maxHeartbeats 4000000 in
theorem rword_any (k i : Int) (w : World) {B sb rb lim us : Nat} {lv : Value} {L : List Tv} {ro : List Nat} (h : Sp w B sb rb lv L ro lim us) (hro : ∀ x ∈ ro, x < L.length) :
    Calls Try.prog 26 #[.pointer (some ⟨sb, 0, none⟩), .int .i64 k, .int .i64 i] w fun e w' =>
      Fr [] w w' ∧ Sp w' B sb rb lv L ro lim us ∧
      ((¬ (0 ≤ i ∧ i < (nwords L ro k : Int)) ∧ e = .returned (.tuple #[.int .u64 0, .int .i64 7])) ∨
      (∃ n x f, ∃ hx : x < L.length, k = ((n : Nat) : Int) ∧ n < 16 ∧ ro.getD n 0 = x ∧ i = ((f : Nat) : Int) ∧ f < (L[x]).t.words.length ∧ e = .returned (.tuple #[.int .u64 (((L[x]).t.words.getD f 0 : Nat) : Int), .int .i64 0]))) := by
  have HR := hide (rwords_any k w h hro)
  have HS := hide h
  by_cases h1 : i < 0
  · clear h
    go_enter Try.func26, Try.ntmps26
    go_wp2
    go_ret2
    exact ⟨Fr.refl _ _, unhide HS, .inl ⟨fun h => by omega, rfl⟩⟩
  by_cases h2 : (nwords L ro k : Int) ≤ i
  · clear h
    go_enter Try.func26, Try.ntmps26
    go_wp2_with fail
    refine (unhide HR).mono ?_
    rintro e w1 ⟨rfl, n1, hw1⟩
    subst w1
    go_wp2
    go_ret2
    exact ⟨(Fr.refl _ _).drewN _, (unhide HS).drewN _, .inl ⟨fun h => by omega, rfl⟩⟩
  obtain ⟨n, x, rfl, hn, hnx, hx, hnr⟩ := nwords_pos (L := L) (ro := ro) (k := k) (by omega)
  obtain ⟨f, rfl⟩ : ∃ f : Nat, i = (f : Int) := ⟨i.toNat, by omega⟩
  have hf : f < (L[x]).t.words.length := by omega
  obtain ⟨gr, hgr, k1⟩ := (h.t _ (List.getElem_mem hx)).2.at_ hf
  have c1 := h.rootsv
  have c2 := h.lv0
  have c3 := h.cell n hn
  rw [hnx] at c3
  obtain ⟨g, cap, hlv, _, d1, _⟩ := h.thing x hx
  rw [hlv] at c2
  have hni : (n : Int) < 16 := by omega
  have hxi : (x : Int) < (L.length : Int) := by omega
  have hfi : (f : Int) < ((L[x]).t.words.length : Int) := by omega
  rw [hnr] at HR
  have h1' : ¬ ((f : Int) < 0) := h1
  have h2' : ¬ (((L[x]).t.words.length : Int) ≤ (f : Int)) := by omega
  rw [hgr] at d1
  clear h h2 h1 hgr
  have Hf := hide hf
  have Hnx := hide hnx
  clear hf hnx hnr
  generalize hz : (L[x]).t.words.getD f 0 = z at k1
  have Hz := hide hz
  clear hz
  go_enter Try.func26, Try.ntmps26
  go_wp2_with fail
  refine (unhide HR).mono ?_
  rintro e w1 ⟨rfl, n1, hw1⟩
  subst w1
  go_wp2_with fail
  go_quiet (fail)
  go_wp2
  go_ret2
  exact ⟨((Fr.refl _ _).drewN _).drewN _, ((unhide HS).drewN _).drewN _, .inr ⟨n, x, f, hx, rfl, hn, unhide Hnx, rfl, unhide Hf, by rw [unhide Hz]; rfl⟩⟩
end Rs
end Go.Proofs.Ytaapakpanbfmlaa
namespace Go.Proofs.Ytaapakpanbfmlaa
namespace Rs
open Go.RowKit Hp
set_option linter.unusedVariables false
set_option linter.unusedSimpArgs false
set_option maxRecDepth 100000 in
set_option maxHeartbeats 2000000 in
theorem rsize_any (ra wa : Option Addr) (r rc q qc : Nat) (g : Bool) (w : World) (hr : (r : Int) ≤ 1152921504606846976) (hq : (q : Int) ≤ 1152921504606846976) :
    Calls Try.prog 30 #[.agg #[.slice ra r rc, .slice wa q qc, .bool g]] w fun e w' => e = .returned (.int .i64 (((2 + r + q : Nat)) : Int)) ∧ Below w.heap.size w w' := by
  have e1 : ((2 + r + q : Nat) : Int) = 2 + (r : Int) + (q : Int) := by omega
  rw [e1]
  clear e1
  go_enter Try.func30, Try.ntmps30
  go_wp2
  go_ret
  exact ⟨rfl, (Below.refl _ _).alloc (Nat.le_refl _) _⟩
theorem under65 : Try.prog.underlying 65 = some (.slice 3) := by kernel_rfl
theorem under69 : Try.prog.underlying 69 = some (.slice 30) := by kernel_rfl
theorem info3 : (Try.prog.info? 3).map (fun i => (i.zero, i.size, i.bytes)) = some (some (.int .i64 0), 1, 8) := by kernel_rfl
theorem info30 : (Try.prog.info? 30).map (fun i => (i.zero, i.size, i.bytes)) = some (some (.int .u64 0), 1, 8) := by kernel_rfl
theorem mk_ints (n : Nat) (hn : n ≤ 1073741824) (w : World) : Sem.run Try.prog (Instr.makeSlice 65 (.int .i64 (n : Int)) (.int .i64 (n : Int))) w = .ok (.slice (some ⟨w.heap.size, 0, none⟩) n n) (w.alloc (.cells (madeCells #[.int .i64 0] n) 3)) :=
  run_make_row' (P := Try.prog) 65 3 (.int .i64 0) 8 under65 info3 rfl .i64 .i64 n (by omega) (by omega) w
theorem mk_words (n : Nat) (hn : n ≤ 1073741824) (w : World) : Sem.run Try.prog (Instr.makeSlice 69 (.int .i64 (n : Int)) (.int .i64 (n : Int))) w = .ok (.slice (some ⟨w.heap.size, 0, none⟩) n n) (w.alloc (.cells (madeCells #[.int .u64 0] n) 30)) :=
  run_make_row' (P := Try.prog) 69 30 (.int .u64 0) 8 under69 info30 rfl .i64 .i64 n (by omega) (by omega) w
set_option maxRecDepth 100000 in
set_option maxHeartbeats 2000000 in
theorem rnew_any (lim : Nat) (w : World) :
    Calls Try.prog 16 #[.int .i64 (lim : Int)] w fun e w' => ∃ sb rb lv, e = .returned (.pointer (some ⟨sb, 0, none⟩)) ∧ Fr [] w w' ∧ w.heap.size ≤ sb ∧ w.heap.size ≤ rb ∧ Sp w' w.heap.size sb rb lv [Tv.zero] (List.replicate 16 0) lim 0 := by
  have hmk : ∀ w, Sem.run Try.prog (Instr.makeSlice 65 (.int .i64 16) (.int .i64 16)) w = .ok (.slice (some ⟨w.heap.size, 0, none⟩) 16 16) (w.alloc (.cells (madeCells #[.int .i64 0] 16) 3)) := fun w => mk_ints 16 (by omega) w
  go_enter Try.func16, Try.ntmps16
  go_wp2
  go_ret
  refine ⟨_, w.heap.size + 1, .slice (some ⟨w.heap.size, 0, none⟩) 1 1, rfl, Fr.of_below ((((Below.refl _ _).alloc (Nat.le_refl _) _).alloc (by simp) _).alloc (by simp; omega) _), by omega, by omega, ?_⟩
  have s1 : (w.alloc (.cells #[.slice none 0 0, .slice none 0 0, .bool false] 71)).heap.size = w.heap.size + 1 := by simp
  have s2 : ((w.alloc (.cells #[.slice none 0 0, .slice none 0 0, .bool false] 71)).alloc (.cells (madeCells #[.int .i64 0] 16) 3)).heap.size = w.heap.size + 1 + 1 := by simp
  refine ⟨?_, ?_, by simp, ?_, ?_, ?_⟩
  · have := heap_alloc_new ((w.alloc (.cells #[.slice none 0 0, .slice none 0 0, .bool false] 71)).alloc (.cells (madeCells #[.int .i64 0] 16) 3)) (.cells #[.slice (some ⟨w.heap.size, 0, none⟩) 1 1, .slice (some ⟨w.heap.size + 1, 0, none⟩) 16 16, .int .i64 (lim : Int), .int .i64 0] 67)
    rw [s2] at this
    exact this
  · rw [Below.heap_alloc _ _ _ (by rw [s2]; omega)]
    have := heap_alloc_new (w.alloc (.cells #[.slice none 0 0, .slice none 0 0, .bool false] 71)) (.cells (madeCells #[.int .i64 0] 16) 3)
    rw [s1] at this
    rw [this]
    have e : ((List.replicate 16 0).map fun (x : Nat) => Value.int .i64 (x : Int)).toArray = madeCells #[.int .i64 0] 16 := by
      apply Array.toList_inj.1
      rw [toList_madeCells_one]; simp
    rw [e]
  · exact ((World.ownsRow_lit (e := 71) (size := 3) w #[.slice none 0 0, .slice none 0 0, .bool false] 1 (Nat.le_refl _) (by unfold maxLen; omega) rfl).alloc _).alloc _
  · intro x hx
    rw [List.mem_singleton.1 hx]
    exact ⟨.inl ⟨rfl, rfl⟩, .inl ⟨rfl, rfl⟩⟩
  · simp [tblocks, Tv.zero, Value.ownBlock]; omega
end Rs
end Go.Proofs.Ytaapakpanbfmlaa
