/-
  The program's Space: Collect; a new space.
  The program's Space: a new space.
-/
import Derived.Test.YtaapakpanbfmlaaQk
namespace Go.Proofs.Ytaapakpanbfmlaa
namespace Rs
open Go.RowKit Hp
set_option linter.unusedVariables false
set_option linter.unusedSimpArgs false
set_option maxRecDepth 100000 in
set_option maxHeartbeats 2000000 in
theorem collect28_walk (b : Bool) (sb : Nat) (fr : Value) (w : World) {R : Nat → Nat → World → Prop} (HC : Hid (Calls Try.prog (if b = true then 42 else 43) #[.pointer (some ⟨sb, 0, none⟩), fr] w fun e w' => e = .returned (.tuple #[]) ∧ ∃ yw ow, R yw ow w'))
    (HW : Hid (∀ yw ow w', R yw ow w' → Calls Try.prog 44 #[.pointer (some ⟨sb, 0, none⟩)] w' fun e w2 => e = .returned (.int .i64 ((yw + ow : Nat) : Int)) ∧ ∃ n, w2 = w'.drewN n)) :
    Calls Try.prog 28 #[.pointer (some ⟨sb, 0, none⟩), fr, .bool b] w fun e w' => ∃ yw ow w1 q, e = .returned (.int .i64 ((yw + ow : Nat) : Int)) ∧ R yw ow w1 ∧ w' = w1.drewN q := by
  cases b
  · rw [if_neg (by simp)] at HC
    go_enter Try.func28, Try.ntmps28
    go_wp2_with fail
    refine (unhide HC).mono ?_
    rintro e w1 ⟨rfl, yw, ow, hr⟩
    have HR := hide hr
    have HW1 := hide (unhide HW _ _ _ hr)
    clear hr
    generalize hzz : ((yw + ow : Nat) : Int) = zz at HW1
    have Hzz := hide hzz
    clear hzz
    go_wp2_with fail
    refine (unhide HW1).mono ?_
    rintro e w2 ⟨rfl, n, rfl⟩
    go_wp2
    go_ret
    exact ⟨yw, ow, w1, n, by rw [unhide Hzz]; rfl, unhide HR, rfl⟩
  · rw [if_pos rfl] at HC
    go_enter Try.func28, Try.ntmps28
    go_wp2_with fail
    refine (unhide HC).mono ?_
    rintro e w1 ⟨rfl, yw, ow, hr⟩
    have HR := hide hr
    have HW1 := hide (unhide HW _ _ _ hr)
    clear hr
    generalize hzz : ((yw + ow : Nat) : Int) = zz at HW1
    have Hzz := hide hzz
    clear hzz
    go_wp2_with fail
    refine (unhide HW1).mono ?_
    rintro e w2 ⟨rfl, n, rfl⟩
    go_wp2
    go_ret
    exact ⟨yw, ow, w1, n, by rw [unhide Hzz]; rfl, unhide HR, rfl⟩
def Ret7 (R : Int → World → Prop) (b : Bool) (e : Ending) (w' : World) : Prop := ∃ n, e = .returned (.int .i64 (if b = true then n else 0)) ∧ R n w'
set_option maxRecDepth 100000 in
set_option maxHeartbeats 2000000 in
theorem collect7_walk (b : Bool) (sb : Nat) (w : World) {R : Int → World → Prop} (HC : Hid (∀ k, Calls Try.prog 28 #[.pointer (some ⟨sb, 0, none⟩), .iface 61 (.pointer (some ⟨sb, 9, none⟩)), .bool b] (w.drewN k) fun e w' => ∃ n, e = .returned (.int .i64 n) ∧ R n w')) :
    Calls Try.prog 7 #[.pointer (some ⟨sb, 0, none⟩), .bool b] w (Ret7 R b) := by
  cases b
  · go_enter Try.func7, Try.ntmps7
    go_wp2_with fail
    go_region_law (go_simp; refine (unhide HC _).mono ?_; rintro e w3 ⟨x, rfl, hr3⟩; have HR3 := hide hr3; clear hr3)
    all_goals
      go_wp2
      go_ret
      exact ⟨x, rfl, unhide HR3⟩
  · go_enter Try.func7, Try.ntmps7
    go_wp2_with fail
    go_region_law (go_simp; refine (unhide HC _).mono ?_; rintro e w3 ⟨x, rfl, hr3⟩; have HR3 := hide hr3; clear hr3)
    all_goals
      go_wp2
      go_ret
      exact ⟨x, rfl, unhide HR3⟩
section
variable {c : Cf} {w w' : World} {s : St} {N : Nat}
theorem collect28_any (h : Re c w s N) (b : Bool) : Calls Try.prog 28 #[.pointer (some ⟨c.sb, 0, none⟩), .iface 61 (.pointer (some ⟨c.sb, 9, none⟩)), .bool b] w fun e w' => ∃ n : Int, e = .returned (.int .i64 n) ∧ ∃ m : Nat, ∃ s' φ, n = (m : Int) ∧ Re c w' s' N ∧ Ev c w s w' s' ∧ Iso (grF s.F) s.ro (grF s'.F) s'.ro φ ∧ (b = true → Wds (grF s.F) s.ro m) := by
  refine (collect28_walk b c.sb _ w (R := fun yw ow w' => ∃ s' φ, s'.yw = yw ∧ s'.ow = ow ∧ Re c w' s' N ∧ Ev c w s w' s' ∧ Iso (grF s.F) s.ro (grF s'.F) s'.ro φ ∧ (b = true → Exact s')) (hide ?_) (hide ?_)).mono ?_
  · cases b
    · refine (young43_any h).mono ?_
      rintro e w' ⟨rfl, s', φ, h1, h2, h3, _⟩
      exact ⟨rfl, s'.yw, s'.ow, s', φ, rfl, rfl, h1, h2, h3, fun e => by cases e⟩
    · refine (all42_any h).mono ?_
      rintro e w' ⟨rfl, s', φ, h1, h2, h3, h4, h5⟩
      exact ⟨rfl, s'.yw, s'.ow, s', φ, rfl, rfl, h1, h2, h3, fun _ => ⟨h4, h5⟩⟩
  · rintro yw ow w' ⟨s', φ, rfl, rfl, h1, _⟩
    exact h1.mn.words 0
  · rintro e w' ⟨yw, ow, w1, q, rfl, ⟨s', φ, rfl, rfl, h1, h2, h3, h4⟩, rfl⟩
    refine ⟨_, rfl, s'.yw + s'.ow, s', φ, rfl, h1.drewN q, h2.trans (Ev.drewN q), h3, fun hb => ?_⟩
    obtain ⟨m0, hm0, _⟩ := h.wds
    rw [← (hm0.iso h3).eq (h1.exact (h4 hb))]
    exact hm0
theorem pminor (h : Re c w s N) : Calls Try.prog 7 #[.pointer (some ⟨c.sb, 0, none⟩), .bool false] w (POk c w s N .minor mkC) := by
  refine (collect7_walk false c.sb w (R := fun n w' => ∃ s' φ, Re c w' s' N ∧ Ev c w s w' s' ∧ Iso (grF s.F) s.ro (grF s'.F) s'.ro φ) (hide fun k => ?_)).mono ?_
  · refine (collect28_any (h.drewN k) false).mono ?_
    rintro e w' ⟨n, rfl, m, s', φ, rfl, h1, h2, h3, _⟩
    exact ⟨_, rfl, s', φ, h1, (Ev.drewN k).trans h2, h3⟩
  · rintro e w' ⟨n, rfl, s', φ, h1, h2, h3⟩
    exact ⟨(0, 0), s', rfl, h1, h2, rfl, φ, h3⟩
theorem pmajor (h : Re c w s N) : Calls Try.prog 7 #[.pointer (some ⟨c.sb, 0, none⟩), .bool true] w (POk c w s N .major mkC) := by
  refine (collect7_walk true c.sb w (R := fun n w' => ∃ m : Nat, ∃ s' φ, n = (m : Int) ∧ Re c w' s' N ∧ Ev c w s w' s' ∧ Iso (grF s.F) s.ro (grF s'.F) s'.ro φ ∧ Wds (grF s.F) s.ro m) (hide fun k => ?_)).mono ?_
  · refine (collect28_any (h.drewN k) true).mono ?_
    rintro e w' ⟨n, rfl, m, s', φ, rfl, h1, h2, h3, h4⟩
    exact ⟨_, rfl, m, s', φ, rfl, h1, (Ev.drewN k).trans h2, h3, h4 rfl⟩
  · rintro e w' ⟨n, rfl, m, s', φ, rfl, h1, h2, h3, h4⟩
    exact ⟨((m : Int), 0), s', rfl, h1, h2, m, h4, rfl, φ, h3⟩
end
end Rs
end Go.Proofs.Ytaapakpanbfmlaa
namespace Go.Proofs.Ytaapakpanbfmlaa
namespace Rs
open Go.RowKit Hp
set_option linter.unusedVariables false
set_option linter.unusedSimpArgs false
set_option maxRecDepth 100000 in
set_option maxHeartbeats 2000000 in
theorem new31_any (lim room : Nat) (w : World) (hl : lim ≤ 16384) (hr : room ≤ lim) :
    Calls Try.prog 31 #[.int .i64 (lim : Int), .int .i64 (room : Int)] w fun e w' => e = .returned (.agg #[.int .i64 (lim : Int), .int .i64 (room : Int), .int .i64 (lim : Int), .slice none 0 0, .int .i64 0, .slice none 0 0, .int .i64 0, .slice none 0 0, .map none]) ∧ Fr [] w w' := by
  have hli : (lim : Int) ≤ 16384 := by omega
  have hri : (room : Int) ≤ (lim : Int) := by omega
  have m1 : min (min (room : Int) (lim : Int)) 65536 = (room : Int) := by omega
  have m2 : min (room : Int) (min (lim : Int) 65536) = (room : Int) := by omega
  have m3 : max (0 : Int) (room : Int) = (room : Int) := by omega
  have m4 : min (lim : Int) 1048576 = (lim : Int) := by omega
  have u54 : (Try.prog.underlying 54).map (fun d => match d with | .struct _ | .array _ _ => true | _ => false) = some true := by kernel_rfl
  obtain ⟨d54, hu54, hd54⟩ := Option.map_eq_some_iff.1 u54
  have Hu := hide hu54
  have Hd := hide hd54
  clear u54 hu54 hd54
  go_enter Try.func31, Try.ntmps31
  go_wp2
  refine bodyPost_ret (results_cell_row rfl _ _ w.heap.size 54 _ (0, 0) _ rfl (heap_alloc_new _ _) (unhide Hu) (by have h := unhide Hd; clear Hd; revert h; cases d54 <;> intro h <;> first | rfl | cases h) (by kernel_rfl)) rfl ?_
  exact ⟨rfl, Fr.of_below ((Below.refl _ _).alloc (Nat.le_refl _) _)⟩
/-- A new space. -/
def St.new : St := ⟨fun _ => .slice none 0 0, fun _ => [], 0, 0, .slice none 0 0, .map none, [], List.replicate 16 0, fun _ => none⟩
theorem St.new_bl (c : Cf) : ∀ p, ∀ b ∈ St.new.bl c p, b = c.sb := by
  intro p b hb
  cases p with
  | sb => simpa [St.bl] using hb
  | cv => simp [St.bl, St.new, mblk] at hb
  | tab d => simp [St.bl, St.new, ob, Value.ownBlock] at hb
  | row r => simp [St.bl, St.new] at hb
theorem Re.new {c : Cf} {w : World} (hb : w.heap[c.sb]? = some (.cells (St.new.cells c).toArray 59 (0, 0))) (hB : c.B ≤ w.heap.size) : Re c w St.new 0 := by
  refine ⟨⟨fun p => ?_, fun p p' hpp b hb hb' => ?_, hB⟩, fun r => ?_, fun d t ht => by simp [St.new] at ht, rfl, rfl, fun r t ht => by simp [St.new] at ht, fun x hx => ?_, fun r t k x _ ht => by simp [St.new] at ht, fun r k hk => by simp [St.new] at hk, fun r t ht => by simp [St.new] at ht, fun r t ht => by simp [St.new] at ht, rfl, rfl, by simp [St.new], by omega⟩
  · cases p with
    | sb => exact ⟨hb, rfl⟩
    | cv => exact .inl ⟨rfl, rfl⟩
    | tab d => exact ⟨rfl, .inl ⟨rfl, rfl⟩⟩
    | row r => intro t ht; simp [St.new] at ht
  · cases p <;> cases p' <;> first | exact absurd rfl hpp | (simp [St.bl, St.new, mblk, ob, Value.ownBlock] at hb; done) | (simp [St.bl, St.new, mblk, ob, Value.ownBlock] at hb'; done)
  · unfold srcF St.new; simp
  · exact .inl (List.eq_of_mem_replicate hx)
set_option maxRecDepth 100000 in
set_option maxHeartbeats 2000000 in
theorem new9_walk (lim room : Nat) (w : World) (HN : Hid (Calls Try.prog 31 #[.int .i64 (lim : Int), .int .i64 (room : Int)] w fun e w' => e = .returned (.agg #[.int .i64 (lim : Int), .int .i64 (room : Int), .int .i64 (lim : Int), .slice none 0 0, .int .i64 0, .slice none 0 0, .int .i64 0, .slice none 0 0, .map none]) ∧ Fr [] w w')) :
    Calls Try.prog 9 #[.int .i64 (lim : Int), .int .i64 (room : Int)] w fun e w' => ∃ w1, e = .returned (.pointer (some ⟨w1.heap.size, 0, none⟩)) ∧ Fr [] w w1 ∧ w' = w1.alloc (.cells (St.new.cells ⟨0, 0, lim, room⟩).toArray 59) := by
  go_enter Try.func9, Try.ntmps9
  go_wp2_with fail
  refine (unhide HN).mono ?_
  rintro e w1 ⟨rfl, hf⟩
  have HF := hide hf
  clear hf
  go_wp2
  go_ret
  exact ⟨w1, rfl, unhide HF, rfl⟩
theorem pnew (lim room : Nat) (w : World) (hl : lim ≤ 16384) (hr : room ≤ lim) :
    Calls Try.prog 9 #[.int .i64 (lim : Int), .int .i64 (room : Int)] w fun e w' => ∃ sb, e = .returned (.pointer (some ⟨sb, 0, none⟩)) ∧ Fr [] w w' ∧ w.heap.size ≤ sb ∧ Re ⟨w.heap.size, sb, lim, room⟩ w' St.new 0 := by
  refine (new9_walk lim room w (hide (new31_any lim room w hl hr))).mono ?_
  rintro e w' ⟨w1, rfl, hf, rfl⟩
  have hs := hf.size
  exact ⟨_, rfl, hf.trans (Fr.of_below ((Below.refl _ _).alloc (Nat.le_refl _) _)), hs, Re.new (c := ⟨w.heap.size, w1.heap.size, lim, room⟩) (heap_alloc_new _ _) (by simp; omega)⟩
end Rs
end Go.Proofs.Ytaapakpanbfmlaa
