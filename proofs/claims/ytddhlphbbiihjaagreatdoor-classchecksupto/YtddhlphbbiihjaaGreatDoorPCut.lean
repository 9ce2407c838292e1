/-
  jvmcoreref2's cut: fail, take, num, signed.
-/
import Derived.Test.YtddhlphbbiihjaaGreatDoorPDec
import Derived.Deep.OwnRows
namespace Go.Proofs.YtddhlphbbiihjaaGreatDoor.Dc
open Go.RowKit
/-- The block of a cut. -/
def Rc (w : World) (R : Nat) (s : ByteArray) (st : St) : Prop :=
  w.heap[R]? = some (.cells #[.string s, .int .i64 (st.pos : Int), .int .i64 (st.e : Int), .int .i64 (st.p : Int)] 140 (0, 0))
section
variable {w w' : World} {R : Nat} {s : ByteArray} {st : St}
theorem Rc.lt (h : Rc w R s st) : R < w.heap.size := (Array.getElem?_eq_some_iff.1 h).1
theorem Rc.cell (h : Rc w R s st) (i : Nat) : w.cell? ⟨R, i, none⟩ = #[.string s, .int .i64 (st.pos : Int), .int .i64 (st.e : Int), .int .i64 (st.p : Int)][i]? := cell_of_row w R i _ 140 (0, 0) h
theorem Rc.frozen (h : Rc w R s st) (i : Nat) : w.frozen? ⟨R, i, none⟩ = false := by
  unfold World.frozen?; unfold Rc at h; simp only [h]; simp
theorem Rc.cells (h : Rc w R s st) : w.cell? ⟨R, 0, none⟩ = some (.string s) ∧ w.cell? ⟨R, 1, none⟩ = some (.int .i64 (st.pos : Int)) ∧ w.cell? ⟨R, 2, none⟩ = some (.int .i64 (st.e : Int)) ∧
    w.cell? ⟨R, 3, none⟩ = some (.int .i64 (st.p : Int)) :=
  ⟨h.cell 0, h.cell 1, h.cell 2, h.cell 3⟩
theorem Rc.kept {row : Option Nat} (h : Rc w R s st) (hg : w.grownBy w' row) (hne : some R ≠ row) : Rc w' R s st := by
  unfold Rc; rw [hg.block R h.lt hne]; exact h
theorem Rc.drewN (h : Rc w R s st) (n : Nat) : Rc (w.drewN n) R s st := h
theorem Rc.alloc (h : Rc w R s st) (o : Obj) : Rc (w.alloc o) R s st := h.kept (World.grownBy_alloc w o none) (by simp)
theorem Rc.setPos (h : Rc w R s st) (x : Nat) : Rc (w.setCell ⟨R, 1, none⟩ (.int .i64 (x : Int))) R s ⟨x, st.e, st.p⟩ := by
  unfold Rc; rw [heap_setCell_same w R 1 _ 140 _ h]; rfl
theorem Rc.setErr (h : Rc w R s st) (e p : Nat) : Rc ((w.setCell ⟨R, 2, none⟩ (.int .i64 (e : Int))).setCell ⟨R, 3, none⟩ (.int .i64 (p : Int))) R s ⟨st.pos, e, p⟩ := by
  have h1 : (w.setCell ⟨R, 2, none⟩ (.int .i64 (e : Int))).heap[R]? = _ := heap_setCell_same w R 2 _ 140 _ h
  unfold Rc; rw [heap_setCell_same _ R 3 _ 140 _ h1]; rfl
end
def TookC (R : Nat) (s : ByteArray) (st' : St) (w : World) (x : Value) (e : Ending) (w' : World) : Prop :=
  e = .returned x ∧ Rc w' R s st' ∧ w.grownBy w' (some R)
set_option maxHeartbeats 400000 in
theorem cfail_any (R : Nat) (s : ByteArray) (st : St) (e p : Nat) (w : World) (h : Rc w R s st) :
    Calls Tryz.prog 95 #[.pointer (some ⟨R, 0, none⟩), .int .i64 (e : Int), .int .i64 (p : Int)] w fun x w' => x = .returned (.tuple #[]) ∧ Rc w' R s (M.fail st e p) ∧ w.grownBy w' (some R) ∧ w'.heap.size = w.heap.size := by
  obtain ⟨h0, h1, h2, h3⟩ := h.cells
  have hf2 := h.frozen 2
  have hf3 := h.frozen 3
  by_cases he : st.e = 0
  · have hr := h.setErr e p
    rw [show M.fail st e p = ⟨st.pos, e, p⟩ by unfold M.fail; rw [if_pos he]]
    have hg := grown_trans (grown_set w R 2 (.int .i64 (e : Int))) (grown_set _ R 3 (.int .i64 (p : Int)))
    have hd : ((st.e : Int) == 0) = true := by rw [beq_iff_eq]; omega
    clear he h
    go_enter Tryz.func95, Tryz.ntmps95
    go_wp2
    go_end0
    exact ⟨rfl, hr, hg, by simp⟩
  · rw [show M.fail st e p = st by unfold M.fail; rw [if_neg he]]
    have hd : ((st.e : Int) == 0) = false := by rw [beq_eq_false_iff_ne]; omega
    clear he
    go_enter Tryz.func95, Tryz.ntmps95
    go_wp2
    go_end0
    exact ⟨rfl, h, grown_refl _ _, rfl⟩
def zeros (n : Nat) : ByteArray := ⟨(List.replicate n 0).toArray⟩
/-- What take hands out: n bytes, whatever is wrong. -/
def took (s : List UInt8) (n : Nat) (st : St) : ByteArray := if (M.take s n st).2.e = 0 then ⟨(M.take s n st).1.toArray⟩ else zeros n
theorem Tryz.info5 : (Tryz.prog.info? 5).map (fun i => (i.zero, i.size, i.bytes)) = some (some (.int .u8 0), 1, 1) := by kernel_rfl
theorem mk_zeros (n : Nat) (hn : n ≤ 1048576) (w : World) : Sem.run Tryz.prog (Instr.makeSlice 79 (.int .i64 (n : Int)) (.int .i64 (n : Int))) w = .ok (.slice (some ⟨w.heap.size, 0, none⟩) n n) (w.alloc (.cells (madeCells #[.int .u8 0] n) 5)) :=
  run_make_row' (P := Tryz.prog) 79 5 (.int .u8 0) 1 Tryz.underlying79 Tryz.info5 rfl .i64 .i64 n (by omega) (by omega) w
theorem cv_zeros (n : Nat) (w : World) : Sem.run Tryz.prog (convert 79 9 (.slice (some ⟨w.heap.size, 0, none⟩) n n)) (w.alloc (.cells (madeCells #[.int .u8 0] n) 5)) = .ok (.string (zeros n)) (w.alloc (.cells (madeCells #[.int .u8 0] n) 5)) := by
  have h := run_convert_bytes_arg (P := Tryz.prog) (w.alloc (.cells (madeCells #[.int .u8 0] n) 5)) 79 5 Tryz.underlying79 Tryz.underlying5 w.heap.size 0 n n (List.replicate n 0) (by simp) (fun i hi => by
    have h := cell_of_row (w.alloc (.cells (madeCells #[.int .u8 0] n) 5)) w.heap.size i _ 5 (0, 0) (heap_alloc_new w _)
    rw [Nat.zero_add, h, ← Array.getElem?_toList, toList_madeCells_one]
    simp [hi]) 9 Tryz.underlying9
  rw [h]
  simp [strOfNums, zeros]
set_option maxRecDepth 100000 in
set_option maxHeartbeats 1000000 in
theorem ctake_bad (R n : Nat) (s : ByteArray) (st : St) (w : World) (h : Rc w R s st) (hn : n ≤ 8) (he : st.e ≠ 0) :
    Calls Tryz.prog 138 #[.pointer (some ⟨R, 0, none⟩), .int .i64 (n : Int)] w fun x w' => TookC R s st w (.string (zeros n)) x w' := by
  obtain ⟨h0, h1, h2, h3⟩ := h.cells
  have hd : ((st.e : Int) == 0) = false := by rw [beq_eq_false_iff_ne]; omega
  have hd2 : ((st.e : Int) != 0) = true := by rw [bne_iff_ne]; omega
  have hmk := mk_zeros n (by omega)
  have hcv := cv_zeros n
  clear he
  go_enter Tryz.func138, Tryz.ntmps138
  go_wp2_with fail
  go_quiet (fail)
  have hr1 : Rc (w.drewN nq) R s st := h.drewN nq
  have hg1 := grown_drewN w (some R) nq
  generalize w.drewN nq = W at *
  obtain ⟨x0, x1, x2, x3⟩ := hr1.cells
  clear h0 h1 h2 h3 h
  go_wp2
  go_ret
  exact ⟨rfl, hr1.alloc _, grown_trans hg1 (World.grownBy_alloc _ _ _)⟩
set_option maxRecDepth 100000 in
set_option maxHeartbeats 1000000 in
theorem ctake_end (R n : Nat) (s : ByteArray) (st : St) (w : World) (h : Rc w R s st) (hs : s.size ≤ 131072) (hn : n ≤ 8) (hp : st.pos ≤ s.size) (he : st.e = 0) (hl : s.size < st.pos + n) :
    Calls Tryz.prog 138 #[.pointer (some ⟨R, 0, none⟩), .int .i64 (n : Int)] w fun x w' => TookC R s ⟨st.pos, 1, s.size⟩ w (.string (zeros n)) x w' := by
  obtain ⟨h0, h1, h2, h3⟩ := h.cells
  have hd : ((st.e : Int) == 0) = true := by rw [beq_iff_eq]; omega
  have hmk := mk_zeros n (by omega)
  have hcv := cv_zeros n
  have hf : M.fail st 1 s.size = ⟨st.pos, 1, s.size⟩ := by unfold M.fail; rw [if_pos he]
  have Hf := hide hf
  have hli : (s.size : Int) < (st.pos : Int) + (n : Int) := by omega
  clear he hf
  go_enter Tryz.func138, Tryz.ntmps138
  go_wp2_with fail
  go_quiet (fail)
  go_wp2_with fail
  refine (cfail_any R s st 1 s.size _ (h.drewN _)).mono ?_
  rintro e w1 ⟨rfl, hr1, hg1, hz1⟩
  rw [unhide Hf] at hr1
  have hg2 := grown_trans (grown_drewN w (some R) nq) hg1
  obtain ⟨x0, x1, x2, x3⟩ := hr1.cells
  clear h0 h1 h2 h3 h hg1 hz1
  go_wp2
  go_ret
  exact ⟨rfl, hr1.alloc _, grown_trans hg2 (World.grownBy_alloc _ _ _)⟩
theorem Rc.setPosN {w : World} {R : Nat} {s : ByteArray} {st : St} (h : Rc w R s st) (k n : Nat) (he : st.e = 0) :
    Rc ((w.drewN k).setCell ⟨R, 1, none⟩ (.int .i64 ((st.pos : Int) + (n : Int)))) R s ⟨st.pos + n, 0, st.p⟩ := by
  have hq := (h.drewN k).setPos (st.pos + n)
  rw [he, Int.natCast_add] at hq
  exact hq
set_option maxRecDepth 100000 in
set_option maxHeartbeats 1000000 in
theorem ctake_ok (R n : Nat) (s : ByteArray) (st : St) (w : World) (h : Rc w R s st) (hs : s.size ≤ 131072) (hn : n ≤ 8) (he : st.e = 0) (hl : st.pos + n ≤ s.size) :
    Calls Tryz.prog 138 #[.pointer (some ⟨R, 0, none⟩), .int .i64 (n : Int)] w fun x w' => TookC R s ⟨st.pos + n, 0, st.p⟩ w (.string (s.extract st.pos (st.pos + n))) x w' := by
  obtain ⟨h0, h1, h2, h3⟩ := h.cells
  have hf1 := h.frozen 1
  have hd : ((st.e : Int) == 0) = true := by rw [beq_iff_eq]; omega
  have hd2 : ((st.e : Int) != 0) = false := by rw [bne_eq_false_iff_eq]; omega
  have hli : (st.pos : Int) + (n : Int) ≤ (s.size : Int) := by omega
  have He := hide he
  clear he
  go_enter Tryz.func138, Tryz.ntmps138
  go_wp2_with fail
  go_quiet (fail)
  go_wp2_with fail
  go_quiet (fail)
  go_wp2
  go_ret
  exact ⟨rfl, h.setPosN _ n (unhide He), grown_trans (grown_drewN w (some R) _) (grown_set _ R 1 _)⟩
/-- take, whatever the state. -/
theorem ctake_any (R n : Nat) (s : ByteArray) (st : St) (w : World) (h : Rc w R s st) (hs : s.size ≤ 131072) (hn : n ≤ 8) (hp : st.pos ≤ s.size) :
    Calls Tryz.prog 138 #[.pointer (some ⟨R, 0, none⟩), .int .i64 (n : Int)] w fun x w' => TookC R s (M.take s.data.toList n st).2 w (.string (took s.data.toList n st)) x w' := by
  have hlen : s.data.toList.length = s.size := by simp
  unfold took
  by_cases he : st.e = 0
  · by_cases hl : s.size < st.pos + n
    · have ht : M.take s.data.toList n st = ([], ⟨st.pos, 1, s.size⟩) := by unfold M.take; rw [if_pos he, hlen, if_pos (by omega)]
      rw [ht]
      simp only [Nat.succ_ne_zero, if_false]
      exact ctake_end R n s st w h hs hn hp he hl
    · have ht : M.take s.data.toList n st = ((s.data.toList.drop st.pos).take n, ⟨st.pos + n, 0, st.p⟩) := by unfold M.take; rw [if_pos he, hlen, if_neg (by omega)]
      rw [ht]
      simp only [if_true]
      rw [← extract_list]
      exact ctake_ok R n s st w h hs hn he (by omega)
  · rw [M.take_bad he]
    simp only [if_neg he]
    exact ctake_bad R n s st w h hn he
theorem num_zeros (n : Nat) : M.num (List.replicate n 0) = 0 := by
  induction n with
  | zero => rfl
  | succ n ih => rw [List.replicate_succ', M.num_snoc, ih]; rfl
theorem took_num (s : List UInt8) (n : Nat) (st : St) : M.num (took s n st).data.toList = M.num (M.take s n st).1 := by
  unfold took
  split
  · simp
  · rename_i h
    have : (M.take s n st).1 = [] := by
      unfold M.take at h ⊢
      split
      · rename_i he
        rw [if_pos he] at h
        split
        · rfl
        · rename_i hl; rw [if_neg hl] at h; exact absurd rfl h
      · rfl
    rw [this]; simp [zeros, num_zeros]; rfl
theorem took_size (s : List UInt8) (n : Nat) (st : St) : (took s n st).size = n := by
  unfold took
  split
  · rename_i h
    unfold M.take at h ⊢
    split
    · rename_i he
      rw [if_pos he] at h
      split
      · rename_i hl; rw [if_pos hl] at h; cases h
      · rename_i hl
        show ((s.drop st.pos).take n).toArray.size = n
        simp; omega
    · rename_i he; rw [if_neg he] at h; exact absurd h he
  · show (List.replicate n (0 : UInt8)).toArray.size = n
    simp
set_option maxHeartbeats 400000 in
theorem Num_any (t : ByteArray) (w : World) (ht : t.size ≤ 8) :
    Calls Tryz.prog 137 #[.string t] w fun e w' => e = .returned (.int .u64 (M.num t.data.toList : Nat)) ∧ w' = w := by
  have hlen : t.data.toList.length = t.size := by simp
  go_enter Tryz.func137, Tryz.ntmps137
  go_wp2_with fail
  go_loop [3, 4] (fun x i => ∃ k : Nat, k ≤ t.size ∧ i = .int .i64 k ∧ x = .int .u64 (M.num (t.data.toList.take k) : Nat)) (fun _ i => t.size - (intOf i).toNat)
  case atStart => exact ⟨0, Nat.zero_le _, rfl, rfl⟩
  case round =>
    obtain ⟨k, hk, rfl, rfl⟩ := hrel
    by_cases hlt : k < t.size
    · obtain ⟨b, hb⟩ : ∃ b : Nat, b = (t.data.toList.getD k 0).toNat := ⟨_, rfl⟩
      have hbi : ((t[k]'hlt).toNat : Int) = (b : Int) := by
        have : k < t.data.toList.length := by omega
        rw [hb]; simp only [List.getD, List.getElem?_eq_getElem this, Option.getD_some]; rfl
      have hnt := M.num_take t.data.toList k (by omega)
      have hbt : b < 256 := by rw [hb]; exact (t.data.toList.getD k 0).toNat_lt
      have hx := M.num_lt (t.data.toList.take k)
      have hx7 : M.num (t.data.toList.take k) ≤ 72057594037927935 := by
        have hlk : (t.data.toList.take k).length ≤ 7 := by rw [List.length_take]; omega
        have := Nat.pow_le_pow_right (show 0 < 256 by omega) hlk
        have e7 : 256 ^ 7 = 72057594037927936 := by decide
        omega
      rw [← hb] at hnt
      clear hb hx
      obtain ⟨x, hxx⟩ : ∃ x, x = M.num (t.data.toList.take k) := ⟨_, rfl⟩
      rw [← hxx] at hnt hx7 ⊢
      have Hnt := hide hnt
      clear hxx hnt
      go_wp2
      go_round
      case rel => exact ⟨k + 1, by omega, by go_num, by rw [unhide Hnt]; go_num⟩
      case measure => simp [intOf]; omega
    · have hkl : k = t.size := by omega
      subst hkl
      rw [List.take_of_length_le (by omega)]
      go_wp2
      go_ret
      exact ⟨rfl, rfl⟩
set_option maxHeartbeats 400000 in
theorem cnum_any (R n : Nat) (s : ByteArray) (st : St) (w : World) (h : Rc w R s st) (hs : s.size ≤ 131072) (hn : n ≤ 4) (hp : st.pos ≤ s.size) :
    Calls Tryz.prog 114 #[.pointer (some ⟨R, 0, none⟩), .int .i64 (n : Int)] w fun x w' => TookC R s (M.take s.data.toList n st).2 w (.int .i64 (M.num (M.take s.data.toList n st).1 : Nat)) x w' := by
  have hc := ctake_any R n s st w h hs (by omega) hp
  have hN := fun w1 => Num_any (took s.data.toList n st) w1 (by rw [took_size]; omega)
  rw [took_num] at hN
  have hl := M.num_le (M.take_len s.data.toList n st)
  have h2 : (256 ^ n : Nat) ≤ 256 ^ 4 := Nat.pow_le_pow_right (by omega) hn
  simp only [Nat.reducePow] at h2
  obtain ⟨x, hx⟩ : ∃ x, x = M.num (M.take s.data.toList n st).1 := ⟨_, rfl⟩
  rw [← hx] at hN hl ⊢
  have hx4 : x < 4294967296 := by omega
  have Hc := hide hc
  have HN := hide hN
  clear hc hN hx hl h2 h
  go_enter Tryz.func114, Tryz.ntmps114
  go_wp2_with fail
  refine (unhide Hc).mono ?_
  rintro e w1 ⟨rfl, hr1, hg1⟩
  go_wp2_with fail
  refine (unhide HN _).mono ?_
  rintro e w2 ⟨rfl, hww⟩
  subst w2
  go_wp2
  go_ret
  exact ⟨rfl, hr1, hg1⟩
set_option maxRecDepth 100000 in
set_option maxHeartbeats 400000 in
theorem signed_any (t : ByteArray) (w : World) (ht : t.size = 1 ∨ t.size = 2 ∨ t.size = 4) :
    Calls Tryz.prog 139 #[.string t] w fun e w' => e = .returned (.int .i64 (M.sgn t.size (M.num t.data.toList))) ∧ w' = w := by
  have hN := fun w1 => Num_any t w1 (by omega)
  have hl := M.num_le (n := t.size) (l := t.data.toList) (by simp)
  obtain ⟨x, hx⟩ : ∃ x, x = M.num t.data.toList := ⟨_, rfl⟩
  rw [← hx] at hN hl ⊢
  have HN := hide hN
  clear hN hx
  unfold M.sgn
  rcases ht with ht | ht | ht
  all_goals
    rw [ht] at hl ⊢
    simp only [Nat.reducePow] at hl ⊢
  · by_cases hb : 2 * x < 256
    · rw [if_pos hb]
      have hb' : (x : Int) < 128 := by omega
      clear hb hl
      have hx0 : (0 : Int) ≤ (x : Int) := by omega
      obtain ⟨X, hX⟩ : ∃ X : Int, X = (x : Int) := ⟨_, rfl⟩
      rw [← hX] at hb' HN hx0 ⊢
      clear hX
      go_enter Tryz.func139, Tryz.ntmps139
      go_wp2_with fail
      refine (unhide HN _).mono ?_
      rintro e w2 ⟨rfl, hww⟩
      subst w2
      go_wp2
      all_goals go_ret
      all_goals exact ⟨rfl, rfl⟩
    · rw [if_neg hb]
      have hb' : (128 : Int) ≤ (x : Int) := by omega
      have hl' : (x : Int) < 256 := by omega
      clear hb hl
      have hx0 : (0 : Int) ≤ (x : Int) := by omega
      obtain ⟨X, hX⟩ : ∃ X : Int, X = (x : Int) := ⟨_, rfl⟩
      rw [← hX] at hb' HN hx0 hl' ⊢
      clear hX
      go_enter Tryz.func139, Tryz.ntmps139
      go_wp2_with fail
      refine (unhide HN _).mono ?_
      rintro e w2 ⟨rfl, hww⟩
      subst w2
      go_wp2
      all_goals go_ret
      all_goals exact ⟨rfl, rfl⟩
  · by_cases hb : 2 * x < 65536
    · rw [if_pos hb]
      have hb' : (x : Int) < 32768 := by omega
      clear hb hl
      have hx0 : (0 : Int) ≤ (x : Int) := by omega
      obtain ⟨X, hX⟩ : ∃ X : Int, X = (x : Int) := ⟨_, rfl⟩
      rw [← hX] at hb' HN hx0 ⊢
      clear hX
      go_enter Tryz.func139, Tryz.ntmps139
      go_wp2_with fail
      refine (unhide HN _).mono ?_
      rintro e w2 ⟨rfl, hww⟩
      subst w2
      go_wp2
      all_goals go_ret
      all_goals exact ⟨rfl, rfl⟩
    · rw [if_neg hb]
      have hb' : (32768 : Int) ≤ (x : Int) := by omega
      have hl' : (x : Int) < 65536 := by omega
      clear hb hl
      have hx0 : (0 : Int) ≤ (x : Int) := by omega
      obtain ⟨X, hX⟩ : ∃ X : Int, X = (x : Int) := ⟨_, rfl⟩
      rw [← hX] at hb' HN hx0 hl' ⊢
      clear hX
      go_enter Tryz.func139, Tryz.ntmps139
      go_wp2_with fail
      refine (unhide HN _).mono ?_
      rintro e w2 ⟨rfl, hww⟩
      subst w2
      go_wp2
      all_goals go_ret
      all_goals exact ⟨rfl, rfl⟩
  · by_cases hb : 2 * x < 4294967296
    · rw [if_pos hb]
      have hb' : (x : Int) < 2147483648 := by omega
      clear hb hl
      have hx0 : (0 : Int) ≤ (x : Int) := by omega
      obtain ⟨X, hX⟩ : ∃ X : Int, X = (x : Int) := ⟨_, rfl⟩
      rw [← hX] at hb' HN hx0 ⊢
      clear hX
      go_enter Tryz.func139, Tryz.ntmps139
      go_wp2_with fail
      refine (unhide HN _).mono ?_
      rintro e w2 ⟨rfl, hww⟩
      subst w2
      go_wp2
      all_goals go_ret
      all_goals exact ⟨rfl, rfl⟩
    · rw [if_neg hb]
      have hb' : (2147483648 : Int) ≤ (x : Int) := by omega
      have hl' : (x : Int) < 4294967296 := by omega
      clear hb hl
      have hx0 : (0 : Int) ≤ (x : Int) := by omega
      obtain ⟨X, hX⟩ : ∃ X : Int, X = (x : Int) := ⟨_, rfl⟩
      rw [← hX] at hb' HN hx0 hl' ⊢
      clear hX
      go_enter Tryz.func139, Tryz.ntmps139
      go_wp2_with fail
      refine (unhide HN _).mono ?_
      rintro e w2 ⟨rfl, hww⟩
      subst w2
      go_wp2
      all_goals go_ret
      all_goals exact ⟨rfl, rfl⟩
end Go.Proofs.YtddhlphbbiihjaaGreatDoor.Dc
