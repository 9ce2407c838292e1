/-
  firstUnit of package pool, for whatever bytes.
-/
import Derived.Test.YtgihfcjddkpkaaaMgPoLeaf
import Derived.Laws.IdiomStrings
namespace Go.Proofs.Ytgihfcjddkpkaaa.Po
set_option maxRecDepth 100000
open Go.RowKit
namespace M
theorem F_one {x : UInt8} {r : List UInt8} (h : 0 < x.toNat) (h2 : x.toNat < 128) : First (x :: r) x.toNat 1 :=
  .inl ⟨by omega, by unfold size; rw [if_pos ⟨h, h2⟩], r, by rw [enc_of1 ⟨h, h2⟩]; rfl⟩
theorem F_zero {x : UInt8} {r : List UInt8} (h : x.toNat = 0) : First (x :: r) 0 0 := by
  refine .inr ⟨rfl, rfl, fun v hv t g => ?_⟩
  rcases begin1 hv g with q | ⟨q, _⟩ | ⟨q, _⟩ <;> omega
theorem F_lead {x : UInt8} {r : List UInt8} (h : (128 ≤ x.toNat ∧ x.toNat < 192) ∨ 240 ≤ x.toNat) : First (x :: r) 0 0 := by
  refine .inr ⟨rfl, rfl, fun v hv t g => ?_⟩
  rcases begin1 hv g with q | ⟨q, q', _⟩ | ⟨q, q', _⟩ <;> omega
theorem F_two {x c : UInt8} {r : List UInt8} (h1 : 192 ≤ x.toNat) (h2 : x.toNat < 224) (h3 : 128 ≤ c.toNat) (h4 : c.toNat < 192) (hn : size ((x.toNat - 192) * 64 + (c.toNat - 128)) = 2) : First (x :: c :: r) ((x.toNat - 192) * 64 + (c.toNat - 128)) 2 := by
  have hk : ¬ (0 < (x.toNat - 192) * 64 + (c.toNat - 128) ∧ (x.toNat - 192) * 64 + (c.toNat - 128) < 128) := by
    intro hk; unfold size at hn; rw [if_pos hk] at hn; omega
  exact .inl ⟨by omega, hn.symm, r, by rw [enc_of2 h1 h2 h3 h4 rfl hk]; rfl⟩
theorem F_two_no {x c : UInt8} {r : List UInt8} (h1 : 192 ≤ x.toNat) (h2 : x.toNat < 224) (h : ¬ (128 ≤ c.toNat ∧ c.toNat < 192) ∨ size ((x.toNat - 192) * 64 + (c.toNat - 128)) ≠ 2) : First (x :: c :: r) 0 0 := by
  refine .inr ⟨rfl, rfl, fun v hv t g => ?_⟩
  rcases begin1 hv g with q | ⟨q, q', c', ⟨r', e⟩, g1, g2, g3, g4⟩ | ⟨q, q', _⟩
  · omega
  · simp only [List.cons.injEq] at e
    obtain ⟨rfl, _⟩ := e
    rcases h with h | h
    · exact h ⟨g1, g2⟩
    · rw [← g3] at h; unfold size at h; rw [if_neg g4, if_pos (by omega)] at h; omega
  · omega
theorem F_two_end {x : UInt8} (h1 : 192 ≤ x.toNat) (h2 : x.toNat < 224) : First [x] 0 0 := by
  refine .inr ⟨rfl, rfl, fun v hv t g => ?_⟩
  rcases begin1 hv g with q | ⟨q, q', c', ⟨r', e⟩, _⟩ | ⟨q, q', _⟩
  · omega
  · simp at e
  · omega
theorem F_three {x c d : UInt8} {r : List UInt8} (h1 : 224 ≤ x.toNat) (h2 : x.toNat < 240) (h3 : 128 ≤ c.toNat) (h4 : c.toNat < 192) (h5 : 128 ≤ d.toNat) (h6 : d.toNat < 192)
    (hn : size ((x.toNat - 224) * 4096 + (c.toNat - 128) * 64 + (d.toNat - 128)) = 3) : First (x :: c :: d :: r) ((x.toNat - 224) * 4096 + (c.toNat - 128) * 64 + (d.toNat - 128)) 3 := by
  have hk : ¬ ((x.toNat - 224) * 4096 + (c.toNat - 128) * 64 + (d.toNat - 128) < 2048) := by
    intro hk; unfold size at hn; rw [if_pos hk] at hn; split at hn <;> omega
  exact .inl ⟨by omega, hn.symm, r, by rw [enc_of3 h1 h2 h3 h4 h5 h6 rfl hk]; rfl⟩
theorem F_three_no {x c d : UInt8} {r : List UInt8} (h1 : 224 ≤ x.toNat) (h2 : x.toNat < 240) (h : ¬ (128 ≤ c.toNat ∧ c.toNat < 192) ∨ ¬ (128 ≤ d.toNat ∧ d.toNat < 192) ∨ size ((x.toNat - 224) * 4096 + (c.toNat - 128) * 64 + (d.toNat - 128)) ≠ 3) : First (x :: c :: d :: r) 0 0 := by
  refine .inr ⟨rfl, rfl, fun v hv t g => ?_⟩
  rcases begin1 hv g with q | ⟨q, q', _⟩ | ⟨q, q', c', d', ⟨r', e⟩, g1, g2, g3, g4, g5, g6⟩
  · omega
  · omega
  · simp only [List.cons.injEq] at e
    obtain ⟨rfl, rfl, _⟩ := e
    rcases h with h | h | h
    · exact h ⟨g1, g2⟩
    · exact h ⟨g3, g4⟩
    · rw [← g5] at h; unfold size at h; rw [if_neg (by omega), if_neg g6] at h; omega
theorem F_three_end {x : UInt8} {r : List UInt8} (h1 : 224 ≤ x.toNat) (h2 : x.toNat < 240) (hr : r.length < 2) : First (x :: r) 0 0 := by
  refine .inr ⟨rfl, rfl, fun v hv t g => ?_⟩
  rcases begin1 hv g with q | ⟨q, q', _⟩ | ⟨q, q', c', d', ⟨r', e⟩, _⟩
  · omega
  · omega
  · rw [e] at hr; simp only [List.length_cons] at hr; omega
end M

theorem conv_bytes (w : World) (s : ByteArray) : ∃ (c : Nat) (w1 : World), Sem.run Try.prog (convert 9 67 (.string s)) w = .ok (.slice (some ⟨w.heap.size, 0, none⟩) s.size c) w1 ∧
    (∀ j, j < s.size → w1.cell? ⟨w.heap.size, j, none⟩ = some (.int .u8 (s.data.toList.getD j 0).toNat)) ∧ w1.heap.size = w.heap.size + 1 ∧ Below w.heap.size w w1 := by
  refine ⟨_, _, run_bytes_of_string w 9 67 5 s Try.underlying9 Try.underlying67 Try.underlying5, fun j hj => ?_, by simp, (Below.refl _ _).drew.alloc (Nat.le_refl _) _⟩
  have h := World.cell?_alloc_mark w.drew (bytesRow s (grownCap w s.size 0 5)) 5 ((bytesRow s (grownCap w s.size 0 5)).size, (bytesRow s (grownCap w s.size 0 5)).size + 1) j
  have h2 := bytesRow_at s (grownCap w s.size 0 5) j hj
  refine (h.trans h2).trans ?_
  have hj' : j < s.data.toList.length := by simpa using hj
  simp [List.getD, List.getElem?_eq_getElem hj']

abbrev Gave (s : ByteArray) (w : World) (e : Ending) (w' : World) : Prop := ∃ u n : Nat, e = .returned (.tuple #[.int .u16 u, .int .i64 n]) ∧ M.First s.data.toList u n ∧ Below w.heap.size w w'
theorem size_of_list {s : ByteArray} {l : List UInt8} (h : s.data.toList = l) : s.size = l.length := by rw [← h]; simp
theorem at_of_list {s : ByteArray} {l : List UInt8} (h : s.data.toList = l) (k : Nat) (hk : k < s.size) : s[k] = l.getD k 0 := by
  subst h; have : k < s.data.toList.length := by simpa using hk
  simp only [List.getD, List.getElem?_eq_getElem this, Option.getD_some]; rfl

set_option maxHeartbeats 400000 in
theorem first_lead (s : ByteArray) (w : World) (x : UInt8) (r : List UInt8) (hl : s.data.toList = x :: r) (hx : (128 ≤ x.toNat ∧ x.toNat < 192) ∨ 240 ≤ x.toNat) (hs : s.size ≤ 131072) :
    Calls Try.prog 130 #[.string s] w fun e w' => Gave s w e w' := by
  have hp : 1 ≤ s.size := by rw [size_of_list hl]; simp
  have hF := M.F_lead (r := r) hx
  rw [← hl] at hF
  obtain ⟨b, hb⟩ : ∃ b : Int, (s[0].toNat : Int) = b := ⟨_, rfl⟩
  have hbx : b = x.toNat := by rw [← hb, at_of_list hl 0 hp]; rfl
  have hbb : (128 ≤ b ∧ b < 192) ∨ 240 ≤ b := by omega
  have hbt : b ≤ 255 := by have := x.toNat_lt; omega
  clear hl hx hbx
  go_enter Try.func130, Try.ntmps130
  go_wp2_with fail
  refine (leadByte_any _ _ (by omega) (by omega)).mono ?_
  rintro e w' ⟨rfl, rfl⟩
  have hl : lead b = (0, 0) := by unfold lead; rw [if_neg (by omega), if_neg (by omega), if_neg (by omega)]
  rw [hl]
  clear hl hbb
  go_wp2
  go_ret2
  exact ⟨0, 0, rfl, hF, Below.refl _ _⟩

set_option maxHeartbeats 400000 in
theorem first_1 (s : ByteArray) (w : World) (x : UInt8) (r : List UInt8) (hl : s.data.toList = x :: r) (hx : x.toNat < 128) (hs : s.size ≤ 131072) :
    Calls Try.prog 130 #[.string s] w fun e w' => Gave s w e w' := by
  have hp : 1 ≤ s.size := by rw [size_of_list hl]; simp
  obtain ⟨b, hb⟩ : ∃ b : Int, (s[0].toNat : Int) = b := ⟨_, rfl⟩
  have hbx : b = x.toNat := by rw [← hb, at_of_list hl 0 hp]; rfl
  obtain ⟨cp, w1, hrun, -, hsz, hbe⟩ := conv_bytes w ByteArray.empty
  have hsx : ByteArray.empty.size = 0 := rfl
  rw [hsx] at hrun
  have hF : M.First s.data.toList (if M.size x.toNat = 1 then x.toNat else 0) (if M.size x.toNat = 1 then 1 else 0) := by
    rw [hl]
    by_cases h0 : x.toNat = 0
    · rw [h0]; exact M.F_zero h0
    · rw [show M.size x.toNat = 1 by unfold M.size; rw [if_pos (by omega)]]
      exact M.F_one (by omega) hx
  clear hl
  obtain ⟨u, hu⟩ : ∃ u : Nat, u = x.toNat := ⟨_, rfl⟩
  rw [← hu] at hbx hx hF
  clear hu
  subst hbx
  go_enter Try.func130, Try.ntmps130
  go_wp2_with fail
  refine (leadByte_any _ _ (by omega) (by omega)).mono ?_
  rintro e w' ⟨rfl, rfl⟩
  have hl : lead (u : Int) = ((u : Int), 1) := by unfold lead; rw [if_pos (by omega)]
  rw [hl]
  clear hl
  go_wp2_with fail
  refine wp_loop_rounds 1 ?_
  rw [rounds_succ]
  go_wp2_with fail
  refine (unitSize_any _ _ (by omega)).mono ?_
  rintro e w' ⟨rfl, rfl⟩
  by_cases h1 : M.size u = 1
  · rw [if_pos h1, if_pos h1] at hF
    rw [h1]
    clear h1
    go_wp2
    go_ret2
    exact ⟨u, 1, rfl, hF, hbe⟩
  · rw [if_neg h1, if_neg h1] at hF
    have h2 : ((M.size u : Int) != 1) = true := by rw [bne_iff_ne]; omega
    clear h1
    go_wp2
    go_ret2
    exact ⟨0, 0, rfl, hF, hbe⟩

set_option maxHeartbeats 400000 in
theorem first_short (s : ByteArray) (w : World) (x : UInt8) (r : List UInt8) (hl : s.data.toList = x :: r) (hx : (192 ≤ x.toNat ∧ x.toNat < 224 ∧ r = []) ∨ (224 ≤ x.toNat ∧ x.toNat < 240 ∧ r.length < 2)) (hs : s.size ≤ 131072) :
    Calls Try.prog 130 #[.string s] w fun e w' => Gave s w e w' := by
  have hp : 1 ≤ s.size := by rw [size_of_list hl]; simp
  obtain ⟨b, hb⟩ : ∃ b : Int, (s[0].toNat : Int) = b := ⟨_, rfl⟩
  have hbx : b = x.toNat := by rw [← hb, at_of_list hl 0 hp]; rfl
  have hF : M.First s.data.toList 0 0 := by
    rw [hl]
    rcases hx with ⟨h1, h2, rfl⟩ | ⟨h1, h2, h3⟩
    · exact M.F_two_end h1 h2
    · exact M.F_three_end h1 h2 h3
  have hsz : s.size = r.length + 1 := by rw [size_of_list hl]; simp
  clear hl
  obtain ⟨p, q, hpq, hlt, hq0⟩ : ∃ p q : Int, lead b = (p, q) ∧ (s.size : Int) < q ∧ q ≤ 3 := by
    rcases hx with ⟨h1, h2, rfl⟩ | ⟨h1, h2, h3⟩
    · exact ⟨_, _, by unfold lead; rw [if_neg (by omega), if_pos (by omega)], by simp at hsz; omega, by omega⟩
    · exact ⟨_, _, by unfold lead; rw [if_neg (by omega), if_neg (by omega), if_pos (by omega)], by omega, by omega⟩
  have hbb : 0 ≤ b ∧ b ≤ 255 := by have := x.toNat_lt; omega
  clear hbx hx hsz
  go_enter Try.func130, Try.ntmps130
  go_wp2_with fail
  refine (leadByte_any _ _ (by omega) (by omega)).mono ?_
  rintro e w' ⟨rfl, rfl⟩
  rw [hpq]
  clear hpq
  have hq : (q == 0) = false := by rw [beq_eq_false_iff_ne]; omega
  go_wp2
  go_ret2
  exact ⟨0, 0, rfl, hF, Below.refl _ _⟩

theorem tail_at (s : ByteArray) (x : UInt8) (r : List UInt8) (n k : Nat) (hl : s.data.toList = x :: r) (_hn : n ≤ s.size) (hk : k + 1 < n) : (s.extract 1 n).data.toList.getD k 0 = r.getD k 0 := by
  have h1 : (s.extract 1 n).data.toList = (s.data.toList.drop 1).take (n - 1) := by
    rw [ByteArray.data_extract, Array.toList_extract]
  rw [h1, hl]
  simp only [List.drop_succ_cons, List.drop_zero, List.getD]
  rw [List.getElem?_take_of_lt (by omega)]

set_option maxHeartbeats 400000 in
theorem first_2 (s : ByteArray) (w : World) (x y : UInt8) (r : List UInt8) (hl : s.data.toList = x :: y :: r) (hx : 192 ≤ x.toNat) (hx2 : x.toNat < 224) (hs : s.size ≤ 131072) :
    Calls Try.prog 130 #[.string s] w fun e w' => Gave s w e w' := by
  have hp : 2 ≤ s.size := by rw [size_of_list hl]; simp
  obtain ⟨b, hb⟩ : ∃ b : Int, (s[0].toNat : Int) = b := ⟨_, rfl⟩
  have hbx : b = x.toNat := by rw [← hb, at_of_list hl 0 (by omega)]; rfl
  obtain ⟨cp, w1, hrun, hcell, hsz, hbe⟩ := conv_bytes w (s.extract 1 2)
  have hsx : (s.extract 1 2).size = 1 := by simp; omega
  rw [hsx] at hrun hcell
  have hc0 := hcell 0 (by omega)
  rw [tail_at s x (y :: r) 2 0 hl hp (by omega)] at hc0
  simp only [List.getD_cons_zero] at hc0
  clear hcell hsx
  have hyt := y.toNat_lt
  obtain ⟨c, hc⟩ : ∃ c : Int, (y.toNat : Int) = c := ⟨_, rfl⟩
  have hF := fun h => M.F_two (x := x) (c := y) (r := r) hx hx2 h
  have hN := fun h => M.F_two_no (x := x) (c := y) (r := r) hx hx2 h
  rw [← hl] at hF hN
  rw [hc] at hc0
  have hcc : 0 ≤ c ∧ c ≤ 255 := by omega
  have e1 := and192 c (by omega) (by omega)
  have e2 := or16 (b % 32) (c % 64) (by omega) (by omega) (by omega) (by omega)
  have hbb : 192 ≤ b ∧ b < 224 := by omega
  by_cases hok : 128 ≤ c ∧ c < 192
  · rw [decide_eq_true hok] at e1
    have hF := hF (by omega) (by omega)
    have hN := fun h => hN (.inr h)
    obtain ⟨u, hu⟩ : ∃ u : Nat, u = (x.toNat - 192) * 64 + (y.toNat - 128) := ⟨_, rfl⟩
    rw [← hu] at hF hN
    have huv : (u : Int) = b % 32 * 64 + c % 64 := by omega
    rw [← huv] at e2
    have Hu : Hid (u < 65536) := by show u < 65536; omega
    have HF : Hid (M.size u = 2 → M.First s.data.toList u 2) := hF
    have HN : Hid (M.size u ≠ 2 → M.First s.data.toList 0 0) := hN
    clear hl hbx hc huv hu hF hN hyt hx hx2
    go_enter Try.func130, Try.ntmps130
    go_wp2_with fail
    refine (leadByte_any _ _ (by omega) (by omega)).mono ?_
    rintro e w' ⟨rfl, rfl⟩
    have hl : lead b = (b % 32, 2) := by unfold lead; rw [if_neg (by omega), if_pos (by omega)]
    rw [hl]
    clear hl
    go_wp2_with fail
    refine wp_loop_rounds 2 ?_
    rw [rounds_succ]
    go_wp2_with fail
    rw [rounds_succ]
    go_wp2_with fail
    refine (unitSize_any _ _ Hu.out).mono ?_
    rintro e w' ⟨rfl, rfl⟩
    by_cases h1 : M.size u = 2
    · have hF := HF.out h1
      rw [h1]
      clear h1
      go_wp2
      go_ret2
      exact ⟨u, 2, rfl, hF, hbe⟩
    · have hF := HN.out h1
      have h2 : ((M.size u : Int) != 2) = true := by rw [bne_iff_ne]; omega
      clear h1
      go_wp2
      go_ret2
      exact ⟨0, 0, rfl, hF, hbe⟩
  · rw [decide_eq_false hok] at e1
    have hN := hN (.inl (by omega))
    clear hl hF hbx hc hok hyt hx hx2
    go_enter Try.func130, Try.ntmps130
    go_wp2_with fail
    refine (leadByte_any _ _ (by omega) (by omega)).mono ?_
    rintro e w' ⟨rfl, rfl⟩
    have hl : lead b = (b % 32, 2) := by unfold lead; rw [if_neg (by omega), if_pos (by omega)]
    rw [hl]
    clear hl
    go_wp2_with fail
    refine wp_loop_rounds 1 ?_
    rw [rounds_succ]
    go_wp2_with fail
    go_ret2
    exact ⟨0, 0, rfl, hN, hbe⟩

set_option maxHeartbeats 400000 in
theorem first_3 (s : ByteArray) (w : World) (x y z : UInt8) (r : List UInt8) (hl : s.data.toList = x :: y :: z :: r) (hx : 224 ≤ x.toNat) (hx2 : x.toNat < 240) (hs : s.size ≤ 131072) :
    Calls Try.prog 130 #[.string s] w fun e w' => Gave s w e w' := by
  have hp : 3 ≤ s.size := by rw [size_of_list hl]; simp
  obtain ⟨b, hb⟩ : ∃ b : Int, (s[0].toNat : Int) = b := ⟨_, rfl⟩
  have hbx : b = x.toNat := by rw [← hb, at_of_list hl 0 (by omega)]; rfl
  obtain ⟨cp, w1, hrun, hcell, hsz, hbe⟩ := conv_bytes w (s.extract 1 3)
  have hsx : (s.extract 1 3).size = 2 := by simp; omega
  rw [hsx] at hrun hcell
  have hc0 := hcell 0 (by omega)
  have hc1 := hcell 1 (by omega)
  rw [tail_at s x (y :: z :: r) 3 0 hl hp (by omega)] at hc0
  rw [tail_at s x (y :: z :: r) 3 1 hl hp (by omega)] at hc1
  simp only [List.getD_cons_zero, List.getD_cons_succ] at hc0 hc1
  clear hcell hsx
  have hyt := y.toNat_lt
  have hzt := z.toNat_lt
  obtain ⟨c, hc⟩ : ∃ c : Int, (y.toNat : Int) = c := ⟨_, rfl⟩
  obtain ⟨d, hd⟩ : ∃ d : Int, (z.toNat : Int) = d := ⟨_, rfl⟩
  have hF := fun a1 a2 a3 a4 => M.F_three (x := x) (c := y) (d := z) (r := r) hx hx2 a1 a2 a3 a4
  have hN := fun h => M.F_three_no (x := x) (c := y) (d := z) (r := r) hx hx2 h
  rw [← hl] at hF hN
  rw [hc] at hc0
  rw [hd] at hc1
  have hcc : 0 ≤ c ∧ c ≤ 255 := by omega
  have hdd : 0 ≤ d ∧ d ≤ 255 := by omega
  have e1 := and192 c (by omega) (by omega)
  have e3 := and192 d (by omega) (by omega)
  have e2 := or16 (b % 16) (c % 64) (by omega) (by omega) (by omega) (by omega)
  have e4 := or16 (b % 16 * 64 + c % 64) (d % 64) (by omega) (by omega) (by omega) (by omega)
  have hbb : 224 ≤ b ∧ b < 240 := by omega
  by_cases hok : 128 ≤ c ∧ c < 192
  · rw [decide_eq_true hok] at e1
    by_cases hod : 128 ≤ d ∧ d < 192
    · rw [decide_eq_true hod] at e3
      have hF := hF (by omega) (by omega) (by omega) (by omega)
      have hN := fun h => hN (.inr (.inr h))
      obtain ⟨u, hu⟩ : ∃ u : Nat, u = (x.toNat - 224) * 4096 + (y.toNat - 128) * 64 + (z.toNat - 128) := ⟨_, rfl⟩
      rw [← hu] at hF hN
      obtain ⟨p, hp1⟩ : ∃ p : Int, p = b % 16 * 64 + c % 64 := ⟨_, rfl⟩
      rw [← hp1] at e2 e4
      have huv : (u : Int) = p * 64 + d % 64 := by omega
      rw [← huv] at e4
      have hpp : 0 ≤ p ∧ p ≤ 1023 := by omega
      have Hu : Hid (u < 65536) := by show u < 65536; omega
      have HF : Hid (M.size u = 3 → M.First s.data.toList u 3) := hF
      have HN : Hid (M.size u ≠ 3 → M.First s.data.toList 0 0) := hN
      clear hl hbx hc hd huv hu hp1 hF hN hyt hzt hx hx2
      go_enter Try.func130, Try.ntmps130
      go_wp2_with fail
      refine (leadByte_any _ _ (by omega) (by omega)).mono ?_
      rintro e w' ⟨rfl, rfl⟩
      have hl : lead b = (b % 16, 3) := by unfold lead; rw [if_neg (by omega), if_neg (by omega), if_pos (by omega)]
      rw [hl]
      clear hl
      go_wp2_with fail
      refine wp_loop_rounds 3 ?_
      rw [rounds_succ]
      go_wp2_with fail
      rw [rounds_succ]
      go_wp2_with fail
      rw [rounds_succ]
      go_wp2_with fail
      refine (unitSize_any _ _ Hu.out).mono ?_
      rintro e w' ⟨rfl, rfl⟩
      by_cases h1 : M.size u = 3
      · have hF := HF.out h1
        rw [h1]
        clear h1
        go_wp2
        go_ret2
        exact ⟨u, 3, rfl, hF, hbe⟩
      · have hF := HN.out h1
        have h2 : ((M.size u : Int) != 3) = true := by rw [bne_iff_ne]; omega
        clear h1
        go_wp2
        go_ret2
        exact ⟨0, 0, rfl, hF, hbe⟩
    · rw [decide_eq_false hod] at e3
      have hN := hN (.inr (.inl (by omega)))
      obtain ⟨p, hp1⟩ : ∃ p : Int, p = b % 16 * 64 + c % 64 := ⟨_, rfl⟩
      rw [← hp1] at e2 e4
      have hpp : 0 ≤ p ∧ p ≤ 1023 := by omega
      clear hl hF hbx hc hd hp1 hod hyt hzt hx hx2 e4
      go_enter Try.func130, Try.ntmps130
      go_wp2_with fail
      refine (leadByte_any _ _ (by omega) (by omega)).mono ?_
      rintro e w' ⟨rfl, rfl⟩
      have hl : lead b = (b % 16, 3) := by unfold lead; rw [if_neg (by omega), if_neg (by omega), if_pos (by omega)]
      rw [hl]
      clear hl
      go_wp2_with fail
      refine wp_loop_rounds 2 ?_
      rw [rounds_succ]
      go_wp2_with fail
      rw [rounds_succ]
      go_wp2_with fail
      go_ret2
      exact ⟨0, 0, rfl, hN, hbe⟩
  · rw [decide_eq_false hok] at e1
    have hN := hN (.inl (by omega))
    clear hl hF hbx hc hd hok hyt hzt hx hx2 e4 e3
    go_enter Try.func130, Try.ntmps130
    go_wp2_with fail
    refine (leadByte_any _ _ (by omega) (by omega)).mono ?_
    rintro e w' ⟨rfl, rfl⟩
    have hl : lead b = (b % 16, 3) := by unfold lead; rw [if_neg (by omega), if_neg (by omega), if_pos (by omega)]
    rw [hl]
    clear hl
    go_wp2_with fail
    refine wp_loop_rounds 1 ?_
    rw [rounds_succ]
    go_wp2_with fail
    go_ret2
    exact ⟨0, 0, rfl, hN, hbe⟩

/-- THE FIRST UNIT of bytes that are not none. -/
theorem firstUnit_any (s : ByteArray) (w : World) (hp : 0 < s.size) (hs : s.size ≤ 131072) :
    Calls Try.prog 130 #[.string s] w fun e w' => ∃ u n : Nat, e = .returned (.tuple #[.int .u16 u, .int .i64 n]) ∧ M.First s.data.toList u n ∧ Below w.heap.size w w' := by
  cases hl : s.data.toList with
  | nil => exfalso; have := size_of_list hl; rw [List.length_nil] at this; omega
  | cons x r =>
    rw [← hl]
    have hxt := x.toNat_lt
    by_cases h1 : x.toNat < 128
    · exact first_1 s w x r hl h1 hs
    · by_cases h2 : 192 ≤ x.toNat ∧ x.toNat < 224
      · cases r with
        | nil => exact first_short s w x [] hl (.inl ⟨h2.1, h2.2, rfl⟩) hs
        | cons y r => exact first_2 s w x y r hl h2.1 h2.2 hs
      · by_cases h3 : 224 ≤ x.toNat ∧ x.toNat < 240
        · cases r with
          | nil => exact first_short s w x [] hl (.inr ⟨h3.1, h3.2, by simp⟩) hs
          | cons y r =>
            cases r with
            | nil => exact first_short s w x [y] hl (.inr ⟨h3.1, h3.2, by simp⟩) hs
            | cons z r => exact first_3 s w x y z r hl h3.1 h3.2 hs
        · exact first_lead s w x r hl (by omega) hs
end Go.Proofs.Ytgihfcjddkpkaaa.Po
