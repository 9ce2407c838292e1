/-
  Take, Number, Uint8, Uint16 of package wire.
  isText of package pool.
  Constants as data; a law for an append inside a statement that leaves its order open.
-/
import Derived.Test.YtgihfcjddkpkaaaMgPoWire
import Derived.Deep.RegionLaw
namespace Go.Proofs.Ytgihfcjddkpkaaa.Po
set_option maxRecDepth 100000
open Go.RowKit
theorem extract_list (s : ByteArray) (a n : Nat) : s.extract a (a + n) = ⟨((s.data.toList.drop a).take n).toArray⟩ := by
  apply ByteArray.ext; apply Array.ext'
  rw [ByteArray.data_extract, Array.toList_extract, List.extract_eq_take_drop, show a + n - a = n by omega]
theorem Rd.setPosN {w : World} {R : Nat} {s : ByteArray} {st : St} {c4 c5 : Value} (h : Rd w R s st c4 c5) (k n : Nat) (he : st.e = 0) :
    Rd ((w.drewN k).setCell ⟨R, 1, none⟩ (.int .i64 ((st.pos : Int) + (n : Int)))) R s ⟨st.pos + n, 0, st.p⟩ c4 c5 := by
  have hq := (h.drewN k).setPos (st.pos + n)
  rw [he, Int.natCast_add] at hq
  exact hq
theorem or64 (x b : Nat) (hx : x ≤ 72057594037927935) (hb : b < 256) : bits BinOp.or IntKind.u64 ((x : Int) * 256) (b : Int) = ((x * 256 + b : Nat) : Int) := by
  have h := bits_or_u64_nat (x * 256) b (by omega) (by omega)
  have h2 := Nat.two_pow_add_eq_or_of_lt (i := 8) (b := b) (by omega) x
  simp only [Nat.reducePow] at h2
  rw [Nat.mul_comm 256 x] at h2
  rw [Int.natCast_mul] at h
  rw [h2]; exact h
def Took (R : Nat) (s : ByteArray) (st' : St) (c4 c5 : Value) (w : World) (x : Value) (e : Ending) (w' : World) : Prop :=
  e = .returned x ∧ Rd w' R s st' c4 c5 ∧ w.grownBy w' (some R)
set_option maxHeartbeats 400000 in
theorem Take_any (R : Nat) (s : ByteArray) (st : St) (c4 c5 : Value) (n : Nat) (w : World) (h : Rd w R s st c4 c5) (hs : s.size ≤ 131072) (hn : n ≤ 65535) (hp : st.pos ≤ s.size) :
    Calls Try.prog 96 #[.pointer (some ⟨R, 0, none⟩), .int .i64 (n : Int)] w fun x w' => Took R s (M.take s.data.toList n st).2 c4 c5 w (.string ⟨(M.take s.data.toList n st).1.toArray⟩) x w' := by
  obtain ⟨h0, h1, h2, h3, h4, h5⟩ := h.cells
  have hl : s.data.toList.length = s.size := by simp
  have hf1 := h.frozen 1
  by_cases hr : s.size - st.pos < n
  · have hri : (s.size : Int) - (st.pos : Int) < (n : Int) := by omega
    have hres : M.take s.data.toList n st = ([], M.fail st 1 s.size) := by
      unfold M.take M.fail; rw [hl]
      by_cases he : st.e = 0
      · rw [if_pos he, if_pos hr, if_pos he]
      · rw [if_neg he, if_neg he]
    rw [hres]
    have hbad : (M.fail st 1 s.size).e ≠ 0 := by
      unfold M.fail; split
      · simp
      · assumption
    clear hres hl hr
    go_enter Try.func96, Try.ntmps96
    go_wp2_with fail
    go_quiet (fail)
    go_wp2_with fail
    refine (Fail_any R s st c4 c5 1 s.size _ (h.drewN _)).mono ?_
    rintro e w1 ⟨rfl, hr1, hg1, hz1⟩
    clear h0 h1 h2 h3 h4 h5 hf1
    go_wp2_with fail
    refine (Good_any R s _ c4 c5 w1 hr1).mono ?_
    rintro e w2 ⟨rfl, hw⟩
    subst w2
    rw [decide_eq_false hbad]
    clear hbad
    go_wp2
    go_ret
    exact ⟨rfl, hr1, grown_trans (grown_drewN w (some R) _) hg1⟩
  · have hri : (n : Int) ≤ (s.size : Int) - (st.pos : Int) := by omega
    by_cases he : st.e = 0
    · have hres : M.take s.data.toList n st = ((s.data.toList.drop st.pos).take n, ⟨st.pos + n, 0, st.p⟩) := by
        unfold M.take; rw [hl, if_pos he, if_neg hr]
      rw [hres]
      have hx := extract_list s st.pos n
      have Hx := hide hx
      clear hres hl hx hr
      go_enter Try.func96, Try.ntmps96
      go_wp2_with fail
      go_quiet (fail)
      go_wp2_with fail
      refine (Good_any R s st c4 c5 _ (h.drewN _)).mono ?_
      rintro e w2 ⟨rfl, hw⟩
      subst w2
      rw [decide_eq_true he]
      have He := hide he
      clear he
      have hk1 : (st.pos : Int) + (n : Int) ≤ (s.size : Int) := by omega
      go_wp2_with fail
      go_quiet (fail)
      go_wp2
      go_ret
      exact ⟨congrArg (fun z => Ending.returned (.string z)) (unhide Hx), h.setPosN _ n (unhide He), grown_trans (grown_drewN w (some R) _) (grown_set _ R 1 _)⟩
    · have hres : M.take s.data.toList n st = ([], st) := by unfold M.take; rw [if_neg he]
      rw [hres]
      clear hres hl hr
      go_enter Try.func96, Try.ntmps96
      go_wp2_with fail
      go_quiet (fail)
      go_wp2_with fail
      refine (Good_any R s st c4 c5 _ (h.drewN _)).mono ?_
      rintro e w2 ⟨rfl, hw⟩
      subst w2
      rw [decide_eq_false he]
      clear he
      go_wp2
      go_ret
      exact ⟨rfl, h.drewN _, grown_drewN w (some R) _⟩
theorem num_snoc (l : List UInt8) (b : UInt8) : M.num (l ++ [b]) = M.num l * 256 + b.toNat := by simp [M.num]
theorem num_take (l : List UInt8) (k : Nat) (hk : k < l.length) : M.num (l.take (k + 1)) = M.num (l.take k) * 256 + (l.getD k 0).toNat := by
  rw [List.take_add_one, List.getElem?_eq_getElem hk]; simp only [Option.toList_some, num_snoc, List.getD, List.getElem?_eq_getElem hk, Option.getD_some]
theorem num_lt (l : List UInt8) : M.num l < 256 ^ l.length := by
  suffices ∀ n, ∀ l : List UInt8, l.length = n → M.num l < 256 ^ n from this _ l rfl
  intro n
  induction n with
  | zero => intro l hl; rw [List.length_eq_zero_iff.1 hl]; simp [M.num]
  | succ n ih =>
    intro l hl
    have h1 := num_take l n (by omega)
    rw [List.take_of_length_le (by omega)] at h1
    have h2 := ih (l.take n) (by simp; omega)
    have h3 := (l.getD n 0).toNat_lt
    rw [h1, Nat.pow_succ]; omega
theorem take_len (s : List UInt8) (n : Nat) (st : St) : (M.take s n st).1.length ≤ n := by
  unfold M.take; split
  · split
    · simp
    · simp; omega
  · simp
set_option maxHeartbeats 400000 in
theorem Number_any (R : Nat) (s : ByteArray) (st : St) (c4 c5 : Value) (n : Nat) (w : World) (h : Rd w R s st c4 c5) (hs : s.size ≤ 131072) (hn : n ≤ 8) (hp : st.pos ≤ s.size) :
    Calls Try.prog 67 #[.pointer (some ⟨R, 0, none⟩), .int .i64 (n : Int)] w fun x w' => Took R s (M.take s.data.toList n st).2 c4 c5 w (.int .u64 (M.num (M.take s.data.toList n st).1 : Nat)) x w' := by
  have hl := take_len s.data.toList n st
  have hc := Take_any R s st c4 c5 n w h hs (by omega) hp
  obtain ⟨T, st', hT⟩ : ∃ T st', M.take s.data.toList n st = (T, st') := ⟨_, _, rfl⟩
  rw [hT] at hl hc ⊢
  clear hT h
  simp only at hl hc ⊢
  have Hc := hide hc
  clear hc
  go_enter Try.func67, Try.ntmps67
  go_wp2_with fail
  refine (unhide Hc).mono ?_
  clear Hc
  rintro e w1 ⟨rfl, hr1, hg1⟩
  obtain ⟨cp, w2, hrun, hcell, hsz, hbe⟩ := conv_bytes w1 ⟨T.toArray⟩
  have hts : (⟨T.toArray⟩ : ByteArray).size = T.length := by show T.toArray.size = _; simp
  rw [hts] at hrun hcell
  have hcell' : ∀ j, j < T.length → w2.cell? ⟨w1.heap.size, j, none⟩ = some (.int .u8 ((T.getD j 0).toNat : Int)) := hcell
  have Hcell := hide hcell'
  clear hcell hcell' hts
  go_wp2_with fail
  go_loopw [5, 13] (fun x i wr => ∃ k : Nat, k ≤ T.length ∧ i = .int .i64 k ∧ x = .int .u64 (M.num (T.take k) : Nat) ∧ wr = w2) (fun _ i _ => T.length - (intOf i).toNat)
  case atStart => exact ⟨0, Nat.zero_le _, rfl, rfl, rfl⟩
  case round =>
    obtain ⟨k, hk, rfl, rfl, rfl⟩ := hrel
    by_cases hlt : k < T.length
    · have hck := unhide Hcell k hlt
      obtain ⟨b, hb⟩ : ∃ b : Nat, b = (T.getD k 0).toNat := ⟨_, rfl⟩
      have hnt := num_take T k hlt
      have hbt : b < 256 := by rw [hb]; exact (T.getD k 0).toNat_lt
      have hx := num_lt (T.take k)
      have hx7 : M.num (T.take k) ≤ 72057594037927935 := by
        have hlk : (T.take k).length ≤ 7 := by rw [List.length_take]; omega
        have := Nat.pow_le_pow_right (show 0 < 256 by omega) hlk
        have e7 : 256 ^ 7 = 72057594037927936 := by decide
        omega
      rw [← hb] at hnt hck
      clear hb hx
      obtain ⟨x, hxx⟩ : ∃ x, x = M.num (T.take k) := ⟨_, rfl⟩
      rw [← hxx] at hnt hx7 ⊢
      have Hnt := hide hnt
      clear hxx hnt
      have ho := or64 x b hx7 hbt
      rw [← unhide Hnt] at ho
      have Ho := hide ho
      clear ho Hnt
      go_wp2
      go_roundw
      case rel => exact ⟨k + 1, by omega, by go_num, by rw [unhide Ho], trivial⟩
      case measure => simp [intOf]; omega
    · have hkl : k = T.length := by omega
      subst hkl
      rw [List.take_length]
      have hz := hr1.lt
      have hr2 : Rd wr R s st' c4 c5 := hr1.kept (grown_of_below hbe none) (by simp)
      have hg2 := grown_trans hg1 (grown_of_below hbe (some R))
      clear hrun Hcell hr1 hg1 hbe
      go_wp2
      go_ret
      exact ⟨rfl, hr2, hg2⟩
set_option maxHeartbeats 400000 in
theorem Uint8_any (R : Nat) (s : ByteArray) (st : St) (c4 c5 : Value) (w : World) (h : Rd w R s st c4 c5) (hs : s.size ≤ 131072) (hp : st.pos ≤ s.size) :
    Calls Try.prog 89 #[.pointer (some ⟨R, 0, none⟩)] w fun x w' => Took R s (M.take s.data.toList 1 st).2 c4 c5 w (.int .u8 (M.num (M.take s.data.toList 1 st).1 : Nat)) x w' := by
  have hl := take_len s.data.toList 1 st
  have hc := Number_any R s st c4 c5 1 w h hs (by omega) hp
  obtain ⟨T, st', hT⟩ : ∃ T st', M.take s.data.toList 1 st = (T, st') := ⟨_, _, rfl⟩
  rw [hT] at hl hc ⊢
  clear hT h
  simp only at hl hc ⊢
  have hx := num_lt T
  have hx2 : M.num T ≤ 255 := by have := Nat.pow_le_pow_right (show 0 < 256 by omega) hl; omega
  have Hc := hide hc
  clear hc hx hl
  go_enter Try.func89, Try.ntmps89
  go_wp2_with fail
  refine (unhide Hc).mono ?_
  clear Hc
  rintro e w1 ⟨rfl, hr1, hg1⟩
  go_wp2
  go_ret
  exact ⟨rfl, hr1, hg1⟩
set_option maxHeartbeats 400000 in
theorem Uint16_any (R : Nat) (s : ByteArray) (st : St) (c4 c5 : Value) (w : World) (h : Rd w R s st c4 c5) (hs : s.size ≤ 131072) (hp : st.pos ≤ s.size) :
    Calls Try.prog 57 #[.pointer (some ⟨R, 0, none⟩)] w fun x w' => Took R s (M.take s.data.toList 2 st).2 c4 c5 w (.int .u16 (M.num (M.take s.data.toList 2 st).1 : Nat)) x w' := by
  have hl := take_len s.data.toList 2 st
  have hc := Number_any R s st c4 c5 2 w h hs (by omega) hp
  obtain ⟨T, st', hT⟩ : ∃ T st', M.take s.data.toList 2 st = (T, st') := ⟨_, _, rfl⟩
  rw [hT] at hl hc ⊢
  clear hT h
  simp only at hl hc ⊢
  have hx := num_lt T
  have hx2 : M.num T ≤ 65535 := by have := Nat.pow_le_pow_right (show 0 < 256 by omega) hl; omega
  have Hc := hide hc
  clear hc hx hl
  go_enter Try.func57, Try.ntmps57
  go_wp2_with fail
  refine (unhide Hc).mono ?_
  clear Hc
  rintro e w1 ⟨rfl, hr1, hg1⟩
  go_wp2
  go_ret
  exact ⟨rfl, hr1, hg1⟩
end Go.Proofs.Ytgihfcjddkpkaaa.Po
namespace Go.Proofs.Ytgihfcjddkpkaaa.Po
set_option maxRecDepth 100000
open Go.RowKit
def M.IsText (l : List UInt8) : Prop := ∃ L, M.Ok L ∧ M.text L = l
def TextAt (s : ByteArray) (w wr : World) (k : Nat) (L : List Nat) : Prop := M.Ok L ∧ M.text L = s.data.toList.take k ∧ Below w.heap.size w wr
theorem TextAt.step {s : ByteArray} {w wr w2 : World} {k : Nat} {L : List Nat} {u n : Nat} (h : TextAt s w wr k L) (hu : u < 65536) (hn : n = M.size u) (r : List UInt8) (hr : s.data.toList.drop k = M.enc u ++ r) (hk : k < s.size)
    (hb : Below wr.heap.size wr w2) : k + n ≤ s.size ∧ TextAt s w w2 (k + n) (L ++ [u]) := by
  obtain ⟨a1, a2, a7⟩ := h
  have hl : (s.data.toList.drop k).length = s.size - k := by simp
  have hl2 : (M.enc u).length ≤ s.size - k := by rw [← hl, hr]; simp
  rw [M.enc_length, ← hn] at hl2
  refine ⟨by omega, fun x hx => ?_, ?_, a7.trans (hb.mono a7.size)⟩
  · rcases List.mem_append.1 hx with q | q
    · exact a1 x q
    · simp at q; omega
  · rw [M.text_snoc, a2, List.take_add, hr, List.take_left' (by rw [M.enc_length, hn])]
theorem TextAt.stop {s : ByteArray} {w wr : World} {k : Nat} {L : List Nat} (h : TextAt s w wr k L) (hk : k < s.size) (hr : ∀ v, v < 65536 → ∀ r, s.data.toList.drop k ≠ M.enc v ++ r) : ¬ M.IsText s.data.toList := by
  obtain ⟨a1, a2, -⟩ := h
  have := M.stop_none (r := s.data.toList.drop k) a1 (by intro hh; have := congrArg List.length hh; simp at this; omega) hr
  rw [a2, List.take_append_drop] at this
  rintro ⟨m, hm, ht⟩
  rcases this with ⟨_, h, _⟩ | ⟨_, h⟩
  · cases h
  · exact h m hm ht
/-- What isText answers. -/
def Texted (s : ByteArray) (w : World) (e : Ending) (w' : World) : Prop :=
  ((e = .returned (.bool true) ∧ M.IsText s.data.toList) ∨ (e = .returned (.bool false) ∧ ¬ M.IsText s.data.toList)) ∧ Below w.heap.size w w'
set_option maxHeartbeats 400000 in
theorem skip_any (u : Nat) (w : World) : Calls Try.prog 127 #[.int .u16 u] w fun e w' => e = .returned (.tuple #[]) ∧ w' = w := by
  go_enter Try.func127, Try.ntmps127
  go_wp2
  go_end0
  exact ⟨rfl, rfl⟩
set_option maxHeartbeats 400000 in
theorem each_text (s : ByteArray) (w : World) (hs : s.size ≤ 131072) :
    Calls Try.prog 126 #[.string s, .func (.func 127) #[] #[]] w fun e w' => Texted s w e w' := by
  have hbox : TextAt s w w 0 [] := ⟨fun _ h => by simp at h, by simp [M.text], Below.refl _ _⟩
  go_enter Try.func126, Try.ntmps126
  go_wp2_with fail
  go_loopw [5] (fun i wr => ∃ k L, k ≤ s.size ∧ i = .int .i64 (k : Nat) ∧ TextAt s w wr k L) (fun i _ => s.size - (intOf i).toNat)
  case atStart => exact ⟨0, [], Nat.zero_le _, rfl, hbox⟩
  case round =>
    obtain ⟨k, L, hk, rfl, hbx⟩ := hrel
    clear hbox
    by_cases hlt : k < s.size
    · go_wp2_with fail
      refine (firstUnit_any (s.extract k s.size) wr (by simp; omega) (by simp; omega)).mono ?_
      rintro e w2 ⟨u, n, rfl, hF, hb2⟩
      rw [drop_extract] at hF
      rcases hF with ⟨hu, hn, r, hr⟩ | ⟨rfl, rfl, hno⟩
      · have hnp : 0 < n ∧ n ≤ 3 := by have := M.size_pos u; omega
        have hne : ((n : Int) == 0) = false := by rw [beq_eq_false_iff_ne]; omega
        obtain ⟨s1, s2⟩ := hbx.step hu hn r hr hlt hb2
        clear hn hr hbx hb2
        go_wp2_with fail
        refine (skip_any u w2).mono ?_
        rintro e w3 ⟨rfl, hww⟩
        subst w3
        go_wp2
        go_roundw
        case rel => exact ⟨k + n, L ++ [u], s1, by go_num, s2⟩
        case measure => simp [intOf]; omega
      · have hst := hbx.stop hlt hno
        have hbw : Below w.heap.size w w2 := hbx.2.2.trans (hb2.mono hbx.2.2.size)
        clear hno hbx
        go_wp2
        go_ret
        exact ⟨.inr ⟨rfl, hst⟩, hbw⟩
    · obtain ⟨a1, a2, a7⟩ := hbx
      have hks : k = s.size := by omega
      subst hks
      have a2' : M.text L = s.data.toList := by rw [a2, List.take_of_length_le]; simp
      have H1 : M.IsText s.data.toList := ⟨L, a1, a2'⟩
      clear a2 a2'
      go_wp2
      go_ret
      exact ⟨.inl ⟨rfl, H1⟩, a7⟩
set_option maxHeartbeats 400000 in
theorem isText_any (s : ByteArray) (w : World) (hs : s.size ≤ 131072) :
    Calls Try.prog 121 #[.string s] w fun e w' => Texted s w e w' := by
  go_enter Try.func121, Try.ntmps121
  go_wp2_with fail
  refine (each_text s w hs).mono ?_
  rintro e w1 ⟨⟨rfl, h⟩ | ⟨rfl, h⟩, hb⟩
  · go_wp2
    go_ret
    exact ⟨.inl ⟨rfl, h⟩, hb⟩
  · go_wp2
    go_ret
    exact ⟨.inr ⟨rfl, h⟩, hb⟩
end Go.Proofs.Ytgihfcjddkpkaaa.Po
namespace Go.Proofs.Ytgihfcjddkpkaaa.Po
set_option maxRecDepth 100000
open Go.RowKit
theorem step_append_own {P : Program} {ops : Array Oper} {o : Oper} {a : Act} {w : World} {K : Act → World → Prop} {Q : Exit → Act → World → Prop} {E : Prop} (hg : o.guard = none) (s x : Operand) (t : TypeId)
    (ho : o.op = .call { callee := .builtin .append, args := #[s, x], argTypes := #[t, t] })
    (base : Nat) (e : TypeId) (i : TypeInfo) (z : Value) (size bytes : Nat) (ht : P.underlying t = some (.slice e)) (hi : P.info? e = some i) (hz : i.zero = some z)
    (hsize : i.size = size) (hby : i.bytes = bytes) (hzs : z.cells.size = size) (hsz : 0 < size)
    (v : Value) (n : Nat) (xs : List Value) (hs : a.eval s = v) (hown : w.ownsRow base e size v n xs)
    (ad : Addr) (m c : Nat) (news : List Value) (hx : a.eval x = .slice (some ad) m c) (hl : news.length = m * size) (hnews : ∀ j u, news[j]? = some u → w.cell? (ad.add j) = some u) (h1 : ∀ u ∈ news, u.oneCell' = true)
    (h63 : n + m ≤ maxLen) (hbytes : (n + m) * bytes ≤ 140737488355328) (hbase : base ≤ w.heap.size)
    (h : ∀ v' w', w'.ownsRow base e size v' (n + m) (xs ++ news) → w.grownBy w' v.ownBlock → K (a.put o.dst v') w') :
    if Region.wanted o (yielded ops a.tmps) = true then Oper.wp P o a w K Q else E := by
  have hw : Region.wanted o (yielded ops a.tmps) = true := by simp [Region.wanted, hg]
  rw [if_pos hw]
  exact wp_append_own (P := P) w s x t ho base e i z size bytes ht hi hz hsize hby hzs hsz v n xs hs hown ad m c news hx hl hnews h1 h63 hbytes hbase (fun v' w' a b _ => h v' w' a b)
/-- A constant. -/
structure K where
  tag : Nat
  text : List UInt8
  bits : Nat
  a : Nat
  b : Nat
def K.zero : K := ⟨0, [], 0, 0, 0⟩
def K.cells (c : K) : List Value := [.int .u8 (c.tag : Int), .string ⟨c.text.toArray⟩, .int .u64 (c.bits : Int), .int .u16 (c.a : Int), .int .u16 (c.b : Int)]
def KC : List K → List Value
  | [] => []
  | c :: l => c.cells ++ KC l
theorem KC_append (a b : List K) : KC (a ++ b) = KC a ++ KC b := by
  induction a with
  | nil => rfl
  | cons c a ih => simp only [List.cons_append, KC, ih, List.append_assoc]
theorem KC_snoc (l : List K) (c : K) : KC (l ++ [c]) = KC l ++ c.cells := by rw [KC_append]; simp [KC]
theorem KC_length (l : List K) : (KC l).length = l.length * 5 := by
  induction l with
  | nil => rfl
  | cons c l ih => simp only [KC, List.length_append, List.length_cons, ih, K.cells, List.length_nil]; omega
theorem Try.info78 : (Try.prog.info? 78).map (fun i => (i.zero, i.size, i.bytes)) = some (some (.agg #[.int .u8 0, .string ⟨#[]⟩, .int .u64 0, .int .u16 0, .int .u16 0]), 5, 40) := by kernel_rfl
/-- A reader's list: its value owns the row of these constants. -/
def Own (w : World) (R : Nat) (v : Value) (l : List K) : Prop := w.ownsRow (R + 1) 78 5 v l.length (KC l)
theorem take_pos {s : List UInt8} {n : Nat} {st : St} (h : st.pos ≤ s.length) : (M.take s n st).2.pos ≤ s.length := by
  unfold M.take; split
  · split
    · exact h
    · simp only; omega
  · exact h
theorem fail_pos (st : St) (e p : Nat) : (M.fail st e p).pos = st.pos := by unfold M.fail; split <;> rfl
theorem one5 (c : K) : ∀ u ∈ c.cells, u.oneCell' = true := by
  intro u hu; simp [K.cells] at hu; rcases hu with rfl | rfl | rfl | rfl | rfl <;> rfl
theorem at5 {w : World} {g : Nat} {c : K} (h0 : w.cell? ⟨g, 0, none⟩ = some (.int .u8 (c.tag : Int))) (h1 : w.cell? ⟨g, 1, none⟩ = some (.string ⟨c.text.toArray⟩)) (h2 : w.cell? ⟨g, 2, none⟩ = some (.int .u64 (c.bits : Int)))
    (h3 : w.cell? ⟨g, 3, none⟩ = some (.int .u16 (c.a : Int))) (h4 : w.cell? ⟨g, 4, none⟩ = some (.int .u16 (c.b : Int))) : ∀ j u, c.cells[j]? = some u → w.cell? ((⟨g, 0, none⟩ : Addr).add j) = some u := by
  intro j u hj
  match j, hj with
  | 0, hj => simp [K.cells] at hj; subst hj; simpa [Addr.add] using h0
  | 1, hj => simp [K.cells] at hj; subst hj; simpa [Addr.add] using h1
  | 2, hj => simp [K.cells] at hj; subst hj; simpa [Addr.add] using h2
  | 3, hj => simp [K.cells] at hj; subst hj; simpa [Addr.add] using h3
  | 4, hj => simp [K.cells] at hj; subst hj; simpa [Addr.add] using h4
set_option maxHeartbeats 400000 in
theorem takesTwo_any (n : Nat) (w : World) (h : n < 256) : Calls Try.prog 107 #[.int .u8 (n : Int)] w fun e w' => e = .returned (.bool (decide (n = 5 ∨ n = 6))) ∧ w' = w := by
  by_cases h5 : n = 5
  · subst h5
    go_enter Try.func107, Try.ntmps107
    go_wp2
    go_ret
    exact ⟨rfl, rfl⟩
  · have e5 : ((n : Int) == 5) = false := by rw [beq_eq_false_iff_ne]; omega
    by_cases h6 : n = 6
    · subst h6
      go_enter Try.func107, Try.ntmps107
      go_wp2
      go_ret
      exact ⟨rfl, rfl⟩
    · have e6 : ((n : Int) == 6) = false := by rw [beq_eq_false_iff_ne]; omega
      rw [decide_eq_false (by omega)]
      clear h5 h6
      go_enter Try.func107, Try.ntmps107
      go_wp2
      go_ret
      exact ⟨rfl, rfl⟩
end Go.Proofs.Ytgihfcjddkpkaaa.Po
