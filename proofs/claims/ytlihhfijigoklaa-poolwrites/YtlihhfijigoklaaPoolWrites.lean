/-
  The walk of PoolWrites.
-/
import Derived.Test.YtlihhfijigoklaaRefWrite
import Derived.Test.YtlihhfijigoklaaSame
namespace Go.Proofs.Ytlihhfijigoklaa
open Go.RowKit
set_option maxRecDepth 100000 in
set_option maxHeartbeats 1000000 in
theorem same_wide (v u : Value) (l : List K) (w : World) (hl : l.length ≤ 4000000000000) (h : Has w v l) (g : Has w u l) :
    Calls Try.prog 14 #[v, u] w fun e w' => e = .returned (.bool true) ∧ ∃ n, w' = w.drewN n := by
  have hform : ∀ x, Has w x l → ∃ a c, x = .slice a l.length c := fun x hx => by
    rcases hx with ⟨a, c, rfl, rfl⟩ | ⟨g, off, c, rfl, _⟩
    · exact ⟨a, c, rfl⟩
    · exact ⟨_, c, rfl⟩
  by_cases hz : l.length = 0
  · obtain ⟨a, c, rfl⟩ := hform v h
    obtain ⟨b, d, rfl⟩ := hform u g
    rw [hz]
    clear h g hform hz
    go_enter Try.func14, Try.ntmps14
    go_wp2_with fail
    refine wp_loop_rounds 1 ?_
    rw [rounds_succ]
    go_wp2
    go_ret
    exact ⟨rfl, 0, rfl⟩
  · rcases h with ⟨a, c, rfl, rfl⟩ | ⟨g1, o1, c, rfl, h1⟩
    · simp at hz
    rcases g with ⟨a, c, rfl, rfl⟩ | ⟨g2, o2, d, rfl, h2⟩
    · simp at hz
    have H1 := hide h1
    have H2 := hide h2
    clear h1 h2 hform
    go_enter Try.func14, Try.ntmps14
    go_wp2_with fail
    go_loopw [13] (fun i wr => ∃ k m : Nat, k ≤ l.length ∧ i = .int .i64 k ∧ wr = w.drewN m) (fun i _ => l.length - (intOf i).toNat)
    case atStart => exact ⟨0, 0, Nat.zero_le _, rfl, rfl⟩
    case round =>
      obtain ⟨k, m, hk, rfl, rfl⟩ := hrel
      by_cases hlt : k < l.length
      · have x : ∀ i, i < 5 → w.cell? ⟨g1, o1 + (k * 5 + i), none⟩ = (l.getD k K.zero).cells[i]? := fun i hi => by rw [unhide H1 _ (by omega), KC_at l k i hlt hi]
        have y : ∀ i, i < 5 → w.cell? ⟨g2, o2 + (k * 5 + i), none⟩ = (l.getD k K.zero).cells[i]? := fun i hi => by rw [unhide H2 _ (by omega), KC_at l k i hlt hi]
        obtain ⟨c0, hc0⟩ : ∃ c, c = l.getD k K.zero := ⟨_, rfl⟩
        rw [← hc0] at x y
        have x0 := x 0 (by omega)
        have x1 := x 1 (by omega)
        have x2 := x 2 (by omega)
        have x3 := x 3 (by omega)
        have x4 := x 4 (by omega)
        have y0 := y 0 (by omega)
        have y1 := y 1 (by omega)
        have y2 := y 2 (by omega)
        have y3 := y 3 (by omega)
        have y4 := y 4 (by omega)
        simp only [← Nat.add_assoc] at x0 x1 x2 x3 x4 y0 y1 y2 y3 y4
        simp [K.cells] at x0 x1 x2 x3 x4 y0 y1 y2 y3 y4
        have hki : (k : Int) < (l.length : Int) := by omega
        clear hc0 x y
        go_wp2_with fail
        go_quiet (fail)
        go_wp2
        go_roundw
        case rel => exact ⟨k + 1, _, by omega, by go_num, rfl⟩
        case measure => simp [intOf]; omega
      · go_wp2
        go_ret
        exact ⟨rfl, m, rfl⟩
set_option maxRecDepth 100000 in
set_option maxHeartbeats 1000000 in
theorem RefWrite_len (a : Option Addr) (n cap : Nat) (w : World) (hm : n ≤ maxLen) (hn : n = 0 ∨ 65535 < n) :
    Calls Try.prog 17 #[.slice a n cap] w fun e w' => e = .returned (.tuple #[.string ⟨#[]⟩, .int .i64 12, .int .i64 0]) ∧ w' = w := by
  unfold maxLen at hm
  rcases hn with rfl | hn
  · clear hm
    go_enter Try.func17, Try.ntmps17
    go_wp2
    refine bodyPost_ret (v := .tuple #[.string ⟨#[]⟩, .int .i64 12, .int .i64 0]) (by simp [results, Try.results17, go_sem]) rfl ?_
    exact ⟨rfl, rfl⟩
  · have h1 : decide ((n : Int) < 1) = false := by simp; omega
    have h2 : (65535 : Int) < (n : Int) := by omega
    clear hn hm
    go_enter Try.func17, Try.ntmps17
    go_wp2
    refine bodyPost_ret (v := .tuple #[.string ⟨#[]⟩, .int .i64 12, .int .i64 0]) (by simp [results, Try.results17, go_sem]) rfl ?_
    exact ⟨rfl, rfl⟩
theorem texts_snoc {l : List K} {k : Nat} (h : k < l.length) : texts (l.take (k + 1)) = texts (l.take k) + (l.getD k K.zero).text.length := by
  have h1 : l.take (k + 1) = l.take k ++ [l.getD k K.zero] := by
    rw [List.take_add_one, List.getElem?_eq_getElem h]; simp only [Option.toList_some, List.getD, List.getElem?_eq_getElem h, Option.getD_some]
  have h2 : ∀ a b : List K, texts (a ++ b) = texts a + texts b := by
    intro a b
    induction a with
    | nil => simp [texts]
    | cons c a ih => simp only [List.cons_append, texts, ih]; omega
  rw [h1, h2]; simp [texts]
theorem texts_le {B : Nat} : ∀ l : List K, (∀ c ∈ l, c.text.length ≤ B) → texts l ≤ l.length * B
  | [], _ => by simp [texts]
  | c :: l, h => by
    have h1 := texts_le l (fun x hx => h x (List.mem_cons_of_mem _ hx))
    have h2 := h c (List.mem_cons_self ..)
    rw [texts, List.length_cons, Nat.succ_mul]; omega
theorem texts_one : ∀ {l : List K} {c : K}, c ∈ l → c.text.length ≤ texts l
  | c :: l, d, h => by
    rcases List.mem_cons.1 h with rfl | h
    · rw [texts]; omega
    · have := texts_one h; rw [texts]; omega
/-- A constant as any memory may hold it. -/
structure Wide (c : K) : Prop where
  tag : c.tag < 256
  text : c.text.length ≤ 140737488351232
  bits : c.bits < 2 ^ 64
  a : c.a < 65536
  b : c.b < 65536
theorem w64 (n : Int) : wrap64 n = (n + 9223372036854775808) % 18446744073709551616 - 9223372036854775808 := by simp [wrap64]
theorem wadd (a b h M : Int) : ((a + h) % M - h + b + h) % M - h = (a + b + h) % M - h := by
  have e : (a + h) % M - h + b + h = (a + h) % M + b := by omega
  have e2 : a + h + b = a + b + h := by omega
  rw [e, Int.emod_add_emod, e2]
theorem w64_add (a b : Int) : wrap64 (wrap64 a + b) = wrap64 (a + b) := by rw [w64, w64, w64]; exact wadd a b _ _
theorem w64_id (a : Int) (h0 : 0 ≤ a) (h1 : a < 9223372036854775808) : wrap64 a = a := by
  rw [w64, Int.emod_eq_of_lt (by omega) (by omega)]; omega
theorem ones (l : List K) : ∀ u ∈ KC l, u.oneCell' = true := by
  induction l with
  | nil => intro u hu; cases hu
  | cons c l ih =>
    intro u hu
    rcases List.mem_append.1 (show u ∈ c.cells ++ KC l from hu) with h | h
    · exact one5 c u h
    · exact ih u h
set_option maxRecDepth 100000 in
set_option maxHeartbeats 4000000 in
theorem PoolWrites_main (b off cap : Nat) (l : List K) (w : World) (h1 : 1 ≤ l.length) (h2 : l.length ≤ 3518437208880) (hf : ∀ c ∈ l, Wide c) (hin : In w b off l) :
    Calls Try.prog 7 #[.slice (some ⟨b, off, none⟩) l.length cap] w fun e w' => e = .returned (.bool true) ∧ Below w.heap.size w w' := by
  obtain ⟨i0, hi, hz0, hz1, hz2⟩ := info_parts Try.info43
  go_enter Try.func7, Try.ntmps7
  go_wp2_with fail
  go_loopw [3, 17] (fun v i wr => ∃ k z, k ≤ l.length ∧ i = .int .i64 (k : Nat) ∧ v = .int .i64 z ∧ z = wrap64 ((l.length + texts (l.take k) : Nat) : Int) ∧ Below w.heap.size w wr) (fun _ i _ => l.length - (intOf i).toNat)
  case atStart =>
    refine ⟨0, _, Nat.zero_le _, rfl, rfl, ?_, Below.refl _ _⟩
    rw [List.take_zero, w64_id _ (by omega) (by simp [texts]; omega)]; simp [texts]
  case round =>
    obtain ⟨k, z, hk, rfl, rfl, hz, hbe⟩ := hrel
    have hsz := hbe.size
    by_cases hlt : k < l.length
    · obtain ⟨x0, x1, x2, x3, x4⟩ := hin.at hbe k hlt
      have hts := texts_snoc hlt
      obtain ⟨c, ec⟩ : ∃ c, c = l.getD k K.zero := ⟨_, rfl⟩
      rw [← ec] at x0 x1 x2 x3 x4 hts
      have hfc : Wide c := by rw [ec]; exact hf _ (by simp [List.getD, List.getElem?_eq_getElem hlt])
      clear ec
      obtain ⟨t, tx, bt, ca, cb⟩ := c
      obtain ⟨f1, f2, f3, f4, f5⟩ := hfc
      simp only at x0 x1 x2 x3 x4 f1 f2 f3 f4 f5 hts
      have hbA : Below w.heap.size w (wr.alloc (.cells #[.int .u8 (t : Int), .string ⟨tx.toArray⟩, .int .u64 (bt : Int), .int .u16 (ca : Int), .int .u16 (cb : Int)] 43)) := hbe.alloc hsz _
      have hzn : wrap64 (z + tx.length) = wrap64 ((l.length + texts (l.take (k + 1)) : Nat) : Int) := by
        rw [hz, w64_add, hts, Int.natCast_add, Int.natCast_add, Int.natCast_add, Int.add_assoc]
      have Hzn := hide hzn
      clear hzn hts hz f3
      go_wp2
      go_roundw
      case rel => exact ⟨k + 1, _, by omega, by go_num, rfl, unhide Hzn, hbA⟩
      case measure => simp [intOf]; omega
    · have hkl : k = l.length := by omega
      subst hkl
      rw [List.take_length] at hz
      by_cases hbig : 131072 < z
      · clear hz
        go_wp2
        go_ret
        exact ⟨rfl, hbe⟩
      · have hzl : z ≤ 131072 := by omega
        have hbl : b < wr.heap.size := Nat.lt_of_lt_of_le hin.1 hsz
        have hinr : In wr b off l := ⟨hbl, fun j hj => by rw [hbe.cell hin.1]; exact hin.2 j hj⟩
        have hnew : ∀ j u, (KC l)[j]? = some u → wr.cell? ((⟨b, off, none⟩ : Addr).add j) = some u := fun j u hj => by
          have hjl : j < l.length * 5 := by
            have := (List.getElem?_eq_some_iff.1 hj).1; rwa [KC_length] at this
          rw [show (⟨b, off, none⟩ : Addr).add j = ⟨b, off + j, none⟩ by simp [Addr.add]]
          rw [hinr.2 j hjl]; exact hj
        have Hnew := hide hnew
        have Hz := hide hz
        have hbyt : (0 + l.length) * 40 ≤ 140737488355328 := by omega
        have hno : (131072 : Int) < z → False := fun h => by omega
        clear hnew hz hbig
        go_wp2_with (at_builtin; refine wpList_append_own _ rfl _ _ 33 rfl w.heap.size 43 i0 (.agg #[.int .u8 0, .string ⟨#[]⟩, .int .u64 0, .int .u16 0, .int .u16 0]) 5 40 Try.underlying33 hi hz0 hz1 hz2 rfl (by decide) _ _ _ rfl (World.ownsRow_nil _ _ _ _) ⟨b, off, none⟩ l.length cap (KC l) rfl (KC_length l) (unhide Hnew) (ones l) ?c3 hbyt hsz ?_)
        case c3 => unfold maxLen; omega
        intro v' w1 hown hgrow _
        have hb1 : Below w.heap.size w w1 := hbe.grown hgrow hsz (fun j hj => by cases hj)
        have hin1 : In w1 b off l := ⟨Nat.lt_of_lt_of_le hin.1 hb1.size, fun j hj => by rw [hb1.cell hin.1]; exact hin.2 j hj⟩
        clear hgrow hbe hinr Hnew hsz hbl hbyt hno
        by_cases h65 : l.length ≤ 65535
        · have htx : texts l ≤ 131072 := by
            have q1 := texts_le l (fun c hc => (hf c hc).text)
            have q2 : l.length * 140737488351232 ≤ 65535 * 140737488351232 := Nat.mul_le_mul_right _ h65
            have q3 := unhide Hz
            rw [w64_id _ (by omega) (by omega)] at q3
            omega
          have hft : AllFit l := fun c hc => ⟨(hf c hc).tag, Nat.le_trans (texts_one hc) htx, (hf c hc).bits, (hf c hc).a, (hf c hc).b⟩
          have Hft := hide hft
          clear hft Hz
          go_wp2_with fail
          refine (Write_main b off cap l w1 h1 h65 htx (unhide Hft) hin1).mono ?_
          rintro e w2 ⟨bs, x, i, hr, rfl, hb2⟩
          have hbB : Below w.heap.size w w2 := hb1.trans (hb2.mono hb1.size)
          have hin2 : In w2 b off l := ⟨Nat.lt_of_lt_of_le hin.1 hbB.size, fun j hj => by rw [hbB.cell hin.1]; exact hin.2 j hj⟩
          have ho2 := own_below hown (Nat.le_refl _) hb2
          have Hr := hide hr
          clear hr hb2 hb1 hin1 hown
          go_wp2_with fail
          refine (RefWrite_main b off cap l w2 h1 h65 htx (unhide Hft) hin2).mono ?_
          rintro e w3 ⟨bs', x', i', hr', rfl, hb3⟩
          have hu := hr'.uniq (unhide Hr)
          simp only [Prod.mk.injEq] at hu
          obtain ⟨rfl, rfl, rfl⟩ := hu
          have hbC : Below w.heap.size w w3 := hbB.trans (hb3.mono hbB.size)
          have hs1 := Has.of_own (own_below ho2 (Nat.le_refl _) hb3)
          have hs2 : Has w3 (.slice (some ⟨b, off, none⟩) l.length cap) l := .inr ⟨b, off, cap, rfl, fun j hj => by rw [hbC.cell hin.1]; exact hin.2 j hj⟩
          clear Hr hr' hb3 hbB hin2 ho2 Hft
          go_wp2_with fail
          refine (same_wide v' _ l w3 (by omega) hs1 hs2).mono ?_
          rintro e w4 ⟨rfl, n, rfl⟩
          clear hs1 hs2
          go_wp2
          go_ret
          exact ⟨rfl, below_drewN hbC n⟩
        · clear Hz
          go_wp2_with fail
          refine (Write_len (some ⟨b, off, none⟩) l.length cap w1 (by unfold maxLen; omega) (.inr (by omega))).mono ?_
          rintro e w2 ⟨rfl, hww⟩
          subst w2
          go_wp2_with fail
          refine (RefWrite_len (some ⟨b, off, none⟩) l.length cap w1 (by unfold maxLen; omega) (.inr (by omega))).mono ?_
          rintro e w2 ⟨rfl, hww⟩
          subst w2
          have hs1 := Has.of_own hown
          have hs2 : Has w1 (.slice (some ⟨b, off, none⟩) l.length cap) l := .inr ⟨b, off, cap, rfl, hin1.2⟩
          go_wp2_with fail
          refine (same_wide v' _ l w1 (by omega) hs1 hs2).mono ?_
          rintro e w4 ⟨rfl, n, rfl⟩
          clear hs1 hs2
          go_wp2
          go_ret
          exact ⟨rfl, below_drewN hb1 n⟩
set_option maxRecDepth 100000 in
set_option maxHeartbeats 1000000 in
theorem PoolWrites_nil (w : World) :
    Calls Try.prog 7 #[.slice none 0 0] w fun e w' => e = .returned (.bool true) ∧ Below w.heap.size w w' := by
  go_enter Try.func7, Try.ntmps7
  go_wp2_with fail
  refine wp_loop_rounds 1 ?_
  rw [rounds_succ]
  go_wp2_with fail
  refine (Write_len none 0 0 w (Nat.zero_le _) (.inl rfl)).mono ?_
  rintro e w2 ⟨rfl, hww⟩
  subst w2
  go_wp2_with fail
  refine (RefWrite_len none 0 0 w (Nat.zero_le _) (.inl rfl)).mono ?_
  rintro e w2 ⟨rfl, hww⟩
  subst w2
  go_wp2_with fail
  refine (same_wide (.slice none 0 0) (.slice none 0 0) [] w (by simp) (.inl ⟨none, 0, rfl, rfl⟩) (.inl ⟨none, 0, rfl, rfl⟩)).mono ?_
  rintro e w4 ⟨rfl, n, rfl⟩
  go_wp2
  go_ret
  exact ⟨rfl, below_drewN (Below.refl _ _) n⟩
set_option maxRecDepth 100000 in
set_option maxHeartbeats 1000000 in
theorem PoolWrites_none (x : Addr) (cap : Nat) (w : World) :
    Calls Try.prog 7 #[.slice (some x) 0 cap] w fun e w' => e = .returned (.bool true) ∧ Below w.heap.size w w' := by
  obtain ⟨i0, hi, hz0, hz1, hz2⟩ := info_parts Try.info43
  have hn1 : ∀ j u, ([] : List Value)[j]? = some u → w.cell? (x.add j) = some u := fun j u hj => by simp at hj
  have hn2 : ∀ u ∈ ([] : List Value), u.oneCell' = true := fun u hu => by cases hu
  have Hn1 := hide hn1
  have Hn2 := hide hn2
  clear hn1 hn2
  go_enter Try.func7, Try.ntmps7
  go_wp2_with fail
  refine wp_loop_rounds 1 ?_
  rw [rounds_succ]
  go_wp2_with (at_builtin; refine wpList_append_own _ rfl _ _ 33 rfl w.heap.size 43 i0 (.agg #[.int .u8 0, .string ⟨#[]⟩, .int .u64 0, .int .u16 0, .int .u16 0]) 5 40 Try.underlying33 hi hz0 hz1 hz2 rfl (by decide) _ _ _ rfl (World.ownsRow_nil _ _ _ _) x 0 cap [] rfl rfl (unhide Hn1) (unhide Hn2) ?c1 ?c2 ?c3 ?_)
  case c1 => exact Nat.zero_le _
  case c2 => exact Nat.zero_le _
  case c3 => exact Nat.le_refl _
  intro v' w1 hown hgrow hv
  have hv' : v' = .slice none 0 0 := by simpa using hv
  clear hv
  subst hv'
  have hb1 : Below w.heap.size w w1 := (Below.refl _ _).grown hgrow (Nat.le_refl _) (fun j hj => by cases hj)
  have hs1 : Has w1 (.slice none 0 0) [] := Or.inl ⟨none, 0, rfl, rfl⟩
  clear hgrow hown
  go_wp2_with fail
  refine (Write_len (some x) 0 cap w1 (Nat.zero_le _) (.inl rfl)).mono ?_
  rintro e w2 ⟨rfl, hww⟩
  subst w2
  go_wp2_with fail
  refine (RefWrite_len (some x) 0 cap w1 (Nat.zero_le _) (.inl rfl)).mono ?_
  rintro e w2 ⟨rfl, hww⟩
  subst w2
  have hs2 : Has w1 (.slice (some x) 0 cap) [] := Or.inl ⟨some x, cap, rfl, rfl⟩
  have hsm := same_wide (.slice none 0 0) (.slice (some x) 0 cap) [] w1 (Nat.zero_le _) hs1 hs2
  have Hsm := hide hsm
  clear hsm hs2
  go_wp2_with fail
  refine (unhide Hsm).mono ?_
  rintro e w4 ⟨rfl, n, rfl⟩
  clear hs1
  go_wp2
  go_ret
  exact ⟨rfl, below_drewN hb1 n⟩
end Go.Proofs.Ytlihhfijigoklaa
