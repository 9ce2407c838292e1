/-
  The walk of PoolRounds.
-/
import Derived.Test.YtlihhfijigoklaaRounds
import Derived.Test.YtlihhfijigoklaaPoolReads
namespace Go.Proofs.Ytlihhfijigoklaa
open Go.RowKit
theorem Fin'.err {s : List UInt8} {n : Nat} : ∀ {f : Nat} {l : List K} {a : Nat} {lo : List K} {m e p : Nat}, Fin' s n f l a (lo, m, e, p) → e ≠ 0 → lo = [] ∧ m = 0
  | 0, _, _, _, _, _, _, h, _ => h.elim
  | f + 1, l, a, lo, m, e, p, h, he => by
    rcases h with ⟨h1, h2⟩ | ⟨h1, c, x, hc, ⟨h2, h3⟩ | ⟨h2, ⟨h3, h4⟩ | ⟨_, _, h4⟩ | ⟨h3, h3', h4⟩⟩⟩
    · simp only [Prod.mk.injEq] at h2; exact absurd h2.2.2.1 he
    · simp only [Prod.mk.injEq] at h3; exact ⟨h3.1, h3.2.1⟩
    · exact h4.err he
    · simp only [Prod.mk.injEq] at h4; exact ⟨h4.1, h4.2.1⟩
    · exact h4.err he
theorem ReadRes.err {s : List UInt8} {l : List K} {n x p : Nat} (h : ReadRes s (l, n, x, p)) (hx : x ≠ 0) : l = [] ∧ n = 0 := by
  rcases h with ⟨_, h2⟩ | ⟨_, _, h2⟩ | ⟨_, _, f, h3⟩
  · simp only [Prod.mk.injEq] at h2; exact ⟨h2.1, h2.2.1⟩
  · simp only [Prod.mk.injEq] at h2; exact ⟨h2.1, h2.2.1⟩
  · exact h3.err hx
theorem sample : ReadRes [0, 2, 1, 0, 1, 97] ([K.zero, ⟨1, [97], 0, 0, 0⟩], 6, 0, 0) := by
  refine .inr (.inr ⟨by simp, by simp [M.num], ?_⟩)
  have hx : M.IsText [97] := ⟨[97], by intro u hu; simp at hu; omega, by decide⟩
  have hc := cm_1 (s := [0, 2, 1, 0, 1, 97]) (a := 2) (by simp) (by decide) (by decide) hx
  exact Final.one (by decide) hc rfl (by unfold Two; decide) (Final.done (by decide))
theorem In.of_own {w : World} {B g cap : Nat} {l : List K} (h : w.ownsRow B 43 5 (.slice (some ⟨g, 0, none⟩) l.length cap) l.length (KC l)) : In w g 0 l :=
  ⟨(h.lt g rfl).2, fun j hj => by rw [Nat.zero_add]; exact h.cellAt j hj⟩
set_option maxRecDepth 100000 in
set_option maxHeartbeats 1000000 in
theorem poolWorks_any (w : World) : Calls Try.prog 15 #[] w fun e w' => e = .returned (.bool true) ∧ Below w.heap.size w w' := by
  go_enter Try.func15, Try.ntmps15
  go_wp2_with fail
  refine (Read_any ⟨#[0, 2, 1, 0, 1, 97]⟩ w (by decide)).mono ?_
  rintro e w1 ⟨l, n, x, p, v, hr, rfl, ho, hb1⟩
  have hq := hr.uniq sample
  simp only [Prod.mk.injEq] at hq
  obtain ⟨rfl, rfl, rfl, rfl⟩ := hq
  rcases ho with ⟨h, _⟩ | ⟨B, hB, ho⟩
  · simp at h
  obtain ⟨g, cap, rfl⟩ := own_form ho (by decide)
  have c0 := ho.cellAt 5 (by decide)
  have c1 := ho.cellAt 6 (by decide)
  have c2 := ho.cellAt 7 (by decide)
  have c3 := ho.cellAt 8 (by decide)
  have c4 := ho.cellAt 9 (by decide)
  simp [KC, K.cells, K.zero] at c0 c1 c2 c3 c4
  clear hr ho
  go_wp2
  go_ret
  exact ⟨rfl, hb1⟩
set_option maxRecDepth 100000 in
set_option maxHeartbeats 1000000 in
theorem PoolRounds_main (s : ByteArray) (w : World) (hs : s.size ≤ 32768) :
    Calls Try.prog 6 #[.string s] w fun e w' => e = .returned (.bool true) ∧ Below w.heap.size w w' := by
  go_enter Try.func6, Try.ntmps6
  go_wp2_with fail
  refine (poolWorks_any w).mono ?_
  rintro e w0 ⟨rfl, hb0⟩
  go_wp2_with fail
  refine (Read_any s w0 (by omega)).mono ?_
  rintro e w1 ⟨l, n, x, p, v, hr, rfl, ho, hb1⟩
  have hbA : Below w.heap.size w w1 := hb0.trans (hb1.mono hb0.size)
  clear hb0 hb1
  by_cases hx : x = 0
  · subst hx
    obtain ⟨q1, q2, q3, q4, q5, q6, q7⟩ := read_write hr
    rcases ho with ⟨h, _⟩ | ⟨B, hB, ho⟩
    · rw [h] at q5; simp at q5
    obtain ⟨g, cap, rfl⟩ := own_form ho (by omega)
    have hlen : s.data.toList.length = s.size := by simp
    have hin := In.of_own ho
    have Hq1 := hide q1
    have Hq2 := hide q2
    have hns : n ≤ s.size := by omega
    have hw := Write_main g 0 cap l w1 q5 q6 (by omega) q3 hin
    have Hw := hide hw
    clear q1 q2 hr hw hin
    go_wp2_with fail
    refine (unhide Hw).mono ?_
    rintro e w2 ⟨bs, y, k, hwr, rfl, hb2⟩
    have hu := hwr.uniq (unhide Hq1)
    simp only [Prod.mk.injEq] at hu
    obtain ⟨rfl, rfl, rfl⟩ := hu
    have hbB : Below w.heap.size w w2 := hbA.trans (hb2.mono hbA.size)
    have ho2 := own_below ho (Nat.le_refl _) hb2
    clear Hw Hq1 hwr hb2 hbA ho q3 q4
    have hex : s.extract 0 n = ⟨(s.data.toList.take n).toArray⟩ := by
      have := extract_list s 0 n
      simpa using this
    have hcat : (⟨(s.data.toList.take n).toArray⟩ : ByteArray) ++ ⟨#[109, 111, 114, 101]⟩ = ⟨(s.data.toList.take n ++ [109, 111, 114, 101]).toArray⟩ := cat_text _ [109, 111, 114, 101]
    obtain ⟨T, eT⟩ : ∃ T, T = s.data.toList.take n := ⟨_, rfl⟩
    have hTl : T.length = n := by rw [eT]; simp; omega
    rw [← eT] at hex hcat ⊢
    have hq2 := unhide Hq2 [109, 111, 114, 101]
    rw [← eT] at hq2
    have Hq2' := hide hq2
    have Hex := hide hex
    have Hcat := hide hcat
    clear hex hcat eT Hq2 hq2
    have hUx : ∃ U : ByteArray, (⟨T.toArray⟩ : ByteArray) ++ ⟨#[109, 111, 114, 101]⟩ = U ∧ U.size ≤ 131072 ∧ ReadRes U.data.toList (l, n, 0, 0) := by
      refine ⟨⟨(T ++ [109, 111, 114, 101]).toArray⟩, unhide Hcat, ?_, unhide Hq2'⟩
      show (T ++ [109, 111, 114, 101]).toArray.size ≤ 131072
      simp; omega
    obtain ⟨U, hcat, hUz, hUr⟩ := hUx
    have HU := hide hcat
    have HUr := hide hUr
    clear hcat hUr
    have hcmp : (T == (s.extract 0 n).toList) = true := by rw [unhide Hex, ByteArray.toList_eq]; simp
    have hni : (n : Int) ≤ (s.size : Int) := by omega
    have hTb : T.length ≤ 32768 := by omega
    clear hTl Hex Hcat Hq2'
    go_wp2_with fail
    rw [unhide HU]
    refine (Read_any U w2 hUz).mono ?_
    rintro e w3 ⟨l', n', x', p', v', hr', rfl, ho', hb3⟩
    have hu := hr'.uniq (unhide HUr)
    simp only [Prod.mk.injEq] at hu
    obtain ⟨rfl, rfl, rfl, rfl⟩ := hu
    have hs1 := Has.of_own (own_below ho2 (Nat.le_refl _) hb3)
    have hs2 := Has.of_out ho'
    have hbC : Below w.heap.size w w3 := hbB.trans (hb3.mono hbB.size)
    clear HU HUr hr' ho' hb3 hbB ho2 q7 hlen
    go_wp2_with fail
    refine (same_any _ v' l' w3 (by omega) hs1 hs2).mono ?_
    rintro e w4 ⟨rfl, k, rfl⟩
    clear hs1 hs2
    go_wp2
    go_ret
    exact ⟨rfl, below_drewN hbC k⟩
  · obtain ⟨rfl, rfl⟩ := hr.err hx
    have hxb : ((x : Int) != 0) = true := by rw [bne_iff_ne]; omega
    have hv : ∃ a c, v = .slice a 0 c := by
      rcases ho with ⟨_, rfl⟩ | ⟨B, _, ho⟩
      · exact ⟨none, 0, rfl⟩
      · exact own_form0 ho
    obtain ⟨a, c, rfl⟩ := hv
    clear hx hr ho
    go_wp2
    go_ret
    exact ⟨rfl, hbA⟩
set_option maxRecDepth 100000 in
set_option maxHeartbeats 1000000 in
theorem PoolRounds_big (s : ByteArray) (w : World) (hm : s.size ≤ maxLen) (hs : 32768 < s.size) :
    Calls Try.prog 6 #[.string s] w fun e w' => e = .returned (.bool true) ∧ Below w.heap.size w w' := by
  unfold maxLen at hm
  go_enter Try.func6, Try.ntmps6
  go_wp2
  go_ret
  exact ⟨rfl, Below.refl _ _⟩
end Go.Proofs.Ytlihhfijigoklaa
