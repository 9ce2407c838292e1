/-
  The walk of PoolTexts.
-/
import Derived.Test.YtlihhfijigoklaaPoolUnits
namespace Go.Proofs.Ytlihhfijigoklaa
open Go.RowKit
theorem cells_below {w w' : World} {b : Nat} {off : Nat} {L : List Nat} {k : IntKind} (h : ∀ j, j < L.length → w.cell? ⟨b, off + j, none⟩ = some (.int k (L.getD j 0 : Nat))) (hb : b < w.heap.size) (hbe : Below w.heap.size w w') :
    ∀ j, j < L.length → w'.cell? ⟨b, off + j, none⟩ = some (.int k (L.getD j 0 : Nat)) := fun j hj => (hbe.cell hb).trans (h j hj)
theorem I64_take {L : List Nat} {k : Nat} (hk : k < L.length) : I64 (L.take (k + 1)) = I64 (L.take k) ++ [.int .i64 (L.getD k 0 : Nat)] := by
  have h : L.take (k + 1) = L.take k ++ [L.getD k 0] := by
    rw [List.take_add_one, List.getElem?_eq_getElem hk]; simp only [Option.toList_some, List.getD, List.getElem?_eq_getElem hk, Option.getD_some]
  rw [h, I64_snoc]
set_option maxRecDepth 100000 in
set_option maxHeartbeats 1000000 in
theorem RefText_nil (a : Option Addr) (cap : Nat) (w : World) :
    Calls Try.prog 11 #[.slice a 0 cap] w fun e w' => e = .returned (.string ⟨#[]⟩) ∧ Below w.heap.size w w' := by
  go_enter Try.func11, Try.ntmps11
  go_wp2_with fail
  refine wp_loop_rounds 1 ?_
  rw [rounds_succ]
  go_wp2
  go_ret
  exact ⟨rfl, Below.refl _ _⟩
set_option maxRecDepth 100000 in
set_option maxHeartbeats 1000000 in
theorem PoolTexts_main (b off cap : Nat) (L : List Nat) (w : World) (hL0 : 0 < L.length) (hL : L.length ≤ 32768) (hok : M.Ok L) (hb : b < w.heap.size)
    (hc : ∀ j, j < L.length → w.cell? ⟨b, off + j, none⟩ = some (.int .u16 (L.getD j 0 : Nat))) :
    Calls Try.prog 4 #[.slice (some ⟨b, off, none⟩) L.length cap] w fun e w' => e = .returned (.bool true) ∧ Below w.heap.size w w' := by
  obtain ⟨i0, hi, hz0, hz1, hz2⟩ := info_parts Try.info3
  have Hc := hide hc
  clear hc
  go_enter Try.func4, Try.ntmps4
  go_wp2_with fail
  go_loopw [3, 15] (fun v i wr => ∃ k : Nat, k ≤ L.length ∧ i = .int .i64 k ∧ wr.ownsRow w.heap.size 3 1 v k (I64 (L.take k)) ∧ Below w.heap.size w wr) (fun _ i _ => L.length - (intOf i).toNat)
  case atStart => exact ⟨0, Nat.zero_le _, rfl, by simpa [I64] using World.ownsRow_nil _ _ _ _, Below.refl _ _⟩
  case round =>
    obtain ⟨k, hk, rfl, hown, hbe⟩ := hrel
    by_cases hlt : k < L.length
    · obtain ⟨u, hu⟩ : ∃ u : Nat, u = L.getD k 0 := ⟨_, rfl⟩
      have hcx : wr.cell? ⟨b, off + k, none⟩ = some (.int .u16 (u : Int)) := by rw [hu]; exact (hbe.cell hb).trans (unhide Hc k hlt)
      have hu6 : u < 65536 := by rw [hu]; exact hok _ (by simp [List.getD, List.getElem?_eq_getElem hlt])
      have hit := I64_take hlt
      rw [← hu] at hit
      have Hit := hide hit
      have hsz := hbe.size
      clear hu hit
      go_wp2_with (at_builtin; refine wpList_append_own _ rfl _ _ 25 rfl w.heap.size 3 i0 (.int .i64 0) 1 8 Try.underlying25 hi hz0 hz1 hz2 rfl (by decide) _ _ _ rfl (hown.alloc _) ⟨wr.heap.size, 0, none⟩ 1 1 [.int .i64 u] rfl rfl ?c1 ?c2 ?c3 ?c4 ?c5 ?_)
      case c1 =>
        intro j u hj
        match j, hj with
        | 0, hj => simp at hj; subst hj; simp [Addr.add]
      case c2 => intro u hu; simp at hu; subst hu; rfl
      case c3 => unfold maxLen; omega
      case c4 => omega
      case c5 => simp; omega
      intro v' w1 hown' hgrow _
      have hb1 : Below w.heap.size w w1 := (hbe.alloc hsz _).grown hgrow (by simp; omega) (fun j hj => by have := (hown.lt j hj).1; omega)
      rw [← unhide Hit] at hown'
      clear hgrow hown hcx Hit
      go_wp2
      go_roundw
      case rel => exact ⟨k + 1, by omega, by go_num, hown', hb1⟩
      case measure => simp [intOf]; omega
    · have hkl : k = L.length := by omega
      subst hkl
      rw [List.take_length] at hown
      have hcr := cells_below (unhide Hc) hb hbe
      have hsz := hbe.size
      go_wp2_with fail
      refine (Text_any b off cap L wr hL hok (by omega) hcr).mono ?_
      rintro e w1 ⟨rfl, hb1⟩
      have hbw : Below w.heap.size w w1 := hbe.trans (hb1.mono hsz)
      have ho1 := own_below hown (Nat.le_refl _) hb1
      clear hown hbe hcr hb1 hsz
      have htl : (⟨(M.text L).toArray⟩ : ByteArray).size ≤ 131072 := by
        have := text_len_le L
        show (M.text L).toArray.size ≤ 131072
        rw [List.size_toArray]; omega
      have htd : (⟨(M.text L).toArray⟩ : ByteArray).data.toList = M.text L := rfl
      obtain ⟨S, hS⟩ : ∃ S : ByteArray, S = ⟨(M.text L).toArray⟩ := ⟨_, rfl⟩
      rw [← hS] at htl htd ⊢
      have Htd := hide htd
      have HS := hide hS
      clear htd hS
      go_wp2_with fail
      refine (Units_any S w1 htl).mono ?_
      rintro e w2 (⟨L', v, h1, h2, h3, rfl, ho, hb1⟩ | ⟨h1, rfl, hb1⟩)
      rotate_left
      · rcases h1 with ⟨m, hm, _⟩ | ⟨_, hn⟩
        · cases hm
        · exact absurd (unhide Htd).symm (hn L hok)
      have hLL : L' = L := M.text_inj h1 hok (h2.trans (unhide Htd))
      subst L'
      clear h1 h2 h3
      have hb2 : Below w.heap.size w w2 := hbw.trans (hb1.mono hbw.size)
      have ho2 := own_below ho1 (Nat.le_refl _) hb1
      clear ho1 hbw hb1
      obtain ⟨g1, c1, rfl⟩ := own_form ho hL0
      obtain ⟨g2, c2, rfl⟩ := own_form ho2 hL0
      have hx1 : ∀ j, j < L.length → w2.cell? ⟨g1, j, none⟩ = some (.int .u16 (L.getD j 0 : Nat)) := fun j hj => own_u16 ho rfl j hj
      have hx2 : ∀ j, j < L.length → w2.cell? ⟨g2, 0 + j, none⟩ = some (.int .i64 (L.getD j 0 : Nat)) := fun j hj => by rw [Nat.zero_add]; exact own_i64 ho2 rfl j hj
      have hg1 : g1 < w2.heap.size := (ho.lt g1 rfl).2
      have hg2 : g2 < w2.heap.size := (ho2.lt g2 rfl).2
      have Hx1 := hide hx1
      have Hx2 := hide hx2
      clear hx1 hx2 ho ho2
      go_wp2_with fail
      refine (RefText_any g2 0 c2 L w2 hL hok hg2 (unhide Hx2)).mono ?_
      rintro e w3 ⟨rfl, hb3⟩
      have hbz : Below w.heap.size w w3 := hb2.trans (hb3.mono hb2.size)
      have hy1 : ∀ j, j < L.length → w3.cell? ⟨g1, j, none⟩ = some (.int .u16 (L.getD j 0 : Nat)) := fun j hj => (hb3.cell hg1).trans (unhide Hx1 j hj)
      have hy2 := cells_below (unhide Hc) hb hbz
      have Hy1 := hide hy1
      have Hy2 := hide hy2
      clear hy1 hy2 Hx1 Hx2 hb3 hb2 Hc
      rw [← unhide HS]
      clear HS Htd
      go_wp2_with fail
      go_loopw [49] (fun i wr => ∃ k n : Nat, k ≤ L.length ∧ i = .int .i64 k ∧ wr = w3.drewN n) (fun i _ => L.length - (intOf i).toNat)
      case atStart => exact ⟨0, 0, Nat.zero_le _, rfl, rfl⟩
      case round =>
        obtain ⟨k, n, hk, rfl, rfl⟩ := hrel
        by_cases hlt : k < L.length
        · have y1 := unhide Hy1 k hlt
          have y2 := unhide Hy2 k hlt
          have hki : (k : Int) < (L.length : Int) := by omega
          obtain ⟨u, hu⟩ : ∃ u : Nat, u = L.getD k 0 := ⟨_, rfl⟩
          rw [← hu] at y1 y2
          clear hu
          go_wp2_with fail
          go_quiet (fail)
          go_wp2
          go_roundw
          case rel => exact ⟨k + 1, _, by omega, by go_num, rfl⟩
          case measure => simp [intOf]; omega
        · go_wp2
          go_ret
          exact ⟨rfl, below_drewN hbz n⟩
set_option maxRecDepth 100000 in
set_option maxHeartbeats 1000000 in
theorem PoolTexts_big (a : Option Addr) (len cap : Nat) (w : World) (hm : len ≤ maxLen) (hs : 32768 < len) :
    Calls Try.prog 4 #[.slice a len cap] w fun e w' => e = .returned (.bool true) ∧ Below w.heap.size w w' := by
  unfold maxLen at hm
  go_enter Try.func4, Try.ntmps4
  go_wp2
  go_ret
  exact ⟨rfl, Below.refl _ _⟩
set_option maxRecDepth 100000 in
set_option maxHeartbeats 1000000 in
theorem PoolTexts_none (a : Option Addr) (cap : Nat) (w : World) :
    Calls Try.prog 4 #[.slice a 0 cap] w fun e w' => e = .returned (.bool true) ∧ Below w.heap.size w w' := by
  go_enter Try.func4, Try.ntmps4
  go_wp2_with fail
  refine wp_loop_rounds 1 ?_
  rw [rounds_succ]
  go_wp2_with fail
  refine (Text_nil a cap w).mono ?_
  rintro e w1 ⟨rfl, hb1⟩
  go_wp2_with fail
  refine (Units_any ⟨#[]⟩ w1 (by show 0 ≤ 131072; omega)).mono ?_
  rintro e w2 (⟨L', v, h1, h2, h3, rfl, ho, hb2⟩ | ⟨h1, rfl, hb2⟩)
  rotate_left
  · rcases h1 with ⟨m, hm, _⟩ | ⟨_, hn⟩
    · cases hm
    · exact absurd rfl (hn [] (fun u hu => by cases hu))
  have hLL : L' = [] := M.text_inj h1 (fun u hu => by cases hu) h2
  subst hLL
  clear h1 h2 h3
  obtain ⟨a1, c1, rfl⟩ := own_form0 ho
  have hb : Below w.heap.size w w2 := hb1.trans (hb2.mono hb1.size)
  clear hb1 hb2 ho
  go_wp2_with fail
  refine (RefText_nil none 0 w2).mono ?_
  rintro e w3 ⟨rfl, hb3⟩
  have hbz : Below w.heap.size w w3 := hb.trans (hb3.mono hb.size)
  clear hb3 hb
  go_wp2_with fail
  refine wp_loop_rounds 1 ?_
  rw [rounds_succ]
  go_wp2
  go_ret
  exact ⟨rfl, hbz⟩
end Go.Proofs.Ytlihhfijigoklaa
