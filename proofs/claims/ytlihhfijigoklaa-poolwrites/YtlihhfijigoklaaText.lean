/-
  pool.Text, and jvmcoreref1's Text.
-/
import Derived.Test.YtlihhfijigoklaaRef
import Derived.Laws.BytesArg
namespace Go.Proofs.Ytlihhfijigoklaa
open Go.RowKit
theorem Try.info5 : (Try.prog.info? 5).map (fun i => (i.zero, i.size, i.bytes)) = some (some (.int .u8 0), 1, 1) := by kernel_rfl
def U8 (l : List UInt8) : List Value := l.map fun (b : UInt8) => Value.int .u8 (b.toNat : Int)
theorem U8_append (a b : List UInt8) : U8 (a ++ b) = U8 a ++ U8 b := by simp [U8]
theorem U8_enc1 {u : Nat} (h : 0 < u ∧ u < 128) : U8 (M.enc u) = [.int .u8 (u : Int)] := by
  rw [M.enc1 h]; simp only [U8, List.map_cons, List.map_nil]; rw [of_lt (show u < 256 by omega)]
theorem U8_enc2 {u : Nat} (h1 : ¬ (0 < u ∧ u < 128)) (h2 : u < 2048) : U8 (M.enc u) = [.int .u8 (192 + (u : Int) / 64), .int .u8 (128 + (u : Int) % 64)] := by
  rw [M.enc2 h1 h2]; simp only [U8, List.map_cons, List.map_nil]; rw [of_lt (show 192 + u / 64 < 256 by omega), of_lt (show 128 + u % 64 < 256 by omega)]; rfl
theorem U8_enc3 {u : Nat} (h2 : ¬ u < 2048) (h3 : u < 65536) : U8 (M.enc u) = [.int .u8 (224 + (u : Int) / 4096), .int .u8 (128 + (u : Int) / 64 % 64), .int .u8 (128 + (u : Int) % 64)] := by
  rw [M.enc3 h2]; simp only [U8, List.map_cons, List.map_nil]; rw [of_lt (show 224 + u / 4096 < 256 by omega), of_lt (show 128 + u / 64 % 64 < 256 by omega), of_lt (show 128 + u % 64 < 256 by omega)]; rfl
theorem text_take {L : List Nat} {k : Nat} (hk : k < L.length) : M.text (L.take (k + 1)) = M.text (L.take k) ++ M.enc (L.getD k 0) := by
  rw [List.take_add_one, List.getElem?_eq_getElem hk]; simp only [Option.toList_some, M.text_snoc, List.getD, List.getElem?_eq_getElem hk, Option.getD_some]
theorem text_len_le (L : List Nat) : (M.text L).length ≤ 3 * L.length := by
  induction L with
  | nil => simp [M.text]
  | cons u L ih => simp only [M.text, List.length_append, M.enc_length, List.length_cons]; have := (M.size_pos u).2; omega
theorem own_string {w : World} {base : Nat} {v : Value} {l : List UInt8} (h : w.ownsRow base 5 1 v l.length (U8 l)) : Sem.run Try.prog (convert 48 9 v) w = .ok (.string ⟨l.toArray⟩) w := by
  rcases h.2 with ⟨rfl, h0⟩ | ⟨g, cap, cur, rfl, _, h4, _, _, _, h8⟩
  · have : l = [] := List.length_eq_zero_iff.1 h0
    subst this
    exact run_convert_bytes_nil (P := Try.prog) w 48 5 Try.underlying48 Try.underlying5 0 0 9 Try.underlying9
  · refine run_convert_bytes_back (P := Try.prog) w 48 9 5 ⟨g, 0, none⟩ cap l Try.underlying48 Try.underlying5 Try.underlying9 fun j hj => ?_
    refine h.cells rfl j _ ?_
    simp [U8, hj]
/-- What holds at the loop's head. -/
def TBox (L : List Nat) (w wr : World) (k : Nat) (v : Value) : Prop :=
  wr.ownsRow w.heap.size 5 1 v (M.text (L.take k)).length (U8 (M.text (L.take k))) ∧ Below w.heap.size w wr
theorem TBox.step {L : List Nat} {w wr w1 : World} {k : Nat} {v v' : Value} {u : Nat} {o : Obj} (h : TBox L w wr k v) (hk : k < L.length) (hu : u = L.getD k 0)
    (hown' : w1.ownsRow w.heap.size 5 1 v' ((M.text (L.take k)).length + (M.enc u).length) (U8 (M.text (L.take k)) ++ U8 (M.enc u))) (hgrow : (wr.alloc o).grownBy w1 v.ownBlock) : TBox L w w1 (k + 1) v' := by
  refine ⟨?_, (h.2.alloc h.2.size _).grown hgrow (by have := h.2.size; simp; omega) (fun j hj => by have := (h.1.lt j hj).1; omega)⟩
  rw [text_take hk, ← hu, List.length_append, U8_append]; exact hown'
theorem grown_below {w w' : World} (h : w.grownBy w' none) : Below w.heap.size w w' := (Below.refl _ _).grown h (Nat.le_refl _) (fun k hk => by cases hk)
set_option maxRecDepth 100000 in
set_option maxHeartbeats 1000000 in
theorem Text_any (b off cap : Nat) (L : List Nat) (w : World) (hL : L.length ≤ 32768) (hok : M.Ok L) (hb : b < w.heap.size)
    (hc : ∀ j, j < L.length → w.cell? ⟨b, off + j, none⟩ = some (.int .u16 (L.getD j 0 : Nat))) :
    Calls Try.prog 10 #[.slice (some ⟨b, off, none⟩) L.length cap] w fun e w' => e = .returned (.string ⟨(M.text L).toArray⟩) ∧ Below w.heap.size w w' := by
  obtain ⟨i0, hi, hz0, hz1, hz2⟩ := info_parts Try.info5
  go_enter Try.func10, Try.ntmps10
  go_wp2_with (at_make; refine wpList_make_own _ rfl _ _ 48 rfl w.heap.size 5 i0 (.int .u8 0) 1 Try.underlying48 hi hz0 hz1 .i64 .i64 _ L.length rfl rfl rfl (by rw [hz2]; omega) (by unfold maxLen; omega) (Nat.le_refl _) ?_; intro w0 hown0 hgrow0)
  go_loopw [3, 11] (fun v i wr => ∃ k : Nat, k ≤ L.length ∧ i = .int .i64 k ∧ TBox L w wr k v) (fun _ i _ => L.length - (intOf i).toNat)
  case atStart => exact ⟨0, Nat.zero_le _, rfl, hown0, grown_below hgrow0⟩
  case round =>
    obtain ⟨k, hk, rfl, hT⟩ := hrel
    clear hown0 hgrow0
    have hlen : (M.text (L.take k)).length ≤ 98304 := by have := text_len_le (L.take k); rw [List.length_take] at this; omega
    by_cases hlt : k < L.length
    · obtain ⟨u, hu⟩ : ∃ u : Nat, u = L.getD k 0 := ⟨_, rfl⟩
      have hcx : wr.cell? ⟨b, off + k, none⟩ = some (.int .u16 (u : Int)) := by rw [hu]; exact (hT.2.cell hb).trans (hc k hlt)
      have hu6 : u < 65536 := by rw [hu]; exact hok _ (by simp [List.getD, List.getElem?_eq_getElem hlt])
      have Hu := hide hu
      clear hu hc
      go_wp2_with fail
      refine (unitSize_any u wr hu6).mono ?_
      rintro e w' ⟨rfl, hww⟩
      subst w'
      by_cases h1 : 0 < u ∧ u < 128
      · have hsu : M.size u = 1 := by unfold M.size; rw [if_pos h1]
        have hnews := U8_enc1 h1
        have hsz : (M.enc u).length = 1 := by rw [M.enc_length]; exact hsu
        rw [hsu]
        clear hsu
        have HT := hide hT
        have hown := hT.1
        have hbe := hT.2
        clear hT
        go_wp2_with (first
          | (at_builtin; refine wpList_append_own _ rfl _ _ 48 rfl w.heap.size 5 i0 (.int .u8 0) 1 1 Try.underlying48 hi hz0 hz1 hz2 rfl (by decide) _ _ _ rfl (hown.alloc _) ⟨wr.heap.size, 0, none⟩ 1 1 [.int .u8 (u : Int)] rfl rfl ?c1 ?c2 ?c3 ?c4 ?c5 ?_))
        case c1 =>
          intro j u hj
          match j, hj with
            | 0, hj => simp at hj; subst hj; simp [Addr.add]
        case c2 => intro u hu; simp at hu; subst hu; rfl
        case c3 => unfold maxLen; omega
        case c4 => omega
        case c5 => have := hbe.size; simp; omega
        intro v' w1 hown' hgrow _
        have hst := (unhide HT).step hlt (unhide Hu) (by rw [hnews, hsz]; exact hown') hgrow
        clear hown' hgrow hown HT Hu hnews hsz
        go_wp2
        go_roundw
        case rel => exact ⟨k + 1, by omega, by go_num, hst⟩
        case measure => simp [intOf]; omega
      · by_cases h2 : u < 2048
        · have hsu : M.size u = 2 := by unfold M.size; rw [if_neg h1, if_pos h2]
          have e1 := or192 ((u : Int) / 64) (by omega) (by omega)
          have hnews := U8_enc2 h1 h2
          have hsz : (M.enc u).length = 2 := by rw [M.enc_length]; exact hsu
          rw [hsu]
          clear hsu
          have HT := hide hT
          have hown := hT.1
          have hbe := hT.2
          clear hT
          go_wp2_with (first
            | (go_at_call 22; refine (tailByte_any _ _ (by omega) (by omega)).mono ?_; rintro e w2 ⟨rfl, hww⟩; subst w2)
            | (at_builtin; refine wpList_append_own _ rfl _ _ 48 rfl w.heap.size 5 i0 (.int .u8 0) 1 1 Try.underlying48 hi hz0 hz1 hz2 rfl (by decide) _ _ _ rfl (hown.alloc _) ⟨wr.heap.size, 0, none⟩ 2 2 [.int .u8 (192 + (u : Int) / 64), .int .u8 (128 + (u : Int) % 64)] rfl rfl ?c1 ?c2 ?c3 ?c4 ?c5 ?_))
          case c1 =>
            intro j u hj
            match j, hj with
              | 0, hj => simp at hj; subst hj; simp [Addr.add]
              | 1, hj => simp at hj; subst hj; simp [Addr.add]
          case c2 => intro u hu; simp at hu; rcases hu with rfl | rfl <;> rfl
          case c3 => unfold maxLen; omega
          case c4 => omega
          case c5 => have := hbe.size; simp; omega
          intro v' w1 hown' hgrow _
          have hst := (unhide HT).step hlt (unhide Hu) (by rw [hnews, hsz]; exact hown') hgrow
          clear hown' hgrow hown HT Hu hnews hsz
          go_wp2
          go_roundw
          case rel => exact ⟨k + 1, by omega, by go_num, hst⟩
          case measure => simp [intOf]; omega
        · have hsu : M.size u = 3 := by unfold M.size; rw [if_neg h1, if_neg h2]
          have e1 := or224 ((u : Int) / 4096) (by omega) (by omega)
          have hnews := U8_enc3 h2 hu6
          have hsz : (M.enc u).length = 3 := by rw [M.enc_length]; exact hsu
          rw [hsu]
          clear hsu
          have HT := hide hT
          have hown := hT.1
          have hbe := hT.2
          clear hT
          go_wp2_with (first
            | (go_at_call 22; refine (tailByte_any _ _ (by omega) (by omega)).mono ?_; rintro e w2 ⟨rfl, hww⟩; subst w2)
            | (at_builtin; refine wpList_append_own _ rfl _ _ 48 rfl w.heap.size 5 i0 (.int .u8 0) 1 1 Try.underlying48 hi hz0 hz1 hz2 rfl (by decide) _ _ _ rfl (hown.alloc _) ⟨wr.heap.size, 0, none⟩ 3 3 [.int .u8 (224 + (u : Int) / 4096), .int .u8 (128 + (u : Int) / 64 % 64), .int .u8 (128 + (u : Int) % 64)] rfl rfl ?c1 ?c2 ?c3 ?c4 ?c5 ?_))
          case c1 =>
            intro j u hj
            match j, hj with
              | 0, hj => simp at hj; subst hj; simp [Addr.add]
              | 1, hj => simp at hj; subst hj; simp [Addr.add]
              | 2, hj => simp at hj; subst hj; simp [Addr.add]
          case c2 => intro u hu; simp at hu; rcases hu with rfl | rfl | rfl <;> rfl
          case c3 => unfold maxLen; omega
          case c4 => omega
          case c5 => have := hbe.size; simp; omega
          intro v' w1 hown' hgrow _
          have hst := (unhide HT).step hlt (unhide Hu) (by rw [hnews, hsz]; exact hown') hgrow
          clear hown' hgrow hown HT Hu hnews hsz
          go_wp2
          go_roundw
          case rel => exact ⟨k + 1, by omega, by go_num, hst⟩
          case measure => simp [intOf]; omega
    · have hkl : k = L.length := by omega
      subst hkl
      obtain ⟨hown, hbe⟩ := hT
      rw [List.take_length] at hown hlen
      have hcv : Sem.run Try.prog (convert 48 9 u3) wr = .ok (.string ⟨(M.text L).toArray⟩) wr := own_string hown
      clear hc hown
      go_wp2
      go_ret
      exact ⟨rfl, hbe⟩
end Go.Proofs.Ytlihhfijigoklaa
