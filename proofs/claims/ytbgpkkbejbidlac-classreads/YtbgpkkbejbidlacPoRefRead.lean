/-
  jvmcoreref1's Read.
-/
import Derived.Test.YtbgpkkbejbidlacPoRefNum
import Derived.Test.YtbgpkkbejbidlacMgF
import Derived.Test.YtbgpkkbejbidlacMgG
import Derived.Deep.Cut
namespace Go.Proofs.Ytbgpkkbejbidlac.Po
set_option maxRecDepth 100000
open Go.RowKit
structure RM (w0 W : World) (B g : Nat) (v : Value) (l : List K) (c : K) : Prop where
  kb : Kb W g c
  own : W.ownsRow B 78 5 v l.length (KC l)
  apart : ∀ k, v.ownBlock = some k → k < g
  le : B ≤ g
  old : Below B w0 W
theorem RM.start {w0 W : World} {B : Nat} {v : Value} {l : List K} (t : Nat) (ho : W.ownsRow B 78 5 v l.length (KC l)) (hb : Below B w0 W) (hB : B ≤ W.heap.size) :
    RM w0 (W.alloc (.cells #[.int .u8 (t : Int), .string ⟨#[]⟩, .int .u64 0, .int .u16 0, .int .u16 0] 78)) B W.heap.size v l ⟨t, [], 0, 0, 0⟩ :=
  ⟨Kb.new W t, ho.alloc _, fun k hk => (ho.lt k hk).2, hB, hb.alloc hB _⟩
theorem RM.set {w0 W : World} {B g : Nat} {v : Value} {l : List K} {c c' : K} (h : RM w0 W B g v l c) (i : Nat) (x : Value) (hk : Kb (W.setCell ⟨g, i, none⟩ x) g c') : RM w0 (W.setCell ⟨g, i, none⟩ x) B g v l c' :=
  ⟨hk, h.own.kept (grown_set W g i x) (by
    rcases hv : v.ownBlock with _ | k
    · exact .inl rfl
    · refine .inr ?_
      have := h.apart k hv
      simp; omega), h.apart, h.le, h.old.setCell h.le x⟩
theorem RM.grew {w0 W w' : World} {B g : Nat} {v v' : Value} {l : List K} {c : K} {o : Obj} (h : RM w0 W B g v l c)
    (hown' : w'.ownsRow B 78 5 v' (l.length + 1) (KC l ++ c.cells)) (hgrow : (W.alloc o).grownBy w' v.ownBlock) :
    Kb w' g c ∧ w'.ownsRow B 78 5 v' (l ++ [c]).length (KC (l ++ [c])) ∧ Below B w0 w' := by
  have hng : some g ≠ v.ownBlock := fun e => by have := h.apart g e.symm; omega
  have hsz := h.kb.lt
  have hle := h.le
  refine ⟨(h.kb.kept (World.grownBy_alloc W o none) (by simp)).kept hgrow hng, ?_, ?_⟩
  · rw [KC_snoc, List.length_append, List.length_singleton]; exact hown'
  · exact (h.old.alloc (by omega) o).grown hgrow (by simp; omega) (fun k hk => (h.own.lt k hk).1)
def RInv (s : ByteArray) (n : Nat) (w wr : World) (v : Value) (l : List K) (at_ : Nat) : Prop :=
  at_ ≤ s.size ∧ l.length ≤ n ∧ (∀ r, Final s.data.toList n l at_ r → Final s.data.toList n [K.zero] 2 r) ∧ wr.ownsRow w.heap.size 78 5 v l.length (KC l) ∧ Below w.heap.size w wr
theorem lit_own (w : World) : (w.alloc (.cells #[.int .u8 0, .string ⟨#[]⟩, .int .u64 0, .int .u16 0, .int .u16 0] 78)).ownsRow w.heap.size 78 5 (.slice (some ⟨w.heap.size, 0, none⟩) 1 1) [K.zero].length (KC [K.zero]) :=
  ⟨rfl, .inr ⟨w.heap.size, 1, _, rfl, Nat.le_refl _, heap_alloc_new w _, Nat.le_refl _, by unfold maxLen; omega, rfl, rfl⟩⟩
theorem own_len' {w : World} {B : Nat} {v : Value} {l : List K} (h : w.ownsRow B 78 5 v l.length (KC l)) : ∃ a c, v = .slice a l.length c := by
  rcases h.2 with ⟨h1, h0⟩ | ⟨g, cap, cur, hv, _⟩
  · exact ⟨none, 0, by rw [h1, h0]⟩
  · exact ⟨_, cap, hv⟩
theorem ext_data (s : ByteArray) (a k : Nat) : (s.extract a (a + k)).data.toList = (s.data.toList.drop a).take k := by rw [extract_list]
theorem NumX (s : ByteArray) (a k : Nat) (w : World) (hk : k ≤ 8) : Calls Try.prog 77 #[.string (s.extract a (a + k))] w fun e w' => e = .returned (.int .u64 (M.num ((s.data.toList.drop a).take k) : Nat)) ∧ w' = w := by
  have h := Num_any (s.extract a (a + k)) w (by simp; omega)
  rwa [ext_data] at h
theorem num_le2 (l : List UInt8) : M.num (l.take 2) ≤ 65535 := by
  have h := num_lt (l.take 2)
  have : (l.take 2).length ≤ 2 := List.length_take_le _ _
  have := Nat.pow_le_pow_right (show 0 < 256 by omega) this
  omega
theorem ext_ext (s : ByteArray) (a : Nat) (h : a + 4 ≤ s.size) : (s.extract a (a + 4)).extract 0 2 = s.extract a (a + 2) ∧ (s.extract a (a + 4)).extract 2 (s.extract a (a + 4)).size = s.extract (a + 2) (a + 2 + 2) := by
  have h4 := ext_data s a 4
  have hsz : (s.extract a (a + 4)).size = 4 := by simp; omega
  constructor
  · apply ByteArray.ext; apply Array.ext'
    have := ext_data (s.extract a (a + 4)) 0 2
    rw [Nat.zero_add] at this
    rw [this, h4, ext_data]; simp [List.take_take]
  · apply ByteArray.ext; apply Array.ext'
    rw [hsz]
    have := ext_data (s.extract a (a + 4)) 2 2
    rw [this, h4, ext_data, List.drop_take]; simp [List.take_take, List.drop_drop]
theorem RM.kept {w0 W W' : World} {B g : Nat} {v : Value} {l : List K} {c : K} (h : RM w0 W B g v l c) (hb : Below W.heap.size W W') : RM w0 W' B g v l c :=
  ⟨h.kb.kept (grown_of_below hb none) (by simp), own_below h.own (Nat.le_refl _) hb, h.apart, h.le, h.old.trans (hb.mono (Nat.le_trans h.le (Nat.le_of_lt h.kb.lt)))⟩
set_option maxRecDepth 100000 in
set_option maxHeartbeats 16000000 in
theorem RefRead_main (s : ByteArray) (w : World) (hs : s.size ≤ 131072) (h2 : 2 ≤ s.size) (hn0 : M.num (s.data.toList.take 2) ≠ 0) :
    Calls Try.prog 39 #[.string s] w fun e w' => Readed s w e w' := by
  obtain ⟨i0, hi, hz0, hz1, hz2⟩ := info_parts Try.info78
  have hnl := num_lt (s.data.toList.take 2)
  have hnl2 : M.num (s.data.toList.take 2) ≤ 65535 := by
    have : (s.data.toList.take 2).length = 2 := by simp; omega
    rw [this] at hnl; omega
  have hx := extract_list s 0 2
  simp only [Nat.zero_add, List.drop_zero] at hx
  have c1 := fun w1 => Num_any ⟨(s.data.toList.take 2).toArray⟩ w1 (by show (s.data.toList.take 2).toArray.size ≤ 8; simp; omega)
  have hd : (⟨(s.data.toList.take 2).toArray⟩ : ByteArray).data.toList = s.data.toList.take 2 := rfl
  rw [hd, ← hx] at c1
  obtain ⟨n, hn⟩ : ∃ n, n = M.num (s.data.toList.take 2) := ⟨_, rfl⟩
  rw [← hn] at c1 hnl2 hn0
  have hRR : ∀ r, Final s.data.toList n [K.zero] 2 r → ReadRes s.data.toList r := fun r hr => .inr (.inr ⟨by simpa using h2, by rw [← hn]; exact hn0, by rw [← hn]; exact hr⟩)
  have HRR := hide hRR
  have C1 := hide c1
  have hnz : ((n : Int) == 0) = false := by rw [beq_eq_false_iff_ne]; omega
  clear c1 hRR hnl hn hx hd
  go_enter Try.func39, Try.ntmps39
  go_wp2_with fail
  refine (unhide C1 _).mono ?_
  rintro e w1 ⟨rfl, hww⟩
  subst w1
  clear C1
  go_wp2_with fail
  go_loopw [7, 8] (fun v i wr => ∃ l a, i = .int .i64 (a : Nat) ∧ RInv s n w wr v l a) (fun _ i _ => s.size - (intOf i).toNat)
  case atStart => exact ⟨[K.zero], 2, rfl, h2, by simp; omega, fun r hr => hr, lit_own w, (Below.refl _ _).alloc (Nat.le_refl _) _⟩
  case round =>
    obtain ⟨l, a, rfl, ha, hln, hF, hown, hbe⟩ := hrel
    obtain ⟨ad, cp, hv⟩ := own_len' hown
    subst hv
    have HF := hide hF
    have hsz := hbe.size
    have hlen : s.data.toList.length = s.size := by simp
    clear hF
    by_cases hlt : l.length < n
    · by_cases hend : s.size ≤ a
      · have hfin := unhide HRR _ (unhide HF _ (Final.bad hlt (cm_end (by omega)) (by simp)))
        simp only [hlen] at hfin
        clear hlen
        go_wp2
        refine bodyPost_ret (v := .tuple #[.slice none 0 0, .int .i64 0, .int .i64 1, .int .i64 (s.size : Int)]) (by simp [results, Try.results39, go_sem]) rfl ?_
        exact ⟨[], 0, 1, s.size, _, hfin, rfl, .inl ⟨rfl, rfl⟩, hbe⟩
      · obtain ⟨t, et⟩ : ∃ t : Nat, t = (s.data.toList.getD a 0).toNat := ⟨_, rfl⟩
        have ht : t < 256 := by rw [et]; exact (s.data.toList.getD a 0).toNat_lt
        have hal : a < s.size := by omega
        have hidx : ((s[a]'hal).toNat : Int) = (t : Int) := by rw [et, at_of_list rfl a (by omega)]
        have hai : (a : Int) < (s.size : Int) := by omega
        have hm := RM.start t hown hbe hsz
        have Hm := hide hm
        have Et := hide et
        clear hm et hend
        go_wp2_with fail
        refine (sizes_any t _ ht).mono ?_
        rintro e w1 ⟨rfl, hww⟩
        subst w1
        obtain ⟨g, hg⟩ : ∃ g, g = wr.heap.size := ⟨_, rfl⟩
        generalize hW : wr.alloc (.cells #[.int .u8 (t : Int), .string ⟨#[]⟩, .int .u64 0, .int .u16 0, .int .u16 0] 78) = W at *
        rw [← hg] at Hm ⊢
        clear hg hW hidx
        by_cases hneg : szOf t < 0
        · have hot : t = 0 ∨ t = 2 ∨ 12 < t := by
            unfold szOf at hneg; split at hneg
            · omega
            · split at hneg
              · omega
              · split at hneg
                · omega
                · omega
          have hz : szOf t = -1 := by unfold szOf; rw [if_neg (by omega), if_neg (by omega), if_neg (by omega)]
          have hfin := unhide HRR _ (unhide HF _ (Final.bad hlt (cm_other (by omega) (by rw [← unhide Et]; exact hot)) (by simp)))
          have hbz := (unhide Hm).old
          simp only at hfin
          rw [hz]
          clear hneg hz hot Hm hlen
          go_wp2
          refine bodyPost_ret (v := .tuple #[.slice none 0 0, .int .i64 0, .int .i64 5, .int .i64 (a : Int)]) (by simp [results, Try.results39, go_sem]) rfl ?_
          exact ⟨[], 0, 5, a, _, hfin, rfl, .inl ⟨rfl, rfl⟩, hbz⟩
        · by_cases hsh : (s.size : Int) < (a : Int) + 1 + szOf t
          · obtain ⟨c, x, hc, hx1, hx2⟩ := cm_short (s := s.data.toList) (a := a) (by omega) (by rw [← unhide Et]; omega) (by rw [← unhide Et]; omega)
            have hfin := unhide HRR _ (unhide HF _ (Final.bad hlt hc (by omega)))
            rw [hx1, hx2, hlen] at hfin
            have hbz := (unhide Hm).old
            have hzb : szOf t ≤ 8 := by unfold szOf; split <;> (try split) <;> (try split) <;> omega
            obtain ⟨z, ez⟩ : ∃ z, z = szOf t := ⟨_, rfl⟩
            rw [← ez] at hneg hsh hzb ⊢
            clear ez hc hx1 hx2 Hm hlen
            go_wp2
            refine bodyPost_ret (v := .tuple #[.slice none 0 0, .int .i64 0, .int .i64 1, .int .i64 (s.size : Int)]) (by simp [results, Try.results39, go_sem]) rfl ?_
            exact ⟨[], 0, 1, s.size, _, hfin, rfl, .inl ⟨rfl, rfl⟩, hbz⟩
          · have hcases : t = 1 ∨ t = 3 ∨ t = 4 ∨ t = 5 ∨ t = 6 ∨ t = 7 ∨ t = 8 ∨ t = 9 ∨ t = 10 ∨ t = 11 ∨ t = 12 := by
              by_cases hot : t = 0 ∨ t = 2 ∨ 12 < t
              · exfalso; apply hneg; unfold szOf; rw [if_neg (by omega), if_neg (by omega), if_neg (by omega)]; omega
              · omega
            rcases hcases with htt | htt | htt | htt | htt | htt | htt | htt | htt | htt | htt
            · subst htt
              rw [show szOf 1 = 2 from rfl] at hsh ⊢
              have hm := unhide Hm
              have k0 := hm.kb.cell 0
              simp at k0
              have hgle0 := hm.le
              clear hneg Hm ht
              have hb2 := num_le2 (s.data.toList.drop (a + 1))
              go_wp2_with fail
              refine (NumX s (a + 1) 2 W (by omega)).mono ?_
              rintro e w1 ⟨rfl, hww⟩
              subst w1
              obtain ⟨kk, hkk⟩ : ∃ kk, kk = M.num ((s.data.toList.drop (a + 1)).take 2) := ⟨_, rfl⟩
              rw [← hkk] at hb2 ⊢
              have Hkk := hide hkk
              clear hkk
              by_cases hte : s.size < a + 3 + kk
              · have hfin := unhide HRR _ (unhide HF _ (Final.bad hlt (cm_1e (s := s.data.toList) (a := a) (by omega) (unhide Et).symm (by rw [← unhide Hkk]; omega)) (by simp)))
                simp only [hlen] at hfin
                have hti : (s.size : Int) < (a : Int) + 1 + 2 + (kk : Int) := by omega
                have hbz := hm.old
                clear hm hlen hte
                go_wp2
                refine bodyPost_ret (v := .tuple #[.slice none 0 0, .int .i64 0, .int .i64 1, .int .i64 (s.size : Int)]) (by simp [results, Try.results39, go_sem]) rfl ?_
                exact ⟨[], 0, 1, s.size, _, hfin, rfl, .inl ⟨rfl, rfl⟩, hbz⟩
              · have hti : (a : Int) + 1 + 2 + (kk : Int) ≤ (s.size : Int) := by omega
                have k2 := hm.kb.cell 1
                have k2f := hm.kb.frozen 1
                simp at k2
                have hxt := extract_list s (a + 3) kk
                obtain ⟨tx, etx⟩ : ∃ tx, tx = (s.data.toList.drop (a + 3)).take kk := ⟨_, rfl⟩
                rw [← etx] at hxt
                have htz : (⟨tx.toArray⟩ : ByteArray).size ≤ 131072 := by show tx.toArray.size ≤ 131072; rw [etx]; simp; omega
                have htd : (⟨tx.toArray⟩ : ByteArray).data.toList = tx := rfl
                have hm2 := hm.set 1 _ (hm.kb.text tx)
                have Hxt := hide hxt
                have Etx := hide etx
                have Htd := hide htd
                clear hxt etx htd
                go_upto_region 28 with fail
                go_upto_region 29 with fail
                rw [show a + 1 + 2 = a + 3 from rfl, unhide Hxt]
                clear k2 k2f hm Hxt
                generalize W.setCell ⟨g, 1, none⟩ (.string ⟨tx.toArray⟩) = Wt at *
                have k1 := hm2.kb.cell 1
                simp at k1
                have k0' := hm2.kb.cell 0
                simp at k0'
                clear k0
                go_wp2_with fail
                refine (RefUnits_any ⟨tx.toArray⟩ Wt htz).mono ?_
                rintro e W2 hun
                have hum : (e = .returned (.tuple #[.slice none 0 0, .bool false]) ∧ ¬ M.IsText tx ∧ Below Wt.heap.size Wt W2) ∨ (∃ vv, e = .returned (.tuple #[vv, .bool true]) ∧ M.IsText tx ∧ Below Wt.heap.size Wt W2) := by
                  rcases hun with ⟨L, vv, u1, u2, _, u4, _, u6⟩ | ⟨u1, u2, u3⟩
                  · exact .inr ⟨vv, u4, ⟨L, u1, u2⟩, u6⟩
                  · refine .inl ⟨u2, ?_, u3⟩
                    rintro ⟨m, hm, hmt⟩
                    rcases u1 with ⟨_, h, _⟩ | ⟨_, h⟩
                    · cases h
                    · exact h m hm hmt
                clear hun
                rcases hum with ⟨rfl, hxx, hbb⟩ | ⟨vv, rfl, hxx, hbb⟩
                · have hfin := unhide HRR _ (unhide HF _ (Final.bad hlt (cm_1x (s := s.data.toList) (a := a) (by omega) (unhide Et).symm (by rw [← unhide Hkk]; omega) (by rw [← unhide Hkk, ← unhide Etx]; exact hxx)) (by simp)))
                  have hbz := (hm2.kept hbb).old
                  simp only at hfin
                  clear hm2 hbb k1 k0' hxx
                  go_wp2
                  refine bodyPost_ret (v := .tuple #[.slice none 0 0, .int .i64 0, .int .i64 6, .int .i64 (a : Int)]) (by simp [results, Try.results39, go_sem]) rfl ?_
                  exact ⟨[], 0, 6, a, _, hfin, rfl, .inl ⟨rfl, rfl⟩, hbz⟩
                · have hm3 := hm2.kept hbb
                  clear hm2 hbb k1 k0'
                  have hm2 := hm3
                  clear hm3
                  have q0 := hm2.kb.cell 0
                  have q1 := hm2.kb.cell 1
                  have q2 := hm2.kb.cell 2
                  have q3 := hm2.kb.cell 3
                  have q4 := hm2.kb.cell 4
                  simp at q0 q1 q2 q3 q4
                  have hwz := hm2.kb.lt
                  have hgle := hm2.le
                  have hcm := show CM s.data.toList ⟨a, 0, 0⟩ ⟨1, tx, 0, 0, 0⟩ ⟨a + 3 + kk, 0, 0⟩ from by have h := cm_1 (s := s.data.toList) (a := a) (by omega) (unhide Et).symm (by rw [← unhide Hkk]; omega) (by rw [← unhide Hkk, ← unhide Etx]; exact hxx); rwa [← unhide Hkk, ← unhide Etx] at h
                  have Hcm := hide hcm
                  clear hcm
                  go_wp2_with (at_builtin; refine wpList_append_own _ rfl _ _ 22 rfl w.heap.size 78 i0 (.agg #[.int .u8 0, .string ⟨#[]⟩, .int .u64 0, .int .u16 0, .int .u16 0]) 5 40 Try.underlying22 hi hz0 hz1 hz2 rfl (by decide) _ _ _ rfl (hm2.own.alloc _) ⟨W2.heap.size, 0, none⟩ 1 1 (K.cells ⟨1, tx, 0, 0, 0⟩) rfl rfl ?c1 ?c2 ?c3 ?c4 ?c5 ?_)
                  case c1 => refine at5 ?_ ?_ ?_ ?_ ?_ <;> (rw [World.cell?_alloc_at _ _ _ _ rfl]; rfl)
                  case c2 => exact one5 _
                  case c3 => unfold maxLen; omega
                  case c4 => omega
                  case c5 => simp; omega
                  intro v' w3 hown' hgrow _
                  obtain ⟨x1, x2, x3⟩ := hm2.grew hown' hgrow
                  obtain ⟨g', cap', rfl⟩ := own_form hown' (by omega)
                  have y0 := x1.cell 0
                  simp at y0
                  clear q0 q1 q2 q3 q4 hown' hgrow hm2 hown hbe
                  go_wp2
                  go_roundw
                  case rel => exact ⟨l ++ [⟨1, tx, 0, 0, 0⟩], a + 3 + kk, by go_num, by omega, by simp; omega, fun r hr => unhide HF r (hr.one hlt (unhide Hcm) rfl (by unfold Two; simp)), x2, x3⟩
                  case measure => simp [intOf]; omega
            · subst htt
              rw [show szOf 3 = 4 from rfl] at hsh ⊢
              have hm := unhide Hm
              have k0 := hm.kb.cell 0
              simp at k0
              have hgle0 := hm.le
              clear hneg Hm ht
              go_wp2_with fail
              refine (NumX s (a + 1) 4 W (by omega)).mono ?_
              rintro e w1 ⟨rfl, hww⟩
              subst w1
              have k2 := hm.kb.cell 2
              have k2f := hm.kb.frozen 2
              simp at k2
              have hm2 := hm.set 2 _ (hm.kb.bits (M.num ((s.data.toList.drop (a + 1)).take 4)))
              go_upto_region 41 with fail
              clear k2 k2f k0 hm
              generalize W.setCell ⟨g, 2, none⟩ (.int .u64 (M.num ((s.data.toList.drop (a + 1)).take 4) : Nat)) = W2 at *
              have q0 := hm2.kb.cell 0
              have q1 := hm2.kb.cell 1
              have q2 := hm2.kb.cell 2
              have q3 := hm2.kb.cell 3
              have q4 := hm2.kb.cell 4
              simp at q0 q1 q2 q3 q4
              have hwz := hm2.kb.lt
              have hgle := hm2.le
              have hcm := show CM s.data.toList ⟨a, 0, 0⟩ ⟨3, [], M.num ((s.data.toList.drop (a + 1)).take 4), 0, 0⟩ ⟨a + 5, 0, 0⟩ from by have h := cm_34 (s := s.data.toList) (a := a) (by omega) (by rw [← unhide Et]; simp); rwa [← unhide Et] at h
              have Hcm := hide hcm
              clear hcm
              go_wp2_with (at_builtin; refine wpList_append_own _ rfl _ _ 22 rfl w.heap.size 78 i0 (.agg #[.int .u8 0, .string ⟨#[]⟩, .int .u64 0, .int .u16 0, .int .u16 0]) 5 40 Try.underlying22 hi hz0 hz1 hz2 rfl (by decide) _ _ _ rfl (hm2.own.alloc _) ⟨W2.heap.size, 0, none⟩ 1 1 (K.cells ⟨3, [], M.num ((s.data.toList.drop (a + 1)).take 4), 0, 0⟩) rfl rfl ?c1 ?c2 ?c3 ?c4 ?c5 ?_)
              case c1 => refine at5 ?_ ?_ ?_ ?_ ?_ <;> (rw [World.cell?_alloc_at _ _ _ _ rfl]; rfl)
              case c2 => exact one5 _
              case c3 => unfold maxLen; omega
              case c4 => omega
              case c5 => simp; omega
              intro v' w3 hown' hgrow _
              obtain ⟨x1, x2, x3⟩ := hm2.grew hown' hgrow
              obtain ⟨g', cap', rfl⟩ := own_form hown' (by omega)
              have y0 := x1.cell 0
              simp at y0
              clear q0 q1 q2 q3 q4 hown' hgrow hm2 hown hbe
              go_wp2
              go_roundw
              case rel => exact ⟨l ++ [⟨3, [], M.num ((s.data.toList.drop (a + 1)).take 4), 0, 0⟩], a + 5, by go_num, by omega, by simp; omega, fun r hr => unhide HF r (hr.one hlt (unhide Hcm) rfl (by unfold Two; simp)), x2, x3⟩
              case measure => simp [intOf]; omega
            · subst htt
              rw [show szOf 4 = 4 from rfl] at hsh ⊢
              have hm := unhide Hm
              have k0 := hm.kb.cell 0
              simp at k0
              have hgle0 := hm.le
              clear hneg Hm ht
              go_wp2_with fail
              refine (NumX s (a + 1) 4 W (by omega)).mono ?_
              rintro e w1 ⟨rfl, hww⟩
              subst w1
              have k2 := hm.kb.cell 2
              have k2f := hm.kb.frozen 2
              simp at k2
              have hm2 := hm.set 2 _ (hm.kb.bits (M.num ((s.data.toList.drop (a + 1)).take 4)))
              go_upto_region 41 with fail
              clear k2 k2f k0 hm
              generalize W.setCell ⟨g, 2, none⟩ (.int .u64 (M.num ((s.data.toList.drop (a + 1)).take 4) : Nat)) = W2 at *
              have q0 := hm2.kb.cell 0
              have q1 := hm2.kb.cell 1
              have q2 := hm2.kb.cell 2
              have q3 := hm2.kb.cell 3
              have q4 := hm2.kb.cell 4
              simp at q0 q1 q2 q3 q4
              have hwz := hm2.kb.lt
              have hgle := hm2.le
              have hcm := show CM s.data.toList ⟨a, 0, 0⟩ ⟨4, [], M.num ((s.data.toList.drop (a + 1)).take 4), 0, 0⟩ ⟨a + 5, 0, 0⟩ from by have h := cm_34 (s := s.data.toList) (a := a) (by omega) (by rw [← unhide Et]; simp); rwa [← unhide Et] at h
              have Hcm := hide hcm
              clear hcm
              go_wp2_with (at_builtin; refine wpList_append_own _ rfl _ _ 22 rfl w.heap.size 78 i0 (.agg #[.int .u8 0, .string ⟨#[]⟩, .int .u64 0, .int .u16 0, .int .u16 0]) 5 40 Try.underlying22 hi hz0 hz1 hz2 rfl (by decide) _ _ _ rfl (hm2.own.alloc _) ⟨W2.heap.size, 0, none⟩ 1 1 (K.cells ⟨4, [], M.num ((s.data.toList.drop (a + 1)).take 4), 0, 0⟩) rfl rfl ?c1 ?c2 ?c3 ?c4 ?c5 ?_)
              case c1 => refine at5 ?_ ?_ ?_ ?_ ?_ <;> (rw [World.cell?_alloc_at _ _ _ _ rfl]; rfl)
              case c2 => exact one5 _
              case c3 => unfold maxLen; omega
              case c4 => omega
              case c5 => simp; omega
              intro v' w3 hown' hgrow _
              obtain ⟨x1, x2, x3⟩ := hm2.grew hown' hgrow
              obtain ⟨g', cap', rfl⟩ := own_form hown' (by omega)
              have y0 := x1.cell 0
              simp at y0
              clear q0 q1 q2 q3 q4 hown' hgrow hm2 hown hbe
              go_wp2
              go_roundw
              case rel => exact ⟨l ++ [⟨4, [], M.num ((s.data.toList.drop (a + 1)).take 4), 0, 0⟩], a + 5, by go_num, by omega, by simp; omega, fun r hr => unhide HF r (hr.one hlt (unhide Hcm) rfl (by unfold Two; simp)), x2, x3⟩
              case measure => simp [intOf]; omega
            · subst htt
              rw [show szOf 5 = 8 from rfl] at hsh ⊢
              have hm := unhide Hm
              have k0 := hm.kb.cell 0
              simp at k0
              have hgle0 := hm.le
              clear hneg Hm ht
              go_wp2_with fail
              refine (NumX s (a + 1) 8 W (by omega)).mono ?_
              rintro e w1 ⟨rfl, hww⟩
              subst w1
              have k2 := hm.kb.cell 2
              have k2f := hm.kb.frozen 2
              simp at k2
              have hm2 := hm.set 2 _ (hm.kb.bits (M.num ((s.data.toList.drop (a + 1)).take 8)))
              go_upto_region 41 with fail
              clear k2 k2f k0 hm
              generalize W.setCell ⟨g, 2, none⟩ (.int .u64 (M.num ((s.data.toList.drop (a + 1)).take 8) : Nat)) = W2 at *
              have q0 := hm2.kb.cell 0
              have q1 := hm2.kb.cell 1
              have q2 := hm2.kb.cell 2
              have q3 := hm2.kb.cell 3
              have q4 := hm2.kb.cell 4
              simp at q0 q1 q2 q3 q4
              have hwz := hm2.kb.lt
              have hgle := hm2.le
              have hcm := show CM s.data.toList ⟨a, 0, 0⟩ ⟨5, [], M.num ((s.data.toList.drop (a + 1)).take 8), 0, 0⟩ ⟨a + 9, 0, 0⟩ from by have h := cm_56 (s := s.data.toList) (a := a) (by omega) (by rw [← unhide Et]; simp); rwa [← unhide Et] at h
              have Hcm := hide hcm
              clear hcm
              go_wp2_with (at_builtin; refine wpList_append_own _ rfl _ _ 22 rfl w.heap.size 78 i0 (.agg #[.int .u8 0, .string ⟨#[]⟩, .int .u64 0, .int .u16 0, .int .u16 0]) 5 40 Try.underlying22 hi hz0 hz1 hz2 rfl (by decide) _ _ _ rfl (hm2.own.alloc _) ⟨W2.heap.size, 0, none⟩ 1 1 (K.cells ⟨5, [], M.num ((s.data.toList.drop (a + 1)).take 8), 0, 0⟩) rfl rfl ?c1 ?c2 ?c3 ?c4 ?c5 ?_)
              case c1 => refine at5 ?_ ?_ ?_ ?_ ?_ <;> (rw [World.cell?_alloc_at _ _ _ _ rfl]; rfl)
              case c2 => exact one5 _
              case c3 => unfold maxLen; omega
              case c4 => omega
              case c5 => simp; omega
              intro v' w3 hown' hgrow _
              obtain ⟨x1, x2, x3⟩ := hm2.grew hown' hgrow
              obtain ⟨g', cap', rfl⟩ := own_form hown' (by omega)
              have y0 := x1.cell 0
              simp at y0
              clear q0 q1 q2 q3 q4 hown' hgrow hm2 hown hbe
              have hsz3 := x1.lt
              go_wp2_with (at_builtin; go_must (refine wpList_append_own _ rfl _ _ 22 rfl w.heap.size 78 i0 (.agg #[.int .u8 0, .string ⟨#[]⟩, .int .u64 0, .int .u16 0, .int .u16 0]) 5 40 Try.underlying22 hi hz0 hz1 hz2 rfl (by decide) _ _ _ rfl (x2.alloc _) ⟨w3.heap.size, 0, none⟩ 1 1 (K.cells K.zero) rfl rfl ?d1 ?d2 ?d3 ?d4 ?d5 ?_))
              case d1 => refine at5 ?_ ?_ ?_ ?_ ?_ <;> (rw [World.cell?_alloc_at _ _ _ _ rfl]; rfl)
              case d2 => exact one5 _
              case d3 => unfold maxLen; simp; omega
              case d4 => simp; omega
              case d5 => simp; omega
              intro v5 w5 hown5 hgrow5 _
              have z2 : w5.ownsRow w.heap.size 78 5 v5 (l ++ [(⟨5, [], M.num ((s.data.toList.drop (a + 1)).take 8), 0, 0⟩ : K)] ++ [K.zero]).length (KC (l ++ [(⟨5, [], M.num ((s.data.toList.drop (a + 1)).take 8), 0, 0⟩ : K)] ++ [K.zero])) := by
                rw [KC_snoc _ K.zero, List.length_append, List.length_append, List.length_singleton, List.length_singleton]; exact hown5
              have z3 : Below w.heap.size w w5 := (x3.alloc (by omega) _).grown hgrow5 (by simp; omega) (fun k hk => (x2.lt k hk).1)
              obtain ⟨g5, cap5, rfl⟩ := own_form hown5 (by simp)
              clear hown5 hgrow5 x1 x2 x3
              by_cases hfit : l.length + 2 ≤ n
              · have hfi : (l.length : Int) + 2 ≤ (n : Int) := by omega
                go_wp2
                go_roundw
                case rel => exact ⟨l ++ [⟨5, [], M.num ((s.data.toList.drop (a + 1)).take 8), 0, 0⟩] ++ [K.zero], a + 9, by go_num, by omega, by simp; omega, fun r hr => unhide HF r (hr.two hlt (unhide Hcm) rfl (by unfold Two; simp) hfit), z2, z3⟩
                case measure => simp [intOf]; omega
              · have hfi : (n : Int) < (l.length : Int) + 2 := by omega
                have hfin := unhide HRR _ (unhide HF _ (Final.last hlt (unhide Hcm) rfl (by unfold Two; simp) (by omega)))
                clear hfit
                go_wp2
                refine bodyPost_ret (v := .tuple #[.slice none 0 0, .int .i64 0, .int .i64 12, .int .i64 (a : Int)]) (by simp [results, Try.results39, go_sem]) rfl ?_
                exact ⟨[], 0, 12, a, _, hfin, rfl, .inl ⟨rfl, rfl⟩, z3⟩
            · subst htt
              rw [show szOf 6 = 8 from rfl] at hsh ⊢
              have hm := unhide Hm
              have k0 := hm.kb.cell 0
              simp at k0
              have hgle0 := hm.le
              clear hneg Hm ht
              go_wp2_with fail
              refine (NumX s (a + 1) 8 W (by omega)).mono ?_
              rintro e w1 ⟨rfl, hww⟩
              subst w1
              have k2 := hm.kb.cell 2
              have k2f := hm.kb.frozen 2
              simp at k2
              have hm2 := hm.set 2 _ (hm.kb.bits (M.num ((s.data.toList.drop (a + 1)).take 8)))
              go_upto_region 41 with fail
              clear k2 k2f k0 hm
              generalize W.setCell ⟨g, 2, none⟩ (.int .u64 (M.num ((s.data.toList.drop (a + 1)).take 8) : Nat)) = W2 at *
              have q0 := hm2.kb.cell 0
              have q1 := hm2.kb.cell 1
              have q2 := hm2.kb.cell 2
              have q3 := hm2.kb.cell 3
              have q4 := hm2.kb.cell 4
              simp at q0 q1 q2 q3 q4
              have hwz := hm2.kb.lt
              have hgle := hm2.le
              have hcm := show CM s.data.toList ⟨a, 0, 0⟩ ⟨6, [], M.num ((s.data.toList.drop (a + 1)).take 8), 0, 0⟩ ⟨a + 9, 0, 0⟩ from by have h := cm_56 (s := s.data.toList) (a := a) (by omega) (by rw [← unhide Et]; simp); rwa [← unhide Et] at h
              have Hcm := hide hcm
              clear hcm
              go_wp2_with (at_builtin; refine wpList_append_own _ rfl _ _ 22 rfl w.heap.size 78 i0 (.agg #[.int .u8 0, .string ⟨#[]⟩, .int .u64 0, .int .u16 0, .int .u16 0]) 5 40 Try.underlying22 hi hz0 hz1 hz2 rfl (by decide) _ _ _ rfl (hm2.own.alloc _) ⟨W2.heap.size, 0, none⟩ 1 1 (K.cells ⟨6, [], M.num ((s.data.toList.drop (a + 1)).take 8), 0, 0⟩) rfl rfl ?c1 ?c2 ?c3 ?c4 ?c5 ?_)
              case c1 => refine at5 ?_ ?_ ?_ ?_ ?_ <;> (rw [World.cell?_alloc_at _ _ _ _ rfl]; rfl)
              case c2 => exact one5 _
              case c3 => unfold maxLen; omega
              case c4 => omega
              case c5 => simp; omega
              intro v' w3 hown' hgrow _
              obtain ⟨x1, x2, x3⟩ := hm2.grew hown' hgrow
              obtain ⟨g', cap', rfl⟩ := own_form hown' (by omega)
              have y0 := x1.cell 0
              simp at y0
              clear q0 q1 q2 q3 q4 hown' hgrow hm2 hown hbe
              have hsz3 := x1.lt
              go_wp2_with (at_builtin; go_must (refine wpList_append_own _ rfl _ _ 22 rfl w.heap.size 78 i0 (.agg #[.int .u8 0, .string ⟨#[]⟩, .int .u64 0, .int .u16 0, .int .u16 0]) 5 40 Try.underlying22 hi hz0 hz1 hz2 rfl (by decide) _ _ _ rfl (x2.alloc _) ⟨w3.heap.size, 0, none⟩ 1 1 (K.cells K.zero) rfl rfl ?d1 ?d2 ?d3 ?d4 ?d5 ?_))
              case d1 => refine at5 ?_ ?_ ?_ ?_ ?_ <;> (rw [World.cell?_alloc_at _ _ _ _ rfl]; rfl)
              case d2 => exact one5 _
              case d3 => unfold maxLen; simp; omega
              case d4 => simp; omega
              case d5 => simp; omega
              intro v5 w5 hown5 hgrow5 _
              have z2 : w5.ownsRow w.heap.size 78 5 v5 (l ++ [(⟨6, [], M.num ((s.data.toList.drop (a + 1)).take 8), 0, 0⟩ : K)] ++ [K.zero]).length (KC (l ++ [(⟨6, [], M.num ((s.data.toList.drop (a + 1)).take 8), 0, 0⟩ : K)] ++ [K.zero])) := by
                rw [KC_snoc _ K.zero, List.length_append, List.length_append, List.length_singleton, List.length_singleton]; exact hown5
              have z3 : Below w.heap.size w w5 := (x3.alloc (by omega) _).grown hgrow5 (by simp; omega) (fun k hk => (x2.lt k hk).1)
              obtain ⟨g5, cap5, rfl⟩ := own_form hown5 (by simp)
              clear hown5 hgrow5 x1 x2 x3
              by_cases hfit : l.length + 2 ≤ n
              · have hfi : (l.length : Int) + 2 ≤ (n : Int) := by omega
                go_wp2
                go_roundw
                case rel => exact ⟨l ++ [⟨6, [], M.num ((s.data.toList.drop (a + 1)).take 8), 0, 0⟩] ++ [K.zero], a + 9, by go_num, by omega, by simp; omega, fun r hr => unhide HF r (hr.two hlt (unhide Hcm) rfl (by unfold Two; simp) hfit), z2, z3⟩
                case measure => simp [intOf]; omega
              · have hfi : (n : Int) < (l.length : Int) + 2 := by omega
                have hfin := unhide HRR _ (unhide HF _ (Final.last hlt (unhide Hcm) rfl (by unfold Two; simp) (by omega)))
                clear hfit
                go_wp2
                refine bodyPost_ret (v := .tuple #[.slice none 0 0, .int .i64 0, .int .i64 12, .int .i64 (a : Int)]) (by simp [results, Try.results39, go_sem]) rfl ?_
                exact ⟨[], 0, 12, a, _, hfin, rfl, .inl ⟨rfl, rfl⟩, z3⟩
            · subst htt
              rw [show szOf 7 = 2 from rfl] at hsh ⊢
              have hm := unhide Hm
              have k0 := hm.kb.cell 0
              simp at k0
              have hgle0 := hm.le
              clear hneg Hm ht
              have hb2 := num_le2 (s.data.toList.drop (a + 1))
              go_wp2_with fail
              refine (NumX s (a + 1) 2 W (by omega)).mono ?_
              rintro e w1 ⟨rfl, hww⟩
              subst w1
              have k2 := hm.kb.cell 3
              have k2f := hm.kb.frozen 3
              simp at k2
              have hm2 := hm.set 3 _ (hm.kb.a (M.num ((s.data.toList.drop (a + 1)).take 2)))
              go_upto_region 41 with fail
              clear k2 k2f k0 hm
              generalize W.setCell ⟨g, 3, none⟩ (.int .u16 (M.num ((s.data.toList.drop (a + 1)).take 2) : Nat)) = W2 at *
              have q0 := hm2.kb.cell 0
              have q1 := hm2.kb.cell 1
              have q2 := hm2.kb.cell 2
              have q3 := hm2.kb.cell 3
              have q4 := hm2.kb.cell 4
              simp at q0 q1 q2 q3 q4
              have hwz := hm2.kb.lt
              have hgle := hm2.le
              have hcm := show CM s.data.toList ⟨a, 0, 0⟩ ⟨7, [], 0, M.num ((s.data.toList.drop (a + 1)).take 2), 0⟩ ⟨a + 3, 0, 0⟩ from by have h := cm_78 (s := s.data.toList) (a := a) (by omega) (by rw [← unhide Et]; simp); rwa [← unhide Et] at h
              have Hcm := hide hcm
              clear hcm
              go_wp2_with (at_builtin; refine wpList_append_own _ rfl _ _ 22 rfl w.heap.size 78 i0 (.agg #[.int .u8 0, .string ⟨#[]⟩, .int .u64 0, .int .u16 0, .int .u16 0]) 5 40 Try.underlying22 hi hz0 hz1 hz2 rfl (by decide) _ _ _ rfl (hm2.own.alloc _) ⟨W2.heap.size, 0, none⟩ 1 1 (K.cells ⟨7, [], 0, M.num ((s.data.toList.drop (a + 1)).take 2), 0⟩) rfl rfl ?c1 ?c2 ?c3 ?c4 ?c5 ?_)
              case c1 => refine at5 ?_ ?_ ?_ ?_ ?_ <;> (rw [World.cell?_alloc_at _ _ _ _ rfl]; rfl)
              case c2 => exact one5 _
              case c3 => unfold maxLen; omega
              case c4 => omega
              case c5 => simp; omega
              intro v' w3 hown' hgrow _
              obtain ⟨x1, x2, x3⟩ := hm2.grew hown' hgrow
              obtain ⟨g', cap', rfl⟩ := own_form hown' (by omega)
              have y0 := x1.cell 0
              simp at y0
              clear q0 q1 q2 q3 q4 hown' hgrow hm2 hown hbe
              go_wp2
              go_roundw
              case rel => exact ⟨l ++ [⟨7, [], 0, M.num ((s.data.toList.drop (a + 1)).take 2), 0⟩], a + 3, by go_num, by omega, by simp; omega, fun r hr => unhide HF r (hr.one hlt (unhide Hcm) rfl (by unfold Two; simp)), x2, x3⟩
              case measure => simp [intOf]; omega
            · subst htt
              rw [show szOf 8 = 2 from rfl] at hsh ⊢
              have hm := unhide Hm
              have k0 := hm.kb.cell 0
              simp at k0
              have hgle0 := hm.le
              clear hneg Hm ht
              have hb2 := num_le2 (s.data.toList.drop (a + 1))
              go_wp2_with fail
              refine (NumX s (a + 1) 2 W (by omega)).mono ?_
              rintro e w1 ⟨rfl, hww⟩
              subst w1
              have k2 := hm.kb.cell 3
              have k2f := hm.kb.frozen 3
              simp at k2
              have hm2 := hm.set 3 _ (hm.kb.a (M.num ((s.data.toList.drop (a + 1)).take 2)))
              go_upto_region 41 with fail
              clear k2 k2f k0 hm
              generalize W.setCell ⟨g, 3, none⟩ (.int .u16 (M.num ((s.data.toList.drop (a + 1)).take 2) : Nat)) = W2 at *
              have q0 := hm2.kb.cell 0
              have q1 := hm2.kb.cell 1
              have q2 := hm2.kb.cell 2
              have q3 := hm2.kb.cell 3
              have q4 := hm2.kb.cell 4
              simp at q0 q1 q2 q3 q4
              have hwz := hm2.kb.lt
              have hgle := hm2.le
              have hcm := show CM s.data.toList ⟨a, 0, 0⟩ ⟨8, [], 0, M.num ((s.data.toList.drop (a + 1)).take 2), 0⟩ ⟨a + 3, 0, 0⟩ from by have h := cm_78 (s := s.data.toList) (a := a) (by omega) (by rw [← unhide Et]; simp); rwa [← unhide Et] at h
              have Hcm := hide hcm
              clear hcm
              go_wp2_with (at_builtin; refine wpList_append_own _ rfl _ _ 22 rfl w.heap.size 78 i0 (.agg #[.int .u8 0, .string ⟨#[]⟩, .int .u64 0, .int .u16 0, .int .u16 0]) 5 40 Try.underlying22 hi hz0 hz1 hz2 rfl (by decide) _ _ _ rfl (hm2.own.alloc _) ⟨W2.heap.size, 0, none⟩ 1 1 (K.cells ⟨8, [], 0, M.num ((s.data.toList.drop (a + 1)).take 2), 0⟩) rfl rfl ?c1 ?c2 ?c3 ?c4 ?c5 ?_)
              case c1 => refine at5 ?_ ?_ ?_ ?_ ?_ <;> (rw [World.cell?_alloc_at _ _ _ _ rfl]; rfl)
              case c2 => exact one5 _
              case c3 => unfold maxLen; omega
              case c4 => omega
              case c5 => simp; omega
              intro v' w3 hown' hgrow _
              obtain ⟨x1, x2, x3⟩ := hm2.grew hown' hgrow
              obtain ⟨g', cap', rfl⟩ := own_form hown' (by omega)
              have y0 := x1.cell 0
              simp at y0
              clear q0 q1 q2 q3 q4 hown' hgrow hm2 hown hbe
              go_wp2
              go_roundw
              case rel => exact ⟨l ++ [⟨8, [], 0, M.num ((s.data.toList.drop (a + 1)).take 2), 0⟩], a + 3, by go_num, by omega, by simp; omega, fun r hr => unhide HF r (hr.one hlt (unhide Hcm) rfl (by unfold Two; simp)), x2, x3⟩
              case measure => simp [intOf]; omega
            · subst htt
              rw [show szOf 9 = 4 from rfl] at hsh ⊢
              have hm := unhide Hm
              have k0 := hm.kb.cell 0
              simp at k0
              have hgle0 := hm.le
              clear hneg Hm ht
              have hb2 := num_le2 (s.data.toList.drop (a + 1))
              have hb3 := num_le2 (s.data.toList.drop (a + 3))
              obtain ⟨X1, X2⟩ := ext_ext s (a + 1) (by omega)
              have hxz : (s.extract (a + 1) (a + 1 + 4)).size = 4 := by simp; omega
              obtain ⟨xb, hxb⟩ : ∃ xb, xb = s.extract (a + 1) (a + 1 + 4) := ⟨_, rfl⟩
              rw [← hxb] at X1 X2 hxz
              have C1 := hide (fun w1 => NumX s (a + 1) 2 w1 (by omega))
              have C2 := hide (fun w1 => NumX s (a + 3) 2 w1 (by omega))
              rw [hxz] at X2
              have X2b : xb.extract 2 4 = s.extract (a + 3) (a + 3 + 2) := X2
              have HX1 := hide X1
              have HX2 := hide X2b
              have Hxb := hide hxb
              clear X1 X2 X2b hxb
              go_upto_region 22 with fail
              rw [← unhide Hxb]
              clear Hxb
              go_wp2_with fail
              rw [unhide HX1]
              refine (unhide C1 W).mono ?_
              rintro e w1 ⟨rfl, hww⟩
              subst w1
              have k2 := hm.kb.cell 3
              have k2f := hm.kb.frozen 3
              simp at k2
              have hm1 := hm.set 3 _ (hm.kb.a (M.num ((s.data.toList.drop (a + 1)).take 2)))
              go_upto_region 23 with fail
              clear k2 k2f k0 hm
              generalize W.setCell ⟨g, 3, none⟩ (.int .u16 (M.num ((s.data.toList.drop (a + 1)).take 2) : Nat)) = W1 at *
              go_wp2_with fail
              rw [unhide HX2]
              refine (unhide C2 W1).mono ?_
              rintro e w1 ⟨rfl, hww⟩
              subst w1
              have k2 := hm1.kb.cell 4
              have k2f := hm1.kb.frozen 4
              simp at k2
              have hm2 := hm1.set 4 _ (hm1.kb.b (M.num ((s.data.toList.drop (a + 3)).take 2)))
              go_upto_region 41 with fail
              clear k2 k2f hm1
              generalize W1.setCell ⟨g, 4, none⟩ (.int .u16 (M.num ((s.data.toList.drop (a + 3)).take 2) : Nat)) = W2 at *
              have q0 := hm2.kb.cell 0
              have q1 := hm2.kb.cell 1
              have q2 := hm2.kb.cell 2
              have q3 := hm2.kb.cell 3
              have q4 := hm2.kb.cell 4
              simp at q0 q1 q2 q3 q4
              have hwz := hm2.kb.lt
              have hgle := hm2.le
              have hcm := show CM s.data.toList ⟨a, 0, 0⟩ ⟨9, [], 0, M.num ((s.data.toList.drop (a + 1)).take 2), M.num ((s.data.toList.drop (a + 3)).take 2)⟩ ⟨a + 5, 0, 0⟩ from by have h := cm_9 (s := s.data.toList) (a := a) (by omega) (by rw [← unhide Et]; simp); rwa [← unhide Et] at h
              have Hcm := hide hcm
              clear hcm
              go_wp2_with (at_builtin; refine wpList_append_own _ rfl _ _ 22 rfl w.heap.size 78 i0 (.agg #[.int .u8 0, .string ⟨#[]⟩, .int .u64 0, .int .u16 0, .int .u16 0]) 5 40 Try.underlying22 hi hz0 hz1 hz2 rfl (by decide) _ _ _ rfl (hm2.own.alloc _) ⟨W2.heap.size, 0, none⟩ 1 1 (K.cells ⟨9, [], 0, M.num ((s.data.toList.drop (a + 1)).take 2), M.num ((s.data.toList.drop (a + 3)).take 2)⟩) rfl rfl ?c1 ?c2 ?c3 ?c4 ?c5 ?_)
              case c1 => refine at5 ?_ ?_ ?_ ?_ ?_ <;> (rw [World.cell?_alloc_at _ _ _ _ rfl]; rfl)
              case c2 => exact one5 _
              case c3 => unfold maxLen; omega
              case c4 => omega
              case c5 => simp; omega
              intro v' w3 hown' hgrow _
              obtain ⟨x1, x2, x3⟩ := hm2.grew hown' hgrow
              obtain ⟨g', cap', rfl⟩ := own_form hown' (by omega)
              have y0 := x1.cell 0
              simp at y0
              clear q0 q1 q2 q3 q4 hown' hgrow hm2 hown hbe
              go_wp2
              go_roundw
              case rel => exact ⟨l ++ [⟨9, [], 0, M.num ((s.data.toList.drop (a + 1)).take 2), M.num ((s.data.toList.drop (a + 3)).take 2)⟩], a + 5, by go_num, by omega, by simp; omega, fun r hr => unhide HF r (hr.one hlt (unhide Hcm) rfl (by unfold Two; simp)), x2, x3⟩
              case measure => simp [intOf]; omega
            · subst htt
              rw [show szOf 10 = 4 from rfl] at hsh ⊢
              have hm := unhide Hm
              have k0 := hm.kb.cell 0
              simp at k0
              have hgle0 := hm.le
              clear hneg Hm ht
              have hb2 := num_le2 (s.data.toList.drop (a + 1))
              have hb3 := num_le2 (s.data.toList.drop (a + 3))
              obtain ⟨X1, X2⟩ := ext_ext s (a + 1) (by omega)
              have hxz : (s.extract (a + 1) (a + 1 + 4)).size = 4 := by simp; omega
              obtain ⟨xb, hxb⟩ : ∃ xb, xb = s.extract (a + 1) (a + 1 + 4) := ⟨_, rfl⟩
              rw [← hxb] at X1 X2 hxz
              have C1 := hide (fun w1 => NumX s (a + 1) 2 w1 (by omega))
              have C2 := hide (fun w1 => NumX s (a + 3) 2 w1 (by omega))
              rw [hxz] at X2
              have X2b : xb.extract 2 4 = s.extract (a + 3) (a + 3 + 2) := X2
              have HX1 := hide X1
              have HX2 := hide X2b
              have Hxb := hide hxb
              clear X1 X2 X2b hxb
              go_upto_region 22 with fail
              rw [← unhide Hxb]
              clear Hxb
              go_wp2_with fail
              rw [unhide HX1]
              refine (unhide C1 W).mono ?_
              rintro e w1 ⟨rfl, hww⟩
              subst w1
              have k2 := hm.kb.cell 3
              have k2f := hm.kb.frozen 3
              simp at k2
              have hm1 := hm.set 3 _ (hm.kb.a (M.num ((s.data.toList.drop (a + 1)).take 2)))
              go_upto_region 23 with fail
              clear k2 k2f k0 hm
              generalize W.setCell ⟨g, 3, none⟩ (.int .u16 (M.num ((s.data.toList.drop (a + 1)).take 2) : Nat)) = W1 at *
              go_wp2_with fail
              rw [unhide HX2]
              refine (unhide C2 W1).mono ?_
              rintro e w1 ⟨rfl, hww⟩
              subst w1
              have k2 := hm1.kb.cell 4
              have k2f := hm1.kb.frozen 4
              simp at k2
              have hm2 := hm1.set 4 _ (hm1.kb.b (M.num ((s.data.toList.drop (a + 3)).take 2)))
              go_upto_region 41 with fail
              clear k2 k2f hm1
              generalize W1.setCell ⟨g, 4, none⟩ (.int .u16 (M.num ((s.data.toList.drop (a + 3)).take 2) : Nat)) = W2 at *
              have q0 := hm2.kb.cell 0
              have q1 := hm2.kb.cell 1
              have q2 := hm2.kb.cell 2
              have q3 := hm2.kb.cell 3
              have q4 := hm2.kb.cell 4
              simp at q0 q1 q2 q3 q4
              have hwz := hm2.kb.lt
              have hgle := hm2.le
              have hcm := show CM s.data.toList ⟨a, 0, 0⟩ ⟨10, [], 0, M.num ((s.data.toList.drop (a + 1)).take 2), M.num ((s.data.toList.drop (a + 3)).take 2)⟩ ⟨a + 5, 0, 0⟩ from by have h := cm_9 (s := s.data.toList) (a := a) (by omega) (by rw [← unhide Et]; simp); rwa [← unhide Et] at h
              have Hcm := hide hcm
              clear hcm
              go_wp2_with (at_builtin; refine wpList_append_own _ rfl _ _ 22 rfl w.heap.size 78 i0 (.agg #[.int .u8 0, .string ⟨#[]⟩, .int .u64 0, .int .u16 0, .int .u16 0]) 5 40 Try.underlying22 hi hz0 hz1 hz2 rfl (by decide) _ _ _ rfl (hm2.own.alloc _) ⟨W2.heap.size, 0, none⟩ 1 1 (K.cells ⟨10, [], 0, M.num ((s.data.toList.drop (a + 1)).take 2), M.num ((s.data.toList.drop (a + 3)).take 2)⟩) rfl rfl ?c1 ?c2 ?c3 ?c4 ?c5 ?_)
              case c1 => refine at5 ?_ ?_ ?_ ?_ ?_ <;> (rw [World.cell?_alloc_at _ _ _ _ rfl]; rfl)
              case c2 => exact one5 _
              case c3 => unfold maxLen; omega
              case c4 => omega
              case c5 => simp; omega
              intro v' w3 hown' hgrow _
              obtain ⟨x1, x2, x3⟩ := hm2.grew hown' hgrow
              obtain ⟨g', cap', rfl⟩ := own_form hown' (by omega)
              have y0 := x1.cell 0
              simp at y0
              clear q0 q1 q2 q3 q4 hown' hgrow hm2 hown hbe
              go_wp2
              go_roundw
              case rel => exact ⟨l ++ [⟨10, [], 0, M.num ((s.data.toList.drop (a + 1)).take 2), M.num ((s.data.toList.drop (a + 3)).take 2)⟩], a + 5, by go_num, by omega, by simp; omega, fun r hr => unhide HF r (hr.one hlt (unhide Hcm) rfl (by unfold Two; simp)), x2, x3⟩
              case measure => simp [intOf]; omega
            · subst htt
              rw [show szOf 11 = 4 from rfl] at hsh ⊢
              have hm := unhide Hm
              have k0 := hm.kb.cell 0
              simp at k0
              have hgle0 := hm.le
              clear hneg Hm ht
              have hb2 := num_le2 (s.data.toList.drop (a + 1))
              have hb3 := num_le2 (s.data.toList.drop (a + 3))
              obtain ⟨X1, X2⟩ := ext_ext s (a + 1) (by omega)
              have hxz : (s.extract (a + 1) (a + 1 + 4)).size = 4 := by simp; omega
              obtain ⟨xb, hxb⟩ : ∃ xb, xb = s.extract (a + 1) (a + 1 + 4) := ⟨_, rfl⟩
              rw [← hxb] at X1 X2 hxz
              have C1 := hide (fun w1 => NumX s (a + 1) 2 w1 (by omega))
              have C2 := hide (fun w1 => NumX s (a + 3) 2 w1 (by omega))
              rw [hxz] at X2
              have X2b : xb.extract 2 4 = s.extract (a + 3) (a + 3 + 2) := X2
              have HX1 := hide X1
              have HX2 := hide X2b
              have Hxb := hide hxb
              clear X1 X2 X2b hxb
              go_upto_region 22 with fail
              rw [← unhide Hxb]
              clear Hxb
              go_wp2_with fail
              rw [unhide HX1]
              refine (unhide C1 W).mono ?_
              rintro e w1 ⟨rfl, hww⟩
              subst w1
              have k2 := hm.kb.cell 3
              have k2f := hm.kb.frozen 3
              simp at k2
              have hm1 := hm.set 3 _ (hm.kb.a (M.num ((s.data.toList.drop (a + 1)).take 2)))
              go_upto_region 23 with fail
              clear k2 k2f k0 hm
              generalize W.setCell ⟨g, 3, none⟩ (.int .u16 (M.num ((s.data.toList.drop (a + 1)).take 2) : Nat)) = W1 at *
              go_wp2_with fail
              rw [unhide HX2]
              refine (unhide C2 W1).mono ?_
              rintro e w1 ⟨rfl, hww⟩
              subst w1
              have k2 := hm1.kb.cell 4
              have k2f := hm1.kb.frozen 4
              simp at k2
              have hm2 := hm1.set 4 _ (hm1.kb.b (M.num ((s.data.toList.drop (a + 3)).take 2)))
              go_upto_region 41 with fail
              clear k2 k2f hm1
              generalize W1.setCell ⟨g, 4, none⟩ (.int .u16 (M.num ((s.data.toList.drop (a + 3)).take 2) : Nat)) = W2 at *
              have q0 := hm2.kb.cell 0
              have q1 := hm2.kb.cell 1
              have q2 := hm2.kb.cell 2
              have q3 := hm2.kb.cell 3
              have q4 := hm2.kb.cell 4
              simp at q0 q1 q2 q3 q4
              have hwz := hm2.kb.lt
              have hgle := hm2.le
              have hcm := show CM s.data.toList ⟨a, 0, 0⟩ ⟨11, [], 0, M.num ((s.data.toList.drop (a + 1)).take 2), M.num ((s.data.toList.drop (a + 3)).take 2)⟩ ⟨a + 5, 0, 0⟩ from by have h := cm_9 (s := s.data.toList) (a := a) (by omega) (by rw [← unhide Et]; simp); rwa [← unhide Et] at h
              have Hcm := hide hcm
              clear hcm
              go_wp2_with (at_builtin; refine wpList_append_own _ rfl _ _ 22 rfl w.heap.size 78 i0 (.agg #[.int .u8 0, .string ⟨#[]⟩, .int .u64 0, .int .u16 0, .int .u16 0]) 5 40 Try.underlying22 hi hz0 hz1 hz2 rfl (by decide) _ _ _ rfl (hm2.own.alloc _) ⟨W2.heap.size, 0, none⟩ 1 1 (K.cells ⟨11, [], 0, M.num ((s.data.toList.drop (a + 1)).take 2), M.num ((s.data.toList.drop (a + 3)).take 2)⟩) rfl rfl ?c1 ?c2 ?c3 ?c4 ?c5 ?_)
              case c1 => refine at5 ?_ ?_ ?_ ?_ ?_ <;> (rw [World.cell?_alloc_at _ _ _ _ rfl]; rfl)
              case c2 => exact one5 _
              case c3 => unfold maxLen; omega
              case c4 => omega
              case c5 => simp; omega
              intro v' w3 hown' hgrow _
              obtain ⟨x1, x2, x3⟩ := hm2.grew hown' hgrow
              obtain ⟨g', cap', rfl⟩ := own_form hown' (by omega)
              have y0 := x1.cell 0
              simp at y0
              clear q0 q1 q2 q3 q4 hown' hgrow hm2 hown hbe
              go_wp2
              go_roundw
              case rel => exact ⟨l ++ [⟨11, [], 0, M.num ((s.data.toList.drop (a + 1)).take 2), M.num ((s.data.toList.drop (a + 3)).take 2)⟩], a + 5, by go_num, by omega, by simp; omega, fun r hr => unhide HF r (hr.one hlt (unhide Hcm) rfl (by unfold Two; simp)), x2, x3⟩
              case measure => simp [intOf]; omega
            · subst htt
              rw [show szOf 12 = 4 from rfl] at hsh ⊢
              have hm := unhide Hm
              have k0 := hm.kb.cell 0
              simp at k0
              have hgle0 := hm.le
              clear hneg Hm ht
              have hb2 := num_le2 (s.data.toList.drop (a + 1))
              have hb3 := num_le2 (s.data.toList.drop (a + 3))
              obtain ⟨X1, X2⟩ := ext_ext s (a + 1) (by omega)
              have hxz : (s.extract (a + 1) (a + 1 + 4)).size = 4 := by simp; omega
              obtain ⟨xb, hxb⟩ : ∃ xb, xb = s.extract (a + 1) (a + 1 + 4) := ⟨_, rfl⟩
              rw [← hxb] at X1 X2 hxz
              have C1 := hide (fun w1 => NumX s (a + 1) 2 w1 (by omega))
              have C2 := hide (fun w1 => NumX s (a + 3) 2 w1 (by omega))
              rw [hxz] at X2
              have X2b : xb.extract 2 4 = s.extract (a + 3) (a + 3 + 2) := X2
              have HX1 := hide X1
              have HX2 := hide X2b
              have Hxb := hide hxb
              clear X1 X2 X2b hxb
              go_upto_region 22 with fail
              rw [← unhide Hxb]
              clear Hxb
              go_wp2_with fail
              rw [unhide HX1]
              refine (unhide C1 W).mono ?_
              rintro e w1 ⟨rfl, hww⟩
              subst w1
              have k2 := hm.kb.cell 3
              have k2f := hm.kb.frozen 3
              simp at k2
              have hm1 := hm.set 3 _ (hm.kb.a (M.num ((s.data.toList.drop (a + 1)).take 2)))
              go_upto_region 23 with fail
              clear k2 k2f k0 hm
              generalize W.setCell ⟨g, 3, none⟩ (.int .u16 (M.num ((s.data.toList.drop (a + 1)).take 2) : Nat)) = W1 at *
              go_wp2_with fail
              rw [unhide HX2]
              refine (unhide C2 W1).mono ?_
              rintro e w1 ⟨rfl, hww⟩
              subst w1
              have k2 := hm1.kb.cell 4
              have k2f := hm1.kb.frozen 4
              simp at k2
              have hm2 := hm1.set 4 _ (hm1.kb.b (M.num ((s.data.toList.drop (a + 3)).take 2)))
              go_upto_region 41 with fail
              clear k2 k2f hm1
              generalize W1.setCell ⟨g, 4, none⟩ (.int .u16 (M.num ((s.data.toList.drop (a + 3)).take 2) : Nat)) = W2 at *
              have q0 := hm2.kb.cell 0
              have q1 := hm2.kb.cell 1
              have q2 := hm2.kb.cell 2
              have q3 := hm2.kb.cell 3
              have q4 := hm2.kb.cell 4
              simp at q0 q1 q2 q3 q4
              have hwz := hm2.kb.lt
              have hgle := hm2.le
              have hcm := show CM s.data.toList ⟨a, 0, 0⟩ ⟨12, [], 0, M.num ((s.data.toList.drop (a + 1)).take 2), M.num ((s.data.toList.drop (a + 3)).take 2)⟩ ⟨a + 5, 0, 0⟩ from by have h := cm_9 (s := s.data.toList) (a := a) (by omega) (by rw [← unhide Et]; simp); rwa [← unhide Et] at h
              have Hcm := hide hcm
              clear hcm
              go_wp2_with (at_builtin; refine wpList_append_own _ rfl _ _ 22 rfl w.heap.size 78 i0 (.agg #[.int .u8 0, .string ⟨#[]⟩, .int .u64 0, .int .u16 0, .int .u16 0]) 5 40 Try.underlying22 hi hz0 hz1 hz2 rfl (by decide) _ _ _ rfl (hm2.own.alloc _) ⟨W2.heap.size, 0, none⟩ 1 1 (K.cells ⟨12, [], 0, M.num ((s.data.toList.drop (a + 1)).take 2), M.num ((s.data.toList.drop (a + 3)).take 2)⟩) rfl rfl ?c1 ?c2 ?c3 ?c4 ?c5 ?_)
              case c1 => refine at5 ?_ ?_ ?_ ?_ ?_ <;> (rw [World.cell?_alloc_at _ _ _ _ rfl]; rfl)
              case c2 => exact one5 _
              case c3 => unfold maxLen; omega
              case c4 => omega
              case c5 => simp; omega
              intro v' w3 hown' hgrow _
              obtain ⟨x1, x2, x3⟩ := hm2.grew hown' hgrow
              obtain ⟨g', cap', rfl⟩ := own_form hown' (by omega)
              have y0 := x1.cell 0
              simp at y0
              clear q0 q1 q2 q3 q4 hown' hgrow hm2 hown hbe
              go_wp2
              go_roundw
              case rel => exact ⟨l ++ [⟨12, [], 0, M.num ((s.data.toList.drop (a + 1)).take 2), M.num ((s.data.toList.drop (a + 3)).take 2)⟩], a + 5, by go_num, by omega, by simp; omega, fun r hr => unhide HF r (hr.one hlt (unhide Hcm) rfl (by unfold Two; simp)), x2, x3⟩
              case measure => simp [intOf]; omega
    · have hfin := unhide HRR _ (unhide HF _ (Final.done (by omega)))
      clear hlen
      go_wp2
      refine bodyPost_ret (v := .tuple #[.slice ad l.length cp, .int .i64 (a : Int), .int .i64 0, .int .i64 0]) (by simp [results, Try.results39, go_sem]) rfl ?_
      exact ⟨l, a, 0, 0, _, hfin, rfl, .inr ⟨w.heap.size, Nat.le_refl _, hown⟩, hbe⟩
set_option maxRecDepth 100000 in
set_option maxHeartbeats 1000000 in
theorem RefRead_short (s : ByteArray) (w : World) (hs : s.size < 2) : Calls Try.prog 39 #[.string s] w fun e w' => Readed s w e w' := by
  have hr : ReadRes s.data.toList ([], 0, 1, s.size) := .inl ⟨by simpa using hs, by simp⟩
  go_enter Try.func39, Try.ntmps39
  go_wp2
  refine bodyPost_ret (v := .tuple #[.slice none 0 0, .int .i64 0, .int .i64 1, .int .i64 (s.size : Int)]) (by simp [results, Try.results39, go_sem]) rfl ?_
  exact ⟨[], 0, 1, s.size, _, hr, rfl, .inl ⟨rfl, rfl⟩, Below.refl _ _⟩
set_option maxRecDepth 100000 in
set_option maxHeartbeats 1000000 in
theorem RefRead_zero (s : ByteArray) (w : World) (hs : s.size ≤ 131072) (h2 : 2 ≤ s.size) (hn0 : M.num (s.data.toList.take 2) = 0) : Calls Try.prog 39 #[.string s] w fun e w' => Readed s w e w' := by
  have hr : ReadRes s.data.toList ([], 0, 12, 0) := .inr (.inl ⟨by simpa using h2, hn0, rfl⟩)
  have c1 := fun w1 => NumX s 0 2 w1 (by omega)
  simp only [Nat.zero_add, List.drop_zero, hn0] at c1
  have C1 := hide c1
  clear c1
  go_enter Try.func39, Try.ntmps39
  go_wp2_with fail
  refine (unhide C1 _).mono ?_
  rintro e w1 ⟨rfl, hww⟩
  subst w1
  go_wp2
  refine bodyPost_ret (v := .tuple #[.slice none 0 0, .int .i64 0, .int .i64 12, .int .i64 0]) (by simp [results, Try.results39, go_sem]) rfl ?_
  exact ⟨[], 0, 12, 0, _, hr, rfl, .inl ⟨rfl, rfl⟩, Below.refl _ _⟩
theorem RefRead_any (s : ByteArray) (w : World) (hs : s.size ≤ 131072) : Calls Try.prog 39 #[.string s] w fun e w' => Readed s w e w' := by
  by_cases h2 : s.size < 2
  · exact RefRead_short s w h2
  · by_cases h0 : M.num (s.data.toList.take 2) = 0
    · exact RefRead_zero s w hs (by omega) h0
    · exact RefRead_main s w hs (by omega) h0
end Go.Proofs.Ytbgpkkbejbidlac.Po
