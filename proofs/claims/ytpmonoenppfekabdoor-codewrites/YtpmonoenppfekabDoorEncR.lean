/-
  Encode of the reference.
-/
import Derived.Test.YtpmonoenppfekabDoorRec
import Derived.Test.YtpmonoenppfekabDoorLostR
namespace Go.Proofs.YtpmonoenppfekabDoor
open Go.RowKit
theorem sign_mem {op : Nat} (h : op < 256) : sign op = 46 ∨ sign op = 98 ∨ sign op = 115 ∨ sign op = 99 ∨ sign op = 105 ∨ sign op = 108 ∨ sign op = 110 ∨ sign op = 106 ∨ sign op = 74 ∨ sign op = 102 ∨ sign op = 97 ∨ sign op = 109 ∨ sign op = 116 ∨ sign op = 107 ∨ sign op = 120 ∨ sign op = 119 :=
  (by decide +kernel : ∀ m : Fin 256, sign m.val = 46 ∨ sign m.val = 98 ∨ sign m.val = 115 ∨ sign m.val = 99 ∨ sign m.val = 105 ∨ sign m.val = 108 ∨ sign m.val = 110 ∨ sign m.val = 106 ∨ sign m.val = 74 ∨ sign m.val = 102 ∨ sign m.val = 97 ∨ sign m.val = 109 ∨ sign m.val = 116 ∨ sign m.val = 107 ∨ sign m.val = 120 ∨ sign m.val = 119) ⟨op, h⟩
theorem bad_sign {op : Nat} (h : op < 256) (w : Bool) : (sign op == 120 || sign op == 119 || (w && sign op != 108 && sign op != 110)) = decide (M.kindW op w = 0) :=
  (by decide +kernel : ∀ (m : Fin 256) (w : Bool), (sign m.val == 120 || sign m.val == 119 || (w && sign m.val != 108 && sign m.val != 110)) = decide (M.kindW m.val w = 0)) ⟨op, h⟩ w
theorem Wr.text {W0 w w1 : World} {v v' : Value} {l t : List UInt8} (h : Wr W0 w v l) (ho : w1.ownsRow W0.heap.size 5 1 v' (l.length + t.length) (U8 l ++ U8 t)) (hg : w.grownBy w1 v.ownBlock) : Wr W0 w1 v' (l ++ t) ∧ Fr W0.heap.size w w1 := by
  have hf : Fr W0.heap.size w w1 := (Fr.refl _ w).grown h.own h.old.size hg
  refine ⟨h.fr hf ?_, hf⟩
  rw [U8_append, List.length_append]; exact ho
theorem Wr.set {W0 w : World} {v : Value} {l : List UInt8} {B i : Nat} (h : Wr W0 w v l) (hB : W0.heap.size ≤ B) (hne : v.ownBlock ≠ some B) (x : Value) : Wr W0 (w.setCell ⟨B, i, none⟩ x) v l :=
  ⟨h.old.setCell (p := ⟨B, i, none⟩) hB x, ins_kept h.own (grown_set w B i x) (fun b e => by cases e; exact hne)⟩
theorem take_snoc {L : List V} {k : Nat} (hk : k < L.length) : ((L.map V.j).take (k + 1)).map J.i = ((L.map V.j).take k).map J.i ++ [(L[k]).j.i] := by
  rw [List.take_add_one, List.getElem?_eq_getElem (by simpa using hk)]
  simp
theorem lost_any {n : Nat} {bl : List Bool} {L : List V} (hm : Marks n bl ((L.map V.j).map J.i)) (hat : ∀ j (hj : j < L.length), 0 ≤ (L[j]).g.at_ ∧ (L[j]).g.at_ < (n : Int)) (k : Nat) (hk : k < L.length) :
    M.lost ((L.map V.j).map J.i) ((L.map V.j)[k]'(by simpa using hk)).i = (L[k]).g.tgts.any (M.hits n bl) := by
  have hl : ∀ i ∈ (L.map V.j).map J.i, i.at_ < n := by
    intro i hi
    obtain ⟨j, hj, rfl⟩ := List.mem_map.1 hi
    obtain ⟨c, hc, rfl⟩ := List.mem_map.1 hj
    obtain ⟨q, hq, rfl⟩ := List.getElem_of_mem hc
    have := hat q hq
    simp only [V.j]; omega
  rw [← M.lostB_eq hm hl, List.getElem_map]
  rfl
set_option maxRecDepth 100000 in
set_option maxHeartbeats 4000000 in
theorem EncodeR_any (L : List V) (v : Value) (w : World) (h : GHas w v L) (hl : L.length ≤ 1048576) : Calls Tryd.prog 21 #[v] w fun x w' => Encoded L w x w' := by
  obtain ⟨i0, hi, hz0, hz1, hz2⟩ := info_parts Tryd.info5
  obtain ⟨ad, cap, rfl, hc⟩ := h.form
  by_cases h0 : L.length = 0
  · have hz : (((L.length : Nat) : Int) == 0) = true := by rw [beq_iff_eq]; omega
    have he : M.encode (L.map V.g) = .error (12, 0) := by unfold M.encode; rw [if_pos (by simpa using List.length_eq_zero_iff.1 h0)]
    have He := hide he
    clear he hc h h0
    go_enter Tryd.func21, Tryd.ntmps21
    go_wp2
    refine bodyPost_ret (v := .tuple #[.string ⟨#[]⟩, .int .i64 12, .int .i64 0]) (by simp [results, Tryd.results21, go_sem]) rfl ?_
    exact ⟨Below.refl _ _, by rw [unhide He]; rfl⟩
  · have hz : (((L.length : Nat) : Int) == 0) = false := by rw [beq_eq_false_iff_ne]; omega
    have hne : L ≠ [] := by rintro rfl; simp at h0
    obtain ⟨b0, o0, rfl, hcell⟩ := hc hne
    have he : M.encode (L.map V.g) = match M.encGo (L.map V.g) 0 [] with
        | .error e => .error e
        | .ok b => match M.gFirst (L.map V.g) with
          | none => .ok b
          | some k => .error (16, k) := by unfold M.encode; rw [if_neg (by simpa using hne)]; rfl
    have He := hide he
    have HH := hide h
    have HC := hide hcell
    clear he hc h hcell hne
    go_enter Tryd.func21, Tryd.ntmps21
    go_wp2_with fail
    go_loopw [5, 23] (fun v i wr => ∃ (k : Nat) (b : List UInt8), k ≤ L.length ∧ i = .int .i64 k ∧ Hid (Wr w wr v b) ∧ b.length ≤ 65535 ∧ Hid (M.encGo (L.map V.g) 0 [] = M.encGo ((L.map V.g).drop k) k b) ∧ Hid (∀ j (hj : j < L.length), j < k → 0 ≤ (L[j]).g.at_ ∧ (L[j]).g.at_ < (b.length : Int))) (fun _ i _ => L.length - (intOf i).toNat)
    case atStart => exact ⟨0, [], Nat.zero_le _, rfl, ⟨Below.refl _ _, World.ownsRow_nil _ _ _ _⟩, by simp, by unfold Hid; simp, fun j _ hj => by omega⟩
    case round =>
      obtain ⟨k, b, hk, rfl, HW, hbl, HE, HA⟩ := hrel
      by_cases hlt : k < L.length
      · have hW := unhide HW
        have hnx := enc_next hlt (unhide HE)
        have hfit := (unhide HH).fit _ (List.getElem_mem hlt)
        have hcl := unhide HC k hlt
        obtain ⟨ov, cv, evo⟩ := hW.form
        subst evo
        have hwr0 := hW.old.size
        have ki : (k : Int) < (L.length : Int) := by omega
        have hRE := fun (w1 : World) (hb : Below w.heap.size w w1) (hat : (L[k]).g.at_ = (b.length : Int)) (hkn : M.kindW (L[k]).g.op (L[k]).g.wide ≠ 0) => refEncode_any (L[k]) b.length w1 (hfit.ok.below hb) hat (by omega) hfit.tl hkn
        have hen := enc_len (L[k]).g b.length hfit.tl
        have hop := hfit.ok.op
        obtain ⟨c, hcL⟩ : ∃ c, c = L[k] := ⟨_, rfl⟩
        simp only [← hcL] at hnx hfit hcl hRE hen hop
        have HcL := hide hcL
        obtain ⟨at2, cap2, et, _⟩ := hfit.ok.t
        obtain ⟨ak2, capk, ek, _⟩ := hfit.ok.k
        obtain ⟨⟨at_, op, wide, a, bb, low, keys, tgts⟩, kv, tv⟩ := c
        simp only at et ek hnx hen hop
        subst et
        subst ek
        have x0 := hcl 0 (by omega)
        have x1 := hcl 1 (by omega)
        have x2 := hcl 2 (by omega)
        have x3 := hcl 3 (by omega)
        have x4 := hcl 4 (by omega)
        have x5 := hcl 5 (by omega)
        have x6 := hcl 6 (by omega)
        have x7 := hcl 7 (by omega)
        simp only [V.arr] at x0 x1 x2 x3 x4 x5 x6 x7
        simp at x0 x1 x2 x3 x4 x5 x6 x7
        have hb0 : b0 < w.heap.size := cell_lt x0
        have hcw : ∀ o, wr.cell? ⟨b0, o, none⟩ = w.cell? ⟨b0, o, none⟩ := fun o => hW.old.cell hb0
        rw [← hcw] at x0 x1 x2 x3 x4 x5 x6 x7
        simp only [V.val, V.arr] at hRE
        have HRE := hide hRE
        have Hnx := hide hnx
        have Hen := hide hen
        clear hfit hcl hnx hRE hcL hcw hen hW
        go_upto_region 7 with fail
        obtain ⟨W2, hW2⟩ : ∃ W2, W2 = wr.alloc (.cells #[.int .i64 at_, .int .u8 (op : Int), .bool wide, .int .i64 a, .int .i64 bb, .int .i64 low, .slice ak2 keys.length capk, .slice at2 tgts.length cap2] 35) := ⟨_, rfl⟩
        rw [← hW2]
        have v2 : Vb W2 wr.heap.size ⟨⟨at_, op, wide, a, bb, low, keys, tgts⟩, .slice ak2 keys.length capk, .slice at2 tgts.length cap2⟩ := by rw [hW2]; exact heap_alloc_new wr _
        have hW2' : Wr w W2 (.slice ov b.length cv) b := by rw [hW2]; exact (unhide HW).alloc _
        obtain ⟨p, ep⟩ : ∃ p, p = wr.heap.size := ⟨_, rfl⟩
        rw [← ep] at v2 ⊢
        have y0 := v2.cell 0
        have y1 := v2.cell 1
        have y2 := v2.cell 2
        have y3 := v2.cell 3
        have y4 := v2.cell 4
        have y5 := v2.cell 5
        have y6 := v2.cell 6
        have y7 := v2.cell 7
        simp [V.arr] at y0 y1 y2 y3 y4 y5 y6 y7
        clear hW2 ep x0 x1 x2 x3 x4 x5 x6 x7 HW
        by_cases hat : at_ = (b.length : Int)
        · have hbn : (at_ != (b.length : Int)) = false := by rw [bne_eq_false_iff_eq]; exact hat
          have Hat := hide hat
          have hF := fun w1 => form_any op w1 hop
          obtain ⟨sg, hsg⟩ : ∃ sg, sg = sign op := ⟨_, rfl⟩
          have hbad := bad_sign hop wide
          have hmem := sign_mem hop
          rw [← hsg] at hF HRE hbad
          simp only [← hsg] at hmem
          have Hbad := hide hbad
          have Hmem := hide hmem
          have HF := hide hF
          clear hat hF hbad hmem hsg
          go_wp2_with fail
          refine (unhide HF _).mono ?_
          rintro e w3 ⟨rfl, hww⟩
          subst w3
          go_upto_region 10 with fail
          have hbad := unhide Hbad
          have hmem := unhide Hmem
          obtain ⟨kz, hkz⟩ : ∃ kz, kz = decide (M.kindW op wide = 0) := ⟨_, rfl⟩
          rw [← hkz] at hbad
          have Hkz := hide hkz
          clear hkz
          go_cut [55] (fun t w' => t = .bool kz ∧ w' = W2)
          case first =>
            clear HRE Hnx Hen HF Hbad Hmem
            rcases hmem with e | e | e | e | e | e | e | e | e | e | e | e | e | e | e | e
            all_goals
              subst e
              subst hbad
              cases wide
              all_goals
                go_wp2
                go_meet
                case rel => exact ⟨rfl, rfl⟩
          case rest =>
            obtain ⟨rfl, hww⟩ := hcut
            subst hww
            generalize wc = W3 at *
            clear hbad hmem Hbad Hmem
            cases kz with
            | true =>
              have hk0 := of_decide_eq_true (unhide Hkz).symm
              have hwg : M.wrong ⟨at_, op, wide, a, bb, low, keys, tgts⟩ b.length = 14 := by unfold M.wrong; rw [if_neg (by simpa using unhide Hat), if_pos hk0]
              have hnx := unhide Hnx
              rw [hwg, if_pos (by decide)] at hnx
              have hrr := unhide He
              rw [hnx] at hrr
              have Hrr := hide hrr
              clear hnx hrr Hnx He HE hwg hk0
              go_wp2
              refine bodyPost_ret (v := .tuple #[.string ⟨#[]⟩, .int .i64 14, .int .i64 (k : Int)]) (by simp [results, Tryd.results21, go_sem]) rfl ?_
              exact ⟨hW2'.old, by rw [unhide Hrr]; rfl⟩
            | false =>
              have hk0 := of_decide_eq_false (unhide Hkz).symm
              have HRC := hide (unhide HRE W3 hW2'.old (unhide Hat) hk0)
              have hwg : M.wrong ⟨at_, op, wide, a, bb, low, keys, tgts⟩ b.length = if M.hasOps ⟨at_, op, wide, a, bb, low, keys, tgts⟩ then 0 else 15 := by unfold M.wrong; rw [if_neg (by simpa using unhide Hat), if_neg hk0]
              have Hwg := hide hwg
              clear hk0 hwg HRE HF
              go_wp2_with fail
              refine (unhide HRC).mono ?_
              clear HRC
              rintro e w4 ⟨⟨t, rfl, hte⟩, hb4⟩
              have hW4 := hW2'.below hb4
              cases ho : M.hasOps ⟨at_, op, wide, a, bb, low, keys, tgts⟩ with
              | false =>
                have hwg := unhide Hwg
                rw [ho] at hwg
                have hnx := unhide Hnx
                rw [hwg, if_pos (by decide)] at hnx
                have hrr := unhide He
                rw [hnx] at hrr
                have Hrr := hide hrr
                clear hnx hrr Hnx He HE hwg Hwg ho hte
                go_wp2
                refine bodyPost_ret (v := .tuple #[.string ⟨#[]⟩, .int .i64 15, .int .i64 (k : Int)]) (by simp [results, Tryd.results21, go_sem]) rfl ?_
                exact ⟨hW4.old, by rw [unhide Hrr]; rfl⟩
              | true =>
                have hwg := unhide Hwg
                rw [ho] at hwg
                have hnx := unhide Hnx
                rw [hwg, if_neg (by simp)] at hnx
                have het := hte ho
                simp only at het
                subst het
                have hen := unhide Hen
                obtain ⟨E1, hE1⟩ : ∃ E1, E1 = M.enc1 ⟨at_, op, wide, a, bb, low, keys, tgts⟩ b.length := ⟨_, rfl⟩
                have hE0 : 1 ≤ E1.length := by rw [hE1]; unfold M.enc1; simp only [List.length_append, List.length_cons]; omega
                rw [← hE1] at hnx hen ⊢
                have Hnx2 := hide hnx
                have hss : (⟨E1.toArray⟩ : ByteArray).size = E1.length := by simp [ByteArray.size]
                have hown := hW4.own
                have hws := hW4.old.size
                clear hnx Hnx Hwg hwg ho hte hE1 Hen
                go_upto_region 16 with (at_builtin; refine Lib.wpList_append_own_string _ rfl (.tmp 66) (.tmp 67) 69 9 rfl w.heap.size 5 i0 Tryd.underlying69 Tryd.underlying9 hi hz0 hz1 hz2 (.slice ov b.length cv) b.length _ rfl hown ⟨E1.toArray⟩ rfl (by rw [hss]; unfold maxLen; omega) (by rw [hss]; omega) hws ?_; intro v' w5 hown' hgrow _)
                rw [hss, U8_str] at hown'
                obtain ⟨hW5, _⟩ := hW4.text hown' hgrow
                obtain ⟨B2, eB2⟩ : ∃ B2, B2 = b ++ E1 := ⟨_, rfl⟩
                have hB2 : B2.length = b.length + E1.length := by rw [eB2, List.length_append]
                have hB2' : B2.length ≤ 1000000 := by omega
                have Hnx3 := hide (by have := unhide Hnx2; rw [← eB2] at this; exact this)
                rw [← eB2] at hW5
                obtain ⟨o5, c5, e5⟩ := hW5.form
                subst e5
                have HB2 := hide hB2
                clear eB2 Hnx2 hown' hgrow hown hB2
                by_cases hbig : 65535 < B2.length
                · have hbi : (65535 : Int) < (B2.length : Int) := by omega
                  have hnx := unhide Hnx3
                  rw [if_pos hbig] at hnx
                  have hrr := unhide He
                  rw [hnx] at hrr
                  have Hrr := hide hrr
                  clear hnx hrr Hnx3 He HE hbig
                  go_wp2
                  refine bodyPost_ret (v := .tuple #[.string ⟨#[]⟩, .int .i64 12, .int .i64 (k : Int)]) (by simp [results, Tryd.results21, go_sem]) rfl ?_
                  exact ⟨hW5.old, by rw [unhide Hrr]; rfl⟩
                · have hbi : ¬ (65535 : Int) < (B2.length : Int) := by omega
                  have hnx := unhide Hnx3
                  rw [if_neg hbig] at hnx
                  have Hnx4 := hide hnx
                  have HW5 := hide hW5
                  have HA2 : Hid (∀ j (hj : j < L.length), j < k + 1 → 0 ≤ (L[j]).g.at_ ∧ (L[j]).g.at_ < (B2.length : Int)) := fun j hj h1 => by
                    have hb2 := unhide HB2
                    rcases Nat.lt_or_ge j k with h | h
                    · have := unhide HA j hj h; omega
                    · have : j = k := by omega
                      subst this
                      rw [← unhide HcL]
                      have := unhide Hat
                      simp only at this ⊢
                      omega
                  clear hnx Hnx3 hW5 HE HA Hat
                  go_wp2
                  go_roundw
                  case rel => exact ⟨k + 1, B2, by omega, by go_num, HW5, by omega, Hnx4, HA2⟩
                  case measure => simp [intOf]; omega
        · have hbn : (at_ != (b.length : Int)) = true := by rw [bne_iff_ne]; exact hat
          have hwg : M.wrong ⟨at_, op, wide, a, bb, low, keys, tgts⟩ b.length = 16 := by unfold M.wrong; rw [if_pos (by simpa using hat)]
          have hnx := unhide Hnx
          rw [hwg, if_pos (by decide)] at hnx
          have hrr := unhide He
          rw [hnx] at hrr
          have Hrr := hide hrr
          clear hnx hrr Hnx He HE hwg hat
          go_wp2
          refine bodyPost_ret (v := .tuple #[.string ⟨#[]⟩, .int .i64 16, .int .i64 (k : Int)]) (by simp [results, Tryd.results21, go_sem]) rfl ?_
          exact ⟨hW2'.old, by rw [unhide Hrr]; rfl⟩
      · have hkl : k = L.length := by omega
        subst hkl
        have ki : ¬ (L.length : Int) < (L.length : Int) := by omega
        have hE := unhide HE
        rw [List.drop_of_length_le (by simp)] at hE
        have hee : M.encode (L.map V.g) = match M.gFirst (L.map V.g) with
          | none => .ok b
          | some k => .error (16, k) := by rw [unhide He, hE]; rfl
        have Hee := hide hee
        have hW := unhide HW
        obtain ⟨ov, cv, evo⟩ := hW.form
        subst evo
        have hmk := mk_bools b.length (by omega)
        have hWm := hW.alloc (.cells (madeCells #[.bool false] b.length) 4)
        have hBm := Bs.made b.length wr
        have hvb : ∀ g, (Value.slice ov b.length cv).ownBlock = some g → g < wr.heap.size := fun g hg => (ins_in hW.own hg).2
        have hwB := hW.old.size
        obtain ⟨B, eB⟩ : ∃ B, B = wr.heap.size := ⟨_, rfl⟩
        rw [← eB] at hBm hvb hwB
        clear hE hee HE He hW HW hk hlt
        go_upto_region 20 with fail
        rw [← eB]
        clear eB hmk
        generalize wr.alloc (.cells (madeCells #[.bool false] b.length) 4) = W5 at *
        have HWm := hide hWm
        have HBm := hide hBm
        clear hWm hBm ki
        go_wp2_with fail
        go_loopw [79] (fun i wr => ∃ (k : Nat) (bl : List Bool), k ≤ L.length ∧ i = .int .i64 k ∧ Hid (Bs wr B bl) ∧ Hid (Marks b.length bl (((L.map V.j).take k).map J.i)) ∧ Hid (Wr w wr (.slice ov b.length cv) b)) (fun i _ => L.length - (intOf i).toNat)
        case atStart => exact ⟨0, List.replicate b.length false, Nat.zero_le _, rfl, HBm, by unfold Hid; simpa using Marks.nil b.length, HWm⟩
        case round =>
          clear HWm HBm
          obtain ⟨k, bl, hk, rfl, HBs, HMk, HW⟩ := hrel
          by_cases hlt : k < L.length
          · have hW := unhide HW
            have hBs := unhide HBs
            have hMk := unhide HMk
            have hA := unhide HA k hlt hlt
            have hsn := take_snoc hlt
            have hcl := unhide HC k hlt
            obtain ⟨c, hcL⟩ : ∃ c, c = L[k] := ⟨_, rfl⟩
            have hform := (unhide HH).fit _ (List.getElem_mem hlt)
            simp only [← hcL] at hA hsn hcl hform
            obtain ⟨at2, cap2, et, _⟩ := hform.ok.t
            obtain ⟨ak2, capk, ek, _⟩ := hform.ok.k
            obtain ⟨⟨at_, op, wide, a, bb, low, keys, tgts⟩, kv, tv⟩ := c
            simp only at et ek hA
            subst et
            subst ek
            obtain ⟨an, ean⟩ : ∃ an : Nat, at_ = (an : Int) := ⟨at_.toNat, by omega⟩
            subst ean
            have x0 := hcl 0 (by omega)
            have x1 := hcl 1 (by omega)
            have x2 := hcl 2 (by omega)
            have x3 := hcl 3 (by omega)
            have x4 := hcl 4 (by omega)
            have x5 := hcl 5 (by omega)
            have x6 := hcl 6 (by omega)
            have x7 := hcl 7 (by omega)
            simp only [V.arr] at x0 x1 x2 x3 x4 x5 x6 x7
            simp at x0 x1 x2 x3 x4 x5 x6 x7
            have hb0 : b0 < w.heap.size := cell_lt x0
            have hcw : ∀ o, wr.cell? ⟨b0, o, none⟩ = w.cell? ⟨b0, o, none⟩ := fun o => hW.old.cell hb0
            rw [← hcw] at x0 x1 x2 x3 x4 x5 x6 x7
            obtain ⟨W6, hW6⟩ : ∃ W6, W6 = wr.alloc (.cells #[.int .i64 (an : Int), .int .u8 (op : Int), .bool wide, .int .i64 a, .int .i64 bb, .int .i64 low, .slice ak2 keys.length capk, .slice at2 tgts.length cap2] 35) := ⟨_, rfl⟩
            have hW2 : Wr w W6 (.slice ov b.length cv) b := by rw [hW6]; exact hW.alloc _
            have hBs2 : Bs W6 B bl := by rw [hW6]; exact hBs.kept (World.grownBy_alloc wr _ none) (by simp)
            have vb2 : Vb W6 wr.heap.size ⟨⟨(an : Int), op, wide, a, bb, low, keys, tgts⟩, .slice ak2 keys.length capk, .slice at2 tgts.length cap2⟩ := by rw [hW6]; exact heap_alloc_new wr _
            have hi1 : (an : Int) < (b.length : Int) := by omega
            have hxb := hBs2.cell an (by rw [hMk.1]; omega)
            have hfz := hBs2.frozen an
            have hMn := hMk.next (i := (V.j ⟨⟨(an : Int), op, wide, a, bb, low, keys, tgts⟩, .slice ak2 keys.length capk, .slice at2 tgts.length cap2⟩).i) (by simp only [V.j]; omega)
            rw [← hsn] at hMn
            have e1 : (V.j ⟨⟨(an : Int), op, wide, a, bb, low, keys, tgts⟩, .slice ak2 keys.length capk, .slice at2 tgts.length cap2⟩).i.at_ = an := by simp only [V.j]; omega
            rw [e1] at hMn
            have HMn := hide hMn
            have ki : (k : Int) < (L.length : Int) := by omega
            have y0 := vb2.cell 0
            simp [V.arr] at y0
            clear hcl hform hMn e1 hsn hcw hBs hMk hW hcL
            go_upto_region 23 with fail
            rw [← hW6]
            clear hW6
            have HB7 := hide (hBs2.set an)
            have HW7 := hide (hW2.set (i := an) hwB (fun e => by have := hvb B e; omega) (.bool true))
            clear x0 x1 x2 x3 x4 x5 x6 x7 hW2 hBs2
            go_wp2
            go_roundw
            case rel => exact ⟨k + 1, bl.set an true, by omega, by go_num, HB7, HMn, HW7⟩
            case measure => simp [intOf]; omega
          · have hkl : k = L.length := by omega
            subst hkl
            have ki : ¬ (L.length : Int) < (L.length : Int) := by omega
            have hMk := unhide HMk
            rw [List.take_of_length_le (by simp)] at hMk
            have hfm := first_map (fun c hc => by
              obtain ⟨q, hq, rfl⟩ := List.getElem_of_mem hc
              exact (unhide HA q hq hq).1) (L := L)
            have hlost := lost_any hMk (fun j hj => unhide HA j hj hj)
            have hbln := hMk.1
            have Hlost := hide hlost
            have Hfm := hide hfm
            have Hbln := hide hbln
            clear hMk hfm hlost hbln HMk
            generalize wr = W7 at *
            go_wp2_with fail
            go_loopw [90] (fun i wr => ∃ k : Nat, k ≤ L.length ∧ i = .int .i64 k ∧ Hid (Below W7.heap.size W7 wr) ∧ Hid (∀ j (hj : j < L.length), j < k → (L[j]).g.tgts.any (M.hits b.length bl) = false)) (fun i _ => L.length - (intOf i).toNat)
            case atStart => exact ⟨0, Nat.zero_le _, rfl, Below.refl _ _, fun j _ hj => by omega⟩
            case round =>
              obtain ⟨k, hk, rfl, HBl, HN⟩ := hrel
              by_cases hlt : k < L.length
              · have hW := (unhide HW).below (unhide HBl)
                have hBs := (unhide HBs).kept (grown_of_below (unhide HBl) none) (by simp)
                have hcl := unhide HC k hlt
                have hsome := fun (h1 : M.lost ((L.map V.j).map J.i) ((L.map V.j)[k]'(by simpa using hlt)).i = true) (hN : ∀ j (hj : j < L.length), j < k → (L[j]).g.tgts.any (M.hits b.length bl) = false) => lost_some (L := L.map V.j) (k := k) (by simpa using hlt) (fun m hm hmk => by rw [unhide Hlost m (by simpa using hm)]; exact hN m (by simpa using hm) hmk) h1
                rw [unhide Hlost k hlt, unhide Hfm] at hsome
                obtain ⟨c, hcL⟩ : ∃ c, c = L[k] := ⟨_, rfl⟩
                have hform := (unhide HH).fit _ (List.getElem_mem hlt)
                simp only [← hcL] at hcl hform hsome
                have HcL := hide hcL
                obtain ⟨at2, cap2, et, htc⟩ := hform.ok.t
                obtain ⟨ak2, capk, ek, _⟩ := hform.ok.k
                have htl := hform.ok.tl
                obtain ⟨⟨at_, op, wide, a, bb, low, keys, tgts⟩, kv, tv⟩ := c
                simp only at et ek htc htl hsome
                subst et
                subst ek
                have x0 := hcl 0 (by omega)
                have x1 := hcl 1 (by omega)
                have x2 := hcl 2 (by omega)
                have x3 := hcl 3 (by omega)
                have x4 := hcl 4 (by omega)
                have x5 := hcl 5 (by omega)
                have x6 := hcl 6 (by omega)
                have x7 := hcl 7 (by omega)
                simp only [V.arr] at x0 x1 x2 x3 x4 x5 x6 x7
                simp at x0 x1 x2 x3 x4 x5 x6 x7
                have hb0 : b0 < w.heap.size := cell_lt x0
                have hcw : ∀ o, wr.cell? ⟨b0, o, none⟩ = w.cell? ⟨b0, o, none⟩ := fun o => hW.old.cell hb0
                rw [← hcw] at x0 x1 x2 x3 x4 x5 x6 x7
                obtain ⟨W8, hW8⟩ : ∃ W8, W8 = wr.alloc (.cells #[.int .i64 at_, .int .u8 (op : Int), .bool wide, .int .i64 a, .int .i64 bb, .int .i64 low, .slice ak2 keys.length capk, .slice at2 tgts.length cap2] 35) := ⟨_, rfl⟩
                have hW9 : Wr w W8 (.slice ov b.length cv) b := by rw [hW8]; exact hW.alloc _
                have hBs9 : Bs W8 B bl := by rw [hW8]; exact hBs.kept (World.grownBy_alloc wr _ none) (by simp)
                have hBl9 : Below W7.heap.size W7 W8 := by rw [hW8]; exact (unhide HBl).alloc (unhide HBl).size _
                have vb9 : Vb W8 wr.heap.size ⟨⟨at_, op, wide, a, bb, low, keys, tgts⟩, .slice ak2 keys.length capk, .slice at2 tgts.length cap2⟩ := by rw [hW8]; exact heap_alloc_new wr _
                have y7 := vb9.cell 7
                simp [V.arr] at y7
                have HT := hide htc
                have Hsome := hide hsome
                have ki : (k : Int) < (L.length : Int) := by omega
                clear hcl hform hcw hW hBs hcL htc hsome
                go_upto_region 28 with fail
                rw [← hW8]
                obtain ⟨p, ep⟩ : ∃ p, p = wr.heap.size := ⟨_, rfl⟩
                rw [← ep] at y7 ⊢
                clear hW8 x0 x1 x2 x3 x4 x5 x6 x7 vb9 ep
                go_wp2_with fail
                go_loopw [98] (fun i wr => ∃ m : Nat, m ≤ tgts.length ∧ i = .int .i64 m ∧ wr = W8 ∧ Hid (∀ j, j < m → M.hits b.length bl (tgts.getD j 0) = false)) (fun i _ => tgts.length - (intOf i).toNat)
                case atStart => exact ⟨0, Nat.zero_le _, rfl, rfl, fun j hj => by omega⟩
                case round =>
                  obtain ⟨m, hm, rfl, rfl, Hh⟩ := hrel
                  by_cases hmlt : m < tgts.length
                  · have hne : tgts ≠ [] := by rintro rfl; simp at hmlt
                    obtain ⟨bt, ot, rfl, hcell⟩ := unhide HT hne
                    have xm := hcell m hmlt
                    rw [← hW9.old.cell (cell_lt xm)] at xm
                    obtain ⟨x, hx⟩ : ∃ x, x = tgts.getD m 0 := ⟨_, rfl⟩
                    rw [← hx] at xm
                    have Hx := hide hx
                    have mi : (m : Int) < (tgts.length : Int) := by omega
                    clear hne hcell hx
                    by_cases hhit : M.hits b.length bl x = true
                    · have hany : tgts.any (M.hits b.length bl) = true := by
                        rw [List.any_eq_true]
                        refine ⟨x, ?_, hhit⟩
                        rw [unhide Hx, List.getD_eq_getElem?_getD, List.getElem?_eq_getElem hmlt]; exact List.getElem_mem hmlt
                      have hg := unhide Hsome hany (unhide HN)
                      have hee := unhide Hee
                      rw [hg] at hee
                      have Hee2 := hide hee
                      clear hany hg hee Hee Hsome
                      by_cases hx0 : x < 0
                      · clear hhit
                        go_wp2
                        refine bodyPost_ret (v := .tuple #[.string ⟨#[]⟩, .int .i64 16, .int .i64 (k : Int)]) (by simp [results, Tryd.results21, go_sem]) rfl ?_
                        exact ⟨hW9.old, by rw [unhide Hee2]; rfl⟩
                      · by_cases hx1 : (b.length : Int) ≤ x
                        · clear hhit
                          go_wp2
                          refine bodyPost_ret (v := .tuple #[.string ⟨#[]⟩, .int .i64 16, .int .i64 (k : Int)]) (by simp [results, Tryd.results21, go_sem]) rfl ?_
                          exact ⟨hW9.old, by rw [unhide Hee2]; rfl⟩
                        · obtain ⟨xn, exn⟩ : ∃ xn : Nat, x = (xn : Int) := ⟨x.toNat, by omega⟩
                          subst exn
                          have hxb := hBs9.cell xn (by rw [unhide Hbln]; omega)
                          have hv : bl.getD xn false = false := by
                            unfold M.hits at hhit
                            simp only [Bool.or_eq_true, decide_eq_true_eq] at hhit
                            rcases hhit with h | h | h
                            · omega
                            · omega
                            · simpa using h
                          rw [hv] at hxb
                          clear hhit hv
                          have hxi : (xn : Int) < (b.length : Int) := by omega
                          have hx0' : ¬ (xn : Int) < 0 := by omega
                          go_wp2
                          refine bodyPost_ret (v := .tuple #[.string ⟨#[]⟩, .int .i64 16, .int .i64 (k : Int)]) (by simp [results, Tryd.results21, go_sem]) rfl ?_
                          exact ⟨hW9.old, by rw [unhide Hee2]; rfl⟩
                    · rw [Bool.not_eq_true] at hhit
                      have hh := unhide Hh
                      have Hh2 : Hid (∀ j, j < m + 1 → M.hits b.length bl (tgts.getD j 0) = false) := fun j hj => by
                        rcases Nat.lt_or_ge j m with h | h
                        · exact hh j h
                        · have : j = m := by omega
                          subst this; rw [← unhide Hx]; exact hhit
                      unfold M.hits at hhit
                      simp only [Bool.or_eq_false_iff, decide_eq_false_iff_not] at hhit
                      obtain ⟨q1, q2, q3⟩ := hhit
                      obtain ⟨xn, exn⟩ : ∃ xn : Nat, x = (xn : Int) := ⟨x.toNat, by omega⟩
                      subst exn
                      have hxb := hBs9.cell xn (by rw [unhide Hbln]; omega)
                      have hv : bl.getD xn false = true := by simpa using q3
                      rw [hv] at hxb
                      have hxi : (xn : Int) < (b.length : Int) := by omega
                      clear hh q3 hv
                      go_wp2
                      go_roundw
                      case rel => exact ⟨m + 1, by omega, by go_num, trivial, Hh2⟩
                      case measure => simp [intOf]; omega
                  · have hml : m = tgts.length := by omega
                    subst hml
                    have mi : ¬ (tgts.length : Int) < (tgts.length : Int) := by omega
                    have HN2 : Hid (∀ j (hj : j < L.length), j < k + 1 → (L[j]).g.tgts.any (M.hits b.length bl) = false) := fun j hj h1 => by
                      rcases Nat.lt_or_ge j k with h | h
                      · exact unhide HN j hj h
                      · have : j = k := by omega
                        subst this
                        rw [← unhide HcL]
                        simp only
                        rw [List.any_eq_false]
                        intro x hx
                        obtain ⟨q, hq, rfl⟩ := List.getElem_of_mem hx
                        have := unhide Hh q hq
                        rw [List.getD_eq_getElem?_getD, List.getElem?_eq_getElem hq] at this
                        simp only [Option.getD_some] at this
                        rw [this]; simp
                    have HB9 := hide hBl9
                    clear hBl9
                    go_wp2
                    go_roundw
                    case rel => exact ⟨k + 1, by omega, by go_num, HB9, HN2⟩
                    case measure => simp [intOf]; omega
              · have hkl : k = L.length := by omega
                subst hkl
                have ki : ¬ (L.length : Int) < (L.length : Int) := by omega
                have hW := (unhide HW).below (unhide HBl)
                have hnone := lost_none (L := L.map V.j) (fun m hm => by rw [unhide Hlost m (by simpa using hm)]; exact unhide HN m (by simpa using hm) (by simpa using hm))
                rw [unhide Hfm] at hnone
                have hee := unhide Hee
                rw [hnone] at hee
                have Hee2 := hide hee
                have hcv := own_string hW.own
                have hold := hW.old
                clear hnone hee Hee hW
                go_wp2
                refine bodyPost_ret (v := .tuple #[.string ⟨b.toArray⟩, .int .i64 0, .int .i64 0]) (by simp [results, Tryd.results21, go_sem]) rfl ?_
                exact ⟨hold, by rw [unhide Hee2]⟩
end Go.Proofs.YtpmonoenppfekabDoor
