/-
  Are all lists of instructions lists of their own? By the statement's own reckoning.
-/
import Derived.Test.YtpmonoenppfekabDoorKept
import Derived.Test.YtpmonoenppfekabDoorDec
namespace Go.Proofs.YtpmonoenppfekabDoor
open Go.RowKit
def FK (L : List J) (k m : Nat) : List Int := if m < k then List.replicate (KOf L m).length (2 * (m : Int) + 1000000) else KOf L m
def FT (L : List J) (k m : Nat) : List Int := if m < k then List.replicate (TOf L m).length (2 * (m : Int) + 1000001) else TOf L m
theorem FK_len (L : List J) (k m : Nat) : (FK L k m).length = (KOf L m).length := by unfold FK; split <;> simp
theorem FT_len (L : List J) (k m : Nat) : (FT L k m).length = (TOf L m).length := by unfold FT; split <;> simp
theorem KOf_le {L : List J} (h : ∀ j ∈ L, j.i.keys.length ≤ 1048576 ∧ j.i.tgts.length ≤ 1048576) (m : Nat) : (KOf L m).length ≤ 1048576 ∧ (TOf L m).length ≤ 1048576 := by
  unfold KOf TOf
  by_cases hm : m < L.length
  · rw [dif_pos hm, dif_pos hm]; exact h _ (List.getElem_mem hm)
  · rw [dif_neg hm, dif_neg hm]; simp
theorem Rws.below {w w' : World} {B : Nat} {v : Value} {L : List J} {K T : Nat → List Int} (h : Rws w B v L K T) (hb : Below w.heap.size w w') : Rws w' B v L K T := h.kept (grown_of_below hb none)
theorem all_rep {xs : List Int} {n : Nat} {c : Int} (hl : xs.length = n) (h : ∀ t, t < n → xs.getD t 0 = c) : xs = List.replicate n c := by
  apply List.ext_getElem?
  intro i
  rcases Nat.lt_or_ge i n with hi | hi
  · have := h i hi
    rw [List.getD_eq_getElem?_getD, List.getElem?_eq_getElem (by omega)] at this
    rw [List.getElem?_eq_getElem (by omega), List.getElem?_replicate_of_lt hi]
    simpa using this
  · rw [List.getElem?_eq_none (by omega), List.getElem?_eq_none (by simpa using hi)]
theorem set_lt {xs : List Int} {n j : Nat} {c : Int} (hl : xs.length = n) (hj : j < n) (h : ∀ t, t < j → xs.getD t 0 = c) : ∀ t, t < j + 1 → (xs.set j c).getD t 0 = c := by
  intro t ht
  rw [List.getD_eq_getElem?_getD, List.getElem?_set]
  by_cases e : j = t
  · rw [if_pos e, if_pos (by omega)]; rfl
  · rw [if_neg e, ← List.getD_eq_getElem?_getD]; exact h t (by omega)
theorem FK_next (L : List J) (k m : Nat) : (if m = k then List.replicate (KOf L k).length (2 * (k : Int) + 1000000) else FK L k m) = FK L (k + 1) m := by
  unfold FK
  by_cases e : m = k
  · subst e; simp
  · rw [if_neg e]
    by_cases h : m < k
    · rw [if_pos h, if_pos (by omega)]
    · rw [if_neg h, if_neg (by omega)]
theorem FT_next (L : List J) (k m : Nat) : (if m = k then List.replicate (TOf L k).length (2 * (k : Int) + 1000001) else FT L k m) = FT L (k + 1) m := by
  unfold FT
  by_cases e : m = k
  · subst e; simp
  · rw [if_neg e]
    by_cases h : m < k
    · rw [if_pos h, if_pos (by omega)]
    · rw [if_neg h, if_neg (by omega)]
theorem own_slice {w : World} {B n : Nat} {v : Value} {xs : List Value} (h : w.ownsRow B 3 1 v n xs) : ∃ o c, v = .slice o n c ∧ (0 < n → ∃ g, o = some ⟨g, 0, none⟩ ∧ B ≤ g ∧ g < w.heap.size) := by
  rcases h.2 with ⟨rfl, rfl⟩ | ⟨g, cap, cur, rfl, h1, h2, _⟩
  · exact ⟨none, 0, rfl, by omega⟩
  · exact ⟨_, _, rfl, fun _ => ⟨g, rfl, h1, (Array.getElem?_eq_some_iff.1 h2).1⟩⟩
set_option maxRecDepth 100000 in
set_option maxHeartbeats 4000000 in
theorem apart_any (v : Value) (L : List J) (B : Nat) (w : World) (h : Lst w B v L) (hB : B ≤ w.heap.size) (hl : L.length ≤ 1048576) (hb : ∀ j ∈ L, j.i.keys.length ≤ 1048576 ∧ j.i.tgts.length ≤ 1048576) :
    Calls Tryd.prog 17 #[v] w fun x w' => x = .returned (.bool true) ∧ Below B w w' := by
  obtain ⟨i0, hi, hz0, hz1, hz2⟩ := info_parts Tryd.info3
  have hR := Rws.of_lst h
  obtain ⟨ad, cap, rfl, _⟩ := hR.has
  have HR := hide hR
  have HB := hide (KOf_le hb)
  clear hR h hb
  go_enter Tryd.func17, Tryd.ntmps17
  go_wp2_with fail
  go_loopw [15] (fun i wr => ∃ k : Nat, k ≤ L.length ∧ i = .int .i64 k ∧ Hid (Rws wr B (.slice ad L.length cap) L (FK L k) (FT L k)) ∧ Below B w wr) (fun i _ => L.length - (intOf i).toNat)
  case atStart => exact ⟨0, Nat.zero_le _, rfl, (unhide HR).congr (fun m _ => by simp [FK]) (fun m _ => by simp [FT]), Below.refl _ _⟩
  case round =>
    obtain ⟨k, hk, rfl, HRk, hbw⟩ := hrel
    by_cases hlt : k < L.length
    · have hR := unhide HRk
      have hne : L ≠ [] := by rintro rfl; simp at hlt
      obtain ⟨ad', cap', he, hc⟩ := hR.has
      cases he
      obtain ⟨b, rfl, hbB, hbl, hat⟩ := hc hne
      have x6 := (hat k hlt).2.2.2.2.2.2.1
      have x7 := (hat k hlt).2.2.2.2.2.2.2
      simp only [J.c] at x6 x7
      obtain ⟨ok, ck, ekv, hko⟩ := own_slice (hR.own k hlt).k
      obtain ⟨ot, ct, etv, hto⟩ := own_slice (hR.own k hlt).t
      rw [ekv] at x6
      rw [etv] at x7
      have hbk := unhide HB k
      rw [FK_len] at x6 ekv hko
      rw [FT_len] at x7 etv hto
      obtain ⟨nk, enk⟩ : ∃ nk, nk = (KOf L k).length := ⟨_, rfl⟩
      obtain ⟨nt, ent⟩ : ∃ nt, nt = (TOf L k).length := ⟨_, rfl⟩
      rw [← enk] at x6 ekv hko hbk
      rw [← ent] at x7 etv hto hbk
      obtain ⟨hbk1, hbk2⟩ := hbk
      have Hkv := hide ekv
      have Htv := hide etv
      have Hko := hide hko
      have Hto := hide hto
      have Hnk := hide enk
      have Hnt := hide ent
      have ki : (k : Int) < (L.length : Int) := by omega
      clear hR hat hc hne ekv etv hko hto enk ent
      have Hx7 := hide x7
      have HRk0 := HRk
      clear x7 HRk
      generalize wr = w0 at *
      go_wp2_with fail
      go_loopw [24] (fun i wr => ∃ (j : Nat) (xs : List Int), j ≤ nk ∧ i = .int .i64 j ∧ Hid (xs.length = nk) ∧ Hid (∀ t, t < j → xs.getD t 0 = 2 * (k : Int) + 1000000) ∧ Hid (Rws wr B (.slice (some ⟨b, 0, none⟩) L.length cap) L (fun m => if m = k then xs else FK L k m) (FT L k)) ∧ Below B w wr) (fun i _ => nk - (intOf i).toNat)
      case atStart => exact ⟨0, FK L k k, Nat.zero_le _, rfl, (FK_len L k k).trans (unhide Hnk).symm, fun t ht => by omega, (unhide HRk0).congr (fun m _ => by by_cases e : m = k <;> simp [e]) (fun _ _ => rfl), hbw⟩
      case round =>
        clear x6 hbw HRk0 HR Hx7
        obtain ⟨j, xs, hj, rfl, Hxl, Hxs, HRj, hbw⟩ := hrel
        by_cases hjlt : j < nk
        · have hR := unhide HRj
          obtain ⟨g, rfl, hgB, hgl⟩ := unhide Hko (by omega)
          have hne : L ≠ [] := by rintro rfl; simp at hlt
          obtain ⟨ad', cap', he, hc⟩ := hR.has
          cases he
          obtain ⟨b', eb, _, _, hat⟩ := hc hne
          cases eb
          have x6 := (hat k hlt).2.2.2.2.2.2.1
          simp only [J.c, unhide Hkv] at x6
          have ho := (hR.own k hlt).k
          simp only [if_true, unhide Hkv] at ho
          rw [unhide Hxl] at ho
          have hfz := ho.frozenAt j
          have xj := row_at ho j (by rw [unhide Hxl]; exact hjlt)
          have ji : (j : Int) < (nk : Int) := by omega
          clear hR hat hc hne ho
          go_wp2
          go_roundw
          case rel =>
            refine ⟨j + 1, xs.set j (2 * (k : Int) + 1000000), by omega, by go_num, (List.length_set ..).trans (unhide Hxl), set_lt (unhide Hxl) hjlt (unhide Hxs), ?_, hbw.setCell (p := ⟨g, j, none⟩) hgB _⟩
            have h1 := (unhide HRj).setK hlt (unhide Hkv) (j := j) (2 * (k : Int) + 1000000)
            exact h1.congr (fun m _ => by by_cases e : m = k <;> simp [e]) (fun _ _ => rfl)
          case measure => simp [intOf]; omega
        · have hjn : j = nk := by omega
          subst hjn
          have hR1 : Rws wr B (.slice (some ⟨b, 0, none⟩) L.length cap) L (FK L (k + 1)) (FT L k) :=
            (unhide HRj).congr (fun m _ => by rw [all_rep (unhide Hxl) (unhide Hxs), unhide Hnk]; exact FK_next L k m) (fun _ _ => rfl)
          have HR1 := hide hR1
          have hne : L ≠ [] := by rintro rfl; simp at hlt
          obtain ⟨ad', cap', he, hc⟩ := hR1.has
          cases he
          obtain ⟨b', eb, _, _, hat⟩ := hc hne
          cases eb
          have x7 := (hat k hlt).2.2.2.2.2.2.2
          simp only [J.c, unhide Htv] at x7
          have hji : ¬ (j : Int) < (j : Int) := by omega
          clear hR1 hat hc hne HRj Hxl Hxs xs Hkv Hko Hnk
          generalize wr = w1 at *
          go_wp2_with fail
          go_loopw [44] (fun i wr => ∃ (j : Nat) (xs : List Int), j ≤ nt ∧ i = .int .i64 j ∧ Hid (xs.length = nt) ∧ Hid (∀ t, t < j → xs.getD t 0 = 2 * (k : Int) + 1000001) ∧ Hid (Rws wr B (.slice (some ⟨b, 0, none⟩) L.length cap) L (FK L (k + 1)) (fun m => if m = k then xs else FT L k m)) ∧ Below B w wr) (fun i _ => nt - (intOf i).toNat)
          case atStart => exact ⟨0, FT L k k, Nat.zero_le _, rfl, (FT_len L k k).trans (unhide Hnt).symm, fun t ht => by omega, (unhide HR1).congr (fun _ _ => rfl) (fun m _ => by by_cases e : m = k <;> simp [e]), hbw⟩
          case round =>
            clear x7 hbw HR1
            obtain ⟨i, xs, hi', rfl, Hxl, Hxs, HRi, hbw⟩ := hrel
            by_cases hilt : i < nt
            · have hR := unhide HRi
              obtain ⟨g, rfl, hgB, hgl⟩ := unhide Hto (by omega)
              have hne : L ≠ [] := by rintro rfl; simp at hlt
              obtain ⟨ad', cap', he, hc⟩ := hR.has
              cases he
              obtain ⟨b', eb, _, _, hat⟩ := hc hne
              cases eb
              have x7 := (hat k hlt).2.2.2.2.2.2.2
              simp only [J.c, unhide Htv] at x7
              have ho := (hR.own k hlt).t
              simp only [if_true, unhide Htv] at ho
              rw [unhide Hxl] at ho
              have hfz := ho.frozenAt i
              have xj := row_at ho i (by rw [unhide Hxl]; exact hilt)
              have ii : (i : Int) < (nt : Int) := by omega
              clear hR hat hc hne ho
              go_wp2
              go_roundw
              case rel =>
                refine ⟨i + 1, xs.set i (2 * (k : Int) + 1000001), by omega, by go_num, (List.length_set ..).trans (unhide Hxl), set_lt (unhide Hxl) hilt (unhide Hxs), ?_, hbw.setCell (p := ⟨g, i, none⟩) hgB _⟩
                have h1 := (unhide HRi).setT hlt (unhide Htv) (j := i) (2 * (k : Int) + 1000001)
                exact h1.congr (fun _ _ => rfl) (fun m _ => by by_cases e : m = k <;> simp [e])
              case measure => simp [intOf]; omega
            · have hin : i = nt := by omega
              subst hin
              have hR2 : Rws wr B (.slice (some ⟨b, 0, none⟩) L.length cap) L (FK L (k + 1)) (FT L (k + 1)) :=
                (unhide HRi).congr (fun _ _ => rfl) (fun m _ => by rw [all_rep (unhide Hxl) (unhide Hxs), unhide Hnt]; exact FT_next L k m)
              have HR2 := hide hR2
              have hii : ¬ (i : Int) < (i : Int) := by omega
              clear hR2 HRi Hxl Hxs
              go_wp2
              go_roundw
              case rel => exact ⟨k + 1, by omega, by go_num, HR2, hbw⟩
              case measure => simp [intOf]; omega
    · have hkl : k = L.length := by omega
      subst hkl
      have ki : ¬ (L.length : Int) < (L.length : Int) := by omega
      clear HR
      generalize wr = w0 at *
      go_wp2_with fail
      go_loopw [61] (fun i wr => ∃ k : Nat, k ≤ L.length ∧ i = .int .i64 k ∧ Hid (Rws wr B (.slice ad L.length cap) L (FK L L.length) (FT L L.length)) ∧ Below B w wr) (fun i _ => L.length - (intOf i).toNat)
      case atStart => exact ⟨0, Nat.zero_le _, rfl, HRk, hbw⟩
      case round =>
        clear hbw HRk hk hlt ki
        obtain ⟨k, hk, rfl, HRk, hbw⟩ := hrel
        by_cases hlt : k < L.length
        · have hR := unhide HRk
          have hne : L ≠ [] := by rintro rfl; simp at hlt
          obtain ⟨ad', cap', he, hc⟩ := hR.has
          cases he
          obtain ⟨b, rfl, hbB, hbl, hat⟩ := hc hne
          have x6 := (hat k hlt).2.2.2.2.2.2.1
          simp only [J.c] at x6
          obtain ⟨ok, ck, ekv, hko⟩ := own_slice (hR.own k hlt).k
          obtain ⟨ot, ct, etv, hto⟩ := own_slice (hR.own k hlt).t
          have hbk := unhide HB k
          have hbs := hbw.size
          have hownk := ((hR.kept (World.grownBy_alloc wr (.cells #[.int .i64 (-1), .int .i64 (-1)] 3) none)).own k hlt).k
          rw [ekv] at x6 hownk
          have elk := FK_len L L.length k
          have elt := FT_len L L.length k
          rw [elk] at x6 hownk ekv
          rw [elt] at etv
          obtain ⟨nk, enk⟩ : ∃ nk, nk = (KOf L k).length := ⟨_, rfl⟩
          obtain ⟨nt, ent⟩ : ∃ nt, nt = (TOf L k).length := ⟨_, rfl⟩
          rw [← enk] at x6 ekv hbk hownk
          rw [← ent] at etv hbk
          obtain ⟨hbk1, hbk2⟩ := hbk
          have Hkv := hide ekv
          have Htv := hide etv
          have Hnk := hide enk
          have Hnt := hide ent
          have ki : (k : Int) < (L.length : Int) := by omega
          clear hR hat hc hne ekv etv hko hto enk ent elk elt
          have hRa := (unhide HRk).kept (World.grownBy_alloc wr (.cells #[.int .i64 (-1), .int .i64 (-1)] 3) none)
          have HRa := hide hRa
          clear hRa
          go_upto_region 19 with (at_builtin; refine wpList_append_still _ rfl _ _ 33 rfl B 3 i0 (.int .i64 0) 1 8 Tryd.underlying33 hi hz0 hz1 hz2 (.slice ok nk ck) nk _ rfl hownk ⟨wr.heap.size, 0, none⟩ 2 2 [.int .i64 (-1), .int .i64 (-1)] rfl rfl (new8 wr _ 3) (by intro u hu; simp at hu; subst hu; rfl) (by decide) (by unfold maxLen; omega) (by omega) ?_; intro v' w5 hown' hgrow)
          have hb5 : Below B w w5 := below_app hbw (by omega) hownk hgrow
          have hR5 : Rws w5 B (.slice (some ⟨b, 0, none⟩) L.length cap) L (FK L L.length) (FT L L.length) :=
            (unhide HRa).appK hlt (by rw [unhide Hkv]; exact hgrow) (by rw [unhide Hkv, FK_len, ← unhide Hnk]; exact hown')
          have HR5 := hide hR5
          have hne : L ≠ [] := by rintro rfl; simp at hlt
          obtain ⟨ad', cap', he, hc⟩ := hR5.has
          cases he
          obtain ⟨b', eb, _, _, hat⟩ := hc hne
          cases eb
          have x7 := (hat k hlt).2.2.2.2.2.2.2
          simp only [J.c, unhide Htv] at x7
          have hownt := ((hR5.kept (World.grownBy_alloc w5 (.cells #[.int .i64 (-1), .int .i64 (-1)] 3) none)).own k hlt).t
          rw [unhide Htv, FT_len, ← unhide Hnt] at hownt
          have hRb := hR5.kept (World.grownBy_alloc w5 (.cells #[.int .i64 (-1), .int .i64 (-1)] 3) none)
          have HRb := hide hRb
          have hbs5 := hb5.size
          clear hRb hR5 hat hc hne HRa hown' hgrow hownk x6 HRk hbw
          go_wp2_with (at_builtin; refine wpList_append_still _ rfl _ _ 33 rfl B 3 i0 (.int .i64 0) 1 8 Tryd.underlying33 hi hz0 hz1 hz2 (.slice ot nt ct) nt _ rfl hownt ⟨w5.heap.size, 0, none⟩ 2 2 [.int .i64 (-1), .int .i64 (-1)] rfl rfl (new8 w5 _ 3) (by intro u hu; simp at hu; subst hu; rfl) (by decide) (by unfold maxLen; omega) (by omega) ?_; intro v2 w6 hown' hgrow)
          have hb6 : Below B w w6 := below_app hb5 (by omega) hownt hgrow
          have hR6 : Rws w6 B (.slice (some ⟨b, 0, none⟩) L.length cap) L (FK L L.length) (FT L L.length) :=
            (unhide HRb).appT hlt (by rw [unhide Htv]; exact hgrow) (by rw [unhide Htv, FT_len, ← unhide Hnt]; exact hown')
          have HR6 := hide hR6
          clear hR6 hown' hgrow hownt
          go_roundw
          case rel => exact ⟨k + 1, by omega, by go_num, HR6, hb6⟩
          case measure => simp [intOf]; omega
        · have hkl : k = L.length := by omega
          subst hkl
          have ki : ¬ (L.length : Int) < (L.length : Int) := by omega
          generalize wr = w1 at *
          go_wp2_with fail
          go_loopw [81] (fun i wr => ∃ k : Nat, k ≤ L.length ∧ i = .int .i64 k ∧ Below w1.heap.size w1 wr) (fun i _ => L.length - (intOf i).toNat)
          case atStart => exact ⟨0, Nat.zero_le _, rfl, Below.refl _ _⟩
          case round =>
            clear hk hlt ki
            obtain ⟨k, hk, rfl, hbr⟩ := hrel
            by_cases hlt : k < L.length
            · have hR := (unhide HRk).below hbr
              have hne : L ≠ [] := by rintro rfl; simp at hlt
              obtain ⟨ad', cap', he, hc⟩ := hR.has
              cases he
              obtain ⟨b, rfl, hbB, hbl, hat⟩ := hc hne
              obtain ⟨x0, x1, x2, x3, x4, x5, x6, x7⟩ := hat k hlt
              simp only [J.c] at x0 x1 x2 x3 x4 x5 x6 x7
              have hik := HasI.of_own (hR.own k hlt).k
              have hit := HasI.of_own (hR.own k hlt).t
              obtain ⟨ok, ck, ekv, hck⟩ := hik
              obtain ⟨ot, ct, etv, hct⟩ := hit
              rw [ekv] at x6
              rw [etv] at x7
              have hbk := unhide HB k
              have efk : FK L L.length k = List.replicate (KOf L k).length (2 * (k : Int) + 1000000) := by unfold FK; rw [if_pos hlt]
              have eft : FT L L.length k = List.replicate (TOf L k).length (2 * (k : Int) + 1000001) := by unfold FT; rw [if_pos hlt]
              rw [efk] at x6 hck
              rw [eft] at x7 hct
              obtain ⟨nk, enk⟩ : ∃ nk, nk = (KOf L k).length := ⟨_, rfl⟩
              obtain ⟨nt, ent⟩ : ∃ nt, nt = (TOf L k).length := ⟨_, rfl⟩
              rw [← enk] at x6 hck hbk
              rw [← ent] at x7 hct hbk
              obtain ⟨hbk1, hbk2⟩ := hbk
              rw [List.length_replicate] at x6 hck x7 hct
              have Hck := hide hck
              have Hct := hide hct
              have ki : (k : Int) < (L.length : Int) := by omega
              have HRk1 := HRk
              generalize (L[k]).i = ins at *
              clear hR hat hc hne ekv etv hck hct enk ent efk eft
              generalize wr = w2 at *
              go_upto_region 24 with fail
              obtain ⟨W3, hW3⟩ : ∃ W3, W3 = w2.alloc (.cells #[.int .i64 (ins.at_ : Int), .int .u8 (ins.op : Int), .bool ins.wide, .int .i64 ins.a, .int .i64 ins.b, .int .i64 ins.low, .slice ok nk ck, .slice ot nt ct] 35) := ⟨_, rfl⟩
              have hn3 : W3.heap[w2.heap.size]? = some (.cells #[.int .i64 (ins.at_ : Int), .int .u8 (ins.op : Int), .bool ins.wide, .int .i64 ins.a, .int .i64 ins.b, .int .i64 ins.low, .slice ok nk ck, .slice ot nt ct] 35 (0, 0)) := by rw [hW3]; exact heap_alloc_new w2 _
              have hb3 : Below w2.heap.size w2 W3 := by rw [hW3]; exact (Below.refl _ _).alloc (Nat.le_refl _) _
              rw [← hW3]
              have y6 := cell_of_row W3 w2.heap.size 6 _ 35 (0, 0) hn3
              have y7 := cell_of_row W3 w2.heap.size 7 _ 35 (0, 0) hn3
              simp at y6 y7
              obtain ⟨p, ep⟩ : ∃ p, p = w2.heap.size := ⟨_, rfl⟩
              rw [← ep] at y6 y7 ⊢
              clear x0 x1 x2 x3 x4 x5 x6 x7 hn3 hW3 ep
              go_wp2_with fail
              go_loopw [89] (fun i wr => ∃ j : Nat, j ≤ nk ∧ i = .int .i64 j ∧ wr = W3) (fun i _ => nk - (intOf i).toNat)
              case atStart => exact ⟨0, Nat.zero_le _, rfl, rfl⟩
              case round =>
                obtain ⟨j, hj, rfl, rfl⟩ := hrel
                by_cases hjlt : j < nk
                · obtain ⟨bk, o2, rfl, hcell⟩ := unhide Hck (by intro e; have := congrArg List.length e; simp at this; omega)
                  have xj := hcell j hjlt
                  rw [← hb3.cell (cell_lt xj)] at xj
                  have eg : (List.replicate nk (2 * (k : Int) + 1000000)).getD j 0 = 2 * (k : Int) + 1000000 := by simp [List.getD_eq_getElem?_getD, hjlt]
                  rw [eg] at xj
                  have ji : (j : Int) < (nk : Int) := by omega
                  have hxx : ((2 * (k : Int) + 1000000) != (2 * (k : Int) + 1000000)) = false := by simp
                  clear hcell eg
                  go_wp2
                  go_roundw
                  case rel => exact ⟨j + 1, by omega, by go_num, trivial⟩
                  case measure => simp [intOf]; omega
                · have hjn : j = nk := by omega
                  subst hjn
                  have hji : ¬ (j : Int) < (j : Int) := by omega
                  go_wp2_with fail
                  go_loopw [102] (fun i wr' => ∃ m : Nat, m ≤ nt ∧ i = .int .i64 m ∧ wr' = wr) (fun i _ => nt - (intOf i).toNat)
                  case atStart => exact ⟨0, Nat.zero_le _, rfl, rfl⟩
                  case round =>
                    obtain ⟨m, hm, rfl, rfl⟩ := hrel
                    by_cases hmlt : m < nt
                    · obtain ⟨bk, o2, rfl, hcell⟩ := unhide Hct (by intro e; have := congrArg List.length e; simp at this; omega)
                      have xj := hcell m hmlt
                      rw [← hb3.cell (cell_lt xj)] at xj
                      have eg : (List.replicate nt (2 * (k : Int) + 1000001)).getD m 0 = 2 * (k : Int) + 1000001 := by simp [List.getD_eq_getElem?_getD, hmlt]
                      rw [eg] at xj
                      have ji : (m : Int) < (nt : Int) := by omega
                      have hxx : ((2 * (k : Int) + 1000001) != (2 * (k : Int) + 1000001)) = false := by simp
                      clear hcell eg
                      go_wp2
                      go_roundw
                      case rel => exact ⟨m + 1, by omega, by go_num, trivial⟩
                      case measure => simp [intOf]; omega
                    · have hmn : m = nt := by omega
                      subst hmn
                      have hmi : ¬ (m : Int) < (m : Int) := by omega
                      go_wp2
                      go_roundw
                      case rel => exact ⟨k + 1, by omega, by go_num, hbr.trans (hb3.mono hbr.size)⟩
                      case measure => simp [intOf]; omega
            · have hkl : k = L.length := by omega
              subst hkl
              have ki : ¬ (L.length : Int) < (L.length : Int) := by omega
              go_wp2
              go_ret
              exact ⟨rfl, hbw.trans (hbr.mono (Nat.le_trans hB hbw.size))⟩
end Go.Proofs.YtpmonoenppfekabDoor
