/-
  Are all lists of frames lists of their own? By the statement's own reckoning.
-/
import Derived.Test.YtbgpkkbejbidlabKp
namespace Go.Proofs.Ytbgpkkbejbidlab
open Go.RowKit
theorem new6 (w : World) (a b c d e f : Value) : ∀ j u, ([a, b, c, d, e, f] : List Value)[j]? = some u → (w.alloc (.cells #[a, b, c, d, e, f] 25)).cell? ((⟨w.heap.size, 0, none⟩ : Addr).add j) = some u := fun j u hj => by
  rw [Addr.add_lit, Nat.zero_add, (Bk.new w #[a, b, c, d, e, f] 25).cell j]
  simpa using hj
theorem one6 : ∀ u ∈ ([.int .u8 80, .string ⟨#[]⟩, .int .i64 0, .int .u8 80, .string ⟨#[]⟩, .int .i64 0] : List Value), u.oneCell' = true := by
  intro u hu
  simp only [List.mem_cons, List.not_mem_nil, or_false] at hu
  rcases hu with rfl | rfl | rfl | rfl | rfl | rfl <;> rfl
set_option maxRecDepth 100000 in
set_option maxHeartbeats 4000000 in
theorem apart_any (v : Value) (L : List J) (B : Nat) (w : World) (h : Lst w B v L) (hB : B ≤ w.heap.size) (hl : L.length ≤ 1048576) (hb : ∀ j ∈ L, j.f.locals.length ≤ 1048576 ∧ j.f.stack.length ≤ 1048576) :
    Calls Try.prog 8 #[v] w fun x w' => x = .returned (.bool true) ∧ Below B w w' := by
  obtain ⟨i0, hi, hz0, hz1, hz2⟩ := info_parts Try.info25
  have hR := Rws.of_lst h
  obtain ⟨ad, cap, rfl, _⟩ := hR.has
  have HR := hide hR
  have HB := hide (KOf_le hb)
  clear hR h hb
  go_enter Try.func8, Try.ntmps8
  go_wp2_with fail
  go_loopw [15] (fun i wr => ∃ k : Nat, k ≤ L.length ∧ i = .int .i64 k ∧ Hid (Rws wr B (.slice ad L.length cap) L (FK L k) (FS L k)) ∧ Below B w wr) (fun i _ => L.length - (intOf i).toNat)
  case atStart => exact ⟨0, Nat.zero_le _, rfl, (unhide HR).congr (fun m _ => by simp [FK]) (fun m _ => by simp [FS]), Below.refl _ _⟩
  case round =>
    obtain ⟨k, hk, rfl, HRk, hbw⟩ := hrel
    by_cases hlt : k < L.length
    · have hR := unhide HRk
      have hne : L ≠ [] := by rintro rfl; simp at hlt
      obtain ⟨ad', cap', he, hc⟩ := hR.has
      cases he
      obtain ⟨b, rfl, hbB, hbl, hat⟩ := hc hne
      have x1 := (hat k hlt).2.1
      obtain ⟨ok, ck, ekv, hko⟩ := own_sl (hR.own k hlt).l
      obtain ⟨ot, ct, etv, hto⟩ := own_sl (hR.own k hlt).s
      rw [ekv] at x1
      have hbk := unhide HB k
      rw [FK_len] at x1 ekv hko
      rw [FS_len] at etv hto
      obtain ⟨nk, enk⟩ : ∃ nk, nk = (KOf L k).length := ⟨_, rfl⟩
      obtain ⟨nt, ent⟩ : ∃ nt, nt = (SOf L k).length := ⟨_, rfl⟩
      rw [← enk] at x1 ekv hko hbk
      rw [← ent] at etv hto hbk
      obtain ⟨hbk1, hbk2⟩ := hbk
      have Hkv := hide ekv
      have Htv := hide etv
      have Hko := hide hko
      have Hto := hide hto
      have Hnk := hide enk
      have Hnt := hide ent
      have ki : (k : Int) < (L.length : Int) := by omega
      clear hR hat hc hne ekv etv hko hto enk ent
      have HRk0 := HRk
      clear HRk
      generalize wr = w0 at *
      go_wp2_with fail
      go_loopw [24] (fun i wr => ∃ (j : Nat) (xs : List T), j ≤ nk ∧ i = .int .i64 j ∧ Hid (xs.length = nk) ∧ Hid (∀ t, t < j → xs.getD t T.zero = f78 k) ∧ Hid (Rws wr B (.slice (some ⟨b, 0, none⟩) L.length cap) L (fun m => if m = k then xs else FK L k m) (FS L k)) ∧ Below B w wr) (fun i _ => nk - (intOf i).toNat)
      case atStart => exact ⟨0, FK L k k, Nat.zero_le _, rfl, (FK_len L k k).trans (unhide Hnk).symm, fun t ht => by omega, (unhide HRk0).congr (fun m _ => by by_cases e : m = k <;> simp [e]) (fun _ _ => rfl), hbw⟩
      case round =>
        clear x1 hbw HRk0 HR
        obtain ⟨j, xs, hj, rfl, Hxl, Hxs, HRj, hbw⟩ := hrel
        by_cases hjlt : j < nk
        · have hR := unhide HRj
          obtain ⟨g, rfl, hgB, hgl⟩ := unhide Hko (by omega)
          have hne : L ≠ [] := by rintro rfl; simp at hlt
          obtain ⟨ad', cap', he, hc⟩ := hR.has
          cases he
          obtain ⟨b', eb, _, _, hat⟩ := hc hne
          cases eb
          have x1 := (hat k hlt).2.1
          rw [unhide Hkv] at x1
          have ho := (hR.own k hlt).l
          simp only [if_true, unhide Hkv] at ho
          have ho2 := ho
          rw [unhide Hxl] at ho2
          have hfz := ho2.frozenAt
          clear ho2
          obtain ⟨y0, y1, y2⟩ := own_at3 ho (j := j) (by rw [unhide Hxl]; exact hjlt)
          have ji : (j : Int) < (nk : Int) := by omega
          clear hR hat hc hne ho
          go_wp2
          go_roundw
          case rel =>
            refine ⟨j + 1, xs.set j (f78 k), by omega, by go_num, (List.length_set ..).trans (unhide Hxl), set_lt (unhide Hxl) hjlt (unhide Hxs), ?_, ((hbw.setCell (p := ⟨g, _, none⟩) hgB _).setCell (p := ⟨g, _, none⟩) hgB _).setCell (p := ⟨g, _, none⟩) hgB _⟩
            have h1 := (unhide HRj).setK hlt (unhide Hkv) (j := j) (f78 k)
            exact h1.congr (fun m _ => by by_cases e : m = k <;> simp [e]) (fun _ _ => rfl)
          case measure => simp [intOf]; omega
        · have hjn : j = nk := by omega
          subst hjn
          have hR1 : Rws wr B (.slice (some ⟨b, 0, none⟩) L.length cap) L (FK L (k + 1)) (FS L k) :=
            (unhide HRj).congr (fun m _ => by rw [all_rep (unhide Hxl) (unhide Hxs), unhide Hnk]; exact FK_next L k m) (fun _ _ => rfl)
          have HR1 := hide hR1
          have hne : L ≠ [] := by rintro rfl; simp at hlt
          obtain ⟨ad', cap', he, hc⟩ := hR1.has
          cases he
          obtain ⟨b', eb, _, _, hat⟩ := hc hne
          cases eb
          have x2 := (hat k hlt).2.2
          rw [unhide Htv] at x2
          have hji : ¬ (j : Int) < (j : Int) := by omega
          clear hR1 hat hc hne HRj Hxl Hxs xs Hkv Hko Hnk
          generalize wr = w1 at *
          go_wp2_with fail
          go_loopw [43] (fun i wr => ∃ (j : Nat) (xs : List T), j ≤ nt ∧ i = .int .i64 j ∧ Hid (xs.length = nt) ∧ Hid (∀ t, t < j → xs.getD t T.zero = f79 k) ∧ Hid (Rws wr B (.slice (some ⟨b, 0, none⟩) L.length cap) L (FK L (k + 1)) (fun m => if m = k then xs else FS L k m)) ∧ Below B w wr) (fun i _ => nt - (intOf i).toNat)
          case atStart => exact ⟨0, FS L k k, Nat.zero_le _, rfl, (FS_len L k k).trans (unhide Hnt).symm, fun t ht => by omega, (unhide HR1).congr (fun _ _ => rfl) (fun m _ => by by_cases e : m = k <;> simp [e]), hbw⟩
          case round =>
            clear x2 hbw HR1
            obtain ⟨i, xs, hi', rfl, Hxl, Hxs, HRi, hbw⟩ := hrel
            by_cases hilt : i < nt
            · have hR := unhide HRi
              obtain ⟨g, rfl, hgB, hgl⟩ := unhide Hto (by omega)
              have hne : L ≠ [] := by rintro rfl; simp at hlt
              obtain ⟨ad', cap', he, hc⟩ := hR.has
              cases he
              obtain ⟨b', eb, _, _, hat⟩ := hc hne
              cases eb
              have x2 := (hat k hlt).2.2
              rw [unhide Htv] at x2
              have ho := (hR.own k hlt).s
              simp only [if_true, unhide Htv] at ho
              have ho2 := ho
              rw [unhide Hxl] at ho2
              have hfz := ho2.frozenAt
              clear ho2
              obtain ⟨y0, y1, y2⟩ := own_at3 ho (j := i) (by rw [unhide Hxl]; exact hilt)
              have ii : (i : Int) < (nt : Int) := by omega
              clear hR hat hc hne ho
              go_wp2
              go_roundw
              case rel =>
                refine ⟨i + 1, xs.set i (f79 k), by omega, by go_num, (List.length_set ..).trans (unhide Hxl), set_lt (unhide Hxl) hilt (unhide Hxs), ?_, ((hbw.setCell (p := ⟨g, _, none⟩) hgB _).setCell (p := ⟨g, _, none⟩) hgB _).setCell (p := ⟨g, _, none⟩) hgB _⟩
                have h1 := (unhide HRi).setS hlt (unhide Htv) (j := i) (f79 k)
                exact h1.congr (fun _ _ => rfl) (fun m _ => by by_cases e : m = k <;> simp [e])
              case measure => simp [intOf]; omega
            · have hin : i = nt := by omega
              subst hin
              have hR2 : Rws wr B (.slice (some ⟨b, 0, none⟩) L.length cap) L (FK L (k + 1)) (FS L (k + 1)) :=
                (unhide HRi).congr (fun _ _ => rfl) (fun m _ => by rw [all_rep (unhide Hxl) (unhide Hxs), unhide Hnt]; exact FS_next L k m)
              have HR2 := hide hR2
              have hii : ¬ (i : Int) < (i : Int) := by omega
              clear hR2 HRi Hxl Hxs
              go_wp2
              go_roundw
              case rel => exact ⟨k + 1, by omega, by go_num, HR2, hbw⟩
              case measure => simp [intOf]; omega
    · have hkl : k = L.length := by omega
      subst hkl
      have ki : ¬ (L.length : Int) < (L.length : Int) := by omega
      clear HR
      generalize wr = w0 at *
      go_wp2_with fail
      go_loopw [59] (fun i wr => ∃ k : Nat, k ≤ L.length ∧ i = .int .i64 k ∧ Hid (Rws wr B (.slice ad L.length cap) L (FK L L.length) (FS L L.length)) ∧ Below B w wr) (fun i _ => L.length - (intOf i).toNat)
      case atStart => exact ⟨0, Nat.zero_le _, rfl, HRk, hbw⟩
      case round =>
        clear hbw HRk hk hlt ki
        obtain ⟨k, hk, rfl, HRk, hbw⟩ := hrel
        by_cases hlt : k < L.length
        · have hR := unhide HRk
          have hne : L ≠ [] := by rintro rfl; simp at hlt
          obtain ⟨ad', cap', he, hc⟩ := hR.has
          cases he
          obtain ⟨b, rfl, hbB, hbl, hat⟩ := hc hne
          have x1 := (hat k hlt).2.1
          obtain ⟨ok, ck, ekv, hko⟩ := own_sl (hR.own k hlt).l
          obtain ⟨ot, ct, etv, hto⟩ := own_sl (hR.own k hlt).s
          have hbk := unhide HB k
          have hbs := hbw.size
          have hownk := ((hR.kept (World.grownBy_alloc wr (.cells #[.int .u8 80, .string ⟨#[]⟩, .int .i64 0, .int .u8 80, .string ⟨#[]⟩, .int .i64 0] 25) none)).own k hlt).l
          rw [ekv] at x1 hownk
          have elk := FK_len L L.length k
          have elt := FS_len L L.length k
          rw [elk] at x1 hownk ekv
          rw [elt] at etv
          obtain ⟨nk, enk⟩ : ∃ nk, nk = (KOf L k).length := ⟨_, rfl⟩
          obtain ⟨nt, ent⟩ : ∃ nt, nt = (SOf L k).length := ⟨_, rfl⟩
          rw [← enk] at x1 ekv hbk hownk
          rw [← ent] at etv hbk
          obtain ⟨hbk1, hbk2⟩ := hbk
          have Hkv := hide ekv
          have Htv := hide etv
          have Hnk := hide enk
          have Hnt := hide ent
          have ki : (k : Int) < (L.length : Int) := by omega
          clear hR hat hc hne ekv etv hko hto enk ent elk elt
          have hRa := (unhide HRk).kept (World.grownBy_alloc wr (.cells #[.int .u8 80, .string ⟨#[]⟩, .int .i64 0, .int .u8 80, .string ⟨#[]⟩, .int .i64 0] 25) none)
          have HRa := hide hRa
          clear hRa
          go_upto_region 19 with (at_builtin; refine wpList_append_still _ rfl _ _ 23 rfl B 25 i0 (.agg #[.int .u8 0, .string ⟨#[]⟩, .int .i64 0]) 3 32 Try.underlying23 hi hz0 hz1 hz2 (.slice ok nk ck) nk _ rfl hownk ⟨wr.heap.size, 0, none⟩ 2 2 [.int .u8 80, .string ⟨#[]⟩, .int .i64 0, .int .u8 80, .string ⟨#[]⟩, .int .i64 0] rfl rfl (new6 wr _ _ _ _ _ _) one6 (by decide) (by unfold maxLen; omega) (by omega) ?_; intro v' w5 hown' hgrow)
          have hb5 : Below B w w5 := below_app hbw (by omega) hownk hgrow
          have hR5 : Rws w5 B (.slice (some ⟨b, 0, none⟩) L.length cap) L (FK L L.length) (FS L L.length) :=
            (unhide HRa).appK hlt (by rw [unhide Hkv]; exact hgrow) (by rw [unhide Hkv, FK_len, ← unhide Hnk]; exact hown')
          have HR5 := hide hR5
          have hne : L ≠ [] := by rintro rfl; simp at hlt
          obtain ⟨ad', cap', he, hc⟩ := hR5.has
          cases he
          obtain ⟨b', eb, _, _, hat⟩ := hc hne
          cases eb
          have x2 := (hat k hlt).2.2
          rw [unhide Htv] at x2
          have hownt := ((hR5.kept (World.grownBy_alloc w5 (.cells #[.int .u8 80, .string ⟨#[]⟩, .int .i64 0, .int .u8 80, .string ⟨#[]⟩, .int .i64 0] 25) none)).own k hlt).s
          rw [unhide Htv, FS_len, ← unhide Hnt] at hownt
          have hRb := hR5.kept (World.grownBy_alloc w5 (.cells #[.int .u8 80, .string ⟨#[]⟩, .int .i64 0, .int .u8 80, .string ⟨#[]⟩, .int .i64 0] 25) none)
          have HRb := hide hRb
          have hbs5 := hb5.size
          clear hRb hR5 hat hc hne HRa hown' hgrow hownk x1 HRk hbw
          go_wp2_with (at_builtin; refine wpList_append_still _ rfl _ _ 23 rfl B 25 i0 (.agg #[.int .u8 0, .string ⟨#[]⟩, .int .i64 0]) 3 32 Try.underlying23 hi hz0 hz1 hz2 (.slice ot nt ct) nt _ rfl hownt ⟨w5.heap.size, 0, none⟩ 2 2 [.int .u8 80, .string ⟨#[]⟩, .int .i64 0, .int .u8 80, .string ⟨#[]⟩, .int .i64 0] rfl rfl (new6 w5 _ _ _ _ _ _) one6 (by decide) (by unfold maxLen; omega) (by omega) ?_; intro v2 w6 hown' hgrow)
          have hb6 : Below B w w6 := below_app hb5 (by omega) hownt hgrow
          have hR6 : Rws w6 B (.slice (some ⟨b, 0, none⟩) L.length cap) L (FK L L.length) (FS L L.length) :=
            (unhide HRb).appS hlt (by rw [unhide Htv]; exact hgrow) (by rw [unhide Htv, FS_len, ← unhide Hnt]; exact hown')
          have HR6 := hide hR6
          clear hR6 hown' hgrow hownt
          go_roundw
          case rel => exact ⟨k + 1, by omega, by go_num, HR6, hb6⟩
          case measure => simp [intOf]; omega
        · have hkl : k = L.length := by omega
          subst hkl
          have ki : ¬ (L.length : Int) < (L.length : Int) := by omega
          generalize wr = w1 at *
          go_wp2_with fail
          go_loopw [83] (fun i wr => ∃ k : Nat, k ≤ L.length ∧ i = .int .i64 k ∧ Below w1.heap.size w1 wr) (fun i _ => L.length - (intOf i).toNat)
          case atStart => exact ⟨0, Nat.zero_le _, rfl, Below.refl _ _⟩
          case round =>
            clear hk hlt ki
            obtain ⟨k, hk, rfl, hbr⟩ := hrel
            by_cases hlt : k < L.length
            · have hR := (unhide HRk).below hbr
              have hne : L ≠ [] := by rintro rfl; simp at hlt
              obtain ⟨ad', cap', he, hc⟩ := hR.has
              cases he
              obtain ⟨b, rfl, hbB, hbl, hat⟩ := hc hne
              obtain ⟨x0, x1, x2⟩ := hat k hlt
              have hik := TIn.of_own (hR.own k hlt).l
              have hit := TIn.of_own (hR.own k hlt).s
              have efk : FK L L.length k = List.replicate (KOf L k).length (f78 k) := by unfold FK; rw [if_pos hlt]
              have eft : FS L L.length k = List.replicate (SOf L k).length (f79 k) := by unfold FS; rw [if_pos hlt]
              rw [efk] at hik
              rw [eft] at hit
              obtain ⟨ok, ck, ekv, hck⟩ := hik
              obtain ⟨ot, ct, etv, hct⟩ := hit
              rw [ekv] at x1
              rw [etv] at x2
              have hbk := unhide HB k
              obtain ⟨nk, enk⟩ : ∃ nk, nk = (KOf L k).length := ⟨_, rfl⟩
              obtain ⟨nt, ent⟩ : ∃ nt, nt = (SOf L k).length := ⟨_, rfl⟩
              rw [← enk] at x1 hck hbk
              rw [← ent] at x2 hct hbk
              obtain ⟨hbk1, hbk2⟩ := hbk
              rw [List.length_replicate] at x1 hck x2 hct
              have Hck := hide hck
              have Hct := hide hct
              have ki : (k : Int) < (L.length : Int) := by omega
              generalize (L[k]).f = fr at *
              clear hR hat hc hne ekv etv hck hct enk ent efk eft
              generalize wr = w2 at *
              go_upto_region 24 with fail
              obtain ⟨W3, hW3⟩ : ∃ W3, W3 = w2.alloc (.cells #[.int .i64 fr.at_, .slice ok nk ck, .slice ot nt ct] 42) := ⟨_, rfl⟩
              have hn3 : Bk W3 w2.heap.size #[.int .i64 fr.at_, .slice ok nk ck, .slice ot nt ct] 42 := by rw [hW3]; exact Bk.new w2 _ _
              have hb3 : Below w2.heap.size w2 W3 := by rw [hW3]; exact (Below.refl _ _).alloc (Nat.le_refl _) _
              rw [← hW3]
              have y1 := hn3.cell 1
              simp at y1
              obtain ⟨p, ep⟩ : ∃ p, p = w2.heap.size := ⟨_, rfl⟩
              rw [← ep] at y1 hn3 ⊢
              have Hn3 := hide hn3
              have Hep := hide ep
              clear x0 x1 x2 hn3 hW3 ep
              go_wp2_with fail
              go_loopw [91] (fun i wr => ∃ j : Nat, j ≤ nk ∧ i = .int .i64 j ∧ Below W3.heap.size W3 wr) (fun i _ => nk - (intOf i).toNat)
              case atStart => exact ⟨0, Nat.zero_le _, rfl, Below.refl _ _⟩
              case round =>
                clear y1
                obtain ⟨j, hj, rfl, hb4⟩ := hrel
                by_cases hjlt : j < nk
                · obtain ⟨bk, o2, rfl, hcell⟩ := unhide Hck (by intro e; have := congrArg List.length e; simp at this; omega)
                  have eg : (List.replicate nk (f78 k)).getD j T.zero = f78 k := by simp [List.getD_eq_getElem?_getD, hjlt]
                  have c0 := hcell j hjlt 0 (by omega)
                  have c1 := hcell j hjlt 1 (by omega)
                  have c2 := hcell j hjlt 2 (by omega)
                  rw [eg] at c0 c1 c2
                  simp [T.cells, f78] at c0 c1 c2
                  have hbb := hb3.trans (hb4.mono hb3.size)
                  rw [← hbb.cell (cell_lt c0)] at c0
                  rw [← hbb.cell (cell_lt c1)] at c1
                  rw [← hbb.cell (cell_lt c2)] at c2
                  have ji : (j : Int) < (nk : Int) := by omega
                  have hxx : (((k : Int)) != ((k : Int))) = false := by simp
                  clear hcell eg hbb
                  go_wp2
                  go_roundw
                  case rel => exact ⟨j + 1, by omega, by go_num, hb4.alloc hb4.size _⟩
                  case measure => simp [intOf]; omega
                · have hjn : j = nk := by omega
                  subst hjn
                  have hji : ¬ (j : Int) < (j : Int) := by omega
                  have hn4 := (unhide Hn3).below hb4
                  have y2 := hn4.cell 2
                  simp at y2
                  clear hn4
                  generalize wr = w4 at *
                  go_wp2_with fail
                  go_loopw [108] (fun i wr => ∃ m : Nat, m ≤ nt ∧ i = .int .i64 m ∧ Below W3.heap.size W3 wr) (fun i _ => nt - (intOf i).toNat)
                  case atStart => exact ⟨0, Nat.zero_le _, rfl, hb4⟩
                  case round =>
                    clear y2 hb4
                    obtain ⟨m, hm, rfl, hb4⟩ := hrel
                    by_cases hmlt : m < nt
                    · obtain ⟨bk, o2, rfl, hcell⟩ := unhide Hct (by intro e; have := congrArg List.length e; simp at this; omega)
                      have eg : (List.replicate nt (f79 k)).getD m T.zero = f79 k := by simp [List.getD_eq_getElem?_getD, hmlt]
                      have c0 := hcell m hmlt 0 (by omega)
                      have c1 := hcell m hmlt 1 (by omega)
                      have c2 := hcell m hmlt 2 (by omega)
                      rw [eg] at c0 c1 c2
                      simp [T.cells, f79] at c0 c1 c2
                      have hbb := hb3.trans (hb4.mono hb3.size)
                      rw [← hbb.cell (cell_lt c0)] at c0
                      rw [← hbb.cell (cell_lt c1)] at c1
                      rw [← hbb.cell (cell_lt c2)] at c2
                      have mi : (m : Int) < (nt : Int) := by omega
                      have hxx : (((k : Int)) != ((k : Int))) = false := by simp
                      clear hcell eg hbb
                      go_wp2
                      go_roundw
                      case rel => exact ⟨m + 1, by omega, by go_num, hb4.alloc hb4.size _⟩
                      case measure => simp [intOf]; omega
                    · have hmn : m = nt := by omega
                      subst hmn
                      have hmi : ¬ (m : Int) < (m : Int) := by omega
                      go_wp2
                      go_roundw
                      case rel =>
                        have hbb := hb3.trans (hb4.mono hb3.size)
                        exact ⟨k + 1, by omega, by go_num, hbr.trans (hbb.mono hbr.size)⟩
                      case measure => simp [intOf]; omega
            · have hkl : k = L.length := by omega
              subst hkl
              have ki : ¬ (L.length : Int) < (L.length : Int) := by omega
              go_wp2
              go_ret
              exact ⟨rfl, hbw.trans (hbr.mono (Nat.le_trans hB hbw.size))⟩
end Go.Proofs.Ytbgpkkbejbidlab
