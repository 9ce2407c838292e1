/-
  Encode of package code.
-/
import Derived.Test.YtpmonoenppfekabDoorApi
import Derived.Test.YtpmonoenppfekabDoorBd
namespace Go.Proofs.YtpmonoenppfekabDoor
open Go.RowKit
/-- What is asked of an instruction that is handed in. -/
structure V.Fit (w : World) (c : V) : Prop where
  ok : c.Ok w
  tl : c.g.tgts.length ≤ 100000
  wf : ∀ t ∈ c.g.tgts, (Lit.int .i64 t).wf = true
  cap : ∀ ad n cap, c.tv = .slice ad n cap → n ≤ cap
theorem V.Fit.below {w w' : World} {c : V} (h : c.Fit w) (hb : Below w.heap.size w w') : c.Fit w' := ⟨h.ok.below hb, h.tl, h.wf, h.cap⟩
/-- A list of instructions that can be read. -/
structure GHas (w : World) (v : Value) (L : List V) : Prop where
  form : ∃ ad cap, v = .slice ad L.length cap ∧ (L ≠ [] → ∃ b o, ad = some ⟨b, o, none⟩ ∧ ∀ k (hk : k < L.length), ∀ i, i < 8 → w.cell? ⟨b, o + k * 8 + i, none⟩ = (L[k]).arr[i]?)
  fit : ∀ c ∈ L, c.Fit w
def V.j (c : V) : J := ⟨⟨c.g.at_.toNat, c.g.op, c.g.wide, c.g.a, c.g.b, c.g.low, c.g.keys, c.g.tgts⟩, c.kv, c.tv⟩
def J.v (j : J) : V := ⟨j.i.g, j.kv, j.tv⟩
theorem V.j_g {c : V} (h : 0 ≤ c.g.at_) : c.j.i.g = c.g := by
  obtain ⟨⟨at_, op, wide, a, b, low, keys, tgts⟩, kv, tv⟩ := c
  simp only [V.j, I.g] at *
  congr 1
  omega
theorem V.j_cells {c : V} (h : 0 ≤ c.g.at_) : c.j.cells = c.arr.toList := by
  obtain ⟨⟨at_, op, wide, a, b, low, keys, tgts⟩, kv, tv⟩ := c
  simp only [V.j, J.cells, J.c, C.cells, V.arr] at *
  congr 2
  congr 1
  omega
theorem GHas.has {w : World} {v : Value} {L : List V} (h : GHas w v L) (hat : ∀ c ∈ L, 0 ≤ c.g.at_) : Has w v (L.map V.j) := by
  obtain ⟨ad, cap, rfl, hc⟩ := h.form
  refine ⟨⟨ad, cap, by simp, fun hne => ?_⟩, fun j hj => ?_⟩
  · obtain ⟨b, o, e, hk⟩ := hc (by rintro rfl; simp at hne)
    refine ⟨b, o, e, fun k hk1 i hi => ?_⟩
    have hk2 : k < L.length := by simpa using hk1
    rw [hk k hk2 i hi, List.getElem_map, V.j_cells (hat _ (List.getElem_mem hk2))]
    simp
  · obtain ⟨c, hc, rfl⟩ := List.mem_map.1 hj
    exact ⟨(h.fit c hc).ok.k, (h.fit c hc).ok.t⟩
theorem first_map {L : List V} (hat : ∀ c ∈ L, 0 ≤ c.g.at_) : M.firstLost ((L.map V.j).map J.i) = M.gFirst (L.map V.g) := by
  have : (L.map V.j).map J.i = L.map (fun c => c.j.i) := by simp [List.map_map, Function.comp]
  rw [← M.gFirst_map, this, List.map_map]
  congr 1
  apply List.map_congr_left
  intro c hc
  exact V.j_g (hat c hc)
theorem Vb.of8 {w : World} {p : Nat} {c : V} {ks : List Value} (h : w.heap[p]? = some (.cells ks.toArray 35 (0, 0))) (e : ks = c.arr.toList) : Vb w p c := by
  unfold Vb; rw [h, e]
theorem own_string {w : World} {base : Nat} {v : Value} {l : List UInt8} (h : w.ownsRow base 5 1 v l.length (U8 l)) : Sem.run Tryd.prog (convert 69 9 v) w = .ok (.string ⟨l.toArray⟩) w := by
  rcases h.2 with ⟨rfl, h0⟩ | ⟨g, cap, cur, rfl, _, h4, _, _, _, h8⟩
  · have : l = [] := List.length_eq_zero_iff.1 h0
    subst this
    exact run_convert_bytes_nil (P := Tryd.prog) w 69 5 Tryd.underlying69 Tryd.underlying5 0 0 9 Tryd.underlying9
  · refine run_convert_bytes_back (P := Tryd.prog) w 69 9 5 ⟨g, 0, none⟩ cap l Tryd.underlying69 Tryd.underlying5 Tryd.underlying9 fun j hj => ?_
    refine h.cells rfl j _ ?_
    simp [U8, hj]
/-- What Encode leaves. -/
def Encoded (L : List V) (w : World) (x : Ending) (w' : World) : Prop :=
  Below w.heap.size w w' ∧ match M.encode (L.map V.g) with
  | .error (e, k) => x = .returned (.tuple #[.string ⟨#[]⟩, .int .i64 (e : Int), .int .i64 (k : Int)])
  | .ok b => x = .returned (.tuple #[.string ⟨b.toArray⟩, .int .i64 0, .int .i64 0])
theorem enc_next {L : List V} {k : Nat} {b : List UInt8} (hk : k < L.length) (h : M.encGo (L.map V.g) 0 [] = M.encGo ((L.map V.g).drop k) k b) :
    M.encGo (L.map V.g) 0 [] = if M.wrong (L[k]).g b.length ≠ 0 then .error (M.wrong (L[k]).g b.length, k) else if 65535 < (b ++ M.enc1 (L[k]).g b.length).length then .error (12, k) else M.encGo ((L.map V.g).drop (k + 1)) (k + 1) (b ++ M.enc1 (L[k]).g b.length) := by
  rw [h, List.drop_eq_getElem_cons (by simpa using hk), M.encGo]
  simp only [List.getElem_map]
theorem wrong_zero {g : G} {n : Nat} (h : M.wrong g n = 0) : g.at_ = (n : Int) ∧ M.hasOps g = true := by
  unfold M.wrong at h
  split at h
  · cases h
  · rename_i h1
    split at h
    · cases h
    · split at h
      · rename_i h3; exact ⟨by simpa using h1, h3⟩
      · cases h
theorem wrong_le (g : G) (n : Nat) : M.wrong g n ≤ 16 := by
  unfold M.wrong
  split
  · omega
  · split
    · omega
    · split <;> omega
theorem enc_len (g : G) (n : Nat) (h : g.tgts.length ≤ 100000) : (M.enc1 g n).length ≤ 900000 := by
  have hb := M.layOf_sizes (M.kindW g.op g.wide)
  obtain ⟨h1, h2, h3, h4⟩ := hb
  have hp3 : ∀ q, M.padN q ≤ 3 := fun q => by unfold M.padN; omega
  have hf4 : M.fw.size = 4 := rfl
  have hT : (M.restT g (g.tgts.length - 1)).length ≤ 400000 := by
    have := flat_len (List.range (g.tgts.length - 1)) (fun k => M.nb M.fw (g.tgts.getD (k + 1) 0 - g.at_)) 4 (fun x => by rw [M.nb_len]; decide)
    rw [List.length_range] at this; unfold M.restT; omega
  have hK : (M.restK g (g.tgts.length - 1)).length ≤ 800000 := by
    have := flat_len (List.range (g.tgts.length - 1)) (fun k => M.nb M.fw (g.keys.getD k 0) ++ M.nb M.fw (g.tgts.getD (k + 1) 0 - g.at_)) 8 (fun x => by rw [List.length_append, M.nb_len, M.nb_len]; decide)
    rw [List.length_range] at this; unfold M.restK; omega
  have hP : (g.tgts.flatMap fun t => M.nb (M.layOf (M.kindW g.op g.wide)).t (t - g.at_)).length ≤ 400000 := by
    have := flat_len g.tgts (fun t => M.nb (M.layOf (M.kindW g.op g.wide)).t (t - g.at_)) 4 (fun x => by rw [M.nb_len]; exact h4)
    omega
  have hS : ∀ q bk, (M.swB g q bk).length ≤ 850000 := fun q bk => by
    have := hp3 q
    unfold M.swB
    cases bk <;> simp only [List.length_append, List.length_replicate, M.nb_len, hf4, if_true, Bool.false_eq_true, if_false] <;> omega
  have hPl : (M.plainB g (M.layOf (M.kindW g.op g.wide))).length ≤ 850000 := by
    unfold M.plainB; simp only [List.length_append, M.nb_len]; omega
  have hw : (if g.wide then ([196] : List UInt8) else []).length ≤ 1 := by
    cases g.wide <;> simp
  have hx : ∀ q, (if M.kindW g.op g.wide = 15 then M.swB g q false else if M.kindW g.op g.wide = 16 then M.swB g q true else M.plainB g (M.layOf (M.kindW g.op g.wide))).length ≤ 850000 := fun q => by
    split
    · exact hS _ _
    · split
      · exact hS _ _
      · exact hPl
  unfold M.enc1
  rw [List.length_append, List.length_cons]
  have := hx (n + if g.wide = true then 2 else 1)
  omega
set_option maxRecDepth 100000 in
set_option maxHeartbeats 4000000 in
theorem Encode_any (L : List V) (v : Value) (w : World) (hw : Wd w) (h : GHas w v L) (hl : L.length ≤ 1048576) : Calls Tryd.prog 18 #[v] w fun x w' => Encoded L w x w' := by
  obtain ⟨ad, cap, rfl, hc⟩ := h.form
  by_cases h0 : L.length = 0
  · have hz : (((L.length : Nat) : Int) == 0) = true := by rw [beq_iff_eq]; omega
    have he : M.encode (L.map V.g) = .error (12, 0) := by unfold M.encode; rw [if_pos (by simpa using List.length_eq_zero_iff.1 h0)]
    have He := hide he
    clear he hc h h0
    go_enter Tryd.func18, Tryd.ntmps18
    go_wp2
    refine bodyPost_ret (v := .tuple #[.string ⟨#[]⟩, .int .i64 12, .int .i64 0]) (by simp [results, Tryd.results18, go_sem]) rfl ?_
    exact ⟨Below.refl _ _, by rw [unhide He]; rfl⟩
  · have hz : (((L.length : Nat) : Int) == 0) = false := by rw [beq_eq_false_iff_ne]; omega
    have hne : L ≠ [] := by rintro rfl; simp at h0
    obtain ⟨b0, o0, rfl, hcell⟩ := hc hne
    have he : M.encode (L.map V.g) = match M.encGo (L.map V.g) 0 [] with
        | .error e => .error e
        | .ok b => match M.gFirst (L.map V.g) with
          | none => .ok b
          | some k => .error (16, k) := by unfold M.encode; rw [if_neg (by simpa using hne)]; rfl
    have He := hide he
    have HH := hide h
    have HC := hide hcell
    clear he hc h hcell hne
    go_enter Tryd.func18, Tryd.ntmps18
    go_wp2_with fail
    go_loopw [5, 15] (fun v i wr => ∃ (k : Nat) (b : List UInt8), k ≤ L.length ∧ i = .int .i64 k ∧ Hid (Wr w wr v b) ∧ b.length ≤ 65535 ∧ Hid (M.encGo (L.map V.g) 0 [] = M.encGo ((L.map V.g).drop k) k b) ∧ Hid (∀ j (hj : j < L.length), j < k → 0 ≤ (L[j]).g.at_ ∧ (L[j]).g.at_ ≤ 65535)) (fun _ i _ => L.length - (intOf i).toNat)
    case atStart => exact ⟨0, [], Nat.zero_le _, rfl, ⟨Below.refl _ _, World.ownsRow_nil _ _ _ _⟩, by simp, by unfold Hid; simp, fun j _ hj => by omega⟩
    case round =>
      obtain ⟨k, b, hk, rfl, HW, hbl, HE, HA⟩ := hrel
      by_cases hlt : k < L.length
      · have hW := unhide HW
        have hnx := enc_next hlt (unhide HE)
        have hfit := (unhide HH).fit _ (List.getElem_mem hlt)
        have hcl := unhide HC k hlt
        have hwz := @wrong_zero (L[k]).g b.length
        have hwl := wrong_le (L[k]).g b.length
        obtain ⟨ov, cv, evo⟩ := hW.form
        subst evo
        have hwr0 := hW.old.size
        have ki : (k : Int) < (L.length : Int) := by omega
        have hWR := fun (w1 : World) (hb : Below w.heap.size w w1) => wrongIns_any (L[k]) b.length w1 (hw.below hb) (hfit.ok.below hb)
        have hAP := fun (w1 : World) (v1 : Value) (hw1 : Wr w w1 v1 b) (ho : M.hasOps (L[k]).g = true) => appendIns_any (L[k]) w w1 v1 b hw1 hw hfit.ok (by omega) hfit.tl ho hfit.cap
        have hen := enc_len (L[k]).g b.length hfit.tl
        obtain ⟨c, hcL⟩ : ∃ c, c = L[k] := ⟨_, rfl⟩
        simp only [← hcL] at hnx hfit hcl hwz hwl hWR hAP hen
        have HcL := hide hcL
        obtain ⟨at2, cap2, et, _⟩ := hfit.ok.t
        obtain ⟨ak2, capk, ek, _⟩ := hfit.ok.k
        obtain ⟨⟨at_, op, wide, a, bb, low, keys, tgts⟩, kv, tv⟩ := c
        simp only at et ek hnx hwz hwl hen
        subst et
        subst ek
        have x0 := hcl 0 (by omega)
        have x1 := hcl 1 (by omega)
        have x2 := hcl 2 (by omega)
        have x3 := hcl 3 (by omega)
        have x4 := hcl 4 (by omega)
        have x5 := hcl 5 (by omega)
        have x6 := hcl 6 (by omega)
        have x7 := hcl 7 (by omega)
        simp only [V.arr] at x0 x1 x2 x3 x4 x5 x6 x7
        simp at x0 x1 x2 x3 x4 x5 x6 x7
        have hb0 : b0 < w.heap.size := cell_lt x0
        have hcw : ∀ o, wr.cell? ⟨b0, o, none⟩ = w.cell? ⟨b0, o, none⟩ := fun o => hW.old.cell hb0
        rw [← hcw] at x0 x1 x2 x3 x4 x5 x6 x7
        simp only [V.val, V.arr] at hWR hAP
        have HWR := hide hWR
        have HAP := hide hAP
        have Hnx := hide hnx
        have Hwz := hide hwz
        have Hen := hide hen
        clear hfit hcl hnx hwz hWR hAP hcL hcw hen hW
        obtain ⟨rw_, hrw⟩ : ∃ r, r = M.wrong ⟨at_, op, wide, a, bb, low, keys, tgts⟩ b.length := ⟨_, rfl⟩
        rw [← hrw] at HWR Hnx Hwz hwl
        clear hrw
        go_upto_region 7 with fail
        obtain ⟨W2, hW2⟩ : ∃ W2, W2 = wr.alloc (.cells #[.int .i64 at_, .int .u8 (op : Int), .bool wide, .int .i64 a, .int .i64 bb, .int .i64 low, .slice ak2 keys.length capk, .slice at2 tgts.length cap2] 35) := ⟨_, rfl⟩
        rw [← hW2]
        have v2 : Vb W2 wr.heap.size ⟨⟨at_, op, wide, a, bb, low, keys, tgts⟩, .slice ak2 keys.length capk, .slice at2 tgts.length cap2⟩ := by rw [hW2]; exact heap_alloc_new wr _
        have hW2' : Wr w W2 (.slice ov b.length cv) b := by rw [hW2]; exact (unhide HW).alloc _
        obtain ⟨p, ep⟩ : ∃ p, p = wr.heap.size := ⟨_, rfl⟩
        rw [← ep] at v2 ⊢
        have y0 := v2.cell 0
        have y1 := v2.cell 1
        have y2 := v2.cell 2
        have y3 := v2.cell 3
        have y4 := v2.cell 4
        have y5 := v2.cell 5
        have y6 := v2.cell 6
        have y7 := v2.cell 7
        simp [V.arr] at y0 y1 y2 y3 y4 y5 y6 y7
        clear hW2 ep x0 x1 x2 x3 x4 x5 x6 x7 HW
        go_wp2_with fail
        refine (unhide HWR _ hW2'.old).mono ?_
        clear HWR y0 y1 y2 y3 y4 y5 y6 y7
        rintro e w3 ⟨rfl, hb3⟩
        have hW3 := hW2'.below hb3
        have v3 := v2.below hb3
        clear hW2' v2 hb3
        by_cases hr0 : rw_ = 0
        · have hbn : (((rw_ : Nat) : Int) != 0) = false := by rw [bne_eq_false_iff_eq]; omega
          obtain ⟨hat, hop⟩ := unhide Hwz hr0
          have hC := unhide HAP w3 _ hW3 hop
          have hnx := unhide Hnx
          rw [if_neg (by omega)] at hnx
          have hen := unhide Hen
          obtain ⟨B2, eB2⟩ : ∃ B2, B2 = b ++ M.enc1 ⟨at_, op, wide, a, bb, low, keys, tgts⟩ b.length := ⟨_, rfl⟩
          have hB2 : B2.length ≤ 1000000 := by rw [eB2, List.length_append]; omega
          rw [← eB2] at hC hnx
          have HCC := hide hC
          have Hnx2 := hide hnx
          have y0 := v3.cell 0
          have y1 := v3.cell 1
          have y2 := v3.cell 2
          have y3 := v3.cell 3
          have y4 := v3.cell 4
          have y5 := v3.cell 5
          have y6 := v3.cell 6
          have y7 := v3.cell 7
          simp [V.arr] at y0 y1 y2 y3 y4 y5 y6 y7
          have HatH := hide hat
          clear hC hnx Hnx Hwz HAP hr0 Hen hen eB2 hat
          go_wp2_with fail
          refine (unhide HCC).mono ?_
          clear HCC y0 y1 y2 y3 y4 y5 y6 y7
          rintro e w4 ⟨v4, rfl, hW4, hf4⟩
          obtain ⟨o4, c4, e4⟩ := hW4.form
          subst e4
          by_cases hbig : 65535 < B2.length
          · have hbi : (65535 : Int) < (B2.length : Int) := by omega
            have hnx := unhide Hnx2
            rw [if_pos hbig] at hnx
            have hrr := unhide He
            rw [hnx] at hrr
            have Hrr := hide hrr
            clear hnx hrr Hnx2 He HE hbig
            go_wp2
            refine bodyPost_ret (v := .tuple #[.string ⟨#[]⟩, .int .i64 12, .int .i64 (k : Int)]) (by simp [results, Tryd.results18, go_sem]) rfl ?_
            exact ⟨hW4.old, by rw [unhide Hrr]; rfl⟩
          · have hbi : ¬ (65535 : Int) < (B2.length : Int) := by omega
            have hnx := unhide Hnx2
            rw [if_neg hbig] at hnx
            have Hnx3 := hide hnx
            have HW4 := hide hW4
            have HA2 : Hid (∀ j (hj : j < L.length), j < k + 1 → 0 ≤ (L[j]).g.at_ ∧ (L[j]).g.at_ ≤ 65535) := fun j hj h1 => by
              rcases Nat.lt_or_ge j k with h | h
              · exact unhide HA j hj h
              · have : j = k := by omega
                subst this
                rw [← unhide HcL]
                have := unhide HatH
                simp only at this ⊢
                omega
            clear hnx Hnx2 hW4 HE HA HatH
            go_wp2
            go_roundw
            case rel => exact ⟨k + 1, B2, by omega, by go_num, HW4, by omega, Hnx3, HA2⟩
            case measure => simp [intOf]; omega
        · have hbn : (((rw_ : Nat) : Int) != 0) = true := by rw [bne_iff_ne]; omega
          have hnx := unhide Hnx
          rw [if_pos hr0] at hnx
          have hrr := unhide He
          rw [hnx] at hrr
          have Hrr := hide hrr
          clear hnx hrr Hnx Hwz He HE hr0
          go_wp2
          refine bodyPost_ret (v := .tuple #[.string ⟨#[]⟩, .int .i64 (rw_ : Int), .int .i64 (k : Int)]) (by simp [results, Tryd.results18, go_sem]) rfl ?_
          exact ⟨hW3.old, by rw [unhide Hrr]⟩
      · have hkl : k = L.length := by omega
        subst hkl
        have ki : ¬ (L.length : Int) < (L.length : Int) := by omega
        have hA := unhide HA
        have hat : ∀ c ∈ L, 0 ≤ c.g.at_ ∧ c.g.at_ ≤ 65535 := fun c hc => by
          obtain ⟨i, hi, rfl⟩ := List.getElem_of_mem hc
          exact hA i hi hi
        have hE := unhide HE
        rw [List.drop_of_length_le (by simp)] at hE
        have hW := unhide HW
        obtain ⟨ov, cv, evo⟩ := hW.form
        subst evo
        have hh := (unhide HH)
        have hfm := first_map (fun c hc => (hat c hc).1)
        have hFL := fun (w1 : World) (hb : Below w.heap.size w w1) => firstLost_any (L.map V.j) (.slice (some ⟨b0, o0, none⟩) L.length cap) w1 (by
            have h1 := hh.has (fun c hc => (hat c hc).1)
            obtain ⟨⟨a1, c1, e1, h2⟩, h3⟩ := h1
            refine ⟨⟨a1, c1, e1, fun hne => ?_⟩, fun j hj => ⟨(h3 j hj).1.below hb, (h3 j hj).2.below hb⟩⟩
            obtain ⟨b1, o1, e2, h4⟩ := h2 hne
            refine ⟨b1, o1, e2, fun k hk i hi => ?_⟩
            have h5 := h4 k hk i hi
            have hci : ((L.map V.j)[k]).cells[i]? = some (((L.map V.j)[k]).cells[i]'(by rw [J.cells_length]; exact hi)) := List.getElem?_eq_getElem _
            rw [hci] at h5 ⊢
            rw [hb.cell (cell_lt h5)]; exact h5) (by simpa using hl)
          (fun j hj => by
            obtain ⟨c, hc, rfl⟩ := List.mem_map.1 hj
            have := hat c hc
            simp only [V.j]; omega)
          (fun j hj t ht => by
            obtain ⟨c, hc, rfl⟩ := List.mem_map.1 hj
            exact (hh.fit c hc).wf t ht)
          (fun j hj => by
            obtain ⟨c, hc, rfl⟩ := List.mem_map.1 hj
            have := (hh.fit c hc).tl
            simp only [V.j]; omega)
        rw [hfm] at hFL
        have HFL := hide hFL
        have hee : M.encode (L.map V.g) = match M.gFirst (L.map V.g) with
          | none => .ok b
          | some k => .error (16, k) := by rw [unhide He, hE]; rfl
        have Hee := hide hee
        have HWW := hide hW
        clear hfm hFL hh hW hE hat hA hee He HE HA HH HC hk hlt
        go_wp2_with fail
        refine (unhide HFL _ (unhide HWW).old).mono ?_
        clear HFL
        rintro e w4 ⟨rfl, hb4⟩
        have hW4 := (unhide HWW).below hb4
        cases hg : M.gFirst (L.map V.g) with
        | none =>
          have hee := unhide Hee
          rw [hg] at hee
          have Hee2 := hide hee
          have hcv := own_string hW4.own
          have hold := hW4.old
          clear Hee hee hg HWW hW4
          go_wp2
          refine bodyPost_ret (v := .tuple #[.string ⟨b.toArray⟩, .int .i64 0, .int .i64 0]) (by simp [results, Tryd.results18, go_sem]) rfl ?_
          exact ⟨hold, by rw [unhide Hee2]⟩
        | some kk =>
          have hee := unhide Hee
          rw [hg] at hee
          have Hee2 := hide hee
          clear Hee hee hg HWW
          have hki : (0 : Int) ≤ (kk : Int) := by omega
          go_wp2
          refine bodyPost_ret (v := .tuple #[.string ⟨#[]⟩, .int .i64 16, .int .i64 (kk : Int)]) (by simp [results, Tryd.results18, go_sem]) rfl ?_
          exact ⟨hW4.old, by rw [unhide Hee2]; rfl⟩
end Go.Proofs.YtpmonoenppfekabDoor
