/-
  jvmcoreref1's Write.
-/
import Derived.Test.YtgihfcjddkpkaaaMgPoRefNum
import Derived.Test.YtgihfcjddkpkaaaPoRefUnits
import Derived.Deep.RegionWith
import Derived.Deep.Cut
namespace Go.Proofs.Ytgihfcjddkpkaaa.Po
open Go.RowKit
/-- Must the constant k have the Tag 0? -/
def blOf (l : List K) : Nat → Bool
  | 0 => true
  | k + 1 => twoB (l.getD k K.zero).tag
theorem cat3 (P a b : List UInt8) : (⟨P.toArray⟩ : ByteArray) ++ ((⟨a.toArray⟩ : ByteArray) ++ ⟨b.toArray⟩) = ⟨(P ++ (a ++ b)).toArray⟩ := by rw [cat_text, cat_text]
/-- What holds at the head of the loop. -/
def WInv (l : List K) (w wr : World) (k : Nat) (P : List UInt8) : Prop :=
  P = M.big l.length 2 ++ (l.take k).flatMap M.cb ∧ (∀ r, Scan (l.drop k) k (blOf l k) r → Scan l 0 true r) ∧ Below w.heap.size w wr
theorem WInv.len {l : List K} {w wr : World} {k : Nat} {P : List UInt8} (h : WInv l w wr k P) (h2 : l.length ≤ 65535) (ht : texts l ≤ 131072) : P.length ≤ 800000 := by
  have e1 := cbs_len (l.take k)
  have e2 := texts_take l k
  rw [List.length_take] at e1
  rw [h.1, List.length_append, M.big_len]; omega
theorem WInv.step {l : List K} {w wr w' : World} {k : Nat} {P Q : List UInt8} {c : K} (h : WInv l w wr k P) (hk : k < l.length) (ec : c = l.getD k K.zero) (hb : blOf l k = decide (c.tag = 0)) (hw : Wrong c 0) (hQ : Q = P ++ M.cb c) (hbe : Below w.heap.size w w') : WInv l w w' (k + 1) Q := by
  refine ⟨?_, fun r hr => h.2.1 r ?_, hbe⟩
  · rw [hQ, h.1, cbs_take hk, ec, List.append_assoc]
  · rw [drop_cons hk, ← ec]
    refine .inr ⟨hb, 0, hw, .inr ⟨rfl, ?_⟩⟩
    have : blOf l (k + 1) = twoB c.tag := by rw [ec]; rfl
    rw [← this]; exact hr
theorem WInv.bad {l : List K} {w wr : World} {k : Nat} {P : List UInt8} {c : K} (h : WInv l w wr k P) (hk : k < l.length) (ec : c = l.getD k K.zero) (hb : blOf l k ≠ decide (c.tag = 0)) : Scan l 0 true (5, k) := by
  refine h.2.1 _ ?_
  rw [drop_cons hk, ← ec]
  exact .inl ⟨hb, rfl⟩
theorem WInv.wrong {l : List K} {w wr : World} {k : Nat} {P : List UInt8} {c : K} {e : Nat} (h : WInv l w wr k P) (hk : k < l.length) (ec : c = l.getD k K.zero) (hb : blOf l k = decide (c.tag = 0)) (hw : Wrong c e) (he : e ≠ 0) : Scan l 0 true (e, k) := by
  refine h.2.1 _ ?_
  rw [drop_cons hk, ← ec]
  exact .inr ⟨hb, e, hw, .inl ⟨he, rfl⟩⟩
set_option maxRecDepth 100000 in
set_option maxHeartbeats 16000000 in
theorem RefWrite_main (b off cap : Nat) (l : List K) (w : World) (h1 : 1 ≤ l.length) (h2 : l.length ≤ 65535) (ht : texts l ≤ 131072) (hf : AllFit l) (hin : In w b off l) :
    Calls Try.prog 53 #[.slice (some ⟨b, off, none⟩) l.length cap] w fun e w' => Wrote l w e w' := by
  have hWR : ∀ x k, Scan l 0 true (x, k) → x ≠ 0 → WriteRes l ([], x, k) := fun x k hs hx => .inr ⟨h1, h2, x, k, hs, .inl ⟨hx, rfl⟩⟩
  have hWO : Scan l 0 true (0, 0) → WriteRes l (M.big l.length 2 ++ l.flatMap M.cb, 0, 0) := fun hs => .inr ⟨h1, h2, 0, 0, hs, .inr ⟨rfl, rfl⟩⟩
  have HWR := hide hWR
  have HWO := hide hWO
  have Hht := hide ht
  clear hWR hWO ht
  go_enter Try.func53, Try.ntmps53
  go_wp2_with fail
  refine (Big_any l.length 2 w (by omega) (by omega)).mono ?_
  rintro e w1 ⟨rfl, hb1⟩
  go_wp2_with fail
  go_loopw [5, 28] (fun v i wr => ∃ k P, k ≤ l.length ∧ i = .int .i64 (k : Nat) ∧ v = .string ⟨(P : List UInt8).toArray⟩ ∧ WInv l w wr k P) (fun _ i _ => l.length - (intOf i).toNat)
  case atStart => exact ⟨0, M.big l.length 2, Nat.zero_le _, rfl, rfl, by simp, fun r hr => hr, hb1⟩
  case round =>
    clear hb1
    obtain ⟨k, P, hk, rfl, rfl, hW⟩ := hrel
    have hpl := hW.len h2 (unhide Hht)
    have hbe := hW.2.2
    have hsz := hbe.size
    have HW := hide hW
    clear hW
    by_cases hlt : k < l.length
    · obtain ⟨x0, x1, x2, x3, x4⟩ := hin.at hbe k hlt
      obtain ⟨c, ec⟩ : ∃ c, c = l.getD k K.zero := ⟨_, rfl⟩
      rw [← ec] at x0 x1 x2 x3 x4
      have hfc : Fits c := by rw [ec]; exact hf _ (by simp [List.getD, List.getElem?_eq_getElem hlt])
      have Ec := hide ec
      clear ec
      obtain ⟨t, tx, bt, ca, cb⟩ := c
      obtain ⟨f1, f2, f3, f4, f5⟩ := hfc
      simp only at x0 x1 x2 x3 x4 f1 f2 f3 f4 f5
      have F3 := hide f3
      clear f3
      have hbA : Below w.heap.size w (wr.alloc (.cells #[.int .u8 (t : Int), .string ⟨tx.toArray⟩, .int .u64 (bt : Int), .int .u16 (ca : Int), .int .u16 (cb : Int)] 78)) := hbe.alloc hsz _
      rcases Nat.eq_zero_or_pos k with hk0 | hk0
      · subst hk0
        simp only [Nat.zero_mul, Nat.add_zero] at x0 x1 x2 x3 x4
        by_cases hz : t = 0
        · subst hz
          have hst := (unhide HW).step hlt (unhide Ec) (by rw [show blOf l 0 = true from rfl]; rfl) (.inr (.inr (.inl ⟨.inl rfl, rfl⟩))) (show P = P ++ M.cb ⟨0, tx, bt, ca, cb⟩ by simp [M.cb]) hbA
          have Hst := hide hst
          clear hst HW Ec
          go_wp2
          go_roundw
          case rel => exact ⟨0 + 1, P, by omega, by go_num, rfl, unhide Hst⟩
          case measure => simp [intOf]; omega
        · have hres := unhide HWR 5 0 ((unhide HW).bad hlt (unhide Ec) (by rw [show blOf l 0 = true from rfl]; simp; exact hz)) (by omega)
          have hzb : ((t : Int) == 0) = false := by rw [beq_eq_false_iff_ne]; omega
          clear hz HW Ec
          go_wp2_with fail
          refine (sizes_any t _ f1).mono ?_
          rintro e w2 ⟨rfl, hww⟩
          subst w2
          generalize szOf t = z
          go_wp2
          refine bodyPost_ret (v := .tuple #[.string ⟨#[]⟩, .int .i64 5, .int .i64 0]) (by simp [results, Try.results53, go_sem]) rfl ?_
          exact ⟨[], 5, 0, hres, rfl, hbA⟩
      · obtain ⟨z0, -, -, -, -⟩ := hin.at hbe (k - 1) (by omega)
        have hki : (0 : Int) < (k : Int) := by omega
        have hbsz : b < wr.heap.size := Nat.lt_of_lt_of_le hin.1 hsz
        have hkn : (((k : Int) == 0) : Bool) = false := by rw [beq_eq_false_iff_ne]; omega
        obtain ⟨pt, ept⟩ : ∃ pt, pt = (l.getD (k - 1) K.zero).tag := ⟨_, rfl⟩
        have hblE : blOf l k = twoB pt := by
          obtain ⟨j, rfl⟩ : ∃ j, k = j + 1 := ⟨k - 1, by omega⟩
          rw [ept]; rfl
        rw [← ept] at z0
        clear ept
        by_cases hp5 : pt = 5 ∨ pt = 6
        · have hbl : blOf l k = true := by rw [hblE]; exact decide_eq_true hp5
          have Hbl := hide hbl
          clear hblE hbl
          rcases hp5 with rfl | rfl
          · by_cases hz : t = 0
            · subst hz
              have hst := (unhide HW).step hlt (unhide Ec) (by rw [unhide Hbl]; rfl) (.inr (.inr (.inl ⟨.inl rfl, rfl⟩))) (show P = P ++ M.cb ⟨0, tx, bt, ca, cb⟩ by simp [M.cb]) hbA
              have Hst := hide hst
              clear hst HW Ec
              go_wp2
              go_roundw
              case rel => exact ⟨k + 1, P, by omega, by go_num, rfl, unhide Hst⟩
              case measure => simp [intOf]; omega
            · have hres := unhide HWR 5 k ((unhide HW).bad hlt (unhide Ec) (by rw [unhide Hbl]; simp; exact hz)) (by omega)
              have hzb : ((t : Int) == 0) = false := by rw [beq_eq_false_iff_ne]; omega
              clear hz HW Ec
              go_wp2_with fail
              refine (sizes_any t _ f1).mono ?_
              rintro e w2 ⟨rfl, hww⟩
              subst w2
              generalize szOf t = z
              go_wp2
              refine bodyPost_ret (v := .tuple #[.string ⟨#[]⟩, .int .i64 5, .int .i64 (k : Int)]) (by simp [results, Try.results53, go_sem]) rfl ?_
              exact ⟨[], 5, k, hres, rfl, hbA⟩
          · by_cases hz : t = 0
            · subst hz
              have hst := (unhide HW).step hlt (unhide Ec) (by rw [unhide Hbl]; rfl) (.inr (.inr (.inl ⟨.inl rfl, rfl⟩))) (show P = P ++ M.cb ⟨0, tx, bt, ca, cb⟩ by simp [M.cb]) hbA
              have Hst := hide hst
              clear hst HW Ec
              go_wp2
              go_roundw
              case rel => exact ⟨k + 1, P, by omega, by go_num, rfl, unhide Hst⟩
              case measure => simp [intOf]; omega
            · have hres := unhide HWR 5 k ((unhide HW).bad hlt (unhide Ec) (by rw [unhide Hbl]; simp; exact hz)) (by omega)
              have hzb : ((t : Int) == 0) = false := by rw [beq_eq_false_iff_ne]; omega
              clear hz HW Ec
              go_wp2_with fail
              refine (sizes_any t _ f1).mono ?_
              rintro e w2 ⟨rfl, hww⟩
              subst w2
              generalize szOf t = z
              go_wp2
              refine bodyPost_ret (v := .tuple #[.string ⟨#[]⟩, .int .i64 5, .int .i64 (k : Int)]) (by simp [results, Try.results53, go_sem]) rfl ?_
              exact ⟨[], 5, k, hres, rfl, hbA⟩
        · have hblF : blOf l k = false := by rw [hblE]; exact decide_eq_false hp5
          have hq5 : ((pt : Int) == 5) = false := by rw [beq_eq_false_iff_ne]; omega
          have hq6 : ((pt : Int) == 6) = false := by rw [beq_eq_false_iff_ne]; omega
          have Hbl := hide hblF
          clear hblE hblF hp5
          rcases (show t = 1 ∨ t = 3 ∨ t = 4 ∨ t = 5 ∨ t = 6 ∨ t = 7 ∨ t = 8 ∨ t = 9 ∨ t = 10 ∨ t = 11 ∨ t = 12 ∨ (t = 0 ∨ t = 2 ∨ 12 < t) by omega) with rfl | rfl | rfl | rfl | rfl | rfl | rfl | rfl | rfl | rfl | rfl | htb
          · have hkb : Kb (wr.alloc (.cells #[.int .u8 (1 : Int), .string ⟨tx.toArray⟩, .int .u64 (bt : Int), .int .u16 (ca : Int), .int .u16 (cb : Int)] 78)) wr.heap.size ⟨1, tx, bt, ca, cb⟩ := heap_alloc_new wr _
            have htz : (⟨tx.toArray⟩ : ByteArray).size = tx.length := by show tx.toArray.size = _; simp
            go_wp2_with fail
            refine (sizes_any 1 _ (by omega)).mono ?_
            rintro e w2 ⟨rfl, hww⟩
            subst w2
            rw [show szOf 1 = 2 from rfl]
            go_wp2_with fail
            refine (RefUnits_any ⟨tx.toArray⟩ _ (by rw [htz]; exact f2)).mono ?_
            rintro e w4 hun
            have hum : (e = .returned (.tuple #[.slice none 0 0, .bool false]) ∧ ¬ M.IsText tx ∧ Below (wr.alloc (.cells #[.int .u8 (1 : Int), .string ⟨tx.toArray⟩, .int .u64 (bt : Int), .int .u16 (ca : Int), .int .u16 (cb : Int)] 78)).heap.size (wr.alloc (.cells #[.int .u8 (1 : Int), .string ⟨tx.toArray⟩, .int .u64 (bt : Int), .int .u16 (ca : Int), .int .u16 (cb : Int)] 78)) w4) ∨ (∃ vv, e = .returned (.tuple #[vv, .bool true]) ∧ M.IsText tx ∧ Below (wr.alloc (.cells #[.int .u8 (1 : Int), .string ⟨tx.toArray⟩, .int .u64 (bt : Int), .int .u16 (ca : Int), .int .u16 (cb : Int)] 78)).heap.size (wr.alloc (.cells #[.int .u8 (1 : Int), .string ⟨tx.toArray⟩, .int .u64 (bt : Int), .int .u16 (ca : Int), .int .u16 (cb : Int)] 78)) w4) := by
              rcases hun with ⟨L, vv, u1, u2, _, u4, _, u6⟩ | ⟨u1, u2, u3⟩
              · exact .inr ⟨vv, u4, ⟨L, u1, u2⟩, u6⟩
              · refine .inl ⟨u2, ?_, u3⟩
                rintro ⟨m, hm, hmt⟩
                rcases u1 with ⟨_, h, _⟩ | ⟨_, h⟩
                · cases h
                · exact h m hm hmt
            clear hun
            rcases hum with ⟨rfl, hxx, hb2⟩ | ⟨vv, rfl, hxx, hb2⟩
            · have hres := unhide HWR 6 k ((unhide HW).wrong hlt (unhide Ec) (by rw [unhide Hbl]; rfl) (.inl ⟨rfl, .inl ⟨hxx, rfl⟩⟩) (by omega)) (by omega)
              have hb4 := hbA.trans (hb2.mono hbA.size)
              clear HW Ec hxx hkb hb2 x0 x1 x2 x3 x4
              go_wp2
              refine bodyPost_ret (v := .tuple #[.string ⟨#[]⟩, .int .i64 6, .int .i64 (k : Int)]) (by simp [results, Try.results53, go_sem]) rfl ?_
              exact ⟨[], 6, k, hres, rfl, hb4⟩
            · have hb4 := hbA.trans (hb2.mono hbA.size)
              have hkb4 := hkb.kept (grown_of_below hb2 none) (by simp)
              have y0 := hkb4.cell 0
              have y1 := hkb4.cell 1
              simp at y0 y1
              clear hkb hb2 x0 x1 x2 x3 x4
              by_cases hbig : 65535 < tx.length
              · have hres := unhide HWR 12 k ((unhide HW).wrong hlt (unhide Ec) (by rw [unhide Hbl]; rfl) (.inl ⟨rfl, .inr ⟨hxx, .inl ⟨hbig, rfl⟩⟩⟩) (by omega)) (by omega)
                clear HW Ec hxx
                go_wp2
                refine bodyPost_ret (v := .tuple #[.string ⟨#[]⟩, .int .i64 12, .int .i64 (k : Int)]) (by simp [results, Try.results53, go_sem]) rfl ?_
                exact ⟨[], 12, k, hres, rfl, hb4⟩
              · have Hwr := hide (show Wrong ⟨1, tx, bt, ca, cb⟩ 0 from .inl ⟨rfl, .inr ⟨hxx, .inr ⟨by simpa using hbig, rfl⟩⟩⟩)
                have htl : tx.length ≤ 65535 := by omega
                have htli : (tx.length : Int) ≤ 65535 := by omega
                have hblA : (M.big tx.length 2).length ≤ 8 := by rw [M.big_len]; omega
                have hCB := fun (W : World) => Big_any tx.length 2 W (by omega) (by omega)
                obtain ⟨TA, eTA⟩ : ∃ TA, TA = M.big tx.length 2 := ⟨_, rfl⟩
                simp only [← eTA] at hCB hblA
                have ETA := hide eTA
                have HCB := hide hCB
                have hwr2 : IntKind.u64.wrap (tx.length : Int) = (tx.length : Int) := by simp [IntKind.wrap, IntKind.bits, IntKind.signed]; omega
                clear hCB hxx eTA hbig
                go_upto_region 23 with fail
                have HCB' := unhide HCB w4.drew
                have hgo : ∀ w3, Below w4.drew.heap.size w4.drew w3 → Below w.heap.size w w3 ∧ Kb w3 wr.heap.size ⟨1, tx, bt, ca, cb⟩ := fun w3 hb2 => ⟨hb4.drew.trans (hb2.mono hb4.size), Kb.kept (w := w4.drew) hkb4 (grown_of_below hb2 none) (by simp)⟩
                have Hgo := hide hgo
                have HCB2 := hide HCB'
                clear HCB' hgo HCB z0 hkb4 hb4 y0
                go_region_with (go_at_call 31; refine (unhide HCB2).mono ?_; rintro e w3 ⟨rfl, hb2⟩; obtain ⟨hb3, hkb3⟩ := unhide Hgo w3 hb2; have y1' := hkb3.cell 1; simp at y1'; clear hb2)
                all_goals
                  clear HCB2 Hgo y1
                  have y0' := hkb3.cell 0
                  simp at y0'
                  rw [cat_text]
                  obtain ⟨TT, eTT⟩ : ∃ TT, TT = TA ++ tx := ⟨_, rfl⟩
                  have hblT : TT.length ≤ 140000 := by rw [eTT, List.length_append]; omega
                  rw [← eTT]
                  have hcv := bytes_new w3 [1] #[.int .u8 1] 1 rfl rfl
                  have hc3 := cat3 P [1] TT
                  have hst := (unhide HW).step hlt (unhide Ec) (by rw [unhide Hbl]; rfl) (unhide Hwr) (show P ++ ([1] ++ TT) = P ++ M.cb ⟨1, tx, bt, ca, cb⟩ by rw [eTT, unhide ETA]; rfl) (hb3.alloc (by have := hb3.size; omega) (.cells #[.int .u8 1] 5))
                  have Hst := hide hst
                  have Hc3 := hide hc3
                  clear hst hc3 HW Ec Hwr eTT
                  go_wp2
                  go_roundw
                  case rel => exact ⟨k + 1, _, by omega, by go_num, by rw [unhide Hc3], unhide Hst⟩
                  case measure => simp [intOf]; omega
          · by_cases hbig : 4294967296 ≤ bt
            · have hres := unhide HWR 12 k ((unhide HW).wrong hlt (unhide Ec) (by rw [unhide Hbl]; rfl) (.inr (.inl ⟨by simp, .inl ⟨hbig, rfl⟩⟩)) (by omega)) (by omega)
              have hbi : (4294967296 : Int) ≤ (bt : Int) := by omega
              clear HW Ec hbig
              go_wp2_with fail
              refine (sizes_any 3 _ (by omega)).mono ?_
              rintro e w2 ⟨rfl, hww⟩
              subst w2
              rw [show szOf 3 = 4 from rfl]
              go_wp2
              refine bodyPost_ret (v := .tuple #[.string ⟨#[]⟩, .int .i64 12, .int .i64 (k : Int)]) (by simp [results, Try.results53, go_sem]) rfl ?_
              exact ⟨[], 12, k, hres, rfl, hbA⟩
            · have hbi : decide ((4294967296 : Int) ≤ (bt : Int)) = false := by simp; omega
              have hkb : Kb (wr.alloc (.cells #[.int .u8 (3 : Int), .string ⟨tx.toArray⟩, .int .u64 (bt : Int), .int .u16 (ca : Int), .int .u16 (cb : Int)] 78)) wr.heap.size ⟨3, tx, bt, ca, cb⟩ := heap_alloc_new wr _
              have Hwr := hide (show Wrong ⟨3, tx, bt, ca, cb⟩ 0 from .inr (.inl ⟨by simp, .inr ⟨by simpa using hbig, rfl⟩⟩))
              clear hbig
              go_wp2_with fail
              refine (sizes_any 3 _ (by omega)).mono ?_
              rintro e w2 ⟨rfl, hww⟩
              subst w2
              rw [show szOf 3 = 4 from rfl]
              go_wp2_with fail
              refine (Big_any bt 4 _ (by omega) (unhide F3)).mono ?_
              rintro e w3 ⟨rfl, hb2⟩
              have hb3 := hbA.trans (hb2.mono hbA.size)
              have hkb3 := hkb.kept (grown_of_below hb2 none) (by simp)
              have y0 := hkb3.cell 0
              have y4 := hkb3.cell 4
              simp at y0 y4
              clear hkb hb2 x0 x1 x2 x3 x4
              have hbl3 : (M.big bt 4).length ≤ 8 := by rw [M.big_len]; omega
              have hcv := bytes_new w3 [3] #[.int .u8 3] 1 rfl rfl
              have hc3 := cat3 P [3] (M.big bt 4)
              have hst := (unhide HW).step hlt (unhide Ec) (by rw [unhide Hbl]; rfl) (unhide Hwr) (show P ++ ([3] ++ (M.big bt 4)) = P ++ M.cb ⟨3, tx, bt, ca, cb⟩ from rfl) (hb3.alloc (by have := hb3.size; omega) (.cells #[.int .u8 3] 5))
              have Hst := hide hst
              have Hc3 := hide hc3
              clear hst hc3 HW Ec Hwr
              generalize M.big bt 4 = TL at *
              go_wp2
              go_roundw
              case rel => exact ⟨k + 1, _, by omega, by go_num, by rw [unhide Hc3], unhide Hst⟩
              case measure => simp [intOf]; omega
          · by_cases hbig : 4294967296 ≤ bt
            · have hres := unhide HWR 12 k ((unhide HW).wrong hlt (unhide Ec) (by rw [unhide Hbl]; rfl) (.inr (.inl ⟨by simp, .inl ⟨hbig, rfl⟩⟩)) (by omega)) (by omega)
              have hbi : (4294967296 : Int) ≤ (bt : Int) := by omega
              clear HW Ec hbig
              go_wp2_with fail
              refine (sizes_any 4 _ (by omega)).mono ?_
              rintro e w2 ⟨rfl, hww⟩
              subst w2
              rw [show szOf 4 = 4 from rfl]
              go_wp2
              refine bodyPost_ret (v := .tuple #[.string ⟨#[]⟩, .int .i64 12, .int .i64 (k : Int)]) (by simp [results, Try.results53, go_sem]) rfl ?_
              exact ⟨[], 12, k, hres, rfl, hbA⟩
            · have hbi : decide ((4294967296 : Int) ≤ (bt : Int)) = false := by simp; omega
              have hkb : Kb (wr.alloc (.cells #[.int .u8 (4 : Int), .string ⟨tx.toArray⟩, .int .u64 (bt : Int), .int .u16 (ca : Int), .int .u16 (cb : Int)] 78)) wr.heap.size ⟨4, tx, bt, ca, cb⟩ := heap_alloc_new wr _
              have Hwr := hide (show Wrong ⟨4, tx, bt, ca, cb⟩ 0 from .inr (.inl ⟨by simp, .inr ⟨by simpa using hbig, rfl⟩⟩))
              clear hbig
              go_wp2_with fail
              refine (sizes_any 4 _ (by omega)).mono ?_
              rintro e w2 ⟨rfl, hww⟩
              subst w2
              rw [show szOf 4 = 4 from rfl]
              go_wp2_with fail
              refine (Big_any bt 4 _ (by omega) (unhide F3)).mono ?_
              rintro e w3 ⟨rfl, hb2⟩
              have hb3 := hbA.trans (hb2.mono hbA.size)
              have hkb3 := hkb.kept (grown_of_below hb2 none) (by simp)
              have y0 := hkb3.cell 0
              have y4 := hkb3.cell 4
              simp at y0 y4
              clear hkb hb2 x0 x1 x2 x3 x4
              have hbl3 : (M.big bt 4).length ≤ 8 := by rw [M.big_len]; omega
              have hcv := bytes_new w3 [4] #[.int .u8 4] 1 rfl rfl
              have hc3 := cat3 P [4] (M.big bt 4)
              have hst := (unhide HW).step hlt (unhide Ec) (by rw [unhide Hbl]; rfl) (unhide Hwr) (show P ++ ([4] ++ (M.big bt 4)) = P ++ M.cb ⟨4, tx, bt, ca, cb⟩ from rfl) (hb3.alloc (by have := hb3.size; omega) (.cells #[.int .u8 4] 5))
              have Hst := hide hst
              have Hc3 := hide hc3
              clear hst hc3 HW Ec Hwr
              generalize M.big bt 4 = TL at *
              go_wp2
              go_roundw
              case rel => exact ⟨k + 1, _, by omega, by go_num, by rw [unhide Hc3], unhide Hst⟩
              case measure => simp [intOf]; omega
          · have hkb : Kb (wr.alloc (.cells #[.int .u8 (5 : Int), .string ⟨tx.toArray⟩, .int .u64 (bt : Int), .int .u16 (ca : Int), .int .u16 (cb : Int)] 78)) wr.heap.size ⟨5, tx, bt, ca, cb⟩ := heap_alloc_new wr _
            have Hwr := hide (show Wrong ⟨5, tx, bt, ca, cb⟩ 0 from .inr (.inr (.inl ⟨.inr ⟨by simp, by simp⟩, rfl⟩)))
            go_wp2_with fail
            refine (sizes_any 5 _ (by omega)).mono ?_
            rintro e w2 ⟨rfl, hww⟩
            subst w2
            rw [show szOf 5 = 8 from rfl]
            go_wp2_with fail
            refine (Big_any bt 8 _ (by omega) (unhide F3)).mono ?_
            rintro e w3 ⟨rfl, hb2⟩
            have hb3 := hbA.trans (hb2.mono hbA.size)
            have hkb3 := hkb.kept (grown_of_below hb2 none) (by simp)
            have y0 := hkb3.cell 0
            have y4 := hkb3.cell 4
            simp at y0 y4
            clear hkb hb2 x0 x1 x2 x3 x4
            have hbl3 : (M.big bt 8).length ≤ 8 := by rw [M.big_len]; omega
            have hcv := bytes_new w3 [5] #[.int .u8 5] 1 rfl rfl
            have hc3 := cat3 P [5] (M.big bt 8)
            have hst := (unhide HW).step hlt (unhide Ec) (by rw [unhide Hbl]; rfl) (unhide Hwr) (show P ++ ([5] ++ (M.big bt 8)) = P ++ M.cb ⟨5, tx, bt, ca, cb⟩ from rfl) (hb3.alloc (by have := hb3.size; omega) (.cells #[.int .u8 5] 5))
            have Hst := hide hst
            have Hc3 := hide hc3
            clear hst hc3 HW Ec Hwr
            generalize M.big bt 8 = TL at *
            go_wp2
            go_roundw
            case rel => exact ⟨k + 1, _, by omega, by go_num, by rw [unhide Hc3], unhide Hst⟩
            case measure => simp [intOf]; omega
          · have hkb : Kb (wr.alloc (.cells #[.int .u8 (6 : Int), .string ⟨tx.toArray⟩, .int .u64 (bt : Int), .int .u16 (ca : Int), .int .u16 (cb : Int)] 78)) wr.heap.size ⟨6, tx, bt, ca, cb⟩ := heap_alloc_new wr _
            have Hwr := hide (show Wrong ⟨6, tx, bt, ca, cb⟩ 0 from .inr (.inr (.inl ⟨.inr ⟨by simp, by simp⟩, rfl⟩)))
            go_wp2_with fail
            refine (sizes_any 6 _ (by omega)).mono ?_
            rintro e w2 ⟨rfl, hww⟩
            subst w2
            rw [show szOf 6 = 8 from rfl]
            go_wp2_with fail
            refine (Big_any bt 8 _ (by omega) (unhide F3)).mono ?_
            rintro e w3 ⟨rfl, hb2⟩
            have hb3 := hbA.trans (hb2.mono hbA.size)
            have hkb3 := hkb.kept (grown_of_below hb2 none) (by simp)
            have y0 := hkb3.cell 0
            have y4 := hkb3.cell 4
            simp at y0 y4
            clear hkb hb2 x0 x1 x2 x3 x4
            have hbl3 : (M.big bt 8).length ≤ 8 := by rw [M.big_len]; omega
            have hcv := bytes_new w3 [6] #[.int .u8 6] 1 rfl rfl
            have hc3 := cat3 P [6] (M.big bt 8)
            have hst := (unhide HW).step hlt (unhide Ec) (by rw [unhide Hbl]; rfl) (unhide Hwr) (show P ++ ([6] ++ (M.big bt 8)) = P ++ M.cb ⟨6, tx, bt, ca, cb⟩ from rfl) (hb3.alloc (by have := hb3.size; omega) (.cells #[.int .u8 6] 5))
            have Hst := hide hst
            have Hc3 := hide hc3
            clear hst hc3 HW Ec Hwr
            generalize M.big bt 8 = TL at *
            go_wp2
            go_roundw
            case rel => exact ⟨k + 1, _, by omega, by go_num, by rw [unhide Hc3], unhide Hst⟩
            case measure => simp [intOf]; omega
          · have hkb : Kb (wr.alloc (.cells #[.int .u8 (7 : Int), .string ⟨tx.toArray⟩, .int .u64 (bt : Int), .int .u16 (ca : Int), .int .u16 (cb : Int)] 78)) wr.heap.size ⟨7, tx, bt, ca, cb⟩ := heap_alloc_new wr _
            have Hwr := hide (show Wrong ⟨7, tx, bt, ca, cb⟩ 0 from .inr (.inr (.inl ⟨.inr ⟨by simp, by simp⟩, rfl⟩)))
            go_wp2_with fail
            refine (sizes_any 7 _ (by omega)).mono ?_
            rintro e w2 ⟨rfl, hww⟩
            subst w2
            rw [show szOf 7 = 2 from rfl]
            go_wp2_with fail
            refine (Big_any ca 2 _ (by omega) (by omega)).mono ?_
            rintro e w3 ⟨rfl, hb2⟩
            have hb3 := hbA.trans (hb2.mono hbA.size)
            have hkb3 := hkb.kept (grown_of_below hb2 none) (by simp)
            have y0 := hkb3.cell 0
            have y4 := hkb3.cell 4
            simp at y0 y4
            clear hkb hb2 x0 x1 x2 x3 x4
            have hbl3 : (M.big ca 2).length ≤ 8 := by rw [M.big_len]; omega
            have hcv := bytes_new w3 [7] #[.int .u8 7] 1 rfl rfl
            have hc3 := cat3 P [7] (M.big ca 2)
            have hst := (unhide HW).step hlt (unhide Ec) (by rw [unhide Hbl]; rfl) (unhide Hwr) (show P ++ ([7] ++ (M.big ca 2)) = P ++ M.cb ⟨7, tx, bt, ca, cb⟩ from rfl) (hb3.alloc (by have := hb3.size; omega) (.cells #[.int .u8 7] 5))
            have Hst := hide hst
            have Hc3 := hide hc3
            clear hst hc3 HW Ec Hwr
            generalize M.big ca 2 = TL at *
            go_wp2
            go_roundw
            case rel => exact ⟨k + 1, _, by omega, by go_num, by rw [unhide Hc3], unhide Hst⟩
            case measure => simp [intOf]; omega
          · have hkb : Kb (wr.alloc (.cells #[.int .u8 (8 : Int), .string ⟨tx.toArray⟩, .int .u64 (bt : Int), .int .u16 (ca : Int), .int .u16 (cb : Int)] 78)) wr.heap.size ⟨8, tx, bt, ca, cb⟩ := heap_alloc_new wr _
            have Hwr := hide (show Wrong ⟨8, tx, bt, ca, cb⟩ 0 from .inr (.inr (.inl ⟨.inr ⟨by simp, by simp⟩, rfl⟩)))
            go_wp2_with fail
            refine (sizes_any 8 _ (by omega)).mono ?_
            rintro e w2 ⟨rfl, hww⟩
            subst w2
            rw [show szOf 8 = 2 from rfl]
            go_wp2_with fail
            refine (Big_any ca 2 _ (by omega) (by omega)).mono ?_
            rintro e w3 ⟨rfl, hb2⟩
            have hb3 := hbA.trans (hb2.mono hbA.size)
            have hkb3 := hkb.kept (grown_of_below hb2 none) (by simp)
            have y0 := hkb3.cell 0
            have y4 := hkb3.cell 4
            simp at y0 y4
            clear hkb hb2 x0 x1 x2 x3 x4
            have hbl3 : (M.big ca 2).length ≤ 8 := by rw [M.big_len]; omega
            have hcv := bytes_new w3 [8] #[.int .u8 8] 1 rfl rfl
            have hc3 := cat3 P [8] (M.big ca 2)
            have hst := (unhide HW).step hlt (unhide Ec) (by rw [unhide Hbl]; rfl) (unhide Hwr) (show P ++ ([8] ++ (M.big ca 2)) = P ++ M.cb ⟨8, tx, bt, ca, cb⟩ from rfl) (hb3.alloc (by have := hb3.size; omega) (.cells #[.int .u8 8] 5))
            have Hst := hide hst
            have Hc3 := hide hc3
            clear hst hc3 HW Ec Hwr
            generalize M.big ca 2 = TL at *
            go_wp2
            go_roundw
            case rel => exact ⟨k + 1, _, by omega, by go_num, by rw [unhide Hc3], unhide Hst⟩
            case measure => simp [intOf]; omega
          · have hkb : Kb (wr.alloc (.cells #[.int .u8 (9 : Int), .string ⟨tx.toArray⟩, .int .u64 (bt : Int), .int .u16 (ca : Int), .int .u16 (cb : Int)] 78)) wr.heap.size ⟨9, tx, bt, ca, cb⟩ := heap_alloc_new wr _
            have Hwr := hide (show Wrong ⟨9, tx, bt, ca, cb⟩ 0 from .inr (.inr (.inl ⟨.inr ⟨by simp, by simp⟩, rfl⟩)))
            go_wp2_with fail
            refine (sizes_any 9 _ (by omega)).mono ?_
            rintro e w2 ⟨rfl, hww⟩
            subst w2
            rw [show szOf 9 = 4 from rfl]
            go_wp2_with fail
            refine (Big_any ca 2 _ (by omega) (by omega)).mono ?_
            rintro e w4 ⟨rfl, hb2⟩
            have hb4 := hbA.trans (hb2.mono hbA.size)
            have hkb4 := hkb.kept (grown_of_below hb2 none) (by simp)
            have y0 := hkb4.cell 0
            have y4 := hkb4.cell 4
            simp at y0 y4
            clear hkb hb2 x0 x1 x2 x3 x4
            have hbl4 : (M.big ca 2).length ≤ 8 := by rw [M.big_len]; omega
            obtain ⟨TA, eTA⟩ : ∃ TA, TA = M.big ca 2 := ⟨_, rfl⟩
            rw [← eTA] at hbl4 ⊢
            have ETA := hide eTA
            clear eTA
            go_wp2_with fail
            refine (Big_any cb 2 _ (by omega) (by omega)).mono ?_
            rintro e w3 ⟨rfl, hb2⟩
            have hb3 := hb4.trans (hb2.mono hb4.size)
            have hkb3 := hkb4.kept (grown_of_below hb2 none) (by simp)
            clear y0 y4
            have y0 := hkb3.cell 0
            simp at y0
            clear hb2 hb4 hkb4
            have hbl3 : (M.big cb 2).length ≤ 8 := by rw [M.big_len]; omega
            obtain ⟨TB, eTB⟩ : ∃ TB, TB = M.big cb 2 := ⟨_, rfl⟩
            rw [← eTB] at hbl3 ⊢
            have ETB := hide eTB
            clear eTB
            go_upto_region 32 with fail
            rw [cat_text TA TB]
            obtain ⟨TT, eTT⟩ : ∃ TT, TT = TA ++ TB := ⟨_, rfl⟩
            have hblT : TT.length ≤ 16 := by rw [eTT, List.length_append]; omega
            rw [← eTT]
            have hcv := bytes_new w3 [9] #[.int .u8 9] 1 rfl rfl
            have hc3 := cat3 P [9] TT
            have hst := (unhide HW).step hlt (unhide Ec) (by rw [unhide Hbl]; rfl) (unhide Hwr) (show P ++ ([9] ++ TT) = P ++ M.cb ⟨9, tx, bt, ca, cb⟩ by rw [eTT, unhide ETA, unhide ETB]; rfl) (hb3.alloc (by have := hb3.size; omega) (.cells #[.int .u8 9] 5))
            have Hst := hide hst
            have Hc3 := hide hc3
            clear hst hc3 HW Ec Hwr ETA ETB eTT hbl4 hbl3
            go_wp2
            go_roundw
            case rel => exact ⟨k + 1, _, by omega, by go_num, by rw [unhide Hc3], unhide Hst⟩
            case measure => simp [intOf]; omega
          · have hkb : Kb (wr.alloc (.cells #[.int .u8 (10 : Int), .string ⟨tx.toArray⟩, .int .u64 (bt : Int), .int .u16 (ca : Int), .int .u16 (cb : Int)] 78)) wr.heap.size ⟨10, tx, bt, ca, cb⟩ := heap_alloc_new wr _
            have Hwr := hide (show Wrong ⟨10, tx, bt, ca, cb⟩ 0 from .inr (.inr (.inl ⟨.inr ⟨by simp, by simp⟩, rfl⟩)))
            go_wp2_with fail
            refine (sizes_any 10 _ (by omega)).mono ?_
            rintro e w2 ⟨rfl, hww⟩
            subst w2
            rw [show szOf 10 = 4 from rfl]
            go_wp2_with fail
            refine (Big_any ca 2 _ (by omega) (by omega)).mono ?_
            rintro e w4 ⟨rfl, hb2⟩
            have hb4 := hbA.trans (hb2.mono hbA.size)
            have hkb4 := hkb.kept (grown_of_below hb2 none) (by simp)
            have y0 := hkb4.cell 0
            have y4 := hkb4.cell 4
            simp at y0 y4
            clear hkb hb2 x0 x1 x2 x3 x4
            have hbl4 : (M.big ca 2).length ≤ 8 := by rw [M.big_len]; omega
            obtain ⟨TA, eTA⟩ : ∃ TA, TA = M.big ca 2 := ⟨_, rfl⟩
            rw [← eTA] at hbl4 ⊢
            have ETA := hide eTA
            clear eTA
            go_wp2_with fail
            refine (Big_any cb 2 _ (by omega) (by omega)).mono ?_
            rintro e w3 ⟨rfl, hb2⟩
            have hb3 := hb4.trans (hb2.mono hb4.size)
            have hkb3 := hkb4.kept (grown_of_below hb2 none) (by simp)
            clear y0 y4
            have y0 := hkb3.cell 0
            simp at y0
            clear hb2 hb4 hkb4
            have hbl3 : (M.big cb 2).length ≤ 8 := by rw [M.big_len]; omega
            obtain ⟨TB, eTB⟩ : ∃ TB, TB = M.big cb 2 := ⟨_, rfl⟩
            rw [← eTB] at hbl3 ⊢
            have ETB := hide eTB
            clear eTB
            go_upto_region 32 with fail
            rw [cat_text TA TB]
            obtain ⟨TT, eTT⟩ : ∃ TT, TT = TA ++ TB := ⟨_, rfl⟩
            have hblT : TT.length ≤ 16 := by rw [eTT, List.length_append]; omega
            rw [← eTT]
            have hcv := bytes_new w3 [10] #[.int .u8 10] 1 rfl rfl
            have hc3 := cat3 P [10] TT
            have hst := (unhide HW).step hlt (unhide Ec) (by rw [unhide Hbl]; rfl) (unhide Hwr) (show P ++ ([10] ++ TT) = P ++ M.cb ⟨10, tx, bt, ca, cb⟩ by rw [eTT, unhide ETA, unhide ETB]; rfl) (hb3.alloc (by have := hb3.size; omega) (.cells #[.int .u8 10] 5))
            have Hst := hide hst
            have Hc3 := hide hc3
            clear hst hc3 HW Ec Hwr ETA ETB eTT hbl4 hbl3
            go_wp2
            go_roundw
            case rel => exact ⟨k + 1, _, by omega, by go_num, by rw [unhide Hc3], unhide Hst⟩
            case measure => simp [intOf]; omega
          · have hkb : Kb (wr.alloc (.cells #[.int .u8 (11 : Int), .string ⟨tx.toArray⟩, .int .u64 (bt : Int), .int .u16 (ca : Int), .int .u16 (cb : Int)] 78)) wr.heap.size ⟨11, tx, bt, ca, cb⟩ := heap_alloc_new wr _
            have Hwr := hide (show Wrong ⟨11, tx, bt, ca, cb⟩ 0 from .inr (.inr (.inl ⟨.inr ⟨by simp, by simp⟩, rfl⟩)))
            go_wp2_with fail
            refine (sizes_any 11 _ (by omega)).mono ?_
            rintro e w2 ⟨rfl, hww⟩
            subst w2
            rw [show szOf 11 = 4 from rfl]
            go_wp2_with fail
            refine (Big_any ca 2 _ (by omega) (by omega)).mono ?_
            rintro e w4 ⟨rfl, hb2⟩
            have hb4 := hbA.trans (hb2.mono hbA.size)
            have hkb4 := hkb.kept (grown_of_below hb2 none) (by simp)
            have y0 := hkb4.cell 0
            have y4 := hkb4.cell 4
            simp at y0 y4
            clear hkb hb2 x0 x1 x2 x3 x4
            have hbl4 : (M.big ca 2).length ≤ 8 := by rw [M.big_len]; omega
            obtain ⟨TA, eTA⟩ : ∃ TA, TA = M.big ca 2 := ⟨_, rfl⟩
            rw [← eTA] at hbl4 ⊢
            have ETA := hide eTA
            clear eTA
            go_wp2_with fail
            refine (Big_any cb 2 _ (by omega) (by omega)).mono ?_
            rintro e w3 ⟨rfl, hb2⟩
            have hb3 := hb4.trans (hb2.mono hb4.size)
            have hkb3 := hkb4.kept (grown_of_below hb2 none) (by simp)
            clear y0 y4
            have y0 := hkb3.cell 0
            simp at y0
            clear hb2 hb4 hkb4
            have hbl3 : (M.big cb 2).length ≤ 8 := by rw [M.big_len]; omega
            obtain ⟨TB, eTB⟩ : ∃ TB, TB = M.big cb 2 := ⟨_, rfl⟩
            rw [← eTB] at hbl3 ⊢
            have ETB := hide eTB
            clear eTB
            go_upto_region 32 with fail
            rw [cat_text TA TB]
            obtain ⟨TT, eTT⟩ : ∃ TT, TT = TA ++ TB := ⟨_, rfl⟩
            have hblT : TT.length ≤ 16 := by rw [eTT, List.length_append]; omega
            rw [← eTT]
            have hcv := bytes_new w3 [11] #[.int .u8 11] 1 rfl rfl
            have hc3 := cat3 P [11] TT
            have hst := (unhide HW).step hlt (unhide Ec) (by rw [unhide Hbl]; rfl) (unhide Hwr) (show P ++ ([11] ++ TT) = P ++ M.cb ⟨11, tx, bt, ca, cb⟩ by rw [eTT, unhide ETA, unhide ETB]; rfl) (hb3.alloc (by have := hb3.size; omega) (.cells #[.int .u8 11] 5))
            have Hst := hide hst
            have Hc3 := hide hc3
            clear hst hc3 HW Ec Hwr ETA ETB eTT hbl4 hbl3
            go_wp2
            go_roundw
            case rel => exact ⟨k + 1, _, by omega, by go_num, by rw [unhide Hc3], unhide Hst⟩
            case measure => simp [intOf]; omega
          · have hkb : Kb (wr.alloc (.cells #[.int .u8 (12 : Int), .string ⟨tx.toArray⟩, .int .u64 (bt : Int), .int .u16 (ca : Int), .int .u16 (cb : Int)] 78)) wr.heap.size ⟨12, tx, bt, ca, cb⟩ := heap_alloc_new wr _
            have Hwr := hide (show Wrong ⟨12, tx, bt, ca, cb⟩ 0 from .inr (.inr (.inl ⟨.inr ⟨by simp, by simp⟩, rfl⟩)))
            go_wp2_with fail
            refine (sizes_any 12 _ (by omega)).mono ?_
            rintro e w2 ⟨rfl, hww⟩
            subst w2
            rw [show szOf 12 = 4 from rfl]
            go_wp2_with fail
            refine (Big_any ca 2 _ (by omega) (by omega)).mono ?_
            rintro e w4 ⟨rfl, hb2⟩
            have hb4 := hbA.trans (hb2.mono hbA.size)
            have hkb4 := hkb.kept (grown_of_below hb2 none) (by simp)
            have y0 := hkb4.cell 0
            have y4 := hkb4.cell 4
            simp at y0 y4
            clear hkb hb2 x0 x1 x2 x3 x4
            have hbl4 : (M.big ca 2).length ≤ 8 := by rw [M.big_len]; omega
            obtain ⟨TA, eTA⟩ : ∃ TA, TA = M.big ca 2 := ⟨_, rfl⟩
            rw [← eTA] at hbl4 ⊢
            have ETA := hide eTA
            clear eTA
            go_wp2_with fail
            refine (Big_any cb 2 _ (by omega) (by omega)).mono ?_
            rintro e w3 ⟨rfl, hb2⟩
            have hb3 := hb4.trans (hb2.mono hb4.size)
            have hkb3 := hkb4.kept (grown_of_below hb2 none) (by simp)
            clear y0 y4
            have y0 := hkb3.cell 0
            simp at y0
            clear hb2 hb4 hkb4
            have hbl3 : (M.big cb 2).length ≤ 8 := by rw [M.big_len]; omega
            obtain ⟨TB, eTB⟩ : ∃ TB, TB = M.big cb 2 := ⟨_, rfl⟩
            rw [← eTB] at hbl3 ⊢
            have ETB := hide eTB
            clear eTB
            go_upto_region 32 with fail
            rw [cat_text TA TB]
            obtain ⟨TT, eTT⟩ : ∃ TT, TT = TA ++ TB := ⟨_, rfl⟩
            have hblT : TT.length ≤ 16 := by rw [eTT, List.length_append]; omega
            rw [← eTT]
            have hcv := bytes_new w3 [12] #[.int .u8 12] 1 rfl rfl
            have hc3 := cat3 P [12] TT
            have hst := (unhide HW).step hlt (unhide Ec) (by rw [unhide Hbl]; rfl) (unhide Hwr) (show P ++ ([12] ++ TT) = P ++ M.cb ⟨12, tx, bt, ca, cb⟩ by rw [eTT, unhide ETA, unhide ETB]; rfl) (hb3.alloc (by have := hb3.size; omega) (.cells #[.int .u8 12] 5))
            have Hst := hide hst
            have Hc3 := hide hc3
            clear hst hc3 HW Ec Hwr ETA ETB eTT hbl4 hbl3
            go_wp2
            go_roundw
            case rel => exact ⟨k + 1, _, by omega, by go_num, by rw [unhide Hc3], unhide Hst⟩
            case measure => simp [intOf]; omega
          · have hz : szOf t < 0 := by unfold szOf; rw [if_neg (by omega), if_neg (by omega), if_neg (by omega)]; omega
            have hres : WriteRes l ([], 5, k) := by
              refine unhide HWR 5 k ?_ (by omega)
              by_cases h0 : t = 0
              · exact (unhide HW).bad hlt (unhide Ec) (by rw [unhide Hbl]; simp [h0])
              · exact (unhide HW).wrong hlt (unhide Ec) (by rw [unhide Hbl]; simp [h0]) (.inr (.inr (.inr ⟨by simp only; omega, rfl⟩))) (by omega)
            obtain ⟨z, ez⟩ : ∃ z, z = szOf t := ⟨_, rfl⟩
            rw [← ez] at hz
            have Ez := hide ez
            clear HW Ec htb ez
            by_cases h0 : t = 0
            · subst h0
              go_wp2_with fail
              refine (sizes_any 0 _ (by omega)).mono ?_
              rintro e w2 ⟨rfl, hww⟩
              subst w2
              rw [show szOf 0 = -1 from rfl]
              clear hz Ez
              go_wp2
              refine bodyPost_ret (v := .tuple #[.string ⟨#[]⟩, .int .i64 5, .int .i64 (k : Int)]) (by simp [results, Try.results53, go_sem]) rfl ?_
              exact ⟨[], 5, k, hres, rfl, hbA⟩
            · have hzb : ((t : Int) == 0) = false := by rw [beq_eq_false_iff_ne]; omega
              clear h0
              go_wp2_with fail
              refine (sizes_any t _ f1).mono ?_
              rintro e w2 ⟨rfl, hww⟩
              subst w2
              rw [← unhide Ez]
              clear Ez
              go_wp2
              refine bodyPost_ret (v := .tuple #[.string ⟨#[]⟩, .int .i64 5, .int .i64 (k : Int)]) (by simp [results, Try.results53, go_sem]) rfl ?_
              exact ⟨[], 5, k, hres, rfl, hbA⟩
    · have hkl : k = l.length := by omega
      subst hkl
      obtain ⟨z0, -, -, -, -⟩ := hin.at hbe (l.length - 1) (by omega)
      obtain ⟨pt, ept⟩ : ∃ pt, pt = (l.getD (l.length - 1) K.zero).tag := ⟨_, rfl⟩
      have hblE : blOf l l.length = twoB pt := by
        obtain ⟨j, hj⟩ : ∃ j, l.length = j + 1 := ⟨l.length - 1, by omega⟩
        rw [ept, hj]; rfl
      rw [← ept] at z0
      clear ept
      have hdn : l.drop l.length = [] := List.drop_length
      have hPe : P = M.big l.length 2 ++ l.flatMap M.cb := by have := (unhide HW).1; rwa [List.take_length] at this
      have hSS := (unhide HW).2.1
      rw [hdn, hblE] at hSS
      have HSS := hide hSS
      have HPe := hide hPe
      clear hSS hPe hdn hblE HW
      by_cases hp5 : pt = 5 ∨ pt = 6
      · have hres := unhide HWR 5 l.length (unhide HSS _ (.inl ⟨decide_eq_true hp5, rfl⟩)) (by omega)
        rcases hp5 with rfl | rfl
        all_goals
          go_wp2
          refine bodyPost_ret (v := .tuple #[.string ⟨#[]⟩, .int .i64 5, .int .i64 (l.length : Int)]) (by simp [results, Try.results53, go_sem]) rfl ?_
          exact ⟨[], 5, l.length, hres, rfl, hbe⟩
      · have hres := unhide HWO (unhide HSS _ (.inr ⟨decide_eq_false hp5, rfl⟩))
        have hq5 : ((pt : Int) == 5) = false := by rw [beq_eq_false_iff_ne]; omega
        have hq6 : ((pt : Int) == 6) = false := by rw [beq_eq_false_iff_ne]; omega
        rw [← unhide HPe] at hres
        clear hp5 HPe HSS
        go_wp2
        refine bodyPost_ret (v := .tuple #[.string ⟨P.toArray⟩, .int .i64 0, .int .i64 0]) (by simp [results, Try.results53, go_sem]) rfl ?_
        exact ⟨P, 0, 0, hres, rfl, hbe⟩
end Go.Proofs.Ytgihfcjddkpkaaa.Po
