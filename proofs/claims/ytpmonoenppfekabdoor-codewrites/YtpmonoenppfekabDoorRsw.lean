/-
  A switch as bytes, by the reference: choice.
-/
import Derived.Test.YtpmonoenppfekabDoorTail
namespace Go.Proofs.YtpmonoenppfekabDoor
open Go.RowKit
theorem Ot.block {w : World} {B : Nat} {v : Value} {l : List UInt8} (h : Ot w B v l) : ∀ k, v.ownBlock = some k → B ≤ k := by
  intro k hk
  obtain ⟨g, cap, cur, fz, rfl, e2, _⟩ := h
  simp [Value.ownBlock] at hk
  subst hk; exact e2
theorem kwrap (x : Int) : IntKind.i64.wrap x = wrap64 x := by rw [IntKind.wrap_i64]; unfold wrap64; rfl
def M.swOk (g : G) (bk : Bool) : Bool := (if bk then M.hasKeys g else M.hasTable g) && M.hasTgts g M.fw
def M.okT (g : G) (j : Nat) : Bool := (List.range j).all fun i => M.holds M.fw (wrap64 (g.tgts.getD (i + 1) 0 - g.at_))
def M.okX (g : G) (bk : Bool) (j : Nat) : Bool := (List.range j).all fun i => (if bk then M.keyOk g.keys i else true) && M.holds M.fw (wrap64 (g.tgts.getD (i + 1) 0 - g.at_))
def M.rest (g : G) (bk : Bool) (j : Nat) : List UInt8 := (List.range j).flatMap fun k => (if bk then M.nb M.fw (g.keys.getD k 0) else []) ++ M.nb M.fw (g.tgts.getD (k + 1) 0 - g.at_)
theorem okX_succ (g : G) (bk : Bool) (j : Nat) : M.okX g bk (j + 1) = (M.okX g bk j && ((if bk then M.keyOk g.keys j else true) && M.holds M.fw (wrap64 (g.tgts.getD (j + 1) 0 - g.at_)))) := by
  unfold M.okX; rw [List.range_succ, List.all_append]; simp
theorem rest_succ (g : G) (bk : Bool) (j : Nat) : M.rest g bk (j + 1) = M.rest g bk j ++ ((if bk then M.nb M.fw (g.keys.getD j 0) else []) ++ M.nb M.fw (g.tgts.getD (j + 1) 0 - g.at_)) := by
  unfold M.rest; rw [List.range_succ, List.flatMap_append]; simp
theorem rest_len (g : G) (bk : Bool) (j : Nat) : (M.rest g bk j).length ≤ j * 8 := by
  have := flat_len (List.range j) (fun k => (if bk then M.nb M.fw (g.keys.getD k 0) else []) ++ M.nb M.fw (g.tgts.getD (k + 1) 0 - g.at_)) 8 (fun x => by
    rw [List.length_append, M.nb_len]
    cases bk
    · simp [M.fw]
    · simp [M.nb_len, M.fw])
  rwa [List.length_range] at this
theorem tgts_ok {g : G} (h : 1 ≤ g.tgts.length) : M.hasTgts g M.fw = (M.holds M.fw (wrap64 (g.tgts.getD 0 0 - g.at_)) && (List.range (g.tgts.length - 1)).all fun i => M.holds M.fw (wrap64 (g.tgts.getD (i + 1) 0 - g.at_))) := by
  unfold M.hasTgts
  obtain ⟨at_, op, wide, a, b, low, keys, tgts⟩ := g
  simp only at *
  cases tgts with
  | nil => simp at h
  | cons x xs =>
    simp only [List.all_cons, List.getD_cons_zero, List.length_cons, Nat.add_sub_cancel, List.getD_cons_succ]
    congr 1
    rw [Bool.eq_iff_iff, List.all_eq_true, List.all_eq_true]
    constructor
    · intro h i hi
      rw [List.mem_range] at hi
      exact h _ (by rw [List.getD_eq_getElem?_getD, List.getElem?_eq_getElem hi]; exact List.getElem_mem hi)
    · intro h x hx
      obtain ⟨i, hi, rfl⟩ := List.getElem_of_mem hx
      have := h i (List.mem_range.2 hi)
      rwa [List.getD_eq_getElem?_getD, List.getElem?_eq_getElem hi] at this
/-- Is all right, as the reference reckons it, and as we do. -/
theorem sw_ok_keys {g : G} (h : g.tgts.length = g.keys.length + 1) : (M.holds M.fw (wrap64 (g.tgts.getD 0 0 - g.at_)) && M.okX g true (g.tgts.length - 1)) = M.swOk g true := by
  unfold M.swOk
  rw [tgts_ok (by omega)]
  unfold M.hasKeys M.okX
  rw [decide_eq_true h, Bool.true_and, show g.tgts.length - 1 = g.keys.length by omega]
  simp only [if_true]
  rw [Bool.eq_iff_iff]
  simp only [Bool.and_eq_true, List.all_eq_true]
  constructor
  · rintro ⟨h1, h2⟩; exact ⟨fun i hi => (h2 i hi).1, h1, fun i hi => (h2 i hi).2⟩
  · rintro ⟨h1, h2, h3⟩; exact ⟨h2, fun i hi => ⟨h1 i hi, h3 i hi⟩⟩
theorem sw_ok_table {g : G} (h : 2 ≤ g.tgts.length) : ((M.holds M.fw (wrap64 (g.tgts.getD 0 0 - g.at_)) && (M.holds M.fw g.low && M.holds M.fw (g.low + ((g.tgts.length : Int) - 2)))) && M.okX g false (g.tgts.length - 1)) = M.swOk g false := by
  unfold M.swOk
  rw [tgts_ok (by omega)]
  unfold M.hasTable M.okX
  rw [decide_eq_true h]
  simp only [Bool.true_and, Bool.false_eq_true, if_false]
  rw [Bool.eq_iff_iff]
  simp only [Bool.and_eq_true, List.all_eq_true]
  constructor
  · rintro ⟨⟨h1, h2, h3⟩, h4⟩; exact ⟨⟨h2, h3⟩, h1, h4⟩
  · rintro ⟨⟨h2, h3⟩, h1, h4⟩; exact ⟨⟨h1, h2, h3⟩, h4⟩
theorem sw_bytes (g : G) (n : Nat) (bk : Bool) : UInt8.ofNat g.op :: M.swB g n bk = (UInt8.ofNat g.op :: List.replicate (M.padN n) 0) ++ M.nb M.fw (g.tgts.getD 0 0 - g.at_) ++ (if bk then M.nb M.fw ((g.tgts.length : Int) - 1) else M.nb M.fw g.low ++ M.nb M.fw (g.low + ((g.tgts.length : Int) - 1) - 1)) ++ M.rest g bk (g.tgts.length - 1) := by
  unfold M.swB M.rest M.restK M.restT
  cases bk <;> simp [List.append_assoc]
set_option maxRecDepth 100000 in
set_option maxHeartbeats 2000000 in
theorem refChoice_any (c : V) (n : Nat) (bk : Bool) (w : World) (h : c.Ok w) (hat : c.g.at_ = (n : Int)) (hn : n ≤ 70000) (ht : c.g.tgts.length ≤ 100000) :
    Calls Tryd.prog 64 #[c.val, .bool bk] w fun e w' => (∃ t : List UInt8, e = .returned (.tuple #[.string ⟨t.toArray⟩, .bool (M.swOk c.g bk)]) ∧ (M.swOk c.g bk = true → t = UInt8.ofNat c.g.op :: M.swB c.g (n + 1) bk)) ∧ Below w.heap.size w w' := by
  obtain ⟨i0, hi, hz0, hz1, hz2⟩ := info_parts Tryd.info5
  have hop := h.op
  have hkl := h.kl
  obtain ⟨at2, cap2, et, htc⟩ := h.t
  obtain ⟨ak2, capk, ek, hkc⟩ := h.k
  obtain ⟨⟨at_, op, wide, a, b, low, keys, tgts⟩, kv, tv⟩ := c
  simp only at et ek ht htc hkc hat hop hkl
  subst et
  subst ek
  subst hat
  have HT := hide htc
  have HK := hide hkc
  obtain ⟨r, hr⟩ : ∃ r, r = M.swOk ⟨(n : Int), op, wide, a, b, low, keys, tgts⟩ bk := ⟨_, rfl⟩
  obtain ⟨Tx, hTx⟩ : ∃ Tx, Tx = UInt8.ofNat op :: M.swB ⟨(n : Int), op, wide, a, b, low, keys, tgts⟩ (n + 1) bk := ⟨_, rfl⟩
  simp only [V.val, V.arr]
  rw [← hr, ← hTx]
  have Hr := hide hr
  have HTx := hide hTx
  obtain ⟨W1, hW1⟩ : ∃ W1, W1 = w.alloc (.cells #[.int .i64 (n : Int), .int .u8 (op : Int), .bool wide, .int .i64 a, .int .i64 b, .int .i64 low, .slice ak2 keys.length capk, .slice at2 tgts.length cap2] 35) := ⟨_, rfl⟩
  have v1 : Vb W1 w.heap.size ⟨⟨(n : Int), op, wide, a, b, low, keys, tgts⟩, .slice ak2 keys.length capk, .slice at2 tgts.length cap2⟩ := by rw [hW1]; exact heap_alloc_new w _
  have b1 : Below w.heap.size w W1 := by rw [hW1]; exact (Below.refl _ _).alloc (Nat.le_refl _) _
  obtain ⟨p, ep⟩ : ∃ p, p = w.heap.size := ⟨_, rfl⟩
  have v1p := v1
  rw [← ep] at v1p
  have hcv := bytes_new W1 [UInt8.ofNat op] #[.int .u8 (op : Int)] 1 (by simp only [List.map_cons, List.map_nil]; rw [u8_nat hop]) rfl
  have hb1' : Below W1.heap.size W1 (W1.alloc (.cells #[.int .u8 (op : Int)] 5)) := (Below.refl _ _).alloc (Nat.le_refl _) _
  have y1 := v1p.cell 1
  simp [V.arr] at y1
  clear h htc hkc hr hTx v1
  go_enter Tryd.func64, Tryd.ntmps64
  go_upto_region 1 with fail
  rw [← hW1, ← ep]
  clear hW1 ep
  go_wp2_with fail
  have b2 : Below w.heap.size w (W1.alloc (.cells #[.int .u8 (op : Int)] 5)) := b1.trans (hb1'.mono b1.size)
  have v2 := v1p.below hb1'
  generalize W1.alloc (.cells #[.int .u8 (op : Int)] 5) = W2 at *
  clear hcv y1 v1p hb1' b1
  have hp3 : M.padN (n + 1) ≤ 3 := by unfold M.padN; omega
  go_loopg [6] (M.padN (n + 1)) (fun g v wr => ∃ m : Nat, Hid (g + m = M.padN (n + 1)) ∧ v = .string ⟨(UInt8.ofNat op :: List.replicate m 0).toArray⟩ ∧ wr = W2)
  case atStart => exact ⟨0, rfl, rfl, rfl⟩
  case round =>
    obtain ⟨m, Hm, rfl, rfl⟩ := hrel
    have hm3 : m ≤ 3 := by have := unhide Hm; omega
    obtain ⟨sb, esb⟩ : ∃ sb : ByteArray, sb = ⟨(UInt8.ofNat op :: List.replicate m 0).toArray⟩ := ⟨_, rfl⟩
    have hsl : sb.size = m + 1 := by rw [esb]; simp [ByteArray.size]
    have hcat : sb ++ ⟨#[0]⟩ = ⟨(UInt8.ofNat op :: List.replicate (m + 1) 0).toArray⟩ := by
      rw [esb, show (⟨#[0]⟩ : ByteArray) = ⟨([0] : List UInt8).toArray⟩ from rfl, cat_text, List.cons_append, ← List.replicate_succ']
    rw [← esb]
    have Hesb := hide esb
    have Hcat := hide hcat
    have y0 := v2.cell 0
    simp [V.arr] at y0
    clear esb hcat
    by_cases hlt : m < M.padN (n + 1)
    · have hrem : ((((n : Nat) : Int) + ((m : Nat) + 1)) % 4 != 0) = true := by rw [bne_iff_ne]; have := pad_not hlt; omega
      go_wp2
      go_roundg (gk - 1)
      case measure => have := unhide Hm; omega
      case rel => exact ⟨m + 1, by have := unhide Hm; unfold Hid; omega, by rw [unhide Hcat], rfl⟩
    · have hme : m = M.padN (n + 1) := by have := unhide Hm; omega
      have hrem : ((((n : Nat) : Int) + ((m : Nat) + 1)) % 4 != 0) = false := by rw [bne_eq_false_iff_eq]; have := pad_end hme; omega
      have Hme := hide hme
      have y7 := v2.cell 7
      have y6 := v2.cell 6
      simp [V.arr] at y7 y6
      have htl : (tgts.length : Int) ≤ 100000 := by omega
      clear hme Hcat
      go_upto_region 5 with fail
      obtain ⟨gd, hgd⟩ : ∃ gd : Bool, gd = (if bk then decide (tgts.length = keys.length + 1) else decide (2 ≤ tgts.length)) := ⟨_, rfl⟩
      go_cut [56] (fun t w' => t = .bool (!gd) ∧ w' = wr)
      case first =>
        cases bk with
        | false =>
          simp only [Bool.false_eq_true, if_false] at hgd
          by_cases h2 : 2 ≤ tgts.length
          · rw [decide_eq_true h2] at hgd
            subst hgd
            have q1 : ¬ (tgts.length : Int) - 1 < 0 := by omega
            have q2 : ¬ (tgts.length : Int) - 1 < 1 := by omega
            go_wp2
            go_meet
            case rel => exact ⟨rfl, rfl⟩
          · rw [decide_eq_false h2] at hgd
            subst hgd
            by_cases h0 : tgts.length = 0
            · have q1 : (tgts.length : Int) - 1 < 0 := by omega
              clear h0 h2
              go_wp2
              go_meet
              case rel => exact ⟨rfl, rfl⟩
            · have q1 : ¬ (tgts.length : Int) - 1 < 0 := by omega
              have q2 : (tgts.length : Int) - 1 < 1 := by omega
              clear h0 h2
              go_wp2
              go_meet
              case rel => exact ⟨rfl, rfl⟩
        | true =>
          simp only [if_true] at hgd
          by_cases h2 : tgts.length = keys.length + 1
          · rw [decide_eq_true h2] at hgd
            subst hgd
            have q1 : ¬ (tgts.length : Int) - 1 < 0 := by omega
            have q2 : (((tgts.length : Nat) : Int) - 1 != ((keys.length : Nat) : Int)) = false := by rw [bne_eq_false_iff_eq]; omega
            clear h2
            go_wp2
            go_meet
            case rel => exact ⟨rfl, rfl⟩
          · rw [decide_eq_false h2] at hgd
            subst hgd
            by_cases h0 : tgts.length = 0
            · have q1 : (tgts.length : Int) - 1 < 0 := by omega
              clear h0 h2
              go_wp2
              go_meet
              case rel => exact ⟨rfl, rfl⟩
            · have q1 : ¬ (tgts.length : Int) - 1 < 0 := by omega
              have q2 : (((tgts.length : Nat) : Int) - 1 != ((keys.length : Nat) : Int)) = true := by rw [bne_iff_ne]; omega
              clear h0 h2
              go_wp2
              go_meet
              case rel => exact ⟨rfl, rfl⟩
      case rest =>
        obtain ⟨rfl, hww⟩ := hcut
        subst hww
        generalize wc = Wp at *
        cases gd with
        | false =>
          have hrf : r = false := by
            rw [unhide Hr]; unfold M.swOk
            cases bk
            · simp only [Bool.false_eq_true, if_false] at hgd ⊢
              have := of_decide_eq_false hgd.symm
              unfold M.hasTable; simp [this]
            · simp only [if_true] at hgd ⊢
              have := of_decide_eq_false hgd.symm
              unfold M.hasKeys; simp [this]
          subst hrf
          clear Hr hgd
          go_wp2
          refine bodyPost_ret (v := .tuple #[.string ⟨#[]⟩, .bool false]) (by simp [results, Tryd.results64, go_sem]) rfl ?_
          exact ⟨⟨[], rfl, fun e => by cases e⟩, b2⟩
        | true =>
          have hge : if bk then tgts.length = keys.length + 1 else 2 ≤ tgts.length := by
            cases bk
            · simp only [Bool.false_eq_true, if_false] at hgd ⊢; exact of_decide_eq_true hgd.symm
            · simp only [if_true] at hgd ⊢; exact of_decide_eq_true hgd.symm
          have h1 : 1 ≤ tgts.length := by cases bk <;> simp at hge <;> omega
          have Hge := hide hge
          have hne : tgts ≠ [] := by rintro rfl; simp at h1
          obtain ⟨bt, ot, rfl, hcell⟩ := unhide HT hne
          have x0 := hcell 0 (by omega)
          have hbt := cell_lt x0
          rw [← b2.cell hbt, Nat.add_zero] at x0
          obtain ⟨t0, ht0⟩ : ∃ t0, t0 = tgts.getD 0 0 := ⟨_, rfl⟩
          rw [← ht0] at x0
          have Ht0 := hide ht0
          have hHB := fun (x : Int) (w : World) => bytes_any M.fw (.inr (.inr (.inl rfl))) x w
          have hs4 : ((M.fw.size : Nat) : Int) = 4 := rfl
          have hsg : decide (M.fw.low < 0) = true := rfl
          rw [hs4, hsg] at hHB
          have HB := hide hHB
          have hi0 : (0 : Int) < (tgts.length : Int) := by omega
          clear hge hgd hne hcell ht0 hHB hs4 hsg
          go_upto_region 7 with fail
          have X0 := cell_regrown x0
          have Y0 := cell_regrown y0
          have Y7 := cell_regrown y7
          refine wp_region_quiet_below (by kernel_rfl) (by kernel_rfl) ?_
          repeat (go_big_quiet_step (first | (go_at_call 65; exact Calls.regrown_of (unhide HB _ _))))
          refine wpQuiet_nil ?_
          intro _ hw'
          obtain ⟨⟨dq, osq⟩, hw2⟩ := hw'
          subst hw2
          have hbc := below_regrown Wp dq osq
          clear X0 Y0 Y7
          generalize Sort.grow (redrawn Wp dq) osq = wc at *
          rw [nb_wrap]
          · have b3 := b2.trans (hbc.mono b2.size)
            have v3 := v2.below hbc
            generalize wc = Wq at *
            obtain ⟨A, eA⟩ : ∃ A : ByteArray, A = ⟨(M.nb M.fw (t0 - (n : Int))).toArray⟩ := ⟨_, rfl⟩
            have hA : A.size = 4 := by rw [eA]; simp [ByteArray.size, M.nb_len, M.fw]
            obtain ⟨okA, hokA⟩ : ∃ okA, okA = M.holds M.fw (wrap64 (t0 - (n : Int))) := ⟨_, rfl⟩
            rw [← eA, ← hokA]
            have HeA := hide eA
            have HokA := hide hokA
            obtain ⟨S1, eS1⟩ : ∃ S1 : List UInt8, S1 = (UInt8.ofNat op :: List.replicate m 0) ++ M.nb M.fw (t0 - (n : Int)) := ⟨_, rfl⟩
            have hcat : sb ++ A = ⟨S1.toArray⟩ := by rw [unhide Hesb, eA, cat_text, ← eS1]
            have hS1 : S1.length = m + 5 := by rw [eS1]; simp [M.nb_len, M.fw]
            have HeS1 := hide eS1
            have Hcat := hide hcat
            have HS1 := hide hS1
            clear eA hokA eS1 hcat hS1 hbc b2 v2 y0 y6 y7 x0 hrem hlt
            go_upto_if 71 with fail
            rw [unhide Hcat]
            clear Hcat
            go_cut [6, 9] (fun sv ok w' => ∃ (S : List UInt8) (b0 : Bool), sv = .string ⟨S.toArray⟩ ∧ ok = .bool b0 ∧ Below Wq.heap.size Wq w' ∧ Hid (S.length ≤ 40) ∧ Hid ((b0 && M.okX ⟨(n : Int), op, wide, a, b, low, keys, tgts⟩ bk (tgts.length - 1)) = r) ∧ Hid (r = true → S ++ M.rest ⟨(n : Int), op, wide, a, b, low, keys, tgts⟩ bk (tgts.length - 1) = Tx))
            case first =>
              obtain ⟨B1, eB1⟩ : ∃ B1 : ByteArray, B1 = ⟨S1.toArray⟩ := ⟨_, rfl⟩
              have hB1 : B1.size = m + 5 := by rw [eB1]; simp [ByteArray.size, unhide HS1]
              rw [← eB1]
              have HeB1 := hide eB1
              have hSt : ∀ X : List UInt8, X = (if bk then M.nb M.fw ((tgts.length : Int) - 1) else M.nb M.fw low ++ M.nb M.fw (low + ((tgts.length : Int) - 1) - 1)) → S1 ++ X ++ M.rest ⟨(n : Int), op, wide, a, b, low, keys, tgts⟩ bk (tgts.length - 1) = Tx := fun X hX => by
                rw [unhide HTx]
                have := sw_bytes ⟨(n : Int), op, wide, a, b, low, keys, tgts⟩ (n + 1) bk
                simp only at this
                rw [this, unhide HeS1, hX, unhide Hme, unhide Ht0]
              have HSt := hide hSt
              clear eB1 hSt
              cases bk with
              | true =>
                have hg2 : tgts.length = keys.length + 1 := by simpa using unhide Hge
                have hHG := Big_any (M.u64 ((tgts.length : Int) - 1)) 4 Wq (by decide) (M.u64_lt _)
                have hu : ((M.u64 ((tgts.length : Int) - 1) : Nat) : Int) = (tgts.length : Int) - 1 := by rw [u64_cast]; omega
                rw [hu] at hHG
                obtain ⟨C, eC⟩ : ∃ C : ByteArray, C = ⟨(M.big (M.u64 ((tgts.length : Int) - 1)) 4).toArray⟩ := ⟨_, rfl⟩
                have hC : C.size = 4 := by rw [eC]; simp [ByteArray.size, M.big_len]
                rw [← eC] at hHG
                have HG := hide hHG
                have HeC := hide eC
                have Hg2 := hide hg2
                clear hHG eC hg2 hu
                go_wp2_with fail
                refine (unhide HG).mono ?_
                clear HG
                rintro e w5 ⟨rfl, hb5⟩
                go_wp2
                go_meet
                case rel =>
                  have e1 : B1 ++ C = ⟨(S1 ++ M.nb M.fw ((tgts.length : Int) - 1)).toArray⟩ := by rw [unhide HeB1, unhide HeC, cat_text]; rfl
                  refine ⟨S1 ++ M.nb M.fw ((tgts.length : Int) - 1), okA, by rw [e1], rfl, hb5, ?_, ?_, ?_⟩
                  · unfold Hid; rw [List.length_append, unhide HS1, M.nb_len]; simp only [M.fw]; omega
                  · have := sw_ok_keys (g := ⟨(n : Int), op, wide, a, b, low, keys, tgts⟩) (unhide Hg2)
                    simp only at this
                    unfold Hid
                    rw [unhide Hr, ← this, unhide HokA, unhide Ht0]
                  · intro _; exact unhide HSt _ (by simp)
              | false =>
                have hg2 : 2 ≤ tgts.length := by simpa using unhide Hge
                obtain ⟨okL, hokL⟩ : ∃ okL, okL = M.holds M.fw low := ⟨_, rfl⟩
                have y5 := v3.cell 5
                simp [V.arr] at y5
                have HokL := hide hokL
                have hres := sw_ok_table (g := ⟨(n : Int), op, wide, a, b, low, keys, tgts⟩) hg2
                simp only at hres
                rw [← unhide Hr, ← hokL, ← unhide Ht0, ← unhide HokA] at hres
                have Hres := hide hres
                have hpq := v3.lt
                cases okL with
                | true =>
                  have hlow : -2147483648 ≤ low ∧ low ≤ 2147483647 := by
                    have := hokL; unfold M.holds M.fw at this; simp at this; omega
                  have HB5 := hide (unhide HB low Wq)
                  rw [← hokL] at HB5
                  obtain ⟨C, eC⟩ : ∃ C : ByteArray, C = ⟨(M.nb M.fw low).toArray⟩ := ⟨_, rfl⟩
                  have hC : C.size = 4 := by rw [eC]; simp [ByteArray.size, M.nb_len, M.fw]
                  rw [← eC] at HB5
                  have HeC := hide eC
                  clear hokL hres eC
                  go_wp2_with fail
                  refine (unhide HB5).mono ?_
                  clear HB5
                  rintro e w5 ⟨rfl, hb5⟩
                  have y5' := (v3.below hb5).cell 5
                  simp [V.arr] at y5'
                  obtain ⟨D, eD⟩ : ∃ D : ByteArray, D = ⟨(M.nb M.fw (low + ((tgts.length : Int) - 1) - 1)).toArray⟩ := ⟨_, rfl⟩
                  have hD : D.size = 4 := by rw [eD]; simp [ByteArray.size, M.nb_len, M.fw]
                  obtain ⟨ok3, hok3⟩ : ∃ ok3, ok3 = M.holds M.fw (low + ((tgts.length : Int) - 1) - 1) := ⟨_, rfl⟩
                  have HB6 := hide (unhide HB (low + ((tgts.length : Int) - 1) - 1) w5)
                  rw [← eD, ← hok3] at HB6
                  have HeD := hide eD
                  have Hok3 := hide hok3
                  clear eD hok3 y5
                  go_wp2_with fail
                  refine (unhide HB6).mono ?_
                  clear HB6
                  rintro e w6 ⟨rfl, hb6⟩
                  have hCD : (C ++ D).size = 8 := by rw [ByteArray.size_append]; omega
                  have hfin : B1 ++ (C ++ D) = ⟨(S1 ++ (M.nb M.fw low ++ M.nb M.fw (low + ((tgts.length : Int) - 1) - 1))).toArray⟩ := by rw [unhide HeB1, unhide HeC, unhide HeD, cat_text, cat_text]
                  have Hfin := hide hfin
                  have hbz := hb5.trans (hb6.mono hb5.size)
                  have hres2 := unhide Hres
                  rw [show low + ((tgts.length : Int) - 2) = low + ((tgts.length : Int) - 1) - 1 by omega, ← unhide Hok3, Bool.true_and] at hres2
                  have Hres2 := hide hres2
                  clear hfin hres2 y5' Hres
                  cases okA <;> cases ok3
                  all_goals
                    go_wp2
                    go_meet
                    case rel =>
                      refine ⟨S1 ++ (M.nb M.fw low ++ M.nb M.fw (low + ((tgts.length : Int) - 1) - 1)), _, by rw [unhide Hfin], rfl, hbz, ?_, unhide Hres2, ?_⟩
                      · unfold Hid; rw [List.length_append, List.length_append, unhide HS1, M.nb_len, M.nb_len]; simp only [M.fw]; omega
                      · intro _; exact unhide HSt _ (by simp)
                | false =>
                  have HB5 := hide (unhide HB low Wq)
                  rw [← hokL] at HB5
                  obtain ⟨C, eC⟩ : ∃ C : ByteArray, C = ⟨(M.nb M.fw low).toArray⟩ := ⟨_, rfl⟩
                  have hC : C.size = 4 := by rw [eC]; simp [ByteArray.size, M.nb_len, M.fw]
                  rw [← eC] at HB5
                  have HeC := hide eC
                  have hr0 : r = false := by rw [← hres]; simp
                  clear hokL hres eC Hres
                  go_wp2_with fail
                  refine (unhide HB5).mono ?_
                  clear HB5
                  rintro e w5 ⟨rfl, hb5⟩
                  have y5' := (v3.below hb5).cell 5
                  simp [V.arr] at y5'
                  clear y5
                  go_wp2_with fail
                  refine (unhide HB _ _).mono ?_
                  rintro e w6 ⟨rfl, hb6⟩
                  generalize wrap64 (wrap64 (low + ((tgts.length : Int) - 1)) - 1) = X at *
                  obtain ⟨D, eD⟩ : ∃ D : ByteArray, D = ⟨(M.nb M.fw X).toArray⟩ := ⟨_, rfl⟩
                  have hD : D.size = 4 := by rw [eD]; simp [ByteArray.size, M.nb_len, M.fw]
                  rw [← eD]
                  have hCD : (C ++ D).size = 8 := by rw [ByteArray.size_append]; omega
                  have hfin : B1 ++ (C ++ D) = ⟨(S1 ++ (M.nb M.fw low ++ M.nb M.fw X)).toArray⟩ := by rw [unhide HeB1, unhide HeC, eD, cat_text, cat_text]
                  have Hfin := hide hfin
                  have hbz := hb5.trans (hb6.mono hb5.size)
                  have Hr0 := hide hr0
                  clear hfin y5' eD hr0
                  cases okA <;> cases M.holds M.fw X
                  all_goals
                    go_wp2
                    go_meet
                    case rel =>
                      refine ⟨S1 ++ (M.nb M.fw low ++ M.nb M.fw X), _, by rw [unhide Hfin], rfl, hbz, ?_, ?_, ?_⟩
                      · unfold Hid; rw [List.length_append, List.length_append, unhide HS1, M.nb_len, M.nb_len]; simp only [M.fw]; omega
                      · unfold Hid; rw [unhide Hr0]; rfl
                      · intro e; rw [unhide Hr0] at e; cases e
            case rest =>
              obtain ⟨S, b0, rfl, rfl, hbc, HSl, HRb, HRt⟩ := hcut
              have b4 := b3.trans (hbc.mono b3.size)
              have v4 := v3.below hbc
              clear hbc b3 v3 HTx Hr Hesb HeA HokA HeS1 HS1
              generalize wc = W4 at *
              obtain ⟨vv, W5, hcv, hot, hb5⟩ := of_text S W4 (by have := unhide HSl; omega)
              have Hot := hide hot
              obtain ⟨n1, en1⟩ : ∃ n1, n1 = tgts.length - 1 := ⟨_, rfl⟩
              have hn1 : (tgts.length : Int) - 1 = (n1 : Int) := by omega
              have hn1b : n1 ≤ 100000 := by omega
              rw [← en1] at HRb HRt
              have Hn1 := hide en1
              clear hot en1 htl hi0
              go_wp2_with fail
              clear hcv
              go_loopw [9, 14, 15] (fun ok v i wr => ∃ j : Nat, j ≤ n1 ∧ i = .int .i64 ((j : Int) + 1) ∧ ok = .bool (b0 && M.okX ⟨(n : Int), op, wide, a, b, low, keys, tgts⟩ bk j) ∧ Hid (Ot wr W4.heap.size v (S ++ M.rest ⟨(n : Int), op, wide, a, b, low, keys, tgts⟩ bk j)) ∧ Hid (Below W4.heap.size W4 wr)) (fun _ _ i _ => n1 + 1 - (intOf i).toNat)
              case atStart => exact ⟨0, Nat.zero_le _, rfl, by simp [M.okX], by unfold Hid; simpa [M.rest] using unhide Hot, hb5⟩
              case round =>
                obtain ⟨j, hj, rfl, rfl, HO, HBl⟩ := hrel
                by_cases hjlt : j < n1
                · have hO := unhide HO
                  have hBl := unhide HBl
                  have hw4 : Below w.heap.size w wr := b4.trans (hBl.mono b4.size)
                  have v5 := v4.below hBl
                  have hsz4 := hBl.size
                  have hn := unhide Hn1
                  have hne : tgts ≠ [] := by rintro rfl; simp at hn; omega
                  obtain ⟨bt', ot', ebt, hcell⟩ := unhide HT hne
                  cases ebt
                  have x0 := hcell (j + 1) (by omega)
                  rw [← hw4.cell (cell_lt x0)] at x0
                  obtain ⟨x, hx⟩ : ∃ x, x = tgts.getD (j + 1) 0 := ⟨_, rfl⟩
                  rw [← hx] at x0
                  have Hx := hide hx
                  have hrl := rest_len ⟨(n : Int), op, wide, a, b, low, keys, tgts⟩ bk j
                  have hrs := rest_succ ⟨(n : Int), op, wide, a, b, low, keys, tgts⟩ bk j
                  have hos := okX_succ ⟨(n : Int), op, wide, a, b, low, keys, tgts⟩ bk j
                  simp only [← hx] at hrs hos
                  obtain ⟨q, hq⟩ : ∃ q, q = (b0 && M.okX ⟨(n : Int), op, wide, a, b, low, keys, tgts⟩ bk j) := ⟨_, rfl⟩
                  rw [← hq]
                  have hq2 : (b0 && M.okX ⟨(n : Int), op, wide, a, b, low, keys, tgts⟩ bk (j + 1)) = (q && ((if bk then M.keyOk keys j else true) && M.holds M.fw (wrap64 (x - (n : Int))))) := by rw [hos, hq, Bool.and_assoc]
                  obtain ⟨Z, eZ⟩ : ∃ Z, Z = S ++ M.rest ⟨(n : Int), op, wide, a, b, low, keys, tgts⟩ bk j := ⟨_, rfl⟩
                  have hZl : Z.length ≤ 900000 := by rw [eZ, List.length_append]; have := unhide HSl; omega
                  have hZ2 : S ++ M.rest ⟨(n : Int), op, wide, a, b, low, keys, tgts⟩ bk (j + 1) = Z ++ ((if bk then M.nb M.fw (keys.getD j 0) else []) ++ M.nb M.fw (x - (n : Int))) := by rw [hrs, eZ, List.append_assoc]
                  rw [← eZ] at hO
                  have Hq2 := hide hq2
                  have HZ2 := hide hZ2
                  have HOZ := hide hO
                  have ji : (j : Int) + 1 ≤ (n1 : Int) := by omega
                  have jt : (j : Int) + 1 < (tgts.length : Int) := by omega
                  have jt' : j + 1 < tgts.length := by omega
                  have hpw := v5.lt
                  clear hO hne hcell hx hrl hrs hos hq hq2 eZ hZ2 HO hn
                  cases bk with
                  | false =>
                    have y0 := v5.cell 0
                    have y7 := v5.cell 7
                    simp [V.arr] at y0 y7
                    simp only [Bool.false_eq_true, if_false, Bool.true_and, List.nil_append] at Hq2 HZ2
                    go_upto_region 23 with fail
                    have X0 := cell_regrown x0
                    have Y0 := cell_regrown y0
                    have Y7 := cell_regrown y7
                    refine wp_region_quiet_below (by kernel_rfl) (by kernel_rfl) ?_
                    repeat (go_big_quiet_step (first | (go_at_call 65; exact Calls.regrown_of (unhide HB _ _))))
                    refine wpQuiet_nil ?_
                    intro _ hw'
                    obtain ⟨⟨dq, osq⟩, hw2⟩ := hw'
                    subst hw2
                    have hbc := below_regrown wr dq osq
                    clear X0 Y0 Y7
                    generalize Sort.grow (redrawn wr dq) osq = Wz at *
                    rw [nb_wrap]
                    obtain ⟨okz, hokz⟩ : ∃ okz, okz = M.holds M.fw (wrap64 (x - (n : Int))) := ⟨_, rfl⟩
                    rw [← hokz] at Hq2 ⊢
                    obtain ⟨Nx, eNx⟩ : ∃ Nx, Nx = M.nb M.fw (x - (n : Int)) := ⟨_, rfl⟩
                    have hNx : Nx.length = 4 := by rw [eNx, M.nb_len]; rfl
                    rw [← eNx] at HZ2 ⊢
                    have hOz := (unhide HOZ).kept hbc
                    have hBz := hBl.trans (hbc.mono hBl.size)
                    have hszz := hBz.size
                    clear hokz eNx x0 y0 y7
                    go_upto_region 25 with (at_builtin; refine wpList_append_free _ rfl _ _ 69 9 rfl i0 Tryd.underlying69 Tryd.underlying9 hi hz0 hz1 hz2 W4.heap.size u14 Z Nx rfl rfl hOz (by omega) hszz ?_; intro v' w8 hot8 hgr8)
                    have hB8 : Below W4.heap.size W4 w8 := hBz.grown hgr8 hszz hOz.block
                    have hot9 : Ot w8 W4.heap.size v' (S ++ M.rest ⟨(n : Int), op, wide, a, b, low, keys, tgts⟩ false (j + 1)) := by rw [unhide HZ2]; exact hot8
                    have HO9 := hide hot9
                    have HB9 := hide hB8
                    clear hot8 hgr8 hot9 hB8 hOz hBz hbc
                    cases q <;> cases okz
                    all_goals
                      go_wp2
                      go_roundw
                      case rel => exact ⟨j + 1, by omega, by go_num, by rw [unhide Hq2]; rfl, HO9, HB9⟩
                      case measure => simp [intOf]; omega
                  | true =>
                    have hkt : tgts.length = keys.length + 1 := by simpa using unhide Hge
                    have hn := unhide Hn1
                    have hnk : keys ≠ [] := by rintro rfl; simp at hkt; omega
                    obtain ⟨bk', ok', rfl, hcellk⟩ := unhide HK hnk
                    have xk := hcellk j (by omega)
                    have hbk := cell_lt xk
                    rw [← hw4.cell hbk] at xk
                    have xq := hcellk (j - 1) (by omega)
                    rw [← hw4.cell (cell_lt xq)] at xq
                    obtain ⟨y, hy⟩ : ∃ y, y = keys.getD j 0 := ⟨_, rfl⟩
                    obtain ⟨yq, hyq⟩ : ∃ yq, yq = keys.getD (j - 1) 0 := ⟨_, rfl⟩
                    rw [← hy] at xk
                    rw [← hyq] at xq
                    have hko : M.keyOk keys j = (M.holds M.fw y && (decide (j = 0) || decide (yq < y))) := by unfold M.keyOk; rw [← hy, ← hyq]
                    simp only [if_true, hko, ← hy] at Hq2 HZ2
                    have y6 := v5.cell 6
                    simp [V.arr] at y6
                    obtain ⟨Ky, eKy⟩ : ∃ Ky, Ky = M.nb M.fw y := ⟨_, rfl⟩
                    have hKy : Ky.length = 4 := by rw [eKy, M.nb_len]; rfl
                    obtain ⟨okK, hokK⟩ : ∃ okK, okK = M.holds M.fw y := ⟨_, rfl⟩
                    have HBk := hide (unhide HB y wr)
                    rw [← eKy, ← hokK] at HBk
                    rw [← hokK] at Hq2
                    rw [← eKy] at HZ2
                    have jk : (j : Int) < (keys.length : Int) := by omega
                    have jk' : j < keys.length := by omega
                    clear hkt hn hnk hcellk hy hyq hko eKy hokK
                    go_upto_region 21 with fail
                    refine (unhide HBk).mono ?_
                    clear HBk
                    rintro e w7 ⟨rfl, hb7⟩
                    have hO7 := (unhide HOZ).kept hb7
                    have hB7 := hBl.trans (hb7.mono hBl.size)
                    have hsz7 := hB7.size
                    go_upto_region 22 with (at_builtin; refine wpList_append_free _ rfl _ _ 69 9 rfl i0 Tryd.underlying69 Tryd.underlying9 hi hz0 hz1 hz2 W4.heap.size u14 Z Ky rfl rfl hO7 (by omega) hsz7 ?_; intro v8 w8 hot8' hgr8')
                    have hB8 : Below W4.heap.size W4 w8 := hB7.grown hgr8' hsz7 hO7.block
                    have tr : ∀ (A : Addr) u, A.block < w.heap.size → wr.cell? A = some u → w8.cell? A = some u := fun A u hA h => by
                      rw [hB8.cell (Nat.lt_of_lt_of_le hA b4.size), ← hBl.cell (Nat.lt_of_lt_of_le hA b4.size)]; exact h
                    have x0 := tr _ _ hbt x0
                    have xk := tr _ _ hbk xk
                    have xq := tr _ _ hbk xq
                    have v8b := v4.below hB8
                    have y6 := v8b.cell 6
                    simp [V.arr] at y6
                    have OZ8 := hide hot8'
                    obtain ⟨q2, hq2'⟩ : ∃ q2, q2 = (q && (okK && (decide (j = 0) || decide (yq < y)))) := ⟨_, rfl⟩
                    have hq3 : (q && ((okK && (decide (j = 0) || decide (yq < y))) && M.holds M.fw (wrap64 (x - (n : Int))))) = (q2 && M.holds M.fw (wrap64 (x - (n : Int)))) := by rw [hq2']; simp only [Bool.and_assoc]
                    have Hq2b := Hq2
                    unfold Hid at Hq2b
                    rw [hq3] at Hq2b
                    clear tr hgr8' hot8' hO7 hB7 hb7 hq3 Hq2 HBl hBl
                    have Hq2 := hide Hq2b
                    clear Hq2b
                    go_cut [9] (fun ok w' => ok = .bool q2 ∧ Below w8.heap.size w8 w')
                    case first =>
                      have XK := cell_regrown xk
                      have XQ := cell_regrown xq
                      have Y6 := cell_regrown y6
                      cases q with
                      | false =>
                        have e2 : q2 = false := by rw [hq2']; rfl
                        subst e2
                        clear hq2'
                        refine wp_region_quiet_below (by kernel_rfl) (by kernel_rfl) ?_
                        repeat (go_big_quiet_step (first | fail))
                        refine wpQuiet_nil ?_
                        intro _ hw'
                        obtain ⟨⟨dq, osq⟩, hw2⟩ := hw'
                        subst hw2
                        have hbq := below_regrown w8 dq osq
                        clear XK XQ Y6
                        generalize Sort.grow (redrawn w8 dq) osq = Wz at *
                        go_wp2
                        go_meet
                        case rel => exact ⟨rfl, hbq⟩
                      | true =>
                        cases okK with
                        | false =>
                          have e2 : q2 = false := by rw [hq2']; rfl
                          subst e2
                          clear hq2'
                          refine wp_region_quiet_below (by kernel_rfl) (by kernel_rfl) ?_
                          repeat (go_big_quiet_step (first | fail))
                          refine wpQuiet_nil ?_
                          intro _ hw'
                          obtain ⟨⟨dq, osq⟩, hw2⟩ := hw'
                          subst hw2
                          have hbq := below_regrown w8 dq osq
                          clear XK XQ Y6
                          generalize Sort.grow (redrawn w8 dq) osq = Wz at *
                          go_wp2
                          go_meet
                          case rel => exact ⟨rfl, hbq⟩
                        | true =>
                          rcases Nat.eq_zero_or_pos j with hj0 | hj0
                          · have e2 : q2 = true := by rw [hq2', hj0]; rfl
                            subst e2
                            have hj1 : (((j : Nat) : Int) + 1 == 1) = true := by rw [beq_iff_eq]; omega
                            clear hq2' hj0
                            refine wp_region_quiet_below (by kernel_rfl) (by kernel_rfl) ?_
                            repeat (go_big_quiet_step (first | fail))
                            refine wpQuiet_nil ?_
                            intro _ hw'
                            obtain ⟨⟨dq, osq⟩, hw2⟩ := hw'
                            subst hw2
                            have hbq := below_regrown w8 dq osq
                            clear XK XQ Y6
                            generalize Sort.grow (redrawn w8 dq) osq = Wz at *
                            go_wp2
                            go_meet
                            case rel => exact ⟨rfl, hbq⟩
                          · have e2 : q2 = decide (yq < y) := by rw [hq2', decide_eq_false (by omega : ¬ j = 0)]; rfl
                            subst e2
                            have hj1 : (((j : Nat) : Int) + 1 == 1) = false := by rw [beq_eq_false_iff_ne]; omega
                            have hj2 : ((j : Nat) : Int) + 1 - 2 = ((j - 1 : Nat) : Int) := by omega
                            have hj3 : ((j - 1 : Nat) : Int) < (keys.length : Int) := by omega
                            have hj4 : j - 1 < keys.length := by omega
                            clear hq2' hj0
                            refine wp_region_quiet_below (by kernel_rfl) (by kernel_rfl) ?_
                            repeat (go_big_quiet_step (first | fail))
                            refine wpQuiet_nil ?_
                            intro _ hw'
                            obtain ⟨⟨dq, osq⟩, hw2⟩ := hw'
                            subst hw2
                            have hbq := below_regrown w8 dq osq
                            clear XK XQ Y6
                            generalize Sort.grow (redrawn w8 dq) osq = Wz at *
                            go_wp2
                            go_meet
                            case rel => exact ⟨rfl, hbq⟩
                    case rest =>
                      obtain ⟨rfl, hbc8⟩ := hcut
                      clear hq2' xk xq y6
                      have v9b := v8b.below hbc8
                      have hB9 := hB8.trans (hbc8.mono hB8.size)
                      have x0 := x0
                      rw [← hbc8.cell (cell_lt x0)] at x0
                      have OZ9 := hide ((unhide OZ8).kept hbc8)
                      clear hbc8 hB8 v8b OZ8
                      generalize wc = W9 at *
                      have y0 := v9b.cell 0
                      have y7 := v9b.cell 7
                      simp [V.arr] at y0 y7
                      have hZK : (Z ++ Ky).length ≤ 900004 := by rw [List.length_append]; omega
                      obtain ⟨Y, eY⟩ : ∃ Y, Y = Z ++ Ky := ⟨_, rfl⟩
                      rw [← eY] at OZ9 hZK
                      have HeY := hide eY
                      clear eY
                      go_upto_region 23 with fail
                      have X0 := cell_regrown x0
                      have Y0 := cell_regrown y0
                      have Y7 := cell_regrown y7
                      refine wp_region_quiet_below (by kernel_rfl) (by kernel_rfl) ?_
                      repeat (go_big_quiet_step (first | (go_at_call 65; exact Calls.regrown_of (unhide HB _ _))))
                      refine wpQuiet_nil ?_
                      intro _ hw'
                      obtain ⟨⟨dq, osq⟩, hw2⟩ := hw'
                      subst hw2
                      have hbc := below_regrown W9 dq osq
                      clear X0 Y0 Y7
                      generalize Sort.grow (redrawn W9 dq) osq = Wz at *
                      rw [nb_wrap]
                      obtain ⟨okz, hokz⟩ : ∃ okz, okz = M.holds M.fw (wrap64 (x - (n : Int))) := ⟨_, rfl⟩
                      rw [← hokz] at Hq2 ⊢
                      obtain ⟨Nx, eNx⟩ : ∃ Nx, Nx = M.nb M.fw (x - (n : Int)) := ⟨_, rfl⟩
                      have hNx : Nx.length = 4 := by rw [eNx, M.nb_len]; rfl
                      rw [← eNx] at HZ2 ⊢
                      have hOz := (unhide OZ9).kept hbc
                      have hBz := hB9.trans (hbc.mono hB9.size)
                      have hszz := hBz.size
                      clear hokz eNx x0 y0 y7
                      go_upto_region 25 with (at_builtin; refine wpList_append_free _ rfl _ _ 69 9 rfl i0 Tryd.underlying69 Tryd.underlying9 hi hz0 hz1 hz2 W4.heap.size v8 Y Nx rfl rfl hOz (by omega) hszz ?_; intro v' w8 hot8 hgr8)
                      have hB8 : Below W4.heap.size W4 w8 := hBz.grown hgr8 hszz hOz.block
                      have hot9 : Ot w8 W4.heap.size v' (S ++ M.rest ⟨(n : Int), op, wide, a, b, low, keys, tgts⟩ true (j + 1)) := by rw [unhide HZ2]; rw [unhide HeY, List.append_assoc] at hot8; exact hot8
                      have HO9 := hide hot9
                      have HB9 := hide hB8
                      clear hot8 hgr8 hot9 hB8 hOz hBz hbc
                      cases q2 <;> cases okz
                      all_goals
                        go_wp2
                        go_roundw
                        case rel => exact ⟨j + 1, by omega, by go_num, by rw [unhide Hq2]; rfl, HO9, HB9⟩
                        case measure => simp [intOf]; omega
                · have hjn : j = n1 := by omega
                  subst hjn
                  have ji : ¬ (j : Int) + 1 ≤ (j : Int) := by omega
                  have hcv := (unhide HO).string
                  have hB := b4.trans ((unhide HBl).mono b4.size)
                  rw [unhide HRb]
                  have hfin := unhide HRt
                  have Hfin := hide hfin
                  clear HO HBl hfin HRt
                  go_wp2
                  refine bodyPost_ret (v := .tuple #[.string ⟨(S ++ M.rest ⟨(n : Int), op, wide, a, b, low, keys, tgts⟩ bk j).toArray⟩, .bool r]) (by simp [results, Tryd.results64, go_sem]) rfl ?_
                  exact ⟨⟨_, rfl, unhide Hfin⟩, hB⟩
end Go.Proofs.YtpmonoenppfekabDoor
