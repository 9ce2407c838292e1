/-
  Package class: attributes, whatever is done with them.
-/
import Derived.Test.YtbgpkkbejbidlacCh
namespace Go.Proofs.Ytbgpkkbejbidlac.Cl
open Go.RowKit
/-- Where reading of attributes stands. -/
def As {σ : Type} (s : List UInt8) (P : List K) (A : σ → Nat → List UInt8 → Nat → St → σ × St) (n : Nat) (x0 : σ) (st0 : St) (m : Nat) (x : σ) (st : St) : Prop := M.atts s P A n x0 st0 = M.atts s P A m x st
section
variable {σ : Type} {s : List UInt8} {P : List K} {A : σ → Nat → List UInt8 → Nat → St → σ × St} {n m : Nat} {x0 x : σ} {st0 st : St}
theorem As.step (h : As s P A n x0 st0 (m + 1) x st) (he : st.e = 0) : As s P A n x0 st0 m (M.att s P A x st).1 (M.att s P A x st).2 := by
  unfold As at h ⊢; rw [h, M.atts, if_pos he]
theorem As.stop (h : As s P A n x0 st0 m x st) (he : st.e ≠ 0) : M.atts s P A n x0 st0 = (x, st) := by
  unfold As at h; rw [h]
  cases m with
  | zero => rfl
  | succ m => rw [M.atts, if_neg he]
theorem As.done (h : As s P A n x0 st0 0 x st) : M.atts s P A n x0 st0 = (x, st) := h
end
theorem M.rd4 (s : List UInt8) (st : St) : (M.rd s 4 st).1 < 4294967296 := by have := M.num_le (M.take_len s 4 st); simpa [M.rd] using this
theorem wrapu {n : Nat} (h : n < 4294967296) : IntKind.i64.wrap (n : Int) = (n : Int) := by
  rw [IntKind.wrap_i64]; omega
theorem N4_any (R : Nat) (pv : Value) (s : ByteArray) (st : St) (w : World) (h : Rd w R pv s st) (hs : s.size ≤ 131072) (hp : st.pos ≤ s.data.toList.length) :
    Calls Try.prog 67 #[.pointer (some ⟨R, 0, none⟩), .int .i64 4] w fun x w' => x = .returned (.int .u64 ((M.rd s.data.toList 4 st).1 : Nat)) ∧ Rd w' R pv s (M.rd s.data.toList 4 st).2 ∧ w.grownBy w' (some R) := Number_any R pv s st 4 w h hs (by omega) (by simpa using hp)
theorem F_any (R : Nat) (pv : Value) (s : ByteArray) (st : St) (e p : Nat) (w : World) (h : Rd w R pv s st) :
    Calls Try.prog 68 #[.pointer (some ⟨R, 0, none⟩), .int .i64 (e : Int), .int .i64 (p : Int)] w fun x w' => x = .returned (.tuple #[]) ∧ Rd w' R pv s (M.fail st e p) ∧ w.grownBy w' (some R) := (Fail_any R pv s st e p w h).mono fun _ _ ⟨a, b, c, _⟩ => ⟨a, b, c⟩
set_option maxRecDepth 100000 in
set_option maxHeartbeats 2000000 in
theorem attributes_any {σ : Type} (q1 q2 q3 q4 q5 : Value) (R : Nat) (pv : Value) (s : ByteArray) (P : List K) (A : σ → Nat → List UInt8 → Nat → St → σ × St) (I : World → σ → St → Prop) (hs : s.size ≤ 131072) (hP : P.length ≤ 1048576)
    (hR : ∀ W x st, I W x st → Rd W R pv s st) (hK : ∀ W x st, I W x st → KIn W pv P) (hp : ∀ W x st, I W x st → st.pos ≤ s.data.toList.length)
    (hst : ∀ W W' x st st', I W x st → W.grownBy W' (some R) → Rd W' R pv s st' → st'.pos ≤ s.data.toList.length → I W' x st')
    (hdo : ∀ W x st (a n : Nat) (name : List UInt8), I W x st → n < 4294967296 → a ≤ s.data.toList.length → Calls Try.prog 117 #[.int .i64 (a : Int), .string ⟨name.toArray⟩, .int .i64 (n : Int), q1, q2, q3, q4, q5] W fun e W' => e = .returned (.tuple #[]) ∧ I W' (A x a name n st).1 (A x a name n st).2)
    (x : σ) (st : St) (w : World) (h : I w x st) :
    Calls Try.prog 75 #[.pointer (some ⟨R, 0, none⟩), .func (Fn.func 117) #[] #[q1, q2, q3, q4, q5]] w fun e w' => e = .returned (.tuple #[]) ∧ I w' (M.atts s.data.toList P A (M.rd s.data.toList 2 st).1 x (M.rd s.data.toList 2 st).2).1 (M.atts s.data.toList P A (M.rd s.data.toList 2 st).1 x (M.rd s.data.toList 2 st).2).2 := by
  have HhR := hide hR
  have HhK := hide hK
  have Hhp := hide hp
  have Hst := hide hst
  have Hdo := hide hdo
  have H0 := hide h
  have HU := hide (U16_any R pv s st w (hR _ _ _ h) hs (hp _ _ _ h))
  have hx := M.rd2 s.data.toList st
  have hp1 := M.rd_pos (n := 2) (hp _ _ _ h)
  obtain ⟨pad, pn, pcap, epv⟩ : ∃ pad pn pcap, pv = .slice pad pn pcap := by obtain ⟨a, c, e, _⟩ := (hK _ _ _ h).ex; exact ⟨a, _, c, e⟩
  subst epv
  obtain ⟨c, st1, hT⟩ : ∃ c st1, M.rd s.data.toList 2 st = (c, st1) := ⟨_, _, rfl⟩
  rw [hT] at hx HU hp1 ⊢
  simp only at hx HU hp1 ⊢
  clear hT h hR hK hp hst hdo
  go_enter Try.func75, Try.ntmps75
  go_wp2_with fail
  refine (unhide HU).mono ?_
  rintro e w1 ⟨rfl, hr1, hg1⟩
  have HI1 := hide (unhide Hst _ _ _ _ _ (unhide H0) hg1 hr1 hp1)
  clear HU hr1 hg1 H0
  go_wp2_with fail
  go_loopw [4] (fun i wr => ∃ (m : Nat) (y : σ) (st2 : St), m ≤ c ∧ i = .int .u16 m ∧ Hid (As s.data.toList P A c x st1 m y st2) ∧ Hid (I wr y st2)) (fun i _ => (intOf i).toNat)
  case atStart => exact ⟨c, x, st1, Nat.le_refl _, rfl, rfl, unhide HI1⟩
  case round =>
    clear HI1 hp1
    obtain ⟨m, y, st2, hm, rfl, HA, HI⟩ := hrel
    have HGd := hide (Good_any R _ s st2 wr (unhide HhR _ _ _ (unhide HI)))
    by_cases hm0 : m = 0
    · subst hm0
      have HD := hide ((unhide HA).done)
      go_wp2
      go_end0
      exact ⟨rfl, by rw [unhide HD]; exact unhide HI⟩
    · have hmi : (0 : Int) < (m : Int) := by omega
      by_cases he : st2.e = 0
      · rw [decide_eq_true he] at HGd
        obtain ⟨n, hn⟩ : ∃ n, m = n + 1 := ⟨m - 1, by omega⟩
        have hst := unhide HA
        rw [hn] at hst
        have HSt := hide (hst.step he)
        have Hn1 := hide hn
        have hr := unhide HhR _ _ _ (unhide HI)
        have hpp := unhide Hhp _ _ _ (unhide HI)
        have HAt := hide (At_any R _ s st2 wr hr)
        have HU2 := hide (U16_any R _ s st2 wr.drew hr.drew hs hpp)
        have hi := M.rd2 s.data.toList st2
        have hp3 := M.rd_pos (n := 2) hpp
        unfold M.att at HSt
        obtain ⟨i, st3, hi3⟩ : ∃ i st3, M.rd s.data.toList 2 st2 = (i, st3) := ⟨_, _, rfl⟩
        rw [hi3] at HU2 HSt hi hp3
        simp only at HU2 HSt hi hp3
        obtain ⟨st4, hst4⟩ : ∃ st4, st4 = (if M.tag P (i : Int) = 1 then st3 else M.fail st3 7 st2.pos) := ⟨_, rfl⟩
        rw [← hst4] at HSt
        obtain ⟨nm, hnm⟩ : ∃ nm, nm = M.text P (i : Int) := ⟨_, rfl⟩
        rw [← hnm] at HSt
        have hp4 : st4.pos ≤ s.data.toList.length := by rw [hst4]; split
                                                        · exact hp3
                                                        · rw [M.fail_pos]; exact hp3
        have hl := M.rd4 s.data.toList st4
        have hp5 := M.rd_pos (n := 4) hp4
        have HN4 := hide (fun (W : World) (hW : Rd W R (.slice pad pn pcap) s st4) => N4_any R _ s st4 W hW hs hp4)
        obtain ⟨ln, st5, hl5⟩ : ∃ ln st5, M.rd s.data.toList 4 st4 = (ln, st5) := ⟨_, _, rfl⟩
        rw [hl5] at HN4 HSt hl hp5
        simp only at HN4 HSt hl hp5
        have d1 := wrapi hi
        have d2 := wrapu hl
        have r4 : wr.cell? ⟨R, 4, none⟩ = some (.slice pad pn pcap) := hr.cell 4
        have Hst4 := hide hst4
        have Hnm := hide hnm
        clear hn he hst HA hm0 hr hst4 hi3 hl5 hnm
        go_wp2_with fail
        refine (unhide HGd).mono ?_
        rintro e w2 ⟨rfl, hw2⟩
        subst w2
        go_wp2_with fail
        refine (unhide HAt).mono ?_
        rintro e w2 ⟨rfl, hw2⟩
        subst w2
        clear HGd HAt
        go_upto_region 4 with fail
        go_cut [6, 7] (fun a b w' => a = .string ⟨nm.toArray⟩ ∧ b = .bool (decide (M.tag P (i : Int) = 1)) ∧ Hid (I w' y st3))
        case first =>
          go_region_held3 (fun w' => w'.cell? ⟨R, 4, none⟩ = some (.slice pad pn pcap)) (go_keep)
            ((first
              | (go_at_call 57; refine (unhide HU2).mono ?_; rintro e w3 ⟨rfl, hr3, hg3⟩; have r5 : w3.cell? ⟨R, 4, none⟩ = some (.slice pad pn pcap) := hr3.cell 4; have HI3 := hide (unhide Hst _ _ _ _ _ (unhide HI) ⟨hg3.os, hg3.tape, hg3.output, hg3.size, hg3.block⟩ hr3 hp3); have HTx := hide (Text_any (.slice pad pn pcap) P (i : Int) w3 (unhide HhK _ _ _ (unhide HI3)) hP))
              | (go_at_call 103; refine (unhide HTx).mono ?_; rintro e w4 ⟨rfl, hb4⟩; have hr4 := hr3.kept (grown_of_below hb4 none) (by simp); have r6 : w4.cell? ⟨R, 4, none⟩ = some (.slice pad pn pcap) := hr4.cell 4)))
          all_goals
            have HI4 := hide (unhide Hst _ _ _ _ _ (unhide HI3) (grown_of_below hb4 _) hr4 hp3)
            clear HTx HI HU2 HI3
            go_wp2
            go_meet
            exact ⟨by rw [unhide Hnm], rfl, HI4⟩
        case rest =>
          obtain ⟨rfl, rfl, HI3⟩ := hcut
          clear HU2 HI r4
          by_cases ht : M.tag P (i : Int) = 1
          · have hq : st4 = st3 := by rw [unhide Hst4, if_pos ht]
            rw [decide_eq_true ht]
            clear ht
            have HI4 : Hid (I wc y st4) := by rw [hq]; exact unhide HI3
            clear HI3 hq
            go_wp2_with fail
            refine (unhide HN4 _ (unhide HhR _ _ _ (unhide HI4))).mono ?_
            rintro e w5 ⟨rfl, hr5, hg5⟩
            have HI5 := hide (unhide Hst _ _ _ _ _ (unhide HI4) hg5 hr5 hp5)
            have HDo := hide (unhide Hdo _ _ _ st2.pos ln nm (unhide HI5) hl hpp)
            clear HN4 HI4 hr5 hg5 HI5
            go_wp2_with fail
            refine (unhide HDo).mono ?_
            rintro e w6 ⟨rfl, hI6⟩
            have hn := unhide Hn1
            have hm1 : (m : Int) - 1 = ((n : Nat) : Int) := by omega
            have HI6 := hide hI6
            clear HDo hI6
            go_wp2
            go_roundw
            case rel =>
              exact ⟨n, _, _, by omega, by go_num, HSt, HI6⟩
            case measure => simp [intOf]; omega
          · have hq : st4 = M.fail st3 7 st2.pos := by rw [unhide Hst4, if_neg ht]
            rw [decide_eq_false ht]
            have HF := hide (F_any R _ s st3 7 st2.pos wc (unhide HhR _ _ _ (unhide HI3)))
            rw [← hq] at HF
            clear ht hq
            go_wp2_with fail
            refine (unhide HF).mono ?_
            rintro e w4 ⟨rfl, hr4, hg4⟩
            clear HF
            have HI4 := hide (unhide Hst _ _ _ _ _ (unhide HI3) hg4 hr4 hp4)
            clear HI3 hr4 hg4
            go_wp2_with fail
            refine (unhide HN4 _ (unhide HhR _ _ _ (unhide HI4))).mono ?_
            rintro e w5 ⟨rfl, hr5, hg5⟩
            have HI5 := hide (unhide Hst _ _ _ _ _ (unhide HI4) hg5 hr5 hp5)
            have HDo := hide (unhide Hdo _ _ _ st2.pos ln nm (unhide HI5) hl hpp)
            clear HN4 HI4 hr5 hg5 HI5
            go_wp2_with fail
            refine (unhide HDo).mono ?_
            rintro e w6 ⟨rfl, hI6⟩
            have hn := unhide Hn1
            have hm1 : (m : Int) - 1 = ((n : Nat) : Int) := by omega
            have HI6 := hide hI6
            clear HDo hI6
            go_wp2
            go_roundw
            case rel =>
              exact ⟨n, _, _, by omega, by go_num, HSt, HI6⟩
            case measure => simp [intOf]; omega
      · rw [decide_eq_false he] at HGd
        have HD := hide ((unhide HA).stop he)
        clear he hm0
        go_wp2_with fail
        refine (unhide HGd).mono ?_
        rintro e w2 ⟨rfl, hw2⟩
        subst w2
        go_wp2
        go_end0
        exact ⟨rfl, by rw [unhide HD]; exact unhide HI⟩
set_option maxRecDepth 100000 in
set_option maxHeartbeats 2000000 in
theorem attributes0_any {σ : Type} (q1 : Value) (R : Nat) (pv : Value) (s : ByteArray) (P : List K) (A : σ → Nat → List UInt8 → Nat → St → σ × St) (I : World → σ → St → Prop) (hs : s.size ≤ 131072) (hP : P.length ≤ 1048576)
    (hR : ∀ W x st, I W x st → Rd W R pv s st) (hK : ∀ W x st, I W x st → KIn W pv P) (hp : ∀ W x st, I W x st → st.pos ≤ s.data.toList.length)
    (hst : ∀ W W' x st st', I W x st → W.grownBy W' (some R) → Rd W' R pv s st' → st'.pos ≤ s.data.toList.length → I W' x st')
    (hdo : ∀ W x st (a n : Nat) (name : List UInt8), I W x st → n < 4294967296 → a ≤ s.data.toList.length → Calls Try.prog 104 #[.int .i64 (a : Int), .string ⟨name.toArray⟩, .int .i64 (n : Int), q1] W fun e W' => e = .returned (.tuple #[]) ∧ I W' (A x a name n st).1 (A x a name n st).2)
    (x : σ) (st : St) (w : World) (h : I w x st) :
    Calls Try.prog 75 #[.pointer (some ⟨R, 0, none⟩), .func (Fn.func 104) #[] #[q1]] w fun e w' => e = .returned (.tuple #[]) ∧ I w' (M.atts s.data.toList P A (M.rd s.data.toList 2 st).1 x (M.rd s.data.toList 2 st).2).1 (M.atts s.data.toList P A (M.rd s.data.toList 2 st).1 x (M.rd s.data.toList 2 st).2).2 := by
  have HhR := hide hR
  have HhK := hide hK
  have Hhp := hide hp
  have Hst := hide hst
  have Hdo := hide hdo
  have H0 := hide h
  have HU := hide (U16_any R pv s st w (hR _ _ _ h) hs (hp _ _ _ h))
  have hx := M.rd2 s.data.toList st
  have hp1 := M.rd_pos (n := 2) (hp _ _ _ h)
  obtain ⟨pad, pn, pcap, epv⟩ : ∃ pad pn pcap, pv = .slice pad pn pcap := by obtain ⟨a, c, e, _⟩ := (hK _ _ _ h).ex; exact ⟨a, _, c, e⟩
  subst epv
  obtain ⟨c, st1, hT⟩ : ∃ c st1, M.rd s.data.toList 2 st = (c, st1) := ⟨_, _, rfl⟩
  rw [hT] at hx HU hp1 ⊢
  simp only at hx HU hp1 ⊢
  clear hT h hR hK hp hst hdo
  go_enter Try.func75, Try.ntmps75
  go_wp2_with fail
  refine (unhide HU).mono ?_
  rintro e w1 ⟨rfl, hr1, hg1⟩
  have HI1 := hide (unhide Hst _ _ _ _ _ (unhide H0) hg1 hr1 hp1)
  clear HU hr1 hg1 H0
  go_wp2_with fail
  go_loopw [4] (fun i wr => ∃ (m : Nat) (y : σ) (st2 : St), m ≤ c ∧ i = .int .u16 m ∧ Hid (As s.data.toList P A c x st1 m y st2) ∧ Hid (I wr y st2)) (fun i _ => (intOf i).toNat)
  case atStart => exact ⟨c, x, st1, Nat.le_refl _, rfl, rfl, unhide HI1⟩
  case round =>
    clear HI1 hp1
    obtain ⟨m, y, st2, hm, rfl, HA, HI⟩ := hrel
    have HGd := hide (Good_any R _ s st2 wr (unhide HhR _ _ _ (unhide HI)))
    by_cases hm0 : m = 0
    · subst hm0
      have HD := hide ((unhide HA).done)
      go_wp2
      go_end0
      exact ⟨rfl, by rw [unhide HD]; exact unhide HI⟩
    · have hmi : (0 : Int) < (m : Int) := by omega
      by_cases he : st2.e = 0
      · rw [decide_eq_true he] at HGd
        obtain ⟨n, hn⟩ : ∃ n, m = n + 1 := ⟨m - 1, by omega⟩
        have hst := unhide HA
        rw [hn] at hst
        have HSt := hide (hst.step he)
        have Hn1 := hide hn
        have hr := unhide HhR _ _ _ (unhide HI)
        have hpp := unhide Hhp _ _ _ (unhide HI)
        have HAt := hide (At_any R _ s st2 wr hr)
        have HU2 := hide (U16_any R _ s st2 wr.drew hr.drew hs hpp)
        have hi := M.rd2 s.data.toList st2
        have hp3 := M.rd_pos (n := 2) hpp
        unfold M.att at HSt
        obtain ⟨i, st3, hi3⟩ : ∃ i st3, M.rd s.data.toList 2 st2 = (i, st3) := ⟨_, _, rfl⟩
        rw [hi3] at HU2 HSt hi hp3
        simp only at HU2 HSt hi hp3
        obtain ⟨st4, hst4⟩ : ∃ st4, st4 = (if M.tag P (i : Int) = 1 then st3 else M.fail st3 7 st2.pos) := ⟨_, rfl⟩
        rw [← hst4] at HSt
        obtain ⟨nm, hnm⟩ : ∃ nm, nm = M.text P (i : Int) := ⟨_, rfl⟩
        rw [← hnm] at HSt
        have hp4 : st4.pos ≤ s.data.toList.length := by rw [hst4]; split
                                                        · exact hp3
                                                        · rw [M.fail_pos]; exact hp3
        have hl := M.rd4 s.data.toList st4
        have hp5 := M.rd_pos (n := 4) hp4
        have HN4 := hide (fun (W : World) (hW : Rd W R (.slice pad pn pcap) s st4) => N4_any R _ s st4 W hW hs hp4)
        obtain ⟨ln, st5, hl5⟩ : ∃ ln st5, M.rd s.data.toList 4 st4 = (ln, st5) := ⟨_, _, rfl⟩
        rw [hl5] at HN4 HSt hl hp5
        simp only at HN4 HSt hl hp5
        have d1 := wrapi hi
        have d2 := wrapu hl
        have r4 : wr.cell? ⟨R, 4, none⟩ = some (.slice pad pn pcap) := hr.cell 4
        have Hst4 := hide hst4
        have Hnm := hide hnm
        clear hn he hst HA hm0 hr hst4 hi3 hl5 hnm
        go_wp2_with fail
        refine (unhide HGd).mono ?_
        rintro e w2 ⟨rfl, hw2⟩
        subst w2
        go_wp2_with fail
        refine (unhide HAt).mono ?_
        rintro e w2 ⟨rfl, hw2⟩
        subst w2
        clear HGd HAt
        go_upto_region 4 with fail
        go_cut [6, 7] (fun a b w' => a = .string ⟨nm.toArray⟩ ∧ b = .bool (decide (M.tag P (i : Int) = 1)) ∧ Hid (I w' y st3))
        case first =>
          go_region_held3 (fun w' => w'.cell? ⟨R, 4, none⟩ = some (.slice pad pn pcap)) (go_keep)
            ((first
              | (go_at_call 57; refine (unhide HU2).mono ?_; rintro e w3 ⟨rfl, hr3, hg3⟩; have r5 : w3.cell? ⟨R, 4, none⟩ = some (.slice pad pn pcap) := hr3.cell 4; have HI3 := hide (unhide Hst _ _ _ _ _ (unhide HI) ⟨hg3.os, hg3.tape, hg3.output, hg3.size, hg3.block⟩ hr3 hp3); have HTx := hide (Text_any (.slice pad pn pcap) P (i : Int) w3 (unhide HhK _ _ _ (unhide HI3)) hP))
              | (go_at_call 103; refine (unhide HTx).mono ?_; rintro e w4 ⟨rfl, hb4⟩; have hr4 := hr3.kept (grown_of_below hb4 none) (by simp); have r6 : w4.cell? ⟨R, 4, none⟩ = some (.slice pad pn pcap) := hr4.cell 4)))
          all_goals
            have HI4 := hide (unhide Hst _ _ _ _ _ (unhide HI3) (grown_of_below hb4 _) hr4 hp3)
            clear HTx HI HU2 HI3
            go_wp2
            go_meet
            exact ⟨by rw [unhide Hnm], rfl, HI4⟩
        case rest =>
          obtain ⟨rfl, rfl, HI3⟩ := hcut
          clear HU2 HI r4
          by_cases ht : M.tag P (i : Int) = 1
          · have hq : st4 = st3 := by rw [unhide Hst4, if_pos ht]
            rw [decide_eq_true ht]
            clear ht
            have HI4 : Hid (I wc y st4) := by rw [hq]; exact unhide HI3
            clear HI3 hq
            go_wp2_with fail
            refine (unhide HN4 _ (unhide HhR _ _ _ (unhide HI4))).mono ?_
            rintro e w5 ⟨rfl, hr5, hg5⟩
            have HI5 := hide (unhide Hst _ _ _ _ _ (unhide HI4) hg5 hr5 hp5)
            have HDo := hide (unhide Hdo _ _ _ st2.pos ln nm (unhide HI5) hl hpp)
            clear HN4 HI4 hr5 hg5 HI5
            go_wp2_with fail
            refine (unhide HDo).mono ?_
            rintro e w6 ⟨rfl, hI6⟩
            have hn := unhide Hn1
            have hm1 : (m : Int) - 1 = ((n : Nat) : Int) := by omega
            have HI6 := hide hI6
            clear HDo hI6
            go_wp2
            go_roundw
            case rel =>
              exact ⟨n, _, _, by omega, by go_num, HSt, HI6⟩
            case measure => simp [intOf]; omega
          · have hq : st4 = M.fail st3 7 st2.pos := by rw [unhide Hst4, if_neg ht]
            rw [decide_eq_false ht]
            have HF := hide (F_any R _ s st3 7 st2.pos wc (unhide HhR _ _ _ (unhide HI3)))
            rw [← hq] at HF
            clear ht hq
            go_wp2_with fail
            refine (unhide HF).mono ?_
            rintro e w4 ⟨rfl, hr4, hg4⟩
            clear HF
            have HI4 := hide (unhide Hst _ _ _ _ _ (unhide HI3) hg4 hr4 hp4)
            clear HI3 hr4 hg4
            go_wp2_with fail
            refine (unhide HN4 _ (unhide HhR _ _ _ (unhide HI4))).mono ?_
            rintro e w5 ⟨rfl, hr5, hg5⟩
            have HI5 := hide (unhide Hst _ _ _ _ _ (unhide HI4) hg5 hr5 hp5)
            have HDo := hide (unhide Hdo _ _ _ st2.pos ln nm (unhide HI5) hl hpp)
            clear HN4 HI4 hr5 hg5 HI5
            go_wp2_with fail
            refine (unhide HDo).mono ?_
            rintro e w6 ⟨rfl, hI6⟩
            have hn := unhide Hn1
            have hm1 : (m : Int) - 1 = ((n : Nat) : Int) := by omega
            have HI6 := hide hI6
            clear HDo hI6
            go_wp2
            go_roundw
            case rel =>
              exact ⟨n, _, _, by omega, by go_num, HSt, HI6⟩
            case measure => simp [intOf]; omega
      · rw [decide_eq_false he] at HGd
        have HD := hide ((unhide HA).stop he)
        clear he hm0
        go_wp2_with fail
        refine (unhide HGd).mono ?_
        rintro e w2 ⟨rfl, hw2⟩
        subst w2
        go_wp2
        go_end0
        exact ⟨rfl, by rw [unhide HD]; exact unhide HI⟩
end Go.Proofs.Ytbgpkkbejbidlac.Cl
