/-
  Package maps: frames, Read.
-/
import Derived.Test.YtgihfcjddkpkaaaMgCn
namespace Go.Proofs.Ytgihfcjddkpkaaa
open Go.RowKit
theorem Try.info29 : (Try.prog.info? 29).map (fun i => (i.zero, i.size, i.bytes)) = some (some (.agg #[.int .i64 0, .slice none 0 0, .slice none 0 0]), 3, 56) := by kernel_rfl
theorem M.fin_bad {s : List UInt8} {st : St} (h : st.e ≠ 0) : M.fin s st = st := by
  unfold M.fin; rw [M.fail_bad h]; split <;> rfl
theorem M.fin_pos (s : List UInt8) (st : St) : (M.fin s st).pos = st.pos := by
  unfold M.fin; split
  · exact M.fail_pos _ _ _
  · rfl
theorem M.frames_pos {s : List UInt8} {P : List K} : ∀ {n : Nat} {a : Fm} {st : St}, st.pos ≤ s.length → (M.frames s P n a st).2.pos ≤ s.length
  | 0, _, _, h => h
  | n + 1, a, st, h => by
    rw [M.frames]; split
    · exact M.frames_pos (M.frame_pos h)
    · exact M.frame_pos h
theorem Fi_any (R : Nat) (pv : Value) (s : ByteArray) (P : List K) (st : St) (w : World) (h : Rx w R pv s P st) :
    Calls Try.prog 35 #[.pointer (some ⟨R, 0, none⟩)] w fun x w' => Tk R pv s P (M.fin s.data.toList st) w (.tuple #[]) x w' :=
  (Finish_any R pv s st w h.rd h.sz).mono fun _ _ ⟨h1, h2, h3⟩ => ⟨h1, h.step h2 h3 (by rw [M.fin_pos]; exact h.pos), h3⟩
set_option maxHeartbeats 400000 in
theorem beginning_any (ad : Option Addr) (n c : Nat) (w : World) :
    Calls Try.prog 26 #[.slice ad n c] w fun e w' => e = .returned (.agg #[.int .i64 (-1), .slice ad n c, .slice none 0 0]) ∧ Below w.heap.size w w' := by
  go_enter Try.func26, Try.ntmps26
  go_wp2
  refine bodyPost_ret (results_cell_row Try.results26 _ _ w.heap.size 29 _ (0, 0) _ rfl (heap_alloc_new _ _) Try.underlying29 rfl (by kernel_rfl)) rfl ?_
  exact ⟨rfl, (Below.refl _ _).alloc (Nat.le_refl _) _⟩
set_option maxHeartbeats 400000 in
theorem NewReader_any (s : ByteArray) (w : World) :
    Calls Try.prog 24 #[.string s] w fun e w' => e = .returned (.agg #[.string s, .int .i64 0, .int .i64 0, .int .i64 0]) ∧ Below w.heap.size w w' := by
  go_enter Try.func24, Try.ntmps24
  go_wp2
  refine bodyPost_ret (results_cell_row Try.results24 _ _ w.heap.size 56 _ (0, 0) _ rfl (heap_alloc_new _ _) Try.underlying56 rfl (by kernel_rfl)) rfl ?_
  exact ⟨rfl, (Below.refl _ _).alloc (Nat.le_refl _) _⟩
/-- What frames leaves. -/
def FsR (R : Nat) (pv : Value) (s : ByteArray) (P : List K) (F : List Fm) (st' : St) (w : World) (e : Ending) (w' : World) : Prop :=
  ∃ ad n c, e = .returned (.slice ad n c) ∧ Rx w' R pv s P st' ∧ w.grownBy w' (some R) ∧ (st'.e = 0 → ∃ L, L.map J.f = F ∧ Lst w' w.heap.size (.slice ad n c) L)
theorem Lst.slice {w : World} {B : Nat} {v : Value} {L : List J} (h : Lst w B v L) : ∃ ad cap, v = .slice ad L.length cap := by
  rcases h.row.2 with ⟨rfl, h0⟩ | ⟨g, cap, cur, rfl, _⟩
  · exact ⟨_, _, by rw [h0]⟩
  · exact ⟨_, _, rfl⟩
theorem own_cap {w : World} {B n e k : Nat} {ad : Option Addr} {m c : Nat} {xs : List Value} (h : w.ownsRow B e k (.slice ad m c) n xs) : m = n ∧ m ≤ c := by
  rcases h.2 with ⟨h0, h1⟩ | ⟨g, cap, cur, h0, _, _, h2, _⟩
  · cases h0; exact ⟨h1.symm, Nat.le_refl _⟩
  · cases h0; exact ⟨rfl, h2⟩
set_option maxRecDepth 100000 in
set_option maxHeartbeats 4000000 in
theorem frames_any (R : Nat) (pv lv sv : Value) (s : ByteArray) (P : List K) (a : Fm) (st : St) (w : World) (h : Rx w R pv s P st) (hs : s.size ≤ 131072) (hP : P.length ≤ 1048576)
    (hl : TIn w lv a.locals) (hne : a.locals ≠ [] → ∀ b o n c, lv = .slice (some ⟨b, o, none⟩) n c → b ≠ R) (hcap : ∀ ad n c, lv = .slice ad n c → n ≤ c) (hsv : ∃ ad n c, sv = .slice ad n c) (hL : a.locals.length ≤ 65536) (hS : a.stack.length ≤ 65536) (ha : -1 ≤ a.at_) (ha2 : a.at_ ≤ 1000) :
    Calls Try.prog 25 #[.pointer (some ⟨R, 0, none⟩), .agg #[.int .i64 a.at_, lv, sv]] w fun x w' =>
      FsR R pv s P (M.frames s.data.toList P (M.rd s.data.toList 2 st).1 a (M.rd s.data.toList 2 st).2).1 (M.fin s.data.toList (M.frames s.data.toList P (M.rd s.data.toList 2 st).1 a (M.rd s.data.toList 2 st).2).2) w x w' := by
  obtain ⟨i0, hi, hz0, hz1, hz2⟩ := info_parts Try.info29
  have hRl := h.rd.lt
  have H0 := hide h
  have HN := hide hne
  have HL := hide hl
  obtain ⟨ad, lcap, elv, _⟩ := hl
  have hcap2 := hcap _ _ _ elv
  obtain ⟨sd, sn, sc, esv⟩ := hsv
  subst elv esv
  clear hcap hne
  obtain ⟨wA, hwA⟩ : ∃ wA, wA = w.alloc (.cells #[.int .i64 a.at_, .slice ad a.locals.length lcap, .slice sd sn sc] 29) := ⟨_, rfl⟩
  have hbA : Below w.heap.size w wA := by rw [hwA]; exact (Below.refl _ _).alloc (Nat.le_refl _) _
  have hQA : Bk wA w.heap.size #[.int .i64 a.at_, .slice ad a.locals.length lcap, .slice sd sn sc] 29 := by rw [hwA]; exact Bk.new _ _ _
  have hrA := h.below hbA
  have HU := hide (U16_any R pv s P st wA hrA hs)
  have hx := M.rd2 s.data.toList st
  obtain ⟨x, st1, hT⟩ : ∃ x st1, M.rd s.data.toList 2 st = (x, st1) := ⟨_, _, rfl⟩
  rw [hT] at hx HU ⊢
  simp only at hx HU ⊢
  clear hT h hrA
  go_enter Try.func25, Try.ntmps25
  go_upto_region 2 with fail
  rw [← hwA]
  clear hwA
  go_wp2_with fail
  refine (unhide HU).mono ?_
  rintro e w1 ⟨rfl, hr1, hg1⟩
  have hQ1 := hQA.kept hg1 (by simp; omega)
  have hg1' := grown_trans (grown_of_below hbA (some R)) hg1
  have hl1 := (unhide HL).kept hg1' (fun hp b o n c e => by have := unhide HN hp b o n c e; simpa using this)
  clear HU hg1 hQA hbA
  go_wp2_with fail
  go_loopw [5, 10] (fun v i wr => ∃ (k : Nat) (A : List J) (a1 : Fm) (ad1 : Option Addr) (n1 c1 : Nat) (ad2 : Option Addr) (n2 c2 : Nat) (st2 : St), k ≤ x ∧ i = .int .u16 k ∧ A.length = k ∧ Hid (M.Fs s.data.toList P x a st1 (A.map J.f) a1 (x - k) st2) ∧ Hid (Lst wr (w.heap.size + 1) v A) ∧
      Hid (Rx wr R pv s P st2) ∧ Hid (w.grownBy wr (some R)) ∧ Hid (Bk wr w.heap.size #[.int .i64 a1.at_, .slice ad1 n1 c1, .slice ad2 n2 c2] 29) ∧ Hid (TIn wr (.slice ad1 n1 c1) a1.locals) ∧ Hid (a1.locals ≠ [] → ∀ b o, ad1 = some ⟨b, o, none⟩ → b ≠ R) ∧ n1 ≤ c1 ∧ a1.locals.length ≤ 65536 + 3 * k ∧ a1.stack.length ≤ 65536 ∧ -1 ≤ a1.at_ ∧ a1.at_ ≤ 1000 + 65536 * k) (fun _ i _ => x - (intOf i).toNat)
  case atStart => exact ⟨0, [], a, ad, _, lcap, sd, sn, sc, st1, Nat.zero_le _, rfl, rfl, M.Fs.zero _ _ _ _ _, Lst.nil _ _, hr1, hg1', hQ1, hl1, fun hp b o e => unhide HN hp b o _ _ (by rw [e]), hcap2, by omega, by omega, by omega, by omega⟩
  case round =>
    clear hr1 hg1' hQ1 hl1 HN HL hcap2
    obtain ⟨k, A, a1, ad1, n1, c1, ad2, n2, c2, st2, hkx, rfl, hAk, HF, HLs, Hr, Hg, HQ, HT, HNe, hnc, hl1, hs1, ha1, ha1'⟩ := hrel
    by_cases hlt : k < x
    · have hki : (k : Int) < (x : Int) := by omega
      have HFr := hide (frame_any R pv (.slice ad1 n1 c1) (.slice ad2 n2 c2) s P a1 st2 wr (unhide Hr) hs hP (unhide HT) (fun hp b o n c e => by cases e; exact unhide HNe hp b o rfl) (fun ad n c e => by cases e; exact hnc) ⟨_, _, _, rfl⟩ (by omega) (by omega) (by omega))
      have HF2 : Hid (M.Fs s.data.toList P x a st1 (A.map J.f) a1 ((x - (k + 1)) + 1) st2) := by
        have : x - (k + 1) + 1 = x - k := by omega
        rw [this]; exact HF
      have HSt := hide (fun g => (unhide HF2).step g)
      have HSp := hide (fun g => (unhide HF2).stop g)
      have hfl := M.frame_len (s := s.data.toList) (P := P) (a := a1) (st := st2) hl1 hs1 (by omega)
      have hfa := M.frame_at (s := s.data.toList) (P := P) (a := a1) (st := st2)
      obtain ⟨F, stF, hFF⟩ : ∃ F stF, M.frame s.data.toList P a1 st2 = (F, stF) := ⟨_, _, rfl⟩
      rw [hFF] at HFr HSt HSp hfl hfa
      simp only at HFr HSt HSp hfl hfa
      have hQ := unhide HQ
      have q0 := hQ.cell 0
      have q1 := hQ.cell 1
      have q2 := hQ.cell 2
      simp at q0 q1 q2
      have HA := hide hAk
      have HLl := hide hfl
      have HLa := hide hfa
      have ha3 := hide ha1
      have ha4 := hide ha1'
      clear hFF HF HF2 HT HNe HQ hl1 hs1 hnc hAk hfl hfa ha1 ha1'
      go_wp2_with fail
      refine (unhide HFr).mono ?_
      rintro e w1 ⟨z, b1, m1, d1, b2, m2, d2, rfl, hr1, hg1, hok⟩
      have hwz := (unhide Hg).size
      have hLs1 := (unhide HLs).kept hg1 (fun b e => by cases e; omega)
      have hgw1 := grown_trans (unhide Hg) hg1
      have hQ1 := hQ.kept hg1 (by simp; omega)
      have q0 := hQ1.cell 0
      have q1 := hQ1.cell 1
      have q2 := hQ1.cell 2
      have qf := hQ1.frozen
      simp at q0 q1 q2
      obtain ⟨w2, hw2⟩ : ∃ w2, w2 = ((w1.setCell ⟨w.heap.size, 0, none⟩ (.int .i64 z)).setCell ⟨w.heap.size, 1, none⟩ (.slice b1 m1 d1)).setCell ⟨w.heap.size, 2, none⟩ (.slice b2 m2 d2) := ⟨_, rfl⟩
      have he3 := end3 (unhide H0) hgw1 hr1.rd hr1.pos hQ1 (Nat.le_refl _) (.int .i64 z) (.slice b1 m1 d1) (.slice b2 m2 d2)
      rw [← hw2] at he3
      obtain ⟨hQ2, hr2, hgw2⟩ := he3
      have hLs2 : Lst w2 (w.heap.size + 1) u5 A := by
        rw [hw2]
        exact ((hLs1.kept (grown_set _ _ 0 _) (fun b e => by cases e; omega)).kept (grown_set _ _ 1 _) (fun b e => by cases e; omega)).kept (grown_set _ _ 2 _) (fun b e => by cases e; omega)
      have hok2 : stF.e = 0 → z = F.at_ ∧ Own2 w2 wr.heap.size (.slice b1 m1 d1) (.slice b2 m2 d2) F.locals F.stack := fun g => by
        obtain ⟨g1, g2, g3, g4⟩ := hok g
        have hqr := hQ.lt
        have o1 : (Value.slice b1 m1 d1).ownBlock ≠ some w.heap.size := fun e => by have := (ins_in g2 e).1; omega
        have o2 : (Value.slice b2 m2 d2).ownBlock ≠ some w.heap.size := fun e => by have := (ins_in g3 e).1; omega
        refine ⟨g1, ?_, ?_, g4⟩
        · rw [hw2]; exact own_set3 g2 o1
        · rw [hw2]; exact own_set3 g3 o2
      have hbl : ∀ b, b ∈ u5.ownBlock.toList ++ blocks A → b < wr.heap.size := fun b hb => ((unhide HLs).blocks_in hb).2
      have hwz2 : w.heap.size < wr.heap.size := hQ.lt
      have HW2 := hide hw2
      have HG := hide (Gd_any R pv s P stF w2 hr2)
      clear HFr hr1 hg1 hok hLs1 hgw1 hw2 hQ Hr Hg HLs hQ1
      go_upto_region 5 with fail
      rw [← unhide HW2]
      clear HW2 q0 q1 q2 qf
      go_wp2_with fail
      refine (unhide HG).mono ?_
      rintro e w3 ⟨rfl, hw3⟩
      subst w3
      clear HG
      by_cases he : stF.e = 0
      · rw [decide_eq_true he]
        have HSt2 := hide (unhide HSt he)
        obtain ⟨hzF, hown⟩ := hok2 he
        have He := hide he
        subst hzF
        have q0 := hQ2.cell 0
        have q1 := hQ2.cell 1
        have q2 := hQ2.cell 2
        simp at q0 q1 q2
        have hAl : A.length = k := unhide HA
        have hw2z := hgw2.size
        clear HSt HSp he hok2
        have hrow := hLs2.row
        obtain ⟨N, hN⟩ : ∃ N, N = A.length := ⟨_, rfl⟩
        rw [← hN] at hrow hAl
        have HNn := hide hN
        have hNl : N ≤ 65535 := by omega
        clear hN hAl
        go_wp2_with (at_builtin; refine wpList_append_own_at _ rfl _ _ 24 rfl (w.heap.size + 1) 29 i0 (.agg #[.int .i64 0, .slice none 0 0, .slice none 0 0]) 3 56 Try.underlying24 hi hz0 hz1 hz2 rfl (by decide) _ N (JC A) rfl (hrow.alloc _) ⟨w2.heap.size, 0, none⟩ 1 1 [.int .i64 F.at_, .slice b1 m1 d1, .slice b2 m2 d2] rfl rfl ?c1 ?c2 ?c3 ?c4 ?c5 ?_)
        case c1 =>
          intro j u hj
          rw [Addr.add_lit, Nat.zero_add, (Bk.new w2 _ 29).cell j]
          simpa using hj
        case c2 => intro u hu; simp at hu; rcases hu with rfl | rfl | rfl <;> rfl
        case c3 => unfold maxLen; omega
        case c4 => omega
        case c5 => have := hQ2.lt; simp; omega
        intro v' w4 hown' hgrow _ hbv
        have hlt2 := (hrow.alloc (.cells #[.int .i64 F.at_, .slice b1 m1 d1, .slice b2 m2 d2] 29)).lt
        have hgw4 := grown_own (grown_alloc hgw2 (.cells #[.int .i64 F.at_, .slice b1 m1 d1, .slice b2 m2 d2] 29)) hgrow (fun b e => by have := (hlt2 b e).1; omega)
        have hrd4 : Rd w4 R pv s stF := (hr2.below ((Below.refl _ _).alloc (Nat.le_refl _) _)).rd.kept hgrow (fun e => by have := (hlt2 R e.symm).1; omega)
        have Hr4 := hide ((unhide H0).step hrd4 hgw4 hr2.pos)
        have HQ4 := hide ((hQ2.alloc (.cells #[.int .i64 F.at_, .slice b1 m1 d1, .slice b2 m2 d2] 29)).kept hgrow (fun e => by have := (hlt2 _ e.symm).1; omega))
        have hL4 : Lst w4 (w.heap.size + 1) v' (A ++ [⟨F, .slice b1 m1 d1, .slice b2 m2 d2⟩]) :=
          hLs2.push2 (N := wr.heap.size) (by omega) hbl hown (by rw [← unhide HNn]; exact hown') hgrow (by simpa using hbv)
        have HL4 := hide hL4
        have HT4 := hide (TIn.of_own (hL4.own ⟨F, .slice b1 m1 d1, .slice b2 m2 d2⟩ (by simp)).l)
        have hoc := own_cap (hL4.own ⟨F, .slice b1 m1 d1, .slice b2 m2 d2⟩ (by simp)).l
        have HNe4 := hide (fun (_ : F.locals ≠ []) (b o : Nat) (e : b1 = some ⟨b, o, none⟩) => (by
          have := (ins_in (hL4.own ⟨F, .slice b1 m1 d1, .slice b2 m2 d2⟩ (by simp)).l (b := b) (by rw [e]; rfl)).1
          omega : b ≠ R))
        have Hoc := hide hoc
        have Hg4 := hide hgw4
        simp only at HT4
        clear hown' hgrow hbv hgw4 hrd4 hlt2 hLs2 hgw2 hr2 hQ2 hown hrow hbl hL4 hoc q0 q1 q2
        go_wp2
        go_roundw
        case rel =>
          have hl5 := unhide HLl
          have ha5 := unhide HLa
          have ha6 := unhide ha3
          have ha7 := unhide ha4
          exact ⟨k + 1, _, F, b1, m1, d1, b2, m2, d2, stF, by omega, by go_num, by simp; exact unhide HA, by rw [List.map_append]; exact HSt2, HL4, Hr4, Hg4, HQ4, HT4, HNe4, (unhide Hoc).2, by omega, by omega, by omega, by omega⟩
        case measure => simp [intOf]; omega
      · rw [decide_eq_false he]
        have HSp2 := hide (unhide HSp he)
        have He := hide he
        have hfin : M.fin s.data.toList (M.frames s.data.toList P x a st1).2 = stF := by rw [unhide HSp2]; exact M.fin_bad he
        have HFin := hide hfin
        clear HSt HSp he hok2 hfin
        go_wp2
        go_ret
        exact ⟨_, _, _, rfl, by rw [unhide HFin]; exact hr2, hgw2, fun g => absurd (by rw [unhide HFin] at g; exact g) (unhide He)⟩
    · have hki : ¬ (k : Int) < (x : Int) := by omega
      have hkl : x - k = 0 := by omega
      rw [hkl] at HF
      have HD := hide ((unhide HF).done)
      obtain ⟨vd, vc, ev⟩ := (unhide HLs).slice
      rw [hAk] at ev
      have HFi := hide (Fi_any R pv s P st2 wr (unhide Hr))
      have Hev := hide ev
      rw [ev] at HLs ⊢
      clear HF hkl ev HT HQ HNe
      go_wp2_with fail
      refine (unhide HFi).mono ?_
      rintro e w1 ⟨rfl, hr1, hg1⟩
      have hLs1 := ((unhide HLs).kept hg1 (fun b e => by cases e; omega)).base (Nat.le_succ _)
      go_wp2
      go_ret
      exact ⟨_, _, _, rfl, by rw [unhide HD]; exact hr1, grown_trans (unhide Hg) hg1, fun _ => ⟨A, by rw [unhide HD], hLs1⟩⟩
end Go.Proofs.Ytgihfcjddkpkaaa
