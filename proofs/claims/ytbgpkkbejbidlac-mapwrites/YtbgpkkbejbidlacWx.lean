/-
  MapWrites: the walk, of what the reference's WriteMap has still to be shown to answer (WMS).
-/
import Derived.Test.YtbgpkkbejbidlacWk
namespace Go.Proofs.Ytbgpkkbejbidlac
open Go.RowKit
/-- What the reference's WriteMap answers, of few frames. -/
def WMS : Prop := ∀ (v pv lv : Value) (L : List J) (P : List K) (F : List T) (w : World), Has w v L → KIn w pv P → TIn w lv F → (∀ ad n c, lv = .slice ad n c → n ≤ c) → (∀ j ∈ L, Fok j) → F.length ≤ 4096 → P.length ≤ 4096 → Txt P → L.length ≤ 4096 → wsum L ≤ 4096 →
  Calls Try.prog 13 #[v, pv, lv] w fun e w' => WrR (M.write P F (L.map J.f)) w e w'
theorem Has.below {w w' : World} {v : Value} {L : List J} (h : Has w v L) (hb : Below w.heap.size w w') : Has w' v L := by
  refine ⟨?_, fun j hj => ⟨(h.own j hj).1.below hb, (h.own j hj).2.below hb⟩⟩
  obtain ⟨ad, cap, e, hc⟩ := h.form
  refine ⟨ad, cap, e, fun hne => ?_⟩
  obtain ⟨b, o, e1, hk⟩ := hc hne
  refine ⟨b, o, e1, fun k hk1 i hi => ?_⟩
  have h5 := hk k hk1 i hi
  have hci : (L[k]).cells[i]? = some ((L[k]).cells[i]'(by rw [J.cells_length]; exact hi)) := List.getElem?_eq_getElem _
  rw [hci] at h5 ⊢
  rw [hb.cell (cell_lt h5)]; exact h5
theorem wsum_map {L K : List J} (h : L.map J.f = K.map J.f) : wsum L = wsum K := by
  induction L generalizing K with
  | nil => cases K with
    | nil => rfl
    | cons k K => simp at h
  | cons j L ih => cases K with
    | nil => simp at h
    | cons k K =>
      simp only [List.map_cons, List.cons.injEq] at h
      rw [wsum, wsum, ih h.2, h.1]
/-- Both answer alike. -/
def Two (v pv lv : Value) (L : List J) (P : List K) (F : List T) (w : World) : Prop := ∃ (sr : ByteArray) (xi ki : Int),
  (∀ W, Below w.heap.size w W → Calls Try.prog 9 #[v, pv, lv] W fun e w' => e = .returned (.tuple #[.string sr, .int .i64 xi, .int .i64 ki]) ∧ Below W.heap.size W w') ∧
  (∀ (W : World) (B : Nat) (ad : Option Addr) (n c : Nat) (K : List J) (pd : Option Addr) (pn pc : Nat) (ld : Option Addr) (ln lc : Nat), L.map J.f = K.map J.f → Lst W B (.slice ad n c) K → KIn W (.slice pd pn pc) P → TIn W (.slice ld ln lc) F → ln ≤ lc →
    Calls Try.prog 13 #[.slice ad n c, .slice pd pn pc, .slice ld ln lc] W fun e w' => e = .returned (.tuple #[.string sr, .int .i64 xi, .int .i64 ki]) ∧ Below W.heap.size W w')
theorem own78_slice {w : World} {B n : Nat} {v : Value} {xs : List Value} (h : w.ownsRow B 78 5 v n xs) : ∃ ad c, v = .slice ad n c := by
  rcases h.2 with ⟨rfl, h0⟩ | ⟨g, cap, cur, rfl, _⟩
  · exact ⟨none, 0, by rw [h0]⟩
  · exact ⟨_, _, rfl⟩
set_option maxRecDepth 100000 in
set_option maxHeartbeats 4000000 in
theorem mwrites_core (v pv lv : Value) (L : List J) (P : List K) (F : List T) (w : World) (hL : L.length * 56 ≤ 140737488355328) (hP : P.length * 40 ≤ 140737488355328) (hF : F.length ≤ 4398046511104) (hv : Has w v L) (hp : KIn w pv P) (hl : TIn w lv F)
    (hb : ∀ j ∈ L, j.f.locals.length ≤ 4398046511104 ∧ j.f.stack.length ≤ 4398046511104)
    (hwe : Calls Try.prog 11 #[v] w fun e w' => ∃ r : Int, e = .returned (.int .i64 r) ∧ Below w.heap.size w w' ∧ Hid (wrap64 (wrap64 (r + (P.length : Int)) + (F.length : Int)) ≤ 4096 → Two v pv lv L P F w)) :
    Calls Try.prog 4 #[v, pv, lv] w fun x w' => x = .returned (.bool true) ∧ Below w.heap.size w w' := by
  have Hv := hide hv
  have Hp := hide hp
  have Hl := hide hl
  have HTn := hide (fun (W : World) (hbW : Below w.heap.size w W) => twin_any L v W ((unhide Hv).below hbW) hb hL)
  have HWe := hide hwe
  have Hb := hide hb
  obtain ⟨vad, vcap, ev, _⟩ := hv.form
  obtain ⟨lad, lcap, elv, _⟩ := hl
  obtain ⟨pad, pcap, epv, _⟩ := hp.ex
  subst ev elv epv
  clear hv hp hwe hb
  go_enter Try.func4, Try.ntmps4
  go_wp2_with fail
  refine (unhide HWe).mono ?_
  rintro e w1 ⟨r, rfl, hb1, H2⟩
  clear HWe
  go_wp2_with fail
  · go_wp2
    go_ret
    exact ⟨rfl, hb1⟩
  · have hgd : wrap64 (wrap64 (r + (P.length : Int)) + (F.length : Int)) ≤ 4096 := by assumption
    obtain ⟨sr, xi, ki, hW9, hW13⟩ := unhide H2 hgd
    have HW9 := hide hW9
    have HW13 := hide hW13
    clear hgd H2 hW9 hW13
    refine (unhide HTn w1 hb1).mono ?_
    rintro e w2 ⟨ad2, n2, c2, K, rfl, hLK, hK2, hb2⟩
    have hbw2 := hb1.trans (hb2.mono hb1.size)
    have hp2 := (unhide Hp).below hbw2
    have HLK := hide hLK
    have HK2 := hide hK2
    clear HTn hLK hK2
    go_upto_region 5 with (at_builtin; refine wpList_copyK _ rfl _ _ rfl _ P rfl rfl hp2 hP w2.heap.size (Nat.le_refl _) ?_; intro v8 w3 ho8 hb3; obtain ⟨a8, c8, e8⟩ := own78_slice ho8; subst e8)
    have hbw3 := hbw2.trans (hb3.mono hbw2.size)
    have hl3 := (unhide Hl).below hbw3
    have hq3 := KIn.of_own (unhide Hp).fit ho8
    have Hq3 := hide hq3
    clear hp2 ho8 hq3
    go_upto_region 6 with (at_builtin; refine wpList_copyG _ rfl _ _ rfl _ F rfl rfl hl3 hF w3.heap.size (Nat.le_refl _) ?_; intro v9 w4 ho9 hb4; obtain ⟨a9, n9, c9, e9⟩ := own_slice ho9; subst e9)
    have hbw4 := hbw3.trans (hb4.mono hbw3.size)
    have hcap9 := (own_cap ho9).2
    have HT4 := hide (TIn.of_own ho9)
    have Hq4 := hide ((unhide Hq3).below hb4)
    have hb24 := hb3.trans (hb4.mono hb3.size)
    have HK4 := hide ((unhide HK2).kept (grown_of_below hb24 none) (fun _ e => by cases e))
    have HW := hide (unhide HW9 w4 hbw4)
    clear hl3 Hq3 HK2 hb24 ho9 HW9 hb3 hb4 hbw2 hbw3
    go_wp2_with fail
    refine (unhide HW).mono ?_
    rintro e w5 ⟨rfl, hb5⟩
    have hbw5 := hbw4.trans (hb5.mono hbw4.size)
    have HK5 := hide ((unhide HK4).kept (grown_of_below hb5 none) (fun _ e => by cases e))
    have HM := hide (unhide HW13 w5 _ ad2 n2 c2 K a8 P.length c8 a9 n9 c9 (unhide HLK) (unhide HK5) ((unhide Hq4).below hb5) ((unhide HT4).below hb5) hcap9)
    clear HW HW13 HK4
    go_wp2_with fail
    refine (unhide HM).mono ?_
    rintro e w6 ⟨rfl, hb6⟩
    have hbw6 := hbw5.trans (hb6.mono hbw5.size)
    have hb46 := hb5.trans (hb6.mono hb5.size)
    have HSf := hide (fun k => sameFramesG_eq (.slice vad L.length vcap) (.slice ad2 n2 c2) L K (w6.drewN k) (((unhide Hv).below hbw6).below ⟨rfl, rfl, rfl, Nat.le_refl _, fun _ _ => rfl⟩) ((Has.of_lst ((unhide HK5).kept (grown_of_below hb6 none) (fun _ e => by cases e))).below ⟨rfl, rfl, rfl, Nat.le_refl _, fun _ _ => rfl⟩) (unhide HLK) (by omega) (fun j hj => by have := unhide Hb j hj; omega))
    have HSt := hide (fun k => sameTypesG_eq (.slice lad F.length lcap) (.slice a9 n9 c9) F (w6.drewN k) (((unhide Hl).below hbw6).drewN k) (((unhide HT4).below hb46).drewN k) (by omega))
    have HSp := hide (fun k => samePoolG_eq (.slice pad P.length pcap) (.slice a8 P.length c8) P (w6.drewN k) (((unhide Hp).below hbw6).below ⟨rfl, rfl, rfl, Nat.le_refl _, fun _ _ => rfl⟩) (((unhide Hq4).below hb46).below ⟨rfl, rfl, rfl, Nat.le_refl _, fun _ _ => rfl⟩) (by omega))
    have Hbw6 := hide hbw6
    clear HM HK5 hbw5 hbw4 hb5 hb6 hb46 hbw6 Hq4 HT4
    have f1 : (xi == xi) = true := by simp
    have f2 : (ki == ki) = true := by simp
    go_wp2_with fail
    refine (unhide HSf 0).mono ?_
    rintro e w7 ⟨rfl, k7, hw7⟩
    subst w7
    clear HSf
    go_wp2_with fail
    refine (unhide HSt _).mono ?_
    rintro e w8 ⟨rfl, k8, hw8⟩
    subst w8
    clear HSt
    go_wp2_with fail
    refine (unhide HSp _).mono ?_
    rintro e w9 ⟨rfl, k9, hw9⟩
    subst w9
    clear HSp
    go_wp2
    go_ret
    have hq := unhide Hbw6
    exact ⟨rfl, ⟨hq.os, hq.tape, hq.output, hq.size, hq.block⟩⟩
end Go.Proofs.Ytbgpkkbejbidlac
