/-
  MapRounds: the walk.
-/
import Derived.Test.YtbgpkkbejbidlacRw
import Derived.Test.YtbgpkkbejbidlacRq
import Derived.Test.YtbgpkkbejbidlacSm
import Derived.Deep.RegionHeld3
namespace Go.Proofs.Ytbgpkkbejbidlac
open Go.RowKit
theorem probe (w : World) : Calls Try.prog 8 #[.string ⟨#[0, 1, 5]⟩, .slice none 0 0, .slice none 0 0] w fun x w' =>
    ∃ b o c, x = .returned (.tuple #[.slice (some ⟨b, o, none⟩) 1 c, .int .i64 0, .int .i64 0]) ∧ Below w.heap.size w w' ∧ w'.cell? ⟨b, o, none⟩ = some (.int .i64 5) := by
  refine (Read_any (.slice none 0 0) (.slice none 0 0) ⟨#[0, 1, 5]⟩ [] [] w (by decide) (by simp) ⟨(fun _ h => by cases h), none, 0, rfl, fun hne => absurd rfl hne⟩ (TIn.nil _ _ _) (fun ad n c e => by cases e; exact Nat.le_refl _) (by simp)).mono ?_
  rintro e w' ⟨ad, n, c, rfl, hb, hok, _⟩
  obtain ⟨L, hL, hLs⟩ := hok rfl
  have h1 : L.map J.f = [⟨5, [], []⟩] := hL
  obtain ⟨j, rfl⟩ : ∃ j, L = [j] := List.length_eq_one_iff.1 (by have := congrArg List.length h1; simpa using this)
  have hj : j.f = ⟨5, [], []⟩ := by simpa using h1
  obtain ⟨⟨ad', c', e1, h2⟩, _⟩ := Has.of_lst hLs
  obtain ⟨b, o, e2, h3⟩ := h2 (by simp)
  cases e1
  subst e2
  have h4 := (At3.of (h3 0 (by simp))).1
  simp only [List.getElem_cons_zero, hj, Nat.zero_mul, Nat.add_zero] at h4
  exact ⟨b, o, _, rfl, hb, h4⟩
/-- What writing what was read comes to. -/
theorem writes (pv lv : Value) (s : ByteArray) (P : List K) (F : List T) (w w3 : World) (hs : F.length + s.size ≤ 65535) (hP : P.length ≤ 1048576) (hp : KIn w pv P) (hl : TIn w lv F) (hcap : ∀ ad n c, lv = .slice ad n c → n ≤ c) (htx : Txt P) (htk : Tok F)
    (he : (M.fin s.data.toList (M.all s.data.toList P F).2).e = 0) (hat : ∀ f ∈ (M.all s.data.toList P F).1, f.at_ ≤ 65535) (hw : Below w.heap.size w w3) {B : Nat} {v : Value} {L : List J} (hL : Lst w3 B v L) (hLf : L.map J.f = (M.all s.data.toList P F).1) :
    Calls Try.prog 9 #[v, pv, lv] w3 fun e w' => Below w3.heap.size w3 w' ∧ ((∃ k : Nat, e = .returned (.tuple #[.string ⟨#[]⟩, .int .i64 7, .int .i64 (k : Int)])) ∨
      ∃ b : ByteArray, e = .returned (.tuple #[.string b, .int .i64 0, .int .i64 0]) ∧ b.size ≤ s.size ∧ ∀ W, Below w.heap.size w W → Calls Try.prog 8 #[.string b, pv, lv] W fun e W' => ∃ ad n c K, e = .returned (.tuple #[.slice ad n c, .int .i64 0, .int .i64 0]) ∧ Below W.heap.size W W' ∧ L.map J.f = K.map J.f ∧ Has W' (.slice ad n c) K) := by
  have hsl : s.data.toList.length = s.size := by rw [Array.length_toList]; rfl
  obtain ⟨r1, r2, r3⟩ := M.round (P := P) (F := F) (by rw [hsl]; omega) he hat
  have hll := M.all_ll he
  have hn := M.all_n (s := s.data.toList) (P := P) (F := F)
  have hto : ∀ f ∈ (M.all s.data.toList P F).1, Tok f.locals ∧ Tok f.stack := M.frames_all htx htk
  have hLl : L.length ≤ 65535 := by have := congrArg List.length hLf; rw [List.length_map] at this; omega
  have hfok : ∀ j ∈ L, Fok j := fun j hj => by
    have hm : j.f ∈ (M.all s.data.toList P F).1 := by rw [← hLf]; exact List.mem_map_of_mem hj
    have h1 := hll _ hm
    rw [hsl] at h1
    exact ⟨(hto _ hm).1, (hto _ hm).2, fun ad n c e => by have := (hL.own j hj).l; rw [e] at this; exact (own_cap this).2, by omega, by omega⟩
  refine (Write_any v pv lv L P F w3 (Has.of_lst hL) (hp.below hw) (hl.below hw) hfok (by omega) hP htx (by omega) (fun k b hb => by rw [hLf] at hb; have := r2 k b hb; rw [hsl] at this; omega)).mono ?_
  rintro e w' ⟨hb, hr⟩
  rw [hLf] at hr ⊢
  refine ⟨hb, ?_⟩
  cases hwr : M.write P F (M.all s.data.toList P F).1 with
  | error x =>
    rw [hwr] at hr
    have h7 := r1 x hwr
    obtain ⟨x1, x2⟩ := x
    simp only at hr h7
    subst h7
    exact .inl ⟨x2, hr⟩
  | ok b =>
    rw [hwr] at hr
    simp only at hr
    obtain ⟨q1, q2, q3⟩ := r3 b hwr
    have hbs : (⟨b.toArray⟩ : ByteArray).size = b.length := by show b.toArray.size = _; rw [List.size_toArray]
    rw [hsl] at q1
    refine .inr ⟨⟨b.toArray⟩, hr, by omega, fun W hW => ?_⟩
    refine (Read_any pv lv ⟨b.toArray⟩ P F W (by omega) hP (hp.below hW) (hl.below hW) hcap (by omega)).mono ?_
    rintro e W' ⟨ad, n, c, rfl, hb2, hok, _⟩
    have q4 : (M.fin b (M.frames b P (M.rd b 2 ⟨0, 0, 0⟩).1 ⟨-1, F, []⟩ (M.rd b 2 ⟨0, 0, 0⟩).2).2).e = 0 := q3
    have q5 : (M.frames b P (M.rd b 2 ⟨0, 0, 0⟩).1 ⟨-1, F, []⟩ (M.rd b 2 ⟨0, 0, 0⟩).2).1 = (M.all s.data.toList P F).1 := by have := congrArg Prod.fst q2; exact this
    simp only at hok ⊢
    obtain ⟨K, hK1, hK2⟩ := hok q4
    refine ⟨ad, n, c, K, by rw [if_pos q4, q4]; rfl, hb2, by rw [hK1]; exact q5.symm, Has.of_lst hK2⟩
set_option maxRecDepth 100000 in
set_option maxHeartbeats 4000000 in
theorem rounds_walk (pv lv : Value) (s : ByteArray) (P : List K) (F : List T) (w : World) (hs : s.size ≤ 140737488355328) (hP : P.length ≤ 140737488355328) (hF : F.length ≤ 140737488355328) (hp : KIn w pv P) (hl : TIn w lv F) (hcap : ∀ ad n c, lv = .slice ad n c → n ≤ c) (htx : Txt P) (htk : Tok F) :
    Calls Try.prog 3 #[.string s, pv, lv] w fun x w' => x = .returned (.bool true) ∧ Below w.heap.size w w' := by
  have Hp := hide hp
  have Hl := hide hl
  have Hcap := hide hcap
  obtain ⟨lad, lcap, elv, _⟩ := hl
  obtain ⟨pad, pcap, epv, _⟩ := hp.ex
  subst elv epv
  clear hp hcap
  by_cases hbig : 4096 < s.size + P.length + F.length
  · have hz : (4096 : Int) < (s.size : Int) + (P.length : Int) + (F.length : Int) := by omega
    go_enter Try.func3, Try.ntmps3
    go_wp2
    go_ret
    exact ⟨rfl, Below.refl _ _⟩
  · have hz : ¬ (4096 : Int) < (s.size : Int) + (P.length : Int) + (F.length : Int) := by omega
    have hs1 : s.size ≤ 131072 := by omega
    have hP1 : P.length ≤ 1048576 := by omega
    have hF1 : F.length ≤ 65536 := by omega
    have hFs0 : F.length + s.size ≤ 65535 := by omega
    have HPr := hide (probe w)
    have HRd := hide (fun (W : World) (hb : Below w.heap.size w W) => Read_any (.slice pad P.length pcap) (.slice lad F.length lcap) s P F W hs1 hP1 ((unhide Hp).below hb) ((unhide Hl).below hb) (unhide Hcap) hF1)
    have HWr := hide (fun (W : World) he hat (hb : Below w.heap.size w W) (B : Nat) (v : Value) (L : List J) (hL : Lst W B v L) hLf => writes (.slice pad P.length pcap) (.slice lad F.length lcap) s P F w W hFs0 hP1 (unhide Hp) (unhide Hl) (unhide Hcap) htx htk he hat hb hL hLf)
    have hn := M.all_n (s := s.data.toList) (P := P) (F := F)
    have hll := M.all_ll (s := s.data.toList) (P := P) (F := F)
    rw [show s.data.toList.length = s.size by rw [Array.length_toList]; rfl] at hll
    obtain ⟨Fs, hFs⟩ : ∃ Fs, Fs = (M.all s.data.toList P F).1 := ⟨_, rfl⟩
    obtain ⟨st', hst⟩ : ∃ st', st' = M.fin s.data.toList (M.all s.data.toList P F).2 := ⟨_, rfl⟩
    have HRd : Hid (∀ (W : World) (hb : Below w.heap.size w W), Calls Try.prog 8 #[.string s, .slice pad P.length pcap, .slice lad F.length lcap] W fun x w' => RmR Fs st' W x w') := hide (by rw [hFs, hst]; exact unhide HRd)
    rw [← hFs] at hn
    rw [← hFs, ← hst] at hll
    simp only [← hFs, ← hst] at HWr
    have Hll := hide hll
    clear hFs hst hll
    go_enter Try.func3, Try.ntmps3
    go_wp2_with fail
    refine (unhide HPr).mono ?_
    rintro e w1 ⟨pb, po, pc, rfl, hb1, hc1⟩
    clear HPr
    go_wp2_with fail
    refine (unhide HRd w1 hb1).mono ?_
    rintro e w2 ⟨ad2, n2, c2, rfl, hb2', hok2, hno2⟩
    have hb2 := hb1.trans (hb2'.mono hb1.size)
    obtain ⟨pl, hpl⟩ : ∃ pl, pl = (if st'.e = 0 then 0 else st'.p) := ⟨_, rfl⟩
    rw [← hpl]
    clear HRd hpl hc1
    by_cases he : st'.e = 0
    · have hd : (((st'.e : Int) != 0) : Bool) = false := by rw [he]; rfl
      obtain ⟨L, hL1, hL2⟩ := hok2 he
      have hHas := Has.of_lst hL2
      obtain ⟨⟨ad', cap', e1, hc⟩, hown⟩ := hHas
      cases e1
      have hLl : L.length ≤ 65535 := by have := congrArg List.length hL1; rw [List.length_map] at this; omega
      have He := hide he
      have HL1 := hide hL1
      have HL2 := hide hL2
      have Hc := hide hc
      have Hb2 := hide hb2
      clear hok2 hno2 he hL1 hL2 hc hown hb2 hb2' hb1
      go_wp2_with fail
      go_loopw [61] (fun i wr => ∃ k : Nat, k ≤ L.length ∧ i = .int .i64 k ∧ Hid (Below w2.heap.size w2 wr) ∧ Hid (∀ j ∈ L.take k, j.f.at_ ≤ 65535)) (fun i _ => L.length - (intOf i).toNat)
      case atStart => exact ⟨0, Nat.zero_le _, rfl, Below.refl _ _, fun j hj => by cases hj⟩
      case round =>
        obtain ⟨k, hk, rfl, HB, HA⟩ := hrel
        by_cases hlt : k < L.length
        · have ki : (k : Int) < (L.length : Int) := by omega
          have hne : L ≠ [] := by rintro rfl; simp at hlt
          obtain ⟨b0, o0, rfl, hcell⟩ := unhide Hc hne
          obtain ⟨x0, x1, x2⟩ := At3.of (hcell k hlt)
          rw [← (unhide HB).cell (cell_lt x0)] at x0
          rw [← (unhide HB).cell (cell_lt x1)] at x1
          rw [← (unhide HB).cell (cell_lt x2)] at x2
          have htk2 : L.take (k + 1) = L.take k ++ [L[k]] := by rw [List.take_add_one, List.getElem?_eq_getElem hlt]; rfl
          have Htk2 := hide htk2
          obtain ⟨p1, p2, e1, _⟩ := TIn.of_own ((unhide HL2).own _ (List.getElem_mem hlt)).l
          obtain ⟨p3, p4, e2, _⟩ := TIn.of_own ((unhide HL2).own _ (List.getElem_mem hlt)).s
          rw [e1] at x1
          rw [e2] at x2
          have HBa := hide ((unhide HB).alloc (unhide HB).size (.cells #[.int .i64 (L[k]).f.at_, .slice p1 (L[k]).f.locals.length p2, .slice p3 (L[k]).f.stack.length p4] 29))
          generalize L[k] = j at *
          clear e1 e2 htk2 hne hcell
          by_cases hat : 65535 < j.f.at_
          · clear Htk2
            go_wp2
            go_ret
            exact ⟨rfl, (unhide Hb2).trans ((unhide HBa).mono (unhide Hb2).size)⟩
          · go_wp2
            go_roundw
            case rel =>
              refine ⟨k + 1, by omega, by go_num, HBa, ?_⟩
              intro x hx
              rw [unhide Htk2] at hx
              rcases List.mem_append.1 hx with hx | hx
              · exact unhide HA x hx
              · rw [List.mem_singleton.1 hx]; omega
            case measure => simp [intOf]; omega
        · have hkl : k = L.length := by omega
          subst hkl
          have ki : ¬ (L.length : Int) < (L.length : Int) := by omega
          have hall : ∀ f ∈ Fs, f.at_ ≤ 65535 := fun f hf => by
            rw [← unhide HL1] at hf
            obtain ⟨j, hj, rfl⟩ := List.mem_map.1 hf
            exact unhide HA j (by rw [List.take_length]; exact hj)
          have hbr := (unhide Hb2).trans ((unhide HB).mono (unhide Hb2).size)
          have hLr := (unhide HL2).kept (grown_of_below (unhide HB) none) (fun _ e => by cases e)
          have HW := hide (unhide HWr wr (unhide He) hall hbr _ _ L hLr (unhide HL1))
          have HLr := hide hLr
          have Hbr := hide hbr
          clear HWr hall hbr hLr HA
          go_wp2_with fail
          refine (unhide HW).mono ?_
          rintro e w4 ⟨hb4, hres⟩
          have hbw4 := (unhide Hbr).trans (hb4.mono (unhide Hbr).size)
          clear HW
          rcases hres with ⟨kk, rfl⟩ | ⟨out, rfl, hsz, hrd⟩
          · have Hbw4 := hide hbw4
            clear hbw4 hb4
            go_wp2
            go_ret
            exact ⟨rfl, unhide Hbw4⟩
          · have HRd2 := hide (hrd w4 hbw4)
            have hsz2 : (out.size : Int) ≤ (s.size : Int) := by omega
            clear hrd
            go_wp2_with fail
            refine (unhide HRd2).mono ?_
            rintro e w5 ⟨ad5, n5, c5, Kl, rfl, hb5, hK1, hK2⟩
            have hb45 := hb4.trans (hb5.mono hb4.size)
            have hL5 := (unhide HLr).kept (grown_of_below hb45 none) (fun _ e => by cases e)
            have HSm := hide (sameFrames_eq _ _ L Kl w5 (Has.of_lst hL5) hK2 hK1 (by omega) (fun j hj => by
              have := unhide Hll (unhide He) j.f (by rw [← unhide HL1]; exact List.mem_map_of_mem hj)
              omega))
            have hbw5 := hbw4.trans (hb5.mono hbw4.size)
            have Hbw5 := hide hbw5
            clear HRd2 hK1 hK2 hL5 hb45 hbw5 hb4 hb5 hbw4
            go_wp2_with fail
            refine (unhide HSm).mono ?_
            rintro e w6 ⟨rfl, k6, hw6⟩
            subst w6
            clear HSm
            go_wp2
            go_ret
            have hq := unhide Hbw5
            exact ⟨rfl, ⟨hq.os, hq.tape, hq.output, hq.size, hq.block⟩⟩
    · have hd : (((st'.e : Int) != 0) : Bool) = true := by simpa using he
      obtain ⟨rfl, rfl, rfl⟩ := hno2 he
      have Hb2 := hide hb2
      clear hok2 hno2 he hb2 hb2' hb1
      go_wp2
      go_ret
      exact ⟨rfl, unhide Hb2⟩
end Go.Proofs.Ytbgpkkbejbidlac
