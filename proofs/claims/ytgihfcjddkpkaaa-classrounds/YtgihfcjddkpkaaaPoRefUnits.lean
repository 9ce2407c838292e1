/-
  jvmcoreref1's Units, for whatever bytes.
-/
import Derived.Test.YtgihfcjddkpkaaaMgPoAppend
namespace Go.Proofs.Ytgihfcjddkpkaaa.Po
set_option maxRecDepth 100000
open Go.RowKit
def RBox (s : ByteArray) (w wr : World) (t : ByteArray) (v : Value) (L : List Nat) : Prop :=
  M.Ok L ∧ M.text L ++ t.data.toList = s.data.toList ∧ L.length + t.size ≤ s.size ∧ wr.ownsRow w.heap.size 3 1 v L.length (I64 L) ∧ Below w.heap.size w wr
theorem list_ne {t : ByteArray} (h : 0 < t.size) : t.data.toList ≠ [] := by
  intro hh; have := size_of_list hh; rw [List.length_nil] at this; omega
theorem take_extract (t : ByteArray) (n : Nat) : (t.extract 0 n).toList = t.data.toList.take n := by
  rw [ByteArray.toList_eq, ByteArray.data_extract, Array.toList_extract, List.extract_eq_take_drop]; simp
theorem extract_len (t : ByteArray) (n : Nat) : (t.extract n t.size).size = t.size - n := by simp
theorem RBox.step {s : ByteArray} {w wr w3 : World} {t : ByteArray} {v v' : Value} {L : List Nat} {u n : Nat} (h : RBox s w wr t v L) (hp : M.pick t.data.toList = (u, n)) (ht : 0 < t.size) (he : M.enc u = t.data.toList.take n)
    (ho : w3.ownsRow w.heap.size 3 1 v' (L.length + 1) (I64 L ++ [.int .i64 (u : Int)])) (hb : Below w.heap.size w w3) : RBox s w w3 (t.extract n t.size) v' (L ++ [u]) := by
  obtain ⟨r1, r2, r3, r4, r5⟩ := h
  have hu := M.pick_lt t.data.toList
  have hl := M.pick_len (list_ne ht)
  rw [hp] at hu hl
  have hl2 : n ≤ t.size := by have := hl.2.1; rwa [← size_of_list rfl] at this
  have hn1 : 1 ≤ n := hl.1
  refine ⟨fun x hx => ?_, ?_, ?_, ?_, hb⟩
  · rcases List.mem_append.1 hx with q | q
    · exact r1 x q
    · simp at q; rw [q]; exact hu
  · rw [M.text_snoc, drop_extract, he, List.append_assoc, List.take_append_drop, r2]
  · rw [List.length_append, List.length_singleton, extract_len]; omega
  · rw [I64_snoc, List.length_append, List.length_singleton]; exact ho
theorem RBox.stop {s : ByteArray} {w wr : World} {t : ByteArray} {v : Value} {L : List Nat} {u n : Nat} (h : RBox s w wr t v L) (hp : M.pick t.data.toList = (u, n)) (ht : 0 < t.size) (he : M.enc u ≠ t.data.toList.take n) : M.Units s.data.toList none := by
  obtain ⟨r1, r2, -, -, -⟩ := h
  rw [← r2]
  exact M.stop_none r1 (list_ne ht) (M.pick_none (by rw [hp]; exact he))
def RefUnitsed (s : ByteArray) (w : World) (e : Ending) (w' : World) : Prop :=
  (∃ L v, M.Ok L ∧ M.text L = s.data.toList ∧ L.length ≤ s.size ∧ e = .returned (.tuple #[v, .bool true]) ∧ w'.ownsRow w.heap.size 3 1 v L.length (I64 L) ∧ Below w.heap.size w w') ∨
  (M.Units s.data.toList none ∧ e = .returned (.tuple #[.slice none 0 0, .bool false]) ∧ Below w.heap.size w w')
def strSize : Value → Nat | .string q => q.size | _ => 0
theorem byte_bd (t : ByteArray) (k : Nat) (h : k < t.size) : 0 ≤ ((t[k]).toNat : Int) ∧ ((t[k]).toNat : Int) ≤ 255 := by
  have := (t[k]).toNat_lt; omega

set_option maxRecDepth 100000 in
set_option maxHeartbeats 2000000 in
theorem RefUnits_any (s : ByteArray) (w : World) (hs : s.size ≤ 131072) :
    Calls Try.prog 79 #[.string s] w fun e w' => RefUnitsed s w e w' := by
  have hR0 : RBox s w w s (.slice none 0 0) [] := ⟨fun _ h => by simp at h, by simp [M.text], by simp, World.ownsRow_nil _ _ _ _, Below.refl _ _⟩
  obtain ⟨i0, hi, hz0, hz1, hz2⟩ := info_parts Try.info3
  go_enter Try.func79, Try.ntmps79
  go_wp2_with fail
  go_loopw [0, 4] (fun t v wr => ∃ q, ∃ L : List Nat, t = .string q ∧ RBox s w wr q v L) (fun t _ _ => strSize t)
  case atStart => exact ⟨s, [], rfl, hR0⟩
  case round =>
    clear hR0
    obtain ⟨t, L, rfl, hR⟩ := hrel
    obtain ⟨r1, r2, r3, r4, r5⟩ := id hR
    have Hr2 := hide r2
    clear r2
    by_cases hlt : 0 < t.size
    · have hne : (!t.toList.isEmpty) = true := by
        rw [ByteArray.toList_eq]; have := list_ne hlt; simpa using this
      have hts : t.size ≤ 131072 := by omega
      obtain ⟨b, hb⟩ : ∃ b : Int, (t[0].toNat : Int) = b := ⟨_, rfl⟩
      have hbb : 0 ≤ b ∧ b ≤ 255 := by rw [← hb]; exact byte_bd t 0 hlt
      have hb0 : ((t.data.toList.getD 0 0).toNat : Int) = b := by rw [← hb, at_of_list rfl 0 hlt]
      by_cases hA : 224 ≤ b ∧ 3 ≤ t.size
      · obtain ⟨c, hc⟩ : ∃ b : Int, ((t[1]'(by omega)).toNat : Int) = b := ⟨_, rfl⟩
        obtain ⟨d, hd⟩ : ∃ b : Int, ((t[2]'(by omega)).toNat : Int) = b := ⟨_, rfl⟩
        have hcc : 0 ≤ c ∧ c ≤ 255 := by rw [← hc]; exact byte_bd t 1 (by omega)
        have hdd : 0 ≤ d ∧ d ≤ 255 := by rw [← hd]; exact byte_bd t 2 (by omega)
        have hc0 : ((t.data.toList.getD 1 0).toNat : Int) = c := by rw [← hc, at_of_list rfl 1 (by omega)]
        have hd0 : ((t.data.toList.getD 2 0).toNat : Int) = d := by rw [← hd, at_of_list rfl 2 (by omega)]
        have hp := M.pick3 (l := t.data.toList) ⟨by omega, by rw [← size_of_list rfl]; omega⟩
        obtain ⟨u, hu⟩ : ∃ u : Nat, u = (t.data.toList.getD 0 0).toNat % 16 * 4096 + (t.data.toList.getD 1 0).toNat % 64 * 64 + (t.data.toList.getD 2 0).toNat % 64 := ⟨_, rfl⟩
        rw [← hu] at hp
        have Hu := hide (show b % 16 * 4096 + c % 64 * 64 + d % 64 = (u : Int) by omega)
        have hu6 : u < 65536 := by omega
        clear hu hb0 hc0 hd0
        have hq : (2 : Int) < (t.size : Int) := by omega
        have hq1 : (1 : Int) < (t.size : Int) := by omega
        have Hp0 := hide hp
        clear hp
        go_wp2_with fail
        go_quiet (fail)
        go_wp2_with fail
        rw [unhide Hu]
        have hp := unhide Hp0
        clear Hu Hp0 hc hd hcc hdd hb hbb hA
        have Hp := hide hp
        clear hp
        go_region_with (go_at_call 105; refine (unit_any u _ hu6).mono ?_; rintro e w' ⟨rfl, hb'⟩)
        have hbw : Below wr.heap.size wr w' := (below_drewN (Below.refl wr.heap.size wr) (nq + 1)).trans hb'
        have ho := own_below r4 (Nat.le_refl _) hbw
        have hbz : Below w.heap.size w w' := r5.trans (hbw.mono r5.size)
        by_cases hE : M.enc u = t.data.toList.take 3
        · have hq2 : (M.enc u == (t.extract 0 3).toList) = true := by rw [take_extract, ← hE]; simp
          simp only [hq2, Bool.not_true]
          have hz3 := hbw.size
          have hz4 := r5.size
          have HE := hide hE
          clear hE
          go_wp2_with (at_builtin; refine wpList_append_own _ rfl _ _ 147 rfl w.heap.size 3 i0 (.int .i64 0) 1 8 Try.underlying147 hi hz0 hz1 hz2 rfl (by decide) _ _ _ rfl (ho.alloc _) ⟨w'.heap.size, 0, none⟩ 1 1 [.int .i64 u] rfl rfl ?c1 ?c2 ?c3 ?c4 ?c5 ?_)
          case c1 =>
            intro j u hj
            match j, hj with
            | 0, hj => simp at hj; subst hj; simp [Addr.add]
          case c2 => intro u hu; simp at hu; subst hu; rfl
          case c3 => unfold maxLen; omega
          case c4 => omega
          case c5 => simp; omega
          intro v' w1 hown' hgrow _
          have hb3 : Below w.heap.size w w1 := (hbz.alloc (by omega) _).grown hgrow (by simp; omega) (fun j hj => by have := (ho.lt j hj).1; omega)
          have hst := hR.step (unhide Hp) hlt (unhide HE) hown' hb3
          clear hown' hgrow ho HE hR r4 Hr2 Hp
          go_wp2
          go_roundw
          case rel => exact ⟨_, L ++ [u], rfl, hst⟩
          case measure => simp only [strSize]; rw [extract_len]; omega
        · have hq2 : (M.enc u == (t.extract 0 3).toList) = false := by rw [take_extract]; simpa using hE
          simp only [hq2, Bool.not_false]
          have hst := hR.stop (unhide Hp) hlt hE
          clear hE hR r4 Hr2 Hp ho
          go_wp2
          go_ret2
          exact .inr ⟨hst, rfl, hbz⟩
      · by_cases hB : 192 ≤ b ∧ 2 ≤ t.size
        · obtain ⟨c, hc⟩ : ∃ b : Int, ((t[1]'(by omega)).toNat : Int) = b := ⟨_, rfl⟩
          have hcc : 0 ≤ c ∧ c ≤ 255 := by rw [← hc]; exact byte_bd t 1 (by omega)
          have hc0 : ((t.data.toList.getD 1 0).toNat : Int) = c := by rw [← hc, at_of_list rfl 1 (by omega)]
          have hp := M.pick2 (l := t.data.toList) (by rw [← size_of_list rfl]; omega) ⟨by omega, by rw [← size_of_list rfl]; omega⟩
          obtain ⟨u, hu⟩ : ∃ u : Nat, u = (t.data.toList.getD 0 0).toNat % 32 * 64 + (t.data.toList.getD 1 0).toNat % 64 := ⟨_, rfl⟩
          rw [← hu] at hp
          have Hu := hide (show b % 32 * 64 + c % 64 = (u : Int) by omega)
          have hu6 : u < 65536 := by omega
          clear hu hb0 hc0
          have hq1 : (1 : Int) < (t.size : Int) := by omega
          have Hp0 := hide hp
          clear hp
          by_cases hG : 224 ≤ b
          all_goals
            have hA' : 224 ≤ b → decide ((3 : Int) ≤ (t.size : Int)) = false := fun h => by simp; omega
            go_wp2_with fail
            rw [unhide Hu]
            have hp := unhide Hp0
            clear Hu Hp0 hc hcc hb hbb hA hB hA' hG
            have Hp := hide hp
            clear hp
            go_region_with (go_at_call 105; refine (unit_any u _ hu6).mono ?_; rintro e w' ⟨rfl, hb'⟩)
            have hbw : Below wr.heap.size wr w' := (Below.refl wr.heap.size wr).drew.trans hb'
            have ho := own_below r4 (Nat.le_refl _) hbw
            have hbz : Below w.heap.size w w' := r5.trans (hbw.mono r5.size)
            by_cases hE : M.enc u = t.data.toList.take 2
            · have hq2 : (M.enc u == (t.extract 0 2).toList) = true := by rw [take_extract, ← hE]; simp
              simp only [hq2, Bool.not_true]
              have hz3 := hbw.size
              have hz4 := r5.size
              have HE := hide hE
              clear hE
              go_wp2_with (at_builtin; refine wpList_append_own _ rfl _ _ 147 rfl w.heap.size 3 i0 (.int .i64 0) 1 8 Try.underlying147 hi hz0 hz1 hz2 rfl (by decide) _ _ _ rfl (ho.alloc _) ⟨w'.heap.size, 0, none⟩ 1 1 [.int .i64 u] rfl rfl ?c1 ?c2 ?c3 ?c4 ?c5 ?_)
              case c1 =>
                intro j u hj
                match j, hj with
                | 0, hj => simp at hj; subst hj; simp [Addr.add]
              case c2 => intro u hu; simp at hu; subst hu; rfl
              case c3 => unfold maxLen; omega
              case c4 => omega
              case c5 => simp; omega
              intro v' w1 hown' hgrow _
              have hb3 : Below w.heap.size w w1 := (hbz.alloc (by omega) _).grown hgrow (by simp; omega) (fun j hj => by have := (ho.lt j hj).1; omega)
              have hst := hR.step (unhide Hp) hlt (unhide HE) hown' hb3
              clear hown' hgrow ho HE hR r4 Hr2 Hp
              go_wp2
              go_roundw
              case rel => exact ⟨_, L ++ [u], rfl, hst⟩
              case measure => simp only [strSize]; rw [extract_len]; omega
            · have hq2 : (M.enc u == (t.extract 0 2).toList) = false := by rw [take_extract]; simpa using hE
              simp only [hq2, Bool.not_false]
              have hst := hR.stop (unhide Hp) hlt hE
              clear hE hR r4 Hr2 Hp ho
              go_wp2
              go_ret2
              exact .inr ⟨hst, rfl, hbz⟩
        · have hp := M.pick1 (l := t.data.toList) (by rw [← size_of_list rfl]; omega) (by rw [← size_of_list rfl]; omega)
          obtain ⟨u, hu⟩ : ∃ u : Nat, u = (t.data.toList.getD 0 0).toNat := ⟨_, rfl⟩
          rw [← hu] at hp
          have hbu : b = (u : Int) := by omega
          have hu6 : u < 65536 := by omega
          clear hu hb0
          subst hbu
          have hq1 : (1 : Int) ≤ (t.size : Int) := by omega
          have hq0 : (0 : Int) < (t.size : Int) := by omega
          have Hp0 := hide hp
          clear hp
          rcases (show ((u : Int) < 192) ∨ (192 ≤ (u : Int) ∧ (u : Int) < 224) ∨ 224 ≤ (u : Int) by omega) with hG | hG | hG
          all_goals
            go_wp2_with fail
            have hp := unhide Hp0
            clear Hp0 hb hbb hA hB hG
            have Hp := hide hp
            clear hp
            go_region_with (go_at_call 105; refine (unit_any u _ hu6).mono ?_; rintro e w' ⟨rfl, hb'⟩)
            have hbw : Below wr.heap.size wr w' := (Below.refl wr.heap.size wr).drew.trans hb'
            have ho := own_below r4 (Nat.le_refl _) hbw
            have hbz : Below w.heap.size w w' := r5.trans (hbw.mono r5.size)
            by_cases hE : M.enc u = t.data.toList.take 1
            · have hq2 : (M.enc u == (t.extract 0 1).toList) = true := by rw [take_extract, ← hE]; simp
              simp only [hq2, Bool.not_true]
              have hz3 := hbw.size
              have hz4 := r5.size
              have HE := hide hE
              clear hE
              go_wp2_with (at_builtin; refine wpList_append_own _ rfl _ _ 147 rfl w.heap.size 3 i0 (.int .i64 0) 1 8 Try.underlying147 hi hz0 hz1 hz2 rfl (by decide) _ _ _ rfl (ho.alloc _) ⟨w'.heap.size, 0, none⟩ 1 1 [.int .i64 u] rfl rfl ?c1 ?c2 ?c3 ?c4 ?c5 ?_)
              case c1 =>
                intro j u hj
                match j, hj with
                | 0, hj => simp at hj; subst hj; simp [Addr.add]
              case c2 => intro u hu; simp at hu; subst hu; rfl
              case c3 => unfold maxLen; omega
              case c4 => omega
              case c5 => simp; omega
              intro v' w1 hown' hgrow _
              have hb3 : Below w.heap.size w w1 := (hbz.alloc (by omega) _).grown hgrow (by simp; omega) (fun j hj => by have := (ho.lt j hj).1; omega)
              have hst := hR.step (unhide Hp) hlt (unhide HE) hown' hb3
              clear hown' hgrow ho HE hR r4 Hr2 Hp
              go_wp2
              go_roundw
              case rel => exact ⟨_, L ++ [u], rfl, hst⟩
              case measure => simp only [strSize]; rw [extract_len]; omega
            · have hq2 : (M.enc u == (t.extract 0 1).toList) = false := by rw [take_extract]; simpa using hE
              simp only [hq2, Bool.not_false]
              have hst := hR.stop (unhide Hp) hlt hE
              clear hE hR r4 Hr2 Hp ho
              go_wp2
              go_ret2
              exact .inr ⟨hst, rfl, hbz⟩
    · have hne : (!t.toList.isEmpty) = false := by
        rw [ByteArray.toList_eq]
        have : t.data.toList = [] := List.length_eq_zero_iff.1 (by rw [← size_of_list rfl]; omega)
        simp [this]
      have r2 := unhide Hr2
      have ht0 : t.data.toList = [] := List.length_eq_zero_iff.1 (by rw [← size_of_list rfl]; omega)
      rw [ht0, List.append_nil] at r2
      have H2 := hide r2
      clear r2 Hr2 hR ht0
      go_wp2
      go_ret2
      exact .inl ⟨L, _, r1, unhide H2, by omega, rfl, r4, r5⟩
end Go.Proofs.Ytgihfcjddkpkaaa.Po
