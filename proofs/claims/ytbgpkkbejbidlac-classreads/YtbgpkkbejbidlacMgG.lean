/-
  jvmcoreref1's unit and Units.
  jvmcoreref1's Units, for whatever bytes.
-/
import Derived.Test.YtbgpkkbejbidlacMgC
import Derived.Deep.QuietTactic
import Derived.BigQuiet
import Derived.Deep.RegionWith
namespace Go.Proofs.Ytbgpkkbejbidlac.Po
set_option maxRecDepth 100000
open Go.RowKit
namespace M
/-- The unit and its length as the reference reckons them from the first bytes. -/
def pick (l : List UInt8) : Nat × Nat :=
  if 224 ≤ (l.getD 0 0).toNat ∧ 3 ≤ l.length then ((l.getD 0 0).toNat % 16 * 4096 + (l.getD 1 0).toNat % 64 * 64 + (l.getD 2 0).toNat % 64, 3)
  else if 192 ≤ (l.getD 0 0).toNat ∧ 2 ≤ l.length then ((l.getD 0 0).toNat % 32 * 64 + (l.getD 1 0).toNat % 64, 2) else ((l.getD 0 0).toNat, 1)
theorem pick3 {l : List UInt8} (h : 224 ≤ (l.getD 0 0).toNat ∧ 3 ≤ l.length) : pick l = ((l.getD 0 0).toNat % 16 * 4096 + (l.getD 1 0).toNat % 64 * 64 + (l.getD 2 0).toNat % 64, 3) := by unfold pick; rw [if_pos h]
theorem pick2 {l : List UInt8} (h : ¬ (224 ≤ (l.getD 0 0).toNat ∧ 3 ≤ l.length)) (h2 : 192 ≤ (l.getD 0 0).toNat ∧ 2 ≤ l.length) : pick l = ((l.getD 0 0).toNat % 32 * 64 + (l.getD 1 0).toNat % 64, 2) := by unfold pick; rw [if_neg h, if_pos h2]
theorem pick1 {l : List UInt8} (h : ¬ (224 ≤ (l.getD 0 0).toNat ∧ 3 ≤ l.length)) (h2 : ¬ (192 ≤ (l.getD 0 0).toNat ∧ 2 ≤ l.length)) : pick l = ((l.getD 0 0).toNat, 1) := by unfold pick; rw [if_neg h, if_neg h2]
theorem pick_lt (l : List UInt8) : (pick l).1 < 65536 := by
  have h0 := (l.getD 0 0).toNat_lt
  by_cases h1 : 224 ≤ (l.getD 0 0).toNat ∧ 3 ≤ l.length
  · rw [pick3 h1]; simp only; omega
  · by_cases h2 : 192 ≤ (l.getD 0 0).toNat ∧ 2 ≤ l.length
    · rw [pick2 h1 h2]; simp only; omega
    · rw [pick1 h1 h2]; simp only; omega
theorem pick_len {l : List UInt8} (h : l ≠ []) : 1 ≤ (pick l).2 ∧ (pick l).2 ≤ l.length ∧ (pick l).2 ≤ 3 := by
  have hl := List.length_pos_iff.2 h
  by_cases h1 : 224 ≤ (l.getD 0 0).toNat ∧ 3 ≤ l.length
  · rw [pick3 h1]; simp only; omega
  · by_cases h2 : 192 ≤ (l.getD 0 0).toNat ∧ 2 ≤ l.length
    · rw [pick2 h1 h2]; simp only; omega
    · rw [pick1 h1 h2]; simp only; omega
theorem pick_yes {l : List UInt8} {v : Nat} {t : List UInt8} (hv : v < 65536) (h : l = enc v ++ t) : pick l = (v, size v) := by
  cases l with
  | nil =>
    exfalso; have := enc_ne v; cases he : enc v with
    | nil => exact this he
    | cons a b => rw [he] at h; cases h
  | cons x r =>
    have hxt := x.toNat_lt
    rcases begin1 hv h with ⟨a1, a2, a3⟩ | ⟨a1, a2, c, ⟨r', rfl⟩, a3, a4, a5, a6⟩ | ⟨a1, a2, c, d, ⟨r', rfl⟩, a3, a4, a5, a6, a7, a8⟩
    · rw [pick1 (by simp only [List.getD_cons_zero]; omega) (by simp only [List.getD_cons_zero]; omega)]
      unfold size; rw [if_pos (by omega), a3]; rfl
    · rw [pick2 (by simp only [List.getD_cons_zero]; omega) (by simp only [List.getD_cons_zero, List.length_cons]; omega)]
      unfold size; rw [if_neg a6, if_pos (by omega)]
      simp only [List.getD_cons_zero, List.getD_cons_succ, Prod.mk.injEq, and_true]; omega
    · rw [pick3 (by simp only [List.getD_cons_zero, List.length_cons]; omega)]
      unfold size; rw [if_neg (by omega), if_neg a8]
      simp only [List.getD_cons_zero, List.getD_cons_succ, Prod.mk.injEq, and_true]; omega
theorem pick_first {l : List UInt8} (hl : l ≠ []) (h : enc (pick l).1 = l.take (pick l).2) : (pick l).2 = size (pick l).1 ∧ l = enc (pick l).1 ++ l.drop (pick l).2 := by
  refine ⟨?_, by rw [h, List.take_append_drop]⟩
  rw [← enc_length, h, List.length_take]; have := pick_len hl; omega
theorem pick_none {l : List UInt8} (h : enc (pick l).1 ≠ l.take (pick l).2) : ∀ v, v < 65536 → ∀ r, l ≠ enc v ++ r := by
  intro v hv r hr
  refine h ?_
  rw [pick_yes hv hr, hr, List.take_left' (enc_length v)]
end M
theorem bytes_new (w : World) (l : List UInt8) (C : Array Value) (n : Nat) (hC : C = (l.map fun b => Value.int .u8 (b.toNat : Int)).toArray) (hn : n = l.length) :
    Sem.run Try.prog (convert 67 9 (.slice (some ⟨w.heap.size, 0, none⟩) n n)) (w.alloc (.cells C 5)) = .ok (.string ⟨l.toArray⟩) (w.alloc (.cells C 5)) := by
  subst hn
  refine run_convert_bytes_back (P := Try.prog) (w.alloc (.cells C 5)) 67 9 5 ⟨w.heap.size, 0, none⟩ l.length l Try.underlying67 Try.underlying5 Try.underlying9 fun j hj => ?_
  have : (⟨w.heap.size, 0, none⟩ : Addr).add j = ⟨w.heap.size, j, none⟩ := by simp [Addr.add]; omega
  rw [this, World.cell?_alloc_at _ _ _ _ rfl, hC]
  simp [hj]
theorem of_lt {n : Nat} (h : n < 256) : ((UInt8.ofNat n).toNat : Int) = (n : Int) := by simp only [UInt8.toNat_ofNat']; omega
set_option maxRecDepth 100000 in
set_option maxHeartbeats 400000 in
theorem unit_any (u : Nat) (w : World) (hu : u < 65536) :
    Calls Try.prog 105 #[.int .i64 u] w fun e w' => e = .returned (.string ⟨(M.enc u).toArray⟩) ∧ Below w.heap.size w w' := by
  by_cases h1 : 0 < u ∧ u < 128
  · have hc := bytes_new w (M.enc u) #[.int .u8 u] 1 (by rw [M.enc1 h1]; simp only [List.map_cons, List.map_nil]; rw [of_lt (show u < 256 by omega)]) (by rw [M.enc1 h1]; rfl)
    obtain ⟨E, hE⟩ : ∃ E, E = M.enc u := ⟨_, rfl⟩
    rw [← hE] at hc ⊢
    clear hE
    have hb : Below w.heap.size w (w.alloc (.cells #[.int .u8 (u : Int)] 5)) := (Below.refl _ _).alloc (Nat.le_refl _) _
    go_enter Try.func105, Try.ntmps105
    go_wp2
    go_ret
    exact ⟨rfl, hb⟩
  by_cases h2 : u < 2048
  · have hc := bytes_new w (M.enc u) #[.int .u8 (192 + (u : Int) / 64), .int .u8 (128 + (u : Int) % 64)] 2
      (by rw [M.enc2 h1 h2]; simp only [List.map_cons, List.map_nil]; rw [of_lt (show 192 + u / 64 < 256 by omega), of_lt (show 128 + u % 64 < 256 by omega)]; rfl) (by rw [M.enc2 h1 h2]; rfl)
    obtain ⟨E, hE⟩ : ∃ E, E = M.enc u := ⟨_, rfl⟩
    rw [← hE] at hc ⊢
    clear hE
    have hb : Below w.heap.size w (w.alloc (.cells #[.int .u8 (192 + (u : Int) / 64), .int .u8 (128 + (u : Int) % 64)] 5)) := (Below.refl _ _).alloc (Nat.le_refl _) _
    go_enter Try.func105, Try.ntmps105
    go_wp2
    all_goals go_ret
    all_goals exact ⟨rfl, hb⟩
  · have hc := bytes_new w (M.enc u) #[.int .u8 (224 + (u : Int) / 4096), .int .u8 (128 + (u : Int) / 64 % 64), .int .u8 (128 + (u : Int) % 64)] 3
      (by rw [M.enc3 h2]; simp only [List.map_cons, List.map_nil]; rw [of_lt (show 224 + u / 4096 < 256 by omega), of_lt (show 128 + u / 64 % 64 < 256 by omega), of_lt (show 128 + u % 64 < 256 by omega)]; rfl) (by rw [M.enc3 h2]; rfl)
    obtain ⟨E, hE⟩ : ∃ E, E = M.enc u := ⟨_, rfl⟩
    rw [← hE] at hc ⊢
    clear hE
    have hb : Below w.heap.size w (w.alloc (.cells #[.int .u8 (224 + (u : Int) / 4096), .int .u8 (128 + (u : Int) / 64 % 64), .int .u8 (128 + (u : Int) % 64)] 5)) := (Below.refl _ _).alloc (Nat.le_refl _) _
    go_enter Try.func105, Try.ntmps105
    go_wp2
    all_goals go_ret
    all_goals exact ⟨rfl, hb⟩
theorem Try.info3 : (Try.prog.info? 3).map (fun i => (i.zero, i.size, i.bytes)) = some (some (.int .i64 0), 1, 8) := by kernel_rfl
def I64 (l : List Nat) : List Value := l.map fun (u : Nat) => Value.int .i64 (u : Int)
theorem I64_snoc (l : List Nat) (u : Nat) : I64 (l ++ [u]) = I64 l ++ [.int .i64 (u : Int)] := by simp [I64]
end Go.Proofs.Ytbgpkkbejbidlac.Po
namespace Go.Proofs.Ytbgpkkbejbidlac.Po
set_option maxRecDepth 100000
open Go.RowKit
def RBox (s : ByteArray) (w wr : World) (t : ByteArray) (v : Value) (L : List Nat) : Prop :=
  M.Ok L ∧ M.text L ++ t.data.toList = s.data.toList ∧ L.length + t.size ≤ s.size ∧ wr.ownsRow w.heap.size 3 1 v L.length (I64 L) ∧ Below w.heap.size w wr
theorem list_ne {t : ByteArray} (h : 0 < t.size) : t.data.toList ≠ [] := by
  intro hh; have := size_of_list hh; rw [List.length_nil] at this; omega
theorem take_extract (t : ByteArray) (n : Nat) : (t.extract 0 n).toList = t.data.toList.take n := by
  rw [ByteArray.toList_eq, ByteArray.data_extract, Array.toList_extract, List.extract_eq_take_drop]; simp
theorem extract_len (t : ByteArray) (n : Nat) : (t.extract n t.size).size = t.size - n := by simp
theorem RBox.step {s : ByteArray} {w wr w3 : World} {t : ByteArray} {v v' : Value} {L : List Nat} {u n : Nat} (h : RBox s w wr t v L) (hp : M.pick t.data.toList = (u, n)) (ht : 0 < t.size) (he : M.enc u = t.data.toList.take n)
    (ho : w3.ownsRow w.heap.size 3 1 v' (L.length + 1) (I64 L ++ [.int .i64 (u : Int)])) (hb : Below w.heap.size w w3) : RBox s w w3 (t.extract n t.size) v' (L ++ [u]) := by
  obtain ⟨r1, r2, r3, r4, r5⟩ := h
  have hu := M.pick_lt t.data.toList
  have hl := M.pick_len (list_ne ht)
  rw [hp] at hu hl
  have hl2 : n ≤ t.size := by have := hl.2.1; rwa [← size_of_list rfl] at this
  have hn1 : 1 ≤ n := hl.1
  refine ⟨fun x hx => ?_, ?_, ?_, ?_, hb⟩
  · rcases List.mem_append.1 hx with q | q
    · exact r1 x q
    · simp at q; rw [q]; exact hu
  · rw [M.text_snoc, drop_extract, he, List.append_assoc, List.take_append_drop, r2]
  · rw [List.length_append, List.length_singleton, extract_len]; omega
  · rw [I64_snoc, List.length_append, List.length_singleton]; exact ho
theorem RBox.stop {s : ByteArray} {w wr : World} {t : ByteArray} {v : Value} {L : List Nat} {u n : Nat} (h : RBox s w wr t v L) (hp : M.pick t.data.toList = (u, n)) (ht : 0 < t.size) (he : M.enc u ≠ t.data.toList.take n) : M.Units s.data.toList none := by
  obtain ⟨r1, r2, -, -, -⟩ := h
  rw [← r2]
  exact M.stop_none r1 (list_ne ht) (M.pick_none (by rw [hp]; exact he))
def RefUnitsed (s : ByteArray) (w : World) (e : Ending) (w' : World) : Prop :=
  (∃ L v, M.Ok L ∧ M.text L = s.data.toList ∧ L.length ≤ s.size ∧ e = .returned (.tuple #[v, .bool true]) ∧ w'.ownsRow w.heap.size 3 1 v L.length (I64 L) ∧ Below w.heap.size w w') ∨
  (M.Units s.data.toList none ∧ e = .returned (.tuple #[.slice none 0 0, .bool false]) ∧ Below w.heap.size w w')
def strSize : Value → Nat | .string q => q.size | _ => 0
theorem byte_bd (t : ByteArray) (k : Nat) (h : k < t.size) : 0 ≤ ((t[k]).toNat : Int) ∧ ((t[k]).toNat : Int) ≤ 255 := by
  have := (t[k]).toNat_lt; omega

set_option maxRecDepth 100000 in
set_option maxHeartbeats 2000000 in
theorem RefUnits_any (s : ByteArray) (w : World) (hs : s.size ≤ 131072) :
    Calls Try.prog 79 #[.string s] w fun e w' => RefUnitsed s w e w' := by
  have hR0 : RBox s w w s (.slice none 0 0) [] := ⟨fun _ h => by simp at h, by simp [M.text], by simp, World.ownsRow_nil _ _ _ _, Below.refl _ _⟩
  obtain ⟨i0, hi, hz0, hz1, hz2⟩ := info_parts Try.info3
  go_enter Try.func79, Try.ntmps79
  go_wp2_with fail
  go_loopw [0, 4] (fun t v wr => ∃ q, ∃ L : List Nat, t = .string q ∧ RBox s w wr q v L) (fun t _ _ => strSize t)
  case atStart => exact ⟨s, [], rfl, hR0⟩
  case round =>
    clear hR0
    obtain ⟨t, L, rfl, hR⟩ := hrel
    obtain ⟨r1, r2, r3, r4, r5⟩ := id hR
    have Hr2 := hide r2
    clear r2
    by_cases hlt : 0 < t.size
    · have hne : (!t.toList.isEmpty) = true := by
        rw [ByteArray.toList_eq]; have := list_ne hlt; simpa using this
      have hts : t.size ≤ 131072 := by omega
      obtain ⟨b, hb⟩ : ∃ b : Int, (t[0].toNat : Int) = b := ⟨_, rfl⟩
      have hbb : 0 ≤ b ∧ b ≤ 255 := by rw [← hb]; exact byte_bd t 0 hlt
      have hb0 : ((t.data.toList.getD 0 0).toNat : Int) = b := by rw [← hb, at_of_list rfl 0 hlt]
      by_cases hA : 224 ≤ b ∧ 3 ≤ t.size
      · obtain ⟨c, hc⟩ : ∃ b : Int, ((t[1]'(by omega)).toNat : Int) = b := ⟨_, rfl⟩
        obtain ⟨d, hd⟩ : ∃ b : Int, ((t[2]'(by omega)).toNat : Int) = b := ⟨_, rfl⟩
        have hcc : 0 ≤ c ∧ c ≤ 255 := by rw [← hc]; exact byte_bd t 1 (by omega)
        have hdd : 0 ≤ d ∧ d ≤ 255 := by rw [← hd]; exact byte_bd t 2 (by omega)
        have hc0 : ((t.data.toList.getD 1 0).toNat : Int) = c := by rw [← hc, at_of_list rfl 1 (by omega)]
        have hd0 : ((t.data.toList.getD 2 0).toNat : Int) = d := by rw [← hd, at_of_list rfl 2 (by omega)]
        have hp := M.pick3 (l := t.data.toList) ⟨by omega, by rw [← size_of_list rfl]; omega⟩
        obtain ⟨u, hu⟩ : ∃ u : Nat, u = (t.data.toList.getD 0 0).toNat % 16 * 4096 + (t.data.toList.getD 1 0).toNat % 64 * 64 + (t.data.toList.getD 2 0).toNat % 64 := ⟨_, rfl⟩
        rw [← hu] at hp
        have Hu := hide (show b % 16 * 4096 + c % 64 * 64 + d % 64 = (u : Int) by omega)
        have hu6 : u < 65536 := by omega
        clear hu hb0 hc0 hd0
        have hq : (2 : Int) < (t.size : Int) := by omega
        have hq1 : (1 : Int) < (t.size : Int) := by omega
        have Hp0 := hide hp
        clear hp
        go_wp2_with fail
        go_quiet (fail)
        go_wp2_with fail
        rw [unhide Hu]
        have hp := unhide Hp0
        clear Hu Hp0 hc hd hcc hdd hb hbb hA
        have Hp := hide hp
        clear hp
        go_region_with (go_at_call 105; refine (unit_any u _ hu6).mono ?_; rintro e w' ⟨rfl, hb'⟩)
        have hbw : Below wr.heap.size wr w' := (below_drewN (Below.refl wr.heap.size wr) (nq + 1)).trans hb'
        have ho := own_below r4 (Nat.le_refl _) hbw
        have hbz : Below w.heap.size w w' := r5.trans (hbw.mono r5.size)
        by_cases hE : M.enc u = t.data.toList.take 3
        · have hq2 : (M.enc u == (t.extract 0 3).toList) = true := by rw [take_extract, ← hE]; simp
          simp only [hq2, Bool.not_true]
          have hz3 := hbw.size
          have hz4 := r5.size
          have HE := hide hE
          clear hE
          go_wp2_with (at_builtin; refine wpList_append_own _ rfl _ _ 147 rfl w.heap.size 3 i0 (.int .i64 0) 1 8 Try.underlying147 hi hz0 hz1 hz2 rfl (by decide) _ _ _ rfl (ho.alloc _) ⟨w'.heap.size, 0, none⟩ 1 1 [.int .i64 u] rfl rfl ?c1 ?c2 ?c3 ?c4 ?c5 ?_)
          case c1 =>
            intro j u hj
            match j, hj with
            | 0, hj => simp at hj; subst hj; simp [Addr.add]
          case c2 => intro u hu; simp at hu; subst hu; rfl
          case c3 => unfold maxLen; omega
          case c4 => omega
          case c5 => simp; omega
          intro v' w1 hown' hgrow _
          have hb3 : Below w.heap.size w w1 := (hbz.alloc (by omega) _).grown hgrow (by simp; omega) (fun j hj => by have := (ho.lt j hj).1; omega)
          have hst := hR.step (unhide Hp) hlt (unhide HE) hown' hb3
          clear hown' hgrow ho HE hR r4 Hr2 Hp
          go_wp2
          go_roundw
          case rel => exact ⟨_, L ++ [u], rfl, hst⟩
          case measure => simp only [strSize]; rw [extract_len]; omega
        · have hq2 : (M.enc u == (t.extract 0 3).toList) = false := by rw [take_extract]; simpa using hE
          simp only [hq2, Bool.not_false]
          have hst := hR.stop (unhide Hp) hlt hE
          clear hE hR r4 Hr2 Hp ho
          go_wp2
          go_ret2
          exact .inr ⟨hst, rfl, hbz⟩
      · by_cases hB : 192 ≤ b ∧ 2 ≤ t.size
        · obtain ⟨c, hc⟩ : ∃ b : Int, ((t[1]'(by omega)).toNat : Int) = b := ⟨_, rfl⟩
          have hcc : 0 ≤ c ∧ c ≤ 255 := by rw [← hc]; exact byte_bd t 1 (by omega)
          have hc0 : ((t.data.toList.getD 1 0).toNat : Int) = c := by rw [← hc, at_of_list rfl 1 (by omega)]
          have hp := M.pick2 (l := t.data.toList) (by rw [← size_of_list rfl]; omega) ⟨by omega, by rw [← size_of_list rfl]; omega⟩
          obtain ⟨u, hu⟩ : ∃ u : Nat, u = (t.data.toList.getD 0 0).toNat % 32 * 64 + (t.data.toList.getD 1 0).toNat % 64 := ⟨_, rfl⟩
          rw [← hu] at hp
          have Hu := hide (show b % 32 * 64 + c % 64 = (u : Int) by omega)
          have hu6 : u < 65536 := by omega
          clear hu hb0 hc0
          have hq1 : (1 : Int) < (t.size : Int) := by omega
          have Hp0 := hide hp
          clear hp
          by_cases hG : 224 ≤ b
          all_goals
            have hA' : 224 ≤ b → decide ((3 : Int) ≤ (t.size : Int)) = false := fun h => by simp; omega
            go_wp2_with fail
            rw [unhide Hu]
            have hp := unhide Hp0
            clear Hu Hp0 hc hcc hb hbb hA hB hA' hG
            have Hp := hide hp
            clear hp
            go_region_with (go_at_call 105; refine (unit_any u _ hu6).mono ?_; rintro e w' ⟨rfl, hb'⟩)
            have hbw : Below wr.heap.size wr w' := (Below.refl wr.heap.size wr).drew.trans hb'
            have ho := own_below r4 (Nat.le_refl _) hbw
            have hbz : Below w.heap.size w w' := r5.trans (hbw.mono r5.size)
            by_cases hE : M.enc u = t.data.toList.take 2
            · have hq2 : (M.enc u == (t.extract 0 2).toList) = true := by rw [take_extract, ← hE]; simp
              simp only [hq2, Bool.not_true]
              have hz3 := hbw.size
              have hz4 := r5.size
              have HE := hide hE
              clear hE
              go_wp2_with (at_builtin; refine wpList_append_own _ rfl _ _ 147 rfl w.heap.size 3 i0 (.int .i64 0) 1 8 Try.underlying147 hi hz0 hz1 hz2 rfl (by decide) _ _ _ rfl (ho.alloc _) ⟨w'.heap.size, 0, none⟩ 1 1 [.int .i64 u] rfl rfl ?c1 ?c2 ?c3 ?c4 ?c5 ?_)
              case c1 =>
                intro j u hj
                match j, hj with
                | 0, hj => simp at hj; subst hj; simp [Addr.add]
              case c2 => intro u hu; simp at hu; subst hu; rfl
              case c3 => unfold maxLen; omega
              case c4 => omega
              case c5 => simp; omega
              intro v' w1 hown' hgrow _
              have hb3 : Below w.heap.size w w1 := (hbz.alloc (by omega) _).grown hgrow (by simp; omega) (fun j hj => by have := (ho.lt j hj).1; omega)
              have hst := hR.step (unhide Hp) hlt (unhide HE) hown' hb3
              clear hown' hgrow ho HE hR r4 Hr2 Hp
              go_wp2
              go_roundw
              case rel => exact ⟨_, L ++ [u], rfl, hst⟩
              case measure => simp only [strSize]; rw [extract_len]; omega
            · have hq2 : (M.enc u == (t.extract 0 2).toList) = false := by rw [take_extract]; simpa using hE
              simp only [hq2, Bool.not_false]
              have hst := hR.stop (unhide Hp) hlt hE
              clear hE hR r4 Hr2 Hp ho
              go_wp2
              go_ret2
              exact .inr ⟨hst, rfl, hbz⟩
        · have hp := M.pick1 (l := t.data.toList) (by rw [← size_of_list rfl]; omega) (by rw [← size_of_list rfl]; omega)
          obtain ⟨u, hu⟩ : ∃ u : Nat, u = (t.data.toList.getD 0 0).toNat := ⟨_, rfl⟩
          rw [← hu] at hp
          have hbu : b = (u : Int) := by omega
          have hu6 : u < 65536 := by omega
          clear hu hb0
          subst hbu
          have hq1 : (1 : Int) ≤ (t.size : Int) := by omega
          have hq0 : (0 : Int) < (t.size : Int) := by omega
          have Hp0 := hide hp
          clear hp
          rcases (show ((u : Int) < 192) ∨ (192 ≤ (u : Int) ∧ (u : Int) < 224) ∨ 224 ≤ (u : Int) by omega) with hG | hG | hG
          all_goals
            go_wp2_with fail
            have hp := unhide Hp0
            clear Hp0 hb hbb hA hB hG
            have Hp := hide hp
            clear hp
            go_region_with (go_at_call 105; refine (unit_any u _ hu6).mono ?_; rintro e w' ⟨rfl, hb'⟩)
            have hbw : Below wr.heap.size wr w' := (Below.refl wr.heap.size wr).drew.trans hb'
            have ho := own_below r4 (Nat.le_refl _) hbw
            have hbz : Below w.heap.size w w' := r5.trans (hbw.mono r5.size)
            by_cases hE : M.enc u = t.data.toList.take 1
            · have hq2 : (M.enc u == (t.extract 0 1).toList) = true := by rw [take_extract, ← hE]; simp
              simp only [hq2, Bool.not_true]
              have hz3 := hbw.size
              have hz4 := r5.size
              have HE := hide hE
              clear hE
              go_wp2_with (at_builtin; refine wpList_append_own _ rfl _ _ 147 rfl w.heap.size 3 i0 (.int .i64 0) 1 8 Try.underlying147 hi hz0 hz1 hz2 rfl (by decide) _ _ _ rfl (ho.alloc _) ⟨w'.heap.size, 0, none⟩ 1 1 [.int .i64 u] rfl rfl ?c1 ?c2 ?c3 ?c4 ?c5 ?_)
              case c1 =>
                intro j u hj
                match j, hj with
                | 0, hj => simp at hj; subst hj; simp [Addr.add]
              case c2 => intro u hu; simp at hu; subst hu; rfl
              case c3 => unfold maxLen; omega
              case c4 => omega
              case c5 => simp; omega
              intro v' w1 hown' hgrow _
              have hb3 : Below w.heap.size w w1 := (hbz.alloc (by omega) _).grown hgrow (by simp; omega) (fun j hj => by have := (ho.lt j hj).1; omega)
              have hst := hR.step (unhide Hp) hlt (unhide HE) hown' hb3
              clear hown' hgrow ho HE hR r4 Hr2 Hp
              go_wp2
              go_roundw
              case rel => exact ⟨_, L ++ [u], rfl, hst⟩
              case measure => simp only [strSize]; rw [extract_len]; omega
            · have hq2 : (M.enc u == (t.extract 0 1).toList) = false := by rw [take_extract]; simpa using hE
              simp only [hq2, Bool.not_false]
              have hst := hR.stop (unhide Hp) hlt hE
              clear hE hR r4 Hr2 Hp ho
              go_wp2
              go_ret2
              exact .inr ⟨hst, rfl, hbz⟩
    · have hne : (!t.toList.isEmpty) = false := by
        rw [ByteArray.toList_eq]
        have : t.data.toList = [] := List.length_eq_zero_iff.1 (by rw [← size_of_list rfl]; omega)
        simp [this]
      have r2 := unhide Hr2
      have ht0 : t.data.toList = [] := List.length_eq_zero_iff.1 (by rw [← size_of_list rfl]; omega)
      rw [ht0, List.append_nil] at r2
      have H2 := hide r2
      clear r2 Hr2 hR ht0
      go_wp2
      go_ret2
      exact .inl ⟨L, _, r1, unhide H2, by omega, rfl, r4, r5⟩
end Go.Proofs.Ytbgpkkbejbidlac.Po
