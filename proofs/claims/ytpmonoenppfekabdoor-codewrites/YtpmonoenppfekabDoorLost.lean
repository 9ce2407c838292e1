/-
  firstLost: the first instruction that has a target where none begins.
-/
import Derived.Test.YtpmonoenppfekabDoorList
import Derived.Maps.OwnSet
namespace Go.Proofs.YtpmonoenppfekabDoor
open Go.RowKit Go.Maps
theorem law3 : Keyed Tryd.prog 3 := int_keyed Tryd.underlying3
theorem zero97 (w : World) : (zeroValue 97).run Tryd.prog w = .ok (.agg #[]) w := by kernel_rfl
theorem run_makeMapN (n : Int) (w : World) : (Instr.makeMap 96 (some (.int .i64 n))).run Tryd.prog w = .ok (.map (some w.heap.size)) (w.alloc (.map #[] 0)) := by
  simp [Instr.makeMap, run_underlying Tryd.underlying96, asInt, Result.andThen, go_sem]
/-- The places at which the first k instructions begin, as a set. -/
def Sd (L : List J) (k : Nat) : DataW Unit := setOf (.agg []) ((L.take k).map fun j => Lit.int .i64 (j.i.at_ : Int))
theorem Sd_zero (L : List J) : Sd L 0 = .map [] := by simp [Sd, setOf]
theorem Sd_succ (L : List J) (k : Nat) (hk : k < L.length) : Sd L (k + 1) = (Sd L k).put (.int .i64 ((L[k]).i.at_ : Int)) (.agg []) := by
  unfold Sd
  rw [List.take_add_one, List.getElem?_eq_getElem hk]
  simp only [Option.toList_some, List.map_append, List.map_cons, List.map_nil]
  rw [setOf_snoc]
theorem has_Sd (L : List J) (t : Int) : Maps.has (Sd L L.length) (.int .i64 t) = M.begins (L.map J.i) t := by
  unfold Sd
  rw [has_setOf _ _ _ (fun x hx => by
    obtain ⟨j, _, rfl⟩ := List.mem_map.1 hx
    trivial), List.take_length]
  unfold M.begins
  rw [List.any_map, List.any_map]
  congr 1
  funext j
  simp [Lit.sameKey]
theorem lost_none {L : List J} (h : ∀ m (hm : m < L.length), M.lost (L.map J.i) (L[m]).i = false) : M.firstLost (L.map J.i) = none := by
  unfold M.firstLost
  rw [List.findIdx?_eq_none_iff]
  intro x hx
  obtain ⟨j, hj, rfl⟩ := List.mem_map.1 hx
  obtain ⟨m, hm, rfl⟩ := List.getElem_of_mem hj
  exact h m hm
theorem lost_some {L : List J} {k : Nat} (hk : k < L.length) (h : ∀ m (hm : m < L.length), m < k → M.lost (L.map J.i) (L[m]).i = false) (h1 : M.lost (L.map J.i) (L[k]).i = true) : M.firstLost (L.map J.i) = some k := by
  unfold M.firstLost
  rw [List.findIdx?_eq_some_iff_getElem]
  refine ⟨by simpa using hk, by simpa using h1, fun m hm => ?_⟩
  have := h m (by omega) hm
  simpa using this
theorem nil_of {L : List J} (h : L.length = 0) : L = [] := List.length_eq_zero_iff.1 h
set_option maxRecDepth 100000 in
set_option maxHeartbeats 2000000 in
theorem firstLost_none (ad : Option Addr) (cap : Nat) (w : World) : Calls Tryd.prog 34 #[.slice ad 0 cap] w fun x w' => x = .returned (.int .i64 (-1)) ∧ Below w.heap.size w w' := by
  have hmm := run_makeMapN
  go_enter Tryd.func34, Tryd.ntmps34
  go_wp2_with fail
  refine wp_loop_rounds 1 ?_
  rw [rounds_succ]
  go_wp2_with fail
  refine wp_loop_rounds 1 ?_
  rw [rounds_succ]
  go_wp2
  go_ret
  exact ⟨rfl, (Below.refl _ _).alloc (Nat.le_refl _) _⟩
set_option maxRecDepth 100000 in
set_option maxHeartbeats 2000000 in
theorem firstLost_main (L : List J) (b o cap : Nat) (w : World) (hlen : L.length ≤ 1048576) (hb : b < w.heap.size) (hc : ∀ k (hk : k < L.length), ∀ i, i < 8 → w.cell? ⟨b, o + k * 8 + i, none⟩ = (L[k]).cells[i]?)
    (hk : ∀ j ∈ L, HasI w j.kv j.i.keys ∧ HasI w j.tv j.i.tgts) (hat : ∀ j ∈ L, j.i.at_ ≤ 1048576) (hwf : ∀ j ∈ L, ∀ t ∈ j.i.tgts, (Lit.int .i64 t).wf = true) (htl : ∀ j ∈ L, j.i.tgts.length ≤ 1048576) :
    Calls Tryd.prog 34 #[.slice (some ⟨b, o, none⟩) L.length cap] w fun x w' => x = .returned (.int .i64 (match M.firstLost (L.map J.i) with | none => -1 | some k => (k : Int))) ∧ Below w.heap.size w w' := by
  obtain ⟨res, hres⟩ : ∃ r : Int, r = (match M.firstLost (L.map J.i) with | none => -1 | some k => (k : Int)) := ⟨_, rfl⟩
  rw [← hres]
  have Hres := hide hres
  have Hc := hide hc
  have Hk := hide hk
  have Hat := hide hat
  have Hwf := hide hwf
  have Htl := hide htl
  clear hres hc hk hat hwf htl
  have hmm := run_makeMapN
  go_enter Tryd.func34, Tryd.ntmps34
  go_wp2_with fail
  go_loopw [17] (fun i wr => ∃ k : Nat, k ≤ L.length ∧ i = .int .i64 k ∧ wr.ownsMap Tryd.prog 3 unitElem w.heap.size k (Sd L k) ∧ Below w.heap.size w wr ∧ w.heap.size + 1 ≤ wr.heap.size) (fun i _ => L.length - (intOf i).toNat)
  case atStart => exact ⟨0, Nat.zero_le _, rfl, by rw [Sd_zero]; exact World.ownsMap_made _ _ _ _, (Below.refl _ _).alloc (Nat.le_refl _) _, by simp⟩
  case round =>
    obtain ⟨k, hk, rfl, hown, hnx, hws⟩ := hrel
    by_cases hlt : k < L.length
    · have hcx : ∀ i, i < 8 → wr.cell? ⟨b, o + k * 8 + i, none⟩ = (L[k]).cells[i]? := fun i hi => (hnx.cell (by exact hb)).trans (unhide Hc k hlt i hi)
      have hsd := Sd_succ L k hlt
      obtain ⟨j, hj⟩ : ∃ j, j = L[k] := ⟨_, rfl⟩
      rw [← hj] at hcx hsd
      have hmem : j ∈ L := by rw [hj]; exact List.getElem_mem hlt
      have hatk : j.i.at_ ≤ 1048576 := unhide Hat j hmem
      obtain ⟨⟨a1, c1, e1, _⟩, ⟨a2, c2, e2, _⟩⟩ := unhide Hk j hmem
      obtain ⟨x0, x1, x2, x3, x4, x5, x6, x7⟩ := At8.of hcx
      simp only [J.c, e1, e2] at x0 x1 x2 x3 x4 x5 x6 x7
      have Hsd := hide hsd
      have hkey : keyOf Tryd.prog 3 (.int .i64 (j.i.at_ : Int)) = some (.int .i64 (j.i.at_ : Int)) := keyOf_int_mk Tryd.underlying3 (WalkArith.wf_i64 (by omega))
      have Hkey := hide hkey
      clear hj hsd hcx hkey e1 e2 hmem
      go_wp2_with (first | (at_mapUpdate; refine wpList_mapUpdate_own _ rfl _ _ _ 96 rfl 3 97 law3 Tryd.underlying96 (unitElem (H := Unit)) w.heap.size k _ rfl (hown.alloc _) (by unfold maxLen; omega) _ _ _ rfl rfl (unhide Hkey) _ [] unitElem_mk ?_; intro w1 hown1 hgrow1) | go_in)
      have s1 := hgrow1.size
      simp at s1
      go_roundw
      case rel =>
        exact ⟨k + 1, by omega, by go_num, by rw [unhide Hsd]; exact hown1, (hnx.alloc hnx.size _).grown hgrow1 (by simp; omega) (fun j hj => by cases hj; exact Nat.le_refl _), by omega⟩
      case measure => simp [intOf]; omega
    · have hkl : k = L.length := by omega
      subst hkl
      clear hlt hk
      go_wp2_with fail
      have HS := hide (has_Sd L)
      go_loopw [28] (fun i wr => ∃ k : Nat, k ≤ L.length ∧ i = .int .i64 k ∧ Hid (∀ m (hm : m < L.length), m < k → M.lost (L.map J.i) (L[m]).i = false) ∧ wr.ownsMap Tryd.prog 3 (unitElem (H := Unit)) w.heap.size L.length (Sd L L.length) ∧ Below w.heap.size w wr ∧ w.heap.size + 1 ≤ wr.heap.size) (fun i _ => L.length - (intOf i).toNat)
      case atStart => exact ⟨0, Nat.zero_le _, rfl, fun _ _ h => by omega, hown, hnx, hws⟩
      case round =>
        clear hown hnx hws
        obtain ⟨k, hk, rfl, Hno, hown, hnx, hws⟩ := hrel
        by_cases hlt : k < L.length
        · have hcx : ∀ i, i < 8 → wr.cell? ⟨b, o + k * 8 + i, none⟩ = (L[k]).cells[i]? := fun i hi => (hnx.cell (by exact hb)).trans (unhide Hc k hlt i hi)
          obtain ⟨j, hj⟩ : ∃ j, j = L[k] := ⟨_, rfl⟩
          rw [← hj] at hcx
          have hmem : j ∈ L := by rw [hj]; exact List.getElem_mem hlt
          obtain ⟨⟨a1, c1, e1, _⟩, ⟨a2, c2, e2, h2⟩⟩ := unhide Hk j hmem
          obtain ⟨x0, x1, x2, x3, x4, x5, x6, x7⟩ := At8.of hcx
          simp only [J.c, e1, e2] at x0 x1 x2 x3 x4 x5 x6 x7
          have hwf := unhide Hwf j hmem
          have htl := unhide Htl j hmem
          have Hj := hide hj
          have H2 := hide h2
          have Hwfj := hide hwf
          clear hj hcx e1 e2 hmem h2 hwf
          go_wp2_with fail
          have hownA := hown.alloc (.cells #[.int .i64 (j.i.at_ : Int), .int .u8 (j.i.op : Int), .bool j.i.wide, .int .i64 j.i.a, .int .i64 j.i.b, .int .i64 j.i.low, .slice a1 j.i.keys.length c1, .slice a2 j.i.tgts.length c2] 35)
          have hnxA := hnx.alloc hnx.size (.cells #[.int .i64 (j.i.at_ : Int), .int .u8 (j.i.op : Int), .bool j.i.wide, .int .i64 j.i.a, .int .i64 j.i.b, .int .i64 j.i.low, .slice a1 j.i.keys.length c1, .slice a2 j.i.tgts.length c2] 35)
          go_loopw [36] (fun i wx => ∃ m : Nat, m ≤ j.i.tgts.length ∧ i = .int .i64 m ∧ Hid (∀ q, q < m → M.begins (L.map J.i) (j.i.tgts.getD q 0) = true) ∧ wx.ownsMap Tryd.prog 3 (unitElem (H := Unit)) w.heap.size L.length (Sd L L.length) ∧ Below w.heap.size w wx ∧ w.heap.size + 1 ≤ wx.heap.size) (fun i _ => j.i.tgts.length - (intOf i).toNat)
          case atStart => exact ⟨0, Nat.zero_le _, rfl, fun _ h => by omega, hownA, hnxA, by simp; omega⟩
          case round =>
            clear hownA hnxA
            obtain ⟨m, hm, rfl, Hbe, hownB, hnxB, hwsB⟩ := hrel
            by_cases hlm : m < j.i.tgts.length
            · obtain ⟨b2, o2, rfl, hc2⟩ := unhide H2 (fun e => by rw [e] at hlm; simp at hlm)
              have hcm := hc2 m hlm
              have hcw := (hnxB.cell (p := ⟨b2, o2 + m, none⟩) (cell_lt hcm)).trans hcm
              obtain ⟨t, ht⟩ : ∃ t, t = j.i.tgts.getD m 0 := ⟨_, rfl⟩
              have htm : t ∈ j.i.tgts := by rw [ht, List.getD, List.getElem?_eq_getElem hlm]; exact List.getElem_mem hlm
              rw [← ht] at hcm hcw
              have hkey : keyOf Tryd.prog 3 (.int .i64 t) = some (.int .i64 t) := keyOf_int_mk Tryd.underlying3 (unhide Hwfj t htm)
              have Hkey := hide hkey
              have Ht := hide ht
              have Htm := hide htm
              clear hkey ht htm hc2 hcm
              cases hbt : M.begins (L.map J.i) t
              · have hlo : res = (k : Int) := by
                  have := unhide Hres
                  rw [lost_some hlt (fun m hm h => unhide Hno m hm h) (by
                    rw [← unhide Hj]; unfold M.lost
                    rw [List.any_eq_true]
                    exact ⟨t, unhide Htm, by rw [hbt]; rfl⟩)] at this
                  exact this
                have Hlo := hide hlo
                have Hbt := hide hbt
                clear hlo hbt
                go_wp2_with (first | (at_lookup; refine wpList_lookup_own_unit _ rfl _ _ 96 rfl 3 97 law3 Tryd.underlying96 (zero97 _) w.heap.size L.length _ rfl hownB _ _ rfl (unhide Hkey) ?_; rw [unhide HS t, unhide Hbt]) | fail)
                go_ret
                exact ⟨by rw [unhide Hlo]; rfl, hnxB.alloc hnxB.size _⟩
              · have hbe2 : ∀ q, q < m + 1 → M.begins (L.map J.i) (j.i.tgts.getD q 0) = true := fun q hq => by
                  rcases Nat.lt_or_eq_of_le (Nat.le_of_lt_succ hq) with h | h
                  · exact unhide Hbe q h
                  · rw [h, ← unhide Ht]; exact hbt
                have Hbe2 := hide hbe2
                have Hbt := hide hbt
                clear hbe2 hbt
                go_wp2_with (first | (at_lookup; refine wpList_lookup_own_unit _ rfl _ _ 96 rfl 3 97 law3 Tryd.underlying96 (zero97 _) w.heap.size L.length _ rfl hownB _ _ rfl (unhide Hkey) ?_; rw [unhide HS t, unhide Hbt]) | fail)
                go_roundw
                case rel => exact ⟨m + 1, by omega, by go_num, Hbe2, hownB.alloc _, hnxB.alloc hnxB.size _, by simp; omega⟩
                case measure => simp [intOf]; omega
            · have hml : m = j.i.tgts.length := by omega
              subst hml
              have hno2 : ∀ m (hm : m < L.length), m < k + 1 → M.lost (L.map J.i) (L[m]).i = false := fun m hm h => by
                rcases Nat.lt_or_eq_of_le (Nat.le_of_lt_succ h) with h | h
                · exact unhide Hno m hm h
                · subst h
                  rw [← unhide Hj]; unfold M.lost
                  rw [List.any_eq_false]
                  intro t ht
                  obtain ⟨q, hq, rfl⟩ := List.getElem_of_mem ht
                  have := unhide Hbe q hq
                  rw [List.getD, List.getElem?_eq_getElem hq] at this
                  simp only [Option.getD_some] at this
                  rw [this]; simp
              have Hno2 := hide hno2
              clear hno2 hlm
              go_wp2
              go_roundw
              case rel => exact ⟨k + 1, by omega, by go_num, Hno2, hownB, hnxB, hwsB⟩
              case measure => simp [intOf]; omega
        · have hkl : k = L.length := by omega
          subst hkl
          have hr : res = -1 := by
            have := unhide Hres
            rw [lost_none (fun m hm => unhide Hno m hm hm)] at this
            exact this
          clear hlt hk
          go_wp2
          go_ret
          exact ⟨by rw [hr]; rfl, hnx⟩
theorem firstLost_any (L : List J) (v : Value) (w : World) (h : Has w v L) (hlen : L.length ≤ 1048576) (hat : ∀ j ∈ L, j.i.at_ ≤ 1048576) (hwf : ∀ j ∈ L, ∀ t ∈ j.i.tgts, (Lit.int .i64 t).wf = true) (htl : ∀ j ∈ L, j.i.tgts.length ≤ 1048576) :
    Calls Tryd.prog 34 #[v] w fun x w' => x = .returned (.int .i64 (match M.firstLost (L.map J.i) with | none => -1 | some k => (k : Int))) ∧ Below w.heap.size w w' := by
  obtain ⟨ad, cap, rfl, hf⟩ := h.form
  by_cases hL : L = []
  · subst hL
    exact firstLost_none ad cap w
  · obtain ⟨b, o, rfl, hc⟩ := hf hL
    have h0 : 0 < L.length := List.length_pos_iff.2 hL
    have hb : b < w.heap.size := by
      have := hc 0 h0 0 (by omega)
      exact cell_lt (a := ⟨b, o + 0 * 8 + 0, none⟩) (v := .int .i64 ((L[0]).i.at_ : Int)) this
    exact firstLost_main L b o cap w hlen hb hc h.own hat hwf htl
end Go.Proofs.YtpmonoenppfekabDoor
