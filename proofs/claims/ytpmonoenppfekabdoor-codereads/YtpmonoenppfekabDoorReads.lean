/-
  CodeReads: the walk.
-/
import Derived.Test.YtpmonoenppfekabDoorDecR
import Derived.Test.YtpmonoenppfekabDoorApart
namespace Go.Proofs.YtpmonoenppfekabDoor
open Go.RowKit
namespace M
theorem run_bd {s : List UInt8} (hs : s.length ≤ 1048576) : ∀ (d a : Nat) (acc l : List I), s.length - a ≤ d → a ≤ s.length → acc.length ≤ a → (∀ i ∈ acc, Bd s.length i) → run s a acc = .ok l → l.length ≤ s.length ∧ ∀ i ∈ l, Bd s.length i := by
  intro d
  induction d with
  | zero =>
    intro a acc l h1 h2 h3 hb h
    rw [run_end (by omega)] at h
    cases h
    exact ⟨by omega, hb⟩
  | succ d ih =>
    intro a acc l h1 h2 h3 hb h
    rcases Nat.lt_or_ge a s.length with ha | ha
    · cases hi : ins s a with
      | error e => rw [run_bad ha hi] at h; cases h
      | ok r =>
        obtain ⟨i, q⟩ := r
        rw [run_one ha hi] at h
        have hle := ins_le ha hi
        simp only at hle
        have hbi := ins_bd ha hs hi
        refine ih q (acc ++ [i]) l (by omega) (by omega) (by simp; omega) (fun j hj => ?_) h
        rw [List.mem_append, List.mem_singleton] at hj
        rcases hj with hj | rfl
        · exact hb j hj
        · exact hbi
    · rw [run_end ha] at h
      cases h
      exact ⟨by omega, hb⟩
theorem decode_bd {s : List UInt8} {l : List I} (hs : s.length ≤ 1048576) (h : decode s = .ok l) : l.length ≤ s.length ∧ ∀ i ∈ l, Bd s.length i := by
  unfold decode at h
  split at h
  · cases h
  · cases hr : run s 0 [] with
    | error e => rw [hr] at h; cases h
    | ok l' =>
      rw [hr] at h
      simp only at h
      split at h
      · cases h
        exact run_bd hs s.length 0 [] l (by omega) (by omega) (by simp) (fun _ h => by cases h) hr
      · cases h
end M
set_option maxRecDepth 100000 in
set_option maxHeartbeats 2000000 in
theorem reads_walk (s : ByteArray) (w : World) (hw : Wd w) (hm : s.size ≤ maxLen) : Calls Tryd.prog 4 #[.string s] w fun x w' => x = .returned (.bool true) ∧ Below w.heap.size w w' := by
  unfold maxLen at hm
  by_cases h0 : 32768 < s.size
  · have hz : (32768 : Int) < (s.size : Int) := by omega
    go_enter Tryd.func4, Tryd.ntmps4
    go_wp2
    go_ret
    exact ⟨rfl, Below.refl _ _⟩
  · have hz : ¬ (32768 : Int) < (s.size : Int) := by omega
    have hlen : s.data.toList.length = s.size := by simp
    have HD := hide (Decode_any s w hw (by unfold maxLen; omega))
    have HE := hide (fun w1 => DecodeR_any s w1 (by unfold maxLen; omega))
    have hbd := fun l (h : M.decode s.data.toList = .ok l) => M.decode_bd (by rw [hlen]; omega) h
    have Hbd := hide hbd
    have Hlen := hide hlen
    clear hbd hlen hw
    go_enter Tryd.func4, Tryd.ntmps4
    go_wp2_with fail
    refine (unhide HD).mono ?_
    clear HD
    rintro e w1 ⟨hb1, hx1⟩
    cases hd : M.decode s.data.toList with
    | error er =>
      obtain ⟨e1, p1⟩ := er
      rw [hd] at hx1
      simp only at hx1
      subst hx1
      have Hd := hide hd
      clear hd
      go_wp2_with fail
      refine (unhide HE _).mono ?_
      rintro e w2 ⟨hb2, hx2⟩
      rw [unhide Hd] at hx2
      simp only at hx2
      subst hx2
      have hb3 := hb1.trans (hb2.mono hb1.size)
      have hbe : ((e1 : Int) == (e1 : Int)) = true := by simp
      have hbp : ((p1 : Int) == (p1 : Int)) = true := by simp
      have HS := hide (same_eq (.slice none 0 0) (.slice none 0 0) [] [] w2 (Has.of_lst (Lst.nil w2 w2.heap.size)) (Has.of_lst (Lst.nil w2 w2.heap.size)) rfl (by simp) (fun _ h => by cases h))
      have HA := hide (fun (w3 : World) => apart_any (.slice none 0 0) [] w3.heap.size w3 (Lst.nil w3 w3.heap.size) (Nat.le_refl _) (by simp) (fun _ h => by cases h))
      clear HE Hd Hbd
      go_wp2_with fail
      refine (unhide HS).mono ?_
      rintro e w3 ⟨rfl, hb4⟩
      go_wp2_with fail
      refine (unhide HA _).mono ?_
      rintro e w4 ⟨rfl, hb5⟩
      go_wp2
      go_ret
      have hb6 := hb3.trans (hb4.mono hb3.size)
      exact ⟨rfl, hb6.trans (hb5.mono hb6.size)⟩
    | ok l =>
      rw [hd] at hx1
      obtain ⟨v, L, rfl, hL, hl1⟩ := hx1
      have Hd := hide hd
      have hbl := unhide Hbd l hd
      have Hl1 := hide hl1
      have HL := hide hL
      obtain ⟨ad, cap, ev, _⟩ := (Has.of_lst hl1).form
      subst ev
      clear hd hl1 hL
      go_wp2_with fail
      refine (unhide HE _).mono ?_
      rintro e w2 ⟨hb2, hx2⟩
      rw [unhide Hd] at hx2
      obtain ⟨u, K, rfl, hK, hl2⟩ := hx2
      have hb3 := hb1.trans (hb2.mono hb1.size)
      have hl3 : Lst w2 w.heap.size (.slice ad L.length cap) L := (unhide Hl1).kept (grown_of_below hb2 none) (fun _ e => by cases e)
      have hle : L.length ≤ 1048576 := by
        have h1 := hbl.1
        rw [unhide Hlen, ← unhide HL, List.length_map] at h1
        omega
      have hlb : ∀ j ∈ L, j.i.keys.length ≤ 1048576 ∧ j.i.tgts.length ≤ 1048576 := fun j hj => by
        have hm := hbl.2 j.i (by rw [← unhide HL]; exact List.mem_map_of_mem hj)
        obtain ⟨m1, m2, m3, m4⟩ := hm
        rw [unhide Hlen] at m3 m4
        exact ⟨by omega, by omega⟩
      have HS := hide (same_eq (.slice ad L.length cap) u L K w2 (Has.of_lst hl3) (Has.of_lst hl2) (by rw [unhide HL, hK]) hle hlb)
      have HA := hide (fun (w3 : World) (hb : Below w2.heap.size w2 w3) => apart_any (.slice ad L.length cap) L w.heap.size w3 (hl3.kept (grown_of_below hb none) (fun _ e => by cases e)) (Nat.le_trans hb3.size hb.size) hle hlb)
      obtain ⟨ad2, cap2, ev2, _⟩ := (Has.of_lst hl2).form
      subst ev2
      clear HE Hd Hbd hlb hle hl3 hl2 hbl
      go_wp2_with fail
      refine (unhide HS).mono ?_
      rintro e w3 ⟨rfl, hb4⟩
      go_wp2_with fail
      refine (unhide HA _ hb4).mono ?_
      rintro e w4 ⟨rfl, hb5⟩
      go_wp2
      go_ret
      have hb6 := hb3.trans (hb4.mono hb3.size)
      exact ⟨rfl, hb6.trans (hb5.mono (Nat.le_refl _))⟩
end Go.Proofs.YtpmonoenppfekabDoor
