/-
  Package maps: types, delta, height.
-/
import Derived.Test.YtgihfcjddkpkaaaTy
import Derived.Test.YtgihfcjddkpkaaaMf
namespace Go.Proofs.Ytgihfcjddkpkaaa
open Go.RowKit
/-- What types leaves: the list is new, if there was no error. -/
def Tys (R : Nat) (pv : Value) (s : ByteArray) (P : List K) (st' : St) (L : List T) (w : World) (e : Ending) (w' : World) : Prop :=
  ∃ v, e = .returned v ∧ Rx w' R pv s P st' ∧ w.grownBy w' (some R) ∧ (st'.e = 0 → w'.ownsRow w.heap.size 76 3 v L.length (TC L)) ∧ ∃ ad n cap, v = .slice ad n cap
theorem own_slice {w : World} {B n : Nat} {v : Value} {xs : List Value} (h : w.ownsRow B 76 3 v n xs) : ∃ ad n cap, v = .slice ad n cap := by
  rcases h.2 with ⟨rfl, _⟩ | ⟨g, cap, cur, rfl, _⟩
  · exact ⟨_, _, _, rfl⟩
  · exact ⟨_, _, _, rfl⟩
theorem own_grown {w w' : World} {B n R : Nat} {v : Value} {xs : List Value} (h : w.ownsRow B 76 3 v n xs) (hg : w.grownBy w' (some R)) (hR : R < B) : w'.ownsRow B 76 3 v n xs :=
  h.kept hg (.inr fun e => by have := (h.lt R e).1; omega)
theorem grown_own {w0 w1 w2 : World} {row r2 : Option Nat} (h : w0.grownBy w1 row) (g : w1.grownBy w2 r2) (hb : ∀ b, r2 = some b → w0.heap.size ≤ b) : w0.grownBy w2 row :=
  ⟨g.os.trans h.os, g.tape.trans h.tape, g.output.trans h.output, Nat.le_trans h.size g.size, fun k hk hne => by
    rw [g.block k (Nat.lt_of_lt_of_le hk h.size) (fun e => by have := hb k e.symm; omega)]; exact h.block k hk hne⟩
set_option maxRecDepth 100000 in
set_option maxHeartbeats 2000000 in
theorem types_any (R : Nat) (pv kv : Value) (s : ByteArray) (P : List K) (A : List T) (n : Nat) (st : St) (w : World) (h : Rx w R pv s P st) (hs : s.size ≤ 131072) (hP : P.length ≤ 1048576) (hn : n ≤ 65535) (hA : A.length ≤ 900000) (hk : TIn w kv A) :
    Calls Try.prog 91 #[.pointer (some ⟨R, 0, none⟩), kv, .int .i64 (n : Int)] w fun x w' => Tys R pv s P (M.vals s.data.toList P n st).2 (A ++ (M.vals s.data.toList P n st).1) w x w' := by
  obtain ⟨i0, hi, hz0, hz1, hz2⟩ := info_parts Try.info76
  have H0 := hide h
  have hRl := h.rd.lt
  have HK := hide hk
  obtain ⟨ad, cap, ekv, _⟩ := hk
  subst ekv
  clear h
  go_enter Try.func91, Try.ntmps91
  go_wp2_with (at_builtin; refine wpList_copy _ rfl _ _ rfl _ A rfl rfl (unhide HK) (by omega) w.heap.size (Nat.le_refl _) ?_)
  intro v0 w0 ho0 hb0
  clear HK
  go_wp2_with fail
  go_loopw [7, 12] (fun v i wr => ∃ (k : Nat) (L : List T) (st1 : St), k ≤ n ∧ i = .int .i64 k ∧ Hid (M.Vs s.data.toList P n st L (n - k) st1) ∧ L.length = k ∧ Hid (wr.ownsRow w.heap.size 76 3 v (A ++ L).length (TC (A ++ L))) ∧ Hid (Rx wr R pv s P st1) ∧ Hid (w.grownBy wr (some R))) (fun _ i _ => n - (intOf i).toNat)
  case atStart => exact ⟨0, [], st, Nat.zero_le _, rfl, M.Vs.zero _ _ _ _, rfl, hide (by simpa using ho0), (unhide H0).below hb0, grown_of_below hb0 _⟩
  case round =>
    clear ho0 hb0
    obtain ⟨k, L, st1, hkn, rfl, HV, hLk, Ho, Hr, Hg⟩ := hrel
    by_cases hlt : k < n
    · have hki : (k : Int) < (n : Int) := by omega
      have HT := hide (vtype_any R pv s P st1 wr (unhide Hr) hs hP)
      have HV2 : Hid (M.Vs s.data.toList P n st L ((n - (k + 1)) + 1) st1) := by
        have : n - (k + 1) + 1 = n - k := by omega
        rw [this]; exact HV
      have HL := hide hLk
      have HSt := hide (fun he => (unhide HV2).step he)
      have HSp := hide (fun he => (unhide HV2).stop he)
      obtain ⟨t, st2, hVt⟩ : ∃ t st2, M.vty s.data.toList P st1 = (t, st2) := ⟨_, _, rfl⟩
      rw [hVt] at HT HSt HSp
      simp only at HT HSt HSp
      clear hVt HV HV2 hLk
      unfold T.val at HT
      go_wp2_with fail
      refine (unhide HT).mono ?_
      rintro e w1 ⟨rfl, hr1, hg1⟩
      have ho1 := own_grown (unhide Ho) hg1 hRl
      have hgw1 := grown_trans (unhide Hg) hg1
      obtain ⟨p, hp⟩ : ∃ p, p = w1.heap.size := ⟨_, rfl⟩
      obtain ⟨w2, hw2⟩ : ∃ w2, w2 = w1.alloc (.cells #[.int .u8 (t.tag : Int), .string ⟨t.name.toArray⟩, .int .i64 t.at_] 76) := ⟨_, rfl⟩
      have hp2 : Bk w2 p #[.int .u8 (t.tag : Int), .string ⟨t.name.toArray⟩, .int .i64 t.at_] 76 := by rw [hw2, hp]; exact Bk.new _ _ _
      have hgw2 : w.grownBy w2 (some R) := by rw [hw2]; exact grown_alloc hgw1 _
      have hr2 : Rx w2 R pv s P st2 := by rw [hw2]; exact hr1.below ((Below.refl _ _).alloc (Nat.le_refl _) _)
      have ho2 := ho1.alloc (.cells #[.int .u8 (t.tag : Int), .string ⟨t.name.toArray⟩, .int .i64 t.at_] 76)
      rw [← hw2] at ho2
      have HW2 := hide hw2
      have HPp := hide hp
      have HG := hide (Gd_any R pv s P st2 w2 hr2)
      clear HT hw2 hp ho1 hgw1 hr1 hg1 Ho Hr Hg
      go_upto_region 5 with fail
      rw [← unhide HW2, ← unhide HPp]
      clear HW2 HPp
      go_wp2_with fail
      refine (unhide HG).mono ?_
      rintro e w3 ⟨rfl, hw3⟩
      subst w3
      clear HG
      by_cases he2 : st2.e = 0
      · rw [decide_eq_true he2]
        have HSt2 := hide (unhide HSt he2)
        have He2 := hide he2
        have k0 : w2.cell? ⟨p, 0, none⟩ = some (.int .u8 (t.tag : Int)) := hp2.cell 0
        have k1 : w2.cell? ⟨p, 1, none⟩ = some (.string ⟨t.name.toArray⟩) := hp2.cell 1
        have k2 : w2.cell? ⟨p, 2, none⟩ = some (.int .i64 t.at_) := hp2.cell 2
        have hLn : L.length = k := unhide HL
        have hAL : (A ++ L).length ≤ 1000000 := by simp; omega
        clear HSt HSp he2
        obtain ⟨Z, hZ⟩ : ∃ Z, Z = A ++ L := ⟨_, rfl⟩
        rw [← hZ] at ho2 hAL
        have HZ := hide hZ
        clear hZ hLn
        go_wp2_with (at_builtin; refine wpList_append_own_at _ rfl _ _ 23 rfl w.heap.size 76 i0 (.agg #[.int .u8 0, .string ⟨#[]⟩, .int .i64 0]) 3 32 Try.underlying23 hi hz0 hz1 hz2 rfl (by decide) _ Z.length (TC Z) rfl (ho2.alloc _) ⟨w2.heap.size, 0, none⟩ 1 1 t.cells rfl rfl ?c1 ?c2 ?c3 ?c4 ?c5 ?_)
        case c1 =>
          intro j u hj
          rw [Addr.add_lit, Nat.zero_add, (Bk.new w2 _ 76).cell j]
          simpa [T.cells] using hj
        case c2 => intro u hu; simp [T.cells] at hu; rcases hu with rfl | rfl | rfl <;> rfl
        case c3 => unfold maxLen; omega
        case c4 => omega
        case c5 => have := hgw2.size; simp; omega
        intro v' w3 hown' hgrow _ _
        have hlt2 := (ho2.alloc (.cells #[.int .u8 (t.tag : Int), .string ⟨t.name.toArray⟩, .int .i64 t.at_] 76)).lt
        have hgw3 := grown_own (grown_alloc hgw2 (.cells #[.int .u8 (t.tag : Int), .string ⟨t.name.toArray⟩, .int .i64 t.at_] 76)) hgrow (fun b e => (hlt2 b e).1)
        have hrd3 : Rd w3 R pv s st2 := (hr2.below ((Below.refl _ _).alloc (Nat.le_refl _) _)).rd.kept hgrow (fun e => by have := (hlt2 R e.symm).1; omega)
        have Hr3 := hide ((unhide H0).step hrd3 hgw3 hr2.pos)
        have Hg3 := hide hgw3
        have Ho3 : Hid (w3.ownsRow w.heap.size 76 3 v' (A ++ (L ++ [t])).length (TC (A ++ (L ++ [t])))) := by
          show World.ownsRow _ _ _ _ _ _ _
          have e1 : A ++ (L ++ [t]) = Z ++ [t] := by rw [unhide HZ, List.append_assoc]
          rw [e1, TC_snoc, List.length_append, List.length_singleton]; exact hown'
        clear hown' hgrow hgw3 hrd3 hlt2 ho2 hgw2 hr2 HZ hAL
        go_wp2
        go_roundw
        case rel => exact ⟨k + 1, L ++ [t], st2, by omega, by go_num, HSt2, by simp; exact unhide HL, Ho3, Hr3, Hg3⟩
        case measure => simp [intOf]; omega
      · rw [decide_eq_false he2]
        have HSp2 := hide (unhide HSp he2)
        have He2 := hide he2
        clear HSt HSp he2
        go_wp2
        go_ret
        exact ⟨_, rfl, by rw [unhide HSp2]; exact hr2, hgw2, fun h => absurd (by rw [unhide HSp2] at h; exact h) (unhide He2), ⟨_, _, _, rfl⟩⟩
    · have hki : ¬ (k : Int) < (n : Int) := by omega
      have hkl : n - k = 0 := by omega
      rw [hkl] at HV
      have HD := hide ((unhide HV).done)
      have HS := hide (own_slice (unhide Ho))
      clear HV hkl hLk
      go_wp2
      go_ret
      exact ⟨_, rfl, by rw [unhide HD]; exact unhide Hr, unhide Hg, fun _ => by rw [unhide HD]; exact unhide Ho, unhide HS⟩
theorem TC_nil_app (L : List T) : [] ++ L = L := rfl
set_option maxHeartbeats 1000000 in
theorem delta_any (R : Nat) (pv : Value) (s : ByteArray) (P : List K) (x : Nat) (st : St) (w : World) (h : Rx w R pv s P st) (hs : s.size ≤ 131072) :
    Calls Try.prog 90 #[.pointer (some ⟨R, 0, none⟩), .int .i64 (x : Int)] w fun e w' => Tk R pv s P (M.dlt s.data.toList x st).2 w (.int .i64 ((M.dlt s.data.toList x st).1 : Nat)) e w' := by
  unfold M.dlt
  by_cases h64 : x < 64
  · rw [if_pos h64]
    have hi : (x : Int) < 64 := by omega
    have Hr := hide h
    clear h64 h
    go_enter Try.func90, Try.ntmps90
    go_wp2
    go_ret
    exact ⟨rfl, unhide Hr, grown_refl _ _⟩
  · rw [if_neg h64]
    have hi : ¬ (x : Int) < 64 := by omega
    by_cases h128 : x < 128
    · rw [if_pos h128]
      have hi2 : (x : Int) < 128 := by omega
      have hsub : ((x - 64 : Nat) : Int) = (x : Int) - 64 := by omega
      have Hs := hide hsub
      have Hr := hide h
      clear h64 h h128 hsub
      go_enter Try.func90, Try.ntmps90
      go_wp2
      go_ret
      exact ⟨by rw [unhide Hs]; rfl, unhide Hr, grown_refl _ _⟩
    · rw [if_neg h128]
      have hi2 : ¬ (x : Int) < 128 := by omega
      have hx := M.rd2 s.data.toList st
      have HU := hide (U16_any R pv s P st w h hs)
      obtain ⟨y, st1, hT⟩ : ∃ y st1, M.rd s.data.toList 2 st = (y, st1) := ⟨_, _, rfl⟩
      rw [hT] at hx HU ⊢
      simp only at hx HU ⊢
      clear hT h h64 h128
      go_enter Try.func90, Try.ntmps90
      go_wp2_with fail
      refine (unhide HU).mono ?_
      rintro e w1 ⟨rfl, hr1, hg1⟩
      clear HU
      go_wp2
      go_ret
      exact ⟨rfl, hr1, hg1⟩
theorem dlt_lt (s : List UInt8) (x : Nat) (st : St) : (M.dlt s x st).1 < 65536 := by
  unfold M.dlt; split
  · simp only; omega
  · split
    · simp only; omega
    · exact M.rd2 s st
set_option maxHeartbeats 1000000 in
theorem height_any (R : Nat) (pv : Value) (s : ByteArray) (P : List K) (x : Nat) (st : St) (w : World) (h : Rx w R pv s P st) (hs : s.size ≤ 131072) :
    Calls Try.prog 92 #[.pointer (some ⟨R, 0, none⟩), .int .i64 (x : Int)] w fun e w' => Tk R pv s P (M.hgt s.data.toList x st).2 w (.int .i64 ((M.hgt s.data.toList x st).1 : Nat)) e w' := by
  unfold M.hgt
  by_cases h255 : x = 255
  · rw [if_pos h255]
    have hi : (((x : Int) == 255) : Bool) = true := by rw [h255]; rfl
    have hx := M.rd2 s.data.toList st
    have HU := hide (U16_any R pv s P st w h hs)
    obtain ⟨y, st1, hT⟩ : ∃ y st1, M.rd s.data.toList 2 st = (y, st1) := ⟨_, _, rfl⟩
    rw [hT] at hx HU ⊢
    simp only at hx HU ⊢
    clear hT h h255
    go_enter Try.func92, Try.ntmps92
    go_wp2_with fail
    refine (unhide HU).mono ?_
    rintro e w1 ⟨rfl, hr1, hg1⟩
    clear HU
    go_wp2
    go_ret
    exact ⟨rfl, hr1, hg1⟩
  · rw [if_neg h255]
    have hi : (((x : Int) == 255) : Bool) = false := by rw [beq_eq_false_iff_ne]; omega
    by_cases h64 : 64 ≤ x
    · have hj : (64 : Int) ≤ (x : Int) := by omega
      by_cases h247 : x ≤ 247
      · rw [if_pos ⟨h64, h247⟩]
        have hk : (x : Int) ≤ 247 := by omega
        have Hr := hide h
        clear h64 h h247 h255
        go_enter Try.func92, Try.ntmps92
        go_wp2
        go_ret
        exact ⟨rfl, unhide Hr, grown_refl _ _⟩
      · rw [if_neg (fun g => h247 g.2)]
        have hk : ¬ (x : Int) ≤ 247 := by omega
        have Hr := hide h
        clear h64 h h247 h255
        go_enter Try.func92, Try.ntmps92
        go_wp2
        go_ret
        exact ⟨rfl, unhide Hr, grown_refl _ _⟩
    · rw [if_neg (fun g => h64 g.1)]
      have hj : ¬ (64 : Int) ≤ (x : Int) := by omega
      have Hr := hide h
      clear h64 h h255
      go_enter Try.func92, Try.ntmps92
      go_wp2
      go_ret
      exact ⟨rfl, unhide Hr, grown_refl _ _⟩
theorem hgt_lt (s : List UInt8) (x : Nat) (st : St) : (M.hgt s x st).1 < 65536 := by
  unfold M.hgt; split
  · exact M.rd2 s st
  · split
    · simp only; omega
    · simp only; omega
end Go.Proofs.Ytgihfcjddkpkaaa
