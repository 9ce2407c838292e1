/-
  Lists of instructions that are the same, by the statement's own reckoning.
-/
import Derived.Test.YtpmonoenppfekabDoorSame
namespace Go.Proofs.YtpmonoenppfekabDoor
open Go.RowKit
theorem HasI.drewN {w : World} {v : Value} {xs : List Int} (h : HasI w v xs) (n : Nat) : HasI (w.drewN n) v xs := h
theorem HasI.form {w : World} {v : Value} {xs : List Int} (h : HasI w v xs) : ∃ a c, v = .slice a xs.length c := by
  obtain ⟨a, c, e, _⟩ := h; exact ⟨a, c, e⟩
theorem HasI.below {w w' : World} {v : Value} {xs : List Int} (h : HasI w v xs) (hb : Below w.heap.size w w') : HasI w' v xs := by
  obtain ⟨a, c, e, hc⟩ := h
  refine ⟨a, c, e, fun hne => ?_⟩
  obtain ⟨b, o, e1, hk⟩ := hc hne
  exact ⟨b, o, e1, fun k hl => (hb.cell (cell_lt (hk k hl))).trans (hk k hl)⟩
set_option maxRecDepth 100000 in
set_option maxHeartbeats 2000000 in
theorem same_eq (v u : Value) (L K : List J) (w : World) (h1 : Has w v L) (h2 : Has w u K) (he : L.map J.i = K.map J.i) (hl : L.length ≤ 1048576) (hb : ∀ j ∈ L, j.i.keys.length ≤ 1048576 ∧ j.i.tgts.length ≤ 1048576) :
    Calls Tryd.prog 16 #[v, u] w fun x w' => x = .returned (.bool true) ∧ Below w.heap.size w w' := by
  have hlk : L.length = K.length := by have := congrArg List.length he; simpa using this
  obtain ⟨⟨a1, c1, rfl, hc1⟩, ho1⟩ := h1
  obtain ⟨⟨a2, c2, rfl, hc2⟩, ho2⟩ := h2
  rw [← hlk]
  have H1 := hide hc1
  have H2 := hide hc2
  have O1 := hide ho1
  have O2 := hide ho2
  have HE := hide he
  have HB := hide hb
  have HL := hide hlk
  clear hc1 hc2 ho1 ho2 he hb hlk
  have hll : (((L.length : Nat) : Int) != ((L.length : Nat) : Int)) = false := by simp
  go_enter Tryd.func16, Tryd.ntmps16
  go_wp2_with fail
  go_loopw [15] (fun i wr => ∃ k : Nat, k ≤ L.length ∧ i = .int .i64 k ∧ Below w.heap.size w wr) (fun i _ => L.length - (intOf i).toNat)
  case atStart => exact ⟨0, Nat.zero_le _, rfl, Below.refl _ _⟩
  case round =>
    obtain ⟨k, hk, rfl, hnx⟩ := hrel
    by_cases hlt : k < L.length
    · have hlt2 : k < K.length := by rw [← unhide HL]; exact hlt
      have hne : L ≠ [] := by rintro rfl; simp at hlt
      have hne2 : K ≠ [] := by rintro rfl; simp at hlt2
      obtain ⟨b1, o1, rfl, q1⟩ := unhide H1 hne
      obtain ⟨b2, o2, rfl, q2⟩ := unhide H2 hne2
      have hij : (L[k]).i = (K[k]).i := by
        have := congrArg (fun l => l[k]?) (unhide HE)
        simpa [hlt, hlt2] using this
      have hx := At8.of (q1 k hlt)
      have hy := At8.of (q2 k hlt2)
      have l1 := cell_lt hx.1
      have l2 := cell_lt hy.1
      obtain ⟨m1, m2⟩ := unhide O1 _ (List.getElem_mem hlt)
      obtain ⟨n1, n2⟩ := unhide O2 _ (List.getElem_mem hlt2)
      obtain ⟨d1, d2⟩ := unhide HB _ (List.getElem_mem hlt)
      rw [← hij] at n1 n2
      obtain ⟨x0, x1, x2, x3, x4, x5, x6, x7⟩ := hx
      obtain ⟨y0, y1, y2, y3, y4, y5, y6, y7⟩ := hy
      simp only [J.c] at x0 x1 x2 x3 x4 x5 x6 x7
      simp only [J.c, ← hij] at y0 y1 y2 y3 y4 y5 y6 y7
      generalize (L[k]).i = i at *
      generalize (L[k]).kv = kx at *
      generalize (L[k]).tv = tx at *
      generalize (K[k]).kv = ky at *
      generalize (K[k]).tv = ty at *
      have l1' : ∀ o, wr.cell? ⟨b1, o, none⟩ = w.cell? ⟨b1, o, none⟩ := fun o => hnx.cell l1
      have l2' : ∀ o, wr.cell? ⟨b2, o, none⟩ = w.cell? ⟨b2, o, none⟩ := fun o => hnx.cell l2
      rw [← l1'] at x0 x1 x2 x3 x4 x5 x6 x7
      rw [← l2'] at y0 y1 y2 y3 y4 y5 y6 y7
      have m1 := m1.below hnx
      have m2 := m2.below hnx
      have n1 := n1.below hnx
      have n2 := n2.below hnx
      obtain ⟨p1, p2, rfl⟩ := m1.form
      obtain ⟨p3, p4, rfl⟩ := m2.form
      obtain ⟨p5, p6, rfl⟩ := n1.form
      obtain ⟨p7, p8, rfl⟩ := n2.form
      have HK := hide (fun w1 (hb1 : Below wr.heap.size wr w1) => sameInts_eq _ _ _ w1 (m1.below hb1) (n1.below hb1) d1)
      have HT := hide (fun w1 (hb1 : Below wr.heap.size wr w1) => sameInts_eq _ _ _ w1 (m2.below hb1) (n2.below hb1) d2)
      clear l1' l2' H1 H2 O1 O2 HE HB m1 m2 n1 n2 q1 q2 hne hne2 hij d1 d2
      have ki : (k : Int) < (L.length : Int) := by omega
      go_upto_region 7 with fail
      have hbx : Below wr.heap.size wr (wr.alloc (.cells #[.int .i64 (i.at_ : Int), .int .u8 (i.op : Int), .bool i.wide, .int .i64 i.a, .int .i64 i.b, .int .i64 i.low, .slice p1 i.keys.length p2, .slice p3 i.tgts.length p4] 35)) := (Below.refl _ _).alloc (Nat.le_refl _) _
      have hzx : (wr.alloc (.cells #[.int .i64 (i.at_ : Int), .int .u8 (i.op : Int), .bool i.wide, .int .i64 i.a, .int .i64 i.b, .int .i64 i.low, .slice p1 i.keys.length p2, .slice p3 i.tgts.length p4] 35)).heap.size = wr.heap.size + 1 := by simp
      have l2r : b2 < wr.heap.size := Nat.lt_of_lt_of_le l2 hnx.size
      have l2' : ∀ o, (wr.alloc (.cells #[.int .i64 (i.at_ : Int), .int .u8 (i.op : Int), .bool i.wide, .int .i64 i.a, .int .i64 i.b, .int .i64 i.low, .slice p1 i.keys.length p2, .slice p3 i.tgts.length p4] 35)).cell? ⟨b2, o, none⟩ = wr.cell? ⟨b2, o, none⟩ := fun o => hbx.cell l2r
      rw [← l2'] at y0 y1 y2 y3 y4 y5 y6 y7
      have hxb : (wr.alloc (.cells #[.int .i64 (i.at_ : Int), .int .u8 (i.op : Int), .bool i.wide, .int .i64 i.a, .int .i64 i.b, .int .i64 i.low, .slice p1 i.keys.length p2, .slice p3 i.tgts.length p4] 35)).heap[wr.heap.size]? = some (.cells #[.int .i64 (i.at_ : Int), .int .u8 (i.op : Int), .bool i.wide, .int .i64 i.a, .int .i64 i.b, .int .i64 i.low, .slice p1 i.keys.length p2, .slice p3 i.tgts.length p4] 35 (0, 0)) := heap_alloc_new wr _
      generalize wr.alloc (.cells #[.int .i64 (i.at_ : Int), .int .u8 (i.op : Int), .bool i.wide, .int .i64 i.a, .int .i64 i.b, .int .i64 i.low, .slice p1 i.keys.length p2, .slice p3 i.tgts.length p4] 35) = WX at *
      clear l2' x0 x1 x2 x3 x4 x5 x6 x7
      go_upto_region 8 with fail
      have hby : Below wr.heap.size wr (WX.alloc (.cells #[.int .i64 (i.at_ : Int), .int .u8 (i.op : Int), .bool i.wide, .int .i64 i.a, .int .i64 i.b, .int .i64 i.low, .slice p5 i.keys.length p6, .slice p7 i.tgts.length p8] 35)) := hbx.alloc (by omega) _
      have hxy : (WX.alloc (.cells #[.int .i64 (i.at_ : Int), .int .u8 (i.op : Int), .bool i.wide, .int .i64 i.a, .int .i64 i.b, .int .i64 i.low, .slice p5 i.keys.length p6, .slice p7 i.tgts.length p8] 35)).heap[wr.heap.size]? = some (.cells #[.int .i64 (i.at_ : Int), .int .u8 (i.op : Int), .bool i.wide, .int .i64 i.a, .int .i64 i.b, .int .i64 i.low, .slice p1 i.keys.length p2, .slice p3 i.tgts.length p4] 35 (0, 0)) := by rw [heap_alloc_old _ _ (by omega)]; exact hxb
      have hyb : (WX.alloc (.cells #[.int .i64 (i.at_ : Int), .int .u8 (i.op : Int), .bool i.wide, .int .i64 i.a, .int .i64 i.b, .int .i64 i.low, .slice p5 i.keys.length p6, .slice p7 i.tgts.length p8] 35)).heap[WX.heap.size]? = some (.cells #[.int .i64 (i.at_ : Int), .int .u8 (i.op : Int), .bool i.wide, .int .i64 i.a, .int .i64 i.b, .int .i64 i.low, .slice p5 i.keys.length p6, .slice p7 i.tgts.length p8] 35 (0, 0)) := heap_alloc_new WX _
      rw [hzx] at hyb
      generalize WX.alloc (.cells #[.int .i64 (i.at_ : Int), .int .u8 (i.op : Int), .bool i.wide, .int .i64 i.a, .int .i64 i.b, .int .i64 i.low, .slice p5 i.keys.length p6, .slice p7 i.tgts.length p8] 35) = WY at *
      clear y0 y1 y2 y3 y4 y5 y6 y7 hxb hbx hzx WX
      have x0 := cell_of_row WY wr.heap.size 0 _ 35 (0, 0) hxy
      have y0 := cell_of_row WY (wr.heap.size + 1) 0 _ 35 (0, 0) hyb
      have x1 := cell_of_row WY wr.heap.size 1 _ 35 (0, 0) hxy
      have y1 := cell_of_row WY (wr.heap.size + 1) 1 _ 35 (0, 0) hyb
      have x2 := cell_of_row WY wr.heap.size 2 _ 35 (0, 0) hxy
      have y2 := cell_of_row WY (wr.heap.size + 1) 2 _ 35 (0, 0) hyb
      have x3 := cell_of_row WY wr.heap.size 3 _ 35 (0, 0) hxy
      have y3 := cell_of_row WY (wr.heap.size + 1) 3 _ 35 (0, 0) hyb
      have x4 := cell_of_row WY wr.heap.size 4 _ 35 (0, 0) hxy
      have y4 := cell_of_row WY (wr.heap.size + 1) 4 _ 35 (0, 0) hyb
      have x5 := cell_of_row WY wr.heap.size 5 _ 35 (0, 0) hxy
      have y5 := cell_of_row WY (wr.heap.size + 1) 5 _ 35 (0, 0) hyb
      have x6 := cell_of_row WY wr.heap.size 6 _ 35 (0, 0) hxy
      have y6 := cell_of_row WY (wr.heap.size + 1) 6 _ 35 (0, 0) hyb
      have x7 := cell_of_row WY wr.heap.size 7 _ 35 (0, 0) hxy
      have y7 := cell_of_row WY (wr.heap.size + 1) 7 _ 35 (0, 0) hyb
      simp at x0 x1 x2 x3 x4 x5 x6 x7 y0 y1 y2 y3 y4 y5 y6 y7
      clear hxy hyb
      have f0 : ((i.at_ : Int) != (i.at_ : Int)) = false := by simp
      have f1 : ((i.op : Int) != (i.op : Int)) = false := by simp
      have f2 : (i.wide != i.wide) = false := by simp
      have f3 : (i.a != i.a) = false := by simp
      have f4 : (i.b != i.b) = false := by simp
      have f5 : (i.low != i.low) = false := by simp
      go_wp2_with fail
      refine (unhide HK _ hby).mono ?_
      rintro e w5 ⟨rfl, n5, rfl⟩
      have hb5 : Below wr.heap.size wr (WY.drewN n5) := ⟨hby.os, hby.tape, hby.output, hby.size, hby.block⟩
      go_wp2_with fail
      refine (unhide HT _ hb5).mono ?_
      rintro e w6 ⟨rfl, n6, rfl⟩
      have hb6 : Below wr.heap.size wr (WY.drewN (n5 + n6)) := ⟨hb5.os, hb5.tape, hb5.output, hb5.size, hb5.block⟩
      go_wp2
      go_roundw
      case rel => exact ⟨k + 1, by omega, by go_num, hnx.trans (hb6.mono hnx.size)⟩
      case measure => simp [intOf]; omega
    · have ki : (L.length : Int) ≤ (k : Int) := by omega
      go_wp2
      go_ret
      exact ⟨rfl, hnx⟩
end Go.Proofs.YtpmonoenppfekabDoor
