/-
  MapReads: the walk.
-/
import Derived.Test.YtbgpkkbejbidlabRm
import Derived.Test.YtbgpkkbejbidlabRq
import Derived.Test.YtbgpkkbejbidlabAp
import Derived.Deep.RegionHeld3
namespace Go.Proofs.Ytbgpkkbejbidlab
open Go.RowKit
namespace M
theorem frames_bd {s : List UInt8} {P : List K} : ∀ {n : Nat} {a : Fm} {st : St} {N : Nat}, a.locals.length ≤ N → a.stack.length ≤ 65536 → 65536 ≤ N → (frames s P n a st).1.length ≤ n ∧ ∀ f ∈ (frames s P n a st).1, f.locals.length ≤ N + 3 * n ∧ f.stack.length ≤ 65536
  | 0, _, _, _, _, _, _ => ⟨Nat.le_refl _, fun _ h => by cases h⟩
  | n + 1, a, st, N, h1, h2, h3 => by
    have hf := frame_len (s := s) (P := P) (a := a) (st := st) h1 h2 h3
    rw [frames]
    split
    · have ih := frames_bd (s := s) (P := P) (n := n) (a := (frame s P a st).1) (st := (frame s P a st).2) (N := N + 3) hf.1 hf.2 (by omega)
      refine ⟨by simp only [List.length_cons]; omega, fun f hm => ?_⟩
      rcases List.mem_cons.1 hm with rfl | hm
      · exact ⟨by omega, hf.2⟩
      · have := ih.2 f hm
        exact ⟨by omega, this.2⟩
    · exact ⟨by simp, fun _ h => by cases h⟩
end M
/-- The mark. -/
def mk : T := ⟨77, [], 7⟩
theorem TIn.of_bk3 {w : World} {g : Nat} (h : Bk w g #[.int .u8 77, .string ⟨#[]⟩, .int .i64 7, .int .u8 77, .string ⟨#[]⟩, .int .i64 7, .int .u8 77, .string ⟨#[]⟩, .int .i64 7] 25) : TIn w (.slice (some ⟨g, 0, none⟩) 3 3) [mk, mk, mk] := by
  refine ⟨_, 3, rfl, fun _ => ⟨g, 0, rfl, fun k hk i hi => ?_⟩⟩
  rw [h.cell]
  have hk' : k < 3 := hk
  rcases (show k = 0 ∨ k = 1 ∨ k = 2 by omega) with rfl | rfl | rfl
  all_goals rcases (show i = 0 ∨ i = 1 ∨ i = 2 by omega) with rfl | rfl | rfl
  all_goals rfl
theorem step_copy {ops : Array Oper} {o : Oper} {a : Act} {w : World} {K : Act → World → Prop} {Q : Exit → Act → World → Prop} {E : Prop} (hg : o.guard = none) (x : Operand)
    (ho : o.op = .call { callee := .builtin .append, args := #[.const (.slice none 0 0), x], argTypes := #[23, 23] })
    (w1 : World) (v : Value) (xs : List T) (hx : a.eval x = v) (hb : Below w1.heap.size w1 w) (h : TIn w1 v xs) (hl : xs.length ≤ 1048576)
    (hk : ∀ v' w', w'.ownsRow w1.heap.size 25 3 v' xs.length (TC xs) → Below w1.heap.size w1 w' → (∀ g cs t, Bk w g cs t → Bk w' g cs t) → K (a.put o.dst v') w') :
    if Region.wanted o (yielded ops a.tmps) = true then Oper.wp Try.prog o a w K Q else E := by
  have hw : Region.wanted o (yielded ops a.tmps) = true := by simp [Region.wanted, hg]
  rw [if_pos hw]
  obtain ⟨v', w', hr, h2, h3⟩ := run_copy w o.type v xs (h.below hb) hl w1.heap.size hb.size
  have hs : a.eval (.const (.slice none 0 0)) = .slice none 0 0 := rfl
  unfold Oper.wp execOp
  simp only [ho, resolve, invoke, builtin, Sem.run_bind, Sem.run_pure, Result.andThen_ok, List.map_toArray, List.map_cons, List.map_nil, hs, hx, hr]
  exact hk v' w' h2 (hb.trans (h3.mono hb.size)) (fun g cs t hB => hB.below h3)
theorem enter6 : ∀ vals w, (callFunc 6 vals).run Try.prog w = .ok (.enter 6 vals) w := enters Try.func6 (by kernel_rfl) (by kernel_rfl)
set_option maxRecDepth 100000 in
set_option maxHeartbeats 4000000 in
theorem reads_walk (pv lv : Value) (s : ByteArray) (P : List K) (F : List T) (w : World) (hs : s.size ≤ 140737488355328) (hP : P.length ≤ 140737488355328) (hF : F.length ≤ 140737488355328) (hp : KIn w pv P) (hl : TIn w lv F) :
    Calls Try.prog 3 #[.string s, pv, lv] w fun x w' => x = .returned (.bool true) ∧ Below w.heap.size w w' := by
  have Hp := hide hp
  have Hl := hide hl
  obtain ⟨lad, lcap, elv, _⟩ := hl
  obtain ⟨pad, pcap, epv, _⟩ := hp.ex
  subst elv epv
  clear hp
  by_cases hbig : 4096 < s.size + P.length + F.length
  · have hz : (4096 : Int) < (s.size : Int) + (P.length : Int) + (F.length : Int) := by omega
    go_enter Try.func3, Try.ntmps3
    go_wp2
    go_ret
    exact ⟨rfl, Below.refl _ _⟩
  · have hz : ¬ (4096 : Int) < (s.size : Int) + (P.length : Int) + (F.length : Int) := by omega
    have hs1 : s.size ≤ 131072 := by omega
    have hP1 : P.length ≤ 1048576 := by omega
    have hF1 : F.length ≤ 4096 := by omega
    obtain ⟨wA, hwA⟩ : ∃ wA, wA = w.alloc (.cells #[.int .u8 77, .string ⟨#[]⟩, .int .i64 7] 25) := ⟨_, rfl⟩
    have hbA : Below w.heap.size w wA := by rw [hwA]; exact (Below.refl _ _).alloc (Nat.le_refl _) _
    obtain ⟨Mk, hMk⟩ : ∃ Mk, Mk = w.heap.size := ⟨_, rfl⟩
    have hkA : Bk wA Mk #[.int .u8 77, .string ⟨#[]⟩, .int .i64 7] 25 := by rw [hwA, hMk]; exact Bk.new _ _ _
    have HMk := hide hMk
    have HwA := hide hwA
    clear hMk hwA
    go_enter Try.func3, Try.ntmps3
    go_upto_region 4 with fail
    rw [← unhide HwA, ← unhide HMk]
    clear HwA
    have HTA := hide ((unhide Hl).below hbA)
    go_upto_region 5 with (at_builtin; refine wpList_copy _ rfl _ _ rfl _ F rfl rfl (unhide HTA) (by omega) wA.heap.size (Nat.le_refl _) ?_; intro v8 w1 ho8 hb1)
    obtain ⟨a8, n8, c8, e8⟩ := own_slice ho8
    subst e8
    have hk1 := hkA.below hb1
    have hbw1 := hbA.trans (hb1.mono hbA.size)
    have HT1 := hide ((unhide Hl).below hbw1)
    have hMl := hk1.lt
    clear HTA hkA hbA
    have c0 := hk1.cell 0
    have c1 := hk1.cell 1
    have c2 := hk1.cell 2
    simp at c0 c1 c2
    go_cut [9] (fun v w' => Hid (w'.ownsRow w1.heap.size 25 3 v (F ++ [mk, mk, mk]).length (TC (F ++ [mk, mk, mk])) ∧ Below w1.heap.size w1 w'))
    case first =>
      go_region_held3 (fun w' => w'.cell? ⟨Mk, 0, none⟩ = some (.int .u8 77) ∧ w'.cell? ⟨Mk, 1, none⟩ = some (.string ⟨#[]⟩) ∧ w'.cell? ⟨Mk, 2, none⟩ = some (.int .i64 7)) (go_keep)
        (first
          | (refine step_copy rfl (.tmp 28) rfl w1 (.slice lad F.length lcap) F (by simp [Act.eval]) ?_ (unhide HT1) (by omega) ?_; (first | exact (Below.refl _ _).drew | exact ((Below.refl _ _).alloc (Nat.le_refl _) _).drew); intro v5 w5 ho5 hb5 hk5; have b5 := (hk1.below hb5); have z0 := b5.cell 0; have z1 := b5.cell 1; have z2 := b5.cell 2; simp at z0 z1 z2; have hw5 := hb5.size; try (have b6 := hk5 w1.heap.size #[.int .u8 77, .string ⟨#[]⟩, .int .i64 7, .int .u8 77, .string ⟨#[]⟩, .int .i64 7, .int .u8 77, .string ⟨#[]⟩, .int .i64 7] 25 (Bk.new _ _ _)))
          | (refine step_app rfl (.tmp 29) (.tmp 33) rfl w1.heap.size v5 (.slice (some ⟨w1.heap.size, 0, none⟩) 3 3) F [mk, mk, mk] (by simp [Act.eval]) (by simp [Act.eval]) ho5 (TIn.of_bk3 b6) (.inr ⟨_, _, _, rfl⟩) (by simp; omega) hb5.size ?_; intro v7 w7 ho7 hg7 hv7; have hb7 := hb5.grown hg7 hb5.size (fun k e => (ins_in ho5 e).1); have b8 := (hk1.below hb7); have z0 := b8.cell 0; have z1 := b8.cell 1; have z2 := b8.cell 2; simp at z0 z1 z2; obtain ⟨a7, n7, c7, e7⟩ := own_slice ho7; subst e7)
          | (refine step_app rfl (.tmp 29) (.tmp 33) rfl w1.heap.size v5 (.slice (some ⟨w5.heap.size, 0, none⟩) 3 3) F [mk, mk, mk] (by simp [Act.eval]) (by simp [Act.eval]) (ho5.alloc _) (TIn.of_bk3 (Bk.new w5 _ _)) (.inr ⟨_, _, _, rfl⟩) (by simp; omega) (hb5.alloc hb5.size _).size ?_; intro v7 w7 ho7 hg7 hv7; have hb7 := (hb5.alloc hb5.size _).grown hg7 (hb5.alloc hb5.size _).size (fun k e => (ins_in ho5 e).1); have b8 := (hk1.below hb7); have z0 := b8.cell 0; have z1 := b8.cell 1; have z2 := b8.cell 2; simp at z0 z1 z2; obtain ⟨a7, n7, c7, e7⟩ := own_slice ho7; subst e7))
      all_goals
        go_wp2
        go_meet
        exact ⟨ho7, hb7⟩
    case rest =>
      clear c0 c1 c2
      obtain ⟨ho9, hb9⟩ := unhide hcut
      clear hcut
      obtain ⟨g, c9, e9⟩ : ∃ g c9, u9 = .slice (some ⟨g, 0, none⟩) (F.length + 3) c9 := by
        rcases ho9.2 with ⟨_, h0⟩ | ⟨g, cap, cur, h0, _⟩
        · simp at h0
        · exact ⟨g, cap, by rw [h0]; simp⟩
      subst e9
      have hc9 := (own_cap ho9).2
      have hc10 : F.length ≤ c9 := by omega
      have hTr := TIn.of_own ho9
      have hTk := (hTr.take (cap' := c9) F.length (by simp))
      rw [List.take_left] at hTk
      have hbw9 := hbw1.trans (hb9.mono hbw1.size)
      have HRd := hide (Read_any (.slice pad P.length pcap) (.slice (some ⟨g, 0, none⟩) F.length c9) s P F wc hs1 hP1 ((unhide Hp).below hbw9) hTk (fun ad n c e => by cases e; exact hc10) (by omega))
      have HRm := hide (fun (W : World) (hb : Below wc.heap.size wc W) => ReadMap_any (.slice pad P.length pcap) (.slice a8 n8 c8) s P F W hs1 hP1 (((unhide Hp).below hbw9).below hb) (((TIn.of_own ho8).below hb9).below hb) (by omega))
      have hfbd := M.frames_bd (s := s.data.toList) (P := P) (n := (M.rd s.data.toList 2 ⟨0, 0, 0⟩).1) (a := ⟨-1, F, []⟩) (st := (M.rd s.data.toList 2 ⟨0, 0, 0⟩).2) (N := 65536) (by simp only; omega) (by simp) (Nat.le_refl _)
      have hrd2 := M.rd2 s.data.toList ⟨0, 0, 0⟩
      obtain ⟨Fs, hFs⟩ : ∃ Fs, Fs = (M.frames s.data.toList P (M.rd s.data.toList 2 ⟨0, 0, 0⟩).1 ⟨-1, F, []⟩ (M.rd s.data.toList 2 ⟨0, 0, 0⟩).2).1 := ⟨_, rfl⟩
      obtain ⟨st', hst⟩ : ∃ st', st' = M.fin s.data.toList (M.frames s.data.toList P (M.rd s.data.toList 2 ⟨0, 0, 0⟩).1 ⟨-1, F, []⟩ (M.rd s.data.toList 2 ⟨0, 0, 0⟩).2).2 := ⟨_, rfl⟩
      rw [← hFs, ← hst] at HRd
      simp only [← hFs, ← hst] at HRm
      rw [← hFs] at hfbd
      have hFl : Fs.length ≤ 65536 := by omega
      have hFm : ∀ f ∈ Fs, f.locals.length ≤ 1048576 ∧ f.stack.length ≤ 1048576 := fun f hf => by have := hfbd.2 f hf; omega
      have HFm := hide hFm
      have Hk9 := hide (hk1.below hb9)
      have HTr := hide hTr
      have Hbw9 := hide hbw9
      have HTl := hide ((unhide Hl).below hbw9)
      clear hFs hst hfbd hrd2 hFm hTr hTk hbw9 ho8 ho9 hc9 hb9 hb1 hk1 hbw1 HT1
      generalize wc = w2 at *
      go_wp2_with fail
      refine (unhide HRd).mono ?_
      rintro e w3 ⟨ad3, n3, c3, rfl, hb3, hok3, hno3⟩
      obtain ⟨pl, hpl⟩ : ∃ pl, pl = (if st'.e = 0 then 0 else st'.p) := ⟨_, rfl⟩
      rw [← hpl]
      have Hpl := hide hpl
      clear HRd hpl
      go_wp2_with fail
      refine (unhide HRm _ hb3).mono ?_
      rintro e w4 ⟨ad4, n4, c4, rfl, hb4, hok4, hno4⟩
      rw [← unhide Hpl]
      clear HRm
      have hb34 := hb3.trans (hb4.mono hb3.size)
      have hk4 := (unhide Hk9).below hb34
      have hT4 := (unhide HTr).below hb34
      have hl4 := (unhide HTl).below hb34
      have HT4 := hide hT4
      have Hl4 := hide hl4
      have hbw4 := (unhide Hbw9).trans (hb34.mono (unhide Hbw9).size)
      have Hbw4 := hide hbw4
      have Hbw2 := Hbw9
      have Hb4 := hide hb4
      have Hb3 := hide hb3
      have Hok3 := hide hok3
      have Hno3 := hide hno3
      have Hok4 := hide hok4
      have Hno4 := hide hno4
      have hMl4 := hk4.lt
      have Hk4 := hide hk4
      have c0 := hk4.cell 0
      have c1 := hk4.cell 1
      have c2 := hk4.cell 2
      simp at c0 c1 c2
      have hFl3 : (F ++ [mk, mk, mk]).length ≤ 1048576 := by simp; omega
      have hlen3 : (F ++ [mk, mk, mk]).length = F.length + 3 := by simp
      have HFl3 := hide hFl3
      have Hlen3 := hide hlen3
      clear hT4 hl4 hbw4 hb4 hb3 hb34 hok3 hno3 hok4 hno4 hk4 Hk9 HTr HTl Hbw9 hFl3 hlen3
      go_upto_region 8 with fail
      go_cut [63] (fun v w' => v = .bool false ∧ Hid (Below w4.heap.size w4 w'))
      case first =>
        go_region_held3 (fun w' => w'.cell? ⟨Mk, 0, none⟩ = some (.int .u8 77) ∧ w'.cell? ⟨Mk, 1, none⟩ = some (.string ⟨#[]⟩) ∧ w'.cell? ⟨Mk, 2, none⟩ = some (.int .i64 7)) (go_keep)
          (first
            | (refine step_copy rfl (.tmp 55) rfl w4 (.slice lad F.length lcap) F (by simp [Act.eval]) ?_ (unhide Hl4) (by omega) ?_; (first | exact (Below.refl _ _).drew | exact ((Below.refl _ _).alloc (Nat.le_refl _) _).drew); intro v5 w5 ho5 hb5 hk5; have b5 := ((unhide Hk4).below hb5); have z0 := b5.cell 0; have z1 := b5.cell 1; have z2 := b5.cell 2; simp at z0 z1 z2; have hw5 := hb5.size; try (have b6 := hk5 w4.heap.size #[.int .u8 77, .string ⟨#[]⟩, .int .i64 7, .int .u8 77, .string ⟨#[]⟩, .int .i64 7, .int .u8 77, .string ⟨#[]⟩, .int .i64 7] 25 (Bk.new _ _ _)))
            | (refine step_app rfl (.tmp 56) (.tmp 60) rfl w4.heap.size v5 (.slice (some ⟨w4.heap.size, 0, none⟩) 3 3) F [mk, mk, mk] (by simp [Act.eval]) (by simp [Act.eval]) ho5 (TIn.of_bk3 b6) (.inr ⟨_, _, _, rfl⟩) (by simp; omega) hb5.size ?_; intro v7 w7 ho7 hg7 hv7; have hb7 := hb5.grown hg7 hb5.size (fun k e => (ins_in ho5 e).1); have b8 := ((unhide Hk4).below hb7); have z0 := b8.cell 0; have z1 := b8.cell 1; have z2 := b8.cell 2; simp at z0 z1 z2; rw [unhide Hlen3] at ho7; obtain ⟨a7, n7, c7, e7⟩ := own_slice ho7; subst e7)
            | (refine step_app rfl (.tmp 56) (.tmp 60) rfl w4.heap.size v5 (.slice (some ⟨w5.heap.size, 0, none⟩) 3 3) F [mk, mk, mk] (by simp [Act.eval]) (by simp [Act.eval]) (ho5.alloc _) (TIn.of_bk3 (Bk.new w5 _ _)) (.inr ⟨_, _, _, rfl⟩) (by simp; omega) (hb5.alloc hb5.size _).size ?_; intro v7 w7 ho7 hg7 hv7; have hb7 := (hb5.alloc hb5.size _).grown hg7 (hb5.alloc hb5.size _).size (fun k e => (ins_in ho5 e).1); have b8 := ((unhide Hk4).below hb7); have z0 := b8.cell 0; have z1 := b8.cell 1; have z2 := b8.cell 2; simp at z0 z1 z2; rw [unhide Hlen3] at ho7; obtain ⟨a7, n7, c7, e7⟩ := own_slice ho7; subst e7)
            | (refine step_call rfl 6 #[.tmp 54, .tmp 61] #[23, 23] rfl #[.slice (some ⟨g, 0, none⟩) (F.length + 3) c9, .slice a7 n7 c7] (by simp [Act.eval]) enter6 (sameTypes_eq (.slice (some ⟨g, 0, none⟩) (F.length + 3) c9) (.slice a7 n7 c7) (F ++ [mk, mk, mk]) w7 ((unhide HT4).below hb7) (TIn.of_own (by rw [unhide Hlen3]; exact ho7)) (unhide HFl3)) ?_; rintro e w8 ⟨rfl, kk, rfl⟩; refine ⟨_, rfl, ?_⟩))
        all_goals
          go_wp2
          go_meet
          exact ⟨rfl, ⟨hb7.os, hb7.tape, hb7.output, hb7.size, hb7.block⟩⟩
      case rest =>
        obtain ⟨rfl, hbc⟩ := hcut
        have hb2c : Below w2.heap.size w2 wc := ((unhide Hb3).trans ((unhide Hb4).mono (unhide Hb3).size)).trans ((unhide hbc).mono (Nat.le_trans (unhide Hb3).size (unhide Hb4).size))
        have hb3c : Below w3.heap.size w3 wc := (unhide Hb4).trans ((unhide hbc).mono (unhide Hb4).size)
        have f1 : ((st'.e : Int) == (st'.e : Int)) = true := by simp
        have f2 : ((pl : Int) == (pl : Int)) = true := by simp
        have hX : ∃ (L K : List J), L.map J.f = K.map J.f ∧ L.length ≤ 1048576 ∧ (∀ j ∈ L, j.f.locals.length ≤ 1048576 ∧ j.f.stack.length ≤ 1048576) ∧ Lst wc w2.heap.size (.slice ad3 n3 c3) L ∧ Lst wc w3.heap.size (.slice ad4 n4 c4) K := by
          by_cases he : st'.e = 0
          · obtain ⟨L, hL1, hL2⟩ := unhide Hok3 he
            obtain ⟨K, hK1, hK2⟩ := unhide Hok4 he
            refine ⟨L, K, by rw [hL1, hK1], ?_, fun j hj => unhide HFm j.f (by rw [← hL1]; exact List.mem_map_of_mem hj), hL2.kept (grown_of_below hb3c none) (fun _ e => by cases e), hK2.kept (grown_of_below (unhide hbc) none) (fun _ e => by cases e)⟩
            have := congrArg List.length hL1
            rw [List.length_map] at this
            omega
          · obtain ⟨rfl, rfl, rfl⟩ := unhide Hno3 he
            obtain ⟨rfl, rfl, rfl⟩ := unhide Hno4 he
            exact ⟨[], [], rfl, by simp, (fun _ h => by cases h), Lst.nil _ _, Lst.nil _ _⟩
        obtain ⟨L, K, hLK, hLl, hLm, hL3, hK4⟩ := hX
        have HS := hide (sameFrames_eq (.slice ad3 n3 c3) (.slice ad4 n4 c4) L K wc (Has.of_lst hL3) (Has.of_lst hK4) hLK hLl hLm)
        have HA := hide (fun k => apart_any (.slice ad3 n3 c3) L w2.heap.size (wc.drewN k) (hL3.kept (row := none) ⟨rfl, rfl, rfl, Nat.le_refl _, fun _ _ _ => rfl⟩ (fun _ e => by cases e)) hb2c.size hLl hLm)
        have Hb2c := hide hb2c
        clear hLK hLl hLm hL3 hK4 hb2c hb3c Hok3 Hok4 Hno3 Hno4 HFm
        go_wp2_with fail
        refine (unhide HS).mono ?_
        rintro e w5 ⟨rfl, k5, hw5⟩
        subst w5
        clear HS
        go_wp2_with fail
        refine (unhide HA _).mono ?_
        rintro e w6 ⟨rfl, hb6⟩
        clear HA
        go_wp2
        go_ret
        have hq := unhide Hb2c
        have hd5 : Below w2.heap.size w2 (wc.drewN k5) := ⟨hq.os, hq.tape, hq.output, hq.size, hq.block⟩
        exact ⟨rfl, (unhide Hbw2).trans ((hd5.trans hb6).mono (unhide Hbw2).size)⟩
end Go.Proofs.Ytbgpkkbejbidlab
