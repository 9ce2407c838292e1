/-
  A switch by a table, by keys: the reader's states against the plain answers.
  table: a switch by a table.
-/
import Derived.Test.YtddhlphbbiihjaaGreatDoorMgPOthers
import Derived.Deep.DeepCutAuto
namespace Go.Proofs.YtddhlphbbiihjaaGreatDoor.Dc
namespace M
def finT (a op : Nat) (low : Int) : Except Er (List Int × Nat) → Except Er (I × Nat)
  | .error e => .error e
  | .ok (ts, q) => .ok (⟨a, op, false, 0, 0, low, [], ts⟩, q)
def finK (a op : Nat) : Except Er (List Int × List Int × Nat) → Except Er (I × Nat)
  | .error e => .error e
  | .ok (ks, ts, q) => .ok (⟨a, op, false, 0, 0, 0, ks, ts⟩, q)
end M
/-- What is left of a table: an error, or so many targets. -/
def TabAt (s : List UInt8) (a op b : Nat) (lo hi : Int) (st : St) (k : Int) (ts : List Int) : Prop :=
  (st.e ≠ 0 ∧ st.pos ≤ s.length ∧ M.sw s a op b false = .error (st.e, st.p) ∧ ts.length * 4 ≤ st.pos + 8) ∨
  (st.e = 0 ∧ st.p = 0 ∧ st.pos ≤ s.length ∧ lo ≤ k ∧ k ≤ hi + 1 ∧ ts.length * 4 ≤ st.pos ∧ M.sw s a op b false = M.finT a op lo (M.tgs s a (hi - k + 1).toNat st.pos ts))
theorem rd_nil : M.rd M.fw [] = 0 := by decide
theorem sw_of {s : List UInt8} {a op b p : Nat} (h : M.pad s a (M.padN b) b = .ok p) : M.sw s a op b false = M.tab s a op p ∧ M.sw s a op b true = M.key s a op p := by
  unfold M.sw; rw [h]; exact ⟨rfl, rfl⟩
theorem sw_bad {s : List UInt8} {a op b : Nat} {k : Bool} {e : Er} (h : M.pad s a (M.padN b) b = .error e) : M.sw s a op b k = .error e := by
  unfold M.sw; rw [h]
theorem rd_w4 (s : List UInt8) (p : Nat) : M.rd M.fw (M.bs s p 4) = M.w4 s p := rfl
/-- The state behind the two numbers of a table. -/
theorem tab_start {s : List UInt8} {a op b : Nat} {st : St} {t : Int} (h : OthersRes s a b st t) (hb : b ≤ s.length) :
    TabAt s a op b (M.rd M.fw (M.take s 4 st).1) (M.rd M.fw (M.take s 4 (M.take s 4 st).2).1)
      (if M.rd M.fw (M.take s 4 (M.take s 4 st).2).1 < M.rd M.fw (M.take s 4 st).1 then M.fail (M.take s 4 (M.take s 4 st).2).2 15 a else (M.take s 4 (M.take s 4 st).2).2)
      (M.rd M.fw (M.take s 4 st).1) [t] := by
  unfold OthersRes at h
  cases hp : M.pad s a (M.padN b) b with
  | error e =>
    obtain ⟨e, p⟩ := e
    rw [hp] at h
    obtain ⟨h1, h2, h3, h4⟩ := h
    have hbad : st.e ≠ 0 := by rw [h1]; exact h3
    rw [M.take_bad hbad]
    simp only [M.take_bad hbad, Int.lt_irrefl, if_false]
    exact .inl ⟨hbad, h4, by rw [sw_bad hp, h1, h2], by simp⟩
  | ok p =>
    rw [hp] at h
    simp only at h
    have hpl := M.pad_le hb hp
    obtain ⟨e1, _⟩ := sw_of (op := op) hp
    by_cases hl : s.length < p + 4
    · rw [if_pos hl] at h
      obtain ⟨h1, h2, h3⟩ := h
      have hbad : st.e ≠ 0 := by rw [h1]; simp
      rw [M.take_bad hbad]
      simp only [M.take_bad hbad, Int.lt_irrefl, if_false]
      exact .inl ⟨hbad, h3, by rw [e1]; unfold M.tab; rw [if_pos (by omega), h1, h2], by simp⟩
    · rw [if_neg hl] at h
      obtain ⟨rfl, rfl⟩ := h
      by_cases h8 : s.length < p + 8
      · rw [M.take_no (k := 4) (a := p + 4) (by omega)]
        simp only [M.take_bad (st := ⟨p + 4, 1, s.length⟩) (by simp), Int.lt_irrefl, if_false]
        exact .inl ⟨by simp, by simp only; omega, by rw [e1]; unfold M.tab; rw [if_pos (by omega)], by simp only [List.length_singleton]; omega⟩
      · rw [M.take_ok (k := 4) (a := p + 4) (by omega)]
        simp only
        by_cases h12 : s.length < p + 12
        · rw [M.take_no (k := 4) (a := p + 4 + 4) (by omega)]
          simp only
          have hr : M.sw s a op b false = .error (1, s.length) := by rw [e1]; unfold M.tab; rw [if_pos (by omega)]
          split
          · exact .inl ⟨by simp [M.fail], by simp only [M.fail]; simp only [Nat.succ_ne_zero, if_false]; omega, by rw [hr]; rfl, by simp only [M.fail, List.length_singleton]; simp only [Nat.succ_ne_zero, if_false]; omega⟩
          · exact .inl ⟨by simp, by simp only; omega, hr, by simp only [List.length_singleton]; omega⟩
        · rw [M.take_ok (k := 4) (a := p + 4 + 4) (by omega)]
          simp only [rd_w4, show p + 4 + 4 = p + 8 from rfl, show p + 8 + 4 = p + 12 from rfl]
          by_cases hlt : M.w4 s (p + 8) < M.w4 s (p + 4)
          · rw [if_pos hlt]
            refine .inl ⟨by simp [M.fail], by simp only [M.fail, if_true]; omega, ?_, by simp only [M.fail, List.length_singleton, if_true]; omega⟩
            rw [e1]; unfold M.tab; rw [if_neg h12, if_pos hlt]; rfl
          · rw [if_neg hlt]
            refine .inr ⟨rfl, rfl, by simp only; omega, Int.le_refl _, by omega, by simp only [List.length_singleton]; omega, ?_⟩
            rw [e1]; unfold M.tab; rw [if_neg h12, if_neg hlt]; rfl
theorem tgs_succ (s : List UInt8) (a n p : Nat) (ts : List Int) : M.tgs s a (n + 1) p ts = if s.length < p + 4 then .error (1, s.length) else M.tgs s a n (p + 4) (ts ++ [(a : Int) + M.w4 s p]) := rfl
theorem TabAt.next {s : List UInt8} {a op b : Nat} {lo hi : Int} {st : St} {k : Int} {ts : List Int} (h : TabAt s a op b lo hi st k ts) (he : st.e = 0) (hk : k ≤ hi) :
    TabAt s a op b lo hi (M.take s 4 st).2 (k + 1) (ts ++ [(a : Int) + M.rd M.fw (M.take s 4 st).1]) := by
  rcases h with ⟨h1, _⟩ | ⟨h1, h2, h3, h4, h5, h6, h7⟩
  · exact absurd he h1
  · obtain ⟨x, e, p⟩ := st
    simp only at h1 h2 h3 h6 h7
    subst h1; subst h2
    have hn : (hi - k + 1).toNat = (hi - (k + 1) + 1).toNat + 1 := by omega
    rw [hn, tgs_succ] at h7
    by_cases hl : s.length < x + 4
    · rw [if_pos hl] at h7
      rw [M.take_no (by omega)]
      exact .inl ⟨by simp, h3, h7, by simp; omega⟩
    · rw [if_neg hl] at h7
      rw [M.take_ok (by omega)]
      exact .inr ⟨rfl, rfl, by simp only; omega, by omega, by omega, by simp; omega, h7⟩
theorem TabAt.pos {s : List UInt8} {a op b : Nat} {lo hi : Int} {st : St} {k : Int} {ts : List Int} (h : TabAt s a op b lo hi st k ts) : st.pos ≤ s.length ∧ ts.length * 4 ≤ s.length + 8 := by
  rcases h with ⟨_, h2, _, h4⟩ | ⟨_, _, h3, _, _, h6, _⟩
  · omega
  · omega
/-- What an instruction's rest has come to. -/
def ReadTo (s : List UInt8) (st : St) (r : Except Er (I × Nat)) (low a b : Int) (ks ts : List Int) : Prop :=
  M.Left s st r ∧ ∀ i q, r = .ok (i, q) → i.low = low ∧ i.a = a ∧ i.b = b ∧ i.keys = ks ∧ i.tgts = ts
theorem TabAt.done {s : List UInt8} {a op b : Nat} {lo hi : Int} {st : St} {k : Int} {ts : List Int} (h : TabAt s a op b lo hi st k ts) (hx : st.e ≠ 0 ∨ hi < k) : ReadTo s st (M.sw s a op b false) lo 0 0 [] ts := by
  rcases h with ⟨h1, h2, h3, _⟩ | ⟨h1, h2, h3, h4, h5, h6, h7⟩
  · rw [h3]; exact ⟨⟨rfl, rfl, h1, h2⟩, fun _ _ e => by cases e⟩
  · have hk : hi < k := by rcases hx with hx | hx <;> omega
    have hn : (hi - k + 1).toNat = 0 := by omega
    rw [hn] at h7
    rw [h7]
    refine ⟨?_, fun i q e => ?_⟩
    · obtain ⟨x, e, p⟩ := st
      simp only at h1 h2
      subst h1; subst h2
      rfl
    · cases e; exact ⟨rfl, rfl, rfl, rfl, rfl⟩
end Go.Proofs.YtddhlphbbiihjaaGreatDoor.Dc
namespace Go.Proofs.YtddhlphbbiihjaaGreatDoor.Dc
open Go.RowKit
theorem OthersRes.pos {s : List UInt8} {a b : Nat} {st : St} {t : Int} (h : OthersRes s a b st t) : st.pos ≤ s.length := by
  unfold OthersRes at h
  cases hp : M.pad s a (M.padN b) b with
  | error e =>
    obtain ⟨e, p⟩ := e
    rw [hp] at h
    exact h.2.2.2
  | ok p =>
    rw [hp] at h
    simp only at h
    split at h
    · exact h.2.2
    · rw [h.1]; simp only; omega
theorem Own2.grow {w w' : World} {B : Nat} {kv tv : Value} {ks ts : List Int} (h : Own2 w B kv tv ks ts) (hg : w.grownBy w' none) : Own2 w' B kv tv ks ts := h.kept hg (fun _ e => by cases e)
theorem Mid.app {w0 w w' : World} {R g B n : Nat} {s : ByteArray} {st : St} {c : C} {v : Value} {xs : List Value} (h : Mid w0 w R g s st c) (hr : w.ownsRow B 3 1 v n xs) (hg : w.grownBy w' v.ownBlock) (hB : w0.heap.size ≤ B) (hR : R < B) (hgB : g < B) : Mid w0 w' R g s st c :=
  h.grow hg (fun e => by have := (row_in hr e.symm).1; omega) (fun e => by have := (row_in hr e.symm).1; omega) (fun e => by have := (row_in hr e.symm).1; omega) (fun k e => by have := (row_in hr e).1; omega)
theorem row_alloc {w : World} {B n : Nat} {v : Value} {xs : List Value} (h : w.ownsRow B 3 1 v n xs) (o : Obj) : (w.alloc o).ownsRow B 3 1 v n xs := row_kept h (World.grownBy_alloc w o none) (fun _ e => by cases e)
theorem row_drew {w : World} {B n : Nat} {v : Value} {xs : List Value} (h : w.ownsRow B 3 1 v n xs) : w.drew.ownsRow B 3 1 v n xs := h
theorem row_snoc {w : World} {B : Nat} {v : Value} {ts : List Int} {x : Int} (h : w.ownsRow B 3 1 v (ts.length + 1) (ts.map (Value.int .i64) ++ [.int .i64 x])) : w.ownsRow B 3 1 v (ts ++ [x]).length ((ts ++ [x]).map (Value.int .i64)) := by simpa using h
set_option maxRecDepth 100000 in
set_option maxHeartbeats 2000000 in
theorem table_any (R g b : Nat) (s : ByteArray) (c : C) (w : World) (h : Mid w w R g s ⟨b, 0, 0⟩ c) (hs : s.size ≤ 131072) (hp : b ≤ s.size)
    (hkv : c.kv = .slice none 0 0) (htv : c.tv = .slice none 0 0) (hat : c.at_ ≤ 131072) :
    Calls Tryz.prog 105 #[.pointer (some ⟨R, 0, none⟩), .pointer (some ⟨g, 0, none⟩)] w fun x w' => x = .returned (.tuple #[]) ∧
      ∃ st tv low ts, Done w w' R g w.heap.size s st { c with tv := tv, low := low } [] ts ∧ ReadTo s.data.toList st (M.sw s.data.toList c.at_ c.op b false) low 0 0 [] ts := by
  obtain ⟨i0, hi, hz0, hz1, hz2⟩ := info_parts Tryz.info3
  have hlen : s.data.toList.length = s.size := by simp
  have Hlen := hide hlen
  have hg0 := h.ib.lt
  have hR0 := h.rd.lt
  have h00 := h.wd.lt
  have HO := hide (others_any R g w.heap.size b s c w h hs hp hkv htv (Nat.le_refl _) hg0 hat)
  clear hlen
  go_enter Tryz.func105, Tryz.ntmps105
  go_wp2_with fail
  refine (unhide HO).mono ?_
  rintro e w1 ⟨rfl, st, tv, t, ⟨hm1, ho1⟩, hres⟩
  have hstart := tab_start (op := c.op) hres (by rw [unhide Hlen]; exact hp)
  have hpos : st.pos ≤ s.size := by have := hres.pos; rwa [unhide Hlen] at this
  have hp2 := M.take_pos (n := 4) (s := s.data.toList) (st := st) (by rw [unhide Hlen]; exact hpos)
  have C2 := operand_word R s st hs hpos
  have b2 := M.rd_bound M.fw _ (M.take_len s.data.toList 4 st) (by decide)
  obtain ⟨T2, s2, e2⟩ : ∃ T s1, M.take s.data.toList 4 st = (T, s1) := ⟨_, _, rfl⟩
  rw [e2] at hstart hp2 b2
  simp only [e2] at C2
  simp only at hstart hp2 C2 b2
  have hpos2 : s2.pos ≤ s.size := by rw [unhide Hlen] at hp2; exact hp2
  have C3 := operand_word R s s2 hs hpos2
  have b3 := M.rd_bound M.fw _ (M.take_len s.data.toList 4 s2) (by decide)
  obtain ⟨T3, s3, e3⟩ : ∃ T s1, M.take s.data.toList 4 s2 = (T, s1) := ⟨_, _, rfl⟩
  rw [e3] at hstart b3
  simp only [e3] at C3
  simp only at hstart C3 b3
  obtain ⟨lo, hlo⟩ : ∃ x, x = M.rd M.fw T2 := ⟨_, rfl⟩
  obtain ⟨hi', hhi⟩ : ∃ x, x = M.rd M.fw T3 := ⟨_, rfl⟩
  rw [← hlo] at hstart b2
  rw [← hhi] at hstart b3
  simp only [← hlo] at C2
  simp only [← hhi] at C3
  have H2 := hide C2
  have H3 := hide C3
  have HS := hide hstart
  clear C2 C3 hstart e2 e3 hlo hhi hres HO hp2 h
  obtain ⟨v0, v1, v2⟩ := hm1.wd
  go_wp2_with fail
  refine (unhide H2 _ hm1.rd).mono ?_
  rintro e w2 ⟨rfl, hr2, hg2⟩
  have hm2 := hm1.take hr2 hg2
  have ho2 := ho1.kept hg2 (fun b e => by cases e; exact hR0)
  clear hm1 ho1 hr2 hg2 v0 v1 v2 H2
  have k5 := hm2.ib.cell 5
  have f5 := hm2.ib.frozen 5
  simp [C.cells] at k5
  have hm3 := hm2.set 5 _ (hm2.ib.setLow lo)
  have ho3 := ho2.kept (grown_set w2 g 5 (.int .i64 lo)) (fun b e => by cases e; exact hg0)
  clear hm2 ho2
  go_upto_region 2 with fail
  clear k5 f5
  generalize w2.setCell ⟨g, 5, none⟩ (.int .i64 lo) = W3 at *
  obtain ⟨v0, v1, v2⟩ := hm3.wd
  go_wp2_with fail
  refine (unhide H3 _ hm3.rd).mono ?_
  rintro e w4 ⟨rfl, hr4, hg4⟩
  have hm4 := hm3.take hr4 hg4
  have ho4 := ho3.kept hg4 (fun b e => by cases e; exact hR0)
  clear hm3 ho3 hr4 hg4 v0 v1 v2 H3
  have k5 := hm4.ib.cell 5
  have k0 := hm4.ib.cell 0
  simp [C.cells] at k5 k0
  go_upto_if 23 with fail
  go_cut [4] (fun v w' => v = .int .i64 hi' ∧ ∃ st', TabAt s.data.toList c.at_ c.op b lo hi' st' lo [t] ∧ Mid w w' R g s st' { c with tv := tv, low := lo } ∧ Own2 w' w.heap.size c.kv tv [] [t])
  case first =>
    have hS := unhide HS
    by_cases hlt : hi' < lo
    · rw [if_pos hlt] at hS
      have HS2 := hide hS
      clear hS HS
      have hmd := hm4.drew
      go_wp2_with fail
      go_region_with (go_at_call 104; refine (Fail_any R s s3 15 c.at_ _ hmd.rd).mono ?_; rintro e w5 ⟨rfl, hr5, hg5, hz5⟩)
      have hm5 := hmd.take hr5 hg5
      have ho5 := Own2.kept (w := w4.drew) (w' := w5) ⟨ho4.k, ho4.t, ho4.apart⟩ hg5 (fun b e => by cases e; exact hR0)
      go_wp2
      go_meet
      case rel => exact ⟨rfl, _, unhide HS2, hm5, ho5⟩
    · rw [if_neg hlt] at hS
      have HS2 := hide hS
      clear hS HS
      go_wp2
      go_meet
      case rel => exact ⟨rfl, _, unhide HS2, hm4, ho4⟩
  case rest =>
    obtain ⟨rfl, st', hT, hmA, hoA⟩ := hcut
    have HT := hide hT
    clear hT k5 k0 HS hm4 ho4
    have k5 := hmA.ib.cell 5
    simp [C.cells] at k5
    go_wp2_with fail
    go_loopw [5] (fun k wr => ∃ (kk : Int) (st : St) (tv' : Value) (ts : List Int), k = .int .i64 kk ∧ -4294967296 ≤ kk ∧ kk ≤ 4294967296 ∧ Hid (TabAt s.data.toList c.at_ c.op b lo hi' st kk ts) ∧ Mid w wr R g s st { c with tv := tv', low := lo } ∧ Own2 wr w.heap.size c.kv tv' [] ts) (fun k _ => (hi' + 1 - intOf k).toNat)
    case atStart => exact ⟨lo, st', tv, [t], rfl, by omega, by omega, HT, hmA, hoA⟩
    case round =>
      clear HT hmA hoA k5 st' tv
      obtain ⟨kk, st', tv, ts, rfl, hk1, hk2, HT, hmA, hoA⟩ := hrel
      have hpp := (unhide HT).pos
      rw [unhide Hlen] at hpp
      obtain ⟨hpos', hts⟩ := hpp
      go_wp2_with fail
      refine (Good_any R s st' wr hmA.rd).mono ?_
      rintro e w1 ⟨rfl, hw⟩
      subst w1
      by_cases hx : st'.e = 0 ∧ kk ≤ hi'
      · obtain ⟨hx1, hx2⟩ := hx
        rw [decide_eq_true hx1]
        have hn := (unhide HT).next hx1 hx2
        have CT := target_word R s st' c.at_ hs hpos' hat
        have bt := M.rd_bound M.fw _ (M.take_len s.data.toList 4 st') (by decide)
        obtain ⟨T, s1, hT⟩ : ∃ T s1, M.take s.data.toList 4 st' = (T, s1) := ⟨_, _, rfl⟩
        rw [hT] at hn bt
        simp only [hT] at CT
        simp only at hn CT bt
        obtain ⟨x, hxx⟩ : ∃ x, x = (c.at_ : Int) + M.rd M.fw T := ⟨_, rfl⟩
        rw [← hxx] at hn
        simp only [← hxx] at CT
        have HN := hide hn
        have HC := hide CT
        clear hn CT hT hxx HT hx1 bt
        have hmd := hmA.drew
        have k0 := hmA.ib.cell 7
        have i0c := hmA.ib.cell 0
        obtain ⟨v0, v1, v2⟩ := hmA.wd
        simp [C.cells] at k0 i0c
        go_wp2_with fail
        go_region_law (first
          | (refine step_call rfl 134 #[.tmp 52, .tmp 56, .tmp 57] #[148, 3, 156] rfl #[.pointer (some ⟨R, 0, none⟩), .int .i64 (c.at_ : Int), .agg #[.int .i64 4, .int .i64 (-2147483648), .int .i64 2147483647]] (by simp [Act.eval]) enter134 (unhide HC _ hmd.rd) ?_; rintro e w5 ⟨rfl, hr5, hg5⟩; refine ⟨_, rfl, ?_⟩; have hm5 := hmd.take hr5 hg5; have k5 := hm5.ib.cell 7; simp [C.cells] at k5; have hm6 := hm5.alloc (.cells #[.int .i64 x] 3); have hrow6 := row_alloc (row_kept (row_drew hoA.t) hg5 (fun b e e2 => by cases e; have := (row_in hoA.t e2).1; omega)) (.cells #[.int .i64 x] 3); have k6 := hm6.ib.cell 7; simp [C.cells] at k6; clear hr5 hg5 hm5)
          | (refine step_append_at rfl (.tmp 51) (.tmp 59) 110 rfl w.heap.size 3 i0 (.int .i64 0) 1 8 Tryz.underlying110 hi hz0 hz1 hz2 rfl (by decide) tv ts.length (ts.map (Value.int .i64)) (by simp [Act.eval]) hrow6 ⟨w5.heap.size, 0, none⟩ 1 1 [.int .i64 x] (by simp [Act.eval]) rfl (cell_one_new _ _ _) (ints_oneCell .i64 [x]) (by unfold maxLen; omega) (by omega) hm6.kp.size ?_; intro v' w7 hown7 hgrow7 hloc7; obtain ⟨g7, c7, rfl⟩ := own_form hown7 (by omega); have hm7 := hm6.app hrow6 hgrow7 (Nat.le_refl _) hR0 hg0; have k7 := hm7.ib.cell 7; have f7 := hm7.ib.frozen 7; simp [C.cells] at k7; clear hgrow7 hm6 hrow6))
        all_goals
          have hm8 := hm7.set 7 _ (hm7.ib.setT (.slice (some ⟨g7, 0, none⟩) (ts.length + 1) c7))
          have ho8 : Own2 (w7.setCell ⟨g, 7, none⟩ (.slice (some ⟨g7, 0, none⟩) (ts.length + 1) c7)) w.heap.size c.kv (.slice (some ⟨g7, 0, none⟩) (ts.length + 1) c7) [] (ts ++ [x]) := by
            rw [hkv]
            exact ⟨World.ownsRow_nil _ _ _ _, row_kept (row_snoc hown7) (grown_set w7 g 7 _) (fun b e e2 => by cases e; have := (row_in hown7 e2).1; omega), fun _ e => by cases e⟩
          clear hm7 hown7 hloc7 hmd hmA hoA
          go_wp2
          go_roundw
          case rel => exact ⟨kk + 1, s1, _, ts ++ [x], by go_num, by omega, by omega, HN, hm8, ho8⟩
          case measure => simp [intOf]; omega
      · have hxo : st'.e ≠ 0 ∨ hi' < kk := by
          by_cases h1 : st'.e = 0
          · exact .inr (by have := not_and.1 hx h1; omega)
          · exact .inl h1
        have hdone := (unhide HT).done hxo
        have HD := hide hdone
        clear hdone HT hx
        by_cases h1 : st'.e = 0
        · have h2 : hi' < kk := by rcases hxo with h | h; exact absurd h1 h; exact h
          rw [decide_eq_true h1]
          clear h1 hxo
          go_wp2
          go_end0
          exact ⟨rfl, st', tv, lo, ts, ⟨hmA, hoA⟩, unhide HD⟩
        · rw [decide_eq_false h1]
          clear h1 hxo
          go_wp2
          go_end0
          exact ⟨rfl, st', tv, lo, ts, ⟨hmA, hoA⟩, unhide HD⟩
end Go.Proofs.YtddhlphbbiihjaaGreatDoor.Dc
