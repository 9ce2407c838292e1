/-
  A switch by keys: the reader's states against the plain answer; both lists grow.
  keys: a switch by keys.
-/
import Derived.Test.YtddhlphbbiihjaaGreatDoorMgPTable
namespace Go.Proofs.YtddhlphbbiihjaaGreatDoor.Dc
open Go.RowKit
/-- What is left of the keys: an error, or so many. -/
def KeyAt (s : List UInt8) (a op b : Nat) (cnt : Int) (st : St) (k : Nat) (ks ts : List Int) : Prop :=
  (st.e ≠ 0 ∧ st.pos ≤ s.length ∧ M.sw s a op b true = .error (st.e, st.p) ∧ ks.length * 4 ≤ st.pos + 8 ∧ ts.length * 4 ≤ st.pos + 8) ∨
  (st.e = 0 ∧ st.p = 0 ∧ st.pos ≤ s.length ∧ (k : Int) ≤ cnt ∧ ks.length = k ∧ ks.length * 4 ≤ st.pos ∧ ts.length * 4 ≤ st.pos ∧ M.sw s a op b true = M.finK a op (M.kys s a (cnt - k).toNat st.pos ks ts))
theorem key_start {s : List UInt8} {a op b : Nat} {st : St} {t : Int} (h : OthersRes s a b st t) (hb : b ≤ s.length) :
    KeyAt s a op b (M.rd M.fw (M.take s 4 st).1) (if M.rd M.fw (M.take s 4 st).1 < 0 then M.fail (M.take s 4 st).2 15 a else (M.take s 4 st).2) 0 [] [t] := by
  unfold OthersRes at h
  cases hp : M.pad s a (M.padN b) b with
  | error e =>
    obtain ⟨e, p⟩ := e
    rw [hp] at h
    obtain ⟨h1, h2, h3, h4⟩ := h
    have hbad : st.e ≠ 0 := by rw [h1]; exact h3
    rw [M.take_bad hbad]
    simp only [rd_nil, Int.lt_irrefl, if_false]
    exact .inl ⟨hbad, h4, by rw [sw_bad hp, h1, h2], by simp, by simp⟩
  | ok p =>
    rw [hp] at h
    simp only at h
    have hpl := M.pad_le hb hp
    obtain ⟨_, e1⟩ := sw_of (op := op) hp
    by_cases hl : s.length < p + 4
    · rw [if_pos hl] at h
      obtain ⟨h1, h2, h3⟩ := h
      have hbad : st.e ≠ 0 := by rw [h1]; simp
      rw [M.take_bad hbad]
      simp only [rd_nil, Int.lt_irrefl, if_false]
      exact .inl ⟨hbad, h3, by rw [e1]; unfold M.key; rw [if_pos (by omega), h1, h2], by simp, by simp⟩
    · rw [if_neg hl] at h
      obtain ⟨rfl, rfl⟩ := h
      by_cases h8 : s.length < p + 8
      · rw [M.take_no (k := 4) (a := p + 4) (by omega)]
        simp only [rd_nil, Int.lt_irrefl, if_false]
        exact .inl ⟨by simp, by simp only; omega, by rw [e1]; unfold M.key; rw [if_pos (by omega)], by simp, by simp only [List.length_singleton]; omega⟩
      · rw [M.take_ok (k := 4) (a := p + 4) (by omega)]
        simp only [rd_w4, show p + 4 + 4 = p + 8 from rfl]
        by_cases hlt : M.w4 s (p + 4) < 0
        · rw [if_pos hlt]
          refine .inl ⟨by simp [M.fail], by simp only [M.fail, if_true]; omega, ?_, by simp, by simp only [M.fail, List.length_singleton, if_true]; omega⟩
          rw [e1]; unfold M.key; rw [if_neg h8, if_pos hlt]; rfl
        · rw [if_neg hlt]
          refine .inr ⟨rfl, rfl, by simp only; omega, by omega, rfl, by simp, by simp only [List.length_singleton]; omega, ?_⟩
          rw [e1]; unfold M.key; rw [if_neg h8, if_neg hlt]; simp only [Int.natCast_zero, Int.sub_zero]; rfl
theorem kys_succ (s : List UInt8) (a n p : Nat) (ks ts : List Int) : M.kys s a (n + 1) p ks ts = if s.length < p + 4 then .error (1, s.length) else if ks ≠ [] ∧ M.w4 s p ≤ ks.getLastD 0 then .error (15, a)
      else if s.length < p + 8 then .error (1, s.length) else M.kys s a n (p + 8) (ks ++ [M.w4 s p]) (ts ++ [(a : Int) + M.w4 s (p + 4)]) := rfl
/-- The state behind a key that was read and looked at. -/
def keyed (s : List UInt8) (a : Nat) (st : St) (ks : List Int) : St :=
  if ks ≠ [] ∧ M.rd M.fw (M.take s 4 st).1 ≤ ks.getLastD 0 then M.fail (M.take s 4 st).2 15 a else (M.take s 4 st).2
theorem KeyAt.next {s : List UInt8} {a op b : Nat} {cnt : Int} {st : St} {k : Nat} {ks ts : List Int} (h : KeyAt s a op b cnt st k ks ts) (he : st.e = 0) (hk : (k : Int) < cnt) :
    KeyAt s a op b cnt (M.take s 4 (keyed s a st ks)).2 (k + 1) (ks ++ [M.rd M.fw (M.take s 4 st).1]) (ts ++ [(a : Int) + M.rd M.fw (M.take s 4 (keyed s a st ks)).1]) ∧ (keyed s a st ks).pos ≤ s.length ∧ ks.length = k := by
  rcases h with ⟨h1, _⟩ | ⟨h1, h2, h3, h4, h5, h6, h6b, h7⟩
  · exact absurd he h1
  · obtain ⟨x, e, p⟩ := st
    simp only at h1 h2 h3 h6 h6b h7
    subst h1; subst h2
    have hn : (cnt - k).toNat = (cnt - ((k + 1 : Nat) : Int)).toNat + 1 := by omega
    rw [hn, kys_succ] at h7
    by_cases hl : s.length < x + 4
    · rw [if_pos hl] at h7
      have hst : keyed s a ⟨x, 0, 0⟩ ks = ⟨x, 1, s.length⟩ := by
        unfold keyed
        rw [M.take_no (by omega)]
        split
        · exact M.fail_bad (by simp)
        · rfl
      rw [hst, M.take_bad (st := ⟨x, 1, s.length⟩) (by simp)]
      exact ⟨.inl ⟨by simp, h3, h7, by simp; omega, by simp; omega⟩, h3, h5⟩
    · rw [if_neg hl] at h7
      have hst : keyed s a ⟨x, 0, 0⟩ ks = if ks ≠ [] ∧ M.w4 s x ≤ ks.getLastD 0 then ⟨x + 4, 15, a⟩ else ⟨x + 4, 0, 0⟩ := by
        unfold keyed; rw [M.take_ok (by omega)]; rfl
      have hx4 : M.rd M.fw (M.take s 4 ⟨x, 0, 0⟩).1 = M.w4 s x := by rw [M.take_ok (by omega)]; rfl
      rw [hst, hx4]
      by_cases hr : ks ≠ [] ∧ M.w4 s x ≤ ks.getLastD 0
      · rw [if_pos hr] at h7 ⊢
        rw [M.take_bad (by simp)]
        exact ⟨.inl ⟨by simp, by simp only; omega, h7, by simp; omega, by simp; omega⟩, by simp only; omega, h5⟩
      · rw [if_neg hr] at h7 ⊢
        by_cases h8 : s.length < x + 8
        · rw [if_pos h8] at h7
          rw [M.take_no (by omega)]
          exact ⟨.inl ⟨by simp, by simp only; omega, h7, by simp; omega, by simp; omega⟩, by simp only; omega, h5⟩
        · rw [if_neg h8] at h7
          rw [M.take_ok (by omega)]
          simp only [rd_w4]
          exact ⟨.inr ⟨rfl, rfl, by show x + 4 + 4 ≤ s.length; omega, by omega, by simp; omega, by simp; omega, by simp; omega, h7⟩, by show x + 4 ≤ s.length; omega, h5⟩
theorem KeyAt.pos {s : List UInt8} {a op b : Nat} {cnt : Int} {st : St} {k : Nat} {ks ts : List Int} (h : KeyAt s a op b cnt st k ks ts) : st.pos ≤ s.length ∧ ks.length * 4 ≤ s.length + 8 ∧ ts.length * 4 ≤ s.length + 8 := by
  rcases h with ⟨_, h2, _, h4, h5⟩ | ⟨_, _, h3, _, _, h6, h7, _⟩
  · omega
  · omega
theorem KeyAt.done {s : List UInt8} {a op b : Nat} {cnt : Int} {st : St} {k : Nat} {ks ts : List Int} (h : KeyAt s a op b cnt st k ks ts) (hx : st.e ≠ 0 ∨ cnt ≤ (k : Int)) : ReadTo s st (M.sw s a op b true) 0 0 0 ks ts := by
  rcases h with ⟨h1, h2, h3, _⟩ | ⟨h1, h2, h3, h4, h5, h6, h6b, h7⟩
  · rw [h3]; exact ⟨⟨rfl, rfl, h1, h2⟩, fun _ _ e => by cases e⟩
  · have hk : cnt ≤ (k : Int) := by rcases hx with hx | hx <;> omega
    have hn : (cnt - k).toNat = 0 := by omega
    rw [hn] at h7
    rw [h7]
    refine ⟨?_, fun i q e => ?_⟩
    · obtain ⟨x, e, p⟩ := st
      simp only at h1 h2
      subst h1; subst h2
      rfl
    · cases e; exact ⟨rfl, rfl, rfl, rfl, rfl⟩
theorem Own2.appK {w w' : World} {B : Nat} {kv tv kv' : Value} {ks ts : List Int} {x : Int} (h : Own2 w B kv tv ks ts) (hr : w'.ownsRow B 3 1 kv' (ks.length + 1) (ks.map (Value.int .i64) ++ [.int .i64 x])) (hg : w.grownBy w' kv.ownBlock)
    (hl : kv'.ownBlock = kv.ownBlock ∨ kv'.ownBlock = some w.heap.size) : Own2 w' B kv' tv (ks ++ [x]) ts :=
  ⟨row_snoc hr, row_kept h.t hg (fun b e => h.apart b e), fun b e e2 => by
    rcases hl with hl | hl
    · exact h.apart b (hl ▸ e) e2
    · rw [hl] at e; cases e; have := (row_in h.t e2).2; omega⟩
theorem Own2.appT {w w' : World} {B : Nat} {kv tv tv' : Value} {ks ts : List Int} {x : Int} (h : Own2 w B kv tv ks ts) (hr : w'.ownsRow B 3 1 tv' (ts.length + 1) (ts.map (Value.int .i64) ++ [.int .i64 x])) (hg : w.grownBy w' tv.ownBlock)
    (hl : tv'.ownBlock = tv.ownBlock ∨ tv'.ownBlock = some w.heap.size) : Own2 w' B kv tv' ks (ts ++ [x]) :=
  ⟨row_kept h.k hg (fun b e e2 => h.apart b e2 e), row_snoc hr, fun b e e2 => by
    rcases hl with hl | hl
    · exact h.apart b e (hl ▸ e2)
    · rw [hl] at e2; cases e2; have := (row_in h.k e).2; omega⟩
theorem row_at {w : World} {B g n c : Nat} {ks : List Int} (h : w.ownsRow B 3 1 (.slice (some ⟨g, 0, none⟩) n c) n (ks.map (Value.int .i64))) (j : Nat) (hj : j < ks.length) : w.cell? ⟨g, j, none⟩ = some (.int .i64 (ks.getD j 0)) := by
  have := h.cells (g := g) rfl j (.int .i64 (ks.getD j 0)) (by simp [List.getD, hj])
  have e : ((⟨g, 0, none⟩ : Addr).add j) = ⟨g, j, none⟩ := by unfold Addr.add; cases j <;> simp
  rwa [e] at this
end Go.Proofs.YtddhlphbbiihjaaGreatDoor.Dc
namespace Go.Proofs.YtddhlphbbiihjaaGreatDoor.Dc
open Go.RowKit
set_option maxRecDepth 100000 in
set_option maxHeartbeats 2000000 in
theorem keys_any (R g b : Nat) (s : ByteArray) (c : C) (w : World) (h : Mid w w R g s ⟨b, 0, 0⟩ c) (hs : s.size ≤ 131072) (hp : b ≤ s.size)
    (hkv : c.kv = .slice none 0 0) (htv : c.tv = .slice none 0 0) (hat : c.at_ ≤ 131072) :
    Calls Tryz.prog 106 #[.pointer (some ⟨R, 0, none⟩), .pointer (some ⟨g, 0, none⟩)] w fun x w' => x = .returned (.tuple #[]) ∧
      ∃ st kv tv ks ts, Done w w' R g w.heap.size s st { c with kv := kv, tv := tv } ks ts ∧ ReadTo s.data.toList st (M.sw s.data.toList c.at_ c.op b true) 0 0 0 ks ts := by
  obtain ⟨i0, hi, hz0, hz1, hz2⟩ := info_parts Tryz.info3
  have hlen : s.data.toList.length = s.size := by simp
  have Hlen := hide hlen
  have hg0 := h.ib.lt
  have hR0 := h.rd.lt
  have HO := hide (others_any R g w.heap.size b s c w h hs hp hkv htv (Nat.le_refl _) hg0 hat)
  clear hlen
  go_enter Tryz.func106, Tryz.ntmps106
  go_wp2_with fail
  refine (unhide HO).mono ?_
  rintro e w1 ⟨rfl, st, tv, t, ⟨hm1, ho1⟩, hres⟩
  have hstart := key_start (op := c.op) hres (by rw [unhide Hlen]; exact hp)
  have hpos : st.pos ≤ s.size := by have := hres.pos; rwa [unhide Hlen] at this
  have C2 := operand_word R s st hs hpos
  have b2 := M.rd_bound M.fw _ (M.take_len s.data.toList 4 st) (by decide)
  obtain ⟨T2, s3, e2⟩ : ∃ T s1, M.take s.data.toList 4 st = (T, s1) := ⟨_, _, rfl⟩
  rw [e2] at hstart b2
  simp only [e2] at C2
  simp only at hstart C2 b2
  obtain ⟨cnt, hcnt⟩ : ∃ x, x = M.rd M.fw T2 := ⟨_, rfl⟩
  rw [← hcnt] at hstart b2
  simp only [← hcnt] at C2
  have H2 := hide C2
  have HS := hide hstart
  clear C2 hstart e2 hcnt hres HO h
  obtain ⟨v0, v1, v2⟩ := hm1.wd
  go_wp2_with fail
  refine (unhide H2 _ hm1.rd).mono ?_
  rintro e w4 ⟨rfl, hr2, hg2⟩
  have hm4 := hm1.take hr2 hg2
  have ho4 := ho1.kept hg2 (fun b e => by cases e; exact hR0)
  clear hm1 ho1 hr2 hg2 v0 v1 v2 H2
  have k0 := hm4.ib.cell 0
  simp [C.cells] at k0
  go_upto_if 13 with fail
  go_cut [4] (fun v w' => v = .int .i64 cnt ∧ ∃ st', KeyAt s.data.toList c.at_ c.op b cnt st' 0 [] [t] ∧ Mid w w' R g s st' { c with tv := tv } ∧ Own2 w' w.heap.size c.kv tv [] [t])
  case first =>
    have hS := unhide HS
    by_cases hlt : cnt < 0
    · rw [if_pos hlt] at hS
      have HS2 := hide hS
      clear hS HS
      have hmd := hm4.drew
      go_wp2_with fail
      go_region_with (go_at_call 104; refine (Fail_any R s s3 15 c.at_ _ hmd.rd).mono ?_; rintro e w5 ⟨rfl, hr5, hg5, hz5⟩)
      have hm5 := hmd.take hr5 hg5
      have ho5 := Own2.kept (w := w4.drew) (w' := w5) ⟨ho4.k, ho4.t, ho4.apart⟩ hg5 (fun b e => by cases e; exact hR0)
      go_wp2
      go_meet
      case rel => exact ⟨rfl, _, unhide HS2, hm5, ho5⟩
    · rw [if_neg hlt] at hS
      have HS2 := hide hS
      clear hS HS
      go_wp2
      go_meet
      case rel => exact ⟨rfl, _, unhide HS2, hm4, ho4⟩
  case rest =>
    obtain ⟨rfl, st', hT, hmA, hoA⟩ := hcut
    have HT := hide hT
    clear hT k0 HS hm4 ho4
    go_wp2_with fail
    go_loopw [5] (fun k wr => ∃ (kk : Nat) (st : St) (kv tv' : Value) (ks ts : List Int), k = .int .i64 kk ∧ (kk : Int) ≤ 4294967296 ∧ Hid (KeyAt s.data.toList c.at_ c.op b cnt st kk ks ts) ∧ Mid w wr R g s st { c with kv := kv, tv := tv' } ∧ Own2 wr w.heap.size kv tv' ks ts) (fun k _ => (cnt - intOf k).toNat)
    case atStart => exact ⟨0, st', c.kv, tv, [], [t], rfl, by omega, HT, hmA, hoA⟩
    case round =>
      clear HT hmA hoA st' tv
      obtain ⟨kk, st', kv, tv, ks, ts, rfl, hk2, HT, hmA, hoA⟩ := hrel
      have hpp := (unhide HT).pos
      rw [unhide Hlen] at hpp
      obtain ⟨hpos', hks, hts⟩ := hpp
      go_wp2_with fail
      refine (Good_any R s st' wr hmA.rd).mono ?_
      rintro e w1 ⟨rfl, hw⟩
      subst w1
      by_cases hx : st'.e = 0 ∧ (kk : Int) < cnt
      · obtain ⟨hx1, hx2⟩ := hx
        rw [decide_eq_true hx1]
        obtain ⟨hn, hpk, hkl⟩ := (unhide HT).next hx1 hx2
        subst hkl
        have CK := operand_word R s st' hs hpos'
        have bk := M.rd_bound M.fw _ (M.take_len s.data.toList 4 st') (by decide)
        rw [unhide Hlen] at hpk
        have CT := target_word R s (keyed s.data.toList c.at_ st' ks) c.at_ hs hpk hat
        have hkd : keyed s.data.toList c.at_ st' ks = if ks ≠ [] ∧ M.rd M.fw (M.take s.data.toList 4 st').1 ≤ ks.getLastD 0 then M.fail (M.take s.data.toList 4 st').2 15 c.at_ else (M.take s.data.toList 4 st').2 := rfl
        obtain ⟨sk, hsk⟩ : ∃ x, x = keyed s.data.toList c.at_ st' ks := ⟨_, rfl⟩
        rw [← hsk] at hn hpk CT hkd
        obtain ⟨T, s1, hT⟩ : ∃ T s1, M.take s.data.toList 4 st' = (T, s1) := ⟨_, _, rfl⟩
        rw [hT] at hn hkd bk
        simp only [hT] at CK
        simp only at hn CK hkd bk
        obtain ⟨x, hxx⟩ : ∃ x, x = M.rd M.fw T := ⟨_, rfl⟩
        rw [← hxx] at hn hkd bk
        simp only [← hxx] at CK
        obtain ⟨U, s2, hU⟩ : ∃ U s2, M.take s.data.toList 4 sk = (U, s2) := ⟨_, _, rfl⟩
        rw [hU] at hn
        simp only [hU] at CT
        simp only at hn CT
        obtain ⟨y, hyy⟩ : ∃ y, y = (c.at_ : Int) + M.rd M.fw U := ⟨_, rfl⟩
        rw [← hyy] at hn
        simp only [← hyy] at CT
        have HN := hide hn
        have HK := hide CK
        have HC := hide CT
        have HD := hide hkd
        clear hn CK CT hkd hT hU hxx hyy hsk HT hx1
        have hmd := hmA.drew
        have k0 := hmA.ib.cell 6
        obtain ⟨v0, v1, v2⟩ := hmA.wd
        simp [C.cells] at k0
        go_wp2_with fail
        go_cut [5] (fun v w' => v = .int .i64 (ks.length : Int) ∧ ∃ g7 c7, Mid w w' R g s s1 { c with kv := .slice (some ⟨g7, 0, none⟩) (ks.length + 1) c7, tv := tv } ∧ Own2 w' w.heap.size (.slice (some ⟨g7, 0, none⟩) (ks.length + 1) c7) tv (ks ++ [x]) ts)
        case first =>
          go_region_law (first
            | (refine step_call rfl 133 #[.tmp 38, .tmp 39] #[148, 156] rfl #[.pointer (some ⟨R, 0, none⟩), .agg #[.int .i64 4, .int .i64 (-2147483648), .int .i64 2147483647]] (by simp [Act.eval]) enter133 (unhide HK _ hmd.rd) ?_; rintro e w5 ⟨rfl, hr5, hg5⟩; refine ⟨_, rfl, ?_⟩; have hm5 := hmd.take hr5 hg5; have ho5 := Own2.kept (w := wr.drew) (w' := w5) ⟨hoA.k, hoA.t, hoA.apart⟩ hg5 (fun b e => by cases e; exact hR0); have k5 := hm5.ib.cell 6; simp [C.cells] at k5; have hm6 := hm5.alloc (.cells #[.int .i64 x] 3); have ho6 := ho5.grow (World.grownBy_alloc w5 (.cells #[.int .i64 x] 3) none); have k6 := hm6.ib.cell 6; simp [C.cells] at k6; clear hr5 hg5 hm5 ho5)
            | (refine step_append_at rfl (.tmp 37) (.tmp 41) 110 rfl w.heap.size 3 i0 (.int .i64 0) 1 8 Tryz.underlying110 hi hz0 hz1 hz2 rfl (by decide) kv ks.length (ks.map (Value.int .i64)) (by simp [Act.eval]) ho6.k ⟨w5.heap.size, 0, none⟩ 1 1 [.int .i64 x] (by simp [Act.eval]) rfl (cell_one_new _ _ _) (ints_oneCell .i64 [x]) (by unfold maxLen; omega) (by omega) hm6.kp.size ?_; intro v' w7 hown7 hgrow7 hloc7; have ho7 := ho6.appK hown7 hgrow7 hloc7; have hm7 := hm6.app ho6.k hgrow7 (Nat.le_refl _) hR0 hg0; obtain ⟨g7, c7, rfl⟩ := own_form hown7 (by omega); have k7 := hm7.ib.cell 6; have f7 := hm7.ib.frozen 6; simp [C.cells] at k7; clear hgrow7 hm6 ho6 hown7 hloc7))
          all_goals
            have hm8 := hm7.set 6 _ (hm7.ib.setK (.slice (some ⟨g7, 0, none⟩) (ks.length + 1) c7))
            have ho8 := ho7.kept (grown_set w7 g 6 (.slice (some ⟨g7, 0, none⟩) (ks.length + 1) c7)) (fun b e => by cases e; exact hg0)
            clear hm7 ho7 hmd hmA hoA
            go_wp2
            go_meet
            case rel => exact ⟨rfl, g7, c7, hm8, ho8⟩
        case rest =>
          obtain ⟨rfl, g7, c7, hmB, hoB⟩ := hcut
          clear hmA hoA hmd k0 v0 v1 v2 HK
          have k6 := hmB.ib.cell 6
          have k0 := hmB.ib.cell 0
          simp [C.cells] at k6 k0
          go_wp2_with fail
          go_cut [5, 64] (fun v b w' => v = .int .i64 (ks.length : Int) ∧ b = .bool (decide (ks ≠ [] ∧ x ≤ ks.getLastD 0)) ∧ Mid w w' R g s s1 { c with kv := .slice (some ⟨g7, 0, none⟩) (ks.length + 1) c7, tv := tv } ∧ Own2 w' w.heap.size (.slice (some ⟨g7, 0, none⟩) (ks.length + 1) c7) tv (ks ++ [x]) ts)
          case first =>
            by_cases hk0 : ks = []
            · subst hk0
              go_quiet (fail)
              go_wp2
              go_meet
              case rel => exact ⟨rfl, rfl, hmB.drewN _, ⟨hoB.k, hoB.t, hoB.apart⟩⟩
            · have hl0 : 0 < ks.length := List.length_pos_iff.2 hk0
              have hrow : wc.ownsRow w.heap.size 3 1 (.slice (some ⟨g7, 0, none⟩) (ks.length + 1) c7) (ks.length + 1) ((ks ++ [x]).map (Value.int .i64)) := by have := hoB.k; simpa using this
              have c1 := row_at hrow ks.length (by simp)
              have c2 := row_at hrow (ks.length - 1) (by simp; omega)
              have e1 : (ks ++ [x]).getD ks.length 0 = x := by simp [List.getD]
              have e2 : (ks ++ [x]).getD (ks.length - 1) 0 = ks.getLastD 0 := by
                rw [List.getD, List.getElem?_append_left (by omega), List.getLastD_eq_getLast?, List.getLast?_eq_getElem?]
              rw [e1] at c1
              rw [e2] at c2
              clear e1 e2 hrow
              have hdec : decide (ks ≠ [] ∧ x ≤ ks.getLastD 0) = decide (x ≤ ks.getLastD 0) := by rw [Bool.eq_iff_iff]; simp [hk0]
              have i1 : (0 : Int) < (ks.length : Int) := by omega
              have i2 : (ks.length : Int) < ((ks.length + 1 : Nat) : Int) := by omega
              have Hd := hide hdec
              clear hdec hk0
              go_quiet (fail)
              go_wp2
              go_meet
              case rel => exact ⟨rfl, by rw [unhide Hd, List.getLastD_eq_getLast?], hmB.drewN _, ⟨hoB.k, hoB.t, hoB.apart⟩⟩
          case rest =>
            obtain ⟨rfl, rfl, hmC, hoC⟩ := hcut
            clear hmB hoB k6 k0
            have hd := unhide HD
            have k0 := hmC.ib.cell 0
            simp [C.cells] at k0
            go_upto_if 64 with fail
            go_cut [5] (fun v w' => v = .int .i64 (ks.length : Int) ∧ Mid w w' R g s sk { c with kv := .slice (some ⟨g7, 0, none⟩) (ks.length + 1) c7, tv := tv } ∧ Own2 w' w.heap.size (.slice (some ⟨g7, 0, none⟩) (ks.length + 1) c7) tv (ks ++ [x]) ts)
            case first =>
              by_cases hc : ks ≠ [] ∧ x ≤ ks.getLastD 0
              · rw [if_pos hc] at hd
                rw [decide_eq_true hc]
                have Hd := hide hd
                clear hd hc HD
                have hmd := hmC.drew
                go_wp2_with fail
                go_region_with (go_at_call 104; refine (Fail_any R s s1 15 c.at_ _ hmd.rd).mono ?_; rintro e w5 ⟨rfl, hr5, hg5, hz5⟩)
                have hm5 := hmd.take hr5 hg5
                have ho5 := Own2.kept (w' := w5) (show Own2 wc.drew w.heap.size _ _ _ _ from ⟨hoC.k, hoC.t, hoC.apart⟩) hg5 (fun b e => by cases e; exact hR0)
                go_wp2
                go_meet
                case rel => exact ⟨rfl, by rw [unhide Hd]; exact hm5, ho5⟩
              · rw [if_neg hc] at hd
                rw [decide_eq_false hc]
                have Hd := hide hd
                clear hd hc HD
                go_wp2
                go_meet
                case rel => exact ⟨rfl, by rw [unhide Hd]; exact hmC, hoC⟩
            case rest =>
              obtain ⟨rfl, hmE, hoE⟩ := hcut
              clear hmC hoC k0 hd HD
              have hmd := hmE.drew
              have k0 := hmE.ib.cell 7
              have i0c := hmE.ib.cell 0
              obtain ⟨v0, v1, v2⟩ := hmE.wd
              simp [C.cells] at k0 i0c
              go_wp2_with fail
              go_region_law (first
                | (refine step_call rfl 134 #[.tmp 78, .tmp 82, .tmp 83] #[148, 3, 156] rfl #[.pointer (some ⟨R, 0, none⟩), .int .i64 (c.at_ : Int), .agg #[.int .i64 4, .int .i64 (-2147483648), .int .i64 2147483647]] (by simp [Act.eval]) enter134 (unhide HC _ hmd.rd) ?_; rintro e w5 ⟨rfl, hr5, hg5⟩; refine ⟨_, rfl, ?_⟩; have hm5 := hmd.take hr5 hg5; have ho5 := Own2.kept (w' := w5) (show Own2 wc.drew w.heap.size _ _ _ _ from ⟨hoE.k, hoE.t, hoE.apart⟩) hg5 (fun b e => by cases e; exact hR0); have k5 := hm5.ib.cell 7; simp [C.cells] at k5; have hm6 := hm5.alloc (.cells #[.int .i64 y] 3); have ho6 := ho5.grow (World.grownBy_alloc w5 (.cells #[.int .i64 y] 3) none); have k6 := hm6.ib.cell 7; simp [C.cells] at k6; clear hr5 hg5 hm5 ho5)
                | (refine step_append_at rfl (.tmp 77) (.tmp 85) 110 rfl w.heap.size 3 i0 (.int .i64 0) 1 8 Tryz.underlying110 hi hz0 hz1 hz2 rfl (by decide) tv ts.length (ts.map (Value.int .i64)) (by simp [Act.eval]) ho6.t ⟨w5.heap.size, 0, none⟩ 1 1 [.int .i64 y] (by simp [Act.eval]) rfl (cell_one_new _ _ _) (ints_oneCell .i64 [y]) (by unfold maxLen; omega) (by omega) hm6.kp.size ?_; intro v' w7 hown7 hgrow7 hloc7; have ho7 := ho6.appT hown7 hgrow7 hloc7; have hm7 := hm6.app ho6.t hgrow7 (Nat.le_refl _) hR0 hg0; obtain ⟨g8, c8, rfl⟩ := own_form hown7 (by omega); have k7 := hm7.ib.cell 7; have f7 := hm7.ib.frozen 7; simp [C.cells] at k7; clear hgrow7 hm6 ho6 hown7 hloc7))
              all_goals
                have hm8 := hm7.set 7 _ (hm7.ib.setT (.slice (some ⟨g8, 0, none⟩) (ts.length + 1) c8))
                have ho8 := ho7.kept (grown_set w7 g 7 (.slice (some ⟨g8, 0, none⟩) (ts.length + 1) c8)) (fun b e => by cases e; exact hg0)
                clear hm7 ho7 hmd hmE hoE
                go_wp2
                go_roundw
                case rel => exact ⟨ks.length + 1, s2, _, _, ks ++ [x], ts ++ [y], by go_num, by omega, HN, hm8, ho8⟩
                case measure => simp [intOf]; omega
      · have hxo : st'.e ≠ 0 ∨ cnt ≤ (kk : Int) := by
          by_cases h1 : st'.e = 0
          · exact .inr (by have := not_and.1 hx h1; omega)
          · exact .inl h1
        have hdone := (unhide HT).done hxo
        have HD := hide hdone
        clear hdone HT hx
        by_cases h1 : st'.e = 0
        · have h2 : cnt ≤ (kk : Int) := by rcases hxo with h | h; exact absurd h1 h; exact h
          rw [decide_eq_true h1]
          clear h1 hxo
          go_wp2
          go_end0
          exact ⟨rfl, st', kv, tv, ks, ts, ⟨hmA, hoA⟩, unhide HD⟩
        · rw [decide_eq_false h1]
          clear h1 hxo
          go_wp2
          go_end0
          exact ⟨rfl, st', kv, tv, ks, ts, ⟨hmA, hoA⟩, unhide HD⟩
end Go.Proofs.YtddhlphbbiihjaaGreatDoor.Dc
