/-
  CodeRounds: the walk.
-/
import Derived.Test.YtpmonoenppfekabDoorEncP
import Derived.Test.YtpmonoenppfekabDoorDec
import Derived.Test.YtpmonoenppfekabDoorRound
namespace Go.Proofs.YtpmonoenppfekabDoor
open Go.RowKit
namespace M
theorem ins_op {s : List UInt8} {a q : Nat} {i : I} (ha : a < s.length) (h : ins s a = .ok (i, q)) : i.op < 256 := by
  have h1 : ∀ p, num (bs s p 1) < 256 := fun p => by have := num_le (bs_len s p 1); omega
  unfold ins at h
  split at h
  · split at h
    · cases h
    · obtain ⟨_, e2, _⟩ := body_enc (by omega) h
      rw [e2]; exact h1 _
  · obtain ⟨_, e2, _⟩ := body_enc (by omega) h
    rw [e2]; exact h1 _
theorem run_all {s : List UInt8} (P : I → Prop) (hP : ∀ a i q, a < s.length → ins s a = .ok (i, q) → P i) : ∀ (d a : Nat) (acc l : List I), s.length - a ≤ d → (∀ i ∈ acc, P i) → run s a acc = .ok l → ∀ i ∈ l, P i := by
  intro d
  induction d with
  | zero =>
    intro a acc l h1 hb h
    rw [run_end (by omega)] at h
    cases h
    exact hb
  | succ d ih =>
    intro a acc l h1 hb h
    rcases Nat.lt_or_ge a s.length with ha | ha
    · cases hi : ins s a with
      | error e => rw [run_bad ha hi] at h; cases h
      | ok r =>
        obtain ⟨i, q⟩ := r
        rw [run_one ha hi] at h
        have hle := ins_le ha hi
        simp only at hle
        refine ih q (acc ++ [i]) l (by omega) (fun j hj => ?_) h
        rw [List.mem_append, List.mem_singleton] at hj
        rcases hj with hj | rfl
        · exact hb j hj
        · exact hP a _ q ha hi
    · rw [run_end ha] at h
      cases h
      exact hb
theorem decode_all {s : List UInt8} {l : List I} (P : I → Prop) (hP : ∀ a i q, a < s.length → ins s a = .ok (i, q) → P i) (h : decode s = .ok l) : ∀ i ∈ l, P i := by
  unfold decode at h
  split at h
  · cases h
  · cases hr : run s 0 [] with
    | error e => rw [hr] at h; cases h
    | ok l' =>
      rw [hr] at h
      simp only at h
      split at h
      · cases h
        exact run_all P hP s.length 0 [] l (by omega) (fun _ h => by cases h) hr
      · cases h
theorem run_len {s : List UInt8} : ∀ (d a : Nat) (acc l : List I), s.length - a ≤ d → a ≤ s.length → acc.length ≤ a → run s a acc = .ok l → l.length ≤ s.length := by
  intro d
  induction d with
  | zero =>
    intro a acc l h1 h2 h3 h
    rw [run_end (by omega)] at h
    cases h
    omega
  | succ d ih =>
    intro a acc l h1 h2 h3 h
    rcases Nat.lt_or_ge a s.length with ha | ha
    · cases hi : ins s a with
      | error e => rw [run_bad ha hi] at h; cases h
      | ok r =>
        obtain ⟨i, q⟩ := r
        rw [run_one ha hi] at h
        have hle := ins_le ha hi
        simp only at hle
        exact ih q (acc ++ [i]) l (by omega) (by omega) (by simp; omega) h
    · rw [run_end ha] at h
      cases h
      omega
theorem decode_len {s : List UInt8} {l : List I} (h : decode s = .ok l) : l.length ≤ s.length := by
  unfold decode at h
  split at h
  · cases h
  · cases hr : run s 0 [] with
    | error e => rw [hr] at h; cases h
    | ok l' =>
      rw [hr] at h
      simp only at h
      split at h
      · cases h
        exact run_len s.length 0 [] l (by omega) (by omega) (by simp) hr
      · cases h
theorem ins_err {s : List UInt8} {a e p : Nat} (h : ins s a = .error (e, p)) : e ≠ 0 := by
  have hk : ∀ {n p ks ts} {x : Er}, kys s a n p ks ts = .error x → x.1 ≠ 0 := by
    intro n
    induction n with
    | zero => intro p ks ts x h; cases h
    | succ n ih =>
      intro p ks ts x h
      unfold kys at h
      split at h
      · cases h; exact Nat.succ_ne_zero _
      · split at h
        · cases h; exact Nat.succ_ne_zero _
        · split at h
          · cases h; exact Nat.succ_ne_zero _
          · exact ih h
  have ht : ∀ {n p ts} {x : Er}, tgs s a n p ts = .error x → x.1 ≠ 0 := by
    intro n
    induction n with
    | zero => intro p ts x h; cases h
    | succ n ih =>
      intro p ts x h
      unfold tgs at h
      split at h
      · cases h; exact Nat.succ_ne_zero _
      · exact ih h
  have hp : ∀ {n p} {x : Er}, pad s a n p = .error x → x.1 ≠ 0 := by
    intro n
    induction n with
    | zero => intro p x h; cases h
    | succ n ih =>
      intro p x h
      unfold pad at h
      split at h
      · cases h; exact Nat.succ_ne_zero _
      · split at h
        · cases h; exact Nat.succ_ne_zero _
        · exact ih h
  have hs : ∀ {op b bk} {x : Er}, sw s a op b bk = .error x → x.1 ≠ 0 := by
    intro op b bk x h
    unfold sw at h
    cases hpd : pad s a (padN b) b with
    | error y => rw [hpd] at h; cases h; exact hp hpd
    | ok q =>
      rw [hpd] at h
      simp only at h
      split at h
      · unfold key at h
        split at h
        · cases h; exact Nat.succ_ne_zero _
        · split at h
          · cases h; exact Nat.succ_ne_zero _
          · cases hq : kys s a (w4 s (q + 4)).toNat (q + 8) [] [(a : Int) + w4 s q] with
            | error y => rw [hq] at h; cases h; exact hk hq
            | ok r => rw [hq] at h; cases h
      · unfold tab at h
        split at h
        · cases h; exact Nat.succ_ne_zero _
        · split at h
          · cases h; exact Nat.succ_ne_zero _
          · cases hq : tgs s a (w4 s (q + 8) - w4 s (q + 4) + 1).toNat (q + 12) [(a : Int) + w4 s q] with
            | error y => rw [hq] at h; cases h; exact ht hq
            | ok r => rw [hq] at h; cases h
  have hb : ∀ {op w b} {x : Er}, body s a op w b = .error x → x.1 ≠ 0 := by
    intro op w b x h
    unfold body at h
    split at h
    · cases h; exact Nat.succ_ne_zero _
    · split at h
      · exact hs h
      · split at h
        · exact hs h
        · unfold plain at h
          split at h
          · cases h; exact Nat.succ_ne_zero _
          · split at h
            · cases h
            · cases h; exact Nat.succ_ne_zero _
  unfold ins at h
  split at h
  · split at h
    · cases h; exact Nat.succ_ne_zero _
    · exact hb h
  · exact hb h
theorem run_err {s : List UInt8} : ∀ (d a : Nat) (acc : List I) (x : Er), s.length - a ≤ d → run s a acc = .error x → x.1 ≠ 0 := by
  intro d
  induction d with
  | zero => intro a acc x h1 h; rw [run_end (by omega)] at h; cases h
  | succ d ih =>
    intro a acc x h1 h
    rcases Nat.lt_or_ge a s.length with ha | ha
    · cases hi : ins s a with
      | error e =>
        obtain ⟨e, p⟩ := e
        rw [run_bad ha hi] at h
        cases h
        exact ins_err hi
      | ok r =>
        obtain ⟨i, q⟩ := r
        rw [run_one ha hi] at h
        have hle := ins_le ha hi
        simp only at hle
        exact ih q (acc ++ [i]) x (by omega) h
    · rw [run_end ha] at h; cases h
theorem decode_err {s : List UInt8} {e p : Nat} (h : decode s = .error (e, p)) : e ≠ 0 := by
  unfold decode at h
  split at h
  · cases h; exact Nat.succ_ne_zero _
  · cases hr : run s 0 [] with
    | error y => rw [hr] at h; cases h; exact run_err s.length 0 [] _ (by omega) hr
    | ok l =>
      rw [hr] at h
      simp only at h
      split at h
      · cases h
      · cases h; exact Nat.succ_ne_zero _
theorem two_ins : decode [0, 177] = .ok [⟨0, 0, false, 0, 0, 0, [], []⟩, ⟨1, 177, false, 0, 0, 0, [], []⟩] := by
  have h1 : ins [0, 177] 0 = .ok (⟨0, 0, false, 0, 0, 0, [], []⟩, 1) := by rfl
  have h2 : ins [0, 177] 1 = .ok (⟨1, 177, false, 0, 0, 0, [], []⟩, 2) := by rfl
  unfold decode
  rw [if_neg (by decide), run_one (by decide) h1, run_one (by decide) h2, run_end (by decide)]
  rfl
end M
theorem J.v_arr (j : J) : j.v.arr.toList = j.cells := rfl
theorem GHas.of_lst {w : World} {B : Nat} {v : Value} {L : List J} (h : Lst w B v L) (hf : ∀ j ∈ L, j.i.op < 256 ∧ j.i.keys.length ≤ 100000 ∧ j.i.tgts.length ≤ 100000 ∧ ∀ t ∈ j.i.tgts, (Lit.int .i64 t).wf = true) : GHas w v (L.map J.v) := by
  have hh := Has.of_lst h
  obtain ⟨ad, cap, e, hc⟩ := hh.form
  refine ⟨⟨ad, cap, by rw [List.length_map]; exact e, fun hne => ?_⟩, fun c hcm => ?_⟩
  · obtain ⟨b, o, e1, hk⟩ := hc (by rintro rfl; simp at hne)
    refine ⟨b, o, e1, fun k hk1 i hi => ?_⟩
    have hk2 : k < L.length := by simpa using hk1
    rw [hk k hk2 i hi, List.getElem_map, ← J.v_arr]
    simp
  · obtain ⟨j, hj, rfl⟩ := List.mem_map.1 hcm
    obtain ⟨f1, f2, f3, f4⟩ := hf j hj
    refine ⟨⟨(hh.own j hj).1, (hh.own j hj).2, f1, by simp only [J.v, I.g]; omega, by simp only [J.v, I.g]; omega⟩, f3, f4, fun a n cp e => ?_⟩
    have ho := (h.own j hj).t
    have e' : j.tv = .slice a n cp := e
    rcases ho.2 with ⟨h0, _⟩ | ⟨g, cap, cur, h1, _, _, h4, _⟩
    · rw [h0] at e'; cases e'; exact Nat.le_refl _
    · rw [h1] at e'; cases e'; exact h4
set_option maxRecDepth 100000 in
set_option maxHeartbeats 2000000 in
theorem rounds_walk (s : ByteArray) (w : World) (hw : Wd w) (hm : s.size ≤ maxLen) : Calls Tryd.prog 5 #[.string s] w fun x w' => x = .returned (.bool true) ∧ Below w.heap.size w w' := by
  unfold maxLen at hm
  by_cases h0 : 32768 < s.size
  · have hz : (32768 : Int) < (s.size : Int) := by omega
    go_enter Tryd.func5, Tryd.ntmps5
    go_wp2
    go_ret
    exact ⟨rfl, Below.refl _ _⟩
  · have hz : ¬ (32768 : Int) < (s.size : Int) := by omega
    have hlen : s.data.toList.length = s.size := by simp
    have HD := hide (Decode_any s w hw (by unfold maxLen; omega))
    have HE := hide (fun (w1 : World) (hb : Below w.heap.size w w1) => Decode_any ⟨#[0, 177]⟩ w1 (hw.below hb) (by unfold maxLen; decide))
    have HN := hide (fun (w1 : World) (hb : Below w.heap.size w w1) L v h hl => Encode_any L v w1 (hw.below hb) h hl)
    have hbd := fun l (h : M.decode s.data.toList = .ok l) => M.decode_all (fun i => M.Bd s.data.toList.length i ∧ i.op < 256) (fun a i q ha hi => ⟨M.ins_bd ha (by rw [hlen]; omega) hi, M.ins_op ha hi⟩) h
    have hln := fun l (h : M.decode s.data.toList = .ok l) => M.decode_len h
    have hen := fun l (h : M.decode s.data.toList = .ok l) => M.decode_encode h
    have Hbd := hide hbd
    have Hln := hide hln
    have Hen := hide hen
    have Hlen := hide hlen
    clear hbd hlen hw hln hen
    go_enter Tryd.func5, Tryd.ntmps5
    go_wp2_with fail
    refine (unhide HD).mono ?_
    clear HD
    rintro e w1 ⟨hb1, hx1⟩
    cases hd : M.decode s.data.toList with
    | error er =>
      obtain ⟨e1, p1⟩ := er
      rw [hd] at hx1
      simp only at hx1
      subst hx1
      have h0e : e1 ≠ 0 := M.decode_err hd
      have hbn : ((e1 : Int) != 0) = true := by rw [bne_iff_ne]; omega
      clear HN Hbd Hln Hen hd h0e
      go_wp2_with fail
      refine (unhide HE _ hb1).mono ?_
      rintro e w2 ⟨hb2, hx2⟩
      have h2 : M.decode (⟨#[0, 177]⟩ : ByteArray).data.toList = _ := M.two_ins
      rw [h2] at hx2
      obtain ⟨v, L, rfl, hL, hl1⟩ := hx2
      obtain ⟨⟨ad, cap, ev, hc⟩, _⟩ := Has.of_lst hl1
      have hl2 : L.length = 2 := by have := congrArg List.length hL; simpa using this
      have hne : L ≠ [] := by rintro rfl; simp at hl2
      obtain ⟨b, o, rfl, hcell⟩ := hc hne
      have x8 := hcell 1 (by omega) 0 (by omega)
      have h1 : (L[1]'(by omega)).i = ⟨1, 177, false, 0, 0, 0, [], []⟩ := by
        have := congrArg (fun l => l[1]?) hL
        simpa [hl2] using this
      have e8 : (L[1]'(by omega)).cells[0]? = some (.int .i64 1) := by
        show some (Value.int .i64 (((L[1]'(by omega)).i.at_ : Nat) : Int)) = _
        rw [h1]; rfl
      rw [e8] at x8
      simp only [Nat.one_mul, Nat.add_zero] at x8
      rw [hl2] at ev
      subst ev
      clear hcell hc hL hl1 hl2 hne h1 e8 h2 HE
      go_wp2
      go_ret
      exact ⟨rfl, hb1.trans (hb2.mono hb1.size)⟩
    | ok l =>
      rw [hd] at hx1
      obtain ⟨v, L, rfl, hL, hl1⟩ := hx1
      obtain ⟨ad, cap, ev, _⟩ := (Has.of_lst hl1).form
      subst ev
      have hbl := unhide Hbd l hd
      have hll := unhide Hln l hd
      have hee := unhide Hen l hd
      rw [unhide Hlen] at hll
      have hgl : GHas w1 (.slice ad L.length cap) (L.map J.v) := GHas.of_lst hl1 (fun j hj => by
        obtain ⟨⟨m1, m2, m3, m4⟩, m5⟩ := hbl j.i (by rw [← hL]; exact List.mem_map_of_mem hj)
        rw [unhide Hlen] at m3 m4
        exact ⟨m5, by omega, by omega, fun t ht => WalkArith.wf_i64 (by have := m2 t ht; omega)⟩)
      have hLl : (L.map J.v).length ≤ 1048576 := by
        rw [← hL, List.length_map] at hll
        rw [List.length_map]; omega
      have hmg : (L.map J.v).map V.g = l.map I.g := by rw [← hL, List.map_map, List.map_map]; rfl
      have HC := hide (unhide HN w1 hb1 _ _ hgl hLl)
      have Hee := hide (show M.encode ((L.map J.v).map V.g) = .ok s.data.toList by rw [hmg]; exact hee)
      clear HN HE Hbd Hln Hen hbl hll hee hgl hLl hmg hl1 hd hL
      go_wp2_with fail
      refine (unhide HC).mono ?_
      clear HC
      rintro e w2 ⟨hb2, hx2⟩
      rw [unhide Hee] at hx2
      simp only at hx2
      have hse : (⟨s.data.toList.toArray⟩ : ByteArray) = s := by simp
      rw [hse] at hx2
      subst hx2
      clear hse Hee
      go_wp2
      go_ret
      exact ⟨rfl, hb1.trans (hb2.mono hb1.size)⟩
end Go.Proofs.YtpmonoenppfekabDoor
