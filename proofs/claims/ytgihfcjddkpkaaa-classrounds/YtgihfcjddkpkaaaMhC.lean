/-
  What a pool that was read is: plain mathematics.
  Package class: the pool of a class file.
-/
import Derived.Test.YtgihfcjddkpkaaaMgPoModel
import Derived.Test.YtgihfcjddkpkaaaMhA
import Derived.Test.YtgihfcjddkpkaaaMhB
import Derived.Test.YtgihfcjddkpkaaaMgPoAppend
namespace Go.Proofs.Ytgihfcjddkpkaaa.Po
/-- A reader's state lies within the bytes. -/
def InF (s : List UInt8) (st : St) : Prop := st.pos ≤ s.length ∧ st.p ≤ s.length ∧ st.e < 256
theorem InF.take {s : List UInt8} {st : St} (h : InF s st) (k : Nat) : InF s (M.take s k st).2 := by
  obtain ⟨h1, h2, h3⟩ := h
  unfold M.take
  split
  · split
    · exact ⟨h1, Nat.le_refl _, by show 1 < 256; omega⟩
    · exact ⟨by simp only; omega, h2, by show 0 < 256; omega⟩
  · exact ⟨h1, h2, h3⟩
theorem InF.fail {s : List UInt8} {st : St} (h : InF s st) {e p : Nat} (he : e < 256) (hp : p ≤ s.length) : InF s (M.fail st e p) := by
  obtain ⟨h1, h2, h3⟩ := h
  unfold M.fail
  split
  · exact ⟨h1, hp, he⟩
  · exact ⟨h1, h2, h3⟩
theorem take_le (s : List UInt8) (k : Nat) (st : St) : (M.take s k st).1.length ≤ k := by
  unfold M.take
  split
  · split
    · simp
    · simp; omega
  · simp
theorem num_le {l : List UInt8} {k : Nat} (h : l.length ≤ k) : M.num l < 256 ^ k := Nat.lt_of_lt_of_le (num_lt l) (Nat.pow_le_pow_right (by omega) h)
def Fit (c : K) : Prop := c.tag < 256 ∧ c.a < 65536 ∧ c.b < 65536
theorem cm_fact {s : List UInt8} {st st' : St} {c : K} (h : CM s st c st') (hi : InF s st) : Fit c ∧ InF s st' := by
  have t1 : M.num (M.take s 1 st).1 < 256 := by have := num_le (take_le s 1 st); simpa using this
  have t2 : ∀ x, M.num (M.take s 2 x).1 < 65536 := fun x => by have := num_le (take_le s 2 x); simpa using this
  have i1 := hi.take 1
  rcases h with ⟨_, rfl, h⟩ | ⟨_, rfl, rfl⟩ | ⟨_, rfl, rfl⟩ | ⟨_, rfl, rfl⟩ | ⟨_, rfl, rfl⟩ | ⟨_, rfl, rfl⟩
  · refine ⟨⟨by simp only; omega, by simp only; omega, by simp only; omega⟩, ?_⟩
    rcases h with ⟨_, rfl⟩ | ⟨_, rfl⟩
    · exact (i1.take 2).take _
    · exact ((i1.take 2).take _).fail (by omega) hi.1
  · exact ⟨⟨t1, by simp only; omega, by simp only; omega⟩, i1.take 4⟩
  · exact ⟨⟨t1, by simp only; omega, by simp only; omega⟩, i1.take 8⟩
  · exact ⟨⟨t1, t2 _, by simp only; omega⟩, i1.take 2⟩
  · exact ⟨⟨t1, t2 _, t2 _⟩, (i1.take 2).take 2⟩
  · exact ⟨⟨t1, by simp only; omega, by simp only; omega⟩, i1.fail (by omega) hi.1⟩
/-- What an answer is. -/
def Fact (s : List UInt8) (r : Res) : Prop := (r.2.2.1 = 0 → r.2.1 ≤ s.length ∧ r.1.length ≤ 65536 ∧ ∀ c ∈ r.1, Fit c) ∧ (r.2.2.1 ≠ 0 → r.1 = [] ∧ r.2.1 = 0) ∧ r.2.2.2 ≤ s.length ∧ r.2.2.1 < 256
theorem fin_fact {s : List UInt8} {n : Nat} (hn : n < 65536) : ∀ {f : Nat} {l : List K} {at_ : Nat} {r : Res}, Fin' s n f l at_ r → at_ ≤ s.length → l.length ≤ n → (∀ c ∈ l, Fit c) → Fact s r
  | 0, _, _, _, h, _, _, _ => h.elim
  | f + 1, l, at_, r, h, ha, hl, hf => by
    rcases h with ⟨_, rfl⟩ | ⟨h1, c, x, hc, h⟩
    · exact ⟨fun _ => ⟨ha, by simp only; omega, hf⟩, fun g => absurd rfl g, Nat.zero_le _, by simp only; omega⟩
    · have hi : InF s ⟨at_, 0, 0⟩ := ⟨ha, Nat.zero_le _, by show 0 < 256; omega⟩
      obtain ⟨hfc, hix⟩ := cm_fact hc hi
      rcases h with ⟨he, rfl⟩ | ⟨he, h⟩
      · exact ⟨fun g => absurd g he, fun _ => ⟨rfl, rfl⟩, hix.2.1, hix.2.2⟩
      · rcases h with ⟨_, h⟩ | ⟨_, _, rfl⟩ | ⟨_, h2, h⟩
        · refine fin_fact hn h hix.1 (by simp; omega) ?_
          intro d hd
          rcases List.mem_append.1 hd with hd | hd
          · exact hf d hd
          · have : d = c := by simpa using hd
            rw [this]; exact hfc
        · exact ⟨fun g => absurd g (by simp), fun _ => ⟨rfl, rfl⟩, ha, by simp only; omega⟩
        · refine fin_fact hn h hix.1 (by simp; omega) ?_
          intro d hd
          simp only [List.mem_append, List.mem_singleton] at hd
          rcases hd with (hd | hd) | hd
          · exact hf d hd
          · rw [hd]; exact hfc
          · rw [hd]; exact ⟨by decide, by decide, by decide⟩
theorem read_fact {s : List UInt8} {r : Res} (h : ReadRes s r) : Fact s r := by
  rcases h with ⟨_, rfl⟩ | ⟨h1, _, rfl⟩ | ⟨h1, h2, f, h3⟩
  · exact ⟨fun g => absurd g (by simp), fun _ => ⟨rfl, rfl⟩, Nat.le_refl _, by simp only; omega⟩
  · exact ⟨fun g => absurd g (by simp), fun _ => ⟨rfl, rfl⟩, Nat.zero_le _, by simp only; omega⟩
  · have hn : M.num (s.take 2) < 65536 := by have := num_le (l := s.take 2) (k := 2) (by simp; omega); simpa using this
    refine fin_fact hn h3 h1 (by simp; omega) ?_
    intro d hd
    have : d = K.zero := by simpa using hd
    rw [this]; exact ⟨by decide, by decide, by decide⟩
end Go.Proofs.Ytgihfcjddkpkaaa.Po
namespace Go.Proofs.Ytgihfcjddkpkaaa.Rc
open Go.RowKit
def kOf (c : Po.K) : K := ⟨c.tag, c.text, c.bits, c.a, c.b⟩
theorem kOf_cells (c : Po.K) : (kOf c).cells = c.cells := rfl
theorem KC_of (l : List Po.K) : KC (l.map kOf) = Po.KC l := by
  induction l with
  | nil => rfl
  | cons c l ih => rw [List.map_cons, KC, Po.KC, ih, kOf_cells]
theorem KIn.of_row {w : World} {B : Nat} {v : Value} {P : List K} (hf : ∀ c ∈ P, c.tag < 256 ∧ c.a < 65536 ∧ c.b < 65536) (h : w.ownsRow B 78 5 v P.length (KC P)) : KIn w v P := by
  refine ⟨hf, ?_⟩
  rcases h.2 with ⟨rfl, h0⟩ | ⟨g, cap, cur, rfl, h1⟩
  · exact ⟨none, 0, by rw [h0], fun hne => absurd (List.length_eq_zero_iff.1 h0) hne⟩
  · refine ⟨_, _, rfl, fun _ => ⟨g, 0, rfl, fun k hk i hi => ?_⟩⟩
    have e := KC_at P k i hk hi
    have hc : (P.getD k K.zero).cells[i]? = some ((P.getD k K.zero).cells[i]'(by simpa [K.cells] using hi)) := List.getElem?_eq_getElem _
    rw [hc] at e ⊢
    have := h.cells (g := g) rfl (k * 5 + i) _ e
    rw [Addr.add_lit] at this
    rw [show 0 + k * 5 + i = 0 + (k * 5 + i) by omega]
    exact this
/-- What pool.Read gives can be read as a pool. -/
theorem KIn.of_out {w0 w : World} {v : Value} {l : List Po.K} (h : Po.Out w0 w v l) (hf : ∀ c ∈ l, Po.Fit c) : KIn w v (l.map kOf) := by
  have hfit : ∀ c ∈ l.map kOf, c.tag < 256 ∧ c.a < 65536 ∧ c.b < 65536 := by
    intro c hc
    obtain ⟨d, hd, rfl⟩ := List.mem_map.1 hc
    exact hf d hd
  rcases h with ⟨rfl, rfl⟩ | ⟨B, _, ho⟩
  · exact ⟨hfit, none, 0, rfl, fun h => absurd rfl h⟩
  · rw [← KC_of] at ho
    have hl : l.length = (l.map kOf).length := by simp
    rw [hl] at ho
    exact KIn.of_row hfit ho
theorem Out.off {w0 w : World} {v : Value} {l : List Po.K} (h : Po.Out w0 w v l) {R : Nat} (hR : R < w0.heap.size) : Off w R v (l.map kOf) := by
  intro hne b o n c e
  rcases h with ⟨rfl, rfl⟩ | ⟨B, hB, ho⟩
  · exact absurd rfl hne
  · have hb := ins_in ho (b := b) (by rw [e]; rfl)
    exact ⟨by omega, hb.2⟩
theorem Out.kept {w0 w w' : World} {v : Value} {l : List Po.K} {row : Option Nat} (h : Po.Out w0 w v l) (hg : w.grownBy w' row) (hr : ∀ b, row = some b → b < w0.heap.size) : Po.Out w0 w' v l := by
  rcases h with h | ⟨B, hB, ho⟩
  · exact .inl h
  · exact .inr ⟨B, hB, ins_kept ho hg fun b e1 e2 => by have h1 := hr b e1; have h2 := (ins_in ho e2).1; omega⟩
namespace M
/-- The pool, as constants read it: by an answer of pool.Read of what is left. -/
def cst (s : List UInt8) (st : St) (r : Po.Res) : List Po.K × St :=
  (r.1, (M.take s r.2.1 (if r.2.2.1 = 0 then st else M.fail st r.2.2.1 (st.pos + r.2.2.2))).2)
end M
set_option maxRecDepth 100000 in
set_option maxHeartbeats 1000000 in
theorem constants_any (R : Nat) (pv : Value) (s : ByteArray) (st : St) (w : World) (h : Rd w R pv s st) (hs : s.size ≤ 131072) (hp : st.pos ≤ s.data.toList.length) :
    Calls Try.prog 69 #[.pointer (some ⟨R, 0, none⟩)] w fun x w' => ∃ r v, Po.ReadRes (M.rest s.data.toList st) r ∧ x = .returned v ∧ Po.Out w w' v (M.cst s.data.toList st r).1 ∧ Rd w' R pv s (M.cst s.data.toList st r).2 ∧ w.grownBy w' (some R) ∧ (M.cst s.data.toList st r).2.pos ≤ s.data.toList.length := by
  have hRl := h.lt
  have H := hide h
  have HRe := hide (Rest_any R pv s st w h hp)
  have hl : s.data.toList.length = s.size := by simp
  have hrl : (⟨(M.rest s.data.toList st).toArray⟩ : ByteArray).size ≤ 131072 := by
    show (M.rest s.data.toList st).toArray.size ≤ 131072
    unfold M.rest
    split
    · simp; omega
    · simp
  have HRd := hide (fun (W : World) => Po.Read_any ⟨(M.rest s.data.toList st).toArray⟩ W hrl)
  have hrs : (M.rest s.data.toList st).length ≤ s.data.toList.length := by
    unfold M.rest
    split
    · simp
    · simp
  clear h hrl
  go_enter Try.func69, Try.ntmps69
  go_wp2_with fail
  refine (unhide HRe).mono ?_
  rintro e w1 ⟨rfl, m, hw1⟩
  subst w1
  clear HRe
  go_wp2_with fail
  refine (unhide HRd _).mono ?_
  rintro e w2 ⟨l, n, x, p, v, hrr, rfl, hout, hb2⟩
  have hb2' : Below w.heap.size w w2 := ⟨hb2.os, hb2.tape, hb2.output, hb2.size, hb2.block⟩
  have hf := Po.read_fact hrr
  have hr2 := (unhide H).kept (grown_of_below hb2' none) (by simp)
  have hg2 := grown_of_below hb2' (some R)
  have hout' : Po.Out w w2 v l := hout
  obtain ⟨va, vn, vc, ev⟩ : ∃ va vn vc, v = .slice va vn vc := by
    rcases hout' with ⟨_, e⟩ | ⟨B, _, ho⟩
    · exact ⟨_, _, _, e⟩
    · rcases ho.2 with ⟨e, _⟩ | ⟨g, cap, cur, e, _⟩
      · exact ⟨_, _, _, e⟩
      · exact ⟨_, _, _, e⟩
  have Hout := hide hout'
  have Hrr := hide hrr
  have Hf := hide hf
  obtain ⟨f1, f2, f3, f4⟩ := hf
  simp only at f1 f2 f3 f4
  subst ev
  clear hout hout' hrr HRd hb2
  by_cases hx : x = 0
  · have hx1 : (((x : Int) != 0) : Bool) = false := by rw [hx]; rfl
    obtain ⟨g1, g2, g3⟩ := f1 hx
    have hn : n < 4294967296 := by omega
    have HT := hide (T_any R pv s st n w2 hr2 hs hn hp)
    have hp3 := M.take_pos (s := s.data.toList) (n := n) hp
    have hcst : M.cst s.data.toList st (l, n, x, p) = (l, (M.take s.data.toList n st).2) := by unfold M.cst; simp only; rw [if_pos hx]
    have Hc := hide hcst
    clear hx f1 f2 f3 f4 g1 g2 g3 hcst Hf
    go_wp2_with fail
    refine (unhide HT).mono ?_
    rintro e w3 ⟨rfl, hr3, hg3⟩
    have Ho3 := hide (Out.kept (unhide Hout) hg3 (fun b e => by cases e; omega))
    have Hr3 := hide hr3
    have Hg3 := hide (grown_trans hg2 hg3)
    clear HT hr3 hg3 hr2 hg2 hb2'
    go_wp2
    go_ret
    exact ⟨(l, n, x, p), _, unhide Hrr, rfl, by rw [unhide Hc]; exact unhide Ho3, by rw [unhide Hc]; exact unhide Hr3, unhide Hg3, by rw [unhide Hc]; exact hp3⟩
  · have hx1 : (((x : Int) != 0) : Bool) = true := by rw [bne_iff_ne]; omega
    obtain ⟨g1, g2⟩ := f2 hx
    subst g1 g2
    have hpb : p ≤ 131072 := by omega
    have hsb : st.pos ≤ 131072 := by omega
    have dwr : IntKind.i64.wrap ((st.pos : Int) + (p : Int)) = (st.pos : Int) + (p : Int) := by rw [IntKind.wrap_i64]; omega
    have HAt := hide (At_any R pv s st w2.drew hr2.drew)
    have hfl := F_any R pv s st x (st.pos + p) w2.drew hr2.drew
    rw [Int.natCast_add] at hfl
    have HFl := hide hfl
    have hcst : M.cst s.data.toList st ([], 0, x, p) = ([], (M.take s.data.toList 0 (M.fail st x (st.pos + p))).2) := by unfold M.cst; simp only; rw [if_neg hx]
    have hp2 : (M.fail st x (st.pos + p)).pos ≤ s.data.toList.length := by rw [M.fail_pos]; exact hp
    obtain ⟨st2, hst2⟩ : ∃ st2, st2 = M.fail st x (st.pos + p) := ⟨_, rfl⟩
    rw [← hst2] at HFl hcst hp2
    have HT := hide (fun (W : World) (hW : Rd W R pv s st2) => T_any R pv s st2 0 W hW hs (by omega) hp2)
    have hp3 := M.take_pos (s := s.data.toList) (n := 0) hp2
    have Hc := hide hcst
    clear hx f1 f2 f3 f4 hcst Hf hst2 hfl hrs hl
    go_upto_region 3 with fail
    go_cut [] (fun w' => Hid (Rd w' R pv s st2 ∧ w2.grownBy w' (some R)))
    case first =>
      go_region_held3 (fun w' => True) (trivial)
        ((first
          | (go_at_call 88; refine (unhide HAt).mono ?_; rintro e w3 ⟨rfl, hw3⟩; subst hw3)
          | (go_at_call 68; refine (unhide HFl).mono ?_; rintro e w4 ⟨rfl, hr4, hg4⟩)
          | fail))
      all_goals
        have Hr4 := hide hr4
        have Hg4 : Hid (w2.grownBy w4 (some R)) := ⟨hg4.os, hg4.tape, hg4.output, hg4.size, hg4.block⟩
        clear hr4 hg4
        go_wp2
        go_meet
        exact ⟨unhide Hr4, unhide Hg4⟩
    case rest =>
      obtain ⟨hr4, hg4⟩ := unhide hcut
      have HT4 := hide (unhide HT wc hr4)
      have Ho4 := hide (Out.kept (unhide Hout) hg4 (fun b e => by cases e; omega))
      have hg24 := grown_trans hg2 hg4
      clear HT HAt HFl hcut hr2 hg2 hb2' hr4 hg4
      go_wp2_with fail
      refine (unhide HT4).mono ?_
      rintro e w5 ⟨rfl, hr5, hg5⟩
      have Ho5 := hide (Out.kept (unhide Ho4) hg5 (fun b e => by cases e; omega))
      have Hr5 := hide hr5
      have Hg5 := hide (grown_trans hg24 hg5)
      clear HT4 hr5 hg5 hg24 Ho4
      go_wp2
      go_ret
      exact ⟨([], 0, x, p), _, unhide Hrr, rfl, by rw [unhide Hc]; exact unhide Ho5, by rw [unhide Hc]; exact unhide Hr5, unhide Hg5, by rw [unhide Hc]; exact hp3⟩
end Go.Proofs.Ytgihfcjddkpkaaa.Rc
