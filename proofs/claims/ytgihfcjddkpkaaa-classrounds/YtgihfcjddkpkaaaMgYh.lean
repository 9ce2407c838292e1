/-
  Package class: Write; pools that are written, by both.
  Package class: Write.
-/
import Derived.Test.YtgihfcjddkpkaaaYf
import Derived.Test.YtgihfcjddkpkaaaMgPoRefNum
import Derived.Test.YtgihfcjddkpkaaaPoRefWrite
import Derived.Test.YtgihfcjddkpkaaaWo
namespace Go.Proofs.Ytgihfcjddkpkaaa.Cl
set_option linter.unusedVariables false
open Go.RowKit Go.Maps
/-- A constant, as the texts on pools have it. -/
def pk (c : K) : Po.K := ⟨c.tag, c.text, c.bits, c.a, c.b⟩
/-- A pool whose texts are short. -/
structure Pok (P : List K) : Prop where
  t : Po.texts (P.map pk) ≤ 131072
  b : ∀ c ∈ P, c.bits < 2 ^ 64
theorem texts_one : ∀ {l : List Po.K} {c : Po.K}, c ∈ l → c.text.length ≤ Po.texts l
  | x :: l, c, h => by
    rw [Po.texts]
    rcases List.mem_cons.1 h with rfl | h
    · omega
    · have := texts_one h; omega
theorem Pok.all {P : List K} (h : Pok P) {w : World} {v : Value} (hk : KIn w v P) : Po.AllFit (P.map pk) := by
  intro c hc
  have h1 := texts_one hc
  have h2 := h.t
  obtain ⟨d, hd, rfl⟩ := List.mem_map.1 hc
  obtain ⟨a1, a2, a3⟩ := hk.fit d hd
  exact ⟨a1, by omega, h.b d hd, a2, a3⟩
theorem Po_in {w : World} {v : Value} {P : List K} (h : KIn w v P) (hne : P ≠ []) : ∃ b off cap, v = .slice (some ⟨b, off, none⟩) P.length cap ∧ Po.In w b off (P.map pk) := by
  obtain ⟨ad, cap, e, h1⟩ := h.ex
  obtain ⟨b, o, e1, h2⟩ := h1 hne
  subst e1
  have hpos : 0 < P.length := List.length_pos_iff.2 hne
  have key : ∀ k, k < P.length → ∀ i, i < 5 → w.cell? ⟨b, o + k * 5 + i, none⟩ = (Po.KC (P.map pk))[k * 5 + i]? := fun k hk i hi => by
    rw [Po.KC_at (P.map pk) k i (by simpa using hk) hi, h2 k hk i hi]
    have : (P.map pk).getD k Po.K.zero = pk (P.getD k K.zero) := by simp [List.getD, List.getElem?_eq_getElem hk]
    rw [this]
    rfl
  refine ⟨b, o, cap, e, ?_, fun j hj => ?_⟩
  · have h3 := h2 0 hpos 0 (by omega)
    have h4 : (P.getD 0 K.zero).cells[0]? = some (.int .u8 ((P.getD 0 K.zero).tag : Int)) := rfl
    exact cell_lt (h3.trans h4)
  · have hj2 : j < P.length * 5 := by simpa using hj
    have := key (j / 5) (by omega) (j % 5) (by omega)
    rw [show o + j / 5 * 5 + j % 5 = o + j by omega, show j / 5 * 5 + j % 5 = j by omega] at this
    exact this
set_option maxRecDepth 100000 in
theorem RefWrite_len (a : Option Addr) (n cap : Nat) (w : World) (hm : n ≤ maxLen) (hn : n = 0 ∨ 65535 < n) :
    Calls Try.prog 53 #[.slice a n cap] w fun e w' => e = .returned (.tuple #[.string ⟨#[]⟩, .int .i64 12, .int .i64 0]) ∧ w' = w := by
  unfold maxLen at hm
  rcases hn with rfl | hn
  · clear hm
    go_enter Try.func53, Try.ntmps53
    go_wp2
    refine bodyPost_ret (v := .tuple #[.string ⟨#[]⟩, .int .i64 12, .int .i64 0]) (by simp [results, Try.results53, go_sem]) rfl ?_
    exact ⟨rfl, rfl⟩
  · have h1 : decide ((n : Int) < 1) = false := by simp; omega
    have h2 : (65535 : Int) < (n : Int) := by omega
    clear hn hm
    go_enter Try.func53, Try.ntmps53
    go_wp2
    refine bodyPost_ret (v := .tuple #[.string ⟨#[]⟩, .int .i64 12, .int .i64 0]) (by simp [results, Try.results53, go_sem]) rfl ?_
    exact ⟨rfl, rfl⟩
theorem PWrite_any (v : Value) (P : List K) (w : World) (h : KIn w v P) (hP : P.length ≤ 1048576) (hk : Pok P) : Calls Try.prog 47 #[v] w fun e w' => Po.Wrote (P.map pk) w e w' := by
  by_cases hn : P.length = 0 ∨ 65535 < P.length
  · obtain ⟨ad, cap, rfl, _⟩ := h.ex
    refine (Po.Write_len ad P.length cap w (by unfold maxLen; omega) hn).mono ?_
    rintro e w1 ⟨rfl, rfl⟩
    exact ⟨[], 12, 0, .inl ⟨by simpa using hn, rfl⟩, rfl, Below.refl _ _⟩
  · obtain ⟨b, off, cap, rfl, hin⟩ := Po_in h (by rintro rfl; simp at hn)
    have := Po.Write_main b off cap (P.map pk) w (by simp; omega) (by simp; omega) hk.t (hk.all h) hin
    rw [List.length_map] at this
    exact this
theorem RPWrite_any (v : Value) (P : List K) (w : World) (h : KIn w v P) (hP : P.length ≤ 1048576) (hk : Pok P) : Calls Try.prog 53 #[v] w fun e w' => Po.Wrote (P.map pk) w e w' := by
  by_cases hn : P.length = 0 ∨ 65535 < P.length
  · obtain ⟨ad, cap, rfl, _⟩ := h.ex
    refine (RefWrite_len ad P.length cap w (by unfold maxLen; omega) hn).mono ?_
    rintro e w1 ⟨rfl, rfl⟩
    exact ⟨[], 12, 0, .inl ⟨by simpa using hn, rfl⟩, rfl, Below.refl _ _⟩
  · obtain ⟨b, off, cap, rfl, hin⟩ := Po_in h (by rintro rfl; simp at hn)
    have := Po.RefWrite_main b off cap (P.map pk) w (by simp; omega) (by simp; omega) hk.t (hk.all h) hin
    rw [List.length_map] at this
    exact this
/-- What a pool that was written is. -/
structure Pw (P : List K) (bs : List UInt8) : Prop where
  n1 : 1 ≤ P.length
  n2 : P.length ≤ 65535
  z : (P.getD 0 K.zero).tag = 0
  l : bs.length ≤ 2 + 9 * P.length + Po.texts (P.map pk)
theorem Pw.of {P : List K} {bs : List UInt8} {k : Nat} (h : Po.WriteRes (P.map pk) (bs, 0, k)) : Pw P bs := by
  rcases h with ⟨_, h2⟩ | ⟨h1, h2, x, j, hs, h3⟩
  · simp at h2
  · rw [List.length_map] at h1 h2
    rcases h3 with ⟨a, h3⟩ | ⟨rfl, h3⟩
    · simp only [Prod.mk.injEq] at h3; omega
    · simp only [Prod.mk.injEq] at h3
      refine ⟨h1, h2, ?_, ?_⟩
      · cases P with
        | nil => simp at h1
        | cons c P =>
          rw [List.map_cons] at hs
          rcases hs with ⟨_, h4⟩ | ⟨h4, _⟩
          · simp at h4
          · have : c.tag = 0 := of_decide_eq_true h4.symm
            simpa using this
      · rw [h3.1, List.length_append, Po.M.big_len]
        have := Po.cbs_len (P.map pk)
        rw [List.length_map] at this
        omega
theorem known_any (a b : Nat) (w : World) : Calls Try.prog 46 #[.int .u16 (a : Int), .int .u16 (b : Int)] w fun x w' => x = .returned (.bool (decide (a = 0) && (decide (b = 50) || decide (b = 51)))) ∧ w' = w := by
  by_cases ha : a = 0
  · have qa : (((a : Int) == 0) : Bool) = true := by rw [ha]; rfl
    by_cases hb : b = 50
    · have qb : (((b : Int) == 50) : Bool) = true := by rw [hb]; rfl
      have hk : (decide (a = 0) && (decide (b = 50) || decide (b = 51))) = true := by simp [ha, hb]
      rw [hk]
      clear hk ha hb
      go_enter Try.func46, Try.ntmps46
      go_wp2
      go_ret
      exact ⟨rfl, rfl⟩
    · have qb : (((b : Int) == 50) : Bool) = false := by rw [beq_eq_false_iff_ne]; omega
      have hk : (((b : Int) == 51) : Bool) = (decide (a = 0) && (decide (b = 50) || decide (b = 51))) := by rw [Bool.eq_iff_iff]; simp [ha, hb]; omega
      rw [← hk]
      clear hk ha hb
      go_enter Try.func46, Try.ntmps46
      go_wp2
      go_ret
      exact ⟨rfl, rfl⟩
  · have qa : (((a : Int) == 0) : Bool) = false := by rw [beq_eq_false_iff_ne]; omega
    have hk : (decide (a = 0) && (decide (b = 50) || decide (b = 51))) = false := by simp [ha]
    rw [hk]
    clear hk ha
    go_enter Try.func46, Try.ntmps46
    go_wp2
    go_ret
    exact ⟨rfl, rfl⟩
end Go.Proofs.Ytgihfcjddkpkaaa.Cl
namespace Go.Proofs.Ytgihfcjddkpkaaa.Cl
set_option linter.unusedVariables false
open Go.RowKit Go.Maps
namespace M
def knownB (c : Csi) : Bool := decide (c.minor = 0) && (decide (c.major = 50) || decide (c.major = 51))
/-- All that is written, given the pool's bytes. -/
def wall (c : Csi) (bs : List UInt8) : Wo := wcls (wtext (wnums (wnums ⟨[], 0⟩ 4 [3405691582]) 2 [(c.minor : Int), (c.major : Int)]) bs) c
/-- What Write answers. -/
def wout (c : Csi) (bs : List UInt8) (x : Nat) : Nat × List UInt8 :=
  if knownB c = true then (if x = 0 then (if (wall c bs).e = 0 then (0, (wall c bs).l) else ((wall c bs).e, [])) else (x, [])) else (4, [])
end M
def clv (c : Csi) (vp vi vf vm : Value) : Value := .agg #[.int .u16 (c.minor : Int), .int .u16 (c.major : Int), .int .u16 (c.flags : Int), .int .u16 (c.this : Int), .int .u16 (c.super : Int), vp, vi, vf, vm]
/-- What is asked of a class that is written. -/
structure Wok (c : Csi) : Prop where
  ok : c.Ok
  p : Pok c.pool
  n : c.pool.length ≤ 1048576
  s : 9 * c.pool.length + Po.texts (c.pool.map pk) + c.cost + 2000 ≤ 1000000
set_option maxRecDepth 100000 in
set_option maxHeartbeats 8000000 in
theorem Write_any (c : Csi) (vp vi vf vm : Value) (L : List Mv) (w : World) (hC : Cin w c vp vi vf vm L) (hc : Wok c) :
    Calls Try.prog 20 #[clv c vp vi vf vm] w fun e w' => ∃ bs x k, (M.knownB c = true → Po.WriteRes (c.pool.map pk) (bs, x, k)) ∧ e = .returned (.tuple #[.string ⟨(M.wout c bs x).2.toArray⟩, .int .i64 ((M.wout c bs x).1 : Int)]) ∧ Below w.heap.size w w' := by
  unfold clv
  have HC := hide hC
  obtain ⟨pa, pc, rfl, _⟩ := hC.p.ex
  obtain ⟨ia, ic, rfl, hi⟩ := hC.i
  obtain ⟨fa, fc, rfl, hf⟩ := hC.f
  obtain ⟨ma, mc, rfl, hm⟩ := hC.m
  obtain ⟨hok, hpk, hpn, hsz⟩ := hc
  obtain ⟨q1, q2, q3, q4, q5, okI, okF, okM⟩ := id hok
  have Hok := hide hok
  have htx : Txt c.pool := fun x hx => by
    have := texts_one (List.mem_map_of_mem (f := pk) hx)
    have h2 := hpk.t
    have h3 : (pk x).text = x.text := rfl
    rw [h3] at this
    unfold maxLen
    omega
  obtain ⟨wA, hwA⟩ : ∃ wA, wA = w.alloc (.cells #[.int .u16 (c.minor : Int), .int .u16 (c.major : Int), .int .u16 (c.flags : Int), .int .u16 (c.this : Int), .int .u16 (c.super : Int), .slice pa c.pool.length pc, .slice ia c.ifaces.length ic, .slice fa c.fields.length fc, .slice ma L.length mc] 44) := ⟨_, rfl⟩
  have hbA : Below w.heap.size w wA := by rw [hwA]; exact (Below.refl _ _).alloc (Nat.le_refl _) _
  have b0 : Bk wA w.heap.size #[.int .u16 (c.minor : Int), .int .u16 (c.major : Int), .int .u16 (c.flags : Int), .int .u16 (c.this : Int), .int .u16 (c.super : Int), .slice pa c.pool.length pc, .slice ia c.ifaces.length ic, .slice fa c.fields.length fc, .slice ma L.length mc] 44 := by rw [hwA]; exact Bk.new w _ _
  have c0 := b0.cell 0
  have c1 := b0.cell 1
  have c5 := b0.cell 5
  simp at c0 c1 c5
  have HK := hide (known_any c.minor c.major wA)
  have hkb : (decide (c.minor = 0) && (decide (c.major = 50) || decide (c.major = 51))) = M.knownB c := rfl
  rw [hkb] at HK
  have HA := hide hwA
  have HB := hide b0
  have HBl := hide hbA
  have Hpk := hide hpk
  have Htx := hide htx
  clear hwA b0 hbA hC hi hf hm hok okI okF okM hkb hpk htx
  go_enter Try.func20, Try.ntmps20
  go_upto_region 1 with fail
  rw [← unhide HA]
  clear HA
  go_wp2_with fail
  refine (unhide HK).mono ?_
  rintro e w1 ⟨rfl, hw1⟩
  subst hw1
  clear HK
  cases hkn : M.knownB c with
  | false =>
    have hwo : ∀ bs x, M.wout c bs x = (4, []) := fun bs x => by unfold M.wout; rw [hkn]; rfl
    have Hwo := hide hwo
    have Hkn := hide hkn
    clear hwo hkn
    go_wp2
    go_ret2
    exact ⟨[], 0, 0, (fun h => by rw [unhide Hkn] at h; cases h), by rw [unhide Hwo]; rfl, unhide HBl⟩
  | true =>
    have HPW := hide (PWrite_any (.slice pa c.pool.length pc) c.pool w1 ((unhide HC).p.below (unhide HBl)) hpn (unhide Hpk))
    have Hkn := hide hkn
    clear hkn c0 c1
    go_wp2_with fail
    refine (unhide HPW).mono ?_
    rintro e w2 ⟨bs, x, k, hres, rfl, hb2⟩
    clear HPW c5
    have B2 := hide ((unhide HB).below hb2)
    have HBl2 := hide ((unhide HBl).trans (hb2.mono (unhide HBl).size))
    have Hres := hide hres
    clear hb2 HB hres
    by_cases hx : x = 0
    · subst hx
      have n0 : (((0 : Nat) : Int) != 0) = false := rfl
      have hpw := Pw.of (unhide Hres)
      have hwo : M.wout c bs 0 = if (M.wall c bs).e = 0 then (0, (M.wall c bs).l) else ((M.wall c bs).e, []) := by unfold M.wout; rw [unhide Hkn]; rfl
      have Hwo := hide hwo
      have HFT := hide (firstTexts_any (.slice pa c.pool.length pc) c.pool w2 ((unhide HC).p.below (unhide HBl2)) hpn (unhide Htx))
      have c5 := (unhide B2).cell 5
      simp at c5
      have hbsl := hpw.l
      clear hwo hpw
      go_wp2_with fail
      refine (unhide HFT).mono ?_
      rintro e w3 ⟨m, D, n, rfl, hm2, hown, hI, hb3⟩
      clear HFT c5
      obtain ⟨w4, hw4⟩ : ∃ w4, w4 = w3.alloc (.cells #[.slice none 0 0, .map (some m), .int .i64 0] 112) := ⟨_, rfl⟩
      have B3 := (unhide B2).below hb3
      have HBl3 := hide ((unhide HBl2).trans (hb3.mono (unhide HBl2).size))
      have hml : m < w3.heap.size := by
        obtain ⟨es, cl, hb, _⟩ := hown
        exact (Array.getElem?_eq_some_iff.1 hb).1
      have hW4 : Wm (w3.heap.size + 1) c.pool w4 w3.heap.size m ⟨[], 0⟩ := by
        refine ⟨⟨⟨.slice none 0 0, ?_, World.ownsRow_nil _ _ _ _⟩, by rw [hw4]; simp⟩, ⟨D, n, ?_, hI⟩, by omega⟩
        · rw [hw4]; exact Bk.new w3 _ _
        · obtain ⟨es, cl, hb, h1, h2, h3⟩ := hown
          exact ⟨es, cl, by rw [hw4, Below.heap_alloc w3 _ m hml]; exact hb, h1, h2, h3⟩
      have B4 : Bk w4 w.heap.size #[.int .u16 (c.minor : Int), .int .u16 (c.major : Int), .int .u16 (c.flags : Int), .int .u16 (c.this : Int), .int .u16 (c.super : Int), .slice pa c.pool.length pc, .slice ia c.ifaces.length ic, .slice fa c.fields.length fc, .slice ma L.length mc] 44 := by rw [hw4]; exact B3.alloc _
      have hbl4 : Below w.heap.size w w4 := by rw [hw4]; exact (unhide HBl3).alloc (unhide HBl3).size _
      have hsz3 := (unhide HBl3).size
      have hlt3 := B3.lt
      have HN := hide (nums4 hW4 (Nat.lt_succ_self _) [3405691582] (by simp) (by intro y hy; simp at hy; subst hy; exact ⟨by decide, by decide⟩) 1)
      have Hw4 := hide hw4
      have HB4 := hide B4
      have HL4 := hide hbl4
      clear hw4 hW4 B4 hbl4 hown hI B3 HBl3 hb3 B2 HBl2 HBl
      go_upto_region 7 with fail
      rw [← unhide Hw4]
      clear Hw4
      go_wp2_with fail
      refine (unhide HN).mono ?_
      rintro e w5 ⟨rfl, h5, f5⟩
      have l5 : (M.wnums ⟨[], 0⟩ 4 [3405691582]).l.length = 4 := by rw [M.wnums_len]; rfl
      have B5 := fxb (unhide HB4) f5 (by omega) (by decide)
      have L5 := f5.below (unhide HL4) (Nat.le_refl _) hsz3 (Nat.lt_succ_self _)
      have c0 := B5.cell 0
      have c1 := B5.cell 1
      simp at c0 c1
      obtain ⟨o5, ho5⟩ : ∃ o, o = M.wnums ⟨[], 0⟩ 4 [3405691582] := ⟨_, rfl⟩
      have hwa : M.wall c bs = M.wcls (M.wtext (M.wnums o5 2 [(c.minor : Int), (c.major : Int)]) bs) c := by unfold M.wall; rw [ho5]
      rw [← ho5] at h5 l5
      clear HN ho5
      have HN := hide (nums2 h5 (Nat.lt_succ_self _) [(c.minor : Int), (c.major : Int)] (by simp; omega) (by intro y hy; simp at hy; rcases hy with rfl | rfl <;> exact Okx.nat (by omega)) 2)
      have HB5 := hide B5
      have HL5 := hide L5
      clear h5 f5 B5 L5 HB4 HL4
      go_wp2_with fail
      refine (unhide HN).mono ?_
      rintro e w6 ⟨rfl, h6, f6⟩
      have l6 : (M.wnums o5 2 [(c.minor : Int), (c.major : Int)]).l.length = 8 := by rw [M.wnums_len, l5]; rfl
      generalize M.wnums o5 2 [(c.minor : Int), (c.major : Int)] = o6 at *
      have HB6 := hide (fxb (unhide HB5) f6 (by omega) (by decide))
      have HL6 := hide (f6.below (unhide HL5) (Nat.le_refl _) hsz3 (Nat.lt_succ_self _))
      clear HN c0 c1 HB5 HL5 f6
      have HN := hide (wtxt h6 (Nat.lt_succ_self _) bs (by omega))
      clear h6
      go_wp2_with fail
      refine (unhide HN).mono ?_
      rintro e w7 ⟨rfl, h7, f7⟩
      have l7 := M.wtext_len o6 bs
      generalize M.wtext o6 bs = o7 at *
      have HB7 := hide (fxb (unhide HB6) f7 (by omega) (by decide))
      have HL7 := hide (f7.below (unhide HL6) (Nat.le_refl _) hsz3 (Nat.lt_succ_self _))
      clear HN HB6 HL6 f7
      have HN := hide (class_any (w3.heap.size + 1) w3.heap.size m o7 c _ _ _ _ L w w7 h7 (Nat.lt_succ_self _) hpn (by omega) (unhide Hok) (unhide HL7) hsz3 (unhide HC))
      have c0 := (unhide HB7).cell 0
      have c1 := (unhide HB7).cell 1
      have c2 := (unhide HB7).cell 2
      have c3 := (unhide HB7).cell 3
      have c4 := (unhide HB7).cell 4
      have c5 := (unhide HB7).cell 5
      have c6 := (unhide HB7).cell 6
      have c7 := (unhide HB7).cell 7
      have c8 := (unhide HB7).cell 8
      simp at c0 c1 c2 c3 c4 c5 c6 c7 c8
      clear h7
      go_wp2_with fail
      refine (unhide HN).mono ?_
      rintro e w8 ⟨rfl, h8, f8⟩
      clear HN c0 c1 c2 c3 c4 c5 c6 c7 c8
      rw [← hwa] at h8
      have HL8 := hide (f8.below (unhide HL7) (Nat.le_refl _) hsz3 (Nat.lt_succ_self _))
      clear f8 HB7 HL7 hwa
      generalize M.wall c bs = oo at *
      obtain ⟨v, hb, ho⟩ := h8.c.ex
      have d0 := hb.cell 0
      have d2 := hb.cell 2
      simp at d0 d2
      have hcv := own_string ho
      obtain ⟨va, vn, vc, ev⟩ : ∃ va vn vc, v = .slice va vn vc := by
        rcases ho.2 with ⟨e, _⟩ | ⟨g, cap, cur, e, _⟩
        · exact ⟨_, _, _, e⟩
        · exact ⟨_, _, _, e⟩
      subst ev
      clear h8 hb ho
      by_cases hz : oo.e = 0
      · have hq := unhide Hwo
        rw [if_pos hz] at hq
        have Hq := hide hq
        have n1 : (((oo.e : Nat) : Int) != 0) = false := by rw [hz]; rfl
        clear hq hz
        go_wp2
        go_ret2
        exact ⟨bs, 0, k, fun _ => unhide Hres, by rw [unhide Hq]; rfl, unhide HL8⟩
      · have hq := unhide Hwo
        rw [if_neg hz] at hq
        have Hq := hide hq
        have n1 : (((oo.e : Nat) : Int) != 0) = true := by rw [bne_iff_ne]; omega
        clear hq hz
        go_wp2_with fail
        go_quiet (fail)
        go_wp2
        go_ret2
        exact ⟨bs, 0, k, fun _ => unhide Hres, by rw [unhide Hq]; rfl, ⟨(unhide HL8).os, (unhide HL8).tape, (unhide HL8).output, (unhide HL8).size, (unhide HL8).block⟩⟩
    · have n0 : ((x : Int) != 0) = true := by rw [bne_iff_ne]; omega
      have hwo : M.wout c bs x = (x, []) := by unfold M.wout; rw [unhide Hkn]; simp [hx]
      have Hwo := hide hwo
      clear hwo hx
      go_wp2
      go_ret2
      exact ⟨bs, x, k, fun _ => unhide Hres, by rw [unhide Hwo]; rfl, unhide HBl2⟩
end Go.Proofs.Ytgihfcjddkpkaaa.Cl
