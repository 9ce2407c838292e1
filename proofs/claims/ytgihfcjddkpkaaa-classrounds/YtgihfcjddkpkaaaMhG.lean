/-
  ClassRounds: a class that was read, as the writer takes it.
  ClassRounds: what Read, Write and WriteClass answer of a class that was read.
  ClassRounds: classWorks.
  ClassRounds: the statement's walk.
  ClassRounds: the row. The frame is the guide's shell for a law of one string; the walk is YtgihfcjddkpkaaaQk.
-/
import Derived.Test.YtgihfcjddkpkaaaMhF
import Derived.Test.YtgihfcjddkpkaaaMhE
import Derived.Test.YtgihfcjddkpkaaaMgZk
import Derived.Test.YtgihfcjddkpkaaaRows
import Derived.WalkKit
import Derived.ProofKit
import Derived.OpenShut
import Derived.ShutString
namespace Go.Proofs.Ytgihfcjddkpkaaa.Cl
set_option linter.unusedVariables false
set_option linter.unusedSimpArgs false
open Go.RowKit
open Rc (kOf)
def mvj (j : Rc.Mj) : Mv := ⟨miOf j.m, j.hv⟩
theorem cin_of {w0 w : World} {v : Value} {l : List Po.K} {c : Cs} (h : Rc.ClsIn w0 w v l c) (hf : Po.AllFit l) : ∃ vp vi vf vm L, v = clv (csiOf c) vp vi vf vm ∧ Cin w (csiOf c) vp vi vf vm L := by
  obtain ⟨vp, vi, vf, vm, L, e, ho, hL⟩ := h.ex
  refine ⟨vp, vi, vf, vm, L.map mvj, e, ⟨?_, ?_, ?_, ?_, ?_, ?_⟩⟩
  · have hp : (csiOf c).pool = l.map kOf := h.pool
    rw [hp]
    have hfit : ∀ x ∈ l.map kOf, x.tag < 256 ∧ x.a < 65536 ∧ x.b < 65536 := fun x hx => by
      obtain ⟨y, hy, rfl⟩ := List.mem_map.1 hx
      have := hf y hy
      exact ⟨this.tag, this.a, this.b⟩
    rcases ho.p with ⟨rfl, rfl⟩ | ⟨B, _, hr⟩
    · exact ⟨hfit, none, 0, rfl, fun hne => absurd rfl hne⟩
    · exact Rc.KIn.of_row hfit (by rw [Rc.KC_of, List.length_map]; exact hr)
  · have hu : Rc.UC c.ifaces = c.ifaces.flatMap Uc := by
      unfold Rc.UC
      induction c.ifaces with
      | nil => rfl
      | cons x l ih => rw [List.map_cons, List.flatMap_cons, ih]; rfl
    have := ho.i
    rw [hu] at this
    exact FIn.of_row Uc_len this
  · exact FIn.of_row Fc_len ho.f
  · have hm : Rc.MC L = (L.map mvj).flatMap Mv.cells := by rw [List.flatMap_map]; rfl
    have := ho.m.row
    rw [hm] at this
    exact FIn.of_row Mv.len (by rw [List.length_map]; exact this)
  · intro j hj
    obtain ⟨x, hx, rfl⟩ := List.mem_map.1 hj
    have := ho.m.own x hx
    have hh : Rc.HC x.m.code.handlers = (x.m.code.handlers.map hiOf).flatMap Hi.cells := by rw [List.flatMap_map]; rfl
    rw [hh] at this
    exact FIn.of_row Hi.len (by rw [show (mvj x).m.code.handlers = x.m.code.handlers.map hiOf from rfl, List.length_map]; exact this)
  · rw [List.map_map]
    have : (csiOf c).methods = c.methods.map miOf := rfl
    rw [this, ← hL, List.map_map]
    rfl
theorem fl_len (P : List K) (L : List Fd) : 8 * L.length ≤ (L.flatMap (bfld P)).length := by
  induction L with
  | nil => simp
  | cons x L ih =>
    rw [List.flatMap_cons, List.length_append, List.length_cons]
    have : 8 ≤ (bfld P x).length := by
      unfold bfld
      simp only [List.length_append, M.big_len]
      split <;> simp only [List.length_append, M.big_len] <;> omega
    omega
theorem ml_len (P : List K) (L : List Mt) (h : ∀ m ∈ L, QM P m) : M.mcosts (L.map miOf) ≤ 4 * (L.flatMap (bmth P)).length ∧ 8 * L.length ≤ (L.flatMap (bmth P)).length := by
  induction L with
  | nil => simp [M.mcosts]
  | cons x L ih =>
    obtain ⟨i1, i2⟩ := ih (fun m hm => h m (List.mem_cons_of_mem _ hm))
    have hx := h x List.mem_cons_self
    have e1 : M.mcosts ((x :: L).map miOf) = M.mcost (miOf x) + M.mcosts (L.map miOf) := by unfold M.mcosts; rw [List.map_cons, List.map_cons, List.sum_cons]
    rw [e1, List.flatMap_cons, List.length_append, List.length_cons]
    have e2 : M.mcost (miOf x) ≤ 4 * (bmth P x).length ∧ 8 ≤ (bmth P x).length := by
      have e3 : M.mcost (miOf x) = 14 + (bcod P x.code).length := by
        unfold M.mcost
        rw [show (miOf x).code = ciOf x.code from rfl, clen_of (P := P)]
      rw [e3]
      unfold bmth
      cases hm : x.has with
      | true => simp only [if_true, List.length_append, M.big_len, batt]; omega
      | false =>
        rw [hx.e hm]
        simp only [Bool.false_eq_true, if_false, List.length_append, M.big_len, bcod, bmap, Cd.zero, if_true, List.length_nil, List.flatMap_nil]
        omega
    omega
theorem hl_len {P : List K} {m : Mt} (h : QM P m) : m.code.handlers.length ≤ (bmth P m).length := by
  have hb : ∀ L : List Hn, (L.flatMap bhnd).length = 8 * L.length := fun L => by
    induction L with
    | nil => rfl
    | cons x L ih => rw [List.flatMap_cons, List.length_append, ih, List.length_cons]; simp only [bhnd, List.length_append, M.big_len]; omega
  unfold bmth
  cases hm : m.has with
  | true => simp only [if_true, List.length_append, M.big_len, batt, bcod, hb]; omega
  | false => rw [h.e hm]; simp [Cd.zero]
theorem mem_len (P : List K) : ∀ (L : List Mt) (m : Mt), m ∈ L → (bmth P m).length ≤ (L.flatMap (bmth P)).length
  | x :: L, m, h => by
    rw [List.flatMap_cons, List.length_append]
    rcases List.mem_cons.1 h with rfl | h
    · omega
    · have := mem_len P L m h; omega
theorem ok_of {c : Cs} (h : QK c) : (csiOf c).Ok := by
  refine ⟨h.a, h.b, h.d, h.e, h.f, h.i, fun x hx => ?_, fun m hm => ?_⟩
  · have := h.fq x hx; exact ⟨this.a, this.b, this.c, this.d⟩
  · obtain ⟨x, hx, rfl⟩ := List.mem_map.1 hm
    have g := h.mq x hx
    refine ⟨g.a, g.b, g.c, ?_⟩
    have hq : QC c.pool x.code ∨ x.code = Cd.zero := by
      cases hh : x.has with
      | true => exact .inl (g.d hh).1
      | false => exact .inr (g.e hh)
    rcases hq with q | q
    · refine ⟨Okx.nat (by have := q.a; omega), Okx.nat (by have := q.b; omega), fun y hy => ?_⟩
      obtain ⟨z, hz, rfl⟩ := List.mem_map.1 hy
      have k := q.e z hz
      exact ⟨Okx.nat (by have := k.a; omega), Okx.nat (by have := k.b; omega), Okx.nat (by have := k.c; omega), k.d⟩
    · rw [show (miOf x).code = ciOf x.code from rfl, q]
      exact ⟨Okx.nat (n := 0) (by decide), Okx.nat (n := 0) (by decide), fun y hy => by cases hy⟩
/-- All that the writers ask of a class that was read. -/
theorem wok_of {c : Cs} {l : List Po.K} {pb : List UInt8} (h : QK c) (hp : c.pool = l.map kOf) (hw : Po.WriteRes l (pb, 0, 0)) (hl : (bcls c pb).length ≤ 32768) (hf : Po.AllFit l) (ht : Po.texts l ≤ 32768) :
    Wok (csiOf c) ∧ M.mcosts (csiOf c).methods ≤ 890000 ∧ (∀ m ∈ (csiOf c).methods, M.clen m.code < 4294967296) ∧ ClsB (csiOf c) := by
  have hpk : (csiOf c).pool.map pk = l := by rw [show (csiOf c).pool = c.pool from rfl, hp, pk_kOf]
  have hpw := Pw.of (P := (csiOf c).pool) (bs := pb) (k := 0) (by rw [hpk]; exact hw)
  have hn2 := hpw.n2
  obtain ⟨m1, m2⟩ := ml_len c.pool c.methods h.mq
  have f1 := fl_len c.pool c.fields
  have hu : (c.ifaces.flatMap (fun x => M.big x 2)).length = 2 * c.ifaces.length := by
    induction c.ifaces with
    | nil => rfl
    | cons x L ih => rw [List.flatMap_cons, List.length_append, ih, List.length_cons, M.big_len]; omega
  have hl2 := hl
  unfold bcls at hl2
  simp only [List.length_append, M.big_len, hu] at hl2
  have hme : (csiOf c).methods = c.methods.map miOf := rfl
  have e4 : (csiOf c).cost = 14 + 2 * c.ifaces.length + 16 * c.fields.length + M.mcosts (c.methods.map miOf) := rfl
  refine ⟨⟨ok_of h, ⟨by rw [hpk]; omega, fun k hk => ?_⟩, by omega, by rw [hpk, e4]; omega⟩, by rw [hme]; omega, fun m hm => ?_, ⟨by omega, ?_, ?_, ?_, fun m hm => ?_⟩⟩
  · have hk2 : pk k ∈ l := by rw [← hpk]; exact List.mem_map_of_mem hk
    exact (hf _ hk2).bits
  · rw [hme] at hm
    obtain ⟨x, hx, rfl⟩ := List.mem_map.1 hm
    have g := h.mq x hx
    rw [show (miOf x).code = ciOf x.code from rfl, clen_of (P := c.pool)]
    cases hh : x.has with
    | true => exact (g.d hh).2.2
    | false => rw [g.e hh]; simp [bcod, bmap, Cd.zero, M.big_len]
  · show c.ifaces.length ≤ 1048576; omega
  · show c.fields.length ≤ 1048576; omega
  · show (c.methods.map miOf).length ≤ 1048576; rw [List.length_map]; omega
  · rw [hme] at hm
    obtain ⟨x, hx, rfl⟩ := List.mem_map.1 hm
    have g1 := hl_len (h.mq x hx)
    have g2 := mem_len c.pool c.methods x hx
    show (x.code.handlers.map hiOf).length ≤ 1048576
    rw [List.length_map]
    omega
end Go.Proofs.Ytgihfcjddkpkaaa.Cl
namespace Go.Proofs.Ytgihfcjddkpkaaa.Cl
set_option linter.unusedVariables false
set_option linter.unusedSimpArgs false
open Go.RowKit
open Rc (kOf)
def zagg : Value := .agg #[.int .u16 0, .int .u16 0, .int .u16 0, .int .u16 0, .int .u16 0, .slice none 0 0, .slice none 0 0, .slice none 0 0, .slice none 0 0]
theorem cls_bad {s : List UInt8} {r : Po.Res} (h : (Rc.M.hdr s ⟨0, 0, 0⟩).2.2.e ≠ 0) : (Rc.M.cls s ⟨0, 0, 0⟩ r).2 = (Rc.M.hdr s ⟨0, 0, 0⟩).2.2 := by
  unfold Rc.M.cls Rc.M.cst
  simp only
  generalize Rc.M.hdr s ⟨0, 0, 0⟩ = hh at *
  have e1 : (if r.2.2.1 = 0 then hh.2.2 else M.fail hh.2.2 r.2.2.1 (hh.2.2.pos + r.2.2.2)) = hh.2.2 := by
    split
    · rfl
    · exact M.fail_bad h
  rw [e1, M.take_bad h]
  simp only
  have e2 : ∀ n, M.rd s n hh.2.2 = (0, hh.2.2) := fun n => by unfold M.rd; rw [M.take_bad h]; rfl
  unfold M.three M.lst M.attsN
  simp only [e2, M.reps, M.atts]
theorem hdr0 : Rc.M.hdr [202, 254, 186, 191] ⟨0, 0, 0⟩ = (0, 0, ⟨4, 3, 0⟩) := by kernel_rfl
structure Good (c : Cs) (l : List Po.K) (pb : List UInt8) : Prop where
  q : QK c
  p : c.pool = l.map kOf
  w : Po.WriteRes l (pb, 0, 0)
  r : ∀ more, Po.ReadRes (pb ++ more) (l, pb.length, 0, 0)
  f : Po.AllFit l
  t : Po.texts l ≤ 32768
  n : (bcls c pb).length ≤ 32768
theorem read_bad (w : World) : Calls Try.prog 16 #[.string ⟨#[202, 254, 186, 191]⟩] w fun x w' => x = .returned (.tuple #[zagg, .int .i64 3, .int .i64 0]) ∧ Below w.heap.size w w' := by
  refine (Rc.Read_any ⟨#[202, 254, 186, 191]⟩ w (by decide)).mono ?_
  rintro x w' ⟨r, hr, v, rfl, hb, h1, h2⟩
  have e0 : (⟨#[202, 254, 186, 191]⟩ : ByteArray).data.toList = [202, 254, 186, 191] := rfl
  rw [e0] at h1 h2 ⊢
  have e1 : (Rc.M.cls [202, 254, 186, 191] ⟨0, 0, 0⟩ r).2 = ⟨4, 3, 0⟩ := by rw [cls_bad (by rw [hdr0]; decide), hdr0]
  have e2 : M.fin [202, 254, 186, 191] ⟨4, 3, 0⟩ = ⟨4, 3, 0⟩ := rfl
  rw [e1, e2] at h2 ⊢
  rw [h2 (by decide)]
  exact ⟨rfl, hb⟩
theorem read_any (s : ByteArray) (w : World) (hs : s.size ≤ 32768) : Calls Try.prog 16 #[.string s] w fun x w' => Below w.heap.size w w' ∧
    ((∃ e p : Nat, e ≠ 0 ∧ x = .returned (.tuple #[zagg, .int .i64 (e : Int), .int .i64 (p : Int)])) ∨
      ∃ c l pb vp vi vf vm L, x = .returned (.tuple #[clv (csiOf c) vp vi vf vm, .int .i64 0, .int .i64 0]) ∧ Cin w' (csiOf c) vp vi vf vm L ∧ Good c l pb ∧ (bcls c pb).length ≤ s.size) := by
  refine (Rc.Read_any s w (by omega)).mono ?_
  rintro x w' ⟨r, hr, v, rfl, hb, h1, h2⟩
  refine ⟨hb, ?_⟩
  by_cases he : (M.fin s.data.toList (Rc.M.cls s.data.toList ⟨0, 0, 0⟩ r).2).e = 0
  · right
    obtain ⟨q, pb, w1, w2, w3, w4, w5, w6⟩ := cls_fact hr he
    obtain ⟨vp, vi, vf, vm, L, e, hC⟩ := cin_of (h1 he) w5
    have hsz : s.data.toList.length = s.size := rfl
    rw [hsz] at w3 w6
    refine ⟨_, r.1, pb, vp, vi, vf, vm, L, ?_, hC, ⟨q, w4, w1, w2, w5, by omega, by omega⟩, w3⟩
    rw [e, he]
    rfl
  · left
    exact ⟨_, (if (M.fin s.data.toList (Rc.M.cls s.data.toList ⟨0, 0, 0⟩ r).2).e = 0 then 0 else (M.fin s.data.toList (Rc.M.cls s.data.toList ⟨0, 0, 0⟩ r).2).p), he, by rw [h2 he]; rfl⟩
theorem write_any {c : Cs} {l : List Po.K} {pb : List UInt8} (h : Good c l pb) {vp vi vf vm : Value} {L : List Mv} (w : World) (hC : Cin w (csiOf c) vp vi vf vm L) :
    Calls Try.prog 20 #[clv (csiOf c) vp vi vf vm] w fun x w' => x = .returned (.tuple #[.string ⟨(bcls c pb).toArray⟩, .int .i64 0]) ∧ Below w.heap.size w w' := by
  obtain ⟨o1, o2, o3, o4⟩ := wok_of h.q h.p h.w h.n h.f h.t
  refine (Write_any (csiOf c) vp vi vf vm L w hC o1).mono ?_
  rintro x w' ⟨bs, y, k, h1, rfl, hb⟩
  have hpk : (csiOf c).pool.map pk = l := by rw [show (csiOf c).pool = c.pool from rfl, h.p, pk_kOf]
  have h2 := h1 h.q.v
  rw [hpk] at h2
  have h3 := h2.uniq h.w
  simp only [Prod.mk.injEq] at h3
  obtain ⟨rfl, rfl, rfl⟩ := h3
  rw [wout_of h.q]
  exact ⟨rfl, hb⟩
theorem rwrite_any {c : Cs} {l : List Po.K} {pb : List UInt8} (h : Good c l pb) {vp vi vf vm : Value} {L : List Mv} (w : World) (hC : Cin w (csiOf c) vp vi vf vm L) :
    Calls Try.prog 23 #[clv (csiOf c) vp vi vf vm] w fun x w' => x = .returned (.tuple #[.string ⟨(bcls c pb).toArray⟩, .int .i64 0]) ∧ Below w.heap.size w w' := by
  obtain ⟨o1, o2, o3, o4⟩ := wok_of h.q h.p h.w h.n h.f h.t
  refine (RWrite_any (csiOf c) vp vi vf vm L w hC o1 o2).mono ?_
  rintro x w' ⟨bs, y, k, h1, rfl, hb⟩
  have hpk : (csiOf c).pool.map pk = l := by rw [show (csiOf c).pool = c.pool from rfl, h.p, pk_kOf]
  have h0 : Po.WriteRes ((csiOf c).pool.map pk) (pb, 0, 0) := by rw [hpk]; exact h.w
  rw [out_same (csiOf c) o1 o3 (fun _ => h0) h1, wout_of h.q]
  exact ⟨rfl, hb⟩
theorem back_any {c : Cs} {l : List Po.K} {pb : List UInt8} (h : Good c l pb) (w : World) :
    Calls Try.prog 16 #[.string ⟨(bcls c pb).toArray⟩] w fun x w' => Below w.heap.size w w' ∧ ∃ vp vi vf vm L, x = .returned (.tuple #[clv (csiOf c) vp vi vf vm, .int .i64 0, .int .i64 0]) ∧ Cin w' (csiOf c) vp vi vf vm L := by
  have hsz : (⟨(bcls c pb).toArray⟩ : ByteArray).size = (bcls c pb).length := by simp [ByteArray.size]
  refine (Rc.Read_any ⟨(bcls c pb).toArray⟩ w (by rw [hsz]; have := h.n; omega)).mono ?_
  rintro x w' ⟨r, hr, v, rfl, hb, h1, h2⟩
  have e0 : (⟨(bcls c pb).toArray⟩ : ByteArray).data.toList = bcls c pb := by simp
  rw [e0] at hr h1 h2 ⊢
  obtain ⟨rfl, e1⟩ := cls_of h.q h.p h.r hr
  rw [e1] at h1 h2 ⊢
  have e2 : M.fin (bcls c pb) ⟨(bcls c pb).length, 0, 0⟩ = ⟨(bcls c pb).length, 0, 0⟩ := by unfold M.fin; rw [if_neg (Nat.lt_irrefl _)]
  simp only at h1 h2 ⊢
  rw [e2] at h1 h2 ⊢
  obtain ⟨vp, vi, vf, vm, L, e, hC⟩ := cin_of (h1 rfl) h.f
  exact ⟨hb, vp, vi, vf, vm, L, by rw [e]; rfl, hC⟩
/-- The class of classWorks. -/
def c0 : Cs := ⟨0, 51, p0.map kOf, 33, 2, 4, [], [⟨1, 1, 7, 0⟩], [⟨9, 1, 6, true, ⟨1, 0, [177], [], []⟩⟩]⟩
theorem good0 : Good c0 p0 s0 := by
  obtain ⟨w1, w2, w3, w4, w5, w6, w7⟩ := Po.read_write sample0
  have es : s0.take 48 = s0 := by decide
  have el : s0.length = 48 := by decide
  rw [es] at w1 w2
  have hcode : Has c0.pool M.codeName := Has.of (k := 5) (by decide) (by decide) (by decide) (by decide)
  have hq : QK c0 := by
    refine ⟨by decide, by decide, by decide, by decide, by decide, by decide, by decide, (by intro x hx; cases hx), by decide, fun x hx => ?_, by decide, fun x hx => ?_⟩
    · have : x = ⟨1, 1, 7, 0⟩ := by simpa [c0] using hx
      subst this
      exact ⟨by decide, by decide, by decide, by decide, fun h => absurd rfl h⟩
    · have : x = ⟨9, 1, 6, true, ⟨1, 0, [177], [], []⟩⟩ := by simpa [c0] using hx
      subst this
      refine ⟨by decide, by decide, by decide, fun _ => ⟨⟨by decide, by decide, by decide, by decide, (by intro y hy; cases hy), by decide, fun h => absurd rfl h⟩, hcode, by decide⟩, fun h => by cases h⟩
  exact ⟨hq, rfl, w1, by rw [el]; exact w2, w3, by omega, by decide +kernel⟩
end Go.Proofs.Ytgihfcjddkpkaaa.Cl
namespace Go.Proofs.Ytgihfcjddkpkaaa.Cl
set_option linter.unusedVariables false
set_option linter.unusedSimpArgs false
open Go.RowKit Go.Maps
theorem FIn.of_bk {α : Type} {f : α → List Value} {z : Nat} {d : α} {w : World} {b t cap : Nat} {l : List α} (hf : ∀ x, (f x).length = z) (h : Bk w b (l.flatMap f).toArray t) : FIn f z d w (.slice (some ⟨b, 0, none⟩) l.length cap) l :=
  ⟨some ⟨b, 0, none⟩, cap, rfl, fun _ => ⟨b, 0, rfl, fun k hk i hi => by
    rw [h.cell, List.getElem?_toArray, Nat.zero_add]
    exact flat_at f z hf d l k i hk hi⟩⟩
theorem cin0 {w w' : World} (b1 : Bk w' w.heap.size #[.int .u8 0, .string ⟨#[]⟩, .int .u64 0, .int .u16 0, .int .u16 0, .int .u8 1, .string ⟨#[65]⟩, .int .u64 0, .int .u16 0, .int .u16 0, .int .u8 7, .string ⟨#[]⟩, .int .u64 0, .int .u16 1, .int .u16 0, .int .u8 1, .string ⟨#[106, 97, 118, 97, 47, 108, 97, 110, 103, 47, 79, 98, 106, 101, 99, 116]⟩, .int .u64 0, .int .u16 0, .int .u16 0, .int .u8 7, .string ⟨#[]⟩, .int .u64 0, .int .u16 3, .int .u16 0, .int .u8 1, .string ⟨#[67, 111, 100, 101]⟩, .int .u64 0, .int .u16 0, .int .u16 0, .int .u8 1, .string ⟨#[40, 41, 86]⟩, .int .u64 0, .int .u16 0, .int .u16 0, .int .u8 1, .string ⟨#[73]⟩, .int .u64 0, .int .u16 0, .int .u16 0] 78) (b2 : Bk w' (w.heap.size + 1) #[.int .u16 1, .int .u16 1, .int .u16 7, .int .u16 0] 95) (b3 : Bk w' (w.heap.size + 1 + 1) #[.int .u16 9, .int .u16 1, .int .u16 6, .bool true, .int .i64 1, .int .i64 0, .string ⟨#[177]⟩, .slice none 0 0, .string ⟨#[]⟩] 101) :
    Cin w' (csiOf c0) (.slice (some ⟨w.heap.size, 0, none⟩) 8 8) (.slice none 0 0) (.slice (some ⟨w.heap.size + 1, 0, none⟩) 1 1) (.slice (some ⟨w.heap.size + 1 + 1, 0, none⟩) 1 1) [⟨miOf ⟨9, 1, 6, true, ⟨1, 0, [177], [], []⟩⟩, .slice none 0 0⟩] := by
  refine ⟨⟨?_, (FIn.of_bk (d := K.zero) (l := (csiOf c0).pool) (cap := 8) (fun x => (rfl : (K.cells x).length = 5)) b1)⟩, ⟨none, 0, rfl, fun h => absurd rfl h⟩, FIn.of_bk (l := (csiOf c0).fields) (cap := 1) Fc_len b2, FIn.of_bk (l := [⟨miOf ⟨9, 1, 6, true, ⟨1, 0, [177], [], []⟩⟩, .slice none 0 0⟩]) (cap := 1) Mv.len b3, ?_, rfl⟩
  · intro x hx
    obtain ⟨y, hy, rfl⟩ := List.mem_map.1 hx
    have := good0.f y hy
    exact ⟨this.tag, this.a, this.b⟩
  · intro j hj
    have : j = ⟨miOf ⟨9, 1, 6, true, ⟨1, 0, [177], [], []⟩⟩, .slice none 0 0⟩ := by simpa using hj
    subst this
    exact ⟨none, 0, rfl, fun h => absurd rfl h⟩
set_option maxRecDepth 1000000 in
set_option maxHeartbeats 8000000 in
theorem works_any (w : World) : Calls Try.prog 19 #[] w fun x w' => x = .returned (.bool true) ∧ Below w.heap.size w w' := by
  obtain ⟨t, ht⟩ : ∃ t, t = bcls c0 s0 := ⟨_, rfl⟩
  obtain ⟨c, hc⟩ : ∃ c, c = csiOf c0 := ⟨_, rfl⟩
  obtain ⟨wD, hwD⟩ : ∃ wD, (((w.alloc (.cells #[.int .u8 0, .string ⟨#[]⟩, .int .u64 0, .int .u16 0, .int .u16 0, .int .u8 1, .string ⟨#[65]⟩, .int .u64 0, .int .u16 0, .int .u16 0, .int .u8 7, .string ⟨#[]⟩, .int .u64 0, .int .u16 1, .int .u16 0, .int .u8 1, .string ⟨#[106, 97, 118, 97, 47, 108, 97, 110, 103, 47, 79, 98, 106, 101, 99, 116]⟩, .int .u64 0, .int .u16 0, .int .u16 0, .int .u8 7, .string ⟨#[]⟩, .int .u64 0, .int .u16 3, .int .u16 0, .int .u8 1, .string ⟨#[67, 111, 100, 101]⟩, .int .u64 0, .int .u16 0, .int .u16 0, .int .u8 1, .string ⟨#[40, 41, 86]⟩, .int .u64 0, .int .u16 0, .int .u16 0, .int .u8 1, .string ⟨#[73]⟩, .int .u64 0, .int .u16 0, .int .u16 0] 78)).alloc (.cells #[.int .u16 1, .int .u16 1, .int .u16 7, .int .u16 0] 95)).alloc (.cells #[.int .u16 9, .int .u16 1, .int .u16 6, .bool true, .int .i64 1, .int .i64 0, .string ⟨#[177]⟩, .slice none 0 0, .string ⟨#[]⟩] 101)).alloc (.cells #[.int .u16 0, .int .u16 51, .int .u16 33, .int .u16 2, .int .u16 4, .slice (some ⟨w.heap.size, 0, none⟩) 8 8, .slice none 0 0, .slice (some ⟨w.heap.size + 1, 0, none⟩) 1 1, .slice (some ⟨w.heap.size + 1 + 1, 0, none⟩) 1 1] 44) = wD := ⟨_, rfl⟩
  have q1 : Bk wD w.heap.size #[.int .u8 0, .string ⟨#[]⟩, .int .u64 0, .int .u16 0, .int .u16 0, .int .u8 1, .string ⟨#[65]⟩, .int .u64 0, .int .u16 0, .int .u16 0, .int .u8 7, .string ⟨#[]⟩, .int .u64 0, .int .u16 1, .int .u16 0, .int .u8 1, .string ⟨#[106, 97, 118, 97, 47, 108, 97, 110, 103, 47, 79, 98, 106, 101, 99, 116]⟩, .int .u64 0, .int .u16 0, .int .u16 0, .int .u8 7, .string ⟨#[]⟩, .int .u64 0, .int .u16 3, .int .u16 0, .int .u8 1, .string ⟨#[67, 111, 100, 101]⟩, .int .u64 0, .int .u16 0, .int .u16 0, .int .u8 1, .string ⟨#[40, 41, 86]⟩, .int .u64 0, .int .u16 0, .int .u16 0, .int .u8 1, .string ⟨#[73]⟩, .int .u64 0, .int .u16 0, .int .u16 0] 78 := by rw [← hwD]; exact (((Bk.new w _ _).alloc _).alloc _).alloc _
  have q2 : Bk wD (w.heap.size + 1) #[.int .u16 1, .int .u16 1, .int .u16 7, .int .u16 0] 95 := by
    rw [← hwD]
    have := Bk.new (w.alloc (.cells #[.int .u8 0, .string ⟨#[]⟩, .int .u64 0, .int .u16 0, .int .u16 0, .int .u8 1, .string ⟨#[65]⟩, .int .u64 0, .int .u16 0, .int .u16 0, .int .u8 7, .string ⟨#[]⟩, .int .u64 0, .int .u16 1, .int .u16 0, .int .u8 1, .string ⟨#[106, 97, 118, 97, 47, 108, 97, 110, 103, 47, 79, 98, 106, 101, 99, 116]⟩, .int .u64 0, .int .u16 0, .int .u16 0, .int .u8 7, .string ⟨#[]⟩, .int .u64 0, .int .u16 3, .int .u16 0, .int .u8 1, .string ⟨#[67, 111, 100, 101]⟩, .int .u64 0, .int .u16 0, .int .u16 0, .int .u8 1, .string ⟨#[40, 41, 86]⟩, .int .u64 0, .int .u16 0, .int .u16 0, .int .u8 1, .string ⟨#[73]⟩, .int .u64 0, .int .u16 0, .int .u16 0] 78)) #[.int .u16 1, .int .u16 1, .int .u16 7, .int .u16 0] 95
    simp only [World.size_alloc] at this
    exact (this.alloc _).alloc _
  have q3 : Bk wD (w.heap.size + 1 + 1) #[.int .u16 9, .int .u16 1, .int .u16 6, .bool true, .int .i64 1, .int .i64 0, .string ⟨#[177]⟩, .slice none 0 0, .string ⟨#[]⟩] 101 := by
    rw [← hwD]
    have := Bk.new ((w.alloc (.cells #[.int .u8 0, .string ⟨#[]⟩, .int .u64 0, .int .u16 0, .int .u16 0, .int .u8 1, .string ⟨#[65]⟩, .int .u64 0, .int .u16 0, .int .u16 0, .int .u8 7, .string ⟨#[]⟩, .int .u64 0, .int .u16 1, .int .u16 0, .int .u8 1, .string ⟨#[106, 97, 118, 97, 47, 108, 97, 110, 103, 47, 79, 98, 106, 101, 99, 116]⟩, .int .u64 0, .int .u16 0, .int .u16 0, .int .u8 7, .string ⟨#[]⟩, .int .u64 0, .int .u16 3, .int .u16 0, .int .u8 1, .string ⟨#[67, 111, 100, 101]⟩, .int .u64 0, .int .u16 0, .int .u16 0, .int .u8 1, .string ⟨#[40, 41, 86]⟩, .int .u64 0, .int .u16 0, .int .u16 0, .int .u8 1, .string ⟨#[73]⟩, .int .u64 0, .int .u16 0, .int .u16 0] 78)).alloc (.cells #[.int .u16 1, .int .u16 1, .int .u16 7, .int .u16 0] 95)) #[.int .u16 9, .int .u16 1, .int .u16 6, .bool true, .int .i64 1, .int .i64 0, .string ⟨#[177]⟩, .slice none 0 0, .string ⟨#[]⟩] 101
    simp only [World.size_alloc] at this
    exact this.alloc _
  have q4 : Bk wD (w.heap.size + 1 + 1 + 1) #[.int .u16 (c.minor : Int), .int .u16 (c.major : Int), .int .u16 (c.flags : Int), .int .u16 (c.this : Int), .int .u16 (c.super : Int), .slice (some ⟨w.heap.size, 0, none⟩) 8 8, .slice none 0 0, .slice (some ⟨w.heap.size + 1, 0, none⟩) 1 1, .slice (some ⟨w.heap.size + 1 + 1, 0, none⟩) 1 1] 44 := by
    rw [← hwD, hc]
    have := Bk.new (((w.alloc (.cells #[.int .u8 0, .string ⟨#[]⟩, .int .u64 0, .int .u16 0, .int .u16 0, .int .u8 1, .string ⟨#[65]⟩, .int .u64 0, .int .u16 0, .int .u16 0, .int .u8 7, .string ⟨#[]⟩, .int .u64 0, .int .u16 1, .int .u16 0, .int .u8 1, .string ⟨#[106, 97, 118, 97, 47, 108, 97, 110, 103, 47, 79, 98, 106, 101, 99, 116]⟩, .int .u64 0, .int .u16 0, .int .u16 0, .int .u8 7, .string ⟨#[]⟩, .int .u64 0, .int .u16 3, .int .u16 0, .int .u8 1, .string ⟨#[67, 111, 100, 101]⟩, .int .u64 0, .int .u16 0, .int .u16 0, .int .u8 1, .string ⟨#[40, 41, 86]⟩, .int .u64 0, .int .u16 0, .int .u16 0, .int .u8 1, .string ⟨#[73]⟩, .int .u64 0, .int .u16 0, .int .u16 0] 78)).alloc (.cells #[.int .u16 1, .int .u16 1, .int .u16 7, .int .u16 0] 95)).alloc (.cells #[.int .u16 9, .int .u16 1, .int .u16 6, .bool true, .int .i64 1, .int .i64 0, .string ⟨#[177]⟩, .slice none 0 0, .string ⟨#[]⟩] 101)) #[.int .u16 0, .int .u16 51, .int .u16 33, .int .u16 2, .int .u16 4, .slice (some ⟨w.heap.size, 0, none⟩) 8 8, .slice none 0 0, .slice (some ⟨w.heap.size + 1, 0, none⟩) 1 1, .slice (some ⟨w.heap.size + 1 + 1, 0, none⟩) 1 1] 44
    simp only [World.size_alloc] at this
    exact this
  have bl : Below w.heap.size w wD := by
    rw [← hwD]
    exact ((((Below.refl _ _).alloc (Nat.le_refl _) _).alloc (by simp) _).alloc (by simp; omega) _).alloc (by simp; omega) _
  have hC0 := cin0 q1 q2 q3
  have hW := rwrite_any good0 wD hC0
  rw [← ht, ← hc] at hW
  rw [← hc] at hC0
  unfold clv at hW
  have HC0 := hide hC0
  have HW := hide hW
  have HwD := hide hwD
  have Hq := hide q4
  have Hb := hide bl
  have Ht := hide ht
  have Hc := hide hc
  clear hC0 hW hwD q1 q2 q3 q4 bl ht hc
  go_enter Try.func19, Try.ntmps19
  go_upto_region 3 with fail
  rw [unhide HwD]
  clear HwD
  have c0 := (unhide Hq).cell 0
  have c1 := (unhide Hq).cell 1
  have c2 := (unhide Hq).cell 2
  have c3 := (unhide Hq).cell 3
  have c4 := (unhide Hq).cell 4
  have c5 := (unhide Hq).cell 5
  have c6 := (unhide Hq).cell 6
  have c7 := (unhide Hq).cell 7
  have c8 := (unhide Hq).cell 8
  simp at c0 c1 c2 c3 c4 c5 c6 c7 c8
  go_wp2_with fail
  refine (unhide HW).mono ?_
  rintro e w1 ⟨rfl, hb1⟩
  clear HW c0 c1 c2 c3 c4 c5 c6 c7 c8
  have hR := back_any good0 w1
  rw [← unhide Ht, ← unhide Hc] at hR
  unfold clv at hR
  have HR := hide hR
  have Hq1 := hide ((unhide Hq).below hb1)
  have Hb1 := hide ((unhide Hb).trans (hb1.mono (unhide Hb).size))
  have HC1 := hide ((unhide HC0).below hb1)
  clear hR hb1 Hq Hb HC0
  go_wp2_with fail
  refine (unhide HR).mono ?_
  rintro e w2 ⟨hb2, vp, vi, vf, vm, L, rfl, hC2⟩
  clear HR
  have HC2' := hide hC2
  obtain ⟨pa, pc, rfl, _⟩ := hC2.p.ex
  obtain ⟨ia, ic, rfl, _⟩ := hC2.i
  obtain ⟨fa, fc, rfl, _⟩ := hC2.f
  obtain ⟨ma, mc, rfl, _⟩ := hC2.m
  obtain ⟨w3, hw3⟩ : ∃ w3, w3 = w2.alloc (.cells #[.int .u16 (c.minor : Int), .int .u16 (c.major : Int), .int .u16 (c.flags : Int), .int .u16 (c.this : Int), .int .u16 (c.super : Int), .slice pa c.pool.length pc, .slice ia c.ifaces.length ic, .slice fa c.fields.length fc, .slice ma L.length mc] 44) := ⟨_, rfl⟩
  have d3 : Bk w3 w2.heap.size #[.int .u16 (c.minor : Int), .int .u16 (c.major : Int), .int .u16 (c.flags : Int), .int .u16 (c.this : Int), .int .u16 (c.super : Int), .slice pa c.pool.length pc, .slice ia c.ifaces.length ic, .slice fa c.fields.length fc, .slice ma L.length mc] 44 := by rw [hw3]; exact Bk.new w2 _ _
  have b3 : Below w2.heap.size w2 w3 := by rw [hw3]; exact (Below.refl _ _).alloc (Nat.le_refl _) _
  have Hq3 := hide (((unhide Hq1).below hb2).below b3)
  have hb2' := (unhide Hb1).trans (hb2.mono (unhide Hb1).size)
  have Hb3 := hide (hb2'.trans (b3.mono hb2'.size))
  have HC3 := hide (((unhide HC1).below hb2).below b3)
  have HC4 := hide (hC2.below b3)
  have hS := sameClass_eq c _ _ _ _ _ _ _ _ L _ w3 (unhide HC4) (unhide HC3) (by rw [unhide Hc]; exact (wok_of good0.q good0.p good0.w good0.n good0.f good0.t).2.2.2)
  unfold clvv at hS
  have HS := hide hS
  have Hd3 := hide d3
  have Hw3 := hide hw3
  clear hS d3 hw3 hb2 hb2' b3 hC2 Hq1 Hb1 HC1 HC2'
  go_upto_region 5 with fail
  rw [← unhide Hw3]
  clear Hw3
  have c0 := (unhide Hd3).cell 0
  have c1 := (unhide Hd3).cell 1
  have c2 := (unhide Hd3).cell 2
  have c3 := (unhide Hd3).cell 3
  have c4 := (unhide Hd3).cell 4
  have c5 := (unhide Hd3).cell 5
  have c6 := (unhide Hd3).cell 6
  have c7 := (unhide Hd3).cell 7
  have c8 := (unhide Hd3).cell 8
  simp at c0 c1 c2 c3 c4 c5 c6 c7 c8
  have d0 := (unhide Hq3).cell 0
  have d1 := (unhide Hq3).cell 1
  have d2 := (unhide Hq3).cell 2
  have d3 := (unhide Hq3).cell 3
  have d4 := (unhide Hq3).cell 4
  have d5 := (unhide Hq3).cell 5
  have d6 := (unhide Hq3).cell 6
  have d7 := (unhide Hq3).cell 7
  have d8 := (unhide Hq3).cell 8
  simp at d0 d1 d2 d3 d4 d5 d6 d7 d8
  go_wp2_with fail
  refine (unhide HS).mono ?_
  rintro e w4 ⟨rfl, hb4⟩
  clear HS c0 c1 c2 c3 c4 c5 c6 c7 c8 d0 d1 d2 d3 d4 d5 d6 d7 d8
  have hW := write_any good0 w4 (by have := (unhide HC4).below hb4; rw [unhide Hc] at this; exact this)
  rw [← unhide Ht, ← unhide Hc] at hW
  unfold clv at hW
  have HW := hide hW
  have Hd4 := hide ((unhide Hd3).below hb4)
  have Hb4 := hide ((unhide Hb3).trans (hb4.mono (unhide Hb3).size))
  clear hW hb4
  have c0 := (unhide Hd4).cell 0
  have c1 := (unhide Hd4).cell 1
  have c2 := (unhide Hd4).cell 2
  have c3 := (unhide Hd4).cell 3
  have c4 := (unhide Hd4).cell 4
  have c5 := (unhide Hd4).cell 5
  have c6 := (unhide Hd4).cell 6
  have c7 := (unhide Hd4).cell 7
  have c8 := (unhide Hd4).cell 8
  simp at c0 c1 c2 c3 c4 c5 c6 c7 c8
  go_wp2_with fail
  refine (unhide HW).mono ?_
  rintro e w5 ⟨rfl, hb5⟩
  have Hb5 := hide ((unhide Hb4).trans (hb5.mono (unhide Hb4).size))
  clear HW c0 c1 c2 c3 c4 c5 c6 c7 c8 hb5
  go_wp2
  go_ret
  exact ⟨rfl, unhide Hb5⟩
end Go.Proofs.Ytgihfcjddkpkaaa.Cl
namespace Go.Proofs.Ytgihfcjddkpkaaa.Cl
set_option linter.unusedVariables false
set_option linter.unusedSimpArgs false
open Go.RowKit Go.Maps
set_option maxRecDepth 1000000 in
set_option maxHeartbeats 8000000 in
theorem rounds_main (s : ByteArray) (w : World) (hs : s.size ≤ 32768) :
    Calls Try.prog 6 #[.string s] w fun x w' => x = .returned (.bool true) ∧ Below w.heap.size w w' := by
  have hsi : ¬ (32768 : Int) < (s.size : Int) := by omega
  have hR0 := read_bad w
  unfold zagg at hR0
  have HR0 := hide hR0
  clear hR0
  go_enter Try.func6, Try.ntmps6
  go_wp2_with fail
  refine (unhide HR0).mono ?_
  rintro e w1 ⟨rfl, hb1⟩
  clear HR0
  obtain ⟨w2, hw2⟩ : ∃ w2, w2 = w1.alloc (.cells #[.int .u16 0, .int .u16 0, .int .u16 0, .int .u16 0, .int .u16 0, .slice none 0 0, .slice none 0 0, .slice none 0 0, .slice none 0 0] 44) := ⟨_, rfl⟩
  have HK := hide (works_any w2)
  have Hb2 : Hid (Below w.heap.size w w2) := by unfold Hid; rw [hw2]; exact hb1.alloc hb1.size _
  have Hw2 := hide hw2
  clear hw2 hb1
  go_upto_region 4 with fail
  rw [← unhide Hw2]
  clear Hw2
  go_wp2_with fail
  refine (unhide HK).mono ?_
  rintro e w3 ⟨rfl, hb3⟩
  have Hb3 := hide ((unhide Hb2).trans (hb3.mono (unhide Hb2).size))
  clear HK hb3 Hb2
  have hR := read_any s w3 hs
  unfold zagg at hR
  have HR := hide hR
  clear hR
  go_wp2_with fail
  refine (unhide HR).mono ?_
  rintro x w4 ⟨hb4, hx⟩
  clear HR
  have Hb4 := hide ((unhide Hb3).trans (hb4.mono (unhide Hb3).size))
  clear hb4 Hb3
  rcases hx with ⟨e, p, he, rfl⟩ | ⟨c1, l, pb, vp, vi, vf, vm, L, rfl, hC, hG, hlen⟩
  · have n0 : ((e : Int) != 0) = true := by simp; omega
    have n1 : (e : Int) ≠ 0 := by omega
    go_wp2
    go_ret
    exact ⟨rfl, (unhide Hb4).alloc (unhide Hb4).size _⟩
  · obtain ⟨c, hc⟩ : ∃ c, c = csiOf c1 := ⟨_, rfl⟩
    obtain ⟨t, ht⟩ : ∃ t, t = bcls c1 pb := ⟨_, rfl⟩
    rw [← hc] at hC ⊢
    unfold clv
    have HC := hide hC
    obtain ⟨pa, pc, rfl, _⟩ := hC.p.ex
    obtain ⟨ia, ic, rfl, _⟩ := hC.i
    obtain ⟨fa, fc, rfl, _⟩ := hC.f
    obtain ⟨ma, mc, rfl, _⟩ := hC.m
    obtain ⟨w5, hw5⟩ : ∃ w5, w5 = w4.alloc (.cells #[.int .u16 (c.minor : Int), .int .u16 (c.major : Int), .int .u16 (c.flags : Int), .int .u16 (c.this : Int), .int .u16 (c.super : Int), .slice pa c.pool.length pc, .slice ia c.ifaces.length ic, .slice fa c.fields.length fc, .slice ma L.length mc] 44) := ⟨_, rfl⟩
    have d5 : Bk w5 w4.heap.size #[.int .u16 (c.minor : Int), .int .u16 (c.major : Int), .int .u16 (c.flags : Int), .int .u16 (c.this : Int), .int .u16 (c.super : Int), .slice pa c.pool.length pc, .slice ia c.ifaces.length ic, .slice fa c.fields.length fc, .slice ma L.length mc] 44 := by rw [hw5]; exact Bk.new w4 _ _
    have b5 : Below w4.heap.size w4 w5 := by rw [hw5]; exact (Below.refl _ _).alloc (Nat.le_refl _) _
    have HC5 := hide (hC.below b5)
    have Hb5 := hide ((unhide Hb4).trans (b5.mono (unhide Hb4).size))
    have hW := write_any hG w5 (by have := hC.below b5; rw [hc] at this; exact this)
    rw [← ht, ← hc] at hW
    unfold clv at hW
    have HW := hide hW
    have Hd5 := hide d5
    have Hw5 := hide hw5
    have Hc := hide hc
    have Ht := hide ht
    have hlt : t.length ≤ s.size := by rw [ht]; exact hlen
    have Hlt := hide hlt
    clear hW d5 hw5 b5 hC Hb4 hlen HC hc ht hlt
    go_upto_region 9 with fail
    rw [← unhide Hw5]
    clear Hw5
    have c0 := (unhide Hd5).cell 0
    have c1 := (unhide Hd5).cell 1
    have c2 := (unhide Hd5).cell 2
    have c3 := (unhide Hd5).cell 3
    have c4 := (unhide Hd5).cell 4
    have c5 := (unhide Hd5).cell 5
    have c6 := (unhide Hd5).cell 6
    have c7 := (unhide Hd5).cell 7
    have c8 := (unhide Hd5).cell 8
    simp at c0 c1 c2 c3 c4 c5 c6 c7 c8
    go_wp2_with fail
    refine (unhide HW).mono ?_
    rintro e w6 ⟨rfl, hb6⟩
    clear HW c0 c1 c2 c3 c4 c5 c6 c7 c8
    have hB := back_any hG w6
    rw [← unhide Ht, ← unhide Hc] at hB
    unfold clv at hB
    have HB := hide hB
    have Hd6 := hide ((unhide Hd5).below hb6)
    have Hb6 := hide ((unhide Hb5).trans (hb6.mono (unhide Hb5).size))
    have HC6 := hide ((unhide HC5).below hb6)
    clear hB hb6 Hd5 Hb5 HC5
    go_wp2_with fail
    refine (unhide HB).mono ?_
    rintro e w7 ⟨hb7, vp2, vi2, vf2, vm2, L2, rfl, hC2⟩
    clear HB
    obtain ⟨pa2, pc2, rfl, _⟩ := hC2.p.ex
    obtain ⟨ia2, ic2, rfl, _⟩ := hC2.i
    obtain ⟨fa2, fc2, rfl, _⟩ := hC2.f
    obtain ⟨ma2, mc2, rfl, _⟩ := hC2.m
    obtain ⟨w8, hw8⟩ : ∃ w8, w8 = w7.alloc (.cells #[.int .u16 (c.minor : Int), .int .u16 (c.major : Int), .int .u16 (c.flags : Int), .int .u16 (c.this : Int), .int .u16 (c.super : Int), .slice pa2 c.pool.length pc2, .slice ia2 c.ifaces.length ic2, .slice fa2 c.fields.length fc2, .slice ma2 L2.length mc2] 44) := ⟨_, rfl⟩
    have d8 : Bk w8 w7.heap.size #[.int .u16 (c.minor : Int), .int .u16 (c.major : Int), .int .u16 (c.flags : Int), .int .u16 (c.this : Int), .int .u16 (c.super : Int), .slice pa2 c.pool.length pc2, .slice ia2 c.ifaces.length ic2, .slice fa2 c.fields.length fc2, .slice ma2 L2.length mc2] 44 := by rw [hw8]; exact Bk.new w7 _ _
    have b8 : Below w7.heap.size w7 w8 := by rw [hw8]; exact (Below.refl _ _).alloc (Nat.le_refl _) _
    have hb7' := (unhide Hb6).trans (hb7.mono (unhide Hb6).size)
    have Hb8 := hide (hb7'.trans (b8.mono hb7'.size))
    have Hd8 := hide d8
    have He8 := hide (((unhide Hd6).below hb7).below b8)
    have hS := sameClass_eq c _ _ _ _ _ _ _ _ L L2 w8 (((unhide HC6).below hb7).below b8) (hC2.below b8) (by rw [unhide Hc]; exact (wok_of hG.q hG.p hG.w hG.n hG.f hG.t).2.2.2)
    unfold clvv at hS
    have HS := hide hS
    have Hw8 := hide hw8
    clear hS d8 hw8 b8 hb7 hb7' hC2 Hb6 Hd6 HC6
    go_upto_region 13 with fail
    rw [← unhide Hw8]
    clear Hw8
    have c0 := (unhide He8).cell 0
    have c1 := (unhide He8).cell 1
    have c2 := (unhide He8).cell 2
    have c3 := (unhide He8).cell 3
    have c4 := (unhide He8).cell 4
    have c5 := (unhide He8).cell 5
    have c6 := (unhide He8).cell 6
    have c7 := (unhide He8).cell 7
    have c8 := (unhide He8).cell 8
    simp at c0 c1 c2 c3 c4 c5 c6 c7 c8
    have d0 := (unhide Hd8).cell 0
    have d1 := (unhide Hd8).cell 1
    have d2 := (unhide Hd8).cell 2
    have d3 := (unhide Hd8).cell 3
    have d4 := (unhide Hd8).cell 4
    have d5 := (unhide Hd8).cell 5
    have d6 := (unhide Hd8).cell 6
    have d7 := (unhide Hd8).cell 7
    have d8 := (unhide Hd8).cell 8
    simp at d0 d1 d2 d3 d4 d5 d6 d7 d8
    have hlt := unhide Hlt
    have hlt2 : decide (t.length ≤ s.size) = true := decide_eq_true hlt
    go_wp2_with fail
    refine (unhide HS).mono ?_
    rintro e w9 ⟨rfl, hb9⟩
    clear HS c0 c1 c2 c3 c4 c5 c6 c7 c8 d0 d1 d2 d3 d4 d5 d6 d7 d8
    have Hb9 := hide ((unhide Hb8).trans (hb9.mono (unhide Hb8).size))
    clear hb9
    go_wp2
    go_ret
    exact ⟨rfl, unhide Hb9⟩
theorem rounds_big (s : ByteArray) (w : World) (hm : s.size ≤ maxLen) (hs : 32768 < s.size) :
    Calls Try.prog 6 #[.string s] w fun e w' => e = .returned (.bool true) ∧ Below w.heap.size w w' := by
  unfold maxLen at hm
  have hsi : (32768 : Int) < (s.size : Int) := by omega
  go_enter Try.func6, Try.ntmps6
  go_wp2
  go_ret
  exact ⟨rfl, Below.refl _ _⟩
end Go.Proofs.Ytgihfcjddkpkaaa.Cl
namespace Go.Proofs.Ytgihfcjddkpkaaa.classRounds
open Go.ChangeShapes Go.WideShapes Go.ChangeAt Go.RowKit
open Go.ChangeMaps (open_string shut_string)
set_option linter.unusedVariables false      -- a walk need not use every 'w<i>' (that an integer argument fits its kind)

theorem own : ownKnob Try.prog.godebug = none := by kernel_rfl

theorem walk (a0 : ByteArray) (w0 : a0.size ≤ maxLen) (w : World) :
    Calls Try.prog 6 #[.string a0] w fun e w' => e = .returned (.bool true) ∧ Below w.heap.size w w' := by
  by_cases hs : a0.size ≤ 32768
  · exact Cl.rounds_main a0 w hs
  · exact Cl.rounds_big a0 w w0 (by omega)

/-! ### THE ROW's STEP: WRITTEN OUT: LEAVE IT -/
set_option maxRecDepth 100000 in
theorem lifted (os : Os) (started : os.Started) (H : Type) (enc : TypeId × Value → H) :
    ReturnsInHanded {} Try.checked os 6 .any (Rows.classRoundsSpec.pre6 enc Try.prog Try.f6 Rows.classRoundsRow.domain false) (Rows.classRoundsSpec.post enc Try.prog Try.f6 false true false false) := by
  refine returnsInHanded_of_change (C := Try.checked) own started (by kernel_rfl) Try.func6
    (ChangeSpec.witness6 (enc := enc) (C := Try.checked) false ⟨#[], #[.string ByteArray.empty], []⟩ 8 (by kernel_rfl) (by kernel_rfl) (by kernel_rfl) (by kernel_rfl)) ?_
  intro W base args ds gs before hval0 hW hcnd _
  have hval : ∀ (j : Nat) t v, Try.f6.params[j]? = some t → args[j]? = some v → Value.okWide Try.prog W .any base t v := hval0
  have hW' := hW
  obtain ⟨p, q, hA0, hV, rfl, hfz, hnd⟩ := hW
  have hA : DataW.TrodAll enc Try.prog W 0 (fun _ => true) true Try.f6.params.toList args.toList ds p := hA0
  rw [Try.params6] at hA hval
  obtain ⟨v0, vs0, d0, ds0, p0, q0, hargs, rfl, rfl, h0, r0⟩ := trodAll_cons hA
  obtain ⟨rfl, rfl, rfl⟩ := trodAll_nil r0
  obtain rfl : args = #[v0] := by cases args; simp_all
  obtain ⟨rfl, rfl⟩ := trodVars_none hV
  obtain ⟨a0, rfl, rfl, rfl, w0⟩ := open_string Try.underlying9 (hval 0 9 v0 rfl rfl) h0
  clear hA0 hval0
  simp only [List.append_nil] at hW'
  refine (walk a0 w0 W).mono fun e W' ⟨he, bel⟩ => ?_
  subst he
  exact ⟨_, rfl, _, _, _, [], [], [], hW', trodAll_mk1 (shut_bool Try.underlying4 _), (trodAll_cons_mk (shut_string Try.underlying9 w0) trodAll_mk0), rfl, bel.frame _, fun h => by cases h⟩

theorem over : Rows.classRoundsRow.holds Try.pinned (OpenSpec.ofChange Rows.classRoundsSpec) :=
  OpenClaim.holds_of_wide 6 Try.f6 rfl rfl rfl rfl rfl rfl rfl ⟨rfl, rfl, rfl, rfl, rfl⟩ rfl rfl rfl rfl rfl (by kernel_rfl) Try.func6 (by kernel_rfl)
    (of_decide_eq_true (by kernel_rfl)) (by unfold Func.isWrapper; first | (rw [if_pos (by decide +kernel)]; kernel_rfl) | (rw [if_neg (by decide +kernel)]; exact ⟨rfl, rfl⟩))
    (fun os started H enc _ => lifted os started H enc)

/-- THE STATEMENT. -/
theorem proved : Rows.ClassRoundsSaid := over
end Go.Proofs.Ytgihfcjddkpkaaa.classRounds
