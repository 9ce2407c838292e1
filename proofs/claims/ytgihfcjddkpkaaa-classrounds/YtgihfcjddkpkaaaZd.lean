/-
  The reference: WriteClass: what is at hand, and its end.
-/
import Derived.Test.YtgihfcjddkpkaaaZc
namespace Go.Proofs.Ytgihfcjddkpkaaa.Cl
set_option linter.unusedVariables false
set_option linter.unusedSimpArgs false
open Go.RowKit Go.Maps
/-- What is left of a sequence behind some statements. -/
def tlOf : Nat → Code → Code
  | 0, c => c
  | n + 1, .seq _ y => tlOf n y
  | _ + 1, c => c
theorem Ot_slice {w : World} {B : Nat} {v : Value} {l : List UInt8} (h : Ot w B v l) : ∃ a cp, v = .slice (some a) l.length cp := by
  obtain ⟨g, cap, cur, fz, h1, h2, h3⟩ := h
  exact ⟨_, _, h1⟩
theorem Ot_blk {w : World} {B : Nat} {v : Value} {l : List UInt8} (h : Ot w B v l) : ∀ b, v.ownBlock = some b → B ≤ b ∧ b < w.heap.size := by
  obtain ⟨g, cap, cur, fz, rfl, h2, h3, _⟩ := h
  intro b e
  cases e
  exact ⟨h2, (Array.getElem?_eq_some_iff.1 h3).1⟩
theorem Ot_not {w : World} {B X : Nat} {v : Value} {l : List UInt8} {cs : Array Value} {t : TypeId} (h : Ot w B v l) (hX : Bk w X cs t) (ht : t ≠ 5) : some X ≠ v.ownBlock := by
  obtain ⟨g, cap, cur, fz, rfl, h2, h3, _⟩ := h
  intro e
  simp [Value.ownBlock] at e
  subst e
  unfold Bk at hX
  rw [h3] at hX
  simp at hX
  exact ht hX.2.1.symm
theorem Ot_grown {w w' : World} {B R : Nat} {v : Value} {l : List UInt8} (h : Ot w B v l) (hg : w.grownBy w' (some R)) (hR : some R ≠ v.ownBlock) : Ot w' B v l := by
  obtain ⟨g, cap, cur, fz, rfl, h2, h3, h4⟩ := h
  refine ⟨g, cap, cur, fz, rfl, h2, ?_, h4⟩
  rw [hg.block g (Array.getElem?_eq_some_iff.1 h3).1 (by intro e; exact hR (by rw [← e]; simp [Value.ownBlock]))]
  exact h3
theorem Ot_nil {w : World} {B : Nat} {v : Value} {l : List UInt8} (h : Ot w B v l) (o : Obj) : Ot (w.alloc o) B v l := h.kept ((Below.refl _ _).alloc (Nat.le_refl _) _)
/-- The reference's state in WriteClass. -/
structure Ws (w0 w : World) (R n : Nat) (c : Csi) (vp vi vf vm : Value) (e : Nat) (ov : Value) (l : List UInt8) : Prop where
  r : Rb w R c vp vi vf vm e
  b : Bk w n #[.int .u16 (c.minor : Int), .int .u16 (c.major : Int), .int .u16 (c.flags : Int), .int .u16 (c.this : Int), .int .u16 (c.super : Int), vp, vi, vf, vm] 44
  o : Ot w w0.heap.size ov l
  u : Below w0.heap.size w0 w
  hR : w0.heap.size ≤ R
  hn : w0.heap.size ≤ n
  ne : n ≠ R
section
variable {w0 w w' : World} {R n : Nat} {c : Csi} {vp vi vf vm ov ov' : Value} {e e' : Nat} {l l' : List UInt8}
theorem Ws.num (h : Ws w0 w R n c vp vi vf vm e ov l) (hr : Rb w' R c vp vi vf vm e') (hg : w.grownBy w' (some R)) : Ws w0 w' R n c vp vi vf vm e' ov l :=
  ⟨hr, Bk.kept h.b hg (by simp; exact h.ne), Ot_grown h.o hg (Ot_not h.o h.r (by decide)), grown_below h.u hg h.hR, h.hR, h.hn, h.ne⟩
theorem Ws.app (h : Ws w0 w R n c vp vi vf vm e ov l) (ho : Ot w' w0.heap.size ov' l') (hg : w.grownBy w' ov.ownBlock) : Ws w0 w' R n c vp vi vf vm e ov' l' :=
  ⟨Bk.kept h.r hg (Ot_not h.o h.r (by decide)), Bk.kept h.b hg (Ot_not h.o h.b (by decide)), ho,
    ⟨hg.os.trans h.u.os, hg.tape.trans h.u.tape, hg.output.trans h.u.output, Nat.le_trans h.u.size hg.size, fun k hk => (hg.block k (Nat.lt_of_lt_of_le hk h.u.size) (by intro e; have := (Ot_blk h.o k e.symm).1; omega)).trans (h.u.block k hk)⟩, h.hR, h.hn, h.ne⟩
theorem Ws.alloc (h : Ws w0 w R n c vp vi vf vm e ov l) (o : Obj) : Ws w0 (w.alloc o) R n c vp vi vf vm e ov l :=
  ⟨h.r.alloc o, h.b.alloc o, Ot_nil h.o o, h.u.alloc h.u.size o, h.hR, h.hn, h.ne⟩
theorem Ws.drew (h : Ws w0 w R n c vp vi vf vm e ov l) : Ws w0 w.drew R n c vp vi vf vm e ov l :=
  ⟨h.r, h.b, h.o, h.u.drew, h.hR, h.hn, h.ne⟩
end
theorem infoB : (Try.prog.info? 5).map (fun i => (i.zero, i.size, i.bytes)) = some (some (.int .u8 0), 1, 1) := by kernel_rfl
/-- What is answered. -/
def rans (l : List UInt8) (r : Nat × List UInt8) : Ending := .returned (.tuple #[.string ⟨(if r.1 = 0 then l ++ r.2 else []).toArray⟩, .int .i64 (r.1 : Int)])
set_option maxRecDepth 1000000 in
set_option maxHeartbeats 4000000 in
theorem wc_end {post : Ending → World → Prop} {c0 c2 c3 c5 c6 c7 c8 c10 c11 c12 c13 c14 c15 c16 c17 c18 c19 c20 c21 c22 c23 c24 c25 c26 c27 c28 c29 c30 c31 c32 c33 c34 c35 c36 c37 c38 c39 c40 c41 c42 c43 c44 c45 c46 c47 c48 c49 c50 c51 c52 c53 c54 c55 c56 c57 c58 c59 c60 c61 c62 c63 c64 c65 c66 c67 c68 c69 c70 c71 c72 c73 c74 c75 c76 c77 c78 c79 c80 c81 c82 c83 c84 c85 c86 c87 c88 c89 c90 c91 c92 c93 c94 c95 c96 c97 c98 c99 c100 c101 c102 c103 c104 c105 c106 c107 c108 c109 c110 c111 c112 c113 c114 c115 c116 c117 c118 c119 c120 c121 c122 c123 c124 c125 c126 c127 c128 c129 c130 c131 c132 c133 c134 c135 c136 c137 c138 c139 c140 c141 c142 c143 c144 c145 c146 c147 c148 c149 c150 c151 c152 c153 c154 c155 c156 c157 c158 c159 c160 c161 c162 c163 c164 c165 c166 c167 c168 c169 c170 c171 c172 c173 c174 c175 c176 c177 c178 c179 c180 c181 c182 c183 c184 c185 c186 c187 c188 c189 c190 c191 c192 c193 c194 c195 c196 c197 c198 c199 c200 c201 c202 c203 c204 c205 c206 c207 c208 : Value} {w0 w1 : World} {R n : Nat} {c : Csi} {vp vi vf vm : Value} {e : Nat} {oa : Addr} {oc : Nat} {l : List UInt8} (H : Hid (Ws w0 w1 R n c vp vi vf vm e (.slice (some oa) l.length oc) l)) (hl : l.length ≤ 2000000)
    (HP : Hid (∀ w', Below w0.heap.size w0 w' → post (rans l (M.rtext [0, 0] e)) w')) :
    Code.wp Try.prog ((Try.f23.body.map (tlOf 13)).getD .skip) (bodyPost Try.prog Try.f23 post) ⟨#[c0, .pointer (some ⟨n, 0, none⟩), c2, c3, .pointer (some ⟨R, 0, none⟩), c5, c6, c7, c8, .slice (some oa) l.length oc, c10, c11, c12, c13, c14, c15, c16, c17, c18, c19, c20, c21, c22, c23, c24, c25, c26, c27, c28, c29, c30, c31, c32, c33, c34, c35, c36, c37, c38, c39, c40, c41, c42, c43, c44, c45, c46, c47, c48, c49, c50, c51, c52, c53, c54, c55, c56, c57, c58, c59, c60, c61, c62, c63, c64, c65, c66, c67, c68, c69, c70, c71, c72, c73, c74, c75, c76, c77, c78, c79, c80, c81, c82, c83, c84, c85, c86, c87, c88, c89, c90, c91, c92, c93, c94, c95, c96, c97, c98, c99, c100, c101, c102, c103, c104, c105, c106, c107, c108, c109, c110, c111, c112, c113, c114, c115, c116, c117, c118, c119, c120, c121, c122, c123, c124, c125, c126, c127, c128, c129, c130, c131, c132, c133, c134, c135, c136, c137, c138, c139, c140, c141, c142, c143, c144, c145, c146, c147, c148, c149, c150, c151, c152, c153, c154, c155, c156, c157, c158, c159, c160, c161, c162, c163, c164, c165, c166, c167, c168, c169, c170, c171, c172, c173, c174, c175, c176, c177, c178, c179, c180, c181, c182, c183, c184, c185, c186, c187, c188, c189, c190, c191, c192, c193, c194, c195, c196, c197, c198, c199, c200, c201, c202, c203, c204, c205, c206, c207, c208], []⟩ w1 := by
  obtain ⟨i0, hi, hz0, hz1, hz2⟩ := info_parts infoB
  conv => arg 2; whnf
  have hB : w0.heap.size ≤ w1.heap.size := (unhide H).u.size
  have hOt := (unhide H).o
  obtain ⟨l2, hl2⟩ : ∃ l2, l2 = l ++ [0, 0] := ⟨_, rfl⟩
  have Hl2 := hide hl2
  by_cases he : e = 0
  · have hq : rans l (M.rtext [0, 0] e) = .returned (.tuple #[.string ⟨l2.toArray⟩, .int .i64 0]) := by subst he; rw [hl2]; rfl
    rw [hq] at HP
    have n0 : (((e : Nat) : Int) != 0) = false := by rw [he]; rfl
    clear he hq hl2
    go_wp2_with (at_builtin; refine wpList_append_free _ rfl _ _ 67 9 rfl i0 Try.underlying67 Try.underlying9 hi hz0 hz1 hz2 w0.heap.size _ l [0, 0] rfl rfl hOt (by simp; omega) hB ?_; intro v2 w2 hO2 hg2; rw [← unhide Hl2] at hO2; have H2 := hide ((unhide H).app hO2 hg2); have k9 := Bk.cell (unhide H2).r 9; simp at k9; obtain ⟨a2, p2, e2⟩ := Ot_slice hO2; subst e2; have hcv := hO2.string; clear hO2 hg2)

    exact unhide HP _ (unhide H2).u
  · have hq : rans l (M.rtext [0, 0] e) = .returned (.tuple #[.string ⟨#[]⟩, .int .i64 (e : Int)]) := by unfold rans; rw [M.rtext_fst, if_neg he]
    rw [hq] at HP
    have n0 : (((e : Nat) : Int) != 0) = true := by rw [bne_iff_ne]; omega
    clear he hq hl2
    go_wp2_with (at_builtin; refine wpList_append_free _ rfl _ _ 67 9 rfl i0 Try.underlying67 Try.underlying9 hi hz0 hz1 hz2 w0.heap.size _ l [0, 0] rfl rfl hOt (by simp; omega) hB ?_; intro v2 w2 hO2 hg2; rw [← unhide Hl2] at hO2; have H2 := hide ((unhide H).app hO2 hg2); have k9 := Bk.cell (unhide H2).r 9; simp at k9; obtain ⟨a2, p2, e2⟩ := Ot_slice hO2; subst e2; have hcv := hO2.string; clear hO2 hg2)
    go_quiet (fail)
    go_wp2

    exact unhide HP _ ⟨(unhide H2).u.os, (unhide H2).u.tape, (unhide H2).u.output, (unhide H2).u.size, (unhide H2).u.block⟩
end Go.Proofs.Ytgihfcjddkpkaaa.Cl
