/-
  The reference: ReadClass: what a class is in the making.
-/
import Derived.Test.YtbgpkkbejbidlacCd
import Derived.Test.YtbgpkkbejbidlacCb
import Derived.Deep.RegionLaw
namespace Go.Proofs.Ytbgpkkbejbidlac
set_option linter.unusedVariables false
open Go.RowKit
open Cl (HC FC UC MC LM Mj Own kOf)
/-- A block of the code of ReadClass, by its number. -/
def blkOf (n : Nat) : Code → Option Code
  | .block m c => if m = n then some (.block m c) else blkOf n c
  | .seq x y => match blkOf n x with
    | some c => some c
    | none => blkOf n y
  | .loop c => blkOf n c
  | .scope c => blkOf n c
  | .cond _ x y => match blkOf n x with
    | some c => some c
    | none => blkOf n y
  | _ => none
theorem own_own {w : World} {B B' e e' k k' n n' g : Nat} {v v' : Value} {xs xs' : List Value} (h : w.ownsRow B e k v n xs) (h' : w.ownsRow B' e' k' v' n' xs') (he : e ≠ e') (hv : v.ownBlock = some g) (hv' : v'.ownBlock = some g) : False := by
  rcases h.2 with ⟨rfl, _⟩ | ⟨g1, c1, cur1, rfl, _, k1, _⟩
  · cases hv
  · rcases h'.2 with ⟨rfl, _⟩ | ⟨g2, c2, cur2, rfl, _, k2, _⟩
    · cases hv'
    · have a1 : g1 = g := by simpa [Value.ownBlock] using hv
      have a2 : g2 = g := by simpa [Value.ownBlock] using hv'
      subst a1 a2
      rw [k1] at k2
      simp at k2
      exact he k2.2
/-- A class in the making. -/
structure RW (w0 wB w : World) (Q C bc : Nat) (pv : Value) (s : ByteArray) (st : St) (cs : Array Value) (vi vf vm : Value) (l : List Po.K) (is : List Nat) (fs : List Fd) (L : List Mj) : Prop where
  rg : Rg w Q C pv s st
  c : Bk w bc cs 44
  q : Bk w w0.heap.size #[.int .u16 0, .int .u16 0, .int .u16 0, .int .u16 0, .int .u16 0, .slice none 0 0, .slice none 0 0, .slice none 0 0, .slice none 0 0] 44
  be : Below w0.heap.size w0 w
  o : Own wB w pv vi vf vm l is fs L
  o1 : w0.heap.size < C
  o2 : C < Q
  o3 : Q < bc
  o4 : bc < wB.heap.size
  hz : wB.heap.size ≤ w.heap.size
  fit : ∀ c ∈ l, Po.Fit c
  len : l.length ≤ 65536
section
variable {w0 wB w w' : World} {Q C bc : Nat} {pv : Value} {s : ByteArray} {st st' : St} {cs : Array Value} {vi vf vm : Value} {l : List Po.K} {is : List Nat} {fs : List Fd} {L : List Mj}
theorem RW.kin (h : RW w0 wB w Q C bc pv s st cs vi vf vm l is fs L) : KIn w pv (l.map kOf) := Cl.KIn.of_out h.o.p h.fit
theorem RW.off (h : RW w0 wB w Q C bc pv s st cs vi vf vm l is fs L) : Cl.Off w C pv (l.map kOf) := Cl.Out.off h.o.p (by have := h.o2; have := h.o3; have := h.o4; omega)
theorem RW.plen (h : RW w0 wB w Q C bc pv s st cs vi vf vm l is fs L) : (l.map kOf).length ≤ 1048576 := by rw [List.length_map]; have := h.len; omega
theorem RW.step (h : RW w0 wB w Q C bc pv s st cs vi vf vm l is fs L) (hr : Rg w' Q C pv s st') (hg : w.grownBy w' (some C)) : RW w0 wB w' Q C bc pv s st' cs vi vf vm l is fs L := by
  have h1 := h.o1
  have h2 := h.o2
  have h3 := h.o3
  have h4 := h.o4
  exact ⟨hr, h.c.kept hg (fun e => by cases e; omega), h.q.kept hg (fun e => by cases e; omega), h.be.grown hg h.be.size (fun k e => by cases e; omega), h.o.kept hg (fun b e => by cases e; omega), h.o1, h.o2, h.o3, h.o4, Nat.le_trans h.hz hg.size, h.fit, h.len⟩
theorem RW.cut (h : RW w0 wB w Q C bc pv s st cs vi vf vm l is fs L) (hc : Cut w' C s st') (hg : w.grownBy w' (some C)) (hp : st'.pos ≤ s.data.toList.length) : RW w0 wB w' Q C bc pv s st' cs vi vf vm l is fs L := h.step (h.rg.step hg hc hp) hg
theorem RW.set (h : RW w0 wB w Q C bc pv s st cs vi vf vm l is fs L) (i : Nat) (v : Value) : RW w0 wB (w.setCell ⟨bc, i, none⟩ v) Q C bc pv s st (cs.setIfInBounds i v) vi vf vm l is fs L := by
  have h1 := h.o1
  have h2 := h.o2
  have h3 := h.o3
  have h4 := h.o4
  have hg := grown_set w bc i v
  refine ⟨⟨h.rg.q.other i v (by omega), ?_, h.rg.pos⟩, h.c.set i v, h.q.other i v (by omega), h.be.grown hg h.be.size (fun k e => by cases e; omega), h.o.set h.c i v, h.o1, h.o2, h.o3, h.o4, by have := h.hz; simpa using this, h.fit, h.len⟩
  exact h.rg.c.kept hg (by simp only [ne_eq, Option.some.injEq]; omega)
/-- A list has grown. -/
theorem RW.grow {row : Option Nat} {vi' vf' vm' : Value} {is' : List Nat} {fs' : List Fd} {L' : List Mj} (h : RW w0 wB w Q C bc pv s st cs vi vf vm l is fs L) (hg : w.grownBy w' row) (hr : ∀ b, row = some b → wB.heap.size ≤ b) (ho : Own wB w' pv vi' vf' vm' l is' fs' L') : RW w0 wB w' Q C bc pv s st cs vi' vf' vm' l is' fs' L' := by
  have h1 := h.o1
  have h2 := h.o2
  have h3 := h.o3
  have h4 := h.o4
  have ne : ∀ g, g < wB.heap.size → some g ≠ row := fun g hlt e => by have := hr g e.symm; omega
  exact ⟨⟨h.rg.q.kept hg (ne _ (by omega)), h.rg.c.kept hg (ne _ (by omega)), h.rg.pos⟩, h.c.kept hg (ne _ (by omega)), h.q.kept hg (ne _ (by omega)), h.be.grown hg h.be.size (fun k e => by have := hr k e; omega), ho, h.o1, h.o2, h.o3, h.o4, Nat.le_trans h.hz hg.size, h.fit, h.len⟩
theorem RW.alloc (h : RW w0 wB w Q C bc pv s st cs vi vf vm l is fs L) (o : Obj) : RW w0 wB (w.alloc o) Q C bc pv s st cs vi vf vm l is fs L := h.grow (World.grownBy_alloc w o none) (fun b e => by cases e) (h.o.kept (World.grownBy_alloc w o none) (fun b e => by cases e))
theorem RW.drew (h : RW w0 wB w Q C bc pv s st cs vi vf vm l is fs L) : RW w0 wB w.drew Q C bc pv s st cs vi vf vm l is fs L := h.grow (row := none) ⟨rfl, rfl, rfl, Nat.le_refl _, fun _ _ _ => rfl⟩ (fun b e => by cases e) (h.o.kept (row := none) ⟨rfl, rfl, rfl, Nat.le_refl _, fun _ _ _ => rfl⟩ (fun b e => by cases e))
theorem RW.growI (h : RW w0 wB w Q C bc pv s st cs vi vf vm l is fs L) {v' : Value} {is' : List Nat} (hn : w'.ownsRow wB.heap.size 39 1 v' is'.length (UC is')) (hg : w.grownBy w' vi.ownBlock) : RW w0 wB w' Q C bc pv s st cs v' vf vm l is' fs L := by
  refine h.grow hg (fun b e => (ins_in h.o.i e).1) ⟨?_, hn, ins_kept h.o.f hg (fun b e1 e2 => own_own h.o.i h.o.f (by decide) e1 e2), ?_⟩
  · rcases h.o.p with hp | ⟨B, hB, ho⟩
    · exact .inl hp
    · exact .inr ⟨B, hB, ins_kept ho hg fun b e1 e2 => own_own h.o.i ho (by decide) e1 e2⟩
  · exact ⟨ins_kept h.o.m.row hg fun b e1 e2 => own_own h.o.i h.o.m.row (by decide) e1 e2, fun j hj => ins_kept (h.o.m.own j hj) hg fun b e1 e2 => own_own h.o.i (h.o.m.own j hj) (by decide) e1 e2⟩
theorem RW.growF (h : RW w0 wB w Q C bc pv s st cs vi vf vm l is fs L) {v' : Value} {fs' : List Fd} (hn : w'.ownsRow wB.heap.size 95 4 v' fs'.length (FC fs')) (hg : w.grownBy w' vf.ownBlock) : RW w0 wB w' Q C bc pv s st cs vi v' vm l is fs' L := by
  refine h.grow hg (fun b e => (ins_in h.o.f e).1) ⟨?_, ins_kept h.o.i hg (fun b e1 e2 => own_own h.o.f h.o.i (by decide) e1 e2), hn, ?_⟩
  · rcases h.o.p with hp | ⟨B, hB, ho⟩
    · exact .inl hp
    · exact .inr ⟨B, hB, ins_kept ho hg fun b e1 e2 => own_own h.o.f ho (by decide) e1 e2⟩
  · exact ⟨ins_kept h.o.m.row hg fun b e1 e2 => own_own h.o.f h.o.m.row (by decide) e1 e2, fun j hj => ins_kept (h.o.m.own j hj) hg fun b e1 e2 => own_own h.o.f (h.o.m.own j hj) (by decide) e1 e2⟩
theorem RW.growM (h : RW w0 wB w Q C bc pv s st cs vi vf vm l is fs L) {v' : Value} {j : Mj} (hj : w.ownsRow wB.heap.size 152 4 j.hv j.m.code.handlers.length (HC j.m.code.handlers)) (hn : w'.ownsRow wB.heap.size 101 9 v' (L ++ [j]).length (MC (L ++ [j]))) (hg : w.grownBy w' vm.ownBlock) : RW w0 wB w' Q C bc pv s st cs vi vf v' l is fs (L ++ [j]) := by
  refine h.grow hg (fun b e => (ins_in h.o.m.row e).1) ⟨?_, ins_kept h.o.i hg (fun b e1 e2 => own_own h.o.m.row h.o.i (by decide) e1 e2), ins_kept h.o.f hg (fun b e1 e2 => own_own h.o.m.row h.o.f (by decide) e1 e2), h.o.m.push hj hg hn⟩
  rcases h.o.p with hp | ⟨B, hB, ho⟩
  · exact .inl hp
  · exact .inr ⟨B, hB, ins_kept ho hg fun b e1 e2 => own_own h.o.m.row ho (by decide) e1 e2⟩
end
/-- A piece of code that ends, and goes on behind itself. -/
def OnlyN (K : Act → World → Prop) : Exit → Act → World → Prop
  | .normal, a, w => K a w
  | _, _, _ => False
theorem OnlyN.imp {Qp : Exit → Act → World → Prop} : ∀ (e : Exit) (a : Act) (w : World), OnlyN (Qp .normal) e a w → Qp e a w := fun e a w h => by
  cases e <;> first | exact h | exact (h : False).elim
theorem M.u16_u16 (s : List UInt8) (st : St) : M.u16 s st = M.rd s 2 st := rfl
set_option maxRecDepth 1000000 in
set_option maxHeartbeats 4000000 in
theorem ifaces_loop {Kp : Act → World → Prop} {c0 c1 c2 c3 c4 c7 c8 c9 c10 c12 c13 c14 c15 c16 c17 c18 c19 c20 c21 c22 c23 c24 c25 c26 c27 c28 c29 c30 c31 c32 c33 c34 c35 c36 c37 c38 c39 c40 c41 c42 c43 c44 c45 c46 c47 c48 c49 c50 c51 c52 c53 c54 c55 c56 c57 c58 c59 c60 c61 c62 c63 c64 c65 c66 c67 c68 c69 c70 c71 c72 c73 c74 c75 c76 c77 c78 c79 c80 c81 c82 c83 c84 c85 c86 c87 c88 c89 c90 c91 c92 c93 c94 c95 c96 c97 c98 c99 c100 c101 c102 c103 c104 c105 c106 c107 c108 c109 c110 c111 c112 c113 c114 c115 c116 c117 c118 c119 c120 c121 c122 c123 c124 c125 c126 c127 c128 c129 c130 c131 c132 c133 c134 c135 c136 c137 c138 c139 c140 c141 c142 c143 c144 c145 c146 c147 c148 c149 c150 c151 c152 c153 c154 c155 c156 c157 c158 c159 c160 c161 c162 c163 c164 c165 c166 c167 c168 c169 c170 c171 c172 c173 c174 c175 c176 c177 c178 c179 c180 c181 c182 c183 c184 c185 c186 c187 c188 c189 c190 c191 c192 c193 c194 c195 c196 c197 c198 c199 c200 c201 c202 c203 c204 c205 c206 c207 c208 c209 c210 c211 c212 c213 c214 c215 c216 c217 c218 c219 c220 c221 c222 c223 c224 c225 c226 c227 c228 c229 c230 c231 c232 c233 c234 c235 c236 c237 c238 c239 c240 c241 c242 c243 c244 c245 c246 c247 c248 c249 c250 c251 c252 c253 c254 c255 c256 c257 c258 c259 c260 c261 c262 c263 c264 c265 c266 c267 c268 c269 c270 c271 c272 c273 c274 c275 c276 c277 : Value} {w0 wB w1 : World} {Q C bc : Nat} {va : Option Addr} {vn vc : Nat} {s : ByteArray} {st : St} {x0 x1 x2 x3 x4 : Value} {l : List Po.K} {n : Nat} (hs : s.size ≤ 131072) (hn : n < 65536) (H : Hid (RW w0 wB w1 Q C bc (.slice va vn vc) s st #[x0, x1, x2, x3, x4, .slice va vn vc, .slice none 0 0, .slice none 0 0, .slice none 0 0] (.slice none 0 0) (.slice none 0 0) (.slice none 0 0) l [] [] []))
    (HK : Hid (∀ (ia : Option Addr) (ic : Nat) (u11 u130 u131 u132 u133 u134 u135 u136 u137 u138 u139 u140 u141 u142 u143 u144 u145 u146 u147 u148 u149 u150 : Value) (w' : World), RW w0 wB w' Q C bc (.slice va vn vc) s (M.reps (M.u16 s.data.toList) n st).2 #[x0, x1, x2, x3, x4, .slice va vn vc, .slice ia (M.reps (M.u16 s.data.toList) n st).1.length ic, .slice none 0 0, .slice none 0 0] (.slice ia (M.reps (M.u16 s.data.toList) n st).1.length ic) (.slice none 0 0) (.slice none 0 0) l (M.reps (M.u16 s.data.toList) n st).1 [] [] → Kp ⟨#[c0, c1, c2, c3, c4, .pointer (some ⟨Q, 0, none⟩), .pointer (some ⟨bc, 0, none⟩), c7, c8, c9, c10, u11, c12, c13, c14, c15, c16, c17, c18, c19, c20, c21, c22, c23, c24, c25, c26, c27, c28, c29, c30, c31, c32, c33, c34, c35, c36, c37, c38, c39, c40, c41, c42, c43, c44, c45, c46, c47, c48, c49, c50, c51, c52, c53, c54, c55, c56, c57, c58, c59, c60, c61, c62, c63, c64, c65, c66, c67, c68, c69, c70, c71, c72, c73, c74, c75, c76, c77, c78, c79, c80, c81, c82, c83, c84, c85, c86, c87, c88, c89, c90, c91, c92, c93, c94, c95, c96, c97, c98, c99, c100, c101, c102, c103, c104, c105, c106, c107, c108, c109, c110, c111, c112, c113, c114, c115, c116, c117, c118, c119, c120, c121, c122, c123, c124, c125, c126, c127, c128, c129, u130, u131, u132, u133, u134, u135, u136, u137, u138, u139, u140, u141, u142, u143, u144, u145, u146, u147, u148, u149, u150, c151, c152, c153, c154, c155, c156, c157, c158, c159, c160, c161, c162, c163, c164, c165, c166, c167, c168, c169, c170, c171, c172, c173, c174, c175, c176, c177, c178, c179, c180, c181, c182, c183, c184, c185, c186, c187, c188, c189, c190, c191, c192, c193, c194, c195, c196, c197, c198, c199, c200, c201, c202, c203, c204, c205, c206, c207, c208, c209, c210, c211, c212, c213, c214, c215, c216, c217, c218, c219, c220, c221, c222, c223, c224, c225, c226, c227, c228, c229, c230, c231, c232, c233, c234, c235, c236, c237, c238, c239, c240, c241, c242, c243, c244, c245, c246, c247, c248, c249, c250, c251, c252, c253, c254, c255, c256, c257, c258, c259, c260, c261, c262, c263, c264, c265, c266, c267, c268, c269, c270, c271, c272, c273, c274, c275, c276, c277], []⟩ w')) :
    Code.wp Try.prog ((Try.f17.body.bind (blkOf 0)).getD .skip) (OnlyN Kp) ⟨#[c0, c1, c2, c3, c4, .pointer (some ⟨Q, 0, none⟩), .pointer (some ⟨bc, 0, none⟩), c7, c8, c9, c10, .int .i64 (n : Int), c12, c13, c14, c15, c16, c17, c18, c19, c20, c21, c22, c23, c24, c25, c26, c27, c28, c29, c30, c31, c32, c33, c34, c35, c36, c37, c38, c39, c40, c41, c42, c43, c44, c45, c46, c47, c48, c49, c50, c51, c52, c53, c54, c55, c56, c57, c58, c59, c60, c61, c62, c63, c64, c65, c66, c67, c68, c69, c70, c71, c72, c73, c74, c75, c76, c77, c78, c79, c80, c81, c82, c83, c84, c85, c86, c87, c88, c89, c90, c91, c92, c93, c94, c95, c96, c97, c98, c99, c100, c101, c102, c103, c104, c105, c106, c107, c108, c109, c110, c111, c112, c113, c114, c115, c116, c117, c118, c119, c120, c121, c122, c123, c124, c125, c126, c127, c128, c129, c130, c131, c132, c133, c134, c135, c136, c137, c138, c139, c140, c141, c142, c143, c144, c145, c146, c147, c148, c149, c150, c151, c152, c153, c154, c155, c156, c157, c158, c159, c160, c161, c162, c163, c164, c165, c166, c167, c168, c169, c170, c171, c172, c173, c174, c175, c176, c177, c178, c179, c180, c181, c182, c183, c184, c185, c186, c187, c188, c189, c190, c191, c192, c193, c194, c195, c196, c197, c198, c199, c200, c201, c202, c203, c204, c205, c206, c207, c208, c209, c210, c211, c212, c213, c214, c215, c216, c217, c218, c219, c220, c221, c222, c223, c224, c225, c226, c227, c228, c229, c230, c231, c232, c233, c234, c235, c236, c237, c238, c239, c240, c241, c242, c243, c244, c245, c246, c247, c248, c249, c250, c251, c252, c253, c254, c255, c256, c257, c258, c259, c260, c261, c262, c263, c264, c265, c266, c267, c268, c269, c270, c271, c272, c273, c274, c275, c276, c277], []⟩ w1 := by
  obtain ⟨i0, hi, hz0, hz1, hz2⟩ := info_parts Cl.Try.info39
  conv => arg 2; whnf
  go_wp2_with fail
  go_loopw [11] (fun i wr => ∃ (m : Nat) (A : List Nat) (y : St) (ia : Option Addr) (ic : Nat), m ≤ n ∧ i = .int .i64 m ∧ Hid (M.Rs (M.u16 s.data.toList) n st A m y) ∧ Hid (RW w0 wB wr Q C bc (.slice va vn vc) s y #[x0, x1, x2, x3, x4, .slice va vn vc, .slice ia A.length ic, .slice none 0 0, .slice none 0 0] (.slice ia A.length ic) (.slice none 0 0) (.slice none 0 0) l A [] [])) (fun i _ => (intOf i).toNat)
  case atStart => exact ⟨n, [], st, none, 0, Nat.le_refl _, rfl, M.Rs.zero, H⟩
  case round =>
    clear H
    obtain ⟨m, A, y, ia, ic, hm, rfl, HRs, HF⟩ := hrel
    have k0 := (unhide HF).rg.k0
    have k2 : wr.cell? ⟨C, 2, none⟩ = some (.int .i64 (y.e : Int)) := (unhide HF).rg.c.cell 2
    by_cases hgo : m ≠ 0 ∧ y.e = 0
    · obtain ⟨hm0, he⟩ := hgo
      have hmi : (0 : Int) < (m : Int) := by omega
      have hei : (((y.e : Int) == 0) : Bool) = true := by rw [he]; rfl
      obtain ⟨n', hn'⟩ : ∃ n', m = n' + 1 := ⟨m - 1, by omega⟩
      have hm1 : (m : Int) - 1 = ((n' : Nat) : Int) := by omega
      have hst := unhide HRs
      rw [hn'] at hst
      have hst2 := hst.step he
      have hAl := hst.1
      have hA5 : A.length ≤ 65535 := by omega
      rw [M.u16_u16] at hst2
      have d1 := M.rd2 s.data.toList y
      have D := (unhide HF).drew
      have HV := hide (fun W hW => index_any Q C (.slice va vn vc) s y W hW hs)
      obtain ⟨x, y1, e1⟩ : ∃ a b, M.rd s.data.toList 2 y = (a, b) := ⟨_, _, rfl⟩
      rw [e1] at hst2 d1 HV
      simp only at hst2 d1 HV
      have HSt := hide hst2
      have q6 := D.c.cell 6
      simp at q6
      clear e1 hst hst2 HRs hAl he hm0
      go_upto_region 22 with fail
      clear k0 k2
      go_region_law (first
        | (go_simp; go_at_call 38; refine (unhide HV _ ?_).mono ?_; exact D.rg; rintro e w2 ⟨rfl, hr2, hg2⟩; have F2 := D.step hr2 hg2; have p6 := F2.c.cell 6; simp at p6; have p6a : (w2.alloc (.cells #[.int .u16 (x : Int)] 39)).cell? ⟨bc, 6, none⟩ = some (.slice ia A.length ic) := (F2.alloc _).c.cell 6)
        | (refine Po.step_append_own rfl (.tmp 145) (.tmp 148) 40 rfl wB.heap.size 39 i0 (.int .u16 0) 1 2 Try.underlying40 hi hz0 hz1 hz2 rfl (by decide) _ A.length (UC A) (by simp [Act.eval]; rfl) (by exact F2.o.i.alloc _) ⟨_, 0, none⟩ 1 1 [.int .u16 (x : Int)] (by simp [Act.eval]; rfl) rfl (by intro j u hj; rw [Addr.add_lit, Nat.zero_add, (Bk.new w2 _ 39).cell j]; simpa using hj) (by intro u hu; simp at hu; subst hu; rfl) (by unfold maxLen; omega) (by omega) (by have := F2.hz; simp; omega) ?_; intro v' w3 hown' hgrow; obtain ⟨A', hA'⟩ : ∃ A', A' = A ++ [x] := ⟨_, rfl⟩; have hrow : w3.ownsRow wB.heap.size 39 1 v' A'.length (UC A') := (by rw [hA', Cl.UC_snoc, List.length_append]; exact hown'); have F3 := RW.growI (F2.alloc _) hrow hgrow; obtain ⟨ja, jc, ev⟩ := Cl.own39_slice hrow; subst ev; have p6' := F3.c.cell 6; have pf := F3.c.frozen; simp at p6'; have HA' := hide hA'; clear hown' hgrow hrow hA'))
      all_goals
        have H4 := hide (F3.set 6 (.slice ja A'.length jc))
        have HS2 := HSt
        rw [← unhide HA'] at HS2
        clear F3 F2 D HSt HA' hr2 hg2
        go_wp2
        go_roundw
        case rel => exact ⟨n', A', y1, ja, jc, by omega, by go_num, HS2, H4⟩
        case measure => simp [intOf]; omega
    · have hres : M.reps (M.u16 s.data.toList) n st = (A, y) := by
        by_cases hm0 : m = 0
        · subst hm0; exact (unhide HRs).done
        · exact (unhide HRs).stop (fun e => hgo ⟨hm0, e⟩)
      rw [hres] at HK
      have hend : ∀ (Kp : Prop), (m = 0 → Kp) → ((0 : Int) < (m : Int) → y.e ≠ 0 → Kp) → Kp := fun Kp h1 h2 => by
        by_cases hm0 : m = 0
        · exact h1 hm0
        · exact h2 (by omega) (fun e => hgo ⟨hm0, e⟩)
      clear hgo hres HRs
      refine hend _ (fun hm0 => ?_) (fun hmi hee => ?_)
      · subst hm0
        clear hend
        go_wp2
        exact unhide HK ia ic _ _ _ _ _ _ _ _ _ _ _ _ _ _ _ _ _ _ _ _ _ _ _ (unhide HF)
      · have hei : (((y.e : Int) == 0) : Bool) = false := by rw [beq_eq_false_iff_ne]; omega
        clear hend hee
        go_wp2
        exact unhide HK ia ic _ _ _ _ _ _ _ _ _ _ _ _ _ _ _ _ _ _ _ _ _ _ _ (unhide HF)
end Go.Proofs.Ytbgpkkbejbidlac
