/-
  The reference: ReadClass: its end.
-/
import Derived.Test.YtbgpkkbejbidlacMgP
namespace Go.Proofs.Ytbgpkkbejbidlac
set_option linter.unusedVariables false
set_option linter.unusedSimpArgs false
open Go.RowKit
open Cl (HC FC UC MC LM Mj Own kOf)
/-- What is left of a sequence behind some statements. -/
def tlOf : Nat → Code → Code
  | 0, c => c
  | n + 1, .seq _ y => tlOf n y
  | _ + 1, c => c
set_option maxRecDepth 1000000 in
set_option maxHeartbeats 1000000 in
theorem rc_end {post : Ending → World → Prop} {c1 c3 c4 c7 c8 c9 c10 c11 c12 c13 c14 c15 c16 c17 c18 c19 c20 c21 c22 c23 c24 c25 c26 c27 c28 c29 c30 c31 c32 c33 c34 c35 c36 c37 c38 c39 c40 c41 c42 c43 c44 c45 c46 c47 c48 c49 c50 c51 c52 c53 c54 c55 c56 c57 c58 c59 c60 c61 c62 c63 c64 c65 c66 c67 c68 c69 c70 c71 c72 c73 c74 c75 c76 c77 c78 c79 c80 c81 c82 c83 c84 c85 c86 c87 c88 c89 c90 c91 c92 c93 c94 c95 c96 c97 c98 c99 c100 c101 c102 c103 c104 c105 c106 c107 c108 c109 c110 c111 c112 c113 c114 c115 c116 c117 c118 c119 c120 c121 c122 c123 c124 c125 c126 c127 c128 c129 c130 c131 c132 c133 c134 c135 c136 c137 c138 c139 c140 c141 c142 c143 c144 c145 c146 c147 c148 c149 c150 c151 c152 c153 c154 c155 c156 c157 c158 c159 c160 c161 c162 c163 c164 c165 c166 c167 c168 c169 c170 c171 c172 c173 c174 c175 c176 c177 c178 c179 c180 c181 c182 c183 c184 c185 c186 c187 c188 c189 c190 c191 c192 c193 c194 c195 c196 c197 c198 c199 c200 c201 c202 c203 c204 c205 c206 c207 c208 c209 c210 c211 c212 c213 c214 c215 c216 c217 c218 c219 c220 c221 c222 c223 c224 c225 c226 c227 c228 c229 c230 c231 c232 c233 c234 c235 c236 c237 c238 c239 c240 c241 c242 c243 c244 c245 c246 c247 c248 c249 c250 c251 c252 c253 c254 c255 c256 c257 c258 c259 c260 c261 c262 c263 c264 c265 c266 c267 c268 c269 c270 c271 c272 c273 c274 c275 c276 c277 : Value} {w0 wB w1 : World} {Q C bc : Nat} {va : Option Addr} {vn vc : Nat} {s : ByteArray} {st : St} {r : Po.Res} {c : Cs} {L : List Mj} {ia fa ma : Option Addr} {ic fc mc : Nat} (hs : s.size ≤ 131072) (hpl : c.pool = r.1.map kOf) (hL : L.map Mj.m = c.methods) (H : Hid (RW w0 wB w1 Q C bc (.slice va vn vc) s st #[.int .u16 (c.minor : Int), .int .u16 (c.major : Int), .int .u16 (c.flags : Int), .int .u16 (c.this : Int), .int .u16 (c.super : Int), .slice va vn vc, .slice ia c.ifaces.length ic, .slice fa c.fields.length fc, .slice ma L.length mc] (.slice ia c.ifaces.length ic) (.slice fa c.fields.length fc) (.slice ma L.length mc) r.1 c.ifaces c.fields L)) (HP : Hid (∀ x w', Cl.ReadC s.data.toList r c (M.fin s.data.toList st) w0 x w' → post x w')) :
    Code.wp Try.prog ((Try.f17.body.map (tlOf 15)).getD .skip) (bodyPost Try.prog Try.f17 post) ⟨#[.string s, c1, .pointer (some ⟨w0.heap.size, 0, none⟩), c3, c4, .pointer (some ⟨Q, 0, none⟩), .pointer (some ⟨bc, 0, none⟩), c7, c8, c9, c10, c11, c12, c13, c14, c15, c16, c17, c18, c19, c20, c21, c22, c23, c24, c25, c26, c27, c28, c29, c30, c31, c32, c33, c34, c35, c36, c37, c38, c39, c40, c41, c42, c43, c44, c45, c46, c47, c48, c49, c50, c51, c52, c53, c54, c55, c56, c57, c58, c59, c60, c61, c62, c63, c64, c65, c66, c67, c68, c69, c70, c71, c72, c73, c74, c75, c76, c77, c78, c79, c80, c81, c82, c83, c84, c85, c86, c87, c88, c89, c90, c91, c92, c93, c94, c95, c96, c97, c98, c99, c100, c101, c102, c103, c104, c105, c106, c107, c108, c109, c110, c111, c112, c113, c114, c115, c116, c117, c118, c119, c120, c121, c122, c123, c124, c125, c126, c127, c128, c129, c130, c131, c132, c133, c134, c135, c136, c137, c138, c139, c140, c141, c142, c143, c144, c145, c146, c147, c148, c149, c150, c151, c152, c153, c154, c155, c156, c157, c158, c159, c160, c161, c162, c163, c164, c165, c166, c167, c168, c169, c170, c171, c172, c173, c174, c175, c176, c177, c178, c179, c180, c181, c182, c183, c184, c185, c186, c187, c188, c189, c190, c191, c192, c193, c194, c195, c196, c197, c198, c199, c200, c201, c202, c203, c204, c205, c206, c207, c208, c209, c210, c211, c212, c213, c214, c215, c216, c217, c218, c219, c220, c221, c222, c223, c224, c225, c226, c227, c228, c229, c230, c231, c232, c233, c234, c235, c236, c237, c238, c239, c240, c241, c242, c243, c244, c245, c246, c247, c248, c249, c250, c251, c252, c253, c254, c255, c256, c257, c258, c259, c260, c261, c262, c263, c264, c265, c266, c267, c268, c269, c270, c271, c272, c273, c274, c275, c276, c277], []⟩ w1 := by
  conv => arg 2; whnf
  have hl : s.data.toList.length = s.size := by simp
  have hp := (unhide H).rg.pos
  have k0 := (unhide H).rg.k0
  have k1 : w1.cell? ⟨C, 1, none⟩ = some (.int .i64 (st.pos : Int)) := (unhide H).rg.c.cell 1
  obtain ⟨st', hst⟩ : ∃ st', st' = M.fin s.data.toList st := ⟨_, rfl⟩
  rw [← hst] at HP
  go_upto_if 241 with fail
  go_cut [] (fun w' => Hid (RW w0 wB w' Q C bc (.slice va vn vc) s st' #[.int .u16 (c.minor : Int), .int .u16 (c.major : Int), .int .u16 (c.flags : Int), .int .u16 (c.this : Int), .int .u16 (c.super : Int), .slice va vn vc, .slice ia c.ifaces.length ic, .slice fa c.fields.length fc, .slice ma L.length mc] (.slice ia c.ifaces.length ic) (.slice fa c.fields.length fc) (.slice ma L.length mc) r.1 c.ifaces c.fields L))
  case first =>
    by_cases hlt : st.pos < s.size
    · have hi : (st.pos : Int) < (s.size : Int) := by omega
      have q : st' = M.fail st 2 st.pos := by rw [hst]; unfold M.fin; rw [hl, if_pos hlt]
      have HF := hide (fun W (hW : Cut W C s st) => cfail_any C s st 2 st.pos W hW)
      rw [← q] at HF
      have hp' : st'.pos ≤ s.data.toList.length := by rw [q, M.fail_pos]; exact hp
      have D := (unhide H).drew
      clear hlt q hst
      go_wp2_with fail
      go_region_with (go_at_call 37; refine (unhide HF _ ?_).mono ?_; exact D.rg.c; rintro e w2 ⟨rfl, hc2, hg2⟩)
      all_goals
        have H2 := hide (D.cut hc2 hg2 hp')
        clear D hc2 hg2 HF
        go_wp2
        go_meet
        exact unhide H2
    · have hi : ¬ (st.pos : Int) < (s.size : Int) := by omega
      have q : st' = st := by rw [hst]; unfold M.fin; rw [hl, if_neg hlt]
      clear hlt hst
      go_wp2
      go_meet
      rw [q]
      exact unhide H
  case rest =>
    have H2 : Hid (RW w0 wB wc Q C bc (.slice va vn vc) s st' #[.int .u16 (c.minor : Int), .int .u16 (c.major : Int), .int .u16 (c.flags : Int), .int .u16 (c.this : Int), .int .u16 (c.super : Int), .slice va vn vc, .slice ia c.ifaces.length ic, .slice fa c.fields.length fc, .slice ma L.length mc] (.slice ia c.ifaces.length ic) (.slice fa c.fields.length fc) (.slice ma L.length mc) r.1 c.ifaces c.fields L) := hcut
    clear hcut H k0 k1 hst
    have k0 := (unhide H2).rg.k0
    have k2 : wc.cell? ⟨C, 2, none⟩ = some (.int .i64 (st'.e : Int)) := (unhide H2).rg.c.cell 2
    have k3 : wc.cell? ⟨C, 3, none⟩ = some (.int .i64 (st'.p : Int)) := (unhide H2).rg.c.cell 3
    have z0 := (unhide H2).q.cell 0
    have z1 := (unhide H2).q.cell 1
    have z2 := (unhide H2).q.cell 2
    have z3 := (unhide H2).q.cell 3
    have z4 := (unhide H2).q.cell 4
    have z5 := (unhide H2).q.cell 5
    have z6 := (unhide H2).q.cell 6
    have z7 := (unhide H2).q.cell 7
    have z8 := (unhide H2).q.cell 8
    have zf := (unhide H2).q.frozen
    simp at z0 z1 z2 z3 z4 z5 z6 z7 z8
    have hzB : w0.heap.size ≤ wB.heap.size := by have := (unhide H2).o1; have := (unhide H2).o2; have := (unhide H2).o3; have := (unhide H2).o4; omega
    by_cases he : st'.e = 0
    · have hd : (((st'.e : Int) != 0) : Bool) = false := by rw [he]; rfl
      have He := hide he
      have p0 := (unhide H2).c.cell 0
      have p1 := (unhide H2).c.cell 1
      have p2 := (unhide H2).c.cell 2
      have p3 := (unhide H2).c.cell 3
      have p4 := (unhide H2).c.cell 4
      have p5 := (unhide H2).c.cell 5
      have p6 := (unhide H2).c.cell 6
      have p7 := (unhide H2).c.cell 7
      have p8 := (unhide H2).c.cell 8
      simp at p0 p1 p2 p3 p4 p5 p6 p7 p8
      obtain ⟨wE, hwE⟩ : ∃ wE, wE = (((((((((wc.setCell ⟨w0.heap.size, 0, none⟩ (.int .u16 (c.minor : Int))).setCell ⟨w0.heap.size, 1, none⟩ (.int .u16 (c.major : Int))).setCell ⟨w0.heap.size, 2, none⟩ (.int .u16 (c.flags : Int))).setCell ⟨w0.heap.size, 3, none⟩ (.int .u16 (c.this : Int))).setCell ⟨w0.heap.size, 4, none⟩ (.int .u16 (c.super : Int))).setCell ⟨w0.heap.size, 5, none⟩ (.slice va vn vc)).setCell ⟨w0.heap.size, 6, none⟩ (.slice ia c.ifaces.length ic)).setCell ⟨w0.heap.size, 7, none⟩ (.slice fa c.fields.length fc)).setCell ⟨w0.heap.size, 8, none⟩ (.slice ma L.length mc)) := ⟨_, rfl⟩
      have HB : Hid (Below w0.heap.size w0 wE) := by rw [hwE]; exact Cl.below_set9 (unhide H2).be (Nat.le_refl _) (.int .u16 (c.minor : Int)) (.int .u16 (c.major : Int)) (.int .u16 (c.flags : Int)) (.int .u16 (c.this : Int)) (.int .u16 (c.super : Int)) (.slice va vn vc) (.slice ia c.ifaces.length ic) (.slice fa c.fields.length fc) (.slice ma L.length mc)
      have HQ : Hid (Bk wE w0.heap.size #[.int .u16 (c.minor : Int), .int .u16 (c.major : Int), .int .u16 (c.flags : Int), .int .u16 (c.this : Int), .int .u16 (c.super : Int), .slice va vn vc, .slice ia c.ifaces.length ic, .slice fa c.fields.length fc, .slice ma L.length mc] 44) := by rw [hwE]; exact Cl.Bk.set9 (unhide H2).q (.int .u16 (c.minor : Int)) (.int .u16 (c.major : Int)) (.int .u16 (c.flags : Int)) (.int .u16 (c.this : Int)) (.int .u16 (c.super : Int)) (.slice va vn vc) (.slice ia c.ifaces.length ic) (.slice fa c.fields.length fc) (.slice ma L.length mc)
      have HO : Hid (Own wB wE (.slice va vn vc) (.slice ia c.ifaces.length ic) (.slice fa c.fields.length fc) (.slice ma L.length mc) r.1 c.ifaces c.fields L) := by rw [hwE]; exact Cl.Own.set1 (unhide H2).o (unhide H2).q (.int .u16 (c.minor : Int)) (.int .u16 (c.major : Int)) (.int .u16 (c.flags : Int)) (.int .u16 (c.this : Int)) (.int .u16 (c.super : Int)) (.slice va vn vc) (.slice ia c.ifaces.length ic) (.slice fa c.fields.length fc) (.slice ma L.length mc)
      have HwE := hide hwE
      clear he H2 hwE
      go_wp2
      rw [← unhide HwE]
      refine bodyPost_ret (Cl.results_row2 Try.results17 _ _ w0.heap.size 44 _ (0, 0) _ rfl (unhide HQ) Try.underlying44 rfl (by kernel_rfl)) rfl ?_
      exact unhide HP _ _ (Cl.ReadC.ok (unhide He) hzB (unhide HB) hpl (unhide HO) hL)
    · have hd : (((st'.e : Int) != 0) : Bool) = true := by simpa using he
      have He := hide he
      obtain ⟨wE, hwE⟩ : ∃ wE, wE = (((((((((wc.setCell ⟨w0.heap.size, 0, none⟩ (.int .u16 0)).setCell ⟨w0.heap.size, 1, none⟩ (.int .u16 0)).setCell ⟨w0.heap.size, 2, none⟩ (.int .u16 0)).setCell ⟨w0.heap.size, 3, none⟩ (.int .u16 0)).setCell ⟨w0.heap.size, 4, none⟩ (.int .u16 0)).setCell ⟨w0.heap.size, 5, none⟩ (.slice none 0 0)).setCell ⟨w0.heap.size, 6, none⟩ (.slice none 0 0)).setCell ⟨w0.heap.size, 7, none⟩ (.slice none 0 0)).setCell ⟨w0.heap.size, 8, none⟩ (.slice none 0 0)) := ⟨_, rfl⟩
      have hB : Below w0.heap.size w0 wE := by rw [hwE]; exact Cl.below_set9 (unhide H2).be (Nat.le_refl _) (.int .u16 0) (.int .u16 0) (.int .u16 0) (.int .u16 0) (.int .u16 0) (.slice none 0 0) (.slice none 0 0) (.slice none 0 0) (.slice none 0 0)
      have hQ : Bk wE w0.heap.size #[.int .u16 0, .int .u16 0, .int .u16 0, .int .u16 0, .int .u16 0, .slice none 0 0, .slice none 0 0, .slice none 0 0, .slice none 0 0] 44 := by rw [hwE]; exact Cl.Bk.set9 (unhide H2).q (.int .u16 0) (.int .u16 0) (.int .u16 0) (.int .u16 0) (.int .u16 0) (.slice none 0 0) (.slice none 0 0) (.slice none 0 0) (.slice none 0 0)
      have HB : Hid (Below w0.heap.size w0 wE.drew) := ⟨hB.os, hB.tape, hB.output, hB.size, hB.block⟩
      have HQ : Hid (Bk wE.drew w0.heap.size #[.int .u16 0, .int .u16 0, .int .u16 0, .int .u16 0, .int .u16 0, .slice none 0 0, .slice none 0 0, .slice none 0 0, .slice none 0 0] 44) := hQ
      have HwE := hide hwE
      clear hwE hB hQ
      have nq1 : ¬ Q = w0.heap.size := by have := (unhide H2).o1; have := (unhide H2).o2; omega
      have nq2 : ¬ w0.heap.size = Q := by have := (unhide H2).o1; have := (unhide H2).o2; omega
      have nq3 : ¬ C = w0.heap.size := by have := (unhide H2).o1; omega
      have nq4 : ¬ w0.heap.size = C := by have := (unhide H2).o1; omega
      clear he H2
      go_wp2_with fail
      go_region_held3 (fun w' => w'.cell? ⟨Q, 0, none⟩ = some (.pointer (some ⟨C, 0, none⟩)) ∧ w'.cell? ⟨C, 2, none⟩ = some (.int .i64 (st'.e : Int)) ∧ w'.cell? ⟨C, 3, none⟩ = some (.int .i64 (st'.p : Int))) (go_keep) (fail)
      all_goals
        go_wp2
        rw [← unhide HwE]
        refine bodyPost_ret (Cl.results_row2 Try.results17 _ _ w0.heap.size 44 _ (0, 0) _ rfl (unhide HQ) Try.underlying44 rfl (by kernel_rfl)) rfl ?_
        exact unhide HP _ _ ⟨_, by rw [if_neg (unhide He)]; rfl, unhide HB, fun g => absurd g (unhide He), fun _ => rfl⟩
end Go.Proofs.Ytbgpkkbejbidlac
