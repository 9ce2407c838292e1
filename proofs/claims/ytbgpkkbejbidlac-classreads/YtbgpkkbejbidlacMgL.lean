/-
  The reference: ReadClass: its attributes, and its end.
  The reference: ReadClass: its methods, and what follows.
  The reference: ReadClass: its fields, and what follows.
  The reference: ReadClass: its interfaces, and what follows.
  The reference: ReadClass: its numbers, and what follows.
-/
import Derived.Test.YtbgpkkbejbidlacRcg
namespace Go.Proofs.Ytbgpkkbejbidlac
set_option linter.unusedVariables false
set_option linter.unusedSimpArgs false
open Go.RowKit
open Cl (HC FC UC MC LM Mj Own kOf)
set_option maxRecDepth 1000000 in
set_option maxHeartbeats 1000000 in
theorem rc_atts {post : Ending → World → Prop} {c1 c3 c4 c7 c8 c9 c10 c11 c12 c13 c14 c15 c16 c17 c18 c19 c20 c21 c22 c23 c24 c25 c26 c27 c28 c29 c30 c31 c32 c33 c34 c35 c36 c37 c38 c39 c40 c41 c42 c43 c44 c45 c46 c47 c48 c49 c50 c51 c52 c53 c54 c55 c56 c57 c58 c59 c60 c61 c62 c63 c64 c65 c66 c67 c68 c69 c70 c71 c72 c73 c74 c75 c76 c77 c78 c79 c80 c81 c82 c83 c84 c85 c86 c87 c88 c89 c90 c91 c92 c93 c94 c95 c96 c97 c98 c99 c100 c101 c102 c103 c104 c105 c106 c107 c108 c109 c110 c111 c112 c113 c114 c115 c116 c117 c118 c119 c120 c121 c122 c123 c124 c125 c126 c127 c128 c129 c130 c131 c132 c133 c134 c135 c136 c137 c138 c139 c140 c141 c142 c143 c144 c145 c146 c147 c148 c149 c150 c151 c152 c153 c154 c155 c156 c157 c158 c159 c160 c161 c162 c163 c164 c165 c166 c167 c168 c169 c170 c171 c172 c173 c174 c175 c176 c177 c178 c179 c180 c181 c182 c183 c184 c185 c186 c187 c188 c189 c190 c191 c192 c193 c194 c195 c196 c197 c198 c199 c200 c201 c202 c203 c204 c205 c206 c207 c208 c209 c210 c211 c212 c213 c214 c215 c216 c217 c218 c219 c220 c221 c222 c223 c224 c225 c226 c227 c228 c229 c230 c231 c232 c233 c234 c235 c236 c237 c238 c239 c240 c241 c242 c243 c244 c245 c246 c247 c248 c249 c250 c251 c252 c253 c254 c255 c256 c257 c258 c259 c260 c261 c262 c263 c264 c265 c266 c267 c268 c269 c270 c271 c272 c273 c274 c275 c276 c277 : Value} {w0 wB w1 : World} {Q C bc : Nat} {va : Option Addr} {vn vc : Nat} {s : ByteArray} {st : St} {r : Po.Res} {c : Cs} {L : List Mj} {ia fa ma : Option Addr} {ic fc mc : Nat} (hs : s.size ≤ 131072) (hpl : c.pool = r.1.map kOf) (hL : L.map Mj.m = c.methods) (H : Hid (RW w0 wB w1 Q C bc (.slice va vn vc) s st #[.int .u16 (c.minor : Int), .int .u16 (c.major : Int), .int .u16 (c.flags : Int), .int .u16 (c.this : Int), .int .u16 (c.super : Int), .slice va vn vc, .slice ia c.ifaces.length ic, .slice fa c.fields.length fc, .slice ma L.length mc] (.slice ia c.ifaces.length ic) (.slice fa c.fields.length fc) (.slice ma L.length mc) r.1 c.ifaces c.fields L)) (HP : Hid (∀ x w', Cl.ReadC s.data.toList r c (M.fin s.data.toList (M.attsNR s.data.toList (r.1.map kOf) (M.none_ s.data.toList) () st).2) w0 x w' → post x w')) :
    Code.wp Try.prog ((Try.f17.body.map (tlOf 14)).getD .skip) (bodyPost Try.prog Try.f17 post) ⟨#[.string s, c1, .pointer (some ⟨w0.heap.size, 0, none⟩), c3, c4, .pointer (some ⟨Q, 0, none⟩), .pointer (some ⟨bc, 0, none⟩), c7, c8, c9, c10, c11, c12, c13, c14, c15, c16, c17, c18, c19, c20, c21, c22, c23, c24, c25, c26, c27, c28, c29, c30, c31, c32, c33, c34, c35, c36, c37, c38, c39, c40, c41, c42, c43, c44, c45, c46, c47, c48, c49, c50, c51, c52, c53, c54, c55, c56, c57, c58, c59, c60, c61, c62, c63, c64, c65, c66, c67, c68, c69, c70, c71, c72, c73, c74, c75, c76, c77, c78, c79, c80, c81, c82, c83, c84, c85, c86, c87, c88, c89, c90, c91, c92, c93, c94, c95, c96, c97, c98, c99, c100, c101, c102, c103, c104, c105, c106, c107, c108, c109, c110, c111, c112, c113, c114, c115, c116, c117, c118, c119, c120, c121, c122, c123, c124, c125, c126, c127, c128, c129, c130, c131, c132, c133, c134, c135, c136, c137, c138, c139, c140, c141, c142, c143, c144, c145, c146, c147, c148, c149, c150, c151, c152, c153, c154, c155, c156, c157, c158, c159, c160, c161, c162, c163, c164, c165, c166, c167, c168, c169, c170, c171, c172, c173, c174, c175, c176, c177, c178, c179, c180, c181, c182, c183, c184, c185, c186, c187, c188, c189, c190, c191, c192, c193, c194, c195, c196, c197, c198, c199, c200, c201, c202, c203, c204, c205, c206, c207, c208, c209, c210, c211, c212, c213, c214, c215, c216, c217, c218, c219, c220, c221, c222, c223, c224, c225, c226, c227, c228, c229, c230, c231, c232, c233, c234, c235, c236, c237, c238, c239, c240, c241, c242, c243, c244, c245, c246, c247, c248, c249, c250, c251, c252, c253, c254, c255, c256, c257, c258, c259, c260, c261, c262, c263, c264, c265, c266, c267, c268, c269, c270, c271, c272, c273, c274, c275, c276, c277], []⟩ w1 := by
  conv => arg 2; whnf
  have hp := (unhide H).rg.pos
  have k0 := (unhide H).rg.k0
  have HU := hide (fun W hW => cnum_any C s st 2 W hW hs (by omega) hp)
  have cn := M.rd2 s.data.toList st
  have hp1 := M.rd_pos (n := 2) hp
  unfold M.attsNR at HP
  obtain ⟨n, st1, e1⟩ : ∃ a b, M.rd s.data.toList 2 st = (a, b) := ⟨_, _, rfl⟩
  rw [e1] at HU cn hp1 HP
  simp only at HU cn hp1 HP
  clear e1
  go_wp2_with fail
  refine (unhide HU _ (unhide H).rg.c).mono ?_
  rintro e w2 ⟨rfl, hc2, hg2⟩
  have H2 := hide ((unhide H).cut hc2 hg2 hp1)
  clear HU hc2 hg2 k0 H
  go_upto_block 6 with fail
  refine Code.wp_mono OnlyN.imp (atts_loop hs cn H2 ?_)
  refine hide ?_
  intro v14 v15 v16 v17 v208 v209 v210 v211 v212 v213 v214 v215 v216 v217 v218 v219 v220 v221 v222 v223 v224 v225 v226 v227 v228 v229 v230 v231 w3 hR
  clear H2
  simp only [Exit.then]
  apply_assumption
  exact rc_end hs hpl hL hR HP
end Go.Proofs.Ytbgpkkbejbidlac
namespace Go.Proofs.Ytbgpkkbejbidlac
set_option linter.unusedVariables false
set_option linter.unusedSimpArgs false
open Go.RowKit
open Cl (HC FC UC MC LM Mj Own kOf)
set_option maxRecDepth 1000000 in
set_option maxHeartbeats 1000000 in
theorem rc_methods {post : Ending → World → Prop} {c1 c3 c4 c7 c8 c9 c10 c11 c12 c13 c14 c15 c16 c17 c18 c19 c20 c21 c22 c23 c24 c25 c26 c27 c28 c29 c30 c31 c32 c33 c34 c35 c36 c37 c38 c39 c40 c41 c42 c43 c44 c45 c46 c47 c48 c49 c50 c51 c52 c53 c54 c55 c56 c57 c58 c59 c60 c61 c62 c63 c64 c65 c66 c67 c68 c69 c70 c71 c72 c73 c74 c75 c76 c77 c78 c79 c80 c81 c82 c83 c84 c85 c86 c87 c88 c89 c90 c91 c92 c93 c94 c95 c96 c97 c98 c99 c100 c101 c102 c103 c104 c105 c106 c107 c108 c109 c110 c111 c112 c113 c114 c115 c116 c117 c118 c119 c120 c121 c122 c123 c124 c125 c126 c127 c128 c129 c130 c131 c132 c133 c134 c135 c136 c137 c138 c139 c140 c141 c142 c143 c144 c145 c146 c147 c148 c149 c150 c151 c152 c153 c154 c155 c156 c157 c158 c159 c160 c161 c162 c163 c164 c165 c166 c167 c168 c169 c170 c171 c172 c173 c174 c175 c176 c177 c178 c179 c180 c181 c182 c183 c184 c185 c186 c187 c188 c189 c190 c191 c192 c193 c194 c195 c196 c197 c198 c199 c200 c201 c202 c203 c204 c205 c206 c207 c208 c209 c210 c211 c212 c213 c214 c215 c216 c217 c218 c219 c220 c221 c222 c223 c224 c225 c226 c227 c228 c229 c230 c231 c232 c233 c234 c235 c236 c237 c238 c239 c240 c241 c242 c243 c244 c245 c246 c247 c248 c249 c250 c251 c252 c253 c254 c255 c256 c257 c258 c259 c260 c261 c262 c263 c264 c265 c266 c267 c268 c269 c270 c271 c272 c273 c274 c275 c276 c277 : Value} {w0 wB w1 : World} {Q C bc : Nat} {va : Option Addr} {vn vc : Nat} {s : ByteArray} {st : St} {r : Po.Res} {a b x2 x3 x4 : Nat} {is : List Nat} {fs : List Fd} {ia fa : Option Addr} {ic fc : Nat} (hs : s.size ≤ 131072) (H : Hid (RW w0 wB w1 Q C bc (.slice va vn vc) s st #[.int .u16 (a : Int), .int .u16 (b : Int), .int .u16 (x2 : Int), .int .u16 (x3 : Int), .int .u16 (x4 : Int), .slice va vn vc, .slice ia is.length ic, .slice fa fs.length fc, .slice none 0 0] (.slice ia is.length ic) (.slice fa fs.length fc) (.slice none 0 0) r.1 is fs [])) (HP : Hid (∀ x w', Cl.ReadC s.data.toList r (⟨a, b, (r.1.map kOf), x2, x3, x4, is, fs, (M.lst s.data.toList (M.mthR s.data.toList (r.1.map kOf)) st).1⟩ : Cs) (M.fin s.data.toList (M.attsNR s.data.toList (r.1.map kOf) (M.none_ s.data.toList) () (M.lst s.data.toList (M.mthR s.data.toList (r.1.map kOf)) st).2).2) w0 x w' → post x w')) :
    Code.wp Try.prog ((Try.f17.body.map (tlOf 13)).getD .skip) (bodyPost Try.prog Try.f17 post) ⟨#[.string s, c1, .pointer (some ⟨w0.heap.size, 0, none⟩), c3, c4, .pointer (some ⟨Q, 0, none⟩), .pointer (some ⟨bc, 0, none⟩), c7, c8, c9, c10, c11, c12, c13, c14, c15, c16, c17, c18, c19, c20, c21, c22, c23, c24, c25, c26, c27, c28, c29, c30, c31, c32, c33, c34, c35, c36, c37, c38, c39, c40, c41, c42, c43, c44, c45, c46, c47, c48, c49, c50, c51, c52, c53, c54, c55, c56, c57, c58, c59, c60, c61, c62, c63, c64, c65, c66, c67, c68, c69, c70, c71, c72, c73, c74, c75, c76, c77, c78, c79, c80, c81, c82, c83, c84, c85, c86, c87, c88, c89, c90, c91, c92, c93, c94, c95, c96, c97, c98, c99, c100, c101, c102, c103, c104, c105, c106, c107, c108, c109, c110, c111, c112, c113, c114, c115, c116, c117, c118, c119, c120, c121, c122, c123, c124, c125, c126, c127, c128, c129, c130, c131, c132, c133, c134, c135, c136, c137, c138, c139, c140, c141, c142, c143, c144, c145, c146, c147, c148, c149, c150, c151, c152, c153, c154, c155, c156, c157, c158, c159, c160, c161, c162, c163, c164, c165, c166, c167, c168, c169, c170, c171, c172, c173, c174, c175, c176, c177, c178, c179, c180, c181, c182, c183, c184, c185, c186, c187, c188, c189, c190, c191, c192, c193, c194, c195, c196, c197, c198, c199, c200, c201, c202, c203, c204, c205, c206, c207, c208, c209, c210, c211, c212, c213, c214, c215, c216, c217, c218, c219, c220, c221, c222, c223, c224, c225, c226, c227, c228, c229, c230, c231, c232, c233, c234, c235, c236, c237, c238, c239, c240, c241, c242, c243, c244, c245, c246, c247, c248, c249, c250, c251, c252, c253, c254, c255, c256, c257, c258, c259, c260, c261, c262, c263, c264, c265, c266, c267, c268, c269, c270, c271, c272, c273, c274, c275, c276, c277], []⟩ w1 := by
  conv => arg 2; whnf
  have hp := (unhide H).rg.pos
  have k0 := (unhide H).rg.k0
  have HU := hide (fun W hW => cnum_any C s st 2 W hW hs (by omega) hp)
  have cn := M.rd2 s.data.toList st
  have hp1 := M.rd_pos (n := 2) hp
  unfold M.lst at HP
  obtain ⟨n, st1, e1⟩ : ∃ a b, M.rd s.data.toList 2 st = (a, b) := ⟨_, _, rfl⟩
  rw [e1] at HU cn hp1 HP
  simp only at HU cn hp1 HP
  clear e1
  go_wp2_with fail
  refine (unhide HU _ (unhide H).rg.c).mono ?_
  rintro e w2 ⟨rfl, hc2, hg2⟩
  have H2 := hide ((unhide H).cut hc2 hg2 hp1)
  clear HU hc2 hg2 k0 H
  go_upto_block 4 with fail
  refine Code.wp_mono OnlyN.imp (methods_loop hs cn H2 ?_)
  refine hide ?_
  intro L ma mc v13 v182 v183 v184 v185 v186 v187 v188 v189 v190 v191 v192 v193 v194 v195 v196 v197 v198 v199 v200 v201 v202 w3 hL hR
  clear H2
  simp only [Exit.then]
  apply_assumption
  exact rc_atts (c := (⟨a, b, (r.1.map kOf), x2, x3, x4, is, fs, (M.reps (M.mthR s.data.toList (r.1.map kOf)) n st1).1⟩ : Cs)) hs rfl hL hR HP
end Go.Proofs.Ytbgpkkbejbidlac
namespace Go.Proofs.Ytbgpkkbejbidlac
set_option linter.unusedVariables false
set_option linter.unusedSimpArgs false
open Go.RowKit
open Cl (HC FC UC MC LM Mj Own kOf)
set_option maxRecDepth 1000000 in
set_option maxHeartbeats 1000000 in
theorem rc_fields {post : Ending → World → Prop} {c1 c3 c4 c7 c8 c9 c10 c11 c12 c13 c14 c15 c16 c17 c18 c19 c20 c21 c22 c23 c24 c25 c26 c27 c28 c29 c30 c31 c32 c33 c34 c35 c36 c37 c38 c39 c40 c41 c42 c43 c44 c45 c46 c47 c48 c49 c50 c51 c52 c53 c54 c55 c56 c57 c58 c59 c60 c61 c62 c63 c64 c65 c66 c67 c68 c69 c70 c71 c72 c73 c74 c75 c76 c77 c78 c79 c80 c81 c82 c83 c84 c85 c86 c87 c88 c89 c90 c91 c92 c93 c94 c95 c96 c97 c98 c99 c100 c101 c102 c103 c104 c105 c106 c107 c108 c109 c110 c111 c112 c113 c114 c115 c116 c117 c118 c119 c120 c121 c122 c123 c124 c125 c126 c127 c128 c129 c130 c131 c132 c133 c134 c135 c136 c137 c138 c139 c140 c141 c142 c143 c144 c145 c146 c147 c148 c149 c150 c151 c152 c153 c154 c155 c156 c157 c158 c159 c160 c161 c162 c163 c164 c165 c166 c167 c168 c169 c170 c171 c172 c173 c174 c175 c176 c177 c178 c179 c180 c181 c182 c183 c184 c185 c186 c187 c188 c189 c190 c191 c192 c193 c194 c195 c196 c197 c198 c199 c200 c201 c202 c203 c204 c205 c206 c207 c208 c209 c210 c211 c212 c213 c214 c215 c216 c217 c218 c219 c220 c221 c222 c223 c224 c225 c226 c227 c228 c229 c230 c231 c232 c233 c234 c235 c236 c237 c238 c239 c240 c241 c242 c243 c244 c245 c246 c247 c248 c249 c250 c251 c252 c253 c254 c255 c256 c257 c258 c259 c260 c261 c262 c263 c264 c265 c266 c267 c268 c269 c270 c271 c272 c273 c274 c275 c276 c277 : Value} {w0 wB w1 : World} {Q C bc : Nat} {va : Option Addr} {vn vc : Nat} {s : ByteArray} {st : St} {r : Po.Res} {a b x2 x3 x4 : Nat} {is : List Nat} {ia : Option Addr} {ic : Nat} (hs : s.size ≤ 131072) (H : Hid (RW w0 wB w1 Q C bc (.slice va vn vc) s st #[.int .u16 (a : Int), .int .u16 (b : Int), .int .u16 (x2 : Int), .int .u16 (x3 : Int), .int .u16 (x4 : Int), .slice va vn vc, .slice ia is.length ic, .slice none 0 0, .slice none 0 0] (.slice ia is.length ic) (.slice none 0 0) (.slice none 0 0) r.1 is [] [])) (HP : Hid (∀ x w', Cl.ReadC s.data.toList r (⟨a, b, (r.1.map kOf), x2, x3, x4, is, (M.lst s.data.toList (M.fldR s.data.toList (r.1.map kOf)) st).1, (M.lst s.data.toList (M.mthR s.data.toList (r.1.map kOf)) (M.lst s.data.toList (M.fldR s.data.toList (r.1.map kOf)) st).2).1⟩ : Cs) (M.fin s.data.toList (M.attsNR s.data.toList (r.1.map kOf) (M.none_ s.data.toList) () (M.lst s.data.toList (M.mthR s.data.toList (r.1.map kOf)) (M.lst s.data.toList (M.fldR s.data.toList (r.1.map kOf)) st).2).2).2) w0 x w' → post x w')) :
    Code.wp Try.prog ((Try.f17.body.map (tlOf 12)).getD .skip) (bodyPost Try.prog Try.f17 post) ⟨#[.string s, c1, .pointer (some ⟨w0.heap.size, 0, none⟩), c3, c4, .pointer (some ⟨Q, 0, none⟩), .pointer (some ⟨bc, 0, none⟩), c7, c8, c9, c10, c11, c12, c13, c14, c15, c16, c17, c18, c19, c20, c21, c22, c23, c24, c25, c26, c27, c28, c29, c30, c31, c32, c33, c34, c35, c36, c37, c38, c39, c40, c41, c42, c43, c44, c45, c46, c47, c48, c49, c50, c51, c52, c53, c54, c55, c56, c57, c58, c59, c60, c61, c62, c63, c64, c65, c66, c67, c68, c69, c70, c71, c72, c73, c74, c75, c76, c77, c78, c79, c80, c81, c82, c83, c84, c85, c86, c87, c88, c89, c90, c91, c92, c93, c94, c95, c96, c97, c98, c99, c100, c101, c102, c103, c104, c105, c106, c107, c108, c109, c110, c111, c112, c113, c114, c115, c116, c117, c118, c119, c120, c121, c122, c123, c124, c125, c126, c127, c128, c129, c130, c131, c132, c133, c134, c135, c136, c137, c138, c139, c140, c141, c142, c143, c144, c145, c146, c147, c148, c149, c150, c151, c152, c153, c154, c155, c156, c157, c158, c159, c160, c161, c162, c163, c164, c165, c166, c167, c168, c169, c170, c171, c172, c173, c174, c175, c176, c177, c178, c179, c180, c181, c182, c183, c184, c185, c186, c187, c188, c189, c190, c191, c192, c193, c194, c195, c196, c197, c198, c199, c200, c201, c202, c203, c204, c205, c206, c207, c208, c209, c210, c211, c212, c213, c214, c215, c216, c217, c218, c219, c220, c221, c222, c223, c224, c225, c226, c227, c228, c229, c230, c231, c232, c233, c234, c235, c236, c237, c238, c239, c240, c241, c242, c243, c244, c245, c246, c247, c248, c249, c250, c251, c252, c253, c254, c255, c256, c257, c258, c259, c260, c261, c262, c263, c264, c265, c266, c267, c268, c269, c270, c271, c272, c273, c274, c275, c276, c277], []⟩ w1 := by
  conv => arg 2; whnf
  have hp := (unhide H).rg.pos
  have k0 := (unhide H).rg.k0
  have HU := hide (fun W hW => cnum_any C s st 2 W hW hs (by omega) hp)
  have cn := M.rd2 s.data.toList st
  have hp1 := M.rd_pos (n := 2) hp
  have hlf : (M.lst s.data.toList (M.fldR s.data.toList (r.1.map kOf)) st) = M.reps (M.fldR s.data.toList (r.1.map kOf)) (M.rd s.data.toList 2 st).1 (M.rd s.data.toList 2 st).2 := rfl
  rw [hlf] at HP
  clear hlf
  obtain ⟨n, st1, e1⟩ : ∃ a b, M.rd s.data.toList 2 st = (a, b) := ⟨_, _, rfl⟩
  rw [e1] at HU cn hp1 HP
  simp only at HU cn hp1 HP
  clear e1
  go_wp2_with fail
  refine (unhide HU _ (unhide H).rg.c).mono ?_
  rintro e w2 ⟨rfl, hc2, hg2⟩
  have H2 := hide ((unhide H).cut hc2 hg2 hp1)
  clear HU hc2 hg2 k0 H
  go_upto_block 2 with fail
  refine Code.wp_mono OnlyN.imp (fields_loop hs cn H2 ?_)
  refine hide ?_
  intro fa fc v12 v156 v157 v158 v159 v160 v161 v162 v163 v164 v165 v166 v167 v168 v169 v170 v171 v172 v173 v174 v175 v176 w3 hR
  clear H2
  simp only [Exit.then]
  apply_assumption
  exact rc_methods hs hR HP
end Go.Proofs.Ytbgpkkbejbidlac
namespace Go.Proofs.Ytbgpkkbejbidlac
set_option linter.unusedVariables false
set_option linter.unusedSimpArgs false
open Go.RowKit
open Cl (HC FC UC MC LM Mj Own kOf)
set_option maxRecDepth 1000000 in
set_option maxHeartbeats 1000000 in
theorem rc_ifaces {post : Ending → World → Prop} {c1 c3 c4 c7 c8 c9 c10 c11 c12 c13 c14 c15 c16 c17 c18 c19 c20 c21 c22 c23 c24 c25 c26 c27 c28 c29 c30 c31 c32 c33 c34 c35 c36 c37 c38 c39 c40 c41 c42 c43 c44 c45 c46 c47 c48 c49 c50 c51 c52 c53 c54 c55 c56 c57 c58 c59 c60 c61 c62 c63 c64 c65 c66 c67 c68 c69 c70 c71 c72 c73 c74 c75 c76 c77 c78 c79 c80 c81 c82 c83 c84 c85 c86 c87 c88 c89 c90 c91 c92 c93 c94 c95 c96 c97 c98 c99 c100 c101 c102 c103 c104 c105 c106 c107 c108 c109 c110 c111 c112 c113 c114 c115 c116 c117 c118 c119 c120 c121 c122 c123 c124 c125 c126 c127 c128 c129 c130 c131 c132 c133 c134 c135 c136 c137 c138 c139 c140 c141 c142 c143 c144 c145 c146 c147 c148 c149 c150 c151 c152 c153 c154 c155 c156 c157 c158 c159 c160 c161 c162 c163 c164 c165 c166 c167 c168 c169 c170 c171 c172 c173 c174 c175 c176 c177 c178 c179 c180 c181 c182 c183 c184 c185 c186 c187 c188 c189 c190 c191 c192 c193 c194 c195 c196 c197 c198 c199 c200 c201 c202 c203 c204 c205 c206 c207 c208 c209 c210 c211 c212 c213 c214 c215 c216 c217 c218 c219 c220 c221 c222 c223 c224 c225 c226 c227 c228 c229 c230 c231 c232 c233 c234 c235 c236 c237 c238 c239 c240 c241 c242 c243 c244 c245 c246 c247 c248 c249 c250 c251 c252 c253 c254 c255 c256 c257 c258 c259 c260 c261 c262 c263 c264 c265 c266 c267 c268 c269 c270 c271 c272 c273 c274 c275 c276 c277 : Value} {w0 wB w1 : World} {Q C bc : Nat} {va : Option Addr} {vn vc : Nat} {s : ByteArray} {st : St} {r : Po.Res} {a b x2 x3 x4 : Nat} (hs : s.size ≤ 131072) (H : Hid (RW w0 wB w1 Q C bc (.slice va vn vc) s st #[.int .u16 (a : Int), .int .u16 (b : Int), .int .u16 (x2 : Int), .int .u16 (x3 : Int), .int .u16 (x4 : Int), .slice va vn vc, .slice none 0 0, .slice none 0 0, .slice none 0 0] (.slice none 0 0) (.slice none 0 0) (.slice none 0 0) r.1 [] [] [])) (HP : Hid (∀ x w', Cl.ReadC s.data.toList r (⟨a, b, (r.1.map kOf), x2, x3, x4, (M.lst s.data.toList (M.u16 s.data.toList) st).1, (M.lst s.data.toList (M.fldR s.data.toList (r.1.map kOf)) (M.lst s.data.toList (M.u16 s.data.toList) st).2).1, (M.lst s.data.toList (M.mthR s.data.toList (r.1.map kOf)) (M.lst s.data.toList (M.fldR s.data.toList (r.1.map kOf)) (M.lst s.data.toList (M.u16 s.data.toList) st).2).2).1⟩ : Cs) (M.fin s.data.toList (M.attsNR s.data.toList (r.1.map kOf) (M.none_ s.data.toList) () (M.lst s.data.toList (M.mthR s.data.toList (r.1.map kOf)) (M.lst s.data.toList (M.fldR s.data.toList (r.1.map kOf)) (M.lst s.data.toList (M.u16 s.data.toList) st).2).2).2).2) w0 x w' → post x w')) :
    Code.wp Try.prog ((Try.f17.body.map (tlOf 11)).getD .skip) (bodyPost Try.prog Try.f17 post) ⟨#[.string s, c1, .pointer (some ⟨w0.heap.size, 0, none⟩), c3, c4, .pointer (some ⟨Q, 0, none⟩), .pointer (some ⟨bc, 0, none⟩), c7, c8, c9, c10, c11, c12, c13, c14, c15, c16, c17, c18, c19, c20, c21, c22, c23, c24, c25, c26, c27, c28, c29, c30, c31, c32, c33, c34, c35, c36, c37, c38, c39, c40, c41, c42, c43, c44, c45, c46, c47, c48, c49, c50, c51, c52, c53, c54, c55, c56, c57, c58, c59, c60, c61, c62, c63, c64, c65, c66, c67, c68, c69, c70, c71, c72, c73, c74, c75, c76, c77, c78, c79, c80, c81, c82, c83, c84, c85, c86, c87, c88, c89, c90, c91, c92, c93, c94, c95, c96, c97, c98, c99, c100, c101, c102, c103, c104, c105, c106, c107, c108, c109, c110, c111, c112, c113, c114, c115, c116, c117, c118, c119, c120, c121, c122, c123, c124, c125, c126, c127, c128, c129, c130, c131, c132, c133, c134, c135, c136, c137, c138, c139, c140, c141, c142, c143, c144, c145, c146, c147, c148, c149, c150, c151, c152, c153, c154, c155, c156, c157, c158, c159, c160, c161, c162, c163, c164, c165, c166, c167, c168, c169, c170, c171, c172, c173, c174, c175, c176, c177, c178, c179, c180, c181, c182, c183, c184, c185, c186, c187, c188, c189, c190, c191, c192, c193, c194, c195, c196, c197, c198, c199, c200, c201, c202, c203, c204, c205, c206, c207, c208, c209, c210, c211, c212, c213, c214, c215, c216, c217, c218, c219, c220, c221, c222, c223, c224, c225, c226, c227, c228, c229, c230, c231, c232, c233, c234, c235, c236, c237, c238, c239, c240, c241, c242, c243, c244, c245, c246, c247, c248, c249, c250, c251, c252, c253, c254, c255, c256, c257, c258, c259, c260, c261, c262, c263, c264, c265, c266, c267, c268, c269, c270, c271, c272, c273, c274, c275, c276, c277], []⟩ w1 := by
  conv => arg 2; whnf
  have hp := (unhide H).rg.pos
  have k0 := (unhide H).rg.k0
  have HU := hide (fun W hW => cnum_any C s st 2 W hW hs (by omega) hp)
  have cn := M.rd2 s.data.toList st
  have hp1 := M.rd_pos (n := 2) hp
  have hlf : (M.lst s.data.toList (M.u16 s.data.toList) st) = M.reps (M.u16 s.data.toList) (M.rd s.data.toList 2 st).1 (M.rd s.data.toList 2 st).2 := rfl
  rw [hlf] at HP
  clear hlf
  obtain ⟨n, st1, e1⟩ : ∃ a b, M.rd s.data.toList 2 st = (a, b) := ⟨_, _, rfl⟩
  rw [e1] at HU cn hp1 HP
  simp only at HU cn hp1 HP
  clear e1
  go_wp2_with fail
  refine (unhide HU _ (unhide H).rg.c).mono ?_
  rintro e w2 ⟨rfl, hc2, hg2⟩
  have H2 := hide ((unhide H).cut hc2 hg2 hp1)
  clear HU hc2 hg2 k0 H
  go_upto_block 0 with fail
  refine Code.wp_mono OnlyN.imp (ifaces_loop hs cn H2 ?_)
  refine hide ?_
  intro ia ic v11 v130 v131 v132 v133 v134 v135 v136 v137 v138 v139 v140 v141 v142 v143 v144 v145 v146 v147 v148 v149 v150 w3 hR
  clear H2
  simp only [Exit.then]
  apply_assumption
  exact rc_fields hs hR HP
end Go.Proofs.Ytbgpkkbejbidlac
namespace Go.Proofs.Ytbgpkkbejbidlac
set_option linter.unusedVariables false
set_option linter.unusedSimpArgs false
open Go.RowKit
open Cl (HC FC UC MC LM Mj Own kOf)
/-- What follows the pool. -/
def M.rcT (s : List UInt8) (a b : Nat) (P : List K) (st : St) : Cs × St :=
  let t := M.three s st
  let i := M.lst s (M.u16 s) t.2.2.2
  let f := M.lst s (M.fldR s P) i.2
  let m := M.lst s (M.mthR s P) f.2
  let z := M.attsNR s P (M.none_ s) () m.2
  (⟨a, b, P, t.1, t.2.1, t.2.2.1, i.1, f.1, m.1⟩, z.2)
theorem M.clsR_mk (s : List UInt8) (st : St) (r : Po.Res) : M.clsR s st r = M.rcT s (Cl.M.hdr s st).1 (Cl.M.hdr s st).2.1 ((Cl.M.cst s (Cl.M.hdr s st).2.2 r).1.map kOf) (Cl.M.cst s (Cl.M.hdr s st).2.2 r).2 := rfl
set_option maxRecDepth 1000000 in
set_option maxHeartbeats 1000000 in
theorem rc_numbers {post : Ending → World → Prop} {c1 c3 c4 c7 c8 c9 c10 c11 c12 c13 c14 c15 c16 c17 c18 c19 c20 c21 c22 c23 c24 c25 c26 c27 c28 c29 c30 c31 c32 c33 c34 c35 c36 c37 c38 c39 c40 c41 c42 c43 c44 c45 c46 c47 c48 c49 c50 c51 c52 c53 c54 c55 c56 c57 c58 c59 c60 c61 c62 c63 c64 c65 c66 c67 c68 c69 c70 c71 c72 c73 c74 c75 c76 c77 c78 c79 c80 c81 c82 c83 c84 c85 c86 c87 c88 c89 c90 c91 c92 c93 c94 c95 c96 c97 c98 c99 c100 c101 c102 c103 c104 c105 c106 c107 c108 c109 c110 c111 c112 c113 c114 c115 c116 c117 c118 c119 c120 c121 c122 c123 c124 c125 c126 c127 c128 c129 c130 c131 c132 c133 c134 c135 c136 c137 c138 c139 c140 c141 c142 c143 c144 c145 c146 c147 c148 c149 c150 c151 c152 c153 c154 c155 c156 c157 c158 c159 c160 c161 c162 c163 c164 c165 c166 c167 c168 c169 c170 c171 c172 c173 c174 c175 c176 c177 c178 c179 c180 c181 c182 c183 c184 c185 c186 c187 c188 c189 c190 c191 c192 c193 c194 c195 c196 c197 c198 c199 c200 c201 c202 c203 c204 c205 c206 c207 c208 c209 c210 c211 c212 c213 c214 c215 c216 c217 c218 c219 c220 c221 c222 c223 c224 c225 c226 c227 c228 c229 c230 c231 c232 c233 c234 c235 c236 c237 c238 c239 c240 c241 c242 c243 c244 c245 c246 c247 c248 c249 c250 c251 c252 c253 c254 c255 c256 c257 c258 c259 c260 c261 c262 c263 c264 c265 c266 c267 c268 c269 c270 c271 c272 c273 c274 c275 c276 c277 : Value} {w0 wB w1 : World} {Q C bc : Nat} {va : Option Addr} {vn vc : Nat} {s : ByteArray} {st : St} {r : Po.Res} {a b : Nat} (hs : s.size ≤ 131072) (H : Hid (RW w0 wB w1 Q C bc (.slice va vn vc) s st #[.int .u16 (a : Int), .int .u16 (b : Int), .int .u16 0, .int .u16 0, .int .u16 0, .slice va vn vc, .slice none 0 0, .slice none 0 0, .slice none 0 0] (.slice none 0 0) (.slice none 0 0) (.slice none 0 0) r.1 [] [] [])) (HP : Hid (∀ x w', Cl.ReadC s.data.toList r (M.rcT s.data.toList a b (r.1.map kOf) st).1 (M.fin s.data.toList (M.rcT s.data.toList a b (r.1.map kOf) st).2) w0 x w' → post x w')) :
    Code.wp Try.prog ((Try.f17.body.map (tlOf 8)).getD .skip) (bodyPost Try.prog Try.f17 post) ⟨#[.string s, c1, .pointer (some ⟨w0.heap.size, 0, none⟩), c3, c4, .pointer (some ⟨Q, 0, none⟩), .pointer (some ⟨bc, 0, none⟩), c7, c8, c9, c10, c11, c12, c13, c14, c15, c16, c17, c18, c19, c20, c21, c22, c23, c24, c25, c26, c27, c28, c29, c30, c31, c32, c33, c34, c35, c36, c37, c38, c39, c40, c41, c42, c43, c44, c45, c46, c47, c48, c49, c50, c51, c52, c53, c54, c55, c56, c57, c58, c59, c60, c61, c62, c63, c64, c65, c66, c67, c68, c69, c70, c71, c72, c73, c74, c75, c76, c77, c78, c79, c80, c81, c82, c83, c84, c85, c86, c87, c88, c89, c90, c91, c92, c93, c94, c95, c96, c97, c98, c99, c100, c101, c102, c103, c104, c105, c106, c107, c108, c109, c110, c111, c112, c113, c114, c115, c116, c117, c118, c119, c120, c121, c122, c123, c124, c125, c126, c127, c128, c129, c130, c131, c132, c133, c134, c135, c136, c137, c138, c139, c140, c141, c142, c143, c144, c145, c146, c147, c148, c149, c150, c151, c152, c153, c154, c155, c156, c157, c158, c159, c160, c161, c162, c163, c164, c165, c166, c167, c168, c169, c170, c171, c172, c173, c174, c175, c176, c177, c178, c179, c180, c181, c182, c183, c184, c185, c186, c187, c188, c189, c190, c191, c192, c193, c194, c195, c196, c197, c198, c199, c200, c201, c202, c203, c204, c205, c206, c207, c208, c209, c210, c211, c212, c213, c214, c215, c216, c217, c218, c219, c220, c221, c222, c223, c224, c225, c226, c227, c228, c229, c230, c231, c232, c233, c234, c235, c236, c237, c238, c239, c240, c241, c242, c243, c244, c245, c246, c247, c248, c249, c250, c251, c252, c253, c254, c255, c256, c257, c258, c259, c260, c261, c262, c263, c264, c265, c266, c267, c268, c269, c270, c271, c272, c273, c274, c275, c276, c277], []⟩ w1 := by
  conv => arg 2; whnf
  have c1 := M.rd2 s.data.toList st
  have HU1 := hide (fun W hW => index_any Q C (.slice va vn vc) s st W hW hs)
  obtain ⟨x2, st1, e1⟩ : ∃ a b, M.rd s.data.toList 2 st = (a, b) := ⟨_, _, rfl⟩
  rw [e1] at c1 HU1
  simp only at c1 HU1
  have c2 := M.rd2 s.data.toList st1
  have HU2 := hide (fun W hW => index_any Q C (.slice va vn vc) s st1 W hW hs)
  obtain ⟨x3, st2, e2⟩ : ∃ a b, M.rd s.data.toList 2 st1 = (a, b) := ⟨_, _, rfl⟩
  rw [e2] at c2 HU2
  simp only at c2 HU2
  have c3 := M.rd2 s.data.toList st2
  have HU3 := hide (fun W hW => index_any Q C (.slice va vn vc) s st2 W hW hs)
  obtain ⟨x4, st3, e3⟩ : ∃ a b, M.rd s.data.toList 2 st2 = (a, b) := ⟨_, _, rfl⟩
  rw [e3] at c3 HU3
  simp only at c3 HU3
  have hthree : M.three s.data.toList st = (x2, x3, x4, st3) := by unfold M.three; simp only [e1, e2, e3]
  unfold M.rcT at HP
  simp only [hthree] at HP
  clear e1 e2 e3 hthree
  go_wp2_with fail
  refine (unhide HU1 _ (unhide H).rg).mono ?_
  rintro e w2 ⟨rfl, hr2, hg2⟩
  have F2 := (unhide H).step hr2 hg2
  have q2 := F2.c.cell 2
  have qf := F2.c.frozen
  simp at q2
  have F2s := F2.set 2 (.int .u16 (x2 : Int))
  simp only [List.setIfInBounds_toArray, List.set_cons_zero, List.set_cons_succ] at F2s
  have H2 := hide F2s
  clear HU1 H hr2 hg2 F2 F2s
  go_wp2_with fail
  refine (unhide HU2 _ (unhide H2).rg).mono ?_
  rintro e w3 ⟨rfl, hr3, hg3⟩
  have F3 := (unhide H2).step hr3 hg3
  clear q2 qf
  have q3 := F3.c.cell 3
  have qf := F3.c.frozen
  simp at q3
  obtain ⟨w4, hw4⟩ : ∃ w4, w4 = w3.setCell ⟨bc, 3, none⟩ (.int .u16 (x3 : Int)) := ⟨_, rfl⟩
  have H3 : Hid (RW w0 wB w4 Q C bc (.slice va vn vc) s st2 #[.int .u16 (a : Int), .int .u16 (b : Int), .int .u16 (x2 : Int), .int .u16 (x3 : Int), .int .u16 0, .slice va vn vc, .slice none 0 0, .slice none 0 0, .slice none 0 0] (.slice none 0 0) (.slice none 0 0) (.slice none 0 0) r.1 [] [] []) := by
    have F3s := F3.set 3 (.int .u16 (x3 : Int))
    simp only [List.setIfInBounds_toArray, List.set_cons_zero, List.set_cons_succ] at F3s
    rw [hw4]; exact F3s
  have Hw4 := hide hw4
  clear HU2 H2 hr3 hg3 F3 hw4
  go_upto_region 18 with fail
  rw [← unhide Hw4]
  clear Hw4 q3 qf
  go_cut [] (fun w' => Hid (RW w0 wB w' Q C bc (.slice va vn vc) s st3 #[.int .u16 (a : Int), .int .u16 (b : Int), .int .u16 (x2 : Int), .int .u16 (x3 : Int), .int .u16 (x4 : Int), .slice va vn vc, .slice none 0 0, .slice none 0 0, .slice none 0 0] (.slice none 0 0) (.slice none 0 0) (.slice none 0 0) r.1 [] [] []))
  case first =>
    go_wp2_with fail
    refine (unhide HU3 _ (unhide H3).rg).mono ?_
    rintro e w5 ⟨rfl, hr5, hg5⟩
    have F5 := (unhide H3).step hr5 hg5
    have q4 := F5.c.cell 4
    have qf := F5.c.frozen
    simp at q4
    have F5s := F5.set 4 (.int .u16 (x4 : Int))
    simp only [List.setIfInBounds_toArray, List.set_cons_zero, List.set_cons_succ] at F5s
    have H5 := hide F5s
    clear HU3 H3 hr5 hg5 F5 F5s
    go_wp2
    go_meet
    exact H5
  case rest =>
    apply_assumption
    exact rc_ifaces hs hcut HP
end Go.Proofs.Ytbgpkkbejbidlac
