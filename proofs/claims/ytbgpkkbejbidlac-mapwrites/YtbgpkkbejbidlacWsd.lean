/-
  The reference: WriteMap's choice: other locals, in full.
-/
import Derived.Test.YtbgpkkbejbidlacWsa
namespace Go.Proofs.Ytbgpkkbejbidlac
set_option linter.unusedVariables false
open Go.RowKit
set_option maxRecDepth 1000000 in
set_option maxHeartbeats 4000000 in
theorem sw_71 {Q : Exit → Act → World → Prop} {c0 c2 c3 c4 c5 c6 c7 c8 c9 c11 c12 c20 c21 c22 c23 c24 c25 c26 c27 c28 c29 c30 c31 c32 c33 c34 c35 c36 c37 c38 c39 c40 c41 c42 c43 c44 c45 c46 c47 c48 c49 c50 c51 c52 c53 c54 c55 c56 c57 c58 c59 c60 c61 c62 c63 c64 c65 c66 c67 c68 c69 c70 c71 c72 c73 c74 c75 c76 c77 c78 c79 c80 c81 c82 c83 c84 c85 c86 c87 c88 c89 c90 c91 c92 c93 c94 c95 c96 c97 c98 c99 c100 c101 c102 c103 c104 c105 c106 c107 c108 c109 c110 c111 c112 c113 c114 c115 c116 c117 c118 c119 c120 c121 c122 c123 c124 c125 c126 c127 c128 c129 c130 c131 c132 c133 c134 c135 c136 c137 c138 c139 c140 c141 c142 c143 c144 c145 c146 c147 c148 c149 c150 c151 c152 c153 c154 c155 c156 c157 c158 c159 c160 c161 c162 c163 c164 c165 c166 c167 c168 c169 c170 c171 c172 c173 c174 c175 c176 c177 c178 c179 c180 c181 c182 c183 c184 c185 c186 c187 c188 c189 c190 c191 c192 c193 c194 c195 c196 c197 c198 c199 c200 c201 c202 c203 c204 c205 c206 c207 c208 c209 c210 c211 c212 c213 c214 c215 c216 c217 c218 c219 c220 c221 c222 c223 c224 c225 c226 c227 c228 c229 c230 c231 c232 c233 c234 c235 c236 c237 c238 c239 c240 c241 c242 c243 c244 c245 c246 c247 c248 c249 c250 c251 c252 c253 c254 c255 c256 c257 c258 c259 c260 c261 c262 c263 c264 c265 : Value} {w4 : World} {P : List K} {f a : Fm} {pad aad fad sad : Option Addr} {pcap ac fcap scap X : Nat} {d e0 : Nat} {nv : Int} {sb bd : List UInt8} (HX4 : Hid (Bk w4 X #[.int .i64 f.at_, .slice fad f.locals.length fcap, .slice sad f.stack.length scap] 29)) (hT1 : TIn w4 (.slice fad f.locals.length fcap) f.locals) (hTa : TIn w4 (.slice aad a.locals.length ac) a.locals) (Hp4 : Hid (KIn w4 (.slice pad P.length pcap) P)) (hac : a.locals.length ≤ ac) (hfc : f.locals.length ≤ fcap) (hfl : f.locals.length ≤ 4096) (hla : a.locals.length ≤ 4096) (hfs : f.stack.length ≤ 4096) (hP : P.length ≤ 4096) (Htl : Hid (Tok f.locals)) (Hmay : Hid (M.may f a)) (Hdt : Hid ((f.at_ - a.at_ - 1).toNat = d)) (hd2 : d ≤ 65535) (Hbd : Hid (bd = M.big d 2)) (Htd : Hid (M.Td (M.vts P f.stack) sb e0)) (hsb : sb.length ≤ 3 * f.stack.length) (Hnv : Hid ((f.locals.length : Int) - (a.locals.length : Int) = nv))
    (hS : ¬ (f.locals.length = a.locals.length ∧ M.sh f.locals a.locals = f.locals.length)) (hn0 : nv < 0) (hn3 : ¬ -3 ≤ nv) (HN : Hid (NN f a))
    (HK : Hid (∀ (st : List UInt8) (x : Nat) (u20 u21 u22 u23 u83 u84 u85 u86 u87 u88 u89 u90 u91 u92 u93 u94 u95 u96 u97 u98 u99 u100 u101 u102 u103 u104 u105 u106 u107 u108 u109 u110 u111 u112 u113 u114 u115 u116 u117 u118 u119 u120 u121 u122 u123 u124 u125 u126 u127 u128 u129 u130 u131 u132 u133 u134 u135 u136 u137 u138 u139 u140 u141 u142 u143 u144 u145 u146 u147 u148 u149 u150 u151 u152 u153 u154 u155 u156 u157 u158 u159 u160 u161 u162 u163 u164 u165 u166 u167 u168 u169 u170 u171 u172 u173 u174 u175 u176 u177 u178 u179 u180 u181 u182 u183 u184 u185 u186 u187 u188 u189 u190 u191 u192 u193 u194 u195 u196 u197 u198 u199 u200 u201 u202 u203 u204 u205 u206 u207 u208 u209 u210 u211 u212 u213 u214 u215 u216 u217 u218 u219 u220 u221 u222 u223 u224 u225 u226 u227 u228 u229 u230 u231 u232 u233 u234 u235 u236 u237 u238 u239 u240 u241 u242 u243 u244 u245 u246 u247 u248 u249 u250 u251 : Value) (w' : World), M.Td (M.frw P f a) st x → st.length ≤ 30000 → Below w4.heap.size w4 w' → Q .normal ⟨#[c0, .slice pad P.length pcap, c2, c3, c4, c5, c6, c7, c8, c9, .slice aad a.locals.length ac, c11, c12, .pointer (some ⟨X, 0, none⟩), .int .i64 (d : Int), .string ⟨sb.toArray⟩, .int .i64 (x : Int), .int .i64 nv, .string ⟨bd.toArray⟩, .string ⟨st.toArray⟩, u20, u21, u22, u23, c24, c25, c26, c27, c28, c29, c30, c31, c32, c33, c34, c35, c36, c37, c38, c39, c40, c41, c42, c43, c44, c45, c46, c47, c48, c49, c50, c51, c52, c53, c54, c55, c56, c57, c58, c59, c60, c61, c62, c63, c64, c65, c66, c67, c68, c69, c70, c71, c72, c73, c74, c75, c76, c77, c78, c79, c80, c81, c82, u83, u84, u85, u86, u87, u88, u89, u90, u91, u92, u93, u94, u95, u96, u97, u98, u99, u100, u101, u102, u103, u104, u105, u106, u107, u108, u109, u110, u111, u112, u113, u114, u115, u116, u117, u118, u119, u120, u121, u122, u123, u124, u125, u126, u127, u128, u129, u130, u131, u132, u133, u134, u135, u136, u137, u138, u139, u140, u141, u142, u143, u144, u145, u146, u147, u148, u149, u150, u151, u152, u153, u154, u155, u156, u157, u158, u159, u160, u161, u162, u163, u164, u165, u166, u167, u168, u169, u170, u171, u172, u173, u174, u175, u176, u177, u178, u179, u180, u181, u182, u183, u184, u185, u186, u187, u188, u189, u190, u191, u192, u193, u194, u195, u196, u197, u198, u199, u200, u201, u202, u203, u204, u205, u206, u207, u208, u209, u210, u211, u212, u213, u214, u215, u216, u217, u218, u219, u220, u221, u222, u223, u224, u225, u226, u227, u228, u229, u230, u231, u232, u233, u234, u235, u236, u237, u238, u239, u240, u241, u242, u243, u244, u245, u246, u247, u248, u249, u250, u251, c252, c253, c254, c255, c256, c257, c258, c259, c260, c261, c262, c263, c264, c265], []⟩ w')) :
    Code.wp Try.prog ((Try.f13.body.bind swOf).getD .skip) Q ⟨#[c0, .slice pad P.length pcap, c2, c3, c4, c5, c6, c7, c8, c9, .slice aad a.locals.length ac, c11, c12, .pointer (some ⟨X, 0, none⟩), .int .i64 (d : Int), .string ⟨sb.toArray⟩, .int .i64 (e0 : Int), .int .i64 nv, .string ⟨bd.toArray⟩, .string ⟨#[]⟩, c20, c21, c22, c23, c24, c25, c26, c27, c28, c29, c30, c31, c32, c33, c34, c35, c36, c37, c38, c39, c40, c41, c42, c43, c44, c45, c46, c47, c48, c49, c50, c51, c52, c53, c54, c55, c56, c57, c58, c59, c60, c61, c62, c63, c64, c65, c66, c67, c68, c69, c70, c71, c72, c73, c74, c75, c76, c77, c78, c79, c80, c81, c82, c83, c84, c85, c86, c87, c88, c89, c90, c91, c92, c93, c94, c95, c96, c97, c98, c99, c100, c101, c102, c103, c104, c105, c106, c107, c108, c109, c110, c111, c112, c113, c114, c115, c116, c117, c118, c119, c120, c121, c122, c123, c124, c125, c126, c127, c128, c129, c130, c131, c132, c133, c134, c135, c136, c137, c138, c139, c140, c141, c142, c143, c144, c145, c146, c147, c148, c149, c150, c151, c152, c153, c154, c155, c156, c157, c158, c159, c160, c161, c162, c163, c164, c165, c166, c167, c168, c169, c170, c171, c172, c173, c174, c175, c176, c177, c178, c179, c180, c181, c182, c183, c184, c185, c186, c187, c188, c189, c190, c191, c192, c193, c194, c195, c196, c197, c198, c199, c200, c201, c202, c203, c204, c205, c206, c207, c208, c209, c210, c211, c212, c213, c214, c215, c216, c217, c218, c219, c220, c221, c222, c223, c224, c225, c226, c227, c228, c229, c230, c231, c232, c233, c234, c235, c236, c237, c238, c239, c240, c241, c242, c243, c244, c245, c246, c247, c248, c249, c250, c251, c252, c253, c254, c255, c256, c257, c258, c259, c260, c261, c262, c263, c264, c265], []⟩ w4 := by
  have z0 : w4.cell? ⟨X, 0, none⟩ = some (.int .i64 f.at_) := (unhide HX4).cell 0
  have z1 : w4.cell? ⟨X, 1, none⟩ = some (.slice fad f.locals.length fcap) := (unhide HX4).cell 1
  have z2 : w4.cell? ⟨X, 2, none⟩ = some (.slice sad f.stack.length scap) := (unhide HX4).cell 2
  have hbdl : bd.length = 2 := by rw [unhide Hbd, M.big_len]
  have hsh := M.sh_le f.locals a.locals
  have hnv := unhide Hnv
  have HS := hide (same_at hT1 hTa (by omega) (decide_eq_false hS))
  have HT1 := hide hT1
  have g1 : decide (0 < nv) = false := by rw [decide_eq_false_iff_not]; omega
  have g2 : decide (-3 ≤ nv) = false := decide_eq_false hn3
  clear hS hn3
  clear hT1 hTa hsh hnv
  conv => arg 2; whnf
  go_wp2_with fail
  refine (unhide HS 0).mono ?_
  rintro e w10 ⟨rfl, m0, hw0⟩
  subst hw0
  go_wp2_with fail
  refine (unhide HS _).mono ?_
  rintro e w11 ⟨rfl, m1, hw1⟩
  subst hw1
  go_wp2_with fail
  refine (unhide HS _).mono ?_
  rintro e w12 ⟨rfl, m2, hw2⟩
  subst hw2
  go_wp2_with fail
  refine (unhide HS _).mono ?_
  rintro e w13 ⟨rfl, m3, hw3⟩
  subst hw3
  go_wp2_with fail
  go_quiet (fail)
  go_upto_if 210 with fail
  refine arm_last (fad := fad) (sad := sad) (fcap := fcap) (scap := scap) ?_ ?_ ?_ hfl hfs hP Htl Hmay Hdt Hbd Htd hsb HN ?_
  · exact (unhide HX4).below (below_drewN w4 _ _)
  · exact (unhide HT1).below (below_drewN w4 _ _)
  · exact (unhide Hp4).below (below_drewN w4 _ _)
  · refine hide ?_
    intro st x v22 v23 v83 v84 v85 v86 v87 v88 v89 v90 v91 v92 v93 v94 v95 v96 v97 v98 v99 v100 v101 v102 v103 v104 v105 v106 v107 v108 v109 v110 w' h1 h2 h3
    exact unhide HK st x _ _ _ _ _ _ _ _ _ _ _ _ _ _ _ _ _ _ _ _ _ _ _ _ _ _ _ _ _ _ _ _ _ _ _ _ _ _ _ _ _ _ _ _ _ _ _ _ _ _ _ _ _ _ _ _ _ _ _ _ _ _ _ _ _ _ _ _ _ _ _ _ _ _ _ _ _ _ _ _ _ _ _ _ _ _ _ _ _ _ _ _ _ _ _ _ _ _ _ _ _ _ _ _ _ _ _ _ _ _ _ _ _ _ _ _ _ _ _ _ _ _ _ _ _ _ _ _ _ _ _ _ _ _ _ _ _ _ _ _ _ _ _ _ _ _ _ _ _ _ _ _ _ _ _ _ _ _ _ _ _ _ _ _ _ _ _ _ _ _ _ _ _ _ h1 h2 (below_via (below_drewN w4 _ _) h3)
set_option maxRecDepth 1000000 in
set_option maxHeartbeats 4000000 in
theorem sw_72 {Q : Exit → Act → World → Prop} {c0 c2 c3 c4 c5 c6 c7 c8 c9 c11 c12 c20 c21 c22 c23 c24 c25 c26 c27 c28 c29 c30 c31 c32 c33 c34 c35 c36 c37 c38 c39 c40 c41 c42 c43 c44 c45 c46 c47 c48 c49 c50 c51 c52 c53 c54 c55 c56 c57 c58 c59 c60 c61 c62 c63 c64 c65 c66 c67 c68 c69 c70 c71 c72 c73 c74 c75 c76 c77 c78 c79 c80 c81 c82 c83 c84 c85 c86 c87 c88 c89 c90 c91 c92 c93 c94 c95 c96 c97 c98 c99 c100 c101 c102 c103 c104 c105 c106 c107 c108 c109 c110 c111 c112 c113 c114 c115 c116 c117 c118 c119 c120 c121 c122 c123 c124 c125 c126 c127 c128 c129 c130 c131 c132 c133 c134 c135 c136 c137 c138 c139 c140 c141 c142 c143 c144 c145 c146 c147 c148 c149 c150 c151 c152 c153 c154 c155 c156 c157 c158 c159 c160 c161 c162 c163 c164 c165 c166 c167 c168 c169 c170 c171 c172 c173 c174 c175 c176 c177 c178 c179 c180 c181 c182 c183 c184 c185 c186 c187 c188 c189 c190 c191 c192 c193 c194 c195 c196 c197 c198 c199 c200 c201 c202 c203 c204 c205 c206 c207 c208 c209 c210 c211 c212 c213 c214 c215 c216 c217 c218 c219 c220 c221 c222 c223 c224 c225 c226 c227 c228 c229 c230 c231 c232 c233 c234 c235 c236 c237 c238 c239 c240 c241 c242 c243 c244 c245 c246 c247 c248 c249 c250 c251 c252 c253 c254 c255 c256 c257 c258 c259 c260 c261 c262 c263 c264 c265 : Value} {w4 : World} {P : List K} {f a : Fm} {pad aad fad sad : Option Addr} {pcap ac fcap scap X : Nat} {d e0 : Nat} {nv : Int} {sb bd : List UInt8} (HX4 : Hid (Bk w4 X #[.int .i64 f.at_, .slice fad f.locals.length fcap, .slice sad f.stack.length scap] 29)) (hT1 : TIn w4 (.slice fad f.locals.length fcap) f.locals) (hTa : TIn w4 (.slice aad a.locals.length ac) a.locals) (Hp4 : Hid (KIn w4 (.slice pad P.length pcap) P)) (hac : a.locals.length ≤ ac) (hfc : f.locals.length ≤ fcap) (hfl : f.locals.length ≤ 4096) (hla : a.locals.length ≤ 4096) (hfs : f.stack.length ≤ 4096) (hP : P.length ≤ 4096) (Htl : Hid (Tok f.locals)) (Hmay : Hid (M.may f a)) (Hdt : Hid ((f.at_ - a.at_ - 1).toNat = d)) (hd2 : d ≤ 65535) (Hbd : Hid (bd = M.big d 2)) (Htd : Hid (M.Td (M.vts P f.stack) sb e0)) (hsb : sb.length ≤ 3 * f.stack.length) (Hnv : Hid ((f.locals.length : Int) - (a.locals.length : Int) = nv))
    (hS : ¬ (f.locals.length = a.locals.length ∧ M.sh f.locals a.locals = f.locals.length)) (hn0 : nv < 0) (hn3 : -3 ≤ nv) (hs : ¬ M.sh f.locals a.locals = f.locals.length) (HN : Hid (NN f a))
    (HK : Hid (∀ (st : List UInt8) (x : Nat) (u20 u21 u22 u23 u83 u84 u85 u86 u87 u88 u89 u90 u91 u92 u93 u94 u95 u96 u97 u98 u99 u100 u101 u102 u103 u104 u105 u106 u107 u108 u109 u110 u111 u112 u113 u114 u115 u116 u117 u118 u119 u120 u121 u122 u123 u124 u125 u126 u127 u128 u129 u130 u131 u132 u133 u134 u135 u136 u137 u138 u139 u140 u141 u142 u143 u144 u145 u146 u147 u148 u149 u150 u151 u152 u153 u154 u155 u156 u157 u158 u159 u160 u161 u162 u163 u164 u165 u166 u167 u168 u169 u170 u171 u172 u173 u174 u175 u176 u177 u178 u179 u180 u181 u182 u183 u184 u185 u186 u187 u188 u189 u190 u191 u192 u193 u194 u195 u196 u197 u198 u199 u200 u201 u202 u203 u204 u205 u206 u207 u208 u209 u210 u211 u212 u213 u214 u215 u216 u217 u218 u219 u220 u221 u222 u223 u224 u225 u226 u227 u228 u229 u230 u231 u232 u233 u234 u235 u236 u237 u238 u239 u240 u241 u242 u243 u244 u245 u246 u247 u248 u249 u250 u251 : Value) (w' : World), M.Td (M.frw P f a) st x → st.length ≤ 30000 → Below w4.heap.size w4 w' → Q .normal ⟨#[c0, .slice pad P.length pcap, c2, c3, c4, c5, c6, c7, c8, c9, .slice aad a.locals.length ac, c11, c12, .pointer (some ⟨X, 0, none⟩), .int .i64 (d : Int), .string ⟨sb.toArray⟩, .int .i64 (x : Int), .int .i64 nv, .string ⟨bd.toArray⟩, .string ⟨st.toArray⟩, u20, u21, u22, u23, c24, c25, c26, c27, c28, c29, c30, c31, c32, c33, c34, c35, c36, c37, c38, c39, c40, c41, c42, c43, c44, c45, c46, c47, c48, c49, c50, c51, c52, c53, c54, c55, c56, c57, c58, c59, c60, c61, c62, c63, c64, c65, c66, c67, c68, c69, c70, c71, c72, c73, c74, c75, c76, c77, c78, c79, c80, c81, c82, u83, u84, u85, u86, u87, u88, u89, u90, u91, u92, u93, u94, u95, u96, u97, u98, u99, u100, u101, u102, u103, u104, u105, u106, u107, u108, u109, u110, u111, u112, u113, u114, u115, u116, u117, u118, u119, u120, u121, u122, u123, u124, u125, u126, u127, u128, u129, u130, u131, u132, u133, u134, u135, u136, u137, u138, u139, u140, u141, u142, u143, u144, u145, u146, u147, u148, u149, u150, u151, u152, u153, u154, u155, u156, u157, u158, u159, u160, u161, u162, u163, u164, u165, u166, u167, u168, u169, u170, u171, u172, u173, u174, u175, u176, u177, u178, u179, u180, u181, u182, u183, u184, u185, u186, u187, u188, u189, u190, u191, u192, u193, u194, u195, u196, u197, u198, u199, u200, u201, u202, u203, u204, u205, u206, u207, u208, u209, u210, u211, u212, u213, u214, u215, u216, u217, u218, u219, u220, u221, u222, u223, u224, u225, u226, u227, u228, u229, u230, u231, u232, u233, u234, u235, u236, u237, u238, u239, u240, u241, u242, u243, u244, u245, u246, u247, u248, u249, u250, u251, c252, c253, c254, c255, c256, c257, c258, c259, c260, c261, c262, c263, c264, c265], []⟩ w')) :
    Code.wp Try.prog ((Try.f13.body.bind swOf).getD .skip) Q ⟨#[c0, .slice pad P.length pcap, c2, c3, c4, c5, c6, c7, c8, c9, .slice aad a.locals.length ac, c11, c12, .pointer (some ⟨X, 0, none⟩), .int .i64 (d : Int), .string ⟨sb.toArray⟩, .int .i64 (e0 : Int), .int .i64 nv, .string ⟨bd.toArray⟩, .string ⟨#[]⟩, c20, c21, c22, c23, c24, c25, c26, c27, c28, c29, c30, c31, c32, c33, c34, c35, c36, c37, c38, c39, c40, c41, c42, c43, c44, c45, c46, c47, c48, c49, c50, c51, c52, c53, c54, c55, c56, c57, c58, c59, c60, c61, c62, c63, c64, c65, c66, c67, c68, c69, c70, c71, c72, c73, c74, c75, c76, c77, c78, c79, c80, c81, c82, c83, c84, c85, c86, c87, c88, c89, c90, c91, c92, c93, c94, c95, c96, c97, c98, c99, c100, c101, c102, c103, c104, c105, c106, c107, c108, c109, c110, c111, c112, c113, c114, c115, c116, c117, c118, c119, c120, c121, c122, c123, c124, c125, c126, c127, c128, c129, c130, c131, c132, c133, c134, c135, c136, c137, c138, c139, c140, c141, c142, c143, c144, c145, c146, c147, c148, c149, c150, c151, c152, c153, c154, c155, c156, c157, c158, c159, c160, c161, c162, c163, c164, c165, c166, c167, c168, c169, c170, c171, c172, c173, c174, c175, c176, c177, c178, c179, c180, c181, c182, c183, c184, c185, c186, c187, c188, c189, c190, c191, c192, c193, c194, c195, c196, c197, c198, c199, c200, c201, c202, c203, c204, c205, c206, c207, c208, c209, c210, c211, c212, c213, c214, c215, c216, c217, c218, c219, c220, c221, c222, c223, c224, c225, c226, c227, c228, c229, c230, c231, c232, c233, c234, c235, c236, c237, c238, c239, c240, c241, c242, c243, c244, c245, c246, c247, c248, c249, c250, c251, c252, c253, c254, c255, c256, c257, c258, c259, c260, c261, c262, c263, c264, c265], []⟩ w4 := by
  have z0 : w4.cell? ⟨X, 0, none⟩ = some (.int .i64 f.at_) := (unhide HX4).cell 0
  have z1 : w4.cell? ⟨X, 1, none⟩ = some (.slice fad f.locals.length fcap) := (unhide HX4).cell 1
  have z2 : w4.cell? ⟨X, 2, none⟩ = some (.slice sad f.stack.length scap) := (unhide HX4).cell 2
  have hbdl : bd.length = 2 := by rw [unhide Hbd, M.big_len]
  have hsh := M.sh_le f.locals a.locals
  have hnv := unhide Hnv
  have HS := hide (same_at hT1 hTa (by omega) (decide_eq_false hS))
  have HT1 := hide hT1
  have g1 : decide (0 < nv) = false := by rw [decide_eq_false_iff_not]; omega
  have hle5 : f.locals.length ≤ a.locals.length := by omega
  have g3 : (f.locals.length : Int) ≤ (ac : Int) := by omega
  have hd : (f.locals.length = (a.locals.take f.locals.length).length ∧ M.sh f.locals (a.locals.take f.locals.length) = f.locals.length) ↔ M.sh f.locals a.locals = f.locals.length := by rw [List.length_take, M.sh_take_right]; omega
  have HS2 := hide (fun (W : World) (hW : Below w4.heap.size w4 W) => same_q (hT1.below hW) ((hTa.below hW).take (cap' := ac) f.locals.length hle5) (by omega) (decide_eq_false (fun h => hs (hd.1 h))))
  clear hS hs hle5 hd
  clear hT1 hTa hsh hnv
  conv => arg 2; whnf
  go_wp2_with fail
  refine (unhide HS 0).mono ?_
  rintro e w10 ⟨rfl, m0, hw0⟩
  subst hw0
  go_wp2_with fail
  refine (unhide HS _).mono ?_
  rintro e w11 ⟨rfl, m1, hw1⟩
  subst hw1
  go_wp2_with fail
  refine (unhide HS _).mono ?_
  rintro e w12 ⟨rfl, m2, hw2⟩
  subst hw2
  go_wp2_with fail
  refine (unhide HS _).mono ?_
  rintro e w13 ⟨rfl, m3, hw3⟩
  subst hw3
  have hb5 := below_drewN w4 m3 w4.heap.size
  have x0 := ((unhide HX4).below hb5).cell 0
  have x1 := ((unhide HX4).below hb5).cell 1
  have x2 := ((unhide HX4).below hb5).cell 2
  clear z0 z1 z2
  generalize w4.drewN m3 = w5 at *
  have z0 : w5.cell? ⟨X, 0, none⟩ = some (.int .i64 f.at_) := x0
  have z1 : w5.cell? ⟨X, 1, none⟩ = some (.slice fad f.locals.length fcap) := x1
  have z2 : w5.cell? ⟨X, 2, none⟩ = some (.slice sad f.stack.length scap) := x2
  clear x0 x1 x2
  have HS3 := hide (unhide HS2 w5 hb5)
  clear HS2 HS
  go_wp2_with fail
  go_quiet ((go_at_call 33; exact Calls.quiet_of (unhide HS3 _)))
  go_upto_if 210 with fail
  refine arm_last (fad := fad) (sad := sad) (fcap := fcap) (scap := scap) ?_ ?_ ?_ hfl hfs hP Htl Hmay Hdt Hbd Htd hsb HN ?_
  · exact (unhide HX4).below (hb5.trans (below_drewN w5 _ _))
  · exact (unhide HT1).below (hb5.trans (below_drewN w5 _ _))
  · exact (unhide Hp4).below (hb5.trans (below_drewN w5 _ _))
  · refine hide ?_
    intro st x v22 v23 v83 v84 v85 v86 v87 v88 v89 v90 v91 v92 v93 v94 v95 v96 v97 v98 v99 v100 v101 v102 v103 v104 v105 v106 v107 v108 v109 v110 w' h1 h2 h3
    exact unhide HK st x _ _ _ _ _ _ _ _ _ _ _ _ _ _ _ _ _ _ _ _ _ _ _ _ _ _ _ _ _ _ _ _ _ _ _ _ _ _ _ _ _ _ _ _ _ _ _ _ _ _ _ _ _ _ _ _ _ _ _ _ _ _ _ _ _ _ _ _ _ _ _ _ _ _ _ _ _ _ _ _ _ _ _ _ _ _ _ _ _ _ _ _ _ _ _ _ _ _ _ _ _ _ _ _ _ _ _ _ _ _ _ _ _ _ _ _ _ _ _ _ _ _ _ _ _ _ _ _ _ _ _ _ _ _ _ _ _ _ _ _ _ _ _ _ _ _ _ _ _ _ _ _ _ _ _ _ _ _ _ _ _ _ _ _ _ _ _ _ _ _ _ _ _ _ h1 h2 (below_via (hb5.trans (below_drewN w5 _ _)) h3)
set_option maxRecDepth 1000000 in
set_option maxHeartbeats 4000000 in
theorem sw_73 {Q : Exit → Act → World → Prop} {c0 c2 c3 c4 c5 c6 c7 c8 c9 c11 c12 c20 c21 c22 c23 c24 c25 c26 c27 c28 c29 c30 c31 c32 c33 c34 c35 c36 c37 c38 c39 c40 c41 c42 c43 c44 c45 c46 c47 c48 c49 c50 c51 c52 c53 c54 c55 c56 c57 c58 c59 c60 c61 c62 c63 c64 c65 c66 c67 c68 c69 c70 c71 c72 c73 c74 c75 c76 c77 c78 c79 c80 c81 c82 c83 c84 c85 c86 c87 c88 c89 c90 c91 c92 c93 c94 c95 c96 c97 c98 c99 c100 c101 c102 c103 c104 c105 c106 c107 c108 c109 c110 c111 c112 c113 c114 c115 c116 c117 c118 c119 c120 c121 c122 c123 c124 c125 c126 c127 c128 c129 c130 c131 c132 c133 c134 c135 c136 c137 c138 c139 c140 c141 c142 c143 c144 c145 c146 c147 c148 c149 c150 c151 c152 c153 c154 c155 c156 c157 c158 c159 c160 c161 c162 c163 c164 c165 c166 c167 c168 c169 c170 c171 c172 c173 c174 c175 c176 c177 c178 c179 c180 c181 c182 c183 c184 c185 c186 c187 c188 c189 c190 c191 c192 c193 c194 c195 c196 c197 c198 c199 c200 c201 c202 c203 c204 c205 c206 c207 c208 c209 c210 c211 c212 c213 c214 c215 c216 c217 c218 c219 c220 c221 c222 c223 c224 c225 c226 c227 c228 c229 c230 c231 c232 c233 c234 c235 c236 c237 c238 c239 c240 c241 c242 c243 c244 c245 c246 c247 c248 c249 c250 c251 c252 c253 c254 c255 c256 c257 c258 c259 c260 c261 c262 c263 c264 c265 : Value} {w4 : World} {P : List K} {f a : Fm} {pad aad fad sad : Option Addr} {pcap ac fcap scap X : Nat} {d e0 : Nat} {nv : Int} {sb bd : List UInt8} (HX4 : Hid (Bk w4 X #[.int .i64 f.at_, .slice fad f.locals.length fcap, .slice sad f.stack.length scap] 29)) (hT1 : TIn w4 (.slice fad f.locals.length fcap) f.locals) (hTa : TIn w4 (.slice aad a.locals.length ac) a.locals) (Hp4 : Hid (KIn w4 (.slice pad P.length pcap) P)) (hac : a.locals.length ≤ ac) (hfc : f.locals.length ≤ fcap) (hfl : f.locals.length ≤ 4096) (hla : a.locals.length ≤ 4096) (hfs : f.stack.length ≤ 4096) (hP : P.length ≤ 4096) (Htl : Hid (Tok f.locals)) (Hmay : Hid (M.may f a)) (Hdt : Hid ((f.at_ - a.at_ - 1).toNat = d)) (hd2 : d ≤ 65535) (Hbd : Hid (bd = M.big d 2)) (Htd : Hid (M.Td (M.vts P f.stack) sb e0)) (hsb : sb.length ≤ 3 * f.stack.length) (Hnv : Hid ((f.locals.length : Int) - (a.locals.length : Int) = nv))
    (hS : ¬ (f.locals.length = a.locals.length ∧ M.sh f.locals a.locals = f.locals.length)) (hn0 : nv < 0) (hn3 : -3 ≤ nv) (hs : M.sh f.locals a.locals = f.locals.length) (hs1 : 0 < f.stack.length) (HN : Hid (NN f a))
    (HK : Hid (∀ (st : List UInt8) (x : Nat) (u20 u21 u22 u23 u83 u84 u85 u86 u87 u88 u89 u90 u91 u92 u93 u94 u95 u96 u97 u98 u99 u100 u101 u102 u103 u104 u105 u106 u107 u108 u109 u110 u111 u112 u113 u114 u115 u116 u117 u118 u119 u120 u121 u122 u123 u124 u125 u126 u127 u128 u129 u130 u131 u132 u133 u134 u135 u136 u137 u138 u139 u140 u141 u142 u143 u144 u145 u146 u147 u148 u149 u150 u151 u152 u153 u154 u155 u156 u157 u158 u159 u160 u161 u162 u163 u164 u165 u166 u167 u168 u169 u170 u171 u172 u173 u174 u175 u176 u177 u178 u179 u180 u181 u182 u183 u184 u185 u186 u187 u188 u189 u190 u191 u192 u193 u194 u195 u196 u197 u198 u199 u200 u201 u202 u203 u204 u205 u206 u207 u208 u209 u210 u211 u212 u213 u214 u215 u216 u217 u218 u219 u220 u221 u222 u223 u224 u225 u226 u227 u228 u229 u230 u231 u232 u233 u234 u235 u236 u237 u238 u239 u240 u241 u242 u243 u244 u245 u246 u247 u248 u249 u250 u251 : Value) (w' : World), M.Td (M.frw P f a) st x → st.length ≤ 30000 → Below w4.heap.size w4 w' → Q .normal ⟨#[c0, .slice pad P.length pcap, c2, c3, c4, c5, c6, c7, c8, c9, .slice aad a.locals.length ac, c11, c12, .pointer (some ⟨X, 0, none⟩), .int .i64 (d : Int), .string ⟨sb.toArray⟩, .int .i64 (x : Int), .int .i64 nv, .string ⟨bd.toArray⟩, .string ⟨st.toArray⟩, u20, u21, u22, u23, c24, c25, c26, c27, c28, c29, c30, c31, c32, c33, c34, c35, c36, c37, c38, c39, c40, c41, c42, c43, c44, c45, c46, c47, c48, c49, c50, c51, c52, c53, c54, c55, c56, c57, c58, c59, c60, c61, c62, c63, c64, c65, c66, c67, c68, c69, c70, c71, c72, c73, c74, c75, c76, c77, c78, c79, c80, c81, c82, u83, u84, u85, u86, u87, u88, u89, u90, u91, u92, u93, u94, u95, u96, u97, u98, u99, u100, u101, u102, u103, u104, u105, u106, u107, u108, u109, u110, u111, u112, u113, u114, u115, u116, u117, u118, u119, u120, u121, u122, u123, u124, u125, u126, u127, u128, u129, u130, u131, u132, u133, u134, u135, u136, u137, u138, u139, u140, u141, u142, u143, u144, u145, u146, u147, u148, u149, u150, u151, u152, u153, u154, u155, u156, u157, u158, u159, u160, u161, u162, u163, u164, u165, u166, u167, u168, u169, u170, u171, u172, u173, u174, u175, u176, u177, u178, u179, u180, u181, u182, u183, u184, u185, u186, u187, u188, u189, u190, u191, u192, u193, u194, u195, u196, u197, u198, u199, u200, u201, u202, u203, u204, u205, u206, u207, u208, u209, u210, u211, u212, u213, u214, u215, u216, u217, u218, u219, u220, u221, u222, u223, u224, u225, u226, u227, u228, u229, u230, u231, u232, u233, u234, u235, u236, u237, u238, u239, u240, u241, u242, u243, u244, u245, u246, u247, u248, u249, u250, u251, c252, c253, c254, c255, c256, c257, c258, c259, c260, c261, c262, c263, c264, c265], []⟩ w')) :
    Code.wp Try.prog ((Try.f13.body.bind swOf).getD .skip) Q ⟨#[c0, .slice pad P.length pcap, c2, c3, c4, c5, c6, c7, c8, c9, .slice aad a.locals.length ac, c11, c12, .pointer (some ⟨X, 0, none⟩), .int .i64 (d : Int), .string ⟨sb.toArray⟩, .int .i64 (e0 : Int), .int .i64 nv, .string ⟨bd.toArray⟩, .string ⟨#[]⟩, c20, c21, c22, c23, c24, c25, c26, c27, c28, c29, c30, c31, c32, c33, c34, c35, c36, c37, c38, c39, c40, c41, c42, c43, c44, c45, c46, c47, c48, c49, c50, c51, c52, c53, c54, c55, c56, c57, c58, c59, c60, c61, c62, c63, c64, c65, c66, c67, c68, c69, c70, c71, c72, c73, c74, c75, c76, c77, c78, c79, c80, c81, c82, c83, c84, c85, c86, c87, c88, c89, c90, c91, c92, c93, c94, c95, c96, c97, c98, c99, c100, c101, c102, c103, c104, c105, c106, c107, c108, c109, c110, c111, c112, c113, c114, c115, c116, c117, c118, c119, c120, c121, c122, c123, c124, c125, c126, c127, c128, c129, c130, c131, c132, c133, c134, c135, c136, c137, c138, c139, c140, c141, c142, c143, c144, c145, c146, c147, c148, c149, c150, c151, c152, c153, c154, c155, c156, c157, c158, c159, c160, c161, c162, c163, c164, c165, c166, c167, c168, c169, c170, c171, c172, c173, c174, c175, c176, c177, c178, c179, c180, c181, c182, c183, c184, c185, c186, c187, c188, c189, c190, c191, c192, c193, c194, c195, c196, c197, c198, c199, c200, c201, c202, c203, c204, c205, c206, c207, c208, c209, c210, c211, c212, c213, c214, c215, c216, c217, c218, c219, c220, c221, c222, c223, c224, c225, c226, c227, c228, c229, c230, c231, c232, c233, c234, c235, c236, c237, c238, c239, c240, c241, c242, c243, c244, c245, c246, c247, c248, c249, c250, c251, c252, c253, c254, c255, c256, c257, c258, c259, c260, c261, c262, c263, c264, c265], []⟩ w4 := by
  have z0 : w4.cell? ⟨X, 0, none⟩ = some (.int .i64 f.at_) := (unhide HX4).cell 0
  have z1 : w4.cell? ⟨X, 1, none⟩ = some (.slice fad f.locals.length fcap) := (unhide HX4).cell 1
  have z2 : w4.cell? ⟨X, 2, none⟩ = some (.slice sad f.stack.length scap) := (unhide HX4).cell 2
  have hbdl : bd.length = 2 := by rw [unhide Hbd, M.big_len]
  have hsh := M.sh_le f.locals a.locals
  have hnv := unhide Hnv
  have HS := hide (same_at hT1 hTa (by omega) (decide_eq_false hS))
  have HT1 := hide hT1
  have g1 : decide (0 < nv) = false := by rw [decide_eq_false_iff_not]; omega
  have q0 : (((f.stack.length : Nat) : Int) == 0) = false := by rw [beq_eq_false_iff_ne]; omega
  have hle5 : f.locals.length ≤ a.locals.length := by omega
  have g3 : (f.locals.length : Int) ≤ (ac : Int) := by omega
  have hd : (f.locals.length = (a.locals.take f.locals.length).length ∧ M.sh f.locals (a.locals.take f.locals.length) = f.locals.length) ↔ M.sh f.locals a.locals = f.locals.length := by rw [List.length_take, M.sh_take_right]; omega
  have HS2 := hide (fun (W : World) (hW : Below w4.heap.size w4 W) => same_q (hT1.below hW) ((hTa.below hW).take (cap' := ac) f.locals.length hle5) (by omega) (decide_eq_true (hd.2 hs)))
  clear hS hs hs1 hle5 hd
  clear hT1 hTa hsh hnv
  conv => arg 2; whnf
  go_wp2_with fail
  refine (unhide HS 0).mono ?_
  rintro e w10 ⟨rfl, m0, hw0⟩
  subst hw0
  go_wp2_with fail
  refine (unhide HS _).mono ?_
  rintro e w11 ⟨rfl, m1, hw1⟩
  subst hw1
  go_wp2_with fail
  refine (unhide HS _).mono ?_
  rintro e w12 ⟨rfl, m2, hw2⟩
  subst hw2
  go_wp2_with fail
  refine (unhide HS _).mono ?_
  rintro e w13 ⟨rfl, m3, hw3⟩
  subst hw3
  have hb5 := below_drewN w4 m3 w4.heap.size
  have x0 := ((unhide HX4).below hb5).cell 0
  have x1 := ((unhide HX4).below hb5).cell 1
  have x2 := ((unhide HX4).below hb5).cell 2
  clear z0 z1 z2
  generalize w4.drewN m3 = w5 at *
  have z0 : w5.cell? ⟨X, 0, none⟩ = some (.int .i64 f.at_) := x0
  have z1 : w5.cell? ⟨X, 1, none⟩ = some (.slice fad f.locals.length fcap) := x1
  have z2 : w5.cell? ⟨X, 2, none⟩ = some (.slice sad f.stack.length scap) := x2
  clear x0 x1 x2
  have HS3 := hide (unhide HS2 w5 hb5)
  clear HS2 HS
  go_wp2_with fail
  go_quiet ((go_at_call 33; exact Calls.quiet_of (unhide HS3 _)))
  go_upto_if 210 with fail
  refine arm_last (fad := fad) (sad := sad) (fcap := fcap) (scap := scap) ?_ ?_ ?_ hfl hfs hP Htl Hmay Hdt Hbd Htd hsb HN ?_
  · exact (unhide HX4).below (hb5.trans (below_drewN w5 _ _))
  · exact (unhide HT1).below (hb5.trans (below_drewN w5 _ _))
  · exact (unhide Hp4).below (hb5.trans (below_drewN w5 _ _))
  · refine hide ?_
    intro st x v22 v23 v83 v84 v85 v86 v87 v88 v89 v90 v91 v92 v93 v94 v95 v96 v97 v98 v99 v100 v101 v102 v103 v104 v105 v106 v107 v108 v109 v110 w' h1 h2 h3
    exact unhide HK st x _ _ _ _ _ _ _ _ _ _ _ _ _ _ _ _ _ _ _ _ _ _ _ _ _ _ _ _ _ _ _ _ _ _ _ _ _ _ _ _ _ _ _ _ _ _ _ _ _ _ _ _ _ _ _ _ _ _ _ _ _ _ _ _ _ _ _ _ _ _ _ _ _ _ _ _ _ _ _ _ _ _ _ _ _ _ _ _ _ _ _ _ _ _ _ _ _ _ _ _ _ _ _ _ _ _ _ _ _ _ _ _ _ _ _ _ _ _ _ _ _ _ _ _ _ _ _ _ _ _ _ _ _ _ _ _ _ _ _ _ _ _ _ _ _ _ _ _ _ _ _ _ _ _ _ _ _ _ _ _ _ _ _ _ _ _ _ _ _ _ _ _ _ _ h1 h2 (below_via (hb5.trans (below_drewN w5 _ _)) h3)
set_option maxRecDepth 1000000 in
set_option maxHeartbeats 4000000 in
theorem sw_74 {Q : Exit → Act → World → Prop} {c0 c2 c3 c4 c5 c6 c7 c8 c9 c11 c12 c20 c21 c22 c23 c24 c25 c26 c27 c28 c29 c30 c31 c32 c33 c34 c35 c36 c37 c38 c39 c40 c41 c42 c43 c44 c45 c46 c47 c48 c49 c50 c51 c52 c53 c54 c55 c56 c57 c58 c59 c60 c61 c62 c63 c64 c65 c66 c67 c68 c69 c70 c71 c72 c73 c74 c75 c76 c77 c78 c79 c80 c81 c82 c83 c84 c85 c86 c87 c88 c89 c90 c91 c92 c93 c94 c95 c96 c97 c98 c99 c100 c101 c102 c103 c104 c105 c106 c107 c108 c109 c110 c111 c112 c113 c114 c115 c116 c117 c118 c119 c120 c121 c122 c123 c124 c125 c126 c127 c128 c129 c130 c131 c132 c133 c134 c135 c136 c137 c138 c139 c140 c141 c142 c143 c144 c145 c146 c147 c148 c149 c150 c151 c152 c153 c154 c155 c156 c157 c158 c159 c160 c161 c162 c163 c164 c165 c166 c167 c168 c169 c170 c171 c172 c173 c174 c175 c176 c177 c178 c179 c180 c181 c182 c183 c184 c185 c186 c187 c188 c189 c190 c191 c192 c193 c194 c195 c196 c197 c198 c199 c200 c201 c202 c203 c204 c205 c206 c207 c208 c209 c210 c211 c212 c213 c214 c215 c216 c217 c218 c219 c220 c221 c222 c223 c224 c225 c226 c227 c228 c229 c230 c231 c232 c233 c234 c235 c236 c237 c238 c239 c240 c241 c242 c243 c244 c245 c246 c247 c248 c249 c250 c251 c252 c253 c254 c255 c256 c257 c258 c259 c260 c261 c262 c263 c264 c265 : Value} {w4 : World} {P : List K} {f a : Fm} {pad aad fad sad : Option Addr} {pcap ac fcap scap X : Nat} {d e0 : Nat} {nv : Int} {sb bd : List UInt8} (HX4 : Hid (Bk w4 X #[.int .i64 f.at_, .slice fad f.locals.length fcap, .slice sad f.stack.length scap] 29)) (hT1 : TIn w4 (.slice fad f.locals.length fcap) f.locals) (hTa : TIn w4 (.slice aad a.locals.length ac) a.locals) (Hp4 : Hid (KIn w4 (.slice pad P.length pcap) P)) (hac : a.locals.length ≤ ac) (hfc : f.locals.length ≤ fcap) (hfl : f.locals.length ≤ 4096) (hla : a.locals.length ≤ 4096) (hfs : f.stack.length ≤ 4096) (hP : P.length ≤ 4096) (Htl : Hid (Tok f.locals)) (Hmay : Hid (M.may f a)) (Hdt : Hid ((f.at_ - a.at_ - 1).toNat = d)) (hd2 : d ≤ 65535) (Hbd : Hid (bd = M.big d 2)) (Htd : Hid (M.Td (M.vts P f.stack) sb e0)) (hsb : sb.length ≤ 3 * f.stack.length) (Hnv : Hid ((f.locals.length : Int) - (a.locals.length : Int) = nv))
    (hS : ¬ (f.locals.length = a.locals.length ∧ M.sh f.locals a.locals = f.locals.length)) (hn0 : nv = 0) (HN : Hid (NN f a))
    (HK : Hid (∀ (st : List UInt8) (x : Nat) (u20 u21 u22 u23 u83 u84 u85 u86 u87 u88 u89 u90 u91 u92 u93 u94 u95 u96 u97 u98 u99 u100 u101 u102 u103 u104 u105 u106 u107 u108 u109 u110 u111 u112 u113 u114 u115 u116 u117 u118 u119 u120 u121 u122 u123 u124 u125 u126 u127 u128 u129 u130 u131 u132 u133 u134 u135 u136 u137 u138 u139 u140 u141 u142 u143 u144 u145 u146 u147 u148 u149 u150 u151 u152 u153 u154 u155 u156 u157 u158 u159 u160 u161 u162 u163 u164 u165 u166 u167 u168 u169 u170 u171 u172 u173 u174 u175 u176 u177 u178 u179 u180 u181 u182 u183 u184 u185 u186 u187 u188 u189 u190 u191 u192 u193 u194 u195 u196 u197 u198 u199 u200 u201 u202 u203 u204 u205 u206 u207 u208 u209 u210 u211 u212 u213 u214 u215 u216 u217 u218 u219 u220 u221 u222 u223 u224 u225 u226 u227 u228 u229 u230 u231 u232 u233 u234 u235 u236 u237 u238 u239 u240 u241 u242 u243 u244 u245 u246 u247 u248 u249 u250 u251 : Value) (w' : World), M.Td (M.frw P f a) st x → st.length ≤ 30000 → Below w4.heap.size w4 w' → Q .normal ⟨#[c0, .slice pad P.length pcap, c2, c3, c4, c5, c6, c7, c8, c9, .slice aad a.locals.length ac, c11, c12, .pointer (some ⟨X, 0, none⟩), .int .i64 (d : Int), .string ⟨sb.toArray⟩, .int .i64 (x : Int), .int .i64 nv, .string ⟨bd.toArray⟩, .string ⟨st.toArray⟩, u20, u21, u22, u23, c24, c25, c26, c27, c28, c29, c30, c31, c32, c33, c34, c35, c36, c37, c38, c39, c40, c41, c42, c43, c44, c45, c46, c47, c48, c49, c50, c51, c52, c53, c54, c55, c56, c57, c58, c59, c60, c61, c62, c63, c64, c65, c66, c67, c68, c69, c70, c71, c72, c73, c74, c75, c76, c77, c78, c79, c80, c81, c82, u83, u84, u85, u86, u87, u88, u89, u90, u91, u92, u93, u94, u95, u96, u97, u98, u99, u100, u101, u102, u103, u104, u105, u106, u107, u108, u109, u110, u111, u112, u113, u114, u115, u116, u117, u118, u119, u120, u121, u122, u123, u124, u125, u126, u127, u128, u129, u130, u131, u132, u133, u134, u135, u136, u137, u138, u139, u140, u141, u142, u143, u144, u145, u146, u147, u148, u149, u150, u151, u152, u153, u154, u155, u156, u157, u158, u159, u160, u161, u162, u163, u164, u165, u166, u167, u168, u169, u170, u171, u172, u173, u174, u175, u176, u177, u178, u179, u180, u181, u182, u183, u184, u185, u186, u187, u188, u189, u190, u191, u192, u193, u194, u195, u196, u197, u198, u199, u200, u201, u202, u203, u204, u205, u206, u207, u208, u209, u210, u211, u212, u213, u214, u215, u216, u217, u218, u219, u220, u221, u222, u223, u224, u225, u226, u227, u228, u229, u230, u231, u232, u233, u234, u235, u236, u237, u238, u239, u240, u241, u242, u243, u244, u245, u246, u247, u248, u249, u250, u251, c252, c253, c254, c255, c256, c257, c258, c259, c260, c261, c262, c263, c264, c265], []⟩ w')) :
    Code.wp Try.prog ((Try.f13.body.bind swOf).getD .skip) Q ⟨#[c0, .slice pad P.length pcap, c2, c3, c4, c5, c6, c7, c8, c9, .slice aad a.locals.length ac, c11, c12, .pointer (some ⟨X, 0, none⟩), .int .i64 (d : Int), .string ⟨sb.toArray⟩, .int .i64 (e0 : Int), .int .i64 nv, .string ⟨bd.toArray⟩, .string ⟨#[]⟩, c20, c21, c22, c23, c24, c25, c26, c27, c28, c29, c30, c31, c32, c33, c34, c35, c36, c37, c38, c39, c40, c41, c42, c43, c44, c45, c46, c47, c48, c49, c50, c51, c52, c53, c54, c55, c56, c57, c58, c59, c60, c61, c62, c63, c64, c65, c66, c67, c68, c69, c70, c71, c72, c73, c74, c75, c76, c77, c78, c79, c80, c81, c82, c83, c84, c85, c86, c87, c88, c89, c90, c91, c92, c93, c94, c95, c96, c97, c98, c99, c100, c101, c102, c103, c104, c105, c106, c107, c108, c109, c110, c111, c112, c113, c114, c115, c116, c117, c118, c119, c120, c121, c122, c123, c124, c125, c126, c127, c128, c129, c130, c131, c132, c133, c134, c135, c136, c137, c138, c139, c140, c141, c142, c143, c144, c145, c146, c147, c148, c149, c150, c151, c152, c153, c154, c155, c156, c157, c158, c159, c160, c161, c162, c163, c164, c165, c166, c167, c168, c169, c170, c171, c172, c173, c174, c175, c176, c177, c178, c179, c180, c181, c182, c183, c184, c185, c186, c187, c188, c189, c190, c191, c192, c193, c194, c195, c196, c197, c198, c199, c200, c201, c202, c203, c204, c205, c206, c207, c208, c209, c210, c211, c212, c213, c214, c215, c216, c217, c218, c219, c220, c221, c222, c223, c224, c225, c226, c227, c228, c229, c230, c231, c232, c233, c234, c235, c236, c237, c238, c239, c240, c241, c242, c243, c244, c245, c246, c247, c248, c249, c250, c251, c252, c253, c254, c255, c256, c257, c258, c259, c260, c261, c262, c263, c264, c265], []⟩ w4 := by
  have z0 : w4.cell? ⟨X, 0, none⟩ = some (.int .i64 f.at_) := (unhide HX4).cell 0
  have z1 : w4.cell? ⟨X, 1, none⟩ = some (.slice fad f.locals.length fcap) := (unhide HX4).cell 1
  have z2 : w4.cell? ⟨X, 2, none⟩ = some (.slice sad f.stack.length scap) := (unhide HX4).cell 2
  have hbdl : bd.length = 2 := by rw [unhide Hbd, M.big_len]
  have hsh := M.sh_le f.locals a.locals
  have hnv := unhide Hnv
  have HS := hide (same_at hT1 hTa (by omega) (decide_eq_false hS))
  have HT1 := hide hT1
  have g0 : decide (nv < 0) = false := by rw [decide_eq_false_iff_not]; omega
  have g1 : decide (0 < nv) = false := by rw [decide_eq_false_iff_not]; omega
  clear hS hn0
  clear hT1 hTa hsh hnv
  conv => arg 2; whnf
  go_wp2_with fail
  refine (unhide HS 0).mono ?_
  rintro e w10 ⟨rfl, m0, hw0⟩
  subst hw0
  go_wp2_with fail
  refine (unhide HS _).mono ?_
  rintro e w11 ⟨rfl, m1, hw1⟩
  subst hw1
  go_wp2_with fail
  refine (unhide HS _).mono ?_
  rintro e w12 ⟨rfl, m2, hw2⟩
  subst hw2
  go_wp2_with fail
  refine (unhide HS _).mono ?_
  rintro e w13 ⟨rfl, m3, hw3⟩
  subst hw3
  go_wp2_with fail
  go_quiet (fail)
  go_upto_if 210 with fail
  refine arm_last (fad := fad) (sad := sad) (fcap := fcap) (scap := scap) ?_ ?_ ?_ hfl hfs hP Htl Hmay Hdt Hbd Htd hsb HN ?_
  · exact (unhide HX4).below (below_drewN w4 _ _)
  · exact (unhide HT1).below (below_drewN w4 _ _)
  · exact (unhide Hp4).below (below_drewN w4 _ _)
  · refine hide ?_
    intro st x v22 v23 v83 v84 v85 v86 v87 v88 v89 v90 v91 v92 v93 v94 v95 v96 v97 v98 v99 v100 v101 v102 v103 v104 v105 v106 v107 v108 v109 v110 w' h1 h2 h3
    exact unhide HK st x _ _ _ _ _ _ _ _ _ _ _ _ _ _ _ _ _ _ _ _ _ _ _ _ _ _ _ _ _ _ _ _ _ _ _ _ _ _ _ _ _ _ _ _ _ _ _ _ _ _ _ _ _ _ _ _ _ _ _ _ _ _ _ _ _ _ _ _ _ _ _ _ _ _ _ _ _ _ _ _ _ _ _ _ _ _ _ _ _ _ _ _ _ _ _ _ _ _ _ _ _ _ _ _ _ _ _ _ _ _ _ _ _ _ _ _ _ _ _ _ _ _ _ _ _ _ _ _ _ _ _ _ _ _ _ _ _ _ _ _ _ _ _ _ _ _ _ _ _ _ _ _ _ _ _ _ _ _ _ _ _ _ _ _ _ _ _ _ _ _ _ _ _ _ h1 h2 (below_via (below_drewN w4 _ _) h3)
set_option maxRecDepth 1000000 in
set_option maxHeartbeats 4000000 in
theorem sw_75 {Q : Exit → Act → World → Prop} {c0 c2 c3 c4 c5 c6 c7 c8 c9 c11 c12 c20 c21 c22 c23 c24 c25 c26 c27 c28 c29 c30 c31 c32 c33 c34 c35 c36 c37 c38 c39 c40 c41 c42 c43 c44 c45 c46 c47 c48 c49 c50 c51 c52 c53 c54 c55 c56 c57 c58 c59 c60 c61 c62 c63 c64 c65 c66 c67 c68 c69 c70 c71 c72 c73 c74 c75 c76 c77 c78 c79 c80 c81 c82 c83 c84 c85 c86 c87 c88 c89 c90 c91 c92 c93 c94 c95 c96 c97 c98 c99 c100 c101 c102 c103 c104 c105 c106 c107 c108 c109 c110 c111 c112 c113 c114 c115 c116 c117 c118 c119 c120 c121 c122 c123 c124 c125 c126 c127 c128 c129 c130 c131 c132 c133 c134 c135 c136 c137 c138 c139 c140 c141 c142 c143 c144 c145 c146 c147 c148 c149 c150 c151 c152 c153 c154 c155 c156 c157 c158 c159 c160 c161 c162 c163 c164 c165 c166 c167 c168 c169 c170 c171 c172 c173 c174 c175 c176 c177 c178 c179 c180 c181 c182 c183 c184 c185 c186 c187 c188 c189 c190 c191 c192 c193 c194 c195 c196 c197 c198 c199 c200 c201 c202 c203 c204 c205 c206 c207 c208 c209 c210 c211 c212 c213 c214 c215 c216 c217 c218 c219 c220 c221 c222 c223 c224 c225 c226 c227 c228 c229 c230 c231 c232 c233 c234 c235 c236 c237 c238 c239 c240 c241 c242 c243 c244 c245 c246 c247 c248 c249 c250 c251 c252 c253 c254 c255 c256 c257 c258 c259 c260 c261 c262 c263 c264 c265 : Value} {w4 : World} {P : List K} {f a : Fm} {pad aad fad sad : Option Addr} {pcap ac fcap scap X : Nat} {d e0 : Nat} {nv : Int} {sb bd : List UInt8} (HX4 : Hid (Bk w4 X #[.int .i64 f.at_, .slice fad f.locals.length fcap, .slice sad f.stack.length scap] 29)) (hT1 : TIn w4 (.slice fad f.locals.length fcap) f.locals) (hTa : TIn w4 (.slice aad a.locals.length ac) a.locals) (Hp4 : Hid (KIn w4 (.slice pad P.length pcap) P)) (hac : a.locals.length ≤ ac) (hfc : f.locals.length ≤ fcap) (hfl : f.locals.length ≤ 4096) (hla : a.locals.length ≤ 4096) (hfs : f.stack.length ≤ 4096) (hP : P.length ≤ 4096) (Htl : Hid (Tok f.locals)) (Hmay : Hid (M.may f a)) (Hdt : Hid ((f.at_ - a.at_ - 1).toNat = d)) (hd2 : d ≤ 65535) (Hbd : Hid (bd = M.big d 2)) (Htd : Hid (M.Td (M.vts P f.stack) sb e0)) (hsb : sb.length ≤ 3 * f.stack.length) (Hnv : Hid ((f.locals.length : Int) - (a.locals.length : Int) = nv))
    (hS : ¬ (f.locals.length = a.locals.length ∧ M.sh f.locals a.locals = f.locals.length)) (hn0 : 0 < nv) (hn3 : ¬ nv ≤ 3) (HN : Hid (NN f a))
    (HK : Hid (∀ (st : List UInt8) (x : Nat) (u20 u21 u22 u23 u83 u84 u85 u86 u87 u88 u89 u90 u91 u92 u93 u94 u95 u96 u97 u98 u99 u100 u101 u102 u103 u104 u105 u106 u107 u108 u109 u110 u111 u112 u113 u114 u115 u116 u117 u118 u119 u120 u121 u122 u123 u124 u125 u126 u127 u128 u129 u130 u131 u132 u133 u134 u135 u136 u137 u138 u139 u140 u141 u142 u143 u144 u145 u146 u147 u148 u149 u150 u151 u152 u153 u154 u155 u156 u157 u158 u159 u160 u161 u162 u163 u164 u165 u166 u167 u168 u169 u170 u171 u172 u173 u174 u175 u176 u177 u178 u179 u180 u181 u182 u183 u184 u185 u186 u187 u188 u189 u190 u191 u192 u193 u194 u195 u196 u197 u198 u199 u200 u201 u202 u203 u204 u205 u206 u207 u208 u209 u210 u211 u212 u213 u214 u215 u216 u217 u218 u219 u220 u221 u222 u223 u224 u225 u226 u227 u228 u229 u230 u231 u232 u233 u234 u235 u236 u237 u238 u239 u240 u241 u242 u243 u244 u245 u246 u247 u248 u249 u250 u251 : Value) (w' : World), M.Td (M.frw P f a) st x → st.length ≤ 30000 → Below w4.heap.size w4 w' → Q .normal ⟨#[c0, .slice pad P.length pcap, c2, c3, c4, c5, c6, c7, c8, c9, .slice aad a.locals.length ac, c11, c12, .pointer (some ⟨X, 0, none⟩), .int .i64 (d : Int), .string ⟨sb.toArray⟩, .int .i64 (x : Int), .int .i64 nv, .string ⟨bd.toArray⟩, .string ⟨st.toArray⟩, u20, u21, u22, u23, c24, c25, c26, c27, c28, c29, c30, c31, c32, c33, c34, c35, c36, c37, c38, c39, c40, c41, c42, c43, c44, c45, c46, c47, c48, c49, c50, c51, c52, c53, c54, c55, c56, c57, c58, c59, c60, c61, c62, c63, c64, c65, c66, c67, c68, c69, c70, c71, c72, c73, c74, c75, c76, c77, c78, c79, c80, c81, c82, u83, u84, u85, u86, u87, u88, u89, u90, u91, u92, u93, u94, u95, u96, u97, u98, u99, u100, u101, u102, u103, u104, u105, u106, u107, u108, u109, u110, u111, u112, u113, u114, u115, u116, u117, u118, u119, u120, u121, u122, u123, u124, u125, u126, u127, u128, u129, u130, u131, u132, u133, u134, u135, u136, u137, u138, u139, u140, u141, u142, u143, u144, u145, u146, u147, u148, u149, u150, u151, u152, u153, u154, u155, u156, u157, u158, u159, u160, u161, u162, u163, u164, u165, u166, u167, u168, u169, u170, u171, u172, u173, u174, u175, u176, u177, u178, u179, u180, u181, u182, u183, u184, u185, u186, u187, u188, u189, u190, u191, u192, u193, u194, u195, u196, u197, u198, u199, u200, u201, u202, u203, u204, u205, u206, u207, u208, u209, u210, u211, u212, u213, u214, u215, u216, u217, u218, u219, u220, u221, u222, u223, u224, u225, u226, u227, u228, u229, u230, u231, u232, u233, u234, u235, u236, u237, u238, u239, u240, u241, u242, u243, u244, u245, u246, u247, u248, u249, u250, u251, c252, c253, c254, c255, c256, c257, c258, c259, c260, c261, c262, c263, c264, c265], []⟩ w')) :
    Code.wp Try.prog ((Try.f13.body.bind swOf).getD .skip) Q ⟨#[c0, .slice pad P.length pcap, c2, c3, c4, c5, c6, c7, c8, c9, .slice aad a.locals.length ac, c11, c12, .pointer (some ⟨X, 0, none⟩), .int .i64 (d : Int), .string ⟨sb.toArray⟩, .int .i64 (e0 : Int), .int .i64 nv, .string ⟨bd.toArray⟩, .string ⟨#[]⟩, c20, c21, c22, c23, c24, c25, c26, c27, c28, c29, c30, c31, c32, c33, c34, c35, c36, c37, c38, c39, c40, c41, c42, c43, c44, c45, c46, c47, c48, c49, c50, c51, c52, c53, c54, c55, c56, c57, c58, c59, c60, c61, c62, c63, c64, c65, c66, c67, c68, c69, c70, c71, c72, c73, c74, c75, c76, c77, c78, c79, c80, c81, c82, c83, c84, c85, c86, c87, c88, c89, c90, c91, c92, c93, c94, c95, c96, c97, c98, c99, c100, c101, c102, c103, c104, c105, c106, c107, c108, c109, c110, c111, c112, c113, c114, c115, c116, c117, c118, c119, c120, c121, c122, c123, c124, c125, c126, c127, c128, c129, c130, c131, c132, c133, c134, c135, c136, c137, c138, c139, c140, c141, c142, c143, c144, c145, c146, c147, c148, c149, c150, c151, c152, c153, c154, c155, c156, c157, c158, c159, c160, c161, c162, c163, c164, c165, c166, c167, c168, c169, c170, c171, c172, c173, c174, c175, c176, c177, c178, c179, c180, c181, c182, c183, c184, c185, c186, c187, c188, c189, c190, c191, c192, c193, c194, c195, c196, c197, c198, c199, c200, c201, c202, c203, c204, c205, c206, c207, c208, c209, c210, c211, c212, c213, c214, c215, c216, c217, c218, c219, c220, c221, c222, c223, c224, c225, c226, c227, c228, c229, c230, c231, c232, c233, c234, c235, c236, c237, c238, c239, c240, c241, c242, c243, c244, c245, c246, c247, c248, c249, c250, c251, c252, c253, c254, c255, c256, c257, c258, c259, c260, c261, c262, c263, c264, c265], []⟩ w4 := by
  have z0 : w4.cell? ⟨X, 0, none⟩ = some (.int .i64 f.at_) := (unhide HX4).cell 0
  have z1 : w4.cell? ⟨X, 1, none⟩ = some (.slice fad f.locals.length fcap) := (unhide HX4).cell 1
  have z2 : w4.cell? ⟨X, 2, none⟩ = some (.slice sad f.stack.length scap) := (unhide HX4).cell 2
  have hbdl : bd.length = 2 := by rw [unhide Hbd, M.big_len]
  have hsh := M.sh_le f.locals a.locals
  have hnv := unhide Hnv
  have HS := hide (same_at hT1 hTa (by omega) (decide_eq_false hS))
  have HT1 := hide hT1
  have g0 : decide (nv < 0) = false := by rw [decide_eq_false_iff_not]; omega
  clear hS
  clear hT1 hTa hsh hnv
  conv => arg 2; whnf
  go_wp2_with fail
  refine (unhide HS 0).mono ?_
  rintro e w10 ⟨rfl, m0, hw0⟩
  subst hw0
  go_wp2_with fail
  refine (unhide HS _).mono ?_
  rintro e w11 ⟨rfl, m1, hw1⟩
  subst hw1
  go_wp2_with fail
  refine (unhide HS _).mono ?_
  rintro e w12 ⟨rfl, m2, hw2⟩
  subst hw2
  go_wp2_with fail
  refine (unhide HS _).mono ?_
  rintro e w13 ⟨rfl, m3, hw3⟩
  subst hw3
  go_wp2_with fail
  go_quiet (fail)
  go_upto_if 210 with fail
  refine arm_last (fad := fad) (sad := sad) (fcap := fcap) (scap := scap) ?_ ?_ ?_ hfl hfs hP Htl Hmay Hdt Hbd Htd hsb HN ?_
  · exact (unhide HX4).below (below_drewN w4 _ _)
  · exact (unhide HT1).below (below_drewN w4 _ _)
  · exact (unhide Hp4).below (below_drewN w4 _ _)
  · refine hide ?_
    intro st x v22 v23 v83 v84 v85 v86 v87 v88 v89 v90 v91 v92 v93 v94 v95 v96 v97 v98 v99 v100 v101 v102 v103 v104 v105 v106 v107 v108 v109 v110 w' h1 h2 h3
    exact unhide HK st x _ _ _ _ _ _ _ _ _ _ _ _ _ _ _ _ _ _ _ _ _ _ _ _ _ _ _ _ _ _ _ _ _ _ _ _ _ _ _ _ _ _ _ _ _ _ _ _ _ _ _ _ _ _ _ _ _ _ _ _ _ _ _ _ _ _ _ _ _ _ _ _ _ _ _ _ _ _ _ _ _ _ _ _ _ _ _ _ _ _ _ _ _ _ _ _ _ _ _ _ _ _ _ _ _ _ _ _ _ _ _ _ _ _ _ _ _ _ _ _ _ _ _ _ _ _ _ _ _ _ _ _ _ _ _ _ _ _ _ _ _ _ _ _ _ _ _ _ _ _ _ _ _ _ _ _ _ _ _ _ _ _ _ _ _ _ _ _ _ _ _ _ _ _ h1 h2 (below_via (below_drewN w4 _ _) h3)
set_option maxRecDepth 1000000 in
set_option maxHeartbeats 4000000 in
theorem sw_76 {Q : Exit → Act → World → Prop} {c0 c2 c3 c4 c5 c6 c7 c8 c9 c11 c12 c20 c21 c22 c23 c24 c25 c26 c27 c28 c29 c30 c31 c32 c33 c34 c35 c36 c37 c38 c39 c40 c41 c42 c43 c44 c45 c46 c47 c48 c49 c50 c51 c52 c53 c54 c55 c56 c57 c58 c59 c60 c61 c62 c63 c64 c65 c66 c67 c68 c69 c70 c71 c72 c73 c74 c75 c76 c77 c78 c79 c80 c81 c82 c83 c84 c85 c86 c87 c88 c89 c90 c91 c92 c93 c94 c95 c96 c97 c98 c99 c100 c101 c102 c103 c104 c105 c106 c107 c108 c109 c110 c111 c112 c113 c114 c115 c116 c117 c118 c119 c120 c121 c122 c123 c124 c125 c126 c127 c128 c129 c130 c131 c132 c133 c134 c135 c136 c137 c138 c139 c140 c141 c142 c143 c144 c145 c146 c147 c148 c149 c150 c151 c152 c153 c154 c155 c156 c157 c158 c159 c160 c161 c162 c163 c164 c165 c166 c167 c168 c169 c170 c171 c172 c173 c174 c175 c176 c177 c178 c179 c180 c181 c182 c183 c184 c185 c186 c187 c188 c189 c190 c191 c192 c193 c194 c195 c196 c197 c198 c199 c200 c201 c202 c203 c204 c205 c206 c207 c208 c209 c210 c211 c212 c213 c214 c215 c216 c217 c218 c219 c220 c221 c222 c223 c224 c225 c226 c227 c228 c229 c230 c231 c232 c233 c234 c235 c236 c237 c238 c239 c240 c241 c242 c243 c244 c245 c246 c247 c248 c249 c250 c251 c252 c253 c254 c255 c256 c257 c258 c259 c260 c261 c262 c263 c264 c265 : Value} {w4 : World} {P : List K} {f a : Fm} {pad aad fad sad : Option Addr} {pcap ac fcap scap X : Nat} {d e0 : Nat} {nv : Int} {sb bd : List UInt8} (HX4 : Hid (Bk w4 X #[.int .i64 f.at_, .slice fad f.locals.length fcap, .slice sad f.stack.length scap] 29)) (hT1 : TIn w4 (.slice fad f.locals.length fcap) f.locals) (hTa : TIn w4 (.slice aad a.locals.length ac) a.locals) (Hp4 : Hid (KIn w4 (.slice pad P.length pcap) P)) (hac : a.locals.length ≤ ac) (hfc : f.locals.length ≤ fcap) (hfl : f.locals.length ≤ 4096) (hla : a.locals.length ≤ 4096) (hfs : f.stack.length ≤ 4096) (hP : P.length ≤ 4096) (Htl : Hid (Tok f.locals)) (Hmay : Hid (M.may f a)) (Hdt : Hid ((f.at_ - a.at_ - 1).toNat = d)) (hd2 : d ≤ 65535) (Hbd : Hid (bd = M.big d 2)) (Htd : Hid (M.Td (M.vts P f.stack) sb e0)) (hsb : sb.length ≤ 3 * f.stack.length) (Hnv : Hid ((f.locals.length : Int) - (a.locals.length : Int) = nv))
    (hS : ¬ (f.locals.length = a.locals.length ∧ M.sh f.locals a.locals = f.locals.length)) (hn0 : 0 < nv) (hn3 : nv ≤ 3) (hs : ¬ M.sh f.locals a.locals = a.locals.length) (HN : Hid (NN f a))
    (HK : Hid (∀ (st : List UInt8) (x : Nat) (u20 u21 u22 u23 u83 u84 u85 u86 u87 u88 u89 u90 u91 u92 u93 u94 u95 u96 u97 u98 u99 u100 u101 u102 u103 u104 u105 u106 u107 u108 u109 u110 u111 u112 u113 u114 u115 u116 u117 u118 u119 u120 u121 u122 u123 u124 u125 u126 u127 u128 u129 u130 u131 u132 u133 u134 u135 u136 u137 u138 u139 u140 u141 u142 u143 u144 u145 u146 u147 u148 u149 u150 u151 u152 u153 u154 u155 u156 u157 u158 u159 u160 u161 u162 u163 u164 u165 u166 u167 u168 u169 u170 u171 u172 u173 u174 u175 u176 u177 u178 u179 u180 u181 u182 u183 u184 u185 u186 u187 u188 u189 u190 u191 u192 u193 u194 u195 u196 u197 u198 u199 u200 u201 u202 u203 u204 u205 u206 u207 u208 u209 u210 u211 u212 u213 u214 u215 u216 u217 u218 u219 u220 u221 u222 u223 u224 u225 u226 u227 u228 u229 u230 u231 u232 u233 u234 u235 u236 u237 u238 u239 u240 u241 u242 u243 u244 u245 u246 u247 u248 u249 u250 u251 : Value) (w' : World), M.Td (M.frw P f a) st x → st.length ≤ 30000 → Below w4.heap.size w4 w' → Q .normal ⟨#[c0, .slice pad P.length pcap, c2, c3, c4, c5, c6, c7, c8, c9, .slice aad a.locals.length ac, c11, c12, .pointer (some ⟨X, 0, none⟩), .int .i64 (d : Int), .string ⟨sb.toArray⟩, .int .i64 (x : Int), .int .i64 nv, .string ⟨bd.toArray⟩, .string ⟨st.toArray⟩, u20, u21, u22, u23, c24, c25, c26, c27, c28, c29, c30, c31, c32, c33, c34, c35, c36, c37, c38, c39, c40, c41, c42, c43, c44, c45, c46, c47, c48, c49, c50, c51, c52, c53, c54, c55, c56, c57, c58, c59, c60, c61, c62, c63, c64, c65, c66, c67, c68, c69, c70, c71, c72, c73, c74, c75, c76, c77, c78, c79, c80, c81, c82, u83, u84, u85, u86, u87, u88, u89, u90, u91, u92, u93, u94, u95, u96, u97, u98, u99, u100, u101, u102, u103, u104, u105, u106, u107, u108, u109, u110, u111, u112, u113, u114, u115, u116, u117, u118, u119, u120, u121, u122, u123, u124, u125, u126, u127, u128, u129, u130, u131, u132, u133, u134, u135, u136, u137, u138, u139, u140, u141, u142, u143, u144, u145, u146, u147, u148, u149, u150, u151, u152, u153, u154, u155, u156, u157, u158, u159, u160, u161, u162, u163, u164, u165, u166, u167, u168, u169, u170, u171, u172, u173, u174, u175, u176, u177, u178, u179, u180, u181, u182, u183, u184, u185, u186, u187, u188, u189, u190, u191, u192, u193, u194, u195, u196, u197, u198, u199, u200, u201, u202, u203, u204, u205, u206, u207, u208, u209, u210, u211, u212, u213, u214, u215, u216, u217, u218, u219, u220, u221, u222, u223, u224, u225, u226, u227, u228, u229, u230, u231, u232, u233, u234, u235, u236, u237, u238, u239, u240, u241, u242, u243, u244, u245, u246, u247, u248, u249, u250, u251, c252, c253, c254, c255, c256, c257, c258, c259, c260, c261, c262, c263, c264, c265], []⟩ w')) :
    Code.wp Try.prog ((Try.f13.body.bind swOf).getD .skip) Q ⟨#[c0, .slice pad P.length pcap, c2, c3, c4, c5, c6, c7, c8, c9, .slice aad a.locals.length ac, c11, c12, .pointer (some ⟨X, 0, none⟩), .int .i64 (d : Int), .string ⟨sb.toArray⟩, .int .i64 (e0 : Int), .int .i64 nv, .string ⟨bd.toArray⟩, .string ⟨#[]⟩, c20, c21, c22, c23, c24, c25, c26, c27, c28, c29, c30, c31, c32, c33, c34, c35, c36, c37, c38, c39, c40, c41, c42, c43, c44, c45, c46, c47, c48, c49, c50, c51, c52, c53, c54, c55, c56, c57, c58, c59, c60, c61, c62, c63, c64, c65, c66, c67, c68, c69, c70, c71, c72, c73, c74, c75, c76, c77, c78, c79, c80, c81, c82, c83, c84, c85, c86, c87, c88, c89, c90, c91, c92, c93, c94, c95, c96, c97, c98, c99, c100, c101, c102, c103, c104, c105, c106, c107, c108, c109, c110, c111, c112, c113, c114, c115, c116, c117, c118, c119, c120, c121, c122, c123, c124, c125, c126, c127, c128, c129, c130, c131, c132, c133, c134, c135, c136, c137, c138, c139, c140, c141, c142, c143, c144, c145, c146, c147, c148, c149, c150, c151, c152, c153, c154, c155, c156, c157, c158, c159, c160, c161, c162, c163, c164, c165, c166, c167, c168, c169, c170, c171, c172, c173, c174, c175, c176, c177, c178, c179, c180, c181, c182, c183, c184, c185, c186, c187, c188, c189, c190, c191, c192, c193, c194, c195, c196, c197, c198, c199, c200, c201, c202, c203, c204, c205, c206, c207, c208, c209, c210, c211, c212, c213, c214, c215, c216, c217, c218, c219, c220, c221, c222, c223, c224, c225, c226, c227, c228, c229, c230, c231, c232, c233, c234, c235, c236, c237, c238, c239, c240, c241, c242, c243, c244, c245, c246, c247, c248, c249, c250, c251, c252, c253, c254, c255, c256, c257, c258, c259, c260, c261, c262, c263, c264, c265], []⟩ w4 := by
  have z0 : w4.cell? ⟨X, 0, none⟩ = some (.int .i64 f.at_) := (unhide HX4).cell 0
  have z1 : w4.cell? ⟨X, 1, none⟩ = some (.slice fad f.locals.length fcap) := (unhide HX4).cell 1
  have z2 : w4.cell? ⟨X, 2, none⟩ = some (.slice sad f.stack.length scap) := (unhide HX4).cell 2
  have hbdl : bd.length = 2 := by rw [unhide Hbd, M.big_len]
  have hsh := M.sh_le f.locals a.locals
  have hnv := unhide Hnv
  have HS := hide (same_at hT1 hTa (by omega) (decide_eq_false hS))
  have HT1 := hide hT1
  have g0 : decide (nv < 0) = false := by rw [decide_eq_false_iff_not]; omega
  have hle6 : a.locals.length ≤ f.locals.length := by omega
  have g3 : (a.locals.length : Int) ≤ (fcap : Int) := by omega
  have hlt6 : (f.locals.take a.locals.length).length ≤ 1048576 := by rw [List.length_take]; omega
  have hd : ((f.locals.take a.locals.length).length = a.locals.length ∧ M.sh (f.locals.take a.locals.length) a.locals = (f.locals.take a.locals.length).length) ↔ M.sh f.locals a.locals = a.locals.length := by rw [List.length_take, M.sh_take_left]; omega
  have HS2 := hide (fun (W : World) (hW : Below w4.heap.size w4 W) => same_at ((hT1.below hW).take (cap' := fcap) a.locals.length hle6) (hTa.below hW) hlt6 (decide_eq_false (fun h => hs (hd.1 h))))
  clear hS hs hle6 hlt6 hd
  clear hT1 hTa hsh hnv
  conv => arg 2; whnf
  go_wp2_with fail
  refine (unhide HS 0).mono ?_
  rintro e w10 ⟨rfl, m0, hw0⟩
  subst hw0
  go_wp2_with fail
  refine (unhide HS _).mono ?_
  rintro e w11 ⟨rfl, m1, hw1⟩
  subst hw1
  go_wp2_with fail
  refine (unhide HS _).mono ?_
  rintro e w12 ⟨rfl, m2, hw2⟩
  subst hw2
  go_wp2_with fail
  refine (unhide HS _).mono ?_
  rintro e w13 ⟨rfl, m3, hw3⟩
  subst hw3
  go_wp2_with fail
  go_quiet (fail)
  have HS3 := hide (unhide HS2 w4 (Below.refl _ _))
  clear HS2 HS
  go_wp2_with fail
  refine (unhide HS3 _).mono ?_
  rintro e w6 ⟨rfl, m6, hw6⟩
  subst hw6
  go_upto_if 210 with fail
  refine arm_last (fad := fad) (sad := sad) (fcap := fcap) (scap := scap) ?_ ?_ ?_ hfl hfs hP Htl Hmay Hdt Hbd Htd hsb HN ?_
  · exact (unhide HX4).below (below_drewN w4 _ _)
  · exact (unhide HT1).below (below_drewN w4 _ _)
  · exact (unhide Hp4).below (below_drewN w4 _ _)
  · refine hide ?_
    intro st x v22 v23 v83 v84 v85 v86 v87 v88 v89 v90 v91 v92 v93 v94 v95 v96 v97 v98 v99 v100 v101 v102 v103 v104 v105 v106 v107 v108 v109 v110 w' h1 h2 h3
    exact unhide HK st x _ _ _ _ _ _ _ _ _ _ _ _ _ _ _ _ _ _ _ _ _ _ _ _ _ _ _ _ _ _ _ _ _ _ _ _ _ _ _ _ _ _ _ _ _ _ _ _ _ _ _ _ _ _ _ _ _ _ _ _ _ _ _ _ _ _ _ _ _ _ _ _ _ _ _ _ _ _ _ _ _ _ _ _ _ _ _ _ _ _ _ _ _ _ _ _ _ _ _ _ _ _ _ _ _ _ _ _ _ _ _ _ _ _ _ _ _ _ _ _ _ _ _ _ _ _ _ _ _ _ _ _ _ _ _ _ _ _ _ _ _ _ _ _ _ _ _ _ _ _ _ _ _ _ _ _ _ _ _ _ _ _ _ _ _ _ _ _ _ _ _ _ _ _ h1 h2 (below_via (below_drewN w4 _ _) h3)
set_option maxRecDepth 1000000 in
set_option maxHeartbeats 4000000 in
theorem sw_77 {Q : Exit → Act → World → Prop} {c0 c2 c3 c4 c5 c6 c7 c8 c9 c11 c12 c20 c21 c22 c23 c24 c25 c26 c27 c28 c29 c30 c31 c32 c33 c34 c35 c36 c37 c38 c39 c40 c41 c42 c43 c44 c45 c46 c47 c48 c49 c50 c51 c52 c53 c54 c55 c56 c57 c58 c59 c60 c61 c62 c63 c64 c65 c66 c67 c68 c69 c70 c71 c72 c73 c74 c75 c76 c77 c78 c79 c80 c81 c82 c83 c84 c85 c86 c87 c88 c89 c90 c91 c92 c93 c94 c95 c96 c97 c98 c99 c100 c101 c102 c103 c104 c105 c106 c107 c108 c109 c110 c111 c112 c113 c114 c115 c116 c117 c118 c119 c120 c121 c122 c123 c124 c125 c126 c127 c128 c129 c130 c131 c132 c133 c134 c135 c136 c137 c138 c139 c140 c141 c142 c143 c144 c145 c146 c147 c148 c149 c150 c151 c152 c153 c154 c155 c156 c157 c158 c159 c160 c161 c162 c163 c164 c165 c166 c167 c168 c169 c170 c171 c172 c173 c174 c175 c176 c177 c178 c179 c180 c181 c182 c183 c184 c185 c186 c187 c188 c189 c190 c191 c192 c193 c194 c195 c196 c197 c198 c199 c200 c201 c202 c203 c204 c205 c206 c207 c208 c209 c210 c211 c212 c213 c214 c215 c216 c217 c218 c219 c220 c221 c222 c223 c224 c225 c226 c227 c228 c229 c230 c231 c232 c233 c234 c235 c236 c237 c238 c239 c240 c241 c242 c243 c244 c245 c246 c247 c248 c249 c250 c251 c252 c253 c254 c255 c256 c257 c258 c259 c260 c261 c262 c263 c264 c265 : Value} {w4 : World} {P : List K} {f a : Fm} {pad aad fad sad : Option Addr} {pcap ac fcap scap X : Nat} {d e0 : Nat} {nv : Int} {sb bd : List UInt8} (HX4 : Hid (Bk w4 X #[.int .i64 f.at_, .slice fad f.locals.length fcap, .slice sad f.stack.length scap] 29)) (hT1 : TIn w4 (.slice fad f.locals.length fcap) f.locals) (hTa : TIn w4 (.slice aad a.locals.length ac) a.locals) (Hp4 : Hid (KIn w4 (.slice pad P.length pcap) P)) (hac : a.locals.length ≤ ac) (hfc : f.locals.length ≤ fcap) (hfl : f.locals.length ≤ 4096) (hla : a.locals.length ≤ 4096) (hfs : f.stack.length ≤ 4096) (hP : P.length ≤ 4096) (Htl : Hid (Tok f.locals)) (Hmay : Hid (M.may f a)) (Hdt : Hid ((f.at_ - a.at_ - 1).toNat = d)) (hd2 : d ≤ 65535) (Hbd : Hid (bd = M.big d 2)) (Htd : Hid (M.Td (M.vts P f.stack) sb e0)) (hsb : sb.length ≤ 3 * f.stack.length) (Hnv : Hid ((f.locals.length : Int) - (a.locals.length : Int) = nv))
    (hS : ¬ (f.locals.length = a.locals.length ∧ M.sh f.locals a.locals = f.locals.length)) (hn0 : 0 < nv) (hn3 : nv ≤ 3) (hs : M.sh f.locals a.locals = a.locals.length) (hs1 : 0 < f.stack.length) (HN : Hid (NN f a))
    (HK : Hid (∀ (st : List UInt8) (x : Nat) (u20 u21 u22 u23 u83 u84 u85 u86 u87 u88 u89 u90 u91 u92 u93 u94 u95 u96 u97 u98 u99 u100 u101 u102 u103 u104 u105 u106 u107 u108 u109 u110 u111 u112 u113 u114 u115 u116 u117 u118 u119 u120 u121 u122 u123 u124 u125 u126 u127 u128 u129 u130 u131 u132 u133 u134 u135 u136 u137 u138 u139 u140 u141 u142 u143 u144 u145 u146 u147 u148 u149 u150 u151 u152 u153 u154 u155 u156 u157 u158 u159 u160 u161 u162 u163 u164 u165 u166 u167 u168 u169 u170 u171 u172 u173 u174 u175 u176 u177 u178 u179 u180 u181 u182 u183 u184 u185 u186 u187 u188 u189 u190 u191 u192 u193 u194 u195 u196 u197 u198 u199 u200 u201 u202 u203 u204 u205 u206 u207 u208 u209 u210 u211 u212 u213 u214 u215 u216 u217 u218 u219 u220 u221 u222 u223 u224 u225 u226 u227 u228 u229 u230 u231 u232 u233 u234 u235 u236 u237 u238 u239 u240 u241 u242 u243 u244 u245 u246 u247 u248 u249 u250 u251 : Value) (w' : World), M.Td (M.frw P f a) st x → st.length ≤ 30000 → Below w4.heap.size w4 w' → Q .normal ⟨#[c0, .slice pad P.length pcap, c2, c3, c4, c5, c6, c7, c8, c9, .slice aad a.locals.length ac, c11, c12, .pointer (some ⟨X, 0, none⟩), .int .i64 (d : Int), .string ⟨sb.toArray⟩, .int .i64 (x : Int), .int .i64 nv, .string ⟨bd.toArray⟩, .string ⟨st.toArray⟩, u20, u21, u22, u23, c24, c25, c26, c27, c28, c29, c30, c31, c32, c33, c34, c35, c36, c37, c38, c39, c40, c41, c42, c43, c44, c45, c46, c47, c48, c49, c50, c51, c52, c53, c54, c55, c56, c57, c58, c59, c60, c61, c62, c63, c64, c65, c66, c67, c68, c69, c70, c71, c72, c73, c74, c75, c76, c77, c78, c79, c80, c81, c82, u83, u84, u85, u86, u87, u88, u89, u90, u91, u92, u93, u94, u95, u96, u97, u98, u99, u100, u101, u102, u103, u104, u105, u106, u107, u108, u109, u110, u111, u112, u113, u114, u115, u116, u117, u118, u119, u120, u121, u122, u123, u124, u125, u126, u127, u128, u129, u130, u131, u132, u133, u134, u135, u136, u137, u138, u139, u140, u141, u142, u143, u144, u145, u146, u147, u148, u149, u150, u151, u152, u153, u154, u155, u156, u157, u158, u159, u160, u161, u162, u163, u164, u165, u166, u167, u168, u169, u170, u171, u172, u173, u174, u175, u176, u177, u178, u179, u180, u181, u182, u183, u184, u185, u186, u187, u188, u189, u190, u191, u192, u193, u194, u195, u196, u197, u198, u199, u200, u201, u202, u203, u204, u205, u206, u207, u208, u209, u210, u211, u212, u213, u214, u215, u216, u217, u218, u219, u220, u221, u222, u223, u224, u225, u226, u227, u228, u229, u230, u231, u232, u233, u234, u235, u236, u237, u238, u239, u240, u241, u242, u243, u244, u245, u246, u247, u248, u249, u250, u251, c252, c253, c254, c255, c256, c257, c258, c259, c260, c261, c262, c263, c264, c265], []⟩ w')) :
    Code.wp Try.prog ((Try.f13.body.bind swOf).getD .skip) Q ⟨#[c0, .slice pad P.length pcap, c2, c3, c4, c5, c6, c7, c8, c9, .slice aad a.locals.length ac, c11, c12, .pointer (some ⟨X, 0, none⟩), .int .i64 (d : Int), .string ⟨sb.toArray⟩, .int .i64 (e0 : Int), .int .i64 nv, .string ⟨bd.toArray⟩, .string ⟨#[]⟩, c20, c21, c22, c23, c24, c25, c26, c27, c28, c29, c30, c31, c32, c33, c34, c35, c36, c37, c38, c39, c40, c41, c42, c43, c44, c45, c46, c47, c48, c49, c50, c51, c52, c53, c54, c55, c56, c57, c58, c59, c60, c61, c62, c63, c64, c65, c66, c67, c68, c69, c70, c71, c72, c73, c74, c75, c76, c77, c78, c79, c80, c81, c82, c83, c84, c85, c86, c87, c88, c89, c90, c91, c92, c93, c94, c95, c96, c97, c98, c99, c100, c101, c102, c103, c104, c105, c106, c107, c108, c109, c110, c111, c112, c113, c114, c115, c116, c117, c118, c119, c120, c121, c122, c123, c124, c125, c126, c127, c128, c129, c130, c131, c132, c133, c134, c135, c136, c137, c138, c139, c140, c141, c142, c143, c144, c145, c146, c147, c148, c149, c150, c151, c152, c153, c154, c155, c156, c157, c158, c159, c160, c161, c162, c163, c164, c165, c166, c167, c168, c169, c170, c171, c172, c173, c174, c175, c176, c177, c178, c179, c180, c181, c182, c183, c184, c185, c186, c187, c188, c189, c190, c191, c192, c193, c194, c195, c196, c197, c198, c199, c200, c201, c202, c203, c204, c205, c206, c207, c208, c209, c210, c211, c212, c213, c214, c215, c216, c217, c218, c219, c220, c221, c222, c223, c224, c225, c226, c227, c228, c229, c230, c231, c232, c233, c234, c235, c236, c237, c238, c239, c240, c241, c242, c243, c244, c245, c246, c247, c248, c249, c250, c251, c252, c253, c254, c255, c256, c257, c258, c259, c260, c261, c262, c263, c264, c265], []⟩ w4 := by
  have z0 : w4.cell? ⟨X, 0, none⟩ = some (.int .i64 f.at_) := (unhide HX4).cell 0
  have z1 : w4.cell? ⟨X, 1, none⟩ = some (.slice fad f.locals.length fcap) := (unhide HX4).cell 1
  have z2 : w4.cell? ⟨X, 2, none⟩ = some (.slice sad f.stack.length scap) := (unhide HX4).cell 2
  have hbdl : bd.length = 2 := by rw [unhide Hbd, M.big_len]
  have hsh := M.sh_le f.locals a.locals
  have hnv := unhide Hnv
  have HS := hide (same_at hT1 hTa (by omega) (decide_eq_false hS))
  have HT1 := hide hT1
  have g0 : decide (nv < 0) = false := by rw [decide_eq_false_iff_not]; omega
  have q0 : (((f.stack.length : Nat) : Int) == 0) = false := by rw [beq_eq_false_iff_ne]; omega
  have hle6 : a.locals.length ≤ f.locals.length := by omega
  have g3 : (a.locals.length : Int) ≤ (fcap : Int) := by omega
  have hlt6 : (f.locals.take a.locals.length).length ≤ 1048576 := by rw [List.length_take]; omega
  have hd : ((f.locals.take a.locals.length).length = a.locals.length ∧ M.sh (f.locals.take a.locals.length) a.locals = (f.locals.take a.locals.length).length) ↔ M.sh f.locals a.locals = a.locals.length := by rw [List.length_take, M.sh_take_left]; omega
  have HS2 := hide (fun (W : World) (hW : Below w4.heap.size w4 W) => same_at ((hT1.below hW).take (cap' := fcap) a.locals.length hle6) (hTa.below hW) hlt6 (decide_eq_true (hd.2 hs)))
  clear hS hs hs1 hle6 hlt6 hd
  clear hT1 hTa hsh hnv
  conv => arg 2; whnf
  go_wp2_with fail
  refine (unhide HS 0).mono ?_
  rintro e w10 ⟨rfl, m0, hw0⟩
  subst hw0
  go_wp2_with fail
  refine (unhide HS _).mono ?_
  rintro e w11 ⟨rfl, m1, hw1⟩
  subst hw1
  go_wp2_with fail
  refine (unhide HS _).mono ?_
  rintro e w12 ⟨rfl, m2, hw2⟩
  subst hw2
  go_wp2_with fail
  refine (unhide HS _).mono ?_
  rintro e w13 ⟨rfl, m3, hw3⟩
  subst hw3
  go_wp2_with fail
  go_quiet (fail)
  have HS3 := hide (unhide HS2 w4 (Below.refl _ _))
  clear HS2 HS
  go_wp2_with fail
  refine (unhide HS3 _).mono ?_
  rintro e w6 ⟨rfl, m6, hw6⟩
  subst hw6
  go_upto_if 210 with fail
  refine arm_last (fad := fad) (sad := sad) (fcap := fcap) (scap := scap) ?_ ?_ ?_ hfl hfs hP Htl Hmay Hdt Hbd Htd hsb HN ?_
  · exact (unhide HX4).below (below_drewN w4 _ _)
  · exact (unhide HT1).below (below_drewN w4 _ _)
  · exact (unhide Hp4).below (below_drewN w4 _ _)
  · refine hide ?_
    intro st x v22 v23 v83 v84 v85 v86 v87 v88 v89 v90 v91 v92 v93 v94 v95 v96 v97 v98 v99 v100 v101 v102 v103 v104 v105 v106 v107 v108 v109 v110 w' h1 h2 h3
    exact unhide HK st x _ _ _ _ _ _ _ _ _ _ _ _ _ _ _ _ _ _ _ _ _ _ _ _ _ _ _ _ _ _ _ _ _ _ _ _ _ _ _ _ _ _ _ _ _ _ _ _ _ _ _ _ _ _ _ _ _ _ _ _ _ _ _ _ _ _ _ _ _ _ _ _ _ _ _ _ _ _ _ _ _ _ _ _ _ _ _ _ _ _ _ _ _ _ _ _ _ _ _ _ _ _ _ _ _ _ _ _ _ _ _ _ _ _ _ _ _ _ _ _ _ _ _ _ _ _ _ _ _ _ _ _ _ _ _ _ _ _ _ _ _ _ _ _ _ _ _ _ _ _ _ _ _ _ _ _ _ _ _ _ _ _ _ _ _ _ _ _ _ _ _ _ _ _ h1 h2 (below_via (below_drewN w4 _ _) h3)
end Go.Proofs.Ytbgpkkbejbidlac
