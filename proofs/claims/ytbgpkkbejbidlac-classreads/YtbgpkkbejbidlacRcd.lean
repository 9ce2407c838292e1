/-
  The reference: ReadClass: its attributes.
-/
import Derived.Test.YtbgpkkbejbidlacRca
namespace Go.Proofs.Ytbgpkkbejbidlac
set_option linter.unusedVariables false
open Go.RowKit
open Cl (HC FC UC MC LM Mj Own kOf)
set_option maxRecDepth 1000000 in
set_option maxHeartbeats 4000000 in
theorem atts_loop {Kp : Act → World → Prop} {c0 c1 c2 c3 c4 c7 c8 c9 c10 c11 c12 c13 c15 c16 c17 c18 c19 c20 c21 c22 c23 c24 c25 c26 c27 c28 c29 c30 c31 c32 c33 c34 c35 c36 c37 c38 c39 c40 c41 c42 c43 c44 c45 c46 c47 c48 c49 c50 c51 c52 c53 c54 c55 c56 c57 c58 c59 c60 c61 c62 c63 c64 c65 c66 c67 c68 c69 c70 c71 c72 c73 c74 c75 c76 c77 c78 c79 c80 c81 c82 c83 c84 c85 c86 c87 c88 c89 c90 c91 c92 c93 c94 c95 c96 c97 c98 c99 c100 c101 c102 c103 c104 c105 c106 c107 c108 c109 c110 c111 c112 c113 c114 c115 c116 c117 c118 c119 c120 c121 c122 c123 c124 c125 c126 c127 c128 c129 c130 c131 c132 c133 c134 c135 c136 c137 c138 c139 c140 c141 c142 c143 c144 c145 c146 c147 c148 c149 c150 c151 c152 c153 c154 c155 c156 c157 c158 c159 c160 c161 c162 c163 c164 c165 c166 c167 c168 c169 c170 c171 c172 c173 c174 c175 c176 c177 c178 c179 c180 c181 c182 c183 c184 c185 c186 c187 c188 c189 c190 c191 c192 c193 c194 c195 c196 c197 c198 c199 c200 c201 c202 c203 c204 c205 c206 c207 c208 c209 c210 c211 c212 c213 c214 c215 c216 c217 c218 c219 c220 c221 c222 c223 c224 c225 c226 c227 c228 c229 c230 c231 c232 c233 c234 c235 c236 c237 c238 c239 c240 c241 c242 c243 c244 c245 c246 c247 c248 c249 c250 c251 c252 c253 c254 c255 c256 c257 c258 c259 c260 c261 c262 c263 c264 c265 c266 c267 c268 c269 c270 c271 c272 c273 c274 c275 c276 c277 : Value} {w0 wB w1 : World} {Q C bc : Nat} {va : Option Addr} {vn vc : Nat} {s : ByteArray} {st : St} {l : List Po.K} {n : Nat} {is : List Nat} {fs : List Fd} {L : List Mj} {vi vf vm : Value} {cs : Array Value} (hs : s.size ≤ 131072) (hn : n < 65536) (H : Hid (RW w0 wB w1 Q C bc (.slice va vn vc) s st cs vi vf vm l is fs L))
    (HK : Hid (∀ (u14 u15 u16 u17 u208 u209 u210 u211 u212 u213 u214 u215 u216 u217 u218 u219 u220 u221 u222 u223 u224 u225 u226 u227 u228 u229 u230 u231 : Value) (w' : World), RW w0 wB w' Q C bc (.slice va vn vc) s (M.attsR s.data.toList (l.map kOf) (M.none_ s.data.toList) n () st).2 cs vi vf vm l is fs L → Kp ⟨#[c0, c1, c2, c3, c4, .pointer (some ⟨Q, 0, none⟩), .pointer (some ⟨bc, 0, none⟩), c7, c8, c9, c10, c11, c12, c13, u14, u15, u16, u17, c18, c19, c20, c21, c22, c23, c24, c25, c26, c27, c28, c29, c30, c31, c32, c33, c34, c35, c36, c37, c38, c39, c40, c41, c42, c43, c44, c45, c46, c47, c48, c49, c50, c51, c52, c53, c54, c55, c56, c57, c58, c59, c60, c61, c62, c63, c64, c65, c66, c67, c68, c69, c70, c71, c72, c73, c74, c75, c76, c77, c78, c79, c80, c81, c82, c83, c84, c85, c86, c87, c88, c89, c90, c91, c92, c93, c94, c95, c96, c97, c98, c99, c100, c101, c102, c103, c104, c105, c106, c107, c108, c109, c110, c111, c112, c113, c114, c115, c116, c117, c118, c119, c120, c121, c122, c123, c124, c125, c126, c127, c128, c129, c130, c131, c132, c133, c134, c135, c136, c137, c138, c139, c140, c141, c142, c143, c144, c145, c146, c147, c148, c149, c150, c151, c152, c153, c154, c155, c156, c157, c158, c159, c160, c161, c162, c163, c164, c165, c166, c167, c168, c169, c170, c171, c172, c173, c174, c175, c176, c177, c178, c179, c180, c181, c182, c183, c184, c185, c186, c187, c188, c189, c190, c191, c192, c193, c194, c195, c196, c197, c198, c199, c200, c201, c202, c203, c204, c205, c206, c207, u208, u209, u210, u211, u212, u213, u214, u215, u216, u217, u218, u219, u220, u221, u222, u223, u224, u225, u226, u227, u228, u229, u230, u231, c232, c233, c234, c235, c236, c237, c238, c239, c240, c241, c242, c243, c244, c245, c246, c247, c248, c249, c250, c251, c252, c253, c254, c255, c256, c257, c258, c259, c260, c261, c262, c263, c264, c265, c266, c267, c268, c269, c270, c271, c272, c273, c274, c275, c276, c277], []⟩ w')) :
    Code.wp Try.prog ((Try.f17.body.bind (blkOf 6)).getD .skip) (OnlyN Kp) ⟨#[c0, c1, c2, c3, c4, .pointer (some ⟨Q, 0, none⟩), .pointer (some ⟨bc, 0, none⟩), c7, c8, c9, c10, c11, c12, c13, .int .i64 (n : Int), c15, c16, c17, c18, c19, c20, c21, c22, c23, c24, c25, c26, c27, c28, c29, c30, c31, c32, c33, c34, c35, c36, c37, c38, c39, c40, c41, c42, c43, c44, c45, c46, c47, c48, c49, c50, c51, c52, c53, c54, c55, c56, c57, c58, c59, c60, c61, c62, c63, c64, c65, c66, c67, c68, c69, c70, c71, c72, c73, c74, c75, c76, c77, c78, c79, c80, c81, c82, c83, c84, c85, c86, c87, c88, c89, c90, c91, c92, c93, c94, c95, c96, c97, c98, c99, c100, c101, c102, c103, c104, c105, c106, c107, c108, c109, c110, c111, c112, c113, c114, c115, c116, c117, c118, c119, c120, c121, c122, c123, c124, c125, c126, c127, c128, c129, c130, c131, c132, c133, c134, c135, c136, c137, c138, c139, c140, c141, c142, c143, c144, c145, c146, c147, c148, c149, c150, c151, c152, c153, c154, c155, c156, c157, c158, c159, c160, c161, c162, c163, c164, c165, c166, c167, c168, c169, c170, c171, c172, c173, c174, c175, c176, c177, c178, c179, c180, c181, c182, c183, c184, c185, c186, c187, c188, c189, c190, c191, c192, c193, c194, c195, c196, c197, c198, c199, c200, c201, c202, c203, c204, c205, c206, c207, c208, c209, c210, c211, c212, c213, c214, c215, c216, c217, c218, c219, c220, c221, c222, c223, c224, c225, c226, c227, c228, c229, c230, c231, c232, c233, c234, c235, c236, c237, c238, c239, c240, c241, c242, c243, c244, c245, c246, c247, c248, c249, c250, c251, c252, c253, c254, c255, c256, c257, c258, c259, c260, c261, c262, c263, c264, c265, c266, c267, c268, c269, c270, c271, c272, c273, c274, c275, c276, c277], []⟩ w1 := by
  conv => arg 2; whnf
  go_wp2_with fail
  go_loopw [14] (fun i wr => ∃ (m : Nat) (y : St), m ≤ n ∧ i = .int .i64 m ∧ Hid (Asr s.data.toList (l.map kOf) (M.none_ s.data.toList) n () st m () y) ∧ Hid (RW w0 wB wr Q C bc (.slice va vn vc) s y cs vi vf vm l is fs L)) (fun i _ => (intOf i).toNat)
  case atStart => exact ⟨n, st, Nat.le_refl _, rfl, rfl, H⟩
  case round =>
    clear H
    obtain ⟨m, y, hm, rfl, HRs, HF⟩ := hrel
    have k0 := (unhide HF).rg.k0
    have k2 : wr.cell? ⟨C, 2, none⟩ = some (.int .i64 (y.e : Int)) := (unhide HF).rg.c.cell 2
    by_cases hgo : m ≠ 0 ∧ y.e = 0
    · obtain ⟨hm0, he⟩ := hgo
      have hmi : (0 : Int) < (m : Int) := by omega
      have hei : (((y.e : Int) == 0) : Bool) = true := by rw [he]; rfl
      obtain ⟨n', hn'⟩ : ∃ n', m = n' + 1 := ⟨m - 1, by omega⟩
      have hm1 : (m : Int) - 1 = ((n' : Nat) : Int) := by omega
      have hst := unhide HRs
      rw [hn'] at hst
      have hst2 := hst.step he
      have HAt := hide (attribute_any Q C (.slice va vn vc) s (l.map kOf) y wr (unhide HF).rg hs (unhide HF).plen (unhide HF).kin (fun hne b o n c e => ((unhide HF).off hne b o n c e).1))
      unfold M.attR at hst2
      unfold AtV at HAt
      have hlt := hd_lt s.data.toList (l.map kOf) y
      obtain ⟨ln, y6, e6⟩ : ∃ a b, M.hd s.data.toList (l.map kOf) y = (a, b) := ⟨_, _, rfl⟩
      rw [e6] at hst2 HAt hlt
      simp only at hst2 HAt hlt
      obtain ⟨nm, hnm⟩ : ∃ nm, nm = M.text (l.map kOf) ((M.rd s.data.toList 2 y).1 : Int) := ⟨_, rfl⟩
      rw [← hnm] at hst2 HAt
      clear e6 hnm hst HRs he hm0
      by_cases h6 : y6.e = 0
      · rw [if_pos h6] at hst2
        rw [if_pos h6, if_pos h6] at HAt
        unfold M.none_ at hst2
        simp only at hst2
        have HSt := hide hst2
        clear hst2 h6
        go_wp2_with fail
        refine (unhide HAt).mono ?_
        rintro e w6 ⟨rfl, hr6, hg6⟩
        have H6 := hide ((unhide HF).step hr6 hg6)
        have HOv := hide (over_pass Q C (.slice va vn vc) s y6 y.pos ln w6 (unhide H6).rg hs hlt)
        clear HAt HF hr6 hg6 k0 k2
        go_wp2_with fail
        refine (unhide HOv).mono ?_
        rintro e w7 ⟨rfl, hr7, hg7⟩
        have H7 := hide ((unhide H6).step hr7 hg7)
        clear HOv H6 hr7 hg7
        go_wp2
        go_roundw
        case rel => exact ⟨n', _, by omega, by go_num, HSt, H7⟩
        case measure => simp [intOf]; omega
      · rw [if_neg h6] at hst2
        rw [if_neg h6, if_neg h6] at HAt
        have HSt := hide hst2
        have H6e := hide h6
        clear hst2 h6
        go_wp2_with fail
        refine (unhide HAt).mono ?_
        rintro e w6 ⟨rfl, hr6, hg6⟩
        have H6 := hide ((unhide HF).step hr6 hg6)
        have HOv := hide (over_bad Q C (.slice va vn vc) s y6 y.pos w6 hr6 hs (unhide H6e))
        clear HAt HF hr6 hg6 k0 k2
        go_wp2_with fail
        refine (unhide HOv).mono ?_
        rintro e w7 ⟨rfl, hr7, hg7⟩
        have H7 := hide ((unhide H6).step hr7 hg7)
        clear HOv H6 hr7 hg7
        go_wp2
        go_roundw
        case rel => exact ⟨n', y6, by omega, by go_num, HSt, H7⟩
        case measure => simp [intOf]; omega
    · have hres : (M.attsR s.data.toList (l.map kOf) (M.none_ s.data.toList) n () st) = ((), y) := by
        by_cases hm0 : m = 0
        · subst hm0; exact (unhide HRs).done
        · exact (unhide HRs).stop (fun e => hgo ⟨hm0, e⟩)
      rw [hres] at HK
      have hend : ∀ (Kp : Prop), (m = 0 → Kp) → ((0 : Int) < (m : Int) → y.e ≠ 0 → Kp) → Kp := fun Kp h1 h2 => by
        by_cases hm0 : m = 0
        · exact h1 hm0
        · exact h2 (by omega) (fun e => hgo ⟨hm0, e⟩)
      clear hgo hres HRs
      refine hend _ (fun hm0 => ?_) (fun hmi hee => ?_)
      · subst hm0
        clear hend
        go_wp2
        exact unhide HK  _ _ _ _ _ _ _ _ _ _ _ _ _ _ _ _ _ _ _ _ _ _ _ _ _ _ _ _ _ (unhide HF)
      · have hei : (((y.e : Int) == 0) : Bool) = false := by rw [beq_eq_false_iff_ne]; omega
        clear hend hee
        go_wp2
        exact unhide HK  _ _ _ _ _ _ _ _ _ _ _ _ _ _ _ _ _ _ _ _ _ _ _ _ _ _ _ _ _ (unhide HF)
end Go.Proofs.Ytbgpkkbejbidlac
