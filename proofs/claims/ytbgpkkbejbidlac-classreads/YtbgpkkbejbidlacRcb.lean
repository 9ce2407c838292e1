/-
  The reference: ReadClass: fields.
-/
import Derived.Test.YtbgpkkbejbidlacRca
namespace Go.Proofs.Ytbgpkkbejbidlac
set_option linter.unusedVariables false
open Go.RowKit
open Cl (HC FC UC MC LM Mj Own kOf)
set_option maxRecDepth 1000000 in
set_option maxHeartbeats 4000000 in
theorem fields_loop {Kp : Act → World → Prop} {c0 c1 c2 c3 c4 c7 c8 c9 c10 c11 c13 c14 c15 c16 c17 c18 c19 c20 c21 c22 c23 c24 c25 c26 c27 c28 c29 c30 c31 c32 c33 c34 c35 c36 c37 c38 c39 c40 c41 c42 c43 c44 c45 c46 c47 c48 c49 c50 c51 c52 c53 c54 c55 c56 c57 c58 c59 c60 c61 c62 c63 c64 c65 c66 c67 c68 c69 c70 c71 c72 c73 c74 c75 c76 c77 c78 c79 c80 c81 c82 c83 c84 c85 c86 c87 c88 c89 c90 c91 c92 c93 c94 c95 c96 c97 c98 c99 c100 c101 c102 c103 c104 c105 c106 c107 c108 c109 c110 c111 c112 c113 c114 c115 c116 c117 c118 c119 c120 c121 c122 c123 c124 c125 c126 c127 c128 c129 c130 c131 c132 c133 c134 c135 c136 c137 c138 c139 c140 c141 c142 c143 c144 c145 c146 c147 c148 c149 c150 c151 c152 c153 c154 c155 c156 c157 c158 c159 c160 c161 c162 c163 c164 c165 c166 c167 c168 c169 c170 c171 c172 c173 c174 c175 c176 c177 c178 c179 c180 c181 c182 c183 c184 c185 c186 c187 c188 c189 c190 c191 c192 c193 c194 c195 c196 c197 c198 c199 c200 c201 c202 c203 c204 c205 c206 c207 c208 c209 c210 c211 c212 c213 c214 c215 c216 c217 c218 c219 c220 c221 c222 c223 c224 c225 c226 c227 c228 c229 c230 c231 c232 c233 c234 c235 c236 c237 c238 c239 c240 c241 c242 c243 c244 c245 c246 c247 c248 c249 c250 c251 c252 c253 c254 c255 c256 c257 c258 c259 c260 c261 c262 c263 c264 c265 c266 c267 c268 c269 c270 c271 c272 c273 c274 c275 c276 c277 : Value} {w0 wB w1 : World} {Q C bc : Nat} {va : Option Addr} {vn vc : Nat} {s : ByteArray} {st : St} {x0 x1 x2 x3 x4 : Value} {l : List Po.K} {n : Nat} {is : List Nat} {ia : Option Addr} {ic : Nat} (hs : s.size ≤ 131072) (hn : n < 65536) (H : Hid (RW w0 wB w1 Q C bc (.slice va vn vc) s st #[x0, x1, x2, x3, x4, .slice va vn vc, .slice ia is.length ic, .slice none 0 0, .slice none 0 0] (.slice ia is.length ic) (.slice none 0 0) (.slice none 0 0) l is [] []))
    (HK : Hid (∀ (fa : Option Addr) (fc : Nat) (u12 u156 u157 u158 u159 u160 u161 u162 u163 u164 u165 u166 u167 u168 u169 u170 u171 u172 u173 u174 u175 u176 : Value) (w' : World), RW w0 wB w' Q C bc (.slice va vn vc) s (M.reps (M.fldR s.data.toList (l.map kOf)) n st).2 #[x0, x1, x2, x3, x4, .slice va vn vc, .slice ia is.length ic, .slice fa (M.reps (M.fldR s.data.toList (l.map kOf)) n st).1.length fc, .slice none 0 0] (.slice ia is.length ic) (.slice fa (M.reps (M.fldR s.data.toList (l.map kOf)) n st).1.length fc) (.slice none 0 0) l is (M.reps (M.fldR s.data.toList (l.map kOf)) n st).1 [] → Kp ⟨#[c0, c1, c2, c3, c4, .pointer (some ⟨Q, 0, none⟩), .pointer (some ⟨bc, 0, none⟩), c7, c8, c9, c10, c11, u12, c13, c14, c15, c16, c17, c18, c19, c20, c21, c22, c23, c24, c25, c26, c27, c28, c29, c30, c31, c32, c33, c34, c35, c36, c37, c38, c39, c40, c41, c42, c43, c44, c45, c46, c47, c48, c49, c50, c51, c52, c53, c54, c55, c56, c57, c58, c59, c60, c61, c62, c63, c64, c65, c66, c67, c68, c69, c70, c71, c72, c73, c74, c75, c76, c77, c78, c79, c80, c81, c82, c83, c84, c85, c86, c87, c88, c89, c90, c91, c92, c93, c94, c95, c96, c97, c98, c99, c100, c101, c102, c103, c104, c105, c106, c107, c108, c109, c110, c111, c112, c113, c114, c115, c116, c117, c118, c119, c120, c121, c122, c123, c124, c125, c126, c127, c128, c129, c130, c131, c132, c133, c134, c135, c136, c137, c138, c139, c140, c141, c142, c143, c144, c145, c146, c147, c148, c149, c150, c151, c152, c153, c154, c155, u156, u157, u158, u159, u160, u161, u162, u163, u164, u165, u166, u167, u168, u169, u170, u171, u172, u173, u174, u175, u176, c177, c178, c179, c180, c181, c182, c183, c184, c185, c186, c187, c188, c189, c190, c191, c192, c193, c194, c195, c196, c197, c198, c199, c200, c201, c202, c203, c204, c205, c206, c207, c208, c209, c210, c211, c212, c213, c214, c215, c216, c217, c218, c219, c220, c221, c222, c223, c224, c225, c226, c227, c228, c229, c230, c231, c232, c233, c234, c235, c236, c237, c238, c239, c240, c241, c242, c243, c244, c245, c246, c247, c248, c249, c250, c251, c252, c253, c254, c255, c256, c257, c258, c259, c260, c261, c262, c263, c264, c265, c266, c267, c268, c269, c270, c271, c272, c273, c274, c275, c276, c277], []⟩ w')) :
    Code.wp Try.prog ((Try.f17.body.bind (blkOf 2)).getD .skip) (OnlyN Kp) ⟨#[c0, c1, c2, c3, c4, .pointer (some ⟨Q, 0, none⟩), .pointer (some ⟨bc, 0, none⟩), c7, c8, c9, c10, c11, .int .i64 (n : Int), c13, c14, c15, c16, c17, c18, c19, c20, c21, c22, c23, c24, c25, c26, c27, c28, c29, c30, c31, c32, c33, c34, c35, c36, c37, c38, c39, c40, c41, c42, c43, c44, c45, c46, c47, c48, c49, c50, c51, c52, c53, c54, c55, c56, c57, c58, c59, c60, c61, c62, c63, c64, c65, c66, c67, c68, c69, c70, c71, c72, c73, c74, c75, c76, c77, c78, c79, c80, c81, c82, c83, c84, c85, c86, c87, c88, c89, c90, c91, c92, c93, c94, c95, c96, c97, c98, c99, c100, c101, c102, c103, c104, c105, c106, c107, c108, c109, c110, c111, c112, c113, c114, c115, c116, c117, c118, c119, c120, c121, c122, c123, c124, c125, c126, c127, c128, c129, c130, c131, c132, c133, c134, c135, c136, c137, c138, c139, c140, c141, c142, c143, c144, c145, c146, c147, c148, c149, c150, c151, c152, c153, c154, c155, c156, c157, c158, c159, c160, c161, c162, c163, c164, c165, c166, c167, c168, c169, c170, c171, c172, c173, c174, c175, c176, c177, c178, c179, c180, c181, c182, c183, c184, c185, c186, c187, c188, c189, c190, c191, c192, c193, c194, c195, c196, c197, c198, c199, c200, c201, c202, c203, c204, c205, c206, c207, c208, c209, c210, c211, c212, c213, c214, c215, c216, c217, c218, c219, c220, c221, c222, c223, c224, c225, c226, c227, c228, c229, c230, c231, c232, c233, c234, c235, c236, c237, c238, c239, c240, c241, c242, c243, c244, c245, c246, c247, c248, c249, c250, c251, c252, c253, c254, c255, c256, c257, c258, c259, c260, c261, c262, c263, c264, c265, c266, c267, c268, c269, c270, c271, c272, c273, c274, c275, c276, c277], []⟩ w1 := by
  obtain ⟨i0, hi, hz0, hz1, hz2⟩ := info_parts Cl.Try.info95
  conv => arg 2; whnf
  go_wp2_with fail
  go_loopw [12] (fun i wr => ∃ (m : Nat) (A : List Fd) (y : St) (fa : Option Addr) (fc : Nat), m ≤ n ∧ i = .int .i64 m ∧ Hid (M.Rs (M.fldR s.data.toList (l.map kOf)) n st A m y) ∧ Hid (RW w0 wB wr Q C bc (.slice va vn vc) s y #[x0, x1, x2, x3, x4, .slice va vn vc, .slice ia is.length ic, .slice fa A.length fc, .slice none 0 0] (.slice ia is.length ic) (.slice fa A.length fc) (.slice none 0 0) l is A [])) (fun i _ => (intOf i).toNat)
  case atStart => exact ⟨n, [], st, none, 0, Nat.le_refl _, rfl, M.Rs.zero, H⟩
  case round =>
    clear H
    obtain ⟨m, A, y, fa, fc, hm, rfl, HRs, HF⟩ := hrel
    have k0 := (unhide HF).rg.k0
    have k2 : wr.cell? ⟨C, 2, none⟩ = some (.int .i64 (y.e : Int)) := (unhide HF).rg.c.cell 2
    by_cases hgo : m ≠ 0 ∧ y.e = 0
    · obtain ⟨hm0, he⟩ := hgo
      have hmi : (0 : Int) < (m : Int) := by omega
      have hei : (((y.e : Int) == 0) : Bool) = true := by rw [he]; rfl
      obtain ⟨n', hn'⟩ : ∃ n', m = n' + 1 := ⟨m - 1, by omega⟩
      have hm1 : (m : Int) - 1 = ((n' : Nat) : Int) := by omega
      have hst := unhide HRs
      rw [hn'] at hst
      have hst2 := hst.step he
      have hAl := hst.1
      have hA5 : A.length ≤ 65535 := by omega
      have D := (unhide HF).drew
      have HV := hide (rfield_any Q C (.slice va vn vc) s (l.map kOf) y wr.drew D.rg hs D.plen D.kin D.off)
      obtain ⟨x, y1, e1⟩ : ∃ a b, M.fldR s.data.toList (l.map kOf) y = (a, b) := ⟨_, _, rfl⟩
      rw [e1] at hst2 HV
      simp only at hst2 HV
      have HSt := hide hst2
      have q7 := D.c.cell 7
      simp at q7
      clear e1 hst hst2 HRs hAl he hm0
      go_upto_region 26 with fail
      clear k0 k2
      go_region_law (first
        | (go_simp; go_at_call 41; refine (unhide HV).mono ?_; rintro e w2 ⟨rfl, hr2, hg2, hk2⟩; have F2 := D.step hr2 hg2; have p7 := F2.c.cell 7; simp at p7; have p7a : (w2.alloc (.cells #[.int .u16 (x.flags : Int), .int .u16 (x.name : Int), .int .u16 (x.type_ : Int), .int .u16 (x.value : Int)] 95)).cell? ⟨bc, 7, none⟩ = some (.slice fa A.length fc) := (F2.alloc _).c.cell 7)
        | (refine Po.step_append_own rfl (.tmp 171) (.tmp 174) 41 rfl wB.heap.size 95 i0 (.agg #[.int .u16 0, .int .u16 0, .int .u16 0, .int .u16 0]) 4 8 Try.underlying41 hi hz0 hz1 hz2 rfl (by decide) _ A.length (FC A) (by simp [Act.eval]; rfl) (by exact F2.o.f.alloc _) ⟨_, 0, none⟩ 1 1 [.int .u16 (x.flags : Int), .int .u16 (x.name : Int), .int .u16 (x.type_ : Int), .int .u16 (x.value : Int)] (by simp [Act.eval]; rfl) rfl (by intro j u hj; rw [Addr.add_lit, Nat.zero_add, (Bk.new w2 _ 95).cell j]; simpa using hj) (by intro u hu; simp at hu; rcases hu with rfl | rfl | rfl | rfl <;> rfl) (by unfold maxLen; omega) (by omega) (by have := F2.hz; simp; omega) ?_; intro v' w3 hown' hgrow; obtain ⟨A', hA'⟩ : ∃ A', A' = A ++ [x] := ⟨_, rfl⟩; have hrow : w3.ownsRow wB.heap.size 95 4 v' A'.length (FC A') := (by rw [hA', Cl.FC_snoc, List.length_append]; exact hown'); have F3 := RW.growF (F2.alloc _) hrow hgrow; obtain ⟨ja, jc, ev⟩ := Cl.own95_slice hrow; subst ev; have p7' := F3.c.cell 7; have pf := F3.c.frozen; simp at p7'; have HA' := hide hA'; clear hown' hgrow hrow hA'))
      all_goals
        have H4 := hide (F3.set 7 (.slice ja A'.length jc))
        have HS2 := HSt
        rw [← unhide HA'] at HS2
        clear F3 F2 D HSt HA' hr2 hg2 hk2
        go_wp2
        go_roundw
        case rel => exact ⟨n', A', y1, ja, jc, by omega, by go_num, HS2, H4⟩
        case measure => simp [intOf]; omega
    · have hres : (M.reps (M.fldR s.data.toList (l.map kOf)) n st) = (A, y) := by
        by_cases hm0 : m = 0
        · subst hm0; exact (unhide HRs).done
        · exact (unhide HRs).stop (fun e => hgo ⟨hm0, e⟩)
      rw [hres] at HK
      have hend : ∀ (Kp : Prop), (m = 0 → Kp) → ((0 : Int) < (m : Int) → y.e ≠ 0 → Kp) → Kp := fun Kp h1 h2 => by
        by_cases hm0 : m = 0
        · exact h1 hm0
        · exact h2 (by omega) (fun e => hgo ⟨hm0, e⟩)
      clear hgo hres HRs
      refine hend _ (fun hm0 => ?_) (fun hmi hee => ?_)
      · subst hm0
        clear hend
        go_wp2
        exact unhide HK fa fc _ _ _ _ _ _ _ _ _ _ _ _ _ _ _ _ _ _ _ _ _ _ _ (unhide HF)
      · have hei : (((y.e : Int) == 0) : Bool) = false := by rw [beq_eq_false_iff_ne]; omega
        clear hend hee
        go_wp2
        exact unhide HK fa fc _ _ _ _ _ _ _ _ _ _ _ _ _ _ _ _ _ _ _ _ _ _ _ (unhide HF)
end Go.Proofs.Ytbgpkkbejbidlac
