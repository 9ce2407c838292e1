/-
  The reference: WriteMap's choice: all of it; and WriteMap.
-/
import Derived.Test.YtbgpkkbejbidlacWsb
import Derived.Test.YtbgpkkbejbidlacWsc
import Derived.Test.YtbgpkkbejbidlacWsd
import Derived.Deep.CutBlock
namespace Go.Proofs.Ytbgpkkbejbidlac
set_option linter.unusedVariables false
open Go.RowKit
set_option maxRecDepth 1000000 in
set_option maxHeartbeats 4000000 in
theorem switch {Q : Exit → Act → World → Prop} {c0 c2 c3 c4 c5 c6 c7 c8 c9 c11 c12 c20 c21 c22 c23 c24 c25 c26 c27 c28 c29 c30 c31 c32 c33 c34 c35 c36 c37 c38 c39 c40 c41 c42 c43 c44 c45 c46 c47 c48 c49 c50 c51 c52 c53 c54 c55 c56 c57 c58 c59 c60 c61 c62 c63 c64 c65 c66 c67 c68 c69 c70 c71 c72 c73 c74 c75 c76 c77 c78 c79 c80 c81 c82 c83 c84 c85 c86 c87 c88 c89 c90 c91 c92 c93 c94 c95 c96 c97 c98 c99 c100 c101 c102 c103 c104 c105 c106 c107 c108 c109 c110 c111 c112 c113 c114 c115 c116 c117 c118 c119 c120 c121 c122 c123 c124 c125 c126 c127 c128 c129 c130 c131 c132 c133 c134 c135 c136 c137 c138 c139 c140 c141 c142 c143 c144 c145 c146 c147 c148 c149 c150 c151 c152 c153 c154 c155 c156 c157 c158 c159 c160 c161 c162 c163 c164 c165 c166 c167 c168 c169 c170 c171 c172 c173 c174 c175 c176 c177 c178 c179 c180 c181 c182 c183 c184 c185 c186 c187 c188 c189 c190 c191 c192 c193 c194 c195 c196 c197 c198 c199 c200 c201 c202 c203 c204 c205 c206 c207 c208 c209 c210 c211 c212 c213 c214 c215 c216 c217 c218 c219 c220 c221 c222 c223 c224 c225 c226 c227 c228 c229 c230 c231 c232 c233 c234 c235 c236 c237 c238 c239 c240 c241 c242 c243 c244 c245 c246 c247 c248 c249 c250 c251 c252 c253 c254 c255 c256 c257 c258 c259 c260 c261 c262 c263 c264 c265 : Value} {w4 : World} {P : List K} {f a : Fm} {pad aad fad sad : Option Addr} {pcap ac fcap scap X : Nat} {d e0 : Nat} {nv : Int} {sb bd : List UInt8} (HX4 : Hid (Bk w4 X #[.int .i64 f.at_, .slice fad f.locals.length fcap, .slice sad f.stack.length scap] 29)) (hT1 : TIn w4 (.slice fad f.locals.length fcap) f.locals) (hTa : TIn w4 (.slice aad a.locals.length ac) a.locals) (Hp4 : Hid (KIn w4 (.slice pad P.length pcap) P)) (hac : a.locals.length ≤ ac) (hfc : f.locals.length ≤ fcap) (hfl : f.locals.length ≤ 4096) (hla : a.locals.length ≤ 4096) (hfs : f.stack.length ≤ 4096) (hP : P.length ≤ 4096) (Htl : Hid (Tok f.locals)) (Hmay : Hid (M.may f a)) (Hdt : Hid ((f.at_ - a.at_ - 1).toNat = d)) (hd2 : d ≤ 65535) (Hbd : Hid (bd = M.big d 2)) (Htd : Hid (M.Td (M.vts P f.stack) sb e0)) (hsb : sb.length ≤ 3 * f.stack.length) (Hnv : Hid ((f.locals.length : Int) - (a.locals.length : Int) = nv))
    (HK : Hid (∀ (st : List UInt8) (x : Nat) (u20 u21 u22 u23 u83 u84 u85 u86 u87 u88 u89 u90 u91 u92 u93 u94 u95 u96 u97 u98 u99 u100 u101 u102 u103 u104 u105 u106 u107 u108 u109 u110 u111 u112 u113 u114 u115 u116 u117 u118 u119 u120 u121 u122 u123 u124 u125 u126 u127 u128 u129 u130 u131 u132 u133 u134 u135 u136 u137 u138 u139 u140 u141 u142 u143 u144 u145 u146 u147 u148 u149 u150 u151 u152 u153 u154 u155 u156 u157 u158 u159 u160 u161 u162 u163 u164 u165 u166 u167 u168 u169 u170 u171 u172 u173 u174 u175 u176 u177 u178 u179 u180 u181 u182 u183 u184 u185 u186 u187 u188 u189 u190 u191 u192 u193 u194 u195 u196 u197 u198 u199 u200 u201 u202 u203 u204 u205 u206 u207 u208 u209 u210 u211 u212 u213 u214 u215 u216 u217 u218 u219 u220 u221 u222 u223 u224 u225 u226 u227 u228 u229 u230 u231 u232 u233 u234 u235 u236 u237 u238 u239 u240 u241 u242 u243 u244 u245 u246 u247 u248 u249 u250 u251 : Value) (w' : World), M.Td (M.frw P f a) st x → st.length ≤ 30000 → Below w4.heap.size w4 w' → Q .normal ⟨#[c0, .slice pad P.length pcap, c2, c3, c4, c5, c6, c7, c8, c9, .slice aad a.locals.length ac, c11, c12, .pointer (some ⟨X, 0, none⟩), .int .i64 (d : Int), .string ⟨sb.toArray⟩, .int .i64 (x : Int), .int .i64 nv, .string ⟨bd.toArray⟩, .string ⟨st.toArray⟩, u20, u21, u22, u23, c24, c25, c26, c27, c28, c29, c30, c31, c32, c33, c34, c35, c36, c37, c38, c39, c40, c41, c42, c43, c44, c45, c46, c47, c48, c49, c50, c51, c52, c53, c54, c55, c56, c57, c58, c59, c60, c61, c62, c63, c64, c65, c66, c67, c68, c69, c70, c71, c72, c73, c74, c75, c76, c77, c78, c79, c80, c81, c82, u83, u84, u85, u86, u87, u88, u89, u90, u91, u92, u93, u94, u95, u96, u97, u98, u99, u100, u101, u102, u103, u104, u105, u106, u107, u108, u109, u110, u111, u112, u113, u114, u115, u116, u117, u118, u119, u120, u121, u122, u123, u124, u125, u126, u127, u128, u129, u130, u131, u132, u133, u134, u135, u136, u137, u138, u139, u140, u141, u142, u143, u144, u145, u146, u147, u148, u149, u150, u151, u152, u153, u154, u155, u156, u157, u158, u159, u160, u161, u162, u163, u164, u165, u166, u167, u168, u169, u170, u171, u172, u173, u174, u175, u176, u177, u178, u179, u180, u181, u182, u183, u184, u185, u186, u187, u188, u189, u190, u191, u192, u193, u194, u195, u196, u197, u198, u199, u200, u201, u202, u203, u204, u205, u206, u207, u208, u209, u210, u211, u212, u213, u214, u215, u216, u217, u218, u219, u220, u221, u222, u223, u224, u225, u226, u227, u228, u229, u230, u231, u232, u233, u234, u235, u236, u237, u238, u239, u240, u241, u242, u243, u244, u245, u246, u247, u248, u249, u250, u251, c252, c253, c254, c255, c256, c257, c258, c259, c260, c261, c262, c263, c264, c265], []⟩ w')) :
    Code.wp Try.prog ((Try.f13.body.bind swOf).getD .skip) Q ⟨#[c0, .slice pad P.length pcap, c2, c3, c4, c5, c6, c7, c8, c9, .slice aad a.locals.length ac, c11, c12, .pointer (some ⟨X, 0, none⟩), .int .i64 (d : Int), .string ⟨sb.toArray⟩, .int .i64 (e0 : Int), .int .i64 nv, .string ⟨bd.toArray⟩, .string ⟨#[]⟩, c20, c21, c22, c23, c24, c25, c26, c27, c28, c29, c30, c31, c32, c33, c34, c35, c36, c37, c38, c39, c40, c41, c42, c43, c44, c45, c46, c47, c48, c49, c50, c51, c52, c53, c54, c55, c56, c57, c58, c59, c60, c61, c62, c63, c64, c65, c66, c67, c68, c69, c70, c71, c72, c73, c74, c75, c76, c77, c78, c79, c80, c81, c82, c83, c84, c85, c86, c87, c88, c89, c90, c91, c92, c93, c94, c95, c96, c97, c98, c99, c100, c101, c102, c103, c104, c105, c106, c107, c108, c109, c110, c111, c112, c113, c114, c115, c116, c117, c118, c119, c120, c121, c122, c123, c124, c125, c126, c127, c128, c129, c130, c131, c132, c133, c134, c135, c136, c137, c138, c139, c140, c141, c142, c143, c144, c145, c146, c147, c148, c149, c150, c151, c152, c153, c154, c155, c156, c157, c158, c159, c160, c161, c162, c163, c164, c165, c166, c167, c168, c169, c170, c171, c172, c173, c174, c175, c176, c177, c178, c179, c180, c181, c182, c183, c184, c185, c186, c187, c188, c189, c190, c191, c192, c193, c194, c195, c196, c197, c198, c199, c200, c201, c202, c203, c204, c205, c206, c207, c208, c209, c210, c211, c212, c213, c214, c215, c216, c217, c218, c219, c220, c221, c222, c223, c224, c225, c226, c227, c228, c229, c230, c231, c232, c233, c234, c235, c236, c237, c238, c239, c240, c241, c242, c243, c244, c245, c246, c247, c248, c249, c250, c251, c252, c253, c254, c255, c256, c257, c258, c259, c260, c261, c262, c263, c264, c265], []⟩ w4 := by
  have hsh := M.sh_le f.locals a.locals
  have hnv := unhide Hnv
  by_cases hS : f.locals.length = a.locals.length ∧ M.sh f.locals a.locals = f.locals.length
  · obtain hs0 | hs1 | hs2 : f.stack.length = 0 ∨ f.stack.length = 1 ∨ 1 < f.stack.length := by omega
    · by_cases h64 : d < 64
      · exact sw_1 HX4 hT1 hTa Hp4 hac hfc hfl hla hfs hP Htl Hmay Hdt hd2 Hbd Htd hsb Hnv hS hs0 h64 HK
      · exact sw_2 HX4 hT1 hTa Hp4 hac hfc hfl hla hfs hP Htl Hmay Hdt hd2 Hbd Htd hsb Hnv hS hs0 h64 HK
    · by_cases h64 : d < 64
      · exact sw_3 HX4 hT1 hTa Hp4 hac hfc hfl hla hfs hP Htl Hmay Hdt hd2 Hbd Htd hsb Hnv hS hs1 h64 HK
      · exact sw_4 HX4 hT1 hTa Hp4 hac hfc hfl hla hfs hP Htl Hmay Hdt hd2 Hbd Htd hsb Hnv hS hs1 h64 HK
    · exact sw_70 HX4 hT1 hTa Hp4 hac hfc hfl hla hfs hP Htl Hmay Hdt hd2 Hbd Htd hsb Hnv hS hs2 ⟨by omega, by omega, by omega⟩ HK
  · by_cases r0 : nv < 0
    · by_cases r3 : -3 ≤ nv
      · by_cases hs : M.sh f.locals a.locals = f.locals.length
        · by_cases h0 : f.stack.length = 0
          · exact sw_5 HX4 hT1 hTa Hp4 hac hfc hfl hla hfs hP Htl Hmay Hdt hd2 Hbd Htd hsb Hnv hS r0 r3 hs h0 HK
          · exact sw_73 HX4 hT1 hTa Hp4 hac hfc hfl hla hfs hP Htl Hmay Hdt hd2 Hbd Htd hsb Hnv hS r0 r3 hs (by omega) ⟨by omega, by omega, by omega⟩ HK
        · exact sw_72 HX4 hT1 hTa Hp4 hac hfc hfl hla hfs hP Htl Hmay Hdt hd2 Hbd Htd hsb Hnv hS r0 r3 hs ⟨by omega, by omega, by omega⟩ HK
      · exact sw_71 HX4 hT1 hTa Hp4 hac hfc hfl hla hfs hP Htl Hmay Hdt hd2 Hbd Htd hsb Hnv hS r0 r3 ⟨by omega, by omega, by omega⟩ HK
    · by_cases r1 : 0 < nv
      · by_cases r3 : nv ≤ 3
        · by_cases hs : M.sh f.locals a.locals = a.locals.length
          · by_cases h0 : f.stack.length = 0
            · exact sw_6 HX4 hT1 hTa Hp4 hac hfc hfl hla hfs hP Htl Hmay Hdt hd2 Hbd Htd hsb Hnv hS r1 r3 hs h0 HK
            · exact sw_77 HX4 hT1 hTa Hp4 hac hfc hfl hla hfs hP Htl Hmay Hdt hd2 Hbd Htd hsb Hnv hS r1 r3 hs (by omega) ⟨by omega, by omega, by omega⟩ HK
          · exact sw_76 HX4 hT1 hTa Hp4 hac hfc hfl hla hfs hP Htl Hmay Hdt hd2 Hbd Htd hsb Hnv hS r1 r3 hs ⟨by omega, by omega, by omega⟩ HK
        · exact sw_75 HX4 hT1 hTa Hp4 hac hfc hfl hla hfs hP Htl Hmay Hdt hd2 Hbd Htd hsb Hnv hS r1 r3 ⟨by omega, by omega, by omega⟩ HK
      · exact sw_74 HX4 hT1 hTa Hp4 hac hfc hfl hla hfs hP Htl Hmay Hdt hd2 Hbd Htd hsb Hnv hS (by omega) ⟨by omega, by omega, by omega⟩ HK
set_option maxRecDepth 100000 in
set_option maxHeartbeats 4000000 in
theorem WriteMap_all : WMS := by
  intro v pv lv L P F w hv hp hl hlcap hfok hF hP htx hLl hws
  obtain ⟨i0, hi, hz0, hz1, hz2⟩ := info_parts Try.info5
  have Hp := hide hp
  have Hl := hide hl
  have Hown := hide hv.own
  obtain ⟨ad, cap, ev, hc⟩ := hv.form
  obtain ⟨lad, lcap, elv, -⟩ := hl
  obtain ⟨pad, pcap, epv, -⟩ := hp.ex
  subst ev elv epv
  have hlc := hlcap _ _ _ rfl
  have Hc := hide hc
  clear hv hc hp hlcap
  have q1 : ¬ (65535 : Int) < (L.length : Int) := by omega
  obtain ⟨Lf, hLf⟩ : ∃ Lf, Lf = L.map J.f := ⟨_, rfl⟩
  have hwr : M.write P F (L.map J.f) = (match M.wrs P Lf ⟨-1, F, []⟩ 0 with | .error e => .error e | .ok b => .ok (M.big L.length 2 ++ b)) := by
    unfold M.write; rw [if_neg (by simp; omega), List.length_map, hLf]
    cases M.wrs P (L.map J.f) ⟨-1, F, []⟩ 0 <;> rfl
  have Hwr := hide hwr
  have HLf := hide hLf
  have HBg := hide (Big2_any L.length (L.length : Int) w rfl (by omega))
  have Hfok := hide hfok
  have Hws := hide hws
  clear hwr hLf hfok hws
  obtain ⟨bg, hbg⟩ : ∃ bg, bg = M.big L.length 2 := ⟨_, rfl⟩
  rw [← hbg] at HBg Hwr
  have hbgl : bg.length = 2 := by rw [hbg, M.big_len]
  have Hbgl := hide hbgl
  clear hbg hbgl
  go_enter Try.func13, Try.ntmps13
  go_wp2_with fail
  refine (unhide HBg).mono ?_
  rintro e w1 ⟨rfl, hb1⟩
  obtain ⟨v0, w2, hcv, hot, hb2⟩ := of_text bg w1 (by have := unhide Hbgl; omega)
  obtain ⟨oad, ocap, eo⟩ := hot.slice
  subst eo
  have hot2 := hot.base hb1.size
  have hbw2 := hb1.trans (hb2.mono hb1.size)
  have Hot := hide hot2
  have Hbw := hide hbw2
  clear HBg hot hot2 hb2 hbw2 hb1
  go_wp2_with fail
  go_loopw [9, 10, 11, 35] (fun ov lcv pl i wr => ∃ (k : Nat) (a : Fm) (oa : Option Addr) (oc : Nat) (aad : Option Addr) (ac : Nat) (b : List UInt8), k ≤ L.length ∧ i = .int .i64 k ∧ pl = .int .i64 a.at_ ∧ lcv = .slice aad a.locals.length ac ∧ ov = .slice oa (bg ++ b).length oc ∧ a.locals.length ≤ ac ∧ Hid (M.Wz P Lf ⟨-1, F, []⟩ k a b) ∧ Hid ((Lf.take k).getLastD ⟨-1, F, []⟩ = a) ∧
      Hid (Ot wr w.heap.size ov (bg ++ b)) ∧ Hid (Below w.heap.size w wr) ∧ Hid (TIn w lcv a.locals) ∧ a.locals.length ≤ 4096 ∧ -1 ≤ a.at_ ∧ a.at_ ≤ 65535) (fun _ _ _ i _ => L.length - (intOf i).toNat)
  case atStart => exact ⟨0, ⟨-1, F, []⟩, oad, ocap, lad, lcap, [], Nat.zero_le _, rfl, rfl, rfl, by rw [List.append_nil], hlc, M.Wz.zero _ _ _, rfl, by rw [List.append_nil]; exact unhide Hot, unhide Hbw, unhide Hl, hF, by simp only; omega, by simp only; omega⟩
  case round =>
    clear Hot Hbw hcv
    obtain ⟨k, a, oa, oc, aad, ac, b, hk, rfl, rfl, rfl, rfl, hac, HWz, HLa, HOt, HB, HTa, hla, ha1, ha2⟩ := hrel
    by_cases hlt : k < L.length
    · have ki : (k : Int) < (L.length : Int) := by omega
      have hne : L ≠ [] := by rintro rfl; simp at hlt
      obtain ⟨b0, o0, rfl, hcell⟩ := unhide Hc hne
      obtain ⟨x0, x1, x2⟩ := At3.of (hcell k hlt)
      rw [← (unhide HB).cell (cell_lt x0)] at x0
      rw [← (unhide HB).cell (cell_lt x1)] at x1
      rw [← (unhide HB).cell (cell_lt x2)] at x2
      obtain ⟨ho1, ho2⟩ := unhide Hown _ (List.getElem_mem hlt)
      have hfk := unhide Hfok _ (List.getElem_mem hlt)
      have hsm := wsum_mem (List.getElem_mem hlt)
      have hws := unhide Hws
      have hdr : Lf.drop k = (L[k]).f :: Lf.drop (k + 1) := by
        rw [unhide HLf, List.drop_eq_getElem_cons (by simpa using hlt), List.getElem_map]
      have htk : Lf.take (k + 1) = Lf.take k ++ [(L[k]).f] := by
        rw [unhide HLf, List.take_add_one, List.getElem?_eq_getElem (by simpa using hlt), List.getElem_map]; rfl
      generalize L[k] = j at *
      obtain ⟨f, flv, fsv⟩ := j
      simp only at x0 x1 x2 ho1 ho2 hsm hdr htk
      have hfl : f.locals.length ≤ 4096 := by omega
      have hfs : f.stack.length ≤ 4096 := by omega
      have HT1 := hide ho1
      have HT2 := hide ho2
      have Htl := hide hfk.lt
      have Hts := hide hfk.st
      obtain ⟨fad, fcap, e1, -⟩ := ho1
      obtain ⟨sad, scap, e2, -⟩ := ho2
      subst e1 e2
      have hfc := hfk.cap _ _ _ rfl
      obtain ⟨X, hX⟩ : ∃ X, X = wr.heap.size := ⟨_, rfl⟩
      obtain ⟨wA, hwA⟩ : ∃ wA, wA = wr.alloc (.cells #[.int .i64 f.at_, .slice fad f.locals.length fcap, .slice sad f.stack.length scap] 29) := ⟨_, rfl⟩
      have hXA : Bk wA X #[.int .i64 f.at_, .slice fad f.locals.length fcap, .slice sad f.stack.length scap] 29 := by rw [hwA, hX]; exact Bk.new _ _ _
      have hbA : Below wr.heap.size wr wA := by rw [hwA]; exact (Below.refl _ _).alloc (Nat.le_refl _) _
      have hotA := (unhide HOt).kept hbA
      have hbwA := (unhide HB).trans (hbA.mono (unhide HB).size)
      have HwA := hide hwA
      have HX := hide hX
      have Hdr := hide hdr
      have Htk := hide htk
      clear hwA hX hdr htk hne hcell hfk hsm hws HOt HB
      have y0 : wA.cell? ⟨X, 0, none⟩ = some (.int .i64 f.at_) := hXA.cell 0
      have y1 : wA.cell? ⟨X, 1, none⟩ = some (.slice fad f.locals.length fcap) := hXA.cell 1
      have y2 : wA.cell? ⟨X, 2, none⟩ = some (.slice sad f.stack.length scap) := hXA.cell 2
      go_upto_region 9 with fail
      rw [← unhide HwA, ← unhide HX]
      clear HwA HX x0 x1 x2
      by_cases hbad : f.at_ ≤ a.at_ ∨ 65535 < f.at_
      · have hst := (unhide HWz).stop (unhide Hdr) (show M.frw P f a = .error 17 by unfold M.frw; rw [if_pos (by omega)])
        have Hst := hide hst
        have Hb := hide hbwA
        clear hst hbwA hotA hbA
        by_cases hb1 : f.at_ ≤ a.at_
        · clear hbad
          go_wp2
          go_ret3
          exact ⟨unhide Hb, by rw [unhide Hwr, unhide Hst]; rfl⟩
        · have hb2 : 65535 < f.at_ := by omega
          clear hbad
          go_wp2
          go_ret3
          exact ⟨unhide Hb, by rw [unhide Hwr, unhide Hst]; rfl⟩
      · have c1 : ¬ f.at_ ≤ a.at_ := by omega
        have c2 : ¬ 65535 < f.at_ := by omega
        have c3 : ¬ (65535 : Int) < (f.locals.length : Int) := by omega
        have c4 : ¬ (65535 : Int) < (f.stack.length : Int) := by omega
        have hmay : M.may f a := by unfold M.may; omega
        obtain ⟨d, hd⟩ : ∃ d : Nat, f.at_ = a.at_ + 1 + (d : Int) := ⟨(f.at_ - a.at_ - 1).toNat, by omega⟩
        have hdt : (f.at_ - a.at_ - 1).toNat = d := by omega
        have hd2 : d ≤ 65535 := by omega
        have HTd := hide (told_any (.slice sad f.stack.length scap) (.slice pad P.length pcap) f.stack P wA ((unhide HT2).below hbwA) ((unhide Hp).below hbwA) (by omega) (by omega) (unhide Hts))
        have Hmay := hide hmay
        have Hdt := hide hdt
        have hfd : f.at_ - a.at_ = (d : Int) + 1 := by omega
        have hq0 : (0 : Int) ≤ f.at_ := by omega
        clear hbad hd hmay hdt
        go_wp2_with fail
        refine (unhide HTd).mono ?_
        rintro e w3 ⟨sb, e0, rfl, htd, hsb, hb3⟩
        have hX3 := hXA.below hb3
        have hot3 := hotA.kept hb3
        have hbw3 := hbwA.trans (hb3.mono hbwA.size)
        have z0 : w3.cell? ⟨X, 0, none⟩ = some (.int .i64 f.at_) := hX3.cell 0
        have z1 : w3.cell? ⟨X, 1, none⟩ = some (.slice fad f.locals.length fcap) := hX3.cell 1
        have z2 : w3.cell? ⟨X, 2, none⟩ = some (.slice sad f.stack.length scap) := hX3.cell 2
        have Htd := hide htd
        have Hbw3 := hide hbw3
        have Hot3 := hide hot3
        have HX3 := hide hX3
        clear HTd htd y0 y1 y2 hXA hotA hbA hb3 hbwA hX3 hot3 hbw3
        have HBg := hide (Big2_any d (d : Int) w3 rfl (by omega))
        obtain ⟨bd, hbd⟩ : ∃ bd, bd = M.big d 2 := ⟨_, rfl⟩
        rw [← hbd] at HBg
        have hbdl : bd.length = 2 := by rw [hbd, M.big_len]
        have Hbd := hide hbd
        have Hbdl := hide hbdl
        clear hbd hbdl
        go_upto_region 14 with fail
        go_wp2_with fail
        refine (unhide HBg).mono ?_
        rintro e w4 ⟨rfl, hb4⟩
        clear z0 z1 z2
        have hX4 := (unhide HX3).below hb4
        have hot4 := (unhide Hot3).kept hb4
        have hbw4 := (unhide Hbw3).trans (hb4.mono (unhide Hbw3).size)
        have z0 : w4.cell? ⟨X, 0, none⟩ = some (.int .i64 f.at_) := hX4.cell 0
        have z1 : w4.cell? ⟨X, 1, none⟩ = some (.slice fad f.locals.length fcap) := hX4.cell 1
        have z2 : w4.cell? ⟨X, 2, none⟩ = some (.slice sad f.stack.length scap) := hX4.cell 2
        have Hbw4 := hide hbw4
        have Hot4 := hide hot4
        have HX4 := hide hX4
        clear HBg Hbw3 Hot3 HX3 hb4 hX4 hot4 hbw4 w3
        go_upto_block 2 with fail
        obtain ⟨nv, hnv⟩ : ∃ nv : Int, (f.locals.length : Int) - (a.locals.length : Int) = nv := ⟨_, rfl⟩
        rw [hnv]
        refine switch HX4 ((unhide HT1).below (unhide Hbw4)) ((unhide HTa).below (unhide Hbw4)) ((unhide Hp).below (unhide Hbw4)) hac hfc hfl hla hfs hP Htl Hmay Hdt hd2 Hbd Htd hsb hnv ?_
        refine hide ?_
        intro st x v20 v21 v22 v23 v83 v84 v85 v86 v87 v88 v89 v90 v91 v92 v93 v94 v95 v96 v97 v98 v99 v100 v101 v102 v103 v104 v105 v106 v107 v108 v109 v110 v111 v112 v113 v114 v115 v116 v117 v118 v119 v120 v121 v122 v123 v124 v125 v126 v127 v128 v129 v130 v131 v132 v133 v134 v135 v136 v137 v138 v139 v140 v141 v142 v143 v144 v145 v146 v147 v148 v149 v150 v151 v152 v153 v154 v155 v156 v157 v158 v159 v160 v161 v162 v163 v164 v165 v166 v167 v168 v169 v170 v171 v172 v173 v174 v175 v176 v177 v178 v179 v180 v181 v182 v183 v184 v185 v186 v187 v188 v189 v190 v191 v192 v193 v194 v195 v196 v197 v198 v199 v200 v201 v202 v203 v204 v205 v206 v207 v208 v209 v210 v211 v212 v213 v214 v215 v216 v217 v218 v219 v220 v221 v222 v223 v224 v225 v226 v227 v228 v229 v230 v231 v232 v233 v234 v235 v236 v237 v238 v239 v240 v241 v242 v243 v244 v245 v246 v247 v248 v249 v250 v251 wc hTd2 hstl hB5
        have HTd2 := hide hTd2
        have HB5 := hide hB5
        clear hTd2 hB5 hnv z0 z1 z2
        have hX5 := (unhide HX4).below (unhide HB5)
        have hot5 := (unhide Hot4).kept (unhide HB5)
        have hbw5 := (unhide Hbw4).trans ((unhide HB5).mono (unhide Hbw4).size)
        by_cases hx : x = 0
        · have hfr : M.frw P f a = .ok st := by
            have h := unhide HTd2
            cases hq : M.frw P f a with
            | error e => rw [hq] at h; exact absurd (h.1.symm.trans hx) h.2
            | ok c => rw [hq] at h; rw [h.2]
          have hx1 : (((x : Int) != 0) : Bool) = false := by rw [hx]; rfl
          have HWz2 := hide ((unhide HWz).step (unhide Hdr) (unhide Htk) (unhide HLa) hfr)
          have hla2 : (Lf.take (k + 1)).getLastD ⟨-1, F, []⟩ = f := by rw [unhide Htk]; simp
          have HLa2 := hide hla2
          have hbl : b.length ≤ 60000 := by
            have h1 := (unhide HWz).1
            rw [unhide HLf, ← List.map_take] at h1
            have h2 := M.wrs_le h1
            have h3 := wsum_take L k
            have h4 := unhide Hws
            have h5 : (L.take k).length ≤ 4096 := by rw [List.length_take]; omega
            omega
          have hot5' := hot5
          rw [List.length_append] at hot5
          have hlen5 : (bg ++ b).length + st.length ≤ 4000000 := by rw [List.length_append]; have := unhide Hbgl; omega
          have hB5 : w.heap.size ≤ wc.heap.size := hbw5.size
          have hne5 := hot5.not_bk hX5 (by decide)
          have hblk5 := hot5.blk
          have Hbw5 := hide hbw5
          clear hx hfr hla2 hot5' hbw5
          go_upto_region 37 with (at_builtin; refine wpList_append_free _ rfl _ _ 67 9 rfl i0 Try.underlying67 Try.underlying9 hi hz0 hz1 hz2 w.heap.size _ (bg ++ b) st rfl rfl hot5 hlen5 hB5 ?_; intro v6 w6 hot6 hg6; obtain ⟨a6, c6, e6⟩ := hot6.slice; subst e6)
          have hX6 := hX5.kept hg6 hne5
          have hbw6 := below_grown (unhide Hbw5) hB5 hg6 (fun b e => (hblk5 b e).1)
          rw [List.append_assoc] at hot6
          have y0 : w6.cell? ⟨X, 0, none⟩ = some (.int .i64 f.at_) := hX6.cell 0
          have y1 : w6.cell? ⟨X, 1, none⟩ = some (.slice fad f.locals.length fcap) := hX6.cell 1
          rw [List.length_append, List.length_append] at hot6
          have Hot6 := hide hot6
          have Hbw6 := hide hbw6
          clear hot6 hbw6 hX6 hg6 hne5 hblk5 hlen5 hB5 hot5 hX5 hbl HB5
          go_wp2
          go_roundw
          case rel =>
            exact ⟨k + 1, f, a6, c6, fad, fcap, b ++ st, by omega, by go_num, rfl, rfl, by rw [List.length_append, List.length_append], hfc, HWz2, HLa2, Hot6, Hbw6, HT1, hfl, by omega, by omega⟩
          case measure => simp [intOf]; omega
        · have hfr : M.frw P f a = .error x := by
            have h := unhide HTd2
            cases hq : M.frw P f a with
            | error e => rw [hq] at h; rw [h.1]
            | ok c => rw [hq] at h; exact absurd h.1 hx
          have hx1 : (((x : Int) != 0) : Bool) = true := by rw [bne_iff_ne]; omega
          have hst := (unhide HWz).stop (unhide Hdr) hfr
          have Hst := hide hst
          have Hb := hide hbw5
          clear hst hbw5 hot5 hX5 hx hfr HB5
          go_wp2
          go_ret3
          exact ⟨unhide Hb, by rw [unhide Hwr, unhide Hst]; rfl⟩
    · have hkl : k = L.length := by omega
      subst hkl
      have ki : ¬ (L.length : Int) < (L.length : Int) := by omega
      have hdn := unhide HWz
      have hlf : Lf.length = L.length := by rw [unhide HLf, List.length_map]
      rw [← hlf] at hdn
      have Hdn := hide hdn.done
      have hcv := (unhide HOt).string
      clear hdn hlf
      obtain ⟨lb, hlb⟩ : ∃ lb, lb = bg ++ b := ⟨_, rfl⟩
      rw [← hlb] at hcv ⊢
      have Hlb := hide hlb
      clear hlb
      go_wp2
      go_ret3
      exact ⟨unhide HB, by rw [unhide Hwr, unhide Hdn, unhide Hlb]; rfl⟩
end Go.Proofs.Ytbgpkkbejbidlac

