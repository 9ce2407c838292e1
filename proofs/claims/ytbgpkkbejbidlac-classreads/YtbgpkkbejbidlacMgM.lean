/-
  The reference: ReadClass: its version, and what follows.
  The reference: ReadClass: the whole.
-/
import Derived.Test.YtbgpkkbejbidlacRcm
namespace Go.Proofs.Ytbgpkkbejbidlac
set_option linter.unusedVariables false
set_option linter.unusedSimpArgs false
open Go.RowKit
open Cl (HC FC UC MC LM Mj Own kOf)
set_option maxRecDepth 1000000 in
set_option maxHeartbeats 1000000 in
theorem rc_version {post : Ending → World → Prop} {c1 c3 c4 c7 c8 c9 c10 c11 c12 c13 c14 c15 c16 c17 c18 c19 c20 c21 c22 c23 c24 c25 c26 c27 c28 c29 c30 c31 c32 c33 c34 c35 c36 c37 c38 c39 c40 c41 c42 c43 c44 c45 c46 c47 c48 c49 c50 c51 c52 c53 c54 c55 c56 c57 c58 c59 c60 c61 c62 c63 c64 c65 c66 c67 c68 c69 c70 c71 c72 c73 c74 c75 c76 c77 c78 c79 c80 c81 c82 c83 c84 c85 c86 c87 c88 c89 c90 c91 c92 c93 c94 c95 c96 c97 c98 c99 c100 c101 c102 c103 c104 c105 c106 c107 c108 c109 c110 c111 c112 c113 c114 c115 c116 c117 c118 c119 c120 c121 c122 c123 c124 c125 c126 c127 c128 c129 c130 c131 c132 c133 c134 c135 c136 c137 c138 c139 c140 c141 c142 c143 c144 c145 c146 c147 c148 c149 c150 c151 c152 c153 c154 c155 c156 c157 c158 c159 c160 c161 c162 c163 c164 c165 c166 c167 c168 c169 c170 c171 c172 c173 c174 c175 c176 c177 c178 c179 c180 c181 c182 c183 c184 c185 c186 c187 c188 c189 c190 c191 c192 c193 c194 c195 c196 c197 c198 c199 c200 c201 c202 c203 c204 c205 c206 c207 c208 c209 c210 c211 c212 c213 c214 c215 c216 c217 c218 c219 c220 c221 c222 c223 c224 c225 c226 c227 c228 c229 c230 c231 c232 c233 c234 c235 c236 c237 c238 c239 c240 c241 c242 c243 c244 c245 c246 c247 c248 c249 c250 c251 c252 c253 c254 c255 c256 c257 c258 c259 c260 c261 c262 c263 c264 c265 c266 c267 c268 c269 c270 c271 c272 c273 c274 c275 c276 c277 : Value} {w0 wB w1 : World} {Q C bc : Nat} {s : ByteArray} {st3 st4 st5 : St} {rs : List UInt8} {a b : Nat} (hs : s.size ≤ 131072) (Hh : Hid (Cl.M.hdr s.data.toList ⟨0, 0, 0⟩ = (a, b, st5))) (Hrs : Hid (rs = Cl.M.rest s.data.toList st5)) (E4 : Hid (M.rd s.data.toList 2 st3 = (b, st4))) (E5 : Hid (st5 = if Cl.M.known a b = true then st4 else M.fail st4 4 4)) (H3 : Hid (RW w0 wB w1 Q C bc (.slice none 0 0) s st3 #[.int .u16 (a : Int), .int .u16 0, .int .u16 0, .int .u16 0, .int .u16 0, .slice none 0 0, .slice none 0 0, .slice none 0 0, .slice none 0 0] (.slice none 0 0) (.slice none 0 0) (.slice none 0 0) [] [] [] [])) (HP : Hid (∀ r, Po.ReadRes rs r → ∀ x w', Cl.ReadC s.data.toList r (M.clsR s.data.toList ⟨0, 0, 0⟩ r).1 (M.fin s.data.toList (M.clsR s.data.toList ⟨0, 0, 0⟩ r).2) w0 x w' → post x w')) :
    Code.wp Try.prog ((Try.f17.body.map (tlOf 5)).getD .skip) (bodyPost Try.prog Try.f17 post) ⟨#[.string s, c1, .pointer (some ⟨w0.heap.size, 0, none⟩), c3, c4, .pointer (some ⟨Q, 0, none⟩), .pointer (some ⟨bc, 0, none⟩), c7, c8, c9, c10, c11, c12, c13, c14, c15, c16, c17, c18, c19, c20, c21, c22, c23, c24, c25, c26, c27, c28, c29, c30, c31, c32, c33, c34, c35, c36, c37, c38, c39, c40, c41, c42, c43, c44, c45, c46, c47, c48, c49, c50, c51, c52, c53, c54, c55, c56, c57, c58, c59, c60, c61, c62, c63, c64, c65, c66, c67, c68, c69, c70, c71, c72, c73, c74, c75, c76, c77, c78, c79, c80, c81, c82, c83, c84, c85, c86, c87, c88, c89, c90, c91, c92, c93, c94, c95, c96, c97, c98, c99, c100, c101, c102, c103, c104, c105, c106, c107, c108, c109, c110, c111, c112, c113, c114, c115, c116, c117, c118, c119, c120, c121, c122, c123, c124, c125, c126, c127, c128, c129, c130, c131, c132, c133, c134, c135, c136, c137, c138, c139, c140, c141, c142, c143, c144, c145, c146, c147, c148, c149, c150, c151, c152, c153, c154, c155, c156, c157, c158, c159, c160, c161, c162, c163, c164, c165, c166, c167, c168, c169, c170, c171, c172, c173, c174, c175, c176, c177, c178, c179, c180, c181, c182, c183, c184, c185, c186, c187, c188, c189, c190, c191, c192, c193, c194, c195, c196, c197, c198, c199, c200, c201, c202, c203, c204, c205, c206, c207, c208, c209, c210, c211, c212, c213, c214, c215, c216, c217, c218, c219, c220, c221, c222, c223, c224, c225, c226, c227, c228, c229, c230, c231, c232, c233, c234, c235, c236, c237, c238, c239, c240, c241, c242, c243, c244, c245, c246, c247, c248, c249, c250, c251, c252, c253, c254, c255, c256, c257, c258, c259, c260, c261, c262, c263, c264, c265, c266, c267, c268, c269, c270, c271, c272, c273, c274, c275, c276, c277], []⟩ w1 := by
  conv => arg 2; whnf
  have c4 := M.rd2 s.data.toList st3
  have HU4 := hide (fun W hW => index_any Q C (.slice none 0 0) s st3 W hW hs)
  rw [unhide E4] at c4 HU4
  simp only at c4 HU4
  go_wp2_with fail
  refine (unhide HU4 _ (unhide H3).rg).mono ?_
  rintro e w4 ⟨rfl, hr4, hg4⟩
  have F4 := (unhide H3).step hr4 hg4
  have q1 := F4.c.cell 1
  have qf := F4.c.frozen
  simp at q1
  obtain ⟨w5, hw5⟩ : ∃ w5, w5 = w4.setCell ⟨bc, 1, none⟩ (.int .u16 (b : Int)) := ⟨_, rfl⟩
  have H4 : Hid (RW w0 wB w5 Q C bc (.slice none 0 0) s st4 #[.int .u16 (a : Int), .int .u16 (b : Int), .int .u16 0, .int .u16 0, .int .u16 0, .slice none 0 0, .slice none 0 0, .slice none 0 0, .slice none 0 0] (.slice none 0 0) (.slice none 0 0) (.slice none 0 0) [] [] [] []) := by
    have F4s := F4.set 1 (.int .u16 (b : Int))
    simp only [List.setIfInBounds_toArray, List.set_cons_zero, List.set_cons_succ] at F4s
    rw [hw5]; exact F4s
  have Hw5 := hide hw5
  clear HU4 H3 hr4 hg4 F4 hw5
  have hp5 : st5.pos ≤ s.data.toList.length := by
    rw [unhide E5]; split
    · exact (unhide H4).rg.pos
    · rw [M.fail_pos]; exact (unhide H4).rg.pos
  go_upto_region 7 with fail
  rw [← unhide Hw5]
  clear Hw5 q1 qf
  have q0 := (unhide H4).c.cell 0
  have q1 := (unhide H4).c.cell 1
  simp at q0 q1
  go_cut [53] (fun v w' => v = .bool (!Cl.M.known a b) ∧ w' = w5)
  case first =>
    by_cases ha : a = 0
    · have da : (((a : Int) != 0) : Bool) = false := by rw [ha]; rfl
      by_cases hb : b = 50
      · have db : (((b : Int) != 50) : Bool) = false := by rw [hb]; rfl
        have hk : Cl.M.known a b = true := by simp [Cl.M.known, ha, hb]
        have Hk := hide hk
        clear ha hb hk
        go_wp2
        go_meet
        exact ⟨by rw [unhide Hk]; rfl, rfl⟩
      · have db : (((b : Int) != 50) : Bool) = true := by rw [bne_iff_ne]; omega
        by_cases hc : b = 51
        · have dc : (((b : Int) != 51) : Bool) = false := by rw [hc]; rfl
          have hk : Cl.M.known a b = true := by simp [Cl.M.known, ha, hc]
          have Hk := hide hk
          clear ha hb hc hk
          go_wp2
          go_meet
          exact ⟨by rw [unhide Hk]; rfl, rfl⟩
        · have dc : (((b : Int) != 51) : Bool) = true := by rw [bne_iff_ne]; omega
          have hk : Cl.M.known a b = false := by simp [Cl.M.known, hb, hc]
          have Hk := hide hk
          clear ha hb hc hk
          go_wp2
          go_meet
          exact ⟨by rw [unhide Hk]; rfl, rfl⟩
    · have da : (((a : Int) != 0) : Bool) = true := by rw [bne_iff_ne]; omega
      have hk : Cl.M.known a b = false := by simp [Cl.M.known, ha]
      have Hk := hide hk
      clear ha hk
      go_wp2
      go_meet
      exact ⟨by rw [unhide Hk]; rfl, rfl⟩
  case rest =>
    obtain ⟨rfl, hw⟩ := hcut
    subst hw
    clear q0 q1
    have k0 := (unhide H4).rg.k0
    go_upto_if 53 with fail
    go_cut [] (fun w' => Hid (RW w0 wB w' Q C bc (.slice none 0 0) s st5 #[.int .u16 (a : Int), .int .u16 (b : Int), .int .u16 0, .int .u16 0, .int .u16 0, .slice none 0 0, .slice none 0 0, .slice none 0 0, .slice none 0 0] (.slice none 0 0) (.slice none 0 0) (.slice none 0 0) [] [] [] []))
    case first =>
      by_cases hk : Cl.M.known a b = true
      · have q : st5 = st4 := by rw [unhide E5, if_pos hk]
        rw [hk]
        go_wp2
        go_meet
        rw [q]
        exact unhide H4
      · have q : st5 = M.fail st4 4 4 := by rw [unhide E5, if_neg hk]
        have hkf : Cl.M.known a b = false := by simpa using hk
        have HF := hide (cfail_any C s st4 4 4 _ (unhide H4).rg.c)
        rw [← q] at HF
        rw [hkf]
        clear hk q hkf
        go_wp2_with fail
        refine (unhide HF).mono ?_
        rintro e w6 ⟨rfl, hc6, hg6⟩
        have H6 := hide ((unhide H4).cut hc6 hg6 hp5)
        clear hc6 hg6 HF
        go_wp2
        go_meet
        exact unhide H6
    case rest =>
      apply_assumption
      exact rc_pool hs Hh Hrs hcut HP
end Go.Proofs.Ytbgpkkbejbidlac
namespace Go.Proofs.Ytbgpkkbejbidlac
set_option linter.unusedVariables false
set_option linter.unusedSimpArgs false
open Go.RowKit
open Cl (HC FC UC MC LM Mj Own kOf)
set_option maxRecDepth 1000000 in
set_option maxHeartbeats 2000000 in
theorem RReadC_any (s : ByteArray) (w : World) (hs : s.size ≤ 131072) :
    Calls Try.prog 17 #[.string s] w fun x w' => ∃ r, Po.ReadRes (Cl.M.rest s.data.toList (Cl.M.hdr s.data.toList ⟨0, 0, 0⟩).2.2) r ∧ Cl.ReadC s.data.toList r (M.clsR s.data.toList ⟨0, 0, 0⟩ r).1 (M.fin s.data.toList (M.clsR s.data.toList ⟨0, 0, 0⟩ r).2) w x w' := by
  have hl : s.data.toList.length = s.size := by simp
  obtain ⟨wA, hwA⟩ : ∃ wA, wA = ((w.alloc (.cells #[.int .u16 0, .int .u16 0, .int .u16 0, .int .u16 0, .int .u16 0, .slice none 0 0, .slice none 0 0, .slice none 0 0, .slice none 0 0] 44)).alloc (.cells #[.string s, .int .i64 0, .int .i64 0, .int .i64 0] 85)).alloc (.cells #[.pointer (some ⟨w.heap.size + 1, 0, none⟩), .slice none 0 0] 87) := ⟨_, rfl⟩
  have HA : Hid (PW w wA (w.heap.size + 2) (w.heap.size + 1) s ⟨0, 0, 0⟩) := by
    have b1 : Below w.heap.size w (w.alloc (.cells #[.int .u16 0, .int .u16 0, .int .u16 0, .int .u16 0, .int .u16 0, .slice none 0 0, .slice none 0 0, .slice none 0 0, .slice none 0 0] 44)) := (Below.refl _ _).alloc (Nat.le_refl _) _
    have b2 := b1.alloc b1.size (.cells #[.string s, .int .i64 0, .int .i64 0, .int .i64 0] 85)
    have b3 := b2.alloc b2.size (.cells #[.pointer (some ⟨w.heap.size + 1, 0, none⟩), .slice none 0 0] 87)
    have q1 : Bk (w.alloc (.cells #[.int .u16 0, .int .u16 0, .int .u16 0, .int .u16 0, .int .u16 0, .slice none 0 0, .slice none 0 0, .slice none 0 0, .slice none 0 0] 44)) w.heap.size #[.int .u16 0, .int .u16 0, .int .u16 0, .int .u16 0, .int .u16 0, .slice none 0 0, .slice none 0 0, .slice none 0 0, .slice none 0 0] 44 := Bk.new _ _ _
    have c2 : Cut ((w.alloc (.cells #[.int .u16 0, .int .u16 0, .int .u16 0, .int .u16 0, .int .u16 0, .slice none 0 0, .slice none 0 0, .slice none 0 0, .slice none 0 0] 44)).alloc (.cells #[.string s, .int .i64 0, .int .i64 0, .int .i64 0] 85)) (w.heap.size + 1) s ⟨0, 0, 0⟩ := by
      have := heap_alloc_new (w.alloc (.cells #[.int .u16 0, .int .u16 0, .int .u16 0, .int .u16 0, .int .u16 0, .slice none 0 0, .slice none 0 0, .slice none 0 0, .slice none 0 0] 44)) (.cells #[.string s, .int .i64 0, .int .i64 0, .int .i64 0] 85)
      unfold Cut
      simpa using this
    rw [hwA]
    refine ⟨⟨?_, c2.kept (World.grownBy_alloc _ _ none) (by simp), Nat.zero_le _⟩, (q1.alloc _).alloc _, b3, by omega, by omega⟩
    have := Bk.new ((w.alloc (.cells #[.int .u16 0, .int .u16 0, .int .u16 0, .int .u16 0, .int .u16 0, .slice none 0 0, .slice none 0 0, .slice none 0 0, .slice none 0 0] 44)).alloc (.cells #[.string s, .int .i64 0, .int .i64 0, .int .i64 0] 85)) #[.pointer (some ⟨w.heap.size + 1, 0, none⟩), .slice none 0 0] 87
    simpa using this
  have HwA := hide hwA
  -- the head, in names
  have hp1 := M.take_pos (s := s.data.toList) (n := 4) (st := ⟨0, 0, 0⟩) (Nat.zero_le _)
  have HT := hide (fun W hW => ctake_any (w.heap.size + 1) s ⟨0, 0, 0⟩ 4 W hW hs (by omega) (Nat.zero_le _))
  have hmg := M.magic_eq s.data.toList ⟨0, 0, 0⟩
  obtain ⟨tx, st1, e1⟩ : ∃ a b, M.take s.data.toList 4 ⟨0, 0, 0⟩ = (a, b) := ⟨_, _, rfl⟩
  rw [e1] at hp1 HT hmg
  simp only at hp1 HT hmg
  obtain ⟨st2, e2⟩ : ∃ x, x = (if tx = [202, 254, 186, 190] then st1 else M.fail st1 3 0) := ⟨_, rfl⟩
  rw [← e2] at hmg
  have hp2 : st2.pos ≤ s.data.toList.length := by
    rw [e2]; split
    · exact hp1
    · rw [M.fail_pos]; exact hp1
  have hp3 := M.rd_pos (n := 2) hp2
  have c3 := M.rd2 s.data.toList st2
  have HU3 := hide (fun W hW => index_any (w.heap.size + 2) (w.heap.size + 1) (.slice none 0 0) s st2 W hW hs)
  obtain ⟨a, st3, e3⟩ : ∃ a b, M.rd s.data.toList 2 st2 = (a, b) := ⟨_, _, rfl⟩
  rw [e3] at hp3 c3 HU3
  simp only at hp3 c3 HU3
  have hp4 := M.rd_pos (n := 2) hp3
  have c4 := M.rd2 s.data.toList st3
  have HU4 := hide (fun W hW => index_any (w.heap.size + 2) (w.heap.size + 1) (.slice none 0 0) s st3 W hW hs)
  obtain ⟨b, st4, e4⟩ : ∃ a b, M.rd s.data.toList 2 st3 = (a, b) := ⟨_, _, rfl⟩
  rw [e4] at hp4 c4 HU4
  simp only at hp4 c4 HU4
  obtain ⟨st5, e5⟩ : ∃ x, x = (if Cl.M.known a b = true then st4 else M.fail st4 4 4) := ⟨_, rfl⟩
  have hp5 : st5.pos ≤ s.data.toList.length := by
    rw [e5]; split
    · exact hp4
    · rw [M.fail_pos]; exact hp4
  have hhdr : Cl.M.hdr s.data.toList ⟨0, 0, 0⟩ = (a, b, st5) := by
    unfold Cl.M.hdr
    simp only [← hmg, e3, e4, ← e5]
  have Hh := hide hhdr
  have E2 := hide e2
  have E4 := hide e4
  have E5 := hide e5
  rw [hhdr]
  simp only
  obtain ⟨rs, hrs⟩ : ∃ rs, rs = Cl.M.rest s.data.toList st5 := ⟨_, rfl⟩
  rw [← hrs]
  have Hrs := hide hrs
  clear hwA e1 e2 e3 e4 e5 hhdr hmg hrs
  have k0 := (unhide HA).rg.k0
  go_enter Try.func17, Try.ntmps17
  go_upto_region 2 with fail
  rw [← unhide HwA]
  clear HwA
  go_wp2_with fail
  refine (unhide HT _ (unhide HA).rg.c).mono ?_
  rintro e w1 ⟨rfl, hc1, hg1⟩
  have H1 := hide ((unhide HA).cut hc1 hg1 hp1)
  clear HT HA hc1 hg1 k0
  have k0 := (unhide H1).rg.k0
  go_upto_if 28 with fail
  obtain ⟨bb, hbb⟩ : ∃ bb, (tx == [202, 254, 186, 190]) = bb := ⟨_, rfl⟩
  rw [hbb]
  have Hbb := hide hbb
  clear hbb
  go_cut [] (fun w' => Hid (PW w w' (w.heap.size + 2) (w.heap.size + 1) s st2))
  case first =>
    cases bb with
    | true =>
      have hm : tx = [202, 254, 186, 190] := by have := unhide Hbb; simpa using this
      have q : st2 = st1 := by rw [unhide E2, if_pos hm]
      clear hm Hbb
      go_wp2
      go_meet
      rw [q]
      exact unhide H1
    | false =>
      have hm : tx ≠ [202, 254, 186, 190] := by have := unhide Hbb; simpa using this
      have q : st2 = M.fail st1 3 0 := by rw [unhide E2, if_neg hm]
      have HF := hide (cfail_any (w.heap.size + 1) s st1 3 0 w1 (unhide H1).rg.c)
      rw [← q] at HF
      clear hm q Hbb
      go_wp2_with fail
      refine (unhide HF).mono ?_
      rintro e w2 ⟨rfl, hc2, hg2⟩
      have H2 := hide ((unhide H1).cut hc2 hg2 hp2)
      clear hc2 hg2 HF
      go_wp2
      go_meet
      exact unhide H2
  case rest =>
    have H2 : Hid (PW w wc (w.heap.size + 2) (w.heap.size + 1) s st2) := hcut
    clear hcut H1 k0 E2 Hbb
    obtain ⟨bc, hbc⟩ : ∃ bc, bc = wc.heap.size := ⟨_, rfl⟩
    obtain ⟨wB, hwB⟩ : ∃ wB, wB = wc.alloc (.cells #[.int .u16 0, .int .u16 0, .int .u16 0, .int .u16 0, .int .u16 0, .slice none 0 0, .slice none 0 0, .slice none 0 0, .slice none 0 0] 44) := ⟨_, rfl⟩
    have HB : Hid (RW w wB wB (w.heap.size + 2) (w.heap.size + 1) bc (.slice none 0 0) s st2 #[.int .u16 0, .int .u16 0, .int .u16 0, .int .u16 0, .int .u16 0, .slice none 0 0, .slice none 0 0, .slice none 0 0, .slice none 0 0] (.slice none 0 0) (.slice none 0 0) (.slice none 0 0) [] [] [] []) := by rw [hwB, hbc]; exact (unhide H2).begun _
    have Hbc := hide hbc
    have HwB := hide hwB
    clear hbc hwB H2
    go_upto_region 5 with fail
    rw [← unhide HwB, ← unhide Hbc]
    clear HwB Hbc
    go_cut [] (fun w' => Hid (RW w wB w' (w.heap.size + 2) (w.heap.size + 1) bc (.slice none 0 0) s st3 #[.int .u16 (a : Int), .int .u16 0, .int .u16 0, .int .u16 0, .int .u16 0, .slice none 0 0, .slice none 0 0, .slice none 0 0, .slice none 0 0] (.slice none 0 0) (.slice none 0 0) (.slice none 0 0) [] [] [] []))
    case first =>
      go_wp2_with fail
      refine (unhide HU3 _ (unhide HB).rg).mono ?_
      rintro e w3 ⟨rfl, hr3, hg3⟩
      have F3 := (unhide HB).step hr3 hg3
      have q0 := F3.c.cell 0
      have qf := F3.c.frozen
      simp at q0
      have F3s := F3.set 0 (.int .u16 (a : Int))
      simp only [List.setIfInBounds_toArray, List.set_cons_zero, List.set_cons_succ] at F3s
      have H3 := hide F3s
      clear HU3 HB hr3 hg3 F3 F3s
      go_wp2
      go_meet
      exact H3
    case rest =>
      apply_assumption
      exact rc_version hs Hh Hrs E4 E5 hcut (hide fun r hr x w' h => ⟨r, hr, h⟩)
end Go.Proofs.Ytbgpkkbejbidlac
