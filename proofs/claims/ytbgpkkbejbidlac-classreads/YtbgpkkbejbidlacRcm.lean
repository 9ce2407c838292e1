/-
  The reference: ReadClass: its pool, and what follows.
-/
import Derived.Test.YtbgpkkbejbidlacMgL
namespace Go.Proofs.Ytbgpkkbejbidlac
set_option linter.unusedVariables false
set_option linter.unusedSimpArgs false
open Go.RowKit
open Cl (HC FC UC MC LM Mj Own kOf)
set_option maxRecDepth 1000000 in
set_option maxHeartbeats 1000000 in
theorem rc_pool {post : Ending → World → Prop} {c1 c3 c4 c7 c8 c9 c10 c11 c12 c13 c14 c15 c16 c17 c18 c19 c20 c21 c22 c23 c24 c25 c26 c27 c28 c29 c30 c31 c32 c33 c34 c35 c36 c37 c38 c39 c40 c41 c42 c43 c44 c45 c46 c47 c48 c49 c50 c51 c52 c53 c54 c55 c56 c57 c58 c59 c60 c61 c62 c63 c64 c65 c66 c67 c68 c69 c70 c71 c72 c73 c74 c75 c76 c77 c78 c79 c80 c81 c82 c83 c84 c85 c86 c87 c88 c89 c90 c91 c92 c93 c94 c95 c96 c97 c98 c99 c100 c101 c102 c103 c104 c105 c106 c107 c108 c109 c110 c111 c112 c113 c114 c115 c116 c117 c118 c119 c120 c121 c122 c123 c124 c125 c126 c127 c128 c129 c130 c131 c132 c133 c134 c135 c136 c137 c138 c139 c140 c141 c142 c143 c144 c145 c146 c147 c148 c149 c150 c151 c152 c153 c154 c155 c156 c157 c158 c159 c160 c161 c162 c163 c164 c165 c166 c167 c168 c169 c170 c171 c172 c173 c174 c175 c176 c177 c178 c179 c180 c181 c182 c183 c184 c185 c186 c187 c188 c189 c190 c191 c192 c193 c194 c195 c196 c197 c198 c199 c200 c201 c202 c203 c204 c205 c206 c207 c208 c209 c210 c211 c212 c213 c214 c215 c216 c217 c218 c219 c220 c221 c222 c223 c224 c225 c226 c227 c228 c229 c230 c231 c232 c233 c234 c235 c236 c237 c238 c239 c240 c241 c242 c243 c244 c245 c246 c247 c248 c249 c250 c251 c252 c253 c254 c255 c256 c257 c258 c259 c260 c261 c262 c263 c264 c265 c266 c267 c268 c269 c270 c271 c272 c273 c274 c275 c276 c277 : Value} {w0 wB w1 : World} {Q C bc : Nat} {s : ByteArray} {st5 : St} {rs : List UInt8} {a b : Nat} (hs : s.size ≤ 131072) (Hh : Hid (Cl.M.hdr s.data.toList ⟨0, 0, 0⟩ = (a, b, st5))) (Hrs : Hid (rs = Cl.M.rest s.data.toList st5)) (H5 : Hid (RW w0 wB w1 Q C bc (.slice none 0 0) s st5 #[.int .u16 (a : Int), .int .u16 (b : Int), .int .u16 0, .int .u16 0, .int .u16 0, .slice none 0 0, .slice none 0 0, .slice none 0 0, .slice none 0 0] (.slice none 0 0) (.slice none 0 0) (.slice none 0 0) [] [] [] [])) (HP : Hid (∀ r, Po.ReadRes rs r → ∀ x w', Cl.ReadC s.data.toList r (M.clsR s.data.toList ⟨0, 0, 0⟩ r).1 (M.fin s.data.toList (M.clsR s.data.toList ⟨0, 0, 0⟩ r).2) w0 x w' → post x w')) :
    Code.wp Try.prog ((Try.f17.body.map (tlOf 7)).getD .skip) (bodyPost Try.prog Try.f17 post) ⟨#[.string s, c1, .pointer (some ⟨w0.heap.size, 0, none⟩), c3, c4, .pointer (some ⟨Q, 0, none⟩), .pointer (some ⟨bc, 0, none⟩), c7, c8, c9, c10, c11, c12, c13, c14, c15, c16, c17, c18, c19, c20, c21, c22, c23, c24, c25, c26, c27, c28, c29, c30, c31, c32, c33, c34, c35, c36, c37, c38, c39, c40, c41, c42, c43, c44, c45, c46, c47, c48, c49, c50, c51, c52, c53, c54, c55, c56, c57, c58, c59, c60, c61, c62, c63, c64, c65, c66, c67, c68, c69, c70, c71, c72, c73, c74, c75, c76, c77, c78, c79, c80, c81, c82, c83, c84, c85, c86, c87, c88, c89, c90, c91, c92, c93, c94, c95, c96, c97, c98, c99, c100, c101, c102, c103, c104, c105, c106, c107, c108, c109, c110, c111, c112, c113, c114, c115, c116, c117, c118, c119, c120, c121, c122, c123, c124, c125, c126, c127, c128, c129, c130, c131, c132, c133, c134, c135, c136, c137, c138, c139, c140, c141, c142, c143, c144, c145, c146, c147, c148, c149, c150, c151, c152, c153, c154, c155, c156, c157, c158, c159, c160, c161, c162, c163, c164, c165, c166, c167, c168, c169, c170, c171, c172, c173, c174, c175, c176, c177, c178, c179, c180, c181, c182, c183, c184, c185, c186, c187, c188, c189, c190, c191, c192, c193, c194, c195, c196, c197, c198, c199, c200, c201, c202, c203, c204, c205, c206, c207, c208, c209, c210, c211, c212, c213, c214, c215, c216, c217, c218, c219, c220, c221, c222, c223, c224, c225, c226, c227, c228, c229, c230, c231, c232, c233, c234, c235, c236, c237, c238, c239, c240, c241, c242, c243, c244, c245, c246, c247, c248, c249, c250, c251, c252, c253, c254, c255, c256, c257, c258, c259, c260, c261, c262, c263, c264, c265, c266, c267, c268, c269, c270, c271, c272, c273, c274, c275, c276, c277], []⟩ w1 := by
  conv => arg 2; whnf
  have hl : s.data.toList.length = s.size := by simp
  have hp5 := (unhide H5).rg.pos
  have k0 := (unhide H5).rg.k0
  have k2 : w1.cell? ⟨C, 2, none⟩ = some (.int .i64 (st5.e : Int)) := (unhide H5).rg.c.cell 2
  go_upto_if 66 with fail
  go_cut [] (fun w' => ∃ (r : Po.Res) (st6 : St) (va : Option Addr) (vn vc : Nat), Hid (Po.ReadRes rs r ∧ Cl.M.cst s.data.toList st5 r = (r.1, st6)) ∧ Hid (RW w0 wB w' Q C bc (.slice va vn vc) s st6 #[.int .u16 (a : Int), .int .u16 (b : Int), .int .u16 0, .int .u16 0, .int .u16 0, .slice va vn vc, .slice none 0 0, .slice none 0 0, .slice none 0 0] (.slice none 0 0) (.slice none 0 0) (.slice none 0 0) r.1 [] [] []))
  case first =>
    by_cases he : st5.e = 0
    · have hei : (((st5.e : Int) == 0) : Bool) = true := by rw [he]; rfl
      have j1 : w1.cell? ⟨C, 1, none⟩ = some (.int .i64 (st5.pos : Int)) := (unhide H5).rg.c.cell 1
      have hpi : (st5.pos : Int) ≤ (s.size : Int) := by omega
      have hxl : (s.extract st5.pos s.size).data.toList = s.data.toList.drop st5.pos := by
        rw [ByteArray.data_extract, Array.toList_extract, List.extract_eq_take_drop]
        rw [List.take_of_length_le]
        rw [List.length_drop, hl]
        exact Nat.le_refl _
      have hxs : (s.extract st5.pos s.size).size ≤ 131072 := by
        have : (s.extract st5.pos s.size).data.toList.length = (s.extract st5.pos s.size).size := by simp
        rw [← this, hxl, List.length_drop, hl]; omega
      have HRd := hide (Po.RefRead_any (s.extract st5.pos s.size) w1 hxs)
      unfold Po.Readed at HRd
      rw [hxl] at HRd
      have hrs : rs = s.data.toList.drop st5.pos := by rw [unhide Hrs]; unfold Cl.M.rest; rw [if_pos he]
      have Hrs2 := hide hrs
      have He := hide he
      clear hxl hxs hrs he
      go_wp2_with fail
      refine (unhide HRd).mono ?_
      rintro e w6 ⟨l, n, x, p, v, hrr, rfl, hout, hb6⟩
      have hf := Po.read_fact hrr
      have hc := cst_at (r := (l, n, x, p)) hp5 hf (unhide He)
      simp only at hc
      obtain ⟨va, vn, vc, ev⟩ : ∃ va vn vc, v = .slice va vn vc := by
        rcases hout with ⟨_, e⟩ | ⟨B, _, ho⟩
        · exact ⟨_, _, _, e⟩
        · rcases ho.2 with ⟨e, _⟩ | ⟨g, cap, cur, e, _⟩
          · exact ⟨_, _, _, e⟩
          · exact ⟨_, _, _, e⟩
      subst ev
      have H6 : RW w0 wB w6 Q C bc (.slice none 0 0) s st5 #[.int .u16 (a : Int), .int .u16 (b : Int), .int .u16 0, .int .u16 0, .int .u16 0, .slice none 0 0, .slice none 0 0, .slice none 0 0, .slice none 0 0] (.slice none 0 0) (.slice none 0 0) (.slice none 0 0) [] [] [] [] := (unhide H5).grow (row := none) (grown_of_below hb6 none) (fun b e => by cases e) ((unhide H5).o.kept (row := none) (grown_of_below hb6 none) (fun b e => by cases e))
      have hoB : Po.Out wB w6 (.slice va vn vc) l := by
        rcases hout with ho | ⟨B, hB, ho⟩
        · exact .inl ho
        · exact .inr ⟨B, Nat.le_trans (unhide H5).hz hB, ho⟩
      have hfit : ∀ c ∈ l, Po.Fit c := by
        by_cases h0 : x = 0
        · exact (hf.1 h0).2.2
        · rw [show l = [] from (hf.2.1 h0).1]; intro c hc; cases hc
      have hlen : l.length ≤ 65536 := by
        by_cases h0 : x = 0
        · exact (hf.1 h0).2.1
        · rw [show l = [] from (hf.2.1 h0).1]; simp
      have hx256 : x < 256 := hf.2.2.2
      have hpp : p ≤ (s.data.toList.drop st5.pos).length := hf.2.2.1
      rw [List.length_drop] at hpp
      have Hrr : Hid (Po.ReadRes rs (l, n, x, p)) := by rw [unhide Hrs2]; exact hrr
      have Hbad : Hid (x ≠ 0 → n = 0) := fun h0 => (hf.2.1 h0).2
      clear HRd hrr hout hb6 hf Hrs2 k0 k2 j1
      have i0 := H6.rg.k0
      have ob1 := H6.o2
      have ob := H6.o3
      have nb1 : ¬ bc = C := by omega
      have nb2 : ¬ C = bc := by omega
      have nb3 : ¬ bc = Q := by omega
      have nb4 : ¬ Q = bc := by omega
      have nb5 : ¬ C = Q := by omega
      have nb6 : ¬ Q = C := by omega
      by_cases hx : x = 0
      · have hx1 : (((x : Int) != 0) : Bool) = false := by rw [hx]; rfl
        rw [if_pos hx] at hc
        have hn1 := hc.2
        have i1 : w6.cell? ⟨Q, 1, none⟩ = some (.slice none 0 0) := H6.rg.q.cell 1
        have i2 : w6.cell? ⟨C, 1, none⟩ = some (.int .i64 (st5.pos : Int)) := H6.rg.c.cell 1
        have f1 := H6.rg.c.frozen 1
        have f2 := H6.rg.q.frozen 1
        have f3 := H6.c.frozen 5
        have i5 := H6.c.cell 5
        simp at i5
        have hwr : IntKind.i64.wrap ((st5.pos : Int) + (n : Int)) = (st5.pos : Int) + (n : Int) := by rw [IntKind.wrap_i64]; omega
        have HP2 := hide (fun W hW => RW.pooled H6 hoB hfit hlen hn1 (W := W) (p := .int .i64 ((st5.pos : Int) + (n : Int))) (by rw [Int.natCast_add]) hW)
        have Hc := hide hc.1
        clear hc hx H6 hoB hfit hlen
        go_wp2
        go_meet
        exact ⟨(l, n, x, p), _, va, vn, vc, ⟨unhide Hrr, unhide Hc⟩, unhide HP2 _ rfl⟩
      · have hx1 : (((x : Int) != 0) : Bool) = true := by rw [bne_iff_ne]; omega
        rw [if_neg hx] at hc
        have hn1 := hc.2
        have i2 : w6.cell? ⟨C, 1, none⟩ = some (.int .i64 (st5.pos : Int)) := H6.rg.c.cell 1
        have hwr : IntKind.i64.wrap ((st5.pos : Int) + (p : Int)) = (st5.pos : Int) + (p : Int) := by rw [IntKind.wrap_i64]; omega
        have hfl := fun W (hW : Cut W C s st5) => cfail_any C s st5 x (st5.pos + p) W hW
        rw [Int.natCast_add] at hfl
        have HF := hide hfl
        have hpf : (M.fail st5 x (st5.pos + p)).pos = st5.pos := M.fail_pos _ _ _
        obtain ⟨y, hy⟩ : ∃ y, y = M.fail st5 x (st5.pos + p) := ⟨_, rfl⟩
        rw [← hy] at HF hpf hc
        have hpy : y.pos ≤ s.data.toList.length := by rw [hpf]; exact hp5
        have hn2 : y.pos + n ≤ s.data.toList.length := by rw [hpf]; exact hn1
        have hwr2 : IntKind.i64.wrap ((y.pos : Int) + (n : Int)) = (y.pos : Int) + (n : Int) := by rw [IntKind.wrap_i64]; omega
        have D := H6.drew
        have Hc : Hid (Cl.M.cst s.data.toList st5 (l, n, x, p) = (l, ⟨y.pos + n, y.e, y.p⟩)) := by rw [hpf]; exact hc.1
        have HoB := hide hoB
        clear hc hx H6 hfl hy hoB hpf
        go_wp2_with fail
        go_region_with (go_at_call 37; refine (unhide HF _ ?_).mono ?_; exact D.rg.c; rintro e w7 ⟨rfl, hc7, hg7⟩)
        all_goals
          have F7 := D.cut hc7 hg7 hpy
          have hg7' : w6.grownBy w7 (some C) := ⟨hg7.os, hg7.tape, hg7.output, hg7.size, hg7.block⟩
          have oB7 : Po.Out wB w7 (.slice va vn vc) l := Cl.Out.kept (unhide HoB) hg7' (fun b e => by cases e; have := F7.o3; have := F7.o4; omega)
          have HP2 := hide (fun W hW => RW.pooled F7 oB7 hfit hlen hn2 (W := W) (p := .int .i64 ((y.pos : Int) + (n : Int))) (by rw [Int.natCast_add]) hW)
          have j0 := F7.rg.k0
          have j1 : w7.cell? ⟨Q, 1, none⟩ = some (.slice none 0 0) := F7.rg.q.cell 1
          have j2 : w7.cell? ⟨C, 1, none⟩ = some (.int .i64 (y.pos : Int)) := F7.rg.c.cell 1
          have f1 := F7.rg.c.frozen 1
          have f2 := F7.rg.q.frozen 1
          have f3 := F7.c.frozen 5
          have j5 := F7.c.cell 5
          simp at j5
          clear F7 hg7 hg7' oB7 D HF i0 i2 hc7 HoB hfit hlen
          go_wp2
          go_meet
          exact ⟨(l, n, x, p), _, va, vn, vc, ⟨unhide Hrr, unhide Hc⟩, unhide HP2 _ rfl⟩
    · have hei : (((st5.e : Int) == 0) : Bool) = false := by rw [beq_eq_false_iff_ne]; omega
      have hcb := cst_bad (s := s.data.toList) he
      rw [← unhide Hrs] at hcb
      have Hcb := hide hcb
      clear he hcb
      go_wp2
      go_meet
      exact ⟨([], 0, 1, 0), st5, none, 0, 0, unhide Hcb, unhide H5⟩
  case rest =>
    obtain ⟨r, st6, va, vn, vc, Hr, H6⟩ := hcut
    have hP := fun x w' => unhide HP r (unhide Hr).1 x w'
    have hcl : M.clsR s.data.toList ⟨0, 0, 0⟩ r = M.rcT s.data.toList a b (r.1.map kOf) st6 := by
      rw [M.clsR_mk, unhide Hh]
      simp only
      rw [(unhide Hr).2]
    rw [hcl] at hP
    have HP8 := hide hP
    clear hP hcl H5 k0 k2 HP
    apply_assumption
    exact rc_numbers hs H6 HP8
end Go.Proofs.Ytbgpkkbejbidlac
