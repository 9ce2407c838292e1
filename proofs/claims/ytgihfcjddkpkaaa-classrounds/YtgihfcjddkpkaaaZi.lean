/-
  The reference: WriteClass; and that both write the same.
-/
import Derived.Test.YtgihfcjddkpkaaaZh
namespace Go.Proofs.Ytgihfcjddkpkaaa.Cl
set_option linter.unusedVariables false
set_option linter.unusedSimpArgs false
open Go.RowKit Go.Maps
namespace M
def re0 (c : Csi) : Nat := if knownB c = true then 0 else 4
def re1 (c : Csi) (x : Nat) : Nat := if x = 0 then re0 c else fl (re0 c) x
end M
theorem bs_len {P : List K} {bs : List UInt8} {x k : Nat} (h : Po.WriteRes (P.map pk) (bs, x, k)) : bs.length ≤ 2 + 9 * P.length + Po.texts (P.map pk) := by
  by_cases hx : x = 0
  · subst hx; exact (Pw.of h).l
  · rcases h with ⟨_, h2⟩ | ⟨h1, h2, y, j, hs, h3⟩
    · simp only [Prod.mk.injEq] at h2; rw [h2.1]; simp
    · rcases h3 with ⟨a, h3⟩ | ⟨rfl, h3⟩
      · simp only [Prod.mk.injEq] at h3; rw [h3.1]; simp
      · simp only [Prod.mk.injEq] at h3; exact absurd h3.2.1 hx
set_option maxRecDepth 1000000 in
set_option maxHeartbeats 16000000 in
theorem wc_pool {post : Ending → World → Prop} {c0 c2 c3 c5 c6 c7 c8 c9 c10 c11 c12 c13 c14 c15 c16 c17 c18 c19 c20 c21 c22 c23 c24 c25 c26 c27 c28 c29 c30 c31 c32 c33 c34 c35 c36 c37 c38 c39 c40 c41 c42 c43 c44 c45 c46 c47 c48 c49 c50 c51 c52 c53 c54 c55 c56 c57 c58 c59 c60 c61 c62 c63 c64 c65 c66 c67 c68 c69 c70 c71 c72 c73 c74 c75 c76 c77 c78 c79 c80 c81 c82 c83 c84 c85 c86 c87 c88 c89 c90 c91 c92 c93 c94 c95 c96 c97 c98 c99 c100 c101 c102 c103 c104 c105 c106 c107 c108 c109 c110 c111 c112 c113 c114 c115 c116 c117 c118 c119 c120 c121 c122 c123 c124 c125 c126 c127 c128 c129 c130 c131 c132 c133 c134 c135 c136 c137 c138 c139 c140 c141 c142 c143 c144 c145 c146 c147 c148 c149 c150 c151 c152 c153 c154 c155 c156 c157 c158 c159 c160 c161 c162 c163 c164 c165 c166 c167 c168 c169 c170 c171 c172 c173 c174 c175 c176 c177 c178 c179 c180 c181 c182 c183 c184 c185 c186 c187 c188 c189 c190 c191 c192 c193 c194 c195 c196 c197 c198 c199 c200 c201 c202 c203 c204 c205 c206 c207 c208 : Value} {w0 w1 : World} {R n : Nat} {c : Csi} {pa ia fa ma : Option Addr} {pc ic fc mc : Nat} {L : List Mv} {e : Nat} (hR : Rb w1 R c (.slice pa c.pool.length pc) (.slice ia c.ifaces.length ic) (.slice fa c.fields.length fc) (.slice ma L.length mc) e) (hb : Bk w1 n #[.int .u16 (c.minor : Int), .int .u16 (c.major : Int), .int .u16 (c.flags : Int), .int .u16 (c.this : Int), .int .u16 (c.super : Int), (.slice pa c.pool.length pc), (.slice ia c.ifaces.length ic), (.slice fa c.fields.length fc), (.slice ma L.length mc)] 44) (hu : Below w0.heap.size w0 w1) (hwR : w0.heap.size ≤ R) (hwn : w0.heap.size ≤ n) (hne : n ≠ R) (HCin : Hid (Cin w0 c (.slice pa c.pool.length pc) (.slice ia c.ifaces.length ic) (.slice fa c.fields.length fc) (.slice ma L.length mc) L)) (hok : Hid c.Ok) (hpk : Hid (Pok c.pool)) (hP : c.pool.length ≤ 1048576) (hl : 9 * c.pool.length + Po.texts (c.pool.map pk) + 2 * c.ifaces.length + 16 * c.fields.length + M.mcosts c.methods + 1000 ≤ 1000000) (hmc2 : M.mcosts c.methods ≤ 890000)
    (HP : Hid (∀ bs x k w', Po.WriteRes (c.pool.map pk) (bs, x, k) → Below w0.heap.size w0 w' → post (rans [] (M.rfull c bs (if x = 0 then e else M.fl e x))) w')) :
    Code.wp Try.prog ((Try.f23.body.map (tlOf 3)).getD .skip) (bodyPost Try.prog Try.f23 post) ⟨#[c0, .pointer (some ⟨n, 0, none⟩), c2, c3, .pointer (some ⟨R, 0, none⟩), c5, c6, c7, c8, c9, c10, c11, c12, c13, c14, c15, c16, c17, c18, c19, c20, c21, c22, c23, c24, c25, c26, c27, c28, c29, c30, c31, c32, c33, c34, c35, c36, c37, c38, c39, c40, c41, c42, c43, c44, c45, c46, c47, c48, c49, c50, c51, c52, c53, c54, c55, c56, c57, c58, c59, c60, c61, c62, c63, c64, c65, c66, c67, c68, c69, c70, c71, c72, c73, c74, c75, c76, c77, c78, c79, c80, c81, c82, c83, c84, c85, c86, c87, c88, c89, c90, c91, c92, c93, c94, c95, c96, c97, c98, c99, c100, c101, c102, c103, c104, c105, c106, c107, c108, c109, c110, c111, c112, c113, c114, c115, c116, c117, c118, c119, c120, c121, c122, c123, c124, c125, c126, c127, c128, c129, c130, c131, c132, c133, c134, c135, c136, c137, c138, c139, c140, c141, c142, c143, c144, c145, c146, c147, c148, c149, c150, c151, c152, c153, c154, c155, c156, c157, c158, c159, c160, c161, c162, c163, c164, c165, c166, c167, c168, c169, c170, c171, c172, c173, c174, c175, c176, c177, c178, c179, c180, c181, c182, c183, c184, c185, c186, c187, c188, c189, c190, c191, c192, c193, c194, c195, c196, c197, c198, c199, c200, c201, c202, c203, c204, c205, c206, c207, c208], []⟩ w1 := by
  conv => arg 2; whnf
  have c5 := hb.cell 5
  simp at c5
  have HW := hide (RPWrite_any (.slice pa c.pool.length pc) c.pool w1 ((unhide HCin).p.below hu) hP (unhide hpk))
  have HR := hide hR
  have Hb := hide hb
  have Hu := hide hu
  clear hR hb hu
  go_wp2_with fail
  refine (unhide HW).mono ?_
  rintro r w2 ⟨bs, x, k, hres, rfl, hb2⟩
  clear HW c5
  have hbl := bs_len hres
  have hR2 := (unhide HR).below hb2
  have hB2 := (unhide Hb).below hb2
  have hU2 := (unhide Hu).trans (hb2.mono (unhide Hu).size)
  have Hres := hide hres
  have hRl := hR2.lt
  clear hb2 hres HR Hb Hu
  go_upto_region 5 with fail
  rename_i Ko ao Ki ai
  have HKo := hide ao
  clear ao
  by_cases hx : x = 0
  · have n0 : (((x : Nat) : Int) != 0) = false := by rw [hx]; rfl
    have HP2 : Hid (∀ w', Below w0.heap.size w0 w' → post (rans [] (M.rfull c bs e)) w') := fun w' hb' => by
      have := unhide HP bs x k w' (unhide Hres) hb'
      rw [if_pos hx] at this
      exact this
    clear hx HP
    go_wp2_with fail
    refine unhide HKo _ _ ?_
    exact wc_str hR2 hB2 hU2 hwR hwn hne HCin (unhide hok) hP (by omega) hmc2 HP2
  · have n0 : (((x : Nat) : Int) != 0) = true := by rw [bne_iff_ne]; omega
    have HP2 : Hid (∀ w', Below w0.heap.size w0 w' → post (rans [] (M.rfull c bs (M.fl e x))) w') := fun w' hb' => by
      have := unhide HP bs x k w' (unhide Hres) hb'
      rw [if_neg hx] at this
      exact this
    have HF := hide (rfail_any R c (.slice pa c.pool.length pc) (.slice ia c.ifaces.length ic) (.slice fa c.fields.length fc) (.slice ma L.length mc) e x w2 hR2)
    clear hx HP
    go_wp2_with fail
    refine (unhide HF).mono ?_
    rintro r w3 ⟨rfl, hR3, hg3⟩
    have hB3 := Bk.kept hB2 hg3 (by simp; exact hne)
    have hU3 := grown_below hU2 hg3 hwR
    clear HF hg3 hR2 hB2 hU2
    go_wp2_with fail
    refine unhide HKo _ _ ?_
    exact wc_str hR3 hB3 hU3 hwR hwn hne HCin (unhide hok) hP (by omega) hmc2 HP2
set_option maxRecDepth 1000000 in
set_option maxHeartbeats 16000000 in
theorem RWrite_any (c : Csi) (vp vi vf vm : Value) (L : List Mv) (w : World) (hC : Cin w c vp vi vf vm L) (hc : Wok c) (hmc2 : M.mcosts c.methods ≤ 890000) :
    Calls Try.prog 23 #[clv c vp vi vf vm] w fun r w' => ∃ bs x k, Po.WriteRes (c.pool.map pk) (bs, x, k) ∧ r = rans [] (M.rfull c bs (M.re1 c x)) ∧ Below w.heap.size w w' := by
  unfold clv
  have HC := hide hC
  obtain ⟨pa, pc, rfl, _⟩ := hC.p.ex
  obtain ⟨ia, ic, rfl, hi⟩ := hC.i
  obtain ⟨fa, fc, rfl, hf⟩ := hC.f
  obtain ⟨ma, mc, rfl, hm⟩ := hC.m
  obtain ⟨hok, hpk, hpn, hsz⟩ := hc
  obtain ⟨q1, q2, q3, q4, q5, okI, okF, okM⟩ := id hok
  have hcost : c.cost = 14 + 2 * c.ifaces.length + 16 * c.fields.length + M.mcosts c.methods := rfl
  obtain ⟨wA, hwA⟩ : ∃ wA, wA = (w.alloc (.cells #[.int .u16 (c.minor : Int), .int .u16 (c.major : Int), .int .u16 (c.flags : Int), .int .u16 (c.this : Int), .int .u16 (c.super : Int), .slice pa c.pool.length pc, .slice ia c.ifaces.length ic, .slice fa c.fields.length fc, .slice ma L.length mc] 44)).alloc (.cells #[.int .u16 (c.minor : Int), .int .u16 (c.major : Int), .int .u16 (c.flags : Int), .int .u16 (c.this : Int), .int .u16 (c.super : Int), .slice pa c.pool.length pc, .slice ia c.ifaces.length ic, .slice fa c.fields.length fc, .slice ma L.length mc, .int .i64 0] 118) := ⟨_, rfl⟩
  have hbA : Below w.heap.size w wA := by rw [hwA]; exact ((Below.refl _ _).alloc (Nat.le_refl _) _).alloc (by simp) _
  have b0 : Bk wA w.heap.size #[.int .u16 (c.minor : Int), .int .u16 (c.major : Int), .int .u16 (c.flags : Int), .int .u16 (c.this : Int), .int .u16 (c.super : Int), .slice pa c.pool.length pc, .slice ia c.ifaces.length ic, .slice fa c.fields.length fc, .slice ma L.length mc] 44 := by rw [hwA]; exact (Bk.new w _ _).alloc _
  have hRA : Rb wA (w.heap.size + 1) c (.slice pa c.pool.length pc) (.slice ia c.ifaces.length ic) (.slice fa c.fields.length fc) (.slice ma L.length mc) 0 := by
    have := Bk.new (w.alloc (.cells #[.int .u16 (c.minor : Int), .int .u16 (c.major : Int), .int .u16 (c.flags : Int), .int .u16 (c.this : Int), .int .u16 (c.super : Int), .slice pa c.pool.length pc, .slice ia c.ifaces.length ic, .slice fa c.fields.length fc, .slice ma L.length mc] 44)) #[.int .u16 (c.minor : Int), .int .u16 (c.major : Int), .int .u16 (c.flags : Int), .int .u16 (c.this : Int), .int .u16 (c.super : Int), .slice pa c.pool.length pc, .slice ia c.ifaces.length ic, .slice fa c.fields.length fc, .slice ma L.length mc, .int .i64 0] 118
    rw [hwA]
    unfold Rb
    simpa using this
  have c0 := b0.cell 0
  have c1 := b0.cell 1
  simp at c0 c1
  have HA := hide hwA
  have HB := hide b0
  have HBl := hide hbA
  have HR := hide hRA
  have Hpk := hide hpk
  have Hok := hide hok
  clear hwA b0 hbA hRA hC hi hf hm hok okI okF okM hpk
  go_enter Try.func23, Try.ntmps23
  go_upto_region 2 with fail
  rw [← unhide HA]
  clear HA
  rename_i Ko ao Ki ai
  have HKo := hide ao
  clear ao
  have hfin : ∀ (e : Nat) (w1 : World), M.re0 c = e → Hid (∀ bs x k w', Po.WriteRes (c.pool.map pk) (bs, x, k) → Below w.heap.size w w' → ∃ bs' x' k', Po.WriteRes (c.pool.map pk) (bs', x', k') ∧ rans [] (M.rfull c bs (if x = 0 then e else M.fl e x)) = rans [] (M.rfull c bs' (M.re1 c x')) ∧ Below w.heap.size w w') := fun e w1 he bs x k w' hr hb => ⟨bs, x, k, hr, by unfold M.re1; rw [he], hb⟩
  have Hfin := hide hfin
  clear hfin
  by_cases v1 : c.minor = 0
  · have m1 : (((c.minor : Int) != 0) : Bool) = false := by rw [v1]; rfl
    by_cases v2 : c.major = 50
    · have m2 : (((c.major : Int) != 50) : Bool) = false := by rw [v2]; rfl
      have he : M.re0 c = 0 := by unfold M.re0 M.knownB; simp [v1, v2]
      clear v1 v2
      go_wp2_with fail
      refine unhide HKo _ _ ?_
      exact wc_pool (unhide HR) (unhide HB) (unhide HBl) (Nat.le_succ _) (Nat.le_refl _) (by omega) HC Hok Hpk hpn (by omega) hmc2 (unhide Hfin 0 w he)
    · have m2 : (((c.major : Int) != 50) : Bool) = true := by rw [bne_iff_ne]; omega
      by_cases v3 : c.major = 51
      · have m3 : (((c.major : Int) != 51) : Bool) = false := by rw [v3]; rfl
        have he : M.re0 c = 0 := by unfold M.re0 M.knownB; simp [v1, v3]
        clear v1 v2 v3
        go_wp2_with fail
        refine unhide HKo _ _ ?_
        exact wc_pool (unhide HR) (unhide HB) (unhide HBl) (Nat.le_succ _) (Nat.le_refl _) (by omega) HC Hok Hpk hpn (by omega) hmc2 (unhide Hfin 0 w he)
      · have m3 : (((c.major : Int) != 51) : Bool) = true := by rw [bne_iff_ne]; omega
        have he : M.re0 c = 4 := by unfold M.re0 M.knownB; simp [v2, v3]
        have HF := hide (rfail_any (w.heap.size + 1) c (.slice pa c.pool.length pc) (.slice ia c.ifaces.length ic) (.slice fa c.fields.length fc) (.slice ma L.length mc) 0 4 wA (unhide HR))
        clear v1 v2 v3
        go_wp2_with fail
        refine (unhide HF).mono ?_
        rintro r w3 ⟨rfl, hR3, hg3⟩
        have hB3 := Bk.kept (unhide HB) hg3 (by simp)
        have hU3 := grown_below (unhide HBl) hg3 (Nat.le_succ _)
        clear HF hg3
        go_wp2_with fail
        refine unhide HKo _ _ ?_
        exact wc_pool hR3 hB3 hU3 (Nat.le_succ _) (Nat.le_refl _) (by omega) HC Hok Hpk hpn (by omega) hmc2 (unhide Hfin 4 w he)
  · have m1 : (((c.minor : Int) != 0) : Bool) = true := by rw [bne_iff_ne]; omega
    have he : M.re0 c = 4 := by unfold M.re0 M.knownB; simp [v1]
    have HF := hide (rfail_any (w.heap.size + 1) c (.slice pa c.pool.length pc) (.slice ia c.ifaces.length ic) (.slice fa c.fields.length fc) (.slice ma L.length mc) 0 4 wA (unhide HR))
    clear v1
    go_wp2_with fail
    refine (unhide HF).mono ?_
    rintro r w3 ⟨rfl, hR3, hg3⟩
    have hB3 := Bk.kept (unhide HB) hg3 (by simp)
    have hU3 := grown_below (unhide HBl) hg3 (Nat.le_succ _)
    clear HF hg3
    go_wp2_with fail
    refine unhide HKo _ _ ?_
    exact wc_pool hR3 hB3 hU3 (Nat.le_succ _) (Nat.le_refl _) (by omega) HC Hok Hpk hpn (by omega) hmc2 (unhide Hfin 4 w he)
end Go.Proofs.Ytgihfcjddkpkaaa.Cl
