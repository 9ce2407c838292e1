/-
  The reference: WriteClass: its methods, and what follows.
-/
import Derived.Test.YtgihfcjddkpkaaaZd
namespace Go.Proofs.Ytgihfcjddkpkaaa.Cl
set_option linter.unusedVariables false
set_option linter.unusedSimpArgs false
open Go.RowKit Go.Maps
namespace M
theorem rmap_le (P : List K) (s : List UInt8) (e : Nat) : (rmap P s e).2.length ≤ 2 + (if s = [] then 0 else 6 + s.length) := by
  unfold rmap
  by_cases h : s = []
  · rw [if_pos h, if_pos h]; exact Nat.le_refl _
  · rw [if_neg h, if_neg h, sl, tl]
    have := ratt_len P mapN s (rtext [0, 1] e).1
    simp only [List.length_cons, List.length_nil]
    omega
theorem rbody_le (P : List K) (c : Ci) (e : Nat) : (rbody P c e).2.length ≤ clen c := by
  rw [rpart_all, sl, rpart_len _ _ _ (Nat.le_refl _)]
  have := rmap_le P c.map (rpart c c.handlers.length e).1
  unfold clen
  omega
theorem rcode_le (P : List K) (c : Ci) (e : Nat) : (rcode P c e).2.length ≤ 6 + clen c := by
  unfold rcode
  have h1 := ratt_len P codeN (rbody P c (ratt P codeN [] e).1).2 (rbody P c (ratt P codeN [] e).1).1
  have h2 := rbody_le P c (ratt P codeN [] e).1
  omega
def rtri (a b c : Nat) : Rw := seqR (seqR (rnum (a : Int) 2) (rnum (b : Int) 2)) (rnum (c : Int) 2)
theorem rtri_len (a b c e : Nat) : (rtri a b c e).2.length = 6 := by unfold rtri; rw [sl, sl, nl, nl, nl]
theorem rmth_le (P : List K) (m : Mi) (e : Nat) : (rmth P m e).2.length ≤ mcost m := by
  have h0 : rmth P m = seqR (rtri m.flags m.name m.type_) (if m.has = true then fun e => ((rcode P m.code e).1, [0, 1] ++ (rcode P m.code e).2) else rtext [0, 0]) := rfl
  rw [h0, sl, rtri_len]
  unfold mcost
  by_cases h : m.has = true
  · rw [if_pos h]
    have := rcode_le P m.code (rtri m.flags m.name m.type_ e).1
    simp only [List.length_append, List.length_cons, List.length_nil]
    omega
  · rw [if_neg h, tl]
    simp only [List.length_cons, List.length_nil]
    omega
theorem rmths_le (P : List K) (l : List Mi) (e : Nat) : (foldR (rmth P) l e).2.length ≤ mcosts l := by
  unfold mcosts
  induction l generalizing e with
  | nil => simp [foldR, rtext]
  | cons x l ih =>
    rw [foldR, sl]
    have h1 := rmth_le P x e
    have h2 := ih (rmth P x e).1
    simp only [List.map_cons, List.sum_cons]
    omega
end M
theorem oper_append_free {P : Program} {w : World} {o : Oper} {a : Act} {K : Act → World → Prop} {Q : Exit → Act → World → Prop} (sl x : Operand) (t u : TypeId)
    (ho : o.op = .call { callee := .builtin .append, args := #[sl, x], argTypes := #[t, u] })
    (i : TypeInfo) (ht : P.underlying t = some (.slice 5)) (hu : P.underlying u = some .string) (hi : P.info? 5 = some i) (hz : i.zero = some (.int .u8 0)) (hsize : i.size = 1) (hby : i.bytes = 1)
    (B : Nat) (v : Value) (l s : List UInt8) (hs : a.eval sl = v) (hx : a.eval x = .string ⟨s.toArray⟩) (h : Ot w B v l) (hl : l.length + s.length ≤ 4000000) (hB : B ≤ w.heap.size)
    (hk : ∀ v' w', Ot w' B v' (l ++ s) → w.grownBy w' v.ownBlock → K (a.put o.dst v') w') : Oper.wp P o a w K Q := by
  obtain ⟨v', w', hr, h2, h3⟩ := run_append_free (P := P) w t u o.type i ht hu hi hz hsize hby B v l s h hl hB
  unfold Oper.wp execOp
  simp only [ho, resolve, invoke, builtin, Sem.run_bind, Sem.run_pure, Result.andThen_ok, List.map_toArray, List.map_cons, List.map_nil, hs, hx, hr]
  exact hk v' w' h2 h3
set_option maxRecDepth 1000000 in
set_option maxHeartbeats 16000000 in
theorem wc_meths {post : Ending → World → Prop} {c0 c2 c3 c5 c6 c7 c8 c10 c11 c12 c13 c14 c15 c16 c17 c18 c19 c20 c21 c22 c23 c24 c25 c26 c27 c28 c29 c30 c31 c32 c33 c34 c35 c36 c37 c38 c39 c40 c41 c42 c43 c44 c45 c46 c47 c48 c49 c50 c51 c52 c53 c54 c55 c56 c57 c58 c59 c60 c61 c62 c63 c64 c65 c66 c67 c68 c69 c70 c71 c72 c73 c74 c75 c76 c77 c78 c79 c80 c81 c82 c83 c84 c85 c86 c87 c88 c89 c90 c91 c92 c93 c94 c95 c96 c97 c98 c99 c100 c101 c102 c103 c104 c105 c106 c107 c108 c109 c110 c111 c112 c113 c114 c115 c116 c117 c118 c119 c120 c121 c122 c123 c124 c125 c126 c127 c128 c129 c130 c131 c132 c133 c134 c135 c136 c137 c138 c139 c140 c141 c142 c143 c144 c145 c146 c147 c148 c149 c150 c151 c152 c153 c154 c155 c156 c157 c158 c159 c160 c161 c162 c163 c164 c165 c166 c167 c168 c169 c170 c171 c172 c173 c174 c175 c176 c177 c178 c179 c180 c181 c182 c183 c184 c185 c186 c187 c188 c189 c190 c191 c192 c193 c194 c195 c196 c197 c198 c199 c200 c201 c202 c203 c204 c205 c206 c207 c208 : Value} {w0 w1 : World} {R n : Nat} {c : Csi} {vp vi vf : Value} {ma : Option Addr} {mc : Nat} {L : List Mv} {e : Nat} {oa : Addr} {oc : Nat} {l : List UInt8} (H : Hid (Ws w0 w1 R n c vp vi vf (.slice ma L.length mc) e (.slice (some oa) l.length oc) l)) (HCin : Hid (Cin w0 c vp vi vf (.slice ma L.length mc) L)) (OkM : Hid (∀ m ∈ c.methods, m.Ok)) (hP : c.pool.length ≤ 1048576) (hl : l.length + M.mcosts c.methods + 100 ≤ 1000000) (hmc2 : M.mcosts c.methods ≤ 890000)
    (HP : Hid (∀ w', Below w0.heap.size w0 w' → post (rans l (M.seqR (M.seqR (M.rnum (c.methods.length : Int) 2) (M.foldR (M.rmth (qp c.pool)) c.methods)) (M.rtext [0, 0]) e)) w')) :
    Code.wp Try.prog ((Try.f23.body.map (tlOf 11)).getD .skip) (bodyPost Try.prog Try.f23 post) ⟨#[c0, .pointer (some ⟨n, 0, none⟩), c2, c3, .pointer (some ⟨R, 0, none⟩), c5, c6, c7, c8, .slice (some oa) l.length oc, c10, c11, c12, c13, c14, c15, c16, c17, c18, c19, c20, c21, c22, c23, c24, c25, c26, c27, c28, c29, c30, c31, c32, c33, c34, c35, c36, c37, c38, c39, c40, c41, c42, c43, c44, c45, c46, c47, c48, c49, c50, c51, c52, c53, c54, c55, c56, c57, c58, c59, c60, c61, c62, c63, c64, c65, c66, c67, c68, c69, c70, c71, c72, c73, c74, c75, c76, c77, c78, c79, c80, c81, c82, c83, c84, c85, c86, c87, c88, c89, c90, c91, c92, c93, c94, c95, c96, c97, c98, c99, c100, c101, c102, c103, c104, c105, c106, c107, c108, c109, c110, c111, c112, c113, c114, c115, c116, c117, c118, c119, c120, c121, c122, c123, c124, c125, c126, c127, c128, c129, c130, c131, c132, c133, c134, c135, c136, c137, c138, c139, c140, c141, c142, c143, c144, c145, c146, c147, c148, c149, c150, c151, c152, c153, c154, c155, c156, c157, c158, c159, c160, c161, c162, c163, c164, c165, c166, c167, c168, c169, c170, c171, c172, c173, c174, c175, c176, c177, c178, c179, c180, c181, c182, c183, c184, c185, c186, c187, c188, c189, c190, c191, c192, c193, c194, c195, c196, c197, c198, c199, c200, c201, c202, c203, c204, c205, c206, c207, c208], []⟩ w1 := by
  obtain ⟨i0, hi, hz0, hz1, hz2⟩ := info_parts infoB
  have hLl : L.length = c.methods.length := by have := congrArg List.length (unhide HCin).e; simpa using this
  have HLl := hide hLl
  have hmc : c.methods.length ≤ M.mcosts c.methods := M.mcosts_len c.methods
  conv => arg 2; whnf
  obtain ⟨tN, htN⟩ : ∃ a : List UInt8, a = (M.rnum (c.methods.length : Int) 2 e).2 := ⟨_, rfl⟩
  obtain ⟨e1, he1⟩ : ∃ a, a = (M.rnum (c.methods.length : Int) 2 e).1 := ⟨_, rfl⟩
  have HN := hide (rnum2_any R c vp vi vf (.slice ma L.length mc) e (c.methods.length : Int) w1 (unhide H).r (Okx.nat (by omega)))
  rw [← htN, ← he1, ← hLl] at HN
  have zN : tN.length = 2 := by rw [htN]; exact M.nl _ _ _
  obtain ⟨l1, hl1⟩ : ∃ a, a = l ++ tN := ⟨_, rfl⟩
  have hl1l : l1.length ≤ l.length + 2 := by rw [hl1, List.length_append, zN]; exact Nat.le_refl _
  have hfin : rans l (M.seqR (M.seqR (M.rnum (c.methods.length : Int) 2) (M.foldR (M.rmth (qp c.pool)) c.methods)) (M.rtext [0, 0]) e) = rans (l1 ++ (M.foldR (M.rmth (qp c.pool)) c.methods e1).2) (M.rtext [0, 0] (M.foldR (M.rmth (qp c.pool)) c.methods e1).1) := by
    unfold rans
    have h1 : (M.seqR (M.seqR (M.rnum (c.methods.length : Int) 2) (M.foldR (M.rmth (qp c.pool)) c.methods)) (M.rtext [0, 0]) e).1 = (M.rtext [0, 0] (M.foldR (M.rmth (qp c.pool)) c.methods e1).1).1 := by
      rw [M.seqR_fst, M.seqR_fst, ← he1]
    have h2 : l ++ (M.seqR (M.seqR (M.rnum (c.methods.length : Int) 2) (M.foldR (M.rmth (qp c.pool)) c.methods)) (M.rtext [0, 0]) e).2 = l1 ++ (M.foldR (M.rmth (qp c.pool)) c.methods e1).2 ++ (M.rtext [0, 0] (M.foldR (M.rmth (qp c.pool)) c.methods e1).1).2 := by
      simp only [M.seqR, M.rtext, ← he1, ← htN, hl1, List.append_assoc]
    rw [h1, h2]
  rw [hfin] at HP
  have Hl1 := hide hl1
  have c8 := (unhide H).b.cell 8
  simp at c8
  have hszH := (unhide H).u.size
  clear hfin htN he1 hl1 hLl
  go_wp2_with fail
  refine (unhide HN).mono ?_
  rintro r w2 ⟨rfl, hR2, hg2⟩
  have hW2 := (unhide H).num hR2 hg2
  clear HN hR2 hg2 c8
  have hB2 := hW2.u.size
  have hO2 := hW2.o
  have hl2 : l.length + tN.length ≤ 4000000 := by omega
  go_upto_block 4 with (at_builtin; refine wpList_append_free _ rfl _ _ 67 9 rfl i0 Try.underlying67 Try.underlying9 hi hz0 hz1 hz2 w0.heap.size _ l tN rfl rfl hO2 hl2 hB2 ?_; intro v3 w3 hO3 hg3; rw [← unhide Hl1] at hO3; have hW3 := hW2.app hO3 hg3; obtain ⟨oa3, oc3, e3⟩ := Ot_slice hO3; subst e3; have HW3 := hide hW3; have c8 := hW3.b.cell 8; simp at c8; clear hO3 hg3 hW3 hW2 hO2)
  clear c8
  rename_i Kr aKr
  have HKr := hide aKr
  clear aKr
  go_wp2_with fail
  go_loopw [9, 160] (fun ov i wr => ∃ (k : Nat) (oak : Addr) (ock : Nat), k ≤ L.length ∧ i = .int .i64 k ∧ ov = .slice (some oak) (l1 ++ (M.foldR (M.rmth (qp c.pool)) (c.methods.take k) e1).2).length ock ∧ Hid (Ws w0 wr R n c vp vi vf (.slice ma L.length mc) (M.foldR (M.rmth (qp c.pool)) (c.methods.take k) e1).1 (.slice (some oak) (l1 ++ (M.foldR (M.rmth (qp c.pool)) (c.methods.take k) e1).2).length ock) (l1 ++ (M.foldR (M.rmth (qp c.pool)) (c.methods.take k) e1).2))) (fun _ i _ => L.length - (intOf i).toNat)
  case atStart =>
    have h0 : l1 ++ (M.foldR (M.rmth (qp c.pool)) (c.methods.take 0) e1).2 = l1 := by simp [M.foldR, M.rtext]
    have h1 : (M.foldR (M.rmth (qp c.pool)) (c.methods.take 0) e1).1 = e1 := by simp [M.foldR, M.rtext]
    exact ⟨0, oa3, oc3, Nat.zero_le _, rfl, by rw [h0], by rw [h0, h1]; exact unhide HW3⟩
  case round =>
    clear HW3 H
    obtain ⟨k, oak, ock, hkn, rfl, rfl, HWr⟩ := hrel
    have hfl := M.rmths_le (qp c.pool) (c.methods.take k) e1
    by_cases hlt : k < L.length
    · have hne : L ≠ [] := by intro e; rw [e] at hlt; simp at hlt
      have hkm : k < c.methods.length := by rw [← unhide HLl]; exact hlt
      have hCr := (unhide HCin).below (unhide HWr).u
      obtain ⟨_, _, x1, G1⟩ := hCr.m
      cases x1
      obtain ⟨g1, o1', rfl, g2⟩ := G1 hne
      obtain ⟨x, hx⟩ : ∃ x, x = L.getD k Mv.zero := ⟨_, rfl⟩
      have hxm : x ∈ L := by rw [hx]; simp [List.getD, List.getElem?_eq_getElem hlt]
      have hxc : x.m ∈ c.methods := by rw [← (unhide HCin).e]; exact List.mem_map_of_mem hxm
      have hxo := unhide OkM x.m hxc
      have hxh := (unhide HCin).h x hxm
      have s0 := g2 k hlt 0 (by omega)
      have s1 := g2 k hlt 1 (by omega)
      have s2 := g2 k hlt 2 (by omega)
      have s3 := g2 k hlt 3 (by omega)
      have s4 := g2 k hlt 4 (by omega)
      have s5 := g2 k hlt 5 (by omega)
      have s6 := g2 k hlt 6 (by omega)
      have s7 := g2 k hlt 7 (by omega)
      have s8 := g2 k hlt 8 (by omega)
      rw [← hx] at s0 s1 s2 s3 s4 s5 s6 s7 s8
      simp [Mv.cells] at s0 s1 s2 s3 s4 s5 s6 s7 s8
      have ki : (k : Int) < (L.length : Int) := by omega
      have hgx : c.methods.getD k Mv.zero.m = x.m := by
        rw [hx]
        simp only [List.getD, List.getElem?_eq_getElem hlt, List.getElem?_eq_getElem hkm, Option.getD_some]
        simp only [← (unhide HCin).e, List.getElem_map]
      have hstep : M.foldR (M.rmth (qp c.pool)) (c.methods.take (k + 1)) = M.seqR (M.foldR (M.rmth (qp c.pool)) (c.methods.take k)) (M.rmth (qp c.pool) x.m) := by rw [← hgx]; exact M.foldR_take _ _ _ hkm
      have hlc : M.mcosts (c.methods.take k) + M.mcost x.m ≤ M.mcosts c.methods := by rw [← hgx]; exact M.mcosts_step c.methods _ hkm
      obtain ⟨ek, hek⟩ : ∃ a, a = (M.foldR (M.rmth (qp c.pool)) (c.methods.take k) e1).1 := ⟨_, rfl⟩
      obtain ⟨lk, hlk⟩ : ∃ a, a = l1 ++ (M.foldR (M.rmth (qp c.pool)) (c.methods.take k) e1).2 := ⟨_, rfl⟩
      have hlkl : lk.length + M.mcost x.m + 50 ≤ 1000000 := by rw [hlk, List.length_append]; omega
      rw [← hek, ← hlk] at HWr
      rw [← hlk]
      have hmk : M.mcost x.m = 14 + M.clen x.m.code := rfl
      obtain ⟨ya, yc, ey, _⟩ := id hxh
      obtain ⟨wZ, hwZ⟩ : ∃ wZ, wZ = wr.alloc (.cells #[.int .u16 (x.m.flags : Int), .int .u16 (x.m.name : Int), .int .u16 (x.m.type_ : Int), .bool x.m.has, .int .i64 x.m.code.stack, .int .i64 x.m.code.locals, .string ⟨x.m.code.bytes.toArray⟩, x.hv, .string ⟨x.m.code.map.toArray⟩] 101) := ⟨_, rfl⟩
      have hWZ := (unhide HWr).alloc (.cells #[.int .u16 (x.m.flags : Int), .int .u16 (x.m.name : Int), .int .u16 (x.m.type_ : Int), .bool x.m.has, .int .i64 x.m.code.stack, .int .i64 x.m.code.locals, .string ⟨x.m.code.bytes.toArray⟩, x.hv, .string ⟨x.m.code.map.toArray⟩] 101)
      rw [← hwZ] at hWZ
      have bZ : Bk wZ wr.heap.size #[.int .u16 (x.m.flags : Int), .int .u16 (x.m.name : Int), .int .u16 (x.m.type_ : Int), .bool x.m.has, .int .i64 x.m.code.stack, .int .i64 x.m.code.locals, .string ⟨x.m.code.bytes.toArray⟩, x.hv, .string ⟨x.m.code.map.toArray⟩] 101 := by rw [hwZ]; exact Bk.new wr _ _
      have hRlt := (unhide HWr).r.lt
      obtain ⟨tA, htA⟩ : ∃ a : List UInt8, a = (M.rnum (x.m.flags : Int) 2 ek).2 := ⟨_, rfl⟩
      obtain ⟨eA, heA⟩ : ∃ a, a = (M.rnum (x.m.flags : Int) 2 ek).1 := ⟨_, rfl⟩
      have HA := hide (fun W (hW : Rb W R c vp vi vf (.slice (some ⟨g1, o1', none⟩) L.length mc) ek) => rnum2_any R c vp vi vf (.slice (some ⟨g1, o1', none⟩) L.length mc) ek (x.m.flags : Int) W hW (Okx.nat (by have := hxo.a; omega)))
      rw [← htA, ← heA] at HA
      have zA : tA.length = 2 := by rw [htA]; exact M.nl _ _ _
      obtain ⟨tB, htB⟩ : ∃ a : List UInt8, a = (M.rnum (x.m.name : Int) 2 eA).2 := ⟨_, rfl⟩
      obtain ⟨eB, heB⟩ : ∃ a, a = (M.rnum (x.m.name : Int) 2 eA).1 := ⟨_, rfl⟩
      have HB := hide (fun W (hW : Rb W R c vp vi vf (.slice (some ⟨g1, o1', none⟩) L.length mc) eA) => rnum2_any R c vp vi vf (.slice (some ⟨g1, o1', none⟩) L.length mc) eA (x.m.name : Int) W hW (Okx.nat (by have := hxo.b; omega)))
      rw [← htB, ← heB] at HB
      have zB : tB.length = 2 := by rw [htB]; exact M.nl _ _ _
      obtain ⟨tC, htC⟩ : ∃ a : List UInt8, a = (M.rnum (x.m.type_ : Int) 2 eB).2 := ⟨_, rfl⟩
      obtain ⟨eC, heC⟩ : ∃ a, a = (M.rnum (x.m.type_ : Int) 2 eB).1 := ⟨_, rfl⟩
      have HC := hide (fun W (hW : Rb W R c vp vi vf (.slice (some ⟨g1, o1', none⟩) L.length mc) eB) => rnum2_any R c vp vi vf (.slice (some ⟨g1, o1', none⟩) L.length mc) eB (x.m.type_ : Int) W hW (Okx.nat (by have := hxo.c; omega)))
      rw [← htC, ← heC] at HC
      have zC : tC.length = 2 := by rw [htC]; exact M.nl _ _ _

      obtain ⟨t3, ht3⟩ : ∃ a, a = tA ++ tB ++ tC := ⟨_, rfl⟩
      have zt3 : t3.length = 6 := by rw [ht3, List.length_append, List.length_append]; omega
      have habc : (⟨tA.toArray⟩ ++ ⟨tB.toArray⟩ ++ ⟨tC.toArray⟩ : ByteArray) = ⟨t3.toArray⟩ := by rw [cat_text, cat_text, ht3]
      have Habc := hide habc
      have hrt : M.rtri x.m.flags x.m.name x.m.type_ ek = (eC, t3) := by unfold M.rtri; simp only [M.seqR, ← heA, ← heB, ← heC, ← htA, ← htB, ← htC, ht3]
      have hrm : M.rmth (qp c.pool) x.m ek = M.seqR (fun _ => (eC, t3)) (if x.m.has = true then fun e => ((M.rcode (qp c.pool) x.m.code e).1, [0, 1] ++ (M.rcode (qp c.pool) x.m.code e).2) else M.rtext [0, 0]) ek := by
        have h0 : M.rmth (qp c.pool) x.m = M.seqR (M.rtri x.m.flags x.m.name x.m.type_) (if x.m.has = true then fun e => ((M.rcode (qp c.pool) x.m.code e).1, [0, 1] ++ (M.rcode (qp c.pool) x.m.code e).2) else M.rtext [0, 0]) := rfl
        rw [h0]
        simp only [M.seqR, hrt]
      have hnx : ∀ r, M.rmth (qp c.pool) x.m ek = r → (M.foldR (M.rmth (qp c.pool)) (c.methods.take (k + 1)) e1).1 = r.1 ∧ l1 ++ (M.foldR (M.rmth (qp c.pool)) (c.methods.take (k + 1)) e1).2 = lk ++ r.2 := fun r hr => by
        rw [hstep]
        exact ⟨by rw [M.seqR_fst, ← hek, hr], by unfold M.seqR; simp only [← hek, hr, hlk, List.append_assoc]⟩
      have Hnx := hide hnx
      have Hrm := hide hrm
      have wt1 : IntKind.i64.wrap (x.m.flags : Int) = (x.m.flags : Int) := by rw [IntKind.wrap_i64]; have := hxo.a; omega
      have wt2 : IntKind.i64.wrap (x.m.name : Int) = (x.m.name : Int) := by rw [IntKind.wrap_i64]; have := hxo.b; omega
      have wt3 : IntKind.i64.wrap (x.m.type_ : Int) = (x.m.type_ : Int) := by rw [IntKind.wrap_i64]; have := hxo.c; omega
      have HQ : Hid (∀ X : World, Bk X wr.heap.size #[.int .u16 (x.m.flags : Int), .int .u16 (x.m.name : Int), .int .u16 (x.m.type_ : Int), .bool x.m.has, .int .i64 x.m.code.stack, .int .i64 x.m.code.locals, .string ⟨x.m.code.bytes.toArray⟩, x.hv, .string ⟨x.m.code.map.toArray⟩] 101 → X.cell? ⟨wr.heap.size, 0, none⟩ = some (.int .u16 (x.m.flags : Int)) ∧ X.cell? ⟨wr.heap.size, 1, none⟩ = some (.int .u16 (x.m.name : Int)) ∧ X.cell? ⟨wr.heap.size, 2, none⟩ = some (.int .u16 (x.m.type_ : Int)) ∧ True) := fun X hX => ⟨hX.cell 0, hX.cell 1, hX.cell 2, trivial⟩
      have HwZ := hide hwZ
      rw [ey] at s7 HwZ
      have bZ2 := bZ
      rw [ey] at bZ HQ
      have hW0 := hWZ.drew
      have HRcode := hide (fun W (hW : Rb W R c vp vi vf (.slice (some ⟨g1, o1', none⟩) L.length mc) eC) (hb : Below w0.heap.size w0 W) => rcode_any R c vp vi vf (.slice (some ⟨g1, o1', none⟩) L.length mc) x.hv eC x.m.code w0 W hW hb hW0.hR (unhide HCin).p hP hxo.d (by omega) hxh)
      rw [ey] at HRcode
      clear hstep hwZ hek hlk hx hxm hxc hxo g2 G1 hne hCr HWr hgx hlc hfl hnx hrm hrt habc ht3 htA htB htC heA heB heC hWZ hxh bZ2 ey
      go_upto_region 28 with fail
      rw [← unhide HwZ]
      clear HwZ s0 s1 s2 s3 s4 s5 s6 s7 s8
      refine wp_region_held_drew (S := fun X => Bk X wr.heap.size #[.int .u16 (x.m.flags : Int), .int .u16 (x.m.name : Int), .int .u16 (x.m.type_ : Int), .bool x.m.has, .int .i64 x.m.code.stack, .int .i64 x.m.code.locals, .string ⟨x.m.code.bytes.toArray⟩, (.slice ya x.m.code.handlers.length yc), .string ⟨x.m.code.map.toArray⟩] 101) (by kernel_rfl) (show Bk wZ.drew _ _ _ from bZ) (fun hHeld => ?_)
      refine wpAnyH_take (i := 0) (oi := _) (v := ?_) rfl (by kernel_rfl) (by kernel_rfl) (by kernel_rfl) (fun _ _ _ h => h) (Or.inl ⟨by rfl, ?_⟩) (by assumption) ?_
      rotate_left
      · intro X hX
        go_simp
        try rfl
      try simp only [Act.put, List.getElem_toArray, List.getElem_cons_zero, List.getElem_cons_succ, List.setIfInBounds_toArray, List.set_cons_zero, List.set_cons_succ]
      refine wpAnyH_take (i := 1) (oi := _) (v := ?_) rfl (by kernel_rfl) (by kernel_rfl) (by kernel_rfl) (fun _ _ _ h => h) (Or.inl ⟨by rfl, ?_⟩) (by assumption) ?_
      rotate_left
      · intro X hX
        go_simp
        try rfl
      try simp only [Act.put, List.getElem_toArray, List.getElem_cons_zero, List.getElem_cons_succ, List.setIfInBounds_toArray, List.set_cons_zero, List.set_cons_succ]
      refine wpAnyH_take (i := 2) (oi := _) (v := ?_) rfl (by kernel_rfl) (by kernel_rfl) (by kernel_rfl) (fun _ _ _ h => h) (Or.inl ⟨by rfl, ?_⟩) (by assumption) ?_
      rotate_left
      · intro X hX
        go_simp
        try rfl
      try simp only [Act.put, List.getElem_toArray, List.getElem_cons_zero, List.getElem_cons_succ, List.setIfInBounds_toArray, List.set_cons_zero, List.set_cons_succ]
      refine wpAnyH_take (i := 3) (oi := _) (v := ?_) rfl (by kernel_rfl) (by kernel_rfl) (by kernel_rfl) (fun _ _ _ h => h) (Or.inl ⟨by rfl, ?_⟩) (by assumption) ?_
      rotate_left
      · intro X hX
        have q0 := (unhide HQ X hX).1
        go_simp
        try rfl
      try simp only [Act.put, List.getElem_toArray, List.getElem_cons_zero, List.getElem_cons_succ, List.setIfInBounds_toArray, List.set_cons_zero, List.set_cons_succ]
      refine wpAnyH_take (i := 4) (oi := _) (v := ?_) rfl (by kernel_rfl) (by kernel_rfl) (by kernel_rfl) (fun _ _ _ h => h) (Or.inl ⟨by rfl, ?_⟩) (by assumption) ?_
      rotate_left
      · intro X hX
        go_simp
        try rfl
      try simp only [Act.put, List.getElem_toArray, List.getElem_cons_zero, List.getElem_cons_succ, List.setIfInBounds_toArray, List.set_cons_zero, List.set_cons_succ]
      refine wpAnyH_take (i := 6) (oi := _) (v := ?_) rfl (by kernel_rfl) (by kernel_rfl) (by kernel_rfl) (fun _ _ _ h => h) (Or.inl ⟨by rfl, ?_⟩) (by assumption) ?_
      rotate_left
      · intro X hX
        go_simp
        try rfl
      try simp only [Act.put, List.getElem_toArray, List.getElem_cons_zero, List.getElem_cons_succ, List.setIfInBounds_toArray, List.set_cons_zero, List.set_cons_succ]
      refine wpAnyH_take (i := 7) (oi := _) (v := ?_) rfl (by kernel_rfl) (by kernel_rfl) (by kernel_rfl) (fun _ _ _ h => h) (Or.inl ⟨by rfl, ?_⟩) (by assumption) ?_
      rotate_left
      · intro X hX
        go_simp
        try rfl
      try simp only [Act.put, List.getElem_toArray, List.getElem_cons_zero, List.getElem_cons_succ, List.setIfInBounds_toArray, List.set_cons_zero, List.set_cons_succ]
      refine wpAnyH_take (i := 8) (oi := _) (v := ?_) rfl (by kernel_rfl) (by kernel_rfl) (by kernel_rfl) (fun _ _ _ h => h) (Or.inl ⟨by rfl, ?_⟩) (by assumption) ?_
      rotate_left
      · intro X hX
        have q1 := (unhide HQ X hX).2.1
        go_simp
        try rfl
      try simp only [Act.put, List.getElem_toArray, List.getElem_cons_zero, List.getElem_cons_succ, List.setIfInBounds_toArray, List.set_cons_zero, List.set_cons_succ]
      refine wpAnyH_take (i := 9) (oi := _) (v := ?_) rfl (by kernel_rfl) (by kernel_rfl) (by kernel_rfl) (fun _ _ _ h => h) (Or.inl ⟨by rfl, ?_⟩) (by assumption) ?_
      rotate_left
      · intro X hX
        go_simp
        try rfl
      try simp only [Act.put, List.getElem_toArray, List.getElem_cons_zero, List.getElem_cons_succ, List.setIfInBounds_toArray, List.set_cons_zero, List.set_cons_succ]
      refine wpAnyH_take (i := 12) (oi := _) (v := ?_) rfl (by kernel_rfl) (by kernel_rfl) (by kernel_rfl) (fun _ _ _ h => h) (Or.inl ⟨by rfl, ?_⟩) (by assumption) ?_
      rotate_left
      · intro X hX
        go_simp
        try rfl
      try simp only [Act.put, List.getElem_toArray, List.getElem_cons_zero, List.getElem_cons_succ, List.setIfInBounds_toArray, List.set_cons_zero, List.set_cons_succ]
      refine wpAnyH_take (i := 13) (oi := _) (v := ?_) rfl (by kernel_rfl) (by kernel_rfl) (by kernel_rfl) (fun _ _ _ h => h) (Or.inl ⟨by rfl, ?_⟩) (by assumption) ?_
      rotate_left
      · intro X hX
        go_simp
        try rfl
      try simp only [Act.put, List.getElem_toArray, List.getElem_cons_zero, List.getElem_cons_succ, List.setIfInBounds_toArray, List.set_cons_zero, List.set_cons_succ]
      refine wpAnyH_take (i := 14) (oi := _) (v := ?_) rfl (by kernel_rfl) (by kernel_rfl) (by kernel_rfl) (fun _ _ _ h => h) (Or.inl ⟨by rfl, ?_⟩) (by assumption) ?_
      rotate_left
      · intro X hX
        have q2 := (unhide HQ X hX).2.2.1
        go_simp
        try rfl
      try simp only [Act.put, List.getElem_toArray, List.getElem_cons_zero, List.getElem_cons_succ, List.setIfInBounds_toArray, List.set_cons_zero, List.set_cons_succ]
      refine wpAnyH_take (i := 15) (oi := _) (v := ?_) rfl (by kernel_rfl) (by kernel_rfl) (by kernel_rfl) (fun _ _ _ h => h) (Or.inl ⟨by rfl, ?_⟩) (by assumption) ?_
      rotate_left
      · intro X hX
        go_simp
        try rfl
      try simp only [Act.put, List.getElem_toArray, List.getElem_cons_zero, List.getElem_cons_succ, List.setIfInBounds_toArray, List.set_cons_zero, List.set_cons_succ]
      refine wpAnyH_ready (rs := [5]) (by kernel_rfl) (by simp) ?_
      refine AllReadyH.cons (o := _) rfl (fun K hK => ?_) AllReadyH.nil
      go_simp
      go_at_call 54
      refine (unhide HA _ hW0.r).mono ?_
      rintro r wA ⟨rfl, hRA, hgA⟩
      have hWA := hW0.num hRA hgA
      try go_simp
      refine hK.out _ _ (Bk.kept hHeld hgA (by simp; omega)) (fun hHeld => ?_)
      clear hK K
      try simp only [Act.put, List.getElem_toArray, List.getElem_cons_zero, List.getElem_cons_succ, List.setIfInBounds_toArray, List.set_cons_zero, List.set_cons_succ]
      refine wpAnyH_ready (rs := [10]) (by kernel_rfl) (by simp) ?_
      refine AllReadyH.cons (o := _) rfl (fun K hK => ?_) AllReadyH.nil
      go_simp
      go_at_call 54
      refine (unhide HB _ hWA.r).mono ?_
      rintro r wB ⟨rfl, hRB, hgB⟩
      have hWB := hWA.num hRB hgB
      try go_simp
      refine hK.out _ _ (Bk.kept hHeld hgB (by simp; omega)) (fun hHeld => ?_)
      clear hK K
      try simp only [Act.put, List.getElem_toArray, List.getElem_cons_zero, List.getElem_cons_succ, List.setIfInBounds_toArray, List.set_cons_zero, List.set_cons_succ]
      refine wpAnyH_take (i := 11) (oi := _) (v := ?_) rfl (by kernel_rfl) (by kernel_rfl) (by kernel_rfl) (fun _ _ _ h => h) (Or.inl ⟨by rfl, ?_⟩) (by assumption) ?_
      rotate_left
      · intro X hX
        go_simp
        first
        | rfl
        | (rw [if_neg (by simp [ByteArray.size_append]; omega)]; try rfl)
      try simp only [Act.put, List.getElem_toArray, List.getElem_cons_zero, List.getElem_cons_succ, List.setIfInBounds_toArray, List.set_cons_zero, List.set_cons_succ]
      refine wpAnyH_ready (rs := [16]) (by kernel_rfl) (by simp) ?_
      refine AllReadyH.cons (o := _) rfl (fun K hK => ?_) AllReadyH.nil
      go_simp
      go_at_call 54
      refine (unhide HC _ hWB.r).mono ?_
      rintro r wC ⟨rfl, hRC, hgC⟩
      have hWC := hWB.num hRC hgC
      try go_simp
      refine hK.out _ _ (Bk.kept hHeld hgC (by simp; omega)) (fun hHeld => ?_)
      clear hK K
      try simp only [Act.put, List.getElem_toArray, List.getElem_cons_zero, List.getElem_cons_succ, List.setIfInBounds_toArray, List.set_cons_zero, List.set_cons_succ]
      refine wpAnyH_take (i := 17) (oi := _) (v := ?_) rfl (by kernel_rfl) (by kernel_rfl) (by kernel_rfl) (fun _ _ _ h => h) (Or.inl ⟨by rfl, ?_⟩) (by assumption) ?_
      rotate_left
      · intro X hX
        go_simp
        first
        | rfl
        | (rw [if_neg (by simp [ByteArray.size_append]; omega)]; try rfl)
      try simp only [Act.put, List.getElem_toArray, List.getElem_cons_zero, List.getElem_cons_succ, List.setIfInBounds_toArray, List.set_cons_zero, List.set_cons_succ]
      refine wpAnyH_ready (rs := [18]) (by kernel_rfl) (by simp) ?_
      refine AllReadyH.cons (o := _) rfl (fun K hK => ?_) AllReadyH.nil
      rw [if_pos (by rfl)]
      refine oper_append_free (.tmp 164) (.tmp 181) 67 9 rfl i0 Try.underlying67 Try.underlying9 hi hz0 hz1 hz2 w0.heap.size (.slice (some oak) lk.length ock) lk t3 rfl (by show Value.string (⟨tA.toArray⟩ ++ ⟨tB.toArray⟩ ++ ⟨tC.toArray⟩) = _; rw [unhide Habc]) hWC.o (by omega) hWC.u.size ?_
      intro v4 w4 hO4 hg4
      have hW4 := hWC.app hO4 hg4
      have bZ4 := Bk.kept hHeld hg4 (Ot_not hWC.o hHeld (by decide))
      refine hK.out _ _ bZ4 (fun hHeld => ?_)
      clear hK K
      try simp only [Act.put, List.getElem_toArray, List.getElem_cons_zero, List.getElem_cons_succ, List.setIfInBounds_toArray, List.set_cons_zero, List.set_cons_succ]
      refine wpAnyH_take (i := 19) (oi := _) (v := ?_) rfl (by kernel_rfl) (by kernel_rfl) (by kernel_rfl) (fun _ _ _ h => h) (Or.inl ⟨by rfl, ?_⟩) (by assumption) ?_
      rotate_left
      · intro X hX
        go_simp
        try rfl
      try simp only [Act.put, List.getElem_toArray, List.getElem_cons_zero, List.getElem_cons_succ, List.setIfInBounds_toArray, List.set_cons_zero, List.set_cons_succ]

      refine wpAnyH_done (by kernel_rfl) ?_ _
      obtain ⟨oa4, oc4, e4⟩ := Ot_slice hO4
      subst e4
      obtain ⟨l4, hl4⟩ : ∃ a, a = lk ++ t3 := ⟨_, rfl⟩
      have hl4l : l4.length ≤ lk.length + 6 := by rw [hl4, List.length_append, zt3]; exact Nat.le_refl _
      rw [← hl4] at hW4 hO4
      rw [← hl4]
      have d3 := hHeld.cell 3
      have d4 := hHeld.cell 4
      have d5 := hHeld.cell 5
      have d6 := hHeld.cell 6
      have d7 := hHeld.cell 7
      have d8 := hHeld.cell 8
      simp at d3 d4 d5 d6 d7 d8
      have Hl4 := hide hl4
      have HW4 := hide hW4
      clear hl4 hW4 hO4 hg4 bZ4 bZ hWA hWB hWC hgA hgB hgC hRA hRB hRC HA HB HC HQ Habc hW0 wt1 wt2 wt3 zA zB zC
      cases hhas : x.m.has with
      | false =>
        rw [hhas] at d3
        have hrm2 : M.rmth (qp c.pool) x.m ek = (eC, t3 ++ [0, 0]) := by rw [unhide Hrm, hhas]; rfl
        obtain ⟨n1, n2⟩ := unhide Hnx _ hrm2
        simp only at n1 n2
        rw [← List.append_assoc, ← unhide Hl4] at n2
        have Hn1 := hide n1
        have Hn2 := hide n2
        have hO4 := (unhide HW4).o
        have hB4 := (unhide HW4).u.size
        clear hhas hrm2 n1 n2 HRcode d4 d5 d6 d7 d8
        go_wp2_with (at_builtin; refine wpList_append_free _ rfl _ _ 67 9 rfl i0 Try.underlying67 Try.underlying9 hi hz0 hz1 hz2 w0.heap.size _ l4 [0, 0] rfl rfl hO4 (by simp; omega) hB4 ?_; intro v5 w5 hO5 hg5; have hW5 := (unhide HW4).app hO5 hg5; obtain ⟨oa5, oc5, e5⟩ := Ot_slice hO5; subst e5; rw [← unhide Hn2] at hW5; rw [← unhide Hn1] at hW5; have HW5 := hide hW5; have Hv5 : Hid (l4.length + 2 = (l1 ++ (M.foldR (M.rmth (qp c.pool)) (c.methods.take (k + 1)) e1).2).length) := (by rw [unhide Hn2, List.length_append]; rfl); clear hO5 hg5 hW5)
        go_roundw
        case rel => exact ⟨k + 1, oa5, oc5, by omega, by go_num, by first | rw [← unhide Hv5] | (rw [unhide Hn2]) | simp [← unhide Hv5], unhide HW5⟩
        case measure => simp [intOf]; omega
      | true =>
        rw [hhas] at d3
        obtain ⟨tR, htR⟩ : ∃ a, a = (M.rcode (qp c.pool) x.m.code eC).2 := ⟨_, rfl⟩
        obtain ⟨eR, heR⟩ : ∃ a, a = (M.rcode (qp c.pool) x.m.code eC).1 := ⟨_, rfl⟩
        have zR := M.rcode_le (qp c.pool) x.m.code eC
        rw [← htR] at zR
        rw [← htR, ← heR] at HRcode
        have hrm2 : M.rmth (qp c.pool) x.m ek = (eR, t3 ++ ([0, 1] ++ tR)) := by rw [unhide Hrm, hhas]; simp only [if_true, M.seqR, ← htR, ← heR]
        obtain ⟨n1, n2⟩ := unhide Hnx _ hrm2
        simp only at n1 n2
        rw [← List.append_assoc, ← unhide Hl4] at n2
        have Hn1 := hide n1
        have Hn2 := hide n2
        have hcat : (⟨#[0, 1]⟩ ++ ⟨tR.toArray⟩ : ByteArray) = ⟨([0, 1] ++ tR).toArray⟩ := by rw [show (⟨#[0, 1]⟩ : ByteArray) = ⟨[0, 1].toArray⟩ from rfl, cat_text]
        have Hcat := hide hcat
        clear hhas hrm2 n1 n2 htR heR hcat
        go_wp2_with fail
        refine (unhide HRcode _ (unhide HW4).r (unhide HW4).u).mono ?_
        rintro r w5 ⟨rfl, hR5, hg5⟩
        have hW5 := (unhide HW4).num hR5 hg5
        have hO5 := hW5.o
        have hB5 := hW5.u.size
        have hsr : l4.length + ([0, 1] ++ tR).length ≤ 4000000 := by simp only [List.length_append, List.length_cons, List.length_nil]; omega
        have ztr : (tR.length : Int) ≤ 1000000 := by omega
        clear HRcode hR5 hg5 d3 d4 d5 d6 d7 d8
        go_wp2_with (at_builtin; refine wpList_append_free _ rfl _ _ 67 9 rfl i0 Try.underlying67 Try.underlying9 hi hz0 hz1 hz2 w0.heap.size _ l4 ([0, 1] ++ tR) rfl (by show Value.string (⟨#[0, 1]⟩ ++ ⟨tR.toArray⟩) = _; rw [unhide Hcat]) hO5 hsr hB5 ?_; intro v6 w6 hO6 hg6; have hW6 := hW5.app hO6 hg6; obtain ⟨oa6, oc6, e6⟩ := Ot_slice hO6; subst e6; rw [← unhide Hn2] at hW6; rw [← unhide Hn1] at hW6; have HW6 := hide hW6; have Hv6 := hide (show (l4 ++ ([0, 1] ++ tR)).length = (l1 ++ (M.foldR (M.rmth (qp c.pool)) (c.methods.take (k + 1)) e1).2).length by rw [unhide Hn2]); clear hO6 hg6 hW6)
        go_roundw
        case rel => exact ⟨k + 1, oa6, oc6, by omega, by go_num, by first | (rw [← unhide Hv6]; done) | (rw [← unhide Hv6]; simp; done) | (rw [← unhide Hv6]; simp; omega), unhide HW6⟩
        case measure => simp [intOf]; omega
    · have hkl : k = L.length := by omega
      subst hkl
      have ki : ¬ ((L.length : Nat) : Int) < ((L.length : Nat) : Int) := by omega
      have htk : c.methods.take L.length = c.methods := by rw [unhide HLl]; exact List.take_length
      rw [htk] at HWr hfl
      rw [htk]
      have hll : (l1 ++ (M.foldR (M.rmth (qp c.pool)) c.methods e1).2).length ≤ 2000000 := by rw [List.length_append]; omega
      generalize l1 ++ (M.foldR (M.rmth (qp c.pool)) c.methods e1).2 = lf at *
      generalize (M.foldR (M.rmth (qp c.pool)) c.methods e1).1 = ef at *
      clear htk hfl
      go_wp2_with fail
      refine unhide HKr _ _ ?_
      exact wc_end HWr hll HP
end Go.Proofs.Ytgihfcjddkpkaaa.Cl
