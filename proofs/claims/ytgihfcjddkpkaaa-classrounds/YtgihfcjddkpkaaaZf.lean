/-
  The reference: WriteClass: its fields, and what follows.
-/
import Derived.Test.YtgihfcjddkpkaaaZe
namespace Go.Proofs.Ytgihfcjddkpkaaa.Cl
set_option linter.unusedVariables false
set_option linter.unusedSimpArgs false
open Go.RowKit Go.Maps
theorem rans_seq (l : List UInt8) (f g : M.Rw) (e : Nat) : rans l (M.seqR f g e) = rans (l ++ (f e).2) (g (f e).1) := by
  unfold rans
  rw [M.seqR_fst]
  have h : l ++ (M.seqR f g e).2 = l ++ (f e).2 ++ (g (f e).1).2 := by unfold M.seqR; rw [List.append_assoc]
  rw [h]
namespace M
theorem rfld_eq (P : List K) (f : Fd) : rfld P f = seqR (rtri f.flags f.name f.type_) (if f.value = 0 then rtext [0, 0] else fun e => ((ratt P valueN (rnum (f.value : Int) 2 e).2 (rnum (f.value : Int) 2 e).1).1, [0, 1] ++ (ratt P valueN (rnum (f.value : Int) 2 e).2 (rnum (f.value : Int) 2 e).1).2)) := rfl
theorem rfld_le (P : List K) (f : Fd) (e : Nat) : (rfld P f e).2.length ≤ 16 := by
  rw [rfld_eq, sl, rtri_len]
  by_cases h : f.value = 0
  · rw [if_pos h, tl]; decide
  · rw [if_neg h]
    have := ratt_len P valueN (rnum (f.value : Int) 2 (rtri f.flags f.name f.type_ e).1).2 (rnum (f.value : Int) 2 (rtri f.flags f.name f.type_ e).1).1
    rw [nl] at this
    simp only [List.length_append, List.length_cons, List.length_nil]
    omega
theorem rflds_le (P : List K) (l : List Fd) (e : Nat) : (foldR (rfld P) l e).2.length ≤ 16 * l.length := by
  induction l generalizing e with
  | nil => simp [foldR, rtext]
  | cons x l ih =>
    rw [foldR, sl, List.length_cons]
    have h1 := rfld_le P x e
    have h2 := ih (rfld P x e).1
    omega
/-- What stands behind the fields. -/
def rt11 (c : Csi) : Rw := seqR (seqR (rnum (c.methods.length : Int) 2) (foldR (rmth (qp c.pool)) c.methods)) (rtext [0, 0])
end M
set_option maxRecDepth 1000000 in
set_option maxHeartbeats 16000000 in
theorem wc_flds {post : Ending → World → Prop} {c0 c2 c3 c5 c6 c7 c8 c10 c11 c12 c13 c14 c15 c16 c17 c18 c19 c20 c21 c22 c23 c24 c25 c26 c27 c28 c29 c30 c31 c32 c33 c34 c35 c36 c37 c38 c39 c40 c41 c42 c43 c44 c45 c46 c47 c48 c49 c50 c51 c52 c53 c54 c55 c56 c57 c58 c59 c60 c61 c62 c63 c64 c65 c66 c67 c68 c69 c70 c71 c72 c73 c74 c75 c76 c77 c78 c79 c80 c81 c82 c83 c84 c85 c86 c87 c88 c89 c90 c91 c92 c93 c94 c95 c96 c97 c98 c99 c100 c101 c102 c103 c104 c105 c106 c107 c108 c109 c110 c111 c112 c113 c114 c115 c116 c117 c118 c119 c120 c121 c122 c123 c124 c125 c126 c127 c128 c129 c130 c131 c132 c133 c134 c135 c136 c137 c138 c139 c140 c141 c142 c143 c144 c145 c146 c147 c148 c149 c150 c151 c152 c153 c154 c155 c156 c157 c158 c159 c160 c161 c162 c163 c164 c165 c166 c167 c168 c169 c170 c171 c172 c173 c174 c175 c176 c177 c178 c179 c180 c181 c182 c183 c184 c185 c186 c187 c188 c189 c190 c191 c192 c193 c194 c195 c196 c197 c198 c199 c200 c201 c202 c203 c204 c205 c206 c207 c208 : Value} {w0 w1 : World} {R n : Nat} {c : Csi} {vp vi : Value} {fa ma : Option Addr} {fc mc : Nat} {L : List Mv} {e : Nat} {oa : Addr} {oc : Nat} {l : List UInt8} (H : Hid (Ws w0 w1 R n c vp vi (.slice fa c.fields.length fc) (.slice ma L.length mc) e (.slice (some oa) l.length oc) l)) (HCin : Hid (Cin w0 c vp vi (.slice fa c.fields.length fc) (.slice ma L.length mc) L)) (OkF : Hid (∀ f ∈ c.fields, FdOk f)) (OkM : Hid (∀ m ∈ c.methods, m.Ok)) (hP : c.pool.length ≤ 1048576) (hl : l.length + 16 * c.fields.length + M.mcosts c.methods + 200 ≤ 1000000) (hmc2 : M.mcosts c.methods ≤ 890000)
    (HP : Hid (∀ w', Below w0.heap.size w0 w' → post (rans l (M.seqR (M.seqR (M.rnum (c.fields.length : Int) 2) (M.foldR (M.rfld (qp c.pool)) c.fields)) (M.rt11 c) e)) w')) :
    Code.wp Try.prog ((Try.f23.body.map (tlOf 9)).getD .skip) (bodyPost Try.prog Try.f23 post) ⟨#[c0, .pointer (some ⟨n, 0, none⟩), c2, c3, .pointer (some ⟨R, 0, none⟩), c5, c6, c7, c8, .slice (some oa) l.length oc, c10, c11, c12, c13, c14, c15, c16, c17, c18, c19, c20, c21, c22, c23, c24, c25, c26, c27, c28, c29, c30, c31, c32, c33, c34, c35, c36, c37, c38, c39, c40, c41, c42, c43, c44, c45, c46, c47, c48, c49, c50, c51, c52, c53, c54, c55, c56, c57, c58, c59, c60, c61, c62, c63, c64, c65, c66, c67, c68, c69, c70, c71, c72, c73, c74, c75, c76, c77, c78, c79, c80, c81, c82, c83, c84, c85, c86, c87, c88, c89, c90, c91, c92, c93, c94, c95, c96, c97, c98, c99, c100, c101, c102, c103, c104, c105, c106, c107, c108, c109, c110, c111, c112, c113, c114, c115, c116, c117, c118, c119, c120, c121, c122, c123, c124, c125, c126, c127, c128, c129, c130, c131, c132, c133, c134, c135, c136, c137, c138, c139, c140, c141, c142, c143, c144, c145, c146, c147, c148, c149, c150, c151, c152, c153, c154, c155, c156, c157, c158, c159, c160, c161, c162, c163, c164, c165, c166, c167, c168, c169, c170, c171, c172, c173, c174, c175, c176, c177, c178, c179, c180, c181, c182, c183, c184, c185, c186, c187, c188, c189, c190, c191, c192, c193, c194, c195, c196, c197, c198, c199, c200, c201, c202, c203, c204, c205, c206, c207, c208], []⟩ w1 := by
  obtain ⟨i0, hi, hz0, hz1, hz2⟩ := info_parts infoB
  conv => arg 2; whnf
  obtain ⟨vm, hvm⟩ : ∃ v, v = (.slice ma L.length mc : Value) := ⟨_, rfl⟩
  have Hvm := hide hvm
  rw [← hvm] at H HCin
  clear hvm
  obtain ⟨tN, htN⟩ : ∃ a : List UInt8, a = (M.rnum (c.fields.length : Int) 2 e).2 := ⟨_, rfl⟩
  obtain ⟨e1, he1⟩ : ∃ a, a = (M.rnum (c.fields.length : Int) 2 e).1 := ⟨_, rfl⟩
  have HN := hide (rnum2_any R c vp vi (.slice fa c.fields.length fc) vm e (c.fields.length : Int) w1 (unhide H).r (Okx.nat (by omega)))
  rw [← htN, ← he1] at HN
  have zN : tN.length = 2 := by rw [htN]; exact M.nl _ _ _
  obtain ⟨l1, hl1⟩ : ∃ a, a = l ++ tN := ⟨_, rfl⟩
  have hl1l : l1.length ≤ l.length + 2 := by rw [hl1, List.length_append, zN]; exact Nat.le_refl _
  have hfin : rans l (M.seqR (M.seqR (M.rnum (c.fields.length : Int) 2) (M.foldR (M.rfld (qp c.pool)) c.fields)) (M.rt11 c) e) = rans (l1 ++ (M.foldR (M.rfld (qp c.pool)) c.fields e1).2) (M.rt11 c (M.foldR (M.rfld (qp c.pool)) c.fields e1).1) := by
    rw [M.seqR_assoc, rans_seq, rans_seq, ← htN, ← he1, hl1]
  rw [hfin] at HP
  have Hl1 := hide hl1
  have c7 := (unhide H).b.cell 7
  simp at c7
  have hszH := (unhide H).u.size
  clear hfin htN he1 hl1
  go_wp2_with fail
  refine (unhide HN).mono ?_
  rintro r w2 ⟨rfl, hR2, hg2⟩
  have hW2 := (unhide H).num hR2 hg2
  clear HN hR2 hg2 c7
  have hB2 := hW2.u.size
  have hO2 := hW2.o
  have hl2 : l.length + tN.length ≤ 4000000 := by omega
  go_upto_block 2 with (at_builtin; refine wpList_append_free _ rfl _ _ 67 9 rfl i0 Try.underlying67 Try.underlying9 hi hz0 hz1 hz2 w0.heap.size _ l tN rfl rfl hO2 hl2 hB2 ?_; intro v3 w3 hO3 hg3; rw [← unhide Hl1] at hO3; have hW3 := hW2.app hO3 hg3; obtain ⟨oa3, oc3, e3⟩ := Ot_slice hO3; subst e3; have HW3 := hide hW3; have c7 := hW3.b.cell 7; simp at c7; clear hO3 hg3 hW3 hW2 hO2)
  clear c7
  rename_i Kr aKr
  have HKr := hide aKr
  clear aKr
  go_wp2_with fail
  go_loopw [9, 111] (fun ov i wr => ∃ (k : Nat) (oak : Addr) (ock : Nat), k ≤ c.fields.length ∧ i = .int .i64 k ∧ ov = .slice (some oak) (l1 ++ (M.foldR (M.rfld (qp c.pool)) (c.fields.take k) e1).2).length ock ∧ Hid (Ws w0 wr R n c vp vi (.slice fa c.fields.length fc) vm (M.foldR (M.rfld (qp c.pool)) (c.fields.take k) e1).1 (.slice (some oak) (l1 ++ (M.foldR (M.rfld (qp c.pool)) (c.fields.take k) e1).2).length ock) (l1 ++ (M.foldR (M.rfld (qp c.pool)) (c.fields.take k) e1).2))) (fun _ i _ => c.fields.length - (intOf i).toNat)
  case atStart =>
    have h0 : l1 ++ (M.foldR (M.rfld (qp c.pool)) (c.fields.take 0) e1).2 = l1 := by simp [M.foldR, M.rtext]
    have h1 : (M.foldR (M.rfld (qp c.pool)) (c.fields.take 0) e1).1 = e1 := by simp [M.foldR, M.rtext]
    exact ⟨0, oa3, oc3, Nat.zero_le _, rfl, by rw [h0], by rw [h0, h1]; exact unhide HW3⟩
  case round =>
    clear HW3 H
    obtain ⟨k, oak, ock, hkn, rfl, rfl, HWr⟩ := hrel
    have hfl := M.rflds_le (qp c.pool) (c.fields.take k) e1
    rw [List.length_take] at hfl
    by_cases hlt : k < c.fields.length
    · have hne : c.fields ≠ [] := by intro e; rw [e] at hlt; simp at hlt
      have hCr := (unhide HCin).below (unhide HWr).u
      obtain ⟨_, _, x1, G1⟩ := hCr.f
      cases x1
      obtain ⟨g1, o1', rfl, g2⟩ := G1 hne
      obtain ⟨x, hx⟩ : ∃ x, x = c.fields.getD k Fz := ⟨_, rfl⟩
      have hxm : x ∈ c.fields := by rw [hx]; simp [List.getD, List.getElem?_eq_getElem hlt]
      have hxo := unhide OkF x hxm
      have s0 := g2 k hlt 0 (by omega)
      have s1 := g2 k hlt 1 (by omega)
      have s2 := g2 k hlt 2 (by omega)
      have s3 := g2 k hlt 3 (by omega)
      rw [← hx] at s0 s1 s2 s3
      simp [Fc] at s0 s1 s2 s3
      have ki : (k : Int) < (c.fields.length : Int) := by omega
      have hstep : M.foldR (M.rfld (qp c.pool)) (c.fields.take (k + 1)) = M.seqR (M.foldR (M.rfld (qp c.pool)) (c.fields.take k)) (M.rfld (qp c.pool) x) := by rw [hx]; exact M.foldR_take _ _ _ hlt
      obtain ⟨ek, hek⟩ : ∃ a, a = (M.foldR (M.rfld (qp c.pool)) (c.fields.take k) e1).1 := ⟨_, rfl⟩
      obtain ⟨lk, hlk⟩ : ∃ a, a = l1 ++ (M.foldR (M.rfld (qp c.pool)) (c.fields.take k) e1).2 := ⟨_, rfl⟩
      have hlkl : lk.length + 70 ≤ 1000000 := by rw [hlk, List.length_append]; omega
      rw [← hek, ← hlk] at HWr
      rw [← hlk]
      obtain ⟨wZ, hwZ⟩ : ∃ wZ, wZ = wr.alloc (.cells #[.int .u16 (x.flags : Int), .int .u16 (x.name : Int), .int .u16 (x.type_ : Int), .int .u16 (x.value : Int)] 95) := ⟨_, rfl⟩
      have hWZ := (unhide HWr).alloc (.cells #[.int .u16 (x.flags : Int), .int .u16 (x.name : Int), .int .u16 (x.type_ : Int), .int .u16 (x.value : Int)] 95)
      rw [← hwZ] at hWZ
      have bZ : Bk wZ wr.heap.size #[.int .u16 (x.flags : Int), .int .u16 (x.name : Int), .int .u16 (x.type_ : Int), .int .u16 (x.value : Int)] 95 := by rw [hwZ]; exact Bk.new wr _ _
      have hRlt := (unhide HWr).r.lt
      obtain ⟨tA, htA⟩ : ∃ a : List UInt8, a = (M.rnum (x.flags : Int) 2 ek).2 := ⟨_, rfl⟩
      obtain ⟨eA, heA⟩ : ∃ a, a = (M.rnum (x.flags : Int) 2 ek).1 := ⟨_, rfl⟩
      have HA := hide (fun W (hW : Rb W R c vp vi (.slice (some ⟨g1, o1', none⟩) c.fields.length fc) vm ek) => rnum2_any R c vp vi (.slice (some ⟨g1, o1', none⟩) c.fields.length fc) vm ek (x.flags : Int) W hW (Okx.nat (by have := hxo.a; omega)))
      rw [← htA, ← heA] at HA
      have zA : tA.length = 2 := by rw [htA]; exact M.nl _ _ _
      obtain ⟨tB, htB⟩ : ∃ a : List UInt8, a = (M.rnum (x.name : Int) 2 eA).2 := ⟨_, rfl⟩
      obtain ⟨eB, heB⟩ : ∃ a, a = (M.rnum (x.name : Int) 2 eA).1 := ⟨_, rfl⟩
      have HB := hide (fun W (hW : Rb W R c vp vi (.slice (some ⟨g1, o1', none⟩) c.fields.length fc) vm eA) => rnum2_any R c vp vi (.slice (some ⟨g1, o1', none⟩) c.fields.length fc) vm eA (x.name : Int) W hW (Okx.nat (by have := hxo.b; omega)))
      rw [← htB, ← heB] at HB
      have zB : tB.length = 2 := by rw [htB]; exact M.nl _ _ _
      obtain ⟨tC, htC⟩ : ∃ a : List UInt8, a = (M.rnum (x.type_ : Int) 2 eB).2 := ⟨_, rfl⟩
      obtain ⟨eC, heC⟩ : ∃ a, a = (M.rnum (x.type_ : Int) 2 eB).1 := ⟨_, rfl⟩
      have HC := hide (fun W (hW : Rb W R c vp vi (.slice (some ⟨g1, o1', none⟩) c.fields.length fc) vm eB) => rnum2_any R c vp vi (.slice (some ⟨g1, o1', none⟩) c.fields.length fc) vm eB (x.type_ : Int) W hW (Okx.nat (by have := hxo.c; omega)))
      rw [← htC, ← heC] at HC
      have zC : tC.length = 2 := by rw [htC]; exact M.nl _ _ _

      obtain ⟨t3, ht3⟩ : ∃ a, a = tA ++ tB ++ tC := ⟨_, rfl⟩
      have zt3 : t3.length = 6 := by rw [ht3, List.length_append, List.length_append]; omega
      have habc : (⟨tA.toArray⟩ ++ ⟨tB.toArray⟩ ++ ⟨tC.toArray⟩ : ByteArray) = ⟨t3.toArray⟩ := by rw [cat_text, cat_text, ht3]
      have Habc := hide habc
      have hrt : M.rtri x.flags x.name x.type_ ek = (eC, t3) := by unfold M.rtri; simp only [M.seqR, ← heA, ← heB, ← heC, ← htA, ← htB, ← htC, ht3]
      have hrm : M.rfld (qp c.pool) x ek = M.seqR (fun _ => (eC, t3)) (if x.value = 0 then M.rtext [0, 0] else fun e => ((M.ratt (qp c.pool) M.valueN (M.rnum (x.value : Int) 2 e).2 (M.rnum (x.value : Int) 2 e).1).1, [0, 1] ++ (M.ratt (qp c.pool) M.valueN (M.rnum (x.value : Int) 2 e).2 (M.rnum (x.value : Int) 2 e).1).2)) ek := by
        rw [M.rfld_eq]
        simp only [M.seqR, hrt]
      have hnx : ∀ r, M.rfld (qp c.pool) x ek = r → (M.foldR (M.rfld (qp c.pool)) (c.fields.take (k + 1)) e1).1 = r.1 ∧ l1 ++ (M.foldR (M.rfld (qp c.pool)) (c.fields.take (k + 1)) e1).2 = lk ++ r.2 := fun r hr => by
        rw [hstep]
        exact ⟨by rw [M.seqR_fst, ← hek, hr], by unfold M.seqR; simp only [← hek, hr, hlk, List.append_assoc]⟩
      have Hnx := hide hnx
      have Hrm := hide hrm
      have wt1 : IntKind.i64.wrap (x.flags : Int) = (x.flags : Int) := by rw [IntKind.wrap_i64]; have := hxo.a; omega
      have wt2 : IntKind.i64.wrap (x.name : Int) = (x.name : Int) := by rw [IntKind.wrap_i64]; have := hxo.b; omega
      have wt3 : IntKind.i64.wrap (x.type_ : Int) = (x.type_ : Int) := by rw [IntKind.wrap_i64]; have := hxo.c; omega
      have hxv := hxo.d
      have HQ : Hid (∀ X : World, Bk X wr.heap.size #[.int .u16 (x.flags : Int), .int .u16 (x.name : Int), .int .u16 (x.type_ : Int), .int .u16 (x.value : Int)] 95 → X.cell? ⟨wr.heap.size, 0, none⟩ = some (.int .u16 (x.flags : Int)) ∧ X.cell? ⟨wr.heap.size, 1, none⟩ = some (.int .u16 (x.name : Int)) ∧ X.cell? ⟨wr.heap.size, 2, none⟩ = some (.int .u16 (x.type_ : Int)) ∧ True) := fun X hX => ⟨hX.cell 0, hX.cell 1, hX.cell 2, trivial⟩
      have HwZ := hide hwZ
      have hW0 := hWZ.drew
      clear hstep hwZ hek hlk hx hxm hxo g2 G1 hne hCr HWr hfl hnx hrm hrt habc ht3 htA htB htC heA heB heC hWZ
      go_upto_region 19 with fail
      rw [← unhide HwZ]
      clear HwZ s0 s1 s2 s3
      refine wp_region_held_drew (S := fun X => Bk X wr.heap.size #[.int .u16 (x.flags : Int), .int .u16 (x.name : Int), .int .u16 (x.type_ : Int), .int .u16 (x.value : Int)] 95) (by kernel_rfl) (show Bk wZ.drew _ _ _ from bZ) (fun hHeld => ?_)
      refine wpAnyH_take (i := 0) (oi := _) (v := ?_) rfl (by kernel_rfl) (by kernel_rfl) (by kernel_rfl) (fun _ _ _ h => h) (Or.inl ⟨by rfl, ?_⟩) (by assumption) ?_
      rotate_left
      · intro X hX
        go_simp
        try rfl
      try simp only [Act.put, List.getElem_toArray, List.getElem_cons_zero, List.getElem_cons_succ, List.setIfInBounds_toArray, List.set_cons_zero, List.set_cons_succ]
      refine wpAnyH_take (i := 1) (oi := _) (v := ?_) rfl (by kernel_rfl) (by kernel_rfl) (by kernel_rfl) (fun _ _ _ h => h) (Or.inl ⟨by rfl, ?_⟩) (by assumption) ?_
      rotate_left
      · intro X hX
        go_simp
        try rfl
      try simp only [Act.put, List.getElem_toArray, List.getElem_cons_zero, List.getElem_cons_succ, List.setIfInBounds_toArray, List.set_cons_zero, List.set_cons_succ]
      refine wpAnyH_take (i := 2) (oi := _) (v := ?_) rfl (by kernel_rfl) (by kernel_rfl) (by kernel_rfl) (fun _ _ _ h => h) (Or.inl ⟨by rfl, ?_⟩) (by assumption) ?_
      rotate_left
      · intro X hX
        go_simp
        try rfl
      try simp only [Act.put, List.getElem_toArray, List.getElem_cons_zero, List.getElem_cons_succ, List.setIfInBounds_toArray, List.set_cons_zero, List.set_cons_succ]
      refine wpAnyH_take (i := 3) (oi := _) (v := ?_) rfl (by kernel_rfl) (by kernel_rfl) (by kernel_rfl) (fun _ _ _ h => h) (Or.inl ⟨by rfl, ?_⟩) (by assumption) ?_
      rotate_left
      · intro X hX
        have q0 := (unhide HQ X hX).1
        go_simp
        try rfl
      try simp only [Act.put, List.getElem_toArray, List.getElem_cons_zero, List.getElem_cons_succ, List.setIfInBounds_toArray, List.set_cons_zero, List.set_cons_succ]
      refine wpAnyH_take (i := 4) (oi := _) (v := ?_) rfl (by kernel_rfl) (by kernel_rfl) (by kernel_rfl) (fun _ _ _ h => h) (Or.inl ⟨by rfl, ?_⟩) (by assumption) ?_
      rotate_left
      · intro X hX
        go_simp
        try rfl
      try simp only [Act.put, List.getElem_toArray, List.getElem_cons_zero, List.getElem_cons_succ, List.setIfInBounds_toArray, List.set_cons_zero, List.set_cons_succ]
      refine wpAnyH_take (i := 6) (oi := _) (v := ?_) rfl (by kernel_rfl) (by kernel_rfl) (by kernel_rfl) (fun _ _ _ h => h) (Or.inl ⟨by rfl, ?_⟩) (by assumption) ?_
      rotate_left
      · intro X hX
        go_simp
        try rfl
      try simp only [Act.put, List.getElem_toArray, List.getElem_cons_zero, List.getElem_cons_succ, List.setIfInBounds_toArray, List.set_cons_zero, List.set_cons_succ]
      refine wpAnyH_take (i := 7) (oi := _) (v := ?_) rfl (by kernel_rfl) (by kernel_rfl) (by kernel_rfl) (fun _ _ _ h => h) (Or.inl ⟨by rfl, ?_⟩) (by assumption) ?_
      rotate_left
      · intro X hX
        go_simp
        try rfl
      try simp only [Act.put, List.getElem_toArray, List.getElem_cons_zero, List.getElem_cons_succ, List.setIfInBounds_toArray, List.set_cons_zero, List.set_cons_succ]
      refine wpAnyH_take (i := 8) (oi := _) (v := ?_) rfl (by kernel_rfl) (by kernel_rfl) (by kernel_rfl) (fun _ _ _ h => h) (Or.inl ⟨by rfl, ?_⟩) (by assumption) ?_
      rotate_left
      · intro X hX
        have q1 := (unhide HQ X hX).2.1
        go_simp
        try rfl
      try simp only [Act.put, List.getElem_toArray, List.getElem_cons_zero, List.getElem_cons_succ, List.setIfInBounds_toArray, List.set_cons_zero, List.set_cons_succ]
      refine wpAnyH_take (i := 9) (oi := _) (v := ?_) rfl (by kernel_rfl) (by kernel_rfl) (by kernel_rfl) (fun _ _ _ h => h) (Or.inl ⟨by rfl, ?_⟩) (by assumption) ?_
      rotate_left
      · intro X hX
        go_simp
        try rfl
      try simp only [Act.put, List.getElem_toArray, List.getElem_cons_zero, List.getElem_cons_succ, List.setIfInBounds_toArray, List.set_cons_zero, List.set_cons_succ]
      refine wpAnyH_take (i := 12) (oi := _) (v := ?_) rfl (by kernel_rfl) (by kernel_rfl) (by kernel_rfl) (fun _ _ _ h => h) (Or.inl ⟨by rfl, ?_⟩) (by assumption) ?_
      rotate_left
      · intro X hX
        go_simp
        try rfl
      try simp only [Act.put, List.getElem_toArray, List.getElem_cons_zero, List.getElem_cons_succ, List.setIfInBounds_toArray, List.set_cons_zero, List.set_cons_succ]
      refine wpAnyH_take (i := 13) (oi := _) (v := ?_) rfl (by kernel_rfl) (by kernel_rfl) (by kernel_rfl) (fun _ _ _ h => h) (Or.inl ⟨by rfl, ?_⟩) (by assumption) ?_
      rotate_left
      · intro X hX
        go_simp
        try rfl
      try simp only [Act.put, List.getElem_toArray, List.getElem_cons_zero, List.getElem_cons_succ, List.setIfInBounds_toArray, List.set_cons_zero, List.set_cons_succ]
      refine wpAnyH_take (i := 14) (oi := _) (v := ?_) rfl (by kernel_rfl) (by kernel_rfl) (by kernel_rfl) (fun _ _ _ h => h) (Or.inl ⟨by rfl, ?_⟩) (by assumption) ?_
      rotate_left
      · intro X hX
        have q2 := (unhide HQ X hX).2.2.1
        go_simp
        try rfl
      try simp only [Act.put, List.getElem_toArray, List.getElem_cons_zero, List.getElem_cons_succ, List.setIfInBounds_toArray, List.set_cons_zero, List.set_cons_succ]
      refine wpAnyH_take (i := 15) (oi := _) (v := ?_) rfl (by kernel_rfl) (by kernel_rfl) (by kernel_rfl) (fun _ _ _ h => h) (Or.inl ⟨by rfl, ?_⟩) (by assumption) ?_
      rotate_left
      · intro X hX
        go_simp
        try rfl
      try simp only [Act.put, List.getElem_toArray, List.getElem_cons_zero, List.getElem_cons_succ, List.setIfInBounds_toArray, List.set_cons_zero, List.set_cons_succ]
      refine wpAnyH_ready (rs := [5]) (by kernel_rfl) (by simp) ?_
      refine AllReadyH.cons (o := _) rfl (fun K hK => ?_) AllReadyH.nil
      go_simp
      go_at_call 54
      refine (unhide HA _ hW0.r).mono ?_
      rintro r wA ⟨rfl, hRA, hgA⟩
      have hWA := hW0.num hRA hgA
      try go_simp
      refine hK.out _ _ (Bk.kept hHeld hgA (by simp; omega)) (fun hHeld => ?_)
      clear hK K
      try simp only [Act.put, List.getElem_toArray, List.getElem_cons_zero, List.getElem_cons_succ, List.setIfInBounds_toArray, List.set_cons_zero, List.set_cons_succ]
      refine wpAnyH_ready (rs := [10]) (by kernel_rfl) (by simp) ?_
      refine AllReadyH.cons (o := _) rfl (fun K hK => ?_) AllReadyH.nil
      go_simp
      go_at_call 54
      refine (unhide HB _ hWA.r).mono ?_
      rintro r wB ⟨rfl, hRB, hgB⟩
      have hWB := hWA.num hRB hgB
      try go_simp
      refine hK.out _ _ (Bk.kept hHeld hgB (by simp; omega)) (fun hHeld => ?_)
      clear hK K
      try simp only [Act.put, List.getElem_toArray, List.getElem_cons_zero, List.getElem_cons_succ, List.setIfInBounds_toArray, List.set_cons_zero, List.set_cons_succ]
      refine wpAnyH_take (i := 11) (oi := _) (v := ?_) rfl (by kernel_rfl) (by kernel_rfl) (by kernel_rfl) (fun _ _ _ h => h) (Or.inl ⟨by rfl, ?_⟩) (by assumption) ?_
      rotate_left
      · intro X hX
        go_simp
        first
        | rfl
        | (rw [if_neg (by simp [ByteArray.size_append]; omega)]; try rfl)
      try simp only [Act.put, List.getElem_toArray, List.getElem_cons_zero, List.getElem_cons_succ, List.setIfInBounds_toArray, List.set_cons_zero, List.set_cons_succ]
      refine wpAnyH_ready (rs := [16]) (by kernel_rfl) (by simp) ?_
      refine AllReadyH.cons (o := _) rfl (fun K hK => ?_) AllReadyH.nil
      go_simp
      go_at_call 54
      refine (unhide HC _ hWB.r).mono ?_
      rintro r wC ⟨rfl, hRC, hgC⟩
      have hWC := hWB.num hRC hgC
      try go_simp
      refine hK.out _ _ (Bk.kept hHeld hgC (by simp; omega)) (fun hHeld => ?_)
      clear hK K
      try simp only [Act.put, List.getElem_toArray, List.getElem_cons_zero, List.getElem_cons_succ, List.setIfInBounds_toArray, List.set_cons_zero, List.set_cons_succ]
      refine wpAnyH_take (i := 17) (oi := _) (v := ?_) rfl (by kernel_rfl) (by kernel_rfl) (by kernel_rfl) (fun _ _ _ h => h) (Or.inl ⟨by rfl, ?_⟩) (by assumption) ?_
      rotate_left
      · intro X hX
        go_simp
        first
        | rfl
        | (rw [if_neg (by simp [ByteArray.size_append]; omega)]; try rfl)
      try simp only [Act.put, List.getElem_toArray, List.getElem_cons_zero, List.getElem_cons_succ, List.setIfInBounds_toArray, List.set_cons_zero, List.set_cons_succ]
      refine wpAnyH_ready (rs := [18]) (by kernel_rfl) (by simp) ?_
      refine AllReadyH.cons (o := _) rfl (fun K hK => ?_) AllReadyH.nil
      rw [if_pos (by rfl)]
      refine oper_append_free (.tmp 115) (.tmp 132) 67 9 rfl i0 Try.underlying67 Try.underlying9 hi hz0 hz1 hz2 w0.heap.size (.slice (some oak) lk.length ock) lk t3 rfl (by show Value.string (⟨tA.toArray⟩ ++ ⟨tB.toArray⟩ ++ ⟨tC.toArray⟩) = _; rw [unhide Habc]) hWC.o (by omega) hWC.u.size ?_
      intro v4 w4 hO4 hg4
      have hW4 := hWC.app hO4 hg4
      have bZ4 := Bk.kept hHeld hg4 (Ot_not hWC.o hHeld (by decide))
      refine hK.out _ _ bZ4 (fun hHeld => ?_)
      clear hK K
      try simp only [Act.put, List.getElem_toArray, List.getElem_cons_zero, List.getElem_cons_succ, List.setIfInBounds_toArray, List.set_cons_zero, List.set_cons_succ]
      refine wpAnyH_take (i := 19) (oi := _) (v := ?_) rfl (by kernel_rfl) (by kernel_rfl) (by kernel_rfl) (fun _ _ _ h => h) (Or.inl ⟨by rfl, ?_⟩) (by assumption) ?_
      rotate_left
      · intro X hX
        go_simp
        try rfl
      try simp only [Act.put, List.getElem_toArray, List.getElem_cons_zero, List.getElem_cons_succ, List.setIfInBounds_toArray, List.set_cons_zero, List.set_cons_succ]

      refine wpAnyH_done (by kernel_rfl) ?_ _
      obtain ⟨oa4, oc4, e4⟩ := Ot_slice hO4
      subst e4
      obtain ⟨l4, hl4⟩ : ∃ a, a = lk ++ t3 := ⟨_, rfl⟩
      have hl4l : l4.length ≤ lk.length + 6 := by rw [hl4, List.length_append, zt3]; exact Nat.le_refl _
      rw [← hl4] at hW4 hO4
      rw [← hl4]
      have d3 := hHeld.cell 3
      simp at d3
      have Hl4 := hide hl4
      have HW4 := hide hW4
      have HH4 := hide hHeld
      clear hl4 hW4 hO4 hg4 bZ4 bZ hWA hWB hWC hgA hgB hgC hRA hRB hRC HA HB HC HQ Habc hW0 wt1 wt2 wt3 zA zB zC
      by_cases hval : x.value = 0
      · have n0 : (((x.value : Int) == 0) : Bool) = true := by rw [hval]; rfl
        have hrm2 : M.rfld (qp c.pool) x ek = (eC, t3 ++ [0, 0]) := by rw [unhide Hrm, if_pos hval]; rfl
        obtain ⟨n1, n2⟩ := unhide Hnx _ hrm2
        simp only at n1 n2
        rw [← List.append_assoc, ← unhide Hl4] at n2
        have Hn1 := hide n1
        have Hn2 := hide n2
        have hO4 := (unhide HW4).o
        have hB4 := (unhide HW4).u.size
        clear hval hrm2 n1 n2
        go_wp2_with (at_builtin; refine wpList_append_free _ rfl _ _ 67 9 rfl i0 Try.underlying67 Try.underlying9 hi hz0 hz1 hz2 w0.heap.size _ l4 [0, 0] rfl rfl hO4 (by simp; omega) hB4 ?_; intro v5 w5 hO5 hg5; have hW5 := (unhide HW4).app hO5 hg5; obtain ⟨oa5, oc5, e5⟩ := Ot_slice hO5; subst e5; rw [← unhide Hn2] at hW5; rw [← unhide Hn1] at hW5; have HW5 := hide hW5; have Hv5 := hide (show l4.length + 2 = (l1 ++ (M.foldR (M.rfld (qp c.pool)) (c.fields.take (k + 1)) e1).2).length by rw [unhide Hn2, List.length_append]; rfl); clear hO5 hg5 hW5)
        go_roundw
        case rel => exact ⟨k + 1, oa5, oc5, by omega, by go_num, by first | rw [← unhide Hv5] | (rw [unhide Hn2]) | simp [← unhide Hv5], unhide HW5⟩
        case measure => simp [intOf]; omega
      · have n0 : (((x.value : Int) == 0) : Bool) = false := by rw [beq_eq_false_iff_ne]; omega
        obtain ⟨tV, htV⟩ : ∃ a, a = (M.rnum (x.value : Int) 2 eC).2 := ⟨_, rfl⟩
        obtain ⟨eV, heV⟩ : ∃ a, a = (M.rnum (x.value : Int) 2 eC).1 := ⟨_, rfl⟩
        have HNV := hide (fun W (hW : Rb W R c vp vi (.slice (some ⟨g1, o1', none⟩) c.fields.length fc) vm eC) => rnum2_any R c vp vi (.slice (some ⟨g1, o1', none⟩) c.fields.length fc) vm eC (x.value : Int) W hW (Okx.nat (by omega)))
        rw [← htV, ← heV] at HNV
        have zV : tV.length = 2 := by rw [htV]; exact M.nl _ _ _
        obtain ⟨tR, htR⟩ : ∃ a, a = (M.ratt (qp c.pool) M.valueN tV eV).2 := ⟨_, rfl⟩
        obtain ⟨eR, heR⟩ : ∃ a, a = (M.ratt (qp c.pool) M.valueN tV eV).1 := ⟨_, rfl⟩
        have zR := M.ratt_len (qp c.pool) M.valueN tV eV
        have HAt := hide (fun W (hW : Rb W R c vp vi (.slice (some ⟨g1, o1', none⟩) c.fields.length fc) vm eV) (hb : Below w0.heap.size w0 W) => ratt_any R c vp vi (.slice (some ⟨g1, o1', none⟩) c.fields.length fc) vm eV M.valueN tV W hW ((unhide HCin).p.below hb) hP (by omega) (by decide))
        rw [← htR, ← heR] at HAt
        rw [← htR] at zR
        unfold M.valueN at HAt
        have hrm2 : M.rfld (qp c.pool) x ek = (eR, t3 ++ ([0, 1] ++ tR)) := by rw [unhide Hrm, if_neg hval]; simp only [M.seqR, ← htV, ← heV, ← htR, ← heR]
        obtain ⟨n1, n2⟩ := unhide Hnx _ hrm2
        simp only at n1 n2
        rw [← List.append_assoc, ← unhide Hl4] at n2
        have Hn1 := hide n1
        have Hn2 := hide n2
        have hcat : (⟨#[0, 1]⟩ ++ ⟨tR.toArray⟩ : ByteArray) = ⟨([0, 1] ++ tR).toArray⟩ := by rw [show (⟨#[0, 1]⟩ : ByteArray) = ⟨[0, 1].toArray⟩ from rfl, cat_text]
        have Hcat := hide hcat
        clear hval hrm2 n1 n2 htR heR hcat htV heV
        go_wp2_with fail
        refine (unhide HNV _ (unhide HW4).r).mono ?_
        rintro r w5 ⟨rfl, hR5, hg5⟩
        have hW5 := (unhide HW4).num hR5 hg5
        clear HNV hR5 hg5 d3
        go_wp2_with fail
        refine (unhide HAt _ hW5.r hW5.u).mono ?_
        rintro r w6 ⟨rfl, hR6, hg6⟩
        have hW6 := hW5.num hR6 hg6
        clear HAt hR6 hg6
        have hO6 := hW6.o
        have hB6 := hW6.u.size
        have hsr : l4.length + ([0, 1] ++ tR).length ≤ 4000000 := by simp only [List.length_append, List.length_cons, List.length_nil]; omega
        have ztr : (tR.length : Int) ≤ 1000000 := by omega
        clear hW5
        go_wp2_with (at_builtin; refine wpList_append_free _ rfl _ _ 67 9 rfl i0 Try.underlying67 Try.underlying9 hi hz0 hz1 hz2 w0.heap.size _ l4 ([0, 1] ++ tR) rfl (by show Value.string (⟨#[0, 1]⟩ ++ ⟨tR.toArray⟩) = _; rw [unhide Hcat]) hO6 hsr hB6 ?_; intro v7 w7 hO7 hg7; have hW7 := hW6.app hO7 hg7; obtain ⟨oa7, oc7, e7⟩ := Ot_slice hO7; subst e7; rw [← unhide Hn2] at hW7; rw [← unhide Hn1] at hW7; have HW7 := hide hW7; have Hv7 := hide (show (l4 ++ ([0, 1] ++ tR)).length = (l1 ++ (M.foldR (M.rfld (qp c.pool)) (c.fields.take (k + 1)) e1).2).length by rw [unhide Hn2]); clear hO7 hg7 hW7)
        go_roundw
        case rel => exact ⟨k + 1, oa7, oc7, by omega, by go_num, by first | (rw [← unhide Hv7]; done) | (rw [← unhide Hv7]; simp; done) | (rw [← unhide Hv7]; simp; omega), unhide HW7⟩
        case measure => simp [intOf]; omega
    · have hkl : k = c.fields.length := by omega
      subst hkl
      have ki : ¬ ((c.fields.length : Nat) : Int) < ((c.fields.length : Nat) : Int) := by omega
      rw [List.take_length] at HWr
      rw [List.take_length]
      have hll : (l1 ++ (M.foldR (M.rfld (qp c.pool)) c.fields e1).2).length + M.mcosts c.methods + 100 ≤ 1000000 := by
        have := M.rflds_le (qp c.pool) c.fields e1
        rw [List.length_append]; omega
      generalize l1 ++ (M.foldR (M.rfld (qp c.pool)) c.fields e1).2 = lf at *
      generalize (M.foldR (M.rfld (qp c.pool)) c.fields e1).1 = ef at *
      rw [unhide Hvm] at HWr HCin
      clear hfl
      go_wp2_with fail
      refine unhide HKr _ _ ?_
      exact wc_meths HWr HCin OkM hP hll hmc2 HP
end Go.Proofs.Ytgihfcjddkpkaaa.Cl
