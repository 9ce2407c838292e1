/-
  The reference: WriteClass: its beginning, and the whole.
-/
import Derived.Test.YtgihfcjddkpkaaaZg
namespace Go.Proofs.Ytgihfcjddkpkaaa.Cl
set_option linter.unusedVariables false
set_option linter.unusedSimpArgs false
open Go.RowKit Go.Maps
theorem Ot_base {w : World} {B B' : Nat} {v : Value} {l : List UInt8} (h : Ot w B v l) (hB : B' ≤ B) : Ot w B' v l := by
  obtain ⟨g, cap, cur, fz, h1, h2, h3⟩ := h
  exact ⟨g, cap, cur, fz, h1, Nat.le_trans hB h2, h3⟩
namespace M
def rfour (c : Csi) : Rw := seqR (seqR (seqR (rnum (c.flags : Int) 2) (rnum (c.this : Int) 2)) (rnum (c.super : Int) 2)) (rnum (c.ifaces.length : Int) 2)
def rone (c : Csi) (bs : List UInt8) : Rw := seqR (seqR (seqR (rtext [202, 254, 186, 190]) (rnum (c.minor : Int) 2)) (rnum (c.major : Int) 2)) (rtext bs)
def rt8 (c : Csi) : Rw := seqR (foldR (fun x : Nat => rnum (x : Int) 2) c.ifaces) (rt9 c)
def rfull (c : Csi) (bs : List UInt8) : Rw := seqR (seqR (rone c bs) (rfour c)) (rt8 c)
end M
set_option maxRecDepth 1000000 in
set_option maxHeartbeats 16000000 in
theorem wc_str {post : Ending → World → Prop} {c0 c2 c3 c6 c7 c8 c9 c10 c11 c12 c13 c14 c15 c16 c17 c18 c19 c20 c21 c22 c23 c24 c25 c26 c27 c28 c29 c30 c31 c32 c33 c34 c35 c36 c37 c38 c39 c40 c41 c42 c43 c44 c45 c46 c47 c48 c49 c50 c51 c52 c53 c54 c55 c56 c57 c58 c59 c60 c61 c62 c63 c64 c65 c66 c67 c68 c69 c70 c71 c72 c73 c74 c75 c76 c77 c78 c79 c80 c81 c82 c83 c84 c85 c86 c87 c88 c89 c90 c91 c92 c93 c94 c95 c96 c97 c98 c99 c100 c101 c102 c103 c104 c105 c106 c107 c108 c109 c110 c111 c112 c113 c114 c115 c116 c117 c118 c119 c120 c121 c122 c123 c124 c125 c126 c127 c128 c129 c130 c131 c132 c133 c134 c135 c136 c137 c138 c139 c140 c141 c142 c143 c144 c145 c146 c147 c148 c149 c150 c151 c152 c153 c154 c155 c156 c157 c158 c159 c160 c161 c162 c163 c164 c165 c166 c167 c168 c169 c170 c171 c172 c173 c174 c175 c176 c177 c178 c179 c180 c181 c182 c183 c184 c185 c186 c187 c188 c189 c190 c191 c192 c193 c194 c195 c196 c197 c198 c199 c200 c201 c202 c203 c204 c205 c206 c207 c208 : Value} {w0 w1 : World} {R n : Nat} {c : Csi} {vp : Value} {ia fa ma : Option Addr} {ic fc mc : Nat} {L : List Mv} {e : Nat} {bs : List UInt8} (hR : Rb w1 R c vp (.slice ia c.ifaces.length ic) (.slice fa c.fields.length fc) (.slice ma L.length mc) e) (hb : Bk w1 n #[.int .u16 (c.minor : Int), .int .u16 (c.major : Int), .int .u16 (c.flags : Int), .int .u16 (c.this : Int), .int .u16 (c.super : Int), vp, (.slice ia c.ifaces.length ic), (.slice fa c.fields.length fc), (.slice ma L.length mc)] 44) (hu : Below w0.heap.size w0 w1) (hwR : w0.heap.size ≤ R) (hwn : w0.heap.size ≤ n) (hne : n ≠ R) (HCin : Hid (Cin w0 c vp (.slice ia c.ifaces.length ic) (.slice fa c.fields.length fc) (.slice ma L.length mc) L)) (hok : c.Ok) (hP : c.pool.length ≤ 1048576) (hl : bs.length + 2 * c.ifaces.length + 16 * c.fields.length + M.mcosts c.methods + 600 ≤ 1000000) (hmc2 : M.mcosts c.methods ≤ 890000)
    (HP : Hid (∀ w', Below w0.heap.size w0 w' → post (rans [] (M.rfull c bs e)) w')) :
    Code.wp Try.prog ((Try.f23.body.map (tlOf 5)).getD .skip) (bodyPost Try.prog Try.f23 post) ⟨#[c0, .pointer (some ⟨n, 0, none⟩), c2, c3, .pointer (some ⟨R, 0, none⟩), .string ⟨bs.toArray⟩, c6, c7, c8, c9, c10, c11, c12, c13, c14, c15, c16, c17, c18, c19, c20, c21, c22, c23, c24, c25, c26, c27, c28, c29, c30, c31, c32, c33, c34, c35, c36, c37, c38, c39, c40, c41, c42, c43, c44, c45, c46, c47, c48, c49, c50, c51, c52, c53, c54, c55, c56, c57, c58, c59, c60, c61, c62, c63, c64, c65, c66, c67, c68, c69, c70, c71, c72, c73, c74, c75, c76, c77, c78, c79, c80, c81, c82, c83, c84, c85, c86, c87, c88, c89, c90, c91, c92, c93, c94, c95, c96, c97, c98, c99, c100, c101, c102, c103, c104, c105, c106, c107, c108, c109, c110, c111, c112, c113, c114, c115, c116, c117, c118, c119, c120, c121, c122, c123, c124, c125, c126, c127, c128, c129, c130, c131, c132, c133, c134, c135, c136, c137, c138, c139, c140, c141, c142, c143, c144, c145, c146, c147, c148, c149, c150, c151, c152, c153, c154, c155, c156, c157, c158, c159, c160, c161, c162, c163, c164, c165, c166, c167, c168, c169, c170, c171, c172, c173, c174, c175, c176, c177, c178, c179, c180, c181, c182, c183, c184, c185, c186, c187, c188, c189, c190, c191, c192, c193, c194, c195, c196, c197, c198, c199, c200, c201, c202, c203, c204, c205, c206, c207, c208], []⟩ w1 := by
  conv => arg 2; whnf
  obtain ⟨q1, q2, q3, q4, q5, okI, okF, okM⟩ := hok
  obtain ⟨tA, htA⟩ : ∃ a : List UInt8, a = (M.rnum (c.minor : Int) 2 e).2 := ⟨_, rfl⟩
  obtain ⟨eA, heA⟩ : ∃ a, a = (M.rnum (c.minor : Int) 2 e).1 := ⟨_, rfl⟩
  have HA := hide (fun W (hW : Rb W R c vp (.slice ia c.ifaces.length ic) (.slice fa c.fields.length fc) (.slice ma L.length mc) e) => rnum2_any R c vp (.slice ia c.ifaces.length ic) (.slice fa c.fields.length fc) (.slice ma L.length mc) e (c.minor : Int) W hW (Okx.nat (by omega)))
  rw [← htA, ← heA] at HA
  have zA : tA.length = 2 := by rw [htA]; exact M.nl _ _ _
  obtain ⟨tB, htB⟩ : ∃ a : List UInt8, a = (M.rnum (c.major : Int) 2 eA).2 := ⟨_, rfl⟩
  obtain ⟨eB, heB⟩ : ∃ a, a = (M.rnum (c.major : Int) 2 eA).1 := ⟨_, rfl⟩
  have HB := hide (fun W (hW : Rb W R c vp (.slice ia c.ifaces.length ic) (.slice fa c.fields.length fc) (.slice ma L.length mc) eA) => rnum2_any R c vp (.slice ia c.ifaces.length ic) (.slice fa c.fields.length fc) (.slice ma L.length mc) eA (c.major : Int) W hW (Okx.nat (by omega)))
  rw [← htB, ← heB] at HB
  have zB : tB.length = 2 := by rw [htB]; exact M.nl _ _ _
  obtain ⟨tF, htF⟩ : ∃ a : List UInt8, a = (M.rnum (c.flags : Int) 2 eB).2 := ⟨_, rfl⟩
  obtain ⟨eF, heF⟩ : ∃ a, a = (M.rnum (c.flags : Int) 2 eB).1 := ⟨_, rfl⟩
  have HF := hide (fun W (hW : Rb W R c vp (.slice ia c.ifaces.length ic) (.slice fa c.fields.length fc) (.slice ma L.length mc) eB) => rnum2_any R c vp (.slice ia c.ifaces.length ic) (.slice fa c.fields.length fc) (.slice ma L.length mc) eB (c.flags : Int) W hW (Okx.nat (by omega)))
  rw [← htF, ← heF] at HF
  have zF : tF.length = 2 := by rw [htF]; exact M.nl _ _ _
  obtain ⟨tT, htT⟩ : ∃ a : List UInt8, a = (M.rnum (c.this : Int) 2 eF).2 := ⟨_, rfl⟩
  obtain ⟨eT, heT⟩ : ∃ a, a = (M.rnum (c.this : Int) 2 eF).1 := ⟨_, rfl⟩
  have HT := hide (fun W (hW : Rb W R c vp (.slice ia c.ifaces.length ic) (.slice fa c.fields.length fc) (.slice ma L.length mc) eF) => rnum2_any R c vp (.slice ia c.ifaces.length ic) (.slice fa c.fields.length fc) (.slice ma L.length mc) eF (c.this : Int) W hW (Okx.nat (by omega)))
  rw [← htT, ← heT] at HT
  have zT : tT.length = 2 := by rw [htT]; exact M.nl _ _ _
  obtain ⟨tS, htS⟩ : ∃ a : List UInt8, a = (M.rnum (c.super : Int) 2 eT).2 := ⟨_, rfl⟩
  obtain ⟨eS, heS⟩ : ∃ a, a = (M.rnum (c.super : Int) 2 eT).1 := ⟨_, rfl⟩
  have HS := hide (fun W (hW : Rb W R c vp (.slice ia c.ifaces.length ic) (.slice fa c.fields.length fc) (.slice ma L.length mc) eT) => rnum2_any R c vp (.slice ia c.ifaces.length ic) (.slice fa c.fields.length fc) (.slice ma L.length mc) eT (c.super : Int) W hW (Okx.nat (by omega)))
  rw [← htS, ← heS] at HS
  have zS : tS.length = 2 := by rw [htS]; exact M.nl _ _ _
  obtain ⟨tI, htI⟩ : ∃ a : List UInt8, a = (M.rnum (c.ifaces.length : Int) 2 eS).2 := ⟨_, rfl⟩
  obtain ⟨eI, heI⟩ : ∃ a, a = (M.rnum (c.ifaces.length : Int) 2 eS).1 := ⟨_, rfl⟩
  have HI := hide (fun W (hW : Rb W R c vp (.slice ia c.ifaces.length ic) (.slice fa c.fields.length fc) (.slice ma L.length mc) eS) => rnum2_any R c vp (.slice ia c.ifaces.length ic) (.slice fa c.fields.length fc) (.slice ma L.length mc) eS (c.ifaces.length : Int) W hW (Okx.nat (by omega)))
  rw [← htI, ← heI] at HI
  have zI : tI.length = 2 := by rw [htI]; exact M.nl _ _ _

  obtain ⟨u1, hu1⟩ : ∃ a : List UInt8, a = [202, 254, 186, 190] ++ tA ++ tB ++ bs := ⟨_, rfl⟩
  obtain ⟨u2, hu2⟩ : ∃ a : List UInt8, a = u1 ++ (tF ++ tT ++ tS ++ tI) := ⟨_, rfl⟩
  have hc1 : (⟨#[202, 254, 186, 190]⟩ ++ ⟨tA.toArray⟩ ++ ⟨tB.toArray⟩ ++ ⟨bs.toArray⟩ : ByteArray) = ⟨u1.toArray⟩ := by rw [show (⟨#[202, 254, 186, 190]⟩ : ByteArray) = ⟨[202, 254, 186, 190].toArray⟩ from rfl, cat_text, cat_text, cat_text, hu1]
  have hc2 : (⟨u1.toArray⟩ ++ (⟨tF.toArray⟩ ++ ⟨tT.toArray⟩ ++ ⟨tS.toArray⟩ ++ ⟨tI.toArray⟩) : ByteArray) = ⟨u2.toArray⟩ := by rw [cat_text, cat_text, cat_text, cat_text, hu2]
  have hu1l : u1.length ≤ bs.length + 8 := by rw [hu1]; simp only [List.length_append, zA, zB, List.length_cons, List.length_nil]; omega
  have hu2l : u2.length ≤ bs.length + 16 := by rw [hu2]; simp only [List.length_append, zF, zT, zS, zI]; omega
  have hfin : rans [] (M.rfull c bs e) = rans u2 (M.rt8 c eI) := by
    unfold M.rfull
    rw [rans_seq]
    have h1 : (M.seqR (M.rone c bs) (M.rfour c) e).1 = eI := by
      unfold M.rone M.rfour
      simp only [M.seqR, M.rtext, ← heA, ← heB, ← heF, ← heT, ← heS, ← heI]
    have h2 : [] ++ (M.seqR (M.rone c bs) (M.rfour c) e).2 = u2 := by
      rw [hu2, hu1]
      unfold M.rone M.rfour
      simp only [M.seqR, M.rtext, ← heA, ← heB, ← heF, ← heT, ← heS, ← htA, ← htB, ← htF, ← htT, ← htS, ← htI, List.nil_append]
    rw [h1, h2]
  rw [hfin] at HP
  have Hc1 := hide hc1
  have Hc2 := hide hc2
  have wt1 : IntKind.i64.wrap (c.minor : Int) = (c.minor : Int) := by rw [IntKind.wrap_i64]; omega
  have wt2 : IntKind.i64.wrap (c.major : Int) = (c.major : Int) := by rw [IntKind.wrap_i64]; omega
  have wt3 : IntKind.i64.wrap (c.flags : Int) = (c.flags : Int) := by rw [IntKind.wrap_i64]; omega
  have wt4 : IntKind.i64.wrap (c.this : Int) = (c.this : Int) := by rw [IntKind.wrap_i64]; omega
  have wt5 : IntKind.i64.wrap (c.super : Int) = (c.super : Int) := by rw [IntKind.wrap_i64]; omega
  have HQ : Hid (∀ X : World, Bk X n #[.int .u16 (c.minor : Int), .int .u16 (c.major : Int), .int .u16 (c.flags : Int), .int .u16 (c.this : Int), .int .u16 (c.super : Int), vp, (.slice ia c.ifaces.length ic), (.slice fa c.fields.length fc), (.slice ma L.length mc)] 44 → X.cell? ⟨n, 0, none⟩ = some (.int .u16 (c.minor : Int)) ∧ X.cell? ⟨n, 1, none⟩ = some (.int .u16 (c.major : Int)) ∧ X.cell? ⟨n, 2, none⟩ = some (.int .u16 (c.flags : Int)) ∧ X.cell? ⟨n, 3, none⟩ = some (.int .u16 (c.this : Int)) ∧ X.cell? ⟨n, 4, none⟩ = some (.int .u16 (c.super : Int)) ∧ True ∧ X.cell? ⟨n, 6, none⟩ = some (.slice ia c.ifaces.length ic) ∧ True) := fun X hX => ⟨hX.cell 0, hX.cell 1, hX.cell 2, hX.cell 3, hX.cell 4, trivial, hX.cell 6, trivial⟩
  have hR0 : Rb w1.drew R c vp (.slice ia c.ifaces.length ic) (.slice fa c.fields.length fc) (.slice ma L.length mc) e := hR
  have hU0 : Below w0.heap.size w0 w1.drew := hu.drew
  have HokI := hide okI
  have HokF := hide okF
  have HokM := hide okM
  clear hfin hc1 hc2 hu1 hu2 htA htB htF htT htS htI heA heB heF heT heS heI hR hu okI okF okM
  go_wp2_with fail
  refine wp_region_held_drew (S := fun X => Bk X n #[.int .u16 (c.minor : Int), .int .u16 (c.major : Int), .int .u16 (c.flags : Int), .int .u16 (c.this : Int), .int .u16 (c.super : Int), vp, (.slice ia c.ifaces.length ic), (.slice fa c.fields.length fc), (.slice ma L.length mc)] 44) (by kernel_rfl) (show Bk w1.drew _ _ _ from hb) (fun hHeld => ?_)
  refine wpAnyH_take (i := 0) (oi := _) (v := ?_) rfl (by kernel_rfl) (by kernel_rfl) (by kernel_rfl) (fun _ _ _ h => h) (Or.inl ⟨by rfl, ?_⟩) (by assumption) ?_
  rotate_left
  · intro X hX
    go_simp
    try rfl
  try simp only [Act.put, List.getElem_toArray, List.getElem_cons_zero, List.getElem_cons_succ, List.setIfInBounds_toArray, List.set_cons_zero, List.set_cons_succ]
  refine wpAnyH_take (i := 1) (oi := _) (v := ?_) rfl (by kernel_rfl) (by kernel_rfl) (by kernel_rfl) (fun _ _ _ h => h) (Or.inl ⟨by rfl, ?_⟩) (by assumption) ?_
  rotate_left
  · intro X hX
    go_simp
    try rfl
  try simp only [Act.put, List.getElem_toArray, List.getElem_cons_zero, List.getElem_cons_succ, List.setIfInBounds_toArray, List.set_cons_zero, List.set_cons_succ]
  refine wpAnyH_take (i := 2) (oi := _) (v := ?_) rfl (by kernel_rfl) (by kernel_rfl) (by kernel_rfl) (fun _ _ _ h => h) (Or.inl ⟨by rfl, ?_⟩) (by assumption) ?_
  rotate_left
  · intro X hX
    have q0 := (unhide HQ X hX).1
    go_simp
    try rfl
  try simp only [Act.put, List.getElem_toArray, List.getElem_cons_zero, List.getElem_cons_succ, List.setIfInBounds_toArray, List.set_cons_zero, List.set_cons_succ]
  refine wpAnyH_take (i := 3) (oi := _) (v := ?_) rfl (by kernel_rfl) (by kernel_rfl) (by kernel_rfl) (fun _ _ _ h => h) (Or.inl ⟨by rfl, ?_⟩) (by assumption) ?_
  rotate_left
  · intro X hX
    go_simp
    try rfl
  try simp only [Act.put, List.getElem_toArray, List.getElem_cons_zero, List.getElem_cons_succ, List.setIfInBounds_toArray, List.set_cons_zero, List.set_cons_succ]
  refine wpAnyH_take (i := 6) (oi := _) (v := ?_) rfl (by kernel_rfl) (by kernel_rfl) (by kernel_rfl) (fun _ _ _ h => h) (Or.inl ⟨by rfl, ?_⟩) (by assumption) ?_
  rotate_left
  · intro X hX
    go_simp
    try rfl
  try simp only [Act.put, List.getElem_toArray, List.getElem_cons_zero, List.getElem_cons_succ, List.setIfInBounds_toArray, List.set_cons_zero, List.set_cons_succ]
  refine wpAnyH_take (i := 7) (oi := _) (v := ?_) rfl (by kernel_rfl) (by kernel_rfl) (by kernel_rfl) (fun _ _ _ h => h) (Or.inl ⟨by rfl, ?_⟩) (by assumption) ?_
  rotate_left
  · intro X hX
    go_simp
    try rfl
  try simp only [Act.put, List.getElem_toArray, List.getElem_cons_zero, List.getElem_cons_succ, List.setIfInBounds_toArray, List.set_cons_zero, List.set_cons_succ]
  refine wpAnyH_take (i := 8) (oi := _) (v := ?_) rfl (by kernel_rfl) (by kernel_rfl) (by kernel_rfl) (fun _ _ _ h => h) (Or.inl ⟨by rfl, ?_⟩) (by assumption) ?_
  rotate_left
  · intro X hX
    have q1 := (unhide HQ X hX).2.1
    go_simp
    try rfl
  try simp only [Act.put, List.getElem_toArray, List.getElem_cons_zero, List.getElem_cons_succ, List.setIfInBounds_toArray, List.set_cons_zero, List.set_cons_succ]
  refine wpAnyH_take (i := 9) (oi := _) (v := ?_) rfl (by kernel_rfl) (by kernel_rfl) (by kernel_rfl) (fun _ _ _ h => h) (Or.inl ⟨by rfl, ?_⟩) (by assumption) ?_
  rotate_left
  · intro X hX
    go_simp
    try rfl
  try simp only [Act.put, List.getElem_toArray, List.getElem_cons_zero, List.getElem_cons_succ, List.setIfInBounds_toArray, List.set_cons_zero, List.set_cons_succ]
  refine wpAnyH_take (i := 12) (oi := _) (v := ?_) rfl (by kernel_rfl) (by kernel_rfl) (by kernel_rfl) (fun _ _ _ h => h) (Or.inl ⟨by rfl, ?_⟩) (by assumption) ?_
  rotate_left
  · intro X hX
    go_simp
    try rfl
  try simp only [Act.put, List.getElem_toArray, List.getElem_cons_zero, List.getElem_cons_succ, List.setIfInBounds_toArray, List.set_cons_zero, List.set_cons_succ]
  refine wpAnyH_ready (rs := [4]) (by kernel_rfl) (by simp) ?_
  refine AllReadyH.cons (o := _) rfl (fun K hK => ?_) AllReadyH.nil
  go_simp
  go_at_call 54
  refine (unhide HA _ hR0).mono ?_
  rintro r wA ⟨rfl, hRA, hgA⟩
  try go_simp
  refine hK.out _ _ (Bk.kept hHeld hgA (by simp; omega)) (fun hHeld => ?_)
  clear hK K
  try simp only [Act.put, List.getElem_toArray, List.getElem_cons_zero, List.getElem_cons_succ, List.setIfInBounds_toArray, List.set_cons_zero, List.set_cons_succ]
  refine wpAnyH_take (i := 5) (oi := _) (v := ?_) rfl (by kernel_rfl) (by kernel_rfl) (by kernel_rfl) (fun _ _ _ h => h) (Or.inl ⟨by rfl, ?_⟩) (by assumption) ?_
  rotate_left
  · intro X hX
    go_simp
    first
    | rfl
    | (rw [if_neg (by simp [ByteArray.size_append]; omega)]; try rfl)
  try simp only [Act.put, List.getElem_toArray, List.getElem_cons_zero, List.getElem_cons_succ, List.setIfInBounds_toArray, List.set_cons_zero, List.set_cons_succ]
  refine wpAnyH_ready (rs := [10]) (by kernel_rfl) (by simp) ?_
  refine AllReadyH.cons (o := _) rfl (fun K hK => ?_) AllReadyH.nil
  go_simp
  go_at_call 54
  refine (unhide HB _ hRA).mono ?_
  rintro r wB ⟨rfl, hRB, hgB⟩
  try go_simp
  refine hK.out _ _ (Bk.kept hHeld hgB (by simp; omega)) (fun hHeld => ?_)
  clear hK K
  try simp only [Act.put, List.getElem_toArray, List.getElem_cons_zero, List.getElem_cons_succ, List.setIfInBounds_toArray, List.set_cons_zero, List.set_cons_succ]
  refine wpAnyH_take (i := 11) (oi := _) (v := ?_) rfl (by kernel_rfl) (by kernel_rfl) (by kernel_rfl) (fun _ _ _ h => h) (Or.inl ⟨by rfl, ?_⟩) (by assumption) ?_
  rotate_left
  · intro X hX
    go_simp
    first
    | rfl
    | (rw [if_neg (by simp [ByteArray.size_append]; omega)]; try rfl)
  try simp only [Act.put, List.getElem_toArray, List.getElem_cons_zero, List.getElem_cons_succ, List.setIfInBounds_toArray, List.set_cons_zero, List.set_cons_succ]
  refine wpAnyH_take (i := 13) (oi := _) (v := ?_) rfl (by kernel_rfl) (by kernel_rfl) (by kernel_rfl) (fun _ _ _ h => h) (Or.inl ⟨by rfl, ?_⟩) (by assumption) ?_
  rotate_left
  · intro X hX
    go_simp
    first
    | rfl
    | (rw [if_neg (by simp [ByteArray.size_append]; omega)]; try rfl)
  try simp only [Act.put, List.getElem_toArray, List.getElem_cons_zero, List.getElem_cons_succ, List.setIfInBounds_toArray, List.set_cons_zero, List.set_cons_succ]
  refine wpAnyH_take (i := 14) (oi := _) (v := ?_) rfl (by kernel_rfl) (by kernel_rfl) (by kernel_rfl) (fun _ _ _ h => h) (Or.inl ⟨by rfl, ?_⟩) (by assumption) ?_
  rotate_left
  · intro X hX
    go_simp
    try rfl
  try simp only [Act.put, List.getElem_toArray, List.getElem_cons_zero, List.getElem_cons_succ, List.setIfInBounds_toArray, List.set_cons_zero, List.set_cons_succ]
  refine wpAnyH_done (by kernel_rfl) ?_ _
  rw [unhide Hc1]
  have hUB := grown_below (grown_below hU0 hgA hwR) hgB hwR
  have hR1 : Rb wB.drew R c vp (.slice ia c.ifaces.length ic) (.slice fa c.fields.length fc) (.slice ma L.length mc) eB := hRB
  have hU1 : Below w0.heap.size w0 wB.drew := hUB.drew
  have hbB := hHeld
  clear hRA hRB hgA hgB hR0 hU0 hUB HA HB
  go_wp2_with fail
  refine wp_region_held_drew (S := fun X => Bk X n #[.int .u16 (c.minor : Int), .int .u16 (c.major : Int), .int .u16 (c.flags : Int), .int .u16 (c.this : Int), .int .u16 (c.super : Int), vp, (.slice ia c.ifaces.length ic), (.slice fa c.fields.length fc), (.slice ma L.length mc)] 44) (by kernel_rfl) (show Bk wB.drew _ _ _ from hbB) (fun hHeld => ?_)
  refine wpAnyH_take (i := 0) (oi := _) (v := ?_) rfl (by kernel_rfl) (by kernel_rfl) (by kernel_rfl) (fun _ _ _ h => h) (Or.inl ⟨by rfl, ?_⟩) (by assumption) ?_
  rotate_left
  · intro X hX
    go_simp
    try rfl
  try simp only [Act.put, List.getElem_toArray, List.getElem_cons_zero, List.getElem_cons_succ, List.setIfInBounds_toArray, List.set_cons_zero, List.set_cons_succ]
  refine wpAnyH_take (i := 1) (oi := _) (v := ?_) rfl (by kernel_rfl) (by kernel_rfl) (by kernel_rfl) (fun _ _ _ h => h) (Or.inl ⟨by rfl, ?_⟩) (by assumption) ?_
  rotate_left
  · intro X hX
    go_simp
    try rfl
  try simp only [Act.put, List.getElem_toArray, List.getElem_cons_zero, List.getElem_cons_succ, List.setIfInBounds_toArray, List.set_cons_zero, List.set_cons_succ]
  refine wpAnyH_take (i := 2) (oi := _) (v := ?_) rfl (by kernel_rfl) (by kernel_rfl) (by kernel_rfl) (fun _ _ _ h => h) (Or.inl ⟨by rfl, ?_⟩) (by assumption) ?_
  rotate_left
  · intro X hX
    go_simp
    try rfl
  try simp only [Act.put, List.getElem_toArray, List.getElem_cons_zero, List.getElem_cons_succ, List.setIfInBounds_toArray, List.set_cons_zero, List.set_cons_succ]
  refine wpAnyH_take (i := 3) (oi := _) (v := ?_) rfl (by kernel_rfl) (by kernel_rfl) (by kernel_rfl) (fun _ _ _ h => h) (Or.inl ⟨by rfl, ?_⟩) (by assumption) ?_
  rotate_left
  · intro X hX
    have q2 := (unhide HQ X hX).2.2.1
    go_simp
    try rfl
  try simp only [Act.put, List.getElem_toArray, List.getElem_cons_zero, List.getElem_cons_succ, List.setIfInBounds_toArray, List.set_cons_zero, List.set_cons_succ]
  refine wpAnyH_take (i := 4) (oi := _) (v := ?_) rfl (by kernel_rfl) (by kernel_rfl) (by kernel_rfl) (fun _ _ _ h => h) (Or.inl ⟨by rfl, ?_⟩) (by assumption) ?_
  rotate_left
  · intro X hX
    go_simp
    try rfl
  try simp only [Act.put, List.getElem_toArray, List.getElem_cons_zero, List.getElem_cons_succ, List.setIfInBounds_toArray, List.set_cons_zero, List.set_cons_succ]
  refine wpAnyH_take (i := 6) (oi := _) (v := ?_) rfl (by kernel_rfl) (by kernel_rfl) (by kernel_rfl) (fun _ _ _ h => h) (Or.inl ⟨by rfl, ?_⟩) (by assumption) ?_
  rotate_left
  · intro X hX
    go_simp
    try rfl
  try simp only [Act.put, List.getElem_toArray, List.getElem_cons_zero, List.getElem_cons_succ, List.setIfInBounds_toArray, List.set_cons_zero, List.set_cons_succ]
  refine wpAnyH_take (i := 7) (oi := _) (v := ?_) rfl (by kernel_rfl) (by kernel_rfl) (by kernel_rfl) (fun _ _ _ h => h) (Or.inl ⟨by rfl, ?_⟩) (by assumption) ?_
  rotate_left
  · intro X hX
    go_simp
    try rfl
  try simp only [Act.put, List.getElem_toArray, List.getElem_cons_zero, List.getElem_cons_succ, List.setIfInBounds_toArray, List.set_cons_zero, List.set_cons_succ]
  refine wpAnyH_take (i := 8) (oi := _) (v := ?_) rfl (by kernel_rfl) (by kernel_rfl) (by kernel_rfl) (fun _ _ _ h => h) (Or.inl ⟨by rfl, ?_⟩) (by assumption) ?_
  rotate_left
  · intro X hX
    have q3 := (unhide HQ X hX).2.2.2.1
    go_simp
    try rfl
  try simp only [Act.put, List.getElem_toArray, List.getElem_cons_zero, List.getElem_cons_succ, List.setIfInBounds_toArray, List.set_cons_zero, List.set_cons_succ]
  refine wpAnyH_take (i := 9) (oi := _) (v := ?_) rfl (by kernel_rfl) (by kernel_rfl) (by kernel_rfl) (fun _ _ _ h => h) (Or.inl ⟨by rfl, ?_⟩) (by assumption) ?_
  rotate_left
  · intro X hX
    go_simp
    try rfl
  try simp only [Act.put, List.getElem_toArray, List.getElem_cons_zero, List.getElem_cons_succ, List.setIfInBounds_toArray, List.set_cons_zero, List.set_cons_succ]
  refine wpAnyH_take (i := 12) (oi := _) (v := ?_) rfl (by kernel_rfl) (by kernel_rfl) (by kernel_rfl) (fun _ _ _ h => h) (Or.inl ⟨by rfl, ?_⟩) (by assumption) ?_
  rotate_left
  · intro X hX
    go_simp
    try rfl
  try simp only [Act.put, List.getElem_toArray, List.getElem_cons_zero, List.getElem_cons_succ, List.setIfInBounds_toArray, List.set_cons_zero, List.set_cons_succ]
  refine wpAnyH_take (i := 13) (oi := _) (v := ?_) rfl (by kernel_rfl) (by kernel_rfl) (by kernel_rfl) (fun _ _ _ h => h) (Or.inl ⟨by rfl, ?_⟩) (by assumption) ?_
  rotate_left
  · intro X hX
    go_simp
    try rfl
  try simp only [Act.put, List.getElem_toArray, List.getElem_cons_zero, List.getElem_cons_succ, List.setIfInBounds_toArray, List.set_cons_zero, List.set_cons_succ]
  refine wpAnyH_take (i := 14) (oi := _) (v := ?_) rfl (by kernel_rfl) (by kernel_rfl) (by kernel_rfl) (fun _ _ _ h => h) (Or.inl ⟨by rfl, ?_⟩) (by assumption) ?_
  rotate_left
  · intro X hX
    have q4 := (unhide HQ X hX).2.2.2.2.1
    go_simp
    try rfl
  try simp only [Act.put, List.getElem_toArray, List.getElem_cons_zero, List.getElem_cons_succ, List.setIfInBounds_toArray, List.set_cons_zero, List.set_cons_succ]
  refine wpAnyH_take (i := 15) (oi := _) (v := ?_) rfl (by kernel_rfl) (by kernel_rfl) (by kernel_rfl) (fun _ _ _ h => h) (Or.inl ⟨by rfl, ?_⟩) (by assumption) ?_
  rotate_left
  · intro X hX
    go_simp
    try rfl
  try simp only [Act.put, List.getElem_toArray, List.getElem_cons_zero, List.getElem_cons_succ, List.setIfInBounds_toArray, List.set_cons_zero, List.set_cons_succ]
  refine wpAnyH_take (i := 18) (oi := _) (v := ?_) rfl (by kernel_rfl) (by kernel_rfl) (by kernel_rfl) (fun _ _ _ h => h) (Or.inl ⟨by rfl, ?_⟩) (by assumption) ?_
  rotate_left
  · intro X hX
    go_simp
    try rfl
  try simp only [Act.put, List.getElem_toArray, List.getElem_cons_zero, List.getElem_cons_succ, List.setIfInBounds_toArray, List.set_cons_zero, List.set_cons_succ]
  refine wpAnyH_take (i := 19) (oi := _) (v := ?_) rfl (by kernel_rfl) (by kernel_rfl) (by kernel_rfl) (fun _ _ _ h => h) (Or.inl ⟨by rfl, ?_⟩) (by assumption) ?_
  rotate_left
  · intro X hX
    go_simp
    try rfl
  try simp only [Act.put, List.getElem_toArray, List.getElem_cons_zero, List.getElem_cons_succ, List.setIfInBounds_toArray, List.set_cons_zero, List.set_cons_succ]
  refine wpAnyH_take (i := 20) (oi := _) (v := ?_) rfl (by kernel_rfl) (by kernel_rfl) (by kernel_rfl) (fun _ _ _ h => h) (Or.inl ⟨by rfl, ?_⟩) (by assumption) ?_
  rotate_left
  · intro X hX
    have q6 := (unhide HQ X hX).2.2.2.2.2.2.1
    go_simp
    try rfl
  try simp only [Act.put, List.getElem_toArray, List.getElem_cons_zero, List.getElem_cons_succ, List.setIfInBounds_toArray, List.set_cons_zero, List.set_cons_succ]
  refine wpAnyH_take (i := 21) (oi := _) (v := ?_) rfl (by kernel_rfl) (by kernel_rfl) (by kernel_rfl) (fun _ _ _ h => h) (Or.inl ⟨by rfl, ?_⟩) (by assumption) ?_
  rotate_left
  · intro X hX
    go_simp
    try rfl
  try simp only [Act.put, List.getElem_toArray, List.getElem_cons_zero, List.getElem_cons_succ, List.setIfInBounds_toArray, List.set_cons_zero, List.set_cons_succ]
  refine wpAnyH_ready (rs := [5]) (by kernel_rfl) (by simp) ?_
  refine AllReadyH.cons (o := _) rfl (fun K hK => ?_) AllReadyH.nil
  go_simp
  go_at_call 54
  refine (unhide HF _ hR1).mono ?_
  rintro r wF ⟨rfl, hRF, hgF⟩
  try go_simp
  refine hK.out _ _ (Bk.kept hHeld hgF (by simp; omega)) (fun hHeld => ?_)
  clear hK K
  try simp only [Act.put, List.getElem_toArray, List.getElem_cons_zero, List.getElem_cons_succ, List.setIfInBounds_toArray, List.set_cons_zero, List.set_cons_succ]
  refine wpAnyH_ready (rs := [10]) (by kernel_rfl) (by simp) ?_
  refine AllReadyH.cons (o := _) rfl (fun K hK => ?_) AllReadyH.nil
  go_simp
  go_at_call 54
  refine (unhide HT _ hRF).mono ?_
  rintro r wT ⟨rfl, hRT, hgT⟩
  try go_simp
  refine hK.out _ _ (Bk.kept hHeld hgT (by simp; omega)) (fun hHeld => ?_)
  clear hK K
  try simp only [Act.put, List.getElem_toArray, List.getElem_cons_zero, List.getElem_cons_succ, List.setIfInBounds_toArray, List.set_cons_zero, List.set_cons_succ]
  refine wpAnyH_take (i := 11) (oi := _) (v := ?_) rfl (by kernel_rfl) (by kernel_rfl) (by kernel_rfl) (fun _ _ _ h => h) (Or.inl ⟨by rfl, ?_⟩) (by assumption) ?_
  rotate_left
  · intro X hX
    go_simp
    first
    | rfl
    | (rw [if_neg (by simp [ByteArray.size_append]; omega)]; try rfl)
  try simp only [Act.put, List.getElem_toArray, List.getElem_cons_zero, List.getElem_cons_succ, List.setIfInBounds_toArray, List.set_cons_zero, List.set_cons_succ]
  refine wpAnyH_ready (rs := [16]) (by kernel_rfl) (by simp) ?_
  refine AllReadyH.cons (o := _) rfl (fun K hK => ?_) AllReadyH.nil
  go_simp
  go_at_call 54
  refine (unhide HS _ hRT).mono ?_
  rintro r wS ⟨rfl, hRS, hgS⟩
  try go_simp
  refine hK.out _ _ (Bk.kept hHeld hgS (by simp; omega)) (fun hHeld => ?_)
  clear hK K
  try simp only [Act.put, List.getElem_toArray, List.getElem_cons_zero, List.getElem_cons_succ, List.setIfInBounds_toArray, List.set_cons_zero, List.set_cons_succ]
  refine wpAnyH_take (i := 17) (oi := _) (v := ?_) rfl (by kernel_rfl) (by kernel_rfl) (by kernel_rfl) (fun _ _ _ h => h) (Or.inl ⟨by rfl, ?_⟩) (by assumption) ?_
  rotate_left
  · intro X hX
    go_simp
    first
    | rfl
    | (rw [if_neg (by simp [ByteArray.size_append]; omega)]; try rfl)
  try simp only [Act.put, List.getElem_toArray, List.getElem_cons_zero, List.getElem_cons_succ, List.setIfInBounds_toArray, List.set_cons_zero, List.set_cons_succ]
  refine wpAnyH_ready (rs := [22]) (by kernel_rfl) (by simp) ?_
  refine AllReadyH.cons (o := _) rfl (fun K hK => ?_) AllReadyH.nil
  go_simp
  go_at_call 54
  refine (unhide HI _ hRS).mono ?_
  rintro r wI ⟨rfl, hRI, hgI⟩
  try go_simp
  refine hK.out _ _ (Bk.kept hHeld hgI (by simp; omega)) (fun hHeld => ?_)
  clear hK K
  try simp only [Act.put, List.getElem_toArray, List.getElem_cons_zero, List.getElem_cons_succ, List.setIfInBounds_toArray, List.set_cons_zero, List.set_cons_succ]
  refine wpAnyH_take (i := 23) (oi := _) (v := ?_) rfl (by kernel_rfl) (by kernel_rfl) (by kernel_rfl) (fun _ _ _ h => h) (Or.inl ⟨by rfl, ?_⟩) (by assumption) ?_
  rotate_left
  · intro X hX
    go_simp
    first
    | rfl
    | (rw [if_neg (by simp [ByteArray.size_append]; omega)]; try rfl)
  try simp only [Act.put, List.getElem_toArray, List.getElem_cons_zero, List.getElem_cons_succ, List.setIfInBounds_toArray, List.set_cons_zero, List.set_cons_succ]
  refine wpAnyH_take (i := 24) (oi := _) (v := ?_) rfl (by kernel_rfl) (by kernel_rfl) (by kernel_rfl) (fun _ _ _ h => h) (Or.inl ⟨by rfl, ?_⟩) (by assumption) ?_
  rotate_left
  · intro X hX
    go_simp
    first
    | rfl
    | (rw [if_neg (by simp [ByteArray.size_append]; omega)]; try rfl)
  try simp only [Act.put, List.getElem_toArray, List.getElem_cons_zero, List.getElem_cons_succ, List.setIfInBounds_toArray, List.set_cons_zero, List.set_cons_succ]
  refine wpAnyH_take (i := 25) (oi := _) (v := ?_) rfl (by kernel_rfl) (by kernel_rfl) (by kernel_rfl) (fun _ _ _ h => h) (Or.inl ⟨by rfl, ?_⟩) (by assumption) ?_
  rotate_left
  · intro X hX
    go_simp
    try rfl
  try simp only [Act.put, List.getElem_toArray, List.getElem_cons_zero, List.getElem_cons_succ, List.setIfInBounds_toArray, List.set_cons_zero, List.set_cons_succ]
  refine wpAnyH_done (by kernel_rfl) ?_ _
  rw [unhide Hc2]
  have hUI := grown_below (grown_below (grown_below (grown_below hU1 hgF hwR) hgT hwR) hgS hwR) hgI hwR
  obtain ⟨v9, w9, hcv, hot, hb9⟩ := of_text u2 wI (by omega)
  have HW9 : Hid (Ws w0 w9 R n c vp (.slice ia c.ifaces.length ic) (.slice fa c.fields.length fc) (.slice ma L.length mc) eI v9 u2) := ⟨hRI.below hb9, hHeld.below hb9, Ot_base hot hUI.size, hUI.trans (hb9.mono hUI.size), hwR, hwn, hne⟩
  obtain ⟨oa9, oc9, e9⟩ := Ot_slice hot
  subst e9
  clear hRF hRT hRS hRI hgF hgT hgS hgI hR1 hU1 HF HT HS HI hUI hot hb9 HQ
  go_upto_region 9 with fail
  rename_i Kr aKr
  have HKr := hide aKr
  clear aKr
  go_wp2_with fail
  refine unhide HKr _ _ ?_
  exact wc_ifs HW9 HCin HokI HokF HokM hP (by omega) hmc2 HP
end Go.Proofs.Ytgihfcjddkpkaaa.Cl
