/-
  The reference: WriteClass: its interfaces, and what follows.
-/
import Derived.Test.YtgihfcjddkpkaaaZf
namespace Go.Proofs.Ytgihfcjddkpkaaa.Cl
set_option linter.unusedVariables false
set_option linter.unusedSimpArgs false
open Go.RowKit Go.Maps
namespace M
theorem rifs_len (l : List Nat) (e : Nat) : (foldR (fun x : Nat => rnum (x : Int) 2) l e).2.length = 2 * l.length := by
  induction l generalizing e with
  | nil => simp [foldR, rtext]
  | cons x l ih => rw [foldR, sl, nl, ih, List.length_cons]; omega
/-- What stands behind the interfaces. -/
def rt9 (c : Csi) : Rw := seqR (seqR (rnum (c.fields.length : Int) 2) (foldR (rfld (qp c.pool)) c.fields)) (rt11 c)
end M
set_option maxRecDepth 1000000 in
set_option maxHeartbeats 16000000 in
theorem wc_ifs {post : Ending → World → Prop} {c0 c2 c3 c5 c6 c7 c8 c10 c11 c12 c13 c14 c15 c16 c17 c18 c19 c20 c21 c22 c23 c24 c25 c26 c27 c28 c29 c30 c31 c32 c33 c34 c35 c36 c37 c38 c39 c40 c41 c42 c43 c44 c45 c46 c47 c48 c49 c50 c51 c52 c53 c54 c55 c56 c57 c58 c59 c60 c61 c62 c63 c64 c65 c66 c67 c68 c69 c70 c71 c72 c73 c74 c75 c76 c77 c78 c79 c80 c81 c82 c83 c84 c85 c86 c87 c88 c89 c90 c91 c92 c93 c94 c95 c96 c97 c98 c99 c100 c101 c102 c103 c104 c105 c106 c107 c108 c109 c110 c111 c112 c113 c114 c115 c116 c117 c118 c119 c120 c121 c122 c123 c124 c125 c126 c127 c128 c129 c130 c131 c132 c133 c134 c135 c136 c137 c138 c139 c140 c141 c142 c143 c144 c145 c146 c147 c148 c149 c150 c151 c152 c153 c154 c155 c156 c157 c158 c159 c160 c161 c162 c163 c164 c165 c166 c167 c168 c169 c170 c171 c172 c173 c174 c175 c176 c177 c178 c179 c180 c181 c182 c183 c184 c185 c186 c187 c188 c189 c190 c191 c192 c193 c194 c195 c196 c197 c198 c199 c200 c201 c202 c203 c204 c205 c206 c207 c208 : Value} {w0 w1 : World} {R n : Nat} {c : Csi} {vp : Value} {ia fa ma : Option Addr} {ic fc mc : Nat} {L : List Mv} {e : Nat} {oa : Addr} {oc : Nat} {l : List UInt8} (H : Hid (Ws w0 w1 R n c vp (.slice ia c.ifaces.length ic) (.slice fa c.fields.length fc) (.slice ma L.length mc) e (.slice (some oa) l.length oc) l)) (HCin : Hid (Cin w0 c vp (.slice ia c.ifaces.length ic) (.slice fa c.fields.length fc) (.slice ma L.length mc) L)) (OkI : Hid (∀ x ∈ c.ifaces, x < 65536)) (OkF : Hid (∀ f ∈ c.fields, FdOk f)) (OkM : Hid (∀ m ∈ c.methods, m.Ok)) (hP : c.pool.length ≤ 1048576) (hl : l.length + 2 * c.ifaces.length + 16 * c.fields.length + M.mcosts c.methods + 300 ≤ 1000000) (hmc2 : M.mcosts c.methods ≤ 890000)
    (HP : Hid (∀ w', Below w0.heap.size w0 w' → post (rans l (M.seqR (M.foldR (fun x : Nat => M.rnum (x : Int) 2) c.ifaces) (M.rt9 c) e)) w')) :
    Code.wp Try.prog ((Try.f23.body.map (tlOf 8)).getD .skip) (bodyPost Try.prog Try.f23 post) ⟨#[c0, .pointer (some ⟨n, 0, none⟩), c2, c3, .pointer (some ⟨R, 0, none⟩), c5, c6, c7, c8, .slice (some oa) l.length oc, c10, c11, c12, c13, c14, c15, c16, c17, c18, c19, c20, c21, c22, c23, c24, c25, c26, c27, c28, c29, c30, c31, c32, c33, c34, c35, c36, c37, c38, c39, c40, c41, c42, c43, c44, c45, c46, c47, c48, c49, c50, c51, c52, c53, c54, c55, c56, c57, c58, c59, c60, c61, c62, c63, c64, c65, c66, c67, c68, c69, c70, c71, c72, c73, c74, c75, c76, c77, c78, c79, c80, c81, c82, c83, c84, c85, c86, c87, c88, c89, c90, c91, c92, c93, c94, c95, c96, c97, c98, c99, c100, c101, c102, c103, c104, c105, c106, c107, c108, c109, c110, c111, c112, c113, c114, c115, c116, c117, c118, c119, c120, c121, c122, c123, c124, c125, c126, c127, c128, c129, c130, c131, c132, c133, c134, c135, c136, c137, c138, c139, c140, c141, c142, c143, c144, c145, c146, c147, c148, c149, c150, c151, c152, c153, c154, c155, c156, c157, c158, c159, c160, c161, c162, c163, c164, c165, c166, c167, c168, c169, c170, c171, c172, c173, c174, c175, c176, c177, c178, c179, c180, c181, c182, c183, c184, c185, c186, c187, c188, c189, c190, c191, c192, c193, c194, c195, c196, c197, c198, c199, c200, c201, c202, c203, c204, c205, c206, c207, c208], []⟩ w1 := by
  obtain ⟨i0, hi, hz0, hz1, hz2⟩ := info_parts infoB
  conv => arg 2; whnf
  obtain ⟨vm, hvm⟩ : ∃ v, v = ((.slice ma L.length mc) : Value) := ⟨_, rfl⟩
  have Hvm := hide hvm
  obtain ⟨vf, hvf⟩ : ∃ v, v = ((.slice fa c.fields.length fc) : Value) := ⟨_, rfl⟩
  have Hvf := hide hvf
  rw [← hvm, ← hvf] at H HCin
  clear hvm hvf
  rw [rans_seq] at HP
  have c6 := (unhide H).b.cell 6
  simp at c6
  have hszH := (unhide H).u.size
  go_upto_block 0 with fail
  clear c6
  rename_i Kr aKr
  have HKr := hide aKr
  clear aKr
  go_wp2_with fail
  go_loopw [9, 90] (fun ov i wr => ∃ (k : Nat) (oak : Addr) (ock : Nat), k ≤ c.ifaces.length ∧ i = .int .i64 k ∧ ov = .slice (some oak) (l ++ (M.foldR (fun x : Nat => M.rnum (x : Int) 2) (c.ifaces.take k) e).2).length ock ∧ Hid (Ws w0 wr R n c vp (.slice ia c.ifaces.length ic) vf vm (M.foldR (fun x : Nat => M.rnum (x : Int) 2) (c.ifaces.take k) e).1 (.slice (some oak) (l ++ (M.foldR (fun x : Nat => M.rnum (x : Int) 2) (c.ifaces.take k) e).2).length ock) (l ++ (M.foldR (fun x : Nat => M.rnum (x : Int) 2) (c.ifaces.take k) e).2))) (fun _ i _ => c.ifaces.length - (intOf i).toNat)
  case atStart =>
    have h0 : l ++ (M.foldR (fun x : Nat => M.rnum (x : Int) 2) (c.ifaces.take 0) e).2 = l := by simp [M.foldR, M.rtext]
    have h1 : (M.foldR (fun x : Nat => M.rnum (x : Int) 2) (c.ifaces.take 0) e).1 = e := by simp [M.foldR, M.rtext]
    exact ⟨0, oa, oc, Nat.zero_le _, rfl, by rw [h0], by rw [h0, h1]; exact unhide H⟩
  case round =>
    clear H
    obtain ⟨k, oak, ock, hkn, rfl, rfl, HWr⟩ := hrel
    have hfl := M.rifs_len (c.ifaces.take k) e
    rw [List.length_take] at hfl
    by_cases hlt : k < c.ifaces.length
    · have hne : c.ifaces ≠ [] := by intro e; rw [e] at hlt; simp at hlt
      have hCr := (unhide HCin).below (unhide HWr).u
      obtain ⟨_, _, x1, G1⟩ := hCr.i
      cases x1
      obtain ⟨g1, o1', rfl, g2⟩ := G1 hne
      obtain ⟨x, hx⟩ : ∃ x, x = c.ifaces.getD k 0 := ⟨_, rfl⟩
      have hxm : x ∈ c.ifaces := by rw [hx]; simp [List.getD, List.getElem?_eq_getElem hlt]
      have hxo := unhide OkI x hxm
      have s0 := g2 k hlt 0 (by omega)
      rw [← hx] at s0
      simp [Uc] at s0
      have ki : (k : Int) < (c.ifaces.length : Int) := by omega
      have hstep : M.foldR (fun x : Nat => M.rnum (x : Int) 2) (c.ifaces.take (k + 1)) = M.seqR (M.foldR (fun x : Nat => M.rnum (x : Int) 2) (c.ifaces.take k)) (M.rnum (x : Int) 2) := by
        have := M.foldR_take (fun x : Nat => M.rnum (x : Int) 2) c.ifaces 0 hlt
        rw [← hx] at this
        exact this
      obtain ⟨ek, hek⟩ : ∃ a, a = (M.foldR (fun x : Nat => M.rnum (x : Int) 2) (c.ifaces.take k) e).1 := ⟨_, rfl⟩
      obtain ⟨lk, hlk⟩ : ∃ a, a = l ++ (M.foldR (fun x : Nat => M.rnum (x : Int) 2) (c.ifaces.take k) e).2 := ⟨_, rfl⟩
      have hlkl : lk.length + 70 ≤ 1000000 := by rw [hlk, List.length_append]; omega
      rw [← hek, ← hlk] at HWr
      rw [← hlk]
      obtain ⟨tN, htN⟩ : ∃ a : List UInt8, a = (M.rnum (x : Int) 2 ek).2 := ⟨_, rfl⟩
      obtain ⟨eN, heN⟩ : ∃ a, a = (M.rnum (x : Int) 2 ek).1 := ⟨_, rfl⟩
      have HN := hide (rnum2_any R c vp _ vf vm ek (x : Int) wr (unhide HWr).r (Okx.nat (by omega)))
      rw [← htN, ← heN] at HN
      have zN : tN.length = 2 := by rw [htN]; exact M.nl _ _ _
      have n1 : (M.foldR (fun x : Nat => M.rnum (x : Int) 2) (c.ifaces.take (k + 1)) e).1 = eN := by rw [hstep, M.seqR_fst, ← hek, heN]
      have n2 : l ++ (M.foldR (fun x : Nat => M.rnum (x : Int) 2) (c.ifaces.take (k + 1)) e).2 = lk ++ tN := by rw [hstep]; unfold M.seqR; simp only [← hek, ← htN, hlk, List.append_assoc]
      have Hn1 := hide n1
      have Hn2 := hide n2
      clear hstep hek hlk hx hxm g2 G1 hne hCr hfl n1 n2 htN heN
      go_wp2_with fail
      refine (unhide HN).mono ?_
      rintro r w5 ⟨rfl, hR5, hg5⟩
      have hW5 := (unhide HWr).num hR5 hg5
      have hO5 := hW5.o
      have hB5 := hW5.u.size
      have hsr : lk.length + tN.length ≤ 4000000 := by omega
      clear HN hR5 hg5 s0
      go_wp2_with (at_builtin; refine wpList_append_free _ rfl _ _ 67 9 rfl i0 Try.underlying67 Try.underlying9 hi hz0 hz1 hz2 w0.heap.size _ lk tN rfl rfl hO5 hsr hB5 ?_; intro v6 w6 hO6 hg6; have hW6 := hW5.app hO6 hg6; obtain ⟨oa6, oc6, e6⟩ := Ot_slice hO6; subst e6; rw [← unhide Hn2] at hW6; rw [← unhide Hn1] at hW6; have HW6 := hide hW6; have Hv6 := hide (show (lk ++ tN).length = (l ++ (M.foldR (fun x : Nat => M.rnum (x : Int) 2) (c.ifaces.take (k + 1)) e).2).length by rw [unhide Hn2]); have Hv7 := hide (show lk.length + 2 = (l ++ (M.foldR (fun x : Nat => M.rnum (x : Int) 2) (c.ifaces.take (k + 1)) e).2).length by rw [unhide Hn2, List.length_append, zN]); clear hO6 hg6 hW6)
      go_roundw
      case rel => exact ⟨k + 1, oa6, oc6, by omega, by go_num, by first | (rw [← unhide Hv6]; done) | (rw [← unhide Hv7]; done) | (rw [← unhide Hv6]; simp; done) | (rw [← unhide Hv6]; simp; omega), unhide HW6⟩
      case measure => simp [intOf]; omega
    · have hkl : k = c.ifaces.length := by omega
      subst hkl
      have ki : ¬ ((c.ifaces.length : Nat) : Int) < ((c.ifaces.length : Nat) : Int) := by omega
      rw [List.take_length] at HWr
      rw [List.take_length]
      have hll : (l ++ (M.foldR (fun x : Nat => M.rnum (x : Int) 2) c.ifaces e).2).length + 16 * c.fields.length + M.mcosts c.methods + 200 ≤ 1000000 := by
        rw [List.length_append, M.rifs_len]; omega
      generalize l ++ (M.foldR (fun x : Nat => M.rnum (x : Int) 2) c.ifaces e).2 = lf at *
      generalize (M.foldR (fun x : Nat => M.rnum (x : Int) 2) c.ifaces e).1 = ef at *
      rw [unhide Hvm, unhide Hvf] at HWr HCin
      clear hfl
      go_wp2_with fail
      refine unhide HKr _ _ ?_
      exact wc_flds HWr HCin OkF OkM hP hll hmc2 HP
end Go.Proofs.Ytgihfcjddkpkaaa.Cl
