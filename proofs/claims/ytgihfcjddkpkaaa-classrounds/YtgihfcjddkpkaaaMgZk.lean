/-
  What both write is the same: plain mathematics.
  ClassWrites: size.
-/
import Derived.Test.YtgihfcjddkpkaaaZi
import Derived.Test.YtgihfcjddkpkaaaSdb
namespace Go.Proofs.Ytgihfcjddkpkaaa.Cl
set_option linter.unusedVariables false
open Go.RowKit
namespace M
/-- What is wrong stays. -/
def Stay (g : Rw) : Prop := ∀ e, e ≠ 0 → (g e).1 = e
theorem Stay.num (x : Int) (n : Nat) : Stay (rnum x n) := fun e he => by
  unfold rnum
  by_cases h : fits x n
  · rw [if_pos h]
  · rw [if_neg h]; exact fl_of he
theorem Stay.text (s : List UInt8) : Stay (rtext s) := fun e _ => rfl
theorem Stay.seq {f g : Rw} (hf : Stay f) (hg : Stay g) : Stay (seqR f g) := fun e he => by
  rw [seqR_fst, hf e he, hg e he]
theorem Stay.fold {α : Type} {f : α → Rw} (h : ∀ x, Stay (f x)) : ∀ l : List α, Stay (foldR f l)
  | [] => Stay.text []
  | x :: l => (h x).seq (Stay.fold h l)
theorem Stay.att (P : List K) (name body : List UInt8) : Stay (ratt P name body) := fun e he => by
  unfold ratt
  cases idxT P name P.length with
  | some k => exact (((Stay.num _ _).seq (Stay.num _ _)).seq (Stay.text _)) e he
  | none => exact fl_of he
theorem Stay.hand (h : Hi) : Stay (rhand h) := (((Stay.num _ _).seq (Stay.num _ _)).seq (Stay.num _ _)).seq (Stay.num _ _)
theorem Stay.map_ (P : List K) (s : List UInt8) : Stay (rmap P s) := by
  unfold rmap
  by_cases h : s = []
  · rw [if_pos h]; exact Stay.text _
  · rw [if_neg h]; exact (Stay.text _).seq (Stay.att _ _ _)
theorem Stay.body (P : List K) (c : Ci) : Stay (rbody P c) := by
  unfold rbody
  exact ((((((Stay.num _ _).seq (Stay.num _ _)).seq (Stay.num _ _)).seq (Stay.text _)).seq (Stay.num _ _)).seq (Stay.fold Stay.hand _)).seq (Stay.map_ _ _)
theorem Stay.code (P : List K) (c : Ci) : Stay (rcode P c) := fun e he => by
  unfold rcode
  rw [Stay.att _ _ _ e he, Stay.body _ _ e he, Stay.att _ _ _ e he]
theorem Stay.fld (P : List K) (f : Fd) : Stay (rfld P f) := by
  rw [rfld_eq]
  refine Stay.seq (((Stay.num _ _).seq (Stay.num _ _)).seq (Stay.num _ _)) ?_
  by_cases h : f.value = 0
  · rw [if_pos h]; exact Stay.text _
  · rw [if_neg h]
    intro e he
    show (ratt P valueN (rnum (f.value : Int) 2 e).2 (rnum (f.value : Int) 2 e).1).1 = e
    rw [Stay.num _ _ e he, Stay.att _ _ _ e he]
theorem Stay.mth (P : List K) (m : Mi) : Stay (rmth P m) := by
  have h0 : rmth P m = seqR (rtri m.flags m.name m.type_) (if m.has = true then fun e => ((rcode P m.code e).1, [0, 1] ++ (rcode P m.code e).2) else rtext [0, 0]) := rfl
  rw [h0]
  refine Stay.seq (((Stay.num _ _).seq (Stay.num _ _)).seq (Stay.num _ _)) ?_
  by_cases h : m.has = true
  · rw [if_pos h]
    intro e he
    show (rcode P m.code e).1 = e
    exact Stay.code P m.code e he
  · rw [if_neg h]; exact Stay.text _
theorem Stay.full (c : Csi) (bs : List UInt8) : Stay (rfull c bs) := by
  unfold rfull rone rfour rt8 rt9 rt11
  refine Stay.seq (Stay.seq ?_ ?_) (Stay.seq (Stay.fold (fun _ => Stay.num _ _) _) (Stay.seq (Stay.seq (Stay.num _ _) (Stay.fold (Stay.fld _) _)) (Stay.seq (Stay.seq (Stay.num _ _) (Stay.fold (Stay.mth _) _)) (Stay.text _))))
  · exact (((Stay.text _).seq (Stay.num _ _)).seq (Stay.num _ _)).seq (Stay.text _)
  · exact (((Stay.num _ _).seq (Stay.num _ _)).seq (Stay.num _ _)).seq (Stay.num _ _)
/-! A pool whose first constant is none. -/
theorem idxT_qp {P : List K} (h : (P.getD 0 K.zero).tag ≠ 1) (name : List UInt8) : ∀ m, idxT (qp P) name m = idxT P name m
  | 0 => rfl
  | 1 => by
    rw [idxT_one]
    rw [idxT, idxT]
    simp only
    rw [if_neg (fun g => h g.1)]
  | m + 2 => by
    have e1 := idxT_qp h name (m + 1)
    rw [show idxT (qp P) name (m + 2) = (match idxT (qp P) name (m + 1) with | some k => some k | none => if ((qp P).getD (m + 1) K.zero).tag = 1 ∧ ((qp P).getD (m + 1) K.zero).text = name then some (m + 1) else none) from rfl]
    rw [show idxT P name (m + 2) = (match idxT P name (m + 1) with | some k => some k | none => if (P.getD (m + 1) K.zero).tag = 1 ∧ (P.getD (m + 1) K.zero).text = name then some (m + 1) else none) from rfl]
    rw [e1, qp_at _ (by omega)]
theorem ratt_qp {P : List K} (h : (P.getD 0 K.zero).tag ≠ 1) (name body : List UInt8) : ratt (qp P) name body = ratt P name body := by
  funext e
  unfold ratt
  rw [qp_len, idxT_qp h]
theorem rmap_qp {P : List K} (h : (P.getD 0 K.zero).tag ≠ 1) (s : List UInt8) : rmap (qp P) s = rmap P s := by unfold rmap; rw [ratt_qp h]
theorem rbody_qp {P : List K} (h : (P.getD 0 K.zero).tag ≠ 1) (c : Ci) : rbody (qp P) c = rbody P c := by unfold rbody; rw [rmap_qp h]
theorem rcode_qp {P : List K} (h : (P.getD 0 K.zero).tag ≠ 1) (c : Ci) : rcode (qp P) c = rcode P c := by funext e; unfold rcode; rw [rbody_qp h, ratt_qp h, ratt_qp h]
theorem rfld_qp {P : List K} (h : (P.getD 0 K.zero).tag ≠ 1) : rfld (qp P) = rfld P := by
  funext f
  rw [rfld_eq, rfld_eq]
  congr 1
  by_cases hv : f.value = 0
  · rw [if_pos hv, if_pos hv]
  · rw [if_neg hv, if_neg hv]; funext e; rw [ratt_qp h]
theorem rmth_qp {P : List K} (h : (P.getD 0 K.zero).tag ≠ 1) : rmth (qp P) = rmth P := by
  funext m
  unfold rmth
  rw [rcode_qp h]
theorem magic_num : rnum 3405691582 4 = rtext [202, 254, 186, 190] := by
  funext e
  unfold rnum rtext
  rw [if_pos (by unfold fits; decide)]
  rfl
theorem full_eq (c : Csi) (bs : List UInt8) (h : (c.pool.getD 0 K.zero).tag ≠ 1) : seqR (seqR (seqR (rnum 3405691582 4) (seqR (rnum (c.minor : Int) 2) (rnum (c.major : Int) 2))) (rtext bs)) (rtail c) = rfull c bs := by
  unfold rfull rone rfour rt8 rt9 rt11 rtail
  rw [magic_num, rfld_qp h, rmth_qp h]
  simp only [seqR_assoc]
theorem wall_rel (c : Csi) (bs : List UInt8) (hP : c.pool.length ≤ 65535) (hv : ∀ f ∈ c.fields, f.value < 65536) (hc : ∀ m ∈ c.methods, clen m.code < 4294967296) (h : (c.pool.getD 0 K.zero).tag ≠ 1) :
    (wall c bs).e = (rfull c bs 0).1 ∧ ((wall c bs).e = 0 → (wall c bs).l = (rfull c bs 0).2) := by
  have h1 := (((Rel.one 3405691582 4).comp (Rel.two (c.minor : Int) (c.major : Int) 2)).comp (Rel.text bs)).comp (Rel.cls c hP hv hc)
  rw [full_eq c bs h] at h1
  obtain ⟨a, b⟩ := h1 ⟨[], 0⟩
  exact ⟨a, fun h => by have := (b h).2; rw [List.nil_append] at this; exact this⟩
end M
/-- What both answer is the same. -/
theorem out_same (c : Csi) (hc : Wok c) (hm : ∀ m ∈ c.methods, M.clen m.code < 4294967296) {bs bs' : List UInt8} {x x' k k' : Nat} (h : M.knownB c = true → Po.WriteRes (c.pool.map pk) (bs, x, k)) (h' : Po.WriteRes (c.pool.map pk) (bs', x', k')) :
    rans [] (M.rfull c bs' (M.re1 c x')) = .returned (.tuple #[.string ⟨(M.wout c bs x).2.toArray⟩, .int .i64 ((M.wout c bs x).1 : Int)]) := by
  unfold rans
  cases hk : M.knownB c with
  | false =>
    have h0 : M.re1 c x' = 4 := by
      unfold M.re1 M.re0
      rw [hk]
      by_cases hx : x' = 0
      · rw [if_pos hx]; rfl
      · rw [if_neg hx]; rfl
    have h1 : (M.rfull c bs' 4).1 = 4 := M.Stay.full c bs' 4 (by decide)
    have h2 : M.wout c bs x = (4, []) := by unfold M.wout; rw [hk]; rfl
    rw [h0, h1, h2]
    rfl
  | true =>
    obtain ⟨rfl, rfl, rfl⟩ : bs' = bs ∧ x' = x ∧ k' = k := by
      have := h'.uniq (h hk)
      simpa using this
    by_cases hx : x' = 0
    · subst hx
      have hpw := Pw.of h'
      have h0 : M.re1 c 0 = 0 := by unfold M.re1 M.re0; rw [hk]; rfl
      obtain ⟨a, b⟩ := M.wall_rel c bs' hpw.n2 (fun f hf => (hc.ok.xf f hf).d) hm (by rw [hpw.z]; decide)
      have h2 : M.wout c bs' 0 = if (M.wall c bs').e = 0 then (0, (M.wall c bs').l) else ((M.wall c bs').e, []) := by unfold M.wout; rw [hk]; rfl
      rw [h0, h2, ← a]
      by_cases hz : (M.wall c bs').e = 0
      · rw [if_pos hz, if_pos hz, b hz, hz, List.nil_append]
      · rw [if_neg hz, if_neg hz]
    · have h0 : M.re1 c x' = x' := by unfold M.re1 M.re0; rw [hk, if_neg hx]; rfl
      have h1 : (M.rfull c bs' x').1 = x' := M.Stay.full c bs' x' hx
      have h2 : M.wout c bs' x' = (x', []) := by unfold M.wout; rw [hk]; simp [hx]
      rw [h0, h1, h2, if_neg hx]
end Go.Proofs.Ytgihfcjddkpkaaa.Cl
namespace Go.Proofs.Ytgihfcjddkpkaaa.Cl
set_option linter.unusedVariables false
set_option linter.unusedSimpArgs false
open Go.RowKit Go.Maps
theorem sum_step {α : Type} (f : α → Nat) (l : List α) (d : α) {k : Nat} (hk : k < l.length) : ((l.take (k + 1)).map f).sum = ((l.take k).map f).sum + f (l.getD k d) := by
  rw [List.take_add_one, List.getElem?_eq_getElem hk]
  simp only [Option.toList_some, List.map_append, List.map_cons, List.map_nil, List.sum_append, List.sum_cons, List.sum_nil, Nat.add_zero, List.getD, List.getElem?_eq_getElem hk, Option.getD_some]
theorem sum_le {α : Type} (f : α → Nat) (l : List α) (k : Nat) : ((l.take k).map f).sum ≤ (l.map f).sum := by
  induction l generalizing k with
  | nil => simp
  | cons x l ih =>
    cases k with
    | zero => simp
    | succ k => simp only [List.take_succ_cons, List.map_cons, List.sum_cons]; have := ih k; omega
def ksz (c : K) : Nat := c.text.length
def msz (m : Mi) : Nat := m.code.bytes.length + m.code.map.length + m.code.handlers.length
/-- How great a class is, as the statement reckons. -/
def Csi.size (c : Csi) : Nat := c.pool.length + c.ifaces.length + c.fields.length + c.methods.length + (c.pool.map ksz).sum + (c.methods.map msz).sum
set_option maxRecDepth 100000 in
set_option maxHeartbeats 4000000 in
theorem size_any (c : Csi) (vp vi vf vm : Value) (L : List Mv) (w : World) (hC : Cin w c vp vi vf vm L) (hs : c.size ≤ 4000000) :
    Calls Try.prog 21 #[clv c vp vi vf vm] w fun r w' => r = .returned (.int .i64 (c.size : Int)) ∧ Below w.heap.size w w' := by
  unfold clv
  have HC := hide hC
  obtain ⟨pa, pc, rfl, _⟩ := hC.p.ex
  obtain ⟨ia, ic, rfl, _⟩ := hC.i
  obtain ⟨fa, fc, rfl, _⟩ := hC.f
  obtain ⟨ma, mc, rfl, _⟩ := hC.m
  have hLl : L.length = c.methods.length := by have := congrArg List.length hC.e; simpa using this
  have hsz : c.size = c.pool.length + c.ifaces.length + c.fields.length + c.methods.length + (c.pool.map ksz).sum + (c.methods.map msz).sum := rfl
  obtain ⟨A0, hA0⟩ : ∃ A, A = c.pool.length + c.ifaces.length + c.fields.length + c.methods.length := ⟨_, rfl⟩
  have HA0 : Hid ((c.pool.length : Int) + (c.ifaces.length : Int) + (c.fields.length : Int) + (L.length : Int) = (A0 : Int)) := by unfold Hid; rw [hA0, hLl]; omega
  have Hsz : Hid (c.size = A0 + (c.pool.map ksz).sum + (c.methods.map msz).sum) := by unfold Hid; rw [hsz, hA0]
  have hb1 : c.pool.length ≤ 4000000 := by omega
  have hb2 : c.ifaces.length ≤ 4000000 := by omega
  have hb3 : c.fields.length ≤ 4000000 := by omega
  have hb4 : L.length ≤ 4000000 := by omega
  have hb5 : A0 + (c.pool.map ksz).sum + (c.methods.map msz).sum ≤ 4000000 := by omega
  obtain ⟨wA, hwA⟩ : ∃ wA, wA = w.alloc (.cells #[.int .u16 (c.minor : Int), .int .u16 (c.major : Int), .int .u16 (c.flags : Int), .int .u16 (c.this : Int), .int .u16 (c.super : Int), .slice pa c.pool.length pc, .slice ia c.ifaces.length ic, .slice fa c.fields.length fc, .slice ma L.length mc] 44) := ⟨_, rfl⟩
  have hbA : Below w.heap.size w wA := by rw [hwA]; exact (Below.refl _ _).alloc (Nat.le_refl _) _
  have b0 : Bk wA w.heap.size #[.int .u16 (c.minor : Int), .int .u16 (c.major : Int), .int .u16 (c.flags : Int), .int .u16 (c.this : Int), .int .u16 (c.super : Int), .slice pa c.pool.length pc, .slice ia c.ifaces.length ic, .slice fa c.fields.length fc, .slice ma L.length mc] 44 := by rw [hwA]; exact Bk.new w _ _
  have c5 := b0.cell 5
  have c6 := b0.cell 6
  have c7 := b0.cell 7
  have c8 := b0.cell 8
  simp at c5 c6 c7 c8
  have HA := hide hwA
  have HB := hide b0
  have HBl := hide hbA
  have HLl := hide hLl
  clear hwA b0 hbA hC hsz hA0 hLl hs
  go_enter Try.func21, Try.ntmps21
  go_upto_region 1 with fail
  rw [← unhide HA]
  clear HA
  go_wp2_with fail
  rw [unhide HA0]
  clear c5 c6 c7 c8
  go_loopw [3, 26] (fun v i wr => ∃ k : Nat, k ≤ c.pool.length ∧ i = .int .i64 k ∧ v = .int .i64 ((A0 + ((c.pool.take k).map ksz).sum : Nat) : Int) ∧ Hid (Below wA.heap.size wA wr)) (fun _ i _ => c.pool.length - (intOf i).toNat)
  case atStart => exact ⟨0, Nat.zero_le _, rfl, by simp, Below.refl _ _⟩
  case round =>
    obtain ⟨k, hk, rfl, rfl, HW⟩ := hrel
    by_cases hlt : k < c.pool.length
    · have ki : (k : Int) < (c.pool.length : Int) := by omega
      have hp := ((unhide HC).p.below (unhide HBl)).below (unhide HW)
      obtain ⟨b, o, cap, ev⟩ := hp.form (by intro e; rw [e] at hlt; simp at hlt)
      cases ev
      obtain ⟨r0, r1, r2, r3, r4⟩ := hp.at hlt
      have hst := sum_step ksz c.pool K.zero hlt
      have hle := sum_le ksz c.pool (k + 1)
      obtain ⟨x, hx⟩ : ∃ x, x = c.pool.getD k K.zero := ⟨_, rfl⟩
      rw [← hx] at r0 r1 r2 r3 r4 hst
      have hxz : ksz x = x.text.length := rfl
      rw [hxz] at hst
      obtain ⟨S, hS⟩ : ∃ S, S = ((c.pool.take k).map ksz).sum := ⟨_, rfl⟩
      rw [← hS] at hst
      rw [← hS]
      have hxl : x.text.length ≤ 4000000 := by omega
      have hSl : S + x.text.length ≤ 4000000 := by omega
      have hAS : A0 + S + x.text.length ≤ 4000000 := by omega
      have Hst := hide hst
      have hbB := (unhide HW).alloc (unhide HW).size (.cells #[.int .u8 (x.tag : Int), .string ⟨x.text.toArray⟩, .int .u64 (x.bits : Int), .int .u16 (x.a : Int), .int .u16 (x.b : Int)] 78)
      have HbB := hide hbB
      clear hst hle hx hxz hp hS hbB
      go_wp2
      go_roundw
      case rel => exact ⟨k + 1, by omega, by go_num, by rw [unhide Hst]; first | rfl | (congr 1; omega) | (simp; omega), unhide HbB⟩
      case measure => simp [intOf]; omega
    · have hkl : k = c.pool.length := by omega
      subst hkl
      have ki : ¬ ((c.pool.length : Nat) : Int) < ((c.pool.length : Nat) : Int) := by omega
      rw [List.take_length]
      obtain ⟨A1, hA1⟩ : ∃ A, A = A0 + (c.pool.map ksz).sum := ⟨_, rfl⟩
      rw [← hA1] at hb5 Hsz
      rw [← hA1]
      have hBr : Below w.heap.size w wr := (unhide HBl).trans ((unhide HW).mono (unhide HBl).size)
      have c8 := ((unhide HB).below (unhide HW)).cell 8
      simp at c8
      have HBr := hide hBr
      generalize hwr : wr = wr1 at *
      clear hwr hA1 hBr
      go_wp2_with fail
      clear c8
      go_loopw [3, 39] (fun v i wr => ∃ k : Nat, k ≤ L.length ∧ i = .int .i64 k ∧ v = .int .i64 ((A1 + ((c.methods.take k).map msz).sum : Nat) : Int) ∧ Hid (Below wr1.heap.size wr1 wr)) (fun _ i _ => L.length - (intOf i).toNat)
      case atStart => exact ⟨0, Nat.zero_le _, rfl, by simp, Below.refl _ _⟩
      case round =>
        clear HW
        obtain ⟨k, hk2, rfl, rfl, HW⟩ := hrel
        have hbr := (unhide HBr).trans ((unhide HW).mono (unhide HBr).size)
        by_cases hlt2 : k < L.length
        · have ki2 : (k : Int) < (L.length : Int) := by omega
          have hkm : k < c.methods.length := by rw [← unhide HLl]; exact hlt2
          have hne : L ≠ [] := by intro e; rw [e] at hlt2; simp at hlt2
          have hCr := (unhide HC).below hbr
          obtain ⟨_, _, x1, G1⟩ := hCr.m
          cases x1
          obtain ⟨g1, o1', rfl, g2⟩ := G1 hne
          obtain ⟨x, hx⟩ : ∃ x, x = L.getD k Mv.zero := ⟨_, rfl⟩
          have hxm : x ∈ L := by rw [hx]; simp [List.getD, List.getElem?_eq_getElem hlt2]
          have hxh := (unhide HC).h x hxm
          have s0 := g2 k hlt2 0 (by omega)
          have s1 := g2 k hlt2 1 (by omega)
          have s2 := g2 k hlt2 2 (by omega)
          have s3 := g2 k hlt2 3 (by omega)
          have s4 := g2 k hlt2 4 (by omega)
          have s5 := g2 k hlt2 5 (by omega)
          have s6 := g2 k hlt2 6 (by omega)
          have s7 := g2 k hlt2 7 (by omega)
          have s8 := g2 k hlt2 8 (by omega)
          rw [← hx] at s0 s1 s2 s3 s4 s5 s6 s7 s8
          simp [Mv.cells] at s0 s1 s2 s3 s4 s5 s6 s7 s8
          have hgx : c.methods.getD k Mv.zero.m = x.m := by
            rw [hx]
            simp only [List.getD, List.getElem?_eq_getElem hlt2, List.getElem?_eq_getElem hkm, Option.getD_some]
            simp only [← (unhide HC).e, List.getElem_map]
          have hst := sum_step msz c.methods Mv.zero.m hkm
          have hle := sum_le msz c.methods (k + 1)
          rw [hgx] at hst
          obtain ⟨ya, yc, ey, _⟩ := id hxh
          rw [ey] at s7
          have hxz : msz x.m = x.m.code.bytes.length + x.m.code.map.length + x.m.code.handlers.length := rfl
          rw [hxz] at hst
          obtain ⟨S, hS⟩ : ∃ S, S = ((c.methods.take k).map msz).sum := ⟨_, rfl⟩
          rw [← hS] at hst
          rw [← hS]
          have x1l : x.m.code.bytes.length ≤ 4000000 := by omega
          have x2l : x.m.code.map.length ≤ 4000000 := by omega
          have x3l : x.m.code.handlers.length ≤ 4000000 := by omega
          have hAS : A1 + S + (x.m.code.bytes.length + x.m.code.map.length + x.m.code.handlers.length) ≤ 4000000 := by omega
          have Hst := hide hst
          have hbB := (unhide HW).alloc (unhide HW).size (.cells #[.int .u16 (x.m.flags : Int), .int .u16 (x.m.name : Int), .int .u16 (x.m.type_ : Int), .bool x.m.has, .int .i64 x.m.code.stack, .int .i64 x.m.code.locals, .string ⟨x.m.code.bytes.toArray⟩, .slice ya x.m.code.handlers.length yc, .string ⟨x.m.code.map.toArray⟩] 101)
          have HbB := hide hbB
          clear hst hle hx hxz hCr hS hbB g2 G1 hne hxm hxh hgx ey hbr
          go_wp2
          go_roundw
          case rel => exact ⟨k + 1, by omega, by go_num, by rw [unhide Hst]; first | rfl | (congr 1; omega) | (simp; omega), unhide HbB⟩
          case measure => simp [intOf]; omega
        · have hkl : k = L.length := by omega
          subst hkl
          have ki2 : ¬ ((L.length : Nat) : Int) < ((L.length : Nat) : Int) := by omega
          have htk : c.methods.take L.length = c.methods := by rw [unhide HLl]; exact List.take_length
          rw [htk]
          clear htk
          go_wp2
          go_ret
          exact ⟨by rw [unhide Hsz]; rfl, hbr⟩
end Go.Proofs.Ytgihfcjddkpkaaa.Cl
