/-
  Package class: what is written: what stands behind the pool.
-/
import Derived.Test.YtgihfcjddkpkaaaYe
namespace Go.Proofs.Ytgihfcjddkpkaaa.Cl
set_option linter.unusedVariables false
open Go.RowKit Go.Maps
def Uc (x : Nat) : List Value := [.int .u16 (x : Int)]
theorem Uc_len (x : Nat) : (Uc x).length = 1 := rfl
def Fc (f : Fd) : List Value := [.int .u16 (f.flags : Int), .int .u16 (f.name : Int), .int .u16 (f.type_ : Int), .int .u16 (f.value : Int)]
theorem Fc_len (x : Fd) : (Fc x).length = 4 := rfl
def Fz : Fd := ⟨0, 0, 0, 0⟩
/-- A method, and where its handlers lie. -/
structure Mv where
  m : Mi
  hv : Value
def Mv.cells (j : Mv) : List Value := [.int .u16 (j.m.flags : Int), .int .u16 (j.m.name : Int), .int .u16 (j.m.type_ : Int), .bool j.m.has, .int .i64 j.m.code.stack, .int .i64 j.m.code.locals, .string ⟨j.m.code.bytes.toArray⟩, j.hv, .string ⟨j.m.code.map.toArray⟩]
theorem Mv.len (j : Mv) : j.cells.length = 9 := rfl
def Mv.zero : Mv := ⟨⟨0, 0, 0, false, ⟨0, 0, [], [], []⟩⟩, .slice none 0 0⟩
/-- A class whose lists can be read. -/
structure Cin (w : World) (c : Csi) (vp vi vf vm : Value) (L : List Mv) : Prop where
  p : KIn w vp c.pool
  i : FIn Uc 1 0 w vi c.ifaces
  f : FIn Fc 4 Fz w vf c.fields
  m : FIn Mv.cells 9 Mv.zero w vm L
  h : ∀ j ∈ L, FIn Hi.cells 4 Hi.zero w j.hv j.m.code.handlers
  e : L.map Mv.m = c.methods
theorem Cin.below {w w' : World} {c : Csi} {vp vi vf vm : Value} {L : List Mv} (h : Cin w c vp vi vf vm L) (hb : Below w.heap.size w w') : Cin w' c vp vi vf vm L :=
  ⟨h.p.below hb, h.i.below Uc_len hb, h.f.below Fc_len hb, h.m.below Mv.len hb, fun j hj => (h.h j hj).below Hi.len hb, h.e⟩
structure Csi.Ok (c : Csi) : Prop where
  x1 : c.minor < 65536
  x2 : c.major < 65536
  x3 : c.flags < 65536
  x4 : c.this < 65536
  x5 : c.super < 65536
  xi : ∀ x ∈ c.ifaces, x < 65536
  xf : ∀ f ∈ c.fields, FdOk f
  xm : ∀ m ∈ c.methods, m.Ok
def Csi.cost (c : Csi) : Nat := 14 + 2 * c.ifaces.length + 16 * c.fields.length + M.mcosts c.methods
set_option maxRecDepth 100000 in
set_option maxHeartbeats 8000000 in
theorem class_any (B W m : Nat) (o : M.Wo) (c : Csi) (vp vi vf vm : Value) (L : List Mv) (w0 w : World) (h : Wm B c.pool w W m o) (hW : W < B) (hP : c.pool.length ≤ 1048576) (hl : o.l.length + c.cost + 1000 ≤ 1000000) (hc : c.Ok)
    (hb : Below w0.heap.size w0 w) (hw0 : w0.heap.size ≤ W) (hC : Cin w0 c vp vi vf vm L) :
    Calls Try.prog 51 #[.pointer (some ⟨W, 0, none⟩), .agg #[.int .u16 (c.minor : Int), .int .u16 (c.major : Int), .int .u16 (c.flags : Int), .int .u16 (c.this : Int), .int .u16 (c.super : Int), vp, vi, vf, vm]] w fun e w' => e = .returned (.tuple #[]) ∧ Wm B c.pool w' W m (M.wcls o c) ∧ Fx B W w w' := by
  obtain ⟨pa, pc, rfl, _⟩ := hC.p.ex
  obtain ⟨ia, ic, rfl, hi⟩ := hC.i
  obtain ⟨fa, fc, rfl, hf⟩ := hC.f
  obtain ⟨ma, mc, rfl, hm⟩ := hC.m
  have hLe := hC.e
  have hLl : L.length = c.methods.length := by have := congrArg List.length hLe; simpa using this
  have hWl := h.c.lt
  have hcost : c.cost = 14 + 2 * c.ifaces.length + 16 * c.fields.length + M.mcosts c.methods := rfl
  obtain ⟨wA, hwA⟩ : ∃ wA, wA = w.alloc (.cells #[.int .u16 (c.minor : Int), .int .u16 (c.major : Int), .int .u16 (c.flags : Int), .int .u16 (c.this : Int), .int .u16 (c.super : Int), .slice pa c.pool.length pc, .slice ia c.ifaces.length ic, .slice fa c.fields.length fc, .slice ma L.length mc] 44) := ⟨_, rfl⟩
  have hA : Wm B c.pool wA W m o := by rw [hwA]; exact h.alloc _
  have fA : Fx B W w wA := by rw [hwA]; exact Fx.alloc B W w _
  have b0 : Bk wA w.heap.size #[.int .u16 (c.minor : Int), .int .u16 (c.major : Int), .int .u16 (c.flags : Int), .int .u16 (c.this : Int), .int .u16 (c.super : Int), .slice pa c.pool.length pc, .slice ia c.ifaces.length ic, .slice fa c.fields.length fc, .slice ma L.length mc] 44 := by rw [hwA]; exact Bk.new w _ _
  obtain ⟨q1, q2, q3, q4, q5, okI, okF, okM⟩ := hc
  have hmc : c.methods.length ≤ M.mcosts c.methods := M.mcosts_len c.methods
  have HN := hide (nums2 hA hW [(c.flags : Int), (c.this : Int), (c.super : Int), (c.ifaces.length : Int)] (by simp; omega) (by intro x hx; simp at hx; rcases hx with rfl | rfl | rfl | rfl <;> exact Okx.nat (by omega)) 4)
  have c2 := b0.cell 2
  have c3 := b0.cell 3
  have c4 := b0.cell 4
  have c6 := b0.cell 6
  simp at c2 c3 c4 c6
  have HA := hide hwA
  have HB := hide b0
  have HF := hide fA
  have HBl := hide hb
  have HCi := hide hC
  have OkI := hide okI
  have OkF := hide okF
  have OkM := hide okM
  have HLe := hide hLe
  have HLl := hide hLl
  have hwc : M.wcls o c = M.wnums (M.wmths c.pool (M.wnums (M.wflds c.pool (M.wnums (M.wifs (M.wnums o 2 [(c.flags : Int), (c.this : Int), (c.super : Int), (c.ifaces.length : Int)]) c.ifaces) 2 [(c.fields.length : Int)]) c.fields) 2 [(c.methods.length : Int)]) c.methods) 2 [0] := rfl
  have Hwc := hide hwc
  clear h hA b0 hwA fA hb hi hf hm hC okI okF okM hLe hwc hLl
  go_enter Try.func51, Try.ntmps51
  go_upto_region 1 with fail
  rw [← unhide HA]
  clear HA
  go_wp2_with fail
  refine (unhide HN).mono ?_
  rintro e w1 ⟨rfl, h1, f1⟩
  have l1 : (M.wnums o 2 [(c.flags : Int), (c.this : Int), (c.super : Int), (c.ifaces.length : Int)]).l.length = o.l.length + 8 := by rw [M.wnums_len]; simp
  generalize M.wnums o 2 [(c.flags : Int), (c.this : Int), (c.super : Int), (c.ifaces.length : Int)] = o1 at *
  clear HN c2 c3 c4 c6
  have B1 := hide (fxb (unhide HB) f1 (by omega) (by decide))
  have F1 := hide ((unhide HF).trans f1)
  have c6 := (unhide B1).cell 6
  simp at c6
  have H1 := hide h1
  clear HB HF f1 h1
  go_wp2_with fail
  clear c6
  go_loopw [28] (fun i wr => ∃ k : Nat, k ≤ c.ifaces.length ∧ i = .int .i64 k ∧ Hid (Wm B c.pool wr W m (M.wifs o1 (c.ifaces.take k))) ∧ Hid (Fx B W w wr) ∧ Hid (Bk wr w.heap.size #[.int .u16 (c.minor : Int), .int .u16 (c.major : Int), .int .u16 (c.flags : Int), .int .u16 (c.this : Int), .int .u16 (c.super : Int), .slice pa c.pool.length pc, .slice ia c.ifaces.length ic, .slice fa c.fields.length fc, .slice ma L.length mc] 44)) (fun i _ => c.ifaces.length - (intOf i).toNat)
  case atStart => exact ⟨0, Nat.zero_le _, rfl, unhide H1, unhide F1, unhide B1⟩
  case round =>
    clear H1 F1 B1
    obtain ⟨k, hk, rfl, HWr, HFr, HBr⟩ := hrel
    by_cases hlt : k < c.ifaces.length
    · have hne : c.ifaces ≠ [] := by intro e; rw [e] at hlt; simp at hlt
      obtain ⟨_, _, x1, G1⟩ := ((unhide HCi).below ((unhide HFr).below (unhide HBl) (Nat.le_refl _) hw0 hW)).i
      cases x1
      obtain ⟨g1, o1', rfl, g2⟩ := G1 hne
      obtain ⟨x, hx⟩ : ∃ x, x = c.ifaces.getD k 0 := ⟨_, rfl⟩
      have hxm : x ∈ c.ifaces := by rw [hx]; simp [List.getD, List.getElem?_eq_getElem hlt]
      have hxo := unhide OkI x hxm
      have s0 := g2 k hlt 0 (by omega)
      rw [← hx] at s0
      simp [Uc] at s0
      have ki : (k : Int) < (c.ifaces.length : Int) := by omega
      have hstep : M.wifs o1 (c.ifaces.take (k + 1)) = M.wnums (M.wifs o1 (c.ifaces.take k)) 2 [(x : Int)] := by unfold M.wifs; rw [hx]; exact foldl_take _ _ _ _ hlt
      have Hst := hide hstep
      have hlk := M.wifs_len o1 (c.ifaces.take k)
      rw [List.length_take] at hlk
      generalize M.wifs o1 (c.ifaces.take k) = ok at *
      have HN := hide (nums2 (unhide HWr) hW [(x : Int)] (by simp; omega) (by intro y hy; simp at hy; subst hy; exact Okx.nat (by omega)) 1)
      have hszr := (unhide HFr).size
      have HFB := HFr
      have HBB := HBr
      clear hstep HWr HFr HBr hxm g2 G1 hne hx hlk
      go_wp2_with fail
      refine (unhide HN).mono ?_
      rintro e w5 ⟨rfl, h5, f5⟩
      rw [← unhide Hst] at h5
      have H5 := hide h5
      have F5 := hide ((unhide HFB).trans f5)
      have B5 := hide (fxb (unhide HBB) f5 (by omega) (by decide))
      clear h5 f5 HN HFB HBB s0
      go_wp2
      go_roundw
      case rel => exact ⟨k + 1, by omega, by go_num, unhide H5, unhide F5, unhide B5⟩
      case measure => simp [intOf]; omega
    · have hkl : k = c.ifaces.length := by omega
      subst hkl
      rw [List.take_length] at HWr
      have ki : ¬ ((c.ifaces.length : Nat) : Int) < ((c.ifaces.length : Nat) : Int) := by omega
      have l2 := M.wifs_len o1 c.ifaces
      generalize M.wifs o1 c.ifaces = o2 at *
      have c7 := (unhide HBr).cell 7
      simp at c7
      have hszr := (unhide HFr).size
      have HN := hide (nums2 (unhide HWr) hW [(c.fields.length : Int)] (by simp; omega) (by intro y hy; simp at hy; subst hy; exact Okx.nat (by omega)) 1)
      clear HWr
      go_wp2_with fail
      refine (unhide HN).mono ?_
      rintro e w2 ⟨rfl, h2, f2⟩
      have l3 : (M.wnums o2 2 [(c.fields.length : Int)]).l.length = o2.l.length + 2 := by rw [M.wnums_len]; simp
      generalize M.wnums o2 2 [(c.fields.length : Int)] = o3 at *
      have B2 := hide (fxb (unhide HBr) f2 (by omega) (by decide))
      have F2 := hide ((unhide HFr).trans f2)
      have H2 := hide h2
      clear h2 f2 HN HBr HFr c7
      have c7 := (unhide B2).cell 7
      simp at c7
      generalize hwr : wr = wr1 at *
      clear hwr
      go_wp2_with fail
      clear c7
      go_loopw [47] (fun i wr => ∃ k : Nat, k ≤ c.fields.length ∧ i = .int .i64 k ∧ Hid (Wm B c.pool wr W m (M.wflds c.pool o3 (c.fields.take k))) ∧ Hid (Fx B W w wr) ∧ Hid (Bk wr w.heap.size #[.int .u16 (c.minor : Int), .int .u16 (c.major : Int), .int .u16 (c.flags : Int), .int .u16 (c.this : Int), .int .u16 (c.super : Int), .slice pa c.pool.length pc, .slice ia c.ifaces.length ic, .slice fa c.fields.length fc, .slice ma L.length mc] 44)) (fun i _ => c.fields.length - (intOf i).toNat)
      case atStart => exact ⟨0, Nat.zero_le _, rfl, unhide H2, unhide F2, unhide B2⟩
      case round =>
        clear H2 F2 B2
        obtain ⟨k, hk2, rfl, HWr, HFr, HBr⟩ := hrel
        by_cases hlt2 : k < c.fields.length
        · have hne : c.fields ≠ [] := by intro e; rw [e] at hlt2; simp at hlt2
          obtain ⟨_, _, x1, G1⟩ := ((unhide HCi).below ((unhide HFr).below (unhide HBl) (Nat.le_refl _) hw0 hW)).f
          cases x1
          obtain ⟨g1, o1', rfl, g2⟩ := G1 hne
          obtain ⟨x, hx⟩ : ∃ x, x = c.fields.getD k Fz := ⟨_, rfl⟩
          have hxm : x ∈ c.fields := by rw [hx]; simp [List.getD, List.getElem?_eq_getElem hlt2]
          have hxo := unhide OkF x hxm
          have s0 := g2 k hlt2 0 (by omega)
          have s1 := g2 k hlt2 1 (by omega)
          have s2 := g2 k hlt2 2 (by omega)
          have s3 := g2 k hlt2 3 (by omega)
          rw [← hx] at s0 s1 s2 s3
          simp [Fc] at s0 s1 s2 s3
          have ki2 : (k : Int) < (c.fields.length : Int) := by omega
          have hstep : M.wflds c.pool o3 (c.fields.take (k + 1)) = M.wfld c.pool (M.wflds c.pool o3 (c.fields.take k)) x := by unfold M.wflds; rw [hx]; exact foldl_take _ _ _ _ hlt2
          have Hst := hide hstep
          have hlk := M.wflds_len c.pool o3 (c.fields.take k)
          rw [List.length_take] at hlk
          generalize M.wflds c.pool o3 (c.fields.take k) = ok at *
          obtain ⟨wB, hwB⟩ : ∃ wB, wB = wr.alloc (.cells #[.int .u16 (x.flags : Int), .int .u16 (x.name : Int), .int .u16 (x.type_ : Int), .int .u16 (x.value : Int)] 95) := ⟨_, rfl⟩
          have hB1 : Wm B c.pool wB W m ok := by rw [hwB]; exact (unhide HWr).alloc _
          have fB : Fx B W wr wB := by rw [hwB]; exact Fx.alloc B W wr _
          have bB : Bk wB wr.heap.size #[.int .u16 (x.flags : Int), .int .u16 (x.name : Int), .int .u16 (x.type_ : Int), .int .u16 (x.value : Int)] 95 := by rw [hwB]; exact Bk.new wr _ _
          have HN := hide (field_any B W m c.pool ok x wB hB1 hW hP (by omega) hxo)
          have hszr := (unhide HFr).size
          have p0 := bB.cell 0
          have p1 := bB.cell 1
          have p2 := bB.cell 2
          have p3 := bB.cell 3
          simp at p0 p1 p2 p3
          have HwB := hide hwB
          have HFB := hide ((unhide HFr).trans fB)
          have HBB := hide (fxb (unhide HBr) fB (by omega) (by decide))
          clear hstep hwB hB1 fB bB HWr HFr HBr hxm hxo g2 G1 hne hx hlk
          go_upto_region 11 with fail
          rw [← unhide HwB]
          clear HwB s0 s1 s2 s3
          go_wp2_with fail
          refine (unhide HN).mono ?_
          rintro e w5 ⟨rfl, h5, f5⟩
          rw [← unhide Hst] at h5
          have H5 := hide h5
          have F5 := hide ((unhide HFB).trans f5)
          have B5 := hide (fxb (unhide HBB) f5 (by omega) (by decide))
          clear h5 f5 HN HFB HBB p0 p1 p2 p3
          go_wp2
          go_roundw
          case rel => exact ⟨k + 1, by omega, by go_num, unhide H5, unhide F5, unhide B5⟩
          case measure => simp [intOf]; omega
        · have hkl : k = c.fields.length := by omega
          subst hkl
          rw [List.take_length] at HWr
          have ki2 : ¬ ((c.fields.length : Nat) : Int) < ((c.fields.length : Nat) : Int) := by omega
          have l4 := M.wflds_len c.pool o3 c.fields
          generalize M.wflds c.pool o3 c.fields = o4 at *
          have c8 := (unhide HBr).cell 8
          simp at c8
          have hszr2 := (unhide HFr).size
          have HN := hide (nums2 (unhide HWr) hW [(c.methods.length : Int)] (by simp; omega) (by intro y hy; simp at hy; subst hy; exact Okx.nat (by omega)) 1)
          rw [← unhide HLl] at HN
          clear HWr
          go_wp2_with fail
          refine (unhide HN).mono ?_
          rintro e w3 ⟨rfl, h3, f3⟩
          rw [unhide HLl] at h3
          have l5 : (M.wnums o4 2 [(c.methods.length : Int)]).l.length = o4.l.length + 2 := by rw [M.wnums_len]; simp
          generalize M.wnums o4 2 [(c.methods.length : Int)] = o5 at *
          have B3 := hide (fxb (unhide HBr) f3 (by omega) (by decide))
          have F3 := hide ((unhide HFr).trans f3)
          have H3 := hide h3
          clear h3 f3 HN HBr HFr c8
          have c8 := (unhide B3).cell 8
          simp at c8
          generalize hwr : wr = wr2 at *
          clear hwr
          go_wp2_with fail
          clear c8
          go_loopw [64] (fun i wr => ∃ k : Nat, k ≤ L.length ∧ i = .int .i64 k ∧ Hid (Wm B c.pool wr W m (M.wmths c.pool o5 (c.methods.take k))) ∧ Hid (Fx B W w wr) ∧ Hid (Bk wr w.heap.size #[.int .u16 (c.minor : Int), .int .u16 (c.major : Int), .int .u16 (c.flags : Int), .int .u16 (c.this : Int), .int .u16 (c.super : Int), .slice pa c.pool.length pc, .slice ia c.ifaces.length ic, .slice fa c.fields.length fc, .slice ma L.length mc] 44)) (fun i _ => L.length - (intOf i).toNat)
          case atStart => exact ⟨0, Nat.zero_le _, rfl, unhide H3, unhide F3, unhide B3⟩
          case round =>
            clear H3 F3 B3
            obtain ⟨k, hk3, rfl, HWr, HFr, HBr⟩ := hrel
            by_cases hlt3 : k < L.length
            · have hne : L ≠ [] := by intro e; rw [e] at hlt3; simp at hlt3
              have hCr := (unhide HCi).below ((unhide HFr).below (unhide HBl) (Nat.le_refl _) hw0 hW)
              obtain ⟨_, _, x1, G1⟩ := hCr.m
              cases x1
              obtain ⟨g1, o1', rfl, g2⟩ := G1 hne
              obtain ⟨x, hx⟩ : ∃ x, x = L.getD k Mv.zero := ⟨_, rfl⟩
              have hxm : x ∈ L := by rw [hx]; simp [List.getD, List.getElem?_eq_getElem hlt3]
              have hxc : x.m ∈ c.methods := by rw [← unhide HLe]; exact List.mem_map_of_mem hxm
              have hxo := unhide OkM x.m hxc
              have hxh := (unhide HCi).h x hxm
              have s0 := g2 k hlt3 0 (by omega)
              have s1 := g2 k hlt3 1 (by omega)
              have s2 := g2 k hlt3 2 (by omega)
              have s3 := g2 k hlt3 3 (by omega)
              have s4 := g2 k hlt3 4 (by omega)
              have s5 := g2 k hlt3 5 (by omega)
              have s6 := g2 k hlt3 6 (by omega)
              have s7 := g2 k hlt3 7 (by omega)
              have s8 := g2 k hlt3 8 (by omega)
              rw [← hx] at s0 s1 s2 s3 s4 s5 s6 s7 s8
              simp [Mv.cells] at s0 s1 s2 s3 s4 s5 s6 s7 s8
              have ki3 : (k : Int) < (L.length : Int) := by omega
              have hkm : k < c.methods.length := by rw [← unhide HLl]; exact hlt3
              have hgx : c.methods.getD k Mv.zero.m = x.m := by
                rw [hx]
                simp only [List.getD, List.getElem?_eq_getElem hlt3, List.getElem?_eq_getElem hkm, Option.getD_some]
                simp only [← unhide HLe, List.getElem_map]
              have hstep : M.wmths c.pool o5 (c.methods.take (k + 1)) = M.wmth c.pool (M.wmths c.pool o5 (c.methods.take k)) x.m := by unfold M.wmths; rw [← hgx]; exact foldl_take _ _ _ _ hkm
              have Hst := hide hstep
              have hlk := M.wmths_len c.pool o5 (c.methods.take k)
              have hlc : M.mcosts (c.methods.take k) + M.mcost x.m ≤ M.mcosts c.methods := by rw [← hgx]; exact M.mcosts_step c.methods _ hkm
              generalize M.wmths c.pool o5 (c.methods.take k) = ok at *
              obtain ⟨ya, yc, ey, _⟩ := id hxh
              obtain ⟨wB, hwB⟩ : ∃ wB, wB = wr.alloc (.cells #[.int .u16 (x.m.flags : Int), .int .u16 (x.m.name : Int), .int .u16 (x.m.type_ : Int), .bool x.m.has, .int .i64 x.m.code.stack, .int .i64 x.m.code.locals, .string ⟨x.m.code.bytes.toArray⟩, x.hv, .string ⟨x.m.code.map.toArray⟩] 101) := ⟨_, rfl⟩
              have hB1 : Wm B c.pool wB W m ok := by rw [hwB]; exact (unhide HWr).alloc _
              have fB : Fx B W wr wB := by rw [hwB]; exact Fx.alloc B W wr _
              have bB : Bk wB wr.heap.size #[.int .u16 (x.m.flags : Int), .int .u16 (x.m.name : Int), .int .u16 (x.m.type_ : Int), .bool x.m.has, .int .i64 x.m.code.stack, .int .i64 x.m.code.locals, .string ⟨x.m.code.bytes.toArray⟩, x.hv, .string ⟨x.m.code.map.toArray⟩] 101 := by rw [hwB]; exact Bk.new wr _ _
              have HN := hide (method_any B W m c.pool ok x.m x.hv w0 wB hB1 hW hP (by omega) hxo (fB.below ((unhide HFr).below (unhide HBl) (Nat.le_refl _) hw0 hW) (Nat.le_refl _) hw0 hW) hw0 hxh)
              have hszr := (unhide HFr).size
              have p0 := bB.cell 0
              have p1 := bB.cell 1
              have p2 := bB.cell 2
              have p3 := bB.cell 3
              have p4 := bB.cell 4
              have p5 := bB.cell 5
              have p6 := bB.cell 6
              have p7 := bB.cell 7
              have p8 := bB.cell 8
              simp at p0 p1 p2 p3 p4 p5 p6 p7 p8
              rw [ey] at HN s7 p7 hwB
              have HwB := hide hwB
              have HFB := hide ((unhide HFr).trans fB)
              have HBB := hide (fxb (unhide HBr) fB (by omega) (by decide))
              clear hstep hwB hB1 fB bB HWr HFr HBr hxm hxo g2 G1 hne hx hlk hCr hxc hxh hgx hlc ey
              go_upto_region 17 with fail
              rw [← unhide HwB]
              clear HwB s0 s1 s2 s3 s4 s5 s6 s7 s8
              go_wp2_with fail
              refine (unhide HN).mono ?_
              rintro e w5 ⟨rfl, h5, f5⟩
              rw [← unhide Hst] at h5
              have H5 := hide h5
              have F5 := hide ((unhide HFB).trans f5)
              have B5 := hide (fxb (unhide HBB) f5 (by omega) (by decide))
              clear h5 f5 HN HFB HBB p0 p1 p2 p3 p4 p5 p6 p7 p8
              go_wp2
              go_roundw
              case rel => exact ⟨k + 1, by omega, by go_num, unhide H5, unhide F5, unhide B5⟩
              case measure => simp [intOf]; omega
            · have hkl : k = L.length := by omega
              subst hkl
              have htk : c.methods.take L.length = c.methods := by rw [unhide HLl]; exact List.take_length
              rw [htk] at HWr
              clear htk
              have ki3 : ¬ ((L.length : Nat) : Int) < ((L.length : Nat) : Int) := by omega
              have l6 := M.wmths_len c.pool o5 c.methods
              generalize M.wmths c.pool o5 c.methods = o6 at *
              have HN := hide (nums2 (unhide HWr) hW [(0 : Int)] (by simp; omega) (by intro y hy; simp at hy; subst hy; exact ⟨by decide, by decide⟩) 1)
              clear HWr
              go_wp2_with fail
              refine (unhide HN).mono ?_
              rintro e w4 ⟨rfl, h4, f4⟩
              have H4 := hide (And.intro h4 ((unhide HFr).trans f4))
              clear h4 f4 HN HFr HBr
              go_wp2
              go_end0
              exact ⟨rfl, by rw [unhide Hwc]; exact (unhide H4).1, (unhide H4).2⟩
end Go.Proofs.Ytgihfcjddkpkaaa.Cl
