/-
  sameClass, of classes of any numbers.
-/
import Derived.Test.YtgihfcjddkpkaaaMgSda
namespace Go.Proofs.Ytgihfcjddkpkaaa.Cl
set_option linter.unusedVariables false
open Go.RowKit
structure ClsB (c : Csi) : Prop where
  p : c.pool.length ≤ 1048576
  i : c.ifaces.length ≤ 1048576
  f : c.fields.length ≤ 1048576
  m : c.methods.length ≤ 1048576
  h : ∀ x ∈ c.methods, x.code.handlers.length ≤ 1048576
/-- A class as a value. -/
def clvv (c : Csi) (vp vi vf vm : Value) : Value := .agg #[.int .u16 (c.minor : Int), .int .u16 (c.major : Int), .int .u16 (c.flags : Int), .int .u16 (c.this : Int), .int .u16 (c.super : Int), vp, vi, vf, vm]
set_option maxRecDepth 1000000 in
set_option maxHeartbeats 4000000 in
theorem sameClass_eq (c : Csi) (vp vi vf vm vp' vi' vf' vm' : Value) (L L' : List Mv) (w : World) (h1 : Cin w c vp vi vf vm L) (h2 : Cin w c vp' vi' vf' vm' L') (hb : ClsB c) :
    Calls Try.prog 18 #[clvv c vp vi vf vm, clvv c vp' vi' vf' vm'] w fun x w' => x = .returned (.bool true) ∧ Below w.heap.size w w' := by
  unfold clvv
  obtain ⟨pa, pc, rfl, _⟩ := h1.p.ex
  obtain ⟨ia, ic, rfl, _⟩ := h1.i
  obtain ⟨fa, fc, rfl, _⟩ := h1.f
  obtain ⟨ma, mc, rfl, _⟩ := h1.m
  obtain ⟨pa', pc', rfl, _⟩ := h2.p.ex
  obtain ⟨ia', ic', rfl, _⟩ := h2.i
  obtain ⟨fa', fc', rfl, _⟩ := h2.f
  obtain ⟨ma', mc', rfl, _⟩ := h2.m
  have hLL : L'.length = L.length := by have := congrArg List.length (h2.e.trans h1.e.symm); simpa using this
  have hLm : L.length ≤ 1048576 := by have := congrArg List.length h1.e; have := hb.m; simp at *; omega
  obtain ⟨wA, hwA⟩ : ∃ wA, wA = (w.alloc (.cells #[.int .u16 (c.minor : Int), .int .u16 (c.major : Int), .int .u16 (c.flags : Int), .int .u16 (c.this : Int), .int .u16 (c.super : Int), .slice pa c.pool.length pc, .slice ia c.ifaces.length ic, .slice fa c.fields.length fc, .slice ma L.length mc] 44)).alloc (.cells #[.int .u16 (c.minor : Int), .int .u16 (c.major : Int), .int .u16 (c.flags : Int), .int .u16 (c.this : Int), .int .u16 (c.super : Int), .slice pa' c.pool.length pc', .slice ia' c.ifaces.length ic', .slice fa' c.fields.length fc', .slice ma' L'.length mc'] 44) := ⟨_, rfl⟩
  have b1 : Below w.heap.size w (w.alloc (.cells #[.int .u16 (c.minor : Int), .int .u16 (c.major : Int), .int .u16 (c.flags : Int), .int .u16 (c.this : Int), .int .u16 (c.super : Int), .slice pa c.pool.length pc, .slice ia c.ifaces.length ic, .slice fa c.fields.length fc, .slice ma L.length mc] 44)) := (Below.refl _ _).alloc (Nat.le_refl _) _
  have b2 : Below w.heap.size w wA := by rw [hwA]; exact b1.alloc b1.size _
  have HA1 : Hid (Bk wA w.heap.size #[.int .u16 (c.minor : Int), .int .u16 (c.major : Int), .int .u16 (c.flags : Int), .int .u16 (c.this : Int), .int .u16 (c.super : Int), .slice pa c.pool.length pc, .slice ia c.ifaces.length ic, .slice fa c.fields.length fc, .slice ma L.length mc] 44) := by rw [hwA]; exact (Bk.new _ _ _).alloc _
  have hA2 : Bk wA (w.heap.size + 1) #[.int .u16 (c.minor : Int), .int .u16 (c.major : Int), .int .u16 (c.flags : Int), .int .u16 (c.this : Int), .int .u16 (c.super : Int), .slice pa' c.pool.length pc', .slice ia' c.ifaces.length ic', .slice fa' c.fields.length fc', .slice ma' L'.length mc'] 44 := by
    rw [hwA]; have := Bk.new (w.alloc (.cells #[.int .u16 (c.minor : Int), .int .u16 (c.major : Int), .int .u16 (c.flags : Int), .int .u16 (c.this : Int), .int .u16 (c.super : Int), .slice pa c.pool.length pc, .slice ia c.ifaces.length ic, .slice fa c.fields.length fc, .slice ma L.length mc] 44)) #[.int .u16 (c.minor : Int), .int .u16 (c.major : Int), .int .u16 (c.flags : Int), .int .u16 (c.this : Int), .int .u16 (c.super : Int), .slice pa' c.pool.length pc', .slice ia' c.ifaces.length ic', .slice fa' c.fields.length fc', .slice ma' L'.length mc'] 44; simpa using this
  have HA2 := hide hA2
  clear hA2
  have H1 := hide (h1.below b2)
  have H2 := hide (h2.below b2)
  have HB := hide b2
  have HwA := hide hwA
  have Hbd := hide hb
  have HLL := hide hLL
  have p0 := (unhide HA1).cell 0
  have q0 := (unhide HA2).cell 0
  have p1 := (unhide HA1).cell 1
  have q1 := (unhide HA2).cell 1
  have p2 := (unhide HA1).cell 2
  have q2 := (unhide HA2).cell 2
  have p3 := (unhide HA1).cell 3
  have q3 := (unhide HA2).cell 3
  have p4 := (unhide HA1).cell 4
  have q4 := (unhide HA2).cell 4
  have p5 := (unhide HA1).cell 5
  have q5 := (unhide HA2).cell 5
  have p6 := (unhide HA1).cell 6
  have q6 := (unhide HA2).cell 6
  have p7 := (unhide HA1).cell 7
  have q7 := (unhide HA2).cell 7
  have p8 := (unhide HA1).cell 8
  have q8 := (unhide HA2).cell 8
  simp at p0 q0 p1 q1 p2 q2 p3 q3 p4 q4 p5 q5 p6 q6 p7 q7 p8 q8
  rw [hLL] at q8
  have r0 : (((c.minor : Int) != (c.minor : Int)) : Bool) = false := by simp
  have r1 : (((c.major : Int) != (c.major : Int)) : Bool) = false := by simp
  have r2 : (((c.flags : Int) != (c.flags : Int)) : Bool) = false := by simp
  have r3 : (((c.this : Int) != (c.this : Int)) : Bool) = false := by simp
  have r4 : (((c.super : Int) != (c.super : Int)) : Bool) = false := by simp
  have e0 : ((((c.pool.length : Nat) : Int) != ((c.pool.length : Nat) : Int)) : Bool) = false := by simp
  have e1 : ((((c.ifaces.length : Nat) : Int) != ((c.ifaces.length : Nat) : Int)) : Bool) = false := by simp
  have e2 : ((((c.fields.length : Nat) : Int) != ((c.fields.length : Nat) : Int)) : Bool) = false := by simp
  have e3 : ((((L.length : Nat) : Int) != ((L.length : Nat) : Int)) : Bool) = false := by simp
  have HSP := hide (samePoolG_eq _ _ c.pool wA (unhide H1).p (unhide H2).p (by have := hb.p; omega))
  clear h1 h2 hb b1 b2 hwA hLL
  go_enter Try.func18, Try.ntmps18
  go_upto_region 1 with fail
  rw [← unhide HwA]
  clear HwA
  go_wp2_with fail
  refine (unhide HSP).mono ?_
  rintro e wP ⟨rfl, np, hwP⟩
  have HBP : Hid (Below wA.heap.size wA wP) := by rw [hwP]; exact ⟨rfl, rfl, rfl, Nat.le_refl _, fun _ _ => rfl⟩
  clear HSP hwP p0 q0 p1 q1 p2 q2 p3 q3 p4 q4 p5 q5 p6 q6 p7 q7 p8 q8 r0 r1 r2 r3 r4 e0 e1 e2 e3
  have p6 := ((unhide HA1).kept (grown_of_below (unhide HBP) none) (by simp)).cell 6
  simp at p6
  go_wp2_with fail
  go_loopw [88] (fun i wr => ∃ k : Nat, k ≤ c.ifaces.length ∧ i = .int .i64 k ∧ Hid (Below wA.heap.size wA wr)) (fun i _ => c.ifaces.length - (intOf i).toNat)
  case atStart => exact ⟨0, Nat.zero_le _, rfl, HBP⟩
  case round =>
    clear p6
    obtain ⟨k, hk, rfl, HW⟩ := hrel
    have A1 := (unhide HA1).kept (grown_of_below (unhide HW) none) (by simp)
    have A2 := (unhide HA2).kept (grown_of_below (unhide HW) none) (by simp)
    by_cases hlt : k < c.ifaces.length
    · have hne : c.ifaces ≠ [] := by intro e; rw [e] at hlt; simp at hlt
      obtain ⟨_, _, x1, G1⟩ := ((unhide H1).below (unhide HW)).i
      obtain ⟨_, _, x2, G2⟩ := ((unhide H2).below (unhide HW)).i
      cases x1
      cases x2
      obtain ⟨b1, o1, rfl, g1⟩ := G1 hne
      obtain ⟨b2, o2, rfl, g2⟩ := G2 hne
      obtain ⟨x, hx⟩ : ∃ x, x = c.ifaces.getD k (0 : Nat) := ⟨_, rfl⟩
      have s0 := g1 k hlt 0 (by omega)
      have t0 := g2 k hlt 0 (by omega)
      rw [← hx] at s0 t0
      simp [Uc] at s0 t0
      have p6 := A1.cell 6
      have q6 := A2.cell 6
      simp at p6 q6
      clear g1 g2 hx hne G1 G2 A1 A2
      have ki : (k : Int) < (c.ifaces.length : Int) := by omega
      have kb : c.ifaces.length ≤ 1048576 := (unhide Hbd).i
      go_wp2_with fail
      go_quiet (fail)
      go_wp2
      go_roundw
      case rel => exact ⟨k + 1, by omega, by go_num, ⟨(unhide HW).os, (unhide HW).tape, (unhide HW).output, (unhide HW).size, (unhide HW).block⟩⟩
      case measure => simp [intOf]; omega
    · have ki : (c.ifaces.length : Int) ≤ (k : Int) := by omega
      have p7 := A1.cell 7
      simp at p7
      clear A1 A2
      go_wp2_with fail
      go_loopw [106] (fun i wr => ∃ k : Nat, k ≤ c.fields.length ∧ i = .int .i64 k ∧ Hid (Below wA.heap.size wA wr)) (fun i _ => c.fields.length - (intOf i).toNat)
      case atStart => exact ⟨0, Nat.zero_le _, rfl, HW⟩
      case round =>
        clear p7 HW ki hk
        obtain ⟨k, hk, rfl, HW⟩ := hrel
        have A1 := (unhide HA1).kept (grown_of_below (unhide HW) none) (by simp)
        have A2 := (unhide HA2).kept (grown_of_below (unhide HW) none) (by simp)
        by_cases hlt : k < c.fields.length
        · have hne : c.fields ≠ [] := by intro e; rw [e] at hlt; simp at hlt
          obtain ⟨_, _, x1, G1⟩ := ((unhide H1).below (unhide HW)).f
          obtain ⟨_, _, x2, G2⟩ := ((unhide H2).below (unhide HW)).f
          cases x1
          cases x2
          obtain ⟨b1, o1, rfl, g1⟩ := G1 hne
          obtain ⟨b2, o2, rfl, g2⟩ := G2 hne
          obtain ⟨x, hx⟩ : ∃ x, x = c.fields.getD k Fz := ⟨_, rfl⟩
          have s0 := g1 k hlt 0 (by omega)
          have t0 := g2 k hlt 0 (by omega)
          have s1 := g1 k hlt 1 (by omega)
          have t1 := g2 k hlt 1 (by omega)
          have s2 := g1 k hlt 2 (by omega)
          have t2 := g2 k hlt 2 (by omega)
          have s3 := g1 k hlt 3 (by omega)
          have t3 := g2 k hlt 3 (by omega)
          rw [← hx] at s0 t0 s1 t1 s2 t2 s3 t3
          simp [Fc] at s0 t0 s1 t1 s2 t2 s3 t3
          have p7 := A1.cell 7
          have q7 := A2.cell 7
          simp at p7 q7
          clear g1 g2 hx hne G1 G2 A1 A2
          have ki : (k : Int) < (c.fields.length : Int) := by omega
          have kb : c.fields.length ≤ 1048576 := (unhide Hbd).f
          go_wp2_with fail
          go_quiet (fail)
          go_wp2
          go_roundw
          case rel => exact ⟨k + 1, by omega, by go_num, ⟨(unhide HW).os, (unhide HW).tape, (unhide HW).output, (unhide HW).size, (unhide HW).block⟩⟩
          case measure => simp [intOf]; omega
        · have ki : (c.fields.length : Int) ≤ (k : Int) := by omega
          have p8 := A1.cell 8
          simp at p8
          clear A1 A2
          go_wp2_with fail
          go_loopw [124] (fun i wr => ∃ k : Nat, k ≤ L.length ∧ i = .int .i64 k ∧ Hid (Below wA.heap.size wA wr)) (fun i _ => L.length - (intOf i).toNat)
          case atStart => exact ⟨0, Nat.zero_le _, rfl, HW⟩
          case round =>
            clear p8 HW ki hk
            obtain ⟨k, hk, rfl, HW⟩ := hrel
            have A1 := (unhide HA1).kept (grown_of_below (unhide HW) none) (by simp)
            have A2 := (unhide HA2).kept (grown_of_below (unhide HW) none) (by simp)
            have hz1 := A2.lt
            by_cases hlt : k < L.length
            · have hlt2 : k < L'.length := by rw [unhide HLL]; exact hlt
              have hne : L ≠ [] := by intro e; rw [e] at hlt; simp at hlt
              have hne2 : L' ≠ [] := by intro e; rw [e] at hlt2; simp at hlt2
              have K1 := (unhide H1).below (unhide HW)
              have K2 := (unhide H2).below (unhide HW)
              obtain ⟨_, _, x1, G1⟩ := K1.m
              obtain ⟨_, _, x2, G2⟩ := K2.m
              cases x1
              cases x2
              obtain ⟨b1, o1, rfl, g1⟩ := G1 hne
              obtain ⟨b2, o2, rfl, g2⟩ := G2 hne2
              have hx1 : L.getD k Mv.zero = L[k] := by simp [List.getD, hlt]
              have hx2 : L'.getD k Mv.zero = L'[k] := by simp [List.getD, hlt2]
              have hmm : (L'[k]).m = (L[k]).m := by
                have := congrArg (fun l => l[k]?) ((unhide H2).e.trans (unhide H1).e.symm)
                simpa [hlt, hlt2] using this
              have J1 := K1.h _ (List.getElem_mem hlt)
              have J2 := K2.h _ (List.getElem_mem hlt2)
              have hbh : (L[k]).m.code.handlers.length ≤ 1048576 := (unhide Hbd).h _ (by rw [← (unhide H1).e]; exact List.mem_map_of_mem (List.getElem_mem hlt))
              rw [hmm] at J2
              have s0 := g1 k hlt 0 (by omega)
              have t0 := g2 k hlt2 0 (by omega)
              have s1 := g1 k hlt 1 (by omega)
              have t1 := g2 k hlt2 1 (by omega)
              have s2 := g1 k hlt 2 (by omega)
              have t2 := g2 k hlt2 2 (by omega)
              have s3 := g1 k hlt 3 (by omega)
              have t3 := g2 k hlt2 3 (by omega)
              have s4 := g1 k hlt 4 (by omega)
              have t4 := g2 k hlt2 4 (by omega)
              have s5 := g1 k hlt 5 (by omega)
              have t5 := g2 k hlt2 5 (by omega)
              have s6 := g1 k hlt 6 (by omega)
              have t6 := g2 k hlt2 6 (by omega)
              have s7 := g1 k hlt 7 (by omega)
              have t7 := g2 k hlt2 7 (by omega)
              have s8 := g1 k hlt 8 (by omega)
              have t8 := g2 k hlt2 8 (by omega)
              rw [hx1] at s0 s1 s2 s3 s4 s5 s6 s7 s8
              rw [hx2] at t0 t1 t2 t3 t4 t5 t6 t7 t8
              simp [Mv.cells] at s0 s1 s2 s3 s4 s5 s6 s7 s8 t0 t1 t2 t3 t4 t5 t6 t7 t8
              rw [hmm] at t0 t1 t2 t3 t4 t5 t6 t8
              generalize (L[k]).m = x at *
              generalize (L[k]).hv = v at *
              generalize (L'[k]).hv = v' at *
              have lt1 := cell_lt s0
              have lt2 := cell_lt t0
              simp only at lt1 lt2
              have p8 := A1.cell 8
              have q8 := A2.cell 8
              simp at p8 q8
              rw [unhide HLL] at q8
              clear g1 g2 hne hne2 G1 G2 A1 hx1 hx2 hmm K1 K2
              have nb1 : ¬ wr.heap.size = b1 := by omega
              have nb2 : ¬ wr.heap.size = b2 := by omega
              have nb3 : ¬ b1 = wr.heap.size := by omega
              have nb4 : ¬ b2 = wr.heap.size := by omega
              have nb5 : ¬ w.heap.size + 1 = wr.heap.size := by omega
              have nb6 : ¬ wr.heap.size = w.heap.size + 1 := by omega
              have hbX : Below wr.heap.size wr ((wr.alloc (.cells #[.int .u16 (x.flags : Int), .int .u16 (x.name : Int), .int .u16 (x.type_ : Int), .bool x.has, .int .i64 (x.code.stack : Int), .int .i64 (x.code.locals : Int), .string ⟨x.code.bytes.toArray⟩, v, .string ⟨x.code.map.toArray⟩] 101)).alloc (.cells #[.int .u16 (x.flags : Int), .int .u16 (x.name : Int), .int .u16 (x.type_ : Int), .bool x.has, .int .i64 (x.code.stack : Int), .int .i64 (x.code.locals : Int), .string ⟨x.code.bytes.toArray⟩, v', .string ⟨x.code.map.toArray⟩] 101)) := by
                have h1 : Below wr.heap.size wr (wr.alloc (.cells #[.int .u16 (x.flags : Int), .int .u16 (x.name : Int), .int .u16 (x.type_ : Int), .bool x.has, .int .i64 (x.code.stack : Int), .int .i64 (x.code.locals : Int), .string ⟨x.code.bytes.toArray⟩, v, .string ⟨x.code.map.toArray⟩] 101)) := (Below.refl _ _).alloc (Nat.le_refl _) _
                exact h1.alloc h1.size _
              have HSC := hide (sameCode_eq x.code v v' _ (J1.below Hi.len hbX) (J2.below Hi.len hbX) hbh)
              unfold cdv at HSC
              have HBX : Hid (Below wA.heap.size wA ((wr.alloc (.cells #[.int .u16 (x.flags : Int), .int .u16 (x.name : Int), .int .u16 (x.type_ : Int), .bool x.has, .int .i64 (x.code.stack : Int), .int .i64 (x.code.locals : Int), .string ⟨x.code.bytes.toArray⟩, v, .string ⟨x.code.map.toArray⟩] 101)).alloc (.cells #[.int .u16 (x.flags : Int), .int .u16 (x.name : Int), .int .u16 (x.type_ : Int), .bool x.has, .int .i64 (x.code.stack : Int), .int .i64 (x.code.locals : Int), .string ⟨x.code.bytes.toArray⟩, v', .string ⟨x.code.map.toArray⟩] 101))) := (unhide HW).trans (hbX.mono (unhide HW).size)
              obtain ⟨va, vc, ev, _⟩ := J1
              obtain ⟨va', vc', ev', _⟩ := J2
              subst ev ev'
              clear A2 hbX
              have ki : (k : Int) < (L.length : Int) := by omega
              have m0 : (((x.flags : Int) != (x.flags : Int)) : Bool) = false := by simp
              have m1 : (((x.name : Int) != (x.name : Int)) : Bool) = false := by simp
              have m2 : (((x.type_ : Int) != (x.type_ : Int)) : Bool) = false := by simp
              have m3 : ((x.has != x.has) : Bool) = false := by simp
              go_wp2_with fail
              refine (unhide HSC).mono ?_
              rintro e wS ⟨rfl, hbS⟩
              have HBS : Hid (Below wA.heap.size wA wS) := (unhide HBX).trans (hbS.mono (unhide HBX).size)
              clear HSC HBX hbS s0 s1 s2 s3 s4 s5 s6 s7 s8 t0 t1 t2 t3 t4 t5 t6 t7 t8 p8 q8
              go_wp2
              go_roundw
              case rel => exact ⟨k + 1, by omega, by go_num, HBS⟩
              case measure => simp [intOf]; omega
            · have ki : (L.length : Int) ≤ (k : Int) := by omega
              have HE : Hid (Below w.heap.size w wr) := (unhide HB).trans ((unhide HW).mono (unhide HB).size)
              clear A1 A2 hz1
              go_wp2
              go_ret
              exact ⟨rfl, unhide HE⟩
end Go.Proofs.Ytgihfcjddkpkaaa.Cl
