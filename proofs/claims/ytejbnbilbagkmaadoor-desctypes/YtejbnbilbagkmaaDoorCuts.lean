/-
  cutValues of package desc.
-/
import Derived.Test.YtejbnbilbagkmaaDoorSlots
import Derived.Test.YtejbnbilbagkmaaDoorDesc
import Derived.Test.YtejbnbilbagkmaaDoorRef
namespace Go.Proofs.YtejbnbilbagkmaaDoor
open Go.RowKit
theorem Tryd.info9 : (Tryd.prog.info? 9).map (fun i => (i.zero, i.size, i.bytes)) = some (some (.string ⟨#[]⟩), 1, 16) := by kernel_rfl
def strSize : Value → Nat | .string q => q.size | _ => 0
/-- The list that grows, and what is left. -/
def CBox (s : ByteArray) (w wr : World) (t : ByteArray) (v : Value) (L : List (List UInt8)) : Prop :=
  Cut s.data.toList L t.data.toList ∧ wr.ownsRow w.heap.size 9 1 v L.length (SV L) ∧ Below w.heap.size w wr
theorem ext_to (t : ByteArray) (n : Nat) : t.extract 0 n = ⟨(t.data.toList.take n).toArray⟩ := bytes_ext (by rw [seg_data, data_of, List.drop_zero, Nat.sub_zero])
theorem ext_from (t : ByteArray) (n : Nat) : (t.extract n t.size).data.toList = t.data.toList.drop n := by
  rw [seg_data]; exact List.take_of_length_le (by simp)
set_option maxRecDepth 100000 in
set_option maxHeartbeats 2000000 in
theorem cutValues_any (s : ByteArray) (w : World) (hm : Mx w) (hs : s.size ≤ 32768) :
    Calls Tryd.prog 27 #[.string s] w fun e w' => ∃ v, e = .returned (.tuple #[v, .string ⟨(V s.data.toList).2.toArray⟩]) ∧ w'.ownsRow w.heap.size 9 1 v (V s.data.toList).1.length (SV (V s.data.toList).1) ∧ Below w.heap.size w w' := by
  have hl : s.data.toList.length = s.size := by simp
  obtain ⟨i0, hi, hz0, hz1, hz2⟩ := info_parts Tryd.info9
  have hV0 := valueLength_any s w hm hs
  have H0 := hide hV0
  have Hm := hide hm
  clear hV0 hm
  go_enter Tryd.func27, Tryd.ntmps27
  go_wp2_with fail
  refine (unhide H0).mono ?_
  rintro e w0 ⟨rfl, hb0⟩
  go_wp2_with fail
  go_loopw [0, 4, 5] (fun x v n wr => ∃ t L, x = .string t ∧ n = .int .i64 (valLen t.data.toList : Nat) ∧ Hid (CBox s w wr t v L)) (fun x _ _ _ => strSize x)
  case atStart => exact ⟨s, [], rfl, rfl, hide ⟨Cut.zero _, World.ownsRow_nil _ _ _ _, hb0⟩⟩
  case round =>
    clear hb0 H0
    obtain ⟨t, L, rfl, rfl, HB⟩ := hrel
    obtain ⟨hC, ho, hbe⟩ := id (unhide HB)
    have htl : t.data.toList.length = t.size := by simp
    have hc2 := hC.2
    rw [htl, hl] at hc2
    have hvl := val_le t.data.toList
    rw [htl] at hvl
    by_cases hv : valLen t.data.toList = 0
    · have hd := hC.done hv
      have Hd := hide hd
      rw [hv]
      clear hv hvl htl hd hC HB
      go_wp2
      go_ret2
      rw [unhide Hd]
      exact ⟨_, rfl, ho, hbe⟩
    · have hst := hC.step hv
      have e1 := ext_to t (valLen t.data.toList)
      have e2 := ext_from t (valLen t.data.toList)
      obtain ⟨n, en⟩ : ∃ n, n = valLen t.data.toList := ⟨_, rfl⟩
      rw [← en] at hst e1 e2 hvl hv ⊢
      have q1 := slice_to t n hvl
      have q2 := slice_from t n hvl
      have hn0 : (0 : Int) < (n : Int) := by omega
      have hts : (t.extract n t.size).size ≤ 32768 := by simp; omega
      have htz : t.size ≤ 32768 := by omega
      have E1 := hide e1
      have E2 := hide e2
      have Hst := hide hst
      have Hmr := hide ((unhide Hm).below hbe)
      clear e1 e2 hst hC HB en htl
      have hz4 := hbe.size
      go_wp2_with (at_builtin; refine wpList_append_own _ rfl _ _ 25 rfl w.heap.size 9 i0 (.string ⟨#[]⟩) 1 16 Tryd.underlying25 hi hz0 hz1 hz2 rfl (by decide) _ _ _ rfl (ho.alloc _) ⟨wr.heap.size, 0, none⟩ 1 1 [.string (t.extract 0 n)] rfl rfl ?c1 ?c2 ?c3 ?c4 ?c5 ?_)
      case c1 =>
        intro j u hj
        match j, hj with
        | 0, hj => simp at hj; subst hj; simp [Addr.add]
      case c2 => intro u hu; simp at hu; subst hu; rfl
      case c3 => unfold maxLen; omega
      case c4 => omega
      case c5 => simp; omega
      intro v' w1 hown' hgrow _
      have hb3 : Below w.heap.size w w1 := (hbe.alloc (by omega) _).grown hgrow (by simp; omega) (fun j hj => by have := (ho.lt j hj).1; omega)
      rw [unhide E1] at hown'
      have ho3 : w1.ownsRow w.heap.size 9 1 v' (L ++ [t.data.toList.take n]).length (SV (L ++ [t.data.toList.take n])) := by rw [SV_snoc, List.length_append, List.length_singleton]; exact hown'
      have hVn := valueLength_any (t.extract n t.size) w1 ((unhide Hm).below hb3) hts
      have HV := hide hVn
      clear hown' hgrow ho hVn E1 Hmr
      go_wp2_with fail
      refine (unhide HV).mono ?_
      rintro e w2 ⟨rfl, hb4⟩
      have hb5 := hb3.trans (hb4.mono hb3.size)
      have ho5 := own_below ho3 (Nat.le_refl _) hb4
      have hst2 : Hid (CBox s w w2 (t.extract n t.size) v' (L ++ [t.data.toList.take n])) := ⟨by rw [unhide E2]; exact unhide Hst, ho5, hb5⟩
      clear ho5 hb5 hb4 ho3 hb3 HV E2 Hst
      go_wp2
      go_roundw
      case rel => exact ⟨_, L ++ [t.data.toList.take n], rfl, by rw [seg_data], hst2⟩
      case measure => simp only [strSize]; simp; omega
end Go.Proofs.YtejbnbilbagkmaaDoor
