/-
  DescNames: the walk.
-/
import Derived.Test.YtejbnbilbagkmaaDoorRef
import Derived.Test.YtejbnbilbagkmaaDoorDesc
namespace Go.Proofs.YtejbnbilbagkmaaDoor
open Go.RowKit
set_option maxRecDepth 100000 in
set_option maxHeartbeats 1000000 in
theorem names_walk (s : ByteArray) (m : Bool) (w : World) (hm : Mx w) :
    Calls Tryd.prog 3 #[.string s, .bool m] w fun e w' => e = .returned (.bool true) ∧ Below w.heap.size w w' := by
  by_cases hbig : 32768 < s.size
  · have hbi : (32768 : Int) < (s.size : Int) := by omega
    go_enter Tryd.func3, Tryd.ntmps3
    go_wp2_with fail
    go_ret
    exact ⟨rfl, Below.refl _ _⟩
  · have hs : s.size ≤ 32768 := by omega
    have hbi : ¬ ((32768 : Int) < (s.size : Int)) := by omega
    have h1 := fun (W : World) (hW : Mx W) => Member_any s m W hW hs
    have h2 := fun W : World => RMember_any s m W hs
    have h3 := fun (W : World) (hW : Mx W) => Class_any s W hW hs
    have h4 := fun W : World => RClass_any s W hs
    generalize memB s.data.toList m = M at h1 h2
    generalize classB s.data.toList = C at h3 h4
    have H1 := hide h1
    have H2 := hide h2
    have H3 := hide h3
    have H4 := hide h4
    have Hm := hide hm
    clear h1 h2 h3 h4 hm
    go_enter Tryd.func3, Tryd.ntmps3
    go_wp2_with fail
    refine (unhide H1 _ (unhide Hm)).mono ?_
    rintro e w1 ⟨rfl, hb1⟩
    go_wp2_with fail
    refine (unhide H2 _).mono ?_
    rintro e w2 ⟨rfl, hb2⟩
    have hb12 := hb1.trans (hb2.mono hb1.size)
    go_wp2_with fail
    refine (unhide H3 _ ((unhide Hm).below hb12)).mono ?_
    rintro e w3 ⟨rfl, hb3⟩
    have hb13 := hb12.trans (hb3.mono hb12.size)
    go_wp2_with fail
    refine (unhide H4 _).mono ?_
    rintro e w4 ⟨rfl, hb4⟩
    have hb14 := hb13.trans (hb4.mono hb13.size)
    go_wp2
    go_ret
    exact ⟨by simp, hb14⟩
end Go.Proofs.YtejbnbilbagkmaaDoor
