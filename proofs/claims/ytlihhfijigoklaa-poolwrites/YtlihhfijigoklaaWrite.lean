/-
  pool.Write.
-/
import Derived.Test.YtlihhfijigoklaaFirstWrong
import Derived.Test.YtlihhfijigoklaaAppendConst
namespace Go.Proofs.Ytlihhfijigoklaa
open Go.RowKit
def WriteRes (l : List K) (r : List UInt8 × Nat × Nat) : Prop :=
  ((l.length = 0 ∨ 65535 < l.length) ∧ r = ([], 12, 0)) ∨
  (1 ≤ l.length ∧ l.length ≤ 65535 ∧ ∃ x k, Scan l 0 true (x, k) ∧ ((x ≠ 0 ∧ r = ([], x, k)) ∨ (x = 0 ∧ r = (M.big l.length 2 ++ l.flatMap M.cb, 0, 0))))
theorem WriteRes.uniq {l : List K} {r q : List UInt8 × Nat × Nat} (h : WriteRes l r) (g : WriteRes l q) : r = q := by
  rcases h with ⟨h1, h2⟩ | ⟨h1, h1', x, k, hs, h2⟩ <;> rcases g with ⟨g1, g2⟩ | ⟨g1, g1', y, j, gs, g2⟩
  · exact h2.trans g2.symm
  · omega
  · omega
  · have := hs.uniq gs
    simp only [Prod.mk.injEq] at this
    obtain ⟨rfl, rfl⟩ := this
    rcases h2 with ⟨a, h3⟩ | ⟨a, h3⟩ <;> rcases g2 with ⟨b, g3⟩ | ⟨b, g3⟩
    · exact h3.trans g3.symm
    · exact absurd b a
    · exact absurd a b
    · exact h3.trans g3.symm
/-- No constant of a pool that is right has the tag 2. -/
theorem Scan.not2 : ∀ {l : List K} {k : Nat} {b : Bool} {j : Nat}, Scan l k b (0, j) → ∀ c ∈ l, c.tag ≠ 2
  | [], _, _, _, _, c, hc => by cases hc
  | c :: t, k, b, j, h, d, hd => by
    rcases h with ⟨_, h2⟩ | ⟨_, e, he, h2⟩
    · simp at h2
    · rcases h2 with ⟨a, h3⟩ | ⟨a, h3⟩
      · simp only [Prod.mk.injEq] at h3; exact absurd h3.1.symm a
      · subst a
        rcases List.mem_cons.1 hd with rfl | hd
        · intro h2
          rcases he with ⟨q, _⟩ | ⟨q, _⟩ | ⟨q, _⟩ | ⟨q, q2⟩
          · omega
          · omega
          · omega
          · omega
        · exact h3.not2 d hd
theorem cb_len (c : K) : (M.cb c).length ≤ 9 + c.text.length := by
  unfold M.cb; split
  · simp
  · unfold M.cbody
    split
    · simp [M.big_len]; omega
    · split
      · simp [M.big_len]; omega
      · split
        · simp [M.big_len]
        · split <;> simp [M.big_len] <;> omega
/-- How long the texts are together. -/
def texts : List K → Nat
  | [] => 0
  | c :: l => c.text.length + texts l
theorem cbs_len (l : List K) : (l.flatMap M.cb).length ≤ 9 * l.length + texts l := by
  induction l with
  | nil => simp [texts]
  | cons c l ih => have := cb_len c; rw [List.flatMap_cons, List.length_append, List.length_cons, texts]; omega
theorem texts_take (l : List K) (k : Nat) : texts (l.take k) ≤ texts l := by
  induction l generalizing k with
  | nil => simp [texts]
  | cons c l ih =>
    cases k with
    | zero => simp [texts]
    | succ k => have := ih k; simp only [List.take_succ_cons, texts]; omega
theorem cbs_take {l : List K} {k : Nat} (h : k < l.length) : (l.take (k + 1)).flatMap M.cb = (l.take k).flatMap M.cb ++ M.cb (l.getD k K.zero) := by
  have h1 : l.take (k + 1) = l.take k ++ [l.getD k K.zero] := by
    rw [List.take_add_one, List.getElem?_eq_getElem h]; simp only [Option.toList_some, List.getD, List.getElem?_eq_getElem h, Option.getD_some]
  rw [h1, List.flatMap_append, List.flatMap_singleton]
def Wrote (l : List K) (w : World) (e : Ending) (w' : World) : Prop :=
  ∃ bs x k, WriteRes l (bs, x, k) ∧ e = .returned (.tuple #[.string ⟨bs.toArray⟩, .int .i64 (x : Nat), .int .i64 (k : Nat)]) ∧ Below w.heap.size w w'
set_option maxRecDepth 100000 in
set_option maxHeartbeats 2000000 in
theorem Write_main (b off cap : Nat) (l : List K) (w : World) (h1 : 1 ≤ l.length) (h2 : l.length ≤ 65535) (ht : texts l ≤ 131072) (hf : AllFit l) (hin : In w b off l) :
    Calls Try.prog 16 #[.slice (some ⟨b, off, none⟩) l.length cap] w fun e w' => Wrote l w e w' := by
  go_enter Try.func16, Try.ntmps16
  go_wp2_with fail
  refine (firstWrong_main b off cap l w h1 h2 hf hin).mono ?_
  rintro e w1 ⟨x, k, hS, rfl, hb1⟩
  by_cases hx0 : x = 0
  · subst hx0
    have hn2 := hS.not2
    have hres : WriteRes l (M.big l.length 2 ++ l.flatMap M.cb, 0, 0) := .inr ⟨h1, h2, 0, k, hS, .inr ⟨rfl, rfl⟩⟩
    have Hn2 := hide hn2
    have hsz1 := hb1.size
    have ha := fun (g2 : Nat) (W : World) hWB hg2 => Append_any w1.heap.size (.slice none 0 0) [] 2 g2 1 [l.length] W (by omega) (by simp) hWB (by intro y hy; simp at hy; subst hy; omega) (by simp) (World.ownsRow_nil _ _ _ _) hg2
    have Ha := hide ha
    clear ha hS hn2
    go_wp2_with fail
    refine (unhide Ha w1.heap.size _ (by simp) (heap_alloc_new w1 _)).mono ?_
    rintro e w2 ⟨v2, rfl, ho2, hfr2⟩
    have hfr : Fr w1.heap.size w1 w2 := ((Fr.refl _ _).alloc (Nat.le_refl _) _).trans hfr2
    simp only [List.nil_append, List.flatMap_singleton] at ho2
    clear Ha hfr2
    go_wp2_with fail
    go_loopw [7, 26] (fun v i wr => ∃ k : Nat, k ≤ l.length ∧ i = .int .i64 k ∧ wr.ownsRow w1.heap.size 5 1 v (M.big l.length 2 ++ (l.take k).flatMap M.cb).length (U8 (M.big l.length 2 ++ (l.take k).flatMap M.cb)) ∧ Fr w1.heap.size w1 wr) (fun _ i _ => l.length - (intOf i).toNat)
    case atStart => exact ⟨0, Nat.zero_le _, rfl, by simpa using ho2, hfr⟩
    case round =>
      clear ho2 hfr
      obtain ⟨k, hk, rfl, ho, hfr⟩ := hrel
      have hbe : Below w.heap.size w _ := hb1.trans (hfr.old.mono hsz1)
      have hsz := hfr.old.size
      by_cases hlt : k < l.length
      · obtain ⟨x0, x1, x2, x3, x4⟩ := hin.at hbe k hlt
        have hct := cbs_take hlt
        obtain ⟨c, ec⟩ : ∃ c, c = l.getD k K.zero := ⟨_, rfl⟩
        have hmem : c ∈ l := by rw [ec]; simp [List.getD, List.getElem?_eq_getElem hlt]
        rw [← ec] at x0 x1 x2 x3 x4 hct
        have hpl : (M.big l.length 2 ++ (l.take k).flatMap M.cb).length ≤ 800000 := by
          have e1 := cbs_len (l.take k)
          have e2 := texts_take l k
          rw [List.length_take] at e1
          rw [List.length_append, M.big_len]; omega
        obtain ⟨P, eP⟩ : ∃ P, P = M.big l.length 2 ++ (l.take k).flatMap M.cb := ⟨_, rfl⟩
        have heP : M.big l.length 2 ++ (l.take (k + 1)).flatMap M.cb = P ++ M.cb c := by rw [hct, eP, List.append_assoc]
        rw [← eP] at ho hpl
        have hac := fun (v : Value) (W : World) (hW : w1.heap.size ≤ W.heap.size) (how : W.ownsRow w1.heap.size 5 1 v P.length (U8 P)) => appendConst_any w1.heap.size v P c W (hf c hmem) hpl hW how (unhide Hn2 c hmem)
        have Hac := hide hac
        have HeP := hide heP
        clear hac heP ec eP hct hmem
        have ho1 := ho.alloc (.cells #[.int .u8 (c.tag : Int), .string ⟨c.text.toArray⟩, .int .u64 (c.bits : Int), .int .u16 (c.a : Int), .int .u16 (c.b : Int)] 43)
        have hfr1 := hfr.alloc hsz (.cells #[.int .u8 (c.tag : Int), .string ⟨c.text.toArray⟩, .int .u64 (c.bits : Int), .int .u16 (c.a : Int), .int .u16 (c.b : Int)] 43)
        go_wp2_with fail
        refine (unhide Hac _ _ (by simp; omega) ho1).mono ?_
        rintro e w3 ⟨v3, rfl, ho3, hfr3⟩
        have hfr4 := hfr1.trans hfr3
        rw [← unhide HeP] at ho3
        clear Hac HeP ho1 hfr1 hfr3 ho hfr hbe x0 x1 x2 x3 x4
        go_wp2
        go_roundw
        case rel => exact ⟨k + 1, by omega, by go_num, ho3, hfr4⟩
        case measure => simp [intOf]; omega
      · have hkl : k = l.length := by omega
        subst hkl
        rw [List.take_length] at ho
        have hcv := own_string ho
        clear ho hfr
        go_wp2
        go_ret3
        exact ⟨_, 0, 0, hres, rfl, hbe⟩
  · have hxb : ((x : Int) != 0) = true := by rw [bne_iff_ne]; omega
    have hres : WriteRes l ([], x, k) := .inr ⟨h1, h2, x, k, hS, .inl ⟨hx0, rfl⟩⟩
    clear hx0 hS
    go_wp2
    go_ret3
    exact ⟨[], x, k, hres, rfl, hb1⟩
set_option maxRecDepth 100000 in
set_option maxHeartbeats 1000000 in
theorem Write_len (a : Option Addr) (n cap : Nat) (w : World) (hm : n ≤ maxLen) (hn : n = 0 ∨ 65535 < n) :
    Calls Try.prog 16 #[.slice a n cap] w fun e w' => e = .returned (.tuple #[.string ⟨#[]⟩, .int .i64 12, .int .i64 0]) ∧ w' = w := by
  go_enter Try.func16, Try.ntmps16
  go_wp2_with fail
  refine (firstWrong_len a n cap w hm hn).mono ?_
  rintro e w1 ⟨rfl, hww⟩
  subst w1
  clear hn hm
  go_wp2
  go_ret3
  exact ⟨rfl, rfl⟩
end Go.Proofs.Ytlihhfijigoklaa
