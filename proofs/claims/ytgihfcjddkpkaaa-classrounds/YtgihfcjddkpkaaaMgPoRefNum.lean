/-
  pool.Write.
  jvmcoreref1's Big.
  jvmcoreref1's Num and sizes; one constant, as the reference sees it.
-/
import Derived.Test.YtgihfcjddkpkaaaMgPoFirstWrong
import Derived.Test.YtgihfcjddkpkaaaPoAppendConst
import Derived.Test.YtgihfcjddkpkaaaMgPoModel
namespace Go.Proofs.Ytgihfcjddkpkaaa.Po
open Go.RowKit
def WriteRes (l : List K) (r : List UInt8 × Nat × Nat) : Prop :=
  ((l.length = 0 ∨ 65535 < l.length) ∧ r = ([], 12, 0)) ∨
  (1 ≤ l.length ∧ l.length ≤ 65535 ∧ ∃ x k, Scan l 0 true (x, k) ∧ ((x ≠ 0 ∧ r = ([], x, k)) ∨ (x = 0 ∧ r = (M.big l.length 2 ++ l.flatMap M.cb, 0, 0))))
theorem WriteRes.uniq {l : List K} {r q : List UInt8 × Nat × Nat} (h : WriteRes l r) (g : WriteRes l q) : r = q := by
  rcases h with ⟨h1, h2⟩ | ⟨h1, h1', x, k, hs, h2⟩ <;> rcases g with ⟨g1, g2⟩ | ⟨g1, g1', y, j, gs, g2⟩
  · exact h2.trans g2.symm
  · omega
  · omega
  · have := hs.uniq gs
    simp only [Prod.mk.injEq] at this
    obtain ⟨rfl, rfl⟩ := this
    rcases h2 with ⟨a, h3⟩ | ⟨a, h3⟩ <;> rcases g2 with ⟨b, g3⟩ | ⟨b, g3⟩
    · exact h3.trans g3.symm
    · exact absurd b a
    · exact absurd a b
    · exact h3.trans g3.symm
/-- No constant of a pool that is right has the tag 2. -/
theorem Scan.not2 : ∀ {l : List K} {k : Nat} {b : Bool} {j : Nat}, Scan l k b (0, j) → ∀ c ∈ l, c.tag ≠ 2
  | [], _, _, _, _, c, hc => by cases hc
  | c :: t, k, b, j, h, d, hd => by
    rcases h with ⟨_, h2⟩ | ⟨_, e, he, h2⟩
    · simp at h2
    · rcases h2 with ⟨a, h3⟩ | ⟨a, h3⟩
      · simp only [Prod.mk.injEq] at h3; exact absurd h3.1.symm a
      · subst a
        rcases List.mem_cons.1 hd with rfl | hd
        · intro h2
          rcases he with ⟨q, _⟩ | ⟨q, _⟩ | ⟨q, _⟩ | ⟨q, q2⟩
          · omega
          · omega
          · omega
          · omega
        · exact h3.not2 d hd
theorem cb_len (c : K) : (M.cb c).length ≤ 9 + c.text.length := by
  unfold M.cb; split
  · simp
  · unfold M.cbody
    split
    · simp [M.big_len]; omega
    · split
      · simp [M.big_len]; omega
      · split
        · simp [M.big_len]
        · split <;> simp [M.big_len] <;> omega
/-- How long the texts are together. -/
def texts : List K → Nat
  | [] => 0
  | c :: l => c.text.length + texts l
theorem cbs_len (l : List K) : (l.flatMap M.cb).length ≤ 9 * l.length + texts l := by
  induction l with
  | nil => simp [texts]
  | cons c l ih => have := cb_len c; rw [List.flatMap_cons, List.length_append, List.length_cons, texts]; omega
theorem texts_take (l : List K) (k : Nat) : texts (l.take k) ≤ texts l := by
  induction l generalizing k with
  | nil => simp [texts]
  | cons c l ih =>
    cases k with
    | zero => simp [texts]
    | succ k => have := ih k; simp only [List.take_succ_cons, texts]; omega
theorem cbs_take {l : List K} {k : Nat} (h : k < l.length) : (l.take (k + 1)).flatMap M.cb = (l.take k).flatMap M.cb ++ M.cb (l.getD k K.zero) := by
  have h1 : l.take (k + 1) = l.take k ++ [l.getD k K.zero] := by
    rw [List.take_add_one, List.getElem?_eq_getElem h]; simp only [Option.toList_some, List.getD, List.getElem?_eq_getElem h, Option.getD_some]
  rw [h1, List.flatMap_append, List.flatMap_singleton]
def Wrote (l : List K) (w : World) (e : Ending) (w' : World) : Prop :=
  ∃ bs x k, WriteRes l (bs, x, k) ∧ e = .returned (.tuple #[.string ⟨bs.toArray⟩, .int .i64 (x : Nat), .int .i64 (k : Nat)]) ∧ Below w.heap.size w w'
set_option maxRecDepth 100000 in
set_option maxHeartbeats 2000000 in
theorem Write_main (b off cap : Nat) (l : List K) (w : World) (h1 : 1 ≤ l.length) (h2 : l.length ≤ 65535) (ht : texts l ≤ 131072) (hf : AllFit l) (hin : In w b off l) :
    Calls Try.prog 47 #[.slice (some ⟨b, off, none⟩) l.length cap] w fun e w' => Wrote l w e w' := by
  go_enter Try.func47, Try.ntmps47
  go_wp2_with fail
  refine (firstWrong_main b off cap l w h1 h2 hf hin).mono ?_
  rintro e w1 ⟨x, k, hS, rfl, hb1⟩
  by_cases hx0 : x = 0
  · subst hx0
    have hn2 := hS.not2
    have hres : WriteRes l (M.big l.length 2 ++ l.flatMap M.cb, 0, 0) := .inr ⟨h1, h2, 0, k, hS, .inr ⟨rfl, rfl⟩⟩
    have Hn2 := hide hn2
    have hsz1 := hb1.size
    have ha := fun (g2 : Nat) (W : World) hWB hg2 => Append_any w1.heap.size (.slice none 0 0) [] 2 g2 1 [l.length] W (by omega) (by simp) hWB (by intro y hy; simp at hy; subst hy; omega) (by simp) (World.ownsRow_nil _ _ _ _) hg2
    have Ha := hide ha
    clear ha hS hn2
    go_wp2_with fail
    refine (unhide Ha w1.heap.size _ (by simp) (heap_alloc_new w1 _)).mono ?_
    rintro e w2 ⟨v2, rfl, ho2, hfr2⟩
    have hfr : Fr w1.heap.size w1 w2 := ((Fr.refl _ _).alloc (Nat.le_refl _) _).trans hfr2
    simp only [List.nil_append, List.flatMap_singleton] at ho2
    clear Ha hfr2
    go_wp2_with fail
    go_loopw [7, 26] (fun v i wr => ∃ k : Nat, k ≤ l.length ∧ i = .int .i64 k ∧ wr.ownsRow w1.heap.size 5 1 v (M.big l.length 2 ++ (l.take k).flatMap M.cb).length (U8 (M.big l.length 2 ++ (l.take k).flatMap M.cb)) ∧ Fr w1.heap.size w1 wr) (fun _ i _ => l.length - (intOf i).toNat)
    case atStart => exact ⟨0, Nat.zero_le _, rfl, by simpa using ho2, hfr⟩
    case round =>
      clear ho2 hfr
      obtain ⟨k, hk, rfl, ho, hfr⟩ := hrel
      have hbe : Below w.heap.size w _ := hb1.trans (hfr.old.mono hsz1)
      have hsz := hfr.old.size
      by_cases hlt : k < l.length
      · obtain ⟨x0, x1, x2, x3, x4⟩ := hin.at hbe k hlt
        have hct := cbs_take hlt
        obtain ⟨c, ec⟩ : ∃ c, c = l.getD k K.zero := ⟨_, rfl⟩
        have hmem : c ∈ l := by rw [ec]; simp [List.getD, List.getElem?_eq_getElem hlt]
        rw [← ec] at x0 x1 x2 x3 x4 hct
        have hpl : (M.big l.length 2 ++ (l.take k).flatMap M.cb).length ≤ 800000 := by
          have e1 := cbs_len (l.take k)
          have e2 := texts_take l k
          rw [List.length_take] at e1
          rw [List.length_append, M.big_len]; omega
        obtain ⟨P, eP⟩ : ∃ P, P = M.big l.length 2 ++ (l.take k).flatMap M.cb := ⟨_, rfl⟩
        have heP : M.big l.length 2 ++ (l.take (k + 1)).flatMap M.cb = P ++ M.cb c := by rw [hct, eP, List.append_assoc]
        rw [← eP] at ho hpl
        have hac := fun (v : Value) (W : World) (hW : w1.heap.size ≤ W.heap.size) (how : W.ownsRow w1.heap.size 5 1 v P.length (U8 P)) => appendConst_any w1.heap.size v P c W (hf c hmem) hpl hW how (unhide Hn2 c hmem)
        have Hac := hide hac
        have HeP := hide heP
        clear hac heP ec eP hct hmem
        have ho1 := ho.alloc (.cells #[.int .u8 (c.tag : Int), .string ⟨c.text.toArray⟩, .int .u64 (c.bits : Int), .int .u16 (c.a : Int), .int .u16 (c.b : Int)] 78)
        have hfr1 := hfr.alloc hsz (.cells #[.int .u8 (c.tag : Int), .string ⟨c.text.toArray⟩, .int .u64 (c.bits : Int), .int .u16 (c.a : Int), .int .u16 (c.b : Int)] 78)
        go_wp2_with fail
        refine (unhide Hac _ _ (by simp; omega) ho1).mono ?_
        rintro e w3 ⟨v3, rfl, ho3, hfr3⟩
        have hfr4 := hfr1.trans hfr3
        rw [← unhide HeP] at ho3
        clear Hac HeP ho1 hfr1 hfr3 ho hfr hbe x0 x1 x2 x3 x4
        go_wp2
        go_roundw
        case rel => exact ⟨k + 1, by omega, by go_num, ho3, hfr4⟩
        case measure => simp [intOf]; omega
      · have hkl : k = l.length := by omega
        subst hkl
        rw [List.take_length] at ho
        have hcv := own_string ho
        clear ho hfr
        go_wp2
        go_ret3
        exact ⟨_, 0, 0, hres, rfl, hbe⟩
  · have hxb : ((x : Int) != 0) = true := by rw [bne_iff_ne]; omega
    have hres : WriteRes l ([], x, k) := .inr ⟨h1, h2, x, k, hS, .inl ⟨hx0, rfl⟩⟩
    clear hx0 hS
    go_wp2
    go_ret3
    exact ⟨[], x, k, hres, rfl, hb1⟩
set_option maxRecDepth 100000 in
set_option maxHeartbeats 1000000 in
theorem Write_len (a : Option Addr) (n cap : Nat) (w : World) (hm : n ≤ maxLen) (hn : n = 0 ∨ 65535 < n) :
    Calls Try.prog 47 #[.slice a n cap] w fun e w' => e = .returned (.tuple #[.string ⟨#[]⟩, .int .i64 12, .int .i64 0]) ∧ w' = w := by
  go_enter Try.func47, Try.ntmps47
  go_wp2_with fail
  refine (firstWrong_len a n cap w hm hn).mono ?_
  rintro e w1 ⟨rfl, hww⟩
  subst w1
  clear hn hm
  go_wp2
  go_ret3
  exact ⟨rfl, rfl⟩
end Go.Proofs.Ytgihfcjddkpkaaa.Po
namespace Go.Proofs.Ytgihfcjddkpkaaa.Po
open Go.RowKit
theorem big_back (x n k : Nat) (hk : k < n) : (M.big x n).drop (n - (k + 1)) = UInt8.ofNat (x / 256 ^ k % 256) :: (M.big x n).drop (n - k) := by
  induction n generalizing x k with
  | zero => omega
  | succ n ih =>
    show (M.big (x / 256) n ++ [UInt8.ofNat (x % 256)]).drop _ = _ :: (M.big (x / 256) n ++ [UInt8.ofNat (x % 256)]).drop _
    have hl := M.big_len (x / 256) n
    cases k with
    | zero =>
      rw [show n + 1 - (0 + 1) = n by omega, Nat.sub_zero, List.drop_append_of_le_length (by omega), List.drop_of_length_le (by omega), List.drop_of_length_le (by simp; omega)]
      simp
    | succ k =>
      rw [show n + 1 - (k + 1 + 1) = n - (k + 1) by omega, show n + 1 - (k + 1) = n - k by omega, List.drop_append_of_le_length (by omega), List.drop_append_of_le_length (by omega), ih (x / 256) k (by omega), Nat.div_div_eq_div_mul, ← Nat.pow_succ']
      rfl
set_option maxRecDepth 100000 in
set_option maxHeartbeats 1000000 in
theorem Big_any (x n : Nat) (w : World) (hn : n ≤ 8) (hx : x < 2 ^ 64) :
    Calls Try.prog 31 #[.int .u64 (x : Int), .int .i64 (n : Int)] w fun e w' => e = .returned (.string ⟨(M.big x n).toArray⟩) ∧ Below w.heap.size w w' := by
  have hx2 : x ≤ 18446744073709551615 := by omega
  have Hx := hide hx
  clear hx
  go_enter Try.func31, Try.ntmps31
  go_wp2_with fail
  go_loopw [0, 1, 5] (fun y i v wr => ∃ k : Nat, k ≤ n ∧ i = .int .i64 ((n : Int) - (k : Int)) ∧ y = .int .u64 ((x / 256 ^ k : Nat) : Int) ∧ v = .string ⟨((M.big x n).drop (n - k)).toArray⟩ ∧ Below w.heap.size w wr) (fun _ i _ _ => (intOf i).toNat)
  case atStart => exact ⟨0, Nat.zero_le _, by simp, by simp, by rw [Nat.sub_zero, List.drop_of_length_le (by rw [M.big_len]; omega)], Below.refl _ _⟩
  case round =>
    obtain ⟨k, hk, rfl, rfl, rfl, hbe⟩ := hrel
    have hyx : x / 256 ^ k ≤ 18446744073709551615 := Nat.le_trans (Nat.div_le_self _ _) hx2
    by_cases hlt : k < n
    · have hbb := big_back x n k hlt
      have hdv : x / 256 ^ (k + 1) = x / 256 ^ k / 256 := by rw [Nat.pow_succ, Nat.div_div_eq_div_mul]
      have hbl : ((M.big x n).drop (n - k)).length ≤ 8 := by rw [List.length_drop, M.big_len]; omega
      obtain ⟨y, ey⟩ : ∃ y, y = x / 256 ^ k := ⟨_, rfl⟩
      obtain ⟨D, eD⟩ : ∃ D, D = (M.big x n).drop (n - k) := ⟨_, rfl⟩
      rw [← ey] at hyx hbb hdv ⊢
      rw [← eD] at hbb hbl ⊢
      have hcv := bytes_new wr [UInt8.ofNat (y % 256)] #[.int .u8 ((y : Int) % 256)] 1 (by simp only [List.map_cons, List.map_nil]; rw [of_lt (show y % 256 < 256 by omega)]; rfl) rfl
      have hcat := cat_text [UInt8.ofNat (y % 256)] D
      have Hbb := hide hbb
      have Hdv := hide hdv
      have Hcat := hide hcat
      clear ey eD hbb hdv hcat
      have hsz := hbe.size
      go_wp2
      go_roundw
      case rel => exact ⟨k + 1, by omega, by simp; omega, by rw [unhide Hdv]; rfl, by rw [unhide Hcat, unhide Hbb]; rfl, hbe.alloc hsz _⟩
      case measure => simp [intOf]; omega
    · have hkn : k = n := by omega
      subst hkn
      rw [Nat.sub_self, List.drop_zero]
      go_wp2
      go_ret
      exact ⟨rfl, hbe⟩
end Go.Proofs.Ytgihfcjddkpkaaa.Po
namespace Go.Proofs.Ytgihfcjddkpkaaa.Po
set_option maxRecDepth 100000
open Go.RowKit
set_option maxHeartbeats 400000 in
theorem Num_any (t : ByteArray) (w : World) (ht : t.size ≤ 8) :
    Calls Try.prog 77 #[.string t] w fun e w' => e = .returned (.int .u64 (M.num t.data.toList : Nat)) ∧ w' = w := by
  have hlen : t.data.toList.length = t.size := by simp
  go_enter Try.func77, Try.ntmps77
  go_wp2_with fail
  go_loop [3, 4] (fun x i => ∃ k : Nat, k ≤ t.size ∧ i = .int .i64 k ∧ x = .int .u64 (M.num (t.data.toList.take k) : Nat)) (fun _ i => t.size - (intOf i).toNat)
  case atStart => exact ⟨0, Nat.zero_le _, rfl, rfl⟩
  case round =>
    obtain ⟨k, hk, rfl, rfl⟩ := hrel
    by_cases hlt : k < t.size
    · obtain ⟨b, hb⟩ : ∃ b : Nat, b = (t.data.toList.getD k 0).toNat := ⟨_, rfl⟩
      have hbi : ((t[k]'hlt).toNat : Int) = (b : Int) := by rw [hb, at_of_list rfl k hlt]
      have hnt := num_take t.data.toList k (by omega)
      have hbt : b < 256 := by rw [hb]; exact (t.data.toList.getD k 0).toNat_lt
      have hx := num_lt (t.data.toList.take k)
      have hx7 : M.num (t.data.toList.take k) ≤ 72057594037927935 := by
        have hlk : (t.data.toList.take k).length ≤ 7 := by rw [List.length_take]; omega
        have := Nat.pow_le_pow_right (show 0 < 256 by omega) hlk
        have e7 : 256 ^ 7 = 72057594037927936 := by decide
        omega
      rw [← hb] at hnt
      clear hb hx
      obtain ⟨x, hxx⟩ : ∃ x, x = M.num (t.data.toList.take k) := ⟨_, rfl⟩
      rw [← hxx] at hnt hx7 ⊢
      have Hnt := hide hnt
      clear hxx hnt
      go_wp2
      go_round
      case rel => exact ⟨k + 1, by omega, by go_num, by rw [unhide Hnt]; go_num⟩
      case measure => simp [intOf]; omega
    · have hkl : k = t.size := by omega
      subst hkl
      rw [List.take_of_length_le (by omega)]
      go_wp2
      go_ret
      exact ⟨rfl, rfl⟩
/-- How many bytes stand behind a tag. -/
def szOf (t : Nat) : Int := if t = 1 ∨ t = 7 ∨ t = 8 then 2 else if t = 3 ∨ t = 4 ∨ t = 9 ∨ t = 10 ∨ t = 11 ∨ t = 12 then 4 else if t = 5 ∨ t = 6 then 8 else -1
set_option maxHeartbeats 400000 in
theorem sizes_any (t : Nat) (w : World) (ht : t < 256) : Calls Try.prog 78 #[.int .u8 (t : Int)] w fun e w' => e = .returned (.int .i64 (szOf t)) ∧ w' = w := by
  rcases (show t = 1 ∨ t = 7 ∨ t = 8 ∨ t = 3 ∨ t = 4 ∨ t = 9 ∨ t = 10 ∨ t = 11 ∨ t = 12 ∨ t = 5 ∨ t = 6 ∨ (t = 0 ∨ t = 2 ∨ 12 < t) by omega) with rfl | rfl | rfl | rfl | rfl | rfl | rfl | rfl | rfl | rfl | rfl | h
  iterate 11
    · go_enter Try.func78, Try.ntmps78
      go_wp2
      go_ret
      exact ⟨rfl, rfl⟩
  have f1 : ((t : Int) == 1) = false := by rw [beq_eq_false_iff_ne]; omega
  have f3 : ((t : Int) == 3) = false := by rw [beq_eq_false_iff_ne]; omega
  have f4 : ((t : Int) == 4) = false := by rw [beq_eq_false_iff_ne]; omega
  have f5 : ((t : Int) == 5) = false := by rw [beq_eq_false_iff_ne]; omega
  have f6 : ((t : Int) == 6) = false := by rw [beq_eq_false_iff_ne]; omega
  have f7 : ((t : Int) == 7) = false := by rw [beq_eq_false_iff_ne]; omega
  have f8 : ((t : Int) == 8) = false := by rw [beq_eq_false_iff_ne]; omega
  have f9 : ((t : Int) == 9) = false := by rw [beq_eq_false_iff_ne]; omega
  have f10 : ((t : Int) == 10) = false := by rw [beq_eq_false_iff_ne]; omega
  have f11 : ((t : Int) == 11) = false := by rw [beq_eq_false_iff_ne]; omega
  have f12 : ((t : Int) == 12) = false := by rw [beq_eq_false_iff_ne]; omega
  have hsz : szOf t = -1 := by unfold szOf; rw [if_neg (by omega), if_neg (by omega), if_neg (by omega)]
  rw [hsz]
  clear h hsz
  go_enter Try.func78, Try.ntmps78
  go_wp2
  go_ret
  exact ⟨rfl, rfl⟩
section
variable {s : List UInt8} {a : Nat}
theorem take_ok {k p : Nat} (h : a + k ≤ s.length) : M.take s k ⟨a, 0, p⟩ = ((s.drop a).take k, ⟨a + k, 0, p⟩) := by
  unfold M.take; rw [if_pos rfl, if_neg (by simp only; omega)]
theorem take_no {k p : Nat} (h : s.length - a < k) : M.take s k ⟨a, 0, p⟩ = ([], ⟨a, 1, s.length⟩) := by
  unfold M.take; rw [if_pos rfl, if_pos (by simp only; omega)]
theorem take_bad {k : Nat} {st : St} (h : st.e ≠ 0) : M.take s k st = ([], st) := by unfold M.take; rw [if_neg h]
theorem num_one (h : a < s.length) : M.num ((s.drop a).take 1) = (s.getD a 0).toNat := by
  rw [List.drop_eq_getElem_cons h, List.take_succ_cons, List.take_zero]; simp only [M.num, List.foldl_cons, List.foldl_nil, List.getD, List.getElem?_eq_getElem h, Option.getD_some]; omega
theorem cm_end (h : s.length ≤ a) : CM s ⟨a, 0, 0⟩ ⟨0, [], 0, 0, 0⟩ ⟨a, 1, s.length⟩ := by
  unfold CM; rw [take_no (by omega)]
  exact .inr (.inr (.inr (.inr (.inr ⟨.inl rfl, rfl, rfl⟩))))
theorem cm_other (h : a < s.length) (ht : (s.getD a 0).toNat = 0 ∨ (s.getD a 0).toNat = 2 ∨ 12 < (s.getD a 0).toNat) : CM s ⟨a, 0, 0⟩ ⟨(s.getD a 0).toNat, [], 0, 0, 0⟩ ⟨a + 1, 5, a⟩ := by
  unfold CM; rw [take_ok (by omega), num_one h]
  exact .inr (.inr (.inr (.inr (.inr ⟨ht, rfl, rfl⟩))))
theorem cm_34 (h : a + 5 ≤ s.length) (ht : (s.getD a 0).toNat = 3 ∨ (s.getD a 0).toNat = 4) : CM s ⟨a, 0, 0⟩ ⟨(s.getD a 0).toNat, [], M.num ((s.drop (a + 1)).take 4), 0, 0⟩ ⟨a + 5, 0, 0⟩ := by
  unfold CM; rw [take_ok (by omega), num_one (by omega)]; simp only; rw [take_ok (k := 4) (by omega)]
  exact .inr (.inl ⟨ht, rfl, rfl⟩)
theorem cm_56 (h : a + 9 ≤ s.length) (ht : (s.getD a 0).toNat = 5 ∨ (s.getD a 0).toNat = 6) : CM s ⟨a, 0, 0⟩ ⟨(s.getD a 0).toNat, [], M.num ((s.drop (a + 1)).take 8), 0, 0⟩ ⟨a + 9, 0, 0⟩ := by
  unfold CM; rw [take_ok (by omega), num_one (by omega)]; simp only; rw [take_ok (k := 8) (by omega)]
  exact .inr (.inr (.inl ⟨ht, rfl, rfl⟩))
theorem cm_78 (h : a + 3 ≤ s.length) (ht : (s.getD a 0).toNat = 7 ∨ (s.getD a 0).toNat = 8) : CM s ⟨a, 0, 0⟩ ⟨(s.getD a 0).toNat, [], 0, M.num ((s.drop (a + 1)).take 2), 0⟩ ⟨a + 3, 0, 0⟩ := by
  unfold CM; rw [take_ok (by omega), num_one (by omega)]; simp only; rw [take_ok (k := 2) (by omega)]
  exact .inr (.inr (.inr (.inl ⟨ht, rfl, rfl⟩)))
theorem cm_9 (h : a + 5 ≤ s.length) (ht : (s.getD a 0).toNat = 9 ∨ (s.getD a 0).toNat = 10 ∨ (s.getD a 0).toNat = 11 ∨ (s.getD a 0).toNat = 12) :
    CM s ⟨a, 0, 0⟩ ⟨(s.getD a 0).toNat, [], 0, M.num ((s.drop (a + 1)).take 2), M.num ((s.drop (a + 3)).take 2)⟩ ⟨a + 5, 0, 0⟩ := by
  unfold CM; rw [take_ok (by omega), num_one (by omega)]; simp only; rw [take_ok (k := 2) (a := a + 1) (by omega)]; simp only; rw [take_ok (k := 2) (by omega)]
  exact .inr (.inr (.inr (.inr (.inl ⟨ht, rfl, rfl⟩))))
theorem cm_1 (h : a + 3 ≤ s.length) (ht : (s.getD a 0).toNat = 1) (hk : a + 3 + M.num ((s.drop (a + 1)).take 2) ≤ s.length) (hx : M.IsText ((s.drop (a + 3)).take (M.num ((s.drop (a + 1)).take 2)))) :
    CM s ⟨a, 0, 0⟩ ⟨1, (s.drop (a + 3)).take (M.num ((s.drop (a + 1)).take 2)), 0, 0, 0⟩ ⟨a + 3 + M.num ((s.drop (a + 1)).take 2), 0, 0⟩ := by
  unfold CM; rw [take_ok (by omega), num_one (by omega)]; simp only; rw [take_ok (k := 2) (a := a + 1) (by omega)]; simp only; rw [take_ok (by omega)]
  exact .inl ⟨ht, rfl, .inl ⟨hx, rfl⟩⟩
theorem cm_1x (h : a + 3 ≤ s.length) (ht : (s.getD a 0).toNat = 1) (hk : a + 3 + M.num ((s.drop (a + 1)).take 2) ≤ s.length) (hx : ¬ M.IsText ((s.drop (a + 3)).take (M.num ((s.drop (a + 1)).take 2)))) :
    CM s ⟨a, 0, 0⟩ ⟨1, (s.drop (a + 3)).take (M.num ((s.drop (a + 1)).take 2)), 0, 0, 0⟩ ⟨a + 3 + M.num ((s.drop (a + 1)).take 2), 6, a⟩ := by
  unfold CM; rw [take_ok (by omega), num_one (by omega)]; simp only; rw [take_ok (k := 2) (a := a + 1) (by omega)]; simp only; rw [take_ok (by omega)]
  exact .inl ⟨ht, rfl, .inr ⟨hx, rfl⟩⟩
theorem text_nil : M.IsText [] := ⟨[], (fun _ h => by cases h), rfl⟩
theorem cm_1e (h : a + 3 ≤ s.length) (ht : (s.getD a 0).toNat = 1) (hk : s.length < a + 3 + M.num ((s.drop (a + 1)).take 2)) : CM s ⟨a, 0, 0⟩ ⟨1, [], 0, 0, 0⟩ ⟨a + 3, 1, s.length⟩ := by
  unfold CM; rw [take_ok (by omega), num_one (by omega)]; simp only; rw [take_ok (k := 2) (a := a + 1) (by omega)]; simp only; rw [take_no (by omega)]
  exact .inl ⟨ht, rfl, .inl ⟨text_nil, rfl⟩⟩
/-- A tag that is one, and too few bytes behind it. -/
theorem cm_short (h : a < s.length) (h0 : 0 ≤ szOf (s.getD a 0).toNat) (hk : (s.length : Int) < (a : Int) + 1 + szOf (s.getD a 0).toNat) : ∃ c x, CM s ⟨a, 0, 0⟩ c x ∧ x.e = 1 ∧ x.p = s.length := by
  obtain ⟨t, et⟩ : ∃ t, t = (s.getD a 0).toNat := ⟨_, rfl⟩
  rw [← et] at h0 hk
  have hn : M.num ((s.drop a).take 1) = t := by rw [num_one h, et]
  rcases (show t = 1 ∨ (t = 3 ∨ t = 4) ∨ (t = 5 ∨ t = 6) ∨ (t = 7 ∨ t = 8) ∨ (t = 9 ∨ t = 10 ∨ t = 11 ∨ t = 12) ∨ (t = 0 ∨ t = 2 ∨ 12 < t) by omega) with h1 | h1 | h1 | h1 | h1 | h1
  · have hz : szOf t = 2 := by unfold szOf; rw [if_pos (by omega)]
    refine ⟨⟨1, [], 0, 0, 0⟩, ⟨a + 1, 1, s.length⟩, ?_, rfl, rfl⟩
    unfold CM; rw [take_ok (by omega), hn]; simp only; rw [take_no (k := 2) (by omega)]; simp only; rw [take_bad (by simp)]
    exact .inl ⟨h1, rfl, .inl ⟨text_nil, rfl⟩⟩
  · have hz : szOf t = 4 := by unfold szOf; rw [if_neg (by omega), if_pos (by omega)]
    refine ⟨⟨t, [], M.num [], 0, 0⟩, ⟨a + 1, 1, s.length⟩, ?_, rfl, rfl⟩
    unfold CM; rw [take_ok (by omega), hn]; simp only; rw [take_no (k := 4) (by omega)]
    exact .inr (.inl ⟨h1, rfl, rfl⟩)
  · have hz : szOf t = 8 := by unfold szOf; rw [if_neg (by omega), if_neg (by omega), if_pos (by omega)]
    refine ⟨⟨t, [], M.num [], 0, 0⟩, ⟨a + 1, 1, s.length⟩, ?_, rfl, rfl⟩
    unfold CM; rw [take_ok (by omega), hn]; simp only; rw [take_no (k := 8) (by omega)]
    exact .inr (.inr (.inl ⟨h1, rfl, rfl⟩))
  · have hz : szOf t = 2 := by unfold szOf; rw [if_pos (by omega)]
    refine ⟨⟨t, [], 0, M.num [], 0⟩, ⟨a + 1, 1, s.length⟩, ?_, rfl, rfl⟩
    unfold CM; rw [take_ok (by omega), hn]; simp only; rw [take_no (k := 2) (by omega)]
    exact .inr (.inr (.inr (.inl ⟨h1, rfl, rfl⟩)))
  · have hz : szOf t = 4 := by unfold szOf; rw [if_neg (by omega), if_pos (by omega)]
    by_cases h2 : a + 3 ≤ s.length
    · refine ⟨⟨t, [], 0, M.num ((s.drop (a + 1)).take 2), M.num []⟩, ⟨a + 3, 1, s.length⟩, ?_, rfl, rfl⟩
      unfold CM; rw [take_ok (by omega), hn]; simp only; rw [take_ok (k := 2) (a := a + 1) (by omega)]; simp only; rw [take_no (k := 2) (by omega)]
      exact .inr (.inr (.inr (.inr (.inl ⟨h1, rfl, rfl⟩))))
    · refine ⟨⟨t, [], 0, M.num [], M.num []⟩, ⟨a + 1, 1, s.length⟩, ?_, rfl, rfl⟩
      unfold CM; rw [take_ok (by omega), hn]; simp only; rw [take_no (k := 2) (a := a + 1) (by omega)]; simp only; rw [take_bad (by simp)]
      exact .inr (.inr (.inr (.inr (.inl ⟨h1, rfl, rfl⟩))))
  · exfalso; unfold szOf at h0; rw [if_neg (by omega), if_neg (by omega), if_neg (by omega)] at h0; omega
end
end Go.Proofs.Ytgihfcjddkpkaaa.Po
