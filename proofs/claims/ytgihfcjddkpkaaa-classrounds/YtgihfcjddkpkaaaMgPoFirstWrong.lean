/-
  What may not stand in a pool: wrongConst and firstWrong of package pool.
  firstWrong of package pool.
-/
import Derived.Test.YtgihfcjddkpkaaaMgPoAppend
namespace Go.Proofs.Ytgihfcjddkpkaaa.Po
open Go.RowKit
/-- What is wrong with a constant by itself. -/
def Wrong (c : K) (e : Nat) : Prop :=
  (c.tag = 1 ∧ ((¬ M.IsText c.text ∧ e = 6) ∨ (M.IsText c.text ∧ ((65535 < c.text.length ∧ e = 12) ∨ (c.text.length ≤ 65535 ∧ e = 0))))) ∨
  ((c.tag = 3 ∨ c.tag = 4) ∧ ((4294967296 ≤ c.bits ∧ e = 12) ∨ (c.bits < 4294967296 ∧ e = 0))) ∨
  ((c.tag = 0 ∨ (5 ≤ c.tag ∧ c.tag ≤ 12)) ∧ e = 0) ∨ ((c.tag = 2 ∨ 12 < c.tag) ∧ e = 5)
theorem Wrong.uniq {c : K} {e f : Nat} (h : Wrong c e) (g : Wrong c f) : e = f := by
  rcases h with ⟨h1, h2⟩ | ⟨h1, h2⟩ | ⟨h1, h2⟩ | ⟨h1, h2⟩ <;> rcases g with ⟨g1, g2⟩ | ⟨g1, g2⟩ | ⟨g1, g2⟩ | ⟨g1, g2⟩ <;> first | omega | skip
  rcases h2 with ⟨a, b⟩ | ⟨a, b⟩ <;> rcases g2 with ⟨a', b'⟩ | ⟨a', b'⟩ <;> first | omega | exact absurd a' a | exact absurd a a' | skip
/-- A constant whose fields fit. -/
structure Fits (c : K) : Prop where
  tag : c.tag < 256
  text : c.text.length ≤ 131072
  bits : c.bits < 2 ^ 64
  a : c.a < 65536
  b : c.b < 65536
abbrev K.val (c : K) : Value := .agg #[.int .u8 (c.tag : Int), .string ⟨c.text.toArray⟩, .int .u64 (c.bits : Int), .int .u16 (c.a : Int), .int .u16 (c.b : Int)]
set_option maxRecDepth 100000 in
set_option maxHeartbeats 2000000 in
theorem wrongConst_any (c : K) (w : World) (hc : Fits c) :
    Calls Try.prog 106 #[c.val] w fun e w' => ∃ x, Wrong c x ∧ e = .returned (.int .i64 (x : Nat)) ∧ Below w.heap.size w w' := by
  obtain ⟨t, tx, bt, ca, cb⟩ := c
  obtain ⟨f1, f2, f3, f4, f5⟩ := hc
  simp only at f1 f2 f3 f4 f5
  have hbw : Below w.heap.size w (w.alloc (.cells #[.int .u8 (t : Int), .string ⟨tx.toArray⟩, .int .u64 (bt : Int), .int .u16 (ca : Int), .int .u16 (cb : Int)] 78)) := (Below.refl _ _).alloc (Nat.le_refl _) _
  clear f3
  rcases (show t = 1 ∨ t = 3 ∨ t = 4 ∨ t = 0 ∨ t = 5 ∨ t = 6 ∨ t = 7 ∨ t = 8 ∨ t = 9 ∨ t = 10 ∨ t = 11 ∨ t = 12 ∨ (t = 2 ∨ 12 < t) by omega) with rfl | rfl | rfl | rfl | rfl | rfl | rfl | rfl | rfl | rfl | rfl | rfl | ht
  · have htz : (⟨tx.toArray⟩ : ByteArray).size = tx.length := by show tx.toArray.size = _; simp
    go_enter Try.func106, Try.ntmps106
    go_wp2_with fail
    refine (isText_any ⟨tx.toArray⟩ _ (by rw [htz]; exact f2)).mono ?_
    rintro e w1 ⟨⟨rfl, hx⟩ | ⟨rfl, hx⟩, hb1⟩
    · have hb : Below w.heap.size w w1 := hbw.trans (hb1.mono hbw.size)
      have hkb : Kb (w.alloc (.cells #[.int .u8 (1 : Nat), .string ⟨tx.toArray⟩, .int .u64 (bt : Int), .int .u16 (ca : Int), .int .u16 (cb : Int)] 78)) w.heap.size ⟨1, tx, bt, ca, cb⟩ := heap_alloc_new w _
      have hk1 := (hkb.kept (grown_of_below hb1 none) (by simp)).cell 1
      simp at hk1
      have hxx : M.IsText tx := hx
      clear hkb hb1 hbw hx
      by_cases hl : 65535 < tx.length
      · go_wp2
        go_ret
        exact ⟨12, .inl ⟨rfl, .inr ⟨hxx, .inl ⟨hl, rfl⟩⟩⟩, rfl, hb⟩
      · have hl0 := hide (Nat.le_of_not_lt hl)
        go_wp2
        go_ret
        exact ⟨0, .inl ⟨rfl, .inr ⟨hxx, .inr ⟨unhide hl0, rfl⟩⟩⟩, rfl, hb⟩
    · have hb : Below w.heap.size w w1 := hbw.trans (hb1.mono hbw.size)
      have hxx : ¬ M.IsText tx := hx
      clear hb1 hbw hx
      go_wp2
      go_ret
      exact ⟨6, .inl ⟨rfl, .inl ⟨hxx, rfl⟩⟩, rfl, hb⟩
  · by_cases hl : 4294967296 ≤ bt
    · have hli : (4294967296 : Int) ≤ (bt : Int) := by omega
      go_enter Try.func106, Try.ntmps106
      go_wp2
      go_ret
      exact ⟨12, .inr (.inl ⟨.inl rfl, .inl ⟨hl, rfl⟩⟩), rfl, hbw⟩
    · have hli : decide ((4294967296 : Int) ≤ (bt : Int)) = false := by simp; omega
      have hl0 := hide (Nat.lt_of_not_le hl)
      clear hl
      go_enter Try.func106, Try.ntmps106
      go_wp2
      go_ret
      exact ⟨0, .inr (.inl ⟨.inl rfl, .inr ⟨unhide hl0, rfl⟩⟩), rfl, hbw⟩
  · by_cases hl : 4294967296 ≤ bt
    · have hli : (4294967296 : Int) ≤ (bt : Int) := by omega
      go_enter Try.func106, Try.ntmps106
      go_wp2
      go_ret
      exact ⟨12, .inr (.inl ⟨.inr rfl, .inl ⟨hl, rfl⟩⟩), rfl, hbw⟩
    · have hli : decide ((4294967296 : Int) ≤ (bt : Int)) = false := by simp; omega
      have hl0 := hide (Nat.lt_of_not_le hl)
      clear hl
      go_enter Try.func106, Try.ntmps106
      go_wp2
      go_ret
      exact ⟨0, .inr (.inl ⟨.inr rfl, .inr ⟨unhide hl0, rfl⟩⟩), rfl, hbw⟩
  iterate 9
    · go_enter Try.func106, Try.ntmps106
      go_wp2
      go_ret
      exact ⟨0, .inr (.inr (.inl ⟨by simp, rfl⟩)), rfl, hbw⟩
  have e0 : ((t : Int) == 0) = false := by rw [beq_eq_false_iff_ne]; omega
  have e1 : ((t : Int) == 1) = false := by rw [beq_eq_false_iff_ne]; omega
  have e3 : ((t : Int) == 3) = false := by rw [beq_eq_false_iff_ne]; omega
  have e4 : ((t : Int) == 4) = false := by rw [beq_eq_false_iff_ne]; omega
  have e5 : ((t : Int) == 5) = false := by rw [beq_eq_false_iff_ne]; omega
  have e6 : ((t : Int) == 6) = false := by rw [beq_eq_false_iff_ne]; omega
  have e7 : ((t : Int) == 7) = false := by rw [beq_eq_false_iff_ne]; omega
  have e8 : ((t : Int) == 8) = false := by rw [beq_eq_false_iff_ne]; omega
  have e9 : ((t : Int) == 9) = false := by rw [beq_eq_false_iff_ne]; omega
  have e10 : ((t : Int) == 10) = false := by rw [beq_eq_false_iff_ne]; omega
  have e11 : ((t : Int) == 11) = false := by rw [beq_eq_false_iff_ne]; omega
  have e12 : ((t : Int) == 12) = false := by rw [beq_eq_false_iff_ne]; omega
  have hw5 : Wrong ⟨t, tx, bt, ca, cb⟩ 5 := .inr (.inr (.inr ⟨ht, rfl⟩))
  clear ht
  go_enter Try.func106, Try.ntmps106
  go_wp2
  go_ret
  exact ⟨5, hw5, rfl, hbw⟩
/-- Is a constant of Tag 0 asked next? -/
def twoB (t : Nat) : Bool := decide (t = 5 ∨ t = 6)
/-- The first that is wrong from a constant on. -/
def Scan : List K → Nat → Bool → Nat × Nat → Prop
  | [], k, bl, r => (bl = true ∧ r = (5, k)) ∨ (bl = false ∧ r = (0, 0))
  | c :: t, k, bl, r => (bl ≠ decide (c.tag = 0) ∧ r = (5, k)) ∨ (bl = decide (c.tag = 0) ∧ ∃ e, Wrong c e ∧ ((e ≠ 0 ∧ r = (e, k)) ∨ (e = 0 ∧ Scan t (k + 1) (twoB c.tag) r)))
theorem Scan.uniq : ∀ {l : List K} {k : Nat} {b : Bool} {r q : Nat × Nat}, Scan l k b r → Scan l k b q → r = q
  | [], k, b, r, q, h, g => by
    rcases h with ⟨h1, h2⟩ | ⟨h1, h2⟩ <;> rcases g with ⟨g1, g2⟩ | ⟨g1, g2⟩
    · exact h2.trans g2.symm
    · rw [h1] at g1; cases g1
    · rw [h1] at g1; cases g1
    · exact h2.trans g2.symm
  | c :: t, k, b, r, q, h, g => by
    rcases h with ⟨h1, h2⟩ | ⟨h1, e, he, h2⟩ <;> rcases g with ⟨g1, g2⟩ | ⟨g1, f, hf, g2⟩
    · exact h2.trans g2.symm
    · exact absurd g1 h1
    · exact absurd h1 g1
    · obtain rfl := he.uniq hf
      rcases h2 with ⟨a, h3⟩ | ⟨a, h3⟩ <;> rcases g2 with ⟨b', g3⟩ | ⟨b', g3⟩
      · exact h3.trans g3.symm
      · exact absurd b' a
      · exact absurd a b'
      · exact h3.uniq g3
/-- All fields of all constants fit. -/
def AllFit (l : List K) : Prop := ∀ c ∈ l, Fits c
/-- A slice that came in reads as these constants. -/
def In (w : World) (b off : Nat) (l : List K) : Prop := b < w.heap.size ∧ ∀ j, j < l.length * 5 → w.cell? ⟨b, off + j, none⟩ = (KC l)[j]?
theorem In.at {w wr : World} {b off : Nat} {l : List K} (h : In w b off l) (hb : Below w.heap.size w wr) (k : Nat) (hk : k < l.length) :
    wr.cell? ⟨b, off + k * 5, none⟩ = some (.int .u8 ((l.getD k K.zero).tag : Int)) ∧ wr.cell? ⟨b, off + k * 5 + 1, none⟩ = some (.string ⟨(l.getD k K.zero).text.toArray⟩) ∧ wr.cell? ⟨b, off + k * 5 + 2, none⟩ = some (.int .u64 ((l.getD k K.zero).bits : Int)) ∧
    wr.cell? ⟨b, off + k * 5 + 3, none⟩ = some (.int .u16 ((l.getD k K.zero).a : Int)) ∧ wr.cell? ⟨b, off + k * 5 + 4, none⟩ = some (.int .u16 ((l.getD k K.zero).b : Int)) := by
  have x : ∀ i, i < 5 → wr.cell? ⟨b, off + k * 5 + i, none⟩ = (l.getD k K.zero).cells[i]? := fun i hi => by
    rw [Nat.add_assoc, hb.cell h.1, h.2 _ (by omega), KC_at l k i hk hi]
  exact ⟨x 0 (by omega), x 1 (by omega), x 2 (by omega), x 3 (by omega), x 4 (by omega)⟩
end Go.Proofs.Ytgihfcjddkpkaaa.Po
namespace Go.Proofs.Ytgihfcjddkpkaaa.Po
open Go.RowKit
theorem two_any (n : Nat) (w : World) (h : n < 256) : Calls Try.prog 107 #[.int .u8 (n : Int)] w fun e w' => e = .returned (.bool (twoB n)) ∧ w' = w := takesTwo_any n w h
theorem drop_cons {l : List K} {k : Nat} (h : k < l.length) : l.drop k = l.getD k K.zero :: l.drop (k + 1) := by
  rw [List.drop_eq_getElem_cons h]; simp [List.getD, List.getElem?_eq_getElem h]
set_option maxRecDepth 100000 in
set_option maxHeartbeats 4000000 in
theorem firstWrong_main (b off cap : Nat) (l : List K) (w : World) (h1 : 1 ≤ l.length) (h2 : l.length ≤ 65535) (hf : AllFit l) (hin : In w b off l) :
    Calls Try.prog 82 #[.slice (some ⟨b, off, none⟩) l.length cap] w fun e w' => ∃ x k, Scan l 0 true (x, k) ∧ e = .returned (.tuple #[.int .i64 (x : Nat), .int .i64 (k : Nat)]) ∧ Below w.heap.size w w' := by
  have hnz : ((l.length : Int) == 0) = false := by rw [beq_eq_false_iff_ne]; omega
  go_enter Try.func82, Try.ntmps82
  go_wp2_with fail
  go_loopw [4, 18] (fun v i wr => ∃ k bl, k ≤ l.length ∧ i = .int .i64 (k : Nat) ∧ v = .bool bl ∧ (∀ r, Scan (l.drop k) k bl r → Scan l 0 true r) ∧ Below w.heap.size w wr) (fun _ i _ => l.length - (intOf i).toNat)
  case atStart => exact ⟨0, true, Nat.zero_le _, rfl, rfl, fun r hr => hr, Below.refl _ _⟩
  case round =>
    obtain ⟨k, bl, hk, rfl, rfl, hS, hbe⟩ := hrel
    have HS := hide hS
    clear hS
    by_cases hlt : k < l.length
    · obtain ⟨x0, x1, x2, x3, x4⟩ := hin.at hbe k hlt
      have hdr := drop_cons hlt
      obtain ⟨c, ec⟩ : ∃ c, c = l.getD k K.zero := ⟨_, rfl⟩
      rw [← ec] at x0 x1 x2 x3 x4 hdr
      have hfc : Fits c := by rw [ec]; exact hf _ (by simp [List.getD, List.getElem?_eq_getElem hlt])
      have hwc := fun w1 => wrongConst_any c w1 hfc
      have hti := hfc.tag
      have Hdr := hide hdr
      have Hwc := hide hwc
      have hsz := hbe.size
      clear hdr hwc ec hfc
      have hkb : Kb (wr.alloc (.cells #[.int .u8 (c.tag : Int), .string ⟨c.text.toArray⟩, .int .u64 (c.bits : Int), .int .u16 (c.a : Int), .int .u16 (c.b : Int)] 78)) wr.heap.size c := heap_alloc_new wr _
      have hb1 : Below w.heap.size w (wr.alloc (.cells #[.int .u8 (c.tag : Int), .string ⟨c.text.toArray⟩, .int .u64 (c.bits : Int), .int .u16 (c.a : Int), .int .u16 (c.b : Int)] 78)) := hbe.alloc hsz _
      have Hkb := hide hkb
      clear hkb
      by_cases hz : c.tag = 0
      · obtain ⟨tg, tx, bt, ca, cb⟩ := c
        simp only at hz hti
        subst hz
        cases bl with
        | true =>
          go_wp2_with fail
          refine (unhide Hwc _).mono ?_
          rintro e w2 ⟨x, hx, rfl, hb2⟩
          have hbz := hb1.trans (hb2.mono hb1.size)
          have hkb2 := (unhide Hkb).kept (grown_of_below hb2 none) (by simp)
          clear Hkb hb2 hb1 Hwc x0 x1 x2 x3 x4
          have q0 := hkb2.cell 0
          simp at q0
          by_cases hx0 : x = 0
          · subst hx0
            have hS2 : ∀ r, Scan (l.drop (k + 1)) (k + 1) (twoB 0) r → Scan l 0 true r := fun r hr => unhide HS r (by rw [unhide Hdr]; exact .inr ⟨rfl, 0, hx, .inr ⟨rfl, hr⟩⟩)
            have HS2 := hide hS2
            clear hS2 hx HS Hdr
            go_wp2_with fail
            refine (two_any 0 _ (by omega)).mono ?_
            rintro e w3 ⟨rfl, hww⟩
            subst w3
            go_wp2
            go_roundw
            case rel => exact ⟨k + 1, _, by omega, by go_num, rfl, unhide HS2, hbz⟩
            case measure => simp [intOf]; omega
          · have hxb : ((x : Int) != 0) = true := by rw [bne_iff_ne]; omega
            have hS2 := unhide HS (x, k) (by rw [unhide Hdr]; exact .inr ⟨rfl, x, hx, .inl ⟨hx0, rfl⟩⟩)
            clear hx0 hx HS Hdr
            go_wp2
            go_ret2
            exact ⟨x, k, hS2, rfl, hbz⟩
        | false =>
          have hS2 := unhide HS (5, k) (by rw [unhide Hdr]; exact .inl ⟨by simp, rfl⟩)
          clear HS Hdr Hwc Hkb
          go_wp2
          go_ret2
          exact ⟨5, k, hS2, rfl, hb1⟩
      · have hzi : ((c.tag : Int) == 0) = false := by rw [beq_eq_false_iff_ne]; omega
        have hdz : decide (c.tag = 0) = false := decide_eq_false hz
        have Hdz := hide hdz
        clear hz hdz
        cases bl with
        | true =>
          have hS2 := unhide HS (5, k) (by rw [unhide Hdr]; exact .inl ⟨by rw [unhide Hdz]; simp, rfl⟩)
          clear HS Hdr Hwc Hkb Hdz
          go_wp2
          go_ret2
          exact ⟨5, k, hS2, rfl, hb1⟩
        | false =>
          go_wp2_with fail
          refine (unhide Hwc _).mono ?_
          rintro e w2 ⟨x, hx, rfl, hb2⟩
          have hbz := hb1.trans (hb2.mono hb1.size)
          have hkb2 := (unhide Hkb).kept (grown_of_below hb2 none) (by simp)
          clear Hkb hb2 hb1 Hwc x0 x1 x2 x3 x4
          have q0 := hkb2.cell 0
          simp at q0
          by_cases hx0 : x = 0
          · subst hx0
            have hS2 : ∀ r, Scan (l.drop (k + 1)) (k + 1) (twoB c.tag) r → Scan l 0 true r := fun r hr => unhide HS r (by rw [unhide Hdr]; exact .inr ⟨(unhide Hdz).symm, 0, hx, .inr ⟨rfl, hr⟩⟩)
            have HS2 := hide hS2
            clear hS2 hx HS Hdr Hdz
            go_wp2_with fail
            refine (two_any c.tag _ hti).mono ?_
            rintro e w3 ⟨rfl, hww⟩
            subst w3
            go_wp2
            go_roundw
            case rel => exact ⟨k + 1, _, by omega, by go_num, rfl, unhide HS2, hbz⟩
            case measure => simp [intOf]; omega
          · have hxb : ((x : Int) != 0) = true := by rw [bne_iff_ne]; omega
            have hS2 := unhide HS (x, k) (by rw [unhide Hdr]; exact .inr ⟨(unhide Hdz).symm, x, hx, .inl ⟨hx0, rfl⟩⟩)
            clear hx0 hx HS Hdr Hdz
            go_wp2
            go_ret2
            exact ⟨x, k, hS2, rfl, hbz⟩
    · have hkl : k = l.length := by omega
      subst hkl
      have hdn : l.drop l.length = [] := List.drop_length
      cases bl with
      | true =>
        have hS2 := unhide HS (5, l.length) (by rw [hdn]; exact .inl ⟨rfl, rfl⟩)
        clear hdn HS
        go_wp2
        go_ret2
        exact ⟨5, l.length, hS2, rfl, hbe⟩
      | false =>
        have hS2 := unhide HS (0, 0) (by rw [hdn]; exact .inr ⟨rfl, rfl⟩)
        clear hdn HS
        go_wp2
        go_ret2
        exact ⟨0, 0, hS2, rfl, hbe⟩
set_option maxRecDepth 100000 in
set_option maxHeartbeats 1000000 in
theorem firstWrong_len (a : Option Addr) (n cap : Nat) (w : World) (hm : n ≤ maxLen) (hn : n = 0 ∨ 65535 < n) :
    Calls Try.prog 82 #[.slice a n cap] w fun e w' => e = .returned (.tuple #[.int .i64 12, .int .i64 0]) ∧ w' = w := by
  unfold maxLen at hm
  rcases hn with rfl | hn
  · go_enter Try.func82, Try.ntmps82
    go_wp2
    go_ret2
    exact ⟨rfl, rfl⟩
  · have hnz : ((n : Int) == 0) = false := by rw [beq_eq_false_iff_ne]; omega
    go_enter Try.func82, Try.ntmps82
    go_wp2
    go_ret2
    exact ⟨rfl, rfl⟩
end Go.Proofs.Ytgihfcjddkpkaaa.Po
