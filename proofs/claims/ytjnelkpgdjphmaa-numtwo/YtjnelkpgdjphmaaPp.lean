import Derived.Test.YtjnelkpgdjphmaaBa32
import Derived.Test.YtjnelkpgdjphmaaBa64
import Derived.Laws.FloatArith
namespace Go.Proofs.Ytjnelkpgdjphmaa
open Go.RowKit
set_option linter.unusedVariables false
set_option linter.unusedSimpArgs false

/-- A NaN whose bits the language leaves open. -/
def nanAt (k : FloatKind) (x y : Nat) (w : World) : Nat := (Question.nanBits k x y).cut (w.tape w.drawn (Question.nanBits k x y))
theorem nan_cut32 (t : Nat) : 2139095040 < (t % 2 * 2147483648 + 2139095040 + 1 + t / 2 % 8388607) % 2147483648 := by
  have h2 : t / 2 % 8388607 < 8388607 := Nat.mod_lt _ (by omega)
  generalize t / 2 % 8388607 = b at *
  rcases (show t % 2 = 0 ∨ t % 2 = 1 by omega) with h | h <;> rw [h] <;> omega
theorem nan_cut64 (t : Nat) : 9218868437227405312 < (t % 2 * 9223372036854775808 + 9218868437227405312 + 1 + t / 2 % 4503599627370495) % 9223372036854775808 := by
  have h2 : t / 2 % 4503599627370495 < 4503599627370495 := Nat.mod_lt _ (by omega)
  generalize t / 2 % 4503599627370495 = b at *
  rcases (show t % 2 = 0 ∨ t % 2 = 1 by omega) with h | h <;> rw [h] <;> omega
theorem nan_order32 (x y : Nat) (w : World) : Ieee.single.order (nanAt .f32 x y w) (nanAt .f32 x y w) = none := by
  apply Nm.order_nan _ _ _ (by decide)
  left
  rw [Nm.s_sign, Nm.s_inf]
  exact nan_cut32 _
theorem nan_order64 (x y : Nat) (w : World) : Ieee.double.order (nanAt .f64 x y w) (nanAt .f64 x y w) = none := by
  apply Nm.order_nan _ _ _ (by decide)
  left
  rw [Nm.d_sign, Nm.d_inf]
  exact nan_cut64 _

theorem run_none (op : BinOp) (t : TypeId) (k : FloatKind) (x y : Nat) (w : World) (ho : op = .add ∨ op = .sub ∨ op = .mul ∨ op = .quo) (h : floatBits op k x y = none) :
    (binOp op t (.float k x) (.float k y)).run Try.prog w = .ok (.float k (nanAt k x y w)) w.drew := by
  unfold floatBits at h
  rcases ho with rfl | rfl | rfl | rfl <;> simp only at h <;> simp [binOp, Op.floatArith, h, Question.forced, nanAt]

theorem sum_num {a b d : Ieee.Datum} (h : a.sum b = some d) : d.isNaN = false := by
  cases a <;> cases b <;> simp only [Ieee.Datum.sum] at h <;> first | (cases h; done) | (cases h; rfl) | (split at h <;> first | (cases h; done) | (cases h; rfl))
theorem product_num {a b d : Ieee.Datum} (h : a.product b = some d) : d.isNaN = false := by
  cases a <;> cases b <;> simp only [Ieee.Datum.product] at h <;> first | (cases h; done) | (cases h; rfl) | (split at h <;> first | (cases h; done) | (cases h; rfl))
theorem quotient_num {n : Nat} {a b d : Ieee.Datum} (h : a.quotient n b = some d) : d.isNaN = false := by
  cases a <;> cases b <;> simp only [Ieee.Datum.quotient] at h <;> first | (cases h; done) | (cases h; rfl) | (split at h <;> first | (cases h; done) | (cases h; rfl) | (split at h <;> first | (cases h; done) | (cases h; rfl)))
theorem word_mod (f : Ieee.Format) (neg : Bool) (g : Nat) (hg : g < f.signWeight) : f.word neg g % f.signWeight = g ∧ f.word neg g < 2 * f.signWeight := by
  unfold Ieee.Format.word
  cases neg
  · simp only [Bool.false_eq_true, if_false]
    exact ⟨Nat.mod_eq_of_lt hg, by omega⟩
  · simp only [if_true]
    rw [Nat.add_mod_left, Nat.mod_eq_of_lt hg]
    exact ⟨rfl, by omega⟩
theorem write_num (f : Ieee.Format) (d : Ieee.Datum) (hd : d.isNaN = false) (hi : f.infRung < f.signWeight) : f.write d % f.signWeight ≤ f.infRung ∧ f.write d < 2 * f.signWeight := by
  cases d with
  | nan => cases hd
  | infinity s =>
    obtain ⟨a, b⟩ := word_mod f s f.infRung hi
    simp only [Ieee.Format.write]
    exact ⟨by rw [a]; exact Nat.le_refl _, b⟩
  | number s m e =>
    simp only [Ieee.Format.write, Ieee.Format.nearest]
    split
    · obtain ⟨a, b⟩ := word_mod f s 0 (by omega)
      exact ⟨by rw [a]; omega, b⟩
    · obtain ⟨a, b⟩ := word_mod f s (min _ f.infRung) (Nat.lt_of_le_of_lt (Nat.min_le_right _ f.infRung) hi)
      exact ⟨by rw [a]; exact Nat.min_le_right _ _, b⟩

/-- A float that is given as v. -/
def Fl32 (r v : Nat) : Prop := (Ieee.single.order r r = none ∧ v = 2143289344) ∨ (Ieee.single.order r r = some .eq ∧ v = r ∧ r < 4294967296)

theorem order_self32 (r : Nat) (h : r % 2147483648 ≤ 2139095040) (hr : r < 4294967296) : Ieee.single.order r r = some .eq := by
  rw [Nm.order_any Ieee.single r r (by decide) (by rw [Nm.s_sign]; omega) (by rw [Nm.s_sign]; omega) (by rw [Nm.s_sign, Nm.s_inf]; exact h) (by rw [Nm.s_sign, Nm.s_inf]; exact h)]
  simp [compare, compareOfLessAndEq]

theorem fl_some32 {d : Option Ieee.Datum} {r : Nat} (h : d.map Ieee.single.write = some r) (hd : ∀ z, d = some z → z.isNaN = false) : Fl32 r (Wr32 d) := by
  have hw := wr32 h
  cases d with
  | none => cases h
  | some z =>
    obtain ⟨a, b⟩ := write_num Ieee.single z (hd z rfl) (by decide)
    simp only [Option.map_some, Option.some.injEq] at h
    rw [h, Nm.s_sign, Nm.s_inf] at a
    rw [h, Nm.s_sign] at b
    exact .inr ⟨order_self32 r a (by omega), hw, by omega⟩

abbrev Gf32 (what x y : Nat) (w : World) : Prop :=
  Calls Try.prog 34 #[.int .u8 (what : Int), .float .f32 x, .float .f32 y] w fun e w' => (∃ r, e = .returned (.float .f32 r) ∧ Fl32 r (Fb32 what x y)) ∧ Grown w w'

theorem ofParts32_add (x y : Nat) (w : World) : Gf32 0 x y w := by
  have hF : Fb32 0 x y = Wr32 ((Ieee.single.read x).sum (Ieee.single.read y)) := rfl
  cases h : Ieee.single.add x y with
  | some r =>
    have hfl : Fl32 r (Fb32 0 x y) := by
      rw [hF]
      exact fl_some32 h (fun z hz => sum_num hz)
    have Hfl := hide hfl
    have hr := fun w => run_float_arith (P := Try.prog) w .add 49 .f32 x y r h
    clear hfl hF
    show Calls Try.prog 34 #[.int .u8 0, .float .f32 x, .float .f32 y] w _
    go_enter Try.func34, Try.ntmps34
    go_wp2
    go_ret
    exact ⟨⟨r, rfl, unhide Hfl⟩, Grown.refl _⟩
  | none =>
    have hfl : ∀ n, Ieee.single.order n n = none → Fl32 n (Fb32 0 x y) := by
      intro n hn
      refine .inl ⟨hn, ?_⟩
      rw [hF]
      have : Option.map Ieee.single.write ((Ieee.single.read x).sum (Ieee.single.read y)) = none := h
      unfold Wr32
      rw [this]
      rfl
    have Hfl := hide hfl
    have hr := fun w => run_none .add 49 .f32 x y w (.inl rfl) h
    clear hfl hF
    show Calls Try.prog 34 #[.int .u8 0, .float .f32 x, .float .f32 y] w _
    go_enter Try.func34, Try.ntmps34
    go_wp2
    go_ret
    exact ⟨⟨_, rfl, unhide Hfl _ (nan_order32 x y w)⟩, (Grown.refl w).drew⟩

theorem ofParts32_sub (x y : Nat) (w : World) : Gf32 1 x y w := by
  have hF : Fb32 1 x y = Wr32 ((Ieee.single.read x).sum (Ieee.single.read y).opposite) := rfl
  cases h : Ieee.single.sub x y with
  | some r =>
    have hfl : Fl32 r (Fb32 1 x y) := by
      rw [hF]
      exact fl_some32 h (fun z hz => sum_num hz)
    have Hfl := hide hfl
    have hr := fun w => run_float_arith (P := Try.prog) w .sub 49 .f32 x y r h
    clear hfl hF
    show Calls Try.prog 34 #[.int .u8 1, .float .f32 x, .float .f32 y] w _
    go_enter Try.func34, Try.ntmps34
    go_wp2
    go_ret
    exact ⟨⟨r, rfl, unhide Hfl⟩, Grown.refl _⟩
  | none =>
    have hfl : ∀ n, Ieee.single.order n n = none → Fl32 n (Fb32 1 x y) := by
      intro n hn
      refine .inl ⟨hn, ?_⟩
      rw [hF]
      have : Option.map Ieee.single.write ((Ieee.single.read x).sum (Ieee.single.read y).opposite) = none := h
      unfold Wr32
      rw [this]
      rfl
    have Hfl := hide hfl
    have hr := fun w => run_none .sub 49 .f32 x y w (.inr (.inl rfl)) h
    clear hfl hF
    show Calls Try.prog 34 #[.int .u8 1, .float .f32 x, .float .f32 y] w _
    go_enter Try.func34, Try.ntmps34
    go_wp2
    go_ret
    exact ⟨⟨_, rfl, unhide Hfl _ (nan_order32 x y w)⟩, (Grown.refl w).drew⟩

theorem ofParts32_mul (x y : Nat) (w : World) : Gf32 2 x y w := by
  have hF : Fb32 2 x y = Wr32 ((Ieee.single.read x).product (Ieee.single.read y)) := rfl
  cases h : Ieee.single.mul x y with
  | some r =>
    have hfl : Fl32 r (Fb32 2 x y) := by
      rw [hF]
      exact fl_some32 h (fun z hz => product_num hz)
    have Hfl := hide hfl
    have hr := fun w => run_float_arith (P := Try.prog) w .mul 49 .f32 x y r h
    clear hfl hF
    show Calls Try.prog 34 #[.int .u8 2, .float .f32 x, .float .f32 y] w _
    go_enter Try.func34, Try.ntmps34
    go_wp2
    go_ret
    exact ⟨⟨r, rfl, unhide Hfl⟩, Grown.refl _⟩
  | none =>
    have hfl : ∀ n, Ieee.single.order n n = none → Fl32 n (Fb32 2 x y) := by
      intro n hn
      refine .inl ⟨hn, ?_⟩
      rw [hF]
      have : Option.map Ieee.single.write ((Ieee.single.read x).product (Ieee.single.read y)) = none := h
      unfold Wr32
      rw [this]
      rfl
    have Hfl := hide hfl
    have hr := fun w => run_none .mul 49 .f32 x y w (.inr (.inr (.inl rfl))) h
    clear hfl hF
    show Calls Try.prog 34 #[.int .u8 2, .float .f32 x, .float .f32 y] w _
    go_enter Try.func34, Try.ntmps34
    go_wp2
    go_ret
    exact ⟨⟨_, rfl, unhide Hfl _ (nan_order32 x y w)⟩, (Grown.refl w).drew⟩

theorem ofParts32_quo (x y : Nat) (w : World) : Gf32 3 x y w := by
  have hF : Fb32 3 x y = Wr32 ((Ieee.single.read x).quotient (Ieee.single.fractionBits + 2) (Ieee.single.read y)) := rfl
  cases h : Ieee.single.div x y with
  | some r =>
    have hfl : Fl32 r (Fb32 3 x y) := by
      rw [hF]
      exact fl_some32 h (fun z hz => quotient_num hz)
    have Hfl := hide hfl
    have hr := fun w => run_float_arith (P := Try.prog) w .quo 49 .f32 x y r h
    clear hfl hF
    show Calls Try.prog 34 #[.int .u8 3, .float .f32 x, .float .f32 y] w _
    go_enter Try.func34, Try.ntmps34
    go_wp2
    go_ret
    exact ⟨⟨r, rfl, unhide Hfl⟩, Grown.refl _⟩
  | none =>
    have hfl : ∀ n, Ieee.single.order n n = none → Fl32 n (Fb32 3 x y) := by
      intro n hn
      refine .inl ⟨hn, ?_⟩
      rw [hF]
      have : Option.map Ieee.single.write ((Ieee.single.read x).quotient (Ieee.single.fractionBits + 2) (Ieee.single.read y)) = none := h
      unfold Wr32
      rw [this]
      rfl
    have Hfl := hide hfl
    have hr := fun w => run_none .quo 49 .f32 x y w (.inr (.inr (.inr rfl))) h
    clear hfl hF
    show Calls Try.prog 34 #[.int .u8 3, .float .f32 x, .float .f32 y] w _
    go_enter Try.func34, Try.ntmps34
    go_wp2
    go_ret
    exact ⟨⟨_, rfl, unhide Hfl _ (nan_order32 x y w)⟩, (Grown.refl w).drew⟩

/-- A float that is given as v. -/
def Fl64 (r v : Nat) : Prop := (Ieee.double.order r r = none ∧ v = 9221120237041090560) ∨ (Ieee.double.order r r = some .eq ∧ v = r ∧ r < 18446744073709551616)

theorem order_self64 (r : Nat) (h : r % 9223372036854775808 ≤ 9218868437227405312) (hr : r < 18446744073709551616) : Ieee.double.order r r = some .eq := by
  rw [Nm.order_any Ieee.double r r (by decide) (by rw [Nm.d_sign]; omega) (by rw [Nm.d_sign]; omega) (by rw [Nm.d_sign, Nm.d_inf]; exact h) (by rw [Nm.d_sign, Nm.d_inf]; exact h)]
  simp [compare, compareOfLessAndEq]

theorem fl_some64 {d : Option Ieee.Datum} {r : Nat} (h : d.map Ieee.double.write = some r) (hd : ∀ z, d = some z → z.isNaN = false) : Fl64 r (Wr64 d) := by
  have hw := wr64 h
  cases d with
  | none => cases h
  | some z =>
    obtain ⟨a, b⟩ := write_num Ieee.double z (hd z rfl) (by decide)
    simp only [Option.map_some, Option.some.injEq] at h
    rw [h, Nm.d_sign, Nm.d_inf] at a
    rw [h, Nm.d_sign] at b
    exact .inr ⟨order_self64 r a (by omega), hw, by omega⟩

abbrev Gf64 (what x y : Nat) (w : World) : Prop :=
  Calls Try.prog 37 #[.int .u8 (what : Int), .float .f64 x, .float .f64 y] w fun e w' => (∃ r, e = .returned (.float .f64 r) ∧ Fl64 r (Fb64 what x y)) ∧ Grown w w'

theorem ofParts64_add (x y : Nat) (w : World) : Gf64 0 x y w := by
  have hF : Fb64 0 x y = Wr64 ((Ieee.double.read x).sum (Ieee.double.read y)) := rfl
  cases h : Ieee.double.add x y with
  | some r =>
    have hfl : Fl64 r (Fb64 0 x y) := by
      rw [hF]
      exact fl_some64 h (fun z hz => sum_num hz)
    have Hfl := hide hfl
    have hr := fun w => run_float_arith (P := Try.prog) w .add 53 .f64 x y r h
    clear hfl hF
    show Calls Try.prog 37 #[.int .u8 0, .float .f64 x, .float .f64 y] w _
    go_enter Try.func37, Try.ntmps37
    go_wp2
    go_ret
    exact ⟨⟨r, rfl, unhide Hfl⟩, Grown.refl _⟩
  | none =>
    have hfl : ∀ n, Ieee.double.order n n = none → Fl64 n (Fb64 0 x y) := by
      intro n hn
      refine .inl ⟨hn, ?_⟩
      rw [hF]
      have : Option.map Ieee.double.write ((Ieee.double.read x).sum (Ieee.double.read y)) = none := h
      unfold Wr64
      rw [this]
      rfl
    have Hfl := hide hfl
    have hr := fun w => run_none .add 53 .f64 x y w (.inl rfl) h
    clear hfl hF
    show Calls Try.prog 37 #[.int .u8 0, .float .f64 x, .float .f64 y] w _
    go_enter Try.func37, Try.ntmps37
    go_wp2
    go_ret
    exact ⟨⟨_, rfl, unhide Hfl _ (nan_order64 x y w)⟩, (Grown.refl w).drew⟩

theorem ofParts64_sub (x y : Nat) (w : World) : Gf64 1 x y w := by
  have hF : Fb64 1 x y = Wr64 ((Ieee.double.read x).sum (Ieee.double.read y).opposite) := rfl
  cases h : Ieee.double.sub x y with
  | some r =>
    have hfl : Fl64 r (Fb64 1 x y) := by
      rw [hF]
      exact fl_some64 h (fun z hz => sum_num hz)
    have Hfl := hide hfl
    have hr := fun w => run_float_arith (P := Try.prog) w .sub 53 .f64 x y r h
    clear hfl hF
    show Calls Try.prog 37 #[.int .u8 1, .float .f64 x, .float .f64 y] w _
    go_enter Try.func37, Try.ntmps37
    go_wp2
    go_ret
    exact ⟨⟨r, rfl, unhide Hfl⟩, Grown.refl _⟩
  | none =>
    have hfl : ∀ n, Ieee.double.order n n = none → Fl64 n (Fb64 1 x y) := by
      intro n hn
      refine .inl ⟨hn, ?_⟩
      rw [hF]
      have : Option.map Ieee.double.write ((Ieee.double.read x).sum (Ieee.double.read y).opposite) = none := h
      unfold Wr64
      rw [this]
      rfl
    have Hfl := hide hfl
    have hr := fun w => run_none .sub 53 .f64 x y w (.inr (.inl rfl)) h
    clear hfl hF
    show Calls Try.prog 37 #[.int .u8 1, .float .f64 x, .float .f64 y] w _
    go_enter Try.func37, Try.ntmps37
    go_wp2
    go_ret
    exact ⟨⟨_, rfl, unhide Hfl _ (nan_order64 x y w)⟩, (Grown.refl w).drew⟩

theorem ofParts64_mul (x y : Nat) (w : World) : Gf64 2 x y w := by
  have hF : Fb64 2 x y = Wr64 ((Ieee.double.read x).product (Ieee.double.read y)) := rfl
  cases h : Ieee.double.mul x y with
  | some r =>
    have hfl : Fl64 r (Fb64 2 x y) := by
      rw [hF]
      exact fl_some64 h (fun z hz => product_num hz)
    have Hfl := hide hfl
    have hr := fun w => run_float_arith (P := Try.prog) w .mul 53 .f64 x y r h
    clear hfl hF
    show Calls Try.prog 37 #[.int .u8 2, .float .f64 x, .float .f64 y] w _
    go_enter Try.func37, Try.ntmps37
    go_wp2
    go_ret
    exact ⟨⟨r, rfl, unhide Hfl⟩, Grown.refl _⟩
  | none =>
    have hfl : ∀ n, Ieee.double.order n n = none → Fl64 n (Fb64 2 x y) := by
      intro n hn
      refine .inl ⟨hn, ?_⟩
      rw [hF]
      have : Option.map Ieee.double.write ((Ieee.double.read x).product (Ieee.double.read y)) = none := h
      unfold Wr64
      rw [this]
      rfl
    have Hfl := hide hfl
    have hr := fun w => run_none .mul 53 .f64 x y w (.inr (.inr (.inl rfl))) h
    clear hfl hF
    show Calls Try.prog 37 #[.int .u8 2, .float .f64 x, .float .f64 y] w _
    go_enter Try.func37, Try.ntmps37
    go_wp2
    go_ret
    exact ⟨⟨_, rfl, unhide Hfl _ (nan_order64 x y w)⟩, (Grown.refl w).drew⟩

theorem ofParts64_quo (x y : Nat) (w : World) : Gf64 3 x y w := by
  have hF : Fb64 3 x y = Wr64 ((Ieee.double.read x).quotient (Ieee.double.fractionBits + 2) (Ieee.double.read y)) := rfl
  cases h : Ieee.double.div x y with
  | some r =>
    have hfl : Fl64 r (Fb64 3 x y) := by
      rw [hF]
      exact fl_some64 h (fun z hz => quotient_num hz)
    have Hfl := hide hfl
    have hr := fun w => run_float_arith (P := Try.prog) w .quo 53 .f64 x y r h
    clear hfl hF
    show Calls Try.prog 37 #[.int .u8 3, .float .f64 x, .float .f64 y] w _
    go_enter Try.func37, Try.ntmps37
    go_wp2
    go_ret
    exact ⟨⟨r, rfl, unhide Hfl⟩, Grown.refl _⟩
  | none =>
    have hfl : ∀ n, Ieee.double.order n n = none → Fl64 n (Fb64 3 x y) := by
      intro n hn
      refine .inl ⟨hn, ?_⟩
      rw [hF]
      have : Option.map Ieee.double.write ((Ieee.double.read x).quotient (Ieee.double.fractionBits + 2) (Ieee.double.read y)) = none := h
      unfold Wr64
      rw [this]
      rfl
    have Hfl := hide hfl
    have hr := fun w => run_none .quo 53 .f64 x y w (.inr (.inr (.inr rfl))) h
    clear hfl hF
    show Calls Try.prog 37 #[.int .u8 3, .float .f64 x, .float .f64 y] w _
    go_enter Try.func37, Try.ntmps37
    go_wp2
    go_ret
    exact ⟨⟨_, rfl, unhide Hfl _ (nan_order64 x y w)⟩, (Grown.refl w).drew⟩
end Go.Proofs.Ytjnelkpgdjphmaa
