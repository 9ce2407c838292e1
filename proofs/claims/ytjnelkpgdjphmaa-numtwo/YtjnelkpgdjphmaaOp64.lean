import Derived.Test.YtjnelkpgdjphmaaAd64nnear
import Derived.Test.YtjnelkpgdjphmaaAd64nfar
import Derived.Test.YtjnelkpgdjphmaaAd64nout
import Derived.Test.YtjnelkpgdjphmaaAd64neq
import Derived.Test.YtjnelkpgdjphmaaAd64snear
import Derived.Test.YtjnelkpgdjphmaaAd64sfar
import Derived.Test.YtjnelkpgdjphmaaAd64sout
import Derived.Test.YtjnelkpgdjphmaaAd64seq
import Derived.Test.YtjnelkpgdjphmaaMu64short
import Derived.Test.YtjnelkpgdjphmaaMu64longm
import Derived.Test.YtjnelkpgdjphmaaMu64longz
import Derived.Test.YtjnelkpgdjphmaaSD
import Derived.Test.YtjnelkpgdjphmaaSC
import Derived.Test.YtjnelkpgdjphmaaDv64
namespace Go.Proofs.Ytjnelkpgdjphmaa
open Go.RowKit
set_option linter.unusedVariables false
set_option linter.unusedSimpArgs false

/-- A datum, and how the reference holds it. -/
def Ar64 (d : Ieee.Datum) (c : Array Value) : Prop :=
  (∃ (s : Bool) (A : Nat) (i : Int), ((A < 9007199254740992) ∧ (-1074 ≤ i) ∧ (i ≤ 1000) ∧ (-1074 < i → 4503599627370496 ≤ A)) ∧ d = (.number s A i) ∧ c = #[.bool false, .bool false, .bool s, .int .u64 (A : Int), .int .i64 i]) ∨
  (∃ s : Bool, d = (.infinity s) ∧ c = #[.bool false, .bool true, .bool s, .int .u64 0, .int .i64 (-1074)]) ∨
  (∃ (s : Bool) (n A : Nat), d = (.nan s n) ∧ c = #[.bool true, .bool false, .bool s, .int .u64 (A : Int), .int .i64 (-1074)])
theorem Ar64.num (s : Bool) (A : Nat) (i : Int) (h1 : A < 9007199254740992) (h2 : -1074 ≤ i) (h3 : i ≤ 1000) (h4 : -1074 < i → 4503599627370496 ≤ A) : Ar64 (.number s A i) #[.bool false, .bool false, .bool s, .int .u64 (A : Int), .int .i64 i] := .inl ⟨s, A, i, ⟨h1, h2, h3, h4⟩, rfl, rfl⟩
theorem Ar64.inf (s : Bool) : Ar64 (.infinity s) #[.bool false, .bool true, .bool s, .int .u64 0, .int .i64 (-1074)] := .inr (.inl ⟨s, rfl, rfl⟩)
theorem Ar64.nan (s : Bool) (n A : Nat) : Ar64 (.nan s n) #[.bool true, .bool false, .bool s, .int .u64 (A : Int), .int .i64 (-1074)] := .inr (.inr ⟨s, n, A, rfl, rfl⟩)
/-- What is written: or the one that is no number. -/
def Wr64 (d : Option Ieee.Datum) : Nat := (d.map Ieee.double.write).getD 9221120237041090560

theorem wr64 {d : Option Ieee.Datum} {v : Nat} (h : d.map Ieee.double.write = some v) : Wr64 d = v := by
  unfold Wr64
  rw [h]
  rfl

abbrev Gives64 (fn : Nat) (ca cb : Array Value) (w : World) (v : Nat) : Prop :=
  Calls Try.prog fn #[.agg #[.int .i64 52, .int .i64 11], .agg ca, .agg cb] w fun r w' => r = .returned (.int .u64 (v : Nat)) ∧ Grown w w'

theorem nz {A : Nat} (h : A ≠ 0) : ((A : Int) == 0) = false := by rw [beq_eq_false_iff_ne]; omega

theorem of_some64 {fn : Nat} {ca cb : Array Value} {w : World} {d : Option Ieee.Datum}
    (h : Calls Try.prog fn #[.agg #[.int .i64 52, .int .i64 11], .agg ca, .agg cb] w fun r w' => (∃ v, d.map Ieee.double.write = some v ∧ r = .returned (.int .u64 (v : Nat))) ∧ Grown w w') : Gives64 fn ca cb w (Wr64 d) := by
  refine h.mono ?_
  rintro r w' ⟨⟨v, h1, rfl⟩, hg⟩
  exact ⟨by rw [wr64 h1], hg⟩

theorem addf64 (s t : Bool) (A B : Nat) (i j : Int) (w : World) (a1 : A < 9007199254740992) (a2 : -1074 ≤ i) (a3 : i ≤ 1000) (a4 : -1074 < i → 4503599627370496 ≤ A) (b1 : B < 9007199254740992) (b2 : -1074 ≤ j) (b3 : j ≤ 1000) (b4 : -1074 < j → 4503599627370496 ≤ B) :
    Gives64 43 #[.bool false, .bool false, .bool s, .int .u64 (A : Int), .int .i64 i] #[.bool false, .bool false, .bool t, .int .u64 (B : Int), .int .i64 j] w (Wr64 ((Ieee.Datum.number s A i).sum (.number t B j))) := by
  have hA : j < i → 4503599627370496 ≤ A := fun h => a4 (by omega)
  have hB : i < j → 4503599627370496 ≤ B := fun h => b4 (by omega)
  apply of_some64
  by_cases c0 : i = j
  · by_cases c1 : B ≤ A
    · by_cases hst : s = t
      · exact add64_n_eq_same s t A B i j w a1 b1 a2 a3 b2 hA c0 c1 hst
      · by_cases c2 : B < A
        · exact add64_n_eq_diffgt s t A B i j w a1 b1 a2 a3 b2 hA c0 c1 hst c2
        · exact add64_n_eq_diffnil s t A B i j w a1 b1 a2 a3 b2 hA c0 c1 hst (by omega)
    · rw [Nm.sum_comm]
      by_cases hst : s = t
      · exact add64_s_eq_same t s B A j i w b1 a1 b2 b3 a2 hB c0.symm (by omega) hst.symm
      · exact add64_s_eq_diffgt t s B A j i w b1 a1 b2 b3 a2 hB c0.symm (by omega) (fun h => hst h.symm) (by omega)
  · by_cases c1 : j < i
    · by_cases c2 : i - 10 ≤ j
      · by_cases hst : s = t
        · exact add64_n_near_same s t A B i j w a1 b1 a2 a3 b2 hA c1 c2 hst
        · exact add64_n_near_diff s t A B i j w a1 b1 a2 a3 b2 hA c1 c2 hst
      · by_cases c3 : i - 10 - j < 64
        · by_cases hm : B % 2 ^ (i - 10 - j).toNat = 0
          · by_cases hst : s = t
            · exact add64_n_far_samez s t A B i j w a1 b1 a2 a3 b2 hA (by omega) c3 hst hm
            · exact add64_n_far_diffz s t A B i j w a1 b1 a2 a3 b2 hA (by omega) c3 hst hm
          · by_cases hst : s = t
            · exact add64_n_far_samem s t A B i j w a1 b1 a2 a3 b2 hA (by omega) c3 hst hm
            · exact add64_n_far_diffm s t A B i j w a1 b1 a2 a3 b2 hA (by omega) c3 hst hm
        · by_cases hm : B = 0
          · by_cases hst : s = t
            · exact add64_n_out_samez s t A B i j w a1 b1 a2 a3 b2 hA (by omega) (by omega) hst hm
            · exact add64_n_out_diffz s t A B i j w a1 b1 a2 a3 b2 hA (by omega) (by omega) hst hm
          · by_cases hst : s = t
            · exact add64_n_out_samem s t A B i j w a1 b1 a2 a3 b2 hA (by omega) (by omega) hst hm
            · exact add64_n_out_diffm s t A B i j w a1 b1 a2 a3 b2 hA (by omega) (by omega) hst hm
    · rw [Nm.sum_comm]
      have c1' : i < j := by omega
      by_cases c2 : j - 10 ≤ i
      · by_cases hst : s = t
        · exact add64_s_near_same t s B A j i w b1 a1 b2 b3 a2 hB c1' c2 hst.symm
        · exact add64_s_near_diff t s B A j i w b1 a1 b2 b3 a2 hB c1' c2 (fun h => hst h.symm)
      · by_cases c3 : j - 10 - i < 64
        · by_cases hm : A % 2 ^ (j - 10 - i).toNat = 0
          · by_cases hst : s = t
            · exact add64_s_far_samez t s B A j i w b1 a1 b2 b3 a2 hB (by omega) c3 hst.symm hm
            · exact add64_s_far_diffz t s B A j i w b1 a1 b2 b3 a2 hB (by omega) c3 (fun h => hst h.symm) hm
          · by_cases hst : s = t
            · exact add64_s_far_samem t s B A j i w b1 a1 b2 b3 a2 hB (by omega) c3 hst.symm hm
            · exact add64_s_far_diffm t s B A j i w b1 a1 b2 b3 a2 hB (by omega) c3 (fun h => hst h.symm) hm
        · by_cases hm : A = 0
          · by_cases hst : s = t
            · exact add64_s_out_samez t s B A j i w b1 a1 b2 b3 a2 hB (by omega) (by omega) hst.symm hm
            · exact add64_s_out_diffz t s B A j i w b1 a1 b2 b3 a2 hB (by omega) (by omega) (fun h => hst h.symm) hm
          · by_cases hst : s = t
            · exact add64_s_out_samem t s B A j i w b1 a1 b2 b3 a2 hB (by omega) (by omega) hst.symm hm
            · exact add64_s_out_diffm t s B A j i w b1 a1 b2 b3 a2 hB (by omega) (by omega) (fun h => hst h.symm) hm

theorem inf_write64 (s : Bool) : Wr64 (some (.infinity s)) = Ieee.double.word s 9218868437227405312 := by
  unfold Wr64
  simp only [Option.map_some, Option.getD_some, Ieee.Format.write, Nm.d_inf]
theorem zero_write64 (s : Bool) (e : Int) : Wr64 (some (.number s 0 e)) = Ieee.double.word s 0 := by
  unfold Wr64
  simp [Ieee.Format.write, Ieee.Format.nearest]

theorem add_of64 {da db : Ieee.Datum} {ca cb : Array Value} (ha : Ar64 da ca) (hb : Ar64 db cb) (w : World) : Gives64 43 ca cb w (Wr64 (da.sum db)) := by
  rcases ha with ⟨s, A, i, ⟨a1, a2, a3, a4⟩, rfl, rfl⟩ | ⟨s, rfl, rfl⟩ | ⟨s, n, A, rfl, rfl⟩
  case inr.inr =>
    have hn : Wr64 (Ieee.Datum.sum (.nan s n) db) = 9221120237041090560 := by cases db <;> rfl
    rw [hn]
    rcases hb with ⟨t, B, j, ⟨_, _, _, _⟩, rfl, rfl⟩ | ⟨t, rfl, rfl⟩ | ⟨t, n', B, rfl, rfl⟩
    case inl => exact add64_n1 s false A 0 0 0 w false false t (B : Int) j
    case inr.inl => exact add64_n1 s false A 0 0 0 w false true t 0 (-1074)
    case inr.inr => exact add64_n1 s false A 0 0 0 w true false t (B : Int) (-1074)
  case inr.inl =>
    rcases hb with ⟨t, B, j, ⟨_, _, _, _⟩, rfl, rfl⟩ | ⟨t, rfl, rfl⟩ | ⟨t, n', B, rfl, rfl⟩
    case inl =>
      rw [show Ieee.Datum.sum (.infinity s) (.number t B j) = some (.infinity s) from rfl, inf_write64]
      exact add64_if s t 0 B 0 j w
    case inr.inl =>
      by_cases hst : s = t
      · rw [show Ieee.Datum.sum (.infinity s) (.infinity t) = some (.infinity s) from by simp [Ieee.Datum.sum, hst], inf_write64]
        exact add64_ii s t 0 0 0 0 w hst
      · rw [show Ieee.Datum.sum (.infinity s) (.infinity t) = none from by simp [Ieee.Datum.sum, hst]]
        exact add64_iin s t 0 0 0 0 w hst
    case inr.inr => exact add64_n2 s t 0 B (-1074) 0 w true
  case inl =>
    rcases hb with ⟨t, B, j, ⟨b1, b2, b3, b4⟩, rfl, rfl⟩ | ⟨t, rfl, rfl⟩ | ⟨t, n', B, rfl, rfl⟩
    case inl => exact addf64 s t A B i j w a1 a2 a3 a4 b1 b2 b3 b4
    case inr.inl =>
      rw [show Ieee.Datum.sum (.number s A i) (.infinity t) = some (.infinity t) from rfl, inf_write64]
      exact add64_fi s t A 0 i 0 w
    case inr.inr => exact add64_n2 s t A B i 0 w false

theorem mul_of64 {da db : Ieee.Datum} {ca cb : Array Value} (ha : Ar64 da ca) (hb : Ar64 db cb) (w : World) : Gives64 44 ca cb w (Wr64 (da.product db)) := by
  rcases ha with ⟨s, A, i, ⟨a1, a2, a3, a4⟩, rfl, rfl⟩ | ⟨s, rfl, rfl⟩ | ⟨s, n, A, rfl, rfl⟩
  case inr.inr =>
    have hn : Wr64 (Ieee.Datum.product (.nan s n) db) = 9221120237041090560 := by cases db <;> rfl
    rw [hn]
    rcases hb with ⟨t, B, j, ⟨_, _, _, _⟩, rfl, rfl⟩ | ⟨t, rfl, rfl⟩ | ⟨t, n', B, rfl, rfl⟩
    case inl => exact mul64_n1 s false A 0 0 0 w false false t (B : Int) j
    case inr.inl => exact mul64_n1 s false A 0 0 0 w false true t 0 (-1074)
    case inr.inr => exact mul64_n1 s false A 0 0 0 w true false t (B : Int) (-1074)
  case inr.inl =>
    rcases hb with ⟨t, B, j, ⟨b1, b2, b3, b4⟩, rfl, rfl⟩ | ⟨t, rfl, rfl⟩ | ⟨t, n', B, rfl, rfl⟩
    case inl =>
      by_cases h0 : B = 0
      · subst h0
        exact mul64_iz s t 0 0 0 j w
      · rw [show Ieee.Datum.product (.infinity s) (.number t B j) = some (.infinity (s ^^ t)) from by simp [Ieee.Datum.product, h0], inf_write64]
        exact mul64_if s t 0 B 0 j w (nz h0)
    case inr.inl =>
      rw [show Ieee.Datum.product (.infinity s) (.infinity t) = some (.infinity (s ^^ t)) from rfl, inf_write64]
      exact mul64_ii s t 0 0 0 0 w
    case inr.inr => exact mul64_n2 s t 0 B (-1074) 0 w true
  case inl =>
    rcases hb with ⟨t, B, j, ⟨b1, b2, b3, b4⟩, rfl, rfl⟩ | ⟨t, rfl, rfl⟩ | ⟨t, n', B, rfl, rfl⟩
    case inl =>
      apply of_some64
      by_cases hH : A * B < 18446744073709551616
      · exact mul64_short s t A B i j w a1 b1 a2 a3 b2 b3 hH
      · by_cases hz : (A * B % 18446744073709551616) % 2 ^ (len (A * B / 18446744073709551616)) = 0
        · exact mul64_longz s t A B i j w a1 b1 a2 a3 b2 b3 (by omega) hz
        · exact mul64_longm s t A B i j w a1 b1 a2 a3 b2 b3 (by omega) hz
    case inr.inl =>
      by_cases h0 : A = 0
      · subst h0
        exact mul64_zi s t 0 0 i 0 w
      · rw [show Ieee.Datum.product (.number s A i) (.infinity t) = some (.infinity (s ^^ t)) from by simp [Ieee.Datum.product, h0, Bool.xor_comm], inf_write64]
        exact mul64_fi s t A 0 i 0 w (nz h0)
    case inr.inr => exact mul64_n2 s t A B i 0 w false

theorem div_of64 {da db : Ieee.Datum} {ca cb : Array Value} (ha : Ar64 da ca) (hb : Ar64 db cb) (w : World) : Gives64 45 ca cb w (Wr64 (da.quotient (Ieee.double.fractionBits + 2) db)) := by
  rcases ha with ⟨s, A, i, ⟨a1, a2, a3, a4⟩, rfl, rfl⟩ | ⟨s, rfl, rfl⟩ | ⟨s, n, A, rfl, rfl⟩
  case inr.inr =>
    have hn : Wr64 (Ieee.Datum.quotient (Ieee.double.fractionBits + 2) (.nan s n) db) = 9221120237041090560 := by cases db <;> rfl
    rw [hn]
    rcases hb with ⟨t, B, j, ⟨_, _, _, _⟩, rfl, rfl⟩ | ⟨t, rfl, rfl⟩ | ⟨t, n', B, rfl, rfl⟩
    case inl => exact div64_n1 s false A 0 0 0 w false false t (B : Int) j
    case inr.inl => exact div64_n1 s false A 0 0 0 w false true t 0 (-1074)
    case inr.inr => exact div64_n1 s false A 0 0 0 w true false t (B : Int) (-1074)
  case inr.inl =>
    rcases hb with ⟨t, B, j, ⟨b1, b2, b3, b4⟩, rfl, rfl⟩ | ⟨t, rfl, rfl⟩ | ⟨t, n', B, rfl, rfl⟩
    case inl =>
      rw [show Ieee.Datum.quotient (Ieee.double.fractionBits + 2) (.infinity s) (.number t B j) = some (.infinity (s ^^ t)) from rfl, inf_write64]
      by_cases h0 : B = 0
      · subst h0
        exact div64_iz s t 0 0 0 j w
      · exact div64_if s t 0 B 0 j w (nz h0)
    case inr.inl => exact div64_ii s t 0 0 0 0 w
    case inr.inr => exact div64_n2 s t 0 B (-1074) 0 w true
  case inl =>
    rcases hb with ⟨t, B, j, ⟨b1, b2, b3, b4⟩, rfl, rfl⟩ | ⟨t, rfl, rfl⟩ | ⟨t, n', B, rfl, rfl⟩
    case inl =>
      by_cases h0 : B = 0
      · subst h0
        by_cases h1 : A = 0
        · subst h1
          rw [show Ieee.Datum.quotient (Ieee.double.fractionBits + 2) (.number s 0 i) (.number t 0 j) = none from by simp [Ieee.Datum.quotient]]
          exact div64_zz s t 0 0 i j w
        · rw [show Ieee.Datum.quotient (Ieee.double.fractionBits + 2) (.number s A i) (.number t 0 j) = some (.infinity (s ^^ t)) from by simp [Ieee.Datum.quotient, h1], inf_write64]
          exact div64_fz s t A 0 i j w (nz h1)
      · by_cases h1 : A = 0
        · subst h1
          rw [show Wr64 (Ieee.Datum.quotient (Ieee.double.fractionBits + 2) (.number s 0 i) (.number t B j)) = Ieee.double.word (s ^^ t) 0 from by
            simp only [Ieee.Datum.quotient, if_neg h0, Nat.zero_shiftLeft, Nat.zero_div, Nat.zero_mod]
            exact zero_write64 _ _]
          exact div64_zf s t 0 B i j w (nz h0)
        · exact of_some64 (div64_fin s t A B i j w a1 b1 h1 h0 a2 a3 b2 b3)
    case inr.inl =>
      rw [show Ieee.Datum.quotient (Ieee.double.fractionBits + 2) (.number s A i) (.infinity t) = some (.number (s ^^ t) 0 0) from rfl, zero_write64]
      by_cases h1 : A = 0
      · subst h1
        exact div64_zi s t 0 0 i 0 w
      · exact div64_fi s t A 0 i 0 w (nz h1)
    case inr.inr => exact div64_n2 s t A B i 0 w false

/-- What is left. -/
def Rm64 : Ieee.Datum → Ieee.Datum → Nat
  | .nan .., _ | _, .nan .. => 9221120237041090560
  | .infinity _, _ => 9221120237041090560
  | .number s A i, .infinity _ => Nm.close Ieee.double s A i false
  | .number s A i, .number _ B j => if B = 0 then 9221120237041090560 else if i < j then Nm.close Ieee.double s A i false else Nm.close Ieee.double s (A * 2 ^ (i - j).toNat % B) j false

theorem rem_of64 {da db : Ieee.Datum} {ca cb : Array Value} (ha : Ar64 da ca) (hb : Ar64 db cb) (w : World) : Gives64 46 ca cb w (Rm64 da db) := by
  rcases ha with ⟨s, A, i, ⟨a1, a2, a3, a4⟩, rfl, rfl⟩ | ⟨s, rfl, rfl⟩ | ⟨s, n, A, rfl, rfl⟩
  case inr.inr =>
    have hn : Rm64 (.nan s n) db = 9221120237041090560 := by cases db <;> rfl
    rw [hn]
    rcases hb with ⟨t, B, j, ⟨_, _, _, _⟩, rfl, rfl⟩ | ⟨t, rfl, rfl⟩ | ⟨t, n', B, rfl, rfl⟩
    case inl => exact rem64_n1 s false A 0 0 0 w false false t (B : Int) j
    case inr.inl => exact rem64_n1 s false A 0 0 0 w false true t 0 (-1074)
    case inr.inr => exact rem64_n1 s false A 0 0 0 w true false t (B : Int) (-1074)
  case inr.inl =>
    rcases hb with ⟨t, B, j, ⟨b1, b2, b3, b4⟩, rfl, rfl⟩ | ⟨t, rfl, rfl⟩ | ⟨t, n', B, rfl, rfl⟩
    case inl =>
      by_cases h0 : B = 0
      · subst h0
        exact rem64_iz s t 0 0 0 j w
      · exact rem64_if s t 0 B 0 j w (nz h0)
    case inr.inl => exact rem64_ii s t 0 0 0 0 w
    case inr.inr => exact rem64_n2 s t 0 B (-1074) 0 w true
  case inl =>
    rcases hb with ⟨t, B, j, ⟨b1, b2, b3, b4⟩, rfl, rfl⟩ | ⟨t, rfl, rfl⟩ | ⟨t, n', B, rfl, rfl⟩
    case inl =>
      by_cases h0 : B = 0
      · subst h0
        by_cases h1 : A = 0
        · subst h1
          exact rem64_zz s t 0 0 i j w
        · exact rem64_fz s t A 0 i j w (nz h1)
      · by_cases h1 : A = 0
        · subst h1
          have hr : Rm64 (.number s 0 i) (.number t B j) = Nm.close Ieee.double s 0 i false := by
            simp only [Rm64, if_neg h0]
            split
            · rfl
            · rw [Nat.zero_mul, Nat.zero_mod]; simp [Nm.close]
          rw [hr]
          exact rem64_zf s t 0 B i j w (nz h0) a2 a3
        · by_cases h2 : i < j
          · have hr : Rm64 (.number s A i) (.number t B j) = Nm.close Ieee.double s A i false := by simp only [Rm64, if_neg h0, if_pos h2]
            rw [hr]
            exact rem64_lt s t A B i j w (nz h1) (nz h0) a1 a2 a3 h2
          · have hr : Rm64 (.number s A i) (.number t B j) = Nm.close Ieee.double s (A * 2 ^ (i - j).toNat % B) j false := by simp only [Rm64, if_neg h0, if_neg h2]
            rw [hr]
            exact rem64_ge s t A B i j w a1 b1 h1 h0 a3 b2 (by omega)
    case inr.inl => exact rem64_fi s t A 0 i 0 w a1 a2 a3
    case inr.inr => exact rem64_n2 s t A B i 0 w false
end Go.Proofs.Ytjnelkpgdjphmaa
