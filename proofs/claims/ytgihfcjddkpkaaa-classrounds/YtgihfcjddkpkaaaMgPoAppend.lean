/-
  pool.Read.
  jvmcoreref1's unit and Units.
  Bytes of one's own.
  same of jvmcorelaw1: two lists of constants that are one.
  wire.Append.
-/
import Derived.Test.YtgihfcjddkpkaaaMgPoPool
import Derived.Test.YtgihfcjddkpkaaaMgPoWire
import Derived.Deep.QuietTactic
import Derived.BigQuiet
import Derived.Deep.RegionWith
import Derived.Laws.BytesArg
namespace Go.Proofs.Ytgihfcjddkpkaaa.Po
set_option maxRecDepth 100000
open Go.RowKit
set_option maxHeartbeats 400000 in
theorem NewReader_any (s : ByteArray) (w : World) :
    Calls Try.prog 24 #[.string s] w fun e w' => e = .returned (.agg #[.string s, .int .i64 0, .int .i64 0, .int .i64 0]) ∧ Below w.heap.size w w' := by
  go_enter Try.func24, Try.ntmps24
  go_wp2
  exact bodyPost_ret (v := .agg #[.string s, .int .i64 0, .int .i64 0, .int .i64 0]) (by simp [results, Try.results24, go_sem]) rfl ⟨rfl, (Below.refl _ _).alloc (Nat.le_refl _) _⟩
/-- What Read gives. -/
def Out (w0 w : World) (v : Value) (l : List K) : Prop := (l = [] ∧ v = .slice none 0 0) ∨ ∃ B, w0.heap.size ≤ B ∧ w.ownsRow B 78 5 v l.length (KC l)
def Readed (s : ByteArray) (w : World) (e : Ending) (w' : World) : Prop :=
  ∃ l n x p v, ReadRes s.data.toList (l, n, x, p) ∧ e = .returned (.tuple #[v, .int .i64 (n : Nat), .int .i64 (x : Nat), .int .i64 (p : Nat)]) ∧ Out w w' v l ∧ Below w.heap.size w w'
set_option maxRecDepth 100000 in
set_option maxHeartbeats 1000000 in
theorem Read_any (s : ByteArray) (w : World) (hs : s.size ≤ 131072) :
    Calls Try.prog 97 #[.string s] w fun e w' => Readed s w e w' := by
  have hpool : ∀ w0 R w, At w0 w R s ⟨0, 0, 0⟩ 0 (.slice none 0 0) [] → Calls Try.prog 116 #[.pointer (some ⟨R, 0, none⟩)] w fun e w' => Pooled w0 R s e w' := fun w0 R w h => by
    by_cases hb : s.size < 2 ∨ (2 ≤ s.size ∧ M.num (s.data.toList.take 2) = 0)
    · exact pool_bad w0 R s w h hs hb
    · exact pool_any w0 R s w h hs (by omega) (by omega)
  have Hpool := hide hpool
  clear hpool
  go_enter Try.func97, Try.ntmps97
  go_wp2_with fail
  refine (NewReader_any s w).mono ?_
  rintro e w1 ⟨rfl, hb1⟩
  go_wp2_with fail
  have hA0 : At w1 (w1.alloc (.cells #[.string s, .int .i64 0, .int .i64 0, .int .i64 0, .int .i64 0, .slice none 0 0] 178)) w1.heap.size s ⟨0, 0, 0⟩ 0 (.slice none 0 0) [] :=
    ⟨heap_alloc_new w1 _, World.ownsRow_nil _ _ _ _, (Below.refl _ _).alloc (Nat.le_refl _) _⟩
  refine (unhide Hpool w1 w1.heap.size _ hA0).mono ?_
  rintro e w2 ⟨rfl, st, n, v, l, hA, hok, hbad⟩
  have hb2 : Below w.heap.size w w2 := hb1.trans (hA.old.mono hb1.size)
  obtain ⟨R, hR⟩ : ∃ R, R = w1.heap.size := ⟨_, rfl⟩
  have hRw : w.heap.size ≤ R := by rw [hR]; exact hb1.size
  rw [← hR] at hA ⊢
  clear hA0 Hpool hb1 hR
  go_wp2_with fail
  refine (Err_any R s st _ v w2 hA.rd).mono ?_
  rintro e w3 ⟨rfl, k, hk⟩
  have hA3 : At w1 w3 R s st n v l := by rw [hk]; exact ⟨hA.rd, hA.own, below_drewN hA.old _⟩
  have hb3 : Below w.heap.size w w3 := by rw [hk]; exact below_drewN hb2 _
  clear hk hA hb2
  have hA := hA3
  have hb2 := hb3
  clear hA3 hb3
  obtain ⟨d0, d1, d2, d3, d4, d5⟩ := hA.rd.cells
  by_cases he : st.e = 0
  · have hok := hok he
    have heb : ((st.e : Int) != 0) = false := by rw [he]; rfl
    have hat : ∀ j, Calls Try.prog 88 #[.pointer (some ⟨R, 0, none⟩)] (w3.drewN j) fun e w' => e = .returned (.int .i64 (st.pos : Int)) ∧ w' = w3.drewN j := fun j =>
      At_any R s st _ v _ (hA.rd.drewN j)
    have Hat := hide hat
    clear hat hbad he
    obtain ⟨a, c, rfl⟩ := own_len hA.own
    go_wp2_with fail
    go_quiet ((go_at_call 88; exact Calls.quiet_of_same (unhide Hat _)))
    go_wp2
    refine bodyPost_ret (v := .tuple #[.slice a l.length c, .int .i64 (st.pos : Int), .int .i64 0, .int .i64 0]) (by simp [results, Try.results97, go_sem]) rfl ?_
    exact ⟨l, st.pos, 0, 0, _, hok, rfl, .inr ⟨R + 1, by omega, hA.own⟩, below_drewN hb2 _⟩
  · have hbad := hbad he
    have heb : ((st.e : Int) != 0) = true := by rw [bne_iff_ne]; omega
    clear hok he
    go_wp2
    refine bodyPost_ret (v := .tuple #[.slice none 0 0, .int .i64 0, .int .i64 (st.e : Int), .int .i64 (st.p : Int)]) (by simp [results, Try.results97, go_sem]) rfl ?_
    exact ⟨[], 0, st.e, st.p, _, hbad, rfl, .inl ⟨rfl, rfl⟩, hb2⟩
end Go.Proofs.Ytgihfcjddkpkaaa.Po
namespace Go.Proofs.Ytgihfcjddkpkaaa.Po
set_option maxRecDepth 100000
open Go.RowKit
namespace M
/-- The unit and its length as the reference reckons them from the first bytes. -/
def pick (l : List UInt8) : Nat × Nat :=
  if 224 ≤ (l.getD 0 0).toNat ∧ 3 ≤ l.length then ((l.getD 0 0).toNat % 16 * 4096 + (l.getD 1 0).toNat % 64 * 64 + (l.getD 2 0).toNat % 64, 3)
  else if 192 ≤ (l.getD 0 0).toNat ∧ 2 ≤ l.length then ((l.getD 0 0).toNat % 32 * 64 + (l.getD 1 0).toNat % 64, 2) else ((l.getD 0 0).toNat, 1)
theorem pick3 {l : List UInt8} (h : 224 ≤ (l.getD 0 0).toNat ∧ 3 ≤ l.length) : pick l = ((l.getD 0 0).toNat % 16 * 4096 + (l.getD 1 0).toNat % 64 * 64 + (l.getD 2 0).toNat % 64, 3) := by unfold pick; rw [if_pos h]
theorem pick2 {l : List UInt8} (h : ¬ (224 ≤ (l.getD 0 0).toNat ∧ 3 ≤ l.length)) (h2 : 192 ≤ (l.getD 0 0).toNat ∧ 2 ≤ l.length) : pick l = ((l.getD 0 0).toNat % 32 * 64 + (l.getD 1 0).toNat % 64, 2) := by unfold pick; rw [if_neg h, if_pos h2]
theorem pick1 {l : List UInt8} (h : ¬ (224 ≤ (l.getD 0 0).toNat ∧ 3 ≤ l.length)) (h2 : ¬ (192 ≤ (l.getD 0 0).toNat ∧ 2 ≤ l.length)) : pick l = ((l.getD 0 0).toNat, 1) := by unfold pick; rw [if_neg h, if_neg h2]
theorem pick_lt (l : List UInt8) : (pick l).1 < 65536 := by
  have h0 := (l.getD 0 0).toNat_lt
  by_cases h1 : 224 ≤ (l.getD 0 0).toNat ∧ 3 ≤ l.length
  · rw [pick3 h1]; simp only; omega
  · by_cases h2 : 192 ≤ (l.getD 0 0).toNat ∧ 2 ≤ l.length
    · rw [pick2 h1 h2]; simp only; omega
    · rw [pick1 h1 h2]; simp only; omega
theorem pick_len {l : List UInt8} (h : l ≠ []) : 1 ≤ (pick l).2 ∧ (pick l).2 ≤ l.length ∧ (pick l).2 ≤ 3 := by
  have hl := List.length_pos_iff.2 h
  by_cases h1 : 224 ≤ (l.getD 0 0).toNat ∧ 3 ≤ l.length
  · rw [pick3 h1]; simp only; omega
  · by_cases h2 : 192 ≤ (l.getD 0 0).toNat ∧ 2 ≤ l.length
    · rw [pick2 h1 h2]; simp only; omega
    · rw [pick1 h1 h2]; simp only; omega
theorem pick_yes {l : List UInt8} {v : Nat} {t : List UInt8} (hv : v < 65536) (h : l = enc v ++ t) : pick l = (v, size v) := by
  cases l with
  | nil =>
    exfalso; have := enc_ne v; cases he : enc v with
    | nil => exact this he
    | cons a b => rw [he] at h; cases h
  | cons x r =>
    have hxt := x.toNat_lt
    rcases begin1 hv h with ⟨a1, a2, a3⟩ | ⟨a1, a2, c, ⟨r', rfl⟩, a3, a4, a5, a6⟩ | ⟨a1, a2, c, d, ⟨r', rfl⟩, a3, a4, a5, a6, a7, a8⟩
    · rw [pick1 (by simp only [List.getD_cons_zero]; omega) (by simp only [List.getD_cons_zero]; omega)]
      unfold size; rw [if_pos (by omega), a3]; rfl
    · rw [pick2 (by simp only [List.getD_cons_zero]; omega) (by simp only [List.getD_cons_zero, List.length_cons]; omega)]
      unfold size; rw [if_neg a6, if_pos (by omega)]
      simp only [List.getD_cons_zero, List.getD_cons_succ, Prod.mk.injEq, and_true]; omega
    · rw [pick3 (by simp only [List.getD_cons_zero, List.length_cons]; omega)]
      unfold size; rw [if_neg (by omega), if_neg a8]
      simp only [List.getD_cons_zero, List.getD_cons_succ, Prod.mk.injEq, and_true]; omega
theorem pick_first {l : List UInt8} (hl : l ≠ []) (h : enc (pick l).1 = l.take (pick l).2) : (pick l).2 = size (pick l).1 ∧ l = enc (pick l).1 ++ l.drop (pick l).2 := by
  refine ⟨?_, by rw [h, List.take_append_drop]⟩
  rw [← enc_length, h, List.length_take]; have := pick_len hl; omega
theorem pick_none {l : List UInt8} (h : enc (pick l).1 ≠ l.take (pick l).2) : ∀ v, v < 65536 → ∀ r, l ≠ enc v ++ r := by
  intro v hv r hr
  refine h ?_
  rw [pick_yes hv hr, hr, List.take_left' (enc_length v)]
end M
theorem bytes_new (w : World) (l : List UInt8) (C : Array Value) (n : Nat) (hC : C = (l.map fun b => Value.int .u8 (b.toNat : Int)).toArray) (hn : n = l.length) :
    Sem.run Try.prog (convert 67 9 (.slice (some ⟨w.heap.size, 0, none⟩) n n)) (w.alloc (.cells C 5)) = .ok (.string ⟨l.toArray⟩) (w.alloc (.cells C 5)) := by
  subst hn
  refine run_convert_bytes_back (P := Try.prog) (w.alloc (.cells C 5)) 67 9 5 ⟨w.heap.size, 0, none⟩ l.length l Try.underlying67 Try.underlying5 Try.underlying9 fun j hj => ?_
  have : (⟨w.heap.size, 0, none⟩ : Addr).add j = ⟨w.heap.size, j, none⟩ := by simp [Addr.add]; omega
  rw [this, World.cell?_alloc_at _ _ _ _ rfl, hC]
  simp [hj]
theorem of_lt {n : Nat} (h : n < 256) : ((UInt8.ofNat n).toNat : Int) = (n : Int) := by simp only [UInt8.toNat_ofNat']; omega
set_option maxRecDepth 100000 in
set_option maxHeartbeats 400000 in
theorem unit_any (u : Nat) (w : World) (hu : u < 65536) :
    Calls Try.prog 105 #[.int .i64 u] w fun e w' => e = .returned (.string ⟨(M.enc u).toArray⟩) ∧ Below w.heap.size w w' := by
  by_cases h1 : 0 < u ∧ u < 128
  · have hc := bytes_new w (M.enc u) #[.int .u8 u] 1 (by rw [M.enc1 h1]; simp only [List.map_cons, List.map_nil]; rw [of_lt (show u < 256 by omega)]) (by rw [M.enc1 h1]; rfl)
    obtain ⟨E, hE⟩ : ∃ E, E = M.enc u := ⟨_, rfl⟩
    rw [← hE] at hc ⊢
    clear hE
    have hb : Below w.heap.size w (w.alloc (.cells #[.int .u8 (u : Int)] 5)) := (Below.refl _ _).alloc (Nat.le_refl _) _
    go_enter Try.func105, Try.ntmps105
    go_wp2
    go_ret
    exact ⟨rfl, hb⟩
  by_cases h2 : u < 2048
  · have hc := bytes_new w (M.enc u) #[.int .u8 (192 + (u : Int) / 64), .int .u8 (128 + (u : Int) % 64)] 2
      (by rw [M.enc2 h1 h2]; simp only [List.map_cons, List.map_nil]; rw [of_lt (show 192 + u / 64 < 256 by omega), of_lt (show 128 + u % 64 < 256 by omega)]; rfl) (by rw [M.enc2 h1 h2]; rfl)
    obtain ⟨E, hE⟩ : ∃ E, E = M.enc u := ⟨_, rfl⟩
    rw [← hE] at hc ⊢
    clear hE
    have hb : Below w.heap.size w (w.alloc (.cells #[.int .u8 (192 + (u : Int) / 64), .int .u8 (128 + (u : Int) % 64)] 5)) := (Below.refl _ _).alloc (Nat.le_refl _) _
    go_enter Try.func105, Try.ntmps105
    go_wp2
    all_goals go_ret
    all_goals exact ⟨rfl, hb⟩
  · have hc := bytes_new w (M.enc u) #[.int .u8 (224 + (u : Int) / 4096), .int .u8 (128 + (u : Int) / 64 % 64), .int .u8 (128 + (u : Int) % 64)] 3
      (by rw [M.enc3 h2]; simp only [List.map_cons, List.map_nil]; rw [of_lt (show 224 + u / 4096 < 256 by omega), of_lt (show 128 + u / 64 % 64 < 256 by omega), of_lt (show 128 + u % 64 < 256 by omega)]; rfl) (by rw [M.enc3 h2]; rfl)
    obtain ⟨E, hE⟩ : ∃ E, E = M.enc u := ⟨_, rfl⟩
    rw [← hE] at hc ⊢
    clear hE
    have hb : Below w.heap.size w (w.alloc (.cells #[.int .u8 (224 + (u : Int) / 4096), .int .u8 (128 + (u : Int) / 64 % 64), .int .u8 (128 + (u : Int) % 64)] 5)) := (Below.refl _ _).alloc (Nat.le_refl _) _
    go_enter Try.func105, Try.ntmps105
    go_wp2
    all_goals go_ret
    all_goals exact ⟨rfl, hb⟩
theorem Try.info3 : (Try.prog.info? 3).map (fun i => (i.zero, i.size, i.bytes)) = some (some (.int .i64 0), 1, 8) := by kernel_rfl
def I64 (l : List Nat) : List Value := l.map fun (u : Nat) => Value.int .i64 (u : Int)
theorem I64_snoc (l : List Nat) (u : Nat) : I64 (l ++ [u]) = I64 l ++ [.int .i64 (u : Int)] := by simp [I64]
end Go.Proofs.Ytgihfcjddkpkaaa.Po
namespace Go.Proofs.Ytgihfcjddkpkaaa.Po
open Go.RowKit
theorem Try.info5 : (Try.prog.info? 5).map (fun i => (i.zero, i.size, i.bytes)) = some (some (.int .u8 0), 1, 1) := by kernel_rfl
def U8 (l : List UInt8) : List Value := l.map fun (b : UInt8) => Value.int .u8 (b.toNat : Int)
theorem U8_append (a b : List UInt8) : U8 (a ++ b) = U8 a ++ U8 b := by simp [U8]
theorem own_string {w : World} {base : Nat} {v : Value} {l : List UInt8} (h : w.ownsRow base 5 1 v l.length (U8 l)) : Sem.run Try.prog (convert 67 9 v) w = .ok (.string ⟨l.toArray⟩) w := by
  rcases h.2 with ⟨rfl, h0⟩ | ⟨g, cap, cur, rfl, _, h4, _, _, _, h8⟩
  · have : l = [] := List.length_eq_zero_iff.1 h0
    subst this
    exact run_convert_bytes_nil (P := Try.prog) w 67 5 Try.underlying67 Try.underlying5 0 0 9 Try.underlying9
  · refine run_convert_bytes_back (P := Try.prog) w 67 9 5 ⟨g, 0, none⟩ cap l Try.underlying67 Try.underlying5 Try.underlying9 fun j hj => ?_
    refine h.cells rfl j _ ?_
    simp [U8, hj]
theorem grown_below {w w' : World} (h : w.grownBy w' none) : Below w.heap.size w w' := (Below.refl _ _).grown h (Nat.le_refl _) (fun k hk => by cases hk)
theorem cat_text (a b : List UInt8) : (⟨a.toArray⟩ : ByteArray) ++ ⟨b.toArray⟩ = ⟨(a ++ b).toArray⟩ := by
  apply ByteArray.ext; simp
end Go.Proofs.Ytgihfcjddkpkaaa.Po
namespace Go.Proofs.Ytgihfcjddkpkaaa.Po
open Go.RowKit
/-- A slice value that reads as these constants. -/
def Has (w : World) (v : Value) (l : List K) : Prop :=
  (∃ a c, v = .slice a 0 c ∧ l = []) ∨ ∃ g off c, v = .slice (some ⟨g, off, none⟩) l.length c ∧ ∀ j, j < l.length * 5 → w.cell? ⟨g, off + j, none⟩ = (KC l)[j]?
theorem Has.of_own {w : World} {B : Nat} {v : Value} {l : List K} (h : w.ownsRow B 78 5 v l.length (KC l)) : Has w v l := by
  rcases h.2 with ⟨h1, h0⟩ | ⟨g, cap, cur, hv, _⟩
  · exact .inl ⟨none, 0, h1, List.length_eq_zero_iff.1 h0⟩
  · subst hv; exact .inr ⟨g, 0, cap, rfl, fun j hj => by rw [Nat.zero_add]; exact h.cellAt j hj⟩
theorem Has.of_out {w0 w : World} {v : Value} {l : List K} (h : Out w0 w v l) : Has w v l := by
  rcases h with ⟨rfl, rfl⟩ | ⟨B, _, h⟩
  · exact .inl ⟨none, 0, rfl, rfl⟩
  · exact Has.of_own h
theorem Out.below {w0 w w' : World} {v : Value} {l : List K} (h : Out w0 w v l) (hb : Below w.heap.size w w') : Out w0 w' v l := by
  rcases h with h | ⟨B, hB, h⟩
  · exact .inl h
  · exact .inr ⟨B, hB, own_below h (Nat.le_refl _) hb⟩
theorem KC_at (l : List K) (k i : Nat) (hk : k < l.length) (hi : i < 5) : (KC l)[k * 5 + i]? = (l.getD k K.zero).cells[i]? := by
  induction l generalizing k with
  | nil => simp at hk
  | cons c l ih =>
    cases k with
    | zero => simp only [Nat.zero_mul, Nat.zero_add, KC, List.getD_cons_zero]; rw [List.getElem?_append_left (by simp [K.cells]; omega)]
    | succ k =>
      simp only [KC, List.getD_cons_succ]
      rw [List.getElem?_append_right (by simp [K.cells]; omega)]
      have : (k + 1) * 5 + i - c.cells.length = k * 5 + i := by simp [K.cells]; omega
      rw [this]; exact ih k (by simpa using hk)
end Go.Proofs.Ytgihfcjddkpkaaa.Po
namespace Go.Proofs.Ytgihfcjddkpkaaa.Po
open Go.RowKit
namespace M
/-- A number as n bytes, the highest first. -/
def big (x : Nat) : Nat → List UInt8
  | 0 => []
  | n + 1 => big (x / 256) n ++ [UInt8.ofNat (x % 256)]
theorem big_len (x n : Nat) : (big x n).length = n := by
  induction n generalizing x with
  | zero => rfl
  | succ n ih => simp [big, ih]
/-- From the front: the byte at 256^n, then the rest. -/
theorem big_front (x n : Nat) : big x (n + 1) = UInt8.ofNat (x / 256 ^ n % 256) :: big x n := by
  induction n generalizing x with
  | zero => simp [big]
  | succ n ih =>
    show big (x / 256) (n + 1) ++ [UInt8.ofNat (x % 256)] = _
    rw [ih (x / 256), Nat.div_div_eq_div_mul, ← Nat.pow_succ']
    rfl
theorem big_at (x n j : Nat) (hj : j < n) : (big x n).take (j + 1) = (big x n).take j ++ [UInt8.ofNat (x / 256 ^ (n - 1 - j) % 256)] := by
  induction n generalizing j with
  | zero => omega
  | succ n ih =>
    rw [big_front]
    cases j with
    | zero => simp
    | succ j => rw [List.take_succ_cons, List.take_succ_cons, ih j (by omega), List.cons_append, show n + 1 - 1 - (j + 1) = n - 1 - j by omega]
end M
theorem byte_at (x m : Nat) : (x : Int) / 2 ^ (8 * m) % 256 = (((UInt8.ofNat (x / 256 ^ m % 256)).toNat : Nat) : Int) := by
  have h1 : (2 : Int) ^ (8 * m) = ((256 ^ m : Nat) : Int) := by
    have h8 : ((256 : Nat) : Int) = 2 ^ 8 := rfl
    rw [Int.natCast_pow, h8, ← Int.pow_mul]
  rw [h1, UInt8.toNat_ofNat', Nat.mod_mod_of_dvd _ (by decide)]
  omega
/-- Nothing below B has turned, and no row that is not of bytes. -/
structure Fr (B : Nat) (w w' : World) : Prop where
  old : Below B w w'
  rest : ∀ (k : Nat) (c : Array Value) (t : TypeId) (fr : Nat × Nat), w.heap[k]? = some (Obj.cells c t fr) → t ≠ 5 → w'.heap[k]? = w.heap[k]?
theorem Fr.refl (B : Nat) (w : World) : Fr B w w := ⟨Below.refl _ _, fun _ _ _ _ _ _ => rfl⟩
theorem Fr.trans {B : Nat} {a b c : World} (h : Fr B a b) (k : Fr B b c) : Fr B a c :=
  ⟨h.old.trans k.old, fun i x t fr hi ht => (k.rest i x t fr ((h.rest i x t fr hi ht).trans hi) ht).trans (h.rest i x t fr hi ht)⟩
theorem Fr.alloc {B : Nat} {a w : World} (h : Fr B a w) (hB : B ≤ w.heap.size) (o : Obj) : Fr B a (w.alloc o) :=
  ⟨h.old.alloc hB o, fun i x t fr hi ht => by
    have hl : i < w.heap.size := Nat.lt_of_lt_of_le (Array.getElem?_eq_some_iff.1 hi).1 h.old.size
    rw [Below.heap_alloc w o i hl]; exact h.rest i x t fr hi ht⟩
theorem Fr.grown {B : Nat} {a w w' : World} {v : Value} {n : Nat} {xs : List Value} (h : Fr B a w) (ho : w.ownsRow B 5 1 v n xs) (hB : B ≤ w.heap.size) (hg : w.grownBy w' v.ownBlock) : Fr B a w' :=
  ⟨h.old.grown hg hB (fun k hk => (ho.lt k hk).1), fun i x t fr hi ht => by
    have h1 := h.rest i x t fr hi ht
    have hl : i < w.heap.size := Nat.lt_of_lt_of_le (Array.getElem?_eq_some_iff.1 hi).1 h.old.size
    refine (hg.block i hl ?_).trans h1
    intro e
    rcases ho.2 with ⟨rfl, _⟩ | ⟨g, cap, cur, rfl, _, hh, _⟩
    · simp [Value.ownBlock] at e
    · simp [Value.ownBlock] at e
      subst e
      rw [h1, hi] at hh
      simp at hh
      exact ht hh.2.1⟩
set_option maxRecDepth 100000 in
set_option maxHeartbeats 1000000 in
theorem Append_any (B : Nat) (v : Value) (l : List UInt8) (n : Nat) (g c : Nat) (xs : List Nat) (w : World) (hn : n ≤ 8) (hl : l.length ≤ 1000000) (hB : B ≤ w.heap.size) (hx : ∀ x ∈ xs, x < 2 ^ 64) (hm : xs.length ≤ 2)
    (ho : w.ownsRow B 5 1 v l.length (U8 l)) (hg : w.heap[g]? = some (.cells (xs.map fun (x : Nat) => Value.int .u64 (x : Int)).toArray 73 (0, 0))) :
    Calls Try.prog 62 #[v, .int .i64 (n : Int), .slice (some ⟨g, 0, none⟩) xs.length c] w fun e w' =>
      ∃ v', e = .returned v' ∧ w'.ownsRow B 5 1 v' (l ++ xs.flatMap fun x => M.big x n).length (U8 (l ++ xs.flatMap fun x => M.big x n)) ∧ Fr B w w' := by
  obtain ⟨i0, hi, hz0, hz1, hz2⟩ := info_parts Try.info5
  go_enter Try.func62, Try.ntmps62
  go_wp2_with fail
  go_loopw [0, 12] (fun v i wr => ∃ k : Nat, k ≤ xs.length ∧ i = .int .i64 k ∧ wr.ownsRow B 5 1 v (l ++ (xs.take k).flatMap fun x => M.big x n).length (U8 (l ++ (xs.take k).flatMap fun x => M.big x n)) ∧ Fr B w wr) (fun _ i _ => xs.length - (intOf i).toNat)
  case atStart => exact ⟨0, Nat.zero_le _, rfl, by simpa using ho, Fr.refl _ _⟩
  case round =>
    obtain ⟨k, hk, rfl, hown, hfr⟩ := hrel
    by_cases hlt : k < xs.length
    · obtain ⟨x, ex⟩ : ∃ x, x = xs.getD k 0 := ⟨_, rfl⟩
      have hcx : wr.cell? ⟨g, k, none⟩ = some (.int .u64 (x : Int)) := by
        have h1 := (hfr.rest g _ 73 _ hg (by decide)).trans hg
        rw [cell_of_row wr g k _ 73 (0, 0) h1, ex]
        simp [List.getD, List.getElem?_eq_getElem hlt]
      have hx1 : x < 2 ^ 64 := by rw [ex]; exact hx _ (by simp [List.getD, List.getElem?_eq_getElem hlt])
      have hx2 : x ≤ 18446744073709551615 := by omega
      have htk : (xs.take (k + 1)).flatMap (fun x => M.big x n) = (xs.take k).flatMap (fun x => M.big x n) ++ M.big x n := by
        have h1 : xs.take (k + 1) = xs.take k ++ [x] := by
          rw [List.take_add_one, List.getElem?_eq_getElem hlt, ex]; simp only [Option.toList_some, List.getD, List.getElem?_eq_getElem hlt, Option.getD_some]
        rw [h1, List.flatMap_append, List.flatMap_singleton]
      have hpl : (l ++ (xs.take k).flatMap fun x => M.big x n).length ≤ 1000016 := by
        have : ((xs.take k).flatMap fun x => M.big x n).length ≤ 16 := by
          rw [List.length_flatMap]
          have h8 : ((xs.take k).map fun x => (M.big x n).length) = (xs.take k).map fun _ => n := by simp [M.big_len]
          rw [h8, List.map_const', List.sum_replicate_nat, List.length_take]
          have := Nat.mul_le_mul (show min k xs.length ≤ 2 by omega) hn
          omega
        rw [List.length_append]; omega
      obtain ⟨P, eP⟩ : ∃ P, P = l ++ (xs.take k).flatMap fun x => M.big x n := ⟨_, rfl⟩
      have heP : l ++ (xs.take (k + 1)).flatMap (fun x => M.big x n) = P ++ M.big x n := by rw [htk, eP, List.append_assoc]
      rw [← eP] at hown hpl
      have HeP := hide heP
      have Hx := hide hx1
      clear ex htk eP heP hx1 hx
      go_wp2_with fail
      go_loopw [0, 9] (fun v i wr => ∃ j : Nat, j ≤ n ∧ i = .int .i64 ((n : Int) - 1 - (j : Int)) ∧ wr.ownsRow B 5 1 v (P ++ (M.big x n).take j).length (U8 (P ++ (M.big x n).take j)) ∧ Fr B w wr) (fun _ i _ => (intOf i + 1).toNat)
      case atStart => exact ⟨0, Nat.zero_le _, by simp, by simpa using hown, hfr⟩
      case round =>
        clear hown hfr hcx
        obtain ⟨j, hj, rfl, hown, hfr⟩ := hrel
        by_cases hj2 : j < n
        · have hsz := hfr.old.size
          have hba := byte_at x (n - 1 - j)
          have hbg := M.big_at x n j hj2
          obtain ⟨y, ey⟩ : ∃ y : UInt8, y = UInt8.ofNat (x / 256 ^ (n - 1 - j) % 256) := ⟨_, rfl⟩
          rw [← ey] at hba hbg
          have hbk : P ++ (M.big x n).take (j + 1) = P ++ (M.big x n).take j ++ [y] := by rw [hbg, List.append_assoc]
          have hlen : (P ++ (M.big x n).take j).length ≤ 1000024 := by
            rw [List.length_append, List.length_take, M.big_len]; omega
          obtain ⟨Q, eQ⟩ : ∃ Q, Q = P ++ (M.big x n).take j := ⟨_, rfl⟩
          rw [← eQ] at hbk hlen hown
          have Hbk := hide hbk
          have Hba := hide hba
          clear hba hbg hbk ey eQ
          go_wp2_with (at_builtin; rw [unhide Hba]; refine wpList_append_own _ rfl _ _ 67 rfl B 5 i0 (.int .u8 0) 1 1 Try.underlying67 hi hz0 hz1 hz2 rfl (by decide) _ _ _ rfl (hown.alloc _) ⟨wr.heap.size, 0, none⟩ 1 1 [.int .u8 (y.toNat : Int)] rfl rfl ?c1 ?c2 ?c3 ?c4 ?c5 ?_)
          case c1 =>
            intro j u hj
            match j, hj with
            | 0, hj => simp at hj; subst hj; simp [Addr.add]
          case c2 => intro u hu; simp at hu; subst hu; rfl
          case c3 => unfold maxLen; omega
          case c4 => omega
          case c5 => simp; omega
          intro v' w1 hown' hgrow _
          have hf1 : Fr B w w1 := (hfr.alloc (by omega) _).grown (hown.alloc _) (by simp; omega) hgrow
          have ho1 : w1.ownsRow B 5 1 v' (P ++ (M.big x n).take (j + 1)).length (U8 (P ++ (M.big x n).take (j + 1))) := by
            rw [unhide Hbk, U8_append, List.length_append]; exact hown'
          clear hown' hgrow hown Hbk Hba
          go_wp2
          go_roundw
          case rel => exact ⟨j + 1, by omega, by simp; omega, ho1, hf1⟩
          case measure => simp [intOf]; omega
        · have hjn : j = n := by omega
          subst hjn
          rw [List.take_of_length_le (by rw [M.big_len]; omega)] at hown
          rw [← unhide HeP] at hown
          clear HeP
          go_wp2
          go_roundw
          case rel => exact ⟨k + 1, by omega, by go_num, hown, hfr⟩
          case measure => simp [intOf]; omega
    · have hkl : k = xs.length := by omega
      subst hkl
      rw [List.take_length] at hown
      go_wp2
      go_ret
      exact ⟨_, rfl, hown, hfr⟩
end Go.Proofs.Ytgihfcjddkpkaaa.Po
