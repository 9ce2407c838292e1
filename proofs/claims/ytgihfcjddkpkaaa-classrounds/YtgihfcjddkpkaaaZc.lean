/-
  The reference: code.
-/
import Derived.Test.YtgihfcjddkpkaaaMgZb
import Derived.Deep.RegionHeld3
namespace Go.Proofs.Ytgihfcjddkpkaaa.Cl
set_option linter.unusedVariables false
set_option linter.unusedSimpArgs false
open Go.RowKit Go.Maps
theorem grown_below {w0 w w' : World} {R : Nat} (hb : Below w0.heap.size w0 w) (hg : w.grownBy w' (some R)) (hR : w0.heap.size ≤ R) : Below w0.heap.size w0 w' :=
  ⟨hg.os.trans hb.os, hg.tape.trans hb.tape, hg.output.trans hb.output, Nat.le_trans hb.size hg.size, fun k hk => (hg.block k (Nat.lt_of_lt_of_le hk hb.size) (by intro e; cases e; omega)).trans (hb.block k hk)⟩
namespace M
def rhead (c : Ci) : Rw := seqR (seqR (seqR (seqR (rnum c.stack 2) (rnum c.locals 2)) (rnum (c.bytes.length : Int) 4)) (rtext c.bytes)) (rnum (c.handlers.length : Int) 2)
theorem rbody_eq (P : List K) (c : Ci) : rbody P c = seqR (seqR (rhead c) (foldR rhand c.handlers)) (rmap P c.map) := rfl
theorem sl (f g : Rw) (a : Nat) : (seqR f g a).2.length = (f a).2.length + (g (f a).1).2.length := by unfold seqR; rw [List.length_append]
theorem nl (x : Int) (n : Nat) (a : Nat) : (rnum x n a).2.length = n := by unfold rnum; exact Ytgihfcjddkpkaaa.M.big_len _ _
theorem tl (s : List UInt8) (a : Nat) : (rtext s a).2.length = s.length := rfl
theorem rhead_len (c : Ci) (e : Nat) : (rhead c e).2.length = 10 + c.bytes.length := by
  unfold rhead
  rw [sl, sl, sl, sl, nl, nl, nl, nl, tl]
  omega
theorem seqR_nil (f : Rw) : seqR f (rtext []) = f := by funext e; simp [seqR, rtext]
theorem foldR_snoc {α : Type} (f : α → Rw) (l : List α) (x : α) : foldR f (l ++ [x]) = seqR (foldR f l) (f x) := by
  induction l with
  | nil => funext e; simp [foldR, seqR, rtext]
  | cons y l ih => rw [List.cons_append, foldR, ih, foldR, seqR_assoc]
theorem foldR_take {α : Type} (f : α → Rw) (l : List α) (d : α) {k : Nat} (hk : k < l.length) : foldR f (l.take (k + 1)) = seqR (foldR f (l.take k)) (f (l.getD k d)) := by
  rw [List.take_add_one, List.getElem?_eq_getElem hk]
  simp only [Option.toList_some, foldR_snoc, List.getD, List.getElem?_eq_getElem hk, Option.getD_some]
theorem ratt_len (P : List K) (name body : List UInt8) (e : Nat) : (ratt P name body e).2.length ≤ 6 + body.length := by
  unfold ratt
  split
  · rw [sl, sl, nl, nl, tl]; omega
  · simp
/-- The beginning of a code, and its first handlers. -/
def rpart (c : Ci) (k : Nat) : Rw := seqR (rhead c) (foldR rhand (c.handlers.take k))
theorem rpart_len (c : Ci) (k e : Nat) (hk : k ≤ c.handlers.length) : (rpart c k e).2.length = 10 + c.bytes.length + 8 * k := by
  unfold rpart
  rw [sl, rhead_len, rhands_len, List.length_take]
  omega
theorem rpart_zero (c : Ci) : rpart c 0 = rhead c := by unfold rpart; rw [List.take_zero]; exact seqR_nil _
theorem rpart_step (c : Ci) {k : Nat} (hk : k < c.handlers.length) : rpart c (k + 1) = seqR (rpart c k) (rhand (c.handlers.getD k Hi.zero)) := by
  unfold rpart
  rw [foldR_take rhand c.handlers Hi.zero hk, seqR_assoc]
theorem rpart_all (P : List K) (c : Ci) : rbody P c = seqR (rpart c c.handlers.length) (rmap P c.map) := by
  unfold rpart
  rw [List.take_length]
  rfl
end M
set_option maxRecDepth 100000 in
set_option maxHeartbeats 8000000 in
theorem rcode_any (R : Nat) (c : Csi) (vp vi vf vm hv : Value) (e : Nat) (d : Ci) (w0 w : World) (h : Rb w R c vp vi vf vm e) (hb : Below w0.heap.size w0 w) (hw0 : w0.heap.size ≤ R) (hk : KIn w0 vp c.pool) (hP : c.pool.length ≤ 1048576) (hd : d.Ok) (hl : M.clen d ≤ 900000)
    (hH : FIn Hi.cells 4 Hi.zero w0 hv d.handlers) :
    Calls Try.prog 56 #[.pointer (some ⟨R, 0, none⟩), .agg #[.int .i64 d.stack, .int .i64 d.locals, .string ⟨d.bytes.toArray⟩, hv, .string ⟨d.map.toArray⟩]] w fun r w' => r = .returned (.string ⟨(M.rcode (qp c.pool) d e).2.toArray⟩) ∧ Rb w' R c vp vi vf vm (M.rcode (qp c.pool) d e).1 ∧ w.grownBy w' (some R) := by
  obtain ⟨ha, hcap, rfl, hhc⟩ := hH
  obtain ⟨pa, pc, ep, _⟩ := hk.ex
  have hRl := h.lt
  have hcl : 12 + d.bytes.length + 8 * d.handlers.length + (if d.map = [] then 0 else 6 + d.map.length) = M.clen d := rfl
  have hml : d.map.length ≤ 900000 := by
    by_cases e0 : d.map = []
    · rw [e0]; simp
    · rw [if_neg e0] at hcl; omega
  have hbl : d.bytes.length + 8 * d.handlers.length ≤ 900000 := by omega
  obtain ⟨wA, hwA⟩ : ∃ wA, wA = w.alloc (.cells #[.int .i64 d.stack, .int .i64 d.locals, .string ⟨d.bytes.toArray⟩, .slice ha d.handlers.length hcap, .string ⟨d.map.toArray⟩] 99) := ⟨_, rfl⟩
  have bA : Bk wA w.heap.size #[.int .i64 d.stack, .int .i64 d.locals, .string ⟨d.bytes.toArray⟩, .slice ha d.handlers.length hcap, .string ⟨d.map.toArray⟩] 99 := by rw [hwA]; exact Bk.new w _ _
  have hbA : Below w0.heap.size w0 wA := by rw [hwA]; exact hb.alloc hb.size _
  have hRA : Rb wA R c vp vi vf vm e := by rw [hwA]; exact h.alloc _
  have gA : w.grownBy wA (some R) := by rw [hwA]; exact World.grownBy_alloc w _ _
  have HT1 := hide (ratt_any R c vp vi vf vm e M.codeN [] wA hRA (hk.below hbA) hP (by simp) (by decide))
  obtain ⟨e0, he0⟩ : ∃ a, a = (M.ratt (qp c.pool) M.codeN [] e).1 := ⟨_, rfl⟩
  rw [← he0] at HT1
  have hrc : M.rcode (qp c.pool) d e = M.ratt (qp c.pool) M.codeN (M.rbody (qp c.pool) d e0).2 (M.rbody (qp c.pool) d e0).1 := by unfold M.rcode; rw [← he0]
  have Hrc := hide hrc
  have HA0 := hide hwA
  have HbA := hide bA
  have HBl := hide hbA
  have HgA := hide gA
  have HBl0 := hide hb
  have Hhc := hide hhc
  have Hk := hide hk
  have Hd := hide hd
  unfold M.codeN at HT1
  clear hwA bA hbA hRA gA he0 hrc hb hhc hk h hd
  go_enter Try.func56, Try.ntmps56
  go_upto_region 1 with fail
  rw [← unhide HA0]
  clear HA0
  go_wp2_with fail
  refine (unhide HT1).mono ?_
  rintro r w1 ⟨rfl, hR1, g1⟩
  clear HT1
  have b1 : Bk w1 w.heap.size #[.int .i64 d.stack, .int .i64 d.locals, .string ⟨d.bytes.toArray⟩, .slice ha d.handlers.length hcap, .string ⟨d.map.toArray⟩] 99 := Bk.kept (unhide HbA) g1 (by simp; omega)
  have HB1 := hide b1
  have HG1 := hide (grown_trans (unhide HgA) g1)
  have HBl1 := hide (grown_below (unhide HBl) g1 hw0)
  clear g1 HbA HgA HBl
  obtain ⟨sA, hsA⟩ : ∃ a : ByteArray, a = ⟨(M.rnum d.stack 2 e0).2.toArray⟩ := ⟨_, rfl⟩
  obtain ⟨eA, heA⟩ : ∃ a, a = (M.rnum d.stack 2 e0).1 := ⟨_, rfl⟩
  have HA := hide (fun W (hW : Rb W R c vp vi vf vm e0) => rnum2_any R c vp vi vf vm e0 d.stack W hW (unhide Hd).a)
  rw [← hsA, ← heA] at HA
  have zA : (sA.size : Int) ≤ 100 := by rw [hsA]; simp [ByteArray.size, M.rnum, Ytgihfcjddkpkaaa.M.big_len]
  obtain ⟨sB, hsB⟩ : ∃ a : ByteArray, a = ⟨(M.rnum d.locals 2 eA).2.toArray⟩ := ⟨_, rfl⟩
  obtain ⟨eB, heB⟩ : ∃ a, a = (M.rnum d.locals 2 eA).1 := ⟨_, rfl⟩
  have HB := hide (fun W (hW : Rb W R c vp vi vf vm eA) => rnum2_any R c vp vi vf vm eA d.locals W hW (unhide Hd).b)
  rw [← hsB, ← heB] at HB
  have zB : (sB.size : Int) ≤ 100 := by rw [hsB]; simp [ByteArray.size, M.rnum, Ytgihfcjddkpkaaa.M.big_len]
  obtain ⟨sC, hsC⟩ : ∃ a : ByteArray, a = ⟨(M.rnum (d.bytes.length : Int) 4 eB).2.toArray⟩ := ⟨_, rfl⟩
  obtain ⟨eC, heC⟩ : ∃ a, a = (M.rnum (d.bytes.length : Int) 4 eB).1 := ⟨_, rfl⟩
  have HC := hide (fun W (hW : Rb W R c vp vi vf vm eB) => rnum4_any R c vp vi vf vm eB (d.bytes.length : Int) W hW (Okx.nat (by omega)))
  rw [← hsC, ← heC] at HC
  have zC : (sC.size : Int) ≤ 100 := by rw [hsC]; simp [ByteArray.size, M.rnum, Ytgihfcjddkpkaaa.M.big_len]
  obtain ⟨sD, hsD⟩ : ∃ a : ByteArray, a = ⟨(M.rnum (d.handlers.length : Int) 2 eC).2.toArray⟩ := ⟨_, rfl⟩
  obtain ⟨eD, heD⟩ : ∃ a, a = (M.rnum (d.handlers.length : Int) 2 eC).1 := ⟨_, rfl⟩
  have HD := hide (fun W (hW : Rb W R c vp vi vf vm eC) => rnum2_any R c vp vi vf vm eC (d.handlers.length : Int) W hW (Okx.nat (by omega)))
  rw [← hsD, ← heD] at HD
  have zD : (sD.size : Int) ≤ 100 := by rw [hsD]; simp [ByteArray.size, M.rnum, Ytgihfcjddkpkaaa.M.big_len]

  have hhd1 : (M.rhead d e0).1 = eD := by simp only [M.rhead, M.seqR, M.rtext, ← heA, ← heB, ← heC, ← heD]
  have hhd2 : sA ++ sB ++ sC ++ ⟨d.bytes.toArray⟩ ++ sD = ⟨(M.rhead d e0).2.toArray⟩ := by
    rw [hsA, hsB, hsC, hsD, cat_text, cat_text, cat_text, cat_text]
    simp only [M.rhead, M.seqR, M.rtext, ← heA, ← heB, ← heC]
  have Hh1 := hide hhd1
  have Hh2 := hide hhd2
  clear hhd1 hhd2 hsA hsB hsC hsD heA heB heC heD
  go_wp2_with fail
  have HQ : Hid (∀ X : World, Bk X w.heap.size #[.int .i64 d.stack, .int .i64 d.locals, .string ⟨d.bytes.toArray⟩, .slice ha d.handlers.length hcap, .string ⟨d.map.toArray⟩] 99 → X.cell? ⟨w.heap.size, 0, none⟩ = some (.int .i64 d.stack) ∧ X.cell? ⟨w.heap.size, 1, none⟩ = some (.int .i64 d.locals) ∧ X.cell? ⟨w.heap.size, 2, none⟩ = some (.string ⟨d.bytes.toArray⟩) ∧ X.cell? ⟨w.heap.size, 3, none⟩ = some (.slice ha d.handlers.length hcap) ∧ X.cell? ⟨w.heap.size, 4, none⟩ = some (.string ⟨d.map.toArray⟩)) := fun X hX => ⟨hX.cell 0, hX.cell 1, hX.cell 2, hX.cell 3, hX.cell 4⟩
  have H0 : Hid (Bk w1.drew w.heap.size #[.int .i64 d.stack, .int .i64 d.locals, .string ⟨d.bytes.toArray⟩, .slice ha d.handlers.length hcap, .string ⟨d.map.toArray⟩] 99) := b1
  have hR0 : Rb w1.drew R c vp vi vf vm e0 := hR1
  clear b1 hR1
  refine wp_region_held_drew (S := fun X => Bk X w.heap.size #[.int .i64 d.stack, .int .i64 d.locals, .string ⟨d.bytes.toArray⟩, .slice ha d.handlers.length hcap, .string ⟨d.map.toArray⟩] 99) (by kernel_rfl) (unhide H0) (fun hHeld => ?_)
  refine wpAnyH_take (i := 0) (oi := _) (v := ?_) rfl (by kernel_rfl) (by kernel_rfl) (by kernel_rfl) (fun _ _ _ h => h) (Or.inl ⟨by rfl, ?_⟩) (by assumption) ?_
  rotate_left
  · intro X hX
    go_simp
    try rfl
  try simp only [Act.put, List.getElem_toArray, List.getElem_cons_zero, List.getElem_cons_succ, List.setIfInBounds_toArray, List.set_cons_zero, List.set_cons_succ]
  refine wpAnyH_take (i := 1) (oi := _) (v := ?_) rfl (by kernel_rfl) (by kernel_rfl) (by kernel_rfl) (fun _ _ _ h => h) (Or.inl ⟨by rfl, ?_⟩) (by assumption) ?_
  rotate_left
  · intro X hX
    go_simp
    try rfl
  try simp only [Act.put, List.getElem_toArray, List.getElem_cons_zero, List.getElem_cons_succ, List.setIfInBounds_toArray, List.set_cons_zero, List.set_cons_succ]
  refine wpAnyH_take (i := 2) (oi := _) (v := ?_) rfl (by kernel_rfl) (by kernel_rfl) (by kernel_rfl) (fun _ _ _ h => h) (Or.inl ⟨by rfl, ?_⟩) (by assumption) ?_
  rotate_left
  · intro X hX
    have q0 := (unhide HQ X hX).1
    go_simp
    try rfl
  try simp only [Act.put, List.getElem_toArray, List.getElem_cons_zero, List.getElem_cons_succ, List.setIfInBounds_toArray, List.set_cons_zero, List.set_cons_succ]
  refine wpAnyH_take (i := 4) (oi := _) (v := ?_) rfl (by kernel_rfl) (by kernel_rfl) (by kernel_rfl) (fun _ _ _ h => h) (Or.inl ⟨by rfl, ?_⟩) (by assumption) ?_
  rotate_left
  · intro X hX
    go_simp
    try rfl
  try simp only [Act.put, List.getElem_toArray, List.getElem_cons_zero, List.getElem_cons_succ, List.setIfInBounds_toArray, List.set_cons_zero, List.set_cons_succ]
  refine wpAnyH_take (i := 5) (oi := _) (v := ?_) rfl (by kernel_rfl) (by kernel_rfl) (by kernel_rfl) (fun _ _ _ h => h) (Or.inl ⟨by rfl, ?_⟩) (by assumption) ?_
  rotate_left
  · intro X hX
    go_simp
    try rfl
  try simp only [Act.put, List.getElem_toArray, List.getElem_cons_zero, List.getElem_cons_succ, List.setIfInBounds_toArray, List.set_cons_zero, List.set_cons_succ]
  refine wpAnyH_take (i := 6) (oi := _) (v := ?_) rfl (by kernel_rfl) (by kernel_rfl) (by kernel_rfl) (fun _ _ _ h => h) (Or.inl ⟨by rfl, ?_⟩) (by assumption) ?_
  rotate_left
  · intro X hX
    have q1 := (unhide HQ X hX).2.1
    go_simp
    try rfl
  try simp only [Act.put, List.getElem_toArray, List.getElem_cons_zero, List.getElem_cons_succ, List.setIfInBounds_toArray, List.set_cons_zero, List.set_cons_succ]
  refine wpAnyH_take (i := 9) (oi := _) (v := ?_) rfl (by kernel_rfl) (by kernel_rfl) (by kernel_rfl) (fun _ _ _ h => h) (Or.inl ⟨by rfl, ?_⟩) (by assumption) ?_
  rotate_left
  · intro X hX
    go_simp
    try rfl
  try simp only [Act.put, List.getElem_toArray, List.getElem_cons_zero, List.getElem_cons_succ, List.setIfInBounds_toArray, List.set_cons_zero, List.set_cons_succ]
  refine wpAnyH_take (i := 10) (oi := _) (v := ?_) rfl (by kernel_rfl) (by kernel_rfl) (by kernel_rfl) (fun _ _ _ h => h) (Or.inl ⟨by rfl, ?_⟩) (by assumption) ?_
  rotate_left
  · intro X hX
    go_simp
    try rfl
  try simp only [Act.put, List.getElem_toArray, List.getElem_cons_zero, List.getElem_cons_succ, List.setIfInBounds_toArray, List.set_cons_zero, List.set_cons_succ]
  refine wpAnyH_take (i := 11) (oi := _) (v := ?_) rfl (by kernel_rfl) (by kernel_rfl) (by kernel_rfl) (fun _ _ _ h => h) (Or.inl ⟨by rfl, ?_⟩) (by assumption) ?_
  rotate_left
  · intro X hX
    have q2 := (unhide HQ X hX).2.2.1
    go_simp
    try rfl
  try simp only [Act.put, List.getElem_toArray, List.getElem_cons_zero, List.getElem_cons_succ, List.setIfInBounds_toArray, List.set_cons_zero, List.set_cons_succ]
  refine wpAnyH_take (i := 12) (oi := _) (v := ?_) rfl (by kernel_rfl) (by kernel_rfl) (by kernel_rfl) (fun _ _ _ h => h) (Or.inl ⟨by rfl, ?_⟩) (by assumption) ?_
  rotate_left
  · intro X hX
    go_simp
    try rfl
  try simp only [Act.put, List.getElem_toArray, List.getElem_cons_zero, List.getElem_cons_succ, List.setIfInBounds_toArray, List.set_cons_zero, List.set_cons_succ]
  refine wpAnyH_take (i := 15) (oi := _) (v := ?_) rfl (by kernel_rfl) (by kernel_rfl) (by kernel_rfl) (fun _ _ _ h => h) (Or.inl ⟨by rfl, ?_⟩) (by assumption) ?_
  rotate_left
  · intro X hX
    go_simp
    try rfl
  try simp only [Act.put, List.getElem_toArray, List.getElem_cons_zero, List.getElem_cons_succ, List.setIfInBounds_toArray, List.set_cons_zero, List.set_cons_succ]
  refine wpAnyH_take (i := 16) (oi := _) (v := ?_) rfl (by kernel_rfl) (by kernel_rfl) (by kernel_rfl) (fun _ _ _ h => h) (Or.inl ⟨by rfl, ?_⟩) (by assumption) ?_
  rotate_left
  · intro X hX
    have q2 := (unhide HQ X hX).2.2.1
    go_simp
    try rfl
  try simp only [Act.put, List.getElem_toArray, List.getElem_cons_zero, List.getElem_cons_succ, List.setIfInBounds_toArray, List.set_cons_zero, List.set_cons_succ]
  refine wpAnyH_take (i := 18) (oi := _) (v := ?_) rfl (by kernel_rfl) (by kernel_rfl) (by kernel_rfl) (fun _ _ _ h => h) (Or.inl ⟨by rfl, ?_⟩) (by assumption) ?_
  rotate_left
  · intro X hX
    go_simp
    try rfl
  try simp only [Act.put, List.getElem_toArray, List.getElem_cons_zero, List.getElem_cons_succ, List.setIfInBounds_toArray, List.set_cons_zero, List.set_cons_succ]
  refine wpAnyH_take (i := 19) (oi := _) (v := ?_) rfl (by kernel_rfl) (by kernel_rfl) (by kernel_rfl) (fun _ _ _ h => h) (Or.inl ⟨by rfl, ?_⟩) (by assumption) ?_
  rotate_left
  · intro X hX
    go_simp
    try rfl
  try simp only [Act.put, List.getElem_toArray, List.getElem_cons_zero, List.getElem_cons_succ, List.setIfInBounds_toArray, List.set_cons_zero, List.set_cons_succ]
  refine wpAnyH_take (i := 20) (oi := _) (v := ?_) rfl (by kernel_rfl) (by kernel_rfl) (by kernel_rfl) (fun _ _ _ h => h) (Or.inl ⟨by rfl, ?_⟩) (by assumption) ?_
  rotate_left
  · intro X hX
    have q3 := (unhide HQ X hX).2.2.2.1
    go_simp
    try rfl
  try simp only [Act.put, List.getElem_toArray, List.getElem_cons_zero, List.getElem_cons_succ, List.setIfInBounds_toArray, List.set_cons_zero, List.set_cons_succ]
  refine wpAnyH_take (i := 21) (oi := _) (v := ?_) rfl (by kernel_rfl) (by kernel_rfl) (by kernel_rfl) (fun _ _ _ h => h) (Or.inl ⟨by rfl, ?_⟩) (by assumption) ?_
  rotate_left
  · intro X hX
    go_simp
    try rfl
  try simp only [Act.put, List.getElem_toArray, List.getElem_cons_zero, List.getElem_cons_succ, List.setIfInBounds_toArray, List.set_cons_zero, List.set_cons_succ]
  refine wpAnyH_ready (rs := [3]) (by kernel_rfl) (by simp) ?_
  refine AllReadyH.cons (o := _) rfl (fun K hK => ?_) AllReadyH.nil
  go_simp
  go_at_call 54
  refine (unhide HA _ hR0).mono ?_
  rintro r wA ⟨rfl, hRA, hgA⟩
  try go_simp
  refine hK.out _ _ (Bk.kept hHeld hgA (by simp; omega)) (fun hHeld => ?_)
  clear hK K
  try simp only [Act.put, List.getElem_toArray, List.getElem_cons_zero, List.getElem_cons_succ, List.setIfInBounds_toArray, List.set_cons_zero, List.set_cons_succ]
  refine wpAnyH_ready (rs := [7]) (by kernel_rfl) (by simp) ?_
  refine AllReadyH.cons (o := _) rfl (fun K hK => ?_) AllReadyH.nil
  go_simp
  go_at_call 54
  refine (unhide HB _ hRA).mono ?_
  rintro r wB ⟨rfl, hRB, hgB⟩
  try go_simp
  refine hK.out _ _ (Bk.kept hHeld hgB (by simp; omega)) (fun hHeld => ?_)
  clear hK K
  try simp only [Act.put, List.getElem_toArray, List.getElem_cons_zero, List.getElem_cons_succ, List.setIfInBounds_toArray, List.set_cons_zero, List.set_cons_succ]
  refine wpAnyH_take (i := 8) (oi := _) (v := ?_) rfl (by kernel_rfl) (by kernel_rfl) (by kernel_rfl) (fun _ _ _ h => h) (Or.inl ⟨by rfl, ?_⟩) (by assumption) ?_
  rotate_left
  · intro X hX
    go_simp
    rw [if_neg (by simp [ByteArray.size_append]; omega)]
    try rfl
  try simp only [Act.put, List.getElem_toArray, List.getElem_cons_zero, List.getElem_cons_succ, List.setIfInBounds_toArray, List.set_cons_zero, List.set_cons_succ]
  refine wpAnyH_ready (rs := [13]) (by kernel_rfl) (by simp) ?_
  refine AllReadyH.cons (o := _) rfl (fun K hK => ?_) AllReadyH.nil
  go_simp
  go_at_call 54
  refine (unhide HC _ hRB).mono ?_
  rintro r wC ⟨rfl, hRC, hgC⟩
  try go_simp
  refine hK.out _ _ (Bk.kept hHeld hgC (by simp; omega)) (fun hHeld => ?_)
  clear hK K
  try simp only [Act.put, List.getElem_toArray, List.getElem_cons_zero, List.getElem_cons_succ, List.setIfInBounds_toArray, List.set_cons_zero, List.set_cons_succ]
  refine wpAnyH_take (i := 14) (oi := _) (v := ?_) rfl (by kernel_rfl) (by kernel_rfl) (by kernel_rfl) (fun _ _ _ h => h) (Or.inl ⟨by rfl, ?_⟩) (by assumption) ?_
  rotate_left
  · intro X hX
    go_simp
    rw [if_neg (by simp [ByteArray.size_append]; omega)]
    try rfl
  try simp only [Act.put, List.getElem_toArray, List.getElem_cons_zero, List.getElem_cons_succ, List.setIfInBounds_toArray, List.set_cons_zero, List.set_cons_succ]
  refine wpAnyH_take (i := 17) (oi := _) (v := ?_) rfl (by kernel_rfl) (by kernel_rfl) (by kernel_rfl) (fun _ _ _ h => h) (Or.inl ⟨by rfl, ?_⟩) (by assumption) ?_
  rotate_left
  · intro X hX
    go_simp
    rw [if_neg (by simp [ByteArray.size_append]; omega)]
    try rfl
  try simp only [Act.put, List.getElem_toArray, List.getElem_cons_zero, List.getElem_cons_succ, List.setIfInBounds_toArray, List.set_cons_zero, List.set_cons_succ]
  refine wpAnyH_ready (rs := [22]) (by kernel_rfl) (by simp) ?_
  refine AllReadyH.cons (o := _) rfl (fun K hK => ?_) AllReadyH.nil
  go_simp
  go_at_call 54
  refine (unhide HD _ hRC).mono ?_
  rintro r wD ⟨rfl, hRD, hgD⟩
  try go_simp
  refine hK.out _ _ (Bk.kept hHeld hgD (by simp; omega)) (fun hHeld => ?_)
  clear hK K
  try simp only [Act.put, List.getElem_toArray, List.getElem_cons_zero, List.getElem_cons_succ, List.setIfInBounds_toArray, List.set_cons_zero, List.set_cons_succ]
  refine wpAnyH_take (i := 23) (oi := _) (v := ?_) rfl (by kernel_rfl) (by kernel_rfl) (by kernel_rfl) (fun _ _ _ h => h) (Or.inl ⟨by rfl, ?_⟩) (by assumption) ?_
  rotate_left
  · intro X hX
    go_simp
    rw [if_neg (by simp [ByteArray.size_append]; omega)]
    try rfl
  try simp only [Act.put, List.getElem_toArray, List.getElem_cons_zero, List.getElem_cons_succ, List.setIfInBounds_toArray, List.set_cons_zero, List.set_cons_succ]
  refine wpAnyH_take (i := 24) (oi := _) (v := ?_) rfl (by kernel_rfl) (by kernel_rfl) (by kernel_rfl) (fun _ _ _ h => h) (Or.inl ⟨by rfl, ?_⟩) (by assumption) ?_
  rotate_left
  · intro X hX
    go_simp
    try rfl
  try simp only [Act.put, List.getElem_toArray, List.getElem_cons_zero, List.getElem_cons_succ, List.setIfInBounds_toArray, List.set_cons_zero, List.set_cons_succ]
  refine wpAnyH_done (by kernel_rfl) ?_ _
  rw [unhide Hh2]
  rw [← unhide Hh1] at hRD
  have gD : w.grownBy wD (some R) := grown_trans (grown_trans (grown_trans (grown_trans (⟨(unhide HG1).os, (unhide HG1).tape, (unhide HG1).output, (unhide HG1).size, (unhide HG1).block⟩ : w.grownBy w1.drew (some R)) hgA) hgB) hgC) hgD
  have HRD := hide hRD
  have HGD := hide gD
  have HBD := hide hHeld
  clear hRD gD hHeld hgA hgB hgC hgD hRA hRB hRC hR0 H0 HQ HA HB HC HD Hh1 Hh2 HB1 HG1 HBl1 zA zB zC zD
  have c3 := (unhide HBD).cell 3
  simp at c3
  go_wp2_with fail
  clear c3
  go_loopw [5, 37] (fun s i wr => ∃ k : Nat, k ≤ d.handlers.length ∧ i = .int .i64 k ∧ s = .string ⟨(M.rpart d k e0).2.toArray⟩ ∧ Hid (Rb wr R c vp vi vf vm (M.rpart d k e0).1) ∧ Hid (w.grownBy wr (some R)) ∧ Hid (Bk wr w.heap.size #[.int .i64 d.stack, .int .i64 d.locals, .string ⟨d.bytes.toArray⟩, .slice ha d.handlers.length hcap, .string ⟨d.map.toArray⟩] 99)) (fun _ i _ => d.handlers.length - (intOf i).toNat)
  case atStart => exact ⟨0, Nat.zero_le _, rfl, by rw [M.rpart_zero], by rw [M.rpart_zero]; exact unhide HRD, unhide HGD, unhide HBD⟩
  case round =>
    clear HRD HGD HBD
    obtain ⟨k, hkn, rfl, rfl, HRr, HGr, HBr⟩ := hrel
    have hpl := M.rpart_len d k e0 hkn
    by_cases hlt : k < d.handlers.length
    · have hne : d.handlers ≠ [] := by intro e; rw [e] at hlt; simp at hlt
      have hbr := grown_below (unhide HBl0) (unhide HGr) hw0
      obtain ⟨_, _, x1, G1⟩ := FIn.below (f := Hi.cells) (z := 4) (d := Hi.zero) (v := .slice ha d.handlers.length hcap) (l := d.handlers) Hi.len ⟨ha, hcap, rfl, unhide Hhc⟩ hbr
      cases x1
      obtain ⟨g1, o1', rfl, g2⟩ := G1 hne
      obtain ⟨x, hx⟩ : ∃ x, x = d.handlers.getD k Hi.zero := ⟨_, rfl⟩
      have hxm : x ∈ d.handlers := by rw [hx]; simp [List.getD, List.getElem?_eq_getElem hlt]
      have hxo := (unhide Hd).h x hxm
      have s0 := g2 k hlt 0 (by omega)
      have s1 := g2 k hlt 1 (by omega)
      have s2 := g2 k hlt 2 (by omega)
      have s3 := g2 k hlt 3 (by omega)
      rw [← hx] at s0 s1 s2 s3
      simp [Hi.cells] at s0 s1 s2 s3
      have ki : (k : Int) < (d.handlers.length : Int) := by omega
      have hstep := M.rpart_step d hlt
      rw [← hx] at hstep
      obtain ⟨sk, hsk⟩ : ∃ a : ByteArray, a = ⟨(M.rpart d k e0).2.toArray⟩ := ⟨_, rfl⟩
      have zk : (sk.size : Int) ≤ 1000000 := by rw [hsk]; simp [ByteArray.size]; omega
      obtain ⟨ek, hek⟩ : ∃ a, a = (M.rpart d k e0).1 := ⟨_, rfl⟩
      rw [← hsk]
      rw [← hek] at HRr
      have hszr := (unhide HGr).size
      obtain ⟨wZ, hwZ⟩ : ∃ wZ, wZ = wr.alloc (.cells #[.int .i64 x.from_, .int .i64 x.to_, .int .i64 x.target, .int .u16 (x.type_ : Int)] 152) := ⟨_, rfl⟩
      have bB : Bk wZ wr.heap.size #[.int .i64 x.from_, .int .i64 x.to_, .int .i64 x.target, .int .u16 (x.type_ : Int)] 152 := by rw [hwZ]; exact Bk.new wr _ _
      have hRk : Rb wZ R c vp vi vf vm ek := by rw [hwZ]; exact (unhide HRr).alloc _
      have HGB : Hid (w.grownBy wZ.drew (some R)) := by
        have h1 := grown_trans (unhide HGr) (World.grownBy_alloc wr (.cells #[.int .i64 x.from_, .int .i64 x.to_, .int .i64 x.target, .int .u16 (x.type_ : Int)] 152) (some R))
        rw [← hwZ] at h1
        exact ⟨h1.os, h1.tape, h1.output, h1.size, h1.block⟩
      have hB0 := Bk.alloc (unhide HBr) (.cells #[.int .i64 x.from_, .int .i64 x.to_, .int .i64 x.target, .int .u16 (x.type_ : Int)] 152)
      rw [← hwZ] at hB0
      have HBB := hide hB0
      clear hB0
      have hRlt := (unhide HRr).lt
      obtain ⟨sA, hsA⟩ : ∃ a : ByteArray, a = ⟨(M.rnum x.from_ 2 ek).2.toArray⟩ := ⟨_, rfl⟩
      obtain ⟨eA, heA⟩ : ∃ a, a = (M.rnum x.from_ 2 ek).1 := ⟨_, rfl⟩
      have HA := hide (fun W (hW : Rb W R c vp vi vf vm ek) => rnum2_any R c vp vi vf vm ek x.from_ W hW hxo.a)
      rw [← hsA, ← heA] at HA
      have zA : (sA.size : Int) ≤ 100 := by rw [hsA]; simp [ByteArray.size, M.rnum, Ytgihfcjddkpkaaa.M.big_len]
      obtain ⟨sB, hsB⟩ : ∃ a : ByteArray, a = ⟨(M.rnum x.to_ 2 eA).2.toArray⟩ := ⟨_, rfl⟩
      obtain ⟨eB, heB⟩ : ∃ a, a = (M.rnum x.to_ 2 eA).1 := ⟨_, rfl⟩
      have HB := hide (fun W (hW : Rb W R c vp vi vf vm eA) => rnum2_any R c vp vi vf vm eA x.to_ W hW hxo.b)
      rw [← hsB, ← heB] at HB
      have zB : (sB.size : Int) ≤ 100 := by rw [hsB]; simp [ByteArray.size, M.rnum, Ytgihfcjddkpkaaa.M.big_len]
      obtain ⟨sC, hsC⟩ : ∃ a : ByteArray, a = ⟨(M.rnum x.target 2 eB).2.toArray⟩ := ⟨_, rfl⟩
      obtain ⟨eC, heC⟩ : ∃ a, a = (M.rnum x.target 2 eB).1 := ⟨_, rfl⟩
      have HC := hide (fun W (hW : Rb W R c vp vi vf vm eB) => rnum2_any R c vp vi vf vm eB x.target W hW hxo.c)
      rw [← hsC, ← heC] at HC
      have zC : (sC.size : Int) ≤ 100 := by rw [hsC]; simp [ByteArray.size, M.rnum, Ytgihfcjddkpkaaa.M.big_len]
      obtain ⟨sD, hsD⟩ : ∃ a : ByteArray, a = ⟨(M.rnum (x.type_ : Int) 2 eC).2.toArray⟩ := ⟨_, rfl⟩
      obtain ⟨eD, heD⟩ : ∃ a, a = (M.rnum (x.type_ : Int) 2 eC).1 := ⟨_, rfl⟩
      have HD := hide (fun W (hW : Rb W R c vp vi vf vm eC) => rnum2_any R c vp vi vf vm eC (x.type_ : Int) W hW (Okx.nat (by have := hxo.d; omega)))
      rw [← hsD, ← heD] at HD
      have zD : (sD.size : Int) ≤ 100 := by rw [hsD]; simp [ByteArray.size, M.rnum, Ytgihfcjddkpkaaa.M.big_len]

      have hn1 : (M.rpart d (k + 1) e0).1 = eD := by rw [hstep]; simp only [M.seqR, M.rhand, ← hek, ← heA, ← heB, ← heC, ← heD]
      have hn2 : sk ++ (sA ++ sB ++ sC ++ sD) = ⟨(M.rpart d (k + 1) e0).2.toArray⟩ := by
        rw [hstep, hsk, hsA, hsB, hsC, hsD, cat_text, cat_text, cat_text, cat_text]
        simp only [M.seqR, M.rhand, ← hek, ← heA, ← heB, ← heC]
      have Hn1 := hide hn1
      have Hn2 := hide hn2
      have HwZ := hide hwZ
      have hxd := hxo.d
      have hwt : IntKind.i64.wrap (x.type_ : Int) = (x.type_ : Int) := by rw [IntKind.wrap_i64]; omega
      clear hn1 hn2 hsA hsB hsC hsD heA heB heC heD hwZ hstep hsk hek hx hxm hxo g2 G1 hne hbr HRr HGr HBr hpl
      go_upto_region 6 with fail
      rw [← unhide HwZ]
      clear HwZ s0 s1 s2 s3
      have HQ : Hid (∀ X : World, Bk X wr.heap.size #[.int .i64 x.from_, .int .i64 x.to_, .int .i64 x.target, .int .u16 (x.type_ : Int)] 152 → X.cell? ⟨wr.heap.size, 0, none⟩ = some (.int .i64 x.from_) ∧ X.cell? ⟨wr.heap.size, 1, none⟩ = some (.int .i64 x.to_) ∧ X.cell? ⟨wr.heap.size, 2, none⟩ = some (.int .i64 x.target) ∧ X.cell? ⟨wr.heap.size, 3, none⟩ = some (.int .u16 (x.type_ : Int))) := fun X hX => ⟨hX.cell 0, hX.cell 1, hX.cell 2, hX.cell 3⟩
      have H0 : Hid (Bk wZ.drew wr.heap.size #[.int .i64 x.from_, .int .i64 x.to_, .int .i64 x.target, .int .u16 (x.type_ : Int)] 152) := bB
      have hR0 : Rb wZ.drew R c vp vi vf vm ek := hRk
      clear bB hRk
      refine wp_region_held_drew (S := fun X => Bk X wr.heap.size #[.int .i64 x.from_, .int .i64 x.to_, .int .i64 x.target, .int .u16 (x.type_ : Int)] 152) (by kernel_rfl) (unhide H0) (fun hHeld => ?_)
      refine wpAnyH_take (i := 0) (oi := _) (v := ?_) rfl (by kernel_rfl) (by kernel_rfl) (by kernel_rfl) (fun _ _ _ h => h) (Or.inl ⟨by rfl, ?_⟩) (by assumption) ?_
      rotate_left
      · intro X hX
        go_simp
        try rfl
      try simp only [Act.put, List.getElem_toArray, List.getElem_cons_zero, List.getElem_cons_succ, List.setIfInBounds_toArray, List.set_cons_zero, List.set_cons_succ]
      refine wpAnyH_take (i := 1) (oi := _) (v := ?_) rfl (by kernel_rfl) (by kernel_rfl) (by kernel_rfl) (fun _ _ _ h => h) (Or.inl ⟨by rfl, ?_⟩) (by assumption) ?_
      rotate_left
      · intro X hX
        go_simp
        try rfl
      try simp only [Act.put, List.getElem_toArray, List.getElem_cons_zero, List.getElem_cons_succ, List.setIfInBounds_toArray, List.set_cons_zero, List.set_cons_succ]
      refine wpAnyH_take (i := 2) (oi := _) (v := ?_) rfl (by kernel_rfl) (by kernel_rfl) (by kernel_rfl) (fun _ _ _ h => h) (Or.inl ⟨by rfl, ?_⟩) (by assumption) ?_
      rotate_left
      · intro X hX
        go_simp
        try rfl
      try simp only [Act.put, List.getElem_toArray, List.getElem_cons_zero, List.getElem_cons_succ, List.setIfInBounds_toArray, List.set_cons_zero, List.set_cons_succ]
      refine wpAnyH_take (i := 3) (oi := _) (v := ?_) rfl (by kernel_rfl) (by kernel_rfl) (by kernel_rfl) (fun _ _ _ h => h) (Or.inl ⟨by rfl, ?_⟩) (by assumption) ?_
      rotate_left
      · intro X hX
        have q0 := (unhide HQ X hX).1
        go_simp
        try rfl
      try simp only [Act.put, List.getElem_toArray, List.getElem_cons_zero, List.getElem_cons_succ, List.setIfInBounds_toArray, List.set_cons_zero, List.set_cons_succ]
      refine wpAnyH_take (i := 5) (oi := _) (v := ?_) rfl (by kernel_rfl) (by kernel_rfl) (by kernel_rfl) (fun _ _ _ h => h) (Or.inl ⟨by rfl, ?_⟩) (by assumption) ?_
      rotate_left
      · intro X hX
        go_simp
        try rfl
      try simp only [Act.put, List.getElem_toArray, List.getElem_cons_zero, List.getElem_cons_succ, List.setIfInBounds_toArray, List.set_cons_zero, List.set_cons_succ]
      refine wpAnyH_take (i := 6) (oi := _) (v := ?_) rfl (by kernel_rfl) (by kernel_rfl) (by kernel_rfl) (fun _ _ _ h => h) (Or.inl ⟨by rfl, ?_⟩) (by assumption) ?_
      rotate_left
      · intro X hX
        go_simp
        try rfl
      try simp only [Act.put, List.getElem_toArray, List.getElem_cons_zero, List.getElem_cons_succ, List.setIfInBounds_toArray, List.set_cons_zero, List.set_cons_succ]
      refine wpAnyH_take (i := 7) (oi := _) (v := ?_) rfl (by kernel_rfl) (by kernel_rfl) (by kernel_rfl) (fun _ _ _ h => h) (Or.inl ⟨by rfl, ?_⟩) (by assumption) ?_
      rotate_left
      · intro X hX
        have q1 := (unhide HQ X hX).2.1
        go_simp
        try rfl
      try simp only [Act.put, List.getElem_toArray, List.getElem_cons_zero, List.getElem_cons_succ, List.setIfInBounds_toArray, List.set_cons_zero, List.set_cons_succ]
      refine wpAnyH_take (i := 10) (oi := _) (v := ?_) rfl (by kernel_rfl) (by kernel_rfl) (by kernel_rfl) (fun _ _ _ h => h) (Or.inl ⟨by rfl, ?_⟩) (by assumption) ?_
      rotate_left
      · intro X hX
        go_simp
        try rfl
      try simp only [Act.put, List.getElem_toArray, List.getElem_cons_zero, List.getElem_cons_succ, List.setIfInBounds_toArray, List.set_cons_zero, List.set_cons_succ]
      refine wpAnyH_take (i := 11) (oi := _) (v := ?_) rfl (by kernel_rfl) (by kernel_rfl) (by kernel_rfl) (fun _ _ _ h => h) (Or.inl ⟨by rfl, ?_⟩) (by assumption) ?_
      rotate_left
      · intro X hX
        go_simp
        try rfl
      try simp only [Act.put, List.getElem_toArray, List.getElem_cons_zero, List.getElem_cons_succ, List.setIfInBounds_toArray, List.set_cons_zero, List.set_cons_succ]
      refine wpAnyH_take (i := 12) (oi := _) (v := ?_) rfl (by kernel_rfl) (by kernel_rfl) (by kernel_rfl) (fun _ _ _ h => h) (Or.inl ⟨by rfl, ?_⟩) (by assumption) ?_
      rotate_left
      · intro X hX
        have q2 := (unhide HQ X hX).2.2.1
        go_simp
        try rfl
      try simp only [Act.put, List.getElem_toArray, List.getElem_cons_zero, List.getElem_cons_succ, List.setIfInBounds_toArray, List.set_cons_zero, List.set_cons_succ]
      refine wpAnyH_take (i := 15) (oi := _) (v := ?_) rfl (by kernel_rfl) (by kernel_rfl) (by kernel_rfl) (fun _ _ _ h => h) (Or.inl ⟨by rfl, ?_⟩) (by assumption) ?_
      rotate_left
      · intro X hX
        go_simp
        try rfl
      try simp only [Act.put, List.getElem_toArray, List.getElem_cons_zero, List.getElem_cons_succ, List.setIfInBounds_toArray, List.set_cons_zero, List.set_cons_succ]
      refine wpAnyH_take (i := 16) (oi := _) (v := ?_) rfl (by kernel_rfl) (by kernel_rfl) (by kernel_rfl) (fun _ _ _ h => h) (Or.inl ⟨by rfl, ?_⟩) (by assumption) ?_
      rotate_left
      · intro X hX
        go_simp
        try rfl
      try simp only [Act.put, List.getElem_toArray, List.getElem_cons_zero, List.getElem_cons_succ, List.setIfInBounds_toArray, List.set_cons_zero, List.set_cons_succ]
      refine wpAnyH_take (i := 17) (oi := _) (v := ?_) rfl (by kernel_rfl) (by kernel_rfl) (by kernel_rfl) (fun _ _ _ h => h) (Or.inl ⟨by rfl, ?_⟩) (by assumption) ?_
      rotate_left
      · intro X hX
        have q3 := (unhide HQ X hX).2.2.2
        go_simp
        try rfl
      try simp only [Act.put, List.getElem_toArray, List.getElem_cons_zero, List.getElem_cons_succ, List.setIfInBounds_toArray, List.set_cons_zero, List.set_cons_succ]
      refine wpAnyH_take (i := 18) (oi := _) (v := ?_) rfl (by kernel_rfl) (by kernel_rfl) (by kernel_rfl) (fun _ _ _ h => h) (Or.inl ⟨by rfl, ?_⟩) (by assumption) ?_
      rotate_left
      · intro X hX
        go_simp
        try rfl
      try simp only [Act.put, List.getElem_toArray, List.getElem_cons_zero, List.getElem_cons_succ, List.setIfInBounds_toArray, List.set_cons_zero, List.set_cons_succ]
      refine wpAnyH_ready (rs := [4]) (by kernel_rfl) (by simp) ?_
      refine AllReadyH.cons (o := _) rfl (fun K hK => ?_) AllReadyH.nil
      go_simp
      go_at_call 54
      refine (unhide HA _ hR0).mono ?_
      rintro r wA ⟨rfl, hRA, hgA⟩
      try go_simp
      refine hK.out _ _ (Bk.kept hHeld hgA (by simp; omega)) (fun hHeld => ?_)
      clear hK K
      try simp only [Act.put, List.getElem_toArray, List.getElem_cons_zero, List.getElem_cons_succ, List.setIfInBounds_toArray, List.set_cons_zero, List.set_cons_succ]
      refine wpAnyH_ready (rs := [8]) (by kernel_rfl) (by simp) ?_
      refine AllReadyH.cons (o := _) rfl (fun K hK => ?_) AllReadyH.nil
      go_simp
      go_at_call 54
      refine (unhide HB _ hRA).mono ?_
      rintro r wB ⟨rfl, hRB, hgB⟩
      try go_simp
      refine hK.out _ _ (Bk.kept hHeld hgB (by simp; omega)) (fun hHeld => ?_)
      clear hK K
      try simp only [Act.put, List.getElem_toArray, List.getElem_cons_zero, List.getElem_cons_succ, List.setIfInBounds_toArray, List.set_cons_zero, List.set_cons_succ]
      refine wpAnyH_take (i := 9) (oi := _) (v := ?_) rfl (by kernel_rfl) (by kernel_rfl) (by kernel_rfl) (fun _ _ _ h => h) (Or.inl ⟨by rfl, ?_⟩) (by assumption) ?_
      rotate_left
      · intro X hX
        go_simp
        rw [if_neg (by simp [ByteArray.size_append]; omega)]
        try rfl
      try simp only [Act.put, List.getElem_toArray, List.getElem_cons_zero, List.getElem_cons_succ, List.setIfInBounds_toArray, List.set_cons_zero, List.set_cons_succ]
      refine wpAnyH_ready (rs := [13]) (by kernel_rfl) (by simp) ?_
      refine AllReadyH.cons (o := _) rfl (fun K hK => ?_) AllReadyH.nil
      go_simp
      go_at_call 54
      refine (unhide HC _ hRB).mono ?_
      rintro r wC ⟨rfl, hRC, hgC⟩
      try go_simp
      refine hK.out _ _ (Bk.kept hHeld hgC (by simp; omega)) (fun hHeld => ?_)
      clear hK K
      try simp only [Act.put, List.getElem_toArray, List.getElem_cons_zero, List.getElem_cons_succ, List.setIfInBounds_toArray, List.set_cons_zero, List.set_cons_succ]
      refine wpAnyH_take (i := 14) (oi := _) (v := ?_) rfl (by kernel_rfl) (by kernel_rfl) (by kernel_rfl) (fun _ _ _ h => h) (Or.inl ⟨by rfl, ?_⟩) (by assumption) ?_
      rotate_left
      · intro X hX
        go_simp
        rw [if_neg (by simp [ByteArray.size_append]; omega)]
        try rfl
      try simp only [Act.put, List.getElem_toArray, List.getElem_cons_zero, List.getElem_cons_succ, List.setIfInBounds_toArray, List.set_cons_zero, List.set_cons_succ]
      refine wpAnyH_ready (rs := [19]) (by kernel_rfl) (by simp) ?_
      refine AllReadyH.cons (o := _) rfl (fun K hK => ?_) AllReadyH.nil
      go_simp
      go_at_call 54
      refine (unhide HD _ hRC).mono ?_
      rintro r wD ⟨rfl, hRD, hgD⟩
      try go_simp
      refine hK.out _ _ (Bk.kept hHeld hgD (by simp; omega)) (fun hHeld => ?_)
      clear hK K
      try simp only [Act.put, List.getElem_toArray, List.getElem_cons_zero, List.getElem_cons_succ, List.setIfInBounds_toArray, List.set_cons_zero, List.set_cons_succ]
      refine wpAnyH_take (i := 20) (oi := _) (v := ?_) rfl (by kernel_rfl) (by kernel_rfl) (by kernel_rfl) (fun _ _ _ h => h) (Or.inl ⟨by rfl, ?_⟩) (by assumption) ?_
      rotate_left
      · intro X hX
        go_simp
        rw [if_neg (by simp [ByteArray.size_append]; omega)]
        try rfl
      try simp only [Act.put, List.getElem_toArray, List.getElem_cons_zero, List.getElem_cons_succ, List.setIfInBounds_toArray, List.set_cons_zero, List.set_cons_succ]
      refine wpAnyH_take (i := 21) (oi := _) (v := ?_) rfl (by kernel_rfl) (by kernel_rfl) (by kernel_rfl) (fun _ _ _ h => h) (Or.inl ⟨by rfl, ?_⟩) (by assumption) ?_
      rotate_left
      · intro X hX
        go_simp
        rw [if_neg (by simp [ByteArray.size_append]; omega)]
        try rfl
      try simp only [Act.put, List.getElem_toArray, List.getElem_cons_zero, List.getElem_cons_succ, List.setIfInBounds_toArray, List.set_cons_zero, List.set_cons_succ]
      refine wpAnyH_take (i := 22) (oi := _) (v := ?_) rfl (by kernel_rfl) (by kernel_rfl) (by kernel_rfl) (fun _ _ _ h => h) (Or.inl ⟨by rfl, ?_⟩) (by assumption) ?_
      rotate_left
      · intro X hX
        go_simp
        try rfl
      try simp only [Act.put, List.getElem_toArray, List.getElem_cons_zero, List.getElem_cons_succ, List.setIfInBounds_toArray, List.set_cons_zero, List.set_cons_succ]
      refine wpAnyH_done (by kernel_rfl) ?_ _

      rw [unhide Hn2]
      rw [← unhide Hn1] at hRD
      have gD : w.grownBy wD (some R) := grown_trans (grown_trans (grown_trans (grown_trans (unhide HGB) hgA) hgB) hgC) hgD
      have bD := Bk.kept (Bk.kept (Bk.kept (Bk.kept (show Bk wZ.drew _ _ _ from unhide HBB) hgA (by simp; omega)) hgB (by simp; omega)) hgC (by simp; omega)) hgD (by simp; omega)
      have HD2 := hide (And.intro hRD (And.intro gD bD))
      clear hRD gD bD hHeld hgA hgB hgC hgD hRA hRB hRC hR0 H0 HQ HA HB HC HD HGB HBB
      go_wp2
      go_roundw
      case rel => exact ⟨k + 1, by omega, by go_num, rfl, (unhide HD2).1, (unhide HD2).2.1, (unhide HD2).2.2⟩
      case measure => simp [intOf]; omega
    · have hkl : k = d.handlers.length := by omega
      subst hkl
      have ki : ¬ ((d.handlers.length : Nat) : Int) < ((d.handlers.length : Nat) : Int) := by omega
      have hall := M.rpart_all (qp c.pool) d
      obtain ⟨sk, hsk⟩ : ∃ a : ByteArray, a = ⟨(M.rpart d d.handlers.length e0).2.toArray⟩ := ⟨_, rfl⟩
      have zk : (sk.size : Int) ≤ 1000000 := by rw [hsk]; simp [ByteArray.size]; omega
      obtain ⟨ek, hek⟩ : ∃ a, a = (M.rpart d d.handlers.length e0).1 := ⟨_, rfl⟩
      rw [← hsk]
      rw [← hek] at HRr
      have c4 := (unhide HBr).cell 4
      simp at c4
      have hbr := grown_below (unhide HBl0) (unhide HGr) hw0
      by_cases hm : d.map = []
      · have hb1 : (M.rbody (qp c.pool) d e0).1 = ek := by rw [hall]; simp only [M.seqR, M.rmap, hm, if_true, M.rtext, ← hek]
        have hb2 : (M.rbody (qp c.pool) d e0).2 = (M.rpart d d.handlers.length e0).2 ++ [0, 0] := by rw [hall]; simp only [M.seqR, M.rmap, hm, if_true, M.rtext]
        have hb3 : sk ++ ⟨#[0, 0]⟩ = ⟨(M.rbody (qp c.pool) d e0).2.toArray⟩ := by rw [hb2, hsk, show (⟨#[0, 0]⟩ : ByteArray) = ⟨[0, 0].toArray⟩ from rfl, cat_text]
        have hbz : (M.rbody (qp c.pool) d e0).2.length ≤ 1000000 := by rw [hb2, List.length_append]; simp; omega
        have hrc2 := unhide Hrc
        rw [hb1] at hrc2
        generalize (M.rbody (qp c.pool) d e0).2 = bb at *
        have HT := hide (ratt_any R c vp vi vf vm ek M.codeN bb wr (unhide HRr) ((unhide Hk).below hbr) hP hbz (by decide))
        rw [← hrc2] at HT
        unfold M.codeN at HT
        have n0 : d.map.isEmpty = true := by rw [hm]; rfl
        rw [hm] at c4
        have Hb3 := hide hb3
        have HGr2 := HGr
        clear hb1 hb2 hb3 hrc2 hm hall hsk hek hpl HRr HBr hbr Hrc
        go_wp2_with fail
        rw [unhide Hb3]
        refine (unhide HT).mono ?_
        rintro r w6 ⟨rfl, h6, g6⟩
        have H6 := hide (And.intro h6 (grown_trans (unhide HGr2) g6))
        clear h6 g6 HT
        go_wp2
        go_ret
        exact ⟨rfl, (unhide H6).1, (unhide H6).2⟩
      · have n0 : d.map.isEmpty = false := by cases hq : d.map with | nil => exact absurd hq hm | cons x xs => rfl
        have HT1 := hide (ratt_any R c vp vi vf vm ek M.mapN d.map wr (unhide HRr) ((unhide Hk).below hbr) hP (by omega) (by decide))
        have hml2 := M.ratt_len (qp c.pool) M.mapN d.map ek
        have hb1 : (M.rbody (qp c.pool) d e0).1 = (M.ratt (qp c.pool) M.mapN d.map ek).1 := by rw [hall]; simp only [M.seqR, M.rmap, hm, if_false, M.rtext, ← hek]
        have hb2 : (M.rbody (qp c.pool) d e0).2 = (M.rpart d d.handlers.length e0).2 ++ ([0, 1] ++ (M.ratt (qp c.pool) M.mapN d.map ek).2) := by rw [hall]; simp only [M.seqR, M.rmap, hm, if_false, M.rtext, ← hek]
        obtain ⟨sm, hsm⟩ : ∃ a : ByteArray, a = ⟨(M.ratt (qp c.pool) M.mapN d.map ek).2.toArray⟩ := ⟨_, rfl⟩
        obtain ⟨em, hem⟩ : ∃ a, a = (M.ratt (qp c.pool) M.mapN d.map ek).1 := ⟨_, rfl⟩
        have zm : (sm.size : Int) ≤ 1000000 := by rw [hsm]; simp [ByteArray.size]; omega
        have hb3 : sk ++ (⟨#[0, 1]⟩ ++ sm) = ⟨(M.rbody (qp c.pool) d e0).2.toArray⟩ := by rw [hb2, hsk, hsm, show (⟨#[0, 1]⟩ : ByteArray) = ⟨[0, 1].toArray⟩ from rfl, cat_text, cat_text]
        have hbz : (M.rbody (qp c.pool) d e0).2.length ≤ 1000000 := by
          rw [hb2, List.length_append, List.length_append]
          rw [if_neg hm] at hcl
          simp only [List.length_cons, List.length_nil]; omega
        have hrc2 := unhide Hrc
        rw [hb1, ← hem] at hrc2
        rw [← hsm, ← hem] at HT1
        generalize (M.rbody (qp c.pool) d e0).2 = bb at *
        have HT := hide (fun W (hW : Rb W R c vp vi vf vm em) (hbW : Below w0.heap.size w0 W) => ratt_any R c vp vi vf vm em M.codeN bb W hW ((unhide Hk).below hbW) hP hbz (by decide))
        rw [← hrc2] at HT
        unfold M.codeN at HT
        unfold M.mapN at HT1
        have Hb3 := hide hb3
        have Hbr := hide hbr
        have HGr2 := HGr
        clear hb1 hb2 hb3 hrc2 hm hall hsk hek hpl HRr HBr hbr Hrc hsm hem hml2
        go_wp2_with fail
        refine (unhide HT1).mono ?_
        rintro r w5 ⟨rfl, h5, g5⟩
        clear HT1
        have hb5 := grown_below (unhide Hbr) g5 hw0
        have HG5 := hide (grown_trans (unhide HGr2) g5)
        clear g5
        go_wp2_with fail
        rw [unhide Hb3]
        refine (unhide HT _ h5 hb5).mono ?_
        rintro r w6 ⟨rfl, h6, g6⟩
        have H6 := hide (And.intro h6 (grown_trans (unhide HG5) g6))
        clear h6 g6 HT h5 hb5
        go_wp2
        go_ret
        exact ⟨rfl, (unhide H6).1, (unhide H6).2⟩
end Go.Proofs.Ytgihfcjddkpkaaa.Cl
