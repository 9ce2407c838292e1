/-
  Package class: what is written: methods.
-/
import Derived.Test.YtgihfcjddkpkaaaMgYd
namespace Go.Proofs.Ytgihfcjddkpkaaa.Cl
set_option linter.unusedVariables false
set_option linter.unusedSimpArgs false
open Go.RowKit Go.Maps
theorem Fx.drew (B W : Nat) (w : World) : Fx B W w w.drew := ⟨rfl, rfl, rfl, Nat.le_refl _, fun _ _ h _ _ => h⟩
theorem Wc.drew {B W : Nat} {w : World} {nm : Value} {o : M.Wo} (h : Wc B w W nm o) : Wc B w.drew W nm o := by
  obtain ⟨v, hb, ho⟩ := h.ex
  exact ⟨⟨v, hb, ho.1, ho.2⟩, h.hB⟩
set_option maxRecDepth 100000 in
set_option maxHeartbeats 1000000 in
theorem method1_any (B W m b0 b1 : Nat) (P : List K) (o : M.Wo) (c : Ci) (hv v0 v1 v2 v3 : Value) (w0 w : World) (h : Wm B P w W m o) (hW : W < B) (hP : P.length ≤ 1048576) (hl : o.l.length + M.clen c + 200 ≤ 1000000) (hc : c.Ok)
    (hb : Below w0.heap.size w0 w) (hw0 : w0.heap.size ≤ W) (hH : FIn Hi.cells 4 Hi.zero w0 hv c.handlers)
    (h0 : Bk w b0 #[.pointer (some ⟨W, 0, none⟩)] 155) (h1 : Bk w b1 #[v0, v1, v2, v3, .int .i64 c.stack, .int .i64 c.locals, .string ⟨c.bytes.toArray⟩, hv, .string ⟨c.map.toArray⟩] 101) :
    Calls Try.prog 111 #[.pointer (some ⟨b0, 0, none⟩), .pointer (some ⟨b1, 0, none⟩)] w fun e w' => e = .returned (.tuple #[]) ∧ Wm B P w' W m (M.wcode P o c) ∧ Fx B W w w' := by
  have HN := hide (code_any B W m P o c hv w0 w h hW hP hl hc hb hw0 hH)
  obtain ⟨ha, hcap, rfl, hhc⟩ := hH
  have c0 : w.cell? ⟨b0, 0, none⟩ = some (.pointer (some ⟨W, 0, none⟩)) := h0.cell 0
  have c4 := h1.cell 4
  have c5 := h1.cell 5
  have c6 := h1.cell 6
  have c7 := h1.cell 7
  have c8 := h1.cell 8
  simp at c4 c5 c6 c7 c8
  clear h h0 h1 hhc hb
  go_enter Try.func111, Try.ntmps111
  go_wp2_with fail
  refine (unhide HN).mono ?_
  rintro e w1 ⟨rfl, h1, f1⟩
  have H1 := hide (And.intro h1 f1)
  clear h1 f1 HN
  go_wp2
  go_end0
  exact ⟨rfl, (unhide H1).1, (unhide H1).2⟩
structure Mi.Ok (j : Mi) : Prop where
  a : j.flags < 65536
  b : j.name < 65536
  c : j.type_ < 65536
  d : j.code.Ok
set_option maxRecDepth 100000 in
set_option maxHeartbeats 4000000 in
theorem method_any (B W m : Nat) (P : List K) (o : M.Wo) (j : Mi) (hv : Value) (w0 w : World) (h : Wm B P w W m o) (hW : W < B) (hP : P.length ≤ 1048576) (hl : o.l.length + M.mcost j + 300 ≤ 1000000) (hj : j.Ok)
    (hb : Below w0.heap.size w0 w) (hw0 : w0.heap.size ≤ W) (hH : FIn Hi.cells 4 Hi.zero w0 hv j.code.handlers) :
    Calls Try.prog 87 #[.pointer (some ⟨W, 0, none⟩), .agg #[.int .u16 (j.flags : Int), .int .u16 (j.name : Int), .int .u16 (j.type_ : Int), .bool j.has, .int .i64 j.code.stack, .int .i64 j.code.locals, .string ⟨j.code.bytes.toArray⟩, hv, .string ⟨j.code.map.toArray⟩]] w fun e w' => e = .returned (.tuple #[]) ∧ Wm B P w' W m (M.wmth P o j) ∧ Fx B W w w' := by
  obtain ⟨ha, hcap, rfl, hhc⟩ := hH
  obtain ⟨q1, q2, q3, hok⟩ := hj
  have hWl := h.c.lt
  have hcl : M.mcost j = 14 + M.clen j.code := rfl
  have hcl2 : M.clen j.code = 12 + j.code.bytes.length + 8 * j.code.handlers.length + (if j.code.map = [] then 0 else 6 + j.code.map.length) := rfl
  have hmp : j.code.map.length ≤ (if j.code.map = [] then 0 else 6 + j.code.map.length) := by
    by_cases e : j.code.map = []
    · rw [if_pos e, e]; simp
    · rw [if_neg e]; omega
  obtain ⟨wA, hwA⟩ : ∃ wA, wA = (w.alloc (.cells #[.pointer (some ⟨W, 0, none⟩)] 155)).alloc (.cells #[.int .u16 (j.flags : Int), .int .u16 (j.name : Int), .int .u16 (j.type_ : Int), .bool j.has, .int .i64 j.code.stack, .int .i64 j.code.locals, .string ⟨j.code.bytes.toArray⟩, .slice ha j.code.handlers.length hcap, .string ⟨j.code.map.toArray⟩] 101) := ⟨_, rfl⟩
  have hA : Wm B P wA W m o := by rw [hwA]; exact (h.alloc _).alloc _
  have fA : Fx B W w wA := by rw [hwA]; exact (Fx.alloc B W w _).trans (Fx.alloc B W _ _)
  have b0 : Bk wA w.heap.size #[.pointer (some ⟨W, 0, none⟩)] 155 := by rw [hwA]; exact (Bk.new w _ _).alloc _
  have b1 : Bk wA (w.heap.size + 1) #[.int .u16 (j.flags : Int), .int .u16 (j.name : Int), .int .u16 (j.type_ : Int), .bool j.has, .int .i64 j.code.stack, .int .i64 j.code.locals, .string ⟨j.code.bytes.toArray⟩, .slice ha j.code.handlers.length hcap, .string ⟨j.code.map.toArray⟩] 101 := by
    have := Bk.new (w.alloc (.cells #[.pointer (some ⟨W, 0, none⟩)] 155)) #[.int .u16 (j.flags : Int), .int .u16 (j.name : Int), .int .u16 (j.type_ : Int), .bool j.has, .int .i64 j.code.stack, .int .i64 j.code.locals, .string ⟨j.code.bytes.toArray⟩, .slice ha j.code.handlers.length hcap, .string ⟨j.code.map.toArray⟩] 101
    rw [hwA]; simpa using this
  have HN := hide (nums2 hA hW [(j.flags : Int), (j.name : Int), (j.type_ : Int)] (by simp; omega) (by intro x hx; simp at hx; rcases hx with rfl | rfl | rfl <;> exact Okx.nat (by omega)) 3)
  have c0 := b0.cell 0
  have c1 := b1.cell 0
  have c2 := b1.cell 1
  have c3 := b1.cell 2
  simp at c0 c1 c2 c3
  have HA := hide hwA
  have HB := hide (And.intro b0 b1)
  have HF := hide fA
  have HBl := hide hb
  have Hhc := hide hhc
  clear h hA b0 b1 hwA fA hb hhc
  go_enter Try.func87, Try.ntmps87
  go_upto_region 1 with fail
  rw [← unhide HA]
  clear HA
  go_wp2_with fail
  refine (unhide HN).mono ?_
  rintro e w1 ⟨rfl, h1, f1⟩
  have hl1 : (M.wnums o 2 [(j.flags : Int), (j.name : Int), (j.type_ : Int)]).l.length = o.l.length + 6 := by rw [M.wnums_len]; simp
  have hwf : M.wmth P o j = if j.has = true then M.wcode P (M.whead P (M.wnums o 2 [(j.flags : Int), (j.name : Int), (j.type_ : Int)]) M.codeN (M.clen j.code : Int)) j.code else M.wnums (M.wnums o 2 [(j.flags : Int), (j.name : Int), (j.type_ : Int)]) 2 [0] := rfl
  generalize M.wnums o 2 [(j.flags : Int), (j.name : Int), (j.type_ : Int)] = o1 at *
  have e0 := fxb (unhide HB).1 f1 (by omega) (by decide)
  have e1 := fxb (unhide HB).2 f1 (by omega) (by decide)
  clear c0 c1 c2 c3 HN HB
  have F1 := hide ((unhide HF).trans f1)
  have hlh : (M.whead P o1 M.codeN (M.clen j.code : Int)).l.length + M.clen j.code + 200 ≤ 1000000 := by rw [M.whead_len]; omega
  clear f1 HF
  go_wp2_with fail
  cases hhas : j.has with
  | true =>
    rw [hhas] at hwf e1
    rw [if_pos rfl] at hwf
    have Hq := hide hwf
    clear hwf
    have HQ : Hid (∀ X : World, (Bk X w.heap.size #[.pointer (some ⟨W, 0, none⟩)] 155 ∧ Bk X (w.heap.size + 1) #[.int .u16 (j.flags : Int), .int .u16 (j.name : Int), .int .u16 (j.type_ : Int), .bool true, .int .i64 j.code.stack, .int .i64 j.code.locals, .string ⟨j.code.bytes.toArray⟩, .slice ha j.code.handlers.length hcap, .string ⟨j.code.map.toArray⟩] 101) → X.cell? ⟨w.heap.size, 0, none⟩ = some (.pointer (some ⟨W, 0, none⟩)) ∧ X.cell? ⟨w.heap.size + 1, 0, none⟩ = some (.int .u16 (j.flags : Int)) ∧ X.cell? ⟨w.heap.size + 1, 1, none⟩ = some (.int .u16 (j.name : Int)) ∧ X.cell? ⟨w.heap.size + 1, 2, none⟩ = some (.int .u16 (j.type_ : Int)) ∧ X.cell? ⟨w.heap.size + 1, 3, none⟩ = some (.bool true) ∧ X.cell? ⟨w.heap.size + 1, 4, none⟩ = some (.int .i64 j.code.stack) ∧ X.cell? ⟨w.heap.size + 1, 5, none⟩ = some (.int .i64 j.code.locals) ∧ X.cell? ⟨w.heap.size + 1, 6, none⟩ = some (.string ⟨j.code.bytes.toArray⟩) ∧ X.cell? ⟨w.heap.size + 1, 7, none⟩ = some (.slice ha j.code.handlers.length hcap) ∧ X.cell? ⟨w.heap.size + 1, 8, none⟩ = some (.string ⟨j.code.map.toArray⟩)) := fun X hX =>
      ⟨hX.1.cell 0, hX.2.cell 0, hX.2.cell 1, hX.2.cell 2, hX.2.cell 3, hX.2.cell 4, hX.2.cell 5, hX.2.cell 6, hX.2.cell 7, hX.2.cell 8⟩
    have HL : Hid (∀ X : World, Calls Try.prog 110 #[.agg #[.int .i64 j.code.stack, .int .i64 j.code.locals, .string ⟨j.code.bytes.toArray⟩, .slice ha j.code.handlers.length hcap, .string ⟨j.code.map.toArray⟩]] X fun x w' => x = .returned (.int .i64 (M.clen j.code : Int)) ∧ w' = X.alloc (.cells #[.int .i64 j.code.stack, .int .i64 j.code.locals, .string ⟨j.code.bytes.toArray⟩, .slice ha j.code.handlers.length hcap, .string ⟨j.code.map.toArray⟩] 99)) :=
      fun X => codeLength_any j.code.stack j.code.locals j.code.bytes j.code.map ha j.code.handlers.length hcap X (by omega) (by omega) (by omega)
    have H0 : Hid (Bk w1.drew w.heap.size #[.pointer (some ⟨W, 0, none⟩)] 155 ∧ Bk w1.drew (w.heap.size + 1) #[.int .u16 (j.flags : Int), .int .u16 (j.name : Int), .int .u16 (j.type_ : Int), .bool true, .int .i64 j.code.stack, .int .i64 j.code.locals, .string ⟨j.code.bytes.toArray⟩, .slice ha j.code.handlers.length hcap, .string ⟨j.code.map.toArray⟩] 101) := ⟨e0, e1⟩
    have HX : Hid (∀ ob, Wm B P (w1.alloc ob).drew W m o1 ∧ Fx B W w (w1.alloc ob).drew) := fun ob => ⟨(h1.alloc ob).fx (Fx.drew B W _) (h1.c.alloc ob).drew, ((unhide F1).trans (Fx.alloc B W w1 ob)).trans (Fx.drew B W _)⟩
    have HC := hide (fun (X : World) (hX : Wm B P X W m o1) (fX : Fx B W w X) (x0 : Bk X w.heap.size #[.pointer (some ⟨W, 0, none⟩)] 155) (x1 : Bk X (w.heap.size + 1) #[.int .u16 (j.flags : Int), .int .u16 (j.name : Int), .int .u16 (j.type_ : Int), .bool true, .int .i64 j.code.stack, .int .i64 j.code.locals, .string ⟨j.code.bytes.toArray⟩, .slice ha j.code.handlers.length hcap, .string ⟨j.code.map.toArray⟩] 101) => attributes111_any B W m P o1 (M.wcode P (M.whead P o1 M.codeN (M.clen j.code : Int)) j.code) M.codeN (M.clen j.code : Int) (.pointer (some ⟨w.heap.size, 0, none⟩)) (.pointer (some ⟨w.heap.size + 1, 0, none⟩)) X hX hW hP (by decide) (by omega) (Okx.nat (by omega))
      (fun X2 h2 f2 => method1_any B W m w.heap.size (w.heap.size + 1) P (M.whead P o1 M.codeN (M.clen j.code : Int)) j.code (.slice ha j.code.handlers.length hcap) _ _ _ _ w0 X2 h2 hW hP hlh hok (f2.below (fX.below (unhide HBl) (Nat.le_refl _) hw0 hW) (Nat.le_refl _) hw0 hW) hw0 ⟨ha, hcap, rfl, unhide Hhc⟩ (fxb x0 f2 (by omega) (by decide)) (fxb x1 f2 (by omega) (by decide))))
    unfold M.codeN at HC
    have HKx := hide (And.intro h1 (And.intro e0 e1))
    clear h1 e0 e1 F1 HKx hcl2 hmp
    refine wp_region_held_drew (S := fun X => Bk X w.heap.size #[.pointer (some ⟨W, 0, none⟩)] 155 ∧ Bk X (w.heap.size + 1) #[.int .u16 (j.flags : Int), .int .u16 (j.name : Int), .int .u16 (j.type_ : Int), .bool true, .int .i64 j.code.stack, .int .i64 j.code.locals, .string ⟨j.code.bytes.toArray⟩, .slice ha j.code.handlers.length hcap, .string ⟨j.code.map.toArray⟩] 101) (by kernel_rfl) (unhide H0) (fun hHeld => ?_)
    refine wpAnyH_take (i := 0) (oi := _) (v := ?_) rfl (by kernel_rfl) (by kernel_rfl) (by kernel_rfl) (fun _ _ _ h => h) (Or.inl ⟨by rfl, ?_⟩) (by assumption) ?_
    rotate_left
    · intro X hX
      have q0 := (unhide HQ X hX).1
      go_simp
      try rfl
    try simp only [Act.put, List.getElem_toArray, List.getElem_cons_zero, List.getElem_cons_succ, List.setIfInBounds_toArray, List.set_cons_zero, List.set_cons_succ]
    refine wpAnyH_take (i := 1) (oi := _) (v := ?_) rfl (by kernel_rfl) (by kernel_rfl) (by kernel_rfl) (fun _ _ _ h => h) (Or.inl ⟨by rfl, ?_⟩) (by assumption) ?_
    rotate_left
    · intro X hX
      go_simp
      try rfl
    try simp only [Act.put, List.getElem_toArray, List.getElem_cons_zero, List.getElem_cons_succ, List.setIfInBounds_toArray, List.set_cons_zero, List.set_cons_succ]
    refine wpAnyH_take (i := 2) (oi := _) (v := ?_) rfl (by kernel_rfl) (by kernel_rfl) (by kernel_rfl) (fun _ _ _ h => h) (Or.inl ⟨by rfl, ?_⟩) (by assumption) ?_
    rotate_left
    · intro X hX
      have q3 := (unhide HQ X hX).2.2.2.2.1
      go_simp
      try rfl
    try simp only [Act.put, List.getElem_toArray, List.getElem_cons_zero, List.getElem_cons_succ, List.setIfInBounds_toArray, List.set_cons_zero, List.set_cons_succ]
    refine wpAnyH_take (i := 3) (oi := _) (v := ?_) rfl (by kernel_rfl) (by kernel_rfl) (by kernel_rfl) (fun _ _ _ h => h) (Or.inl ⟨by rfl, ?_⟩) (by assumption) ?_
    rotate_left
    · intro X hX
      go_simp
      try rfl
    try simp only [Act.put, List.getElem_toArray, List.getElem_cons_zero, List.getElem_cons_succ, List.setIfInBounds_toArray, List.set_cons_zero, List.set_cons_succ]
    refine wpAnyH_take (i := 4) (oi := _) (v := ?_) rfl (by kernel_rfl) (by kernel_rfl) (by kernel_rfl) (fun _ _ _ h => h) (Or.inl ⟨by rfl, ?_⟩) (by assumption) ?_
    rotate_left
    · intro X hX
      have q4 := (unhide HQ X hX).2.2.2.2.2.1
      have q5 := (unhide HQ X hX).2.2.2.2.2.2.1
      have q6 := (unhide HQ X hX).2.2.2.2.2.2.2.1
      have q7 := (unhide HQ X hX).2.2.2.2.2.2.2.2.1
      have q8 := (unhide HQ X hX).2.2.2.2.2.2.2.2.2
      go_simp
      try rfl
    try simp only [Act.put, List.getElem_toArray, List.getElem_cons_zero, List.getElem_cons_succ, List.setIfInBounds_toArray, List.set_cons_zero, List.set_cons_succ]
    refine wpAnyH_take (i := 6) (oi := _) (v := ?_) rfl (by kernel_rfl) (by kernel_rfl) (by kernel_rfl) (fun _ _ _ h => h) (Or.inl ⟨by rfl, ?_⟩) (by assumption) ?_
    rotate_left
    · intro X hX
      go_simp
      try rfl
    try simp only [Act.put, List.getElem_toArray, List.getElem_cons_zero, List.getElem_cons_succ, List.setIfInBounds_toArray, List.set_cons_zero, List.set_cons_succ]
    refine wpAnyH_ready (rs := [5]) (by kernel_rfl) (by simp) ?_
    refine AllReadyH.cons (o := _) rfl (fun K hK => ?_) AllReadyH.nil
    go_simp
    go_at_call 110
    refine (unhide HL _).mono ?_
    rintro e wH ⟨rfl, hwH⟩
    subst hwH
    try go_simp
    refine hK.out _ _ ⟨hHeld.1.alloc _, hHeld.2.alloc _⟩ (fun hHeld => ?_)
    clear hK K
    try simp only [Act.put, List.getElem_toArray, List.getElem_cons_zero, List.getElem_cons_succ, List.setIfInBounds_toArray, List.set_cons_zero, List.set_cons_succ]
    refine wpAnyH_ready (rs := [7]) (by kernel_rfl) (by simp) ?_
    refine AllReadyH.cons (o := _) rfl (fun K hK => ?_) AllReadyH.nil
    go_simp
    go_at_call 108
    refine (unhide HC _ (unhide HX _).1 (unhide HX _).2 hHeld.1 hHeld.2).mono ?_
    rintro e wC ⟨rfl, hC, fC⟩
    try go_simp
    have HE := hide (And.intro hC ((unhide HX _).2.trans fC))
    refine hK.out _ _ ⟨fxb hHeld.1 fC (by omega) (by decide), fxb hHeld.2 fC (by omega) (by decide)⟩ (fun hHeld => ?_)
    clear hK K
    try simp only [Act.put, List.getElem_toArray, List.getElem_cons_zero, List.getElem_cons_succ, List.setIfInBounds_toArray, List.set_cons_zero, List.set_cons_succ]
    refine wpAnyH_done (by kernel_rfl) ?_ _
    go_wp2
    go_end0
    exact ⟨rfl, by rw [unhide Hq]; exact (unhide HE).1, (unhide HE).2⟩

  | false =>
    rw [hhas] at hwf e1
    rw [if_neg (by decide)] at hwf
    have Hq := hide hwf
    clear hwf
    have HQ : Hid (∀ X : World, (Bk X w.heap.size #[.pointer (some ⟨W, 0, none⟩)] 155 ∧ Bk X (w.heap.size + 1) #[.int .u16 (j.flags : Int), .int .u16 (j.name : Int), .int .u16 (j.type_ : Int), .bool false, .int .i64 j.code.stack, .int .i64 j.code.locals, .string ⟨j.code.bytes.toArray⟩, .slice ha j.code.handlers.length hcap, .string ⟨j.code.map.toArray⟩] 101) → X.cell? ⟨w.heap.size, 0, none⟩ = some (.pointer (some ⟨W, 0, none⟩)) ∧ X.cell? ⟨w.heap.size + 1, 0, none⟩ = some (.int .u16 (j.flags : Int)) ∧ X.cell? ⟨w.heap.size + 1, 1, none⟩ = some (.int .u16 (j.name : Int)) ∧ X.cell? ⟨w.heap.size + 1, 2, none⟩ = some (.int .u16 (j.type_ : Int)) ∧ X.cell? ⟨w.heap.size + 1, 3, none⟩ = some (.bool false) ∧ X.cell? ⟨w.heap.size + 1, 4, none⟩ = some (.int .i64 j.code.stack) ∧ X.cell? ⟨w.heap.size + 1, 5, none⟩ = some (.int .i64 j.code.locals) ∧ X.cell? ⟨w.heap.size + 1, 6, none⟩ = some (.string ⟨j.code.bytes.toArray⟩) ∧ X.cell? ⟨w.heap.size + 1, 7, none⟩ = some (.slice ha j.code.handlers.length hcap) ∧ X.cell? ⟨w.heap.size + 1, 8, none⟩ = some (.string ⟨j.code.map.toArray⟩)) := fun X hX =>
      ⟨hX.1.cell 0, hX.2.cell 0, hX.2.cell 1, hX.2.cell 2, hX.2.cell 3, hX.2.cell 4, hX.2.cell 5, hX.2.cell 6, hX.2.cell 7, hX.2.cell 8⟩
    have HL : Hid (∀ X : World, Calls Try.prog 110 #[.agg #[.int .i64 j.code.stack, .int .i64 j.code.locals, .string ⟨j.code.bytes.toArray⟩, .slice ha j.code.handlers.length hcap, .string ⟨j.code.map.toArray⟩]] X fun x w' => x = .returned (.int .i64 (M.clen j.code : Int)) ∧ w' = X.alloc (.cells #[.int .i64 j.code.stack, .int .i64 j.code.locals, .string ⟨j.code.bytes.toArray⟩, .slice ha j.code.handlers.length hcap, .string ⟨j.code.map.toArray⟩] 99)) :=
      fun X => codeLength_any j.code.stack j.code.locals j.code.bytes j.code.map ha j.code.handlers.length hcap X (by omega) (by omega) (by omega)
    have H0 : Hid (Bk w1.drew w.heap.size #[.pointer (some ⟨W, 0, none⟩)] 155 ∧ Bk w1.drew (w.heap.size + 1) #[.int .u16 (j.flags : Int), .int .u16 (j.name : Int), .int .u16 (j.type_ : Int), .bool false, .int .i64 j.code.stack, .int .i64 j.code.locals, .string ⟨j.code.bytes.toArray⟩, .slice ha j.code.handlers.length hcap, .string ⟨j.code.map.toArray⟩] 101) := ⟨e0, e1⟩
    have HX : Hid (∀ ob, Wm B P (w1.alloc ob).drew W m o1 ∧ Fx B W w (w1.alloc ob).drew) := fun ob => ⟨(h1.alloc ob).fx (Fx.drew B W _) (h1.c.alloc ob).drew, ((unhide F1).trans (Fx.alloc B W w1 ob)).trans (Fx.drew B W _)⟩
    have HC := hide (fun (X : World) (hX : Wm B P X W m o1) f n l => noatt hX hW (by omega) f n l)
    have HKx := hide (And.intro h1 (And.intro e0 e1))
    clear h1 e0 e1 F1 HKx hcl2 hmp
    refine wp_region_held_drew (S := fun X => Bk X w.heap.size #[.pointer (some ⟨W, 0, none⟩)] 155 ∧ Bk X (w.heap.size + 1) #[.int .u16 (j.flags : Int), .int .u16 (j.name : Int), .int .u16 (j.type_ : Int), .bool false, .int .i64 j.code.stack, .int .i64 j.code.locals, .string ⟨j.code.bytes.toArray⟩, .slice ha j.code.handlers.length hcap, .string ⟨j.code.map.toArray⟩] 101) (by kernel_rfl) (unhide H0) (fun hHeld => ?_)
    refine wpAnyH_take (i := 0) (oi := _) (v := ?_) rfl (by kernel_rfl) (by kernel_rfl) (by kernel_rfl) (fun _ _ _ h => h) (Or.inl ⟨by rfl, ?_⟩) (by assumption) ?_
    rotate_left
    · intro X hX
      have q0 := (unhide HQ X hX).1
      go_simp
      try rfl
    try simp only [Act.put, List.getElem_toArray, List.getElem_cons_zero, List.getElem_cons_succ, List.setIfInBounds_toArray, List.set_cons_zero, List.set_cons_succ]
    refine wpAnyH_take (i := 1) (oi := _) (v := ?_) rfl (by kernel_rfl) (by kernel_rfl) (by kernel_rfl) (fun _ _ _ h => h) (Or.inl ⟨by rfl, ?_⟩) (by assumption) ?_
    rotate_left
    · intro X hX
      go_simp
      try rfl
    try simp only [Act.put, List.getElem_toArray, List.getElem_cons_zero, List.getElem_cons_succ, List.setIfInBounds_toArray, List.set_cons_zero, List.set_cons_succ]
    refine wpAnyH_take (i := 2) (oi := _) (v := ?_) rfl (by kernel_rfl) (by kernel_rfl) (by kernel_rfl) (fun _ _ _ h => h) (Or.inl ⟨by rfl, ?_⟩) (by assumption) ?_
    rotate_left
    · intro X hX
      have q3 := (unhide HQ X hX).2.2.2.2.1
      go_simp
      try rfl
    try simp only [Act.put, List.getElem_toArray, List.getElem_cons_zero, List.getElem_cons_succ, List.setIfInBounds_toArray, List.set_cons_zero, List.set_cons_succ]
    refine wpAnyH_take (i := 3) (oi := _) (v := ?_) rfl (by kernel_rfl) (by kernel_rfl) (by kernel_rfl) (fun _ _ _ h => h) (Or.inl ⟨by rfl, ?_⟩) (by assumption) ?_
    rotate_left
    · intro X hX
      go_simp
      try rfl
    try simp only [Act.put, List.getElem_toArray, List.getElem_cons_zero, List.getElem_cons_succ, List.setIfInBounds_toArray, List.set_cons_zero, List.set_cons_succ]
    refine wpAnyH_take (i := 4) (oi := _) (v := ?_) rfl (by kernel_rfl) (by kernel_rfl) (by kernel_rfl) (fun _ _ _ h => h) (Or.inl ⟨by rfl, ?_⟩) (by assumption) ?_
    rotate_left
    · intro X hX
      have q4 := (unhide HQ X hX).2.2.2.2.2.1
      have q5 := (unhide HQ X hX).2.2.2.2.2.2.1
      have q6 := (unhide HQ X hX).2.2.2.2.2.2.2.1
      have q7 := (unhide HQ X hX).2.2.2.2.2.2.2.2.1
      have q8 := (unhide HQ X hX).2.2.2.2.2.2.2.2.2
      go_simp
      try rfl
    try simp only [Act.put, List.getElem_toArray, List.getElem_cons_zero, List.getElem_cons_succ, List.setIfInBounds_toArray, List.set_cons_zero, List.set_cons_succ]
    refine wpAnyH_take (i := 6) (oi := _) (v := ?_) rfl (by kernel_rfl) (by kernel_rfl) (by kernel_rfl) (fun _ _ _ h => h) (Or.inl ⟨by rfl, ?_⟩) (by assumption) ?_
    rotate_left
    · intro X hX
      go_simp
      try rfl
    try simp only [Act.put, List.getElem_toArray, List.getElem_cons_zero, List.getElem_cons_succ, List.setIfInBounds_toArray, List.set_cons_zero, List.set_cons_succ]
    refine wpAnyH_ready (rs := [5]) (by kernel_rfl) (by simp) ?_
    refine AllReadyH.cons (o := _) rfl (fun K hK => ?_) AllReadyH.nil
    go_simp
    go_at_call 110
    refine (unhide HL _).mono ?_
    rintro e wH ⟨rfl, hwH⟩
    subst hwH
    try go_simp
    refine hK.out _ _ ⟨hHeld.1.alloc _, hHeld.2.alloc _⟩ (fun hHeld => ?_)
    clear hK K
    try simp only [Act.put, List.getElem_toArray, List.getElem_cons_zero, List.getElem_cons_succ, List.setIfInBounds_toArray, List.set_cons_zero, List.set_cons_succ]
    refine wpAnyH_ready (rs := [7]) (by kernel_rfl) (by simp) ?_
    refine AllReadyH.cons (o := _) rfl (fun K hK => ?_) AllReadyH.nil
    go_simp
    go_at_call 108
    refine (unhide HC _ (unhide HX _).1 _ _ _).mono ?_
    rintro e wC ⟨rfl, hC, fC⟩
    try go_simp
    have HE := hide (And.intro hC ((unhide HX _).2.trans fC))
    refine hK.out _ _ ⟨fxb hHeld.1 fC (by omega) (by decide), fxb hHeld.2 fC (by omega) (by decide)⟩ (fun hHeld => ?_)
    clear hK K
    try simp only [Act.put, List.getElem_toArray, List.getElem_cons_zero, List.getElem_cons_succ, List.setIfInBounds_toArray, List.set_cons_zero, List.set_cons_succ]
    refine wpAnyH_done (by kernel_rfl) ?_ _
    go_wp2
    go_end0
    exact ⟨rfl, by rw [unhide Hq]; exact (unhide HE).1, (unhide HE).2⟩

end Go.Proofs.Ytgihfcjddkpkaaa.Cl
