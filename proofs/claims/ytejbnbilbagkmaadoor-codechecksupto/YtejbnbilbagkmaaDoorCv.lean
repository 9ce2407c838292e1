/-
  CodeChecks: the pool's copy, and the walk of the statement.
-/
import Derived.Test.YtejbnbilbagkmaaDoorCs
import Derived.Laws.StructEq
namespace Go.Proofs.YtejbnbilbagkmaaDoor.Ck
open Go.RowKit Kn
set_option linter.unusedVariables false
set_option linter.unusedSimpArgs false

/-- The cells of a pool, one behind the other. -/
def KC : List K → List Value
  | [] => []
  | c :: P => c.cells ++ KC P
theorem KC_length (P : List K) : (KC P).length = P.length * 5 := by
  induction P with
  | nil => rfl
  | cons c P ih => simp only [KC, List.length_append, ih, List.length_cons, K.cells, List.length_nil]; omega
theorem KC_at (P : List K) {k i : Nat} (hk : k < P.length) (hi : i < 5) : (KC P)[k * 5 + i]? = (P.getD k K.zero).cells[i]? := by
  induction P generalizing k with
  | nil => simp at hk
  | cons c P ih =>
    cases k with
    | zero =>
      rw [KC, List.getElem?_append_left (by simp [K.cells]; omega)]
      simp
    | succ k =>
      rw [KC, List.getElem?_append_right (by simp [K.cells]; omega)]
      have e : (k + 1) * 5 + i - c.cells.length = k * 5 + i := by simp [K.cells]; omega
      rw [e, ih (by simpa using hk)]
      simp
theorem KC_one (P : List K) : ∀ u ∈ KC P, u.oneCell' = true := by
  induction P with
  | nil => intro u h; cases h
  | cons c P ih =>
    intro u h
    rw [KC, List.mem_append] at h
    rcases h with h | h
    · simp only [K.cells, List.mem_cons, List.not_mem_nil, or_false] at h
      rcases h with rfl | rfl | rfl | rfl | rfl <;> rfl
    · exact ih u h
theorem infoK : (Tryd.prog.info? 39).map (fun i => (i.zero, i.size, i.bytes)) = some (some (.agg #[.int .u8 0, .string ⟨#[]⟩, .int .u64 0, .int .u16 0, .int .u16 0]), 5, 40) := by kernel_rfl
/-- append([]Const(nil), p...): a copy. -/
theorem run_copyK (w : World) (ty : TypeId) (v : Value) (P : List K) (h : KIn w v P) (hl : P.length ≤ 1048576) :
    ∃ v' w', (Builtin.append_ #[30, 30] ty #[.slice none 0 0, v]).run Tryd.prog w = .ok v' w' ∧ KIn w' v' P ∧ Below w.heap.size w w' := by
  obtain ⟨i, hi, hz, hsize, hby⟩ := info_parts infoK
  obtain ⟨ad, cap, rfl, hc⟩ := h.ex
  by_cases h0 : P = []
  · subst h0
    refine ⟨.slice none 0 0, w, ?_, ⟨h.fit, none, 0, rfl, fun hne => absurd rfl hne⟩, Below.refl _ _⟩
    cases ad <;> simp [Builtin.append_, run_underlying Tryd.underlying30, sizeOf, typeInfo, hi, Builtin.lenOf, Builtin.firstCells, loadCells, loadCellsFrom]
  · obtain ⟨b, o, rfl, hk⟩ := hc h0
    have hpos : 0 < P.length := List.length_pos_iff.2 h0
    obtain ⟨v', w', hr, h2, h3, _⟩ := run_append_own_at (P := Tryd.prog) w w.heap.size 30 ty 39 i _ 5 40 Tryd.underlying30 hi hz hsize hby rfl (by decide) (.slice none 0 0) 0 [] (World.ownsRow_nil _ _ _ _) ⟨b, o, none⟩ P.length cap (KC P) (KC_length P)
      (fun j u hj => by
        rw [Addr.add_lit]
        have hjl : j < P.length * 5 := by rw [← KC_length]; exact (List.getElem?_eq_some_iff.1 hj).1
        have hd : j = j / 5 * 5 + j % 5 := by omega
        rw [hd, KC_at P (by omega) (by omega)] at hj
        have := hk (j / 5) (by omega) (j % 5) (by omega)
        rw [hj] at this
        rw [show o + j = o + j / 5 * 5 + j % 5 by omega]
        exact this)
      (KC_one P) (by unfold maxLen; omega) (by omega) (Nat.le_refl _)
    rw [Nat.zero_add, List.nil_append] at h2
    refine ⟨v', w', hr, ⟨h.fit, ?_⟩, ⟨h3.os, h3.tape, h3.output, h3.size, fun k hk => h3.block k hk (by simp [Value.ownBlock])⟩⟩
    rcases h2.2 with ⟨rfl, e⟩ | ⟨g, cap2, cur, rfl, _, _, _, _, _, _⟩
    · omega
    · refine ⟨_, _, rfl, fun _ => ⟨g, 0, rfl, fun k hk i hi => ?_⟩⟩
      have h5 := KC_at P hk hi
      obtain ⟨u, hu⟩ : ∃ u, (P.getD k K.zero).cells[i]? = some u := ⟨_, List.getElem?_eq_getElem (by simpa [K.cells] using hi)⟩
      rw [hu] at h5 ⊢
      have := h2.cells (g := g) rfl _ u h5
      rw [Addr.add_lit] at this
      rw [show 0 + k * 5 + i = 0 + (k * 5 + i) by omega]
      exact this
theorem held39 : Tryd.prog.stoodInHeld 39 = false := by kernel_rfl
theorem flds39 : Tryd.prog.underlying 39 = some (.struct (Tryd.prog.fieldsOf 39)) := by kernel_rfl
theorem neqK (x : K) (W : World) : Sem.run Tryd.prog (binOp .neq 39 (.agg #[.int .u8 (x.tag : Int), .string ⟨x.text.toArray⟩, .int .u64 (x.bits : Int), .int .u16 (x.a : Int), .int .u16 (x.b : Int)]) (.agg #[.int .u8 (x.tag : Int), .string ⟨x.text.toArray⟩, .int .u64 (x.bits : Int), .int .u16 (x.a : Int), .int .u16 (x.b : Int)])) W = .ok (.bool false) W := by
  have u5 := Tryd.underlying5
  have u9 := Tryd.underlying9
  rw [run_neq_struct, show (10000 : Nat) = 9999 + 1 from rfl, run_equalIn_agg W 9999 39 _ _ flds39 held39]
  simp only [Program.fieldsOf, Tryd.underlying39]
  go_simp
theorem wpList_copyK (w : World) {ops : Array Oper} {rest : List Oper} {o : Oper} {a : Act} {Q : Exit → Act → World → Prop} (hgd : o.guard = none) (s x : Operand)
    (ho : o.op = .call { callee := .builtin .append, args := #[s, x], argTypes := #[30, 30] })
    (v : Value) (P : List K) (hs : a.eval s = .slice none 0 0) (hx : a.eval x = v) (h : KIn w v P) (hl : P.length ≤ 1048576)
    (hk : ∀ v' w', KIn w' v' P → Below w.heap.size w w' → wpList Tryd.prog ops Q rest (a.put o.dst v') w') : wpList Tryd.prog ops Q (o :: rest) a w := by
  refine wpList_plain hgd fun K hK => ?_
  obtain ⟨v', w', hr, h2, h3⟩ := run_copyK w o.type v P h hl
  unfold Oper.wp execOp
  simp only [ho, resolve, invoke, builtin, Sem.run_bind, Sem.run_pure, Result.andThen_ok, List.map_toArray, List.map_cons, List.map_nil, hs, hx, hr]
  exact hK _ _ (hk v' w' h2 h3)
theorem WHas_has {w : World} {v : Value} {L : List Cw.V} (h : Cw.WHas w v L) (hb : ∀ c ∈ L, c.g.keys.length + c.g.tgts.length ≤ 32768) : Cw.GHas w v L :=
  ⟨h.form, fun c hc => ⟨⟨(h.wk c hc).k, (h.wk c hc).t, (h.wk c hc).op, by have := hb c hc; omega, by have := hb c hc; omega⟩, by have := hb c hc; omega, (h.wk c hc).wf, (h.wk c hc).cap⟩⟩
theorem VC_at (l : List Cw.V) (k : Nat) (hk : k < l.length) (i : Nat) (hi : i < 8) : (Cw.VC l)[k * 8 + i]? = (l[k]).arr[i]? := by
  have hlen : ∀ c : Cw.V, c.arr.toList.length = 8 := fun _ => rfl
  induction l generalizing k with
  | nil => simp at hk
  | cons c a ih =>
    cases k with
    | zero =>
      simp only [Cw.VC, Nat.zero_mul, Nat.zero_add, List.getElem_cons_zero]
      rw [List.getElem?_append_left (by rw [hlen]; omega)]
      simp
    | succ k =>
      simp only [Cw.VC, List.getElem_cons_succ]
      rw [List.getElem?_append_right (by rw [hlen]; omega), hlen, show (k + 1) * 8 + i - 8 = k * 8 + i by omega]
      exact ih k (by simpa using hk)
theorem HasI_own {w : World} {B : Nat} {v : Value} {xs : List Int} (h : w.ownsRow B 3 1 v xs.length (xs.map (Value.int .i64))) : Cw.HasI w v xs := by
  rcases h.2 with ⟨rfl, h0⟩ | ⟨g, cap, cur, rfl, h1⟩
  · exact ⟨none, 0, by rw [h0], fun hne => absurd (List.length_eq_zero_iff.1 h0) hne⟩
  · refine ⟨_, _, rfl, fun _ => ⟨g, 0, rfl, fun k hk => ?_⟩⟩
    have := h.cells (g := g) rfl k (.int .i64 (xs.getD k 0)) (by simp [List.getD_eq_getElem?_getD, hk])
    rw [Addr.add_lit] at this
    exact this
theorem Tw_has {w0 w : World} {v : Value} {K : List Cw.V} (h : Cw.Tw w0 w v K) (hf : ∀ c ∈ K, c.g.op < 256 ∧ c.g.keys.length ≤ 100000 ∧ c.g.tgts.length ≤ 100000 ∧ ∀ t ∈ c.g.tgts, (Lit.int .i64 t).wf = true) : Cw.GHas w v K := by
  refine ⟨?_, fun c hc => ?_⟩
  · rcases h.row.2 with ⟨rfl, h0⟩ | ⟨g, cap, cur, rfl, h1⟩
    · exact ⟨none, 0, by rw [h0], fun hne => absurd (List.length_eq_zero_iff.1 h0) hne⟩
    · refine ⟨_, _, rfl, fun _ => ⟨g, 0, rfl, fun k hk i hi => ?_⟩⟩
      have e := VC_at K k hk i hi
      have hc : (K[k]).arr[i]? = some ((K[k]).arr[i]'(by show i < 8; exact hi)) := Array.getElem?_eq_getElem _
      rw [hc] at e ⊢
      have := h.row.cells (g := g) rfl (k * 8 + i) _ e
      rw [Addr.add_lit] at this
      rw [show 0 + k * 8 + i = 0 + (k * 8 + i) by omega]
      exact this
  · obtain ⟨f1, f2, f3, f4⟩ := hf c hc
    refine ⟨⟨HasI_own (h.own c hc).1, HasI_own (h.own c hc).2, f1, by omega, by omega⟩, f3, f4, fun a n cp e => ?_⟩
    rcases (h.own c hc).2.2 with ⟨h0, _⟩ | ⟨g, cap, cur, h1, _, _, h4, _⟩
    · rw [h0] at e; cases e; exact Nat.le_refl _
    · rw [h1] at e; cases e; exact h4
theorem fit_of_map {L M : List Cw.V} (he : M.map Cw.V.g = L.map Cw.V.g) (Q : Cw.G → Prop) (h : ∀ c ∈ L, Q c.g) : ∀ c ∈ M, Q c.g := by
  intro c hc
  have : c.g ∈ L.map Cw.V.g := by rw [← he]; exact List.mem_map_of_mem hc
  obtain ⟨d, hd, e⟩ := List.mem_map.1 this
  rw [← e]; exact h d hd
set_option maxRecDepth 100000 in
set_option maxHeartbeats 4000000 in
theorem checks_walk (HI : IdxC) (L : List Cw.V) (v pv : Value) (P : List K) (locals : Int) (w : World) (h : Cw.WHas w v L) (hl : L.length ≤ 1048576) (hk : KIn w pv P) (hP : P.length ≤ 1048576) (hS : Small P) (hm : Mx w) (hwf : (Lit.int .i64 locals).wf = true) :
    Calls Tryd.prog 5 #[v, pv, .int .i64 locals] w fun x w' => x = .returned (.bool true) ∧ Below w.heap.size w w' := by
  have HWt := hide (Cw.weight_any L v w h (by omega))
  obtain ⟨ad, cap, ev, _⟩ := h.form
  obtain ⟨pa, pc, ep, _⟩ := hk.ex
  have HH := hide h
  have HK := hide hk
  have HM := hide hm
  subst ev
  subst ep
  clear h hk hm hl
  go_enter Tryd.func5, Tryd.ntmps5
  go_wp2_with fail
  refine (unhide HWt).mono ?_
  clear HWt
  rintro e w1 ⟨r, rfl, hr, hsm, hb1⟩
  have hwr : IntKind.i64.wrap ((r : Int) + (P.length : Int)) = (r : Int) + (P.length : Int) := by rw [IntKind.wrap_i64]; omega
  by_cases hbig : 32768 < r + P.length
  · have hbi : (32768 : Int) < (r : Int) + (P.length : Int) := by omega
    clear hsm hbig
    go_wp2
    go_ret
    exact ⟨rfl, hb1⟩
  · have hbi : ¬ (32768 : Int) < (r : Int) + (P.length : Int) := by omega
    obtain ⟨hl, hbd⟩ := hsm (by omega)
    have hP2 : P.length ≤ 32768 := by omega
    have hg0 := WHas_has (unhide HH) hbd
    have hg1 := GHas.below hg0 hb1
    have HG := hide hg0
    have HTw := hide (Cw.twin_any L (.slice ad L.length cap) w1 hg1 (by omega))
    have hfit : ∀ c ∈ L, (fun g : Cw.G => g.op < 256 ∧ g.keys.length ≤ 100000 ∧ g.tgts.length ≤ 100000 ∧ ∀ t ∈ g.tgts, (Lit.int .i64 t).wf = true) c.g := fun c hc => by
      have := hbd c hc
      exact ⟨(hg0.fit c hc).ok.op, by omega, by omega, (hg0.fit c hc).wf⟩
    have Hfit := hide hfit
    clear hsm hbd hg0 hg1 hfit hbig hr
    go_wp2_with fail
    refine (unhide HTw).mono ?_
    clear HTw
    rintro e w2 ⟨u, M, rfl, hK, hT⟩
    have hb2 := hb1.trans (hT.old.mono hb1.size)
    have hgK := Tw_has hT (fit_of_map hK (fun g : Cw.G => g.op < 256 ∧ g.keys.length ≤ 100000 ∧ g.tgts.length ≤ 100000 ∧ ∀ t ∈ g.tgts, (Lit.int .i64 t).wf = true) (unhide Hfit))
    have hg2 := GHas.below (unhide HG) hb2
    have hKl : M.length = L.length := by have := congrArg List.length hK; simpa using this
    obtain ⟨ad2, cap2, ev2, _⟩ := hgK.form
    rw [hKl] at ev2
    subst ev2
    have hk2 := (unhide HK).below hb2
    have hm2 := (unhide HM).below hb2
    clear hT Hfit HG HH HK HM hwr hbi
    go_wp2_with (at_builtin; refine wpList_copyK _ rfl _ _ rfl (.slice pa P.length pc) P rfl rfl hk2 hP ?_; intro v' w3 hk3 hb3)
    obtain ⟨qa, qc, eq, _⟩ := hk3.ex
    subst eq
    have hb23 := hb2.trans (hb3.mono hb2.size)
    have HE := hide (Check_of HI L (.slice ad L.length cap) (.slice pa P.length pc) P locals w3 (GHas.below hg2 hb3) (by omega) (hk2.below hb3) hP hS (hm2.below hb3) hwf)
    have HR := hide (fun (w4 : World) (hb : Below w3.heap.size w3 w4) => RCheck_any M (.slice ad2 L.length cap2) (.slice qa P.length qc) P locals w4 (GHas.below (GHas.below hgK hb3) hb) (by omega) (hk3.below hb) hP hS hwf)
    rw [hK] at HR
    have HS := hide (fun (w4 : World) (hb : Below w3.heap.size w3 w4) => Cw.sameV_eq (.slice ad L.length cap) (.slice ad2 L.length cap2) L M w4 (GHas.below (GHas.below hg2 hb3) hb) (GHas.below (GHas.below hgK hb3) hb) hK.symm (by omega))
    have Hp := hide (fun (w4 : World) (hb : Below w3.heap.size w3 w4) => (hk2.below hb3).below hb)
    have Hq := hide (fun (w4 : World) (hb : Below w3.heap.size w3 w4) => hk3.below hb)
    obtain ⟨e1, he1⟩ : ∃ x, x = (chkE (chk P locals (L.map Cw.V.g))).1 := ⟨_, rfl⟩
    obtain ⟨e2, he2⟩ : ∃ x, x = (chkE (chk P locals (L.map Cw.V.g))).2 := ⟨_, rfl⟩
    rw [← he1, ← he2] at HE HR
    clear he1 he2 hg2 hgK hk2 hk3 hm2 hK hKl hb1 hb2 hb3 hS
    go_wp2_with fail
    refine (unhide HE).mono ?_
    rintro e w4 ⟨rfl, hb4⟩
    clear HE
    go_wp2_with fail
    refine (unhide HR _ hb4).mono ?_
    rintro e w5 ⟨rfl, hb5⟩
    have hb45 := hb4.trans (hb5.mono hb4.size)
    clear HR hb4 hb5
    go_wp2_with fail
    go_loopw [40] (fun y wx => ∃ k : Nat, k ≤ P.length ∧ y = .int .i64 (k : Int) ∧ Below w3.heap.size w3 wx) (fun y _ => P.length - (intOf y).toNat)
    case atStart => exact ⟨0, Nat.zero_le _, rfl, hb45⟩
    case round =>
      obtain ⟨k, hk, rfl, hbr⟩ := hrel
      by_cases hlt : k < P.length
      · have hp := unhide Hp _ hbr
        have hq := unhide Hq _ hbr
        have hne : P ≠ [] := by rintro rfl; simp at hlt
        obtain ⟨b1, o1, c1, f1⟩ := hp.form hne
        obtain ⟨b2, o2, c2, f2⟩ := hq.form hne
        cases f1
        cases f2
        obtain ⟨r0, r1, r2, r3, r4⟩ := hp.at hlt
        obtain ⟨s0, s1, s2, s3, s4⟩ := hq.at hlt
        generalize P.getD k K.zero = x at *
        have hnx := neqK x
        have hki : (k : Int) < (P.length : Int) := by omega
        clear hp hq hne
        go_wp2_with fail
        go_quiet (fail)
        go_wp2
        go_roundw
        case rel => exact ⟨k + 1, by omega, by simp, ⟨hbr.os, hbr.tape, hbr.output, hbr.size, hbr.block⟩⟩
        case measure => simp [intOf]; omega
      · obtain rfl : k = P.length := by omega
        have hE1 : (e1 == e1) = true := by simp
        have hE2 : (e2 == e2) = true := by simp
        go_wp2_with fail
        refine (unhide HS _ hbr).mono ?_
        rintro e w6 ⟨rfl, hb6⟩
        have hb7 := hb23.trans (hbr.mono hb23.size)
        go_wp2
        go_ret
        exact ⟨rfl, hb7.trans (hb6.mono hb7.size)⟩
end Go.Proofs.YtejbnbilbagkmaaDoor.Ck
