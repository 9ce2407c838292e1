/-
  Package maps: Write.
-/
import Derived.Test.YtgihfcjddkpkaaaWg
import Derived.Test.YtgihfcjddkpkaaaRp
import Derived.Laws.EntriesVeiled
namespace Go.Proofs.Ytgihfcjddkpkaaa
open Go.RowKit Go.Maps
theorem own_string {w : World} {base : Nat} {v : Value} {l : List UInt8} (h : w.ownsRow base 5 1 v l.length (U8 l)) : Sem.run Try.prog (convert 67 9 v) w = .ok (.string ⟨l.toArray⟩) w := by
  rcases h.2 with ⟨rfl, h0⟩ | ⟨g, cap, cur, rfl, _⟩
  · have : l = [] := List.length_eq_zero_iff.1 h0
    subst this
    exact run_convert_bytes_nil (P := Try.prog) w 67 5 Try.underlying67 Try.underlying5 0 0 9 Try.underlying9
  · refine run_convert_bytes_back (P := Try.prog) w 67 9 5 ⟨g, 0, none⟩ cap l Try.underlying67 Try.underlying5 Try.underlying9 fun j hj => ?_
    have := h.cells (g := g) rfl j (.int .u8 ((l[j]).toNat : Int)) (by simp [U8, hj])
    simpa [hj] using this
theorem indexes_any (ad : Option Addr) (n c : Nat) (w : World) : Calls Try.prog 28 #[.slice ad n c] w fun e w' => e = .returned (fv (w.heap.size + 1) w.heap.size) ∧ w' = (w.alloc (.cells #[.slice ad n c] 58)).alloc (.cells #[.map none] 109) := by
  go_enter Try.func28, Try.ntmps28
  go_wp2
  go_ret
  exact ⟨rfl, rfl⟩
namespace M
/-- Where writing of frames stands. -/
def Wz (P : List K) (L : List Fm) (a0 : Fm) (k : Nat) (a : Fm) (b : List UInt8) : Prop :=
  wrs P (L.take k) a0 0 = .ok b ∧ wrs P L a0 0 = (match wrs P (L.drop k) a k with | .error e => Except.error e | .ok c => .ok (b ++ c))
theorem wrs_snoc {P : List K} {f : Fm} : ∀ {l : List Fm} {a : Fm} {k : Nat} {b : List UInt8} {c : List UInt8}, wrs P l a k = .ok b → frw P f (l.getLastD a) = .ok c → wrs P (l ++ [f]) a k = .ok (b ++ c)
  | [], a, k, b, c, h, h2 => by
    cases h
    rw [List.getLastD_nil] at h2
    rw [List.nil_append, wrs, h2]
    simp [wrs]
  | x :: l, a, k, b, c, h, h2 => by
    rw [wrs] at h
    rw [List.cons_append, wrs]
    cases hx : frw P x a with
    | error e => rw [hx] at h; cases h
    | ok d =>
      rw [hx] at h
      simp only at h ⊢
      cases hl : wrs P l x (k + 1) with
      | error e => rw [hl] at h; cases h
      | ok d2 =>
        rw [hl] at h
        cases h
        rw [wrs_snoc hl (by rw [List.getLastD_cons] at h2; exact h2)]
        simp
theorem Wz.zero (P : List K) (L : List Fm) (a0 : Fm) : Wz P L a0 0 a0 [] := by
  refine ⟨rfl, ?_⟩
  rw [List.drop_zero]
  cases wrs P L a0 0 <;> simp
theorem Wz.step {P : List K} {L : List Fm} {a0 a f : Fm} {k : Nat} {b c : List UInt8} (h : Wz P L a0 k a b) (hd : L.drop k = f :: L.drop (k + 1)) (ht : L.take (k + 1) = L.take k ++ [f]) (ha : (L.take k).getLastD a0 = a) (hf : frw P f a = .ok c) : Wz P L a0 (k + 1) f (b ++ c) := by
  refine ⟨by rw [ht]; exact wrs_snoc h.1 (by rw [ha]; exact hf), ?_⟩
  rw [h.2, hd, wrs, hf]
  simp only
  cases wrs P (L.drop (k + 1)) f (k + 1) with
  | error e => rfl
  | ok c2 => simp
theorem Wz.stop {P : List K} {L : List Fm} {a0 a f : Fm} {k e : Nat} {b : List UInt8} (h : Wz P L a0 k a b) (hd : L.drop k = f :: L.drop (k + 1)) (hf : frw P f a = .error e) : wrs P L a0 0 = .error (e, k) := by
  rw [h.2, hd, wrs, hf]
theorem Wz.done {P : List K} {L : List Fm} {a0 a : Fm} {b : List UInt8} (h : Wz P L a0 L.length a b) : wrs P L a0 0 = .ok b := by
  rw [h.2, List.drop_length, wrs]; simp
end M
/-- Frames that a program can hold. -/
structure Fok (j : J) : Prop where
  lt : Tok j.f.locals
  st : Tok j.f.stack
  cap : ∀ ad n c, j.lv = .slice ad n c → n ≤ c
  ll : j.f.locals.length ≤ 100000
  sl : j.f.stack.length ≤ 100000
section
variable {w0 w w' : World} {W Kb Pb : Nat} {pv : Value} {P : List K} {l : List UInt8}
theorem Bk.ne {g h : Nat} {cs ds : Array Value} {t u : TypeId} (a : Bk w g cs t) (b : Bk w h ds u) (hne : t ≠ u) : g ≠ h := fun e => by
  subst e
  unfold Bk at a b
  rw [a] at b
  simp at b
  exact hne b.2
theorem Wt.below (h : Wt w0 w W Kb Pb pv P l) (hb : Below w.heap.size w w') : Wt w0 w' W Kb Pb pv P l := by
  obtain ⟨bv, hbk, ho⟩ := h.blk
  have hblk : ∀ k o, w.heap[k]? = some o → w'.heap[k]? = some o := fun k o hk => by rw [hb.block k (Array.getElem?_eq_some_iff.1 hk).1]; exact hk
  refine ⟨⟨bv, hbk.below hb, ⟨ho.1, ?_⟩⟩, h.kst.turn (fun k o _ hk _ _ => hblk k o hk) h.geK, h.pb.below hb, h.bel.trans (hb.mono h.bel.size), h.neW, h.geW, h.geK⟩
  exact ho.2.imp id fun ⟨g, cap, cur, h1, h2, h3, h4⟩ => ⟨g, cap, cur, h1, h2, hblk g _ h3, h4⟩
theorem Wt.setO {g : Nat} {cs : Array Value} (h : Wt w0 w W Kb Pb pv P l) (hg : Bk w g cs 29) (h0 : w0.heap.size ≤ g) (i : Nat) (v : Value) : Wt w0 (w.setCell ⟨g, i, none⟩ v) W Kb Pb pv P l := by
  obtain ⟨bv, hbk, ho⟩ := h.blk
  have hset : ∀ k, k ≠ g → (w.setCell ⟨g, i, none⟩ v).heap[k]? = w.heap[k]? := fun k hk => Below.heap_setCell w ⟨g, i, none⟩ v k (by simpa using hk)
  refine ⟨⟨bv, hbk.other i v (hbk.ne hg (by decide)), ⟨ho.1, ?_⟩⟩, h.kst.turn (fun k o _ hk _ hc => ?_) h.geK, h.pb.other i v (h.pb.ne hg (by decide)), h.bel.setCell h0 _, h.neW, h.geW, h.geK⟩
  · refine ho.2.imp id fun ⟨g', cap, cur, h1, h2, h3, h4⟩ => ⟨g', cap, cur, h1, h2, ?_, h4⟩
    rw [hset g' (Bk.ne (cs := cur) (t := 5) h3 hg (by decide))]; exact h3
  · rw [hset k ?_]
    · exact hk
    · rcases hc with e | e
      · subst e
        rcases h.kst with q | ⟨m, D, n, q, _⟩
        · exact q.ne hg (by decide)
        · exact q.ne hg (by decide)
      · intro e2
        subst e2
        unfold Bk at hg
        rw [hg] at hk
        cases hk
        exact e _ _ _ rfl
end
theorem M.frw_at {P : List K} {f a : Fm} {c : List UInt8} (h : M.frw P f a = .ok c) : a.at_ < f.at_ ∧ f.at_ ≤ 65535 := by
  unfold M.frw at h
  split at h
  · cases h
  · rename_i hn
    exact ⟨by omega, by omega⟩
/-- What Write leaves. -/
def WrR (r : Except (Nat × Nat) (List UInt8)) (w : World) (e : Ending) (w' : World) : Prop :=
  Below w.heap.size w w' ∧ match r with
    | .ok b => e = .returned (.tuple #[.string ⟨b.toArray⟩, .int .i64 0, .int .i64 0])
    | .error (x, k) => e = .returned (.tuple #[.string ⟨#[]⟩, .int .i64 (x : Int), .int .i64 (k : Int)])
set_option maxRecDepth 100000 in
set_option maxHeartbeats 4000000 in
theorem Write_any (v pv lv : Value) (L : List J) (P : List K) (F : List T) (w : World) (hv : Has w v L) (hp : KIn w pv P) (hl : TIn w lv F) (hfok : ∀ j ∈ L, Fok j) (hF : F.length ≤ 100000) (hP : P.length ≤ 1048576) (htx : Txt P) (hLl : L.length ≤ 100000)
    (hlen : ∀ k b, M.wrs P ((L.map J.f).take k) ⟨-1, F, []⟩ 0 = .ok b → b.length ≤ 190000) :
    Calls Try.prog 9 #[v, pv, lv] w fun e w' => WrR (M.write P F (L.map J.f)) w e w' := by
  have Hp := hide hp
  have Hl := hide hl
  have Hown := hide hv.own
  obtain ⟨ad, cap, ev, hc⟩ := hv.form
  obtain ⟨lad, lcap, elv, _⟩ := hl
  obtain ⟨pad, pcap, epv, _⟩ := hp.ex
  subst ev elv epv
  have Hc := hide hc
  clear hv hc hp
  by_cases hbig : 65535 < L.length
  · have q1 : (65535 : Int) < (L.length : Int) := by omega
    have Hr := hide (show M.write P F (L.map J.f) = .error (12, 0) by unfold M.write; rw [if_pos (by simpa using hbig)])
    clear hbig
    go_enter Try.func9, Try.ntmps9
    go_wp2
    go_ret3
    exact ⟨Below.refl _ _, by rw [unhide Hr]; rfl⟩
  · have q1 : ¬ (65535 : Int) < (L.length : Int) := by omega
    have hwr : M.write P F (L.map J.f) = (match M.wrs P (L.map J.f) ⟨-1, F, []⟩ 0 with | .error e => .error e | .ok b => .ok (M.big L.length 2 ++ b)) := by
      unfold M.write; rw [if_neg (by simpa using hbig), List.length_map]
      cases M.wrs P (L.map J.f) ⟨-1, F, []⟩ 0 <;> rfl
    have Hwr := hide hwr
    have HI := hide (indexes_any pad P.length pcap w)
    obtain ⟨w3, hw3⟩ : ∃ w3, w3 = ((w.alloc (.cells #[.slice pad P.length pcap] 58)).alloc (.cells #[.map none] 109)).alloc (.cells #[.slice none 0 0, fv (w.heap.size + 1) w.heap.size] 69) := ⟨_, rfl⟩
    obtain ⟨Pb, hPb⟩ : ∃ Pb, Pb = w.heap.size := ⟨_, rfl⟩
    have hWt : Wt w w3 (Pb + 1 + 1) (Pb + 1) Pb (.slice pad P.length pcap) P [] := by
      subst hPb
      have b1 : Bk w3 w.heap.size #[.slice pad P.length pcap] 58 := by rw [hw3]; exact ((Bk.new _ _ _).alloc _).alloc _
      have b2 : Bk w3 (w.heap.size + 1) #[.map none] 109 := by
        rw [hw3]
        have := (Bk.new (w.alloc (.cells #[.slice pad P.length pcap] 58)) #[.map none] 109).alloc (.cells #[.slice none 0 0, fv (w.heap.size + 1) w.heap.size] 69)
        simpa using this
      have b3 : Bk w3 (w.heap.size + 1 + 1) #[.slice none 0 0, fv (w.heap.size + 1) w.heap.size] 69 := by
        rw [hw3]
        have := Bk.new ((w.alloc (.cells #[.slice pad P.length pcap] 58)).alloc (.cells #[.map none] 109)) #[.slice none 0 0, fv (w.heap.size + 1) w.heap.size] 69
        simpa using this
      exact ⟨⟨.slice none 0 0, b3, World.ownsRow_nil _ _ _ _⟩, .inl b2, b1, by rw [hw3]; exact (((Below.refl _ _).alloc (Nat.le_refl _) _).alloc (by simp) _).alloc (by simp; omega) _, by omega, by omega, by omega⟩
    have HNu := hide (number_any w w3 (Pb + 1 + 1) (Pb + 1) Pb (.slice pad P.length pcap) P [] L.length hWt (by omega) (by simp))
    rw [List.nil_append] at HNu
    have Hw3 := hide hw3
    have HPb := hide hPb
    have hPw : w.heap.size ≤ Pb := by omega
    clear hwr hw3 hPb hbig hWt
    go_enter Try.func9, Try.ntmps9
    go_wp2_with fail
    refine (unhide HI).mono ?_
    rintro e w2 ⟨rfl, hw2⟩
    rw [hw2]
    clear HI hw2
    unfold fv at Hw3
    unfold fv
    go_upto_region 4 with fail
    rw [← unhide HPb] at Hw3 ⊢
    rw [← unhide Hw3]
    clear Hw3 w2
    go_wp2_with fail
    refine (unhide HNu).mono ?_
    rintro e w4 ⟨rfl, hW4, hF4⟩
    have HBe := hide (beginning_any lad F.length lcap w4)
    clear HNu
    go_wp2_with fail
    refine (unhide HBe).mono ?_
    rintro e w5 ⟨rfl, hb5⟩
    have hW5 := hW4.below hb5
    obtain ⟨Ah, hAh⟩ : ∃ Ah, Ah = w5.heap.size := ⟨_, rfl⟩
    obtain ⟨w6, hw6⟩ : ∃ w6, w6 = w5.alloc (.cells #[.int .i64 (-1), .slice lad F.length lcap, .slice none 0 0] 29) := ⟨_, rfl⟩
    have hW6 : Wt w w6 (Pb + 1 + 1) (Pb + 1) Pb (.slice pad P.length pcap) P (M.big L.length 2) := by rw [hw6]; exact hW5.alloc _
    have hA6 : Bk w6 Ah #[.int .i64 (-1), .slice lad F.length lcap, .slice none 0 0] 29 := by rw [hw6, hAh]; exact Bk.new _ _ _
    have hAw : w.heap.size ≤ Ah := by rw [hAh]; exact hW5.bel.size
    have Hw6 := hide hw6
    have HAh := hide hAh
    clear HBe hw6 hAh hW5 hb5 hW4 hF4
    go_upto_region 6 with fail
    rw [← unhide Hw6, ← unhide HAh]
    clear Hw6 HAh
    have hLf : (L.map J.f).length = L.length := by simp
    have HLf := hide hLf
    obtain ⟨Lf, hLfe⟩ : ∃ Lf, Lf = L.map J.f := ⟨_, rfl⟩
    have hwr2 : M.write P F (L.map J.f) = (match M.wrs P Lf ⟨-1, F, []⟩ 0 with | .error e => .error e | .ok b => .ok (M.big L.length 2 ++ b)) := by rw [hLfe]; exact unhide Hwr
    have Hwr2 := hide hwr2
    rw [← hLfe] at hlen HLf
    clear hwr2 Hwr
    have HLfe := hide hLfe
    have Hlen := hide hlen
    have Hfok := hide hfok
    clear hLf hLfe hlen hfok
    go_wp2_with fail
    go_loopw [27] (fun i wr => ∃ (k : Nat) (a : Fm) (aad : Option Addr) (an ac : Nat) (bad : Option Addr) (bn bc : Nat) (b : List UInt8), k ≤ L.length ∧ i = .int .i64 k ∧ Hid (M.Wz P Lf ⟨-1, F, []⟩ k a b) ∧ Hid ((Lf.take k).getLastD ⟨-1, F, []⟩ = a) ∧ Hid (Wt w wr (Pb + 1 + 1) (Pb + 1) Pb (.slice pad P.length pcap) P (M.big L.length 2 ++ b)) ∧
        Hid (Bk wr Ah #[.int .i64 a.at_, .slice aad an ac, .slice bad bn bc] 29) ∧ Hid (TIn w (.slice aad an ac) a.locals) ∧ a.locals.length ≤ 100000 ∧ -1 ≤ a.at_ ∧ a.at_ ≤ 65535) (fun i _ => L.length - (intOf i).toNat)
    case atStart => exact ⟨0, ⟨-1, F, []⟩, lad, F.length, lcap, none, 0, 0, [], Nat.zero_le _, rfl, M.Wz.zero _ _ _, rfl, by rw [List.append_nil]; exact hW6, hA6, unhide Hl, hF, by simp only; omega, by simp only; omega⟩
    case round =>
      clear hW6 hA6
      obtain ⟨k, a, aad, an, ac, bad, bn, bc, b, hk, rfl, HWz, HLa, HW, HAh, HTa, hla, ha1, ha2⟩ := hrel
      by_cases hlt : k < L.length
      · have ki : (k : Int) < (L.length : Int) := by omega
        have hne : L ≠ [] := by rintro rfl; simp at hlt
        obtain ⟨b0, o0, rfl, hcell⟩ := unhide Hc hne
        obtain ⟨x0, x1, x2⟩ := At3.of (hcell k hlt)
        have hbel := (unhide HW).bel
        rw [← hbel.cell (cell_lt x0)] at x0
        rw [← hbel.cell (cell_lt x1)] at x1
        rw [← hbel.cell (cell_lt x2)] at x2
        obtain ⟨ho1, ho2⟩ := unhide Hown _ (List.getElem_mem hlt)
        have hfk := unhide Hfok _ (List.getElem_mem hlt)
        have hdr : Lf.drop k = (L[k]).f :: Lf.drop (k + 1) := by
          rw [unhide HLfe, List.drop_eq_getElem_cons (by simpa using hlt), List.getElem_map]
        have htk : Lf.take (k + 1) = Lf.take k ++ [(L[k]).f] := by
          rw [unhide HLfe, List.take_add_one, List.getElem?_eq_getElem (by simpa using hlt), List.getElem_map]; rfl
        have hbl := unhide Hlen k b (unhide HWz).1
        generalize L[k] = j at *
        have hll := hfk.ll
        have hsl := hfk.sl
        have hb2 : (M.big L.length 2).length = 2 := M.big_len _ _
        obtain ⟨wB, hwB⟩ : ∃ wB, wB = wr.alloc (.cells #[.int .i64 j.f.at_, j.lv, j.sv] 29) := ⟨_, rfl⟩
        have hWB : Wt w wB (Pb + 1 + 1) (Pb + 1) Pb (.slice pad P.length pcap) P (M.big L.length 2 ++ b) := by rw [hwB]; exact (unhide HW).alloc _
        obtain ⟨X, hX⟩ : ∃ X, X = wr.heap.size := ⟨_, rfl⟩
        have hXB : Bk wB X #[.int .i64 j.f.at_, j.lv, j.sv] 29 := by rw [hwB, hX]; exact Bk.new _ _ _
        have hAB : Bk wB Ah #[.int .i64 a.at_, .slice aad an ac, .slice bad bn bc] 29 := by rw [hwB]; exact (unhide HAh).alloc _
        have hXW : X ≠ Pb + 1 + 1 := by obtain ⟨bv, hb, _⟩ := (unhide HW).blk; have := hb.lt; omega
        have hXK : X ≠ Pb + 1 := by have := (unhide HW).kst.lt; omega
        have hAX : Ah ≠ X := by have := (unhide HAh).lt; omega
        have hAW : Ah ≠ Pb + 1 + 1 := by obtain ⟨bv, hb, _⟩ := (unhide HW).blk; exact (unhide HAh).ne hb (by decide)
        have hAK : Ah ≠ Pb + 1 := by
          rcases (unhide HW).kst with q | ⟨m, D, n, q, _⟩
          · exact (unhide HAh).ne q (by decide)
          · exact (unhide HAh).ne q (by decide)
        have HFm := hide (wframe_any w wB (Pb + 1 + 1) (Pb + 1) Pb (.slice pad P.length pcap) j.lv j.sv (.slice aad an ac) (.slice bad bn bc) P (M.big L.length 2 ++ b) j.f a hWB (unhide Hp) hP htx ho1 ho2 (unhide HTa) ⟨_, _, _, rfl⟩ hfk.cap hfk.lt hfk.st hll hsl hla (by simp only [List.length_append]; omega) ha1 ha2)
        have HTn := hide ho1
        obtain ⟨fad, fcap, e1, _⟩ := ho1
        obtain ⟨sad, scap, e2, _⟩ := ho2
        rw [e1] at x1 hXB HFm HTn
        rw [e2] at x2 hXB HFm
        rw [e1, e2] at hwB
        have HX := hide hX
        have HwB := hide hwB
        have Hdr := hide hdr
        have Htk := hide htk
        clear hdr htk hX hwB e1 e2 hfk hcell hne hbl hb2
        have y0 : wB.cell? ⟨X, 0, none⟩ = some (.int .i64 j.f.at_) := hXB.cell 0
        have y1 : wB.cell? ⟨X, 1, none⟩ = some (.slice fad j.f.locals.length fcap) := hXB.cell 1
        have y2 : wB.cell? ⟨X, 2, none⟩ = some (.slice sad j.f.stack.length scap) := hXB.cell 2
        have z0 : wB.cell? ⟨Ah, 0, none⟩ = some (.int .i64 a.at_) := hAB.cell 0
        have z1 : wB.cell? ⟨Ah, 1, none⟩ = some (.slice aad an ac) := hAB.cell 1
        have z2 : wB.cell? ⟨Ah, 2, none⟩ = some (.slice bad bn bc) := hAB.cell 2
        go_upto_region 9 with fail
        rw [← unhide HwB, ← unhide HX]
        clear HwB HX x0 x1 x2
        go_wp2_with fail
        refine (unhide HFm).mono ?_
        rintro e w7 ⟨z, rfl, hb7, hF7, hres⟩
        clear HFm y0 y1 y2 z0 z1 z2
        rcases hres with ⟨bs, hfr, rfl, hW7⟩ | ⟨hfr, hz⟩
        · have hA7 := hAB.fw hF7 (by decide) hAW hAK
          have hX7 := hXB.fw hF7 (by decide) hXW hXK
          have hat := M.frw_at hfr
          have HWz2 := hide ((unhide HWz).step (unhide Hdr) (unhide Htk) (unhide HLa) hfr)
          have hla2 : (Lf.take (k + 1)).getLastD ⟨-1, F, []⟩ = j.f := by rw [unhide Htk]; simp
          have HLa2 := hide hla2
          have y0 : w7.cell? ⟨X, 0, none⟩ = some (.int .i64 j.f.at_) := hX7.cell 0
          have y1 : w7.cell? ⟨X, 1, none⟩ = some (.slice fad j.f.locals.length fcap) := hX7.cell 1
          have y2 : w7.cell? ⟨X, 2, none⟩ = some (.slice sad j.f.stack.length scap) := hX7.cell 2
          have z0 : w7.cell? ⟨Ah, 0, none⟩ = some (.int .i64 a.at_) := hA7.cell 0
          have z1 : w7.cell? ⟨Ah, 1, none⟩ = some (.slice aad an ac) := hA7.cell 1
          have z2 : w7.cell? ⟨Ah, 2, none⟩ = some (.slice bad bn bc) := hA7.cell 2
          have zf := hA7.frozen
          have hW8 := ((hW7.setO hA7 hAw 0 (.int .i64 j.f.at_)).setO (hA7.set 0 _) hAw 1 (.slice fad j.f.locals.length fcap)).setO ((hA7.set 0 _).set 1 _) hAw 2 (.slice sad j.f.stack.length scap)
          have hA8 := ((hA7.set 0 (.int .i64 j.f.at_)).set 1 (.slice fad j.f.locals.length fcap)).set 2 (.slice sad j.f.stack.length scap)
          rw [List.append_assoc] at hW8
          have HW8 := hide hW8
          have HA8 := hide hA8
          clear hfr hla2 hW8 hA8 hA7 hX7 hW7 hF7 hb7 hWB hXB hAB
          go_wp2
          go_roundw
          case rel => exact ⟨k + 1, j.f, fad, _, fcap, sad, _, scap, b ++ bs, by omega, by go_num, HWz2, HLa2, HW8, HA8, HTn, hll, by omega, by omega⟩
          case measure => simp [intOf]; omega
        · have hst := (unhide HWz).stop (unhide Hdr) hfr
          have hz1 : (((z : Int) != 0) : Bool) = true := by simpa using hz
          have Hst := hide hst
          have Hb7 := hide hb7
          clear hfr hst hz hb7
          go_wp2
          go_ret3
          exact ⟨unhide Hb7, by rw [unhide Hwr2, unhide Hst]; rfl⟩
      · have hkl : k = L.length := by omega
        subst hkl
        have ki : ¬ (L.length : Int) < (L.length : Int) := by omega
        have hdn := unhide HWz
        rw [← unhide HLf] at hdn
        have Hdn := hide hdn.done
        obtain ⟨bv, hbv, hov⟩ := (unhide HW).blk
        have c0 : wr.cell? ⟨Pb + 1 + 1, 0, none⟩ = some bv := hbv.cell 0
        have Hbel := hide (unhide HW).bel
        obtain ⟨lb, hlb⟩ : ∃ lb, lb = M.big L.length 2 ++ b := ⟨_, rfl⟩
        rw [← hlb] at hov
        have Hlb := hide hlb
        clear hlb HW
        have hcv := own_string hov
        obtain ⟨cad, cc, ecv⟩ := own5_slice hov
        subst ecv
        clear hdn hbv hov
        go_wp2
        go_ret3
        exact ⟨unhide Hbel, by rw [unhide Hwr2, unhide Hdn, unhide Hlb]; rfl⟩
end Go.Proofs.Ytgihfcjddkpkaaa
