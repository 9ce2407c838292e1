/-
  The reference's values, list.
-/
import Derived.Test.YtbgpkkbejbidlabCu
import Derived.Test.YtbgpkkbejbidlabTs
namespace Go.Proofs.Ytbgpkkbejbidlab
open Go.RowKit
/-- A cut, and the pool beside it. -/
structure Cx (w : World) (C : Nat) (pv : Value) (s : ByteArray) (P : List K) (st : St) : Prop where
  cd : Cd w C s st
  pool : KIn w pv P
  ne : P ≠ [] → ∀ b o n c, pv = .slice (some ⟨b, o, none⟩) n c → b ≠ C
  pos : st.pos ≤ s.data.toList.length
section
variable {w w' : World} {C : Nat} {pv : Value} {s : ByteArray} {P : List K} {st st' : St}
theorem Cx.step (h : Cx w C pv s P st) (hr : Cd w' C s st') (hg : w.grownBy w' (some C)) (hp : st'.pos ≤ s.data.toList.length) : Cx w' C pv s P st' :=
  ⟨hr, h.pool.kept hg (fun hp b o n c e => by simpa using h.ne hp b o n c e), h.ne, hp⟩
theorem Cx.below (h : Cx w C pv s P st) (hb : Below w.heap.size w w') : Cx w' C pv s P st :=
  ⟨h.cd.below hb, h.pool.below hb, h.ne, h.pos⟩
theorem Cx.kept (h : Cx w C pv s P st) {row : Option Nat} (hg : w.grownBy w' row) (h1 : some C ≠ row) (h2 : P ≠ [] → ∀ b o n c, pv = .slice (some ⟨b, o, none⟩) n c → some b ≠ row) : Cx w' C pv s P st :=
  ⟨h.cd.kept hg h1, h.pool.kept hg h2, h.ne, h.pos⟩
end
/-- What a step of the cut leaves, the pool beside it. -/
def Tx (C : Nat) (pv : Value) (s : ByteArray) (P : List K) (st' : St) (w : World) (x : Value) (e : Ending) (w' : World) : Prop :=
  e = .returned x ∧ Cx w' C pv s P st' ∧ w.grownBy w' (some C)
section
variable (C : Nat) (pv : Value) (s : ByteArray) (P : List K) (st : St) (w : World)
theorem cN_any (n : Nat) (hn : n ≤ 4) (h : Cx w C pv s P st) (hs : s.size ≤ 131072) : Calls Try.prog 13 #[.pointer (some ⟨C, 0, none⟩), .int .i64 (n : Int)] w fun x w' => Tx C pv s P (M.rd s.data.toList n st).2 w (.int .i64 ((M.rd s.data.toList n st).1 : Nat)) x w' :=
  (cnum_any C s st n w h.cd hs hn h.pos).mono fun _ _ ⟨h1, h2, h3⟩ => ⟨h1, h.step h2 h3 (M.rd_pos h.pos), h3⟩
theorem cF_any (e p : Nat) (h : Cx w C pv s P st) : Calls Try.prog 16 #[.pointer (some ⟨C, 0, none⟩), .int .i64 (e : Int), .int .i64 (p : Int)] w fun x w' => Tx C pv s P (M.fail st e p) w (.tuple #[]) x w' :=
  (cfail_any C s st e p w h.cd).mono fun _ _ ⟨h1, h2, h3⟩ => ⟨h1, h.step h2 h3 (by rw [M.fail_pos]; exact h.pos), h3⟩
end
/-- What values leaves: the list is new. -/
def Cvs (C : Nat) (pv : Value) (s : ByteArray) (P : List K) (n : Nat) (st' : St) (L : List T) (w : World) (e : Ending) (w' : World) : Prop :=
  ∃ v, e = .returned v ∧ Cx w' C pv s P st' ∧ w.grownBy w' (some C) ∧ (∃ A, w'.ownsRow w.heap.size 25 3 v A.length (TC A) ∧ A.length ≤ n ∧ (st'.e = 0 → A = L)) ∧ ∃ ad n cap, v = .slice ad n cap
theorem list_any (lv : Value) (L : List T) (w : World) (h : TIn w lv L) (hl : L.length ≤ 1048576) :
    Calls Try.prog 14 #[lv] w fun e w' => ∃ v, e = .returned v ∧ w'.ownsRow w.heap.size 25 3 v L.length (TC L) ∧ Below w.heap.size w w' := by
  have HK := hide h
  obtain ⟨ad, cap, ekv, _⟩ := h
  subst ekv
  go_enter Try.func14, Try.ntmps14
  go_wp2_with (at_builtin; refine wpList_copy _ rfl _ _ rfl _ L rfl rfl (unhide HK) (by omega) w.heap.size (Nat.le_refl _) ?_)
  intro v0 w0 ho0 hb0
  obtain ⟨a0, n0, c0, e0⟩ := own_slice ho0
  subst e0
  go_wp2
  go_ret
  exact ⟨_, rfl, ho0, hb0⟩
theorem ins_in' {w : World} {B e k n : Nat} {v : Value} {xs : List Value} (h : w.ownsRow B e k v n xs) {b : Nat} (hb : v.ownBlock = some b) : B ≤ b ∧ b < w.heap.size := by
  rcases h.2 with ⟨rfl, _⟩ | ⟨g, cap, cur, rfl, h1, h2, _⟩
  · cases hb
  · cases hb; exact ⟨h1, (Array.getElem?_eq_some_iff.1 h2).1⟩
theorem own_keptX {w w' : World} {B e k n : Nat} {v : Value} {xs : List Value} {row : Option Nat} (h : w.ownsRow B e k v n xs) (hg : w.grownBy w' row) (hr : ∀ b, row = some b → v.ownBlock ≠ some b) : w'.ownsRow B e k v n xs := by
  refine ⟨h.1, ?_⟩
  rcases h.2 with h0 | ⟨g, cap, cur, rfl, h1, h2, h3⟩
  · exact .inl h0
  · refine .inr ⟨g, cap, cur, rfl, h1, ?_, h3⟩
    rw [hg.block g (Array.getElem?_eq_some_iff.1 h2).1 (fun e => hr g e.symm rfl)]; exact h2
theorem M.vals_stop {s : List UInt8} {P : List K} {n : Nat} {st0 : St} {A : List T} {m : Nat} {st : St} (h : M.Vs s P n st0 A (m + 1) st) (he : (M.vty s P st).2.e ≠ 0) : (M.vals s P n st0).2 = (M.vty s P st).2 := h.stop he
set_option maxRecDepth 100000 in
set_option maxHeartbeats 2000000 in
theorem cvals_any (C : Nat) (pv : Value) (s : ByteArray) (P : List K) (n : Nat) (st : St) (w : World) (h : Cx w C pv s P st) (hs : s.size ≤ 131072) (hP : P.length ≤ 1048576) (hn : n ≤ 65535) :
    Calls Try.prog 15 #[.pointer (some ⟨C, 0, none⟩), pv, .int .i64 (n : Int)] w fun x w' => Cvs C pv s P n (M.vals s.data.toList P n st).2 (M.vals s.data.toList P n st).1 w x w' := by
  obtain ⟨i0, hi, hz0, hz1, hz2⟩ := info_parts Try.info25
  have H0 := hide h
  have hCl := h.cd.lt
  obtain ⟨pad, pcap, epv, _⟩ := h.pool.ex
  subst epv
  obtain ⟨pv, hpv⟩ : ∃ z, z = Value.slice pad P.length pcap := ⟨_, rfl⟩
  have Hpv := hide hpv
  clear hpv h
  go_enter Try.func15, Try.ntmps15
  go_wp2_with fail
  go_loopw [2, 7] (fun nv v wr => ∃ (m : Nat) (A : List T) (st1 : St), m ≤ n ∧ nv = .int .i64 m ∧ A.length + m = n ∧ Hid (st1.e = 0 → M.Vs s.data.toList P n st A m st1) ∧ Hid (st1.e ≠ 0 → (M.vals s.data.toList P n st).2 = st1) ∧ Hid (wr.ownsRow w.heap.size 25 3 v A.length (TC A)) ∧ Hid (Cx wr C (.slice pad P.length pcap) s P st1) ∧ Hid (w.grownBy wr (some C))) (fun nv _ _ => (intOf nv).toNat)
  case atStart => exact ⟨n, [], st, Nat.le_refl _, rfl, by simp, fun _ => M.Vs.zero _ _ _ _, fun he => by rw [M.vals_bad he], World.ownsRow_nil _ _ _ _, unhide H0, grown_refl _ _⟩
  case round =>
    obtain ⟨m, A, st1, hmn, rfl, hAm, HV, HE, Ho, Hr, Hg⟩ := hrel
    have hcx := unhide Hr
    have c2 : wr.cell? ⟨C, 2, none⟩ = some (.int .i64 (st1.e : Int)) := hcx.cd.cell 2
    by_cases hm : m = 0
    · subst hm
      have HS := hide (own_slice (unhide Ho))
      have hfin : (M.vals s.data.toList P n st).2 = st1 ∧ (st1.e = 0 → A = (M.vals s.data.toList P n st).1) := by
        by_cases he : st1.e = 0
        · have := (unhide HV he).done
          rw [this]; exact ⟨rfl, fun _ => rfl⟩
        · exact ⟨unhide HE he, fun g => absurd g he⟩
      have HF := hide hfin
      clear hfin HV HE
      go_wp2
      go_ret
      exact ⟨_, rfl, by rw [(unhide HF).1]; exact hcx, unhide Hg, ⟨A, unhide Ho, by omega, fun g => (unhide HF).2 (by rw [(unhide HF).1] at g; exact g)⟩, unhide HS⟩
    · have hm0 : (0 : Int) < (m : Int) := by omega
      by_cases he : st1.e = 0
      · have hd : (((st1.e : Int) == 0) : Bool) = true := by rw [he]; rfl
        obtain ⟨m', rfl⟩ : ∃ m', m = m' + 1 := ⟨m - 1, by omega⟩
        have c1 : wr.cell? ⟨C, 1, none⟩ = some (.int .i64 (st1.pos : Int)) := hcx.cd.cell 1
        have hx := M.rd1 s.data.toList st1
        have hpos := M.vty_pos (P := P) hcx.pos
        have HN := hide (cN_any C (.slice pad P.length pcap) s P st1 wr 1 (by decide) hcx hs)
        have HVs := hide (unhide HV he)
        have HSt := hide (fun g => (unhide HVs).step g)
        have HSp := hide (fun g => (unhide HVs).stop g)
        obtain ⟨x, st2, hT⟩ : ∃ x st2, M.rd s.data.toList 1 st1 = (x, st2) := ⟨_, _, rfl⟩
        have hcs := M.vty_cases s.data.toList P st1 hT
        rw [hT] at hx HN
        simp only at hx HN
        obtain ⟨q, hq⟩ : ∃ q, q = st1.pos := ⟨_, rfl⟩
        rw [← hq] at hcs c1
        obtain ⟨t, stV, hVV⟩ : ∃ t stV, M.vty s.data.toList P st1 = (t, stV) := ⟨_, _, rfl⟩
        rw [hVV] at hcs hpos HSt HSp
        simp only at hcs hpos HSt HSp
        obtain ⟨htg, hcs⟩ := hcs
        have HTag := hide htg
        have HCs := hide hcs
        have Hpos := hide hpos
        clear hT hq hVV hcs htg hpos he HV HE HVs hm
        have ho := unhide Ho
        have hgw := unhide Hg
        clear Ho Hg Hr
        go_wp2_with fail
        refine (unhide HN).mono ?_
        rintro e w1 ⟨rfl, hr1, hg1⟩
        have ho1 := own_grown ho hg1 hCl
        have hgw1 := grown_trans hgw hg1
        obtain ⟨p, hp⟩ : ∃ p, p = w1.heap.size := ⟨_, rfl⟩
        obtain ⟨w2, hw2⟩ : ∃ w2, w2 = w1.alloc (.cells #[.int .u8 (x : Int), .string ⟨#[]⟩, .int .i64 0] 25) := ⟨_, rfl⟩
        have hp2 : Bk w2 p #[.int .u8 (x : Int), .string ⟨#[]⟩, .int .i64 0] 25 := by rw [hw2, hp]; exact Bk.new _ _ _
        have hgw2 : w.grownBy w2 (some C) := by rw [hw2]; exact grown_alloc hgw1 _
        have hr2 : Cx w2 C (.slice pad P.length pcap) s P st2 := by rw [hw2]; exact hr1.below ((Below.refl _ _).alloc (Nat.le_refl _) _)
        have ho2 := ho1.alloc (.cells #[.int .u8 (x : Int), .string ⟨#[]⟩, .int .i64 0] 25)
        rw [← hw2] at ho2
        have hpC : C < p := by have := hr1.cd.lt; omega
        have hpw : w.heap.size ≤ p := by have := hgw1.size; omega
        have hop : ∀ b, u7.ownBlock = some b → b ≠ p := fun b e => by have := (ins_in' ho1 e).2; omega
        have HW2 := hide hw2
        have HPp := hide hp
        have Hr2 := hide hr2
        have Ho2 := hide ho2
        have Hop := hide hop
        clear HN hw2 hp ho1 hgw1 hr1 hg1 hgw ho hr2 ho2 c1 c2 hcx hop
        go_upto_if 32 with fail
        rw [← unhide HW2, ← unhide HPp]
        clear HW2 HPp
        go_cut [] (fun w' => Hid (Bk w' p #[.int .u8 (x : Int), .string ⟨t.name.toArray⟩, .int .i64 t.at_] 25 ∧ w.grownBy w' (some C) ∧ Cd w' C s stV ∧ w'.ownsRow w.heap.size 25 3 u7 A.length (TC A)))
        case first =>
          have k0 : w2.cell? ⟨p, 0, none⟩ = some (.int .u8 (x : Int)) := hp2.cell 0
          rcases unhide HCs with ⟨hx7, hn, ha, hst⟩ | ⟨hx7, hn, ha, hst⟩ | ⟨hx7, hn, ha, hst⟩ | ⟨hx7, hn, ha, hst⟩
          · have f7 : (((x : Int) == 7) : Bool) = true := by rw [hx7]; rfl
            have hx2 := M.rd2 s.data.toList st2
            have HU := hide (cN_any C (.slice pad P.length pcap) s P st2 w2 2 (by decide) (unhide Hr2) hs)
            obtain ⟨y, st3, hT⟩ : ∃ y st3, M.rd s.data.toList 2 st2 = (y, st3) := ⟨_, _, rfl⟩
            rw [hT] at hx2 HU hn hst
            simp only at hx2 HU hn hst
            have HI := hide (fun (w3 : World) (h3 : Cx w3 C (.slice pad P.length pcap) s P st3) => Is_any (.slice pad P.length pcap) P (y : Int) 7 w3 h3.pool hP (by decide))
            have HCl := hide (fun (w3 : World) (h3 : Cx w3 C (.slice pad P.length pcap) s P st3) => ClassOf_any (.slice pad P.length pcap) P (y : Int) w3 h3.pool hP)
            rw [← hn] at HCl
            have HF := hide (fun (w3 : World) (h3 : Cx w3 C (.slice pad P.length pcap) s P st3) => cF_any C (.slice pad P.length pcap) s P st3 w3 7 q h3)
            have Ha := hide ha
            by_cases ht : M.tag P (y : Int) = 7
            · rw [if_pos ht] at hst
              rw [decide_eq_true ht] at HI
              have Hst := hide hst
              clear hx7 hn hst ha HCs hT ht HF
              go_wp2_with fail
              refine (unhide HU).mono ?_
              rintro e w3 ⟨rfl, hr3, hg3⟩
              have hp3 := hp2.kept hg3 (by simp; omega)
              have ho3 := own_grown (unhide Ho2) hg3 hCl
              clear HU k0
              go_wp2_with fail
              refine (unhide HI _ hr3).mono ?_
              rintro e w4 ⟨rfl, hw⟩
              subst w4
              go_wp2_with fail
              refine (unhide HCl _ hr3).mono ?_
              rintro e w4 ⟨⟨b, rfl⟩, hw⟩
              subst w4
              have k1 : w3.cell? ⟨p, 1, none⟩ = some (.string ⟨#[]⟩) := hp3.cell 1
              have kf := hp3.frozen 1
              clear HI HCl
              go_wp2
              go_meet
              exact ⟨by rw [unhide Ha]; exact hp3.set 1 _, grown_new (grown_trans hgw2 hg3) (by omega) 1 _, by rw [unhide Hst]; exact hr3.cd.kept (grown_set w3 p 1 _) (by simp; omega), own_keptX ho3 (grown_set w3 p 1 _) (fun b e e2 => unhide Hop b e2 (by cases e; rfl))⟩
            · rw [if_neg ht] at hst
              rw [decide_eq_false ht] at HI
              have hn0 : t.name = [] := by rw [hn]; unfold M.cls; rw [if_neg ht]
              have Hn0 := hide hn0
              have Hst := hide hst
              clear hx7 hn hst ha HCs hT ht HCl hn0
              go_wp2_with fail
              refine (unhide HU).mono ?_
              rintro e w3 ⟨rfl, hr3, hg3⟩
              have hp3 := hp2.kept hg3 (by simp; omega)
              have ho3 := own_grown (unhide Ho2) hg3 hCl
              clear HU k0
              go_wp2_with fail
              refine (unhide HI _ hr3).mono ?_
              rintro e w4 ⟨rfl, hw⟩
              subst w4
              go_wp2_with fail
              refine (unhide HF _ hr3).mono ?_
              rintro e w4 ⟨rfl, hr4, hg4⟩
              clear HI HF
              go_wp2
              go_meet
              exact ⟨by rw [unhide Ha, unhide Hn0]; exact hp3.kept hg4 (by simp; omega), grown_trans (grown_trans hgw2 hg3) hg4, by rw [unhide Hst]; exact hr4.cd, own_grown ho3 hg4 hCl⟩
          · have f7 : (((x : Int) == 7) : Bool) = false := by rw [hx7]; rfl
            have f8 : (((x : Int) == 8) : Bool) = true := by rw [hx7]; rfl
            have hx2 := M.rd2 s.data.toList st2
            have HU := hide (cN_any C (.slice pad P.length pcap) s P st2 w2 2 (by decide) (unhide Hr2) hs)
            rw [← hst] at HU
            generalize (M.rd s.data.toList 2 st2).1 = y at *
            have Hn := hide hn
            have Ha := hide ha
            clear hx7 hn hst ha HCs
            go_wp2_with fail
            refine (unhide HU).mono ?_
            rintro e w3 ⟨rfl, hr3, hg3⟩
            have hp3 := hp2.kept hg3 (by simp; omega)
            have ho3 := own_grown (unhide Ho2) hg3 hCl
            have k1 : w3.cell? ⟨p, 2, none⟩ = some (.int .i64 0) := hp3.cell 2
            have kf := hp3.frozen 2
            clear HU k0
            go_wp2
            go_meet
            exact ⟨by rw [unhide Ha, unhide Hn]; exact hp3.set 2 _, grown_new (grown_trans hgw2 hg3) (by omega) 2 _, hr3.cd.kept (grown_set w3 p 2 _) (by simp; omega), own_keptX ho3 (grown_set w3 p 2 _) (fun b e e2 => unhide Hop b e2 (by cases e; rfl))⟩
          · have f7 : (((x : Int) == 7) : Bool) = false := by rw [beq_eq_false_iff_ne]; omega
            have f8 : (((x : Int) == 8) : Bool) = false := by rw [beq_eq_false_iff_ne]; omega
            have f9 : (8 : Int) < (x : Int) := by omega
            have HF := hide (cF_any C (.slice pad P.length pcap) s P st2 w2 17 q (unhide Hr2))
            rw [← hst] at HF
            have Hn := hide hn
            have Ha := hide ha
            clear hx7 hn hst ha HCs
            go_wp2_with fail
            refine (unhide HF).mono ?_
            rintro e w3 ⟨rfl, hr3, hg3⟩
            have hp3 := hp2.kept hg3 (by simp; omega)
            have ho3 := own_grown (unhide Ho2) hg3 hCl
            clear HF k0
            go_wp2
            go_meet
            exact ⟨by rw [unhide Ha, unhide Hn]; exact hp3, grown_trans hgw2 hg3, hr3.cd, ho3⟩
          · have f7 : (((x : Int) == 7) : Bool) = false := by rw [beq_eq_false_iff_ne]; omega
            have f8 : (((x : Int) == 8) : Bool) = false := by rw [beq_eq_false_iff_ne]; omega
            have f9 : ¬ (8 : Int) < (x : Int) := by omega
            have Hst := hide hst
            have Hn := hide hn
            have Ha := hide ha
            clear hx7 hn hst ha HCs
            go_wp2
            go_meet
            exact ⟨by rw [unhide Ha, unhide Hn]; exact hp2, hgw2, by rw [unhide Hst]; exact (unhide Hr2).cd, unhide Ho2⟩
        case rest =>
          clear hp2 hgw2 Hr2 HCs Ho2
          obtain ⟨hp4, hg4, hr4, ho4⟩ := unhide hcut
          have k0 : wc.cell? ⟨p, 0, none⟩ = some (.int .u8 (x : Int)) := hp4.cell 0
          have k1 : wc.cell? ⟨p, 1, none⟩ = some (.string ⟨t.name.toArray⟩) := hp4.cell 1
          have k2 : wc.cell? ⟨p, 2, none⟩ = some (.int .i64 t.at_) := hp4.cell 2
          have hAl : A.length ≤ 65535 := by omega
          clear hcut
          go_wp2_with (at_builtin; refine wpList_append_own_at _ rfl _ _ 23 rfl w.heap.size 25 i0 (.agg #[.int .u8 0, .string ⟨#[]⟩, .int .i64 0]) 3 32 Try.underlying23 hi hz0 hz1 hz2 rfl (by decide) _ A.length (TC A) rfl (ho4.alloc _) ⟨wc.heap.size, 0, none⟩ 1 1 [.int .u8 (x : Int), .string ⟨t.name.toArray⟩, .int .i64 t.at_] rfl rfl ?c1 ?c2 ?c3 ?c4 ?c5 ?_)
          case c1 =>
            intro j u hj
            rw [Addr.add_lit, Nat.zero_add, (Bk.new wc _ 25).cell j]
            simpa using hj
          case c2 => intro u hu; simp at hu; rcases hu with rfl | rfl | rfl <;> rfl
          case c3 => unfold maxLen; omega
          case c4 => omega
          case c5 => have := hg4.size; simp; omega
          intro v' w5 hown' hgrow _ _
          have hlt2 := (ho4.alloc (.cells #[.int .u8 (x : Int), .string ⟨t.name.toArray⟩, .int .i64 t.at_] 25)).lt
          have hgw5 := grown_own (grown_alloc hg4 (.cells #[.int .u8 (x : Int), .string ⟨t.name.toArray⟩, .int .i64 t.at_] 25)) hgrow (fun b e => (hlt2 b e).1)
          have hcd5 : Cd w5 C s stV := (hr4.below ((Below.refl _ _).alloc (Nat.le_refl _) _)).kept hgrow (fun e => by have := (hlt2 C e.symm).1; omega)
          have Hr5 := hide ((unhide H0).step hcd5 hgw5 (unhide Hpos))
          have Hg5 := hide hgw5
          have Ho5 : Hid (w5.ownsRow w.heap.size 25 3 v' (A ++ [t]).length (TC (A ++ [t]))) := by
            show World.ownsRow _ _ _ _ _ _ _
            rw [TC_snoc, List.length_append, List.length_singleton]
            unfold T.cells
            rw [unhide HTag]; exact hown'
          have hsub : ((m' + 1 : Nat) : Int) - 1 = (m' : Int) := by omega
          clear hown' hgrow hgw5 hcd5 hlt2 hr4 hg4 hp4 ho4
          go_wp2
          go_roundw
          case rel => exact ⟨m', A ++ [t], stV, by omega, by go_num, by simp; omega, unhide HSt, unhide HSp, Ho5, Hr5, Hg5⟩
          case measure => simp [intOf]
      · have hd : (((st1.e : Int) == 0) : Bool) = false := by rw [beq_eq_false_iff_ne]; omega
        have HS := hide (own_slice (unhide Ho))
        have HF := hide (unhide HE he)
        have He := hide he
        clear HV HE he
        go_wp2
        go_ret
        exact ⟨_, rfl, by rw [unhide HF]; exact hcx, unhide Hg, ⟨A, unhide Ho, by omega, fun g => absurd (by rw [unhide HF] at g; exact g) (unhide He)⟩, unhide HS⟩
end Go.Proofs.Ytbgpkkbejbidlab
