/-
  Package class: lists of fields.
  Package class: lists of numbers.
  Package class: lists of methods.
-/
import Derived.Test.YtbgpkkbejbidlacCg
import Derived.Test.YtbgpkkbejbidlacCh
import Derived.Test.YtbgpkkbejbidlacMgJ
namespace Go.Proofs.Ytbgpkkbejbidlac.Cl
open Go.RowKit
def fcells (f : Fd) : List Value := [.int .u16 (f.flags : Int), .int .u16 (f.name : Int), .int .u16 (f.type_ : Int), .int .u16 (f.value : Int)]
def FC (l : List Fd) : List Value := l.flatMap fcells
theorem FC_snoc (l : List Fd) (h : Fd) : FC (l ++ [h]) = FC l ++ fcells h := by simp [FC]
theorem Try.info95 : (Try.prog.info? 95).map (fun i => (i.zero, i.size, i.bytes)) = some (some (.agg #[.int .u16 0, .int .u16 0, .int .u16 0, .int .u16 0]), 4, 8) := by kernel_rfl
theorem own95_slice {w : World} {B n : Nat} {v : Value} {xs : List Value} (h : w.ownsRow B 95 4 v n xs) : ∃ ad c, v = .slice ad n c := by
  rcases h.2 with ⟨rfl, h0⟩ | ⟨g, cap, cur, rfl, _⟩
  · exact ⟨none, 0, by rw [h0]⟩
  · exact ⟨_, _, rfl⟩
theorem off_gr {w w' : World} {R : Nat} {pv : Value} {P : List K} (h : Off w R pv P) (hz : w.heap.size ≤ w'.heap.size) : Off w' R pv P := fun hne b o n c e => ⟨(h hne b o n c e).1, by have := (h hne b o n c e).2; omega⟩
set_option maxRecDepth 100000 in
set_option maxHeartbeats 1000000 in
theorem fields_any (R : Nat) (pv : Value) (s : ByteArray) (P : List K) (st : St) (w : World) (h : Rd w R pv s st) (hs : s.size ≤ 131072) (hP : P.length ≤ 1048576) (hp : st.pos ≤ s.data.toList.length) (hk : KIn w pv P) (hKb : Off w R pv P) :
    Calls Try.prog 71 #[.pointer (some ⟨R, 0, none⟩), .func (Fn.func 72) #[.pointer (some ⟨R, 0, none⟩)] #[]] w fun x w' => ∃ v, x = .returned v ∧ w'.ownsRow w.heap.size 95 4 v (M.lst s.data.toList (M.fld s.data.toList P) st).1.length (FC (M.lst s.data.toList (M.fld s.data.toList P) st).1) ∧ Rd w' R pv s (M.lst s.data.toList (M.fld s.data.toList P) st).2 ∧ w.grownBy w' (some R) ∧ KIn w' pv P ∧ (M.lst s.data.toList (M.fld s.data.toList P) st).2.pos ≤ s.data.toList.length := by
  obtain ⟨i0, hi, hz0, hz1, hz2⟩ := info_parts Try.info95
  have hRl := h.lt
  have HU := hide (U16_any R pv s st w h hs hp)
  have hx := M.rd2 s.data.toList st
  have hp1 := M.rd_pos (n := 2) hp
  unfold M.lst
  obtain ⟨x, st1, hT⟩ : ∃ x st1, M.rd s.data.toList 2 st = (x, st1) := ⟨_, _, rfl⟩
  rw [hT] at hx HU hp1 ⊢
  simp only at hx HU hp1 ⊢
  have Hk := hide hk
  have HK := hide hKb
  clear hT h hk hKb
  go_enter Try.func71, Try.ntmps71
  go_wp2_with fail
  refine (unhide HU).mono ?_
  rintro e w1 ⟨rfl, hr1, hg1⟩
  have Hr1 := hide hr1
  have Hg1 := hide hg1
  have Hk1 := hide ((unhide Hk).kept hg1 fun hne b o n c e => by have := (unhide HK) hne b o n c e; simpa using this.1)
  clear HU hr1 hg1
  go_wp2_with fail
  go_loopw [5, 6] (fun v i wr => ∃ (m : Nat) (A : List Fd) (st2 : St), m ≤ x ∧ i = .int .u16 m ∧ Hid (M.Rs (M.fld s.data.toList P) x st1 A m st2) ∧ Hid (wr.ownsRow w.heap.size 95 4 v A.length (FC A)) ∧ Hid (Rd wr R pv s st2) ∧ Hid (w.grownBy wr (some R)) ∧ Hid (KIn wr pv P) ∧ st2.pos ≤ s.data.toList.length) (fun _ i _ => (intOf i).toNat)
  case atStart => exact ⟨x, [], st1, Nat.le_refl _, rfl, M.Rs.zero, World.ownsRow_nil _ _ _ _, unhide Hr1, unhide Hg1, unhide Hk1, hp1⟩
  case round =>
    clear Hr1 Hg1 Hk1 Hk hp1
    obtain ⟨m, A, st2, hm, rfl, HRs, HO, HR, HG, HKw, hp2⟩ := hrel
    obtain ⟨va, vc, ev⟩ := own95_slice (unhide HO)
    subst ev
    have HGd := hide (Good_any R pv s st2 wr (unhide HR))
    by_cases hm0 : m = 0
    · subst hm0
      have HD := hide ((unhide HRs).done)
      go_wp2
      go_ret
      exact ⟨_, rfl, by rw [unhide HD]; exact unhide HO, by rw [unhide HD]; exact unhide HR, unhide HG, unhide HKw, by rw [unhide HD]; exact hp2⟩
    · have hmi : (0 : Int) < (m : Int) := by omega
      by_cases he : st2.e = 0
      · rw [decide_eq_true he] at HGd
        obtain ⟨n, hn⟩ : ∃ n, m = n + 1 := ⟨m - 1, by omega⟩
        have hst := unhide HRs
        rw [hn] at hst
        have HSt := hide (hst.step he)
        have hAl := hst.1
        have HH := hide (field_any R pv s P st2 wr (unhide HR) hs hP hp2 (unhide HKw) (off_gr (unhide HK) (unhide HG).size))
        obtain ⟨c, st3, hc⟩ : ∃ c st3, M.fld s.data.toList P st2 = (c, st3) := ⟨_, _, rfl⟩
        rw [hc] at HH HSt
        simp only at HH HSt
        unfold Fd.val at HH
        have hNl : A.length ≤ 65535 := by omega
        have Hn1 := hide hn
        have He := hide he
        clear hn he hst hAl hc HRs hm0
        go_wp2_with fail
        refine (unhide HGd).mono ?_
        rintro e w2 ⟨rfl, hw2⟩
        subst w2
        go_wp2_with fail
        refine (unhide HH).mono ?_
        rintro e w2 ⟨rfl, hr2, hk2, hg2, hp3⟩
        have hwz := (unhide HG).size
        have hrow := ins_kept (unhide HO) hg2 (fun b e1 e2 => by cases e1; have := (ins_in (unhide HO) e2).1; omega)
        have hgw2 := grown_trans (unhide HG) hg2
        have hw2z := hgw2.size
        clear HH HGd HG HR HO HKw hg2
        go_wp2_with (at_builtin; refine wpList_append_own_at _ rfl _ _ 41 rfl w.heap.size 95 i0 (.agg #[.int .u16 0, .int .u16 0, .int .u16 0, .int .u16 0]) 4 8 Try.underlying41 hi hz0 hz1 hz2 rfl (by decide) _ A.length (FC A) rfl (hrow.alloc _) ⟨w2.heap.size, 0, none⟩ 1 1 [.int .u16 (c.flags : Int), .int .u16 (c.name : Int), .int .u16 (c.type_ : Int), .int .u16 (c.value : Int)] rfl rfl ?c1 ?c2 ?c3 ?c4 ?c5 ?_)
        case c1 =>
          intro j u hj
          rw [Addr.add_lit, Nat.zero_add, (Bk.new w2 _ 95).cell j]
          simpa using hj
        case c2 => intro u hu; simp at hu; rcases hu with rfl | rfl | rfl | rfl <;> rfl
        case c3 => unfold maxLen; omega
        case c4 => omega
        case c5 => simp; omega
        intro v' w4 hown' hgrow _ hbv
        have hlt2 := (hrow.alloc (.cells #[.int .u16 (c.flags : Int), .int .u16 (c.name : Int), .int .u16 (c.type_ : Int), .int .u16 (c.value : Int)] 95)).lt
        have hgw4 := grown_own (grown_alloc hgw2 (.cells #[.int .u16 (c.flags : Int), .int .u16 (c.name : Int), .int .u16 (c.type_ : Int), .int .u16 (c.value : Int)] 95)) hgrow (fun b e => by have := (hlt2 b e).1; omega)
        have hr4 : Rd w4 R pv s st3 := (hr2.kept (World.grownBy_alloc w2 _ none) (by simp)).kept hgrow (fun e => by have := (hlt2 R e.symm).1; omega)
        have HO4 : Hid (w4.ownsRow w.heap.size 95 4 v' (A ++ [c]).length (FC (A ++ [c]))) := by
          rw [FC_snoc, List.length_append]; exact hown'
        have Hk4 := hide ((hk2.kept (World.grownBy_alloc w2 _ none) (fun _ _ _ _ _ _ => by simp)).kept hgrow fun hne b o n c e => fun e2 => by have h1 := (hlt2 b e2.symm).1; have h2 := ((unhide HK) hne b o n c e).2; omega)
        have Hr4 := hide hr4
        have Hg4 := hide hgw4
        have hn := unhide Hn1
        clear hown' hgrow hbv hgw4 hr4 hlt2 hgw2 hr2 hrow hk2
        have hm1 : (m : Int) - 1 = ((n : Nat) : Int) := by omega
        go_wp2
        go_roundw
        case rel => exact ⟨n, A ++ [c], st3, by omega, by go_num, HSt, HO4, Hr4, Hg4, Hk4, hp3⟩
        case measure => simp [intOf]; omega
      · rw [decide_eq_false he] at HGd
        have HD := hide ((unhide HRs).stop he)
        clear he hm0
        go_wp2_with fail
        refine (unhide HGd).mono ?_
        rintro e w2 ⟨rfl, hw2⟩
        subst w2
        go_wp2
        go_ret
        exact ⟨_, rfl, by rw [unhide HD]; exact unhide HO, by rw [unhide HD]; exact unhide HR, unhide HG, unhide HKw, by rw [unhide HD]; exact hp2⟩
end Go.Proofs.Ytbgpkkbejbidlac.Cl
namespace Go.Proofs.Ytbgpkkbejbidlac.Cl
open Go.RowKit
def UC (l : List Nat) : List Value := l.map fun x : Nat => .int .u16 (x : Int)
theorem UC_snoc (l : List Nat) (h : Nat) : UC (l ++ [h]) = UC l ++ [.int .u16 (h : Int)] := by simp [UC]
theorem Try.info39 : (Try.prog.info? 39).map (fun i => (i.zero, i.size, i.bytes)) = some (some (.int .u16 0), 1, 2) := by kernel_rfl
theorem own39_slice {w : World} {B n : Nat} {v : Value} {xs : List Value} (h : w.ownsRow B 39 1 v n xs) : ∃ ad c, v = .slice ad n c := by
  rcases h.2 with ⟨rfl, h0⟩ | ⟨g, cap, cur, rfl, _⟩
  · exact ⟨none, 0, by rw [h0]⟩
  · exact ⟨_, _, rfl⟩
set_option maxRecDepth 100000 in
set_option maxHeartbeats 1000000 in
theorem u16s_any (R : Nat) (pv : Value) (s : ByteArray) (st : St) (w : World) (h : Rd w R pv s st) (hs : s.size ≤ 131072) (hp : st.pos ≤ s.data.toList.length) :
    Calls Try.prog 70 #[.pointer (some ⟨R, 0, none⟩), .func (Fn.func 57) #[.pointer (some ⟨R, 0, none⟩)] #[]] w fun x w' => ∃ v, x = .returned v ∧ w'.ownsRow w.heap.size 39 1 v (M.lst s.data.toList (M.u16 s.data.toList) st).1.length (UC (M.lst s.data.toList (M.u16 s.data.toList) st).1) ∧ Rd w' R pv s (M.lst s.data.toList (M.u16 s.data.toList) st).2 ∧ w.grownBy w' (some R) := by
  obtain ⟨i0, hi, hz0, hz1, hz2⟩ := info_parts Try.info39
  have hRl := h.lt
  have HU := hide (U16_any R pv s st w h hs hp)
  have hx := M.rd2 s.data.toList st
  have hp1 := M.rd_pos (n := 2) hp
  unfold M.lst
  obtain ⟨x, st1, hT⟩ : ∃ x st1, M.rd s.data.toList 2 st = (x, st1) := ⟨_, _, rfl⟩
  rw [hT] at hx HU hp1 ⊢
  simp only at hx HU hp1 ⊢
  clear hT h
  go_enter Try.func70, Try.ntmps70
  go_wp2_with fail
  refine (unhide HU).mono ?_
  rintro e w1 ⟨rfl, hr1, hg1⟩
  have Hr1 := hide hr1
  have Hg1 := hide hg1
  clear HU hr1 hg1
  go_wp2_with fail
  go_loopw [5, 6] (fun v i wr => ∃ (m : Nat) (A : List Nat) (st2 : St), m ≤ x ∧ i = .int .u16 m ∧ Hid (M.Rs (M.u16 s.data.toList) x st1 A m st2) ∧ Hid (wr.ownsRow w.heap.size 39 1 v A.length (UC A)) ∧ Hid (Rd wr R pv s st2) ∧ Hid (w.grownBy wr (some R)) ∧ st2.pos ≤ s.data.toList.length) (fun _ i _ => (intOf i).toNat)
  case atStart => exact ⟨x, [], st1, Nat.le_refl _, rfl, M.Rs.zero, World.ownsRow_nil _ _ _ _, unhide Hr1, unhide Hg1, hp1⟩
  case round =>
    clear Hr1 Hg1 hp1
    obtain ⟨m, A, st2, hm, rfl, HRs, HO, HR, HG, hp2⟩ := hrel
    obtain ⟨va, vc, ev⟩ := own39_slice (unhide HO)
    subst ev
    have HGd := hide (Good_any R pv s st2 wr (unhide HR))
    by_cases hm0 : m = 0
    · subst hm0
      have HD := hide ((unhide HRs).done)
      go_wp2
      go_ret
      exact ⟨_, rfl, by rw [unhide HD]; exact unhide HO, by rw [unhide HD]; exact unhide HR, unhide HG⟩
    · have hmi : (0 : Int) < (m : Int) := by omega
      by_cases he : st2.e = 0
      · rw [decide_eq_true he] at HGd
        obtain ⟨n, hn⟩ : ∃ n, m = n + 1 := ⟨m - 1, by omega⟩
        have hst := unhide HRs
        rw [hn] at hst
        have HSt := hide (hst.step he)
        have hAl := hst.1
        have HH := hide (U16_any R pv s st2 wr (unhide HR) hs hp2)
        have hp3 := M.rd_pos (n := 2) hp2
        unfold M.u16 at HSt
        obtain ⟨c, st3, hc⟩ : ∃ c st3, M.rd s.data.toList 2 st2 = (c, st3) := ⟨_, _, rfl⟩
        rw [hc] at HH HSt hp3
        simp only at HH HSt hp3
        have hNl : A.length ≤ 65535 := by omega
        have Hn1 := hide hn
        have He := hide he
        clear hn he hst hAl hc HRs hm0
        go_wp2_with fail
        refine (unhide HGd).mono ?_
        rintro e w2 ⟨rfl, hw2⟩
        subst w2
        go_wp2_with fail
        refine (unhide HH).mono ?_
        rintro e w2 ⟨rfl, hr2, hg2⟩
        have hwz := (unhide HG).size
        have hrow := ins_kept (unhide HO) hg2 (fun b e1 e2 => by cases e1; have := (ins_in (unhide HO) e2).1; omega)
        have hgw2 := grown_trans (unhide HG) hg2
        have hw2z := hgw2.size
        clear HH HGd HG HR HO hg2
        go_wp2_with (at_builtin; refine wpList_append_own_at _ rfl _ _ 40 rfl w.heap.size 39 i0 (.int .u16 0) 1 2 Try.underlying40 hi hz0 hz1 hz2 rfl (by decide) _ A.length (UC A) rfl (hrow.alloc _) ⟨w2.heap.size, 0, none⟩ 1 1 [.int .u16 (c : Int)] rfl rfl ?c1 ?c2 ?c3 ?c4 ?c5 ?_)
        case c1 =>
          intro j u hj
          rw [Addr.add_lit, Nat.zero_add, (Bk.new w2 _ 39).cell j]
          simpa using hj
        case c2 => intro u hu; simp at hu; subst hu; rfl
        case c3 => unfold maxLen; omega
        case c4 => omega
        case c5 => simp; omega
        intro v' w4 hown' hgrow _ hbv
        have hlt2 := (hrow.alloc (.cells #[.int .u16 (c : Int)] 39)).lt
        have hgw4 := grown_own (grown_alloc hgw2 (.cells #[.int .u16 (c : Int)] 39)) hgrow (fun b e => by have := (hlt2 b e).1; omega)
        have hr4 : Rd w4 R pv s st3 := (hr2.kept (World.grownBy_alloc w2 _ none) (by simp)).kept hgrow (fun e => by have := (hlt2 R e.symm).1; omega)
        have HO4 : Hid (w4.ownsRow w.heap.size 39 1 v' (A ++ [c]).length (UC (A ++ [c]))) := by
          rw [UC_snoc, List.length_append]; exact hown'
        have Hr4 := hide hr4
        have Hg4 := hide hgw4
        have hn := unhide Hn1
        clear hown' hgrow hbv hgw4 hr4 hlt2 hgw2 hr2 hrow
        have hm1 : (m : Int) - 1 = ((n : Nat) : Int) := by omega
        go_wp2
        go_roundw
        case rel => exact ⟨n, A ++ [c], st3, by omega, by go_num, HSt, HO4, Hr4, Hg4, hp3⟩
        case measure => simp [intOf]; omega
      · rw [decide_eq_false he] at HGd
        have HD := hide ((unhide HRs).stop he)
        clear he hm0
        go_wp2_with fail
        refine (unhide HGd).mono ?_
        rintro e w2 ⟨rfl, hw2⟩
        subst w2
        go_wp2
        go_ret
        exact ⟨_, rfl, by rw [unhide HD]; exact unhide HO, by rw [unhide HD]; exact unhide HR, unhide HG⟩
end Go.Proofs.Ytbgpkkbejbidlac.Cl
namespace Go.Proofs.Ytbgpkkbejbidlac.Cl
open Go.RowKit
/-- A method, and where its handlers lie. -/
structure Mj where
  m : Mt
  hv : Value
def Mj.cells (j : Mj) : List Value := [.int .u16 (j.m.flags : Int), .int .u16 (j.m.name : Int), .int .u16 (j.m.type_ : Int), .bool j.m.has, .int .i64 (j.m.code.stack : Int), .int .i64 (j.m.code.locals : Int), .string ⟨j.m.code.bytes.toArray⟩, j.hv, .string ⟨j.m.code.map.toArray⟩]
def MC (l : List Mj) : List Value := l.flatMap Mj.cells
theorem MC_snoc (l : List Mj) (h : Mj) : MC (l ++ [h]) = MC l ++ h.cells := by simp [MC]
/-- A list of methods of one's own. -/
structure LM (w : World) (B : Nat) (v : Value) (L : List Mj) : Prop where
  row : w.ownsRow B 101 9 v L.length (MC L)
  own : ∀ j ∈ L, w.ownsRow B 152 4 j.hv j.m.code.handlers.length (HC j.m.code.handlers)
theorem LM.nil (w : World) (B : Nat) : LM w B (.slice none 0 0) [] := ⟨World.ownsRow_nil _ _ _ _, fun _ h => by cases h⟩
theorem rows_ne {w : World} {B B' n n' : Nat} {v v' : Value} {xs xs' : List Value} {g : Nat} (h : w.ownsRow B 101 9 v n xs) (h' : w.ownsRow B' 152 4 v' n' xs') (e : v.ownBlock = some g) (e' : v'.ownBlock = some g) : False := by
  rcases h.2 with ⟨rfl, _⟩ | ⟨g1, c1, cur1, rfl, _, k1, _⟩
  · cases e
  · rcases h'.2 with ⟨rfl, _⟩ | ⟨g2, c2, cur2, rfl, _, k2, _⟩
    · cases e'
    · have a1 : g1 = g := by simpa [Value.ownBlock] using e
      have a2 : g2 = g := by simpa [Value.ownBlock] using e'
      subst a1 a2
      rw [k1] at k2
      simp at k2
theorem LM.kept {w w' : World} {B : Nat} {v : Value} {L : List Mj} {row : Option Nat} (h : LM w B v L) (hg : w.grownBy w' row) (hr : ∀ b, row = some b → b < B) : LM w' B v L :=
  ⟨ins_kept h.row hg fun b e1 e2 => by have h1 := hr b e1; have h2 := (ins_in h.row e2).1; omega, fun j hj => ins_kept (h.own j hj) hg fun b e1 e2 => by have h1 := hr b e1; have h2 := (ins_in (h.own j hj) e2).1; omega⟩
theorem LM.alloc {w : World} {B : Nat} {v : Value} {L : List Mj} (h : LM w B v L) (o : Obj) : LM (w.alloc o) B v L := ⟨h.row.alloc o, fun j hj => (h.own j hj).alloc o⟩
theorem LM.push {w w' : World} {B : Nat} {v v' : Value} {L : List Mj} {j : Mj} (h : LM w B v L) (hj : w.ownsRow B 152 4 j.hv j.m.code.handlers.length (HC j.m.code.handlers)) (hg : w.grownBy w' v.ownBlock) (hn : w'.ownsRow B 101 9 v' (L ++ [j]).length (MC (L ++ [j]))) : LM w' B v' (L ++ [j]) :=
  ⟨hn, fun k hk => by
    rcases List.mem_append.1 hk with hk | hk
    · exact ins_kept (h.own k hk) hg fun b e1 e2 => rows_ne h.row (h.own k hk) e1 e2
    · have : k = j := by simpa using hk
      subst this
      exact ins_kept hj hg fun b e1 e2 => rows_ne h.row hj e1 e2⟩
theorem Try.info101 : (Try.prog.info? 101).map (fun i => (i.zero, i.size, i.bytes)) = some (some (.agg #[.int .u16 0, .int .u16 0, .int .u16 0, .bool false, .int .i64 0, .int .i64 0, .string ⟨#[]⟩, .slice none 0 0, .string ⟨#[]⟩]), 9, 80) := by kernel_rfl
theorem own101_slice {w : World} {B n : Nat} {v : Value} {xs : List Value} (h : w.ownsRow B 101 9 v n xs) : ∃ ad c, v = .slice ad n c := by
  rcases h.2 with ⟨rfl, h0⟩ | ⟨g, cap, cur, rfl, _⟩
  · exact ⟨none, 0, by rw [h0]⟩
  · exact ⟨_, _, rfl⟩
set_option maxRecDepth 100000 in
set_option maxHeartbeats 1000000 in
theorem methods_any (R : Nat) (pv : Value) (s : ByteArray) (P : List K) (st : St) (w : World) (h : Rd w R pv s st) (hs : s.size ≤ 131072) (hP : P.length ≤ 1048576) (hp : st.pos ≤ s.data.toList.length) (hk : KIn w pv P) (hKb : Off w R pv P) :
    Calls Try.prog 73 #[.pointer (some ⟨R, 0, none⟩), .func (Fn.func 74) #[.pointer (some ⟨R, 0, none⟩)] #[]] w fun x w' => ∃ v L, x = .returned v ∧ L.map Mj.m = (M.lst s.data.toList (M.mth s.data.toList P) st).1 ∧ LM w' w.heap.size v L ∧ Rd w' R pv s (M.lst s.data.toList (M.mth s.data.toList P) st).2 ∧ w.grownBy w' (some R) ∧ KIn w' pv P ∧ (M.lst s.data.toList (M.mth s.data.toList P) st).2.pos ≤ s.data.toList.length := by
  obtain ⟨i0, hi, hz0, hz1, hz2⟩ := info_parts Try.info101
  have hRl := h.lt
  have HU := hide (U16_any R pv s st w h hs hp)
  have hx := M.rd2 s.data.toList st
  have hp1 := M.rd_pos (n := 2) hp
  unfold M.lst
  obtain ⟨x, st1, hT⟩ : ∃ x st1, M.rd s.data.toList 2 st = (x, st1) := ⟨_, _, rfl⟩
  rw [hT] at hx HU hp1 ⊢
  simp only at hx HU hp1 ⊢
  have Hk := hide hk
  have HK := hide hKb
  clear hT h hk hKb
  go_enter Try.func73, Try.ntmps73
  go_wp2_with fail
  refine (unhide HU).mono ?_
  rintro e w1 ⟨rfl, hr1, hg1⟩
  have Hr1 := hide hr1
  have Hg1 := hide hg1
  have Hk1 := hide ((unhide Hk).kept hg1 fun hne b o n c e => by have := (unhide HK) hne b o n c e; simpa using this.1)
  clear HU hr1 hg1
  go_wp2_with fail
  go_loopw [5, 6] (fun v i wr => ∃ (m : Nat) (A : List Mj) (st2 : St), m ≤ x ∧ i = .int .u16 m ∧ Hid (M.Rs (M.mth s.data.toList P) x st1 (A.map Mj.m) m st2) ∧ Hid (LM wr w.heap.size v A) ∧ Hid (Rd wr R pv s st2) ∧ Hid (w.grownBy wr (some R)) ∧ Hid (KIn wr pv P) ∧ st2.pos ≤ s.data.toList.length) (fun _ i _ => (intOf i).toNat)
  case atStart => exact ⟨x, [], st1, Nat.le_refl _, rfl, M.Rs.zero, LM.nil _ _, unhide Hr1, unhide Hg1, unhide Hk1, hp1⟩
  case round =>
    clear Hr1 Hg1 Hk1 Hk hp1
    obtain ⟨m, A, st2, hm, rfl, HRs, HO, HR, HG, HKw, hp2⟩ := hrel
    obtain ⟨va, vc, ev⟩ := own101_slice (unhide HO).row
    subst ev
    have HGd := hide (Good_any R pv s st2 wr (unhide HR))
    by_cases hm0 : m = 0
    · subst hm0
      have HD := hide ((unhide HRs).done)
      go_wp2
      go_ret
      exact ⟨_, A, rfl, by rw [unhide HD], unhide HO, by rw [unhide HD]; exact unhide HR, unhide HG, unhide HKw, by rw [unhide HD]; exact hp2⟩
    · have hmi : (0 : Int) < (m : Int) := by omega
      by_cases he : st2.e = 0
      · rw [decide_eq_true he] at HGd
        obtain ⟨n, hn⟩ : ∃ n, m = n + 1 := ⟨m - 1, by omega⟩
        have hst := unhide HRs
        rw [hn] at hst
        have HSt := hide (hst.step he)
        have hAl := hst.1
        rw [List.length_map] at hAl
        have HH := hide (method_any R pv s P st2 wr (unhide HR) hs hP hp2 (unhide HKw) (off_gr (unhide HK) (unhide HG).size))
        obtain ⟨c, st3, hc⟩ : ∃ c st3, M.mth s.data.toList P st2 = (c, st3) := ⟨_, _, rfl⟩
        rw [hc] at HH HSt
        simp only at HH HSt
        unfold MthR at HH
        have hNl : A.length ≤ 65535 := by omega
        have Hn1 := hide hn
        have He := hide he
        clear hn he hst hAl hc HRs hm0
        go_wp2_with fail
        refine (unhide HGd).mono ?_
        rintro e w2 ⟨rfl, hw2⟩
        subst w2
        go_wp2_with fail
        refine (unhide HH).mono ?_
        rintro e w2 ⟨hv, rfl, hh2, hr2, hk2, hg2, hp3⟩
        obtain ⟨va2, vc2, ev2⟩ := own152_slice hh2
        have hwz := (unhide HG).size
        have hLM := (unhide HO).kept hg2 (fun b e1 => by cases e1; omega)
        have hrow := hLM.row
        have hgw2 := grown_trans (unhide HG) hg2
        have hw2z := hgw2.size
        clear HH HGd HG HR HO HKw hg2
        subst ev2
        go_wp2_with (at_builtin; refine wpList_append_own_at _ rfl _ _ 42 rfl w.heap.size 101 i0 (.agg #[.int .u16 0, .int .u16 0, .int .u16 0, .bool false, .int .i64 0, .int .i64 0, .string ⟨#[]⟩, .slice none 0 0, .string ⟨#[]⟩]) 9 80 Try.underlying42 hi hz0 hz1 hz2 rfl (by decide) _ A.length (MC A) rfl (hrow.alloc _) ⟨w2.heap.size, 0, none⟩ 1 1 [.int .u16 (c.flags : Int), .int .u16 (c.name : Int), .int .u16 (c.type_ : Int), .bool c.has, .int .i64 (c.code.stack : Int), .int .i64 (c.code.locals : Int), .string ⟨c.code.bytes.toArray⟩, .slice va2 c.code.handlers.length vc2, .string ⟨c.code.map.toArray⟩] rfl rfl ?c1 ?c2 ?c3 ?c4 ?c5 ?_)
        case c1 =>
          intro j u hj
          rw [Addr.add_lit, Nat.zero_add, (Bk.new w2 _ 101).cell j]
          simpa using hj
        case c2 => intro u hu; simp at hu; rcases hu with rfl | rfl | rfl | rfl | rfl | rfl | rfl | rfl | rfl <;> rfl
        case c3 => unfold maxLen; omega
        case c4 => omega
        case c5 => simp; omega
        intro v' w4 hown' hgrow _ hbv
        have hlt2 := (hrow.alloc (.cells #[.int .u16 (c.flags : Int), .int .u16 (c.name : Int), .int .u16 (c.type_ : Int), .bool c.has, .int .i64 (c.code.stack : Int), .int .i64 (c.code.locals : Int), .string ⟨c.code.bytes.toArray⟩, .slice va2 c.code.handlers.length vc2, .string ⟨c.code.map.toArray⟩] 101)).lt
        have hgw4 := grown_own (grown_alloc hgw2 (.cells #[.int .u16 (c.flags : Int), .int .u16 (c.name : Int), .int .u16 (c.type_ : Int), .bool c.has, .int .i64 (c.code.stack : Int), .int .i64 (c.code.locals : Int), .string ⟨c.code.bytes.toArray⟩, .slice va2 c.code.handlers.length vc2, .string ⟨c.code.map.toArray⟩] 101)) hgrow (fun b e => by have := (hlt2 b e).1; omega)
        have hr4 : Rd w4 R pv s st3 := (hr2.kept (World.grownBy_alloc w2 _ none) (by simp)).kept hgrow (fun e => by have := (hlt2 R e.symm).1; omega)
        have hLM4 : LM w4 w.heap.size v' (A ++ [⟨c, .slice va2 c.code.handlers.length vc2⟩]) := LM.push (hLM.alloc (.cells #[.int .u16 (c.flags : Int), .int .u16 (c.name : Int), .int .u16 (c.type_ : Int), .bool c.has, .int .i64 (c.code.stack : Int), .int .i64 (c.code.locals : Int), .string ⟨c.code.bytes.toArray⟩, .slice va2 c.code.handlers.length vc2, .string ⟨c.code.map.toArray⟩] 101)) (own_mono (hh2.alloc (.cells #[.int .u16 (c.flags : Int), .int .u16 (c.name : Int), .int .u16 (c.type_ : Int), .bool c.has, .int .i64 (c.code.stack : Int), .int .i64 (c.code.locals : Int), .string ⟨c.code.bytes.toArray⟩, .slice va2 c.code.handlers.length vc2, .string ⟨c.code.map.toArray⟩] 101)) (by omega)) hgrow (by rw [MC_snoc, List.length_append]; exact hown')
        have HO4 := hide hLM4
        have Hk4 := hide ((hk2.kept (World.grownBy_alloc w2 _ none) (fun _ _ _ _ _ _ => by simp)).kept hgrow fun hne b o n c e => fun e2 => by have h1 := (hlt2 b e2.symm).1; have h2 := ((unhide HK) hne b o n c e).2; omega)
        have Hr4 := hide hr4
        have Hg4 := hide hgw4
        have hn := unhide Hn1
        clear hown' hgrow hbv hgw4 hr4 hlt2 hgw2 hr2 hrow hk2 hLM hh2 hLM4
        have hm1 : (m : Int) - 1 = ((n : Nat) : Int) := by omega
        go_wp2
        go_roundw
        case rel => exact ⟨n, A ++ [⟨c, .slice va2 c.code.handlers.length vc2⟩], st3, by omega, by go_num, by rw [List.map_append]; exact HSt, HO4, Hr4, Hg4, Hk4, hp3⟩
        case measure => simp [intOf]; omega
      · rw [decide_eq_false he] at HGd
        have HD := hide ((unhide HRs).stop he)
        clear he hm0
        go_wp2_with fail
        refine (unhide HGd).mono ?_
        rintro e w2 ⟨rfl, hw2⟩
        subst w2
        go_wp2
        go_ret
        exact ⟨_, A, rfl, by rw [unhide HD], unhide HO, by rw [unhide HD]; exact unhide HR, unhide HG, unhide HKw, by rw [unhide HD]; exact hp2⟩
end Go.Proofs.Ytbgpkkbejbidlac.Cl
