/-
  Package class: lists of fields.
  Package class: lists of methods.
  Package class: lists of numbers.
  Package class: a class file.
  Package class: Read.
-/
import Derived.Test.YtgihfcjddkpkaaaMhD
import Derived.Test.YtgihfcjddkpkaaaMhB
import Derived.Test.YtgihfcjddkpkaaaMhC
namespace Go.Proofs.Ytgihfcjddkpkaaa.Rc
open Go.RowKit
def fcells (f : Fd) : List Value := [.int .u16 (f.flags : Int), .int .u16 (f.name : Int), .int .u16 (f.type_ : Int), .int .u16 (f.value : Int)]
def FC (l : List Fd) : List Value := l.flatMap fcells
theorem FC_snoc (l : List Fd) (h : Fd) : FC (l ++ [h]) = FC l ++ fcells h := by simp [FC]
theorem Try.info95 : (Try.prog.info? 95).map (fun i => (i.zero, i.size, i.bytes)) = some (some (.agg #[.int .u16 0, .int .u16 0, .int .u16 0, .int .u16 0]), 4, 8) := by kernel_rfl
theorem own95_slice {w : World} {B n : Nat} {v : Value} {xs : List Value} (h : w.ownsRow B 95 4 v n xs) : ∃ ad c, v = .slice ad n c := by
  rcases h.2 with ⟨rfl, h0⟩ | ⟨g, cap, cur, rfl, _⟩
  · exact ⟨none, 0, by rw [h0]⟩
  · exact ⟨_, _, rfl⟩
theorem off_gr {w w' : World} {R : Nat} {pv : Value} {P : List K} (h : Off w R pv P) (hz : w.heap.size ≤ w'.heap.size) : Off w' R pv P := fun hne b o n c e => ⟨(h hne b o n c e).1, by have := (h hne b o n c e).2; omega⟩
set_option maxRecDepth 100000 in
set_option maxHeartbeats 1000000 in
theorem fields_any (R : Nat) (pv : Value) (s : ByteArray) (P : List K) (st : St) (w : World) (h : Rd w R pv s st) (hs : s.size ≤ 131072) (hP : P.length ≤ 1048576) (hp : st.pos ≤ s.data.toList.length) (hk : KIn w pv P) (hKb : Off w R pv P) :
    Calls Try.prog 71 #[.pointer (some ⟨R, 0, none⟩), .func (Fn.func 72) #[.pointer (some ⟨R, 0, none⟩)] #[]] w fun x w' => ∃ v, x = .returned v ∧ w'.ownsRow w.heap.size 95 4 v (M.lst s.data.toList (M.fld s.data.toList P) st).1.length (FC (M.lst s.data.toList (M.fld s.data.toList P) st).1) ∧ Rd w' R pv s (M.lst s.data.toList (M.fld s.data.toList P) st).2 ∧ w.grownBy w' (some R) ∧ KIn w' pv P ∧ (M.lst s.data.toList (M.fld s.data.toList P) st).2.pos ≤ s.data.toList.length := by
  obtain ⟨i0, hi, hz0, hz1, hz2⟩ := info_parts Try.info95
  have hRl := h.lt
  have HU := hide (U16_any R pv s st w h hs hp)
  have hx := M.rd2 s.data.toList st
  have hp1 := M.rd_pos (n := 2) hp
  unfold M.lst
  obtain ⟨x, st1, hT⟩ : ∃ x st1, M.rd s.data.toList 2 st = (x, st1) := ⟨_, _, rfl⟩
  rw [hT] at hx HU hp1 ⊢
  simp only at hx HU hp1 ⊢
  have Hk := hide hk
  have HK := hide hKb
  clear hT h hk hKb
  go_enter Try.func71, Try.ntmps71
  go_wp2_with fail
  refine (unhide HU).mono ?_
  rintro e w1 ⟨rfl, hr1, hg1⟩
  have Hr1 := hide hr1
  have Hg1 := hide hg1
  have Hk1 := hide ((unhide Hk).kept hg1 fun hne b o n c e => by have := (unhide HK) hne b o n c e; simpa using this.1)
  clear HU hr1 hg1
  go_wp2_with fail
  go_loopw [5, 6] (fun v i wr => ∃ (m : Nat) (A : List Fd) (st2 : St), m ≤ x ∧ i = .int .u16 m ∧ Hid (M.Rs (M.fld s.data.toList P) x st1 A m st2) ∧ Hid (wr.ownsRow w.heap.size 95 4 v A.length (FC A)) ∧ Hid (Rd wr R pv s st2) ∧ Hid (w.grownBy wr (some R)) ∧ Hid (KIn wr pv P) ∧ st2.pos ≤ s.data.toList.length) (fun _ i _ => (intOf i).toNat)
  case atStart => exact ⟨x, [], st1, Nat.le_refl _, rfl, M.Rs.zero, World.ownsRow_nil _ _ _ _, unhide Hr1, unhide Hg1, unhide Hk1, hp1⟩
  case round =>
    clear Hr1 Hg1 Hk1 Hk hp1
    obtain ⟨m, A, st2, hm, rfl, HRs, HO, HR, HG, HKw, hp2⟩ := hrel
    obtain ⟨va, vc, ev⟩ := own95_slice (unhide HO)
    subst ev
    have HGd := hide (Good_any R pv s st2 wr (unhide HR))
    by_cases hm0 : m = 0
    · subst hm0
      have HD := hide ((unhide HRs).done)
      go_wp2
      go_ret
      exact ⟨_, rfl, by rw [unhide HD]; exact unhide HO, by rw [unhide HD]; exact unhide HR, unhide HG, unhide HKw, by rw [unhide HD]; exact hp2⟩
    · have hmi : (0 : Int) < (m : Int) := by omega
      by_cases he : st2.e = 0
      · rw [decide_eq_true he] at HGd
        obtain ⟨n, hn⟩ : ∃ n, m = n + 1 := ⟨m - 1, by omega⟩
        have hst := unhide HRs
        rw [hn] at hst
        have HSt := hide (hst.step he)
        have hAl := hst.1
        have HH := hide (field_any R pv s P st2 wr (unhide HR) hs hP hp2 (unhide HKw) (off_gr (unhide HK) (unhide HG).size))
        obtain ⟨c, st3, hc⟩ : ∃ c st3, M.fld s.data.toList P st2 = (c, st3) := ⟨_, _, rfl⟩
        rw [hc] at HH HSt
        simp only at HH HSt
        unfold Fd.val at HH
        have hNl : A.length ≤ 65535 := by omega
        have Hn1 := hide hn
        have He := hide he
        clear hn he hst hAl hc HRs hm0
        go_wp2_with fail
        refine (unhide HGd).mono ?_
        rintro e w2 ⟨rfl, hw2⟩
        subst w2
        go_wp2_with fail
        refine (unhide HH).mono ?_
        rintro e w2 ⟨rfl, hr2, hk2, hg2, hp3⟩
        have hwz := (unhide HG).size
        have hrow := ins_kept (unhide HO) hg2 (fun b e1 e2 => by cases e1; have := (ins_in (unhide HO) e2).1; omega)
        have hgw2 := grown_trans (unhide HG) hg2
        have hw2z := hgw2.size
        clear HH HGd HG HR HO HKw hg2
        go_wp2_with (at_builtin; refine wpList_append_own_at _ rfl _ _ 41 rfl w.heap.size 95 i0 (.agg #[.int .u16 0, .int .u16 0, .int .u16 0, .int .u16 0]) 4 8 Try.underlying41 hi hz0 hz1 hz2 rfl (by decide) _ A.length (FC A) rfl (hrow.alloc _) ⟨w2.heap.size, 0, none⟩ 1 1 [.int .u16 (c.flags : Int), .int .u16 (c.name : Int), .int .u16 (c.type_ : Int), .int .u16 (c.value : Int)] rfl rfl ?c1 ?c2 ?c3 ?c4 ?c5 ?_)
        case c1 =>
          intro j u hj
          rw [Addr.add_lit, Nat.zero_add, (Bk.new w2 _ 95).cell j]
          simpa using hj
        case c2 => intro u hu; simp at hu; rcases hu with rfl | rfl | rfl | rfl <;> rfl
        case c3 => unfold maxLen; omega
        case c4 => omega
        case c5 => simp; omega
        intro v' w4 hown' hgrow _ hbv
        have hlt2 := (hrow.alloc (.cells #[.int .u16 (c.flags : Int), .int .u16 (c.name : Int), .int .u16 (c.type_ : Int), .int .u16 (c.value : Int)] 95)).lt
        have hgw4 := grown_own (grown_alloc hgw2 (.cells #[.int .u16 (c.flags : Int), .int .u16 (c.name : Int), .int .u16 (c.type_ : Int), .int .u16 (c.value : Int)] 95)) hgrow (fun b e => by have := (hlt2 b e).1; omega)
        have hr4 : Rd w4 R pv s st3 := (hr2.kept (World.grownBy_alloc w2 _ none) (by simp)).kept hgrow (fun e => by have := (hlt2 R e.symm).1; omega)
        have HO4 : Hid (w4.ownsRow w.heap.size 95 4 v' (A ++ [c]).length (FC (A ++ [c]))) := by
          rw [FC_snoc, List.length_append]; exact hown'
        have Hk4 := hide ((hk2.kept (World.grownBy_alloc w2 _ none) (fun _ _ _ _ _ _ => by simp)).kept hgrow fun hne b o n c e => fun e2 => by have h1 := (hlt2 b e2.symm).1; have h2 := ((unhide HK) hne b o n c e).2; omega)
        have Hr4 := hide hr4
        have Hg4 := hide hgw4
        have hn := unhide Hn1
        clear hown' hgrow hbv hgw4 hr4 hlt2 hgw2 hr2 hrow hk2
        have hm1 : (m : Int) - 1 = ((n : Nat) : Int) := by omega
        go_wp2
        go_roundw
        case rel => exact ⟨n, A ++ [c], st3, by omega, by go_num, HSt, HO4, Hr4, Hg4, Hk4, hp3⟩
        case measure => simp [intOf]; omega
      · rw [decide_eq_false he] at HGd
        have HD := hide ((unhide HRs).stop he)
        clear he hm0
        go_wp2_with fail
        refine (unhide HGd).mono ?_
        rintro e w2 ⟨rfl, hw2⟩
        subst w2
        go_wp2
        go_ret
        exact ⟨_, rfl, by rw [unhide HD]; exact unhide HO, by rw [unhide HD]; exact unhide HR, unhide HG, unhide HKw, by rw [unhide HD]; exact hp2⟩
end Go.Proofs.Ytgihfcjddkpkaaa.Rc
namespace Go.Proofs.Ytgihfcjddkpkaaa.Rc
open Go.RowKit
/-- A method, and where its handlers lie. -/
structure Mj where
  m : Mt
  hv : Value
def Mj.cells (j : Mj) : List Value := [.int .u16 (j.m.flags : Int), .int .u16 (j.m.name : Int), .int .u16 (j.m.type_ : Int), .bool j.m.has, .int .i64 (j.m.code.stack : Int), .int .i64 (j.m.code.locals : Int), .string ⟨j.m.code.bytes.toArray⟩, j.hv, .string ⟨j.m.code.map.toArray⟩]
def MC (l : List Mj) : List Value := l.flatMap Mj.cells
theorem MC_snoc (l : List Mj) (h : Mj) : MC (l ++ [h]) = MC l ++ h.cells := by simp [MC]
/-- A list of methods of one's own. -/
structure LM (w : World) (B : Nat) (v : Value) (L : List Mj) : Prop where
  row : w.ownsRow B 101 9 v L.length (MC L)
  own : ∀ j ∈ L, w.ownsRow B 152 4 j.hv j.m.code.handlers.length (HC j.m.code.handlers)
theorem LM.nil (w : World) (B : Nat) : LM w B (.slice none 0 0) [] := ⟨World.ownsRow_nil _ _ _ _, fun _ h => by cases h⟩
theorem rows_ne {w : World} {B B' n n' : Nat} {v v' : Value} {xs xs' : List Value} {g : Nat} (h : w.ownsRow B 101 9 v n xs) (h' : w.ownsRow B' 152 4 v' n' xs') (e : v.ownBlock = some g) (e' : v'.ownBlock = some g) : False := by
  rcases h.2 with ⟨rfl, _⟩ | ⟨g1, c1, cur1, rfl, _, k1, _⟩
  · cases e
  · rcases h'.2 with ⟨rfl, _⟩ | ⟨g2, c2, cur2, rfl, _, k2, _⟩
    · cases e'
    · have a1 : g1 = g := by simpa [Value.ownBlock] using e
      have a2 : g2 = g := by simpa [Value.ownBlock] using e'
      subst a1 a2
      rw [k1] at k2
      simp at k2
theorem LM.kept {w w' : World} {B : Nat} {v : Value} {L : List Mj} {row : Option Nat} (h : LM w B v L) (hg : w.grownBy w' row) (hr : ∀ b, row = some b → b < B) : LM w' B v L :=
  ⟨ins_kept h.row hg fun b e1 e2 => by have h1 := hr b e1; have h2 := (ins_in h.row e2).1; omega, fun j hj => ins_kept (h.own j hj) hg fun b e1 e2 => by have h1 := hr b e1; have h2 := (ins_in (h.own j hj) e2).1; omega⟩
theorem LM.alloc {w : World} {B : Nat} {v : Value} {L : List Mj} (h : LM w B v L) (o : Obj) : LM (w.alloc o) B v L := ⟨h.row.alloc o, fun j hj => (h.own j hj).alloc o⟩
theorem LM.push {w w' : World} {B : Nat} {v v' : Value} {L : List Mj} {j : Mj} (h : LM w B v L) (hj : w.ownsRow B 152 4 j.hv j.m.code.handlers.length (HC j.m.code.handlers)) (hg : w.grownBy w' v.ownBlock) (hn : w'.ownsRow B 101 9 v' (L ++ [j]).length (MC (L ++ [j]))) : LM w' B v' (L ++ [j]) :=
  ⟨hn, fun k hk => by
    rcases List.mem_append.1 hk with hk | hk
    · exact ins_kept (h.own k hk) hg fun b e1 e2 => rows_ne h.row (h.own k hk) e1 e2
    · have : k = j := by simpa using hk
      subst this
      exact ins_kept hj hg fun b e1 e2 => rows_ne h.row hj e1 e2⟩
theorem Try.info101 : (Try.prog.info? 101).map (fun i => (i.zero, i.size, i.bytes)) = some (some (.agg #[.int .u16 0, .int .u16 0, .int .u16 0, .bool false, .int .i64 0, .int .i64 0, .string ⟨#[]⟩, .slice none 0 0, .string ⟨#[]⟩]), 9, 80) := by kernel_rfl
theorem own101_slice {w : World} {B n : Nat} {v : Value} {xs : List Value} (h : w.ownsRow B 101 9 v n xs) : ∃ ad c, v = .slice ad n c := by
  rcases h.2 with ⟨rfl, h0⟩ | ⟨g, cap, cur, rfl, _⟩
  · exact ⟨none, 0, by rw [h0]⟩
  · exact ⟨_, _, rfl⟩
set_option maxRecDepth 100000 in
set_option maxHeartbeats 1000000 in
theorem methods_any (R : Nat) (pv : Value) (s : ByteArray) (P : List K) (st : St) (w : World) (h : Rd w R pv s st) (hs : s.size ≤ 131072) (hP : P.length ≤ 1048576) (hp : st.pos ≤ s.data.toList.length) (hk : KIn w pv P) (hKb : Off w R pv P) :
    Calls Try.prog 73 #[.pointer (some ⟨R, 0, none⟩), .func (Fn.func 74) #[.pointer (some ⟨R, 0, none⟩)] #[]] w fun x w' => ∃ v L, x = .returned v ∧ L.map Mj.m = (M.lst s.data.toList (M.mth s.data.toList P) st).1 ∧ LM w' w.heap.size v L ∧ Rd w' R pv s (M.lst s.data.toList (M.mth s.data.toList P) st).2 ∧ w.grownBy w' (some R) ∧ KIn w' pv P ∧ (M.lst s.data.toList (M.mth s.data.toList P) st).2.pos ≤ s.data.toList.length := by
  obtain ⟨i0, hi, hz0, hz1, hz2⟩ := info_parts Try.info101
  have hRl := h.lt
  have HU := hide (U16_any R pv s st w h hs hp)
  have hx := M.rd2 s.data.toList st
  have hp1 := M.rd_pos (n := 2) hp
  unfold M.lst
  obtain ⟨x, st1, hT⟩ : ∃ x st1, M.rd s.data.toList 2 st = (x, st1) := ⟨_, _, rfl⟩
  rw [hT] at hx HU hp1 ⊢
  simp only at hx HU hp1 ⊢
  have Hk := hide hk
  have HK := hide hKb
  clear hT h hk hKb
  go_enter Try.func73, Try.ntmps73
  go_wp2_with fail
  refine (unhide HU).mono ?_
  rintro e w1 ⟨rfl, hr1, hg1⟩
  have Hr1 := hide hr1
  have Hg1 := hide hg1
  have Hk1 := hide ((unhide Hk).kept hg1 fun hne b o n c e => by have := (unhide HK) hne b o n c e; simpa using this.1)
  clear HU hr1 hg1
  go_wp2_with fail
  go_loopw [5, 6] (fun v i wr => ∃ (m : Nat) (A : List Mj) (st2 : St), m ≤ x ∧ i = .int .u16 m ∧ Hid (M.Rs (M.mth s.data.toList P) x st1 (A.map Mj.m) m st2) ∧ Hid (LM wr w.heap.size v A) ∧ Hid (Rd wr R pv s st2) ∧ Hid (w.grownBy wr (some R)) ∧ Hid (KIn wr pv P) ∧ st2.pos ≤ s.data.toList.length) (fun _ i _ => (intOf i).toNat)
  case atStart => exact ⟨x, [], st1, Nat.le_refl _, rfl, M.Rs.zero, LM.nil _ _, unhide Hr1, unhide Hg1, unhide Hk1, hp1⟩
  case round =>
    clear Hr1 Hg1 Hk1 Hk hp1
    obtain ⟨m, A, st2, hm, rfl, HRs, HO, HR, HG, HKw, hp2⟩ := hrel
    obtain ⟨va, vc, ev⟩ := own101_slice (unhide HO).row
    subst ev
    have HGd := hide (Good_any R pv s st2 wr (unhide HR))
    by_cases hm0 : m = 0
    · subst hm0
      have HD := hide ((unhide HRs).done)
      go_wp2
      go_ret
      exact ⟨_, A, rfl, by rw [unhide HD], unhide HO, by rw [unhide HD]; exact unhide HR, unhide HG, unhide HKw, by rw [unhide HD]; exact hp2⟩
    · have hmi : (0 : Int) < (m : Int) := by omega
      by_cases he : st2.e = 0
      · rw [decide_eq_true he] at HGd
        obtain ⟨n, hn⟩ : ∃ n, m = n + 1 := ⟨m - 1, by omega⟩
        have hst := unhide HRs
        rw [hn] at hst
        have HSt := hide (hst.step he)
        have hAl := hst.1
        rw [List.length_map] at hAl
        have HH := hide (method_any R pv s P st2 wr (unhide HR) hs hP hp2 (unhide HKw) (off_gr (unhide HK) (unhide HG).size))
        obtain ⟨c, st3, hc⟩ : ∃ c st3, M.mth s.data.toList P st2 = (c, st3) := ⟨_, _, rfl⟩
        rw [hc] at HH HSt
        simp only at HH HSt
        unfold MthR at HH
        have hNl : A.length ≤ 65535 := by omega
        have Hn1 := hide hn
        have He := hide he
        clear hn he hst hAl hc HRs hm0
        go_wp2_with fail
        refine (unhide HGd).mono ?_
        rintro e w2 ⟨rfl, hw2⟩
        subst w2
        go_wp2_with fail
        refine (unhide HH).mono ?_
        rintro e w2 ⟨hv, rfl, hh2, hr2, hk2, hg2, hp3⟩
        obtain ⟨va2, vc2, ev2⟩ := own152_slice hh2
        have hwz := (unhide HG).size
        have hLM := (unhide HO).kept hg2 (fun b e1 => by cases e1; omega)
        have hrow := hLM.row
        have hgw2 := grown_trans (unhide HG) hg2
        have hw2z := hgw2.size
        clear HH HGd HG HR HO HKw hg2
        subst ev2
        go_wp2_with (at_builtin; refine wpList_append_own_at _ rfl _ _ 42 rfl w.heap.size 101 i0 (.agg #[.int .u16 0, .int .u16 0, .int .u16 0, .bool false, .int .i64 0, .int .i64 0, .string ⟨#[]⟩, .slice none 0 0, .string ⟨#[]⟩]) 9 80 Try.underlying42 hi hz0 hz1 hz2 rfl (by decide) _ A.length (MC A) rfl (hrow.alloc _) ⟨w2.heap.size, 0, none⟩ 1 1 [.int .u16 (c.flags : Int), .int .u16 (c.name : Int), .int .u16 (c.type_ : Int), .bool c.has, .int .i64 (c.code.stack : Int), .int .i64 (c.code.locals : Int), .string ⟨c.code.bytes.toArray⟩, .slice va2 c.code.handlers.length vc2, .string ⟨c.code.map.toArray⟩] rfl rfl ?c1 ?c2 ?c3 ?c4 ?c5 ?_)
        case c1 =>
          intro j u hj
          rw [Addr.add_lit, Nat.zero_add, (Bk.new w2 _ 101).cell j]
          simpa using hj
        case c2 => intro u hu; simp at hu; rcases hu with rfl | rfl | rfl | rfl | rfl | rfl | rfl | rfl | rfl <;> rfl
        case c3 => unfold maxLen; omega
        case c4 => omega
        case c5 => simp; omega
        intro v' w4 hown' hgrow _ hbv
        have hlt2 := (hrow.alloc (.cells #[.int .u16 (c.flags : Int), .int .u16 (c.name : Int), .int .u16 (c.type_ : Int), .bool c.has, .int .i64 (c.code.stack : Int), .int .i64 (c.code.locals : Int), .string ⟨c.code.bytes.toArray⟩, .slice va2 c.code.handlers.length vc2, .string ⟨c.code.map.toArray⟩] 101)).lt
        have hgw4 := grown_own (grown_alloc hgw2 (.cells #[.int .u16 (c.flags : Int), .int .u16 (c.name : Int), .int .u16 (c.type_ : Int), .bool c.has, .int .i64 (c.code.stack : Int), .int .i64 (c.code.locals : Int), .string ⟨c.code.bytes.toArray⟩, .slice va2 c.code.handlers.length vc2, .string ⟨c.code.map.toArray⟩] 101)) hgrow (fun b e => by have := (hlt2 b e).1; omega)
        have hr4 : Rd w4 R pv s st3 := (hr2.kept (World.grownBy_alloc w2 _ none) (by simp)).kept hgrow (fun e => by have := (hlt2 R e.symm).1; omega)
        have hLM4 : LM w4 w.heap.size v' (A ++ [⟨c, .slice va2 c.code.handlers.length vc2⟩]) := LM.push (hLM.alloc (.cells #[.int .u16 (c.flags : Int), .int .u16 (c.name : Int), .int .u16 (c.type_ : Int), .bool c.has, .int .i64 (c.code.stack : Int), .int .i64 (c.code.locals : Int), .string ⟨c.code.bytes.toArray⟩, .slice va2 c.code.handlers.length vc2, .string ⟨c.code.map.toArray⟩] 101)) (own_mono (hh2.alloc (.cells #[.int .u16 (c.flags : Int), .int .u16 (c.name : Int), .int .u16 (c.type_ : Int), .bool c.has, .int .i64 (c.code.stack : Int), .int .i64 (c.code.locals : Int), .string ⟨c.code.bytes.toArray⟩, .slice va2 c.code.handlers.length vc2, .string ⟨c.code.map.toArray⟩] 101)) (by omega)) hgrow (by rw [MC_snoc, List.length_append]; exact hown')
        have HO4 := hide hLM4
        have Hk4 := hide ((hk2.kept (World.grownBy_alloc w2 _ none) (fun _ _ _ _ _ _ => by simp)).kept hgrow fun hne b o n c e => fun e2 => by have h1 := (hlt2 b e2.symm).1; have h2 := ((unhide HK) hne b o n c e).2; omega)
        have Hr4 := hide hr4
        have Hg4 := hide hgw4
        have hn := unhide Hn1
        clear hown' hgrow hbv hgw4 hr4 hlt2 hgw2 hr2 hrow hk2 hLM hh2 hLM4
        have hm1 : (m : Int) - 1 = ((n : Nat) : Int) := by omega
        go_wp2
        go_roundw
        case rel => exact ⟨n, A ++ [⟨c, .slice va2 c.code.handlers.length vc2⟩], st3, by omega, by go_num, by rw [List.map_append]; exact HSt, HO4, Hr4, Hg4, Hk4, hp3⟩
        case measure => simp [intOf]; omega
      · rw [decide_eq_false he] at HGd
        have HD := hide ((unhide HRs).stop he)
        clear he hm0
        go_wp2_with fail
        refine (unhide HGd).mono ?_
        rintro e w2 ⟨rfl, hw2⟩
        subst w2
        go_wp2
        go_ret
        exact ⟨_, A, rfl, by rw [unhide HD], unhide HO, by rw [unhide HD]; exact unhide HR, unhide HG, unhide HKw, by rw [unhide HD]; exact hp2⟩
end Go.Proofs.Ytgihfcjddkpkaaa.Rc
namespace Go.Proofs.Ytgihfcjddkpkaaa.Rc
open Go.RowKit
def UC (l : List Nat) : List Value := l.map fun x : Nat => .int .u16 (x : Int)
theorem UC_snoc (l : List Nat) (h : Nat) : UC (l ++ [h]) = UC l ++ [.int .u16 (h : Int)] := by simp [UC]
theorem Try.info39 : (Try.prog.info? 39).map (fun i => (i.zero, i.size, i.bytes)) = some (some (.int .u16 0), 1, 2) := by kernel_rfl
theorem own39_slice {w : World} {B n : Nat} {v : Value} {xs : List Value} (h : w.ownsRow B 39 1 v n xs) : ∃ ad c, v = .slice ad n c := by
  rcases h.2 with ⟨rfl, h0⟩ | ⟨g, cap, cur, rfl, _⟩
  · exact ⟨none, 0, by rw [h0]⟩
  · exact ⟨_, _, rfl⟩
set_option maxRecDepth 100000 in
set_option maxHeartbeats 1000000 in
theorem u16s_any (R : Nat) (pv : Value) (s : ByteArray) (st : St) (w : World) (h : Rd w R pv s st) (hs : s.size ≤ 131072) (hp : st.pos ≤ s.data.toList.length) :
    Calls Try.prog 70 #[.pointer (some ⟨R, 0, none⟩), .func (Fn.func 57) #[.pointer (some ⟨R, 0, none⟩)] #[]] w fun x w' => ∃ v, x = .returned v ∧ w'.ownsRow w.heap.size 39 1 v (M.lst s.data.toList (M.u16 s.data.toList) st).1.length (UC (M.lst s.data.toList (M.u16 s.data.toList) st).1) ∧ Rd w' R pv s (M.lst s.data.toList (M.u16 s.data.toList) st).2 ∧ w.grownBy w' (some R) := by
  obtain ⟨i0, hi, hz0, hz1, hz2⟩ := info_parts Try.info39
  have hRl := h.lt
  have HU := hide (U16_any R pv s st w h hs hp)
  have hx := M.rd2 s.data.toList st
  have hp1 := M.rd_pos (n := 2) hp
  unfold M.lst
  obtain ⟨x, st1, hT⟩ : ∃ x st1, M.rd s.data.toList 2 st = (x, st1) := ⟨_, _, rfl⟩
  rw [hT] at hx HU hp1 ⊢
  simp only at hx HU hp1 ⊢
  clear hT h
  go_enter Try.func70, Try.ntmps70
  go_wp2_with fail
  refine (unhide HU).mono ?_
  rintro e w1 ⟨rfl, hr1, hg1⟩
  have Hr1 := hide hr1
  have Hg1 := hide hg1
  clear HU hr1 hg1
  go_wp2_with fail
  go_loopw [5, 6] (fun v i wr => ∃ (m : Nat) (A : List Nat) (st2 : St), m ≤ x ∧ i = .int .u16 m ∧ Hid (M.Rs (M.u16 s.data.toList) x st1 A m st2) ∧ Hid (wr.ownsRow w.heap.size 39 1 v A.length (UC A)) ∧ Hid (Rd wr R pv s st2) ∧ Hid (w.grownBy wr (some R)) ∧ st2.pos ≤ s.data.toList.length) (fun _ i _ => (intOf i).toNat)
  case atStart => exact ⟨x, [], st1, Nat.le_refl _, rfl, M.Rs.zero, World.ownsRow_nil _ _ _ _, unhide Hr1, unhide Hg1, hp1⟩
  case round =>
    clear Hr1 Hg1 hp1
    obtain ⟨m, A, st2, hm, rfl, HRs, HO, HR, HG, hp2⟩ := hrel
    obtain ⟨va, vc, ev⟩ := own39_slice (unhide HO)
    subst ev
    have HGd := hide (Good_any R pv s st2 wr (unhide HR))
    by_cases hm0 : m = 0
    · subst hm0
      have HD := hide ((unhide HRs).done)
      go_wp2
      go_ret
      exact ⟨_, rfl, by rw [unhide HD]; exact unhide HO, by rw [unhide HD]; exact unhide HR, unhide HG⟩
    · have hmi : (0 : Int) < (m : Int) := by omega
      by_cases he : st2.e = 0
      · rw [decide_eq_true he] at HGd
        obtain ⟨n, hn⟩ : ∃ n, m = n + 1 := ⟨m - 1, by omega⟩
        have hst := unhide HRs
        rw [hn] at hst
        have HSt := hide (hst.step he)
        have hAl := hst.1
        have HH := hide (U16_any R pv s st2 wr (unhide HR) hs hp2)
        have hp3 := M.rd_pos (n := 2) hp2
        unfold M.u16 at HSt
        obtain ⟨c, st3, hc⟩ : ∃ c st3, M.rd s.data.toList 2 st2 = (c, st3) := ⟨_, _, rfl⟩
        rw [hc] at HH HSt hp3
        simp only at HH HSt hp3
        have hNl : A.length ≤ 65535 := by omega
        have Hn1 := hide hn
        have He := hide he
        clear hn he hst hAl hc HRs hm0
        go_wp2_with fail
        refine (unhide HGd).mono ?_
        rintro e w2 ⟨rfl, hw2⟩
        subst w2
        go_wp2_with fail
        refine (unhide HH).mono ?_
        rintro e w2 ⟨rfl, hr2, hg2⟩
        have hwz := (unhide HG).size
        have hrow := ins_kept (unhide HO) hg2 (fun b e1 e2 => by cases e1; have := (ins_in (unhide HO) e2).1; omega)
        have hgw2 := grown_trans (unhide HG) hg2
        have hw2z := hgw2.size
        clear HH HGd HG HR HO hg2
        go_wp2_with (at_builtin; refine wpList_append_own_at _ rfl _ _ 40 rfl w.heap.size 39 i0 (.int .u16 0) 1 2 Try.underlying40 hi hz0 hz1 hz2 rfl (by decide) _ A.length (UC A) rfl (hrow.alloc _) ⟨w2.heap.size, 0, none⟩ 1 1 [.int .u16 (c : Int)] rfl rfl ?c1 ?c2 ?c3 ?c4 ?c5 ?_)
        case c1 =>
          intro j u hj
          rw [Addr.add_lit, Nat.zero_add, (Bk.new w2 _ 39).cell j]
          simpa using hj
        case c2 => intro u hu; simp at hu; subst hu; rfl
        case c3 => unfold maxLen; omega
        case c4 => omega
        case c5 => simp; omega
        intro v' w4 hown' hgrow _ hbv
        have hlt2 := (hrow.alloc (.cells #[.int .u16 (c : Int)] 39)).lt
        have hgw4 := grown_own (grown_alloc hgw2 (.cells #[.int .u16 (c : Int)] 39)) hgrow (fun b e => by have := (hlt2 b e).1; omega)
        have hr4 : Rd w4 R pv s st3 := (hr2.kept (World.grownBy_alloc w2 _ none) (by simp)).kept hgrow (fun e => by have := (hlt2 R e.symm).1; omega)
        have HO4 : Hid (w4.ownsRow w.heap.size 39 1 v' (A ++ [c]).length (UC (A ++ [c]))) := by
          rw [UC_snoc, List.length_append]; exact hown'
        have Hr4 := hide hr4
        have Hg4 := hide hgw4
        have hn := unhide Hn1
        clear hown' hgrow hbv hgw4 hr4 hlt2 hgw2 hr2 hrow
        have hm1 : (m : Int) - 1 = ((n : Nat) : Int) := by omega
        go_wp2
        go_roundw
        case rel => exact ⟨n, A ++ [c], st3, by omega, by go_num, HSt, HO4, Hr4, Hg4, hp3⟩
        case measure => simp [intOf]; omega
      · rw [decide_eq_false he] at HGd
        have HD := hide ((unhide HRs).stop he)
        clear he hm0
        go_wp2_with fail
        refine (unhide HGd).mono ?_
        rintro e w2 ⟨rfl, hw2⟩
        subst w2
        go_wp2
        go_ret
        exact ⟨_, rfl, by rw [unhide HD]; exact unhide HO, by rw [unhide HD]; exact unhide HR, unhide HG⟩
end Go.Proofs.Ytgihfcjddkpkaaa.Rc
namespace Go.Proofs.Ytgihfcjddkpkaaa.Rc
set_option linter.unusedVariables false
open Go.RowKit
namespace M
/-- The head of a class file: its version, and where the pool begins. -/
def hdr (s : List UInt8) (st : St) : Nat × Nat × St :=
  let m := M.rd s 4 st
  let a := M.rd s 2 (if m.1 = 3405691582 then m.2 else M.fail m.2 3 0)
  let b := M.rd s 2 a.2
  (a.1, b.1, if known a.1 b.1 = true then b.2 else M.fail b.2 4 4)
/-- A class file, by an answer of pool.Read. -/
def cls (s : List UInt8) (st : St) (r : Po.Res) : Cs × St :=
  let h := hdr s st
  let k := cst s h.2.2 r
  let t := M.three s k.2
  let i := M.lst s (M.u16 s) t.2.2.2
  let f := M.lst s (M.fld s (k.1.map kOf)) i.2
  let m := M.lst s (M.mth s (k.1.map kOf)) f.2
  let z := M.attsN s (k.1.map kOf) (M.none_ s) () m.2
  (⟨h.1, h.2.1, k.1.map kOf, t.1, t.2.1, t.2.2.1, i.1, f.1, m.1⟩, z.2)
end M
theorem own_ne_bk {w : World} {B e k n g : Nat} {v : Value} {xs : List Value} {cs : Array Value} {t : TypeId} (h : w.ownsRow B e k v n xs) (hv : v.ownBlock = some g) (hb : Bk w g cs t) (ht : t ≠ e) : False := by
  rcases h.2 with ⟨rfl, _⟩ | ⟨g1, c1, cur1, rfl, _, k1, _⟩
  · cases hv
  · have a1 : g1 = g := by simpa [Value.ownBlock] using hv
    subst a1
    unfold Bk at hb
    rw [k1] at hb
    simp at hb
    exact ht hb.2.symm
/-- The lists of a class: where they lie. -/
structure Own (w0 w : World) (vp vi vf vm : Value) (l : List Po.K) (is : List Nat) (fs : List Fd) (L : List Mj) : Prop where
  p : Po.Out w0 w vp l
  i : w.ownsRow w0.heap.size 39 1 vi is.length (UC is)
  f : w.ownsRow w0.heap.size 95 4 vf fs.length (FC fs)
  m : LM w w0.heap.size vm L
section
variable {w0 w w' : World} {vp vi vf vm : Value} {l : List Po.K} {is : List Nat} {fs : List Fd} {L : List Mj}
theorem Own.kept {row : Option Nat} (h : Own w0 w vp vi vf vm l is fs L) (hg : w.grownBy w' row) (hr : ∀ b, row = some b → b < w0.heap.size) : Own w0 w' vp vi vf vm l is fs L :=
  ⟨Out.kept h.p hg hr, ins_kept h.i hg fun b e1 e2 => by have h1 := hr b e1; have h2 := (ins_in h.i e2).1; omega,
    ins_kept h.f hg fun b e1 e2 => by have h1 := hr b e1; have h2 := (ins_in h.f e2).1; omega, h.m.kept hg hr⟩
theorem Own.set {g : Nat} {cs : Array Value} (h : Own w0 w vp vi vf vm l is fs L) (hb : Bk w g cs 44) (i : Nat) (u : Value) : Own w0 (w.setCell ⟨g, i, none⟩ u) vp vi vf vm l is fs L := by
  have hg := grown_set w g i u
  refine ⟨?_, ins_kept h.i hg fun b e1 e2 => ?_, ins_kept h.f hg fun b e1 e2 => ?_, ?_⟩
  · rcases h.p with hp | ⟨B, hB, ho⟩
    · exact .inl hp
    · exact .inr ⟨B, hB, ins_kept ho hg fun b e1 e2 => by cases e1; exact own_ne_bk ho e2 hb (by decide)⟩
  · cases e1; exact own_ne_bk h.i e2 hb (by decide)
  · cases e1; exact own_ne_bk h.f e2 hb (by decide)
  · exact ⟨ins_kept h.m.row hg fun b e1 e2 => by cases e1; exact own_ne_bk h.m.row e2 hb (by decide), fun j hj => ins_kept (h.m.own j hj) hg fun b e1 e2 => by cases e1; exact own_ne_bk (h.m.own j hj) e2 hb (by decide)⟩
end
/-- A class in the making: its block, the block of what is handed back, the reader. -/
structure CW (w0 w : World) (R bc : Nat) (pv : Value) (s : ByteArray) (st : St) (cs : Array Value) : Prop where
  c : Bk w bc cs 44
  ge : w0.heap.size + 1 ≤ bc
  q : Bk w w0.heap.size #[.int .u16 0, .int .u16 0, .int .u16 0, .int .u16 0, .int .u16 0, .slice none 0 0, .slice none 0 0, .slice none 0 0, .slice none 0 0] 44
  rd : Rd w R pv s st
  gr : w0.grownBy w (some R)
  pos : st.pos ≤ s.data.toList.length
  lt : R < w0.heap.size
section
variable {w0 w w' : World} {R bc : Nat} {pv : Value} {s : ByteArray} {st st' : St} {cs : Array Value}
theorem CW.step (h : CW w0 w R bc pv s st cs) (hg : w.grownBy w' (some R)) (hr : Rd w' R pv s st') (hp : st'.pos ≤ s.data.toList.length) : CW w0 w' R bc pv s st' cs := by
  have h1 := h.lt
  have h2 := h.ge
  exact ⟨h.c.kept hg (ne_some (by omega)), h.ge, h.q.kept hg (ne_some (by omega)), hr, grown_trans h.gr hg, hp, h.lt⟩
theorem CW.set (h : CW w0 w R bc pv s st cs) (i : Nat) (v : Value) : CW w0 (w.setCell ⟨bc, i, none⟩ v) R bc pv s st (cs.setIfInBounds i v) := by
  have h1 := h.lt
  have h2 := h.ge
  exact ⟨h.c.set i v, h.ge, h.q.other i v (by omega), h.rd.other i v (by omega), grown_new h.gr (by omega) i v, h.pos, h.lt⟩
theorem CW.drew (h : CW w0 w R bc pv s st cs) : CW w0 w.drew R bc pv s st cs := ⟨h.c, h.ge, h.q, h.rd, ⟨h.gr.os, h.gr.tape, h.gr.output, h.gr.size, h.gr.block⟩, h.pos, h.lt⟩
theorem CW.pool (h : CW w0 w R bc pv s st cs) (v : Value) : CW w0 (w.setCell ⟨R, 4, none⟩ v) R bc v s st cs := by
  have h1 := h.lt
  have h2 := h.ge
  exact ⟨h.c.other 4 v (by omega), h.ge, h.q.other 4 v (by omega), h.rd.setPool v, grown_trans h.gr (grown_set w R 4 v), h.pos, h.lt⟩
end
theorem cw_set {w w3 : World} {R g : Nat} {pv : Value} {s : ByteArray} {st : St} {a0 a1 a2 a3 a4 a5 a6 a7 a8 : Value} (hR : R < w.heap.size) (hgw : w.grownBy w3 (some R)) (hr : Rd w3 R pv s st) (hp : st.pos ≤ s.data.toList.length) (hz : Bk w3 g #[a0, a1, a2, a3, a4, a5, a6, a7, a8] 44) (hQ : Bk w3 w.heap.size #[.int .u16 0, .int .u16 0, .int .u16 0, .int .u16 0, .int .u16 0, .slice none 0 0, .slice none 0 0, .slice none 0 0, .slice none 0 0] 44) (hg : w.heap.size + 1 ≤ g) (x0 x1 x2 x3 x4 x5 x6 x7 x8 : Value) {W : World}
    (hW : W = ((((((((w3.setCell ⟨g, 0, none⟩ x0).setCell ⟨g, 1, none⟩ x1).setCell ⟨g, 2, none⟩ x2).setCell ⟨g, 3, none⟩ x3).setCell ⟨g, 4, none⟩ x4).setCell ⟨g, 5, none⟩ x5).setCell ⟨g, 6, none⟩ x6).setCell ⟨g, 7, none⟩ x7).setCell ⟨g, 8, none⟩ x8) :
    CW w W R g pv s st #[x0, x1, x2, x3, x4, x5, x6, x7, x8] := by
  subst hW
  have h0 : CW w w3 R g pv s st #[a0, a1, a2, a3, a4, a5, a6, a7, a8] := ⟨hz, hg, hQ, hr, hgw, hp, hR⟩
  have h1 := h0.set 0 x0
  simp only [List.setIfInBounds_toArray, List.set_cons_zero] at h1
  have h2 := h1.set 1 x1
  simp only [List.setIfInBounds_toArray, List.set_cons_zero, List.set_cons_succ] at h2
  have h3 := h2.set 2 x2
  simp only [List.setIfInBounds_toArray, List.set_cons_zero, List.set_cons_succ] at h3
  have h4 := h3.set 3 x3
  simp only [List.setIfInBounds_toArray, List.set_cons_zero, List.set_cons_succ] at h4
  have h5 := h4.set 4 x4
  simp only [List.setIfInBounds_toArray, List.set_cons_zero, List.set_cons_succ] at h5
  have h6 := h5.set 5 x5
  simp only [List.setIfInBounds_toArray, List.set_cons_zero, List.set_cons_succ] at h6
  have h7 := h6.set 6 x6
  simp only [List.setIfInBounds_toArray, List.set_cons_zero, List.set_cons_succ] at h7
  have h8 := h7.set 7 x7
  simp only [List.setIfInBounds_toArray, List.set_cons_zero, List.set_cons_succ] at h8
  have h9 := h8.set 8 x8
  simp only [List.setIfInBounds_toArray, List.set_cons_zero, List.set_cons_succ] at h9
  exact h9
theorem cw_new {w w3 : World} {R : Nat} {pv : Value} {s : ByteArray} {st : St} (hR : R < w.heap.size) (hgw : w.grownBy w3 (some R)) (hr : Rd w3 R pv s st) (hp : st.pos ≤ s.data.toList.length) (hQ : Bk w3 w.heap.size #[.int .u16 0, .int .u16 0, .int .u16 0, .int .u16 0, .int .u16 0, .slice none 0 0, .slice none 0 0, .slice none 0 0, .slice none 0 0] 44) (hg : w.heap.size + 1 ≤ w3.heap.size) (cs : Array Value) :
    CW w (w3.alloc (.cells cs 44)) R w3.heap.size pv s st cs :=
  ⟨Bk.new _ _ _, hg, hQ.alloc _, hr.kept (World.grownBy_alloc w3 _ none) (by simp), grown_alloc hgw _, hp, hR⟩
/-- A class that was read. -/
structure ClsIn (w0 w : World) (v : Value) (l : List Po.K) (c : Cs) : Prop where
  pool : c.pool = l.map kOf
  ex : ∃ vp vi vf vm L, v = .agg #[.int .u16 (c.minor : Int), .int .u16 (c.major : Int), .int .u16 (c.flags : Int), .int .u16 (c.this : Int), .int .u16 (c.super : Int), vp, vi, vf, vm] ∧ Own w0 w vp vi vf vm l c.ifaces c.fields L ∧ L.map Mj.m = c.methods
theorem own_slices {w0 w : World} {vp vi vf vm : Value} {l : List Po.K} {is : List Nat} {fs : List Fd} {L : List Mj} (h : Own w0 w vp vi vf vm l is fs L) :
    (∃ a n c, vp = .slice a n c) ∧ (∃ a c, vi = .slice a is.length c) ∧ (∃ a c, vf = .slice a fs.length c) ∧ (∃ a c, vm = .slice a L.length c) := by
  refine ⟨?_, own39_slice h.i, own95_slice h.f, own101_slice h.m.row⟩
  rcases h.p with ⟨_, e⟩ | ⟨B, _, ho⟩
  · exact ⟨_, _, _, e⟩
  · rcases ho.2 with ⟨e, _⟩ | ⟨g, cap, cur, e, _⟩
    · exact ⟨_, _, _, e⟩
    · exact ⟨_, _, _, e⟩
/-- What is handed back, being laid. -/
structure QE (w0 w : World) (R g : Nat) (pv : Value) (s : ByteArray) (st : St) (vp vi vf vm : Value) (l : List Po.K) (is : List Nat) (fs : List Fd) (L : List Mj) (cs : Array Value) : Prop where
  q : Bk w g cs 44
  rd : Rd w R pv s st
  gr : w0.grownBy w (some R)
  o : Own w0 w vp vi vf vm l is fs L
  lt : R < w0.heap.size
  ge : w0.heap.size ≤ g
theorem QE.set {w0 w : World} {R g : Nat} {pv : Value} {s : ByteArray} {st : St} {vp vi vf vm : Value} {l : List Po.K} {is : List Nat} {fs : List Fd} {L : List Mj} {cs : Array Value} (h : QE w0 w R g pv s st vp vi vf vm l is fs L cs) (i : Nat) (v : Value) : QE w0 (w.setCell ⟨g, i, none⟩ v) R g pv s st vp vi vf vm l is fs L (cs.setIfInBounds i v) := by
  have h1 := h.lt
  have h2 := h.ge
  exact ⟨h.q.set i v, h.rd.other i v (by omega), grown_new h.gr h.ge i v, h.o.set h.q i v, h.lt, h.ge⟩
theorem qe_set {w w3 : World} {R g : Nat} {pv : Value} {s : ByteArray} {st : St} {vp vi vf vm : Value} {l : List Po.K} {is : List Nat} {fs : List Fd} {L : List Mj} {a0 a1 a2 a3 a4 a5 a6 a7 a8 : Value} (h0 : QE w w3 R g pv s st vp vi vf vm l is fs L #[a0, a1, a2, a3, a4, a5, a6, a7, a8]) (x0 x1 x2 x3 x4 x5 x6 x7 x8 : Value) {W : World}
    (hW : W = ((((((((w3.setCell ⟨g, 0, none⟩ x0).setCell ⟨g, 1, none⟩ x1).setCell ⟨g, 2, none⟩ x2).setCell ⟨g, 3, none⟩ x3).setCell ⟨g, 4, none⟩ x4).setCell ⟨g, 5, none⟩ x5).setCell ⟨g, 6, none⟩ x6).setCell ⟨g, 7, none⟩ x7).setCell ⟨g, 8, none⟩ x8) :
    QE w W R g pv s st vp vi vf vm l is fs L #[x0, x1, x2, x3, x4, x5, x6, x7, x8] := by
  subst hW
  have h1 := h0.set 0 x0
  simp only [List.setIfInBounds_toArray, List.set_cons_zero] at h1
  have h2 := h1.set 1 x1
  simp only [List.setIfInBounds_toArray, List.set_cons_zero, List.set_cons_succ] at h2
  have h3 := h2.set 2 x2
  simp only [List.setIfInBounds_toArray, List.set_cons_zero, List.set_cons_succ] at h3
  have h4 := h3.set 3 x3
  simp only [List.setIfInBounds_toArray, List.set_cons_zero, List.set_cons_succ] at h4
  have h5 := h4.set 4 x4
  simp only [List.setIfInBounds_toArray, List.set_cons_zero, List.set_cons_succ] at h5
  have h6 := h5.set 5 x5
  simp only [List.setIfInBounds_toArray, List.set_cons_zero, List.set_cons_succ] at h6
  have h7 := h6.set 6 x6
  simp only [List.setIfInBounds_toArray, List.set_cons_zero, List.set_cons_succ] at h7
  have h8 := h7.set 7 x7
  simp only [List.setIfInBounds_toArray, List.set_cons_zero, List.set_cons_succ] at h8
  have h9 := h8.set 8 x8
  simp only [List.setIfInBounds_toArray, List.set_cons_zero, List.set_cons_succ] at h9
  exact h9
set_option maxRecDepth 100000 in
set_option maxHeartbeats 4000000 in
theorem class_any (R : Nat) (pv : Value) (s : ByteArray) (st : St) (w : World) (h : Rd w R pv s st) (hs : s.size ≤ 131072) (hp : st.pos ≤ s.data.toList.length) :
    Calls Try.prog 34 #[.pointer (some ⟨R, 0, none⟩)] w fun x w' => ∃ r v, Po.ReadRes (M.rest s.data.toList (M.hdr s.data.toList st).2.2) r ∧ x = .returned v ∧ ClsIn w w' v r.1 (M.cls s.data.toList st r).1 ∧ (∃ pv', Rd w' R pv' s (M.cls s.data.toList st r).2) ∧ w.grownBy w' (some R) ∧ (M.cls s.data.toList st r).2.pos ≤ s.data.toList.length := by
  have hRl := h.lt
  -- the head, in names
  have hp1 := M.rd_pos (n := 4) hp
  have c1 := M.rd4 s.data.toList st
  have HU1 := hide (fun W hW => N4_any R pv s st W hW hs hp)
  obtain ⟨m, st1, e1⟩ : ∃ a b, M.rd s.data.toList 4 st = (a, b) := ⟨_, _, rfl⟩
  rw [e1] at hp1 c1 HU1
  simp only at hp1 c1 HU1
  obtain ⟨st2, e2⟩ : ∃ x, x = (if m = 3405691582 then st1 else M.fail st1 3 0) := ⟨_, rfl⟩
  have hp2 : st2.pos ≤ s.data.toList.length := by
    rw [e2]; split
    · exact hp1
    · rw [M.fail_pos]; exact hp1
  have HF1 := hide (fun W hW => F_any R pv s st1 3 0 W hW)
  have hp3 := M.rd_pos (n := 2) hp2
  have c3 := M.rd2 s.data.toList st2
  have HU3 := hide (fun W hW => U16_any R pv s st2 W hW hs hp2)
  obtain ⟨a, st3, e3⟩ : ∃ a b, M.rd s.data.toList 2 st2 = (a, b) := ⟨_, _, rfl⟩
  rw [e3] at hp3 c3 HU3
  simp only at hp3 c3 HU3
  have hp4 := M.rd_pos (n := 2) hp3
  have c4 := M.rd2 s.data.toList st3
  have HU4 := hide (fun W hW => U16_any R pv s st3 W hW hs hp3)
  obtain ⟨b, st4, e4⟩ : ∃ a b, M.rd s.data.toList 2 st3 = (a, b) := ⟨_, _, rfl⟩
  rw [e4] at hp4 c4 HU4
  simp only at hp4 c4 HU4
  obtain ⟨st5, e5⟩ : ∃ x, x = (if M.known a b = true then st4 else M.fail st4 4 4) := ⟨_, rfl⟩
  have hp5 : st5.pos ≤ s.data.toList.length := by
    rw [e5]; split
    · exact hp4
    · rw [M.fail_pos]; exact hp4
  have HF4 := hide (fun W hW => F_any R pv s st4 4 4 W hW)
  have hhdr : M.hdr s.data.toList st = (a, b, st5) := by
    unfold M.hdr
    simp only [e1, ← e2, e3, e4, ← e5]
  have HC := hide (fun W hW => constants_any R pv s st5 W hW hs hp5)
  have Hh := hide hhdr
  have E2 := hide e2
  have E5 := hide e5
  rw [hhdr]
  simp only
  have hrA : Rd (w.alloc (.cells #[.int .u16 0, .int .u16 0, .int .u16 0, .int .u16 0, .int .u16 0, .slice none 0 0, .slice none 0 0, .slice none 0 0, .slice none 0 0] 44)) R pv s st := h.kept (World.grownBy_alloc w _ none) (by simp)
  have hgA : w.grownBy (w.alloc (.cells #[.int .u16 0, .int .u16 0, .int .u16 0, .int .u16 0, .int .u16 0, .slice none 0 0, .slice none 0 0, .slice none 0 0, .slice none 0 0] 44)) (some R) := World.grownBy_alloc w _ _
  have hQA : Bk (w.alloc (.cells #[.int .u16 0, .int .u16 0, .int .u16 0, .int .u16 0, .int .u16 0, .slice none 0 0, .slice none 0 0, .slice none 0 0, .slice none 0 0] 44)) w.heap.size #[.int .u16 0, .int .u16 0, .int .u16 0, .int .u16 0, .int .u16 0, .slice none 0 0, .slice none 0 0, .slice none 0 0, .slice none 0 0] 44 := Bk.new _ _ _
  have HA := hide (And.intro hrA (And.intro hgA hQA))
  clear hrA hgA hQA e1 e2 e3 e4 e5 hhdr h
  go_enter Try.func34, Try.ntmps34
  go_wp2_with fail
  refine (unhide HU1 _ (unhide HA).1).mono ?_
  rintro e w1 ⟨rfl, hr1, hg1⟩
  have Hw1 : Hid (Rd w1 R pv s st1 ∧ w.grownBy w1 (some R) ∧ Bk w1 w.heap.size #[.int .u16 0, .int .u16 0, .int .u16 0, .int .u16 0, .int .u16 0, .slice none 0 0, .slice none 0 0, .slice none 0 0, .slice none 0 0] 44) := ⟨hr1, grown_trans (unhide HA).2.1 hg1, (unhide HA).2.2.kept hg1 (ne_some (by omega))⟩
  clear HU1 HA hr1 hg1
  go_upto_if 8 with fail
  go_cut [] (fun w' => Hid (Rd w' R pv s st2 ∧ w.grownBy w' (some R) ∧ Bk w' w.heap.size #[.int .u16 0, .int .u16 0, .int .u16 0, .int .u16 0, .int .u16 0, .slice none 0 0, .slice none 0 0, .slice none 0 0, .slice none 0 0] 44))
  case first =>
    by_cases hm : m = 3405691582
    · have hb : (((m : Int) != 3405691582) : Bool) = false := by rw [hm]; rfl
      have q : st2 = st1 := by rw [unhide E2, if_pos hm]
      clear hm
      go_wp2
      go_meet
      rw [q]
      exact unhide Hw1
    · have hb : (((m : Int) != 3405691582) : Bool) = true := by rw [bne_iff_ne]; omega
      have q : st2 = M.fail st1 3 0 := by rw [unhide E2, if_neg hm]
      have HF := hide (unhide HF1 w1 (unhide Hw1).1)
      rw [← q] at HF
      clear hm q
      go_wp2_with fail
      refine (unhide HF).mono ?_
      rintro e w2 ⟨rfl, hr2, hg2⟩
      have Hw2 : Hid (Rd w2 R pv s st2 ∧ w.grownBy w2 (some R) ∧ Bk w2 w.heap.size #[.int .u16 0, .int .u16 0, .int .u16 0, .int .u16 0, .int .u16 0, .slice none 0 0, .slice none 0 0, .slice none 0 0, .slice none 0 0] 44) := ⟨hr2, grown_trans (unhide Hw1).2.1 hg2, (unhide Hw1).2.2.kept hg2 (ne_some (by omega))⟩
      clear hr2 hg2 HF
      go_wp2
      go_meet
      exact unhide Hw2
  case rest =>
    obtain ⟨hr2, hg2, hQ2⟩ := unhide hcut
    have hs2 : w.heap.size + 1 ≤ wc.heap.size := hQ2.lt
    clear hcut Hw1 HF1 E2
    have hrD : Rd wc.drew R pv s st2 := hr2
    have hgD : w.grownBy wc.drew (some R) := ⟨hg2.os, hg2.tape, hg2.output, hg2.size, hg2.block⟩
    have hQD : Bk wc.drew w.heap.size #[.int .u16 0, .int .u16 0, .int .u16 0, .int .u16 0, .int .u16 0, .slice none 0 0, .slice none 0 0, .slice none 0 0, .slice none 0 0] 44 := hQ2
    have hsD : w.heap.size + 1 ≤ wc.drew.heap.size := hs2
    go_upto_region 3 with fail
    go_cut [3] (fun p w' => ∃ bc, p = .pointer (some ⟨bc, 0, none⟩) ∧ Hid (CW w w' R bc pv s st4 #[.int .u16 (a : Int), .int .u16 (b : Int), .int .u16 0, .int .u16 0, .int .u16 0, .slice none 0 0, .slice none 0 0, .slice none 0 0, .slice none 0 0]))
    case first =>
      go_region_held3 (fun w' => True) (trivial)
        ((go_at_call 57; first
          | (refine (unhide HU3 _ hrD).mono ?_; rintro e w1 ⟨rfl, hr1, hg1⟩; have hQ1 := Bk.kept hQD hg1 (ne_some (by omega)); have hs1 : w.heap.size + 1 ≤ w1.heap.size := Nat.le_trans hsD hg1.size; have hG1 := grown_trans hgD hg1)
          | (refine (unhide HU3 _ (Rd.kept hrD (World.grownBy_alloc _ _ none) (by simp))).mono ?_; rintro e w1 ⟨rfl, hr1, hg1⟩; have hQ1 := Bk.kept (Bk.alloc hQD (.cells #[.int .u16 0, .int .u16 0, .int .u16 0, .int .u16 0, .int .u16 0, .slice none 0 0, .slice none 0 0, .slice none 0 0, .slice none 0 0] 44)) hg1 (ne_some (by omega)); have hz1 : Bk w1 wc.heap.size #[.int .u16 0, .int .u16 0, .int .u16 0, .int .u16 0, .int .u16 0, .slice none 0 0, .slice none 0 0, .slice none 0 0, .slice none 0 0] 44 := Bk.kept (Bk.new wc.drew #[.int .u16 0, .int .u16 0, .int .u16 0, .int .u16 0, .int .u16 0, .slice none 0 0, .slice none 0 0, .slice none 0 0, .slice none 0 0] 44) hg1 (ne_some (by omega)); have hG1 := grown_trans (grown_alloc hgD _) hg1)
          | (refine (unhide HU4 _ hr1).mono ?_; rintro e w2 ⟨rfl, hr2, hg2⟩; have hz2 := Bk.kept hz1 hg2 (ne_some (by omega)); have hQ2 := Bk.kept hQ1 hg2 (ne_some (by omega)); have hG2 := grown_trans hG1 hg2; have q0 := hz2.cell 0; have q1 := hz2.cell 1; have q2 := hz2.cell 2; have q3 := hz2.cell 3; have q4 := hz2.cell 4; have q5 := hz2.cell 5; have q6 := hz2.cell 6; have q7 := hz2.cell 7; have q8 := hz2.cell 8; have qf := hz2.frozen; simp at q0 q1 q2 q3 q4 q5 q6 q7 q8)
          | (refine (unhide HU4 _ hr1).mono ?_; rintro e w2 ⟨rfl, hr2, hg2⟩; have hQ2 := Bk.kept hQ1 hg2 (ne_some (by omega)); have hG2 := grown_trans hG1 hg2; have hs2 : w.heap.size + 1 ≤ w2.heap.size := Nat.le_trans hs1 hg2.size)
          | (refine (unhide HU4 _ (Rd.kept hr1 (World.grownBy_alloc _ _ none) (by simp))).mono ?_; rintro e w2 ⟨rfl, hr2, hg2⟩; have hz2 := Bk.kept (Bk.new w1 #[.int .u16 0, .int .u16 0, .int .u16 0, .int .u16 0, .int .u16 0, .slice none 0 0, .slice none 0 0, .slice none 0 0, .slice none 0 0] 44) hg2 (ne_some (by omega)); have hQ2 := Bk.kept (Bk.alloc hQ1 (.cells #[.int .u16 0, .int .u16 0, .int .u16 0, .int .u16 0, .int .u16 0, .slice none 0 0, .slice none 0 0, .slice none 0 0, .slice none 0 0] 44)) hg2 (ne_some (by omega)); have hG2 := grown_trans (grown_alloc hG1 _) hg2; have q0 := hz2.cell 0; have q1 := hz2.cell 1; have q2 := hz2.cell 2; have q3 := hz2.cell 3; have q4 := hz2.cell 4; have q5 := hz2.cell 5; have q6 := hz2.cell 6; have q7 := hz2.cell 7; have q8 := hz2.cell 8; have qf := hz2.frozen; simp at q0 q1 q2 q3 q4 q5 q6 q7 q8)
          | fail))
      all_goals
        go_wp2
        go_meet
        first
        | exact ⟨_, rfl, cw_set hRl hG2 hr2 hp4 hz2 hQ2 (by omega) _ _ _ _ _ _ _ _ _ rfl⟩
        | exact ⟨_, rfl, cw_new hRl hG2 hr2 hp4 hQ2 hs2 _⟩
        | fail
    case rest =>
      obtain ⟨bc, rfl, H4⟩ := hcut
      clear hr2 hg2 hQ2 hs2 hrD hgD hQD hsD HU3 HU4
      have q0 : wc.cell? ⟨bc, 0, none⟩ = some (.int .u16 (a : Int)) := (unhide H4).c.cell 0
      have q1 : wc.cell? ⟨bc, 1, none⟩ = some (.int .u16 (b : Int)) := (unhide H4).c.cell 1
      go_wp2_with fail
      refine (known_any a b _).mono ?_
      rintro e w1 ⟨rfl, hw⟩
      subst w1
      clear q0 q1
      go_upto_if 27 with fail
      go_cut [] (fun w' => Hid (CW w w' R bc pv s st5 #[.int .u16 (a : Int), .int .u16 (b : Int), .int .u16 0, .int .u16 0, .int .u16 0, .slice none 0 0, .slice none 0 0, .slice none 0 0, .slice none 0 0]))
      case first =>
        by_cases hk : M.known a b = true
        · have q : st5 = st4 := by rw [unhide E5, if_pos hk]
          rw [hk]
          go_wp2
          go_meet
          rw [q]
          exact unhide H4
        · have q : st5 = M.fail st4 4 4 := by rw [unhide E5, if_neg hk]
          have hkf : M.known a b = false := by simpa using hk
          have HF := hide (unhide HF4 wc (unhide H4).rd)
          rw [← q] at HF
          rw [hkf]
          clear hk q hkf
          go_wp2_with fail
          refine (unhide HF).mono ?_
          rintro e w2 ⟨rfl, hr2, hg2⟩
          have Hw2 := hide ((unhide H4).step hg2 hr2 hp5)
          clear hr2 hg2 HF
          go_wp2
          go_meet
          exact unhide Hw2
      case rest =>
        have H5 : Hid (CW w wc R bc pv s st5 #[.int .u16 (a : Int), .int .u16 (b : Int), .int .u16 0, .int .u16 0, .int .u16 0, .slice none 0 0, .slice none 0 0, .slice none 0 0, .slice none 0 0]) := hcut
        clear hcut H4 HF4 E5
        have HC5 := hide (unhide HC wc (unhide H5).rd)
        clear HC
        go_wp2_with fail
        refine (unhide HC5).mono ?_
        rintro e w5 ⟨r, v, hrr, rfl, hout, hr5, hg5, hp6⟩
        clear HC5
        have hf := Po.read_fact hrr
        have hl0 : (M.cst s.data.toList st5 r).1 = r.1 := rfl
        obtain ⟨l, st6, e6⟩ : ∃ l st6, M.cst s.data.toList st5 r = (l, st6) := ⟨_, _, rfl⟩
        rw [e6] at hout hr5 hp6 hl0
        simp only at hout hr5 hp6 hl0
        have hfit : ∀ c ∈ l, Po.Fit c := by
          rw [hl0]
          by_cases h0 : r.2.2.1 = 0
          · exact (hf.1 h0).2.2
          · rw [(hf.2.1 h0).1]; intro c hc; cases hc
        have hPl : (l.map kOf).length ≤ 1048576 := by
          rw [List.length_map, hl0]
          by_cases h0 : r.2.2.1 = 0
          · have := (hf.1 h0).2.1; omega
          · rw [(hf.2.1 h0).1]; simp
        have H6 := (unhide H5).step hg5 hr5 hp6
        have hout6 : Po.Out w w5 v l := by
          rcases hout with ho | ⟨B, hB, ho⟩
          · exact .inl ho
          · exact .inr ⟨B, Nat.le_trans (unhide H5).gr.size hB, ho⟩
        have O6 : Own w w5 v (.slice none 0 0) (.slice none 0 0) (.slice none 0 0) l [] [] [] := ⟨hout6, World.ownsRow_nil _ _ _ _, World.ownsRow_nil _ _ _ _, LM.nil _ _⟩
        obtain ⟨va, vn, vc, ev⟩ := (own_slices O6).1
        subst ev
        have q5 := H6.c.cell 5
        have qf := H6.c.frozen
        simp at q5
        have r4 : w5.cell? ⟨R, 4, none⟩ = some pv := H6.rd.cell 4
        have rf := H6.rd.frozen 4
        have nbR : ¬ bc = R := by have := H6.ge; omega
        have nRb : ¬ R = bc := by have := H6.ge; omega
        obtain ⟨w7, hw7⟩ : ∃ w7, w7 = (w5.setCell ⟨bc, 5, none⟩ (.slice va vn vc)).setCell ⟨R, 4, none⟩ (.slice va vn vc) := ⟨_, rfl⟩
        have H7 : Hid (CW w w7 R bc (.slice va vn vc) s st6 #[.int .u16 (a : Int), .int .u16 (b : Int), .int .u16 0, .int .u16 0, .int .u16 0, .slice va vn vc, .slice none 0 0, .slice none 0 0, .slice none 0 0]) := by rw [hw7]; exact (H6.set 5 _).pool _
        have O7 : Hid (Own w w7 (.slice va vn vc) (.slice none 0 0) (.slice none 0 0) (.slice none 0 0) l [] [] []) := by rw [hw7]; exact (O6.set H6.c 5 _).kept (grown_set _ R 4 _) (fun b e => by cases e; exact hRl)
        have HW7 := hide hw7
        have Hrr := hide hrr
        have Hl0 := hide hl0
        have E6 := hide e6
        have Hfit := hide hfit
        have hp7 := M.rd_pos (n := 2) hp6
        have c7 := M.rd2 s.data.toList st6
        have HU7 := hide (fun W hW => U16_any R (.slice va vn vc) s st6 W hW hs hp6)
        obtain ⟨x7, st7, e7⟩ : ∃ a b, M.rd s.data.toList 2 st6 = (a, b) := ⟨_, _, rfl⟩
        rw [e7] at hp7 c7 HU7
        simp only at hp7 c7 HU7
        have hp8 := M.rd_pos (n := 2) hp7
        have c8 := M.rd2 s.data.toList st7
        have HU8 := hide (fun W hW => U16_any R (.slice va vn vc) s st7 W hW hs hp7)
        obtain ⟨x8, st8, e8⟩ : ∃ a b, M.rd s.data.toList 2 st7 = (a, b) := ⟨_, _, rfl⟩
        rw [e8] at hp8 c8 HU8
        simp only at hp8 c8 HU8
        have hp9 := M.rd_pos (n := 2) hp8
        have c9 := M.rd2 s.data.toList st8
        have HU9 := hide (fun W hW => U16_any R (.slice va vn vc) s st8 W hW hs hp8)
        obtain ⟨x9, st9, e9⟩ : ∃ a b, M.rd s.data.toList 2 st8 = (a, b) := ⟨_, _, rfl⟩
        rw [e9] at hp9 c9 HU9
        simp only at hp9 c9 HU9
        have Hthree : Hid (M.three s.data.toList st6 = (x7, x8, x9, st9)) := by show M.three s.data.toList st6 = (x7, x8, x9, st9); unfold M.three; simp only [e7, e8, e9]
        clear hw7 hrr hl0 e6 hfit e7 e8 e9 H6 O6 hout hout6 hr5 hg5 H5 hf
        go_upto_region 8 with fail
        rw [← unhide HW7]
        clear HW7 q5 qf r4 rf
        have D7 := (unhide H7).drew
        go_cut [] (fun w' => Hid (CW w w' R bc (.slice va vn vc) s st9 #[.int .u16 (a : Int), .int .u16 (b : Int), .int .u16 (x7 : Int), .int .u16 (x8 : Int), .int .u16 (x9 : Int), .slice va vn vc, .slice none 0 0, .slice none 0 0, .slice none 0 0] ∧ Own w w' (.slice va vn vc) (.slice none 0 0) (.slice none 0 0) (.slice none 0 0) l [] [] []))
        case first =>
          go_region_held3 (fun w' => True) (trivial)
            ((go_at_call 57; first
              | (refine (unhide HU7 _ D7.rd).mono ?_; rintro e w1 ⟨rfl, hr1, hg1⟩; have C1 := D7.step hg1 hr1 hp7; have P1 := Own.kept (unhide O7) (w' := w1) (row := some R) ⟨hg1.os, hg1.tape, hg1.output, hg1.size, hg1.block⟩ (fun b e => by cases e; exact hRl))
              | (refine (unhide HU8 _ hr1).mono ?_; rintro e w2 ⟨rfl, hr2, hg2⟩; have C2 := C1.step hg2 hr2 hp8; have P2 := P1.kept hg2 (fun b e => by cases e; exact hRl))
              | (refine (unhide HU9 _ hr2).mono ?_; rintro e w3 ⟨rfl, hr3, hg3⟩; have C3 := C2.step hg3 hr3 hp9; have P3 := P2.kept hg3 (fun b e => by cases e; exact hRl); have q2 := C3.c.cell 2; have q3 := C3.c.cell 3; have q4 := C3.c.cell 4; have qf := C3.c.frozen; simp at q2 q3 q4)
              | fail))
          all_goals
            go_wp2
            go_meet
            exact ⟨((C3.set 2 _).set 3 _).set 4 _, ((P3.set C3.c 2 _).set (C3.set 2 _).c 3 _).set ((C3.set 2 _).set 3 _).c 4 _⟩
        case rest =>
          obtain ⟨C9, O9⟩ := unhide hcut
          clear hcut HU7 HU8 HU9 H7 O7 D7
          have HI := hide (u16s_any R (.slice va vn vc) s st9 wc C9.rd hs hp9)
          have hp10 : (M.lst s.data.toList (M.u16 s.data.toList) st9).2.pos ≤ s.data.toList.length := by unfold M.lst; exact M.reps_pos (fun st h => M.rd_pos h) (M.rd_pos hp9)
          obtain ⟨is, st10, e10⟩ : ∃ a b, M.lst s.data.toList (M.u16 s.data.toList) st9 = (a, b) := ⟨_, _, rfl⟩
          rw [e10] at HI hp10
          simp only at HI hp10
          have E10 := hide e10
          have H9 := hide C9
          have P9 := hide O9
          clear e10 C9 O9
          go_wp2_with fail
          refine (unhide HI).mono ?_
          rintro e w10 ⟨vi, rfl, ho10, hr10, hg10⟩
          have C10 := (unhide H9).step hg10 hr10 hp10
          have O10 : Own w w10 (.slice va vn vc) vi (.slice none 0 0) (.slice none 0 0) l is [] [] := by
            have := (unhide P9).kept hg10 (fun b e => by cases e; exact hRl)
            exact ⟨this.p, own_mono ho10 (unhide H9).gr.size, this.f, this.m⟩
          obtain ⟨ia, ic, ei⟩ := own39_slice ho10
          subst ei
          have q6 := C10.c.cell 6
          have qf := C10.c.frozen
          simp at q6
          have O11 := O10.set C10.c 6 (.slice ia is.length ic)
          have C11 : CW w (w10.setCell ⟨bc, 6, none⟩ (.slice ia is.length ic)) R bc (.slice va vn vc) s st10 #[.int .u16 (a : Int), .int .u16 (b : Int), .int .u16 (x7 : Int), .int .u16 (x8 : Int), .int .u16 (x9 : Int), .slice va vn vc, .slice ia is.length ic, .slice none 0 0, .slice none 0 0] := C10.set 6 _
          have HF := hide (fields_any R (.slice va vn vc) s (l.map kOf) st10 (w10.setCell ⟨bc, 6, none⟩ (.slice ia is.length ic)) C11.rd hs hPl hp10 (KIn.of_out O11.p (unhide Hfit)) (Out.off O11.p hRl))
          obtain ⟨fs, st11, e11⟩ : ∃ a b, M.lst s.data.toList (M.fld s.data.toList (l.map kOf)) st10 = (a, b) := ⟨_, _, rfl⟩
          rw [e11] at HF
          simp only at HF
          have E11 := hide e11
          have H11 := hide C11
          have P11 := hide O11
          clear e11 C11 O11 C10 O10 ho10 hr10 hg10 HI H9 P9
          go_wp2_with fail
          refine (unhide HF).mono ?_
          rintro e w11 ⟨vf, rfl, ho11, hr11, hg11, hk11, hp11⟩
          clear q6 qf hk11
          have C12 := (unhide H11).step hg11 hr11 hp11
          have O12 : Own w w11 (.slice va vn vc) (.slice ia is.length ic) vf (.slice none 0 0) l is fs [] := by
            have := (unhide P11).kept hg11 (fun b e => by cases e; exact hRl)
            exact ⟨this.p, this.i, own_mono ho11 (unhide H11).gr.size, this.m⟩
          obtain ⟨fa, fc, ef⟩ := own95_slice ho11
          subst ef
          have q7 := C12.c.cell 7
          have qf := C12.c.frozen
          simp at q7
          have O13 := O12.set C12.c 7 (.slice fa fs.length fc)
          have C13 : CW w (w11.setCell ⟨bc, 7, none⟩ (.slice fa fs.length fc)) R bc (.slice va vn vc) s st11 #[.int .u16 (a : Int), .int .u16 (b : Int), .int .u16 (x7 : Int), .int .u16 (x8 : Int), .int .u16 (x9 : Int), .slice va vn vc, .slice ia is.length ic, .slice fa fs.length fc, .slice none 0 0] := C12.set 7 _
          have HM := hide (methods_any R (.slice va vn vc) s (l.map kOf) st11 (w11.setCell ⟨bc, 7, none⟩ (.slice fa fs.length fc)) C13.rd hs hPl hp11 (KIn.of_out O13.p (unhide Hfit)) (Out.off O13.p hRl))
          obtain ⟨ms, st12, e12⟩ : ∃ a b, M.lst s.data.toList (M.mth s.data.toList (l.map kOf)) st11 = (a, b) := ⟨_, _, rfl⟩
          rw [e12] at HM
          simp only at HM
          have E12 := hide e12
          have H13 := hide C13
          have P13 := hide O13
          clear e12 C13 O13 C12 O12 ho11 hr11 hg11 HF H11 P11
          go_wp2_with fail
          refine (unhide HM).mono ?_
          rintro e w12 ⟨vm, L, rfl, hL, ho12, hr12, hg12, hk12, hp12⟩
          clear q7 qf hk12
          have C14 := (unhide H13).step hg12 hr12 hp12
          have O14 : Own w w12 (.slice va vn vc) (.slice ia is.length ic) (.slice fa fs.length fc) vm l is fs L := by
            have := (unhide P13).kept hg12 (fun b e => by cases e; exact hRl)
            exact ⟨this.p, this.i, this.f, own_mono ho12.row (unhide H13).gr.size, fun j hj => own_mono (ho12.own j hj) (unhide H13).gr.size⟩
          obtain ⟨ma, mc, em⟩ := own101_slice ho12.row
          subst em
          have q8 := C14.c.cell 8
          have qf := C14.c.frozen
          simp at q8
          have O15 := O14.set C14.c 8 (.slice ma L.length mc)
          have C15 : CW w (w12.setCell ⟨bc, 8, none⟩ (.slice ma L.length mc)) R bc (.slice va vn vc) s st12 #[.int .u16 (a : Int), .int .u16 (b : Int), .int .u16 (x7 : Int), .int .u16 (x8 : Int), .int .u16 (x9 : Int), .slice va vn vc, .slice ia is.length ic, .slice fa fs.length fc, .slice ma L.length mc] := C14.set 8 _
          have HN := hide (none_any R (w12.setCell ⟨bc, 8, none⟩ (.slice ma L.length mc)))
          have H15 := hide C15
          have P15 := hide O15
          have HL := hide hL
          clear C15 O15 C14 O14 ho12 hr12 hg12 HM H13 P13 hL
          go_wp2_with fail
          refine (unhide HN).mono ?_
          rintro e w13 ⟨rfl, hw13⟩
          clear q8 qf HN
          have hb13 : Below (w12.setCell ⟨bc, 8, none⟩ (.slice ma L.length mc)).heap.size (w12.setCell ⟨bc, 8, none⟩ (.slice ma L.length mc)) w13 := by rw [hw13]; exact (Below.refl _ _).alloc (Nat.le_refl _) _
          have hbn : Bk w13 (w12.setCell ⟨bc, 8, none⟩ (.slice ma L.length mc)).heap.size #[.pointer (some ⟨R, 0, none⟩)] 135 := by rw [hw13]; exact Bk.new _ _ _
          obtain ⟨bn, ebn⟩ : ∃ bn, bn = (w12.setCell ⟨bc, 8, none⟩ (.slice ma L.length mc)).heap.size := ⟨_, rfl⟩
          have hbnR : bn ≠ R := by have := (unhide H15).gr.size; omega
          rw [← ebn] at hbn ⊢
          have C16 : CW w w13 R bc (.slice va vn vc) s st12 #[.int .u16 (a : Int), .int .u16 (b : Int), .int .u16 (x7 : Int), .int .u16 (x8 : Int), .int .u16 (x9 : Int), .slice va vn vc, .slice ia is.length ic, .slice fa fs.length fc, .slice ma L.length mc] := by
            have hg := grown_of_below hb13 (some R)
            exact ⟨(unhide H15).c.below hb13, (unhide H15).ge, (unhide H15).q.below hb13, (unhide H15).rd.kept (grown_of_below hb13 none) (by simp), grown_trans (unhide H15).gr hg, (unhide H15).pos, hRl⟩
          have O16 := (unhide P15).kept (grown_of_below hb13 none) (fun b e => by cases e)
          have HA := hide (attributes0_any (.pointer (some ⟨bn, 0, none⟩)) R (.slice va vn vc) s (l.map kOf) (M.none_ s.data.toList) (fun W (_ : Unit) st => CW w W R bc (.slice va vn vc) s st #[.int .u16 (a : Int), .int .u16 (b : Int), .int .u16 (x7 : Int), .int .u16 (x8 : Int), .int .u16 (x9 : Int), .slice va vn vc, .slice ia is.length ic, .slice fa fs.length fc, .slice ma L.length mc] ∧ Own w W (.slice va vn vc) (.slice ia is.length ic) (.slice fa fs.length fc) (.slice ma L.length mc) l is fs L ∧ Bk W bn #[.pointer (some ⟨R, 0, none⟩)] 135) hs hPl
            (fun W _ st h => h.1.rd) (fun W _ st h => KIn.of_out h.2.1.p (unhide Hfit)) (fun W _ st h => h.1.pos)
            (fun W W' _ st st' h hg hr hp => ⟨h.1.step hg hr hp, h.2.1.kept hg (fun b e => by cases e; exact hRl), h.2.2.kept hg (ne_some hbnR)⟩)
            (fun W x st a n name h hn ha => (none1_any R (.slice va vn vc) s st W bn a n name h.1.rd h.2.2 hs hn h.1.pos).mono fun _ W' ⟨g1, g2, g3⟩ => ⟨g1, h.1.step g3 g2 (M.take_pos h.1.pos), h.2.1.kept g3 (fun b e => by cases e; exact hRl), h.2.2.kept g3 (ne_some hbnR)⟩)
            () st12 w13 ⟨C16, O16, hbn⟩)
          obtain ⟨z, hz⟩ : ∃ z, z = M.attsN s.data.toList (l.map kOf) (M.none_ s.data.toList) () st12 := ⟨_, rfl⟩
          have hz' : M.atts s.data.toList (l.map kOf) (M.none_ s.data.toList) (M.rd s.data.toList 2 st12).1 () (M.rd s.data.toList 2 st12).2 = z := by rw [hz]; rfl
          rw [hz'] at HA
          have HZ := hide hz
          clear hz hz' C16 O16 hbn hb13 hw13 H15 P15 ebn hbnR
          go_wp2_with fail
          refine (unhide HA).mono ?_
          rintro e w14 ⟨rfl, C17, O17, _⟩
          clear HA
          have p0 := C17.c.cell 0
          have p1 := C17.c.cell 1
          have p2 := C17.c.cell 2
          have p3 := C17.c.cell 3
          have p4 := C17.c.cell 4
          have p5 := C17.c.cell 5
          have p6 := C17.c.cell 6
          have p7 := C17.c.cell 7
          have p8 := C17.c.cell 8
          have z0 := C17.q.cell 0
          have z1 := C17.q.cell 1
          have z2 := C17.q.cell 2
          have z3 := C17.q.cell 3
          have z4 := C17.q.cell 4
          have z5 := C17.q.cell 5
          have z6 := C17.q.cell 6
          have z7 := C17.q.cell 7
          have z8 := C17.q.cell 8
          have zf := C17.q.frozen
          simp at p0 p1 p2 p3 p4 p5 p6 p7 p8 z0 z1 z2 z3 z4 z5 z6 z7 z8
          obtain ⟨wE, hwE⟩ : ∃ wE, wE = ((((((((w14.setCell ⟨w.heap.size, 0, none⟩ (.int .u16 (a : Int))).setCell ⟨w.heap.size, 1, none⟩ (.int .u16 (b : Int))).setCell ⟨w.heap.size, 2, none⟩ (.int .u16 (x7 : Int))).setCell ⟨w.heap.size, 3, none⟩ (.int .u16 (x8 : Int))).setCell ⟨w.heap.size, 4, none⟩ (.int .u16 (x9 : Int))).setCell ⟨w.heap.size, 5, none⟩ (.slice va vn vc)).setCell ⟨w.heap.size, 6, none⟩ (.slice ia is.length ic)).setCell ⟨w.heap.size, 7, none⟩ (.slice fa fs.length fc)).setCell ⟨w.heap.size, 8, none⟩ (.slice ma L.length mc) := ⟨_, rfl⟩
          have HE : Hid (QE w wE R w.heap.size (.slice va vn vc) s z.2 (.slice va vn vc) (.slice ia is.length ic) (.slice fa fs.length fc) (.slice ma L.length mc) l is fs L #[.int .u16 (a : Int), .int .u16 (b : Int), .int .u16 (x7 : Int), .int .u16 (x8 : Int), .int .u16 (x9 : Int), .slice va vn vc, .slice ia is.length ic, .slice fa fs.length fc, .slice ma L.length mc]) := by
            have h0 : QE w w14 R w.heap.size (.slice va vn vc) s z.2 (.slice va vn vc) (.slice ia is.length ic) (.slice fa fs.length fc) (.slice ma L.length mc) l is fs L _ := ⟨C17.q, C17.rd, C17.gr, O17, C17.lt, Nat.le_refl _⟩
            exact qe_set h0 _ _ _ _ _ _ _ _ _ hwE
          have hpe := C17.pos
          have HwE := hide hwE
          clear C17 O17 hwE
          go_wp2
          rw [← unhide HwE]
          have hE := unhide HE
          refine bodyPost_ret (results_cell_row Try.results34 _ _ w.heap.size 44 _ (0, 0) _ rfl hE.q Try.underlying44 rfl (by kernel_rfl)) rfl ?_
          have hcls : M.cls s.data.toList st r = (⟨a, b, l.map kOf, x7, x8, x9, is, fs, ms⟩, z.2) := by
            unfold M.cls
            simp only [unhide Hh, unhide E6, unhide Hthree, unhide E10, unhide E11, unhide E12, ← unhide HZ]
          refine ⟨r, _, unhide Hrr, rfl, ?_⟩
          rw [hcls]
          exact ⟨⟨by rw [← unhide Hl0], _, _, _, _, L, rfl, by rw [← unhide Hl0]; exact hE.o, unhide HL⟩, ⟨_, hE.rd⟩, hE.gr, hpe⟩
end Go.Proofs.Ytgihfcjddkpkaaa.Rc
namespace Go.Proofs.Ytgihfcjddkpkaaa.Rc
set_option linter.unusedVariables false
open Go.RowKit
/-- What a reading of a class file gives: the class, or an error and its place. -/
def ReadC (s : List UInt8) (r : Po.Res) (c : Cs) (st : St) (w : World) (x : Ending) (w' : World) : Prop :=
  ∃ v, x = .returned (.tuple #[v, .int .i64 (st.e : Int), .int .i64 ((if st.e = 0 then 0 else st.p : Nat) : Int)]) ∧ Below w.heap.size w w' ∧ (st.e = 0 → ClsIn w w' v r.1 c) ∧ (st.e ≠ 0 → v = .agg #[.int .u16 0, .int .u16 0, .int .u16 0, .int .u16 0, .int .u16 0, .slice none 0 0, .slice none 0 0, .slice none 0 0, .slice none 0 0])
theorem ClsIn.kept {w0 w w' : World} {v : Value} {l : List Po.K} {c : Cs} {row : Option Nat} (h : ClsIn w0 w v l c) (hg : w.grownBy w' row) (hr : ∀ b, row = some b → b < w0.heap.size) : ClsIn w0 w' v l c := by
  obtain ⟨vp, vi, vf, vm, L, e, ho, hL⟩ := h.ex
  exact ⟨h.pool, vp, vi, vf, vm, L, e, ho.kept hg hr, hL⟩
theorem Own.set1 {w0 w : World} {vp vi vf vm : Value} {l : List Po.K} {is : List Nat} {fs : List Fd} {L : List Mj} {g : Nat} {cs : Array Value} (h : Own w0 w vp vi vf vm l is fs L) (hb : Bk w g cs 44) (x0 x1 x2 x3 x4 x5 x6 x7 x8 : Value) :
    Own w0 (((((((((w.setCell ⟨g, 0, none⟩ x0).setCell ⟨g, 1, none⟩ x1).setCell ⟨g, 2, none⟩ x2).setCell ⟨g, 3, none⟩ x3).setCell ⟨g, 4, none⟩ x4).setCell ⟨g, 5, none⟩ x5).setCell ⟨g, 6, none⟩ x6).setCell ⟨g, 7, none⟩ x7).setCell ⟨g, 8, none⟩ x8) vp vi vf vm l is fs L :=
  (((((((((h.set hb 0 x0).set (hb.set 0 x0) 1 x1).set ((hb.set 0 x0).set 1 x1) 2 x2).set (((hb.set 0 x0).set 1 x1).set 2 x2) 3 x3).set ((((hb.set 0 x0).set 1 x1).set 2 x2).set 3 x3) 4 x4).set (((((hb.set 0 x0).set 1 x1).set 2 x2).set 3 x3).set 4 x4) 5 x5).set ((((((hb.set 0 x0).set 1 x1).set 2 x2).set 3 x3).set 4 x4).set 5 x5) 6 x6).set (((((((hb.set 0 x0).set 1 x1).set 2 x2).set 3 x3).set 4 x4).set 5 x5).set 6 x6) 7 x7).set ((((((((hb.set 0 x0).set 1 x1).set 2 x2).set 3 x3).set 4 x4).set 5 x5).set 6 x6).set 7 x7) 8 x8)
theorem Bk.set9 {w : World} {g : Nat} {t : TypeId} {a0 a1 a2 a3 a4 a5 a6 a7 a8 : Value} (h : Bk w g #[a0, a1, a2, a3, a4, a5, a6, a7, a8] t) (x0 x1 x2 x3 x4 x5 x6 x7 x8 : Value) :
    Bk (((((((((w.setCell ⟨g, 0, none⟩ x0).setCell ⟨g, 1, none⟩ x1).setCell ⟨g, 2, none⟩ x2).setCell ⟨g, 3, none⟩ x3).setCell ⟨g, 4, none⟩ x4).setCell ⟨g, 5, none⟩ x5).setCell ⟨g, 6, none⟩ x6).setCell ⟨g, 7, none⟩ x7).setCell ⟨g, 8, none⟩ x8) g #[x0, x1, x2, x3, x4, x5, x6, x7, x8] t := by
  have h1 := h.set 0 x0
  simp only [List.setIfInBounds_toArray, List.set_cons_zero] at h1
  have h2 := h1.set 1 x1
  simp only [List.setIfInBounds_toArray, List.set_cons_zero, List.set_cons_succ] at h2
  have h3 := h2.set 2 x2
  simp only [List.setIfInBounds_toArray, List.set_cons_zero, List.set_cons_succ] at h3
  have h4 := h3.set 3 x3
  simp only [List.setIfInBounds_toArray, List.set_cons_zero, List.set_cons_succ] at h4
  have h5 := h4.set 4 x4
  simp only [List.setIfInBounds_toArray, List.set_cons_zero, List.set_cons_succ] at h5
  have h6 := h5.set 5 x5
  simp only [List.setIfInBounds_toArray, List.set_cons_zero, List.set_cons_succ] at h6
  have h7 := h6.set 6 x6
  simp only [List.setIfInBounds_toArray, List.set_cons_zero, List.set_cons_succ] at h7
  have h8 := h7.set 7 x7
  simp only [List.setIfInBounds_toArray, List.set_cons_zero, List.set_cons_succ] at h8
  have h9 := h8.set 8 x8
  simp only [List.setIfInBounds_toArray, List.set_cons_zero, List.set_cons_succ] at h9
  exact h9
theorem below_set9 {w0 w : World} {g : Nat} (h : Below w0.heap.size w0 w) (hg : w0.heap.size ≤ g) (x0 x1 x2 x3 x4 x5 x6 x7 x8 : Value) :
    Below w0.heap.size w0 (((((((((w.setCell ⟨g, 0, none⟩ x0).setCell ⟨g, 1, none⟩ x1).setCell ⟨g, 2, none⟩ x2).setCell ⟨g, 3, none⟩ x3).setCell ⟨g, 4, none⟩ x4).setCell ⟨g, 5, none⟩ x5).setCell ⟨g, 6, none⟩ x6).setCell ⟨g, 7, none⟩ x7).setCell ⟨g, 8, none⟩ x8) := by
  have k : ∀ (W : World) (i : Nat) (v : Value), Below w0.heap.size w0 W → Below w0.heap.size w0 (W.setCell ⟨g, i, none⟩ v) := fun W i v h => h.grown (grown_set W g i v) h.size (fun k e => by cases e; exact hg)
  exact k _ _ _ (k _ _ _ (k _ _ _ (k _ _ _ (k _ _ _ (k _ _ _ (k _ _ _ (k _ _ _ (k _ _ _ h))))))))
theorem results_row2 {Pr : Program} {fn : Func} {p t u : Tmp} {ty : TypeId} (h : fn.results = #[.cell p ty, .tmp t, .tmp u]) (tmps : Array Value) (w : World) (g : Nat) (tt : TypeId) (cs : Array Value) (fr : Nat × Nat) (d : TypeDesc)
    (hp : tmps.getD p undef = .pointer (some ⟨g, 0, none⟩)) (hg : w.heap[g]? = some (.cells cs tt fr))
    (hu : Pr.underlying ty = some d) (hd : (match d with | .struct _ | .array _ _ => true | _ => false) = true) (hi : (Pr.info? ty).map (·.size) = some cs.size) :
    (results fn tmps).run Pr w = .ok (.tuple #[.agg cs, tmps.getD t undef, tmps.getD u undef]) w := by
  have hp' : tmps[p]?.getD undef = .pointer (some ⟨g, 0, none⟩) := by simpa using hp
  simp [results, h, hp', asAddr, run_loadVar_row w g tt ty cs fr d hg hu hd hi]
theorem ReadC.ok {s : List UInt8} {r : Po.Res} {c : Cs} {st : St} {w w2 w' : World} {vp vi vf vm : Value} {L : List Mj} (he : st.e = 0) (hz : w.heap.size ≤ w2.heap.size) (hb : Below w.heap.size w w') (hpl : c.pool = r.1.map kOf) (ho : Own w2 w' vp vi vf vm r.1 c.ifaces c.fields L) (hL : L.map Mj.m = c.methods) :
    ReadC s r c st w (.returned (.tuple #[.agg #[.int .u16 (c.minor : Int), .int .u16 (c.major : Int), .int .u16 (c.flags : Int), .int .u16 (c.this : Int), .int .u16 (c.super : Int), vp, vi, vf, vm], .int .i64 0, .int .i64 0])) w' := by
  refine ⟨_, by rw [if_pos he, he]; rfl, hb, fun _ => ⟨hpl, vp, vi, vf, vm, L, rfl, ⟨?_, own_mono ho.i hz, own_mono ho.f hz, own_mono ho.m.row hz, fun j hj => own_mono (ho.m.own j hj) hz⟩, hL⟩, fun g => absurd he g⟩
  rcases ho.p with hp | ⟨B, hB, hp⟩
  · exact .inl hp
  · exact .inr ⟨B, Nat.le_trans hz hB, hp⟩
set_option maxRecDepth 100000 in
set_option maxHeartbeats 2000000 in
theorem Read_any (s : ByteArray) (w : World) (hs : s.size ≤ 131072) :
    Calls Try.prog 16 #[.string s] w fun x w' => ∃ r, Po.ReadRes (M.rest s.data.toList (M.hdr s.data.toList ⟨0, 0, 0⟩).2.2) r ∧ ReadC s.data.toList r (M.cls s.data.toList ⟨0, 0, 0⟩ r).1 (M.fin s.data.toList (M.cls s.data.toList ⟨0, 0, 0⟩ r).2) w x w' := by
  obtain ⟨wA, hwA⟩ : ∃ wA, wA = w.alloc (.cells #[.int .u16 0, .int .u16 0, .int .u16 0, .int .u16 0, .int .u16 0, .slice none 0 0, .slice none 0 0, .slice none 0 0, .slice none 0 0] 44) := ⟨_, rfl⟩
  have hQA : Bk wA w.heap.size #[.int .u16 0, .int .u16 0, .int .u16 0, .int .u16 0, .int .u16 0, .slice none 0 0, .slice none 0 0, .slice none 0 0, .slice none 0 0] 44 := by rw [hwA]; exact Bk.new _ _ _
  have hbA : Below w.heap.size w wA := by rw [hwA]; exact (Below.refl _ _).alloc (Nat.le_refl _) _
  have HN := hide (NewReader_any s wA)
  have HwA := hide hwA
  have HC := hide (fun (R : Nat) (W : World) (hr : Rd W R (.slice none 0 0) s ⟨0, 0, 0⟩) => class_any R (.slice none 0 0) s ⟨0, 0, 0⟩ W hr hs (Nat.zero_le _))
  obtain ⟨rs, hrs⟩ : ∃ rs, rs = M.rest s.data.toList (M.hdr s.data.toList ⟨0, 0, 0⟩).2.2 := ⟨_, rfl⟩
  rw [← hrs] at HC ⊢
  have hl : s.data.toList.length = s.size := by simp
  clear hwA hrs
  go_enter Try.func16, Try.ntmps16
  go_upto_region 1 with fail
  rw [← unhide HwA]
  clear HwA
  go_wp2_with fail
  refine (unhide HN).mono ?_
  rintro e w1 ⟨rfl, hb1⟩
  obtain ⟨R, hR⟩ : ∃ R, R = w1.heap.size := ⟨_, rfl⟩
  obtain ⟨w2, hw2⟩ : ∃ w2, w2 = w1.alloc (.cells #[.string s, .int .i64 0, .int .i64 0, .int .i64 0, .slice none 0 0] 80) := ⟨_, rfl⟩
  have hbA1 : Below wA.heap.size wA w2 := by rw [hw2]; exact hb1.alloc hb1.size _
  have hb2 : Below w.heap.size w w2 := hbA.trans (hbA1.mono hbA.size)
  have hQ2 := hQA.below hbA1
  have hQl := hQA.lt
  have hRA : wA.heap.size ≤ R := by rw [hR]; exact hb1.size
  have hrd : Rd w2 R (.slice none 0 0) s ⟨0, 0, 0⟩ := by rw [hw2, hR]; exact heap_alloc_new _ _
  have HC2 := hide (unhide HC R w2 hrd)
  have HW2 := hide hw2
  have HR := hide hR
  have hR2 := hrd.lt
  clear HN HC hw2 hR hb1 hrd hbA1 hQA hbA
  go_upto_region 2 with fail
  rw [← unhide HW2, ← unhide HR]
  clear HW2 HR
  go_wp2_with fail
  refine (unhide HC2).mono ?_
  rintro e w3 ⟨r, v, hrr, rfl, hcl, ⟨pv', hr3⟩, hg3, hp3⟩
  have hQ3 := hQ2.kept hg3 (ne_some (by omega))
  have hb3 : Below w.heap.size w w3 := hb2.grown hg3 hb2.size (fun k e => by cases e; omega)
  obtain ⟨c, st3, hc⟩ : ∃ c st3, M.cls s.data.toList ⟨0, 0, 0⟩ r = (c, st3) := ⟨_, _, rfl⟩
  rw [hc] at hcl hr3 hp3
  simp only at hcl hr3 hp3
  have hres : ∀ x w', ReadC s.data.toList r c (M.fin s.data.toList st3) w x w' → ∃ r, Po.ReadRes rs r ∧ ReadC s.data.toList r (M.cls s.data.toList ⟨0, 0, 0⟩ r).1 (M.fin s.data.toList (M.cls s.data.toList ⟨0, 0, 0⟩ r).2) w x w' := fun x w' h => ⟨r, hrr, by rw [hc]; exact h⟩
  have Hres := hide hres
  obtain ⟨vp, vi, vf, vm, L, ev, ho3, hL⟩ := hcl.ex
  have hpl := hcl.pool
  obtain ⟨⟨pa, pn, pc, e1⟩, ⟨ia, ic, e2⟩, ⟨fa, fc, e3⟩, ⟨ma, mc, e4⟩⟩ := own_slices ho3
  subst e1 e2 e3 e4
  subst ev
  obtain ⟨w4, hw4⟩ : ∃ w4, w4 = w3.alloc (.cells #[.int .u16 (c.minor : Int), .int .u16 (c.major : Int), .int .u16 (c.flags : Int), .int .u16 (c.this : Int), .int .u16 (c.super : Int), .slice pa pn pc, .slice ia c.ifaces.length ic, .slice fa c.fields.length fc, .slice ma L.length mc] 44) := ⟨_, rfl⟩
  obtain ⟨bc, hbc⟩ : ∃ bc, bc = w3.heap.size := ⟨_, rfl⟩
  have hg4 : w3.grownBy w4 none := by rw [hw4]; exact World.grownBy_alloc _ _ _
  have hc4 : Bk w4 bc #[.int .u16 (c.minor : Int), .int .u16 (c.major : Int), .int .u16 (c.flags : Int), .int .u16 (c.this : Int), .int .u16 (c.super : Int), .slice pa pn pc, .slice ia c.ifaces.length ic, .slice fa c.fields.length fc, .slice ma L.length mc] 44 := by rw [hw4, hbc]; exact Bk.new _ _ _
  have hr4 := hr3.kept hg4 (by simp)
  have hQ4 := hQ3.kept hg4 (by simp)
  have ho4 := ho3.kept hg4 (fun b e => by cases e)
  have hb4 : Below w.heap.size w w4 := hb3.grown hg4 hb3.size (fun k e => by cases e)
  have hbcR : bc ≠ R := by have := hg3.size; omega
  have HF := hide (Finish_any R pv' s st3 w4 hr4 (by omega))
  have HW4 := hide hw4
  have Hbc := hide hbc
  clear hcl hr3 hg3 hQ3 hb3 ho3 hg4 hw4 hbc HC2 hc hres hrr hr4 hQ2 hb2
  go_upto_region 3 with fail
  rw [← unhide HW4, ← unhide Hbc]
  clear HW4 Hbc
  go_wp2_with fail
  refine (unhide HF).mono ?_
  rintro e w5 ⟨rfl, hr5, hg5⟩
  have hQ5 := hQ4.kept hg5 (ne_some (by omega))
  have hc5 := hc4.kept hg5 (ne_some hbcR)
  have ho5 := ho4.kept hg5 (fun b e => by cases e; exact hR2)
  have hb5 : Below w.heap.size w w5 := hb4.grown hg5 hb4.size (fun k e => by cases e; omega)
  obtain ⟨st', hst⟩ : ∃ st', st' = M.fin s.data.toList st3 := ⟨_, rfl⟩
  rw [← hst] at hr5 Hres
  have HE := hide (Err_any R pv' s st' w5 hr5)
  have H5 := hide (And.intro hQ5 (And.intro hc5 (And.intro ho5 hb5)))
  clear HF hr5 hg5 hQ4 hc4 ho4 hb4 hQ5 hc5 ho5 hb5 hst
  go_wp2_with fail
  refine (unhide HE).mono ?_
  rintro e w6 ⟨rfl, k, hw6⟩
  subst w6
  clear HE
  have hQ6 : Bk (w5.drewN k) w.heap.size #[.int .u16 0, .int .u16 0, .int .u16 0, .int .u16 0, .int .u16 0, .slice none 0 0, .slice none 0 0, .slice none 0 0, .slice none 0 0] 44 := (unhide H5).1
  have z0 := hQ6.cell 0
  have z1 := hQ6.cell 1
  have z2 := hQ6.cell 2
  have z3 := hQ6.cell 3
  have z4 := hQ6.cell 4
  have z5 := hQ6.cell 5
  have z6 := hQ6.cell 6
  have z7 := hQ6.cell 7
  have z8 := hQ6.cell 8
  have zf := hQ6.frozen
  simp at z0 z1 z2 z3 z4 z5 z6 z7 z8
  have hb6 : Below w.heap.size w (w5.drewN k) := ⟨(unhide H5).2.2.2.os, (unhide H5).2.2.2.tape, (unhide H5).2.2.2.output, (unhide H5).2.2.2.size, (unhide H5).2.2.2.block⟩
  by_cases he : st'.e = 0
  · have hd : (((st'.e : Int) != 0) : Bool) = false := by rw [he]; rfl
    have He := hide he
    have hc6 : Bk (w5.drewN k) bc _ 44 := (unhide H5).2.1
    have p0 := hc6.cell 0
    have p1 := hc6.cell 1
    have p2 := hc6.cell 2
    have p3 := hc6.cell 3
    have p4 := hc6.cell 4
    have p5 := hc6.cell 5
    have p6 := hc6.cell 6
    have p7 := hc6.cell 7
    have p8 := hc6.cell 8
    simp at p0 p1 p2 p3 p4 p5 p6 p7 p8
    have HB := hide (below_set9 hb6 (Nat.le_refl _) (.int .u16 (c.minor : Int)) (.int .u16 (c.major : Int)) (.int .u16 (c.flags : Int)) (.int .u16 (c.this : Int)) (.int .u16 (c.super : Int)) (.slice pa pn pc) (.slice ia c.ifaces.length ic) (.slice fa c.fields.length fc) (.slice ma L.length mc))
    have HQ := hide (Bk.set9 hQ6 (.int .u16 (c.minor : Int)) (.int .u16 (c.major : Int)) (.int .u16 (c.flags : Int)) (.int .u16 (c.this : Int)) (.int .u16 (c.super : Int)) (.slice pa pn pc) (.slice ia c.ifaces.length ic) (.slice fa c.fields.length fc) (.slice ma L.length mc))
    have ho6 : Own w2 (w5.drewN k) _ _ _ _ _ _ _ _ := (unhide H5).2.2.1.kept (row := none) ⟨rfl, rfl, rfl, Nat.le_refl _, fun _ _ _ => rfl⟩ (fun b e => by cases e)
    have HO := hide (Own.set1 ho6 hQ6 (.int .u16 (c.minor : Int)) (.int .u16 (c.major : Int)) (.int .u16 (c.flags : Int)) (.int .u16 (c.this : Int)) (.int .u16 (c.super : Int)) (.slice pa pn pc) (.slice ia c.ifaces.length ic) (.slice fa c.fields.length fc) (.slice ma L.length mc))
    have hzz : w.heap.size ≤ w2.heap.size := by omega
    clear he H5 hc6 ho6 hQ6 hb6
    go_wp2
    refine bodyPost_ret (results_row2 Try.results16 _ _ w.heap.size 44 _ (0, 0) _ rfl (unhide HQ) Try.underlying44 rfl (by kernel_rfl)) rfl ?_
    exact unhide Hres _ _ (ReadC.ok (unhide He) hzz (unhide HB) hpl (unhide HO) hL)
  · have hd : (((st'.e : Int) != 0) : Bool) = true := by simpa using he
    have He := hide he
    have HB := hide (below_set9 hb6 (Nat.le_refl _) (.int .u16 0) (.int .u16 0) (.int .u16 0) (.int .u16 0) (.int .u16 0) (.slice none 0 0) (.slice none 0 0) (.slice none 0 0) (.slice none 0 0))
    have HQ := hide (Bk.set9 hQ6 (.int .u16 0) (.int .u16 0) (.int .u16 0) (.int .u16 0) (.int .u16 0) (.slice none 0 0) (.slice none 0 0) (.slice none 0 0) (.slice none 0 0))
    clear he H5 hQ6 hb6
    go_wp2
    refine bodyPost_ret (results_row2 Try.results16 _ _ w.heap.size 44 _ (0, 0) _ rfl (unhide HQ) Try.underlying44 rfl (by kernel_rfl)) rfl ?_
    exact unhide Hres _ _ ⟨_, by rw [if_neg (unhide He)]; rfl, unhide HB, fun g => absurd g (unhide He), fun _ => rfl⟩
end Go.Proofs.Ytgihfcjddkpkaaa.Rc
