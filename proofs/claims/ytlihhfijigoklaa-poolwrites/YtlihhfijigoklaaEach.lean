/-
  eachUnit of package pool with each of the two functions that are handed to it; Units, isText.
-/
import Derived.Test.YtlihhfijigoklaaFirst
namespace Go.Proofs.Ytlihhfijigoklaa
open Go.RowKit
theorem hide {p : Prop} (h : p) : Hid p := h
theorem unhide {p : Prop} (h : Hid p) : p := h
theorem Try.info28 : (Try.prog.info? 28).map (fun i => (i.zero, i.size, i.bytes)) = some (some (.int .u16 0), 1, 2) := by kernel_rfl
def U16 (l : List Nat) : List Value := l.map fun (u : Nat) => Value.int .u16 (u : Int)
theorem U16_snoc (l : List Nat) (u : Nat) : U16 (l ++ [u]) = U16 l ++ [.int .u16 (u : Int)] := by simp [U16]
theorem own_form {w : World} {base size n : Nat} {e : TypeId} {v : Value} {xs : List Value} (h : w.ownsRow base e size v n xs) (hn : 0 < n) : ∃ g cap, v = .slice (some ⟨g, 0, none⟩) n cap := by
  rcases h.2 with ⟨_, h0⟩ | ⟨g, cap, cur, hv, _⟩
  · omega
  · exact ⟨g, cap, hv⟩
theorem own_below {w w' : World} {base size n : Nat} {e : TypeId} {v : Value} {xs : List Value} (h : w.ownsRow base e size v n xs) {B : Nat} (hB : w.heap.size ≤ B) (hb : Below B w w') : w'.ownsRow base e size v n xs := by
  refine ⟨h.1, ?_⟩
  rcases h.2 with h2 | ⟨g, cap, cur, hv, h3, h4, h5⟩
  · exact .inl h2
  · refine .inr ⟨g, cap, cur, hv, h3, ?_, h5⟩
    rw [hb.block g ?_]
    · exact h4
    · rcases Nat.lt_or_ge g w.heap.size with hg | hg
      · omega
      · rw [Array.getElem?_eq_none hg] at h4; cases h4

set_option maxHeartbeats 400000 in
theorem take_units (B : Nat) (u : Nat) (v : Value) (L : List Nat) (w : World) (hL : L.length ≤ 131072) (hB : B < w.heap.size)
    (hv : w.cell? ⟨B, 0, none⟩ = some v) (hf : w.frozen? ⟨B, 0, none⟩ = false) (hown : w.ownsRow (B + 1) 28 1 v L.length (U16 L)) :
    Calls Try.prog 19 #[.int .u16 u, .pointer (some ⟨B, 0, none⟩)] w fun e w' => e = .returned (.tuple #[]) ∧
      ∃ v', w'.cell? ⟨B, 0, none⟩ = some v' ∧ w'.frozen? ⟨B, 0, none⟩ = false ∧ w'.ownsRow (B + 1) 28 1 v' (L ++ [u]).length (U16 (L ++ [u])) ∧ Below B w w' ∧ w.heap.size ≤ w'.heap.size := by
  obtain ⟨i0, hi, hz0, hz1, hz2⟩ := info_parts Try.info28
  go_enter Try.func19, Try.ntmps19
  go_wp2_with (at_builtin; refine wpList_append_own _ rfl _ _ 22 rfl (B + 1) 28 i0 (.int .u16 0) 1 2 Try.underlying22 hi hz0 hz1 hz2 rfl (by decide) _ _ _ rfl (hown.alloc _) ⟨w.heap.size, 0, none⟩ 1 1 [.int .u16 u] rfl rfl ?c1 ?c2 ?c3 ?c4 ?c5 ?_)
  case c1 =>
    intro j u hj
    match j, hj with
    | 0, hj => simp at hj; subst hj; simp [Addr.add]
  case c2 => intro u hu; simp at hu; subst hu; rfl
  case c3 => unfold maxLen; omega
  case c4 => omega
  case c5 => simp; omega
  intro v' w1 hown' hgrow _
  have hne : some B ≠ v.ownBlock := fun h => by have := hown.lt B h.symm; omega
  have hc1 : w1.cell? ⟨B, 0, none⟩ = some v := hgrow.cell ((World.cell?_alloc_past _ _ _ (by omega)).trans hv) hne
  have hf1 : w1.frozen? ⟨B, 0, none⟩ = false := by
    rw [World.frozen?_of_block (w := w.alloc (.cells #[.int .u16 u] 28)) (hgrow.block B (by simp; omega) hne)]
    exact (World.frozen?_alloc_past _ _ _ (by omega)).trans hf
  have hb1 : Below B w w1 := ((Below.refl _ _).alloc (by omega) _).grown hgrow (by simp; omega) (fun j hj => by have := (hown.lt j hj).1; omega)
  obtain ⟨g, cap, rfl⟩ := own_form hown' (by omega)
  have hs1 : (w1.setCell ⟨B, 0, none⟩ (.slice (some ⟨g, 0, none⟩) (L.length + 1) cap)).ownsRow (B + 1) 28 1 (.slice (some ⟨g, 0, none⟩) (L.length + 1) cap) (L ++ [u]).length (U16 (L ++ [u])) := by
    rw [U16_snoc, List.length_append]; exact ownsRow_setCell_below hown' (by show B < B + 1; omega) _
  have hs2 : (w1.setCell ⟨B, 0, none⟩ (.slice (some ⟨g, 0, none⟩) (L.length + 1) cap)).cell? ⟨B, 0, none⟩ = some (.slice (some ⟨g, 0, none⟩) (L.length + 1) cap) := World.cell?_setCell_same _ _ _ hc1
  have hs3 : (w1.setCell ⟨B, 0, none⟩ (.slice (some ⟨g, 0, none⟩) (L.length + 1) cap)).frozen? ⟨B, 0, none⟩ = false := (World.frozen?_setCell _ _ _ _).trans hf1
  have hs4 : Below B w (w1.setCell ⟨B, 0, none⟩ (.slice (some ⟨g, 0, none⟩) (L.length + 1) cap)) := hb1.setCell (Nat.le_refl B) _
  have H1 := hide hs1
  have H2 := hide hs2
  have H3 := hide hs3
  clear hs1 hs2 hs3 hown' hgrow hv hf
  go_wp2
  go_end0
  exact ⟨rfl, _, unhide H2, unhide H3, unhide H1, hs4, hs4.size⟩

/-- What holds of the box B at each head of the loop. -/
def Box (B : Nat) (s : ByteArray) (w wr : World) (k : Nat) (L : List Nat) : Prop :=
  M.Ok L ∧ M.text L = s.data.toList.take k ∧ L.length ≤ k ∧ ∃ v, wr.cell? ⟨B, 0, none⟩ = some v ∧ wr.frozen? ⟨B, 0, none⟩ = false ∧ wr.ownsRow (B + 1) 28 1 v L.length (U16 L) ∧ Below B w wr
theorem Box.step {B : Nat} {s : ByteArray} {w wr w2 w3 : World} {k : Nat} {L : List Nat} {u n : Nat} (h : Box B s w wr k L) (hu : u < 65536) (hn : n = M.size u) (r : List UInt8) (hr : s.data.toList.drop k = M.enc u ++ r) (hk : k < s.size)
    (hb : Below wr.heap.size wr w2) (hBw : B < wr.heap.size) (h3 : Below B w2 w3) (v' : Value) (e1 : w3.cell? ⟨B, 0, none⟩ = some v') (e2 : w3.frozen? ⟨B, 0, none⟩ = false) (e3 : w3.ownsRow (B + 1) 28 1 v' (L ++ [u]).length (U16 (L ++ [u]))) :
    k + n ≤ s.size ∧ Box B s w w3 (k + n) (L ++ [u]) := by
  obtain ⟨a1, a2, a3, v, a4, a5, a6, a7⟩ := h
  have hl : (s.data.toList.drop k).length = s.size - k := by simp
  have hl2 : (M.enc u).length ≤ s.size - k := by rw [← hl, hr]; simp
  rw [M.enc_length, ← hn] at hl2
  refine ⟨by omega, fun x hx => ?_, ?_, ?_, v', e1, e2, e3, a7.trans ((hb.mono (by omega)).trans h3)⟩
  · rcases List.mem_append.1 hx with q | q
    · exact a1 x q
    · simp at q; omega
  · rw [M.text_snoc, a2, List.take_add, hr, List.take_left' (by rw [M.enc_length, hn])]
  · have := (M.size_pos u).1
    rw [List.length_append, List.length_singleton]; omega
theorem Box.stop {B : Nat} {s : ByteArray} {w wr : World} {k : Nat} {L : List Nat} (h : Box B s w wr k L) (hk : k < s.size) (hr : ∀ v, v < 65536 → ∀ r, s.data.toList.drop k ≠ M.enc v ++ r) : M.Units s.data.toList none := by
  obtain ⟨a1, a2, -, -⟩ := h
  have := M.stop_none (r := s.data.toList.drop k) a1 (by intro hh; have := congrArg List.length hh; simp at this; omega) hr
  rwa [a2, List.take_append_drop] at this
theorem drop_extract (s : ByteArray) (k : Nat) : (s.extract k s.size).data.toList = s.data.toList.drop k := by
  rw [ByteArray.data_extract, Array.toList_extract, List.extract_eq_take_drop, List.take_of_length_le]
  simp

/-- What eachUnit leaves: true and the units in the box, or false. -/
def Eached (B : Nat) (s : ByteArray) (w : World) (e : Ending) (w' : World) : Prop :=
  (∃ L v, e = .returned (.bool true) ∧ M.Ok L ∧ M.text L = s.data.toList ∧ L.length ≤ s.size ∧ w'.cell? ⟨B, 0, none⟩ = some v ∧ w'.ownsRow (B + 1) 28 1 v L.length (U16 L) ∧ Below B w w') ∨
  (e = .returned (.bool false) ∧ M.Units s.data.toList none ∧ Below B w w')
set_option maxHeartbeats 400000 in
theorem each_units (B : Nat) (s : ByteArray) (w : World) (hs : s.size ≤ 131072) (hB : B < w.heap.size)
    (hv : w.cell? ⟨B, 0, none⟩ = some (.slice none 0 0)) (hf : w.frozen? ⟨B, 0, none⟩ = false) :
    Calls Try.prog 18 #[.string s, .func (.func 19) #[] #[.pointer (some ⟨B, 0, none⟩)]] w fun e w' => Eached B s w e w' := by
  have hbox : Box B s w w 0 [] := ⟨fun _ h => by simp at h, by simp [M.text], by simp, _, hv, hf, World.ownsRow_nil _ _ _ _, Below.refl _ _⟩
  clear hv hf
  go_enter Try.func18, Try.ntmps18
  go_wp2_with fail
  go_loopw [5] (fun i wr => ∃ k L, k ≤ s.size ∧ i = .int .i64 (k : Nat) ∧ B < wr.heap.size ∧ Box B s w wr k L) (fun i _ => s.size - (intOf i).toNat)
  case atStart => exact ⟨0, [], Nat.zero_le _, rfl, hB, hbox⟩
  case round =>
    obtain ⟨k, L, hk, rfl, hBr, hbx⟩ := hrel
    clear hbox
    by_cases hlt : k < s.size
    · go_wp2_with fail
      refine (firstUnit_any (s.extract k s.size) wr (by simp; omega) (by simp; omega)).mono ?_
      rintro e w2 ⟨u, n, rfl, hF, hb2⟩
      rw [drop_extract] at hF
      rcases hF with ⟨hu, hn, r, hr⟩ | ⟨rfl, rfl, hno⟩
      · obtain ⟨a1, a2, a3, v, a4, a5, a6, a7⟩ := id hbx
        have hc2 : w2.cell? ⟨B, 0, none⟩ = some v := (hb2.cell hBr).trans a4
        have hf2 : w2.frozen? ⟨B, 0, none⟩ = false := (hb2.frozen hBr).trans a5
        have ho2 := own_below a6 (Nat.le_refl _) hb2
        have hz2 := hb2.size
        have hnp : 0 < n ∧ n ≤ 3 := by have := M.size_pos u; omega
        have hne : ((n : Int) == 0) = false := by rw [beq_eq_false_iff_ne]; omega
        have Hn := hide hn
        have Hr := hide hr
        have Hc2 := hide hc2
        have Hf2 := hide hf2
        clear hn hr a1 a2 a4 a5 a6 a7 hc2 hf2
        go_wp2_with fail
        refine (take_units B u v L w2 (by omega) (by omega) (unhide Hc2) (unhide Hf2) ho2).mono ?_
        rintro e w3 ⟨rfl, v', e1, e2, e3, e4, e5⟩
        obtain ⟨s1, s2⟩ := hbx.step hu (unhide Hn) r (unhide Hr) hlt hb2 hBr e4 v' e1 e2 e3
        clear e1 e2 e3 Hn Hr Hc2 Hf2 hbx ho2
        go_wp2
        go_roundw
        case rel => exact ⟨k + n, L ++ [u], s1, by go_num, by omega, s2⟩
        case measure => simp [intOf]; omega
      · have hst := hbx.stop hlt hno
        have hbw : Below B w w2 := by obtain ⟨_, _, _, _, _, _, _, a7⟩ := hbx; exact a7.trans (hb2.mono (by omega))
        clear hno hbx
        go_wp2
        go_ret
        exact .inr ⟨rfl, hst, hbw⟩
    · obtain ⟨a1, a2, a3, v, a4, a5, a6, a7⟩ := hbx
      have hks : k = s.size := by omega
      subst hks
      have a2' : M.text L = s.data.toList := by rw [a2, List.take_of_length_le]; simp
      have H1 := hide a2'
      have H2 := hide a4
      clear a2 a2' a4 a5
      go_wp2
      go_ret
      exact .inl ⟨L, v, rfl, a1, unhide H1, a3, unhide H2, a6, a7⟩

/-- What pool.Units leaves. -/
def Unitsed (s : ByteArray) (w : World) (e : Ending) (w' : World) : Prop :=
  (∃ L v, M.Ok L ∧ M.text L = s.data.toList ∧ L.length ≤ s.size ∧ e = .returned (.tuple #[v, .bool true]) ∧ w'.ownsRow (w.heap.size + 1) 28 1 v L.length (U16 L) ∧ Below w.heap.size w w') ∨
  (M.Units s.data.toList none ∧ e = .returned (.tuple #[.slice none 0 0, .bool false]) ∧ Below w.heap.size w w')
set_option maxHeartbeats 400000 in
theorem Units_any (s : ByteArray) (w : World) (hs : s.size ≤ 131072) :
    Calls Try.prog 8 #[.string s] w fun e w' => Unitsed s w e w' := by
  have hmf : ∀ (fn : Fn) (first cap : Array Value) (w : World), (Instr.makeFunc fn first cap).run Try.prog w = .ok (.func fn first cap) w := fun _ _ _ _ => rfl
  have hv : (w.alloc (.cells #[.slice none 0 0] 22)).cell? ⟨w.heap.size, 0, none⟩ = some (.slice none 0 0) := World.cell?_alloc_at _ _ _ _ rfl
  have hf : (w.alloc (.cells #[.slice none 0 0] 22)).frozen? ⟨w.heap.size, 0, none⟩ = false := World.frozen?_alloc_at _ _ _ _ (by simp)
  have hb0 : Below w.heap.size w (w.alloc (.cells #[.slice none 0 0] 22)) := (Below.refl _ _).alloc (Nat.le_refl _) _
  have Hv := hide hv
  have Hf := hide hf
  clear hv hf
  go_enter Try.func8, Try.ntmps8
  go_wp2_with fail
  refine (each_units w.heap.size s (w.alloc (.cells #[.slice none 0 0] 22)) hs (by simp) (unhide Hv) (unhide Hf)).mono ?_
  rintro e w1 (⟨L, v, rfl, h1, h2, h3, h4, h5, h6⟩ | ⟨rfl, h1, h2⟩)
  · have H2 := hide h2
    have hb := hb0.trans h6
    clear h2 Hv Hf hb0 h6
    rcases h5.2 with ⟨rfl, _⟩ | ⟨g, cap, cur, rfl, _⟩
    · go_wp2
      go_ret2
      exact .inl ⟨L, _, h1, unhide H2, h3, rfl, h5, hb⟩
    · go_wp2
      go_ret2
      exact .inl ⟨L, _, h1, unhide H2, h3, rfl, h5, hb⟩
  · have hb := hb0.trans h2
    clear Hv Hf hb0 h2
    go_wp2
    go_ret2
    exact .inr ⟨h1, rfl, hb⟩
end Go.Proofs.Ytlihhfijigoklaa
