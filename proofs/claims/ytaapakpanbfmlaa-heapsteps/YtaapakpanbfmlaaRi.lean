/-
  The reference's space: Major: the walk.
-/
import Derived.Test.YtaapakpanbfmlaaRh
namespace Go.Proofs.Ytaapakpanbfmlaa
namespace Rs
open Go.RowKit Hp
set_option linter.unusedVariables false
set_option linter.unusedSimpArgs false
theorem flat3_set (L : List Tv) : ∀ (x : Nat) (y : Tv), x < L.length → (((L.flatMap Tv.cells).set (x * 3) y.rv).set (x * 3 + 1) y.wv).set (x * 3 + 2) (.bool y.gone) = (L.set x y).flatMap Tv.cells := by
  induction L with
  | nil => intro x y hx; simp at hx
  | cons a l ih =>
    intro x y hx
    cases x with
    | zero => simp [Tv.cells]
    | succ x =>
      have e : (x + 1) * 3 = x * 3 + 1 + 1 + 1 := by omega
      have := ih x y (by simpa using hx)
      simp only [List.flatMap_cons, List.set_cons_succ, e]
      rw [← this]
      simp [Tv.cells]
theorem flat_sub {α : Type} (f : α → List Nat) : ∀ (L : List α) (x : Nat) (y : α), f y = [] → ((L.set x y).flatMap f).Sublist (L.flatMap f)
  | [], _, _, _ => by simp
  | a :: l, 0, y, h => by rw [List.set_cons_zero, List.flatMap_cons, List.flatMap_cons, h]; exact List.sublist_append_right _ _
  | a :: l, x + 1, y, h => by rw [List.set_cons_succ, List.flatMap_cons, List.flatMap_cons]; exact (List.Sublist.refl _).append (flat_sub f l x y h)
/-- A thing goes. -/
theorem Sp.die {w : World} {B sb rb lim us : Nat} {lv : Value} {L : List Tv} {ro : List Nat} (h : Sp w B sb rb lv L ro lim us) {x g cap : Nat} (hx : x < L.length) (hg : lv = .slice (some ⟨g, 0, none⟩) L.length cap) :
    Sp (((w.setCell ⟨g, x * 3, none⟩ (.slice none 0 0)).setCell ⟨g, x * 3 + 1, none⟩ (.slice none 0 0)).setCell ⟨g, x * 3 + 2, none⟩ (.bool true)) B sb rb lv (L.set x dead) ro lim us := by
  have hf : Fr [g] w (((w.setCell ⟨g, x * 3, none⟩ (.slice none 0 0)).setCell ⟨g, x * 3 + 1, none⟩ (.slice none 0 0)).setCell ⟨g, x * 3 + 2, none⟩ (.bool true)) := (((Fr.refl [g] w).set (by simp) _).set (by simp) _).set (by simp) _
  have hap := h.apart
  have hgb : lv.ownBlock.toList = [g] := by rw [hg]; rfl
  rw [hgb] at hap
  rw [List.nodup_cons, List.nodup_cons, List.nodup_append] at hap
  obtain ⟨n1, n2, _, n3, n4⟩ := hap
  have hsub := flat_sub (fun x : Tv => x.rv.ownBlock.toList ++ x.wv.ownBlock.toList) L x dead rfl
  have ht : ∀ b ∈ tblocks L, b ∉ [g] := fun b hb e => n4 g (by simp) b hb (by rw [List.mem_singleton] at e; exact e.symm)
  refine ⟨?_, ?_, h.rl, ?_, fun z hz => ?_, ?_⟩
  · rw [hf.block sb (Array.getElem?_eq_some_iff.1 h.b).1 (by simp; intro e; exact n1 (by simp [e]))]; exact h.b
  · rw [hf.block rb (Array.getElem?_eq_some_iff.1 h.r).1 (by simp; intro e; exact n2 (by simp [e]))]; exact h.r
  · have hl := h.l
    rw [hg] at hl ⊢
    rw [List.length_set, ← flat3_set L x dead hx]
    exact (((hl.stored _ _).1.stored _ _).1.stored _ _).1
  · rcases List.mem_or_eq_of_mem_set hz with hz | rfl
    · exact ⟨(h.t z hz).1.kept hf (fun b hb => ht b (List.mem_flatMap.2 ⟨z, hz, List.mem_append_left _ hb⟩)), (h.t z hz).2.kept hf (fun b hb => ht b (List.mem_flatMap.2 ⟨z, hz, List.mem_append_right _ hb⟩))⟩
    · exact ⟨.inl ⟨rfl, rfl⟩, .inl ⟨rfl, rfl⟩⟩
  · exact ((((List.Sublist.refl _).append hsub).cons_cons rb).cons_cons sb).nodup h.apart
set_option maxRecDepth 100000 in
set_option maxHeartbeats 4000000 in
theorem major_any (w : World) {B sb rb lim us : Nat} {lv : Value} {L : List Tv} {ro : List Nat} (h : Sp w B sb rb lv L ro lim us) (hro : Okr (L.map Tv.t) ro) (hL : OkL (L.map Tv.t)) (hl : L.length ≤ 1073741824) (hb : left (L.map Tv.t) (List.replicate (L.map Tv.t).length false) ro ≤ 1073741824) (hs : (L.map fun x => szT x.t).sum ≤ 1073741824) :
    Calls Try.prog 8 #[.pointer (some ⟨sb, 0, none⟩)] w fun e w' => ∃ seen, e = .returned (.int .i64 ((used (L.map Tv.t) seen : Nat) : Int)) ∧ Fr (sb :: lv.ownBlock.toList) w w' ∧ Sp w' B sb rb lv (sweep seen L.length L) ro lim (used (L.map Tv.t) seen) ∧ Dfs (L.map Tv.t) ro seen [] := by
  have HR := hide (fun (w1 : World) (h1 : Sp w1 B sb rb lv L ro lim us) => reached_any w1 h1 hro hL hl hb)
  have HS := hide h
  have c1 := h.rootsv
  have c2 := h.lv0
  obtain ⟨oa, lc, hlv⟩ := own_slice h.l
  rw [hlv] at c2
  have Hlv := hide hlv
  have Hl := hide hl
  have Hs := hide hs
  have HR' : Hid (∀ (w1 : World) (h1 : Sp w1 B sb rb lv L ro lim us), Calls Try.prog 29 #[.slice oa L.length lc, .slice (some ⟨rb, 0, none⟩) 16 16] w1 fun e w' => ∃ seen, e = .returned (.slice (some ⟨w1.heap.size, 0, none⟩) L.length L.length) ∧ Below w1.heap.size w1 w' ∧ Bs w' w1.heap.size seen ∧ Dfs (L.map Tv.t) ro seen []) := by rw [← hlv]; exact HR
  clear HR
  clear h hro hL hb hlv hs
  have HSS : Hid (∀ w', Below w.heap.size w w' → w'.cell? ⟨sb, 0, none⟩ = some (.slice oa L.length lc) ∧ w'.cell? ⟨sb, 1, none⟩ = some (.slice (some ⟨rb, 0, none⟩) 16 16)) := hide (fun w' hb => by
    have h2 := (unhide HS).kept (F := []) (Fr.of_below hb) (by simp)
    exact ⟨by rw [← unhide Hlv]; exact h2.lv0, h2.rootsv⟩)
  go_enter Try.func8, Try.ntmps8
  go_wp2_with fail
  go_region_held3 (fun w' => w'.cell? ⟨sb, 0, none⟩ = some (.slice oa L.length lc) ∧ w'.cell? ⟨sb, 1, none⟩ = some (.slice (some ⟨rb, 0, none⟩) 16 16)) (first | go_keep | exact unhide HSS _ (unhide HB))
    (first | (go_at_call 29; refine (unhide HR' _ ?_).mono ?_; exact (unhide HS).drew; rintro e w1 ⟨seen, rfl, hb1, hB1, hd1⟩; have HB : Hid (Below w.heap.size w w1) := hide ((Below.refl _ _).drew.trans hb1); have HB1 : Hid (Bs w1 w.heap.size seen) := hide hB1; have HD1 := hide hd1; clear hb1 hB1 hd1))
  have hsp1 : Sp w1 B sb rb lv L ro lim us := (unhide HS).kept (F := []) (Fr.of_below (unhide HB)) (by simp)
  obtain ⟨_, f3, f4, _⟩ := hsp1.bcell
  have f0 := hsp1.lv0
  rw [unhide Hlv] at f0
  have HSp0 : Hid (Sp (w1.setCell ⟨sb, 3, none⟩ (.int .i64 0)) B sb rb lv L ro lim 0) := hide (hsp1.setUsed 0)
  have hHne : w.heap.size ≠ sb := by have := (Array.getElem?_eq_some_iff.1 (unhide HS).b).1; omega
  have HBs0 : Hid (Bs (w1.setCell ⟨sb, 3, none⟩ (.int .i64 0)) w.heap.size seen) := by
    unfold Hid Bs
    rw [Below.heap_setCell w1 ⟨sb, 3, none⟩ _ w.heap.size hHne]
    exact unhide HB1
  have HF0 : Hid (Fr (sb :: lv.ownBlock.toList) w (w1.setCell ⟨sb, 3, none⟩ (.int .i64 0))) := hide ((Fr.of_below (unhide HB)).set (by simp) _)
  clear hsp1 c1 c2 HSS HR'
  go_wp2_with fail
  go_loopg [22] L.length (fun k p wr => ∃ i : Nat, p = .int .i64 (i : Int) ∧ i ≤ L.length ∧ L.length - i ≤ k ∧ Hid (Sp wr B sb rb lv (sweep seen i L) ro lim (usedTo L seen i)) ∧ Hid (Bs wr w.heap.size seen) ∧ Hid (Fr (sb :: lv.ownBlock.toList) w wr))
  case atStart => exact ⟨0, rfl, by omega, by omega, by rw [sweep_zero]; exact HSp0, HBs0, HF0⟩
  case round =>
    obtain ⟨i, rfl, hi, hk, HSp, HBs, HF⟩ := hrel
    clear f0 f3 f4 HSp0 HBs0 HF0
    by_cases hil : i < L.length
    · have hii : (i : Int) < (L.length : Int) := by omega
      have hsl : seen.length = L.length := by have := (unhide HD1).len; rw [List.length_map] at this; exact this
      have b0 := (unhide HBs).cell i (by omega)
      cases hsv : seen.getD i false
      · rw [hsv] at b0
        obtain ⟨g, cap, hlv3, d0, d1, d2⟩ := (unhide HSp).thing i (by rw [sweep_len]; exact hil)
        have hrow := (unhide HSp).l
        rw [hlv3] at hrow
        have z0 := hrow.frozenAt (i * 3)
        have z1 := hrow.frozenAt (i * 3 + 1)
        have z2 := hrow.frozenAt (i * 3 + 2)
        have f0 := (unhide HSp).lv0
        rw [hlv3, sweep_len] at f0
        rw [sweep_at hil] at d0 d1 d2
        have Hlv3 := hide hlv3
        have Hsv := hide hsv
        clear hrow hlv3 hsv
        have HD3 : Hid (Sp (((wr.setCell ⟨g, i * 3, none⟩ (.slice none 0 0)).setCell ⟨g, i * 3 + 1, none⟩ (.slice none 0 0)).setCell ⟨g, i * 3 + 2, none⟩ (.bool true)) B sb rb lv (sweep seen (i + 1) L) ro lim (usedTo L seen (i + 1))) := by
          unfold Hid
          rw [sweep_gone L (unhide Hsv), usedTo_gone (unhide Hsv)]
          exact (unhide HSp).die (by rw [sweep_len]; exact hil) (unhide Hlv3)
        have hgm : g ∈ sb :: lv.ownBlock.toList := by rw [unhide Hlv3]; simp [Value.ownBlock]
        have hgl : g ≠ w.heap.size := by
          have h1 : g < w.heap.size := ((unhide HS).l.lt g (by rw [unhide Hlv3]; rfl)).2
          omega
        have HF3 : Hid (Fr (sb :: lv.ownBlock.toList) w (((wr.setCell ⟨g, i * 3, none⟩ (.slice none 0 0)).setCell ⟨g, i * 3 + 1, none⟩ (.slice none 0 0)).setCell ⟨g, i * 3 + 2, none⟩ (.bool true))) := hide ((((unhide HF).set hgm _).set hgm _).set hgm _)
        have HB3 : Hid (Bs (((wr.setCell ⟨g, i * 3, none⟩ (.slice none 0 0)).setCell ⟨g, i * 3 + 1, none⟩ (.slice none 0 0)).setCell ⟨g, i * 3 + 2, none⟩ (.bool true)) w.heap.size seen) := by
          unfold Hid Bs
          rw [Below.heap_setCell _ ⟨g, _, none⟩ _ w.heap.size (fun e => hgl e.symm), Below.heap_setCell _ ⟨g, _, none⟩ _ w.heap.size (fun e => hgl e.symm), Below.heap_setCell _ ⟨g, _, none⟩ _ w.heap.size (fun e => hgl e.symm)]
          exact unhide HBs
        go_wp2
        go_roundg (L.length - (i + 1))
        case measure => omega
        case rel => exact ⟨i + 1, by go_num, by omega, by omega, HD3, HB3, HF3⟩
      · rw [hsv] at b0
        obtain ⟨g, cap, hlv3, d0, d1, d2⟩ := (unhide HSp).thing i (by rw [sweep_len]; exact hil)
        have f0 := (unhide HSp).lv0
        obtain ⟨_, f3, f4, _⟩ := (unhide HSp).bcell
        rw [hlv3, sweep_len] at f0
        rw [sweep_at hil] at d0 d1 d2
        have hmem : L[i] ∈ sweep seen i L := by
          have := List.getElem_mem (l := sweep seen i L) (n := i) (by rw [sweep_len]; exact hil)
          rw [sweep_at hil] at this; exact this
        obtain ⟨ra, hrv⟩ := ((unhide HSp).t _ hmem).1.slice
        obtain ⟨wa, hwv⟩ := ((unhide HSp).t _ hmem).2.slice
        rw [hrv] at d0
        rw [hwv] at d1
        have hu : usedTo L seen (i + 1) ≤ 1073741824 := by
          have h1 := usedTo_le L seen (i + 1) (by omega)
          have h2 := sum_take_le (L.map fun x => szT x.t) (i + 1)
          rw [List.map_take] at h1
          have h3 := unhide Hs
          omega
        have hue := usedTo_kept hil hsv
        have hsz : szT (L[i]).t = 2 + (L[i]).t.refs.length + (L[i]).t.words.length := rfl
        have HC := hide (fun (w9 : World) => rsize_any ra wa (L[i]).t.refs.length (L[i]).t.refs.length (L[i]).t.words.length (L[i]).t.words.length (L[i]).gone w9 (by omega) (by omega))
        have HSS : Hid (∀ w', Below wr.heap.size wr w' → w'.cell? ⟨sb, 0, none⟩ = some (.slice (some ⟨g, 0, none⟩) L.length cap) ∧ w'.cell? ⟨sb, 3, none⟩ = some (.int .i64 ((usedTo L seen i : Nat) : Int)) ∧ w'.frozen? ⟨sb, 3, none⟩ = false ∧ w'.cell? ⟨g, i * 3, none⟩ = some (.slice ra (L[i]).t.refs.length (L[i]).t.refs.length) ∧ w'.cell? ⟨g, i * 3 + 1, none⟩ = some (.slice wa (L[i]).t.words.length (L[i]).t.words.length) ∧ w'.cell? ⟨g, i * 3 + 2, none⟩ = some (.bool (L[i]).gone)) := hide (fun w' hb => by
          have h2 := (unhide HSp).kept (F := []) (Fr.of_below hb) (by simp)
          obtain ⟨g9, cap9, hlv9, y0, y1, y2⟩ := h2.thing i (by rw [sweep_len]; exact hil)
          rw [sweep_at hil] at y0 y1 y2
          have e9 := hlv3.symm.trans hlv9
          cases e9
          rw [hrv] at y0
          rw [hwv] at y1
          have y3 := h2.lv0
          rw [hlv3, sweep_len] at y3
          exact ⟨y3, h2.bcell.2.1, h2.bcell.2.2.1, y0, y1, y2⟩)
        have HN : Hid (∀ w', Below wr.heap.size wr w' → Sp (w'.setCell ⟨sb, 3, none⟩ (.int .i64 (((usedTo L seen i : Nat) : Int) + ((2 + (L[i]).t.refs.length + (L[i]).t.words.length : Nat) : Int)))) B sb rb lv (sweep seen (i + 1) L) ro lim (usedTo L seen (i + 1)) ∧ Bs (w'.setCell ⟨sb, 3, none⟩ (.int .i64 (((usedTo L seen i : Nat) : Int) + ((2 + (L[i]).t.refs.length + (L[i]).t.words.length : Nat) : Int)))) w.heap.size seen ∧ Fr (sb :: lv.ownBlock.toList) w (w'.setCell ⟨sb, 3, none⟩ (.int .i64 (((usedTo L seen i : Nat) : Int) + ((2 + (L[i]).t.refs.length + (L[i]).t.words.length : Nat) : Int))))) := hide (fun w' hb => by
          have h2 := (unhide HSp).kept (F := []) (Fr.of_below hb) (by simp)
          have e5 : ((usedTo L seen i : Nat) : Int) + ((2 + (L[i]).t.refs.length + (L[i]).t.words.length : Nat) : Int) = ((usedTo L seen (i + 1) : Nat) : Int) := by rw [hue, hsz]; omega
          rw [e5]
          refine ⟨?_, ?_, ?_⟩
          · rw [sweep_kept L hsv]; exact h2.setUsed _
          · unfold Bs
            rw [Below.heap_setCell w' ⟨sb, 3, none⟩ _ w.heap.size hHne, hb.block _ (unhide HBs).lt]
            exact unhide HBs
          · exact ((unhide HF).trans (Fr.of_below hb)).set (by simp) _)
        have hui : ((usedTo L seen i : Nat) : Int) + ((2 + (L[i]).t.refs.length + (L[i]).t.words.length : Nat) : Int) ≤ 1073741824 := by omega
        have Hlv3 := hide hlv3
        have Hsv := hide hsv
        clear hlv3 hsv hrv hwv hu hue hsz hmem
        generalize (L[i]).t.refs.length = nr at *
        generalize (L[i]).t.words.length = nw at *
        generalize (L[i]).gone = gg at *
        generalize hun : usedTo L seen i = un at *
        clear hun
        generalize hnn : 2 + nr + nw = nn at *
        clear hnn
        have HWr : Hid (IntKind.i64.wrap ((un : Int) + (nn : Int)) = (un : Int) + (nn : Int)) := hide (IntWalk.i64_in _ (by omega))
        go_wp2_with fail
        go_region_with (go_at_call 30; refine (unhide HC _).mono ?_; rintro e w9 ⟨rfl, hb9⟩; have HB9 : Hid (Below wr.heap.size wr w9) := hide ((Below.refl _ _).drew.trans hb9); clear hb9; obtain ⟨y0, y1, y2, y3, y4, y5⟩ := unhide HSS _ (unhide HB9))
        all_goals
          obtain ⟨n1, n2, n3⟩ := unhide HN w9 (unhide HB9)
          rw [← unhide HWr] at n1 n2 n3
          have N1 := hide n1
          have N2 := hide n2
          have N3 := hide n3
          clear n1 n2 n3 y0 y1 y2 y3 y4 y5 b0 d0 d1 d2 f0 f3 f4 HN HSS HC HSp HBs HF HWr hui
          generalize w9.setCell ⟨sb, 3, none⟩ (.int .i64 (IntKind.i64.wrap ((un : Int) + (nn : Int)))) = W9 at *
          generalize (IntKind.i64.wrap ((un : Int) + (nn : Int))) = zz
          go_wp2
          go_roundg (L.length - (i + 1))
          case measure => omega
          case rel => exact ⟨i + 1, by go_num, by omega, by omega, N1, N2, N3⟩
    · have hie : i = L.length := by omega
      have hii : ¬ (i : Int) < (L.length : Int) := by omega
      obtain ⟨_, f3, _, _⟩ := (unhide HSp).bcell
      rw [hie, usedTo_all] at f3
      subst hie
      go_wp2
      go_ret
      exact ⟨seen, rfl, unhide HF, by have := unhide HSp; rw [usedTo_all] at this; exact this, unhide HD1⟩
end Rs
end Go.Proofs.Ytaapakpanbfmlaa
