/-
  The reference's space: Reached.
-/
import Derived.Test.YtaapakpanbfmlaaMgRf
import Derived.Deep.AppendLies
namespace Go.Proofs.Ytaapakpanbfmlaa
namespace Rs
open Go.RowKit Hp
set_option linter.unusedVariables false
set_option linter.unusedSimpArgs false
def Bs (w : World) (B : Nat) (bl : List Bool) : Prop := w.heap[B]? = some (.cells (bl.map Value.bool).toArray 4 (0, 0))
section
variable {w w' : World} {B : Nat} {bl : List Bool}
theorem Bs.lt (h : Bs w B bl) : B < w.heap.size := (Array.getElem?_eq_some_iff.1 h).1
theorem Bs.cell (h : Bs w B bl) (k : Nat) (hk : k < bl.length) : w.cell? ⟨B, k, none⟩ = some (.bool (bl.getD k false)) := by
  rw [cell_of_row w B k _ 4 (0, 0) h]; simp [hk]
theorem Bs.frozen (h : Bs w B bl) (i : Nat) : w.frozen? ⟨B, i, none⟩ = false := by
  unfold World.frozen?; unfold Bs at h; simp only [h]; simp
theorem Bs.kept {row : Option Nat} (h : Bs w B bl) (hg : w.grownBy w' row) (hne : some B ≠ row) : Bs w' B bl := by
  unfold Bs; rw [hg.block B h.lt hne]; exact h
theorem Bs.set (h : Bs w B bl) (k : Nat) : Bs (w.setCell ⟨B, k, none⟩ (.bool true)) B (bl.set k true) := by
  unfold Bs; rw [heap_setCell_same w B k _ 4 _ h]; simp [List.map_set]
end
theorem under62 : Try.prog.underlying 62 = some (.slice 4) := by kernel_rfl
theorem info4 : (Try.prog.info? 4).map (fun i => (i.zero, i.size, i.bytes)) = some (some (.bool false), 1, 1) := by kernel_rfl
theorem mk_bools (n : Nat) (hn : n ≤ 1073741824) (w : World) : Sem.run Try.prog (Instr.makeSlice 62 (.int .i64 (n : Int)) (.int .i64 (n : Int))) w = .ok (.slice (some ⟨w.heap.size, 0, none⟩) n n) (w.alloc (.cells (madeCells #[.bool false] n) 4)) :=
  run_make_row' (P := Try.prog) 62 4 (.bool false) 1 under62 info4 rfl .i64 .i64 n (by omega) (by omega) w
theorem Bs.made (n : Nat) (w : World) : Bs (w.alloc (.cells (madeCells #[.bool false] n) 4)) w.heap.size (List.replicate n false) := by
  unfold Bs
  have e : ((List.replicate n false).map Value.bool).toArray = madeCells #[.bool false] n := by
    apply Array.toList_inj.1
    rw [toList_madeCells_one]; simp
  rw [e]
  exact heap_alloc_new w _
theorem own_slice {w : World} {B e z n : Nat} {v : Value} {xs : List Value} (h : w.ownsRow B e z v n xs) : ∃ oa cap, v = .slice oa n cap := by
  rcases h.2 with ⟨rfl, rfl⟩ | ⟨g, cap, cur, rfl, _⟩
  · exact ⟨_, _, rfl⟩
  · exact ⟨_, _, rfl⟩
def ints (l : List Nat) : List Value := l.map fun (x : Nat) => Value.int .i64 (x : Int)
theorem own_pop {w : World} {B g m cap : Nat} {td : List Nat} {y : Nat} (h : w.ownsRow B 3 1 (.slice (some ⟨g, 0, none⟩) (m + 1) cap) (m + 1) (ints (td ++ [y]))) : w.ownsRow B 3 1 (.slice (some ⟨g, 0, none⟩) m cap) m (ints td) := by
  have hl := h.1
  rcases h.2 with ⟨hv, _⟩ | ⟨g', cap', cur, hv, h1, h2, h3, h4, h5, h6⟩
  · cases hv
  · cases hv
    have hm : td.length = m := by simp [ints] at hl; exact hl
    refine ⟨by simp [ints, hm], .inr ⟨g, cap, cur, rfl, h1, h2, by omega, h4, h5, ?_⟩⟩
    have : cur.toList.take (m * 1) = (cur.toList.take ((m + 1) * 1)).take m := by rw [List.take_take]; congr 1; omega
    rw [this, h6]
    unfold ints
    rw [List.map_append, List.take_append_of_le_length (by simp [hm]), List.take_of_length_le (by simp [hm])]
theorem ints_one (l : List Nat) : ∀ u ∈ ints l, u.oneCell' = true := by
  intro u hu
  unfold ints at hu
  obtain ⟨x, _, rfl⟩ := List.mem_map.1 hu
  rfl
theorem getD_t {L : List Tv} {x : Nat} (hx : x < L.length) : (L.map Tv.t)[x]? = some (L[x]).t := by simp [hx]
set_option maxRecDepth 100000 in
set_option maxHeartbeats 4000000 in
theorem reached_any (w : World) {B sb rb lim us : Nat} {lv : Value} {L : List Tv} {ro : List Nat} (h : Sp w B sb rb lv L ro lim us) (hro : Okr (L.map Tv.t) ro) (hL : OkL (L.map Tv.t)) (hl : L.length ≤ 1073741824) (hb : left (L.map Tv.t) (List.replicate (L.map Tv.t).length false) ro ≤ 1073741824) :
    Calls Try.prog 29 #[lv, .slice (some ⟨rb, 0, none⟩) 16 16] w fun e w' => ∃ seen, e = .returned (.slice (some ⟨w.heap.size, 0, none⟩) L.length L.length) ∧ Below w.heap.size w w' ∧ Bs w' w.heap.size seen ∧ Dfs (L.map Tv.t) ro seen [] := by
  have HS := hide h
  have HD := hide (Dfs.start (L.map Tv.t) ro hro)
  have HL := hide hL
  have Hb := hide hb
  have hmk := mk_bools L.length hl
  obtain ⟨oa, lc, hlv⟩ := own_slice h.l
  obtain ⟨i0, hi, hii⟩ := Option.map_eq_some_iff.1 info3
  simp only [Prod.mk.injEq] at hii
  obtain ⟨hz0, hz1, hz2⟩ := hii
  have Hlv := hide hlv
  rw [hlv]
  have Hl := hide hl
  clear h hro hL hb hlv
  go_enter Try.func29, Try.ntmps29
  have hown0 : (w.alloc (.cells (madeCells #[.bool false] L.length) 4)).ownsRow w.heap.size 3 1 (.slice none 0 0) 0 [] := World.ownsRow_nil _ _ _ _
  have hsp0 : Sp (w.alloc (.cells (madeCells #[.bool false] L.length) 4)) B sb rb lv L ro lim us := (unhide HS).kept (F := []) (Fr.of_below ((Below.refl _ _).alloc (Nat.le_refl _) _)) (by simp)
  have Hc0 := hide hsp0.cell
  have Hrl := hide hsp0.rl
  have HB0 := hide (Bs.made L.length w)
  have hsz : (w.alloc (.cells (madeCells #[.bool false] L.length) 4)).heap.size = w.heap.size + 1 := by simp
  clear hsp0
  have key : Hid (∀ (ops : Array Oper) (rest : List Oper) (o : Oper) (a : Act) (Q : Exit → Act → World → Prop), o.guard = none → o.op = .call { callee := .builtin .append, args := #[.const (.slice none 0 0), .tmp 11], argTypes := #[65, 65] } → a.eval (.tmp 11) = .slice (some ⟨rb, 0, none⟩) 16 16 →
      (∀ v' w', w'.ownsRow w.heap.size 3 1 v' 16 (ints ro) → (w.alloc (.cells (madeCells #[.bool false] L.length) 4)).grownBy w' none → v'.ownBlock ≠ some w.heap.size → wpList Try.prog ops Q rest (a.put o.dst v') w') →
      wpList Try.prog ops Q (o :: rest) a (w.alloc (.cells (madeCells #[.bool false] L.length) 4))) := by
    intro ops rest o a Q hg ho ha hk
    refine wpList_append_own_at _ hg _ _ 65 ho w.heap.size 3 i0 (.int .i64 0) 1 8 under65 hi hz0 hz1 hz2 rfl (by decide) (.slice none 0 0) 0 [] rfl hown0 ⟨rb, 0, none⟩ 16 16 (ints ro) ha ?c0 ?c1 (ints_one _) (by unfold maxLen; omega) (by omega) (by omega) ?_
    case c0 => simp [ints, unhide Hrl]
    case c1 =>
      intro j u hu
      unfold ints at hu
      have hj : j < 16 := by have := (List.getElem?_eq_some_iff.1 hu).1; simp [unhide Hrl] at this; exact this
      have := unhide Hc0 j hj
      rw [Addr.add_lit, Nat.zero_add, this, ← hu]
      have hjr : j < ro.length := by rw [unhide Hrl]; exact hj
      simp [hjr]
    intro v' w' h1 h2 _ h4
    refine hk v' w' h1 h2 ?_
    rcases h4 with h4 | h4
    · rw [h4]; simp [Value.ownBlock]
    · rw [h4, hsz]; simp
  clear hown0
  go_wp2_with (at_builtin; refine unhide key _ _ _ _ _ rfl rfl rfl ?_; intro v' w1 hown' hgrow hnb)
  have hb1 : Below w.heap.size w w1 := ((Below.refl _ _).alloc (Nat.le_refl _) _).grown hgrow (by omega) (fun j ej => by cases ej)
  have hB1 : Bs w1 w.heap.size (List.replicate L.length false) := (unhide HB0).kept hgrow (by simp)
  clear hgrow key HB0 Hc0 hsz hmk
  go_loopg [6] (left (L.map Tv.t) (List.replicate (L.map Tv.t).length false) ro) (fun k p wr => ∃ td seen, wr.ownsRow w.heap.size 3 1 p td.length (ints td) ∧ Bs wr w.heap.size seen ∧ Hid (Dfs (L.map Tv.t) ro seen td) ∧ Hid (left (L.map Tv.t) seen td ≤ k) ∧ Hid (left (L.map Tv.t) seen td ≤ 1073741824) ∧ Below w.heap.size w wr ∧ p.ownBlock ≠ some w.heap.size)
  case atStart => exact ⟨ro, List.replicate L.length false, by rw [unhide Hrl]; exact hown', hB1, by have := unhide HD; rw [List.length_map] at this; exact this, by unfold Hid; rw [List.length_map]; exact Nat.le_refl _, by have := unhide Hb; rw [List.length_map] at this; exact this, hb1, hnb⟩
  case round =>
    clear hown' hB1 hb1 hnb
    obtain ⟨td, seen, hown, hbs, Hd, Hk, Hm, hbel, hpb⟩ := hrel
    rcases List.eq_nil_or_concat td with rfl | ⟨td', x, rfl⟩
    · obtain ⟨pa, pc, rfl⟩ := own_slice hown
      have hown2 := hide hown
      clear hown
      go_wp2
      go_ret
      exact ⟨seen, rfl, hbel, hbs, unhide Hd⟩
    · rw [List.concat_eq_append] at hown Hd Hk Hm
      obtain ⟨g, pc, rfl, hg1, hg2⟩ := hown.form (by simp)
      have hlen : (td' ++ [x]).length = td'.length + 1 := by simp
      rw [hlen] at hown hpb ⊢
      have c1 : wr.cell? ⟨g, td'.length, none⟩ = some (.int .i64 (x : Int)) := by
        rw [hown.cellAt _ (by omega)]
        simp [ints]
      have hgn : g ≠ w.heap.size := fun e => hpb (by rw [e]; rfl)
      have hpop := own_pop hown
      have hxl : x < L.length := by have := (unhide Hd).in_ x (by simp); rw [List.length_map] at this; exact this
      have hsl : seen.length = L.length := by have := (unhide Hd).len; rw [List.length_map] at this; exact this
      have c2 := hbs.cell x (by omega)
      have c3 := hbs.frozen x
      have hxi : (x : Int) < (L.length : Int) := by omega
      have nz : ((x : Int) == 0) = decide (x = 0) := by rw [Bool.eq_iff_iff]; simp
      have hmb : (td'.length : Int) ≤ 1073741824 := by
        have h1 := unhide Hm
        unfold left at h1
        rw [hlen] at h1
        omega
      have hpcb : (td'.length : Int) ≤ (pc : Int) := by
        rcases hown.2 with ⟨hv, _⟩ | ⟨g', cap', cur, hv, h1, h2, h3, _⟩
        · cases hv
        · cases hv; omega
      have hpcm : (pc : Int) ≤ 9223372036854775807 := by
        rcases hown.2 with ⟨hv, _⟩ | ⟨g', cap', cur, hv, h1, h2, h3, h4, _⟩
        · cases hv
        · cases hv; unfold maxLen at h4; omega
      have Hpop := hide hpop
      have Hbs := hide hbs
      have Hsl := hide hsl
      have hlm : left (L.map Tv.t) seen td' + 1 = left (L.map Tv.t) seen (td' ++ [x]) := by unfold left; simp; omega
      have Hlm := hide hlm
      generalize hm : td'.length = m at *
      have Hme := hide hm
      have e1 : ((m + 1 : Nat) : Int) - 1 = (m : Int) := by omega
      clear hown hpop hlen hpb hlm hsl hm hbs
      generalize hsv : seen.getD x false = sv at *
      have Hsv := hide hsv
      clear hsv
      by_cases hx0 : x = 0
      · rw [decide_eq_true hx0] at nz
        have Hx := hide hx0
        clear hx0
        go_wp2
        go_roundg (left (L.map Tv.t) seen td')
        case measure => have := unhide Hk; have := unhide Hlm; omega
        case rel => exact ⟨td', seen, by rw [unhide Hme]; exact unhide Hpop, unhide Hbs, (unhide Hd).skip (.inl (unhide Hx)), Nat.le_refl _, by unfold Hid; have := unhide Hm; have := unhide Hlm; omega, hbel, fun e => hgn (by simpa [Value.ownBlock] using e)⟩
      · rw [decide_eq_false hx0] at nz
        have Hx := hide hx0
        clear hx0
        cases sv
        · have hb2 : Below w.heap.size w (wr.setCell ⟨w.heap.size, x, none⟩ (.bool true)) := hbel.setCell (p := ⟨w.heap.size, x, none⟩) (Nat.le_refl _) _
          have hsp2 : Sp (wr.setCell ⟨w.heap.size, x, none⟩ (.bool true)) B sb rb lv L ro lim us := (unhide HS).kept (F := []) (Fr.of_below hb2) (by simp)
          obtain ⟨g3, cap3, hlv3, d0, _, _⟩ := hsp2.thing x hxl
          have hoa : oa = some ⟨g3, 0, none⟩ := by have := (unhide Hlv).symm.trans hlv3; cases this; rfl
          subst hoa
          have hrow := (hsp2.t _ (List.getElem_mem hxl)).1
          obtain ⟨ad, hrv⟩ := hrow.slice
          have hB2 := (unhide Hbs).set x
          have hF : Fr [w.heap.size] wr (wr.setCell ⟨w.heap.size, x, none⟩ (.bool true)) := (Fr.refl _ _).set (by simp) _
          have hown2 := row_kept (unhide Hpop) hF (fun b hb => by simp [Value.ownBlock] at hb; simp; omega)
          have hlr : left (L.map Tv.t) (seen.set x true) (td' ++ (L[x]).t.refs) + 1 = left (L.map Tv.t) seen (td' ++ [x]) := left_see (unhide Hd).len (unhide Hsv) (getD_t hxl)
          have hnl : m + (L[x]).t.refs.length ≤ 1073741824 := by
            have h1 := unhide Hm
            rw [← hlr] at h1
            unfold left at h1
            rw [List.length_append, unhide Hme] at h1
            omega
          have key : Hid (∀ (ops : Array Oper) (rest : List Oper) (o : Oper) (a : Act) (Q : Exit → Act → World → Prop), o.guard = none → o.op = .call { callee := .builtin .append, args := #[.tmp 38, .tmp 43], argTypes := #[65, 65] } → a.eval (.tmp 38) = .slice (some ⟨g, 0, none⟩) m pc → a.eval (.tmp 43) = (L[x]).rv →
              (∀ v' w', w'.ownsRow w.heap.size 3 1 v' (td' ++ (L[x]).t.refs).length (ints (td' ++ (L[x]).t.refs)) → Bs w' w.heap.size (seen.set x true) → Below w.heap.size w w' → v'.ownBlock ≠ some w.heap.size → wpList Try.prog ops Q rest (a.put o.dst v') w') →
              wpList Try.prog ops Q (o :: rest) a (wr.setCell ⟨w.heap.size, x, none⟩ (.bool true))) := by
            intro ops rest o a Q hg ho ha hbv hk
            have hgs : g < (wr.setCell ⟨w.heap.size, x, none⟩ (.bool true)).heap.size := by simpa using hg2
            rcases hrow with ⟨hv, hnil⟩ | ⟨gr, hv, hcells⟩
            · refine wpList_append_own_none hg _ _ 65 ho w.heap.size 3 i0 1 under65 hi _ m _ ha hown2 (hbv.trans hv) ?_
              refine hk _ _ ?_ hB2 hb2 (fun e => hgn (by simpa [Value.ownBlock] using e))
              rw [hnil, List.append_nil, unhide Hme]
              exact hown2
            · refine wpList_append_own_at _ hg _ _ 65 ho w.heap.size 3 i0 (.int .i64 0) 1 8 under65 hi hz0 hz1 hz2 rfl (by decide) _ m _ ha hown2 ⟨gr, 0, none⟩ (L[x]).t.refs.length (L[x]).t.refs.length (ints (L[x]).t.refs) (hbv.trans hv) (by simp [ints]) ?_ (ints_one _) (by unfold maxLen; omega) (by omega) (by omega) ?_
              · intro j u hu
                rw [Addr.add_lit, Nat.zero_add, cell_of_row _ gr j _ 3 (0, 0) hcells, ← hu]
                simp [ints]
              · intro v' w' h1 h2 _ h4
                refine hk v' w' ?_ (hB2.kept h2 (by simp [Value.ownBlock]; omega)) (hb2.grown h2 (by omega) (fun j ej => by simp [Value.ownBlock] at ej; omega)) ?_
                · have e9 : ints td' ++ ints (L[x]).t.refs = ints (td' ++ (L[x]).t.refs) := by simp [ints]
                  rw [List.length_append, unhide Hme, ← e9]
                  exact h1
                · rcases h4 with h4 | h4
                  · rw [h4]; exact fun e => hgn (by simpa [Value.ownBlock] using e)
                  · rw [h4]; intro e; have := Option.some.inj e; omega
          have Hlr := hide hlr
          have Hd2 := hide ((unhide Hd).see (unhide HL) (unhide Hx) (unhide Hsv) (getD_t hxl))
          rw [hrv] at d0 key
          clear hsp2 hlv3 hrow hrv hB2 hF hown2 hlr hnl hb2
          go_wp2_with (at_builtin; refine unhide key _ _ _ _ _ rfl rfl rfl rfl ?_; intro v' w5 h5 h6 h7 h8)
          go_roundg (left (L.map Tv.t) (seen.set x true) (td' ++ (L[x]).t.refs))
          case measure => have := unhide Hk; have := unhide Hlr; omega
          case rel => exact ⟨td' ++ (L[x]).t.refs, seen.set x true, h5, h6, unhide Hd2, Nat.le_refl _, by unfold Hid; have := unhide Hm; have := unhide Hlr; omega, h7, h8⟩
        · go_wp2
          go_roundg (left (L.map Tv.t) seen td')
          case measure => have := unhide Hk; have := unhide Hlm; omega
          case rel => exact ⟨td', seen, by rw [unhide Hme]; exact unhide Hpop, unhide Hbs, (unhide Hd).skip (.inr (unhide Hsv)), Nat.le_refl _, by unfold Hid; have := unhide Hm; have := unhide Hlm; omega, hbel, fun e => hgn (by simpa [Value.ownBlock] using e)⟩
end Rs
end Go.Proofs.Ytaapakpanbfmlaa
