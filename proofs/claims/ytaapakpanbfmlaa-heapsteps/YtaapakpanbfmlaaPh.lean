/-
  The slots that cross, as a map's keys: one more, or one that is there.
-/
import Derived.Test.YtaapakpanbfmlaaPg
import Derived.Laws.StructEq
namespace Go.Proofs.Ytaapakpanbfmlaa
namespace Rs
open Go.RowKit Hp
set_option linter.unusedVariables false
set_option linter.unusedSimpArgs false
theorem und52 : Try.prog.underlying 52 = some (.map 106 118) := by kernel_rfl
theorem und55 : Try.prog.underlying 55 = some (.int .i64) := by kernel_rfl
theorem flds106 : Try.prog.fieldsOf 106 = #[{ name := "of", type := 55, offset := 0, embedded := false, tag := "", pkgPath := "jvmcore/heap", byteOffset := 0 }, { name := "k", type := 3, offset := 1, embedded := false, tag := "", pkgPath := "jvmcore/heap", byteOffset := 8 }] := by kernel_rfl
theorem und106 : Try.prog.underlying 106 = some (.struct (Try.prog.fieldsOf 106)) := by kernel_rfl
theorem held106 : Try.prog.stoodInHeld 106 = false := by kernel_rfl
theorem check106 (x : Int × Nat) (w : World) : (Instr.checkKey false 10000 106 (slotv x)).run Try.prog w = .ok () w := by kernel_rfl
theorem part55 (a b : Value) (w : World) : Sem.run Try.prog (part 55 #[a, b] 0) w = .ok a w := by kernel_rfl
theorem part3 (a b : Value) (w : World) : Sem.run Try.prog (part 3 #[a, b] 1) w = .ok b w := by kernel_rfl
theorem eq106 (x y : Int × Nat) (w : World) : (Op.equal 106 (slotv x) (slotv y)).run Try.prog w = .ok (x.1 == y.1 && (x.2 : Int) == (y.2 : Int)) w := by
  unfold Op.equal slotv
  rw [show Op.maxDepth = 9999 + 1 from rfl, run_equalIn_struct w 9999 106 _ _ und106 held106, flds106]
  simp only [Op.eqFields, Sem.run_bind, Sem.run_pure, Result.andThen, part55, part3, run_equalIn_int _ 9998 55 .i64 .i64 _ _ und55, run_equalIn_int _ 9998 3 .i64 .i64 _ _ und3]
  cases h1 : (x.1 == y.1) <;> cases h2 : ((x.2 : Int) == (y.2 : Int)) <;> simp [h1, h2, part55, part3, run_equalIn_int _ 9998 55 .i64 .i64 _ _ und55, run_equalIn_int _ 9998 3 .i64 .i64 _ _ und3, Result.andThen]
theorem slotv_inj {x y : Int × Nat} (h : slotv x = slotv y) : x = y := by
  unfold slotv at h
  simp only [Value.agg.injEq, Array.mk.injEq, List.cons.injEq, Value.int.injEq, true_and, and_true] at h
  exact Prod.ext h.1 (by omega)
theorem eq106' (x y : Int × Nat) (w : World) : (Op.equal 106 (slotv x) (slotv y)).run Try.prog w = .ok (decide (x = y)) w := by
  rw [eq106]
  congr 1
  rw [Bool.eq_iff_iff]
  simp only [Bool.and_eq_true, beq_iff_eq, decide_eq_true_eq, Prod.ext_iff]
  omega
theorem find106 (x : Int × Nat) (w : World) : ∀ (l : List MapEntry) (C : List (Int × Nat)) (i : Nat), l.map (·.key) = C.map slotv →
    (x ∉ C ∧ (Instr.findAsking 106 (slotv x) l i).run Try.prog w = .ok none w) ∨ ∃ j e, l[j]? = some e ∧ e.key = slotv x ∧ (Instr.findAsking 106 (slotv x) l i).run Try.prog w = .ok (some (i + j, e.val)) w
  | [], C, i, h => by
    have : C = [] := by simpa using h.symm
    subst this
    exact .inl ⟨by simp, by simp [Instr.findAsking]⟩
  | e :: l, C, i, h => by
    cases C with
    | nil => simp at h
    | cons y C =>
      simp only [List.map_cons, List.cons.injEq] at h
      by_cases hxy : x = y
      · subst hxy
        refine .inr ⟨0, e, rfl, h.1, ?_⟩
        simp [Instr.findAsking, h.1, eq106', Result.andThen]
      · rcases find106 x w l C (i + 1) h.2 with ⟨h1, h2⟩ | ⟨j, e', h1, h2, h3⟩
        · refine .inl ⟨fun hm => ?_, ?_⟩
          · rcases List.mem_cons.1 hm with hm | hm
            · exact hxy hm
            · exact h1 hm
          · simp [Instr.findAsking, h.1, eq106', Result.andThen, hxy, h2]
        · refine .inr ⟨j + 1, e', by simpa using h1, h2, ?_⟩
          simp [Instr.findAsking, h.1, eq106', Result.andThen, hxy, h3]; omega
theorem findNow106 (x : Int × Nat) : ∀ (l : List MapEntry) (C : List (Int × Nat)), l.map (·.key) = C.map slotv → l ≠ [] → Instr.findNow (.struct (Try.prog.fieldsOf 106)) (slotv x) l 0 = none
  | [], _, _, h => absurd rfl h
  | e :: l, C, h, _ => by simp [Instr.findNow, Instr.sameNow]
theorem findKey106 (x : Int × Nat) (w : World) (l : List MapEntry) (C : List (Int × Nat)) (h : l.map (·.key) = C.map slotv) :
    (x ∉ C ∧ (Instr.findKey 106 (slotv x) l).run Try.prog w = .ok none w) ∨ ∃ j e, l[j]? = some e ∧ e.key = slotv x ∧ (Instr.findKey 106 (slotv x) l).run Try.prog w = .ok (some (j, e.val)) w := by
  by_cases hl : l = []
  · subst hl
    have : C = [] := by simpa using h.symm
    subst this
    exact .inl ⟨by simp, by simp [Instr.findKey, run_underlying und106, Instr.findNow, Result.andThen]⟩
  · have hn := findNow106 x l C h hl
    rcases find106 x w l C 0 h with ⟨h1, h2⟩ | ⟨j, e, h1, h2, h3⟩
    · exact .inl ⟨h1, by simp [Instr.findKey, run_underlying und106, hn, Result.andThen, h2]⟩
    · exact .inr ⟨j, e, h1, h2, by simpa [Instr.findKey, run_underlying und106, hn, Result.andThen] using h3⟩
theorem bits106 (x : Int × Nat) : Instr.sameBits 10000 (slotv x) (slotv x) = true := by
  unfold slotv
  simp [Instr.sameBits]
/-- A slot more, or one that is there. -/
def addC (C : List (Int × Nat)) (x : Int × Nat) : List (Int × Nat) := if x ∈ C then C else C ++ [x]
theorem mem_addC {C : List (Int × Nat)} {x y : Int × Nat} : y ∈ addC C x ↔ y ∈ C ∨ y = x := by
  unfold addC
  split
  · rename_i h
    constructor
    · exact fun h => .inl h
    · rintro (h1 | rfl)
      · exact h1
      · exact h
  · simp
theorem upd106 {W : World} {m : Nat} {es : Array MapEntry} {clock : Nat} {C : List (Int × Nat)} (hb : W.heap[m]? = some (.map es clock)) (hs : MapKept.Stamped es clock) (hk : es.toList.map (·.key) = C.map slotv) (x : Int × Nat) (v : Value) :
    ∃ es' clock', (Instr.mapUpdate 52 (.map (some m)) (slotv x) v).run Try.prog W = .ok () { W with heap := W.heap.setIfInBounds m (.map es' clock') } ∧ MapKept.Stamped es' clock' ∧ es'.toList.map (·.key) = (addC C x).map slotv := by
  rcases findKey106 x W es.toList C hk with ⟨h1, h2⟩ | ⟨j, e, h1, h2, h3⟩
  · refine ⟨es.push { key := slotv x, val := v, born := clock }, clock + 1, ?_, ?_, ?_⟩
    · simp [Instr.mapUpdate, run_underlying und52, MapKept.run_getObj_map hb, check106, h2, MapKept.run_setObj_map _ hb, Result.andThen]
    · refine MapKept.stamped_push hs (fun y hy e => h1 ?_)
      have : y.key ∈ C.map slotv := by rw [← hk]; exact List.mem_map.2 ⟨y, hy, rfl⟩
      obtain ⟨z, hz, hzy⟩ := List.mem_map.1 this
      rw [← slotv_inj (hzy.trans e)]; exact hz
    · unfold addC; rw [if_neg h1]; simp [hk]
  · have hx : x ∈ C := by
      have : e.key ∈ C.map slotv := by rw [← hk]; exact List.mem_map.2 ⟨e, List.mem_of_getElem? h1, rfl⟩
      obtain ⟨z, hz, hzy⟩ := List.mem_map.1 this
      rw [← slotv_inj (hzy.trans h2)]; exact hz
    have he : es[j]? = some e := by rw [← Array.getElem?_toList]; exact h1
    refine ⟨es.modify j fun e => { e with key := slotv x, val := v }, clock, ?_, ?_, ?_⟩
    · simp [Instr.mapUpdate, run_underlying und52, MapKept.run_getObj_map hb, check106, h3, he, h2, Instr.keyThatStays, bits106, MapKept.run_setObj_map _ hb, Result.andThen]
    · refine MapKept.stamped_modify hs j _ (fun _ _ => rfl) (fun e' _ h => ?_)
      rw [he] at h; cases h; exact h2.symm
    · rw [MapKept.modify_keys j _ (fun e' h => by rw [he] at h; cases h; exact h2.symm), hk]
      unfold addC; rw [if_pos hx]
end Rs
end Go.Proofs.Ytaapakpanbfmlaa
