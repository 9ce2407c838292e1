/-
  The next frame, as the reference reads it: plain mathematics.
-/
import Derived.Test.YtbgpkkbejbidlabMf
namespace Go.Proofs.Ytbgpkkbejbidlab
namespace M
def d1 (y : Nat) : Nat := if 64 ≤ y ∧ y < 128 then y - 64 else y
def dR (s : List UInt8) (y : Nat) (st : St) : Nat × St := if 247 ≤ y then rd s 2 st else (d1 y, st)
def bR (s : List UInt8) (P : List K) (L : List T) (y q : Nat) (st : St) : List T × List T × St :=
  if y < 64 ∨ y = 251 then (L, [], st)
  else if y < 128 ∨ y = 247 then (L, vals s P 1 st)
  else if y < 247 then (L, [], fail st 17 q)
  else if y < 251 then (if L.length < 251 - y then ([], [], fail st 17 q) else (L.take (L.length - (251 - y)), [], st))
  else if y < 255 then (L ++ (vals s P (y - 251) st).1, [], (vals s P (y - 251) st).2)
  else ((vals s P (rd s 2 st).1 (rd s 2 st).2).1, vals s P (rd s 2 (vals s P (rd s 2 st).1 (rd s 2 st).2).2).1 (rd s 2 (vals s P (rd s 2 st).1 (rd s 2 st).2).2).2)
def frR (s : List UInt8) (P : List K) (a : Fm) (st : St) : Fm × St :=
  (⟨a.at_ + 1 + ((dR s (rd s 1 st).1 (rd s 1 st).2).1 : Int), (bR s P a.locals (rd s 1 st).1 st.pos (dR s (rd s 1 st).1 (rd s 1 st).2).2).1, (bR s P a.locals (rd s 1 st).1 st.pos (dR s (rd s 1 st).1 (rd s 1 st).2).2).2.1⟩,
    (bR s P a.locals (rd s 1 st).1 st.pos (dR s (rd s 1 st).1 (rd s 1 st).2).2).2.2)
theorem bR_bad {s : List UInt8} {P : List K} {L : List T} {y q : Nat} {st : St} (h : st.e ≠ 0) : (bR s P L y q st).2.2 = st := by
  unfold bR
  split
  · rfl
  · split
    · rw [vals_bad h]
    · split
      · exact fail_bad h
      · split
        · split
          · exact fail_bad h
          · rfl
        · split
          · simp only; rw [vals_bad h]
          · simp only; rw [rd_bad h, vals_bad h]; simp only; rw [rd_bad h, vals_bad h]
theorem bR_body {s : List UInt8} {P : List K} {L : List T} {y q : Nat} {st : St} (hy : ¬ (128 ≤ y ∧ y < 247)) (hy2 : y < 256) :
    (bR s P L y q st).2.2 = (body s P L y q st).2.2 ∧ ((bR s P L y q st).2.2.e = 0 → bR s P L y q st = body s P L y q st) := by
  by_cases he : st.e = 0
  · have hne : ¬ st.e ≠ 0 := fun h => h he
    unfold body
    rw [if_neg hne]
    by_cases h1 : y < 64 ∨ y = 251
    · have e1 : bR s P L y q st = (L, [], st) := by unfold bR; rw [if_pos h1]
      rw [e1]
      rcases h1 with h1 | h1
      · rw [if_neg (by omega), if_neg (by omega), if_neg (by omega), if_neg (by omega)]; exact ⟨rfl, fun _ => rfl⟩
      · subst h1
        rw [if_neg (by omega), if_neg (by omega), if_pos (by omega), if_neg (by omega)]
        exact ⟨rfl, fun _ => by simp⟩
    · by_cases h2 : y < 128 ∨ y = 247
      · have e1 : bR s P L y q st = (L, vals s P 1 st) := by unfold bR; rw [if_neg h1, if_pos h2]
        rw [e1, if_neg (by omega), if_neg (by omega), if_neg (by omega), if_pos (by omega)]; exact ⟨rfl, fun _ => rfl⟩
      · by_cases h4 : y < 251
        · have e1 : bR s P L y q st = (if L.length < 251 - y then ([], [], fail st 17 q) else (L.take (L.length - (251 - y)), [], st)) := by
            unfold bR; rw [if_neg h1, if_neg h2, if_neg (by omega), if_pos h4]
          rw [e1, if_neg (show ¬ y = 255 by omega), if_neg (show ¬ 251 < y by omega), if_pos (show 247 < y by omega)]; exact ⟨rfl, fun _ => rfl⟩
        · by_cases h5 : y < 255
          · have e1 : bR s P L y q st = (L ++ (vals s P (y - 251) st).1, [], (vals s P (y - 251) st).2) := by
              unfold bR; rw [if_neg h1, if_neg h2, if_neg (by omega), if_neg h4, if_pos h5]
            rw [e1, if_neg (by omega), if_pos (by omega)]; exact ⟨rfl, fun _ => rfl⟩
          · have e1 : bR s P L y q st = ((vals s P (rd s 2 st).1 (rd s 2 st).2).1, vals s P (rd s 2 (vals s P (rd s 2 st).1 (rd s 2 st).2).2).1 (rd s 2 (vals s P (rd s 2 st).1 (rd s 2 st).2).2).2) := by
              unfold bR; rw [if_neg h1, if_neg h2, if_neg (by omega), if_neg h4, if_neg h5]
            rw [e1, if_pos (by omega)]
            by_cases g1 : (rd s 2 st).2.e = 0
            · rw [if_neg (show ¬ (rd s 2 st).2.e ≠ 0 from fun h => h g1)]
              by_cases g2 : (vals s P (rd s 2 st).1 (rd s 2 st).2).2.e = 0
              · rw [if_neg (show ¬ (vals s P (rd s 2 st).1 (rd s 2 st).2).2.e ≠ 0 from fun h => h g2)]
                by_cases g3 : (rd s 2 (vals s P (rd s 2 st).1 (rd s 2 st).2).2).2.e = 0
                · rw [if_neg (show ¬ (rd s 2 (vals s P (rd s 2 st).1 (rd s 2 st).2).2).2.e ≠ 0 from fun h => h g3)]
                  exact ⟨rfl, fun _ => rfl⟩
                · rw [if_pos g3, vals_bad g3]
                  exact ⟨rfl, fun h => absurd h g3⟩
              · rw [if_pos g2, rd_bad g2, vals_bad g2]
                exact ⟨rfl, fun h => absurd h g2⟩
            · rw [if_pos g1, vals_bad g1]
              simp only
              rw [rd_bad g1, vals_bad g1]
              exact ⟨rfl, fun h => absurd h g1⟩
  · have hA := bR_bad (s := s) (P := P) (L := L) (y := y) (q := q) he
    have hB : body s P L y q st = ([], [], st) := by unfold body; rw [if_pos he]
    rw [hA, hB]
    exact ⟨rfl, fun h => absurd h he⟩
theorem frR_eq (s : List UInt8) (P : List K) (a : Fm) (st : St) : (frR s P a st).2 = (frame s P a st).2 ∧ ((frR s P a st).2.e = 0 → frR s P a st = frame s P a st) := by
  have hx := rd1 s st
  unfold frR frame
  by_cases h1 : (rd s 1 st).2.e = 0
  · rw [if_neg (show ¬ (rd s 1 st).2.e ≠ 0 from fun h => h h1)]
    by_cases h2 : 128 ≤ (rd s 1 st).1 ∧ (rd s 1 st).1 < 247
    · rw [if_pos h2]
      have hd : dR s (rd s 1 st).1 (rd s 1 st).2 = (d1 (rd s 1 st).1, (rd s 1 st).2) := by unfold dR; rw [if_neg (by omega)]
      have hb : bR s P a.locals (rd s 1 st).1 st.pos (rd s 1 st).2 = (a.locals, [], fail (rd s 1 st).2 17 st.pos) := by
        unfold bR; rw [if_neg (by omega), if_neg (by omega), if_pos (by omega)]
      rw [hd]
      simp only
      rw [hb]
      exact ⟨rfl, fun h => absurd h (fail_e (by decide))⟩
    · rw [if_neg h2]
      have hd : dR s (rd s 1 st).1 (rd s 1 st).2 = dlt s (rd s 1 st).1 (rd s 1 st).2 := by
        unfold dR dlt d1
        by_cases g1 : (rd s 1 st).1 < 64
        · rw [if_neg (by omega), if_neg (by omega), if_pos g1]
        · by_cases g2 : (rd s 1 st).1 < 128
          · rw [if_neg (by omega), if_pos ⟨by omega, g2⟩, if_neg g1, if_pos g2]
          · rw [if_pos (by omega), if_neg g1, if_neg g2]
      rw [hd]
      obtain ⟨e1, e2⟩ := bR_body (s := s) (P := P) (L := a.locals) (y := (rd s 1 st).1) (q := st.pos) (st := (dlt s (rd s 1 st).1 (rd s 1 st).2).2) h2 hx
      exact ⟨e1, fun h => by rw [e2 h]⟩
  · rw [if_pos h1]
    have h0 := rd_none h1
    have hd : dR s (rd s 1 st).1 (rd s 1 st).2 = (d1 (rd s 1 st).1, (rd s 1 st).2) := by unfold dR; rw [if_neg (by omega)]
    rw [hd]
    simp only
    rw [bR_bad h1]
    exact ⟨rfl, fun h => absurd h h1⟩
theorem dR_lt (s : List UInt8) {y : Nat} (st : St) (hy : y < 256) : (dR s y st).1 < 65536 := by
  have := rd2 s st
  unfold dR d1
  split
  · exact this
  · simp only; split <;> omega
end M
end Go.Proofs.Ytbgpkkbejbidlab
