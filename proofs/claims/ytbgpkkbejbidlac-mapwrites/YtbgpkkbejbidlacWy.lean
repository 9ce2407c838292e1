/-
  MapWrites: the walk, of what the reference's WriteMap answers (WMS).
-/
import Derived.Test.YtbgpkkbejbidlacWx
namespace Go.Proofs.Ytbgpkkbejbidlac
open Go.RowKit
theorem Two.many {pv lv : Value} {vad pad lad : Option Addr} {vcap pn pcap ln lcap : Nat} {L : List J} {P : List K} {F : List T} {w : World} (hm : 65535 < L.length) (ep : pv = .slice pad pn pcap) (el : lv = .slice lad ln lcap) :
    Two (.slice vad L.length vcap) pv lv L P F w := by
  subst ep el
  refine ⟨⟨#[]⟩, 12, 0, fun W hW => ?_, fun W B ad n c K pd pn pc ld ln lc hLK hK _ _ _ => ?_⟩
  · refine (Write_many vad L.length vcap _ _ _ _ _ _ W hm).mono ?_
    rintro e w' ⟨rfl, rfl⟩
    exact ⟨rfl, Below.refl _ _⟩
  · have hn : n = L.length := by
      have h1 := (own_cap hK.row).1
      have h2 := congrArg List.length hLK
      simp at h2
      omega
    subst hn
    refine (WriteMap_many ad _ c _ _ _ _ _ _ W hm).mono ?_
    rintro e w' ⟨rfl, rfl⟩
    exact ⟨rfl, Below.refl _ _⟩
theorem Two.few (hWM : WMS) {v pv lv : Value} {L : List J} {P : List K} {F : List T} {w : World} (hv : Has w v L) (hp : KIn w pv P) (hl : TIn w lv F) (htx : Txt P) (htk : ∀ j ∈ L, Tok j.f.locals ∧ Tok j.f.stack) (hcj : ∀ j ∈ L, ∀ ad n c, j.lv = .slice ad n c → n ≤ c)
    (hs : L.length + wsum L + P.length + F.length ≤ 4096) : Two v pv lv L P F w := by
  have hlen : ∀ k b, M.wrs P ((L.map J.f).take k) ⟨-1, F, []⟩ 0 = .ok b → b.length ≤ 190000 := fun k b hb => by
    rw [← List.map_take] at hb
    have h1 := M.wrs_le hb
    have h2 := wsum_take L k
    rw [List.length_take] at h1
    omega
  have hfok : ∀ j ∈ L, Fok j := fun j hj => by
    have := wsum_mem hj
    exact ⟨(htk j hj).1, (htk j hj).2, hcj j hj, by omega, by omega⟩
  have hA := fun (W : World) (hW : Below w.heap.size w W) => Write_any v pv lv L P F W (hv.below hW) (hp.below hW) (hl.below hW) hfok (by omega) (by omega) htx (by omega) hlen
  have hB := fun (W : World) (B : Nat) (ad : Option Addr) (n c : Nat) (K : List J) (pd : Option Addr) (pn pc : Nat) (ld : Option Addr) (ln lc : Nat) (hLK : L.map J.f = K.map J.f) (hK : Lst W B (.slice ad n c) K) (h3 : KIn W (.slice pd pn pc) P) (h4 : TIn W (.slice ld ln lc) F) (h5 : ln ≤ lc) =>
    hWM (.slice ad n c) (.slice pd pn pc) (.slice ld ln lc) K P F W (Has.of_lst hK) h3 h4 (fun a m d e => by cases e; exact h5) (fun j hj => by
      have hm : j.f ∈ L.map J.f := by rw [hLK]; exact List.mem_map_of_mem hj
      obtain ⟨i, hi, e⟩ := List.mem_map.1 hm
      have h6 := htk i hi
      have h7 := wsum_mem hi
      rw [e] at h6 h7
      exact ⟨h6.1, h6.2, fun a m d e2 => by have := (hK.own j hj).l; rw [e2] at this; exact (own_cap this).2, by omega, by omega⟩) (by omega) (by omega) htx (by have := congrArg List.length hLK; simp at this; omega) (by rw [← wsum_map hLK]; omega)
  cases hwr : M.write P F (L.map J.f) with
  | ok b =>
    refine ⟨⟨b.toArray⟩, 0, 0, fun W hW => ?_, fun W B ad n c K pd pn pc ld ln lc hLK hK h3 h4 h5 => ?_⟩
    · refine (hA W hW).mono ?_
      rintro e w' ⟨hb, hr⟩
      rw [hwr] at hr
      exact ⟨hr, hb⟩
    · refine (hB W B ad n c K pd pn pc ld ln lc hLK hK h3 h4 h5).mono ?_
      rintro e w' ⟨hb, hr⟩
      rw [← hLK, hwr] at hr
      exact ⟨hr, hb⟩
  | error x =>
    obtain ⟨x, k⟩ := x
    refine ⟨⟨#[]⟩, (x : Int), (k : Int), fun W hW => ?_, fun W B ad n c K pd pn pc ld ln lc hLK hK h3 h4 h5 => ?_⟩
    · refine (hA W hW).mono ?_
      rintro e w' ⟨hb, hr⟩
      rw [hwr] at hr
      exact ⟨hr, hb⟩
    · refine (hB W B ad n c K pd pn pc ld ln lc hLK hK h3 h4 h5).mono ?_
      rintro e w' ⟨hb, hr⟩
      rw [← hLK, hwr] at hr
      exact ⟨hr, hb⟩
theorem mwrites_walk (hWM : WMS) (v pv lv : Value) (L : List J) (P : List K) (F : List T) (w : World) (hL : L.length * 56 ≤ 140737488355328) (hP : P.length * 40 ≤ 140737488355328) (hF : F.length ≤ 4398046511104) (hv : Has w v L) (hp : KIn w pv P) (hl : TIn w lv F)
    (hb : ∀ j ∈ L, j.f.locals.length ≤ 4398046511104 ∧ j.f.stack.length ≤ 4398046511104) (htx : Txt P) (htk : ∀ j ∈ L, Tok j.f.locals ∧ Tok j.f.stack) (hcj : ∀ j ∈ L, ∀ ad n c, j.lv = .slice ad n c → n ≤ c) :
    Calls Try.prog 4 #[v, pv, lv] w fun x w' => x = .returned (.bool true) ∧ Below w.heap.size w w' := by
  refine mwrites_core v pv lv L P F w hL hP hF hv hp hl hb ?_
  by_cases hmany : 65535 < L.length
  · refine (weight_big L v w hv hb (by omega)).mono ?_
    rintro e w' ⟨⟨r, rfl⟩, hb2⟩
    obtain ⟨vad, vcap, ev, _⟩ := hv.form
    obtain ⟨lad, lcap, elv, _⟩ := hl
    obtain ⟨pad, pcap, epv, _⟩ := hp.ex
    refine ⟨r, rfl, hb2, fun _ => ?_⟩
    rw [ev]
    exact Two.many hmany epv elv
  · refine (weight_small L v w hv hb (by omega)).mono ?_
    rintro e w' ⟨rfl, hb2⟩
    refine ⟨_, rfl, hb2, fun hg => ?_⟩
    have hsum := wsum_le (N := 4398046511104) L hb
    have hmul : L.length * (2 * 4398046511104) ≤ 65535 * (2 * 4398046511104) := Nat.mul_le_mul_right _ (by omega)
    refine Two.few hWM hv hp hl htx htk hcj ?_
    generalize wsum L = q at *
    unfold wrap64 at hg
    omega
end Go.Proofs.Ytbgpkkbejbidlac
