/-
  CodeWrites: the walk.
-/
import Derived.Test.YtpmonoenppfekabDoorWeight
import Derived.Test.YtpmonoenppfekabDoorEncR
namespace Go.Proofs.YtpmonoenppfekabDoor
open Go.RowKit
theorem GHas.below {w w' : World} {v : Value} {L : List V} (h : GHas w v L) (hb : Below w.heap.size w w') : GHas w' v L := by
  refine ⟨?_, fun c hc => (h.fit c hc).below hb⟩
  obtain ⟨ad, cap, e, hc⟩ := h.form
  refine ⟨ad, cap, e, fun hne => ?_⟩
  obtain ⟨b, o, e1, hk⟩ := hc hne
  refine ⟨b, o, e1, fun k hk1 i hi => ?_⟩
  have h5 := hk k hk1 i hi
  have hci : (L[k]).arr[i]? = some ((L[k]).arr[i]'(by show i < 8; exact hi)) := Array.getElem?_eq_getElem _
  rw [hci] at h5 ⊢
  rw [hb.cell (cell_lt h5)]; exact h5
theorem fit_of_map {L K : List V} (he : K.map V.g = L.map V.g) (P : G → Prop) (h : ∀ c ∈ L, P c.g) : ∀ c ∈ K, P c.g := by
  intro c hc
  have : c.g ∈ L.map V.g := by rw [← he]; exact List.mem_map_of_mem hc
  obtain ⟨d, hd, e⟩ := List.mem_map.1 this
  rw [← e]; exact h d hd
set_option maxRecDepth 100000 in
set_option maxHeartbeats 2000000 in
theorem writes_walk (L : List V) (v : Value) (w : World) (hw : Wd w) (h : WHas w v L) (hl : L.length ≤ 35184372088832) : Calls Tryd.prog 6 #[v] w fun x w' => x = .returned (.bool true) ∧ Below w.heap.size w w' := by
  have HWt := hide (weight_any L v w h hl)
  obtain ⟨ad, cap, ev, _⟩ := h.form
  have HH := hide h
  have HW := hide hw
  subst ev
  clear h hw hl
  go_enter Tryd.func6, Tryd.ntmps6
  go_wp2_with fail
  refine (unhide HWt).mono ?_
  clear HWt
  rintro e w1 ⟨r, rfl, hr, hsm, hb1⟩
  by_cases hbig : 32768 < r
  · have hbi : (32768 : Int) < (r : Int) := by omega
    clear hsm hbig
    go_wp2
    go_ret
    exact ⟨rfl, hb1⟩
  · have hbi : ¬ (32768 : Int) < (r : Int) := by omega
    obtain ⟨hl, hbd⟩ := hsm (by omega)
    have hg0 := (unhide HH).has hbd
    have hg1 := hg0.below hb1
    have HG := hide hg0
    have HTw := hide (twin_any L (.slice ad L.length cap) w1 hg1 (by omega))
    have hfit : ∀ c ∈ L, (fun g : G => g.op < 256 ∧ g.keys.length ≤ 100000 ∧ g.tgts.length ≤ 100000 ∧ ∀ t ∈ g.tgts, (Lit.int .i64 t).wf = true) c.g := fun c hc => by
      have := hbd c hc
      exact ⟨(hg0.fit c hc).ok.op, by omega, by omega, (hg0.fit c hc).wf⟩
    have Hfit := hide hfit
    clear hsm hbd hg0 hg1 hfit hbig
    go_wp2_with fail
    refine (unhide HTw).mono ?_
    clear HTw
    rintro e w2 ⟨u, K, rfl, hK, hT⟩
    have hb2 := hb1.trans (hT.old.mono hb1.size)
    have hgK := hT.has (fit_of_map hK (fun g : G => g.op < 256 ∧ g.keys.length ≤ 100000 ∧ g.tgts.length ≤ 100000 ∧ ∀ t ∈ g.tgts, (Lit.int .i64 t).wf = true) (unhide Hfit))
    have hg2 := (unhide HG).below hb2
    have hKl : K.length = L.length := by have := congrArg List.length hK; simpa using this
    obtain ⟨ad2, cap2, ev2, _⟩ := hgK.form
    rw [hKl] at ev2
    subst ev2
    have HE := hide (Encode_any L (.slice ad L.length cap) w2 ((unhide HW).below hb2) hg2 (by omega))
    have HR := hide (fun (w3 : World) (hb : Below w2.heap.size w2 w3) => EncodeR_any K (.slice ad2 L.length cap2) w3 (hgK.below hb) (by omega))
    have HS := hide (fun (w3 : World) (hb : Below w2.heap.size w2 w3) => sameV_eq (.slice ad L.length cap) (.slice ad2 L.length cap2) L K w3 (hg2.below hb) (hgK.below hb) hK.symm (by omega))
    have HK := hide hK
    clear hT hgK hg2 hKl hK Hfit HG HH
    go_wp2_with fail
    refine (unhide HE).mono ?_
    clear HE
    rintro e w3 ⟨hb3, hx3⟩
    cases hen : M.encode (L.map V.g) with
    | error er =>
      obtain ⟨e1, k1⟩ := er
      rw [hen] at hx3
      simp only at hx3
      subst hx3
      have Hen := hide hen
      clear hen
      go_wp2_with fail
      refine (unhide HR _ hb3).mono ?_
      rintro e w4 ⟨hb4, hx4⟩
      rw [unhide HK, unhide Hen] at hx4
      simp only at hx4
      subst hx4
      have hb5 := hb3.trans (hb4.mono hb3.size)
      have he1 : ((e1 : Int) == (e1 : Int)) = true := by simp
      have hk1 : ((k1 : Int) == (k1 : Int)) = true := by simp
      go_wp2_with fail
      refine (unhide HS _ hb5).mono ?_
      rintro e w5 ⟨rfl, hb6⟩
      go_wp2
      go_ret
      have hb7 := hb2.trans (hb5.mono hb2.size)
      exact ⟨rfl, hb7.trans (hb6.mono hb7.size)⟩
    | ok bs =>
      rw [hen] at hx3
      simp only at hx3
      subst hx3
      have Hen := hide hen
      clear hen
      go_wp2_with fail
      refine (unhide HR _ hb3).mono ?_
      rintro e w4 ⟨hb4, hx4⟩
      rw [unhide HK, unhide Hen] at hx4
      simp only at hx4
      subst hx4
      have hb5 := hb3.trans (hb4.mono hb3.size)
      obtain ⟨bt, ebt⟩ : ∃ bt : ByteArray, bt = ⟨bs.toArray⟩ := ⟨_, rfl⟩
      rw [← ebt]
      clear ebt
      go_wp2_with fail
      refine (unhide HS _ hb5).mono ?_
      rintro e w5 ⟨rfl, hb6⟩
      go_wp2
      go_ret
      have hb7 := hb2.trans (hb5.mono hb2.size)
      exact ⟨rfl, hb7.trans (hb6.mono hb7.size)⟩
end Go.Proofs.YtpmonoenppfekabDoor
