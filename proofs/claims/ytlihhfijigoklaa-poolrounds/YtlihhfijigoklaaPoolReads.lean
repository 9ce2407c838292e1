/-
  The walk of PoolReads.
-/
import Derived.Test.YtlihhfijigoklaaSame
import Derived.Test.YtlihhfijigoklaaRefRead
namespace Go.Proofs.Ytlihhfijigoklaa
open Go.RowKit
theorem Fin'.len {s : List UInt8} {n : Nat} : ∀ {f : Nat} {l : List K} {at_ : Nat} {r : Res}, Fin' s n f l at_ r → l.length ≤ n → r.1.length ≤ n
  | 0, _, _, _, h, _ => h.elim
  | f + 1, l, at_, r, h, hl => by
    rcases h with ⟨_, rfl⟩ | ⟨h1, c, x, hc, ⟨_, rfl⟩ | ⟨_, ⟨_, h⟩ | ⟨_, _, rfl⟩ | ⟨_, h2, h⟩⟩⟩
    · exact hl
    · exact Nat.zero_le _
    · exact h.len (by simp; omega)
    · exact Nat.zero_le _
    · exact h.len (by simp; omega)
theorem ReadRes.len {s : List UInt8} {r : Res} (h : ReadRes s r) : r.1.length ≤ 65535 := by
  rcases h with ⟨_, rfl⟩ | ⟨_, _, rfl⟩ | ⟨_, h2, f, h3⟩
  · exact Nat.zero_le _
  · exact Nat.zero_le _
  · have := h3.len (by simp; omega)
    have := num_le2 s
    omega
set_option maxRecDepth 100000 in
set_option maxHeartbeats 1000000 in
theorem PoolReads_main (s : ByteArray) (w : World) (hs : s.size ≤ 32768) :
    Calls Try.prog 5 #[.string s] w fun e w' => e = .returned (.bool true) ∧ Below w.heap.size w w' := by
  go_enter Try.func5, Try.ntmps5
  go_wp2_with fail
  refine (Read_any s w (by omega)).mono ?_
  rintro e w1 ⟨l, n, x, p, v, hr, rfl, ho, hb1⟩
  have Hr := hide hr
  clear hr
  go_wp2_with fail
  refine (RefRead_any s w1 (by omega)).mono ?_
  rintro e w2 ⟨l', n', x', p', v', hr', rfl, ho', hb2⟩
  have hq := (unhide Hr).uniq hr'
  simp only [Prod.mk.injEq] at hq
  obtain ⟨rfl, rfl, rfl, rfl⟩ := hq
  have hlen := hr'.len
  simp only at hlen
  have hs1 := Has.of_out (ho.below hb2)
  have hs2 := Has.of_out ho'
  have hb : Below w.heap.size w w2 := hb1.trans (hb2.mono hb1.size)
  clear Hr hr' ho ho' hb1 hb2
  go_wp2_with fail
  refine (same_any v v' l w2 (by omega) hs1 hs2).mono ?_
  rintro e w3 ⟨rfl, k, rfl⟩
  clear hs1 hs2
  go_wp2
  go_ret
  exact ⟨rfl, below_drewN hb k⟩
set_option maxRecDepth 100000 in
set_option maxHeartbeats 1000000 in
theorem PoolReads_big (s : ByteArray) (w : World) (hm : s.size ≤ maxLen) (hs : 32768 < s.size) :
    Calls Try.prog 5 #[.string s] w fun e w' => e = .returned (.bool true) ∧ Below w.heap.size w w' := by
  unfold maxLen at hm
  go_enter Try.func5, Try.ntmps5
  go_wp2
  go_ret
  exact ⟨rfl, Below.refl _ _⟩
end Go.Proofs.Ytlihhfijigoklaa
