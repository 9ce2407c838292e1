/-
  The reference: WriteMap's choice: its last way.
-/
import Derived.Test.YtbgpkkbejbidlacWx
import Derived.Test.YtbgpkkbejbidlacWq
import Derived.Lib.QuietBelow
namespace Go.Proofs.Ytbgpkkbejbidlac
set_option linter.unusedVariables false
open Go.RowKit
theorem Ot.base {w : World} {B B' : Nat} {v : Value} {l : List UInt8} (h : Ot w B v l) (hB : B' ≤ B) : Ot w B' v l := by
  obtain ⟨g, cap, cur, fz, h1, h2, h3⟩ := h
  exact ⟨g, cap, cur, fz, h1, Nat.le_trans hB h2, h3⟩
theorem Ot.slice {w : World} {B : Nat} {v : Value} {l : List UInt8} (h : Ot w B v l) : ∃ ad c, v = .slice ad l.length c := by
  obtain ⟨g, cap, cur, fz, h1, h2, h3⟩ := h
  exact ⟨_, _, h1⟩
theorem Ot.blk {w : World} {B : Nat} {v : Value} {l : List UInt8} (h : Ot w B v l) : ∀ b, v.ownBlock = some b → B ≤ b ∧ b < w.heap.size := by
  obtain ⟨g, cap, cur, fz, rfl, h2, h3, _⟩ := h
  intro b e
  cases e
  exact ⟨h2, (Array.getElem?_eq_some_iff.1 h3).1⟩
theorem below_drewN (w : World) (n B : Nat) : Below B w (w.drewN n) := ⟨rfl, rfl, rfl, Nat.le_refl _, fun _ _ => rfl⟩
theorem same_at {v u : Value} {A B : List T} {w : World} {r : Bool} (h1 : TIn w v A) (h2 : TIn w u B) (hA : A.length ≤ 1048576) (hr : decide (A.length = B.length ∧ M.sh A B = A.length) = r) (n : Nat) :
    Calls Try.prog 33 #[v, u] (w.drewN n) fun x w' => x = .returned (.bool r) ∧ ∃ m, w' = w.drewN m := by
  refine (same_any v u A B (w.drewN n) (h1.drewN n) (h2.drewN n) hA).mono ?_
  rintro e w' ⟨rfl, m, rfl⟩
  exact ⟨by rw [hr], n + m, World.drewN_drewN _ _ _⟩
theorem same_q {v u : Value} {A B : List T} {w : World} {r : Bool} (h1 : TIn w v A) (h2 : TIn w u B) (hA : A.length ≤ 1048576) (hr : decide (A.length = B.length ∧ M.sh A B = A.length) = r) (n : Nat) :
    Calls Try.prog 33 #[v, u] (w.drewN n) fun x w' => x = .returned (.bool r) ∧ ∃ m, w' = (w.drewN n).drewN m := by
  refine (same_any v u A B (w.drewN n) (h1.drewN n) (h2.drewN n) hA).mono ?_
  rintro e w' ⟨rfl, m, rfl⟩
  exact ⟨by rw [hr], m, rfl⟩
theorem Ot.not_bk {w : World} {B X : Nat} {v : Value} {l : List UInt8} {cs : Array Value} {t : TypeId} (h : Ot w B v l) (hX : Bk w X cs t) (ht : t ≠ 5) : some X ≠ v.ownBlock := by
  obtain ⟨g, cap, cur, fz, rfl, h2, h3, _⟩ := h
  intro e
  simp [Value.ownBlock] at e
  subst e
  unfold Bk at hX
  rw [h3] at hX
  simp at hX
  exact ht hX.2.1.symm
theorem below_grown {w w5 w6 : World} {B : Nat} {row : Option Nat} (h : Below B w w5) (hB : B ≤ w5.heap.size) (hg : w5.grownBy w6 row) (hr : ∀ b, row = some b → B ≤ b) : Below B w w6 :=
  ⟨hg.os.trans h.os, hg.tape.trans h.tape, hg.output.trans h.output, Nat.le_trans h.size hg.size, fun k hk => (hg.block k (by omega) (by intro e; have := hr k e.symm; omega)).trans (h.block k hk)⟩
theorem cat3 (x : UInt8) (a b : List UInt8) : (⟨#[x]⟩ : ByteArray) ++ ⟨a.toArray⟩ ++ ⟨b.toArray⟩ = ⟨(x :: (a ++ b)).toArray⟩ := by
  rw [show (⟨#[x]⟩ : ByteArray) = ⟨[x].toArray⟩ from rfl, cat_text, cat_text]; simp
theorem cat6 (x : UInt8) (a b c d e : List UInt8) : (⟨#[x]⟩ : ByteArray) ++ ⟨a.toArray⟩ ++ ⟨b.toArray⟩ ++ ⟨c.toArray⟩ ++ ⟨d.toArray⟩ ++ ⟨e.toArray⟩ = ⟨(x :: (a ++ b ++ c ++ d ++ e)).toArray⟩ := by
  rw [show (⟨#[x]⟩ : ByteArray) = ⟨[x].toArray⟩ from rfl, cat_text, cat_text, cat_text, cat_text, cat_text]; simp
theorem one_byte {n : Nat} (h : n < 256) : #[Value.int .u8 (n : Int)] = ([UInt8.ofNat n].map fun b => Value.int .u8 (b.toNat : Int)).toArray := by
  simp only [List.map_cons, List.map_nil]; rw [of_lt h]
theorem below_via {w w5 w' : World} (hb : Below w.heap.size w w5) (h3 : Below w5.heap.size w5 w') : Below w.heap.size w w' := hb.trans (h3.mono hb.size)
/-- The choice in the code of WriteMap. -/
def swOf : Code → Option Code
  | .block 2 c => some (.block 2 c)
  | .seq x y => match swOf x with
    | some c => some c
    | none => swOf y
  | .block _ c => swOf c
  | .loop c => swOf c
  | .scope c => swOf c
  | .cond _ x y => match swOf x with
    | some c => some c
    | none => swOf y
  | _ => none
/-- Its last way. -/
def dfOf : Code → Option Code
  | .cond (.tmp 210) x y => some (.cond (.tmp 210) x y)
  | .seq x y => match dfOf x with
    | some c => some c
    | none => dfOf y
  | .block _ c => dfOf c
  | .loop c => dfOf c
  | .scope c => dfOf c
  | .cond _ x y => match dfOf x with
    | some c => some c
    | none => dfOf y
  | _ => none
/-- No shorter form will do. -/
def NN (f a : Fm) : Prop := ¬ (f.locals.length = a.locals.length ∧ M.sh f.locals a.locals = f.locals.length ∧ f.stack.length ≤ 1) ∧ ¬ (f.locals.length < a.locals.length ∧ a.locals.length ≤ f.locals.length + 3 ∧ M.sh f.locals a.locals = f.locals.length ∧ f.stack.length = 0) ∧ ¬ (a.locals.length < f.locals.length ∧ f.locals.length ≤ a.locals.length + 3 ∧ M.sh f.locals a.locals = a.locals.length ∧ f.stack.length = 0)
set_option maxRecDepth 1000000 in
set_option maxHeartbeats 4000000 in
theorem arm_last {Q : Exit → Act → World → Prop} {c0 c2 c3 c4 c5 c6 c7 c8 c9 c10 c11 c12 c14 c17 c19 c20 c21 c22 c23 c24 c25 c26 c27 c28 c29 c30 c31 c32 c33 c34 c35 c36 c37 c38 c39 c40 c41 c42 c43 c44 c45 c46 c47 c48 c49 c50 c51 c52 c53 c54 c55 c56 c57 c58 c59 c60 c61 c62 c63 c64 c65 c66 c67 c68 c69 c70 c71 c72 c73 c74 c75 c76 c77 c78 c79 c80 c81 c82 c83 c84 c85 c86 c87 c88 c89 c90 c91 c92 c93 c94 c95 c96 c97 c98 c99 c100 c101 c102 c103 c104 c105 c106 c107 c108 c109 c110 c111 c112 c113 c114 c115 c116 c117 c118 c119 c120 c121 c122 c123 c124 c125 c126 c127 c128 c129 c130 c131 c132 c133 c134 c135 c136 c137 c138 c139 c140 c141 c142 c143 c144 c145 c146 c147 c148 c149 c150 c151 c152 c153 c154 c155 c156 c157 c158 c159 c160 c161 c162 c163 c164 c165 c166 c167 c168 c169 c170 c171 c172 c173 c174 c175 c176 c177 c178 c179 c180 c181 c182 c183 c184 c185 c186 c187 c188 c189 c190 c191 c192 c193 c194 c195 c196 c197 c198 c199 c200 c201 c202 c203 c204 c205 c206 c207 c208 c209 c211 c212 c213 c214 c215 c216 c217 c218 c219 c220 c221 c222 c223 c224 c225 c226 c227 c228 c229 c230 c231 c232 c233 c234 c235 c236 c237 c238 c239 c240 c241 c242 c243 c244 c245 c246 c247 c248 c249 c250 c251 c252 c253 c254 c255 c256 c257 c258 c259 c260 c261 c262 c263 c264 c265 : Value} {w5 : World} {P : List K} {f a : Fm} {pad fad sad : Option Addr} {pcap fcap scap X : Nat} {d e0 : Nat} {sb bd : List UInt8} (hX5 : Bk w5 X #[.int .i64 f.at_, .slice fad f.locals.length fcap, .slice sad f.stack.length scap] 29) (hT1 : TIn w5 (.slice fad f.locals.length fcap) f.locals) (hp5 : KIn w5 (.slice pad P.length pcap) P) (hfl : f.locals.length ≤ 4096) (hfs : f.stack.length ≤ 4096) (hP : P.length ≤ 4096) (Htl : Hid (Tok f.locals)) (Hmay : Hid (M.may f a)) (Hdt : Hid ((f.at_ - a.at_ - 1).toNat = d)) (Hbd : Hid (bd = M.big d 2)) (Htd : Hid (M.Td (M.vts P f.stack) sb e0)) (hsb : sb.length ≤ 3 * f.stack.length)
    (HN : Hid (NN f a))
    (HK : Hid (∀ (st : List UInt8) (x : Nat) (u22 u23 u83 u84 u85 u86 u87 u88 u89 u90 u91 u92 u93 u94 u95 u96 u97 u98 u99 u100 u101 u102 u103 u104 u105 u106 u107 u108 u109 u110 : Value) (w' : World), M.Td (M.frw P f a) st x → st.length ≤ 30000 → Below w5.heap.size w5 w' → Q .normal ⟨#[c0, .slice pad P.length pcap, c2, c3, c4, c5, c6, c7, c8, c9, c10, c11, c12, .pointer (some ⟨X, 0, none⟩), c14, .string ⟨sb.toArray⟩, .int .i64 (x : Int), c17, .string ⟨bd.toArray⟩, .string ⟨st.toArray⟩, c20, c21, u22, u23, c24, c25, c26, c27, c28, c29, c30, c31, c32, c33, c34, c35, c36, c37, c38, c39, c40, c41, c42, c43, c44, c45, c46, c47, c48, c49, c50, c51, c52, c53, c54, c55, c56, c57, c58, c59, c60, c61, c62, c63, c64, c65, c66, c67, c68, c69, c70, c71, c72, c73, c74, c75, c76, c77, c78, c79, c80, c81, c82, u83, u84, u85, u86, u87, u88, u89, u90, u91, u92, u93, u94, u95, u96, u97, u98, u99, u100, u101, u102, u103, u104, u105, u106, u107, u108, u109, u110, c111, c112, c113, c114, c115, c116, c117, c118, c119, c120, c121, c122, c123, c124, c125, c126, c127, c128, c129, c130, c131, c132, c133, c134, c135, c136, c137, c138, c139, c140, c141, c142, c143, c144, c145, c146, c147, c148, c149, c150, c151, c152, c153, c154, c155, c156, c157, c158, c159, c160, c161, c162, c163, c164, c165, c166, c167, c168, c169, c170, c171, c172, c173, c174, c175, c176, c177, c178, c179, c180, c181, c182, c183, c184, c185, c186, c187, c188, c189, c190, c191, c192, c193, c194, c195, c196, c197, c198, c199, c200, c201, c202, c203, c204, c205, c206, c207, c208, c209, .bool false, c211, c212, c213, c214, c215, c216, c217, c218, c219, c220, c221, c222, c223, c224, c225, c226, c227, c228, c229, c230, c231, c232, c233, c234, c235, c236, c237, c238, c239, c240, c241, c242, c243, c244, c245, c246, c247, c248, c249, c250, c251, c252, c253, c254, c255, c256, c257, c258, c259, c260, c261, c262, c263, c264, c265], []⟩ w')) :
    Code.wp Try.prog ((Try.f13.body.bind dfOf).getD .skip) Q ⟨#[c0, .slice pad P.length pcap, c2, c3, c4, c5, c6, c7, c8, c9, c10, c11, c12, .pointer (some ⟨X, 0, none⟩), c14, .string ⟨sb.toArray⟩, .int .i64 (e0 : Int), c17, .string ⟨bd.toArray⟩, c19, c20, c21, c22, c23, c24, c25, c26, c27, c28, c29, c30, c31, c32, c33, c34, c35, c36, c37, c38, c39, c40, c41, c42, c43, c44, c45, c46, c47, c48, c49, c50, c51, c52, c53, c54, c55, c56, c57, c58, c59, c60, c61, c62, c63, c64, c65, c66, c67, c68, c69, c70, c71, c72, c73, c74, c75, c76, c77, c78, c79, c80, c81, c82, c83, c84, c85, c86, c87, c88, c89, c90, c91, c92, c93, c94, c95, c96, c97, c98, c99, c100, c101, c102, c103, c104, c105, c106, c107, c108, c109, c110, c111, c112, c113, c114, c115, c116, c117, c118, c119, c120, c121, c122, c123, c124, c125, c126, c127, c128, c129, c130, c131, c132, c133, c134, c135, c136, c137, c138, c139, c140, c141, c142, c143, c144, c145, c146, c147, c148, c149, c150, c151, c152, c153, c154, c155, c156, c157, c158, c159, c160, c161, c162, c163, c164, c165, c166, c167, c168, c169, c170, c171, c172, c173, c174, c175, c176, c177, c178, c179, c180, c181, c182, c183, c184, c185, c186, c187, c188, c189, c190, c191, c192, c193, c194, c195, c196, c197, c198, c199, c200, c201, c202, c203, c204, c205, c206, c207, c208, c209, .bool false, c211, c212, c213, c214, c215, c216, c217, c218, c219, c220, c221, c222, c223, c224, c225, c226, c227, c228, c229, c230, c231, c232, c233, c234, c235, c236, c237, c238, c239, c240, c241, c242, c243, c244, c245, c246, c247, c248, c249, c250, c251, c252, c253, c254, c255, c256, c257, c258, c259, c260, c261, c262, c263, c264, c265], []⟩ w5 := by
  have z1 : w5.cell? ⟨X, 1, none⟩ = some (.slice fad f.locals.length fcap) := hX5.cell 1
  have z2 : w5.cell? ⟨X, 2, none⟩ = some (.slice sad f.stack.length scap) := hX5.cell 2
  have hbdl : bd.length = 2 := by rw [unhide Hbd, M.big_len]
  have HTl := hide (told_any (.slice fad f.locals.length fcap) (.slice pad P.length pcap) f.locals P w5 hT1 hp5 (by omega) (by omega) (unhide Htl))
  clear hT1 hp5
  conv => arg 2; whnf
  go_wp2_with fail
  refine (unhide HTl).mono ?_
  rintro e w6 ⟨lb, y, rfl, htl, hlb, hb6⟩
  have hX6 := hX5.below hb6
  clear z1 z2 HTl
  have z1 : w6.cell? ⟨X, 1, none⟩ = some (.slice fad f.locals.length fcap) := hX6.cell 1
  have z2 : w6.cell? ⟨X, 2, none⟩ = some (.slice sad f.stack.length scap) := hX6.cell 2
  obtain ⟨c1, hc1⟩ : ∃ c1, c1 = M.big f.locals.length 2 := ⟨_, rfl⟩
  obtain ⟨c2, hc2⟩ : ∃ c2, c2 = M.big f.stack.length 2 := ⟨_, rfl⟩
  have HC1 := hide (fun W => Big2_any f.locals.length (f.locals.length : Int) W rfl (by omega))
  have HC2 := hide (fun W => Big2_any f.stack.length (f.stack.length : Int) W rfl (by omega))
  have hc1l : c1.length = 2 := by rw [hc1, M.big_len]
  have hc2l : c2.length = 2 := by rw [hc2, M.big_len]
  have hw := M.way7 (P := P) (unhide Hmay) (unhide Hdt) (unhide HN).1 (unhide HN).2.1 (unhide HN).2.2 htl (unhide Htd)
  rw [← hc1, ← hc2, ← unhide Hbd] at hw
  rw [← hc1] at HC1
  rw [← hc2] at HC2
  have Hw := hide hw
  have Hb6 := hide hb6
  clear htl hw hc1 hc2 hX6 hX5 hb6 Hmay Hdt HN Htd Htl Hbd
  have X1 := cell_regrown z1
  have X2 := cell_regrown z2
  by_cases hy : y = 0
  · have hy1 : (((y : Int) != 0) : Bool) = false := by rw [hy]; rfl
    have hw2 := unhide Hw
    rw [if_pos hy] at hw2
    have Hw2 := hide hw2
    clear hy hw2 Hw
    go_wp2_with fail
    refine wp_region_quiet_below (by kernel_rfl) (by kernel_rfl) ?_
    repeat (go_big_quiet_step (first | (go_at_call_of 31 (f.locals); exact Calls.regrown_of (unhide HC1 _)) | (go_at_call_of 31 (f.stack); exact Calls.regrown_of (unhide HC2 _))))
    refine wpQuiet_nil ?_
    intro _ hw'
    obtain ⟨⟨dq, osq⟩, hw2⟩ := hw'
    subst hw2
    have hbq := below_regrown w6 dq osq
    clear X1 X2
    generalize Sort.grow (redrawn w6 dq) osq = w7 at *
    rw [cat6]
    exact unhide HK (255 :: (bd ++ c1 ++ lb ++ c2 ++ sb)) (e0) _ _ _ _ _ _ _ _ _ _ _ _ _ _ _ _ _ _ _ _ _ _ _ _ _ _ _ _ _ _ _ (unhide Hw2) (by simp; omega) ((unhide Hb6).trans (hbq.mono (unhide Hb6).size))
  · have hy1 : (((y : Int) != 0) : Bool) = true := by rw [bne_iff_ne]; omega
    have hw2 := unhide Hw
    rw [if_neg hy] at hw2
    have Hw2 := hide hw2
    clear hy hw2 Hw
    go_wp2_with fail
    refine wp_region_quiet_below (by kernel_rfl) (by kernel_rfl) ?_
    repeat (go_big_quiet_step (first | (go_at_call_of 31 (f.locals); exact Calls.regrown_of (unhide HC1 _)) | (go_at_call_of 31 (f.stack); exact Calls.regrown_of (unhide HC2 _))))
    refine wpQuiet_nil ?_
    intro _ hw'
    obtain ⟨⟨dq, osq⟩, hw2⟩ := hw'
    subst hw2
    have hbq := below_regrown w6 dq osq
    clear X1 X2
    generalize Sort.grow (redrawn w6 dq) osq = w7 at *
    rw [cat6]
    exact unhide HK (255 :: (bd ++ c1 ++ lb ++ c2 ++ sb)) (y) _ _ _ _ _ _ _ _ _ _ _ _ _ _ _ _ _ _ _ _ _ _ _ _ _ _ _ _ _ _ _ (unhide Hw2) (by simp; omega) ((unhide Hb6).trans (hbq.mono (unhide Hb6).size))
end Go.Proofs.Ytbgpkkbejbidlac
