/-
  The law's step: the walks.
-/
import Derived.Test.YtaapakpanbfmlaaQo
namespace Go.Proofs.Ytaapakpanbfmlaa
namespace Rs
open Go.RowKit Hp
set_option linter.unusedVariables false
set_option linter.unusedSimpArgs false
/-- What the step reads besides: the pair of spaces, the step. -/
def Kp (wb sb sb' ob : Nat) (o : Array Value) (w : World) : Prop := w.heap[wb]? = some (.cells #[.pointer (some ⟨sb, 0, none⟩), .pointer (some ⟨sb', 0, none⟩)] 29 (0, 0)) ∧ w.heap[ob]? = some (.cells o 32 (0, 0))
def St6 (R : World → Prop) (e : Ending) (w' : World) : Prop := e = .returned (.bool true) ∧ R w'
end Rs
end Go.Proofs.Ytaapakpanbfmlaa

namespace Go.Proofs.Ytaapakpanbfmlaa
namespace Rs
open Go.RowKit Hp
set_option linter.unusedVariables false
set_option linter.unusedSimpArgs false
set_option maxRecDepth 100000 in
set_option maxHeartbeats 4000000 in
theorem st6_1 (wb sb sb' : Nat) (a b cc : Int) (x : Nat) (w : World) {R1 : Int → World → Prop} {R2 : World → Prop} (hwb : wb < w.heap.size) (hw : w.heap[wb]? = some (.cells #[.pointer (some ⟨sb, 0, none⟩), .pointer (some ⟨sb', 0, none⟩)] 29 (0, 0)))
    (HP : Hid (∀ j, Calls Try.prog 10 #[.pointer (some ⟨sb, 0, none⟩), .int .i64 a, .int .i64 b, .int .i64 cc] ((w.alloc (.cells #[.int .i64 1, .int .i64 a, .int .i64 b, .int .i64 cc, .int .u64 (x : Int)] 32)).drewN j) fun e w1 => ∃ v, e = .returned (.int .i64 v) ∧ R1 v w1)) (HK : Hid (∀ v w1, R1 v w1 → Kp wb sb sb' w.heap.size #[.int .i64 1, .int .i64 a, .int .i64 b, .int .i64 cc, .int .u64 (x : Int)] w1)) (HQ : Hid (∀ v w1, R1 v w1 → Calls Try.prog 17 #[.pointer (some ⟨sb', 0, none⟩), .int .i64 a, .int .i64 b, .int .i64 cc] w1 fun e w2 => e = .returned (.int .i64 v) ∧ R2 w2)) (HK2 : Hid (∀ w2, R2 w2 → Kp wb sb sb' w.heap.size #[.int .i64 1, .int .i64 a, .int .i64 b, .int .i64 cc, .int .u64 (x : Int)] w2)) :
    Calls Try.prog 6 #[.pointer (some ⟨wb, 0, none⟩), .agg #[.int .i64 1, .int .i64 a, .int .i64 b, .int .i64 cc, .int .u64 (x : Int)]] w (St6 R2) := by
  have c0 : (w.alloc (.cells #[.int .i64 1, .int .i64 a, .int .i64 b, .int .i64 cc, .int .u64 (x : Int)] 32)).cell? ⟨wb, 0, none⟩ = some (.pointer (some ⟨sb, 0, none⟩)) := by
    rw [cell_of_row _ wb 0 _ 29 (0, 0) (by rw [Below.heap_alloc w _ wb hwb]; exact hw)]; rfl
  have c1 : (w.alloc (.cells #[.int .i64 1, .int .i64 a, .int .i64 b, .int .i64 cc, .int .u64 (x : Int)] 32)).cell? ⟨wb, 1, none⟩ = some (.pointer (some ⟨sb', 0, none⟩)) := by
    rw [cell_of_row _ wb 1 _ 29 (0, 0) (by rw [Below.heap_alloc w _ wb hwb]; exact hw)]; rfl
  clear hw hwb
  go_enter Try.func6, Try.ntmps6
  go_wp2_with fail
  go_region_held3 (fun w' => w'.cell? ⟨wb, 0, none⟩ = some (.pointer (some ⟨sb, 0, none⟩)) ∧ w'.cell? ⟨wb, 1, none⟩ = some (.pointer (some ⟨sb', 0, none⟩)) ∧ w'.cell? ⟨w.heap.size, 1, none⟩ = some (.int .i64 a) ∧ w'.cell? ⟨w.heap.size, 2, none⟩ = some (.int .i64 b) ∧ w'.cell? ⟨w.heap.size, 3, none⟩ = some (.int .i64 cc)) (go_keep) (first | (go_at_call 10; refine (unhide HP _).mono ?_; rintro e w1 ⟨v, rfl, hr⟩; have HR := hide hr; have z0 := cell_of_row w1 wb 0 _ 29 (0, 0) (unhide HK _ _ hr).1; have z1 := cell_of_row w1 wb 1 _ 29 (0, 0) (unhide HK _ _ hr).1; have y1 := cell_of_row w1 w.heap.size 1 _ 32 (0, 0) (unhide HK _ _ hr).2; have y2 := cell_of_row w1 w.heap.size 2 _ 32 (0, 0) (unhide HK _ _ hr).2; have y3 := cell_of_row w1 w.heap.size 3 _ 32 (0, 0) (unhide HK _ _ hr).2; simp at z0 z1 y1 y2 y3; clear hr) | (go_at_call 17; refine (unhide HQ _ _ (unhide HR)).mono ?_; rintro e w2 ⟨rfl, hr2⟩; have HR2 := hide hr2; clear z0 z1 y1 y2 y3; have z0 := cell_of_row w2 wb 0 _ 29 (0, 0) (unhide HK2 _ hr2).1; have z1 := cell_of_row w2 wb 1 _ 29 (0, 0) (unhide HK2 _ hr2).1; have y1 := cell_of_row w2 w.heap.size 1 _ 32 (0, 0) (unhide HK2 _ hr2).2; have y2 := cell_of_row w2 w.heap.size 2 _ 32 (0, 0) (unhide HK2 _ hr2).2; have y3 := cell_of_row w2 w.heap.size 3 _ 32 (0, 0) (unhide HK2 _ hr2).2; simp at z0 z1 y1 y2 y3; clear hr2) | fail)
  have v1 : (v == v) = true := by simp
  go_wp2
  go_ret
  exact ⟨rfl, unhide HR2⟩
set_option maxRecDepth 100000 in
set_option maxHeartbeats 4000000 in
theorem st6_2 (wb sb sb' : Nat) (a b cc : Int) (x : Nat) (w : World) {R1 : Int → World → Prop} {R2 : World → Prop} (hwb : wb < w.heap.size) (hw : w.heap[wb]? = some (.cells #[.pointer (some ⟨sb, 0, none⟩), .pointer (some ⟨sb', 0, none⟩)] 29 (0, 0)))
    (HP : Hid (∀ j, Calls Try.prog 18 #[.pointer (some ⟨sb, 0, none⟩), .int .i64 a, .int .i64 b] ((w.alloc (.cells #[.int .i64 2, .int .i64 a, .int .i64 b, .int .i64 cc, .int .u64 (x : Int)] 32)).drewN j) fun e w1 => ∃ v, e = .returned (.int .i64 v) ∧ R1 v w1)) (HK : Hid (∀ v w1, R1 v w1 → Kp wb sb sb' w.heap.size #[.int .i64 2, .int .i64 a, .int .i64 b, .int .i64 cc, .int .u64 (x : Int)] w1)) (HQ : Hid (∀ v w1, R1 v w1 → Calls Try.prog 19 #[.pointer (some ⟨sb', 0, none⟩), .int .i64 a, .int .i64 b] w1 fun e w2 => e = .returned (.int .i64 v) ∧ R2 w2)) (HK2 : Hid (∀ w2, R2 w2 → Kp wb sb sb' w.heap.size #[.int .i64 2, .int .i64 a, .int .i64 b, .int .i64 cc, .int .u64 (x : Int)] w2)) :
    Calls Try.prog 6 #[.pointer (some ⟨wb, 0, none⟩), .agg #[.int .i64 2, .int .i64 a, .int .i64 b, .int .i64 cc, .int .u64 (x : Int)]] w (St6 R2) := by
  have c0 : (w.alloc (.cells #[.int .i64 2, .int .i64 a, .int .i64 b, .int .i64 cc, .int .u64 (x : Int)] 32)).cell? ⟨wb, 0, none⟩ = some (.pointer (some ⟨sb, 0, none⟩)) := by
    rw [cell_of_row _ wb 0 _ 29 (0, 0) (by rw [Below.heap_alloc w _ wb hwb]; exact hw)]; rfl
  have c1 : (w.alloc (.cells #[.int .i64 2, .int .i64 a, .int .i64 b, .int .i64 cc, .int .u64 (x : Int)] 32)).cell? ⟨wb, 1, none⟩ = some (.pointer (some ⟨sb', 0, none⟩)) := by
    rw [cell_of_row _ wb 1 _ 29 (0, 0) (by rw [Below.heap_alloc w _ wb hwb]; exact hw)]; rfl
  clear hw hwb
  go_enter Try.func6, Try.ntmps6
  go_wp2_with fail
  go_region_held3 (fun w' => w'.cell? ⟨wb, 0, none⟩ = some (.pointer (some ⟨sb, 0, none⟩)) ∧ w'.cell? ⟨wb, 1, none⟩ = some (.pointer (some ⟨sb', 0, none⟩)) ∧ w'.cell? ⟨w.heap.size, 1, none⟩ = some (.int .i64 a) ∧ w'.cell? ⟨w.heap.size, 2, none⟩ = some (.int .i64 b)) (go_keep) (first | (go_at_call 18; refine (unhide HP _).mono ?_; rintro e w1 ⟨v, rfl, hr⟩; have HR := hide hr; have z0 := cell_of_row w1 wb 0 _ 29 (0, 0) (unhide HK _ _ hr).1; have z1 := cell_of_row w1 wb 1 _ 29 (0, 0) (unhide HK _ _ hr).1; have y1 := cell_of_row w1 w.heap.size 1 _ 32 (0, 0) (unhide HK _ _ hr).2; have y2 := cell_of_row w1 w.heap.size 2 _ 32 (0, 0) (unhide HK _ _ hr).2; simp at z0 z1 y1 y2; clear hr) | (go_at_call 19; refine (unhide HQ _ _ (unhide HR)).mono ?_; rintro e w2 ⟨rfl, hr2⟩; have HR2 := hide hr2; clear z0 z1 y1 y2; have z0 := cell_of_row w2 wb 0 _ 29 (0, 0) (unhide HK2 _ hr2).1; have z1 := cell_of_row w2 wb 1 _ 29 (0, 0) (unhide HK2 _ hr2).1; have y1 := cell_of_row w2 w.heap.size 1 _ 32 (0, 0) (unhide HK2 _ hr2).2; have y2 := cell_of_row w2 w.heap.size 2 _ 32 (0, 0) (unhide HK2 _ hr2).2; simp at z0 z1 y1 y2; clear hr2) | fail)
  have v1 : (v == v) = true := by simp
  go_wp2
  go_ret
  exact ⟨rfl, unhide HR2⟩
set_option maxRecDepth 100000 in
set_option maxHeartbeats 4000000 in
theorem st6_3 (wb sb sb' : Nat) (a b cc : Int) (x : Nat) (w : World) {R1 : Int → World → Prop} {R2 : World → Prop} (hwb : wb < w.heap.size) (hw : w.heap[wb]? = some (.cells #[.pointer (some ⟨sb, 0, none⟩), .pointer (some ⟨sb', 0, none⟩)] 29 (0, 0)))
    (HP : Hid (∀ j, Calls Try.prog 20 #[.pointer (some ⟨sb, 0, none⟩), .int .i64 a] ((w.alloc (.cells #[.int .i64 3, .int .i64 a, .int .i64 b, .int .i64 cc, .int .u64 (x : Int)] 32)).drewN j) fun e w1 => ∃ v, e = .returned (.int .i64 v) ∧ R1 v w1)) (HK : Hid (∀ v w1, R1 v w1 → Kp wb sb sb' w.heap.size #[.int .i64 3, .int .i64 a, .int .i64 b, .int .i64 cc, .int .u64 (x : Int)] w1)) (HQ : Hid (∀ v w1, R1 v w1 → Calls Try.prog 21 #[.pointer (some ⟨sb', 0, none⟩), .int .i64 a] w1 fun e w2 => e = .returned (.int .i64 v) ∧ R2 w2)) (HK2 : Hid (∀ w2, R2 w2 → Kp wb sb sb' w.heap.size #[.int .i64 3, .int .i64 a, .int .i64 b, .int .i64 cc, .int .u64 (x : Int)] w2)) :
    Calls Try.prog 6 #[.pointer (some ⟨wb, 0, none⟩), .agg #[.int .i64 3, .int .i64 a, .int .i64 b, .int .i64 cc, .int .u64 (x : Int)]] w (St6 R2) := by
  have c0 : (w.alloc (.cells #[.int .i64 3, .int .i64 a, .int .i64 b, .int .i64 cc, .int .u64 (x : Int)] 32)).cell? ⟨wb, 0, none⟩ = some (.pointer (some ⟨sb, 0, none⟩)) := by
    rw [cell_of_row _ wb 0 _ 29 (0, 0) (by rw [Below.heap_alloc w _ wb hwb]; exact hw)]; rfl
  have c1 : (w.alloc (.cells #[.int .i64 3, .int .i64 a, .int .i64 b, .int .i64 cc, .int .u64 (x : Int)] 32)).cell? ⟨wb, 1, none⟩ = some (.pointer (some ⟨sb', 0, none⟩)) := by
    rw [cell_of_row _ wb 1 _ 29 (0, 0) (by rw [Below.heap_alloc w _ wb hwb]; exact hw)]; rfl
  clear hw hwb
  go_enter Try.func6, Try.ntmps6
  go_wp2_with fail
  go_region_held3 (fun w' => w'.cell? ⟨wb, 0, none⟩ = some (.pointer (some ⟨sb, 0, none⟩)) ∧ w'.cell? ⟨wb, 1, none⟩ = some (.pointer (some ⟨sb', 0, none⟩)) ∧ w'.cell? ⟨w.heap.size, 1, none⟩ = some (.int .i64 a)) (go_keep) (first | (go_at_call 20; refine (unhide HP _).mono ?_; rintro e w1 ⟨v, rfl, hr⟩; have HR := hide hr; have z0 := cell_of_row w1 wb 0 _ 29 (0, 0) (unhide HK _ _ hr).1; have z1 := cell_of_row w1 wb 1 _ 29 (0, 0) (unhide HK _ _ hr).1; have y1 := cell_of_row w1 w.heap.size 1 _ 32 (0, 0) (unhide HK _ _ hr).2; simp at z0 z1 y1; clear hr) | (go_at_call 21; refine (unhide HQ _ _ (unhide HR)).mono ?_; rintro e w2 ⟨rfl, hr2⟩; have HR2 := hide hr2; clear z0 z1 y1; have z0 := cell_of_row w2 wb 0 _ 29 (0, 0) (unhide HK2 _ hr2).1; have z1 := cell_of_row w2 wb 1 _ 29 (0, 0) (unhide HK2 _ hr2).1; have y1 := cell_of_row w2 w.heap.size 1 _ 32 (0, 0) (unhide HK2 _ hr2).2; simp at z0 z1 y1; clear hr2) | fail)
  have v1 : (v == v) = true := by simp
  go_wp2
  go_ret
  exact ⟨rfl, unhide HR2⟩
end Rs
end Go.Proofs.Ytaapakpanbfmlaa

namespace Go.Proofs.Ytaapakpanbfmlaa
namespace Rs
open Go.RowKit Hp
set_option linter.unusedVariables false
set_option linter.unusedSimpArgs false
set_option maxRecDepth 100000 in
set_option maxHeartbeats 4000000 in
theorem st6_4 (wb sb sb' : Nat) (a b cc : Int) (x : Nat) (w : World) {R1 : Int → World → Prop} {R2 : World → Prop} (hwb : wb < w.heap.size) (hw : w.heap[wb]? = some (.cells #[.pointer (some ⟨sb, 0, none⟩), .pointer (some ⟨sb', 0, none⟩)] 29 (0, 0)))
    (HP : Hid (∀ j, Calls Try.prog 14 #[.pointer (some ⟨sb, 0, none⟩), .int .i64 a, .int .i64 b, .int .i64 cc] ((w.alloc (.cells #[.int .i64 4, .int .i64 a, .int .i64 b, .int .i64 cc, .int .u64 (x : Int)] 32)).drewN j) fun e w1 => ∃ v, e = .returned (.int .i64 v) ∧ R1 v w1)) (HK : Hid (∀ v w1, R1 v w1 → Kp wb sb sb' w.heap.size #[.int .i64 4, .int .i64 a, .int .i64 b, .int .i64 cc, .int .u64 (x : Int)] w1)) (HQ : Hid (∀ v w1, R1 v w1 → Calls Try.prog 22 #[.pointer (some ⟨sb', 0, none⟩), .int .i64 a, .int .i64 b, .int .i64 cc] w1 fun e w2 => e = .returned (.int .i64 v) ∧ R2 w2)) (HK2 : Hid (∀ w2, R2 w2 → Kp wb sb sb' w.heap.size #[.int .i64 4, .int .i64 a, .int .i64 b, .int .i64 cc, .int .u64 (x : Int)] w2)) :
    Calls Try.prog 6 #[.pointer (some ⟨wb, 0, none⟩), .agg #[.int .i64 4, .int .i64 a, .int .i64 b, .int .i64 cc, .int .u64 (x : Int)]] w (St6 R2) := by
  have c0 : (w.alloc (.cells #[.int .i64 4, .int .i64 a, .int .i64 b, .int .i64 cc, .int .u64 (x : Int)] 32)).cell? ⟨wb, 0, none⟩ = some (.pointer (some ⟨sb, 0, none⟩)) := by
    rw [cell_of_row _ wb 0 _ 29 (0, 0) (by rw [Below.heap_alloc w _ wb hwb]; exact hw)]; rfl
  have c1 : (w.alloc (.cells #[.int .i64 4, .int .i64 a, .int .i64 b, .int .i64 cc, .int .u64 (x : Int)] 32)).cell? ⟨wb, 1, none⟩ = some (.pointer (some ⟨sb', 0, none⟩)) := by
    rw [cell_of_row _ wb 1 _ 29 (0, 0) (by rw [Below.heap_alloc w _ wb hwb]; exact hw)]; rfl
  clear hw hwb
  go_enter Try.func6, Try.ntmps6
  go_wp2_with fail
  go_region_held3 (fun w' => w'.cell? ⟨wb, 0, none⟩ = some (.pointer (some ⟨sb, 0, none⟩)) ∧ w'.cell? ⟨wb, 1, none⟩ = some (.pointer (some ⟨sb', 0, none⟩)) ∧ w'.cell? ⟨w.heap.size, 1, none⟩ = some (.int .i64 a) ∧ w'.cell? ⟨w.heap.size, 2, none⟩ = some (.int .i64 b) ∧ w'.cell? ⟨w.heap.size, 3, none⟩ = some (.int .i64 cc)) (go_keep) (first | (go_at_call 14; refine (unhide HP _).mono ?_; rintro e w1 ⟨v, rfl, hr⟩; have HR := hide hr; have z0 := cell_of_row w1 wb 0 _ 29 (0, 0) (unhide HK _ _ hr).1; have z1 := cell_of_row w1 wb 1 _ 29 (0, 0) (unhide HK _ _ hr).1; have y1 := cell_of_row w1 w.heap.size 1 _ 32 (0, 0) (unhide HK _ _ hr).2; have y2 := cell_of_row w1 w.heap.size 2 _ 32 (0, 0) (unhide HK _ _ hr).2; have y3 := cell_of_row w1 w.heap.size 3 _ 32 (0, 0) (unhide HK _ _ hr).2; simp at z0 z1 y1 y2 y3; clear hr) | (go_at_call 22; refine (unhide HQ _ _ (unhide HR)).mono ?_; rintro e w2 ⟨rfl, hr2⟩; have HR2 := hide hr2; clear z0 z1 y1 y2 y3; have z0 := cell_of_row w2 wb 0 _ 29 (0, 0) (unhide HK2 _ hr2).1; have z1 := cell_of_row w2 wb 1 _ 29 (0, 0) (unhide HK2 _ hr2).1; have y1 := cell_of_row w2 w.heap.size 1 _ 32 (0, 0) (unhide HK2 _ hr2).2; have y2 := cell_of_row w2 w.heap.size 2 _ 32 (0, 0) (unhide HK2 _ hr2).2; have y3 := cell_of_row w2 w.heap.size 3 _ 32 (0, 0) (unhide HK2 _ hr2).2; simp at z0 z1 y1 y2 y3; clear hr2) | fail)
  have v1 : (v == v) = true := by simp
  go_wp2
  go_ret
  exact ⟨rfl, unhide HR2⟩
set_option maxRecDepth 100000 in
set_option maxHeartbeats 4000000 in
theorem st6_5 (wb sb sb' : Nat) (a b cc : Int) (x : Nat) (w : World) {R1 : Int → World → Prop} {R2 : World → Prop} (hwb : wb < w.heap.size) (hw : w.heap[wb]? = some (.cells #[.pointer (some ⟨sb, 0, none⟩), .pointer (some ⟨sb', 0, none⟩)] 29 (0, 0)))
    (HP : Hid (∀ j, Calls Try.prog 23 #[.pointer (some ⟨sb, 0, none⟩), .int .i64 a, .int .i64 b, .int .i64 cc] ((w.alloc (.cells #[.int .i64 5, .int .i64 a, .int .i64 b, .int .i64 cc, .int .u64 (x : Int)] 32)).drewN j) fun e w1 => ∃ v, e = .returned (.int .i64 v) ∧ R1 v w1)) (HK : Hid (∀ v w1, R1 v w1 → Kp wb sb sb' w.heap.size #[.int .i64 5, .int .i64 a, .int .i64 b, .int .i64 cc, .int .u64 (x : Int)] w1)) (HQ : Hid (∀ v w1, R1 v w1 → Calls Try.prog 24 #[.pointer (some ⟨sb', 0, none⟩), .int .i64 a, .int .i64 b, .int .i64 cc] w1 fun e w2 => e = .returned (.int .i64 v) ∧ R2 w2)) (HK2 : Hid (∀ w2, R2 w2 → Kp wb sb sb' w.heap.size #[.int .i64 5, .int .i64 a, .int .i64 b, .int .i64 cc, .int .u64 (x : Int)] w2)) :
    Calls Try.prog 6 #[.pointer (some ⟨wb, 0, none⟩), .agg #[.int .i64 5, .int .i64 a, .int .i64 b, .int .i64 cc, .int .u64 (x : Int)]] w (St6 R2) := by
  have c0 : (w.alloc (.cells #[.int .i64 5, .int .i64 a, .int .i64 b, .int .i64 cc, .int .u64 (x : Int)] 32)).cell? ⟨wb, 0, none⟩ = some (.pointer (some ⟨sb, 0, none⟩)) := by
    rw [cell_of_row _ wb 0 _ 29 (0, 0) (by rw [Below.heap_alloc w _ wb hwb]; exact hw)]; rfl
  have c1 : (w.alloc (.cells #[.int .i64 5, .int .i64 a, .int .i64 b, .int .i64 cc, .int .u64 (x : Int)] 32)).cell? ⟨wb, 1, none⟩ = some (.pointer (some ⟨sb', 0, none⟩)) := by
    rw [cell_of_row _ wb 1 _ 29 (0, 0) (by rw [Below.heap_alloc w _ wb hwb]; exact hw)]; rfl
  clear hw hwb
  go_enter Try.func6, Try.ntmps6
  go_wp2_with fail
  go_region_held3 (fun w' => w'.cell? ⟨wb, 0, none⟩ = some (.pointer (some ⟨sb, 0, none⟩)) ∧ w'.cell? ⟨wb, 1, none⟩ = some (.pointer (some ⟨sb', 0, none⟩)) ∧ w'.cell? ⟨w.heap.size, 1, none⟩ = some (.int .i64 a) ∧ w'.cell? ⟨w.heap.size, 2, none⟩ = some (.int .i64 b) ∧ w'.cell? ⟨w.heap.size, 3, none⟩ = some (.int .i64 cc)) (go_keep) (first | (go_at_call 23; refine (unhide HP _).mono ?_; rintro e w1 ⟨v, rfl, hr⟩; have HR := hide hr; have z0 := cell_of_row w1 wb 0 _ 29 (0, 0) (unhide HK _ _ hr).1; have z1 := cell_of_row w1 wb 1 _ 29 (0, 0) (unhide HK _ _ hr).1; have y1 := cell_of_row w1 w.heap.size 1 _ 32 (0, 0) (unhide HK _ _ hr).2; have y2 := cell_of_row w1 w.heap.size 2 _ 32 (0, 0) (unhide HK _ _ hr).2; have y3 := cell_of_row w1 w.heap.size 3 _ 32 (0, 0) (unhide HK _ _ hr).2; simp at z0 z1 y1 y2 y3; clear hr) | (go_at_call 24; refine (unhide HQ _ _ (unhide HR)).mono ?_; rintro e w2 ⟨rfl, hr2⟩; have HR2 := hide hr2; clear z0 z1 y1 y2 y3; have z0 := cell_of_row w2 wb 0 _ 29 (0, 0) (unhide HK2 _ hr2).1; have z1 := cell_of_row w2 wb 1 _ 29 (0, 0) (unhide HK2 _ hr2).1; have y1 := cell_of_row w2 w.heap.size 1 _ 32 (0, 0) (unhide HK2 _ hr2).2; have y2 := cell_of_row w2 w.heap.size 2 _ 32 (0, 0) (unhide HK2 _ hr2).2; have y3 := cell_of_row w2 w.heap.size 3 _ 32 (0, 0) (unhide HK2 _ hr2).2; simp at z0 z1 y1 y2 y3; clear hr2) | fail)
  have v1 : (v == v) = true := by simp
  go_wp2
  go_ret
  exact ⟨rfl, unhide HR2⟩
set_option maxRecDepth 100000 in
set_option maxHeartbeats 4000000 in
theorem st6_6 (wb sb sb' : Nat) (a b cc : Int) (x : Nat) (w : World) {R1 : Int → World → Prop} {R2 : World → Prop} (hwb : wb < w.heap.size) (hw : w.heap[wb]? = some (.cells #[.pointer (some ⟨sb, 0, none⟩), .pointer (some ⟨sb', 0, none⟩)] 29 (0, 0)))
    (HP : Hid (∀ j, Calls Try.prog 11 #[.pointer (some ⟨sb, 0, none⟩), .int .i64 a, .int .i64 b, .int .u64 (x : Int)] ((w.alloc (.cells #[.int .i64 6, .int .i64 a, .int .i64 b, .int .i64 cc, .int .u64 (x : Int)] 32)).drewN j) fun e w1 => ∃ v, e = .returned (.int .i64 v) ∧ R1 v w1)) (HK : Hid (∀ v w1, R1 v w1 → Kp wb sb sb' w.heap.size #[.int .i64 6, .int .i64 a, .int .i64 b, .int .i64 cc, .int .u64 (x : Int)] w1)) (HQ : Hid (∀ v w1, R1 v w1 → Calls Try.prog 25 #[.pointer (some ⟨sb', 0, none⟩), .int .i64 a, .int .i64 b, .int .u64 (x : Int)] w1 fun e w2 => e = .returned (.int .i64 v) ∧ R2 w2)) (HK2 : Hid (∀ w2, R2 w2 → Kp wb sb sb' w.heap.size #[.int .i64 6, .int .i64 a, .int .i64 b, .int .i64 cc, .int .u64 (x : Int)] w2)) :
    Calls Try.prog 6 #[.pointer (some ⟨wb, 0, none⟩), .agg #[.int .i64 6, .int .i64 a, .int .i64 b, .int .i64 cc, .int .u64 (x : Int)]] w (St6 R2) := by
  have c0 : (w.alloc (.cells #[.int .i64 6, .int .i64 a, .int .i64 b, .int .i64 cc, .int .u64 (x : Int)] 32)).cell? ⟨wb, 0, none⟩ = some (.pointer (some ⟨sb, 0, none⟩)) := by
    rw [cell_of_row _ wb 0 _ 29 (0, 0) (by rw [Below.heap_alloc w _ wb hwb]; exact hw)]; rfl
  have c1 : (w.alloc (.cells #[.int .i64 6, .int .i64 a, .int .i64 b, .int .i64 cc, .int .u64 (x : Int)] 32)).cell? ⟨wb, 1, none⟩ = some (.pointer (some ⟨sb', 0, none⟩)) := by
    rw [cell_of_row _ wb 1 _ 29 (0, 0) (by rw [Below.heap_alloc w _ wb hwb]; exact hw)]; rfl
  clear hw hwb
  go_enter Try.func6, Try.ntmps6
  go_wp2_with fail
  go_region_held3 (fun w' => w'.cell? ⟨wb, 0, none⟩ = some (.pointer (some ⟨sb, 0, none⟩)) ∧ w'.cell? ⟨wb, 1, none⟩ = some (.pointer (some ⟨sb', 0, none⟩)) ∧ w'.cell? ⟨w.heap.size, 1, none⟩ = some (.int .i64 a) ∧ w'.cell? ⟨w.heap.size, 2, none⟩ = some (.int .i64 b) ∧ w'.cell? ⟨w.heap.size, 4, none⟩ = some (.int .u64 (x : Int))) (go_keep) (first | (go_at_call 11; refine (unhide HP _).mono ?_; rintro e w1 ⟨v, rfl, hr⟩; have HR := hide hr; have z0 := cell_of_row w1 wb 0 _ 29 (0, 0) (unhide HK _ _ hr).1; have z1 := cell_of_row w1 wb 1 _ 29 (0, 0) (unhide HK _ _ hr).1; have y1 := cell_of_row w1 w.heap.size 1 _ 32 (0, 0) (unhide HK _ _ hr).2; have y2 := cell_of_row w1 w.heap.size 2 _ 32 (0, 0) (unhide HK _ _ hr).2; have y4 := cell_of_row w1 w.heap.size 4 _ 32 (0, 0) (unhide HK _ _ hr).2; simp at z0 z1 y1 y2 y4; clear hr) | (go_at_call 25; refine (unhide HQ _ _ (unhide HR)).mono ?_; rintro e w2 ⟨rfl, hr2⟩; have HR2 := hide hr2; clear z0 z1 y1 y2 y4; have z0 := cell_of_row w2 wb 0 _ 29 (0, 0) (unhide HK2 _ hr2).1; have z1 := cell_of_row w2 wb 1 _ 29 (0, 0) (unhide HK2 _ hr2).1; have y1 := cell_of_row w2 w.heap.size 1 _ 32 (0, 0) (unhide HK2 _ hr2).2; have y2 := cell_of_row w2 w.heap.size 2 _ 32 (0, 0) (unhide HK2 _ hr2).2; have y4 := cell_of_row w2 w.heap.size 4 _ 32 (0, 0) (unhide HK2 _ hr2).2; simp at z0 z1 y1 y2 y4; clear hr2) | fail)
  have v1 : (v == v) = true := by simp
  go_wp2
  go_ret
  exact ⟨rfl, unhide HR2⟩
end Rs
end Go.Proofs.Ytaapakpanbfmlaa

namespace Go.Proofs.Ytaapakpanbfmlaa
namespace Rs
open Go.RowKit Hp
set_option linter.unusedVariables false
set_option linter.unusedSimpArgs false
set_option maxRecDepth 100000 in
set_option maxHeartbeats 4000000 in
theorem st6_7 (wb sb sb' : Nat) (a b cc : Int) (x : Nat) (w : World) {R1 : Int → Int → World → Prop} {R2 : World → Prop} (hwb : wb < w.heap.size) (hw : w.heap[wb]? = some (.cells #[.pointer (some ⟨sb, 0, none⟩), .pointer (some ⟨sb', 0, none⟩)] 29 (0, 0)))
    (HP : Hid (∀ j, Calls Try.prog 12 #[.pointer (some ⟨sb, 0, none⟩), .int .i64 a, .int .i64 b] ((w.alloc (.cells #[.int .i64 7, .int .i64 a, .int .i64 b, .int .i64 cc, .int .u64 (x : Int)] 32)).drewN j) fun e w1 => ∃ u v, e = .returned (.tuple #[.int .u64 u, .int .i64 v]) ∧ R1 u v w1)) (HK : Hid (∀ u v w1, R1 u v w1 → Kp wb sb sb' w.heap.size #[.int .i64 7, .int .i64 a, .int .i64 b, .int .i64 cc, .int .u64 (x : Int)] w1)) (HQ : Hid (∀ u v w1 j, R1 u v w1 → Calls Try.prog 26 #[.pointer (some ⟨sb', 0, none⟩), .int .i64 a, .int .i64 b] (w1.drewN j) fun e w2 => e = .returned (.tuple #[.int .u64 u, .int .i64 v]) ∧ R2 w2)) (HK2 : Hid (∀ w2, R2 w2 → Kp wb sb sb' w.heap.size #[.int .i64 7, .int .i64 a, .int .i64 b, .int .i64 cc, .int .u64 (x : Int)] w2)) :
    Calls Try.prog 6 #[.pointer (some ⟨wb, 0, none⟩), .agg #[.int .i64 7, .int .i64 a, .int .i64 b, .int .i64 cc, .int .u64 (x : Int)]] w (St6 R2) := by
  have c0 : (w.alloc (.cells #[.int .i64 7, .int .i64 a, .int .i64 b, .int .i64 cc, .int .u64 (x : Int)] 32)).cell? ⟨wb, 0, none⟩ = some (.pointer (some ⟨sb, 0, none⟩)) := by
    rw [cell_of_row _ wb 0 _ 29 (0, 0) (by rw [Below.heap_alloc w _ wb hwb]; exact hw)]; rfl
  have c1 : (w.alloc (.cells #[.int .i64 7, .int .i64 a, .int .i64 b, .int .i64 cc, .int .u64 (x : Int)] 32)).cell? ⟨wb, 1, none⟩ = some (.pointer (some ⟨sb', 0, none⟩)) := by
    rw [cell_of_row _ wb 1 _ 29 (0, 0) (by rw [Below.heap_alloc w _ wb hwb]; exact hw)]; rfl
  clear hw hwb
  go_enter Try.func6, Try.ntmps6
  go_wp2_with fail
  go_region_held3 (fun w' => w'.cell? ⟨wb, 0, none⟩ = some (.pointer (some ⟨sb, 0, none⟩)) ∧ w'.cell? ⟨wb, 1, none⟩ = some (.pointer (some ⟨sb', 0, none⟩)) ∧ w'.cell? ⟨w.heap.size, 1, none⟩ = some (.int .i64 a) ∧ w'.cell? ⟨w.heap.size, 2, none⟩ = some (.int .i64 b)) (go_keep) (first | (go_at_call 12; refine (unhide HP _).mono ?_; rintro e w1 ⟨u, v, rfl, hr⟩; have HR := hide hr; have z0 := cell_of_row w1 wb 0 _ 29 (0, 0) (unhide HK _ _ _ hr).1; have z1 := cell_of_row w1 wb 1 _ 29 (0, 0) (unhide HK _ _ _ hr).1; have y1 := cell_of_row w1 w.heap.size 1 _ 32 (0, 0) (unhide HK _ _ _ hr).2; have y2 := cell_of_row w1 w.heap.size 2 _ 32 (0, 0) (unhide HK _ _ _ hr).2; simp at z0 z1 y1 y2; clear hr) | fail)
  clear c0 c1
  go_wp2_with fail
  go_region_held3 (fun w' => w'.cell? ⟨wb, 0, none⟩ = some (.pointer (some ⟨sb, 0, none⟩)) ∧ w'.cell? ⟨wb, 1, none⟩ = some (.pointer (some ⟨sb', 0, none⟩)) ∧ w'.cell? ⟨w.heap.size, 1, none⟩ = some (.int .i64 a) ∧ w'.cell? ⟨w.heap.size, 2, none⟩ = some (.int .i64 b)) (go_keep) (first | (go_at_call 26; refine (unhide HQ _ _ _ _ (unhide HR)).mono ?_; rintro e w2 ⟨rfl, hr2⟩; have HR2 := hide hr2; clear z0 z1 y1 y2; have z0 := cell_of_row w2 wb 0 _ 29 (0, 0) (unhide HK2 _ hr2).1; have z1 := cell_of_row w2 wb 1 _ 29 (0, 0) (unhide HK2 _ hr2).1; have y1 := cell_of_row w2 w.heap.size 1 _ 32 (0, 0) (unhide HK2 _ hr2).2; have y2 := cell_of_row w2 w.heap.size 2 _ 32 (0, 0) (unhide HK2 _ hr2).2; simp at z0 z1 y1 y2; clear hr2) | fail)
  have u1 : (u == u) = true := by simp
  have v1 : (v == v) = true := by simp
  go_wp2
  go_ret
  exact ⟨rfl, unhide HR2⟩
set_option maxRecDepth 100000 in
set_option maxHeartbeats 4000000 in
theorem st6_8 (wb sb sb' : Nat) (a b cc : Int) (x : Nat) (w : World) {R1 : Bool → Int → World → Prop} {R2 : World → Prop} (hwb : wb < w.heap.size) (hw : w.heap[wb]? = some (.cells #[.pointer (some ⟨sb, 0, none⟩), .pointer (some ⟨sb', 0, none⟩)] 29 (0, 0)))
    (HP : Hid (∀ j, Calls Try.prog 13 #[.pointer (some ⟨sb, 0, none⟩), .int .i64 a, .int .i64 b] ((w.alloc (.cells #[.int .i64 8, .int .i64 a, .int .i64 b, .int .i64 cc, .int .u64 (x : Int)] 32)).drewN j) fun e w1 => ∃ u v, e = .returned (.tuple #[.bool u, .int .i64 v]) ∧ R1 u v w1)) (HK : Hid (∀ u v w1, R1 u v w1 → Kp wb sb sb' w.heap.size #[.int .i64 8, .int .i64 a, .int .i64 b, .int .i64 cc, .int .u64 (x : Int)] w1)) (HQ : Hid (∀ u v w1 j, R1 u v w1 → Calls Try.prog 27 #[.pointer (some ⟨sb', 0, none⟩), .int .i64 a, .int .i64 b] (w1.drewN j) fun e w2 => e = .returned (.tuple #[.bool u, .int .i64 v]) ∧ R2 w2)) (HK2 : Hid (∀ w2, R2 w2 → Kp wb sb sb' w.heap.size #[.int .i64 8, .int .i64 a, .int .i64 b, .int .i64 cc, .int .u64 (x : Int)] w2)) :
    Calls Try.prog 6 #[.pointer (some ⟨wb, 0, none⟩), .agg #[.int .i64 8, .int .i64 a, .int .i64 b, .int .i64 cc, .int .u64 (x : Int)]] w (St6 R2) := by
  have c0 : (w.alloc (.cells #[.int .i64 8, .int .i64 a, .int .i64 b, .int .i64 cc, .int .u64 (x : Int)] 32)).cell? ⟨wb, 0, none⟩ = some (.pointer (some ⟨sb, 0, none⟩)) := by
    rw [cell_of_row _ wb 0 _ 29 (0, 0) (by rw [Below.heap_alloc w _ wb hwb]; exact hw)]; rfl
  have c1 : (w.alloc (.cells #[.int .i64 8, .int .i64 a, .int .i64 b, .int .i64 cc, .int .u64 (x : Int)] 32)).cell? ⟨wb, 1, none⟩ = some (.pointer (some ⟨sb', 0, none⟩)) := by
    rw [cell_of_row _ wb 1 _ 29 (0, 0) (by rw [Below.heap_alloc w _ wb hwb]; exact hw)]; rfl
  clear hw hwb
  go_enter Try.func6, Try.ntmps6
  go_wp2_with fail
  go_region_held3 (fun w' => w'.cell? ⟨wb, 0, none⟩ = some (.pointer (some ⟨sb, 0, none⟩)) ∧ w'.cell? ⟨wb, 1, none⟩ = some (.pointer (some ⟨sb', 0, none⟩)) ∧ w'.cell? ⟨w.heap.size, 1, none⟩ = some (.int .i64 a) ∧ w'.cell? ⟨w.heap.size, 2, none⟩ = some (.int .i64 b)) (go_keep) (first | (go_at_call 13; refine (unhide HP _).mono ?_; rintro e w1 ⟨u, v, rfl, hr⟩; have HR := hide hr; have z0 := cell_of_row w1 wb 0 _ 29 (0, 0) (unhide HK _ _ _ hr).1; have z1 := cell_of_row w1 wb 1 _ 29 (0, 0) (unhide HK _ _ _ hr).1; have y1 := cell_of_row w1 w.heap.size 1 _ 32 (0, 0) (unhide HK _ _ _ hr).2; have y2 := cell_of_row w1 w.heap.size 2 _ 32 (0, 0) (unhide HK _ _ _ hr).2; simp at z0 z1 y1 y2; clear hr) | fail)
  clear c0 c1
  go_wp2_with fail
  go_region_held3 (fun w' => w'.cell? ⟨wb, 0, none⟩ = some (.pointer (some ⟨sb, 0, none⟩)) ∧ w'.cell? ⟨wb, 1, none⟩ = some (.pointer (some ⟨sb', 0, none⟩)) ∧ w'.cell? ⟨w.heap.size, 1, none⟩ = some (.int .i64 a) ∧ w'.cell? ⟨w.heap.size, 2, none⟩ = some (.int .i64 b)) (go_keep) (first | (go_at_call 27; refine (unhide HQ _ _ _ _ (unhide HR)).mono ?_; rintro e w2 ⟨rfl, hr2⟩; have HR2 := hide hr2; clear z0 z1 y1 y2; have z0 := cell_of_row w2 wb 0 _ 29 (0, 0) (unhide HK2 _ hr2).1; have z1 := cell_of_row w2 wb 1 _ 29 (0, 0) (unhide HK2 _ hr2).1; have y1 := cell_of_row w2 w.heap.size 1 _ 32 (0, 0) (unhide HK2 _ hr2).2; have y2 := cell_of_row w2 w.heap.size 2 _ 32 (0, 0) (unhide HK2 _ hr2).2; simp at z0 z1 y1 y2; clear hr2) | fail)
  have u1 : (u == u) = true := by simp
  have v1 : (v == v) = true := by simp
  go_wp2
  go_ret
  exact ⟨rfl, unhide HR2⟩
set_option maxRecDepth 100000 in
set_option maxHeartbeats 4000000 in
theorem st6_9 (wb sb sb' : Nat) (a b cc : Int) (x : Nat) (w : World) {R2 : World → Prop} (hwb : wb < w.heap.size) (hw : w.heap[wb]? = some (.cells #[.pointer (some ⟨sb, 0, none⟩), .pointer (some ⟨sb', 0, none⟩)] 29 (0, 0)))
    (HP : Hid (Calls Try.prog 7 #[.pointer (some ⟨sb, 0, none⟩), .bool false] (w.alloc (.cells #[.int .i64 9, .int .i64 a, .int .i64 b, .int .i64 cc, .int .u64 (x : Int)] 32)) fun e w1 => e = .returned (.int .i64 0) ∧ R2 w1)) :
    Calls Try.prog 6 #[.pointer (some ⟨wb, 0, none⟩), .agg #[.int .i64 9, .int .i64 a, .int .i64 b, .int .i64 cc, .int .u64 (x : Int)]] w (St6 R2) := by
  have c0 : (w.alloc (.cells #[.int .i64 9, .int .i64 a, .int .i64 b, .int .i64 cc, .int .u64 (x : Int)] 32)).cell? ⟨wb, 0, none⟩ = some (.pointer (some ⟨sb, 0, none⟩)) := by
    rw [cell_of_row _ wb 0 _ 29 (0, 0) (by rw [Below.heap_alloc w _ wb hwb]; exact hw)]; rfl
  clear hw hwb
  go_enter Try.func6, Try.ntmps6
  go_wp2_with fail
  refine (unhide HP).mono ?_
  rintro e w1 ⟨rfl, hr⟩
  have HR := hide hr
  clear hr
  go_wp2
  go_ret
  exact ⟨rfl, unhide HR⟩
set_option maxRecDepth 100000 in
set_option maxHeartbeats 4000000 in
theorem st6_10 (wb sb sb' : Nat) (a b cc : Int) (x : Nat) (w : World) {R1 : Int → World → Prop} {R2 : World → Prop} (hwb : wb < w.heap.size) (hw : w.heap[wb]? = some (.cells #[.pointer (some ⟨sb, 0, none⟩), .pointer (some ⟨sb', 0, none⟩)] 29 (0, 0)))
    (HP : Hid (∀ j, Calls Try.prog 7 #[.pointer (some ⟨sb, 0, none⟩), .bool true] ((w.alloc (.cells #[.int .i64 10, .int .i64 a, .int .i64 b, .int .i64 cc, .int .u64 (x : Int)] 32)).drewN j) fun e w1 => ∃ v, e = .returned (.int .i64 v) ∧ R1 v w1)) (HK : Hid (∀ v w1, R1 v w1 → Kp wb sb sb' w.heap.size #[.int .i64 10, .int .i64 a, .int .i64 b, .int .i64 cc, .int .u64 (x : Int)] w1)) (HQ : Hid (∀ v w1, R1 v w1 → Calls Try.prog 8 #[.pointer (some ⟨sb', 0, none⟩)] w1 fun e w2 => e = .returned (.int .i64 v) ∧ R2 w2)) (HK2 : Hid (∀ w2, R2 w2 → Kp wb sb sb' w.heap.size #[.int .i64 10, .int .i64 a, .int .i64 b, .int .i64 cc, .int .u64 (x : Int)] w2)) :
    Calls Try.prog 6 #[.pointer (some ⟨wb, 0, none⟩), .agg #[.int .i64 10, .int .i64 a, .int .i64 b, .int .i64 cc, .int .u64 (x : Int)]] w (St6 R2) := by
  have c0 : (w.alloc (.cells #[.int .i64 10, .int .i64 a, .int .i64 b, .int .i64 cc, .int .u64 (x : Int)] 32)).cell? ⟨wb, 0, none⟩ = some (.pointer (some ⟨sb, 0, none⟩)) := by
    rw [cell_of_row _ wb 0 _ 29 (0, 0) (by rw [Below.heap_alloc w _ wb hwb]; exact hw)]; rfl
  have c1 : (w.alloc (.cells #[.int .i64 10, .int .i64 a, .int .i64 b, .int .i64 cc, .int .u64 (x : Int)] 32)).cell? ⟨wb, 1, none⟩ = some (.pointer (some ⟨sb', 0, none⟩)) := by
    rw [cell_of_row _ wb 1 _ 29 (0, 0) (by rw [Below.heap_alloc w _ wb hwb]; exact hw)]; rfl
  clear hw hwb
  go_enter Try.func6, Try.ntmps6
  go_wp2_with fail
  go_region_held3 (fun w' => w'.cell? ⟨wb, 0, none⟩ = some (.pointer (some ⟨sb, 0, none⟩)) ∧ w'.cell? ⟨wb, 1, none⟩ = some (.pointer (some ⟨sb', 0, none⟩))) (go_keep) (first | (go_at_call 7; refine (unhide HP _).mono ?_; rintro e w1 ⟨v, rfl, hr⟩; have HR := hide hr; have z0 := cell_of_row w1 wb 0 _ 29 (0, 0) (unhide HK _ _ hr).1; have z1 := cell_of_row w1 wb 1 _ 29 (0, 0) (unhide HK _ _ hr).1; simp at z0 z1; clear hr) | (go_at_call 8; refine (unhide HQ _ _ (unhide HR)).mono ?_; rintro e w2 ⟨rfl, hr2⟩; have HR2 := hide hr2; clear z0 z1; have z0 := cell_of_row w2 wb 0 _ 29 (0, 0) (unhide HK2 _ hr2).1; have z1 := cell_of_row w2 wb 1 _ 29 (0, 0) (unhide HK2 _ hr2).1; simp at z0 z1; clear hr2) | fail)
  have v1 : (v == v) = true := by simp
  go_wp2
  go_ret
  exact ⟨rfl, unhide HR2⟩
set_option maxRecDepth 100000 in
set_option maxHeartbeats 2000000 in
theorem st6_no (wb : Nat) (k a b cc : Int) (x : Nat) (w : World) (e1 : (k == 1) = false) (e2 : (k == 2) = false) (e3 : (k == 3) = false) (e4 : (k == 4) = false) (e5 : (k == 5) = false) (e6 : (k == 6) = false) (e7 : (k == 7) = false) (e8 : (k == 8) = false) (e9 : (k == 9) = false) (e10 : (k == 10) = false) :
    Calls Try.prog 6 #[.pointer (some ⟨wb, 0, none⟩), .agg #[.int .i64 k, .int .i64 a, .int .i64 b, .int .i64 cc, .int .u64 (x : Int)]] w (St6 fun w' => Fr [] w w') := by
  go_enter Try.func6, Try.ntmps6
  go_wp2
  go_ret
  exact ⟨rfl, fr_alloc _ _ _⟩
end Rs
end Go.Proofs.Ytaapakpanbfmlaa
