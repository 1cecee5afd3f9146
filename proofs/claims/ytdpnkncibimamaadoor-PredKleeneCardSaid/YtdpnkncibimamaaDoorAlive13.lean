/-
  The first call of chapter 13's statements, whose answer the document fixes: it answers true.
-/
import Derived.Test.YtdpnkncibimamaaDoorFold
import Derived.Test.YtdpnkncibimamaaDoorLent
namespace Go.Proofs.YtdpnkncibimamaaDoor
open Go.RowKit
theorem ir_two (w : World) (x y : Int) : IR (w.alloc (.cells #[.int .i64 x, .int .i64 y] 3)) (some ⟨w.heap.size, 0, none⟩) [x, y] := by
  intro i hi
  refine ⟨_, rfl, by simp, ?_⟩
  have hc : ∀ i, (w.alloc (.cells #[.int .i64 x, .int .i64 y] 3)).cell? ⟨w.heap.size, i, none⟩ = (#[Value.int .i64 x, Value.int .i64 y] : Array Value)[i]? := fun i => cell_of_row _ w.heap.size i _ _ (0, 0) (World.alloc_heap_new w _)
  match i, hi with
  | 0, _ => exact hc 0
  | 1, _ => exact hc 1
theorem ir_nil (w : World) (a : Option Addr) : IR w a [] := fun i hi => by simp at hi
set_option maxRecDepth 100000 in
set_option maxHeartbeats 1000000 in
theorem eval_true (w : World) : Calls Tryd.prog 14 #[.agg #[.int .i64 1, .int .i64 0, .slice none 0 0, .slice none 0 0], .slice none 0 0] w fun e w' => e = .returned (.int .i64 1) ∧ Below w.heap.size w w' := by
  go_enter Tryd.func14, Tryd.ntmps14
  go_wp2
  go_ret
  exact ⟨rfl, (Below.refl _ _).alloc (Nat.le_refl _) _⟩
set_option maxRecDepth 100000 in
set_option maxHeartbeats 1000000 in
theorem alive_any (w : World) : Calls Tryd.prog 5 #[] w fun e w' => e = .returned (.bool true) ∧ Below w.heap.size w w' := by
  have k1 : Hid (ruledM 0 [1, 2] = 2) := Lib.hid (by decide)
  have k2 : Hid (ruledM 1 [1, 2] = 1) := Lib.hid (by decide)
  have k3 : Hid (firstM [2, 0] = 0) := Lib.hid (by decide)
  have k4 : Hid (ruledM 0 [] = 1) := Lib.hid (by decide)
  go_enter Tryd.func5, Tryd.ntmps5
  go_wp2_with fail
  refine (and_any (some ⟨w.heap.size, 0, none⟩) 2 [1, 2] _ (by simp) (ir_two w 1 2)).mono ?_
  rintro e w1 ⟨rfl, hw1⟩
  rw [k1.out]
  have b1 : Below w.heap.size w w1 := by rw [← hw1]; exact (Below.refl _ _).alloc (Nat.le_refl _) _
  clear hw1
  go_wp2_with fail
  refine (or_any (some ⟨w1.heap.size, 0, none⟩) 2 [1, 2] _ (by simp) (ir_two w1 1 2)).mono ?_
  rintro e w2 ⟨rfl, hw2⟩
  rw [k2.out]
  have b2 : Below w.heap.size w w2 := by rw [← hw2]; exact b1.alloc b1.size _
  clear hw2
  go_wp2_with fail
  refine (first_any (some ⟨w2.heap.size, 0, none⟩) 2 [2, 0] _ (by simp) (ir_two w2 2 0)).mono ?_
  rintro e w3 ⟨rfl, hw3⟩
  rw [k3.out]
  have b3 : Below w.heap.size w w3 := by rw [← hw3]; exact b2.alloc b2.size _
  clear hw3
  go_wp2_with fail
  refine (and_any none 0 [] _ (by simp) (ir_nil _ _)).mono ?_
  rintro e w4 ⟨rfl, rfl⟩
  rw [k4.out]
  go_wp2_with fail
  refine (eval_true _).mono ?_
  rintro e w5 ⟨rfl, b5⟩
  have b6 := b3.trans (b5.mono b3.size)
  clear b5 b3 b2 b1
  go_wp2
  go_ret
  exact ⟨rfl, b6⟩
end Go.Proofs.YtdpnkncibimamaaDoor
