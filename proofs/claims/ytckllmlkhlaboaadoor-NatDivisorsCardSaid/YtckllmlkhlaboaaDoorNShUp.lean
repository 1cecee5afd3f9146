/-
  Law 1: shiftUp, by no more than one shift does.
-/
import Derived.Test.YtckllmlkhlaboaaDoorNGcdO
import Derived.Test.YtckllmlkhlaboaaDoorNShU
namespace Go.Proofs.YtckllmlkhlaboaaDoor
open Go.RowKit
set_option linter.unusedVariables false
set_option maxRecDepth 100000 in
set_option maxHeartbeats 2000000 in
theorem shup_any (N d : Nat) (v : Value) (BY : Int) (w : World) (h : IsN w v N) (hN : N < 18446744073709551616 ^ 9000) (hd : d ≤ 20000) (hBY : BY = (d : Int)) :
    Calls Tryd.prog 43 #[v, .int .i64 BY] w (GaveV (N * 2 ^ d) w) := by
  obtain ⟨a, n, c, rfl⟩ := isN_form h
  obtain ⟨W2, hW2⟩ : ∃ W2, ((w.alloc (.cells #[.slice a n c] 25)).alloc (.cells #[.slice none 0 0] 25)) = W2 := ⟨_, rfl⟩
  have k1 : Blk W2 w.heap.size 25 #[.slice a n c] := by rw [← hW2]; exact (Blk.new w _ _).alloc _
  have k2 : Blk W2 (w.heap.size + 1) 25 #[.slice none 0 0] := by
    have := Blk.new (w.alloc (.cells #[.slice a n c] 25)) 25 #[.slice none 0 0]
    rw [World.size_alloc, hW2] at this
    exact this
  have hb2 : Below w.heap.size w W2 := by rw [← hW2]; exact ((Below.refl _ w).alloc (Nat.le_refl _) _).alloc (by simp) _
  have q1 : W2.cell? ⟨w.heap.size, 0, none⟩ = some (.slice a n c) := k1.cell 0
  have HSh := Lib.hid (shu_any N d _ BY W2 (h.below hb2 (Nat.le_refl _)) hN hd hBY)
  have HK := Lib.hid (And.intro k2 hb2)
  have hBY1 : ¬ 20000 < BY := by omega
  have d1 : decide (20000 < BY) = false := by simp; omega
  clear h k1 k2 hb2 hBY
  go_enter Tryd.func43, Tryd.ntmps43
  go_wp2_with fail
  go_loopw [1] (fun iv wr => iv = .int .i64 BY ∧ wr = W2) (fun _ _ => 0)
  case atStart => exact ⟨rfl, rfl⟩
  case round =>
    obtain ⟨rfl, rfl⟩ := hrel
    go_wp2_with fail
    refine HSh.out.mono ?_
    rintro e w7 h7
    obtain ⟨x7, y7, z7, rfl, hN7, hb7⟩ := gaveV (gaveF_n h7)
    have hk7 := HK.out.1.below hb7 HK.out.1.lt
    have q2 : w7.cell? ⟨w.heap.size + 1, 0, none⟩ = some (.slice none 0 0) := hk7.cell 0
    have q3 : w7.frozen? ⟨w.heap.size + 1, 0, none⟩ = false := hk7.frozen 0
    have HJ := Lib.hid (hk7.set_ 0 (.slice x7 y7 z7))
    have HR : Hid (GaveV (N * 2 ^ d) w (.returned (.agg #[.slice x7 y7 z7])) (w7.setCell ⟨w.heap.size + 1, 0, none⟩ (.slice x7 y7 z7))) := Lib.hid ⟨x7, y7, z7, rfl, isN_set1 hN7 (isN_box hN7 hk7), (HK.out.2.trans (hb7.mono HK.out.2.size)).setCell (p := ⟨w.heap.size + 1, 0, none⟩) (by show w.heap.size ≤ w.heap.size + 1; omega) _⟩
    clear h7 hN7 hb7 hk7 HSh
    go_wp2_with fail
    refine bodyPost_ret (res_nat rfl _ _ (w.heap.size + 1) (.slice x7 y7 z7) rfl HJ.out) rfl ?_
    exact HR.out
end Go.Proofs.YtckllmlkhlaboaaDoor
