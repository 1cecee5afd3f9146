/-
  The walk of RatTexts: for every input it returns true, and leaves what lay in memory as it was.
-/
import Derived.Test.YtllmacokhjmdgaaGreatDoorQTxA
namespace Go.Proofs.YtllmacokhjmdgaaGreatDoor
open Go.RowKit
set_option linter.unusedVariables false
theorem wf_u {a : Int} (h : (Lit.int .u64 a).wf = true) : 0 ≤ a ∧ a < 18446744073709551616 := by
  simp [Lit.wf, IntKind.min, IntKind.max, IntKind.bits, IntKind.signed] at h; omega
theorem wf_i {a : Int} (h : (Lit.int .i64 a).wf = true) : -9223372036854775808 ≤ a ∧ a ≤ 9223372036854775807 := by
  simp [Lit.wf, IntKind.min, IntKind.max, IntKind.bits, IntKind.signed] at h; omega
set_option maxRecDepth 100000 in
set_option maxHeartbeats 4000000 in
theorem ratTexts.walk (a0 a1 a2 : Int) (w0 : (Lit.int .u64 a0).wf = true) (w1 : (Lit.int .u64 a1).wf = true) (w2 : (Lit.int .i64 a2).wf = true) (w : World) (htab : Tab w) (htb : TabB w) :
    Calls Tryz.prog 3 #[.int .u64 a0, .int .u64 a1, .int .i64 a2] w fun e w' => e = .returned (.bool true) ∧ Below w.heap.size w w' := by
  have b0 := wf_u w0
  have b1 := wf_u w1
  have b2 := wf_i w2
  by_cases g : a1 ≠ 0 ∧ a0 ≠ 0 ∧ a0 ≤ 1073741824 ∧ a1 ≤ 1073741824 ∧ 2 ≤ a2 ∧ a2 ≤ 1000
  · obtain ⟨g1, g2, g3, g4, g5, g6⟩ := g
    obtain ⟨N, rfl⟩ : ∃ N : Nat, a0 = N := ⟨a0.toNat, by omega⟩
    obtain ⟨D, rfl⟩ : ∃ D : Nat, a1 = D := ⟨a1.toNat, by omega⟩
    obtain ⟨B, rfl⟩ : ∃ B : Nat, a2 = B := ⟨a2.toNat, by omega⟩
    exact ratTexts.good N D B w htab htb (by omega) (by omega) (by omega) (by omega) (by omega) (by omega)
  · have HAl := Lib.hid (alive_r w htab htb)
    clear w0 w1 w2 htab htb
    by_cases g1 : a1 = 0
    · have n1 : (a1 == 0) = true := by simp [g1]
      clear g g1 b0 b1 b2
      go_enter Tryz.func3, Tryz.ntmps3
      go_wp2_with fail
      refine HAl.out.mono ?_
      rintro e w2 ⟨rfl, hb⟩
      go_wp2_with fail
      go_ret
      exact ⟨rfl, hb⟩
    have n1 : (a1 == 0) = false := by simp [g1]
    by_cases g2 : a0 = 0
    · have n2 : (a0 == 0) = true := by simp [g2]
      clear g g1 g2 b0 b1 b2
      go_enter Tryz.func3, Tryz.ntmps3
      go_wp2_with fail
      refine HAl.out.mono ?_
      rintro e w2 ⟨rfl, hb⟩
      go_wp2_with fail
      go_ret
      exact ⟨rfl, hb⟩
    have n2 : (a0 == 0) = false := by simp [g2]
    by_cases g3 : (1073741824 : Int) < a0
    · clear g g1 g2 b0 b1 b2
      go_enter Tryz.func3, Tryz.ntmps3
      go_wp2_with fail
      refine HAl.out.mono ?_
      rintro e w2 ⟨rfl, hb⟩
      go_wp2_with fail
      go_ret
      exact ⟨rfl, hb⟩
    by_cases g4 : (1073741824 : Int) < a1
    · clear g g1 g2 b0 b1 b2
      go_enter Tryz.func3, Tryz.ntmps3
      go_wp2_with fail
      refine HAl.out.mono ?_
      rintro e w2 ⟨rfl, hb⟩
      go_wp2_with fail
      go_ret
      exact ⟨rfl, hb⟩
    by_cases g5 : a2 < 2
    · clear g g1 g2 b0 b1 b2
      go_enter Tryz.func3, Tryz.ntmps3
      go_wp2_with fail
      refine HAl.out.mono ?_
      rintro e w2 ⟨rfl, hb⟩
      go_wp2_with fail
      go_ret
      exact ⟨rfl, hb⟩
    have g6 : (1000 : Int) < a2 := by omega
    clear g g1 g2 b0 b1 b2
    go_enter Tryz.func3, Tryz.ntmps3
    go_wp2_with fail
    refine HAl.out.mono ?_
    rintro e w2 ⟨rfl, hb⟩
    go_wp2_with fail
    go_ret
    exact ⟨rfl, hb⟩
end Go.Proofs.YtllmacokhjmdgaaGreatDoor
