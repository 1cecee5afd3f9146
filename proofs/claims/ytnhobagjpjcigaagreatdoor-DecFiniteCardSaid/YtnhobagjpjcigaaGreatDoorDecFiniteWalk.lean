/-
 DecFinite at every input.
-/
import Derived.Test.YtnhobagjpjcigaaGreatDoorDecFiniteMain
import Derived.Test.YtnhobagjpjcigaaGreatDoorDecFiniteEarly
namespace Go.Proofs.YtnhobagjpjcigaaGreatDoor
open Go.RowKit
theorem wf_u3 {a : Int} (h : (Lit.int .u64 a).wf = true) : 0 ≤ a ∧ a < 18446744073709551616 := by
 simp [Lit.wf, IntKind.min, IntKind.max, IntKind.bits, IntKind.signed] at h; omega
theorem wf_i3 {a : Int} (h : (Lit.int .i64 a).wf = true) : -9223372036854775808 ≤ a ∧ a ≤ 9223372036854775807 := by
 simp [Lit.wf, IntKind.min, IntKind.max, IntKind.bits, IntKind.signed] at h; omega
theorem decFinite.walk (a0 a1 a2 a3 : Int) (w0 : (Lit.int .u64 a0).wf = true) (w1 : (Lit.int .i64 a1).wf = true) (w2 : (Lit.int .i64 a2).wf = true) (w3 : (Lit.int .i64 a3).wf = true) (w : World) (htab : Tab w) (htb : TabB w) :
 Calls Tryz.prog 6 #[.int .u64 a0, .int .i64 a1, .int .i64 a2, .int .i64 a3] w fun e w' => e = .returned (.bool true) ∧ Below w.heap.size w w' := by
 have b0 := wf_u3 w0
 have b1 := wf_i3 w1
 have b2 := wf_i3 w2
 have b3 := wf_i3 w3
 by_cases h : a0 = 0 ∨ a1 < 0 ∨ 60 < a1 ∨ a2 < 0 ∨ 60 < a2
 · exact decFinite.early a0 a1 a2 a3 w htab htb b0.1 b0.2 b1.1 b1.2 b2.1 b2.2 b3.1 b3.2 h
 · obtain ⟨N, rfl⟩ : ∃ N : Nat, a0 = N := ⟨a0.toNat, by omega⟩
   obtain ⟨t, rfl⟩ : ∃ N : Nat, a1 = N := ⟨a1.toNat, by omega⟩
   obtain ⟨f, rfl⟩ : ∃ N : Nat, a2 = N := ⟨a2.toNat, by omega⟩
   exact decFinite.good N t f a3 w htab htb (by omega) (by omega) (by omega) (by omega) b3.1 b3.2
end Go.Proofs.YtnhobagjpjcigaaGreatDoor
