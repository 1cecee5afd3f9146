/-
  The walk of IeeeNext: for every input it returns true, and leaves what lay in memory as it was.
-/
import Derived.Test.YtnhobagjpjcigaaGreatDoorIeeeNextA
import Derived.Test.YtnhobagjpjcigaaGreatDoorIeeeNextB
import Derived.Test.YtnhobagjpjcigaaGreatDoorIeeeNextC
namespace Go.Proofs.YtnhobagjpjcigaaGreatDoor
open Go.RowKit
set_option linter.unusedVariables false
theorem wf_u6 {a : Int} (h : (Lit.int .u64 a).wf = true) : 0 ≤ a ∧ a < 18446744073709551616 := by
  simp [Lit.wf, IntKind.min, IntKind.max, IntKind.bits, IntKind.signed] at h; omega
/-- The walk of IeeeNext. -/
theorem ieeeNext.walk (H b : Int) (s : ByteArray) (_ : (Lit.int .i64 H).wf = true) (wb : (Lit.int .u64 b).wf = true) (_ : s.size ≤ maxLen) (w : World) (htab : Tab w) (htb : TabB w) :
    Calls Tryz.prog 8 #[.int .i64 H, .int .u64 b, .string s] w fun e w' => e = .returned (.bool true) ∧ Below w.heap.size w w' := by
  have b2 := wf_u6 wb
  obtain ⟨B, rfl⟩ : ∃ N : Nat, b = N := ⟨b.toNat, by omega⟩
  have hf : ∃ e m : Nat, 2 ≤ e ∧ e ≤ 8 ∧ 1 ≤ m ∧ m ≤ 23 ∧ ∀ W, Calls Tryz.prog 33 #[.int .i64 (bits .and .i64 H 2), .int .i64 0, .int .i64 0] W fun E w' => E = .returned (.agg #[.int .i64 (e : Int), .int .i64 (m : Int)]) ∧ Below W.heap.size W w' := by
    rcases and_two H with h | h
    · rw [h]; exact ⟨8, 23, by omega, by omega, by omega, by omega, form_0⟩
    · rw [h]; exact ⟨4, 3, by omega, by omega, by omega, by omega, form_2⟩
  obtain ⟨e, m, h1, h2, h3, h4, hF⟩ := hf
  by_cases hl : (60 : Int) < (s.size : Int)
  · exact ieeeNext.long H B (by omega) s w htab htb e m h1 h2 h3 h4 hF hl
  by_cases hc : psz e m B < inf e m
  · rcases nx_case e m B hc with ⟨hx, hn⟩ | ⟨P, UP, N, Y, t, hx, hok⟩
    · exact ieeeNext.off H B (by omega) s w htab htb e m h1 h2 h3 h4 hF hl hc hx hn
    · exact ieeeNext.on H B (by omega) s w htab htb e m h1 h2 h3 h4 hF hl hc P UP N Y t hx hok
  · exact ieeeNext.no H B (by omega) s w htab htb e m h1 h2 h3 h4 hF hl (by omega)
end Go.Proofs.YtnhobagjpjcigaaGreatDoor
