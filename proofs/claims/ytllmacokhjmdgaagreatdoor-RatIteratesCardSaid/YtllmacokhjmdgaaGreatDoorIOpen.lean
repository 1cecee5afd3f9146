/-
 An argument that is a slice of texts: what a walk is told of it.
-/
import Derived.Test.YtllmacokhjmdgaaGreatDoorIShort
import Derived.SliceStrings
import Derived.ChangeSlices
import Derived.ChangeSame
import Derived.OpenShut
namespace Go.Proofs.YtllmacokhjmdgaaGreatDoor
open Go.RowKit Go.ChangeShapes Go.WideShapes
set_option linter.unusedVariables false
section
variable {H : Type} {enc : TypeId × Value → H} {w : World} {base : Nat} {spare : Nat → Bool} {held : Bool}
set_option maxRecDepth 100000 in
theorem open_ts {v : Value} {d : DataW H} {p : List MemPlace} {r : Reach} {b0 : Nat} (hv : Value.okWide Tryz.prog w r b0 63 v) (h : DataW.Trod enc Tryz.prog w base spare held 63 v d p) :
 ∃ a cap ts, v = .slice a ts.length cap ∧ TS w a ts ∧ (∀ t ∈ ts, t.size ≤ maxLen) ∧ ts.length ≤ maxLen := by
 obtain ⟨a, len, cap, rfl⟩ := okWide_slice Tryz.underlying63 hv
 obtain ⟨fuel, hf⟩ := h
 rcases open_strings Tryz.underlying63 Tryz.underlying9 (by kernel_rfl) hf with ⟨hcs, _⟩ | ⟨x, l, c, zs, hcs, _, hl, hm, hz, _, hcell, hwz⟩
 · simp [Value.cells] at hcs
   obtain ⟨rfl, rfl, rfl⟩ := hcs
   exact ⟨_, _, [], rfl, fun i t hi => by simp at hi, fun z hz => by simp at hz, Nat.zero_le _⟩
 · simp [Value.cells] at hcs
   obtain ⟨rfl, rfl, rfl⟩ := hcs
   have hlz : len ≤ zs.length := by rw [hz]; split <;> omega
   refine ⟨_, _, zs.take len, by rw [List.length_take, Nat.min_eq_left hlz], fun i t hi => ?_, fun z h => hwz z (List.mem_of_mem_take h), by rw [List.length_take]; omega⟩
   have hil := (List.getElem?_eq_some_iff.1 hi).1
   rw [List.length_take] at hil
   have hci := hcell i (by omega)
   refine ⟨x, rfl, by rw [← add_block x i]; exact World.block_lt_of_cell? w _ hci, ?_⟩
   rw [List.getElem?_take, if_pos (by omega)] at hi
   rw [hci, List.getD_eq_getElem?_getD, hi]
   rfl
end
end Go.Proofs.YtllmacokhjmdgaaGreatDoor
