/-
  Arguments that are slices of ints, of uint64s, of texts: what a walk is told of them.
-/
import Derived.Test.YtbkcklefkhlciaaIr
import Derived.Test.YtbkcklefkhlciaaMflts
import Derived.SliceStrings
import Derived.ChangeSlices
import Derived.ChangeSame
import Derived.OpenShut
namespace Go.Proofs.Ytbkcklefkhlciaa
open Go.RowKit Go.ChangeShapes Go.WideShapes
set_option linter.unusedVariables false
theorem add_block (a : Addr) (i : Nat) : (a.add i).block = a.block := by unfold Addr.add; split <;> rfl
theorem take_getD {α : Type} (l : List α) (n i : Nat) (d : α) (h : i < n) : (l.take n).getD i d = l.getD i d := by
  rw [List.getD_eq_getElem?_getD, List.getD_eq_getElem?_getD, List.getElem?_take, if_pos h]
section
variable {H : Type} {enc : TypeId × Value → H} {w : World} {base : Nat} {spare : Nat → Bool} {held : Bool}
set_option maxRecDepth 100000 in
theorem open_ir {v : Value} {d : DataW H} {p : List MemPlace} {r : Reach} {b0 : Nat} (hv : Value.okWide Try.prog w r b0 27 v) (h : DataW.Trod enc Try.prog w base spare held 27 v d p) :
    ∃ a cap zs, v = .slice a zs.length cap ∧ IR w a zs ∧ (∀ z ∈ zs, (Lit.int .i64 z).wf = true) ∧ zs.length ≤ maxLen := by
  obtain ⟨a, len, cap, rfl⟩ := okWide_slice Try.underlying27 hv
  obtain ⟨fuel, hf⟩ := h
  rcases open_ints Try.underlying27 Try.underlying3 (by kernel_rfl) hf with ⟨hcs, _⟩ | ⟨x, l, c, zs, hcs, _, hl, hm, hz, _, hcell, hwz⟩
  · simp [Value.cells] at hcs
    obtain ⟨rfl, rfl, rfl⟩ := hcs
    exact ⟨_, _, [], rfl, fun i hi => by simp at hi, fun z hz => by simp at hz, Nat.zero_le _⟩
  · simp [Value.cells] at hcs
    obtain ⟨rfl, rfl, rfl⟩ := hcs
    have hlz : len ≤ zs.length := by rw [hz]; split <;> omega
    refine ⟨_, _, zs.take len, by rw [List.length_take, Nat.min_eq_left hlz], fun i hi => ?_, fun z h => hwz z (List.mem_of_mem_take h), by rw [List.length_take]; omega⟩
    rw [List.length_take] at hi
    have hci := hcell i (by omega)
    refine ⟨x, rfl, by rw [← add_block x i]; exact World.block_lt_of_cell? w _ hci, ?_⟩
    rw [hci, take_getD _ _ _ _ (by omega)]
set_option maxRecDepth 100000 in
theorem open_ur {v : Value} {d : DataW H} {p : List MemPlace} {r : Reach} {b0 : Nat} (hv : Value.okWide Try.prog w r b0 28 v) (h : DataW.Trod enc Try.prog w base spare held 28 v d p) :
    ∃ a cap us, v = .slice a us.length cap ∧ UR w a us ∧ (∀ u ∈ us, u < 18446744073709551616) ∧ us.length ≤ maxLen := by
  obtain ⟨a, len, cap, rfl⟩ := okWide_slice Try.underlying28 hv
  obtain ⟨fuel, hf⟩ := h
  rcases open_ints Try.underlying28 Try.underlying25 (by kernel_rfl) hf with ⟨hcs, _⟩ | ⟨x, l, c, zs, hcs, _, hl, hm, hz, _, hcell, hwz⟩
  · simp [Value.cells] at hcs
    obtain ⟨rfl, rfl, rfl⟩ := hcs
    exact ⟨_, _, [], rfl, fun i hi => by simp at hi, fun z hz => by simp at hz, Nat.zero_le _⟩
  · simp [Value.cells] at hcs
    obtain ⟨rfl, rfl, rfl⟩ := hcs
    have hlz : len ≤ zs.length := by rw [hz]; split <;> omega
    refine ⟨_, _, (zs.take len).map Int.toNat, by rw [List.length_map, List.length_take, Nat.min_eq_left hlz], fun i hi => ?_, fun u h => ?_, by rw [List.length_map, List.length_take]; omega⟩
    · rw [List.length_map, List.length_take] at hi
      have hci := hcell i (by omega)
      refine ⟨x, rfl, by rw [← add_block x i]; exact World.block_lt_of_cell? w _ hci, ?_⟩
      have hil : i < zs.length := by omega
      have hw := wf_u64 (hwz zs[i] (List.getElem_mem hil))
      have e1 : zs.getD i 0 = zs[i] := by rw [List.getD_eq_getElem?_getD, List.getElem?_eq_getElem hil]; rfl
      have e2 : ((zs.take len).map Int.toNat).getD i 0 = zs[i].toNat := by
        rw [List.getD_eq_getElem?_getD, List.getElem?_map, List.getElem?_take, if_pos (by omega), List.getElem?_eq_getElem hil]; rfl
      rw [hci, e1, e2]
      have e3 : ((zs[i].toNat : Nat) : Int) = zs[i] := by omega
      rw [e3]
    · obtain ⟨z, hz1, rfl⟩ := List.mem_map.1 h
      have := wf_u64 (hwz z (List.mem_of_mem_take hz1))
      omega
set_option maxRecDepth 100000 in
theorem open_tr {v : Value} {d : DataW H} {p : List MemPlace} {r : Reach} {b0 : Nat} (hv : Value.okWide Try.prog w r b0 26 v) (h : DataW.Trod enc Try.prog w base spare held 26 v d p) :
    ∃ a cap ts, v = .slice a ts.length cap ∧ TR w a ts ∧ (∀ t ∈ ts, t.size ≤ maxLen) ∧ ts.length ≤ maxLen := by
  obtain ⟨a, len, cap, rfl⟩ := okWide_slice Try.underlying26 hv
  obtain ⟨fuel, hf⟩ := h
  rcases open_strings Try.underlying26 Try.underlying9 (by kernel_rfl) hf with ⟨hcs, _⟩ | ⟨x, l, c, zs, hcs, _, hl, hm, hz, _, hcell, hwz⟩
  · simp [Value.cells] at hcs
    obtain ⟨rfl, rfl, rfl⟩ := hcs
    exact ⟨_, _, [], rfl, fun i t hi => by simp at hi, fun z hz => by simp at hz, Nat.zero_le _⟩
  · simp [Value.cells] at hcs
    obtain ⟨rfl, rfl, rfl⟩ := hcs
    have hlz : len ≤ zs.length := by rw [hz]; split <;> omega
    refine ⟨_, _, zs.take len, by rw [List.length_take, Nat.min_eq_left hlz], fun i t hi => ?_, fun z h => hwz z (List.mem_of_mem_take h), by rw [List.length_take]; omega⟩
    have hil := (List.getElem?_eq_some_iff.1 hi).1
    rw [List.length_take] at hil
    have hci := hcell i (by omega)
    refine ⟨x, rfl, by rw [← add_block x i]; exact World.block_lt_of_cell? w _ hci, ?_⟩
    rw [List.getElem?_take, if_pos (by omega)] at hi
    rw [hci, List.getD_eq_getElem?_getD, hi]
    rfl
end
end Go.Proofs.Ytbkcklefkhlciaa
