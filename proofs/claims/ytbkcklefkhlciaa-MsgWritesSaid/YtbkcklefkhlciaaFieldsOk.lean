/-
  What a row of fields holds.
-/
import Derived.Test.YtbkcklefkhlciaaPgApp
namespace Go.Proofs.Ytbkcklefkhlciaa
open Go.RowKit
theorem pair_inj : ∀ (l l' : List (Fd × Nat)), l.map Pt.pair = l'.map Pt.pair → l = l' := by
  intro l
  induction l with
  | nil => intro l' h; cases l' with | nil => rfl | cons _ _ => cases h
  | cons p l ih =>
    intro l' h
    cases l' with
    | nil => cases h
    | cons p' l' =>
      simp only [List.map_cons, List.cons.injEq] at h
      obtain ⟨f, k⟩ := p
      obtain ⟨f', k'⟩ := p'
      have h1 := h.1
      unfold Pt.pair at h1
      injection h1 with h1 h2
      simp only at h1 h2
      rw [ih l' h.2, h1, h2]
theorem pair_bad (l l' : List (Fd × Nat)) (c q : Nat) : l.map Pt.pair ≠ l'.map Pt.pair ++ [.bad c q] := by
  intro h
  have : Pt.bad c q ∈ l.map Pt.pair := by rw [h]; simp
  obtain ⟨p, _, hp⟩ := List.mem_map.1 this
  cases hp
theorem bad_inj (l l' : List (Fd × Nat)) (c q c' q' : Nat) (h : l.map Pt.pair ++ [.bad c q] = l'.map Pt.pair ++ [.bad c' q']) : c = c' ∧ q = q' := by
  have := List.append_inj_right' h rfl
  simp only [List.cons.injEq, Pt.bad.injEq, and_true] at this
  exact this
/-- The row at a holds the fields l. -/
def FHolds (w : World) (a : Option Addr) (l : List (Fd × Nat)) : Prop := ∀ i p, l[i]? = some p → ∃ g, a = some ⟨g, 0, none⟩ ∧ g < w.heap.size ∧ ∀ j u, (fdC p)[j]? = some u → w.cell? ⟨g, i * 5 + j, none⟩ = some u
theorem fdsC_get : ∀ (l : List (Fd × Nat)) (i : Nat) (p : Fd × Nat) (j : Nat), l[i]? = some p → j < 5 → (fdsC l)[i * 5 + j]? = (fdC p)[j]? := by
  intro l
  induction l with
  | nil => intro i p j h; simp at h
  | cons q l ih =>
    intro i p j h hj
    have hq : (fdC q).length = 5 := rfl
    have e : fdsC (q :: l) = fdC q ++ fdsC l := by simp [fdsC]
    rw [e]
    cases i with
    | zero =>
      simp only [List.getElem?_cons_zero, Option.some.injEq] at h
      subst h
      rw [Nat.zero_mul, Nat.zero_add, List.getElem?_append_left (by rw [hq]; exact hj)]
    | succ i =>
      rw [List.getElem?_cons_succ] at h
      rw [List.getElem?_append_right (by rw [hq]; omega), hq, show (i + 1) * 5 + j - 5 = i * 5 + j from by omega]
      exact ih i p j h hj
theorem fholds_own {w : World} {b n c : Nat} {a : Option Addr} {l : List (Fd × Nat)} (h : w.ownsRow b 77 5 (.slice a n c) n (fdsC l)) (hn : n = l.length) : FHolds w a l := by
  intro i p hp
  have hi : i < l.length := by
    rcases Nat.lt_or_ge i l.length with h' | h'
    · exact h'
    · rw [List.getElem?_eq_none h'] at hp; cases hp
  obtain ⟨g, cap, hv, _, hlt⟩ := h.form (by omega)
  have hA : a = some ⟨g, 0, none⟩ := by injection hv
  subst hA
  refine ⟨g, rfl, hlt, fun j u hu => ?_⟩
  have hj : j < 5 := by
    rcases Nat.lt_or_ge j 5 with h' | h'
    · exact h'
    · rw [List.getElem?_eq_none (by exact h')] at hu; cases hu
  have := h.cells (g := g) rfl (i * 5 + j) u (by rw [fdsC_get l i p j hp hj]; exact hu)
  have e : (⟨g, 0, none⟩ : Addr).add (i * 5 + j) = ⟨g, i * 5 + j, none⟩ := by
    unfold Addr.add
    split
    · rename_i h0; rw [h0]
    · simp
  rw [e] at this
  exact this
theorem FHolds.below {w w' : World} {a : Option Addr} {l : List (Fd × Nat)} (h : FHolds w a l) (hb : Below w.heap.size w w') : FHolds w' a l := by
  intro i p hp
  obtain ⟨g, rfl, hlt, hc⟩ := h i p hp
  exact ⟨g, rfl, Nat.lt_of_lt_of_le hlt hb.size, fun j u hu => (hb.cell (p := ⟨g, i * 5 + j, none⟩) hlt).trans (hc j u hu)⟩
end Go.Proofs.Ytbkcklefkhlciaa
