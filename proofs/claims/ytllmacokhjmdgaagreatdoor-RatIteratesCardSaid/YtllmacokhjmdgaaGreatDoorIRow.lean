/-
 Law 2: a row of the call's own, of fractions.
-/
import Derived.Test.YtllmacokhjmdgaaGreatDoorIUse
namespace Go.Proofs.YtllmacokhjmdgaaGreatDoor
open Go.RowKit Go.Shelf
set_option linter.unusedVariables false
theorem Tryz.infoRat : (Tryz.prog.info? 28).map (fun i => (i.zero, i.size, i.bytes)) = some (some (.agg #[.bool false, .slice none 0 0, .slice none 0 0]), 3, 56) := by kernel_rfl
def evs (l : List Ev) : List Value := l.flatMap Ev.cells
theorem evs_snoc (l : List Ev) (e : Ev) : evs (l ++ [e]) = evs l ++ e.cells := by simp [evs]
theorem evs_at : ∀ (l : List Ev) (i : Nat) (e : Ev), l[i]? = some e → ∀ j, j < 3 → (evs l)[i * 3 + j]? = e.cells[j]? := by
 intro l
 induction l with
 | nil => intro i e h; simp at h
 | cons d r ih =>
  intro i e h j hj
  have e0 : evs (d :: r) = d.cells ++ evs r := by simp [evs]
  have hd : d.cells.length = 3 := rfl
  cases i with
  | zero =>
   simp at h
   subst h
   rw [e0, Nat.zero_mul, Nat.zero_add, List.getElem?_append_left (by omega)]
  | succ i =>
   rw [e0, List.getElem?_append_right (by omega), hd, show (i + 1) * 3 + j - 3 = i * 3 + j from by omega]
   exact ih i e (by simpa using h) j hj
theorem er_row {w : World} {b : Nat} {v : Value} {l : List Ev} (h : w.ownsRow b 28 3 v l.length (evs l)) : ∃ a c, v = .slice a l.length c ∧ ER w a l := by
 rcases h.2 with ⟨rfl, h0⟩ | ⟨g, cap, cur, rfl, hbg, hg, hnc, _, hsz, htk⟩
 · have : l = [] := List.eq_nil_of_length_eq_zero h0
   subst this
   exact ⟨none, 0, rfl, fun i d hd => by simp at hd⟩
 · refine ⟨_, _, rfl, fun i d hd => ⟨_, rfl, (Array.getElem?_eq_some_iff.1 hg).1, fun j u hu => ?_⟩⟩
   have hi : i < l.length := (List.getElem?_eq_some_iff.1 hd).1
   have hj : j < 3 := (List.getElem?_eq_some_iff.1 hu).1
   have e1 := evs_at l i d hd j hj
   rw [hu, ← htk, List.getElem?_take, if_pos (by omega)] at e1
   have e2 : (⟨g, 0, none⟩ : Addr).add (i * 3 + j) = ⟨g, i * 3 + j, none⟩ := by unfold Addr.add; split <;> simp_all
   rw [e2, cell_of_row w g (i * 3 + j) cur 28 (0, 0) hg, ← Array.getElem?_toList]
   exact e1
end Go.Proofs.YtllmacokhjmdgaaGreatDoor
