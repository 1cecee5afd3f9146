/-
  An argument that is a slice of reasons: what the walk is told of it.
-/
import Derived.Test.YtinkdjplehaibaaDoorDMain
import Derived.ChangeSame
import Derived.OpenShut
namespace Go.Proofs.YtinkdjplehaibaaDoor
open Go.RowKit Go.ChangeShapes Go.WideShapes Go.Deep
set_option linter.unusedVariables false
theorem list_of_ex {α : Type} (Q : Nat → α → Prop) : ∀ n, (∀ i, i < n → ∃ p, Q i p) → ∃ l : List α, l.length = n ∧ ∀ i p, l[i]? = some p → Q i p := by
  intro n
  induction n with
  | zero => intro _; exact ⟨[], rfl, fun i p h => by simp at h⟩
  | succ n ih =>
    intro h
    obtain ⟨l, hl, hq⟩ := ih (fun i hi => h i (by omega))
    obtain ⟨p, hp⟩ := h n (by omega)
    refine ⟨l ++ [p], by simp [hl], fun i q hi => ?_⟩
    by_cases hin : i < n
    · rw [List.getElem?_append_left (by omega)] at hi; exact hq i q hi
    · rw [List.getElem?_append_right (by omega), hl] at hi
      have : i - n = 0 := by
        rcases Nat.eq_zero_or_pos (i - n) with h0 | h0
        · exact h0
        · rw [List.getElem?_eq_none (by simp; omega)] at hi; cases hi
      rw [this] at hi
      simp only [List.getElem?_cons_zero, Option.some.injEq] at hi
      rw [← hi, show i = n from by omega]; exact hp
section
variable {H : Type} {enc : TypeId × Value → H} {w : World} {base : Nat} {spare : Nat → Bool} {held : Bool}
set_option maxRecDepth 100000 in
theorem open_dgs {v : Value} {d : DataW H} {p : List MemPlace} {r : Reach} {b0 : Nat} (hv : Value.okWide Tryd.prog w r b0 22 v) (h : DataW.Trod enc Tryd.prog w base spare held 22 v d p) :
    ∃ a cap l, v = .slice a l.length cap ∧ DR w (.slice a l.length cap) l ∧ (∀ d ∈ l, d.what.size ≤ maxLen) ∧ l.length ≤ maxLen := by
  obtain ⟨a, len, cap, rfl⟩ := okWide_slice Tryd.underlying22 hv
  obtain ⟨fuel, hf⟩ := h
  rcases open_slice Tryd.underlying22 hf with ⟨hcs, _⟩ | ⟨x, l, c, m, n, D, Pl, hcs, _, hl, hm, hmm, _, hi⟩
  · simp [Value.cells] at hcs
    obtain ⟨rfl, rfl, rfl⟩ := hcs
    exact ⟨_, _, [], rfl, ⟨_, _, rfl, fun i d h => by simp at h⟩, fun d h => by simp at h, Nat.zero_le _⟩
  · simp [Value.cells] at hcs
    obtain ⟨rfl, rfl, rfl⟩ := hcs
    have hlm : len ≤ m := by rw [hmm]; split <;> omega
    obtain ⟨L, hL, hq⟩ := list_of_ex (fun i (p : Dg) => p.what.size ≤ maxLen ∧ ∃ ad, some x = some ad ∧ ad.block < w.heap.size ∧ ∀ j u, p.cells[j]? = some u → w.cell? (ad.add (i * 3 + j)) = some u) len (fun i hil => by
      obtain ⟨cs', hc, ht'⟩ := hi i (by omega)
      obtain ⟨ys, n', _, _, _, hyl, hg⟩ := DataW.trod_struct Tryd.underlying40 ht'
      obtain ⟨_, hcl, hat⟩ := World.cells?_some hc
      have h3 : Tryd.prog.cellsOf 40 = 3 := by kernel_rfl
      have i1 : Tryd.prog.cellsOf 3 = 1 := by kernel_rfl
      have u1 : Tryd.prog.cellsOf 38 = 1 := by kernel_rfl
      have s1 : Tryd.prog.cellsOf 9 = 1 := by kernel_rfl
      rw [h3] at hc hcl hat
      have g0 := hg 0 _ rfl
      have g1 := hg 1 _ rfl
      have g2 := hg 2 _ rfl
      match cs', hcl, hat with
      | [c0, c1, c2], _, hat =>
        match ys, hyl with
        | [y0, y1, y2], _ =>
          obtain ⟨n0, e0, _, _⟩ := DataW.trod_int Tryd.underlying38 g0
          obtain ⟨n1, e1, _, _⟩ := DataW.trod_int Tryd.underlying3 g1
          obtain ⟨s2, e2, _, w2⟩ := DataW.trod_string Tryd.underlying9 g2
          simp [i1, u1, s1] at e0 e1 e2
          subst e0 e1 e2
          refine ⟨⟨n0, n1, s2⟩, w2, x, rfl, ?_, fun j u hu => ?_⟩
          · have := World.block_lt_of_cell? w _ (hat 0 (by simp))
            have hbk : ((x.add (i * 3)).add 0).block = x.block := by unfold Addr.add; (repeat' split) <;> rfl
            rw [← hbk]; exact this
          · have hjl : j < 3 := (List.getElem?_eq_some_iff.1 hu).1
            have hcj := hat j (by simpa using hjl)
            rw [Deep.add_add] at hcj
            rw [hcj, ← hu]
            rfl)
    refine ⟨_, _, L, by rw [hL], ⟨_, _, rfl, fun i d hd => (hq i d hd).2⟩, fun d hd => ?_, by omega⟩
    obtain ⟨i, hi'⟩ := List.mem_iff_getElem?.1 hd
    exact (hq i d hi').1
end
end Go.Proofs.YtinkdjplehaibaaDoor
