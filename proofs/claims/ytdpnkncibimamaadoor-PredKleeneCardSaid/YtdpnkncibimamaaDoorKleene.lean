/-
  One truth set anew: plain mathematics, and a row of the call's own whose one cell is set.
-/
import Derived.Test.YtdpnkncibimamaaDoorTruthTellsWalk
namespace Go.Proofs.YtdpnkncibimamaaDoor
open Go.RowKit
theorem set_split (l : List Int) (k : Nat) (x : Int) (h : k < l.length) : l.set k x = l.take k ++ x :: l.drop (k + 1) := by
  rw [List.set_eq_take_append_cons_drop, if_pos h]
theorem ruled0 (l : List Int) : ruledM 0 l = if 0 < cN l then 0 else if 0 < cU l then 2 else 1 := by unfold ruledM; rw [if_pos rfl]
theorem ruled1 (l : List Int) : ruledM 1 l = if 0 < cY l then 1 else if 0 < cU l then 2 else 0 := by unfold ruledM; rw [if_neg (by decide)]
theorem kle_and (l : List Int) (k : Nat) (v : Int) (h : k < l.length) : ruledM 0 (l.set k 2) = 2 ∨ ruledM 0 (l.set k 2) = ruledM 0 (l.set k v) := by
  have hN : ∀ x, cN (l.set k x) = cN (l.take k) + ((if x = 0 then 1 else 0) + cN (l.drop (k + 1))) := fun x => by rw [set_split l k x h, cN_app]; rfl
  have hU : cU (l.set k 2) = cU (l.take k) + (1 + cU (l.drop (k + 1))) := by rw [set_split l k 2 h, cU_app]; rfl
  rw [ruled0, ruled0, hN 2, hN v, hU]
  by_cases hc : 0 < cN (l.take k) + cN (l.drop (k + 1))
  · right
    rw [if_pos (by omega), if_pos (by omega)]
  · left
    rw [if_neg (by simp; omega), if_pos (by omega)]
theorem kle_or (l : List Int) (k : Nat) (v : Int) (h : k < l.length) : ruledM 1 (l.set k 2) = 2 ∨ ruledM 1 (l.set k 2) = ruledM 1 (l.set k v) := by
  have hY : ∀ x, cY (l.set k x) = cY (l.take k) + ((if x = 1 then 1 else 0) + cY (l.drop (k + 1))) := fun x => by rw [set_split l k x h, cY_app]; rfl
  have hU : cU (l.set k 2) = cU (l.take k) + (1 + cU (l.drop (k + 1))) := by rw [set_split l k 2 h, cU_app]; rfl
  rw [ruled1, ruled1, hY 2, hY v, hU]
  by_cases hc : 0 < cY (l.take k) + cY (l.drop (k + 1))
  · right
    rw [if_pos (by omega), if_pos (by omega)]
  · left
    rw [if_neg (by simp; omega), if_pos (by omega)]
theorem kle_xor (l : List Int) (k : Nat) (h : k < l.length) : xorM (l.set k 2) = 2 := by
  rw [set_split l k 2 h]
  unfold xorM
  simp only [cU_app, cU]
  rw [if_pos (by simp; omega)]
theorem add_at (g k : Nat) : (⟨g, 0, none⟩ : Addr).add k = ⟨g, k, none⟩ := by
  unfold Addr.add
  split
  · rename_i h0; rw [h0]
  · simp
/-- A cell of the row is set. -/
theorem IR.set_ {w : World} {g k : Nat} {zs : List Int} {x : Int} (h : IR w (some ⟨g, 0, none⟩) zs) (hk : k < zs.length) : IR (w.setCell ⟨g, k, none⟩ (.int .i64 x)) (some ⟨g, 0, none⟩) (zs.set k x) := by
  intro i hi
  rw [List.length_set] at hi
  obtain ⟨ad, e, h1, h2⟩ := h i hi
  cases e
  refine ⟨_, rfl, by simpa using h1, ?_⟩
  rw [add_at] at h2 ⊢
  by_cases hik : i = k
  · subst hik
    rw [World.cell?_setCell_same' _ _ _ (by rw [h2]; rfl), List.getD_eq_getElem?_getD, List.getElem?_set_self hk]; rfl
  · rw [World.cell?_setCell_other _ _ _ _ (fun e => hik (by cases e; rfl)), h2, List.getD_eq_getElem?_getD, List.getD_eq_getElem?_getD, List.getElem?_set_ne (fun e => hik e.symm)]
theorem IR.far {w : World} {a : Option Addr} {zs : List Int} (h : IR w a zs) (g k : Nat) (v : Value) (hg : ∀ ad, a = some ad → ad.block ≠ g) : IR (w.setCell ⟨g, k, none⟩ v) a zs := by
  intro i hi
  obtain ⟨ad, rfl, h1, h2⟩ := h i hi
  have hb : (ad.add i).block = ad.block := by unfold Addr.add; split <;> rfl
  refine ⟨ad, rfl, by simpa using h1, ?_⟩
  rw [World.cell?_setCell_other _ _ _ _ (fun e => hg ad rfl (by rw [← hb, ← e])), h2]
theorem own_free {w : World} {b n : Nat} {g c : Nat} {xs : List Value} (h : w.ownsRow b 3 1 (.slice (some ⟨g, 0, none⟩) n c) n xs) (k : Nat) : w.frozen? ⟨g, k, none⟩ = false := by
  rcases h.2 with ⟨h, _⟩ | ⟨g', cap', cur, h, _, hh, _⟩
  · cases h
  · cases h
    simp [World.frozen?, hh]
end Go.Proofs.YtdpnkncibimamaaDoor
