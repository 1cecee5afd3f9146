/-
  Fields of two texts, one behind the other: plain mathematics.
-/
import Derived.Test.YtbkcklefkhlciaaFields
namespace Go.Proofs.Ytbkcklefkhlciaa
open Go.RowKit
theorem gvFrom_app : ∀ (l m : List UInt8) (i v x n : Nat), gvFrom l i v = (x, n, true) → gvFrom (l ++ m) i v = (x, n, true) := by
  intro l
  induction l with
  | nil => intro m i v x n h; simp [gvFrom] at h
  | cons c t ih =>
    intro m i v x n h
    simp only [List.cons_append, gvFrom] at h ⊢
    by_cases h1 : i = 10
    · simp [h1] at h
    · simp only [h1, if_false] at h ⊢
      by_cases h2 : i = 9 ∧ 1 < c.toNat
      · simp [h2] at h
      · simp only [h2, if_false] at h ⊢
        by_cases h3 : c.toNat < 128
        · simp only [h3, if_true] at h ⊢; exact h
        · simp only [h3, if_false] at h ⊢
          exact ih _ _ _ _ _ h
theorem gv_app (l m : List UInt8) (h : (gv l).2.2 = true) : gv (l ++ m) = gv l := by
  obtain ⟨x, n, b, hg⟩ : ∃ x n b, gv l = (x, n, b) := ⟨_, _, _, rfl⟩
  rw [hg] at h
  have hb : b = true := h
  subst hb
  rw [hg]
  exact gvFrom_app l m 0 0 x n hg
theorem list_app (a b : ByteArray) : (a ++ b).data.toList = a.data.toList ++ b.data.toList := by simp
theorem list_ext (a b : ByteArray) (h : a.data.toList = b.data.toList) : a = b := by
  apply ByteArray.ext
  exact Array.toList_inj.1 h
theorem extract_l (a : ByteArray) (i j : Nat) : (a.extract i j).data.toList = (a.data.toList.drop i).take (j - i) := by
  simp
theorem extr_in (a b : ByteArray) (i j : Nat) (h : j ≤ a.size) : (a ++ b).extract i j = a.extract i j := by
  apply list_ext
  rw [extract_l, extract_l, list_app]
  by_cases hij : i ≤ j
  · rw [List.drop_append_of_le_length (by show i ≤ a.size; omega), List.take_append_of_le_length (by rw [List.length_drop]; show j - i ≤ a.size - i; omega)]
  · rw [show j - i = 0 from by omega]; simp
theorem extr_left (a b : ByteArray) (k : Nat) (h : k ≤ a.size) : (a ++ b).extract k (a ++ b).size = a.extract k a.size ++ b := by
  apply list_ext
  have hs : (a ++ b).size = a.size + b.size := by simp
  rw [extract_l, list_app, list_app, extract_l, hs, List.drop_append_of_le_length (by show k ≤ a.size; omega)]
  rw [List.take_of_length_le (by simp; show a.size - k + b.size ≤ a.size + b.size - k; omega), List.take_of_length_le (by simp)]
theorem extr_right (a b : ByteArray) (j : Nat) : (a ++ b).extract (a.size + j) (a ++ b).size = b.extract j b.size := by
  apply list_ext
  have hs : (a ++ b).size = a.size + b.size := by simp
  rw [extract_l, list_app, extract_l, hs, List.drop_append]
  have h1 : a.data.toList.length = a.size := rfl
  rw [h1, List.drop_eq_nil_of_le (by rw [h1]; omega), show a.size + j - a.size = j from by omega, show a.size + b.size - (a.size + j) = b.size - j from by omega]
  rfl
theorem pbody_app (r t : ByteArray) (kind v n : Nat) (d : ByteArray) (h : pbody r kind = some (v, d, n)) : pbody (r ++ t) kind = some (v, d, n) := by
  have hl := gv_le r.data.toList
  have hle : (gv r.data.toList).2.1 ≤ r.size := hl.1
  have hs : (r ++ t).size = r.size + t.size := by simp
  unfold pbody at h ⊢
  rw [list_app]
  by_cases h0 : kind = 0
  · rw [if_pos h0] at h ⊢
    split at h
    · rename_i hb
      rw [gv_app _ _ hb, if_pos hb]; exact h
    · cases h
  · rw [if_neg h0] at h ⊢
    by_cases h2 : kind = 2
    · rw [if_pos h2] at h ⊢
      split at h
      · rename_i hb
        rw [gv_app _ _ hb.1, if_pos ⟨hb.1, by rw [hs]; omega⟩, extr_in _ _ _ _ (by omega)]; exact h
      · cases h
    · rw [if_neg h2] at h ⊢
      by_cases h5 : kind = 5
      · rw [if_pos h5] at h ⊢
        split at h
        · rename_i hb
          rw [if_pos (by omega), List.take_append_of_le_length (by show 4 ≤ r.size; omega)]; exact h
        · cases h
      · rw [if_neg h5] at h ⊢
        by_cases h1 : kind = 1
        · rw [if_pos h1] at h ⊢
          split at h
          · rename_i hb
            rw [if_pos (by omega), List.take_append_of_le_length (by show 8 ≤ r.size; omega)]; exact h
          · cases h
        · rw [if_neg h1] at h; cases h
theorem pget_app (s t : ByteArray) (f : Fd) (n : Nat) (h : pget s = some (f, n)) : pget (s ++ t) = some (f, n) := by
  have hl := gv_le s.data.toList
  have hle : (gv s.data.toList).2.1 ≤ s.size := hl.1
  unfold pget at h ⊢
  split at h
  · rename_i hb
    rw [list_app, gv_app _ _ hb.1, if_pos hb, extr_left s t _ hle]
    split at h
    · rename_i v d m hp
      rw [pbody_app _ t _ _ _ _ hp]; exact h
    · cases h
  · cases h
def Pt.up (n : Nat) : Pt → Pt
  | .ok f k => .ok f (n + k)
  | .bad c k => .bad c (n + k)
theorem pfrom_app (a b : ByteArray) : ∀ (f k : Nat) (l : List (Fd × Nat)), a.size - k ≤ f → k ≤ a.size → pfrom a k = l.map Pt.pair → pfrom (a ++ b) k = l.map Pt.pair ++ pfrom (a ++ b) a.size := by
  intro f
  induction f with
  | zero =>
    intro k l hf hk h
    obtain rfl : k = a.size := by omega
    rw [pfrom_end a _ (Nat.le_refl _)] at h
    obtain rfl : l = [] := by cases l with | nil => rfl | cons _ _ => cases h
    rfl
  | succ f ih =>
    intro k l hf hk h
    by_cases hka : k = a.size
    · subst hka
      rw [pfrom_end a _ (Nat.le_refl _)] at h
      obtain rfl : l = [] := by cases l with | nil => rfl | cons _ _ => cases h
      rfl
    · have hlt : k < a.size := by omega
      cases hp : pget (a.extract k a.size) with
      | none =>
        rw [pfrom_bad a k hlt hp] at h
        cases l with
        | nil => cases h
        | cons p l => cases h
      | some p =>
        obtain ⟨fd, n⟩ := p
        have hn := pget_size _ hp
        rw [extract_size] at hn
        rw [pfrom_ok a k hlt hp] at h
        cases l with
        | nil => cases h
        | cons p l =>
          simp only [List.map_cons, List.cons.injEq] at h
          have hp2 : pget ((a ++ b).extract k (a ++ b).size) = some (fd, n) := by rw [extr_left a b k hk]; exact pget_app _ _ _ _ hp
          have hs : (a ++ b).size = a.size + b.size := by simp
          rw [pfrom_ok (a ++ b) k (by omega) hp2, ih (k + n) l (by omega) (by omega) h.2, List.map_cons, ← h.1]
          rfl
theorem pfrom_up (a b : ByteArray) : ∀ (f j : Nat), b.size - j ≤ f → pfrom (a ++ b) (a.size + j) = (pfrom b j).map (Pt.up a.size) := by
  have hs : (a ++ b).size = a.size + b.size := by simp
  intro f
  induction f with
  | zero => intro j hf; rw [pfrom_end b j (by omega), pfrom_end (a ++ b) _ (by omega)]; rfl
  | succ f ih =>
    intro j hf
    by_cases hj : j < b.size
    · cases hp : pget (b.extract j b.size) with
      | none =>
        rw [pfrom_bad b j hj hp, pfrom_bad (a ++ b) (a.size + j) (by omega) (by rw [extr_right]; exact hp)]
        rfl
      | some p =>
        obtain ⟨fd, n⟩ := p
        have hn := pget_size _ hp
        rw [extract_size] at hn
        rw [pfrom_ok b j hj hp, pfrom_ok (a ++ b) (a.size + j) (by omega) (by rw [extr_right]; exact hp), Nat.add_assoc, ih (j + n) (by omega)]
        rfl
    · rw [pfrom_end b j (by omega), pfrom_end (a ++ b) _ (by omega)]; rfl
theorem pall_small (s : ByteArray) (h : s.size ≤ 60000) : pall s = pfrom s 0 := by unfold pall; rw [if_neg (by omega)]
theorem pall_app (a b : ByteArray) (l : List (Fd × Nat)) (h : a.size + b.size ≤ 60000) (ha : pall a = l.map Pt.pair) : pall (a ++ b) = l.map Pt.pair ++ (pall b).map (Pt.up a.size) := by
  have hs : (a ++ b).size = a.size + b.size := by simp
  rw [pall_small a (by omega)] at ha
  rw [pall_small (a ++ b) (by omega), pall_small b (by omega), pfrom_app a b a.size 0 l (by omega) (by omega) ha]
  have := pfrom_up a b b.size 0 (by omega)
  rw [Nat.add_zero] at this
  rw [this]
def Pt.pl : Pt → Nat
  | .ok _ k => k
  | .bad _ k => k
theorem pfrom_len (s : ByteArray) : ∀ (f k : Nat), s.size - k ≤ f → (pfrom s k).length ≤ s.size - k ∧ ∀ x ∈ pfrom s k, x.pl < s.size := by
  intro f
  induction f with
  | zero => intro k h; rw [pfrom_end s k (by omega)]; simp
  | succ f ih =>
    intro k h
    by_cases hk : k < s.size
    · cases hp : pget (s.extract k s.size) with
      | none =>
        rw [pfrom_bad s k hk hp]
        refine ⟨by simp; omega, fun x hx => ?_⟩
        rw [List.mem_singleton.1 hx]; exact hk
      | some p =>
        obtain ⟨fd, n⟩ := p
        have hn := pget_size _ hp
        rw [extract_size] at hn
        have := ih (k + n) (by omega)
        rw [pfrom_ok s k hk hp]
        refine ⟨by simp; omega, fun x hx => ?_⟩
        rcases List.mem_cons.1 hx with rfl | hx
        · exact hk
        · exact this.2 x hx
    · rw [pfrom_end s k (by omega)]; simp
theorem pall_len (s : ByteArray) (h : s.size ≤ 60000) : (pall s).length ≤ s.size ∧ ∀ x ∈ pall s, x.pl < s.size := by
  rw [pall_small s h]
  have := pfrom_len s s.size 0 (by omega)
  exact ⟨by omega, this.2⟩
end Go.Proofs.Ytbkcklefkhlciaa
