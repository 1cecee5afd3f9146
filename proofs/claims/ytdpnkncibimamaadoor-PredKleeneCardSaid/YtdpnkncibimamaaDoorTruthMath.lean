/-
  Plain mathematics for truths: nothing of the program is imported here.
-/
import Derived.WalkKit
import Derived.Lib.Hide
namespace Go.Proofs.YtdpnkncibimamaaDoor
/-- How many are No, Yes, neither. -/
def cN : List Int → Nat
  | [] => 0
  | x :: t => (if x = 0 then 1 else 0) + cN t
def cY : List Int → Nat
  | [] => 0
  | x :: t => (if x = 1 then 1 else 0) + cY t
def cU : List Int → Nat
  | [] => 0
  | x :: t => (if x = 0 ∨ x = 1 then 0 else 1) + cU t
/-- The first one that is known. -/
def firstM : List Int → Int
  | [] => 2
  | x :: t => if x = 0 ∨ x = 1 then x else firstM t
def ruledM (b : Int) (l : List Int) : Int := if b = 0 then (if 0 < cN l then 0 else if 0 < cU l then 2 else 1) else (if 0 < cY l then 1 else if 0 < cU l then 2 else 0)
def xorM (l : List Int) : Int := if 0 < cU l then 2 else ((cY l % 2 : Nat) : Int)
def notM (a : Int) : Int := if a = 0 then 1 else if a = 1 then 0 else 2
theorem cN_snoc (l : List Int) (x : Int) : cN (l ++ [x]) = cN l + if x = 0 then 1 else 0 := by
  induction l with
  | nil => simp [cN]
  | cons y t ih => simp only [List.cons_append, cN, ih]; omega
theorem cY_snoc (l : List Int) (x : Int) : cY (l ++ [x]) = cY l + if x = 1 then 1 else 0 := by
  induction l with
  | nil => simp [cY]
  | cons y t ih => simp only [List.cons_append, cY, ih]; omega
theorem cU_snoc (l : List Int) (x : Int) : cU (l ++ [x]) = cU l + if x = 0 ∨ x = 1 then 0 else 1 := by
  induction l with
  | nil => simp [cU]
  | cons y t ih => simp only [List.cons_append, cU, ih]; omega
theorem firstM_snoc (l : List Int) (x : Int) : firstM (l ++ [x]) = if firstM l = 2 then (if x = 0 ∨ x = 1 then x else 2) else firstM l := by
  induction l with
  | nil => simp [firstM]
  | cons y t ih =>
    by_cases h : y = 0 ∨ y = 1
    · have e : ∀ m, firstM (y :: m) = y := fun m => by simp only [firstM]; rw [if_pos h]
      rw [List.cons_append, e, e, if_neg (by omega)]
    · have e : ∀ m, firstM (y :: m) = firstM m := fun m => by simp only [firstM]; rw [if_neg h]
      rw [List.cons_append, e, e, ih]
theorem cN_le (l : List Int) : cN l ≤ l.length := by
  induction l with
  | nil => simp [cN]
  | cons y t ih => simp only [cN, List.length_cons]; split <;> omega
theorem cY_le (l : List Int) : cY l ≤ l.length := by
  induction l with
  | nil => simp [cY]
  | cons y t ih => simp only [cY, List.length_cons]; split <;> omega
theorem cU_le (l : List Int) : cU l ≤ l.length := by
  induction l with
  | nil => simp [cU]
  | cons y t ih => simp only [cU, List.length_cons]; split <;> omega
theorem cN_app (l m : List Int) : cN (l ++ m) = cN l + cN m := by
  induction l with
  | nil => simp [cN]
  | cons y t ih => simp only [List.cons_append, cN, ih]; omega
theorem cY_app (l m : List Int) : cY (l ++ m) = cY l + cY m := by
  induction l with
  | nil => simp [cY]
  | cons y t ih => simp only [List.cons_append, cY, ih]; omega
theorem cU_app (l m : List Int) : cU (l ++ m) = cU l + cU m := by
  induction l with
  | nil => simp [cU]
  | cons y t ih => simp only [List.cons_append, cU, ih]; omega
theorem firstM_app (l m : List Int) (h : firstM l ≠ 2) : firstM (l ++ m) = firstM l := by
  induction l with
  | nil => simp [firstM] at h
  | cons y t ih =>
    simp only [List.cons_append, firstM] at h ⊢
    by_cases h0 : y = 0 ∨ y = 1
    · rw [if_pos h0, if_pos h0]
    · rw [if_neg h0] at h
      rw [if_neg h0, if_neg h0]
      exact ih h
theorem take_snoc (l : List Int) (k : Nat) (h : k < l.length) : l.take (k + 1) = l.take k ++ [l.getD k 0] := by
  rw [List.take_succ_eq_append_getElem h, List.getD_eq_getElem?_getD, List.getElem?_eq_getElem h]; rfl
theorem take_all (l : List Int) (k : Nat) (h : l.length ≤ k) : l.take k = l := List.take_of_length_le h
theorem split_at (l : List Int) (k : Nat) : l = l.take k ++ l.drop k := (List.take_append_drop k l).symm
end Go.Proofs.YtdpnkncibimamaaDoor
