/-
  Small laws: a func value and nil; a number that is handed back.
-/
import Derived.Test.YtllmacokhjmdgaaGreatDoorNDig
namespace Go.Proofs.YtllmacokhjmdgaaGreatDoor
open Go.RowKit
set_option linter.unusedVariables false
theorem run_equalIn_func_nil {P : Program} (d : Nat) (t : TypeId) (f : Fn) (xs ys : Array Value) (a b : Array TypeId) (c : Bool) (h : P.underlying t = some (.func a b c)) (w : World) : (Op.equalIn (d + 1) t (.func f xs ys) .nilFunc).run P w = .ok false w := by
  simp [Op.equalIn, run_underlying h]
def isFunc (x : Option TypeDesc) : Bool := match x with | some (.func ..) => true | _ => false
theorem run_eql_func_nil {P : Program} (t : TypeId) (f : Fn) (xs ys : Array Value) (h : isFunc (P.underlying t) = true) (w : World) : (binOp .eql t (.func f xs ys) .nilFunc).run P w = .ok (.bool false) w := by
  have ⟨a, b, c, h⟩ : ∃ a b c, P.underlying t = some (.func a b c) := by
    unfold isFunc at h
    split at h
    · exact ⟨_, _, _, by assumption⟩
    · cases h
  have e : (Op.equal t (.func f xs ys) .nilFunc).run P w = .ok false w := run_equalIn_func_nil 9999 t f xs ys a b c h w
  simp only [binOp]
  simp [e]
theorem IsN.drew {w : World} {v : Value} {N : Nat} (h : IsN w v N) : IsN w.drew v N := h
def GaveV (N : Nat) (w : World) (e : Ending) (w' : World) : Prop := ∃ x y z, e = .returned (.agg #[.slice x y z]) ∧ IsN w' (.agg #[.slice x y z]) N ∧ Below w.heap.size w w'
theorem gaveV {N : Nat} {w : World} {e : Ending} {w' : World} (h : GaveN N w e w') : GaveV N w e w' := by
  obtain ⟨v, rfl, h2, h3⟩ := h
  obtain ⟨x, y, z, rfl⟩ := isN_form h2
  exact ⟨x, y, z, rfl, h2, h3⟩
theorem lt_big (x k : Nat) (h : x < 18446744073709551616 ^ 2) (hk : 2 ≤ k) : x < 18446744073709551616 ^ k := Nat.lt_of_lt_of_le h (Nat.pow_le_pow_right (by decide) hk)
end Go.Proofs.YtllmacokhjmdgaaGreatDoor
