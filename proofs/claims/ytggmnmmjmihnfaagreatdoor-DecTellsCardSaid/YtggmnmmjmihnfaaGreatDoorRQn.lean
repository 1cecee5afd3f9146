/-
 Law 2: the numbers of the document's own quotients, and of what is rounded.
-/
import Derived.Test.YtggmnmmjmihnfaaGreatDoorQJ
import Derived.Test.YtggmnmmjmihnfaaGreatDoorRQm
namespace Go.Proofs.YtggmnmmjmihnfaaGreatDoor
open Go.RowKit
set_option linter.unusedVariables false
theorem div_mk (x y : Rat) (h : y.num.natAbs ≠ 0) : x * y⁻¹ = mkRat (sgn (decide (x.num < 0) != decide (y.num < 0)) (x.num.natAbs * y.den)) (x.den * y.num.natAbs) := by
 obtain ⟨h1, h2, h3⟩ := inv_parts y h
 have := mul_mk x y⁻¹
 rwa [h1, h2, h3] at this
theorem round_mk (x : Rat) (h : decide (x.num < 0) = false) : rndQ x = (x + H12).floor := by
 have h' := of_decide_eq_false h
 have e : x + H12 = mkRat (x.num * 2 + x.den) (x.den * 2) := by
  rw [show H12 = mkRat 1 2 from rfl]
  have hx := Rat.mkRat_self x
  rw [← hx, Rat.mkRat_add_mkRat _ _ x.den_nz (by decide), hx]
  congr 1
  omega
 rw [e, mk_floor _ _ (by have := x.den_pos; omega)]
 unfold rndQ rndN
 rw [if_neg h', Nat.pow_one, Int.natCast_ediv]
 congr 1
 omega
end Go.Proofs.YtggmnmmjmihnfaaGreatDoor
