/-
 Law 2: Round.
-/
import Derived.Test.YtggmnmmjmihnfaaGreatDoorQC
namespace Go.Proofs.YtggmnmmjmihnfaaGreatDoor
open Go.RowKit
set_option linter.unusedVariables false
/-- The nearest whole number of what has no sign. -/
def rndN (x : Rat) : Nat := (x.num.natAbs * 2 ^ 1 + x.den) / (x.den * 2 ^ 1)
theorem dvm_tr (M N : Nat) (va vb : Value) (W : World) (ha : IsN W va M) (hb : IsN W vb N) (hM : M < 18446744073709551616 ^ 8000) (hN : 0 < N) : Calls Tryz.prog 43 #[va, vb] W fun e w' => ∃ x y z x' y' z', e = .returned (.tuple #[.agg #[.slice x y z], .agg #[.slice x' y' z'], .bool true]) ∧ IsN w' (.agg #[.slice x y z]) (M / N) ∧ IsN w' (.agg #[.slice x' y' z']) (M % N) ∧ Below W.heap.size W w' :=
 (dvm_any M N va vb W ha hb hM).mono fun e w2 h => by
  obtain ⟨h1 | h1, h2⟩ := h
  · exact absurd h1.1 (by omega)
  · obtain ⟨_, x, y, z, x9, y9, z9, h3, h4, h5⟩ := h1
    exact ⟨x, y, z, x9, y9, z9, h3, h4, h5, h2⟩
theorem nd_num (v : Int) : ((v : Rat)).num.natAbs = v.natAbs := by rw [Rat.num_intCast]
theorem nd_den (v : Int) : dn (v : Rat) = 0 := dn_one (Rat.den_intCast v)
end Go.Proofs.YtggmnmmjmihnfaaGreatDoor
