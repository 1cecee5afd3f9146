/-
 Law 2: opposite, Same, Cmp.
-/
import Derived.Test.YtggmnmmjmihnfaaGreatDoorQMake
namespace Go.Proofs.YtggmnmmjmihnfaaGreatDoor
open Go.RowKit
set_option linter.unusedVariables false
/-- The sizes of a fraction's numbers. -/
def Sz (k : Nat) (x : Rat) : Prop := x.num.natAbs < 18446744073709551616 ^ k ∧ x.den < 18446744073709551616 ^ k
theorem Sz.mono {j k : Nat} {x : Rat} (h : Sz j x) (hk : j ≤ k) : Sz k x := ⟨Nat.lt_of_lt_of_le h.1 (w64_mono hk), Nat.lt_of_lt_of_le h.2 (w64_mono hk)⟩
theorem Sz.dn {k : Nat} {x : Rat} (h : Sz k x) : dn x < 18446744073709551616 ^ k := by
 unfold Go.Proofs.YtggmnmmjmihnfaaGreatDoor.dn
 split
 · exact Nat.pow_pos (by decide)
 · exact h.2
theorem times_dn (M : Nat) (x : Rat) : (if dn x = 0 then M else M * dn x) = M * x.den := by
 unfold dn
 by_cases h : x.den = 1
 · simp [h]
 · have := x.den_nz
   simp [h, this]
def sgn (b : Bool) (n : Nat) : Int := if b then -(n : Int) else (n : Int)
theorem num_sgn (x : Rat) : x.num = sgn (decide (x.num < 0)) x.num.natAbs := by
 unfold sgn
 by_cases h : x.num < 0
 · simp [h]; omega
 · simp [h]; omega
theorem rat_eq_iff (x y : Rat) : x = y ↔ (decide (x.num < 0) = decide (y.num < 0) ∧ x.num.natAbs = y.num.natAbs) ∧ dn x = dn y := by
 constructor
 · rintro rfl; exact ⟨⟨rfl, rfl⟩, rfl⟩
 · rintro ⟨⟨h1, h2⟩, h3⟩
   apply Rat.ext
   · rw [num_sgn x, num_sgn y, h1, h2]
   · have hx := x.den_nz
     have hy := y.den_nz
     unfold dn at h3
     split at h3 <;> split at h3 <;> omega
def cmpQ (x y : Rat) : Int := if x < y then -1 else if y < x then 1 else 0
theorem cmpI_zero (M N : Nat) : (cmpI M N == 0) = decide (M = N) := by
 rcases Nat.lt_trichotomy M N with h | h | h
 · rw [cmpI_lt h, decide_eq_false (by omega)]; rfl
 · subst h; rw [cmpI_eq]; simp
 · rw [cmpI_gt h, decide_eq_false (by omega)]; rfl
end Go.Proofs.YtggmnmmjmihnfaaGreatDoor
