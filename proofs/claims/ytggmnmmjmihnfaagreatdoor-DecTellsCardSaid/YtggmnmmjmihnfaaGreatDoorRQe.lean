/-
 Law 2: the document's own fractions: Minus, Floor, Ceil, Round.
-/
import Derived.Test.YtggmnmmjmihnfaaGreatDoorRQd
namespace Go.Proofs.YtggmnmmjmihnfaaGreatDoor
open Go.RowKit
set_option linter.unusedVariables false
theorem szd_neg {k : Nat} {x : Rat} (h : SzD k x) : SzD k (-x) := ⟨by rw [Rat.neg_num, Int.natAbs_neg]; exact h.1, h.2⟩
theorem szd_mk {k : Nat} {n : Int} {d : Nat} (hd : d ≠ 0) (h1 : n.natAbs < 10000 ^ k) (h2 : d < 10000 ^ k) : SzD k (mkRat n d) := by
 obtain ⟨p1, p2, _⟩ := norm_parts n d hd
 exact ⟨by rw [p1]; exact Nat.lt_of_le_of_lt (Nat.div_le_self _ _) h1, by rw [p2]; exact Nat.lt_of_le_of_lt (Nat.div_le_self _ _) h2⟩
theorem szd_add {j k : Nat} {x y : Rat} (hx : SzD j x) (hy : SzD k y) : SzD (j + k + 1) (x + y) := by
 rw [Rat.add_def']
 refine szd_mk (Nat.mul_ne_zero x.den_nz y.den_nz) ?_ (pow_up _ _ (d_mul hx.2 hy.2) (by omega))
 refine Nat.lt_of_le_of_lt (Int.natAbs_add_le _ _) ?_
 rw [Int.natAbs_mul, Int.natAbs_mul]
 refine d_add (d_mul hx.1 hy.2) ?_
 rw [Nat.add_comm]
 exact d_mul hy.1 hx.2
theorem szd_floor {k : Nat} {x : Rat} (h : SzD k x) (hk : 1 ≤ k) : SzD (k + 1) ((x.floor : Int) : Rat) := by
 have h1 : x.num.natAbs / x.den < 10000 ^ k := Nat.lt_of_le_of_lt (Nat.div_le_self _ _) h.1
 have h2 : (1 : Nat) < 10000 ^ k := Nat.one_lt_pow (by omega) (by decide)
 have h3 := Nat.pow_succ (n := 10000) (m := k)
 cases hz : decide (x.num < 0) with
 | false =>
  rw [floor_mkp x hz]
  exact szd_mk (by decide) (by rw [sgn_abs]; omega) (by omega)
 | true =>
  rw [floor_mkn x hz]
  refine szd_mk (by decide) ?_ (by omega)
  rw [sgn_abs]
  split <;> omega
theorem szd_mul {j k : Nat} {x y : Rat} (hx : SzD j x) (hy : SzD k y) : SzD (j + k) (x * y) := by
 rw [mul_mk]
 exact szd_mk (Nat.mul_ne_zero x.den_nz y.den_nz) (by rw [sgn_abs]; exact d_mul hx.1 hy.1) (d_mul hx.2 hy.2)
theorem szd_div {j k : Nat} {x y : Rat} (hx : SzD j x) (hy : SzD k y) (h : y.num.natAbs ≠ 0) : SzD (j + k) (x * y⁻¹) := by
 rw [div_mk x y h]
 exact szd_mk (Nat.mul_ne_zero x.den_nz h) (by rw [sgn_abs]; exact d_mul hx.1 hy.2) (d_mul hx.2 hy.1)
theorem szd_rnd {k : Nat} {x : Rat} (h : SzD k x) : SzD (k + 3) ((rndQ x : Int) : Rat) := by
 have hs12 : SzD 1 H12 := ⟨by rw [h12_parts.1]; decide, by rw [h12_parts.2]; decide⟩
 cases hz : decide (x.num < 0) with
 | false =>
  rw [round_mk x hz]
  exact szd_floor (szd_add h hs12) (by omega)
 | true =>
  have hzn : decide ((-x).num < 0) = false := decide_eq_false (by rw [Rat.neg_num]; have := of_decide_eq_true hz; omega)
  have e : ((rndQ x : Int) : Rat) = -((rndQ (-x) : Int) : Rat) := by rw [rndQ_neg, Rat.neg_neg]
  rw [e, round_mk _ hzn]
  exact szd_neg (szd_floor (szd_add (szd_neg h) hs12) (by omega))
end Go.Proofs.YtggmnmmjmihnfaaGreatDoor
