/-
 Law 2: Mul.
 Law 2: Div.
 Law 2: sizes by 19 digits a word.
-/
import Derived.Test.YtggmnmmjmihnfaaGreatDoorQG
namespace Go.Proofs.YtggmnmmjmihnfaaGreatDoor
open Go.RowKit
set_option linter.unusedVariables false
theorem sz_mul {j k : Nat} {x y : Rat} (hx : Sz j x) (hy : Sz k y) : Sz (j + k) (x * y) := by
 obtain ⟨n1, n2⟩ := mul_nums x y
 refine ⟨?_, ?_⟩
 · rw [n1]
   exact w_mul (Nat.lt_of_le_of_lt (Nat.div_le_self _ _) hx.1) (Nat.lt_of_le_of_lt (Nat.div_le_self _ _) hy.1)
 · rw [n2]
   exact w_mul (Nat.lt_of_le_of_lt (Nat.div_le_self _ _) hx.2) (Nat.lt_of_le_of_lt (Nat.div_le_self _ _) hy.2)
end Go.Proofs.YtggmnmmjmihnfaaGreatDoor
namespace Go.Proofs.YtggmnmmjmihnfaaGreatDoor
open Go.RowKit
set_option linter.unusedVariables false
theorem inv_parts (y : Rat) (h : y.num.natAbs ≠ 0) : (y⁻¹).num.natAbs = y.den ∧ (y⁻¹).den = y.num.natAbs ∧ decide ((y⁻¹).num < 0) = decide (y.num < 0) := by
 have h0 : y.num ≠ 0 := by omega
 have hd := y.den_pos
 rw [Rat.num_inv, Rat.den_inv, if_neg h0]
 by_cases hn : y.num < 0
 · rw [Int.sign_eq_neg_one_of_neg hn]
   refine ⟨by omega, rfl, ?_⟩
   rw [decide_eq_true hn]
   exact decide_eq_true (by omega)
 · rw [Int.sign_eq_one_of_pos (by omega)]
   refine ⟨by omega, rfl, ?_⟩
   rw [decide_eq_false hn]
   exact decide_eq_false (by omega)
theorem sz_inv {k : Nat} {y : Rat} (hy : Sz k y) (h : y.num.natAbs ≠ 0) : Sz k y⁻¹ := by
 obtain ⟨h1, h2, _⟩ := inv_parts y h
 exact ⟨by rw [h1]; exact hy.2, by rw [h2]; exact hy.1⟩
end Go.Proofs.YtggmnmmjmihnfaaGreatDoor
namespace Go.Proofs.YtggmnmmjmihnfaaGreatDoor
open Go.RowKit
set_option linter.unusedVariables false
theorem ten_19 {n k : Nat} (h : n ≤ 19 * k) : 10 ^ n ≤ 18446744073709551616 ^ k := by
 refine Nat.le_trans (Nat.pow_le_pow_right (by decide) h) ?_
 rw [Nat.pow_mul]
 exact Nat.pow_le_pow_left (by decide) k
theorem nn_lt19 {s : ByteArray} {k : Nat} (hs : s.size ≤ 19 * k) : nn s < 18446744073709551616 ^ k := by
 unfold nn
 split
 · rename_i h
   exact Nat.lt_of_lt_of_le (dv_lt s.size s.data.toList (by simp) h.dig) (ten_19 hs)
 · exact Nat.pow_pos (by decide)
theorem pq_sz19 {s : ByteArray} {x : Rat} {k : Nat} (h : pq s = some x) (hs : s.size ≤ 19 * k) (hk : 1 ≤ k) : Sz k x := by
 classical
 have hb := bd_size s
 unfold pq at h
 split at h
 · unfold pqw at h
   split at h
   · cases h
     refine ⟨?_, by rw [Rat.den_intCast]; exact Nat.one_lt_pow (by omega) (by decide)⟩
     rw [nd_num, sgn_abs]
     exact nn_lt19 (by omega)
   · cases h
 · split at h
   · rename_i hc
     cases h
     have ha := above_size (bd s)
     have hu := under_size (bd s)
     obtain ⟨p1, p2⟩ := mk_parts (n := sgn (ng s) (nn (above (bd s)))) (q := nn (under (bd s))) hc.2.1 (by rw [sgn_abs]; exact hc.2.2.2)
     refine ⟨?_, ?_⟩
     · rw [p1, sgn_abs]
       exact nn_lt19 (by omega)
     · rw [p2]
       exact nn_lt19 (by omega)
   · cases h
theorem cmpQ_swap (x y : Rat) : cmpQ x y = -cmpQ y x := by
 by_cases h : x < y
 · rw [cmpQ_lt h, cmpQ_gt h]
 · by_cases h2 : y < x
   · rw [cmpQ_lt h2, cmpQ_gt h2]; rfl
   · have e := Rat.le_antisymm (Rat.not_lt.1 h2) (Rat.not_lt.1 h)
     rw [e, cmpQ_eq]; rfl
theorem div_back (x y : Rat) (h : y.num.natAbs ≠ 0) : x * y⁻¹ * y = x := by
 have hy : y ≠ 0 := fun e => h (by rw [e]; rfl)
 rw [Rat.mul_assoc, Rat.inv_mul_cancel _ hy, Rat.mul_one]
theorem floor_under (x : Rat) : cmpQ ((x.floor : Int) : Rat) x = -1 ∨ cmpQ ((x.floor : Int) : Rat) x = 0 := by
 have h := Rat.floor_le x
 by_cases h2 : ((x.floor : Int) : Rat) < x
 · exact .inl (cmpQ_lt h2)
 · rw [Rat.le_antisymm h (Rat.not_lt.1 h2), cmpQ_eq]
   exact .inr rfl
theorem floor_over (x : Rat) : cmpQ x (((x.floor : Int) : Rat) + 1) = -1 := by
 have h := (Rat.floor_lt_iff (a := x) (x := x.floor + 1)).1 (by omega)
 rw [Rat.intCast_add] at h
 exact cmpQ_lt h
theorem ceil_over (x : Rat) : cmpQ ((x.ceil : Int) : Rat) x = 1 ∨ cmpQ ((x.ceil : Int) : Rat) x = 0 := by
 have h := floor_under (-x)
 have e : ((x.ceil : Int) : Rat) = -(((-x).floor : Int) : Rat) := by rw [Rat.ceil_eq_neg_floor_neg, Rat.intCast_neg]
 have hl := Rat.floor_le (-x)
 rw [e]
 generalize (((-x).floor : Int) : Rat) = f at *
 have hl2 : x ≤ -f := by grind
 by_cases h2 : x < -f
 · exact .inl (cmpQ_gt h2)
 · rw [Rat.le_antisymm (Rat.not_lt.1 h2) hl2, cmpQ_eq]
   exact .inr rfl
theorem sub_sign (x y : Rat) : cmpQ (x - y) 0 = cmpQ x y := by
 by_cases h : x < y
 · rw [cmpQ_lt h, cmpQ_lt (by grind)]
 · by_cases h2 : y < x
   · rw [cmpQ_gt h2, cmpQ_gt (by grind)]
   · have e := Rat.le_antisymm (Rat.not_lt.1 h2) (Rat.not_lt.1 h)
     rw [e, Rat.sub_self, cmpQ_eq, cmpQ_eq]
end Go.Proofs.YtggmnmmjmihnfaaGreatDoor
