/-
 Law 2: Mul.
 Law 2: Div.
 Law 2: sizes by 19 digits a word.
-/
import Derived.Test.YtnhobagjpjcigaaGreatDoorQG
namespace Go.Proofs.YtnhobagjpjcigaaGreatDoor
open Go.RowKit
set_option linter.unusedVariables false
end Go.Proofs.YtnhobagjpjcigaaGreatDoor
namespace Go.Proofs.YtnhobagjpjcigaaGreatDoor
open Go.RowKit
set_option linter.unusedVariables false
end Go.Proofs.YtnhobagjpjcigaaGreatDoor
namespace Go.Proofs.YtnhobagjpjcigaaGreatDoor
open Go.RowKit
set_option linter.unusedVariables false
theorem ten_19 {n k:Nat} (h:n≤19 * k):10^n≤18446744073709551616^k:=by
 refine Nat.le_trans (Nat.pow_le_pow_right (by decide) h) ?_
 rw [Nat.pow_mul]
 exact Nat.pow_le_pow_left (by decide) k
theorem nn_lt19 {s:ByteArray} {k:Nat} (hs:s.size≤19 * k):nn s < 18446744073709551616^k:=by
 unfold nn
 split
 · rename_i h
   exact Nat.lt_of_lt_of_le (dv_lt s.size s.data.toList (by simp) h.dig) (ten_19 hs)
 · exact Nat.pow_pos (by decide)
theorem pq_sz19 {s:ByteArray} {x:Rat} {k:Nat} (h:pq s=some x) (hs:s.size≤19 * k) (hk:1≤k):Sz k x:=by
 classical
 have hb:=bd_size s
 unfold pq at h
 split at h
 · unfold pqw at h
   split at h
   · cases h
     refine ⟨?_,by rw [Rat.den_intCast];exact Nat.one_lt_pow (by omega) (by decide)⟩
     rw [nd_num,sgn_abs]
     exact nn_lt19 (by omega)
   · cases h
 · split at h
   · rename_i hc
     cases h
     have ha:=above_size (bd s)
     have hu:=under_size (bd s)
     obtain ⟨p1,p2⟩:=mk_parts (n:=sgn (ng s) (nn (above (bd s)))) (q:=nn (under (bd s))) hc.2.1 (by rw [sgn_abs];exact hc.2.2.2)
     refine ⟨?_,?_⟩
     · rw [p1,sgn_abs]
       exact nn_lt19 (by omega)
     · rw [p2]
       exact nn_lt19 (by omega)
   · cases h
end Go.Proofs.YtnhobagjpjcigaaGreatDoor
