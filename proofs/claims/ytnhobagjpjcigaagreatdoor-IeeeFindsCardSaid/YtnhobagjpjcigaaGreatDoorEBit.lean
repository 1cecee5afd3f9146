/-
 Law 4: shifts and masks of a word.
-/
import Derived.Test.YtnhobagjpjcigaaGreatDoorEMath
import Derived.Test.YtnhobagjpjcigaaGreatDoorNParse
import Derived.Laws.BitsAllLaws
namespace Go.Proofs.YtnhobagjpjcigaaGreatDoor
open Go.RowKit
set_option linter.unusedVariables false
theorem sh_one {p:Nat} (hp:p≤63):IntKind.u64.wrap (1 * 2^p)=((2^p:Nat):Int):=by
 have e2:((2:Int)^p)=((2^p:Nat):Int):=by rw [Int.natCast_pow];rfl
 have:2^p≤2^63:=Nat.pow_le_pow_right (by omega) hp
 rw [e2,Int.one_mul,wrapu64 _ (by omega)]
theorem sh_one_i {p:Nat} (hp:p≤62):IntKind.i64.wrap (1 * 2^p)=((2^p:Nat):Int):=by
 have e2:((2:Int)^p)=((2^p:Nat):Int):=by rw [Int.natCast_pow];rfl
 have h:2^p≤2^62:=Nat.pow_le_pow_right (by omega) hp
 rw [e2,Int.one_mul]
 have:(2:Nat)^62=4611686018427387904:=by decide
 generalize 2^p=x at *
 simp [IntKind.wrap,IntKind.bits,IntKind.signed]
 omega
theorem esh_down {x p:Nat}:(x:Int) / 2^p=((x / 2^p:Nat):Int):=by
 have e2:((2:Int)^p)=((2^p:Nat):Int):=by rw [Int.natCast_pow];rfl
 rw [e2,← Int.natCast_ediv]
theorem and_low {b p:Nat} (hb:b < 18446744073709551616) (hp:p≤63):bits .and .u64 (b:Int) (((2^p:Nat):Int) - 1)=((b % 2^p:Nat):Int):=by
 have h1:2^p≤2^63:=Nat.pow_le_pow_right (by omega) hp
 have h0:0 < 2^p:=Nat.pow_pos (by omega)
 have e1:((2^p:Nat):Int) - 1=((2^p - 1:Nat):Int):=by omega
 rw [e1,u64_and_nat _ _ hb (by omega),Nat.and_two_pow_sub_one_eq_mod]
theorem and_at {b p:Nat} (hb:b < 18446744073709551616) (hp:p≤63):(bits .and .u64 (b:Int) ((2^p:Nat):Int) != 0)=decide (b / 2^p % 2=1):=by
 have h1:2^p≤2^63:=Nat.pow_le_pow_right (by omega) hp
 have h0:0 < 2^p:=Nat.pow_pos (by omega)
 rw [u64_and_nat _ _ hb (by omega)]
 have h2:b.testBit p=decide (b / 2^p % 2=1):=Nat.testBit_eq_decide_div_mod_eq
 rw [← h2]
 cases hb2:b.testBit p with
 | true =>
  have h3:(b &&& 2^p)≠0:=fun e=>by
   have h4:=congrArg (fun x=>Nat.testBit x p) e
   simp [Nat.testBit_and,hb2] at h4
  simpa using h3
 | false =>
  have h3:(b &&& 2^p)=0:=by
   refine Nat.eq_of_testBit_eq fun i=>?_
   rw [Nat.testBit_and,Nat.testBit_two_pow,Nat.zero_testBit]
   by_cases hi:p=i
   · subst hi;simp [hb2]
   · simp [hi]
  rw [h3]
  rfl
theorem or_add {x y k:Nat} (hx:x < 2^k) (hy:y % 2^k=0) (hxw:x < 18446744073709551616) (hyw:y < 18446744073709551616):bits .or .u64 (y:Int) (x:Int)=((y + x:Nat):Int):=by
 rw [u64_or_nat _ _ hyw hxw]
 congr 1
 have h:=Nat.two_pow_add_eq_or_of_lt hx (y / 2^k)
 have e:2^k * (y / 2^k)=y:=by have:=Nat.div_add_mod y (2^k);omega
 rw [e] at h
 exact h.symm
theorem or_add' {x y k:Nat} (hx:x < 2^k) (hy:y % 2^k=0) (hxw:x < 18446744073709551616) (hyw:y < 18446744073709551616):bits .or .u64 (x:Int) (y:Int)=((y + x:Nat):Int):=by
 rw [← or_add hx hy hxw hyw,u64_or_nat _ _ hyw hxw,u64_or_nat _ _ hxw hyw,Nat.or_comm]
end Go.Proofs.YtnhobagjpjcigaaGreatDoor
