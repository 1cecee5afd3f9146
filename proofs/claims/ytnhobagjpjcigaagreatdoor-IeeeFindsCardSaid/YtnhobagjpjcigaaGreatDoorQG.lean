/-
 Law 2: Cmp; sums of signed numbers.
 Law 2: Add, Sub.
 Law 2: Floor, Ceil.
 Law 2: the mathematics of Round; what a walk of many calls asks.
-/
import Derived.Test.YtnhobagjpjcigaaGreatDoorQRound
import Derived.Test.YtnhobagjpjcigaaGreatDoorQTxA
namespace Go.Proofs.YtnhobagjpjcigaaGreatDoor
open Go.RowKit
set_option linter.unusedVariables false
theorem cmpQ_int (x y:Rat):cmpQ x y=if x.num * (y.den:Int) < y.num * (x.den:Int) then -1 else if y.num * (x.den:Int) < x.num * (y.den:Int) then 1 else 0:=by
 unfold cmpQ
 simp only [Rat.lt_iff]
theorem cmpI_int (M N:Nat):cmpI M N=if (M:Int) < (N:Int) then -1 else if (N:Int) < (M:Int) then 1 else 0:=by
 rcases Nat.lt_trichotomy M N with h | h | h
 · rw [cmpI_lt h,if_pos (by omega)]
 · subst h;rw [cmpI_eq];simp
 · rw [cmpI_gt h,if_neg (by omega),if_pos (by omega)]
theorem cmpQ_np (x y:Rat) (hx:x.num < 0) (hy:¬ y.num < 0):cmpQ x y=-1:=by
 rw [cmpQ_int,if_pos]
 have h1:x.num * (y.den:Int) < 0:=Int.mul_neg_of_neg_of_pos hx (by have:=y.den_pos;omega)
 have h2:0≤y.num * (x.den:Int):=Int.mul_nonneg (by omega) (by omega)
 omega
theorem cmpQ_pn (x y:Rat) (hx:¬ x.num < 0) (hy:y.num < 0):cmpQ x y=1:=by
 have h1:y.num * (x.den:Int) < 0:=Int.mul_neg_of_neg_of_pos hy (by have:=x.den_pos;omega)
 have h2:0≤x.num * (y.den:Int):=Int.mul_nonneg (by omega) (by omega)
 rw [cmpQ_int,if_neg (by omega),if_pos (by omega)]
theorem cmpQ_pp (x y:Rat) (hx:¬ x.num < 0) (hy:¬ y.num < 0):cmpI (x.num.natAbs * y.den) (y.num.natAbs * x.den)=cmpQ x y:=by
 rw [cmpI_int,cmpQ_int]
 have e1:((x.num.natAbs * y.den:Nat):Int)=x.num * (y.den:Int):=by rw [Int.natCast_mul,Int.natAbs_of_nonneg (by omega)]
 have e2:((y.num.natAbs * x.den:Nat):Int)=y.num * (x.den:Int):=by rw [Int.natCast_mul,Int.natAbs_of_nonneg (by omega)]
 rw [e1,e2]
theorem cmpQ_nn (x y:Rat) (hx:x.num < 0) (hy:y.num < 0):cmpI (y.num.natAbs * x.den) (x.num.natAbs * y.den)=cmpQ x y:=by
 rw [cmpI_int,cmpQ_int]
 have e1:((x.num.natAbs * y.den:Nat):Int)=-(x.num * (y.den:Int)):=by rw [Int.natCast_mul,show ((x.num.natAbs:Nat):Int)=-x.num by omega,Int.neg_mul]
 have e2:((y.num.natAbs * x.den:Nat):Int)=-(y.num * (x.den:Int)):=by rw [Int.natCast_mul,show ((y.num.natAbs:Nat):Int)=-y.num by omega,Int.neg_mul]
 rw [e1,e2]
 by_cases h1:x.num * (y.den:Int) < y.num * (x.den:Int)
 · rw [if_pos (by omega),if_pos h1]
 · rw [if_neg (by omega),if_neg h1]
   by_cases h2:y.num * (x.den:Int) < x.num * (y.den:Int)
   · rw [if_pos (by omega),if_pos h2]
   · rw [if_neg (by omega),if_neg h2]
end Go.Proofs.YtnhobagjpjcigaaGreatDoor
namespace Go.Proofs.YtnhobagjpjcigaaGreatDoor
open Go.RowKit
set_option linter.unusedVariables false
theorem sgn_ab (b:Bool) (n:Nat):(sgn b n).natAbs=n:=by unfold sgn;cases b <;> simp
theorem sgn_lt (b:Bool) (n:Nat) (h:n≠0):decide (sgn b n < 0)=b:=by
 unfold sgn
 cases b
 · simp
 · simp;omega
theorem sgn_mul (b:Bool) (n m:Nat):sgn b (n * m)=sgn b n * (m:Int):=by
 unfold sgn
 cases b
 · simp
 · simp [Int.neg_mul]
theorem w_up {j k N:Nat} (h:N < 18446744073709551616^j) (hk:j≤k):N < 18446744073709551616^k:=Nat.lt_of_lt_of_le h (w64_mono hk)
end Go.Proofs.YtnhobagjpjcigaaGreatDoor
namespace Go.Proofs.YtnhobagjpjcigaaGreatDoor
open Go.RowKit
set_option linter.unusedVariables false
end Go.Proofs.YtnhobagjpjcigaaGreatDoor
namespace Go.Proofs.YtnhobagjpjcigaaGreatDoor
open Go.RowKit
set_option linter.unusedVariables false
theorem any_opg {P:Program} {ops:Array Oper} {Q:Exit→Act→World→Prop} {i:Nat} {K:Act→World→Prop} {a:Act} {w:World} {o:Oper} (hi:ops[i]?=some o) (hg:Region.wanted o (yielded ops a.tmps)=true) (h:o.wp P a w K Q):wpOp P ops Q i K a w:=by
 unfold wpOp
 rw [hi]
 simp only [hg,if_true]
 exact .inl h
section
variable {w W8 W:World} {bx:List (Nat × TypeId × Array Value)} {l:List (Value × Nat)} {r:List (Value × Rat)}
theorem Mq.put3 (V:Mq w bx l r W8) (hb:Below W8.heap.size W8 W) {b:Nat} {z:Bool} {p:Option Addr} {n c:Nat} {p':Option Addr} {n' c':Nat} (hk:Blk W b 27 #[.bool z,.slice p n c,.slice p' n' c']) (hb8:W8.heap.size≤b)
 {v:Value} {D:Rat} (hD:IsR W v D) (y:Bool) (q:Option Addr) (m d:Nat) (q':Option Addr) (m' d':Nat) :
 Mq w ((b,27,#[.bool y,.slice q m d,.slice q' m' d']) :: bx) l ((v,D) :: r) (set3 W b (.bool y) (.slice q m d) (.slice q' m' d')) :=
 ((V.below (below_set3 hb hb8 _ _ _)).rcons (isR_put (isR_put (isR_put hD hk (plain_rat _ _ _ _ _ _ _) (i:=0) (.bool y)) (hk.set_ 0 (.bool y)) (plain_rat _ _ _ _ _ _ _) (i:=1) (.slice q m d)) ((hk.set_ 0 (.bool y)).set_ 1 (.slice q m d)) (plain_rat _ _ _ _ _ _ _) (i:=2) (.slice q' m' d'))).addbox (blk_set3 hk _ _ _) (Nat.le_trans V.bel.size hb8)
end
theorem sz_zero (k:Nat) (h:1≤k):Sz k 0:=⟨w_pos k h (by decide),w_pos k h (by decide)⟩
theorem cmpQ_lt {x y:Rat} (h:x < y):cmpQ x y=-1:=if_pos h
theorem cmpQ_eq (x:Rat):cmpQ x x=0:=by
 unfold cmpQ
 rw [if_neg Rat.lt_irrefl,if_neg Rat.lt_irrefl]
end Go.Proofs.YtnhobagjpjcigaaGreatDoor
