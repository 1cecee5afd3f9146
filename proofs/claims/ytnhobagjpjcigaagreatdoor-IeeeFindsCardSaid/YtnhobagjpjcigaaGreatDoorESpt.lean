/-
 Law 4: each number has its spot; Exact, Below, Above, Nearest at it.
-/
import Derived.Test.YtnhobagjpjcigaaGreatDoorENext
import Derived.Test.YtnhobagjpjcigaaGreatDoorEBel
import Derived.Test.YtnhobagjpjcigaaGreatDoorENear
namespace Go.Proofs.YtnhobagjpjcigaaGreatDoor
open Go.RowKit
set_option linter.unusedVariables false
theorem spot_ex (m W:Nat):∀ I,0 < I→∃ s,Spot m I W s
 | 0,h=>absurd h (by omega)
 | 1,_=>⟨0,by omega,by rw [un_zero];omega,fun h=>absurd h (by omega)⟩
 | I + 2,_=>by
  by_cases h:un m (I + 1)≤W
  · exact ⟨I + 1,by omega,h,fun h2=>absurd h2 (by omega)⟩
  · obtain ⟨s,h1⟩:=spot_ex m W (I + 1) (by omega)
    have h2:=h1.1
    refine ⟨s,by omega,h1.2,fun h3=>?_⟩
    by_cases h4:s + 1=I + 1
    · rw [h4];omega
    · exact h1.3 (by omega)
theorem bsd_false {e m s:Nat} {z aw ex:Bool} {P:Nat} (h:bsT e m z aw ex s=(P,false)):P=0:=by
 unfold bsT at h
 by_cases h1:aw=true∧ex=false
 · simp only [if_pos h1] at h
   by_cases h2:s + 1=inf e m
   · rw [if_pos h2] at h;exact (Prod.mk.inj h).1.symm
   · rw [if_neg h2] at h;cases (Prod.mk.inj h).2
 · simp only [if_neg h1] at h
   by_cases h2:s=inf e m
   · rw [if_pos h2] at h;exact (Prod.mk.inj h).1.symm
   · rw [if_neg h2] at h;cases (Prod.mk.inj h).2
theorem inf_pos (e m:Nat) (he:1≤e):0 < inf e m:=by
 have h1:2^(m + 1)≤2^(e + m):=Nat.pow_le_pow_right (by decide) (by omega)
 have h2:0 < 2^m:=Nat.pow_pos (by decide)
 rw [Nat.pow_succ] at h1
 unfold inf
 omega
structure AtSpot (e m:Nat) (x:Rat) (s:Nat) (ex:Bool):Prop where
 spot:Spot m (inf e m) (x.num.natAbs * 2^upl e m / x.den) s
 exq:exq m s (x.num.natAbs * 2^upl e m) x.den=ex
 ext:∀ W v,IsR W v x→Calls Tryz.prog 36 #[.agg #[.int .i64 (e:Int),.int .i64 (m:Int)],v] W fun E w'=>E=.returned (.tuple #[.int .u64 ((if ex=true then ptn e m (decide (x.num < 0)) s else 0:Nat):Int),.bool ex])∧Below W.heap.size W w'
 blw:∀ W v,IsR W v x→Calls Tryz.prog 37 #[.agg #[.int .i64 (e:Int),.int .i64 (m:Int)],v] W fun E w'=>E=.returned (.tuple #[.int .u64 (((bsT e m (decide (x.num < 0)) (decide (x.num < 0)) ex s).1:Nat):Int),.bool (bsT e m (decide (x.num < 0)) (decide (x.num < 0)) ex s).2])∧Below W.heap.size W w'
 abv:∀ W v,IsR W v x→Calls Tryz.prog 38 #[.agg #[.int .i64 (e:Int),.int .i64 (m:Int)],v] W fun E w'=>E=.returned (.tuple #[.int .u64 (((bsT e m (decide (x.num < 0)) (!decide (x.num < 0)) ex s).1:Nat):Int),.bool (bsT e m (decide (x.num < 0)) (!decide (x.num < 0)) ex s).2])∧Below W.heap.size W w'
 nrs:∀ W v,IsR W v x→Calls Tryz.prog 39 #[.agg #[.int .i64 (e:Int),.int .i64 (m:Int)],v] W fun E w'=>E=.returned (.int .u64 ((ptn e m (decide (x.num < 0)) (if nup m s (x.num.natAbs * 2^upl e m) x.den=true then s + 1 else s):Nat):Int))∧Below W.heap.size W w'
theorem at_spot (e m:Nat) (x:Rat) (he:2≤e) (he2:e≤11) (hm:1≤m) (hm2:m≤52) (hx:Sz 40 x) (s:Nat) (hS:Spot m (inf e m) (x.num.natAbs * 2^upl e m / x.den) s):AtSpot e m x s (exq m s (x.num.natAbs * 2^upl e m) x.den):=by
 have hbs:∀ (aw:Bool) W v,IsR W v x→Calls Tryz.prog 88 #[.agg #[.int .i64 (e:Int),.int .i64 (m:Int)],v,.bool aw] W fun E w'=>E=.returned (.tuple #[.int .u64 (((bsT e m (decide (x.num < 0)) aw (exq m s (x.num.natAbs * 2^upl e m) x.den) s).1:Nat):Int),.bool (bsT e m (decide (x.num < 0)) aw (exq m s (x.num.natAbs * 2^upl e m) x.den) s).2])∧Below W.heap.size W w':=fun aw W v h=>(beside_any e m x aw v he he2 hm hm2 W h hx).mono fun E w' ht=>by
  obtain ⟨t,h1,h2,h3⟩:=ht
  obtain rfl:=hS.inj h1
  exact ⟨h2,h3⟩
 refine ⟨hS,rfl,fun W v h=>(exact_any e m x v he he2 hm hm2 W h hx).mono fun E w' ht=>?_,fun W v h=>below_of e m x v _ _ W h (fun W v h=>hbs _ W v h),fun W v h=>above_of e m x v _ _ W h (fun W v h=>hbs _ W v h),fun W v h=>(near_any e m x v he he2 hm hm2 W h hx).mono fun E w' ht=>?_⟩
 · obtain ⟨t,h1,h2,h3⟩:=ht
   obtain rfl:=hS.inj h1
   exact ⟨h2,h3⟩
 · obtain ⟨t,h1,h2,h3⟩:=ht
   obtain rfl:=hS.inj h1
   exact ⟨h2,h3⟩
end Go.Proofs.YtnhobagjpjcigaaGreatDoor
