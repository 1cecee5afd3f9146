/-
  Law 4: the number of a pattern and its own spot (mathematics of IeeeBack).
-/
import Derived.Test.YtnhobagjpjcigaaGreatDoorEAlive
import Derived.Test.YtnhobagjpjcigaaGreatDoorEBel
namespace Go.Proofs.YtnhobagjpjcigaaGreatDoor
open Go.RowKit
set_option linter.unusedVariables false
theorem vq_units (e m s:Nat) (z:Bool):(vQ e m z s).num.natAbs * 2^upl e m=un m s * (vQ e m z s).den:=by
 obtain ⟨p1,p2,-⟩:=norm_parts (sgn z (un m s)) (2^upl e m) (Nat.ne_of_gt (Nat.pow_pos (by decide)))
 rw [sgn_ab] at p1 p2
 unfold vQ
 rw [p1,p2]
 obtain ⟨a,ha⟩:=Nat.gcd_dvd_left (un m s) (2^upl e m)
 obtain ⟨b,hb⟩:=Nat.gcd_dvd_right (un m s) (2^upl e m)
 have hg:0 < Nat.gcd (un m s) (2^upl e m):=Nat.gcd_pos_of_pos_right _ (Nat.pow_pos (by decide))
 generalize Nat.gcd (un m s) (2^upl e m)=g at *
 have e1:un m s / g=a:=by rw [ha];exact Nat.mul_div_cancel_left _ hg
 have e2:2^upl e m / g=b:=by rw [hb];exact Nat.mul_div_cancel_left _ hg
 rw [e1,e2]
 conv=>lhs;rw [hb]
 conv=>rhs;rw [ha]
 rw [Nat.mul_left_comm,Nat.mul_assoc]
theorem vq_div (e m s:Nat) (z:Bool):(vQ e m z s).num.natAbs * 2^upl e m / (vQ e m z s).den=un m s∧(vQ e m z s).num.natAbs * 2^upl e m % (vQ e m z s).den=0:=by
 rw [vq_units]
 exact ⟨Nat.mul_div_cancel _ (vQ e m z s).den_pos,Nat.mul_mod_left _ _⟩
theorem spot_self {m I s:Nat} (h:s < I):Spot m I (un m s) s:=⟨h,Nat.le_refl _,fun _=>un_succ m s⟩
theorem vq_exq (e m s:Nat) (z:Bool):exq m s ((vQ e m z s).num.natAbs * 2^upl e m) (vQ e m z s).den=true:=decide_eq_true ⟨(vq_div e m s z).2,(vq_div e m s z).1.symm⟩
theorem un_pos {m s:Nat} (h:0 < s):0 < un m s:=by have:=un_lt (m:=m) h;omega
theorem vq_sign (e m s:Nat) (z:Bool):decide ((vQ e m z s).num < 0)=(z && decide (0 < s)):=by
 by_cases h:0 < s
 · obtain ⟨-,-,p3⟩:=norm_parts (sgn z (un m s)) (2^upl e m) (Nat.ne_of_gt (Nat.pow_pos (by decide)))
   unfold vQ
   rw [p3 (by rw [sgn_ab];have:=un_pos (m:=m) h;omega),decide_eq_true h,Bool.and_true]
   exact sgn_lt z _ (by have:=un_pos (m:=m) h;omega)
 · obtain rfl:s=0:=by omega
   have:vQ e m z 0=0:=by unfold vQ;rw [un_zero];cases z <;> simp [sgn]
   rw [this]
   simp
theorem vq_zero (e m s:Nat) (z:Bool):vQ e m z s=0 ↔ s=0:=by
 constructor
 · intro h
   by_cases h0:s=0
   · exact h0
   · have h1:=vq_units e m s z
     rw [h] at h1
     have h2:=un_pos (m:=m) (s:=s) (by omega)
     have h3:((0:Rat)).den=1:=rfl
     have h4:((0:Rat)).num.natAbs=0:=rfl
     rw [h3,h4] at h1
     omega
 · rintro rfl
   unfold vQ
   rw [un_zero]
   cases z <;> simp [sgn]
end Go.Proofs.YtnhobagjpjcigaaGreatDoor
