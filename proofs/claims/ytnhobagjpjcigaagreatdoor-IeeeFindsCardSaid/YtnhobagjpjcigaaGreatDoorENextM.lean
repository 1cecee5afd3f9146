/-
 Law 4: what Next tells, what is below, above, beside (mathematics).
-/
import Derived.Test.YtnhobagjpjcigaaGreatDoorEBsd
import Derived.Test.YtnhobagjpjcigaaGreatDoorEDec
import Derived.Test.YtnhobagjpjcigaaGreatDoorIeeeBackM
import Derived.Test.YtnhobagjpjcigaaGreatDoorRQm
namespace Go.Proofs.YtnhobagjpjcigaaGreatDoor
set_option linter.unusedVariables false
theorem vq_den (e m:Nat):(0:Rat) < (((2^upl e m:Nat):Rat))⁻¹:=Rat.inv_pos.2 (by
 have h:0 < 2^upl e m:=Nat.pow_pos (by decide)
 exact_mod_cast h)
theorem vq_mul (e m:Nat) (z:Bool) (s:Nat):vQ e m z s=((sgn z (un m s):Int):Rat) * (((2^upl e m:Nat):Rat))⁻¹:=by
 unfold vQ
 rw [Rat.mkRat_eq_div,Rat.div_def]
theorem vq_lt (e m a b:Nat):vQ e m false a < vQ e m false b ↔ a < b:=by
 rw [vq_mul,vq_mul,Rat.mul_lt_mul_right (vq_den e m)]
 have h:∀ x:Nat,sgn false x=(x:Int):=fun x=>rfl
 rw [h,h,Rat.intCast_lt_intCast]
 constructor
 · intro h;exact (un_lt_iff (m:=m)).1 (by omega)
 · intro h;have:=un_lt (m:=m) h;omega
theorem vq_neg (e m s:Nat):vQ e m true s=0 - vQ e m false s:=by
 unfold vQ
 rw [Rat.sub_eq_add_neg,Rat.zero_add,Rat.neg_mkRat]
 rfl
def nxT (e m b:Nat):Nat × Bool:=if inf e m≤psz e m b then (0,false) else if png e m b=true∧0 < psz e m b then (ptn e m true (psz e m b - 1),true) else if psz e m b + 1=inf e m then (0,false) else (psz e m b + 1,true)
theorem inf_lt (e m:Nat):inf e m < 2^(e + m):=by
 have h1:0 < 2^m:=Nat.pow_pos (by decide)
 have h2:2^m≤2^(e + m):=Nat.pow_le_pow_right (by decide) (by omega)
 unfold inf
 omega
theorem ptn_psz (e m s:Nat) (z:Bool) (h:s < 2^(e + m)):psz e m (ptn e m z s)=s:=by
 unfold psz ptn
 split
 · rw [Nat.add_mod_left,Nat.mod_eq_of_lt h]
 · exact Nat.mod_eq_of_lt h
theorem ptn_png (e m s:Nat) (z:Bool) (h:s < 2^(e + m)):png e m (ptn e m z s)=(z && decide (0 < s)):=by
 have hP:0 < 2^(e + m):=Nat.pow_pos (by decide)
 unfold png ptn
 split
 · rename_i h1
   rw [Nat.add_div_left _ hP,Nat.div_eq_of_lt h,h1.1,decide_eq_true h1.2]
   rfl
 · rename_i h1
   rw [Nat.div_eq_of_lt h]
   cases z with
   | false=>rfl
   | true=>rw [decide_eq_false (fun h2=>h1 ⟨rfl,h2⟩)];rfl
theorem vq_pos0 (e m s:Nat) (z:Bool):vQ e m (z && decide (0 < s)) s=vQ e m z s:=by
 by_cases h:0 < s
 · rw [decide_eq_true h,Bool.and_true]
 · obtain rfl:s=0:=by omega
   rw [(vq_zero e m 0 _).2 rfl,(vq_zero e m 0 _).2 rfl]
theorem ptn_kd (e m s:Nat) (z:Bool) (h:s < inf e m):pkd e m (ptn e m z s)=1:=by
 have h2:=inf_lt e m
 unfold pkd
 rw [ptn_psz e m s z (by omega),if_neg (by omega),if_neg (by omega)]
theorem ptn_nm (e m s:Nat) (z:Bool) (h:s < inf e m):pnm e m (ptn e m z s)=vQ e m z s:=by
 have h2:=inf_lt e m
 unfold pnm
 rw [ptn_psz e m s z (by omega),if_pos h,ptn_png e m s z (by omega),vq_pos0]
theorem ptn_nx_neg (e m s:Nat) (h:s + 1 < inf e m):nxT e m (ptn e m true (s + 1))=(ptn e m true s,true):=by
 have h2:=inf_lt e m
 unfold nxT
 rw [ptn_psz e m _ _ (by omega),ptn_png e m _ _ (by omega),if_neg (by omega),if_pos ⟨by simp,by omega⟩]
 rfl
theorem nx_pos (e m s:Nat) (h:s < inf e m):nxT e m s=if s + 1=inf e m then (0,false) else (s + 1,true):=by
 have h2:=inf_lt e m
 have h3:ptn e m false s=s:=by unfold ptn;rw [if_neg (by simp)]
 have h4:=ptn_psz e m s false (by omega)
 have h5:=ptn_png e m s false (by omega)
 rw [h3] at h4 h5
 unfold nxT
 rw [h4,h5,if_neg (by omega),if_neg (by simp)]
theorem vq_cross (e m s:Nat):(vQ e m false s).num * ((2^upl e m:Nat):Int)=(un m s:Int) * (vQ e m false s).den:=by
 have h1:=vq_units e m s false
 have h2:=vq_sign e m s false
 have h3:0≤(vQ e m false s).num:=by
  have h4:=of_decide_eq_false (h2.trans (Bool.false_and _))
  omega
 have h5:(((vQ e m false s).num.natAbs * 2^upl e m:Nat):Int)=((un m s * (vQ e m false s).den:Nat):Int):=by rw [h1]
 rw [Int.natCast_mul,Int.natCast_mul,Int.natAbs_of_nonneg h3] at h5
 exact h5
theorem vq_le_iff (e m s:Nat) (x:Rat):vQ e m false s≤x ↔ (un m s:Int) * x.den≤x.num * ((2^upl e m:Nat):Int):=by
 have hc:=vq_cross e m s
 have hP:(0:Int) < ((2^upl e m:Nat):Int):=by
  have:0 < 2^upl e m:=Nat.pow_pos (by decide)
  omega
 have hd:(0:Int) < ((vQ e m false s).den:Int):=by have:=(vQ e m false s).den_pos;omega
 rw [Rat.le_iff]
 generalize (vQ e m false s).num=a at hc ⊢
 generalize ((vQ e m false s).den:Int)=d at hc hd ⊢
 generalize ((2^upl e m:Nat):Int)=P at hc hP ⊢
 generalize (x.den:Int)=D
 generalize x.num=U
 generalize (un m s:Int)=n at hc ⊢
 constructor
 · intro h
   have h1:=Int.mul_le_mul_of_nonneg_right h (Int.le_of_lt hP)
   have e1:a * D * P=n * D * d:=by rw [Int.mul_right_comm,hc];rw [Int.mul_right_comm]
   rw [e1,Int.mul_right_comm U d P] at h1
   exact Int.le_of_mul_le_mul_right h1 hd
 · intro h
   have h1:=Int.mul_le_mul_of_nonneg_right h (Int.le_of_lt hd)
   have e1:n * D * d=a * D * P:=by rw [Int.mul_right_comm,← hc];rw [Int.mul_right_comm]
   rw [e1,Int.mul_right_comm U P d] at h1
   exact Int.le_of_mul_le_mul_right h1 hP
theorem abs_cast {x:Rat} (h:¬ x.num < 0) (P:Nat):x.num * (P:Int)=((x.num.natAbs * P:Nat):Int):=by
 rw [Int.natCast_mul,Int.natAbs_of_nonneg (by omega)]
theorem vq_le (e m s:Nat) {x:Rat} (h:¬ x.num < 0):vQ e m false s≤x ↔ un m s≤x.num.natAbs * 2^upl e m / x.den:=by
 rw [vq_le_iff,abs_cast h,← Int.natCast_mul,Int.ofNat_le,Nat.le_div_iff_mul_le x.den_pos]
theorem exq_iff (e m s:Nat) {x:Rat} (h:¬ x.num < 0) (hs:vQ e m false s < x):exq m s (x.num.natAbs * 2^upl e m) x.den=false:=by
 refine decide_eq_false ?_
 rintro ⟨h1,h2⟩
 have h3:=Nat.div_add_mod (x.num.natAbs * 2^upl e m) x.den
 rw [h1,← h2,Nat.add_zero,Nat.mul_comm] at h3
 have h4:x≤vQ e m false s:=by
  rw [Rat.le_iff]
  have hc:=vq_cross e m s
  have hP:(0:Int) < ((2^upl e m:Nat):Int):=by
   have:0 < 2^upl e m:=Nat.pow_pos (by decide)
   omega
  have h5:=abs_cast h (2^upl e m)
  rw [← h3,Int.natCast_mul] at h5
  generalize (vQ e m false s).num=a at hc ⊢
  generalize ((vQ e m false s).den:Int)=d at hc ⊢
  generalize ((2^upl e m:Nat):Int)=P at hc hP h5 ⊢
  generalize (x.den:Int)=D at h5 ⊢
  generalize x.num=U at h5 ⊢
  generalize (un m s:Int)=n at hc h5 ⊢
  refine Int.le_of_mul_le_mul_right (a:=P) ?_ hP
  rw [Int.mul_right_comm,h5,Int.mul_right_comm,← hc,Int.mul_right_comm]
  omega
 exact absurd hs (Rat.not_lt.2 h4)
theorem exq_eq (e m s:Nat) {x:Rat} (h:¬ x.num < 0) (hx:exq m s (x.num.natAbs * 2^upl e m) x.den=true):x=vQ e m false s:=by
 have h1:vQ e m false s≤x:=by
  rw [vq_le e m s h]
  have:=of_decide_eq_true hx
  omega
 rcases Rat.le_iff_lt_or_eq.1 h1 with h2 | h2
 · rw [exq_iff e m s h h2] at hx
   cases hx
 · exact h2.symm
theorem neg_num (x:Rat):(-x).num.natAbs=x.num.natAbs∧(-x).den=x.den∧(decide ((-x).num < 0)=decide (0 < x.num)):=by
 refine ⟨by rw [Rat.neg_num];omega,Rat.neg_den x,?_⟩
 rw [Rat.neg_num]
 exact decide_eq_decide.2 (by omega)
theorem vq_neg' (e m s:Nat):vQ e m true s=-vQ e m false s:=by rw [vq_neg];grind
theorem bsd_no (e m s:Nat) (z aw ex:Bool) (h:s < inf e m) (h2:(aw && !ex)=false):bsT e m z aw ex s=(ptn e m z s,true):=by
 have h3:¬ (aw=true∧ex=false):=by rintro ⟨rfl,rfl⟩;cases h2
 unfold bsT
 simp only [if_neg h3]
 rw [if_neg (by omega)]
theorem bsd_up (e m s:Nat) (z:Bool):bsT e m z true false s=if s + 1=inf e m then (0,false) else (ptn e m z (s + 1),true):=by
 simp [bsT]
structure BelOk (e m:Nat) (x:Rat) (P:Nat):Prop where
 fin:∃ t z,t < inf e m∧P=ptn e m z t∧vQ e m z t≤x
 nxt:(nxT e m P).2=true→∃ t z,t < inf e m∧(nxT e m P).1=ptn e m z t∧x < vQ e m z t
theorem ptn_pos (e m s:Nat):ptn e m false s=s:=by unfold ptn;rw [if_neg (by simp)]
theorem bel_ok (e m:Nat) (x:Rat) (s:Nat) (h:Spot m (inf e m) (x.num.natAbs * 2^upl e m / x.den) s) (P:Nat)
 (hb:bsT e m (decide (x.num < 0)) (decide (x.num < 0)) (exq m s (x.num.natAbs * 2^upl e m) x.den) s=(P,true)):BelOk e m x P:=by
 have hi:=inf_lt e m
 by_cases hz:x.num < 0
 · rw [decide_eq_true hz] at hb
   obtain ⟨n1,n2,-⟩:=neg_num x
   have hz2:¬ (-x).num < 0:=by rw [Rat.neg_num];omega
   rw [← n1,← n2] at h hb
   cases hx:exq m s ((-x).num.natAbs * 2^upl e m) (-x).den with
   | true =>
    have hq:=exq_eq e m s hz2 hx
    have hxq:x=vQ e m true s:=by rw [vq_neg'];grind
    rw [hx] at hb
    rw [bsd_no e m s _ _ _ h.1 rfl] at hb
    injection hb with hb1
    cases s with
    | zero =>
     rw [(vq_zero e m 0 true).2 rfl] at hxq
     rw [hxq] at hz
     exact absurd hz (by decide)
    | succ t =>
     refine ⟨⟨t + 1,true,h.1,hb1.symm,by rw [hxq];exact Rat.le_refl⟩,fun _=>⟨t,true,by have:=h.1;omega,?_,?_⟩⟩
     · rw [← hb1,ptn_nx_neg e m t h.1]
     · rw [hxq,vq_neg',vq_neg']
       have:=(vq_lt e m t (t + 1)).2 (by omega)
       grind
   | false =>
    rw [hx] at hb
    rw [bsd_up] at hb
    by_cases hs:s + 1=inf e m
    · rw [if_pos hs] at hb
      injection hb with _ hb2
      cases hb2
    · rw [if_neg hs] at hb
      injection hb with hb1
      have hs1:=h.1
      have hs2:s + 1 < inf e m:=by omega
      have hl:=(vq_le e m s hz2).2 h.2
      have hl2:vQ e m false s < -x:=by
       rcases Rat.le_iff_lt_or_eq.1 hl with h5 | h5
       · exact h5
       · exfalso
         have:=vq_exq e m s false
         rw [h5] at this
         rw [this] at hx
         cases hx
      have hn:=Nat.not_le.2 (h.3 hs2)
      have hn2:=Rat.not_le.1 (mt (vq_le e m (s + 1) hz2).1 hn)
      refine ⟨⟨s + 1,true,hs2,hb1.symm,by rw [vq_neg'];grind⟩,fun _=>⟨s,true,hs1,?_,by rw [vq_neg'];grind⟩⟩
      rw [← hb1,ptn_nx_neg e m s hs2]
 · rw [decide_eq_false hz] at hb
   rw [bsd_no e m s _ _ _ h.1 rfl] at hb
   injection hb with hb1
   have hs1:=h.1
   rw [ptn_pos] at hb1
   refine ⟨⟨s,false,hs1,by rw [← hb1,ptn_pos],(vq_le e m s hz).2 h.2⟩,fun hn=>?_⟩
   rw [← hb1,nx_pos e m s hs1] at hn ⊢
   by_cases hs:s + 1=inf e m
   · rw [if_pos hs] at hn
     cases hn
   · rw [if_neg hs]
     have hs2:s + 1 < inf e m:=by omega
     exact ⟨s + 1,false,hs2,(ptn_pos e m _).symm,Rat.not_le.1 (mt (vq_le e m (s + 1) hz).1 (Nat.not_le.2 (h.3 hs2)))⟩
end Go.Proofs.YtnhobagjpjcigaaGreatDoor
