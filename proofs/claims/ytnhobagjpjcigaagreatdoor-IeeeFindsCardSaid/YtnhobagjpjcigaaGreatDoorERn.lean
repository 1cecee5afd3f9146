/-
 Law 4: the document's own search of a number's spot: Top, sign, Under.
 Law 4: the document's own Below, Above, Exact.
 Law 4: what a form that is none tells of every number.
 Law 4: the document's own Nearest.
-/
import Derived.Test.YtnhobagjpjcigaaGreatDoorERd
import Derived.Test.YtnhobagjpjcigaaGreatDoorESpt
import Derived.Test.YtnhobagjpjcigaaGreatDoorRQe
import Derived.Test.YtnhobagjpjcigaaGreatDoorEBel
import Derived.Test.YtnhobagjpjcigaaGreatDoorENear
namespace Go.Proofs.YtnhobagjpjcigaaGreatDoor
open Go.RowKit
set_option linter.unusedVariables false
theorem Dq.drop1 {w W:World} {b:Nat × TypeId × Array Value} {bx:List (Nat × TypeId × Array Value)} {l:List (Value × Nat)} {y:Value × Rat} {q r:List (Value × Rat)} (h:Dq w (b :: bx) l (y :: q) r W):Dq w bx l q r W :=
 ⟨h.bel,fun k b t cs e=>h.box (k + 1) b t cs (by simpa using e),h.num,fun k v x e=>h.ref (k + 1) v x (by simpa using e),h.rat⟩
theorem top_wrap (e m:Nat) (h:e + m≤63):IntKind.u64.wrap ((((2^e:Nat):Int) - 1) * 2^m)=((inf e m:Nat):Int):=by
 have h0:0 < 2^e:=Nat.pow_pos (by decide)
 have h63:2^(e + m)≤2^63:=Nat.pow_le_pow_right (by decide) h
 have h1:=inf_lt e m
 have e2:((2:Int)^m)=((2^m:Nat):Int):=by rw [Int.natCast_pow];rfl
 have e3:((2^e:Nat):Int) - 1=((2^e - 1:Nat):Int):=by omega
 have e4:(2^e - 1) * 2^m=inf e m:=by unfold inf;rw [Nat.sub_mul,Nat.one_mul,Nat.pow_add]
 rw [e2,e3,← Int.natCast_mul,e4,wrapu64 _ (by omega)]
set_option maxRecDepth 100000 in
theorem rtop_any (e m:Nat) (he:2≤e) (hm:1≤m) (h:e + m≤62) (w:World):Calls Tryz.prog 96 #[.int .i64 (e:Int),.int .i64 (m:Int)] w fun E w'=>E=.returned (.int .u64 ((inf e m - 1:Nat):Int))∧Below w.heap.size w w':=by
 have s2:=sh_one (p:=e) (by omega)
 rw [Int.one_mul] at s2
 have htop:=top_wrap e m (by omega)
 have h63:2^(e + m)≤2^62:=Nat.pow_le_pow_right (by decide) h
 have hi:=inf_lt e m
 have hp:=inf_pos e m (by omega)
 have hE:0 < 2^e:=Nat.pow_pos (by decide)
 have hE2:2^e≤2^62:=Nat.pow_le_pow_right (by decide) (by omega)
 have hg:((inf e m - 1:Nat):Int)=((inf e m:Nat):Int) - 1:=by omega
 obtain ⟨QE,hQE⟩:∃ x:Int,((2^e:Nat):Int)=x:=⟨_,rfl⟩
 obtain ⟨QM,hQM⟩:∃ x:Int,QE - 1=x:=⟨_,rfl⟩
 obtain ⟨TOP,hTOP⟩:∃ x:Int,((inf e m:Nat):Int)=x:=⟨_,rfl⟩
 rw [hg,hTOP]
 rw [hQE,hQM,hTOP] at htop
 rw [hQE] at s2
 have t2:((e:Int)).toNat=e:=by omega
 have t3:((m:Int)).toNat=m:=by omega
 have k1:1≤QE:=by omega
 have k2:QE≤4611686018427387904:=by omega
 have k3:1≤TOP:=by omega
 have k4:TOP≤4611686018427387904:=by omega
 have HB:=Lib.hid (Below.refl w.heap.size w)
 clear h63 hi hp hE hE2 hg hQE hTOP
 go_enter Tryz.func96,Tryz.ntmps96
 go_wp2_with fail
 go_ret
 exact ⟨rfl,HB.out⟩
set_option maxRecDepth 100000 in
theorem rsign_any (e m p:Nat) (h:e + m≤62) (hp:p < 2^(e + m)) (w:World):Calls Tryz.prog 97 #[.int .i64 (e:Int),.int .i64 (m:Int),.int .u64 (p:Int)] w fun E w'=>E=.returned (.int .u64 ((ptn e m true p:Nat):Int))∧Below w.heap.size w w':=by
 have HB:=Lib.hid (Below.refl w.heap.size w)
 by_cases h0:p=0
 · subst h0
   have e1:ptn e m true 0=0:=by unfold ptn;simp
   rw [e1]
   clear e1 hp
   go_enter Tryz.func97,Tryz.ntmps97
   go_wp2_with fail
   go_ret
   exact ⟨rfl,HB.out⟩
 · have h63:2^(e + m)≤2^62:=Nat.pow_le_pow_right (by decide) h
   have e1:ptn e m true p=2^(e + m) + p:=by unfold ptn;rw [if_pos ⟨rfl,by omega⟩]
   have o1:=or_add' (x:=p) (y:=2^(e + m)) (k:=e + m) hp (Nat.mod_self _) (by omega) (by omega)
   have s2:=sh_one (p:=e + m) (by omega)
   rw [Int.one_mul] at s2
   rw [e1]
   obtain ⟨PI,hPI⟩:∃ x:Int,(p:Int)=x:=⟨_,rfl⟩
   obtain ⟨QI,hQI⟩:∃ x:Int,((2^(e + m):Nat):Int)=x:=⟨_,rfl⟩
   obtain ⟨RI,hRI⟩:∃ x:Int,((2^(e + m) + p:Nat):Int)=x:=⟨_,rfl⟩
   rw [hPI,hQI,hRI] at o1
   rw [hQI] at s2
   rw [hPI,hRI]
   have t1:((e:Int) + (m:Int)).toNat=e + m:=by omega
   have g0:(PI == 0)=false:=by simp;omega
   have k1:(0:Int)≤(e:Int) + (m:Int)∧(e:Int) + (m:Int)≤62:=by omega
   clear h63 e1 hPI hQI hRI h0 hp
   go_enter Tryz.func97,Tryz.ntmps97
   go_wp2_with fail
   go_ret
   exact ⟨rfl,HB.out⟩
theorem pow13 (k j:Nat) (h:k≤13 * j):2^k≤10000^j:=by
 refine Nat.le_trans (Nat.pow_le_pow_right (by decide) h) ?_
 rw [Nat.pow_mul]
 exact Nat.pow_le_pow_left (by decide) j
theorem vq_szd (e m s:Nat) (z:Bool) (he:e≤8) (hm:m≤52) (hs:s < 2^(e + m)):SzD 30 (vQ e m z s):=by
 have h1:=un_big (m:=m) (s:=s) (k:=e) (by rw [Nat.add_comm];exact hs)
 have h2:2^e≤2^8:=Nat.pow_le_pow_right (by decide) he
 have h3:2^(e - 1)≤2^7:=Nat.pow_le_pow_right (by decide) (by omega)
 obtain ⟨p1,p2,-⟩:=norm_parts (sgn z (un m s)) (2^upl e m) (Nat.ne_of_gt (Nat.pow_pos (by decide)))
 rw [sgn_ab] at p1
 unfold vQ
 have h4:upl e m≤178:=by unfold upl;omega
 refine ⟨?_,?_⟩
 · rw [p1]
   exact Nat.lt_of_le_of_lt (Nat.div_le_self _ _) (Nat.lt_of_lt_of_le h1 (pow13 _ 30 (by omega)))
 · rw [p2]
   refine Nat.lt_of_le_of_lt (Nat.div_le_self _ _) (Nat.lt_of_le_of_lt (pow13 (upl e m) 29 (by omega)) ?_)
   exact Nat.pow_lt_pow_right (by decide) (by decide)
theorem cmp_le (x y:Rat):decide (cmpQ x y≤0)=decide (x≤y):=by
 unfold cmpQ
 by_cases h:x < y
 · rw [if_pos h,decide_eq_true (Rat.le_of_lt h)];rfl
 · rw [if_neg h]
   by_cases h2:y < x
   · rw [if_pos h2,decide_eq_false (Rat.not_le.2 h2)];rfl
   · rw [if_neg h2,decide_eq_true (Rat.not_lt.1 h2)];rfl
set_option maxRecDepth 100000 in
set_option maxHeartbeats 8000000 in
theorem run_any (e m:Nat) (he:2≤e) (he2:e≤8) (hm:1≤m) (hm2:m≤52) (X:Rat) (va:Value) (w:World) (ha:RQ w va X) (hx:SzD 40 X) (hn:¬ X.num < 0) (s:Nat) (hS:Spot m (inf e m) (X.num.natAbs * 2^upl e m / X.den) s) :
 Calls Tryz.prog 94 #[.int .i64 (e:Int),.int .i64 (m:Int),va] w fun E w'=>E=.returned (.int .u64 (s:Int))∧Below w.heap.size w w':=by
 have HTop:=Lib.hid (fun W=>rtop_any e m he hm (by omega) W)
 have hi:=inf_lt e m
 have hp:=inf_pos e m (by omega)
 have h60:2^(e + m)≤2^60:=Nat.pow_le_pow_right (by decide) (by omega)
 have HDec:Hid (∀ k W,k < inf e m→Calls Tryz.prog 92 #[.int .i64 (e:Int),.int .i64 (m:Int),.int .u64 (k:Int)] W (RdIs 1 (vQ e m false k) W)):=Lib.hid (fun k W hk=>by
  have h1:=ptn_kd e m k false hk
  have h2:=ptn_nm e m k false hk
  rw [ptn_pos] at h1 h2
  have:=rdec_any e m k he (by omega) hm hm2 (by omega) W
  rwa [h1,h2] at this)
 have HCm:Hid (∀ k W va vb,k < inf e m→RQ W va (vQ e m false k)→RQ W vb X→Calls Tryz.prog 93 #[va,vb] W fun E w'=>∃ c:Int,E=.returned (.int .i64 c)∧decide (c≤0)=decide (un m k≤X.num.natAbs * 2^upl e m / X.den)∧Below W.heap.size W w'):=Lib.hid (fun k W va vb hk h1 h2=>(rratcmp_any _ _ va vb W h1 h2 ((vq_szd e m k false he2 hm2 (by omega)).mono (by omega)) (hx.mono (by omega))).mono fun E w' h=>⟨_,h.1,by rw [cmp_le];exact decide_eq_decide.2 (vq_le e m k hn),h.2⟩)
 obtain ⟨WW,hWW⟩:∃ x,X.num.natAbs * 2^upl e m / X.den=x:=⟨_,rfl⟩
 rw [hWW] at HCm hS
 obtain ⟨I,hI⟩:∃ x,inf e m=x:=⟨_,rfl⟩
 rw [hI] at HTop HDec HCm hS hi hp
 have hR:=ha
 obtain ⟨p,n,c,p',n',c',rfl,-,-⟩:=ha
 obtain ⟨zs,hz⟩:∃ z,decide (X.num < 0)=z:=⟨_,rfl⟩
 rw [hz] at hR ⊢
 have V0:=((Dq.refl w).qcons hR).alloc 34 #[.bool zs,.slice p n c,.slice p' n' c']
 have HS:=Lib.hid hS
 have HI:=Lib.hid (And.intro hi (And.intro hp h60))
 have hIb:I≤1152921504606846976:=by omega
 have HIp:=Lib.hid hp
 clear hS hi hp h60 hR hx hn hWW hI hz
 go_enter Tryz.func94,Tryz.ntmps94
 go_wp2_with fail
 refine (HTop.out _).mono ?_
 rintro E w1 ⟨rfl,hb⟩
 have HV1:=Lib.hid (V0.below hb)
 clear V0 hb HTop
 go_wp2_with fail
 go_loopw [7,8,9,10,11] (fun lv hv _ _ _ wr=>∃ (lo hi:Nat) (LI HV:Int),lv=.int .u64 LI∧hv=.int .u64 HV∧Hid (LI=(lo:Int))∧Hid (HV=(hi:Int))∧lo≤hi∧hi < I∧Hid (un m lo≤WW)∧Hid (hi + 1 < I→WW < un m (hi + 1))∧Hid (Dq w [(w.heap.size,34,#[.bool zs,.slice p n c,.slice p' n' c'])] [] [(.agg #[.bool zs,.slice p n c,.slice p' n' c'],X)] [] wr)) (fun lv hv _ _ _ _=>(intOf hv).toNat - (intOf lv).toNat)
 case atStart=>exact ⟨0,I - 1,0,_,rfl,rfl,Lib.hid rfl,Lib.hid rfl,by omega,by have:=HIp.out;omega,Lib.hid (by rw [un_zero];omega),Lib.hid (fun h=>absurd h (by have:=HIp.out;omega)),HV1⟩
 case round =>
  clear HV1
  obtain ⟨lo,hi,LI,HV,rfl,rfl,hLI,hHV,hle,hlt,hlo,hhi,hV⟩:=hrel
  have kL:0≤LI∧LI≤HV∧HV < 1152921504606846976:=by have:=hLI.out;have:=hHV.out;omega
  by_cases h0:lo=hi
  · have HEq:Hid (LI=(s:Int)):=Lib.hid (by
     have h1:lo=s:=Spot.inj ⟨by omega,hlo.out,fun h=>by rw [h0];exact hhi.out (by omega)⟩ HS.out
     rw [← h1];exact hLI.out)
    have HB:=Lib.hid hV.out.bel
    have g0:decide (LI < HV)=false:=decide_eq_false (by have:=hLI.out;have:=hHV.out;omega)
    clear hlo hhi hV hLI hHV hle hlt h0
    go_wp2_with fail
    go_ret
    exact ⟨by rw [HEq.out];rfl,HB.out⟩
  · have g0:decide (LI < HV)=true:=decide_eq_true (by have:=hLI.out;have:=hHV.out;omega)
    obtain ⟨mi,hmi⟩:∃ mi,mi=lo + (hi - lo + 1) / 2:=⟨_,rfl⟩
    have hm1:lo < mi∧mi≤hi:=by omega
    obtain ⟨MI,hMI⟩:∃ x:Int,(mi:Int)=x:=⟨_,rfl⟩
    have e1:LI + (HV - LI + 1).tdiv 2=MI:=by have:=hLI.out;have:=hHV.out;rw [Int.tdiv_eq_ediv_of_nonneg (by omega)];omega
    have e2:LI + (HV - LI + 1) / 2=MI:=by have:=hLI.out;have:=hHV.out;omega
    have kM:LI < MI∧MI≤HV:=by have:=hLI.out;have:=hHV.out;omega
    have HD2:Hid (∀ W,Calls Tryz.prog 92 #[.int .i64 (e:Int),.int .i64 (m:Int),.int .u64 MI] W (RdIs 1 (vQ e m false mi) W)):=Lib.hid (fun W=>by
     have:=HDec.out mi W (by omega)
     rwa [hMI] at this)
    have HC2:=Lib.hid (fun W va vb h1 h2=>HCm.out mi W va vb (by omega) h1 h2)
    obtain ⟨Q,hQ⟩:∃ x,vQ e m false mi=x:=⟨_,rfl⟩
    rw [hQ] at HD2 HC2
    have HMI:=Lib.hid hMI
    have Hm1:=Lib.hid (And.intro hm1 (And.intro hle hlt))
    have V:=hV.out
    clear hQ hmi hm1 hMI hV h0 hle hlt
    go_wp2_with fail
    refine (HD2.out _).mono ?_
    rintro E w2 ⟨v,rfl,hr,hb⟩
    have V2':=(V.below hb).qcons hr
    obtain ⟨px,nx,cx,px',nx',cx',rfl,-,-⟩:=hr
    obtain ⟨zx,hz⟩:∃ z,decide (Q.num < 0)=z:=⟨_,rfl⟩
    rw [hz] at V2' ⊢
    have V2:=V2'.alloc 34 #[.bool zx,.slice px nx cx,.slice px' nx' cx']
    clear V2' hb hz HD2
    have a0:=V2.c0 0 rfl;have a1:=V2.c1 0 rfl;have a2:=V2.c2 0 rfl
    have b0:=V2.c0 1 rfl;have b1:=V2.c1 1 rfl;have b2:=V2.c2 1 rfl
    go_wp2_with fail
    refine (HC2.out _ _ _ (V2.ref 0 _ _ rfl) (V2.ref 1 _ _ rfl)).mono ?_
    rintro E w3 ⟨cc,rfl,hcc,hb⟩
    have HVn:=Lib.hid (V2.below hb).drop1
    clear V V2 hb HC2 a0 a1 a2 b0 b1 b2
    by_cases hun:un m mi≤WW
    · have g1:decide (cc≤0)=true:=by rw [hcc,decide_eq_true hun]
      have Hun:=Lib.hid hun
      clear hcc hun hlo
      go_wp2_with fail
      go_roundw
      case rel=>exact ⟨mi,hi,MI,HV,rfl,rfl,Lib.hid HMI.out.symm,hHV,Hm1.out.1.2,Hm1.out.2.2,Hun,hhi,HVn⟩
      case measure=>have:=hLI.out;have:=hHV.out;have:=HMI.out;have:=Hm1.out;simp [intOf];omega
    · have g1:decide (cc≤0)=false:=by rw [hcc,decide_eq_false hun]
      have Hun:=Lib.hid (show mi - 1 + 1 < I→WW < un m (mi - 1 + 1) from fun _=>by rw [Nat.sub_add_cancel (by have:=Hm1.out;omega)];omega)
      clear hcc hun hhi
      go_wp2_with fail
      go_roundw
      case rel=>exact ⟨lo,mi - 1,LI,MI - 1,rfl,rfl,hLI,Lib.hid (by have:=HMI.out;have:=Hm1.out;omega),by have:=Hm1.out;omega,by have:=Hm1.out;omega,hlo,Hun,HVn⟩
      case measure=>have:=hLI.out;have:=hHV.out;have:=HMI.out;have:=Hm1.out;simp [intOf];omega
end Go.Proofs.YtnhobagjpjcigaaGreatDoor
namespace Go.Proofs.YtnhobagjpjcigaaGreatDoor
open Go.RowKit
set_option linter.unusedVariables false
theorem own_at (e m t:Nat) (z:Bool) (X:Rat) (h:vQ e m z t=X) (ht:t < inf e m):Spot m (inf e m) (X.num.natAbs * 2^upl e m / X.den) t∧exq m t (X.num.natAbs * 2^upl e m) X.den=true:=by
 rw [← h]
 refine ⟨?_,vq_exq e m t z⟩
 rw [(vq_div e m t z).1]
 exact spot_self ht
theorem cmp_ex (e m s:Nat) (Y:Rat) (hn:¬ Y.num < 0) (hs:s < inf e m) (hS:Spot m (inf e m) (Y.num.natAbs * 2^upl e m / Y.den) s):(cmpQ (vQ e m false s) Y != 0)=!exq m s (Y.num.natAbs * 2^upl e m) Y.den:=by
 cases hx:exq m s (Y.num.natAbs * 2^upl e m) Y.den with
 | true =>
  have h:=exq_eq e m s hn hx
  rw [← h,cmpQ_eq]
  rfl
 | false =>
  have h1:=(vq_le e m s hn).2 hS.2
  rcases Rat.le_iff_lt_or_eq.1 h1 with h2 | h2
  · rw [cmpQ_lt h2];rfl
  · have h3:=(own_at e m s false Y h2 hs).2
    rw [h3] at hx
    cases hx
set_option maxRecDepth 100000 in
set_option maxHeartbeats 8000000 in
theorem rbelow_pos (e m:Nat) (he:2≤e) (he2:e≤8) (hm:1≤m) (hm2:m≤52) (X:Rat) (va:Value) (w:World) (ha:RQ w va X) (hx:SzD 20 X) (s:Nat) (hS:Spot m (inf e m) (X.num.natAbs * 2^upl e m / X.den) s) (hn:¬ X.num < 0) :
 Calls Tryz.prog 41 #[.int .i64 (e:Int),.int .i64 (m:Int),va] w fun E w'=>E=.returned (.tuple #[.int .u64 (s:Int),.bool true])∧Below w.heap.size w w':=by
 have HUn:Hid (∀ W v,RQ W v X→Calls Tryz.prog 94 #[.int .i64 (e:Int),.int .i64 (m:Int),v] W fun E w'=>E=.returned (.int .u64 (s:Int))∧Below W.heap.size W w'):=Lib.hid (fun W v h=>run_any e m he he2 hm hm2 X v W h (hx.mono (by omega)) hn s hS)
 have hR:=ha
 obtain ⟨pr,nr,cr,pr',nr',cr',rfl,-,-⟩:=ha
 rw [decide_eq_false hn] at hR ⊢
 have V0:=((Dq.refl w).qcons hR).alloc 34 #[.bool false,.slice pr nr cr,.slice pr' nr' cr']
 clear hR hx hn hS
 go_enter Tryz.func41,Tryz.ntmps41
 have a0:=V0.c0 0 rfl;have a1:=V0.c1 0 rfl;have a2:=V0.c2 0 rfl
 go_wp2_with fail
 refine (HUn.out _ _ (V0.ref 0 _ _ rfl)).mono ?_
 rintro E w1 ⟨rfl,hb⟩
 have V1:=V0.below hb
 clear V0 hb HUn a0 a1 a2
 have HB:=Lib.hid V1.bel
 clear V1
 go_wp2_with fail
 go_ret2
 exact ⟨rfl,HB.out⟩
set_option maxRecDepth 100000 in
set_option maxHeartbeats 8000000 in
theorem rbelow_ex (e m:Nat) (he:2≤e) (he2:e≤8) (hm:1≤m) (hm2:m≤52) (X:Rat) (va:Value) (w:World) (ha:RQ w va X) (hx:SzD 20 X) (s:Nat) (hS:Spot m (inf e m) (X.num.natAbs * 2^upl e m / X.den) s) (hn:X.num < 0) (hex:exq m s (X.num.natAbs * 2^upl e m) X.den=true) :
 Calls Tryz.prog 41 #[.int .i64 (e:Int),.int .i64 (m:Int),va] w fun E w'=>E=.returned (.tuple #[.int .u64 ((ptn e m true s:Nat):Int),.bool true])∧Below w.heap.size w w':=by
 have hi:=inf_lt e m
 have h60:2^(e + m)≤2^60:=Nat.pow_le_pow_right (by decide) (by omega)
 have hs:=hS.1
 obtain ⟨n1,n2,-⟩:=neg_num X
 have HTop:=Lib.hid (fun W=>rtop_any e m he hm (by omega) W)
 have HDec:∀ k:Nat,k < inf e m→Hid (∀ W,Calls Tryz.prog 92 #[.int .i64 (e:Int),.int .i64 (m:Int),.int .u64 (k:Int)] W (RdIs 1 (vQ e m false k) W)):=fun k hk=>Lib.hid (fun W=>by
  have h1:=ptn_kd e m k false hk
  have h2:=ptn_nm e m k false hk
  rw [ptn_pos] at h1 h2
  have:=rdec_any e m k he (by omega) hm hm2 (by omega) W
  rwa [h1,h2] at this)
 have HMi:Hid (∀ W v,RQ W v X→Calls Tryz.prog 95 #[v] W (GaveQ (-X) W)):=Lib.hid (fun W v h=>rminus_any X v W h (hx.mono (by omega)))
 have HCmp:∀ (x y:Rat),SzD 100 x→SzD 100 y→Hid (∀ W va vb,RQ W va x→RQ W vb y→Calls Tryz.prog 93 #[va,vb] W fun E w'=>E=.returned (.int .i64 (cmpQ x y))∧Below W.heap.size W w'):=fun x y h1 h2=>Lib.hid (fun W va vb ha hb=>rratcmp_any x y va vb W ha hb h1 h2)
 have hqd:∀ (t:Nat) (z:Bool),t < 2^(e + m)→SzD 100 (vQ e m z t):=fun t z ht=>(vq_szd e m t z he2 hm2 ht).mono (by omega)
 have HUn:Hid (∀ W v,RQ W v (-X)→Calls Tryz.prog 94 #[.int .i64 (e:Int),.int .i64 (m:Int),v] W fun E w'=>E=.returned (.int .u64 (s:Int))∧Below W.heap.size W w'):=Lib.hid (fun W v h=>run_any e m he he2 hm hm2 (-X) v W h ((szd_neg hx).mono (by omega)) (by rw [Rat.neg_num];omega) s (by rw [n1,n2];exact hS))
 have HSg:∀ k:Nat,k < 2^(e + m)→Hid (∀ W,Calls Tryz.prog 97 #[.int .i64 (e:Int),.int .i64 (m:Int),.int .u64 (k:Int)] W fun E w'=>E=.returned (.int .u64 ((ptn e m true k:Nat):Int))∧Below W.heap.size W w'):=fun k hk=>Lib.hid (fun W=>rsign_any e m k (by omega) hk W)
 have hY:¬ (-X).num < 0:=by rw [Rat.neg_num];omega
 have hcx:=cmp_ex e m s (-X) hY hs (by rw [n1,n2];exact hS)
 rw [n1,n2,hex] at hcx
 have HDv:=HDec s hs
 have HCm:=HCmp (vQ e m false s) (-X) (hqd s false (by omega)) ((szd_neg hx).mono (by omega))
 obtain ⟨Q,hQ⟩:∃ x,vQ e m false s=x:=⟨_,rfl⟩
 obtain ⟨Y,hYY⟩:∃ x,-X=x:=⟨_,rfl⟩
 rw [hQ] at HDv HCm hcx
 rw [hYY] at HCm HMi HUn hcx
 obtain ⟨CC,hCC⟩:∃ x,cmpQ Q Y=x:=⟨_,rfl⟩
 rw [hCC] at HCm hcx
 have HSk:=HSg s (by omega)
 obtain ⟨PT,hPT⟩:∃ x:Int,((ptn e m true s:Nat):Int)=x:=⟨_,rfl⟩
 rw [hPT] at HSk ⊢
 clear hPT HSg
 have hR:=ha
 obtain ⟨pr,nr,cr,pr',nr',cr',rfl,-,-⟩:=ha
 rw [decide_eq_true hn] at hR ⊢
 have V0:=((Dq.refl w).qcons hR).alloc 34 #[.bool true,.slice pr nr cr,.slice pr' nr' cr']
 obtain ⟨SI,hSI⟩:∃ x:Int,(s:Int)=x:=⟨_,rfl⟩
 rw [hSI] at HUn HDv HSk
 have g1:(CC != 0)=false:=hcx
 obtain rfl:CC=0:=by simpa using g1
 clear hR hx hn hS hex hcx hCC hQ hYY hY HDec HCmp hqd n1 n2 hi h60 hs hSI HTop
 go_enter Tryz.func41,Tryz.ntmps41
 have a0:=V0.c0 0 rfl;have a1:=V0.c1 0 rfl;have a2:=V0.c2 0 rfl
 go_wp2_with fail
 refine (HMi.out _ _ (V0.ref 0 _ _ rfl)).mono ?_
 rintro E w1 ⟨v1,rfl,hr,hb⟩
 have V1:=(V0.below hb).qcons hr
 clear V0 hb hr a0 a1 a2
 go_wp2_with fail
 refine (HUn.out _ _ (V1.ref 0 _ _ rfl)).mono ?_
 rintro E w2 ⟨rfl,hb⟩
 have V2:=V1.below hb
 clear V1 hb HUn
 go_wp2_with fail
 refine (HDv.out _).mono ?_
 rintro E wv ⟨v,rfl,hr,hb⟩
 have V3':=(V2.below hb).qcons hr
 obtain ⟨pv,nv,cv,pv',nv',cv',rfl,-,-⟩:=hr
 obtain ⟨zv,hz⟩:∃ z,decide ((Q).num < 0)=z:=⟨_,rfl⟩
 rw [hz] at V3' ⊢
 have V3:=V3'.alloc 34 #[.bool zv,.slice pv nv cv,.slice pv' nv' cv']
 clear V2 V3' hb hz HDv
 go_wp2_with fail
 have V3d:=V3.drew
 clear V3
 refine wp_region_held_drew (S:=(fun W=>(W.cell? ⟨wv.heap.size,0,none⟩=some (.bool zv)∧W.cell? ⟨wv.heap.size,1,none⟩=some (.slice pv nv cv)∧W.cell? ⟨wv.heap.size,2,none⟩=some (.slice pv' nv' cv'))∧(W.cell? ⟨w.heap.size,0,none⟩=some (.bool true)∧W.cell? ⟨w.heap.size,1,none⟩=some (.slice pr nr cr)∧W.cell? ⟨w.heap.size,2,none⟩=some (.slice pr' nr' cr')))) (by kernel_rfl) ?_ (fun hHeld=>?_)
 · exact ⟨⟨V3d.c0 0 rfl,V3d.c1 0 rfl,V3d.c2 0 rfl⟩,⟨V3d.c0 1 rfl,V3d.c1 1 rfl,V3d.c2 1 rfl⟩⟩
 refine tkH (i:=0) (v:=?_) rfl (by kernel_rfl) (fun _ _ _ h=>h) (Or.inl ⟨by rfl,?_⟩) (by assumption) ?_
 rotate_left
 · intro w hSw;(try dsimp only at hSw);go_simp;(try with_reducible rfl)
 try simp only [las]
 refine tkH (i:=1) (v:=?_) rfl (by kernel_rfl) (fun _ _ _ h=>h) (Or.inl ⟨by rfl,?_⟩) (by assumption) ?_
 rotate_left
 · intro w hSw;(try dsimp only at hSw);go_simp;(try with_reducible rfl)
 try simp only [las]
 refine wpAnyH_ready (rs:=[2]) (by kernel_rfl) (by simp) ?_
 refine AllReadyH.cons (o:=_) rfl (fun K hK=>?_) AllReadyH.nil
 go_simp
 go_at_call 95;refine (HMi.out _ _ (V3d.ref 2 _ _ rfl)).mono ?_;rintro E w5 ⟨v5,rfl,hr5,hb5⟩;have V5:=(V3d.below hb5).qcons hr5;clear hr5 hb5
 refine hK.out _ _ ?_ (fun hHeld=>?_)
 · first | exact ⟨⟨V6.c0 0 rfl,V6.c1 0 rfl,V6.c2 0 rfl⟩,⟨V6.c0 1 rfl,V6.c1 1 rfl,V6.c2 1 rfl⟩⟩ | exact ⟨⟨V5.c0 0 rfl,V5.c1 0 rfl,V5.c2 0 rfl⟩,⟨V5.c0 1 rfl,V5.c1 1 rfl,V5.c2 1 rfl⟩⟩
 clear hK K
 try simp only [las]
 refine wpAnyH_ready (rs:=[3]) (by kernel_rfl) (by simp) ?_
 refine AllReadyH.cons (o:=_) rfl (fun K hK=>?_) AllReadyH.nil
 go_simp
 go_at_call 93;refine (HCm.out _ _ _ (V5.ref 1 _ _ rfl) (V5.ref 0 _ _ rfl)).mono ?_;rintro E w6 ⟨rfl,hb6⟩;have V6:=V5.below hb6;clear V5 hb6
 refine hK.out _ _ ?_ (fun hHeld=>?_)
 · first | exact ⟨⟨V6.c0 0 rfl,V6.c1 0 rfl,V6.c2 0 rfl⟩,⟨V6.c0 1 rfl,V6.c1 1 rfl,V6.c2 1 rfl⟩⟩ | exact ⟨⟨V5.c0 0 rfl,V5.c1 0 rfl,V5.c2 0 rfl⟩,⟨V5.c0 1 rfl,V5.c1 1 rfl,V5.c2 1 rfl⟩⟩
 clear hK K
 try simp only [las]
 refine tkH (i:=4) (v:=?_) rfl (by kernel_rfl) (fun _ _ _ h=>h) (Or.inl ⟨by rfl,?_⟩) (by assumption) ?_
 rotate_left
 · intro w hSw;(try dsimp only at hSw);go_simp;(try with_reducible rfl)
 try simp only [las]
 refine wpAnyH_done (by kernel_rfl) ?_ _
 have V7:=V6
 clear V6 V3d HMi HCm
 go_wp2_with fail
 refine (HSk.out _).mono ?_
 rintro E w8 ⟨rfl,hb⟩
 have V8:=V7.below hb
 clear V7 hb HSk
 have HB:=Lib.hid V8.bel
 clear V8
 go_wp2_with fail
 go_ret2
 exact ⟨rfl,HB.out⟩
set_option maxRecDepth 100000 in
set_option maxHeartbeats 8000000 in
theorem rbelow_top (e m:Nat) (he:2≤e) (he2:e≤8) (hm:1≤m) (hm2:m≤52) (X:Rat) (va:Value) (w:World) (ha:RQ w va X) (hx:SzD 20 X) (s:Nat) (hS:Spot m (inf e m) (X.num.natAbs * 2^upl e m / X.den) s) (hn:X.num < 0) (hex:exq m s (X.num.natAbs * 2^upl e m) X.den=false) (ht:s + 1=inf e m) :
 Calls Tryz.prog 41 #[.int .i64 (e:Int),.int .i64 (m:Int),va] w fun E w'=>E=.returned (.tuple #[.int .u64 0,.bool false])∧Below w.heap.size w w':=by
 have hi:=inf_lt e m
 have h60:2^(e + m)≤2^60:=Nat.pow_le_pow_right (by decide) (by omega)
 have hs:=hS.1
 obtain ⟨n1,n2,-⟩:=neg_num X
 have HTop:=Lib.hid (fun W=>rtop_any e m he hm (by omega) W)
 have HDec:∀ k:Nat,k < inf e m→Hid (∀ W,Calls Tryz.prog 92 #[.int .i64 (e:Int),.int .i64 (m:Int),.int .u64 (k:Int)] W (RdIs 1 (vQ e m false k) W)):=fun k hk=>Lib.hid (fun W=>by
  have h1:=ptn_kd e m k false hk
  have h2:=ptn_nm e m k false hk
  rw [ptn_pos] at h1 h2
  have:=rdec_any e m k he (by omega) hm hm2 (by omega) W
  rwa [h1,h2] at this)
 have HMi:Hid (∀ W v,RQ W v X→Calls Tryz.prog 95 #[v] W (GaveQ (-X) W)):=Lib.hid (fun W v h=>rminus_any X v W h (hx.mono (by omega)))
 have HCmp:∀ (x y:Rat),SzD 100 x→SzD 100 y→Hid (∀ W va vb,RQ W va x→RQ W vb y→Calls Tryz.prog 93 #[va,vb] W fun E w'=>E=.returned (.int .i64 (cmpQ x y))∧Below W.heap.size W w'):=fun x y h1 h2=>Lib.hid (fun W va vb ha hb=>rratcmp_any x y va vb W ha hb h1 h2)
 have hqd:∀ (t:Nat) (z:Bool),t < 2^(e + m)→SzD 100 (vQ e m z t):=fun t z ht=>(vq_szd e m t z he2 hm2 ht).mono (by omega)
 have HUn:Hid (∀ W v,RQ W v (-X)→Calls Tryz.prog 94 #[.int .i64 (e:Int),.int .i64 (m:Int),v] W fun E w'=>E=.returned (.int .u64 (s:Int))∧Below W.heap.size W w'):=Lib.hid (fun W v h=>run_any e m he he2 hm hm2 (-X) v W h ((szd_neg hx).mono (by omega)) (by rw [Rat.neg_num];omega) s (by rw [n1,n2];exact hS))
 have hY:¬ (-X).num < 0:=by rw [Rat.neg_num];omega
 have hcx:=cmp_ex e m s (-X) hY hs (by rw [n1,n2];exact hS)
 rw [n1,n2,hex] at hcx
 have HDv:=HDec s hs
 have HCm:=HCmp (vQ e m false s) (-X) (hqd s false (by omega)) ((szd_neg hx).mono (by omega))
 obtain ⟨Q,hQ⟩:∃ x,vQ e m false s=x:=⟨_,rfl⟩
 obtain ⟨Y,hYY⟩:∃ x,-X=x:=⟨_,rfl⟩
 rw [hQ] at HDv HCm hcx
 rw [hYY] at HCm HMi HUn hcx
 obtain ⟨CC,hCC⟩:∃ x,cmpQ Q Y=x:=⟨_,rfl⟩
 rw [hCC] at HCm hcx
 have hR:=ha
 obtain ⟨pr,nr,cr,pr',nr',cr',rfl,-,-⟩:=ha
 rw [decide_eq_true hn] at hR ⊢
 have V0:=((Dq.refl w).qcons hR).alloc 34 #[.bool true,.slice pr nr cr,.slice pr' nr' cr']
 obtain ⟨SI,hSI⟩:∃ x:Int,(s:Int)=x:=⟨_,rfl⟩
 rw [hSI] at HUn HDv
 obtain ⟨TI,hTI⟩:∃ x:Int,((inf e m - 1:Nat):Int)=x:=⟨_,rfl⟩
 rw [hTI] at HTop
 have g2:(SI == TI)=true:=by simp;omega
 have k0:0≤SI∧SI < 1152921504606846976:=by omega
 clear hTI
 have g1:(CC != 0)=true:=hcx
 have g1n:¬ CC=0:=by simpa using g1
 clear hR hx hn hS hex hcx hCC hQ hYY hY HDec HCmp hqd n1 n2 hi h60 hs hSI ht
 go_enter Tryz.func41,Tryz.ntmps41
 have a0:=V0.c0 0 rfl;have a1:=V0.c1 0 rfl;have a2:=V0.c2 0 rfl
 go_wp2_with fail
 refine (HMi.out _ _ (V0.ref 0 _ _ rfl)).mono ?_
 rintro E w1 ⟨v1,rfl,hr,hb⟩
 have V1:=(V0.below hb).qcons hr
 clear V0 hb hr a0 a1 a2
 go_wp2_with fail
 refine (HUn.out _ _ (V1.ref 0 _ _ rfl)).mono ?_
 rintro E w2 ⟨rfl,hb⟩
 have V2:=V1.below hb
 clear V1 hb HUn
 go_wp2_with fail
 refine (HDv.out _).mono ?_
 rintro E wv ⟨v,rfl,hr,hb⟩
 have V3':=(V2.below hb).qcons hr
 obtain ⟨pv,nv,cv,pv',nv',cv',rfl,-,-⟩:=hr
 obtain ⟨zv,hz⟩:∃ z,decide ((Q).num < 0)=z:=⟨_,rfl⟩
 rw [hz] at V3' ⊢
 have V3:=V3'.alloc 34 #[.bool zv,.slice pv nv cv,.slice pv' nv' cv']
 clear V2 V3' hb hz HDv
 go_wp2_with fail
 have V3d:=V3.drew
 clear V3
 refine wp_region_held_drew (S:=(fun W=>(W.cell? ⟨wv.heap.size,0,none⟩=some (.bool zv)∧W.cell? ⟨wv.heap.size,1,none⟩=some (.slice pv nv cv)∧W.cell? ⟨wv.heap.size,2,none⟩=some (.slice pv' nv' cv'))∧(W.cell? ⟨w.heap.size,0,none⟩=some (.bool true)∧W.cell? ⟨w.heap.size,1,none⟩=some (.slice pr nr cr)∧W.cell? ⟨w.heap.size,2,none⟩=some (.slice pr' nr' cr')))) (by kernel_rfl) ?_ (fun hHeld=>?_)
 · exact ⟨⟨V3d.c0 0 rfl,V3d.c1 0 rfl,V3d.c2 0 rfl⟩,⟨V3d.c0 1 rfl,V3d.c1 1 rfl,V3d.c2 1 rfl⟩⟩
 refine tkH (i:=0) (v:=?_) rfl (by kernel_rfl) (fun _ _ _ h=>h) (Or.inl ⟨by rfl,?_⟩) (by assumption) ?_
 rotate_left
 · intro w hSw;(try dsimp only at hSw);go_simp;(try with_reducible rfl)
 try simp only [las]
 refine tkH (i:=1) (v:=?_) rfl (by kernel_rfl) (fun _ _ _ h=>h) (Or.inl ⟨by rfl,?_⟩) (by assumption) ?_
 rotate_left
 · intro w hSw;(try dsimp only at hSw);go_simp;(try with_reducible rfl)
 try simp only [las]
 refine wpAnyH_ready (rs:=[2]) (by kernel_rfl) (by simp) ?_
 refine AllReadyH.cons (o:=_) rfl (fun K hK=>?_) AllReadyH.nil
 go_simp
 go_at_call 95;refine (HMi.out _ _ (V3d.ref 2 _ _ rfl)).mono ?_;rintro E w5 ⟨v5,rfl,hr5,hb5⟩;have V5:=(V3d.below hb5).qcons hr5;clear hr5 hb5
 refine hK.out _ _ ?_ (fun hHeld=>?_)
 · first | exact ⟨⟨V6.c0 0 rfl,V6.c1 0 rfl,V6.c2 0 rfl⟩,⟨V6.c0 1 rfl,V6.c1 1 rfl,V6.c2 1 rfl⟩⟩ | exact ⟨⟨V5.c0 0 rfl,V5.c1 0 rfl,V5.c2 0 rfl⟩,⟨V5.c0 1 rfl,V5.c1 1 rfl,V5.c2 1 rfl⟩⟩
 clear hK K
 try simp only [las]
 refine wpAnyH_ready (rs:=[3]) (by kernel_rfl) (by simp) ?_
 refine AllReadyH.cons (o:=_) rfl (fun K hK=>?_) AllReadyH.nil
 go_simp
 go_at_call 93;refine (HCm.out _ _ _ (V5.ref 1 _ _ rfl) (V5.ref 0 _ _ rfl)).mono ?_;rintro E w6 ⟨rfl,hb6⟩;have V6:=V5.below hb6;clear V5 hb6
 refine hK.out _ _ ?_ (fun hHeld=>?_)
 · first | exact ⟨⟨V6.c0 0 rfl,V6.c1 0 rfl,V6.c2 0 rfl⟩,⟨V6.c0 1 rfl,V6.c1 1 rfl,V6.c2 1 rfl⟩⟩ | exact ⟨⟨V5.c0 0 rfl,V5.c1 0 rfl,V5.c2 0 rfl⟩,⟨V5.c0 1 rfl,V5.c1 1 rfl,V5.c2 1 rfl⟩⟩
 clear hK K
 try simp only [las]
 refine tkH (i:=4) (v:=?_) rfl (by kernel_rfl) (fun _ _ _ h=>h) (Or.inl ⟨by rfl,?_⟩) (by assumption) ?_
 rotate_left
 · intro w hSw;(try dsimp only at hSw);go_simp;(try with_reducible rfl)
 try simp only [las]
 refine wpAnyH_done (by kernel_rfl) ?_ _
 have V7:=V6
 clear V6 V3d HMi HCm
 go_wp2_with fail
 refine (HTop.out _).mono ?_
 rintro E w8 ⟨rfl,hb⟩
 have V8:=V7.below hb
 clear V7 hb HTop
 have HB:=Lib.hid V8.bel
 clear V8
 go_wp2_with fail
 go_ret2
 exact ⟨rfl,HB.out⟩
set_option maxRecDepth 100000 in
set_option maxHeartbeats 8000000 in
theorem rbelow_up (e m:Nat) (he:2≤e) (he2:e≤8) (hm:1≤m) (hm2:m≤52) (X:Rat) (va:Value) (w:World) (ha:RQ w va X) (hx:SzD 20 X) (s:Nat) (hS:Spot m (inf e m) (X.num.natAbs * 2^upl e m / X.den) s) (hn:X.num < 0) (hex:exq m s (X.num.natAbs * 2^upl e m) X.den=false) (ht:s + 1 < inf e m) :
 Calls Tryz.prog 41 #[.int .i64 (e:Int),.int .i64 (m:Int),va] w fun E w'=>E=.returned (.tuple #[.int .u64 ((ptn e m true (s + 1):Nat):Int),.bool true])∧Below w.heap.size w w':=by
 have hi:=inf_lt e m
 have h60:2^(e + m)≤2^60:=Nat.pow_le_pow_right (by decide) (by omega)
 have hs:=hS.1
 obtain ⟨n1,n2,-⟩:=neg_num X
 have HTop:=Lib.hid (fun W=>rtop_any e m he hm (by omega) W)
 have HDec:∀ k:Nat,k < inf e m→Hid (∀ W,Calls Tryz.prog 92 #[.int .i64 (e:Int),.int .i64 (m:Int),.int .u64 (k:Int)] W (RdIs 1 (vQ e m false k) W)):=fun k hk=>Lib.hid (fun W=>by
  have h1:=ptn_kd e m k false hk
  have h2:=ptn_nm e m k false hk
  rw [ptn_pos] at h1 h2
  have:=rdec_any e m k he (by omega) hm hm2 (by omega) W
  rwa [h1,h2] at this)
 have HMi:Hid (∀ W v,RQ W v X→Calls Tryz.prog 95 #[v] W (GaveQ (-X) W)):=Lib.hid (fun W v h=>rminus_any X v W h (hx.mono (by omega)))
 have HCmp:∀ (x y:Rat),SzD 100 x→SzD 100 y→Hid (∀ W va vb,RQ W va x→RQ W vb y→Calls Tryz.prog 93 #[va,vb] W fun E w'=>E=.returned (.int .i64 (cmpQ x y))∧Below W.heap.size W w'):=fun x y h1 h2=>Lib.hid (fun W va vb ha hb=>rratcmp_any x y va vb W ha hb h1 h2)
 have hqd:∀ (t:Nat) (z:Bool),t < 2^(e + m)→SzD 100 (vQ e m z t):=fun t z ht=>(vq_szd e m t z he2 hm2 ht).mono (by omega)
 have HUn:Hid (∀ W v,RQ W v (-X)→Calls Tryz.prog 94 #[.int .i64 (e:Int),.int .i64 (m:Int),v] W fun E w'=>E=.returned (.int .u64 (s:Int))∧Below W.heap.size W w'):=Lib.hid (fun W v h=>run_any e m he he2 hm hm2 (-X) v W h ((szd_neg hx).mono (by omega)) (by rw [Rat.neg_num];omega) s (by rw [n1,n2];exact hS))
 have HSg:∀ k:Nat,k < 2^(e + m)→Hid (∀ W,Calls Tryz.prog 97 #[.int .i64 (e:Int),.int .i64 (m:Int),.int .u64 (k:Int)] W fun E w'=>E=.returned (.int .u64 ((ptn e m true k:Nat):Int))∧Below W.heap.size W w'):=fun k hk=>Lib.hid (fun W=>rsign_any e m k (by omega) hk W)
 have hY:¬ (-X).num < 0:=by rw [Rat.neg_num];omega
 have hcx:=cmp_ex e m s (-X) hY hs (by rw [n1,n2];exact hS)
 rw [n1,n2,hex] at hcx
 have HDv:=HDec s hs
 have HCm:=HCmp (vQ e m false s) (-X) (hqd s false (by omega)) ((szd_neg hx).mono (by omega))
 obtain ⟨Q,hQ⟩:∃ x,vQ e m false s=x:=⟨_,rfl⟩
 obtain ⟨Y,hYY⟩:∃ x,-X=x:=⟨_,rfl⟩
 rw [hQ] at HDv HCm hcx
 rw [hYY] at HCm HMi HUn hcx
 obtain ⟨CC,hCC⟩:∃ x,cmpQ Q Y=x:=⟨_,rfl⟩
 rw [hCC] at HCm hcx
 have HSk:=HSg (s + 1) (by omega)
 have hs1:((s + 1:Nat):Int)=(s:Int) + 1:=by omega
 rw [hs1] at HSk
 obtain ⟨PT,hPT⟩:∃ x:Int,((ptn e m true (s + 1):Nat):Int)=x:=⟨_,rfl⟩
 rw [hPT] at HSk ⊢
 clear hPT HSg hs1
 have hR:=ha
 obtain ⟨pr,nr,cr,pr',nr',cr',rfl,-,-⟩:=ha
 rw [decide_eq_true hn] at hR ⊢
 have V0:=((Dq.refl w).qcons hR).alloc 34 #[.bool true,.slice pr nr cr,.slice pr' nr' cr']
 obtain ⟨SI,hSI⟩:∃ x:Int,(s:Int)=x:=⟨_,rfl⟩
 rw [hSI] at HUn HDv HSk
 obtain ⟨TI,hTI⟩:∃ x:Int,((inf e m - 1:Nat):Int)=x:=⟨_,rfl⟩
 rw [hTI] at HTop
 have g2:(SI == TI)=false:=by simp;omega
 have k0:0≤SI∧SI < 1152921504606846976:=by omega
 clear hTI
 have g1:(CC != 0)=true:=hcx
 have g1n:¬ CC=0:=by simpa using g1
 clear hR hx hn hS hex hcx hCC hQ hYY hY HDec HCmp hqd n1 n2 hi h60 hs hSI ht
 go_enter Tryz.func41,Tryz.ntmps41
 have a0:=V0.c0 0 rfl;have a1:=V0.c1 0 rfl;have a2:=V0.c2 0 rfl
 go_wp2_with fail
 refine (HMi.out _ _ (V0.ref 0 _ _ rfl)).mono ?_
 rintro E w1 ⟨v1,rfl,hr,hb⟩
 have V1:=(V0.below hb).qcons hr
 clear V0 hb hr a0 a1 a2
 go_wp2_with fail
 refine (HUn.out _ _ (V1.ref 0 _ _ rfl)).mono ?_
 rintro E w2 ⟨rfl,hb⟩
 have V2:=V1.below hb
 clear V1 hb HUn
 go_wp2_with fail
 refine (HDv.out _).mono ?_
 rintro E wv ⟨v,rfl,hr,hb⟩
 have V3':=(V2.below hb).qcons hr
 obtain ⟨pv,nv,cv,pv',nv',cv',rfl,-,-⟩:=hr
 obtain ⟨zv,hz⟩:∃ z,decide ((Q).num < 0)=z:=⟨_,rfl⟩
 rw [hz] at V3' ⊢
 have V3:=V3'.alloc 34 #[.bool zv,.slice pv nv cv,.slice pv' nv' cv']
 clear V2 V3' hb hz HDv
 go_wp2_with fail
 have V3d:=V3.drew
 clear V3
 refine wp_region_held_drew (S:=(fun W=>(W.cell? ⟨wv.heap.size,0,none⟩=some (.bool zv)∧W.cell? ⟨wv.heap.size,1,none⟩=some (.slice pv nv cv)∧W.cell? ⟨wv.heap.size,2,none⟩=some (.slice pv' nv' cv'))∧(W.cell? ⟨w.heap.size,0,none⟩=some (.bool true)∧W.cell? ⟨w.heap.size,1,none⟩=some (.slice pr nr cr)∧W.cell? ⟨w.heap.size,2,none⟩=some (.slice pr' nr' cr')))) (by kernel_rfl) ?_ (fun hHeld=>?_)
 · exact ⟨⟨V3d.c0 0 rfl,V3d.c1 0 rfl,V3d.c2 0 rfl⟩,⟨V3d.c0 1 rfl,V3d.c1 1 rfl,V3d.c2 1 rfl⟩⟩
 refine tkH (i:=0) (v:=?_) rfl (by kernel_rfl) (fun _ _ _ h=>h) (Or.inl ⟨by rfl,?_⟩) (by assumption) ?_
 rotate_left
 · intro w hSw;(try dsimp only at hSw);go_simp;(try with_reducible rfl)
 try simp only [las]
 refine tkH (i:=1) (v:=?_) rfl (by kernel_rfl) (fun _ _ _ h=>h) (Or.inl ⟨by rfl,?_⟩) (by assumption) ?_
 rotate_left
 · intro w hSw;(try dsimp only at hSw);go_simp;(try with_reducible rfl)
 try simp only [las]
 refine wpAnyH_ready (rs:=[2]) (by kernel_rfl) (by simp) ?_
 refine AllReadyH.cons (o:=_) rfl (fun K hK=>?_) AllReadyH.nil
 go_simp
 go_at_call 95;refine (HMi.out _ _ (V3d.ref 2 _ _ rfl)).mono ?_;rintro E w5 ⟨v5,rfl,hr5,hb5⟩;have V5:=(V3d.below hb5).qcons hr5;clear hr5 hb5
 refine hK.out _ _ ?_ (fun hHeld=>?_)
 · first | exact ⟨⟨V6.c0 0 rfl,V6.c1 0 rfl,V6.c2 0 rfl⟩,⟨V6.c0 1 rfl,V6.c1 1 rfl,V6.c2 1 rfl⟩⟩ | exact ⟨⟨V5.c0 0 rfl,V5.c1 0 rfl,V5.c2 0 rfl⟩,⟨V5.c0 1 rfl,V5.c1 1 rfl,V5.c2 1 rfl⟩⟩
 clear hK K
 try simp only [las]
 refine wpAnyH_ready (rs:=[3]) (by kernel_rfl) (by simp) ?_
 refine AllReadyH.cons (o:=_) rfl (fun K hK=>?_) AllReadyH.nil
 go_simp
 go_at_call 93;refine (HCm.out _ _ _ (V5.ref 1 _ _ rfl) (V5.ref 0 _ _ rfl)).mono ?_;rintro E w6 ⟨rfl,hb6⟩;have V6:=V5.below hb6;clear V5 hb6
 refine hK.out _ _ ?_ (fun hHeld=>?_)
 · first | exact ⟨⟨V6.c0 0 rfl,V6.c1 0 rfl,V6.c2 0 rfl⟩,⟨V6.c0 1 rfl,V6.c1 1 rfl,V6.c2 1 rfl⟩⟩ | exact ⟨⟨V5.c0 0 rfl,V5.c1 0 rfl,V5.c2 0 rfl⟩,⟨V5.c0 1 rfl,V5.c1 1 rfl,V5.c2 1 rfl⟩⟩
 clear hK K
 try simp only [las]
 refine tkH (i:=4) (v:=?_) rfl (by kernel_rfl) (fun _ _ _ h=>h) (Or.inl ⟨by rfl,?_⟩) (by assumption) ?_
 rotate_left
 · intro w hSw;(try dsimp only at hSw);go_simp;(try with_reducible rfl)
 try simp only [las]
 refine wpAnyH_done (by kernel_rfl) ?_ _
 have V7:=V6
 clear V6 V3d HMi HCm
 go_wp2_with fail
 refine (HTop.out _).mono ?_
 rintro E w8 ⟨rfl,hb⟩
 have V8:=V7.below hb
 clear V7 hb HTop
 go_wp2_with fail
 refine (HSk.out _).mono ?_
 rintro E w9 ⟨rfl,hb⟩
 have V9:=V8.below hb
 clear V8 hb HSk
 have HB:=Lib.hid V9.bel
 clear V9
 go_wp2_with fail
 go_ret2
 exact ⟨rfl,HB.out⟩
set_option maxRecDepth 100000 in
set_option maxHeartbeats 8000000 in
theorem rabove_neg (e m:Nat) (he:2≤e) (he2:e≤8) (hm:1≤m) (hm2:m≤52) (X:Rat) (va:Value) (w:World) (ha:RQ w va X) (hx:SzD 20 X) (s:Nat) (hS:Spot m (inf e m) (X.num.natAbs * 2^upl e m / X.den) s) (hn:X.num < 0) :
 Calls Tryz.prog 42 #[.int .i64 (e:Int),.int .i64 (m:Int),va] w fun E w'=>E=.returned (.tuple #[.int .u64 ((ptn e m true s:Nat):Int),.bool true])∧Below w.heap.size w w':=by
 have hi:=inf_lt e m
 have h60:2^(e + m)≤2^60:=Nat.pow_le_pow_right (by decide) (by omega)
 have hs:=hS.1
 obtain ⟨n1,n2,-⟩:=neg_num X
 have HTop:=Lib.hid (fun W=>rtop_any e m he hm (by omega) W)
 have HDec:∀ k:Nat,k < inf e m→Hid (∀ W,Calls Tryz.prog 92 #[.int .i64 (e:Int),.int .i64 (m:Int),.int .u64 (k:Int)] W (RdIs 1 (vQ e m false k) W)):=fun k hk=>Lib.hid (fun W=>by
  have h1:=ptn_kd e m k false hk
  have h2:=ptn_nm e m k false hk
  rw [ptn_pos] at h1 h2
  have:=rdec_any e m k he (by omega) hm hm2 (by omega) W
  rwa [h1,h2] at this)
 have HMi:Hid (∀ W v,RQ W v X→Calls Tryz.prog 95 #[v] W (GaveQ (-X) W)):=Lib.hid (fun W v h=>rminus_any X v W h (hx.mono (by omega)))
 have HCmp:∀ (x y:Rat),SzD 100 x→SzD 100 y→Hid (∀ W va vb,RQ W va x→RQ W vb y→Calls Tryz.prog 93 #[va,vb] W fun E w'=>E=.returned (.int .i64 (cmpQ x y))∧Below W.heap.size W w'):=fun x y h1 h2=>Lib.hid (fun W va vb ha hb=>rratcmp_any x y va vb W ha hb h1 h2)
 have hqd:∀ (t:Nat) (z:Bool),t < 2^(e + m)→SzD 100 (vQ e m z t):=fun t z ht=>(vq_szd e m t z he2 hm2 ht).mono (by omega)
 have HUn:Hid (∀ W v,RQ W v (-X)→Calls Tryz.prog 94 #[.int .i64 (e:Int),.int .i64 (m:Int),v] W fun E w'=>E=.returned (.int .u64 (s:Int))∧Below W.heap.size W w'):=Lib.hid (fun W v h=>run_any e m he he2 hm hm2 (-X) v W h ((szd_neg hx).mono (by omega)) (by rw [Rat.neg_num];omega) s (by rw [n1,n2];exact hS))
 have HSg:∀ k:Nat,k < 2^(e + m)→Hid (∀ W,Calls Tryz.prog 97 #[.int .i64 (e:Int),.int .i64 (m:Int),.int .u64 (k:Int)] W fun E w'=>E=.returned (.int .u64 ((ptn e m true k:Nat):Int))∧Below W.heap.size W w'):=fun k hk=>Lib.hid (fun W=>rsign_any e m k (by omega) hk W)
 have HSk:=HSg s (by omega)
 obtain ⟨Y,hYY⟩:∃ x,-X=x:=⟨_,rfl⟩
 rw [hYY] at HMi HUn
 obtain ⟨PT,hPT⟩:∃ x:Int,((ptn e m true s:Nat):Int)=x:=⟨_,rfl⟩
 rw [hPT] at HSk ⊢
 have hR:=ha
 obtain ⟨pr,nr,cr,pr',nr',cr',rfl,-,-⟩:=ha
 rw [decide_eq_true hn] at hR ⊢
 have V0:=((Dq.refl w).qcons hR).alloc 34 #[.bool true,.slice pr nr cr,.slice pr' nr' cr']
 clear hR hx hn hS hYY hPT HDec HCmp HSg HTop hqd n1 n2 hi h60 hs
 go_enter Tryz.func42,Tryz.ntmps42
 have a0:=V0.c0 0 rfl;have a1:=V0.c1 0 rfl;have a2:=V0.c2 0 rfl
 go_wp2_with fail
 refine (HMi.out _ _ (V0.ref 0 _ _ rfl)).mono ?_
 rintro E w1 ⟨v1,rfl,hr,hb⟩
 have V1:=(V0.below hb).qcons hr
 clear V0 hb hr HMi a0 a1 a2
 go_wp2_with fail
 refine (HUn.out _ _ (V1.ref 0 _ _ rfl)).mono ?_
 rintro E w2 ⟨rfl,hb⟩
 have V2:=V1.below hb
 clear V1 hb HUn
 go_wp2_with fail
 refine (HSk.out _).mono ?_
 rintro E w8 ⟨rfl,hb⟩
 have V8:=V2.below hb
 clear V2 hb HSk
 have HB:=Lib.hid V8.bel
 clear V8
 go_wp2_with fail
 go_ret2
 exact ⟨rfl,HB.out⟩
set_option maxRecDepth 100000 in
set_option maxHeartbeats 8000000 in
theorem rabove_ex (e m:Nat) (he:2≤e) (he2:e≤8) (hm:1≤m) (hm2:m≤52) (X:Rat) (va:Value) (w:World) (ha:RQ w va X) (hx:SzD 20 X) (s:Nat) (hS:Spot m (inf e m) (X.num.natAbs * 2^upl e m / X.den) s) (hn:¬ X.num < 0) (hex:exq m s (X.num.natAbs * 2^upl e m) X.den=true) :
 Calls Tryz.prog 42 #[.int .i64 (e:Int),.int .i64 (m:Int),va] w fun E w'=>E=.returned (.tuple #[.int .u64 (s:Int),.bool true])∧Below w.heap.size w w':=by
 have hi:=inf_lt e m
 have h60:2^(e + m)≤2^60:=Nat.pow_le_pow_right (by decide) (by omega)
 have hs:=hS.1
 obtain ⟨n1,n2,-⟩:=neg_num X
 have HTop:=Lib.hid (fun W=>rtop_any e m he hm (by omega) W)
 have HDec:∀ k:Nat,k < inf e m→Hid (∀ W,Calls Tryz.prog 92 #[.int .i64 (e:Int),.int .i64 (m:Int),.int .u64 (k:Int)] W (RdIs 1 (vQ e m false k) W)):=fun k hk=>Lib.hid (fun W=>by
  have h1:=ptn_kd e m k false hk
  have h2:=ptn_nm e m k false hk
  rw [ptn_pos] at h1 h2
  have:=rdec_any e m k he (by omega) hm hm2 (by omega) W
  rwa [h1,h2] at this)
 have HMi:Hid (∀ W v,RQ W v X→Calls Tryz.prog 95 #[v] W (GaveQ (-X) W)):=Lib.hid (fun W v h=>rminus_any X v W h (hx.mono (by omega)))
 have HCmp:∀ (x y:Rat),SzD 100 x→SzD 100 y→Hid (∀ W va vb,RQ W va x→RQ W vb y→Calls Tryz.prog 93 #[va,vb] W fun E w'=>E=.returned (.int .i64 (cmpQ x y))∧Below W.heap.size W w'):=fun x y h1 h2=>Lib.hid (fun W va vb ha hb=>rratcmp_any x y va vb W ha hb h1 h2)
 have hqd:∀ (t:Nat) (z:Bool),t < 2^(e + m)→SzD 100 (vQ e m z t):=fun t z ht=>(vq_szd e m t z he2 hm2 ht).mono (by omega)
 have HUn:Hid (∀ W v,RQ W v X→Calls Tryz.prog 94 #[.int .i64 (e:Int),.int .i64 (m:Int),v] W fun E w'=>E=.returned (.int .u64 (s:Int))∧Below W.heap.size W w'):=Lib.hid (fun W v h=>run_any e m he he2 hm hm2 X v W h (hx.mono (by omega)) hn s hS)
 have hcx:=cmp_ex e m s X hn hs hS
 rw [hex] at hcx
 have HDv:=HDec s hs
 have HCm:=HCmp (vQ e m false s) X (hqd s false (by omega)) (hx.mono (by omega))
 obtain ⟨Q,hQ⟩:∃ x,vQ e m false s=x:=⟨_,rfl⟩
 rw [hQ] at HDv HCm hcx
 obtain ⟨CC,hCC⟩:∃ x,cmpQ Q X=x:=⟨_,rfl⟩
 rw [hCC] at HCm hcx
 have hR:=ha
 obtain ⟨pr,nr,cr,pr',nr',cr',rfl,-,-⟩:=ha
 rw [decide_eq_false hn] at hR ⊢
 have V0:=((Dq.refl w).qcons hR).alloc 34 #[.bool false,.slice pr nr cr,.slice pr' nr' cr']
 obtain ⟨SI,hSI⟩:∃ x:Int,(s:Int)=x:=⟨_,rfl⟩
 rw [hSI] at HUn HDv ⊢
 obtain ⟨TI,hTI⟩:∃ x:Int,((inf e m - 1:Nat):Int)=x:=⟨_,rfl⟩
 rw [hTI] at HTop
 have k0:0≤SI∧SI < 1152921504606846976:=by omega
 have g1:(CC != 0)=false:=hcx
 obtain rfl:CC=0:=by simpa using g1
 clear hR hx hn hS hex hcx hCC hQ HDec HCmp hqd n1 n2 hi h60 hs hSI hTI HMi HTop
 go_enter Tryz.func42,Tryz.ntmps42
 have a0:=V0.c0 0 rfl;have a1:=V0.c1 0 rfl;have a2:=V0.c2 0 rfl
 go_wp2_with fail
 refine (HUn.out _ _ (V0.ref 0 _ _ rfl)).mono ?_
 rintro E w2 ⟨rfl,hb⟩
 have V2:=V0.below hb
 clear V0 hb HUn a0 a1 a2
 go_wp2_with fail
 refine (HDv.out _).mono ?_
 rintro E wv ⟨v,rfl,hr,hb⟩
 have V3':=(V2.below hb).qcons hr
 obtain ⟨pv,nv,cv,pv',nv',cv',rfl,-,-⟩:=hr
 obtain ⟨zv,hz⟩:∃ z,decide ((Q).num < 0)=z:=⟨_,rfl⟩
 rw [hz] at V3' ⊢
 have V3:=V3'.alloc 34 #[.bool zv,.slice pv nv cv,.slice pv' nv' cv']
 clear V2 V3' hb hz HDv
 have a0v:=V3.c0 0 rfl;have a1v:=V3.c1 0 rfl;have a2v:=V3.c2 0 rfl
 have a0:=V3.c0 1 rfl;have a1:=V3.c1 1 rfl;have a2:=V3.c2 1 rfl
 go_wp2_with fail
 refine (HCm.out _ _ _ (V3.ref 0 _ _ rfl) (V3.ref 1 _ _ rfl)).mono ?_
 rintro E w4 ⟨rfl,hb⟩
 have V7:=V3.below hb
 clear V3 hb HCm a0 a1 a2 a0v a1v a2v
 have HB:=Lib.hid V7.bel
 clear V7
 go_wp2_with fail
 go_ret2
 exact ⟨rfl,HB.out⟩
set_option maxRecDepth 100000 in
set_option maxHeartbeats 8000000 in
theorem rabove_top (e m:Nat) (he:2≤e) (he2:e≤8) (hm:1≤m) (hm2:m≤52) (X:Rat) (va:Value) (w:World) (ha:RQ w va X) (hx:SzD 20 X) (s:Nat) (hS:Spot m (inf e m) (X.num.natAbs * 2^upl e m / X.den) s) (hn:¬ X.num < 0) (hex:exq m s (X.num.natAbs * 2^upl e m) X.den=false) (ht:s + 1=inf e m) :
 Calls Tryz.prog 42 #[.int .i64 (e:Int),.int .i64 (m:Int),va] w fun E w'=>E=.returned (.tuple #[.int .u64 0,.bool false])∧Below w.heap.size w w':=by
 have hi:=inf_lt e m
 have h60:2^(e + m)≤2^60:=Nat.pow_le_pow_right (by decide) (by omega)
 have hs:=hS.1
 obtain ⟨n1,n2,-⟩:=neg_num X
 have HTop:=Lib.hid (fun W=>rtop_any e m he hm (by omega) W)
 have HDec:∀ k:Nat,k < inf e m→Hid (∀ W,Calls Tryz.prog 92 #[.int .i64 (e:Int),.int .i64 (m:Int),.int .u64 (k:Int)] W (RdIs 1 (vQ e m false k) W)):=fun k hk=>Lib.hid (fun W=>by
  have h1:=ptn_kd e m k false hk
  have h2:=ptn_nm e m k false hk
  rw [ptn_pos] at h1 h2
  have:=rdec_any e m k he (by omega) hm hm2 (by omega) W
  rwa [h1,h2] at this)
 have HMi:Hid (∀ W v,RQ W v X→Calls Tryz.prog 95 #[v] W (GaveQ (-X) W)):=Lib.hid (fun W v h=>rminus_any X v W h (hx.mono (by omega)))
 have HCmp:∀ (x y:Rat),SzD 100 x→SzD 100 y→Hid (∀ W va vb,RQ W va x→RQ W vb y→Calls Tryz.prog 93 #[va,vb] W fun E w'=>E=.returned (.int .i64 (cmpQ x y))∧Below W.heap.size W w'):=fun x y h1 h2=>Lib.hid (fun W va vb ha hb=>rratcmp_any x y va vb W ha hb h1 h2)
 have hqd:∀ (t:Nat) (z:Bool),t < 2^(e + m)→SzD 100 (vQ e m z t):=fun t z ht=>(vq_szd e m t z he2 hm2 ht).mono (by omega)
 have HUn:Hid (∀ W v,RQ W v X→Calls Tryz.prog 94 #[.int .i64 (e:Int),.int .i64 (m:Int),v] W fun E w'=>E=.returned (.int .u64 (s:Int))∧Below W.heap.size W w'):=Lib.hid (fun W v h=>run_any e m he he2 hm hm2 X v W h (hx.mono (by omega)) hn s hS)
 have hcx:=cmp_ex e m s X hn hs hS
 rw [hex] at hcx
 have HDv:=HDec s hs
 have HCm:=HCmp (vQ e m false s) X (hqd s false (by omega)) (hx.mono (by omega))
 obtain ⟨Q,hQ⟩:∃ x,vQ e m false s=x:=⟨_,rfl⟩
 rw [hQ] at HDv HCm hcx
 obtain ⟨CC,hCC⟩:∃ x,cmpQ Q X=x:=⟨_,rfl⟩
 rw [hCC] at HCm hcx
 have hR:=ha
 obtain ⟨pr,nr,cr,pr',nr',cr',rfl,-,-⟩:=ha
 rw [decide_eq_false hn] at hR ⊢
 have V0:=((Dq.refl w).qcons hR).alloc 34 #[.bool false,.slice pr nr cr,.slice pr' nr' cr']
 obtain ⟨SI,hSI⟩:∃ x:Int,(s:Int)=x:=⟨_,rfl⟩
 rw [hSI] at HUn HDv
 obtain ⟨TI,hTI⟩:∃ x:Int,((inf e m - 1:Nat):Int)=x:=⟨_,rfl⟩
 rw [hTI] at HTop
 have k0:0≤SI∧SI < 1152921504606846976:=by omega
 have g2:(SI == TI)=true:=by simp;omega
 have g1:(CC != 0)=true:=hcx
 have g1n:¬ CC=0:=by simpa using g1
 clear hR hx hn hS hex hcx hCC hQ HDec HCmp hqd n1 n2 hi h60 hs hSI hTI HMi ht
 go_enter Tryz.func42,Tryz.ntmps42
 have a0:=V0.c0 0 rfl;have a1:=V0.c1 0 rfl;have a2:=V0.c2 0 rfl
 go_wp2_with fail
 refine (HUn.out _ _ (V0.ref 0 _ _ rfl)).mono ?_
 rintro E w2 ⟨rfl,hb⟩
 have V2:=V0.below hb
 clear V0 hb HUn a0 a1 a2
 go_wp2_with fail
 refine (HDv.out _).mono ?_
 rintro E wv ⟨v,rfl,hr,hb⟩
 have V3':=(V2.below hb).qcons hr
 obtain ⟨pv,nv,cv,pv',nv',cv',rfl,-,-⟩:=hr
 obtain ⟨zv,hz⟩:∃ z,decide ((Q).num < 0)=z:=⟨_,rfl⟩
 rw [hz] at V3' ⊢
 have V3:=V3'.alloc 34 #[.bool zv,.slice pv nv cv,.slice pv' nv' cv']
 clear V2 V3' hb hz HDv
 have a0v:=V3.c0 0 rfl;have a1v:=V3.c1 0 rfl;have a2v:=V3.c2 0 rfl
 have a0:=V3.c0 1 rfl;have a1:=V3.c1 1 rfl;have a2:=V3.c2 1 rfl
 go_wp2_with fail
 refine (HCm.out _ _ _ (V3.ref 0 _ _ rfl) (V3.ref 1 _ _ rfl)).mono ?_
 rintro E w4 ⟨rfl,hb⟩
 have V7:=V3.below hb
 clear V3 hb HCm a0 a1 a2 a0v a1v a2v
 go_wp2_with fail
 refine (HTop.out _).mono ?_
 rintro E w8 ⟨rfl,hb⟩
 have V8:=V7.below hb
 clear V7 hb HTop
 have HB:=Lib.hid V8.bel
 clear V8
 go_wp2_with fail
 go_ret2
 exact ⟨rfl,HB.out⟩
set_option maxRecDepth 100000 in
set_option maxHeartbeats 8000000 in
theorem rabove_up (e m:Nat) (he:2≤e) (he2:e≤8) (hm:1≤m) (hm2:m≤52) (X:Rat) (va:Value) (w:World) (ha:RQ w va X) (hx:SzD 20 X) (s:Nat) (hS:Spot m (inf e m) (X.num.natAbs * 2^upl e m / X.den) s) (hn:¬ X.num < 0) (hex:exq m s (X.num.natAbs * 2^upl e m) X.den=false) (ht:s + 1 < inf e m) :
 Calls Tryz.prog 42 #[.int .i64 (e:Int),.int .i64 (m:Int),va] w fun E w'=>E=.returned (.tuple #[.int .u64 ((s:Int) + 1),.bool true])∧Below w.heap.size w w':=by
 have hi:=inf_lt e m
 have h60:2^(e + m)≤2^60:=Nat.pow_le_pow_right (by decide) (by omega)
 have hs:=hS.1
 obtain ⟨n1,n2,-⟩:=neg_num X
 have HTop:=Lib.hid (fun W=>rtop_any e m he hm (by omega) W)
 have HDec:∀ k:Nat,k < inf e m→Hid (∀ W,Calls Tryz.prog 92 #[.int .i64 (e:Int),.int .i64 (m:Int),.int .u64 (k:Int)] W (RdIs 1 (vQ e m false k) W)):=fun k hk=>Lib.hid (fun W=>by
  have h1:=ptn_kd e m k false hk
  have h2:=ptn_nm e m k false hk
  rw [ptn_pos] at h1 h2
  have:=rdec_any e m k he (by omega) hm hm2 (by omega) W
  rwa [h1,h2] at this)
 have HMi:Hid (∀ W v,RQ W v X→Calls Tryz.prog 95 #[v] W (GaveQ (-X) W)):=Lib.hid (fun W v h=>rminus_any X v W h (hx.mono (by omega)))
 have HCmp:∀ (x y:Rat),SzD 100 x→SzD 100 y→Hid (∀ W va vb,RQ W va x→RQ W vb y→Calls Tryz.prog 93 #[va,vb] W fun E w'=>E=.returned (.int .i64 (cmpQ x y))∧Below W.heap.size W w'):=fun x y h1 h2=>Lib.hid (fun W va vb ha hb=>rratcmp_any x y va vb W ha hb h1 h2)
 have hqd:∀ (t:Nat) (z:Bool),t < 2^(e + m)→SzD 100 (vQ e m z t):=fun t z ht=>(vq_szd e m t z he2 hm2 ht).mono (by omega)
 have HUn:Hid (∀ W v,RQ W v X→Calls Tryz.prog 94 #[.int .i64 (e:Int),.int .i64 (m:Int),v] W fun E w'=>E=.returned (.int .u64 (s:Int))∧Below W.heap.size W w'):=Lib.hid (fun W v h=>run_any e m he he2 hm hm2 X v W h (hx.mono (by omega)) hn s hS)
 have hcx:=cmp_ex e m s X hn hs hS
 rw [hex] at hcx
 have HDv:=HDec s hs
 have HCm:=HCmp (vQ e m false s) X (hqd s false (by omega)) (hx.mono (by omega))
 obtain ⟨Q,hQ⟩:∃ x,vQ e m false s=x:=⟨_,rfl⟩
 rw [hQ] at HDv HCm hcx
 obtain ⟨CC,hCC⟩:∃ x,cmpQ Q X=x:=⟨_,rfl⟩
 rw [hCC] at HCm hcx
 have hR:=ha
 obtain ⟨pr,nr,cr,pr',nr',cr',rfl,-,-⟩:=ha
 rw [decide_eq_false hn] at hR ⊢
 have V0:=((Dq.refl w).qcons hR).alloc 34 #[.bool false,.slice pr nr cr,.slice pr' nr' cr']
 obtain ⟨SI,hSI⟩:∃ x:Int,(s:Int)=x:=⟨_,rfl⟩
 rw [hSI] at HUn HDv ⊢
 obtain ⟨TI,hTI⟩:∃ x:Int,((inf e m - 1:Nat):Int)=x:=⟨_,rfl⟩
 rw [hTI] at HTop
 have k0:0≤SI∧SI < 1152921504606846976:=by omega
 have g2:(SI == TI)=false:=by simp;omega
 have g1:(CC != 0)=true:=hcx
 have g1n:¬ CC=0:=by simpa using g1
 clear hR hx hn hS hex hcx hCC hQ HDec HCmp hqd n1 n2 hi h60 hs hSI hTI HMi ht
 go_enter Tryz.func42,Tryz.ntmps42
 have a0:=V0.c0 0 rfl;have a1:=V0.c1 0 rfl;have a2:=V0.c2 0 rfl
 go_wp2_with fail
 refine (HUn.out _ _ (V0.ref 0 _ _ rfl)).mono ?_
 rintro E w2 ⟨rfl,hb⟩
 have V2:=V0.below hb
 clear V0 hb HUn a0 a1 a2
 go_wp2_with fail
 refine (HDv.out _).mono ?_
 rintro E wv ⟨v,rfl,hr,hb⟩
 have V3':=(V2.below hb).qcons hr
 obtain ⟨pv,nv,cv,pv',nv',cv',rfl,-,-⟩:=hr
 obtain ⟨zv,hz⟩:∃ z,decide ((Q).num < 0)=z:=⟨_,rfl⟩
 rw [hz] at V3' ⊢
 have V3:=V3'.alloc 34 #[.bool zv,.slice pv nv cv,.slice pv' nv' cv']
 clear V2 V3' hb hz HDv
 have a0v:=V3.c0 0 rfl;have a1v:=V3.c1 0 rfl;have a2v:=V3.c2 0 rfl
 have a0:=V3.c0 1 rfl;have a1:=V3.c1 1 rfl;have a2:=V3.c2 1 rfl
 go_wp2_with fail
 refine (HCm.out _ _ _ (V3.ref 0 _ _ rfl) (V3.ref 1 _ _ rfl)).mono ?_
 rintro E w4 ⟨rfl,hb⟩
 have V7:=V3.below hb
 clear V3 hb HCm a0 a1 a2 a0v a1v a2v
 go_wp2_with fail
 refine (HTop.out _).mono ?_
 rintro E w8 ⟨rfl,hb⟩
 have V8:=V7.below hb
 clear V7 hb HTop
 have HB:=Lib.hid V8.bel
 clear V8
 go_wp2_with fail
 go_ret2
 exact ⟨rfl,HB.out⟩
theorem rbelow_any (e m:Nat) (he:2≤e) (he2:e≤8) (hm:1≤m) (hm2:m≤52) (X:Rat) (va:Value) (w:World) (ha:RQ w va X) (hx:SzD 20 X) (s:Nat) (hS:Spot m (inf e m) (X.num.natAbs * 2^upl e m / X.den) s) :
 Calls Tryz.prog 41 #[.int .i64 (e:Int),.int .i64 (m:Int),va] w fun E w'=>E=.returned (.tuple #[.int .u64 (((bsT e m (decide (X.num < 0)) (decide (X.num < 0)) (exq m s (X.num.natAbs * 2^upl e m) X.den) s).1:Nat):Int),.bool (bsT e m (decide (X.num < 0)) (decide (X.num < 0)) (exq m s (X.num.natAbs * 2^upl e m) X.den) s).2])∧Below w.heap.size w w':=by
 by_cases hn:X.num < 0
 · rw [decide_eq_true hn]
   cases hex:exq m s (X.num.natAbs * 2^upl e m) X.den with
   | true =>
    rw [bsd_no e m s _ _ _ hS.1 rfl]
    exact rbelow_ex e m he he2 hm hm2 X va w ha hx s hS hn hex
   | false =>
    rw [bsd_up]
    by_cases ht:s + 1=inf e m
    · rw [if_pos ht]
      exact rbelow_top e m he he2 hm hm2 X va w ha hx s hS hn hex ht
    · rw [if_neg ht]
      exact rbelow_up e m he he2 hm hm2 X va w ha hx s hS hn hex (by have:=hS.1;omega)
 · rw [decide_eq_false hn,bsd_no e m s _ _ _ hS.1 rfl,ptn_pos]
   exact rbelow_pos e m he he2 hm hm2 X va w ha hx s hS hn
theorem rabove_any (e m:Nat) (he:2≤e) (he2:e≤8) (hm:1≤m) (hm2:m≤52) (X:Rat) (va:Value) (w:World) (ha:RQ w va X) (hx:SzD 20 X) (s:Nat) (hS:Spot m (inf e m) (X.num.natAbs * 2^upl e m / X.den) s) :
 Calls Tryz.prog 42 #[.int .i64 (e:Int),.int .i64 (m:Int),va] w fun E w'=>E=.returned (.tuple #[.int .u64 (((bsT e m (decide (X.num < 0)) (!decide (X.num < 0)) (exq m s (X.num.natAbs * 2^upl e m) X.den) s).1:Nat):Int),.bool (bsT e m (decide (X.num < 0)) (!decide (X.num < 0)) (exq m s (X.num.natAbs * 2^upl e m) X.den) s).2])∧Below w.heap.size w w':=by
 by_cases hn:X.num < 0
 · rw [decide_eq_true hn,show (!true)=false from rfl,bsd_no e m s _ _ _ hS.1 rfl]
   exact rabove_neg e m he he2 hm hm2 X va w ha hx s hS hn
 · rw [decide_eq_false hn,show (!false)=true from rfl]
   cases hex:exq m s (X.num.natAbs * 2^upl e m) X.den with
   | true =>
    rw [bsd_no e m s _ _ _ hS.1 rfl,ptn_pos]
    exact rabove_ex e m he he2 hm hm2 X va w ha hx s hS hn hex
   | false =>
    rw [bsd_up]
    by_cases ht:s + 1=inf e m
    · rw [if_pos ht]
      exact rabove_top e m he he2 hm hm2 X va w ha hx s hS hn hex ht
    · rw [if_neg ht]
      have h:=rabove_up e m he he2 hm hm2 X va w ha hx s hS hn hex (by have:=hS.1;omega)
      rw [show (s:Int) + 1=((s + 1:Nat):Int) by omega] at h
      simp only [ptn_pos]
      exact h
set_option maxRecDepth 100000 in
set_option maxHeartbeats 8000000 in
theorem rexact_any (e m:Nat) (he:2≤e) (he2:e≤8) (hm:1≤m) (hm2:m≤52) (X:Rat) (va:Value) (w:World) (ha:RQ w va X) (hx:SzD 20 X) (s:Nat) (hS:Spot m (inf e m) (X.num.natAbs * 2^upl e m / X.den) s) :
 Calls Tryz.prog 40 #[.int .i64 (e:Int),.int .i64 (m:Int),va] w fun E w'=>E=.returned (.tuple #[.int .u64 ((if exq m s (X.num.natAbs * 2^upl e m) X.den=true then ptn e m (decide (X.num < 0)) s else 0:Nat):Int),.bool (exq m s (X.num.natAbs * 2^upl e m) X.den)])∧Below w.heap.size w w':=by
 have hi:=inf_lt e m
 have h60:2^(e + m)≤2^60:=Nat.pow_le_pow_right (by decide) (by omega)
 have hs:=hS.1
 obtain ⟨n1,n2,-⟩:=neg_num X
 have HTop:=Lib.hid (fun W=>rtop_any e m he hm (by omega) W)
 have HDec:∀ k:Nat,k < inf e m→Hid (∀ W,Calls Tryz.prog 92 #[.int .i64 (e:Int),.int .i64 (m:Int),.int .u64 (k:Int)] W (RdIs 1 (vQ e m false k) W)):=fun k hk=>Lib.hid (fun W=>by
  have h1:=ptn_kd e m k false hk
  have h2:=ptn_nm e m k false hk
  rw [ptn_pos] at h1 h2
  have:=rdec_any e m k he (by omega) hm hm2 (by omega) W
  rwa [h1,h2] at this)
 have HMi:Hid (∀ W v,RQ W v X→Calls Tryz.prog 95 #[v] W (GaveQ (-X) W)):=Lib.hid (fun W v h=>rminus_any X v W h (hx.mono (by omega)))
 have HCmp:∀ (x y:Rat),SzD 100 x→SzD 100 y→Hid (∀ W va vb,RQ W va x→RQ W vb y→Calls Tryz.prog 93 #[va,vb] W fun E w'=>E=.returned (.int .i64 (cmpQ x y))∧Below W.heap.size W w'):=fun x y h1 h2=>Lib.hid (fun W va vb ha hb=>rratcmp_any x y va vb W ha hb h1 h2)
 have hqd:∀ (t:Nat) (z:Bool),t < 2^(e + m)→SzD 100 (vQ e m z t):=fun t z ht=>(vq_szd e m t z he2 hm2 ht).mono (by omega)
 have HBl:Hid (∀ W v,RQ W v X→Calls Tryz.prog 41 #[.int .i64 (e:Int),.int .i64 (m:Int),v] W fun E w'=>E=.returned (.tuple #[.int .u64 (((bsT e m (decide (X.num < 0)) (decide (X.num < 0)) (exq m s (X.num.natAbs * 2^upl e m) X.den) s).1:Nat):Int),.bool (bsT e m (decide (X.num < 0)) (decide (X.num < 0)) (exq m s (X.num.natAbs * 2^upl e m) X.den) s).2])∧Below W.heap.size W w'):=Lib.hid (fun W v h=>rbelow_any e m he he2 hm hm2 X v W h hx s hS)
 have hDk:∀ (t:Nat) (z:Bool),t < inf e m→Hid (∀ W,Calls Tryz.prog 92 #[.int .i64 (e:Int),.int .i64 (m:Int),.int .u64 ((ptn e m z t:Nat):Int)] W (RdIs 1 (vQ e m z t) W)):=fun t z ht=>Lib.hid (fun W=>by
  have h3:ptn e m z t < 18446744073709551616:=by unfold ptn;split <;> omega
  have:=rdec_any e m (ptn e m z t) he (by omega) hm hm2 h3 W
  rwa [ptn_kd e m t z ht,ptn_nm e m t z ht] at this)
 cases hex:exq m s (X.num.natAbs * 2^upl e m) X.den with
 | true =>
  rw [hex,bsd_no e m s _ _ _ hS.1 (by simp)] at HBl
  rw [if_pos rfl]
  have hXq:X=vQ e m (decide (X.num < 0)) s:=by
   by_cases hn:X.num < 0
   · have h1:=exq_eq e m s (x:=-X) (by rw [Rat.neg_num];omega) (by rw [n1,n2];exact hex)
     rw [decide_eq_true hn,vq_neg',← h1]
     grind
   · have h1:=exq_eq e m s (x:=X) hn hex
     rw [decide_eq_false hn]
     exact h1
  have HDv:=hDk s (decide (X.num < 0)) hs
  rw [← hXq] at HDv
  have HCm:=HCmp X X (hx.mono (by omega)) (hx.mono (by omega))
  rw [cmpQ_eq] at HCm
  obtain ⟨PT,hPT⟩:∃ x:Int,((ptn e m (decide (X.num < 0)) s:Nat):Int)=x:=⟨_,rfl⟩
  simp only [hPT] at HBl HDv ⊢
  have hR:=ha
  obtain ⟨pr,nr,cr,pr',nr',cr',rfl,-,-⟩:=ha
  obtain ⟨zr,hzr⟩:∃ z,decide (X.num < 0)=z:=⟨_,rfl⟩
  rw [hzr] at hR ⊢
  have V0:=((Dq.refl w).qcons hR).alloc 34 #[.bool zr,.slice pr nr cr,.slice pr' nr' cr']
  clear hR hx hS hex hXq hPT hzr HDec HCmp hqd n1 n2 hi h60 hs HMi HTop hDk
  go_enter Tryz.func40,Tryz.ntmps40
  have a0:=V0.c0 0 rfl;have a1:=V0.c1 0 rfl;have a2:=V0.c2 0 rfl
  go_wp2_with fail
  refine (HBl.out _ _ (V0.ref 0 _ _ rfl)).mono ?_
  rintro E w2 ⟨rfl,hb⟩
  have V2:=V0.below hb
  clear V0 hb HBl a0 a1 a2
  go_wp2_with fail
  refine (HDv.out _).mono ?_
  rintro E wv ⟨v,rfl,hr,hb⟩
  have V3':=(V2.below hb).qcons hr
  obtain ⟨pv,nv,cv,pv',nv',cv',rfl,-,-⟩:=hr
  obtain ⟨zv,hz⟩:∃ z,decide ((X).num < 0)=z:=⟨_,rfl⟩
  rw [hz] at V3' ⊢
  have V3:=V3'.alloc 34 #[.bool zv,.slice pv nv cv,.slice pv' nv' cv']
  clear V2 V3' hb hz HDv
  have a0v:=V3.c0 0 rfl;have a1v:=V3.c1 0 rfl;have a2v:=V3.c2 0 rfl
  have a0:=V3.c0 1 rfl;have a1:=V3.c1 1 rfl;have a2:=V3.c2 1 rfl
  go_wp2_with fail
  refine (HCm.out _ _ _ (V3.ref 0 _ _ rfl) (V3.ref 1 _ _ rfl)).mono ?_
  rintro E w4 ⟨rfl,hb⟩
  have V7:=V3.below hb
  clear V3 hb HCm a0 a1 a2 a0v a1v a2v
  have HB:=Lib.hid V7.bel
  clear V7
  go_wp2_with fail
  go_ret2
  exact ⟨rfl,HB.out⟩
 | false =>
  rw [hex] at HBl
  rw [if_neg (by simp)]
  cases hbs:bsT e m (decide (X.num < 0)) (decide (X.num < 0)) false s with
  | mk BP BB =>
  rw [hbs] at HBl
  cases BB with
  | false =>
   have h0:BP=0:=bsd_false hbs
   rw [h0] at HBl
   have HDv:=HDec 0 (by omega)
   obtain ⟨Q,hQ⟩:∃ x,vQ e m false 0=x:=⟨_,rfl⟩
   rw [hQ] at HDv
   have hR:=ha
   obtain ⟨pr,nr,cr,pr',nr',cr',rfl,-,-⟩:=ha
   obtain ⟨zr,hzr⟩:∃ z,decide (X.num < 0)=z:=⟨_,rfl⟩
   rw [hzr] at hR ⊢
   have V0:=((Dq.refl w).qcons hR).alloc 34 #[.bool zr,.slice pr nr cr,.slice pr' nr' cr']
   clear hR hx hS hex hbs h0 hQ hzr HDec HCmp hqd n1 n2 hi h60 hs HMi HTop hDk
   go_enter Tryz.func40,Tryz.ntmps40
   have a0:=V0.c0 0 rfl;have a1:=V0.c1 0 rfl;have a2:=V0.c2 0 rfl
   go_wp2_with fail
   refine (HBl.out _ _ (V0.ref 0 _ _ rfl)).mono ?_
   rintro E w2 ⟨rfl,hb⟩
   have V2:=V0.below hb
   clear V0 hb HBl a0 a1 a2
   go_wp2_with fail
   refine (HDv.out _).mono ?_
   rintro E wv ⟨v,rfl,hr,hb⟩
   have V3':=(V2.below hb).qcons hr
   obtain ⟨pv,nv,cv,pv',nv',cv',rfl,-,-⟩:=hr
   obtain ⟨zv,hz⟩:∃ z,decide ((Q).num < 0)=z:=⟨_,rfl⟩
   rw [hz] at V3' ⊢
   have V3:=V3'.alloc 34 #[.bool zv,.slice pv nv cv,.slice pv' nv' cv']
   clear V2 V3' hb hz HDv
   have HB:=Lib.hid V3.bel
   clear V3
   go_wp2_with fail
   go_ret2
   exact ⟨rfl,HB.out⟩
  | true =>
   have hok:=bel_ok e m X s hS BP (by rw [hex];exact hbs)
   obtain ⟨t,z,ht,hP,hle⟩:=hok.fin
   have hne:¬ vQ e m z t=X:=fun h=>by
    obtain ⟨h1,h2⟩:=own_at e m t z X h ht
    rw [← hS.inj h1,hex] at h2
    cases h2
   have hlt:vQ e m z t < X:=by
    rcases Rat.le_iff_lt_or_eq.1 hle with h | h
    · exact h
    · exact absurd h hne
   have HDv:=hDk t z ht
   rw [← hP] at HDv
   have HCm:=HCmp (vQ e m z t) X (hqd t z (by omega)) (hx.mono (by omega))
   rw [cmpQ_lt hlt] at HCm
   obtain ⟨Q,hQ⟩:∃ x,vQ e m z t=x:=⟨_,rfl⟩
   rw [hQ] at HDv HCm
   obtain ⟨PT,hPT⟩:∃ x:Int,(BP:Int)=x:=⟨_,rfl⟩
   rw [hPT] at HBl HDv
   have hR:=ha
   obtain ⟨pr,nr,cr,pr',nr',cr',rfl,-,-⟩:=ha
   obtain ⟨zr,hzr⟩:∃ z,decide (X.num < 0)=z:=⟨_,rfl⟩
   rw [hzr] at hR ⊢
   have V0:=((Dq.refl w).qcons hR).alloc 34 #[.bool zr,.slice pr nr cr,.slice pr' nr' cr']
   clear hR hx hS hex hbs hQ hzr hPT hok ht hP hle hne hlt HDec HCmp hqd n1 n2 hi h60 hs HMi HTop hDk
   go_enter Tryz.func40,Tryz.ntmps40
   have a0:=V0.c0 0 rfl;have a1:=V0.c1 0 rfl;have a2:=V0.c2 0 rfl
   go_wp2_with fail
   refine (HBl.out _ _ (V0.ref 0 _ _ rfl)).mono ?_
   rintro E w2 ⟨rfl,hb⟩
   have V2:=V0.below hb
   clear V0 hb HBl a0 a1 a2
   go_wp2_with fail
   refine (HDv.out _).mono ?_
   rintro E wv ⟨v,rfl,hr,hb⟩
   have V3':=(V2.below hb).qcons hr
   obtain ⟨pv,nv,cv,pv',nv',cv',rfl,-,-⟩:=hr
   obtain ⟨zv,hz⟩:∃ z,decide ((Q).num < 0)=z:=⟨_,rfl⟩
   rw [hz] at V3' ⊢
   have V3:=V3'.alloc 34 #[.bool zv,.slice pv nv cv,.slice pv' nv' cv']
   clear V2 V3' hb hz HDv
   have a0v:=V3.c0 0 rfl;have a1v:=V3.c1 0 rfl;have a2v:=V3.c2 0 rfl
   have a0:=V3.c0 1 rfl;have a1:=V3.c1 1 rfl;have a2:=V3.c2 1 rfl
   go_wp2_with fail
   refine (HCm.out _ _ _ (V3.ref 0 _ _ rfl) (V3.ref 1 _ _ rfl)).mono ?_
   rintro E w4 ⟨rfl,hb⟩
   have V7:=V3.below hb
   clear V3 hb HCm a0 a1 a2 a0v a1v a2v
   have HB:=Lib.hid V7.bel
   clear V7
   go_wp2_with fail
   go_ret2
   exact ⟨rfl,HB.out⟩
end Go.Proofs.YtnhobagjpjcigaaGreatDoor
namespace Go.Proofs.YtnhobagjpjcigaaGreatDoor
open Go.RowKit
set_option linter.unusedVariables false
set_option maxRecDepth 100000 in
set_option maxHeartbeats 4000000 in
theorem below_ofI (E1 M1:Int) (x:Rat) (va:Value) (PV:Int) (PB:Bool) (w:World) (ha:IsR w va x) (hb:∀ W v,IsR W v x→Calls Tryz.prog 88 #[.agg #[.int .i64 E1,.int .i64 M1],v,.bool (decide (x.num < 0))] W fun E w'=>E=.returned (.tuple #[.int .u64 PV,.bool PB])∧Below W.heap.size W w'):Calls Tryz.prog 37 #[.agg #[.int .i64 E1,.int .i64 M1],va] w fun E w'=>E=.returned (.tuple #[.int .u64 PV,.bool PB])∧Below w.heap.size w w':=by
 have HBs:=Lib.hid hb
 have HNg:Hid (∀ W v,IsR W v x→Calls Tryz.prog 73 #[v] W fun e w'=>e=.returned (.bool (decide (x.num < 0)))∧Below W.heap.size W w'):=Lib.hid (fun W v h=>neg_any x v W h)
 have hR:=ha
 obtain ⟨p,n,c,p',n',c',rfl,-,-⟩:=ha
 obtain ⟨zs,hz⟩:∃ z,decide (x.num < 0)=z:=⟨_,rfl⟩
 rw [hz] at hR HNg HBs ⊢
 obtain ⟨W0,hW0⟩:∃ W0,(w.alloc (.cells #[.int .i64 E1,.int .i64 M1] 63)).alloc (.cells #[.bool zs,.slice p n c,.slice p' n' c'] 27)=W0:=⟨_,rfl⟩
 have V0:=((Mq.refl w).rcons hR).two 63 27 #[.int .i64 E1,.int .i64 M1] #[.bool zs,.slice p n c,.slice p' n' c']
 rw [hW0] at V0
 clear hR hb hz
 go_enter Tryz.func37,Tryz.ntmps37
 go_wp2_with fail
 refine wp_region_inv 9 (fun a0 dj a W=>∃ vq0 vq1 vq2 vq3 vq4 vq5 vq6 vq7 vq8:Value,a=puts a0 [(6,vq0),(7,vq1),(8,vq2),(9,vq3),(10,vq4),(11,vq5),(12,vq6),(4,vq7),(5,vq8)]∧Below W0.heap.size W0 W∧(dj 0=true→vq0=.agg #[.int .i64 E1,.int .i64 M1])∧(dj 1=true→vq1=.agg #[.bool zs,.slice p n c,.slice p' n' c'])∧(dj 2=true→vq2=.agg #[.bool zs,.slice p n c,.slice p' n' c'])∧(dj 3=true→vq3=.bool zs)∧(dj 4=true→vq4=.tuple #[.int .u64 PV,.bool PB])∧(dj 5=true→vq5=.int .u64 PV)∧(dj 6=true→vq6=.bool PB)∧(dj 7=true→vq7=.int .u64 PV)∧(dj 8=true→vq8=.bool PB)) (by kernel_rfl) (by kernel_rfl) (by kernel_rfl) ?_ ?_ ?_ ?_
 · intro dj hcl i hi1 hi2 hd j hj
   exact absurd (Nat.lt_of_lt_of_le hi2 (of_decide_eq_true (by kernel_rfl))) (Nat.not_lt.2 hi1)
 · refine ⟨undef,undef,undef,undef,undef,undef,undef,.int .u64 0,.bool false,(by simp only [pus]),(Below.refl _ _).drew,(fun h=>by cases h),(fun h=>by cases h),(fun h=>by cases h),(fun h=>by cases h),(fun h=>by cases h),(fun h=>by cases h),(fun h=>by cases h),(fun h=>by cases h),(fun h=>by cases h)⟩
 · intro dj a W i hi hdi hcl hdep hI K hK
   obtain ⟨vq0,vq1,vq2,vq3,vq4,vq5,vq6,vq7,vq8,rfl,hB,p0,p1,p2,p3,p4,p5,p6,p7,p8⟩:=hI
   have V:=V0.below hB
   obtain rfl | rfl | rfl | rfl | rfl | rfl | rfl | rfl | rfl:i=0∨i=1∨i=2∨i=3∨i=4∨i=5∨i=6∨i=7∨i=8:=by omega
   · simp only [pus]
     have c0:=V.f0 1 rfl
     have c1:=V.f1 1 rfl
     refine any_op (o:=_) rfl rfl ?_
     go_wp2_with fail
     refine hK.out _ _ ?_
     exact ⟨.agg #[.int .i64 E1,.int .i64 M1],vq1,vq2,vq3,vq4,vq5,vq6,vq7,vq8,(by simp only [pus]),hB,(fun _=>rfl),p1,p2,p3,p4,p5,p6,p7,p8⟩
   · simp only [pus]
     have c0:=V.c0 0 rfl
     have c1:=V.c1 0 rfl
     have c2:=V.c2 0 rfl
     refine any_op (o:=_) rfl rfl ?_
     go_wp2_with fail
     refine hK.out _ _ ?_
     exact ⟨vq0,.agg #[.bool zs,.slice p n c,.slice p' n' c'],vq2,vq3,vq4,vq5,vq6,vq7,vq8,(by simp only [pus]),hB,p0,(fun _=>rfl),p2,p3,p4,p5,p6,p7,p8⟩
   · simp only [pus]
     have c0:=V.c0 0 rfl
     have c1:=V.c1 0 rfl
     have c2:=V.c2 0 rfl
     refine any_op (o:=_) rfl rfl ?_
     go_wp2_with fail
     refine hK.out _ _ ?_
     exact ⟨vq0,vq1,.agg #[.bool zs,.slice p n c,.slice p' n' c'],vq3,vq4,vq5,vq6,vq7,vq8,(by simp only [pus]),hB,p0,p1,(fun _=>rfl),p3,p4,p5,p6,p7,p8⟩
   · obtain rfl:=p2 (hdep 2 (by kernel_rfl))
     simp only [pus]
     refine any_op (o:=_) rfl rfl ?_
     have hC:=Lib.hid (HNg.out W _ (V.rat 0 _ _ rfl))
     go_simp
     refine hC.out.mono ?_
     rintro e W2 ⟨rfl,hb⟩
     refine hK.out _ _ ?_
     exact ⟨vq0,vq1,.agg #[.bool zs,.slice p n c,.slice p' n' c'],.bool zs,vq4,vq5,vq6,vq7,vq8,(by simp only [pus]),hB.trans (hb.mono hB.size),p0,p1,(fun _=>rfl),(fun _=>rfl),p4,p5,p6,p7,p8⟩
   · obtain rfl:=p0 (hdep 0 (by kernel_rfl))
     obtain rfl:=p1 (hdep 1 (by kernel_rfl))
     obtain rfl:=p3 (hdep 3 (by kernel_rfl))
     simp only [pus]
     refine any_op (o:=_) rfl rfl ?_
     have hC:=Lib.hid (HBs.out W _ (V.rat 0 _ _ rfl))
     go_simp
     refine hC.out.mono ?_
     rintro e W2 ⟨rfl,hb⟩
     refine hK.out _ _ ?_
     exact ⟨.agg #[.int .i64 E1,.int .i64 M1],.agg #[.bool zs,.slice p n c,.slice p' n' c'],vq2,.bool zs,.tuple #[.int .u64 PV,.bool PB],vq5,vq6,vq7,vq8,(by simp only [pus]),hB.trans (hb.mono hB.size),(fun _=>rfl),(fun _=>rfl),p2,(fun _=>rfl),(fun _=>rfl),p5,p6,p7,p8⟩
   · obtain rfl:=p4 (hdep 4 (by kernel_rfl))
     simp only [pus]
     refine any_op (o:=_) rfl rfl ?_
     go_wp2_with fail
     refine hK.out _ _ ?_
     exact ⟨vq0,vq1,vq2,vq3,.tuple #[.int .u64 PV,.bool PB],.int .u64 PV,vq6,vq7,vq8,(by simp only [pus]),hB,p0,p1,p2,p3,(fun _=>rfl),(fun _=>rfl),p6,p7,p8⟩
   · obtain rfl:=p4 (hdep 4 (by kernel_rfl))
     simp only [pus]
     refine any_op (o:=_) rfl rfl ?_
     go_wp2_with fail
     refine hK.out _ _ ?_
     exact ⟨vq0,vq1,vq2,vq3,.tuple #[.int .u64 PV,.bool PB],vq5,.bool PB,vq7,vq8,(by simp only [pus]),hB,p0,p1,p2,p3,(fun _=>rfl),p5,(fun _=>rfl),p7,p8⟩
   · obtain rfl:=p0 (hdep 0 (by kernel_rfl))
     obtain rfl:=p1 (hdep 1 (by kernel_rfl))
     obtain rfl:=p2 (hdep 2 (by kernel_rfl))
     obtain rfl:=p3 (hdep 3 (by kernel_rfl))
     obtain rfl:=p4 (hdep 4 (by kernel_rfl))
     obtain rfl:=p5 (hdep 5 (by kernel_rfl))
     obtain rfl:=p6 (hdep 6 (by kernel_rfl))
     simp only [pus]
     refine any_op (o:=_) rfl rfl ?_
     go_wp2_with fail
     refine hK.out _ _ ?_
     exact ⟨.agg #[.int .i64 E1,.int .i64 M1],.agg #[.bool zs,.slice p n c,.slice p' n' c'],.agg #[.bool zs,.slice p n c,.slice p' n' c'],.bool zs,.tuple #[.int .u64 PV,.bool PB],.int .u64 PV,.bool PB,.int .u64 PV,vq8,(by simp only [pus]),hB,(fun _=>rfl),(fun _=>rfl),(fun _=>rfl),(fun _=>rfl),(fun _=>rfl),(fun _=>rfl),(fun _=>rfl),(fun _=>rfl),p8⟩
   · obtain rfl:=p0 (hdep 0 (by kernel_rfl))
     obtain rfl:=p1 (hdep 1 (by kernel_rfl))
     obtain rfl:=p2 (hdep 2 (by kernel_rfl))
     obtain rfl:=p3 (hdep 3 (by kernel_rfl))
     obtain rfl:=p4 (hdep 4 (by kernel_rfl))
     obtain rfl:=p5 (hdep 5 (by kernel_rfl))
     obtain rfl:=p6 (hdep 6 (by kernel_rfl))
     obtain rfl:=p7 (hdep 7 (by kernel_rfl))
     simp only [pus]
     refine any_op (o:=_) rfl rfl ?_
     go_wp2_with fail
     refine hK.out _ _ ?_
     exact ⟨.agg #[.int .i64 E1,.int .i64 M1],.agg #[.bool zs,.slice p n c,.slice p' n' c'],.agg #[.bool zs,.slice p n c,.slice p' n' c'],.bool zs,.tuple #[.int .u64 PV,.bool PB],.int .u64 PV,.bool PB,.int .u64 PV,.bool PB,(by simp only [pus]),hB,(fun _=>rfl),(fun _=>rfl),(fun _=>rfl),(fun _=>rfl),(fun _=>rfl),(fun _=>rfl),(fun _=>rfl),(fun _=>rfl),(fun _=>rfl)⟩
 · intro dj a W hd hI
   obtain ⟨vq0,vq1,vq2,vq3,vq4,vq5,vq6,vq7,vq8,rfl,hB,p0,p1,p2,p3,p4,p5,p6,p7,p8⟩:=hI
   have V:=V0.below hB
   obtain rfl:=p0 (hd 0 (by omega))
   obtain rfl:=p1 (hd 1 (by omega))
   obtain rfl:=p2 (hd 2 (by omega))
   obtain rfl:=p3 (hd 3 (by omega))
   obtain rfl:=p4 (hd 4 (by omega))
   obtain rfl:=p5 (hd 5 (by omega))
   obtain rfl:=p6 (hd 6 (by omega))
   obtain rfl:=p7 (hd 7 (by omega))
   obtain rfl:=p8 (hd 8 (by omega))
   clear hd p0 p1 p2 p3 p4 p5 p6 p7 p8 dj
   simp only [pus]
   show wpAny Tryz.prog .any _ _ 0 #[true,true,true,true,true,true,true,true,true] _ _
   have HB:=Lib.hid V.bel
   clear V V0
   refine ⟨by kernel_rfl,?_⟩
   go_wp2_with fail
   go_ret2
   exact ⟨rfl,HB.out⟩
set_option maxRecDepth 100000 in
set_option maxHeartbeats 4000000 in
theorem above_ofI (E1 M1:Int) (x:Rat) (va:Value) (PV:Int) (PB:Bool) (w:World) (ha:IsR w va x) (hb:∀ W v,IsR W v x→Calls Tryz.prog 88 #[.agg #[.int .i64 E1,.int .i64 M1],v,.bool (!decide (x.num < 0))] W fun E w'=>E=.returned (.tuple #[.int .u64 PV,.bool PB])∧Below W.heap.size W w'):Calls Tryz.prog 38 #[.agg #[.int .i64 E1,.int .i64 M1],va] w fun E w'=>E=.returned (.tuple #[.int .u64 PV,.bool PB])∧Below w.heap.size w w':=by
 have HBs:=Lib.hid hb
 have HNg:Hid (∀ W v,IsR W v x→Calls Tryz.prog 73 #[v] W fun e w'=>e=.returned (.bool (decide (x.num < 0)))∧Below W.heap.size W w'):=Lib.hid (fun W v h=>neg_any x v W h)
 have hR:=ha
 obtain ⟨p,n,c,p',n',c',rfl,-,-⟩:=ha
 obtain ⟨zs,hz⟩:∃ z,decide (x.num < 0)=z:=⟨_,rfl⟩
 rw [hz] at hR HNg HBs ⊢
 obtain ⟨nz,hnz⟩:∃ b,(!zs)=b:=⟨_,rfl⟩
 rw [hnz] at HBs
 obtain ⟨W0,hW0⟩:∃ W0,(w.alloc (.cells #[.int .i64 E1,.int .i64 M1] 63)).alloc (.cells #[.bool zs,.slice p n c,.slice p' n' c'] 27)=W0:=⟨_,rfl⟩
 have V0:=((Mq.refl w).rcons hR).two 63 27 #[.int .i64 E1,.int .i64 M1] #[.bool zs,.slice p n c,.slice p' n' c']
 rw [hW0] at V0
 clear hR hb hz
 go_enter Tryz.func38,Tryz.ntmps38
 go_wp2_with fail
 refine wp_region_inv 10 (fun a0 dj a W=>∃ vq0 vq1 vq2 vq3 vq4 vq5 vq6 vq7 vq8 vq9:Value,a=puts a0 [(6,vq0),(7,vq1),(8,vq2),(9,vq3),(10,vq4),(11,vq5),(12,vq6),(13,vq7),(4,vq8),(5,vq9)]∧Below W0.heap.size W0 W∧(dj 0=true→vq0=.agg #[.int .i64 E1,.int .i64 M1])∧(dj 1=true→vq1=.agg #[.bool zs,.slice p n c,.slice p' n' c'])∧(dj 2=true→vq2=.agg #[.bool zs,.slice p n c,.slice p' n' c'])∧(dj 3=true→vq3=.bool zs)∧(dj 4=true→vq4=.bool nz)∧(dj 5=true→vq5=.tuple #[.int .u64 PV,.bool PB])∧(dj 6=true→vq6=.int .u64 PV)∧(dj 7=true→vq7=.bool PB)∧(dj 8=true→vq8=.int .u64 PV)∧(dj 9=true→vq9=.bool PB)) (by kernel_rfl) (by kernel_rfl) (by kernel_rfl) ?_ ?_ ?_ ?_
 · intro dj hcl i hi1 hi2 hd j hj
   exact absurd (Nat.lt_of_lt_of_le hi2 (of_decide_eq_true (by kernel_rfl))) (Nat.not_lt.2 hi1)
 · refine ⟨undef,undef,undef,undef,undef,undef,undef,undef,.int .u64 0,.bool false,(by simp only [pus]),(Below.refl _ _).drew,(fun h=>by cases h),(fun h=>by cases h),(fun h=>by cases h),(fun h=>by cases h),(fun h=>by cases h),(fun h=>by cases h),(fun h=>by cases h),(fun h=>by cases h),(fun h=>by cases h),(fun h=>by cases h)⟩
 · intro dj a W i hi hdi hcl hdep hI K hK
   obtain ⟨vq0,vq1,vq2,vq3,vq4,vq5,vq6,vq7,vq8,vq9,rfl,hB,p0,p1,p2,p3,p4,p5,p6,p7,p8,p9⟩:=hI
   have V:=V0.below hB
   obtain rfl | rfl | rfl | rfl | rfl | rfl | rfl | rfl | rfl | rfl:i=0∨i=1∨i=2∨i=3∨i=4∨i=5∨i=6∨i=7∨i=8∨i=9:=by omega
   · simp only [pus]
     have c0:=V.f0 1 rfl
     have c1:=V.f1 1 rfl
     refine any_op (o:=_) rfl rfl ?_
     go_wp2_with fail
     refine hK.out _ _ ?_
     exact ⟨.agg #[.int .i64 E1,.int .i64 M1],vq1,vq2,vq3,vq4,vq5,vq6,vq7,vq8,vq9,(by simp only [pus]),hB,(fun _=>rfl),p1,p2,p3,p4,p5,p6,p7,p8,p9⟩
   · simp only [pus]
     have c0:=V.c0 0 rfl
     have c1:=V.c1 0 rfl
     have c2:=V.c2 0 rfl
     refine any_op (o:=_) rfl rfl ?_
     go_wp2_with fail
     refine hK.out _ _ ?_
     exact ⟨vq0,.agg #[.bool zs,.slice p n c,.slice p' n' c'],vq2,vq3,vq4,vq5,vq6,vq7,vq8,vq9,(by simp only [pus]),hB,p0,(fun _=>rfl),p2,p3,p4,p5,p6,p7,p8,p9⟩
   · simp only [pus]
     have c0:=V.c0 0 rfl
     have c1:=V.c1 0 rfl
     have c2:=V.c2 0 rfl
     refine any_op (o:=_) rfl rfl ?_
     go_wp2_with fail
     refine hK.out _ _ ?_
     exact ⟨vq0,vq1,.agg #[.bool zs,.slice p n c,.slice p' n' c'],vq3,vq4,vq5,vq6,vq7,vq8,vq9,(by simp only [pus]),hB,p0,p1,(fun _=>rfl),p3,p4,p5,p6,p7,p8,p9⟩
   · obtain rfl:=p2 (hdep 2 (by kernel_rfl))
     simp only [pus]
     refine any_op (o:=_) rfl rfl ?_
     have hC:=Lib.hid (HNg.out W _ (V.rat 0 _ _ rfl))
     go_simp
     refine hC.out.mono ?_
     rintro e W2 ⟨rfl,hb⟩
     refine hK.out _ _ ?_
     exact ⟨vq0,vq1,.agg #[.bool zs,.slice p n c,.slice p' n' c'],.bool zs,vq4,vq5,vq6,vq7,vq8,vq9,(by simp only [pus]),hB.trans (hb.mono hB.size),p0,p1,(fun _=>rfl),(fun _=>rfl),p4,p5,p6,p7,p8,p9⟩
   · obtain rfl:=p3 (hdep 3 (by kernel_rfl))
     simp only [pus]
     refine any_op (o:=_) rfl rfl ?_
     go_wp2_with fail
     refine hK.out _ _ ?_
     exact ⟨vq0,vq1,vq2,.bool zs,.bool nz,vq5,vq6,vq7,vq8,vq9,(by simp only [pus]),hB,p0,p1,p2,(fun _=>rfl),(fun _=>rfl),p5,p6,p7,p8,p9⟩
   · obtain rfl:=p0 (hdep 0 (by kernel_rfl))
     obtain rfl:=p1 (hdep 1 (by kernel_rfl))
     obtain rfl:=p3 (hdep 3 (by kernel_rfl))
     obtain rfl:=p4 (hdep 4 (by kernel_rfl))
     simp only [pus]
     refine any_op (o:=_) rfl rfl ?_
     have hC:=Lib.hid (HBs.out W _ (V.rat 0 _ _ rfl))
     go_simp
     refine hC.out.mono ?_
     rintro e W2 ⟨rfl,hb⟩
     refine hK.out _ _ ?_
     exact ⟨.agg #[.int .i64 E1,.int .i64 M1],.agg #[.bool zs,.slice p n c,.slice p' n' c'],vq2,.bool zs,.bool nz,.tuple #[.int .u64 PV,.bool PB],vq6,vq7,vq8,vq9,(by simp only [pus]),hB.trans (hb.mono hB.size),(fun _=>rfl),(fun _=>rfl),p2,(fun _=>rfl),(fun _=>rfl),(fun _=>rfl),p6,p7,p8,p9⟩
   · obtain rfl:=p5 (hdep 5 (by kernel_rfl))
     simp only [pus]
     refine any_op (o:=_) rfl rfl ?_
     go_wp2_with fail
     refine hK.out _ _ ?_
     exact ⟨vq0,vq1,vq2,vq3,vq4,.tuple #[.int .u64 PV,.bool PB],.int .u64 PV,vq7,vq8,vq9,(by simp only [pus]),hB,p0,p1,p2,p3,p4,(fun _=>rfl),(fun _=>rfl),p7,p8,p9⟩
   · obtain rfl:=p5 (hdep 5 (by kernel_rfl))
     simp only [pus]
     refine any_op (o:=_) rfl rfl ?_
     go_wp2_with fail
     refine hK.out _ _ ?_
     exact ⟨vq0,vq1,vq2,vq3,vq4,.tuple #[.int .u64 PV,.bool PB],vq6,.bool PB,vq8,vq9,(by simp only [pus]),hB,p0,p1,p2,p3,p4,(fun _=>rfl),p6,(fun _=>rfl),p8,p9⟩
   · obtain rfl:=p0 (hdep 0 (by kernel_rfl))
     obtain rfl:=p1 (hdep 1 (by kernel_rfl))
     obtain rfl:=p2 (hdep 2 (by kernel_rfl))
     obtain rfl:=p3 (hdep 3 (by kernel_rfl))
     obtain rfl:=p4 (hdep 4 (by kernel_rfl))
     obtain rfl:=p5 (hdep 5 (by kernel_rfl))
     obtain rfl:=p6 (hdep 6 (by kernel_rfl))
     obtain rfl:=p7 (hdep 7 (by kernel_rfl))
     simp only [pus]
     refine any_op (o:=_) rfl rfl ?_
     go_wp2_with fail
     refine hK.out _ _ ?_
     exact ⟨.agg #[.int .i64 E1,.int .i64 M1],.agg #[.bool zs,.slice p n c,.slice p' n' c'],.agg #[.bool zs,.slice p n c,.slice p' n' c'],.bool zs,.bool nz,.tuple #[.int .u64 PV,.bool PB],.int .u64 PV,.bool PB,.int .u64 PV,vq9,(by simp only [pus]),hB,(fun _=>rfl),(fun _=>rfl),(fun _=>rfl),(fun _=>rfl),(fun _=>rfl),(fun _=>rfl),(fun _=>rfl),(fun _=>rfl),(fun _=>rfl),p9⟩
   · obtain rfl:=p0 (hdep 0 (by kernel_rfl))
     obtain rfl:=p1 (hdep 1 (by kernel_rfl))
     obtain rfl:=p2 (hdep 2 (by kernel_rfl))
     obtain rfl:=p3 (hdep 3 (by kernel_rfl))
     obtain rfl:=p4 (hdep 4 (by kernel_rfl))
     obtain rfl:=p5 (hdep 5 (by kernel_rfl))
     obtain rfl:=p6 (hdep 6 (by kernel_rfl))
     obtain rfl:=p7 (hdep 7 (by kernel_rfl))
     obtain rfl:=p8 (hdep 8 (by kernel_rfl))
     simp only [pus]
     refine any_op (o:=_) rfl rfl ?_
     go_wp2_with fail
     refine hK.out _ _ ?_
     exact ⟨.agg #[.int .i64 E1,.int .i64 M1],.agg #[.bool zs,.slice p n c,.slice p' n' c'],.agg #[.bool zs,.slice p n c,.slice p' n' c'],.bool zs,.bool nz,.tuple #[.int .u64 PV,.bool PB],.int .u64 PV,.bool PB,.int .u64 PV,.bool PB,(by simp only [pus]),hB,(fun _=>rfl),(fun _=>rfl),(fun _=>rfl),(fun _=>rfl),(fun _=>rfl),(fun _=>rfl),(fun _=>rfl),(fun _=>rfl),(fun _=>rfl),(fun _=>rfl)⟩
 · intro dj a W hd hI
   obtain ⟨vq0,vq1,vq2,vq3,vq4,vq5,vq6,vq7,vq8,vq9,rfl,hB,p0,p1,p2,p3,p4,p5,p6,p7,p8,p9⟩:=hI
   have V:=V0.below hB
   obtain rfl:=p0 (hd 0 (by omega))
   obtain rfl:=p1 (hd 1 (by omega))
   obtain rfl:=p2 (hd 2 (by omega))
   obtain rfl:=p3 (hd 3 (by omega))
   obtain rfl:=p4 (hd 4 (by omega))
   obtain rfl:=p5 (hd 5 (by omega))
   obtain rfl:=p6 (hd 6 (by omega))
   obtain rfl:=p7 (hd 7 (by omega))
   obtain rfl:=p8 (hd 8 (by omega))
   obtain rfl:=p9 (hd 9 (by omega))
   clear hd p0 p1 p2 p3 p4 p5 p6 p7 p8 p9 dj
   simp only [pus]
   show wpAny Tryz.prog .any _ _ 0 #[true,true,true,true,true,true,true,true,true,true] _ _
   have HB:=Lib.hid V.bel
   clear V V0
   refine ⟨by kernel_rfl,?_⟩
   go_wp2_with fail
   go_ret2
   exact ⟨rfl,HB.out⟩
set_option maxRecDepth 100000 in
set_option maxHeartbeats 4000000 in
theorem exact_no (E1 M1:Int) (hf:-9223372036854775808≤E1∧E1≤9223372036854775807∧-9223372036854775808≤M1∧M1≤9223372036854775807) (hv:¬ (2≤E1∧E1≤11∧1≤M1∧M1≤52)) (x:Rat) (va:Value) (w:World) (ha:IsR w va x):Calls Tryz.prog 36 #[.agg #[.int .i64 E1,.int .i64 M1],va] w fun E w'=>E=.returned (.tuple #[.int .u64 0,.bool false])∧Below w.heap.size w w':=by
 have HVa:Hid (∀ W,Calls Tryz.prog 34 #[.agg #[.int .i64 E1,.int .i64 M1]] W fun E w'=>E=.returned (.bool false)∧Below W.heap.size W w'):=Lib.hid (fun W=>by
  have h:=valid_any E1 M1 hf.1 hf.2.1 hf.2.2.1 hf.2.2.2 W
  rw [decide_eq_false hv] at h
  exact h)
 obtain ⟨p,n,c,p',n',c',rfl,-,-⟩:=ha
 obtain ⟨zs,hz⟩:∃ z,decide (x.num < 0)=z:=⟨_,rfl⟩
 rw [hz]
 have V0:=(Mq.refl w).two 63 27 #[.int .i64 E1,.int .i64 M1] #[.bool zs,.slice p n c,.slice p' n' c']
 have q0:=V0.f0 1 rfl;have q1:=V0.f1 1 rfl
 clear hf hv hz
 go_enter Tryz.func36,Tryz.ntmps36
 go_wp2_with fail
 refine (HVa.out _).mono ?_
 rintro E w1 ⟨rfl,hb⟩
 have HB:=Lib.hid (V0.below hb).bel
 clear V0 hb HVa q0 q1
 go_wp2_with fail
 go_ret2
 exact ⟨rfl,HB.out⟩
set_option maxRecDepth 100000 in
set_option maxHeartbeats 4000000 in
theorem beside_no (E1 M1:Int) (hf:-9223372036854775808≤E1∧E1≤9223372036854775807∧-9223372036854775808≤M1∧M1≤9223372036854775807) (hv:¬ (2≤E1∧E1≤11∧1≤M1∧M1≤52)) (x:Rat) (va:Value) (w:World) (ha:IsR w va x) (aw:Bool):Calls Tryz.prog 88 #[.agg #[.int .i64 E1,.int .i64 M1],va,.bool aw] w fun E w'=>E=.returned (.tuple #[.int .u64 0,.bool false])∧Below w.heap.size w w':=by
 have HVa:Hid (∀ W,Calls Tryz.prog 34 #[.agg #[.int .i64 E1,.int .i64 M1]] W fun E w'=>E=.returned (.bool false)∧Below W.heap.size W w'):=Lib.hid (fun W=>by
  have h:=valid_any E1 M1 hf.1 hf.2.1 hf.2.2.1 hf.2.2.2 W
  rw [decide_eq_false hv] at h
  exact h)
 obtain ⟨p,n,c,p',n',c',rfl,-,-⟩:=ha
 obtain ⟨zs,hz⟩:∃ z,decide (x.num < 0)=z:=⟨_,rfl⟩
 rw [hz]
 have V0:=(Mq.refl w).two 63 27 #[.int .i64 E1,.int .i64 M1] #[.bool zs,.slice p n c,.slice p' n' c']
 have q0:=V0.f0 1 rfl;have q1:=V0.f1 1 rfl
 clear hf hv hz
 go_enter Tryz.func88,Tryz.ntmps88
 go_wp2_with fail
 refine (HVa.out _).mono ?_
 rintro E w1 ⟨rfl,hb⟩
 have HB:=Lib.hid (V0.below hb).bel
 clear V0 hb HVa q0 q1
 go_wp2_with fail
 go_ret2
 exact ⟨rfl,HB.out⟩
set_option maxRecDepth 100000 in
set_option maxHeartbeats 4000000 in
theorem near_no (E1 M1:Int) (hf:-9223372036854775808≤E1∧E1≤9223372036854775807∧-9223372036854775808≤M1∧M1≤9223372036854775807) (hv:¬ (2≤E1∧E1≤11∧1≤M1∧M1≤52)) (x:Rat) (va:Value) (w:World) (ha:IsR w va x):Calls Tryz.prog 39 #[.agg #[.int .i64 E1,.int .i64 M1],va] w fun E w'=>E=.returned (.int .u64 0)∧Below w.heap.size w w':=by
 have HVa:Hid (∀ W,Calls Tryz.prog 34 #[.agg #[.int .i64 E1,.int .i64 M1]] W fun E w'=>E=.returned (.bool false)∧Below W.heap.size W w'):=Lib.hid (fun W=>by
  have h:=valid_any E1 M1 hf.1 hf.2.1 hf.2.2.1 hf.2.2.2 W
  rw [decide_eq_false hv] at h
  exact h)
 obtain ⟨p,n,c,p',n',c',rfl,-,-⟩:=ha
 obtain ⟨zs,hz⟩:∃ z,decide (x.num < 0)=z:=⟨_,rfl⟩
 rw [hz]
 have V0:=(Mq.refl w).two 63 27 #[.int .i64 E1,.int .i64 M1] #[.bool zs,.slice p n c,.slice p' n' c']
 have q0:=V0.f0 1 rfl;have q1:=V0.f1 1 rfl
 clear hf hv hz
 go_enter Tryz.func39,Tryz.ntmps39
 go_wp2_with fail
 refine (HVa.out _).mono ?_
 rintro E w1 ⟨rfl,hb⟩
 have HB:=Lib.hid (V0.below hb).bel
 clear V0 hb HVa q0 q1
 go_wp2_with fail
 go_ret
 exact ⟨rfl,HB.out⟩
theorem below_no (E1 M1:Int) (hf:-9223372036854775808≤E1∧E1≤9223372036854775807∧-9223372036854775808≤M1∧M1≤9223372036854775807) (hv:¬ (2≤E1∧E1≤11∧1≤M1∧M1≤52)) (x:Rat) (va:Value) (w:World) (ha:IsR w va x):Calls Tryz.prog 37 #[.agg #[.int .i64 E1,.int .i64 M1],va] w fun E w'=>E=.returned (.tuple #[.int .u64 0,.bool false])∧Below w.heap.size w w':=below_ofI E1 M1 x va 0 false w ha (fun W v h=>beside_no E1 M1 hf hv x v W h _)
theorem above_no (E1 M1:Int) (hf:-9223372036854775808≤E1∧E1≤9223372036854775807∧-9223372036854775808≤M1∧M1≤9223372036854775807) (hv:¬ (2≤E1∧E1≤11∧1≤M1∧M1≤52)) (x:Rat) (va:Value) (w:World) (ha:IsR w va x):Calls Tryz.prog 38 #[.agg #[.int .i64 E1,.int .i64 M1],va] w fun E w'=>E=.returned (.tuple #[.int .u64 0,.bool false])∧Below w.heap.size w w':=above_ofI E1 M1 x va 0 false w ha (fun W v h=>beside_no E1 M1 hf hv x v W h _)
end Go.Proofs.YtnhobagjpjcigaaGreatDoor
namespace Go.Proofs.YtnhobagjpjcigaaGreatDoor
open Go.RowKit
set_option linter.unusedVariables false
theorem un_top (e m:Nat) (he:2≤e) (hm:1≤m):un m (inf e m - 2) + un m (inf e m)=2 * un m (inf e m - 1):=by
 have h1:2^2≤2^e:=Nat.pow_le_pow_right (by decide) he
 have h2:2^1≤2^m:=Nat.pow_le_pow_right (by decide) hm
 obtain ⟨Q,hQ⟩:∃ Q,2^e=Q + 2:=⟨2^e - 2,by omega⟩
 have hi:=inf_parts e m
 rw [hQ] at hi h1
 have e0:inf e m=2^m * (Q + 1) + 0:=by rw [hi];rfl
 have e1:inf e m - 1=2^m * Q + (2^m - 1):=by rw [e0,Nat.mul_add];omega
 have e2:inf e m - 2=2^m * Q + (2^m - 2):=by rw [e0,Nat.mul_add];omega
 rw [e1,e2,e0,un_parts (by omega),un_parts (by omega),un_parts (by omega),if_neg (by omega),if_neg (by omega),if_neg (by omega)]
 obtain ⟨K,hK⟩:∃ K,2^(Q - 1)=K:=⟨_,rfl⟩
 have e3:2^(Q + 1 - 1)=K * 2:=by rw [← hK,← Nat.pow_succ];congr 1;omega
 rw [e3,hK]
 generalize 2^m=M at *
 obtain ⟨N,rfl⟩:∃ N,M=N + 2:=⟨M - 2,by omega⟩
 rw [show N + 2 + (N + 2 - 2)=2 * N + 2 by omega,show N + 2 + (N + 2 - 1)=2 * N + 3 by omega]
 grind
theorem vq_twice (e m k l:Nat):vQ e m false k + vQ e m false l=((un m k + un m l:Nat):Rat) * (((2^upl e m:Nat):Rat))⁻¹:=by
 rw [vq_mul,vq_mul,← Rat.add_mul]
 congr 1
 show (((un m k:Int):Rat) + ((un m l:Int):Rat))=_
 rw [← Rat.intCast_add,← Int.natCast_add]
 rfl
theorem near_cmp (e m s:Nat) (X:Rat) (hn:¬ X.num < 0) :
 (nup m s (X.num.natAbs * 2^upl e m) X.den=true→cmpQ (X + -vQ e m false s) (vQ e m false (s + 1) + -X)=1∨cmpQ (X + -vQ e m false s) (vQ e m false (s + 1) + -X)=0∧s % 2=1) ∧
 (nup m s (X.num.natAbs * 2^upl e m) X.den=false→cmpQ (X + -vQ e m false s) (vQ e m false (s + 1) + -X)=-1∨cmpQ (X + -vQ e m false s) (vQ e m false (s + 1) + -X)=0∧s % 2=0):=by
 have hP:0 < 2^upl e m:=Nat.pow_pos (by decide)
 have hab:=vq_twice e m s (s + 1)
 unfold nup
 generalize 2^upl e m=P at *
 obtain ⟨D,hD⟩:∃ D,X.den=D:=⟨_,rfl⟩
 obtain ⟨U,hU⟩:∃ U,X.num.natAbs=U:=⟨_,rfl⟩
 have hD0:=X.den_pos
 have hX:X * (D:Rat)=(U:Rat):=by
  have h1:X * (X.den:Rat)=(X.num:Rat):=by
   have h2:=Rat.mkRat_self X
   rw [Rat.mkRat_eq_div] at h2
   have h3:(0:Rat) < (X.den:Rat):=by have:=X.den_pos;exact_mod_cast this
   rw [Rat.div_def] at h2
   have h4:X * (X.den:Rat)=(X.num:Rat) * (X.den:Rat)⁻¹ * (X.den:Rat):=congrArg (· * (X.den:Rat)) h2.symm
   rw [h4,Rat.mul_assoc,Rat.inv_mul_cancel _ (Rat.ne_of_gt h3),Rat.mul_one]
  rw [← hD,h1,show X.num=(U:Int) by omega]
  rfl
 rw [hD,hU]
 rw [hD] at hD0
 generalize un m s + un m (s + 1)=L at *
 generalize vQ e m false s=a at *
 generalize vQ e m false (s + 1)=b at *
 have hPr:(0:Rat) < (P:Rat):=by exact_mod_cast hP
 have hDr:(0:Rat) < (D:Rat):=by exact_mod_cast hD0
 have hab2:(a + b) * (P:Rat)=(L:Rat):=by
  rw [hab,Rat.mul_assoc,Rat.inv_mul_cancel _ (Rat.ne_of_gt hPr),Rat.mul_one]
 have hlt:(X + -a < b + -X) ↔ 2 * (U * P) < L * D:=by
  have h1:(X + -a < b + -X) ↔ (2 * X) * ((D:Rat) * P) < (a + b) * ((D:Rat) * P):=by
   rw [Rat.mul_lt_mul_right (Rat.mul_pos hDr hPr)]
   constructor <;> intro h <;> grind
  have h2:(2 * X) * ((D:Rat) * P)=((2 * (U * P):Nat):Rat):=by
   rw [show (2 * X) * ((D:Rat) * P)=2 * ((X * D) * P) by grind,hX]
   simp [Rat.natCast_mul]
  have h3:(a + b) * ((D:Rat) * P)=((L * D:Nat):Rat):=by
   rw [show (a + b) * ((D:Rat) * P)=((a + b) * P) * D by grind,hab2]
   simp [Rat.natCast_mul]
  rw [h1,h2,h3]
  exact_mod_cast Iff.rfl
 have hgt:(b + -X < X + -a) ↔ L * D < 2 * (U * P):=by
  have h1:(b + -X < X + -a) ↔ (a + b) * ((D:Rat) * P) < (2 * X) * ((D:Rat) * P):=by
   rw [Rat.mul_lt_mul_right (Rat.mul_pos hDr hPr)]
   constructor <;> intro h <;> grind
  have h2:(2 * X) * ((D:Rat) * P)=((2 * (U * P):Nat):Rat):=by
   rw [show (2 * X) * ((D:Rat) * P)=2 * ((X * D) * P) by grind,hX]
   simp [Rat.natCast_mul]
  have h3:(a + b) * ((D:Rat) * P)=((L * D:Nat):Rat):=by
   rw [show (a + b) * ((D:Rat) * P)=((a + b) * P) * D by grind,hab2]
   simp [Rat.natCast_mul]
  rw [h1,h2,h3]
  exact_mod_cast Iff.rfl
 unfold cmpQ
 by_cases h1:X + -a < b + -X
 · have h2:=hlt.1 h1
   rw [if_pos h1]
   refine ⟨fun h=>absurd (of_decide_eq_true h) (by omega),fun _=>Or.inl rfl⟩
 · rw [if_neg h1]
   by_cases h3:b + -X < X + -a
   · rw [if_pos h3]
     have h4:=hgt.1 h3
     refine ⟨fun _=>Or.inl rfl,fun h=>absurd (of_decide_eq_false h) (by omega)⟩
   · rw [if_neg h3]
     have h5:=mt hlt.2 h1
     have h6:=mt hgt.2 h3
     refine ⟨fun h=>Or.inr ⟨rfl,by have:=of_decide_eq_true h;omega⟩,fun h=>Or.inr ⟨rfl,by have:=of_decide_eq_false h;omega⟩⟩
theorem vq_top (e m:Nat) (he:2≤e) (hm:1≤m) (s:Nat) (hs:s + 1=inf e m):vQ e m false s + (vQ e m false s + -vQ e m false (s - 1))=vQ e m false (s + 1):=by
 have h1:=un_top e m he hm
 rw [← hs,Nat.add_sub_cancel,show s + 1 - 2=s - 1 by omega] at h1
 have h2:=vq_twice e m (s - 1) (s + 1)
 have h3:=vq_twice e m s s
 rw [h1,Nat.two_mul] at h2
 rw [← h3] at h2
 grind
section
variable {w W:World} {bx:List (Nat × TypeId × Array Value)} {l:List (Value × Nat)} {q r:List (Value × Rat)}
theorem Dq.addbox (h:Dq w bx l q r W) {b:Nat} {t:TypeId} {cs:Array Value} (hk:Blk W b t cs) (hl:w.heap.size≤b):Dq w ((b,t,cs) :: bx) l q r W :=
 ⟨h.bel,fun k b' t' cs' e=>by
  cases k with
  | zero =>
   simp only [List.getElem?_cons_zero,Option.some.injEq,Prod.mk.injEq] at e
   obtain ⟨rfl,rfl,rfl⟩:=e
   exact ⟨hk,hl⟩
  | succ k=>exact h.box k _ _ _ (by simpa using e),h.num,h.ref,h.rat⟩
theorem Dq.put3 {W8:World} {b:Nat} (V:Dq w bx l q r W8) (hb:Below W8.heap.size W8 W) (hb8:W8.heap.size≤b) {y:Bool} {p:Option Addr} {n c:Nat} {p':Option Addr} {n' c':Nat} {x:Rat} {cs:Array Value}
 (hk:Blk (set3 W b (.bool y) (.slice p n c) (.slice p' n' c')) b 34 cs) (hq:GaveQ x w (.returned (.agg #[.bool y,.slice p n c,.slice p' n' c'])) (set3 W b (.bool y) (.slice p n c) (.slice p' n' c'))) :
 Dq w ((b,34,cs) :: bx) l ((.agg #[.bool y,.slice p n c,.slice p' n' c'],x) :: q) r (set3 W b (.bool y) (.slice p n c) (.slice p' n' c')):=by
 obtain ⟨v,hv,h1,-⟩:=hq
 injection hv with hv
 subst hv
 exact ((V.below (below_set3 hb hb8 _ _ _)).qcons h1).addbox hk (Nat.le_trans V.bel.size hb8)
end
set_option maxRecDepth 100000 in
set_option maxHeartbeats 8000000 in
theorem rnear_up (e m:Nat) (he:2≤e) (he2:e≤8) (hm:1≤m) (hm2:m≤52) (X:Rat) (va:Value) (w:World) (ha:RQ w va X) (hx:SzD 20 X) (s:Nat) (hS:Spot m (inf e m) (X.num.natAbs * 2^upl e m / X.den) s) (hn:¬ X.num < 0) (ht:s + 1 < inf e m) :
 Calls Tryz.prog 43 #[.int .i64 (e:Int),.int .i64 (m:Int),va] w fun E w'=>E=.returned (.int .u64 ((if nup m s (X.num.natAbs * 2^upl e m) X.den=true then s + 1 else s:Nat):Int))∧Below w.heap.size w w':=by
 have hi:=inf_lt e m
 have h60:2^(e + m)≤2^60:=Nat.pow_le_pow_right (by decide) (by omega)
 have hs:=hS.1
 obtain ⟨n1,n2,-⟩:=neg_num X
 have HTop:=Lib.hid (fun W=>rtop_any e m he hm (by omega) W)
 have HDec:∀ k:Nat,k < inf e m→Hid (∀ W,Calls Tryz.prog 92 #[.int .i64 (e:Int),.int .i64 (m:Int),.int .u64 (k:Int)] W (RdIs 1 (vQ e m false k) W)):=fun k hk=>Lib.hid (fun W=>by
  have h1:=ptn_kd e m k false hk
  have h2:=ptn_nm e m k false hk
  rw [ptn_pos] at h1 h2
  have:=rdec_any e m k he (by omega) hm hm2 (by omega) W
  rwa [h1,h2] at this)
 have HMi:Hid (∀ W v,RQ W v X→Calls Tryz.prog 95 #[v] W (GaveQ (-X) W)):=Lib.hid (fun W v h=>rminus_any X v W h (hx.mono (by omega)))
 have HCmp:∀ (x y:Rat),SzD 100 x→SzD 100 y→Hid (∀ W va vb,RQ W va x→RQ W vb y→Calls Tryz.prog 93 #[va,vb] W fun E w'=>E=.returned (.int .i64 (cmpQ x y))∧Below W.heap.size W w'):=fun x y h1 h2=>Lib.hid (fun W va vb ha hb=>rratcmp_any x y va vb W ha hb h1 h2)
 have hqd:∀ (t:Nat) (z:Bool),t < 2^(e + m)→SzD 100 (vQ e m z t):=fun t z ht=>(vq_szd e m t z he2 hm2 ht).mono (by omega)
 have HUn:Hid (∀ W v,RQ W v X→Calls Tryz.prog 94 #[.int .i64 (e:Int),.int .i64 (m:Int),v] W fun E w'=>E=.returned (.int .u64 (s:Int))∧Below W.heap.size W w'):=Lib.hid (fun W v h=>run_any e m he he2 hm hm2 X v W h (hx.mono (by omega)) hn s hS)
 have hup1:s + 1 < 2^(e + m):=by omega
 have HDv:=HDec s hs
 have sA:=hqd s false (by omega)
 have sB:=hqd (s + 1) false (by omega)
 have sA30:=vq_szd e m s false he2 hm2 (by omega)
 have sB30:=vq_szd e m (s + 1) false he2 hm2 (by omega)
 have hcc:=near_cmp e m s X hn
 have HMa:Hid (∀ W v,RQ W v (vQ e m false s)→Calls Tryz.prog 95 #[v] W (GaveQ (-vQ e m false s) W)):=Lib.hid (fun W v h=>rminus_any _ v W h (sA.mono (by omega)))
 have HAx:Hid (∀ W va vb,RQ W va X→RQ W vb (-vQ e m false s)→Calls Tryz.prog 98 #[va,vb] W (GaveQ (X + -vQ e m false s) W)):=Lib.hid (fun W va vb h1 h2=>rratadd_any _ _ va vb W h1 h2 (hx.mono (by omega)) (szd_neg sA))
 have HBx:Hid (∀ W va vb,RQ W va (vQ e m false (s + 1))→RQ W vb (-X)→Calls Tryz.prog 98 #[va,vb] W (GaveQ (vQ e m false (s + 1) + -X) W)):=Lib.hid (fun W va vb h1 h2=>rratadd_any _ _ va vb W h1 h2 sB ((szd_neg hx).mono (by omega)))
 have HCc:=HCmp (X + -vQ e m false s) (vQ e m false (s + 1) + -X) ((szd_add hx (szd_neg sA30)).mono (by omega)) ((szd_add sB30 (szd_neg hx)).mono (by omega))
 have HDb:=HDec (s + 1) ht
 have hst:((s + 1:Nat):Int)=(s:Int) + 1:=by omega
 rw [hst] at HDb
 obtain ⟨XA,hXA⟩:∃ x,X + -vQ e m false s=x:=⟨_,rfl⟩
 obtain ⟨BX,hBX⟩:∃ x,vQ e m false (s + 1) + -X=x:=⟨_,rfl⟩
 rw [hXA] at HAx HCc hcc
 rw [hBX] at HBx HCc hcc
 obtain ⟨MA,hMA⟩:∃ x,-vQ e m false s=x:=⟨_,rfl⟩
 rw [hMA] at HMa HAx
 obtain ⟨MX,hMX⟩:∃ x,-X=x:=⟨_,rfl⟩
 rw [hMX] at HMi HBx
 obtain ⟨A,hA⟩:∃ x,vQ e m false s=x:=⟨_,rfl⟩
 obtain ⟨B,hB⟩:∃ x,vQ e m false (s + 1)=x:=⟨_,rfl⟩
 rw [hA] at HDv HMa
 rw [hB] at HBx HDb
 obtain ⟨CC,hCC⟩:∃ x,cmpQ XA BX=x:=⟨_,rfl⟩
 rw [hCC] at HCc hcc
 obtain ⟨NU,hNU⟩:∃ x,nup m s (X.num.natAbs * 2^upl e m) X.den=x:=⟨_,rfl⟩
 rw [hNU] at hcc ⊢
 have hR:=ha
 obtain ⟨pr,nr,cr,pr',nr',cr',rfl,-,-⟩:=ha
 rw [decide_eq_false hn] at hR ⊢
 have V0:=((Dq.refl w).qcons hR).alloc 34 #[.bool false,.slice pr nr cr,.slice pr' nr' cr']
 have hsI:((if NU=true then s + 1 else s:Nat):Int)=if NU=true then (s:Int) + 1 else (s:Int):=by cases NU <;> rfl
 rw [hsI]
 obtain ⟨SI,hSI⟩:∃ x:Int,(s:Int)=x:=⟨_,rfl⟩
 rw [hSI] at HUn HDv HDb ⊢
 obtain ⟨TI,hTI⟩:∃ x:Int,((inf e m - 1:Nat):Int)=x:=⟨_,rfl⟩
 rw [hTI] at HTop
 have k0:0≤SI∧SI < 1152921504606846976:=by omega
 have g2:(SI == TI)=false:=by simp;omega
 have Hcc:Hid ((NU=true→CC=1∨CC=0∧SI % 2=1)∧(NU=false→CC=-1∨CC=0∧SI % 2=0)):=Lib.hid (by
  refine ⟨fun h=>?_,fun h=>?_⟩
  · rcases hcc.1 h with h | h
    · exact Or.inl h
    · exact Or.inr ⟨h.1,by omega⟩
  · rcases hcc.2 h with h | h
    · exact Or.inl h
    · exact Or.inr ⟨h.1,by omega⟩)
 clear hR hx hn hS hcc hsI HDec HCmp hqd n1 n2 hi h60 hs hSI hTI ht hup1 sA sB sA30 sB30 hst hXA hBX hMA hMX hA hB hCC hNU
 go_enter Tryz.func43,Tryz.ntmps43
 have a0:=V0.c0 0 rfl;have a1:=V0.c1 0 rfl;have a2:=V0.c2 0 rfl
 go_wp2_with fail
 refine (HUn.out _ _ (V0.ref 0 _ _ rfl)).mono ?_
 rintro E w2 ⟨rfl,hb⟩
 have V2:=V0.below hb
 clear V0 hb HUn a0 a1 a2
 go_wp2_with fail
 refine (HDv.out _).mono ?_
 rintro E wv ⟨v,rfl,hr,hb⟩
 have V3':=(V2.below hb).qcons hr
 obtain ⟨pv,nv,cv,pv',nv',cv',rfl,-,-⟩:=hr
 obtain ⟨zv,hz⟩:∃ z,decide ((A).num < 0)=z:=⟨_,rfl⟩
 rw [hz] at V3' ⊢
 have V3:=V3'.alloc 34 #[.bool zv,.slice pv nv cv,.slice pv' nv' cv']
 have V4:=V3'.two 34 34 #[.bool zv,.slice pv nv cv,.slice pv' nv' cv'] #[.bool false,.slice none 0 0,.slice none 0 0]
 clear V2 V3' hb hz HDv
 have U4:=(Dq.refl (wv.alloc (.cells #[.bool zv,.slice pv nv cv,.slice pv' nv' cv'] 34))).alloc 34 #[.bool false,.slice none 0 0,.slice none 0 0]
 have hb8:(wv.alloc (.cells #[.bool zv,.slice pv nv cv,.slice pv' nv' cv'] 34)).heap.size≤wv.heap.size + 1:=Nat.le_of_eq (World.size_alloc _ _)
 go_wp2_with fail
 refine (HTop.out _).mono ?_
 rintro E w5 ⟨rfl,hb⟩
 have hz5:=hb.size
 rw [World.size_alloc,World.size_alloc] at hz5
 have V5:=V4.below hb
 have U5:=U4.below hb
 clear V4 U4 hb HTop hz5
 go_wp2_with fail
 refine (HDb.out _).mono ?_
 rintro E wb ⟨v,rfl,hr,hb⟩
 have V6':=(V5.below hb).qcons hr
 have U6:=U5.below hb
 obtain ⟨pb,nb,cb,pb',nb',cb',rfl,-,-⟩:=hr
 obtain ⟨zb,hz⟩:∃ z,decide (B.num < 0)=z:=⟨_,rfl⟩
 rw [hz] at V6' ⊢
 have V6:=V6'
 clear V5 U5 V6' hb hz HDb
 have V7:=V3.put3 U6.bel hb8 (V6.finq 0 0 rfl rfl).1 (V6.finq 0 0 rfl rfl).2
 have r0:=V6.c0 0 rfl;have r1:=V6.c1 0 rfl;have r2:=V6.c2 0 rfl
 have f0:=V6.frozen 0 0 rfl;have f1:=V6.frozen 0 1 rfl;have f2:=V6.frozen 0 2 rfl
 clear V6 U6 V3 hb8
 go_wp2_with fail
 clear r0 r1 r2 f0 f1 f2
 have V7d:=V7.drew
 clear V7
 refine wp_region_held_drew (S:=(fun W=>(W.cell? ⟨wv.heap.size + 1,0,none⟩=some (.bool zb)∧W.cell? ⟨wv.heap.size + 1,1,none⟩=some (.slice pb nb cb)∧W.cell? ⟨wv.heap.size + 1,2,none⟩=some (.slice pb' nb' cb'))∧(W.cell? ⟨wv.heap.size,0,none⟩=some (.bool zv)∧W.cell? ⟨wv.heap.size,1,none⟩=some (.slice pv nv cv)∧W.cell? ⟨wv.heap.size,2,none⟩=some (.slice pv' nv' cv'))∧(W.cell? ⟨w.heap.size,0,none⟩=some (.bool false)∧W.cell? ⟨w.heap.size,1,none⟩=some (.slice pr nr cr)∧W.cell? ⟨w.heap.size,2,none⟩=some (.slice pr' nr' cr')))) (by kernel_rfl) ?_ (fun hHeld=>?_)
 · exact ⟨⟨V7d.c0 0 rfl,V7d.c1 0 rfl,V7d.c2 0 rfl⟩,⟨V7d.c0 1 rfl,V7d.c1 1 rfl,V7d.c2 1 rfl⟩,⟨V7d.c0 2 rfl,V7d.c1 2 rfl,V7d.c2 2 rfl⟩⟩
 refine tkH (i:=0) (v:=?_) rfl (by kernel_rfl) (fun _ _ _ h=>h) (Or.inl ⟨by rfl,?_⟩) (by assumption) ?_
 rotate_left
 · intro w hSw;(try dsimp only at hSw);go_simp;(try with_reducible rfl)
 try simp only [las]
 refine tkH (i:=1) (v:=?_) rfl (by kernel_rfl) (fun _ _ _ h=>h) (Or.inl ⟨by rfl,?_⟩) (by assumption) ?_
 rotate_left
 · intro w hSw;(try dsimp only at hSw);go_simp;(try with_reducible rfl)
 try simp only [las]
 refine tkH (i:=4) (v:=?_) rfl (by kernel_rfl) (fun _ _ _ h=>h) (Or.inl ⟨by rfl,?_⟩) (by assumption) ?_
 rotate_left
 · intro w hSw;(try dsimp only at hSw);go_simp;(try with_reducible rfl)
 try simp only [las]
 refine tkH (i:=5) (v:=?_) rfl (by kernel_rfl) (fun _ _ _ h=>h) (Or.inl ⟨by rfl,?_⟩) (by assumption) ?_
 rotate_left
 · intro w hSw;(try dsimp only at hSw);go_simp;(try with_reducible rfl)
 try simp only [las]
 refine wpAnyH_ready (rs:=[2]) (by kernel_rfl) (by simp) ?_
 refine AllReadyH.cons (o:=_) rfl (fun K hK=>?_) AllReadyH.nil
 go_simp
 go_at_call 95;refine (HMa.out _ _ (V7d.ref 1 _ _ rfl)).mono ?_;rintro E wa ⟨va,rfl,hr,hb⟩;have Va:=(V7d.below hb).qcons hr;clear hr hb
 refine hK.out _ _ ?_ (fun hHeld=>?_)
 · first | exact ⟨⟨Ve.c0 0 rfl,Ve.c1 0 rfl,Ve.c2 0 rfl⟩,⟨Ve.c0 1 rfl,Ve.c1 1 rfl,Ve.c2 1 rfl⟩,⟨Ve.c0 2 rfl,Ve.c1 2 rfl,Ve.c2 2 rfl⟩⟩ | exact ⟨⟨Vd.c0 0 rfl,Vd.c1 0 rfl,Vd.c2 0 rfl⟩,⟨Vd.c0 1 rfl,Vd.c1 1 rfl,Vd.c2 1 rfl⟩,⟨Vd.c0 2 rfl,Vd.c1 2 rfl,Vd.c2 2 rfl⟩⟩ | exact ⟨⟨Vc.c0 0 rfl,Vc.c1 0 rfl,Vc.c2 0 rfl⟩,⟨Vc.c0 1 rfl,Vc.c1 1 rfl,Vc.c2 1 rfl⟩,⟨Vc.c0 2 rfl,Vc.c1 2 rfl,Vc.c2 2 rfl⟩⟩ | exact ⟨⟨Vb.c0 0 rfl,Vb.c1 0 rfl,Vb.c2 0 rfl⟩,⟨Vb.c0 1 rfl,Vb.c1 1 rfl,Vb.c2 1 rfl⟩,⟨Vb.c0 2 rfl,Vb.c1 2 rfl,Vb.c2 2 rfl⟩⟩ | exact ⟨⟨Va.c0 0 rfl,Va.c1 0 rfl,Va.c2 0 rfl⟩,⟨Va.c0 1 rfl,Va.c1 1 rfl,Va.c2 1 rfl⟩,⟨Va.c0 2 rfl,Va.c1 2 rfl,Va.c2 2 rfl⟩⟩
 clear hK K
 try simp only [las]
 refine wpAnyH_ready (rs:=[3]) (by kernel_rfl) (by simp) ?_
 refine AllReadyH.cons (o:=_) rfl (fun K hK=>?_) AllReadyH.nil
 go_simp
 go_at_call 98;refine (HAx.out _ _ _ (Va.ref 3 _ _ rfl) (Va.ref 0 _ _ rfl)).mono ?_;rintro E wb ⟨vb,rfl,hr,hb⟩;have Vb:=(Va.below hb).qcons hr;clear hr hb Va
 refine hK.out _ _ ?_ (fun hHeld=>?_)
 · first | exact ⟨⟨Ve.c0 0 rfl,Ve.c1 0 rfl,Ve.c2 0 rfl⟩,⟨Ve.c0 1 rfl,Ve.c1 1 rfl,Ve.c2 1 rfl⟩,⟨Ve.c0 2 rfl,Ve.c1 2 rfl,Ve.c2 2 rfl⟩⟩ | exact ⟨⟨Vd.c0 0 rfl,Vd.c1 0 rfl,Vd.c2 0 rfl⟩,⟨Vd.c0 1 rfl,Vd.c1 1 rfl,Vd.c2 1 rfl⟩,⟨Vd.c0 2 rfl,Vd.c1 2 rfl,Vd.c2 2 rfl⟩⟩ | exact ⟨⟨Vc.c0 0 rfl,Vc.c1 0 rfl,Vc.c2 0 rfl⟩,⟨Vc.c0 1 rfl,Vc.c1 1 rfl,Vc.c2 1 rfl⟩,⟨Vc.c0 2 rfl,Vc.c1 2 rfl,Vc.c2 2 rfl⟩⟩ | exact ⟨⟨Vb.c0 0 rfl,Vb.c1 0 rfl,Vb.c2 0 rfl⟩,⟨Vb.c0 1 rfl,Vb.c1 1 rfl,Vb.c2 1 rfl⟩,⟨Vb.c0 2 rfl,Vb.c1 2 rfl,Vb.c2 2 rfl⟩⟩ | exact ⟨⟨Va.c0 0 rfl,Va.c1 0 rfl,Va.c2 0 rfl⟩,⟨Va.c0 1 rfl,Va.c1 1 rfl,Va.c2 1 rfl⟩,⟨Va.c0 2 rfl,Va.c1 2 rfl,Va.c2 2 rfl⟩⟩
 clear hK K
 try simp only [las]
 refine wpAnyH_ready (rs:=[6]) (by kernel_rfl) (by simp) ?_
 refine AllReadyH.cons (o:=_) rfl (fun K hK=>?_) AllReadyH.nil
 go_simp
 go_at_call 95;refine (HMi.out _ _ (Vb.ref 4 _ _ rfl)).mono ?_;rintro E wc ⟨vc,rfl,hr,hb⟩;have Vc:=(Vb.below hb).qcons hr;clear hr hb Vb
 refine hK.out _ _ ?_ (fun hHeld=>?_)
 · first | exact ⟨⟨Ve.c0 0 rfl,Ve.c1 0 rfl,Ve.c2 0 rfl⟩,⟨Ve.c0 1 rfl,Ve.c1 1 rfl,Ve.c2 1 rfl⟩,⟨Ve.c0 2 rfl,Ve.c1 2 rfl,Ve.c2 2 rfl⟩⟩ | exact ⟨⟨Vd.c0 0 rfl,Vd.c1 0 rfl,Vd.c2 0 rfl⟩,⟨Vd.c0 1 rfl,Vd.c1 1 rfl,Vd.c2 1 rfl⟩,⟨Vd.c0 2 rfl,Vd.c1 2 rfl,Vd.c2 2 rfl⟩⟩ | exact ⟨⟨Vc.c0 0 rfl,Vc.c1 0 rfl,Vc.c2 0 rfl⟩,⟨Vc.c0 1 rfl,Vc.c1 1 rfl,Vc.c2 1 rfl⟩,⟨Vc.c0 2 rfl,Vc.c1 2 rfl,Vc.c2 2 rfl⟩⟩ | exact ⟨⟨Vb.c0 0 rfl,Vb.c1 0 rfl,Vb.c2 0 rfl⟩,⟨Vb.c0 1 rfl,Vb.c1 1 rfl,Vb.c2 1 rfl⟩,⟨Vb.c0 2 rfl,Vb.c1 2 rfl,Vb.c2 2 rfl⟩⟩ | exact ⟨⟨Va.c0 0 rfl,Va.c1 0 rfl,Va.c2 0 rfl⟩,⟨Va.c0 1 rfl,Va.c1 1 rfl,Va.c2 1 rfl⟩,⟨Va.c0 2 rfl,Va.c1 2 rfl,Va.c2 2 rfl⟩⟩
 clear hK K
 try simp only [las]
 refine wpAnyH_ready (rs:=[7]) (by kernel_rfl) (by simp) ?_
 refine AllReadyH.cons (o:=_) rfl (fun K hK=>?_) AllReadyH.nil
 go_simp
 go_at_call 98;refine (HBx.out _ _ _ (Vc.ref 3 _ _ rfl) (Vc.ref 0 _ _ rfl)).mono ?_;rintro E wd ⟨vd,rfl,hr,hb⟩;have Vd:=(Vc.below hb).qcons hr;clear hr hb Vc
 refine hK.out _ _ ?_ (fun hHeld=>?_)
 · first | exact ⟨⟨Ve.c0 0 rfl,Ve.c1 0 rfl,Ve.c2 0 rfl⟩,⟨Ve.c0 1 rfl,Ve.c1 1 rfl,Ve.c2 1 rfl⟩,⟨Ve.c0 2 rfl,Ve.c1 2 rfl,Ve.c2 2 rfl⟩⟩ | exact ⟨⟨Vd.c0 0 rfl,Vd.c1 0 rfl,Vd.c2 0 rfl⟩,⟨Vd.c0 1 rfl,Vd.c1 1 rfl,Vd.c2 1 rfl⟩,⟨Vd.c0 2 rfl,Vd.c1 2 rfl,Vd.c2 2 rfl⟩⟩ | exact ⟨⟨Vc.c0 0 rfl,Vc.c1 0 rfl,Vc.c2 0 rfl⟩,⟨Vc.c0 1 rfl,Vc.c1 1 rfl,Vc.c2 1 rfl⟩,⟨Vc.c0 2 rfl,Vc.c1 2 rfl,Vc.c2 2 rfl⟩⟩ | exact ⟨⟨Vb.c0 0 rfl,Vb.c1 0 rfl,Vb.c2 0 rfl⟩,⟨Vb.c0 1 rfl,Vb.c1 1 rfl,Vb.c2 1 rfl⟩,⟨Vb.c0 2 rfl,Vb.c1 2 rfl,Vb.c2 2 rfl⟩⟩ | exact ⟨⟨Va.c0 0 rfl,Va.c1 0 rfl,Va.c2 0 rfl⟩,⟨Va.c0 1 rfl,Va.c1 1 rfl,Va.c2 1 rfl⟩,⟨Va.c0 2 rfl,Va.c1 2 rfl,Va.c2 2 rfl⟩⟩
 clear hK K
 try simp only [las]
 refine wpAnyH_ready (rs:=[8]) (by kernel_rfl) (by simp) ?_
 refine AllReadyH.cons (o:=_) rfl (fun K hK=>?_) AllReadyH.nil
 go_simp
 go_at_call 93;refine (HCc.out _ _ _ (Vd.ref 2 _ _ rfl) (Vd.ref 0 _ _ rfl)).mono ?_;rintro E we ⟨rfl,hb⟩;have Ve:=Vd.below hb;clear hb Vd
 refine hK.out _ _ ?_ (fun hHeld=>?_)
 · first | exact ⟨⟨Ve.c0 0 rfl,Ve.c1 0 rfl,Ve.c2 0 rfl⟩,⟨Ve.c0 1 rfl,Ve.c1 1 rfl,Ve.c2 1 rfl⟩,⟨Ve.c0 2 rfl,Ve.c1 2 rfl,Ve.c2 2 rfl⟩⟩ | exact ⟨⟨Vd.c0 0 rfl,Vd.c1 0 rfl,Vd.c2 0 rfl⟩,⟨Vd.c0 1 rfl,Vd.c1 1 rfl,Vd.c2 1 rfl⟩,⟨Vd.c0 2 rfl,Vd.c1 2 rfl,Vd.c2 2 rfl⟩⟩ | exact ⟨⟨Vc.c0 0 rfl,Vc.c1 0 rfl,Vc.c2 0 rfl⟩,⟨Vc.c0 1 rfl,Vc.c1 1 rfl,Vc.c2 1 rfl⟩,⟨Vc.c0 2 rfl,Vc.c1 2 rfl,Vc.c2 2 rfl⟩⟩ | exact ⟨⟨Vb.c0 0 rfl,Vb.c1 0 rfl,Vb.c2 0 rfl⟩,⟨Vb.c0 1 rfl,Vb.c1 1 rfl,Vb.c2 1 rfl⟩,⟨Vb.c0 2 rfl,Vb.c1 2 rfl,Vb.c2 2 rfl⟩⟩ | exact ⟨⟨Va.c0 0 rfl,Va.c1 0 rfl,Va.c2 0 rfl⟩,⟨Va.c0 1 rfl,Va.c1 1 rfl,Va.c2 1 rfl⟩,⟨Va.c0 2 rfl,Va.c1 2 rfl,Va.c2 2 rfl⟩⟩
 clear hK K
 try simp only [las]
 refine tkH (i:=9) (v:=?_) rfl (by kernel_rfl) (fun _ _ _ h=>h) (Or.inl ⟨by rfl,?_⟩) (by assumption) ?_
 rotate_left
 · intro w hSw;(try dsimp only at hSw);go_simp;(try with_reducible rfl)
 try simp only [las]
 refine wpAnyH_done (by kernel_rfl) ?_ _
 have HB:=Lib.hid Ve.bel
 clear V7d Ve HMa HAx HMi HBx HCc
 cases NU with
 | true =>
  rcases Hcc.out.1 rfl with rfl | ⟨rfl,hp⟩
  · clear Hcc
    go_wp2_with fail
    go_ret
    exact ⟨rfl,HB.out⟩
  · clear Hcc
    have g5:(SI % 2 == 0)=false:=by rw [hp];rfl
    have g6:SI.tmod 2=1:=by rw [Int.tmod_eq_emod_of_nonneg (by omega)];exact hp
    go_wp2_with fail
    go_ret
    exact ⟨rfl,HB.out⟩
 | false =>
  rcases Hcc.out.2 rfl with rfl | ⟨rfl,hp⟩
  · clear Hcc
    go_wp2_with fail
    go_ret
    exact ⟨rfl,HB.out⟩
  · clear Hcc
    have g6:SI.tmod 2=0:=by rw [Int.tmod_eq_emod_of_nonneg (by omega)];exact hp
    go_wp2_with fail
    go_ret
    exact ⟨rfl,HB.out⟩
set_option maxRecDepth 100000 in
set_option maxHeartbeats 8000000 in
theorem rnear_top (e m:Nat) (he:2≤e) (he2:e≤8) (hm:1≤m) (hm2:m≤52) (X:Rat) (va:Value) (w:World) (ha:RQ w va X) (hx:SzD 20 X) (s:Nat) (hS:Spot m (inf e m) (X.num.natAbs * 2^upl e m / X.den) s) (hn:¬ X.num < 0) (ht:s + 1=inf e m) :
 Calls Tryz.prog 43 #[.int .i64 (e:Int),.int .i64 (m:Int),va] w fun E w'=>E=.returned (.int .u64 ((if nup m s (X.num.natAbs * 2^upl e m) X.den=true then s + 1 else s:Nat):Int))∧Below w.heap.size w w':=by
 have hi:=inf_lt e m
 have h60:2^(e + m)≤2^60:=Nat.pow_le_pow_right (by decide) (by omega)
 have hs:=hS.1
 obtain ⟨n1,n2,-⟩:=neg_num X
 have HTop:=Lib.hid (fun W=>rtop_any e m he hm (by omega) W)
 have HDec:∀ k:Nat,k < inf e m→Hid (∀ W,Calls Tryz.prog 92 #[.int .i64 (e:Int),.int .i64 (m:Int),.int .u64 (k:Int)] W (RdIs 1 (vQ e m false k) W)):=fun k hk=>Lib.hid (fun W=>by
  have h1:=ptn_kd e m k false hk
  have h2:=ptn_nm e m k false hk
  rw [ptn_pos] at h1 h2
  have:=rdec_any e m k he (by omega) hm hm2 (by omega) W
  rwa [h1,h2] at this)
 have HMi:Hid (∀ W v,RQ W v X→Calls Tryz.prog 95 #[v] W (GaveQ (-X) W)):=Lib.hid (fun W v h=>rminus_any X v W h (hx.mono (by omega)))
 have HCmp:∀ (x y:Rat),SzD 100 x→SzD 100 y→Hid (∀ W va vb,RQ W va x→RQ W vb y→Calls Tryz.prog 93 #[va,vb] W fun E w'=>E=.returned (.int .i64 (cmpQ x y))∧Below W.heap.size W w'):=fun x y h1 h2=>Lib.hid (fun W va vb ha hb=>rratcmp_any x y va vb W ha hb h1 h2)
 have hqd:∀ (t:Nat) (z:Bool),t < 2^(e + m)→SzD 100 (vQ e m z t):=fun t z ht=>(vq_szd e m t z he2 hm2 ht).mono (by omega)
 have HUn:Hid (∀ W v,RQ W v X→Calls Tryz.prog 94 #[.int .i64 (e:Int),.int .i64 (m:Int),v] W fun E w'=>E=.returned (.int .u64 (s:Int))∧Below W.heap.size W w'):=Lib.hid (fun W v h=>run_any e m he he2 hm hm2 X v W h (hx.mono (by omega)) hn s hS)
 have hup1:s + 1 < 2^(e + m):=by omega
 have HDv:=HDec s hs
 have sA:=hqd s false (by omega)
 have sB:=hqd (s + 1) false (by omega)
 have sA30:=vq_szd e m s false he2 hm2 (by omega)
 have sB30:=vq_szd e m (s + 1) false he2 hm2 (by omega)
 have hcc:=near_cmp e m s X hn
 have HMa:Hid (∀ W v,RQ W v (vQ e m false s)→Calls Tryz.prog 95 #[v] W (GaveQ (-vQ e m false s) W)):=Lib.hid (fun W v h=>rminus_any _ v W h (sA.mono (by omega)))
 have HAx:Hid (∀ W va vb,RQ W va X→RQ W vb (-vQ e m false s)→Calls Tryz.prog 98 #[va,vb] W (GaveQ (X + -vQ e m false s) W)):=Lib.hid (fun W va vb h1 h2=>rratadd_any _ _ va vb W h1 h2 (hx.mono (by omega)) (szd_neg sA))
 have HBx:Hid (∀ W va vb,RQ W va (vQ e m false (s + 1))→RQ W vb (-X)→Calls Tryz.prog 98 #[va,vb] W (GaveQ (vQ e m false (s + 1) + -X) W)):=Lib.hid (fun W va vb h1 h2=>rratadd_any _ _ va vb W h1 h2 sB ((szd_neg hx).mono (by omega)))
 have HCc:=HCmp (X + -vQ e m false s) (vQ e m false (s + 1) + -X) ((szd_add hx (szd_neg sA30)).mono (by omega)) ((szd_add sB30 (szd_neg hx)).mono (by omega))
 have hs1:1≤s:=by
  have h1:2^2≤2^e:=Nat.pow_le_pow_right (by decide) he
  have h2:2^1≤2^m:=Nat.pow_le_pow_right (by decide) hm
  have h3:=inf_parts e m
  have h4:2^m * 3≤2^m * (2^e - 1):=Nat.mul_le_mul_left _ (by omega)
  omega
 have HDk:=HDec (s - 1) (by omega)
 have sK:=vq_szd e m (s - 1) false he2 hm2 (by omega)
 have hst:((s - 1:Nat):Int)=(s:Int) - 1:=by omega
 rw [hst] at HDk
 have HMk:Hid (∀ W v,RQ W v (vQ e m false (s - 1))→Calls Tryz.prog 95 #[v] W (GaveQ (-vQ e m false (s - 1)) W)):=Lib.hid (fun W v h=>rminus_any _ v W h (sK.mono (by omega)))
 have HAk:Hid (∀ W va vb,RQ W va (vQ e m false s)→RQ W vb (-vQ e m false (s - 1))→Calls Tryz.prog 98 #[va,vb] W (GaveQ (vQ e m false s + -vQ e m false (s - 1)) W)):=Lib.hid (fun W va vb h1 h2=>rratadd_any _ _ va vb W h1 h2 sA ((szd_neg sK).mono (by omega)))
 have HAA:Hid (∀ W va vb,RQ W va (vQ e m false s)→RQ W vb (vQ e m false s + -vQ e m false (s - 1))→Calls Tryz.prog 98 #[va,vb] W (GaveQ (vQ e m false (s + 1)) W)):=Lib.hid (fun W va vb h1 h2=>by
  have:=rratadd_any _ _ va vb W h1 h2 sA ((szd_add sA30 (szd_neg sK)).mono (by omega))
  rwa [vq_top e m he hm s ht] at this)
 obtain ⟨K,hK⟩:∃ x,vQ e m false (s - 1)=x:=⟨_,rfl⟩
 obtain ⟨MK,hMK⟩:∃ x,-vQ e m false (s - 1)=x:=⟨_,rfl⟩
 obtain ⟨AK,hAK⟩:∃ x,vQ e m false s + -vQ e m false (s - 1)=x:=⟨_,rfl⟩
 rw [hAK] at HAk HAA
 rw [hMK] at HMk HAk
 rw [hK] at HDk HMk
 obtain ⟨XA,hXA⟩:∃ x,X + -vQ e m false s=x:=⟨_,rfl⟩
 obtain ⟨BX,hBX⟩:∃ x,vQ e m false (s + 1) + -X=x:=⟨_,rfl⟩
 rw [hXA] at HAx HCc hcc
 rw [hBX] at HBx HCc hcc
 obtain ⟨MA,hMA⟩:∃ x,-vQ e m false s=x:=⟨_,rfl⟩
 rw [hMA] at HMa HAx
 obtain ⟨MX,hMX⟩:∃ x,-X=x:=⟨_,rfl⟩
 rw [hMX] at HMi HBx
 obtain ⟨A,hA⟩:∃ x,vQ e m false s=x:=⟨_,rfl⟩
 obtain ⟨B,hB⟩:∃ x,vQ e m false (s + 1)=x:=⟨_,rfl⟩
 rw [hA] at HDv HMa HAk HAA
 rw [hB] at HBx HAA
 obtain ⟨CC,hCC⟩:∃ x,cmpQ XA BX=x:=⟨_,rfl⟩
 rw [hCC] at HCc hcc
 obtain ⟨NU,hNU⟩:∃ x,nup m s (X.num.natAbs * 2^upl e m) X.den=x:=⟨_,rfl⟩
 rw [hNU] at hcc ⊢
 have hR:=ha
 obtain ⟨pr,nr,cr,pr',nr',cr',rfl,-,-⟩:=ha
 rw [decide_eq_false hn] at hR ⊢
 have V0:=((Dq.refl w).qcons hR).alloc 34 #[.bool false,.slice pr nr cr,.slice pr' nr' cr']
 have hsI:((if NU=true then s + 1 else s:Nat):Int)=if NU=true then (s:Int) + 1 else (s:Int):=by cases NU <;> rfl
 rw [hsI]
 obtain ⟨SI,hSI⟩:∃ x:Int,(s:Int)=x:=⟨_,rfl⟩
 rw [hSI] at HUn HDv HDk ⊢
 obtain ⟨TI,hTI⟩:∃ x:Int,((inf e m - 1:Nat):Int)=x:=⟨_,rfl⟩
 rw [hTI] at HTop
 have k0:1≤SI∧SI < 1152921504606846976:=by omega
 have g2:(SI == TI)=true:=by simp;omega
 have Hcc:Hid ((NU=true→CC=1∨CC=0∧SI % 2=1)∧(NU=false→CC=-1∨CC=0∧SI % 2=0)):=Lib.hid (by
  refine ⟨fun h=>?_,fun h=>?_⟩
  · rcases hcc.1 h with h | h
    · exact Or.inl h
    · exact Or.inr ⟨h.1,by omega⟩
  · rcases hcc.2 h with h | h
    · exact Or.inl h
    · exact Or.inr ⟨h.1,by omega⟩)
 clear hR hx hn hS hcc hsI HDec HCmp hqd n1 n2 hi h60 hs hSI hTI ht hup1 sA sB sA30 sB30 hst hXA hBX hMA hMX hA hB hCC hNU hs1 sK hK hMK hAK
 go_enter Tryz.func43,Tryz.ntmps43
 have a0:=V0.c0 0 rfl;have a1:=V0.c1 0 rfl;have a2:=V0.c2 0 rfl
 go_wp2_with fail
 refine (HUn.out _ _ (V0.ref 0 _ _ rfl)).mono ?_
 rintro E w2 ⟨rfl,hb⟩
 have V2:=V0.below hb
 clear V0 hb HUn a0 a1 a2
 go_wp2_with fail
 refine (HDv.out _).mono ?_
 rintro E wv ⟨v,rfl,hr,hb⟩
 have V3':=(V2.below hb).qcons hr
 obtain ⟨pv,nv,cv,pv',nv',cv',rfl,-,-⟩:=hr
 obtain ⟨zv,hz⟩:∃ z,decide ((A).num < 0)=z:=⟨_,rfl⟩
 rw [hz] at V3' ⊢
 have V3:=V3'.alloc 34 #[.bool zv,.slice pv nv cv,.slice pv' nv' cv']
 have V4:=V3'.two 34 34 #[.bool zv,.slice pv nv cv,.slice pv' nv' cv'] #[.bool false,.slice none 0 0,.slice none 0 0]
 clear V2 V3' hb hz HDv
 have U4:=(Dq.refl (wv.alloc (.cells #[.bool zv,.slice pv nv cv,.slice pv' nv' cv'] 34))).alloc 34 #[.bool false,.slice none 0 0,.slice none 0 0]
 have hb8:(wv.alloc (.cells #[.bool zv,.slice pv nv cv,.slice pv' nv' cv'] 34)).heap.size≤wv.heap.size + 1:=Nat.le_of_eq (World.size_alloc _ _)
 go_wp2_with fail
 refine (HTop.out _).mono ?_
 rintro E w5 ⟨rfl,hb⟩
 have hz5:=hb.size
 rw [World.size_alloc,World.size_alloc] at hz5
 have V5:=V4.below hb
 have U5:=U4.below hb
 clear V4 U4 hb HTop
 go_wp2_with fail
 refine (HDk.out _).mono ?_
 rintro E wk ⟨v,rfl,hr,hb⟩
 have V6':=(V5.below hb).qcons hr
 obtain ⟨pk,nk,ck,pk',nk',ck',rfl,-,-⟩:=hr
 obtain ⟨zk,hz⟩:∃ z,decide ((K).num < 0)=z:=⟨_,rfl⟩
 rw [hz] at V6' ⊢
 have U6:=(U5.below hb).alloc 34 #[.bool zk,.slice pk nk ck,.slice pk' nk' ck']
 have V6:=V6'.alloc 34 #[.bool zk,.slice pk nk ck,.slice pk' nk' ck']
 have hzk:=hb.size
 clear V5 U5 V6' hb hz HDk
 go_wp2_with fail
 have V6d:=V6.drew
 have U6d:=U6.drew
 clear V6 U6
 have hne1:wk.heap.size≠wv.heap.size + 1:=by omega
 clear hz5 hzk
 have hne2:wv.heap.size≠wv.heap.size + 1:=by omega
 have HSet:Hid (∀ W y0 y1 y2,((W.cell? ⟨wk.heap.size,0,none⟩=some (.bool zk)∧W.cell? ⟨wk.heap.size,1,none⟩=some (.slice pk nk ck)∧W.cell? ⟨wk.heap.size,2,none⟩=some (.slice pk' nk' ck'))∧(W.cell? ⟨wv.heap.size,0,none⟩=some (.bool zv)∧W.cell? ⟨wv.heap.size,1,none⟩=some (.slice pv nv cv)∧W.cell? ⟨wv.heap.size,2,none⟩=some (.slice pv' nv' cv')))→((World.cell? (set3 W (wv.heap.size + 1) y0 y1 y2) ⟨wk.heap.size,0,none⟩=some (.bool zk)∧World.cell? (set3 W (wv.heap.size + 1) y0 y1 y2) ⟨wk.heap.size,1,none⟩=some (.slice pk nk ck)∧World.cell? (set3 W (wv.heap.size + 1) y0 y1 y2) ⟨wk.heap.size,2,none⟩=some (.slice pk' nk' ck'))∧(World.cell? (set3 W (wv.heap.size + 1) y0 y1 y2) ⟨wv.heap.size,0,none⟩=some (.bool zv)∧World.cell? (set3 W (wv.heap.size + 1) y0 y1 y2) ⟨wv.heap.size,1,none⟩=some (.slice pv nv cv)∧World.cell? (set3 W (wv.heap.size + 1) y0 y1 y2) ⟨wv.heap.size,2,none⟩=some (.slice pv' nv' cv')))):=Lib.hid (fun W y0 y1 y2 h=>by rw [cell_set3 hne1,cell_set3 hne1,cell_set3 hne1,cell_set3 hne2,cell_set3 hne2,cell_set3 hne2];exact h)
 clear hne1 hne2
 refine wp_region_held_drew (S:=(fun W=>(W.cell? ⟨wk.heap.size,0,none⟩=some (.bool zk)∧W.cell? ⟨wk.heap.size,1,none⟩=some (.slice pk nk ck)∧W.cell? ⟨wk.heap.size,2,none⟩=some (.slice pk' nk' ck'))∧(W.cell? ⟨wv.heap.size,0,none⟩=some (.bool zv)∧W.cell? ⟨wv.heap.size,1,none⟩=some (.slice pv nv cv)∧W.cell? ⟨wv.heap.size,2,none⟩=some (.slice pv' nv' cv')))) (by kernel_rfl) ?_ (fun hHeld=>?_)
 · exact ⟨⟨V6d.c0 0 rfl,V6d.c1 0 rfl,V6d.c2 0 rfl⟩,⟨V6d.c0 2 rfl,V6d.c1 2 rfl,V6d.c2 2 rfl⟩⟩
 refine tkH (i:=0) (v:=?_) rfl (by kernel_rfl) (fun _ _ _ h=>h) (Or.inl ⟨by rfl,?_⟩) (by assumption) ?_
 rotate_left
 · intro w hSw;(try dsimp only at hSw);go_simp;(try with_reducible rfl)
 try simp only [las]
 refine tkH (i:=1) (v:=?_) rfl (by kernel_rfl) (fun _ _ _ h=>h) (Or.inl ⟨by rfl,?_⟩) (by assumption) ?_
 rotate_left
 · intro w hSw;(try dsimp only at hSw);go_simp;(try with_reducible rfl)
 try simp only [las]
 refine tkH (i:=2) (v:=?_) rfl (by kernel_rfl) (fun _ _ _ h=>h) (Or.inl ⟨by rfl,?_⟩) (by assumption) ?_
 rotate_left
 · intro w hSw;(try dsimp only at hSw);go_simp;(try with_reducible rfl)
 try simp only [las]
 refine wpAnyH_ready (rs:=[3]) (by kernel_rfl) (by simp) ?_
 refine AllReadyH.cons (o:=_) rfl (fun K hK=>?_) AllReadyH.nil
 go_simp
 go_at_call 95;refine (HMk.out _ _ (V6d.ref 0 _ _ rfl)).mono ?_;rintro E wa ⟨va,rfl,hr,hb⟩;have Va:=(V6d.below hb).qcons hr;have Ua:=U6d.below hb;clear hr hb
 refine hK.out _ _ ?_ (fun hHeld=>?_)
 · first | exact ⟨⟨Vc.c0 0 rfl,Vc.c1 0 rfl,Vc.c2 0 rfl⟩,⟨Vc.c0 2 rfl,Vc.c1 2 rfl,Vc.c2 2 rfl⟩⟩ | exact ⟨⟨Vb.c0 0 rfl,Vb.c1 0 rfl,Vb.c2 0 rfl⟩,⟨Vb.c0 2 rfl,Vb.c1 2 rfl,Vb.c2 2 rfl⟩⟩ | exact ⟨⟨Va.c0 0 rfl,Va.c1 0 rfl,Va.c2 0 rfl⟩,⟨Va.c0 2 rfl,Va.c1 2 rfl,Va.c2 2 rfl⟩⟩
 clear hK K
 try simp only [las]
 refine wpAnyH_ready (rs:=[4]) (by kernel_rfl) (by simp) ?_
 refine AllReadyH.cons (o:=_) rfl (fun K hK=>?_) AllReadyH.nil
 go_simp
 go_at_call 98;refine (HAk.out _ _ _ (Va.ref 2 _ _ rfl) (Va.ref 0 _ _ rfl)).mono ?_;rintro E wb ⟨vb,rfl,hr,hb⟩;have Vb:=(Va.below hb).qcons hr;have Ub:=Ua.below hb;clear hr hb Va Ua
 refine hK.out _ _ ?_ (fun hHeld=>?_)
 · first | exact ⟨⟨Vc.c0 0 rfl,Vc.c1 0 rfl,Vc.c2 0 rfl⟩,⟨Vc.c0 2 rfl,Vc.c1 2 rfl,Vc.c2 2 rfl⟩⟩ | exact ⟨⟨Vb.c0 0 rfl,Vb.c1 0 rfl,Vb.c2 0 rfl⟩,⟨Vb.c0 2 rfl,Vb.c1 2 rfl,Vb.c2 2 rfl⟩⟩ | exact ⟨⟨Va.c0 0 rfl,Va.c1 0 rfl,Va.c2 0 rfl⟩,⟨Va.c0 2 rfl,Va.c1 2 rfl,Va.c2 2 rfl⟩⟩
 clear hK K
 try simp only [las]
 refine wpAnyH_ready (rs:=[5]) (by kernel_rfl) (by simp) ?_
 refine AllReadyH.cons (o:=_) rfl (fun K hK=>?_) AllReadyH.nil
 go_simp
 go_at_call 98;refine (HAA.out _ _ _ (Vb.ref 3 _ _ rfl) (Vb.ref 0 _ _ rfl)).mono ?_;rintro E wc ⟨v,rfl,hr,hb⟩;have Vc':=(Vb.below hb).qcons hr;have Uc:=Ub.below hb;obtain ⟨pb,nb,cb,pb',nb',cb',rfl,-,-⟩:=hr;obtain ⟨zb,hz⟩:∃ z,decide ((B).num < 0)=z:=⟨_,rfl⟩;rw [hz] at Vc' ⊢;have Vc:=Vc';clear hb Vb Ub Vc' hz
 refine hK.out _ _ ?_ (fun hHeld=>?_)
 · first | exact ⟨⟨Vc.c0 0 rfl,Vc.c1 0 rfl,Vc.c2 0 rfl⟩,⟨Vc.c0 2 rfl,Vc.c1 2 rfl,Vc.c2 2 rfl⟩⟩ | exact ⟨⟨Vb.c0 0 rfl,Vb.c1 0 rfl,Vb.c2 0 rfl⟩,⟨Vb.c0 2 rfl,Vb.c1 2 rfl,Vb.c2 2 rfl⟩⟩ | exact ⟨⟨Va.c0 0 rfl,Va.c1 0 rfl,Va.c2 0 rfl⟩,⟨Va.c0 2 rfl,Va.c1 2 rfl,Va.c2 2 rfl⟩⟩
 clear hK K
 try simp only [las]
 refine wpAnyH_ready (rs:=[6]) (by kernel_rfl) (by simp) ?_
 refine AllReadyH.cons (o:=_) rfl (fun K hK=>?_) AllReadyH.nil
 have HP:=Lib.hid (V3.put3 Uc.bel hb8 (Vc.finq 1 0 rfl rfl).1 (Vc.finq 1 0 rfl rfl).2)
 have r0:=Vc.c0 1 rfl;have r1:=Vc.c1 1 rfl;have r2:=Vc.c2 1 rfl
 have f0:=Vc.frozen 1 0 rfl;have f1:=Vc.frozen 1 1 rfl;have f2:=Vc.frozen 1 2 rfl
 have HS6:Hid ((wc.cell? ⟨wk.heap.size,0,none⟩=some (.bool zk)∧wc.cell? ⟨wk.heap.size,1,none⟩=some (.slice pk nk ck)∧wc.cell? ⟨wk.heap.size,2,none⟩=some (.slice pk' nk' ck'))∧(wc.cell? ⟨wv.heap.size,0,none⟩=some (.bool zv)∧wc.cell? ⟨wv.heap.size,1,none⟩=some (.slice pv nv cv)∧wc.cell? ⟨wv.heap.size,2,none⟩=some (.slice pv' nv' cv'))):=Lib.hid ⟨⟨Vc.c0 0 rfl,Vc.c1 0 rfl,Vc.c2 0 rfl⟩,⟨Vc.c0 2 rfl,Vc.c1 2 rfl,Vc.c2 2 rfl⟩⟩
 clear Vc Uc
 go_wp2_with fail
 refine hK.out _ _ ?_ (fun hHeld=>?_)
 · exact HSet.out _ _ _ _ HS6.out
 clear hK K
 try simp only [las]
 refine wpAnyH_done (by kernel_rfl) ?_ _
 have V7:=HP.out
 clear HP V3 V6d U6d HMk HAk HAA HSet HS6 hb8 r0 r1 r2 f0 f1 f2
 go_wp2_with fail
 have V7d:=V7.drew
 clear V7
 refine wp_region_held_drew (S:=(fun W=>(W.cell? ⟨wv.heap.size + 1,0,none⟩=some (.bool zb)∧W.cell? ⟨wv.heap.size + 1,1,none⟩=some (.slice pb nb cb)∧W.cell? ⟨wv.heap.size + 1,2,none⟩=some (.slice pb' nb' cb'))∧(W.cell? ⟨wv.heap.size,0,none⟩=some (.bool zv)∧W.cell? ⟨wv.heap.size,1,none⟩=some (.slice pv nv cv)∧W.cell? ⟨wv.heap.size,2,none⟩=some (.slice pv' nv' cv'))∧(W.cell? ⟨w.heap.size,0,none⟩=some (.bool false)∧W.cell? ⟨w.heap.size,1,none⟩=some (.slice pr nr cr)∧W.cell? ⟨w.heap.size,2,none⟩=some (.slice pr' nr' cr')))) (by kernel_rfl) ?_ (fun hHeld=>?_)
 · exact ⟨⟨V7d.c0 0 rfl,V7d.c1 0 rfl,V7d.c2 0 rfl⟩,⟨V7d.c0 1 rfl,V7d.c1 1 rfl,V7d.c2 1 rfl⟩,⟨V7d.c0 2 rfl,V7d.c1 2 rfl,V7d.c2 2 rfl⟩⟩
 refine tkH (i:=0) (v:=?_) rfl (by kernel_rfl) (fun _ _ _ h=>h) (Or.inl ⟨by rfl,?_⟩) (by assumption) ?_
 rotate_left
 · intro w hSw;(try dsimp only at hSw);go_simp;(try with_reducible rfl)
 try simp only [las]
 refine tkH (i:=1) (v:=?_) rfl (by kernel_rfl) (fun _ _ _ h=>h) (Or.inl ⟨by rfl,?_⟩) (by assumption) ?_
 rotate_left
 · intro w hSw;(try dsimp only at hSw);go_simp;(try with_reducible rfl)
 try simp only [las]
 refine tkH (i:=4) (v:=?_) rfl (by kernel_rfl) (fun _ _ _ h=>h) (Or.inl ⟨by rfl,?_⟩) (by assumption) ?_
 rotate_left
 · intro w hSw;(try dsimp only at hSw);go_simp;(try with_reducible rfl)
 try simp only [las]
 refine tkH (i:=5) (v:=?_) rfl (by kernel_rfl) (fun _ _ _ h=>h) (Or.inl ⟨by rfl,?_⟩) (by assumption) ?_
 rotate_left
 · intro w hSw;(try dsimp only at hSw);go_simp;(try with_reducible rfl)
 try simp only [las]
 refine wpAnyH_ready (rs:=[2]) (by kernel_rfl) (by simp) ?_
 refine AllReadyH.cons (o:=_) rfl (fun K hK=>?_) AllReadyH.nil
 go_simp
 go_at_call 95;refine (HMa.out _ _ (V7d.ref 1 _ _ rfl)).mono ?_;rintro E wa ⟨va,rfl,hr,hb⟩;have Va:=(V7d.below hb).qcons hr;clear hr hb
 refine hK.out _ _ ?_ (fun hHeld=>?_)
 · first | exact ⟨⟨Ve.c0 0 rfl,Ve.c1 0 rfl,Ve.c2 0 rfl⟩,⟨Ve.c0 1 rfl,Ve.c1 1 rfl,Ve.c2 1 rfl⟩,⟨Ve.c0 2 rfl,Ve.c1 2 rfl,Ve.c2 2 rfl⟩⟩ | exact ⟨⟨Vd.c0 0 rfl,Vd.c1 0 rfl,Vd.c2 0 rfl⟩,⟨Vd.c0 1 rfl,Vd.c1 1 rfl,Vd.c2 1 rfl⟩,⟨Vd.c0 2 rfl,Vd.c1 2 rfl,Vd.c2 2 rfl⟩⟩ | exact ⟨⟨Vc.c0 0 rfl,Vc.c1 0 rfl,Vc.c2 0 rfl⟩,⟨Vc.c0 1 rfl,Vc.c1 1 rfl,Vc.c2 1 rfl⟩,⟨Vc.c0 2 rfl,Vc.c1 2 rfl,Vc.c2 2 rfl⟩⟩ | exact ⟨⟨Vb.c0 0 rfl,Vb.c1 0 rfl,Vb.c2 0 rfl⟩,⟨Vb.c0 1 rfl,Vb.c1 1 rfl,Vb.c2 1 rfl⟩,⟨Vb.c0 2 rfl,Vb.c1 2 rfl,Vb.c2 2 rfl⟩⟩ | exact ⟨⟨Va.c0 0 rfl,Va.c1 0 rfl,Va.c2 0 rfl⟩,⟨Va.c0 1 rfl,Va.c1 1 rfl,Va.c2 1 rfl⟩,⟨Va.c0 2 rfl,Va.c1 2 rfl,Va.c2 2 rfl⟩⟩
 clear hK K
 try simp only [las]
 refine wpAnyH_ready (rs:=[3]) (by kernel_rfl) (by simp) ?_
 refine AllReadyH.cons (o:=_) rfl (fun K hK=>?_) AllReadyH.nil
 go_simp
 go_at_call 98;refine (HAx.out _ _ _ (Va.ref 3 _ _ rfl) (Va.ref 0 _ _ rfl)).mono ?_;rintro E wb ⟨vb,rfl,hr,hb⟩;have Vb:=(Va.below hb).qcons hr;clear hr hb Va
 refine hK.out _ _ ?_ (fun hHeld=>?_)
 · first | exact ⟨⟨Ve.c0 0 rfl,Ve.c1 0 rfl,Ve.c2 0 rfl⟩,⟨Ve.c0 1 rfl,Ve.c1 1 rfl,Ve.c2 1 rfl⟩,⟨Ve.c0 2 rfl,Ve.c1 2 rfl,Ve.c2 2 rfl⟩⟩ | exact ⟨⟨Vd.c0 0 rfl,Vd.c1 0 rfl,Vd.c2 0 rfl⟩,⟨Vd.c0 1 rfl,Vd.c1 1 rfl,Vd.c2 1 rfl⟩,⟨Vd.c0 2 rfl,Vd.c1 2 rfl,Vd.c2 2 rfl⟩⟩ | exact ⟨⟨Vc.c0 0 rfl,Vc.c1 0 rfl,Vc.c2 0 rfl⟩,⟨Vc.c0 1 rfl,Vc.c1 1 rfl,Vc.c2 1 rfl⟩,⟨Vc.c0 2 rfl,Vc.c1 2 rfl,Vc.c2 2 rfl⟩⟩ | exact ⟨⟨Vb.c0 0 rfl,Vb.c1 0 rfl,Vb.c2 0 rfl⟩,⟨Vb.c0 1 rfl,Vb.c1 1 rfl,Vb.c2 1 rfl⟩,⟨Vb.c0 2 rfl,Vb.c1 2 rfl,Vb.c2 2 rfl⟩⟩ | exact ⟨⟨Va.c0 0 rfl,Va.c1 0 rfl,Va.c2 0 rfl⟩,⟨Va.c0 1 rfl,Va.c1 1 rfl,Va.c2 1 rfl⟩,⟨Va.c0 2 rfl,Va.c1 2 rfl,Va.c2 2 rfl⟩⟩
 clear hK K
 try simp only [las]
 refine wpAnyH_ready (rs:=[6]) (by kernel_rfl) (by simp) ?_
 refine AllReadyH.cons (o:=_) rfl (fun K hK=>?_) AllReadyH.nil
 go_simp
 go_at_call 95;refine (HMi.out _ _ (Vb.ref 4 _ _ rfl)).mono ?_;rintro E wc ⟨vc,rfl,hr,hb⟩;have Vc:=(Vb.below hb).qcons hr;clear hr hb Vb
 refine hK.out _ _ ?_ (fun hHeld=>?_)
 · first | exact ⟨⟨Ve.c0 0 rfl,Ve.c1 0 rfl,Ve.c2 0 rfl⟩,⟨Ve.c0 1 rfl,Ve.c1 1 rfl,Ve.c2 1 rfl⟩,⟨Ve.c0 2 rfl,Ve.c1 2 rfl,Ve.c2 2 rfl⟩⟩ | exact ⟨⟨Vd.c0 0 rfl,Vd.c1 0 rfl,Vd.c2 0 rfl⟩,⟨Vd.c0 1 rfl,Vd.c1 1 rfl,Vd.c2 1 rfl⟩,⟨Vd.c0 2 rfl,Vd.c1 2 rfl,Vd.c2 2 rfl⟩⟩ | exact ⟨⟨Vc.c0 0 rfl,Vc.c1 0 rfl,Vc.c2 0 rfl⟩,⟨Vc.c0 1 rfl,Vc.c1 1 rfl,Vc.c2 1 rfl⟩,⟨Vc.c0 2 rfl,Vc.c1 2 rfl,Vc.c2 2 rfl⟩⟩ | exact ⟨⟨Vb.c0 0 rfl,Vb.c1 0 rfl,Vb.c2 0 rfl⟩,⟨Vb.c0 1 rfl,Vb.c1 1 rfl,Vb.c2 1 rfl⟩,⟨Vb.c0 2 rfl,Vb.c1 2 rfl,Vb.c2 2 rfl⟩⟩ | exact ⟨⟨Va.c0 0 rfl,Va.c1 0 rfl,Va.c2 0 rfl⟩,⟨Va.c0 1 rfl,Va.c1 1 rfl,Va.c2 1 rfl⟩,⟨Va.c0 2 rfl,Va.c1 2 rfl,Va.c2 2 rfl⟩⟩
 clear hK K
 try simp only [las]
 refine wpAnyH_ready (rs:=[7]) (by kernel_rfl) (by simp) ?_
 refine AllReadyH.cons (o:=_) rfl (fun K hK=>?_) AllReadyH.nil
 go_simp
 go_at_call 98;refine (HBx.out _ _ _ (Vc.ref 3 _ _ rfl) (Vc.ref 0 _ _ rfl)).mono ?_;rintro E wd ⟨vd,rfl,hr,hb⟩;have Vd:=(Vc.below hb).qcons hr;clear hr hb Vc
 refine hK.out _ _ ?_ (fun hHeld=>?_)
 · first | exact ⟨⟨Ve.c0 0 rfl,Ve.c1 0 rfl,Ve.c2 0 rfl⟩,⟨Ve.c0 1 rfl,Ve.c1 1 rfl,Ve.c2 1 rfl⟩,⟨Ve.c0 2 rfl,Ve.c1 2 rfl,Ve.c2 2 rfl⟩⟩ | exact ⟨⟨Vd.c0 0 rfl,Vd.c1 0 rfl,Vd.c2 0 rfl⟩,⟨Vd.c0 1 rfl,Vd.c1 1 rfl,Vd.c2 1 rfl⟩,⟨Vd.c0 2 rfl,Vd.c1 2 rfl,Vd.c2 2 rfl⟩⟩ | exact ⟨⟨Vc.c0 0 rfl,Vc.c1 0 rfl,Vc.c2 0 rfl⟩,⟨Vc.c0 1 rfl,Vc.c1 1 rfl,Vc.c2 1 rfl⟩,⟨Vc.c0 2 rfl,Vc.c1 2 rfl,Vc.c2 2 rfl⟩⟩ | exact ⟨⟨Vb.c0 0 rfl,Vb.c1 0 rfl,Vb.c2 0 rfl⟩,⟨Vb.c0 1 rfl,Vb.c1 1 rfl,Vb.c2 1 rfl⟩,⟨Vb.c0 2 rfl,Vb.c1 2 rfl,Vb.c2 2 rfl⟩⟩ | exact ⟨⟨Va.c0 0 rfl,Va.c1 0 rfl,Va.c2 0 rfl⟩,⟨Va.c0 1 rfl,Va.c1 1 rfl,Va.c2 1 rfl⟩,⟨Va.c0 2 rfl,Va.c1 2 rfl,Va.c2 2 rfl⟩⟩
 clear hK K
 try simp only [las]
 refine wpAnyH_ready (rs:=[8]) (by kernel_rfl) (by simp) ?_
 refine AllReadyH.cons (o:=_) rfl (fun K hK=>?_) AllReadyH.nil
 go_simp
 go_at_call 93;refine (HCc.out _ _ _ (Vd.ref 2 _ _ rfl) (Vd.ref 0 _ _ rfl)).mono ?_;rintro E we ⟨rfl,hb⟩;have Ve:=Vd.below hb;clear hb Vd
 refine hK.out _ _ ?_ (fun hHeld=>?_)
 · first | exact ⟨⟨Ve.c0 0 rfl,Ve.c1 0 rfl,Ve.c2 0 rfl⟩,⟨Ve.c0 1 rfl,Ve.c1 1 rfl,Ve.c2 1 rfl⟩,⟨Ve.c0 2 rfl,Ve.c1 2 rfl,Ve.c2 2 rfl⟩⟩ | exact ⟨⟨Vd.c0 0 rfl,Vd.c1 0 rfl,Vd.c2 0 rfl⟩,⟨Vd.c0 1 rfl,Vd.c1 1 rfl,Vd.c2 1 rfl⟩,⟨Vd.c0 2 rfl,Vd.c1 2 rfl,Vd.c2 2 rfl⟩⟩ | exact ⟨⟨Vc.c0 0 rfl,Vc.c1 0 rfl,Vc.c2 0 rfl⟩,⟨Vc.c0 1 rfl,Vc.c1 1 rfl,Vc.c2 1 rfl⟩,⟨Vc.c0 2 rfl,Vc.c1 2 rfl,Vc.c2 2 rfl⟩⟩ | exact ⟨⟨Vb.c0 0 rfl,Vb.c1 0 rfl,Vb.c2 0 rfl⟩,⟨Vb.c0 1 rfl,Vb.c1 1 rfl,Vb.c2 1 rfl⟩,⟨Vb.c0 2 rfl,Vb.c1 2 rfl,Vb.c2 2 rfl⟩⟩ | exact ⟨⟨Va.c0 0 rfl,Va.c1 0 rfl,Va.c2 0 rfl⟩,⟨Va.c0 1 rfl,Va.c1 1 rfl,Va.c2 1 rfl⟩,⟨Va.c0 2 rfl,Va.c1 2 rfl,Va.c2 2 rfl⟩⟩
 clear hK K
 try simp only [las]
 refine tkH (i:=9) (v:=?_) rfl (by kernel_rfl) (fun _ _ _ h=>h) (Or.inl ⟨by rfl,?_⟩) (by assumption) ?_
 rotate_left
 · intro w hSw;(try dsimp only at hSw);go_simp;(try with_reducible rfl)
 try simp only [las]
 refine wpAnyH_done (by kernel_rfl) ?_ _
 have HB:=Lib.hid Ve.bel
 clear V7d Ve HMa HAx HMi HBx HCc
 cases NU with
 | true =>
  rcases Hcc.out.1 rfl with rfl | ⟨rfl,hp⟩
  · clear Hcc
    go_wp2_with fail
    go_ret
    exact ⟨rfl,HB.out⟩
  · clear Hcc
    have g5:(SI % 2 == 0)=false:=by rw [hp];rfl
    have g6:SI.tmod 2=1:=by rw [Int.tmod_eq_emod_of_nonneg (by omega)];exact hp
    go_wp2_with fail
    go_ret
    exact ⟨rfl,HB.out⟩
 | false =>
  rcases Hcc.out.2 rfl with rfl | ⟨rfl,hp⟩
  · clear Hcc
    go_wp2_with fail
    go_ret
    exact ⟨rfl,HB.out⟩
  · clear Hcc
    have g6:SI.tmod 2=0:=by rw [Int.tmod_eq_emod_of_nonneg (by omega)];exact hp
    go_wp2_with fail
    go_ret
    exact ⟨rfl,HB.out⟩
set_option maxRecDepth 100000 in
set_option maxHeartbeats 8000000 in
theorem rnear_pos (e m:Nat) (he:2≤e) (he2:e≤8) (hm:1≤m) (hm2:m≤52) (X:Rat) (va:Value) (w:World) (ha:RQ w va X) (hx:SzD 20 X) (s:Nat) (hS:Spot m (inf e m) (X.num.natAbs * 2^upl e m / X.den) s) (hn:¬ X.num < 0) :
 Calls Tryz.prog 43 #[.int .i64 (e:Int),.int .i64 (m:Int),va] w fun E w'=>E=.returned (.int .u64 ((if nup m s (X.num.natAbs * 2^upl e m) X.den=true then s + 1 else s:Nat):Int))∧Below w.heap.size w w':=by
 by_cases ht:s + 1=inf e m
 · exact rnear_top e m he he2 hm hm2 X va w ha hx s hS hn ht
 · exact rnear_up e m he he2 hm hm2 X va w ha hx s hS hn (by have:=hS.1;omega)
theorem rnear_any (e m:Nat) (he:2≤e) (he2:e≤8) (hm:1≤m) (hm2:m≤52) (X:Rat) (va:Value) (w:World) (ha:RQ w va X) (hx:SzD 20 X) (s:Nat) (hS:Spot m (inf e m) (X.num.natAbs * 2^upl e m / X.den) s) :
 Calls Tryz.prog 43 #[.int .i64 (e:Int),.int .i64 (m:Int),va] w fun E w'=>E=.returned (.int .u64 ((ptn e m (decide (X.num < 0)) (if nup m s (X.num.natAbs * 2^upl e m) X.den=true then s + 1 else s):Nat):Int))∧Below w.heap.size w w':=by
 by_cases hn:X.num < 0
 · have hi:=inf_lt e m
   have h60:2^(e + m)≤2^60:=Nat.pow_le_pow_right (by decide) (by omega)
   have hs:=hS.1
   obtain ⟨n1,n2,-⟩:=neg_num X
   have HTop:=Lib.hid (fun W=>rtop_any e m he hm (by omega) W)
   have HDec:∀ k:Nat,k < inf e m→Hid (∀ W,Calls Tryz.prog 92 #[.int .i64 (e:Int),.int .i64 (m:Int),.int .u64 (k:Int)] W (RdIs 1 (vQ e m false k) W)):=fun k hk=>Lib.hid (fun W=>by
    have h1:=ptn_kd e m k false hk
    have h2:=ptn_nm e m k false hk
    rw [ptn_pos] at h1 h2
    have:=rdec_any e m k he (by omega) hm hm2 (by omega) W
    rwa [h1,h2] at this)
   have HMi:Hid (∀ W v,RQ W v X→Calls Tryz.prog 95 #[v] W (GaveQ (-X) W)):=Lib.hid (fun W v h=>rminus_any X v W h (hx.mono (by omega)))
   have HCmp:∀ (x y:Rat),SzD 100 x→SzD 100 y→Hid (∀ W va vb,RQ W va x→RQ W vb y→Calls Tryz.prog 93 #[va,vb] W fun E w'=>E=.returned (.int .i64 (cmpQ x y))∧Below W.heap.size W w'):=fun x y h1 h2=>Lib.hid (fun W va vb ha hb=>rratcmp_any x y va vb W ha hb h1 h2)
   have hqd:∀ (t:Nat) (z:Bool),t < 2^(e + m)→SzD 100 (vQ e m z t):=fun t z ht=>(vq_szd e m t z he2 hm2 ht).mono (by omega)
   have HSg:∀ k:Nat,k < 2^(e + m)→Hid (∀ W,Calls Tryz.prog 97 #[.int .i64 (e:Int),.int .i64 (m:Int),.int .u64 (k:Int)] W fun E w'=>E=.returned (.int .u64 ((ptn e m true k:Nat):Int))∧Below W.heap.size W w'):=fun k hk=>Lib.hid (fun W=>rsign_any e m k (by omega) hk W)
   have hY:¬ (-X).num < 0:=by rw [Rat.neg_num];omega
   obtain ⟨K,hK⟩:∃ K,(if nup m s (X.num.natAbs * 2^upl e m) X.den=true then s + 1 else s)=K:=⟨_,rfl⟩
   have hKs:K < 2^(e + m):=by rw [← hK];split <;> omega
   have HNr:Hid (∀ W v,RQ W v (-X)→Calls Tryz.prog 43 #[.int .i64 (e:Int),.int .i64 (m:Int),v] W fun E w'=>E=.returned (.int .u64 (K:Int))∧Below W.heap.size W w'):=Lib.hid (fun W v h=>by
    have:=rnear_pos e m he he2 hm hm2 (-X) v W h (szd_neg hx) s (by rw [n1,n2];exact hS) hY
    rwa [n1,n2,hK] at this)
   have HSk:=HSg K hKs
   rw [hK,decide_eq_true hn]
   obtain ⟨Y,hYY⟩:∃ x,-X=x:=⟨_,rfl⟩
   rw [hYY] at HMi HNr
   obtain ⟨PT,hPT⟩:∃ x:Int,((ptn e m true K:Nat):Int)=x:=⟨_,rfl⟩
   rw [hPT] at HSk ⊢
   have hR:=ha
   obtain ⟨pr,nr,cr,pr',nr',cr',rfl,-,-⟩:=ha
   rw [decide_eq_true hn] at hR ⊢
   have V0:=((Dq.refl w).qcons hR).alloc 34 #[.bool true,.slice pr nr cr,.slice pr' nr' cr']
   clear hR hx hn hS hYY hPT HDec HCmp HSg HTop hqd n1 n2 hi h60 hs hY hK hKs
   go_enter Tryz.func43,Tryz.ntmps43
   have a0:=V0.c0 0 rfl;have a1:=V0.c1 0 rfl;have a2:=V0.c2 0 rfl
   go_wp2_with fail
   refine (HMi.out _ _ (V0.ref 0 _ _ rfl)).mono ?_
   rintro E w1 ⟨v1,rfl,hr,hb⟩
   have V1:=(V0.below hb).qcons hr
   clear V0 hb hr HMi a0 a1 a2
   go_wp2_with fail
   refine (HNr.out _ _ (V1.ref 0 _ _ rfl)).mono ?_
   rintro E w2 ⟨rfl,hb⟩
   have V2:=V1.below hb
   clear V1 hb HNr
   go_wp2_with fail
   refine (HSk.out _).mono ?_
   rintro E w8 ⟨rfl,hb⟩
   have V8:=V2.below hb
   clear V2 hb HSk
   have HB:=Lib.hid V8.bel
   clear V8
   go_wp2_with fail
   go_ret
   exact ⟨rfl,HB.out⟩
 · rw [decide_eq_false hn,ptn_pos]
   exact rnear_pos e m he he2 hm hm2 X va w ha hx s hS hn
end Go.Proofs.YtnhobagjpjcigaaGreatDoor
