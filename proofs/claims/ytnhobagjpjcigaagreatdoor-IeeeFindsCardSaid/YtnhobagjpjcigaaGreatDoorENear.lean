/-
 Law 4: the nearest pattern (ieee's Nearest).
-/
import Derived.Test.YtnhobagjpjcigaaGreatDoorEFind
import Derived.Test.YtnhobagjpjcigaaGreatDoorNSubA
namespace Go.Proofs.YtnhobagjpjcigaaGreatDoor
open Go.RowKit
set_option linter.unusedVariables false
def nup (m s U D:Nat):Bool:=decide ((un m s + un m (s + 1)) * D < 2 * U∨((un m s + un m (s + 1)) * D=2 * U∧s % 2=1))
def ptn (e m:Nat) (z:Bool) (s:Nat):Nat:=if z=true∧0 < s then 2^(e + m) + s else s
theorem pat_any (e m s:Nat) (z:Bool) (h:e + m≤63) (hs:s < 2^(e + m)) (w:World):Calls Tryz.prog 87 #[.agg #[.int .i64 (e:Int),.int .i64 (m:Int)],.bool z,.int .u64 (s:Int)] w fun E w'=>E=.returned (.int .u64 ((ptn e m z s:Nat):Int))∧Below w.heap.size w w':=pattern_any e m s z h hs w
def NrIs (e m:Nat) (x:Rat) (w:World) (E:Ending) (w':World):Prop:=∃ s,Spot m (inf e m) (x.num.natAbs * 2^upl e m / x.den) s∧E=.returned (.int .u64 ((ptn e m (decide (x.num < 0)) (if nup m s (x.num.natAbs * 2^upl e m) x.den=true then s + 1 else s):Nat):Int))∧Below w.heap.size w w'
set_option maxRecDepth 100000 in
set_option maxHeartbeats 16000000 in
theorem near_any (e m:Nat) (x:Rat) (va:Value) (he:2≤e) (he2:e≤11) (hm:1≤m) (hm2:m≤52) (w:World) (ha:IsR w va x) (hx:Sz 40 x):Calls Tryz.prog 39 #[.agg #[.int .i64 (e:Int),.int .i64 (m:Int)],va] w (NrIs e m x w):=by
 have HFd:Hid (∀ W v,IsR W v x→Calls Tryz.prog 86 #[.agg #[.int .i64 (e:Int),.int .i64 (m:Int)],v] W (SpIs e m (x.num.natAbs * 2^upl e m) x.den W)):=Lib.hid (fun W v h=>find_any e m x v he he2 hm hm2 W h hx)
 have HNg:Hid (∀ W v,IsR W v x→Calls Tryz.prog 73 #[v] W fun e w'=>e=.returned (.bool (decide (x.num < 0)))∧Below W.heap.size W w'):=Lib.hid (fun W v h=>neg_any x v W h)
 have HVa:Hid (∀ W,Calls Tryz.prog 34 #[.agg #[.int .i64 (e:Int),.int .i64 (m:Int)]] W fun E w'=>E=.returned (.bool true)∧Below W.heap.size W w'):=Lib.hid (fun W=>by
  have h:=valid_any e m (by omega) (by omega) (by omega) (by omega) W
  rw [decide_eq_true (by omega)] at h
  exact h)
 have hp:e + m≤63:=by omega
 have hup:upl e m≤1100:=by
  have h1:2^(e - 1)≤2^10:=Nat.pow_le_pow_right (by decide) (by omega)
  unfold upl
  omega
 have hU:x.num.natAbs * 2^upl e m < 18446744073709551616^60:=by
  have h2:18446744073709551616^60=18446744073709551616^40 * 18446744073709551616^20:=by rw [← Nat.pow_add]
  rw [h2]
  exact Nat.mul_lt_mul'' hx.1 (two_lt_w (by omega))
 have hD:x.den < 18446744073709551616^40:=hx.2
 have hinf:inf e m < 2^(e + m):=by
  have h0:0 < 2^m:=Nat.pow_pos (by decide)
  have h1:2^m≤2^(e + m):=Nat.pow_le_pow_right (by decide) (by omega)
  unfold inf
  omega
 have h63:2^(e + m)≤2^63:=Nat.pow_le_pow_right (by decide) hp
 have HRx:Hid (IsR w va x):=Lib.hid ha
 have hR:=ha
 obtain ⟨p,n,c,p',n',c',rfl,-,-⟩:=ha
 have HPat:Hid (∀ s:Nat,s < 2^(e + m)→∀ W,Calls Tryz.prog 87 #[.agg #[.int .i64 (e:Int),.int .i64 (m:Int)],.bool (decide (x.num < 0)),.int .u64 (s:Int)] W fun E w'=>E=.returned (.int .u64 ((ptn e m (decide (x.num < 0)) s:Nat):Int))∧Below W.heap.size W w'):=Lib.hid (fun s hs W=>pat_any e m s _ hp hs W)
 have HUnits:Hid (∀ s:Nat,s < 2^(e + m)→∀ W,Calls Tryz.prog 90 #[.agg #[.int .i64 (e:Int),.int .i64 (m:Int)],.int .u64 (s:Int)] W (GaveV (un m s) W)):=Lib.hid (fun s hs W=>units_any e m s he2 hm2 hs W)
 have HUnw:Hid (∀ s:Nat,s < 2^(e + m)→un m s < 18446744073709551616^35):=Lib.hid (fun s hs=>un_w he2 hm2 hs)
 have HNr:Hid (∀ s,Spot m (inf e m) (x.num.natAbs * 2^upl e m / x.den) s→∀ b,nup m s (x.num.natAbs * 2^upl e m) x.den=b→∀ w',Below w.heap.size w w'→NrIs e m x w (.returned (.int .u64 ((ptn e m (decide (x.num < 0)) (if b=true then s + 1 else s):Nat):Int))) w'):=Lib.hid (fun s hs b hb w' h=>⟨s,hs,by rw [hb],h⟩)
 obtain ⟨T,hT⟩:∃ T,NrIs e m x w=T:=⟨_,rfl⟩
 rw [hT] at HNr ⊢
 obtain ⟨U,hUe⟩:∃ U,x.num.natAbs * 2^upl e m=U:=⟨_,rfl⟩
 obtain ⟨D,hDe⟩:∃ D,x.den=D:=⟨_,rfl⟩
 obtain ⟨I,hIe⟩:∃ I,inf e m=I:=⟨_,rfl⟩
 have HSp:Hid (∀ W E w',SpIs e m U D W E w'→∃ s ex p n c p' n' c',E=.returned (.agg #[.int .u64 ((s:Nat):Int),.bool ex,.slice p n c,.slice p' n' c'])∧Spot m I (U / D) s∧IsN w' (.agg #[.slice p n c]) U∧IsN w' (.agg #[.slice p' n' c']) D∧Below W.heap.size W w'):=Lib.hid (fun W E w' h=>by
  obtain ⟨s,ex,p,n,c,p',n',c',h1,h2,h3,h4,h5,h6⟩:=h
  exact ⟨s,ex,p,n,c,p',n',c',h1,by rw [← hIe];exact h2,h4,h5,h6⟩)
 simp only [hUe,hDe] at HFd HNr hU hD
 rw [hIe] at HNr hinf
 obtain ⟨zs,hz⟩:∃ z,decide (x.num < 0)=z:=⟨_,rfl⟩
 rw [hz] at hR HNg HPat HNr HRx ⊢
 have V0:=((Mq.refl w).rcons hR).two 63 27 #[.int .i64 (e:Int),.int .i64 (m:Int)] #[.bool zs,.slice p n c,.slice p' n' c']
 have q0:=V0.f0 1 rfl;have q1:=V0.f1 1 rfl
 have HI:=Lib.hid (And.intro hinf h63)
 have HUD:=Lib.hid (And.intro hU hD)
 clear hR hx hp hup hU hD hinf h63 hT hUe hDe hIe hz
 go_enter Tryz.func39,Tryz.ntmps39
 go_wp2_with fail
 refine (HVa.out _).mono ?_
 rintro E W1 ⟨rfl,hb⟩
 have V1:=V0.below hb
 clear V0 hb q0 q1
 have q0:=V1.f0 1 rfl;have q1:=V1.f1 1 rfl
 have c0:=V1.c0 0 rfl;have c1:=V1.c1 0 rfl;have c2:=V1.c2 0 rfl
 go_wp2_with fail
 refine (HFd.out _ _ (V1.rat 0 _ _ rfl)).mono ?_
 rintro E W2 hsp
 obtain ⟨s,ex,pa,na,ca,pb,nb,cb,rfl,hsp,nU,nD,hb⟩:=HSp.out _ _ _ hsp
 obtain ⟨SI,hSI⟩:∃ x:Int,(s:Int)=x:=⟨_,rfl⟩
 rw [hSI]
 have V2:=(((V1.below hb).cons nU (w_up HUD.out.1 (by omega))).cons nD (w_up HUD.out.2 (by omega))).alloc 118 #[.int .u64 SI,.bool ex,.slice pa na ca,.slice pb nb cb]
 have hlt2:w.heap.size + 1 < W2.heap.size:=((V1.below hb).box 0 _ _ _ rfl).1.lt
 obtain ⟨W3,hW3⟩:∃ W3,W2.alloc (.cells #[.int .u64 SI,.bool ex,.slice pa na ca,.slice pb nb cb] 118)=W3:=⟨_,rfl⟩
 rw [hW3] at V2
 have V3:=V2
 clear V2 V1 nU nD hb q0 q1 c0 c1 c2 HFd HSp
 have hsl:=hsp.lt
 have hIl:=HI.out
 have hs2:s + 1 < 2^(e + m):=by omega
 obtain ⟨SJ,hSJ⟩:∃ x:Int,SI + 1=x:=⟨_,rfl⟩
 have hSJ2:((s + 1:Nat):Int)=SJ:=by omega
 have hSI0:0≤SI:=by omega
 have hSI1:SI < 9223372036854775808:=by omega
 have HUa:Hid (∀ W,Calls Tryz.prog 90 #[.agg #[.int .i64 (e:Int),.int .i64 (m:Int)],.int .u64 SI] W (GaveV (un m s) W)):=Lib.hid (fun W=>by rw [← hSI];exact HUnits.out s (by omega) W)
 have HUb:Hid (∀ W,Calls Tryz.prog 90 #[.agg #[.int .i64 (e:Int),.int .i64 (m:Int)],.int .u64 SJ] W (GaveV (un m (s + 1)) W)):=Lib.hid (fun W=>by rw [← hSJ2];exact HUnits.out (s + 1) hs2 W)
 have HPn:Hid (∀ W,Calls Tryz.prog 87 #[.agg #[.int .i64 (e:Int),.int .i64 (m:Int)],.bool zs,.int .u64 SI] W fun E w'=>E=.returned (.int .u64 ((ptn e m zs s:Nat):Int))∧Below W.heap.size W w'):=Lib.hid (fun W=>by rw [← hSI];exact HPat.out s (by omega) W)
 have HPy:Hid (∀ W,Calls Tryz.prog 87 #[.agg #[.int .i64 (e:Int),.int .i64 (m:Int)],.bool zs,.int .u64 SJ] W fun E w'=>E=.returned (.int .u64 ((ptn e m zs (s + 1):Nat):Int))∧Below W.heap.size W w'):=Lib.hid (fun W=>by rw [← hSJ2];exact HPat.out (s + 1) hs2 W)
 have ha:=HUnw.out s (by omega)
 have hb2:=HUnw.out (s + 1) hs2
 have hmid:un m s + un m (s + 1) < 18446744073709551616^36:=by
  have e1:18446744073709551616^36=18446744073709551616^35 * 18446744073709551616:=by rw [Nat.pow_succ]
  omega
 have HAd:Hid (∀ W va vb,IsN W va (un m s)→IsN W vb (un m (s + 1))→Calls Tryz.prog 89 #[va,vb] W (GaveV (un m s + un m (s + 1)) W)):=Lib.hid (fun W va vb h1 h2=>add_any _ _ va vb W h1 h2 (q100 9000 (w_up ha (by omega)) (by omega)) (q100 9000 (w_up hb2 (by omega)) (by omega)))
 have HMu:Hid (∀ W va vb,IsN W va (un m s + un m (s + 1))→IsN W vb D→Calls Tryz.prog 30 #[va,vb] W (GaveV ((un m s + un m (s + 1)) * D) W)):=Lib.hid (fun W va vb h1 h2=>(mul_any _ _ va vb W h1 h2 (q100 5000 (w_up hmid (by omega)) (by omega)) (q100 5000 (w_up HUD.out.2 (by omega)) (by omega))).mono fun e w' h'=>gaveV h')
 have HSh:Hid (∀ W v,IsN W v U→Calls Tryz.prog 91 #[v,.int .i64 1] W (GaveV (2 * U) W)):=Lib.hid (fun W v h=>by
  have h2:=nShift U 1 v 1 W h (w_up HUD.out.1 (by omega)) (by omega) rfl
  rw [Nat.pow_one,Nat.mul_comm] at h2
  exact h2)
 have HC0:Hid (∀ W va vb,IsN W va (2 * U)→IsN W vb ((un m s + un m (s + 1)) * D)→Calls Tryz.prog 74 #[va,vb] W fun E w'=>E=.returned (.int .i64 (cmpI (2 * U) ((un m s + un m (s + 1)) * D)))∧Below W.heap.size W w'):=Lib.hid (fun W va vb h1 h2=>cmp_any _ _ va vb W h1 h2)
 have hcm:(0 < cmpI (2 * U) ((un m s + un m (s + 1)) * D)→(un m s + un m (s + 1)) * D < 2 * U)∧((cmpI (2 * U) ((un m s + un m (s + 1)) * D) == 0)=decide (2 * U=(un m s + un m (s + 1)) * D))∧((un m s + un m (s + 1)) * D < 2 * U→0 < cmpI (2 * U) ((un m s + un m (s + 1)) * D)):=by
  refine ⟨fun h=>?_,cmpI_zero _ _,fun h=>by rw [cmpI_gt h];decide⟩
  rcases Nat.lt_trichotomy (2 * U) ((un m s + un m (s + 1)) * D) with h1 | h1 | h1
  · rw [cmpI_lt h1] at h;omega
  · rw [h1,cmpI_eq] at h;omega
  · exact h1
 have HNo:Hid (nup m s U D=false→∀ w',Below w.heap.size w w'→T (.returned (.int .u64 ((ptn e m zs s:Nat):Int))) w'):=Lib.hid (fun h w' hb=>HNr.out s hsp false h w' hb)
 have HYes:Hid (nup m s U D=true→∀ w',Below w.heap.size w w'→T (.returned (.int .u64 ((ptn e m zs (s + 1):Nat):Int))) w'):=Lib.hid (fun h w' hb=>HNr.out s hsp true h w' hb)
 have hnup:nup m s U D=decide ((un m s + un m (s + 1)) * D < 2 * U∨((un m s + un m (s + 1)) * D=2 * U∧s % 2=1)):=rfl
 obtain ⟨NU,hNU⟩:∃ b,nup m s U D=b:=⟨_,rfl⟩
 rw [hNU] at HNo HYes hnup
 have hand:=and_low (b:=s) (p:=1) (by omega) (by omega)
 have e21:((2^1:Nat):Int) - 1=1:=rfl
 rw [hSI,e21] at hand
 obtain ⟨UA,hUA⟩:∃ b,un m s=b:=⟨_,rfl⟩
 obtain ⟨UB,hUB⟩:∃ b,un m (s + 1)=b:=⟨_,rfl⟩
 simp only [hUA,hUB] at HUa HUb HAd HMu HC0 hcm hnup hmid
 obtain ⟨MD,hMD⟩:∃ b,UA + UB=b:=⟨_,rfl⟩
 rw [hMD] at HAd HMu HC0 hcm hnup hmid
 obtain ⟨PR,hPR⟩:∃ b,MD * D=b:=⟨_,rfl⟩
 rw [hPR] at HMu HC0 hcm hnup
 obtain ⟨U2,hU2⟩:∃ b,2 * U=b:=⟨_,rfl⟩
 rw [hU2] at HSh HC0 hcm hnup
 obtain ⟨C,hC⟩:∃ b,cmpI U2 PR=b:=⟨_,rfl⟩
 have HC:Hid (∀ W va vb,IsN W va U2→IsN W vb PR→Calls Tryz.prog 74 #[va,vb] W fun E w'=>E=.returned (.int .i64 C)∧Below W.heap.size W w'):=Lib.hid (by rw [← hC];exact HC0.out)
 rw [hC] at hcm
 obtain ⟨PN,hPN⟩:∃ x:Int,((ptn e m zs s:Nat):Int)=x:=⟨_,rfl⟩
 obtain ⟨PY,hPY⟩:∃ x:Int,((ptn e m zs (s + 1):Nat):Int)=x:=⟨_,rfl⟩
 rw [hPN] at HNo HPn
 rw [hPY] at HYes HPy
 have Hcm:=Lib.hid hcm;have Hnup:=Lib.hid hnup;have HMD:=Lib.hid hmid;have Hand:=Lib.hid hand
 have HSJ:=Lib.hid hSJ
 clear hsp hsl hIl hs2 hSJ2 ha hb2 hmid hcm hnup hNU hand e21 hUA hUB hMD hPR hU2 hC hPN hPY HC0 HUnits HUnw HPat HNr hSI
 have q0:=V3.f0 2 rfl;have q1:=V3.f1 2 rfl
 go_wp2_with fail
 refine wp_region_inv 12 (fun a0 dj a W=>∃ vq0 vq1 vq2 vq3 vq4 vq5 vq6 vq7 vq8 vq9 vq10:Value,a=puts a0 [(14,vq0),(15,vq1),(16,vq2),(17,vq3),(18,vq4),(19,vq5),(20,vq6),(21,vq7),(22,vq8),(23,vq9),(6,vq10)]∧Below W3.heap.size W3 W∧(dj 0=true→vq0=.agg #[.int .i64 (e:Int),.int .i64 (m:Int)])∧(dj 1=true→vq1=.pointer (some ⟨W2.heap.size,0,none⟩))∧(dj 2=true→vq2=.int .u64 SI)∧(dj 3=true→Nm W vq3 (UA))∧(dj 4=true→vq4=.agg #[.int .i64 (e:Int),.int .i64 (m:Int)])∧(dj 5=true→vq5=.pointer (some ⟨W2.heap.size,0,none⟩))∧(dj 6=true→vq6=.int .u64 SI)∧(dj 7=true→vq7=.int .u64 SJ)∧(dj 8=true→Nm W vq8 (UB))∧(dj 9=true→Nm W vq9 (MD))∧(dj 10=true→dj 11=false→Bn W3 W vq10)∧(dj 11=true→St W3 W vq10 vq9)) (by kernel_rfl) (by kernel_rfl) (by kernel_rfl) ?_ ?_ ?_ ?_
 · intro dj hcl i hi1 hi2 hd j hj
   exact absurd (Nat.lt_of_lt_of_le hi2 (of_decide_eq_true (by kernel_rfl))) (Nat.not_lt.2 hi1)
 · refine ⟨undef,undef,undef,undef,undef,undef,undef,undef,undef,undef,undef,(by simp only [pus]),(Below.refl _ _).drew,(fun h=>by cases h),(fun h=>by cases h),(fun h=>by cases h),(fun h=>by cases h),(fun h=>by cases h),(fun h=>by cases h),(fun h=>by cases h),(fun h=>by cases h),(fun h=>by cases h),(fun h=>by cases h),(fun h=>by cases h),(fun h=>by cases h)⟩
 · intro dj a W i hi hdi hcl hdep hI K hK
   obtain ⟨vq0,vq1,vq2,vq3,vq4,vq5,vq6,vq7,vq8,vq9,vq10,rfl,hB,p0,p1,p2,p3,p4,p5,p6,p7,p8,p9,p10,p11⟩:=hI
   have V:=V3.below hB
   obtain rfl | rfl | rfl | rfl | rfl | rfl | rfl | rfl | rfl | rfl | rfl | rfl:i=0∨i=1∨i=2∨i=3∨i=4∨i=5∨i=6∨i=7∨i=8∨i=9∨i=10∨i=11:=by omega
   · simp only [pus]
     have c0:=V.f0 2 rfl
     have c1:=V.f1 2 rfl
     refine any_op (o:=_) rfl rfl ?_
     go_wp2_with fail
     refine hK.out _ _ ?_
     exact ⟨.agg #[.int .i64 (e:Int),.int .i64 (m:Int)],vq1,vq2,vq3,vq4,vq5,vq6,vq7,vq8,vq9,vq10,(by simp only [pus]),hB,(fun _=>rfl),p1,p2,p3,p4,p5,p6,p7,p8,p9,p10,p11⟩
   · simp only [pus]
     refine any_op (o:=_) rfl rfl ?_
     go_wp2_with fail
     refine hK.out _ _ ?_
     exact ⟨vq0,.pointer (some ⟨W2.heap.size,0,none⟩),vq2,vq3,vq4,vq5,vq6,vq7,vq8,vq9,vq10,(by simp only [pus]),hB,p0,(fun _=>rfl),p2,p3,p4,p5,p6,p7,p8,p9,p10,p11⟩
   · obtain rfl:=p1 (hdep 1 (by kernel_rfl))
     simp only [pus]
     have c0:=V.s0 0 rfl
     refine any_op (o:=_) rfl rfl ?_
     go_wp2_with fail
     refine hK.out _ _ ?_
     exact ⟨vq0,.pointer (some ⟨W2.heap.size,0,none⟩),.int .u64 SI,vq3,vq4,vq5,vq6,vq7,vq8,vq9,vq10,(by simp only [pus]),hB,p0,(fun _=>rfl),(fun _=>rfl),p3,p4,p5,p6,p7,p8,p9,p10,p11⟩
   · obtain rfl:=p0 (hdep 0 (by kernel_rfl))
     obtain rfl:=p2 (hdep 2 (by kernel_rfl))
     simp only [pus]
     refine any_op (o:=_) rfl rfl ?_
     have hC:=Lib.hid (HUa.out W)
     go_simp
     refine hC.out.mono ?_
     rintro e W2 ⟨x,y,z,rfl,hn,hb⟩
     refine hK.out _ _ ?_
     exact ⟨.agg #[.int .i64 (e:Int),.int .i64 (m:Int)],vq1,.int .u64 SI,.agg #[.slice x y z],vq4,vq5,vq6,vq7,vq8,vq9,vq10,(by simp only [pus]),hB.trans (hb.mono hB.size),(fun _=>rfl),p1,(fun _=>rfl),(fun _=>⟨⟨x,y,z,rfl⟩,hn⟩),p4,p5,p6,p7,(fun h=>(p8 h).below hb),(fun h=>(p9 h).below hb),(fun h h2=>(p10 h h2).below hb),(fun h=>(p11 h).below hb)⟩
   · simp only [pus]
     have c0:=V.f0 2 rfl
     have c1:=V.f1 2 rfl
     refine any_op (o:=_) rfl rfl ?_
     go_wp2_with fail
     refine hK.out _ _ ?_
     exact ⟨vq0,vq1,vq2,vq3,.agg #[.int .i64 (e:Int),.int .i64 (m:Int)],vq5,vq6,vq7,vq8,vq9,vq10,(by simp only [pus]),hB,p0,p1,p2,p3,(fun _=>rfl),p5,p6,p7,p8,p9,p10,p11⟩
   · simp only [pus]
     refine any_op (o:=_) rfl rfl ?_
     go_wp2_with fail
     refine hK.out _ _ ?_
     exact ⟨vq0,vq1,vq2,vq3,vq4,.pointer (some ⟨W2.heap.size,0,none⟩),vq6,vq7,vq8,vq9,vq10,(by simp only [pus]),hB,p0,p1,p2,p3,p4,(fun _=>rfl),p6,p7,p8,p9,p10,p11⟩
   · obtain rfl:=p5 (hdep 5 (by kernel_rfl))
     simp only [pus]
     have c0:=V.s0 0 rfl
     refine any_op (o:=_) rfl rfl ?_
     go_wp2_with fail
     refine hK.out _ _ ?_
     exact ⟨vq0,vq1,vq2,vq3,vq4,.pointer (some ⟨W2.heap.size,0,none⟩),.int .u64 SI,vq7,vq8,vq9,vq10,(by simp only [pus]),hB,p0,p1,p2,p3,p4,(fun _=>rfl),(fun _=>rfl),p7,p8,p9,p10,p11⟩
   · obtain rfl:=p6 (hdep 6 (by kernel_rfl))
     simp only [pus]
     refine any_op (o:=_) rfl rfl ?_
     go_wp2_with fail
     refine hK.out _ _ ?_
     exact ⟨vq0,vq1,vq2,vq3,vq4,vq5,.int .u64 SI,.int .u64 SJ,vq8,vq9,vq10,(by simp only [pus]),hB,p0,p1,p2,p3,p4,p5,(fun _=>rfl),(fun _=>rfl),p8,p9,p10,p11⟩
   · generalize hG:wpOp _ _ _ _ _ _ _=G
     have k3:=p3 (hdep 3 (by kernel_rfl))
     obtain ⟨⟨x3,y3,z3,rfl⟩,n3⟩:=k3
     obtain rfl:=p4 (hdep 4 (by kernel_rfl))
     obtain rfl:=p7 (hdep 7 (by kernel_rfl))
     subst hG
     simp only [pus]
     refine any_op (o:=_) rfl rfl ?_
     have hC:=Lib.hid (HUb.out W)
     go_simp
     refine hC.out.mono ?_
     rintro e W2 ⟨x,y,z,rfl,hn,hb⟩
     refine hK.out _ _ ?_
     exact ⟨vq0,vq1,vq2,.agg #[.slice x3 y3 z3],.agg #[.int .i64 (e:Int),.int .i64 (m:Int)],vq5,vq6,.int .u64 SJ,.agg #[.slice x y z],vq9,vq10,(by simp only [pus]),hB.trans (hb.mono hB.size),p0,p1,p2,(fun _=>(show Nm _ _ _ from ⟨⟨x3,y3,z3,rfl⟩,n3⟩).below hb),(fun _=>rfl),p5,p6,(fun _=>rfl),(fun _=>⟨⟨x,y,z,rfl⟩,hn⟩),(fun h=>(p9 h).below hb),(fun h h2=>(p10 h h2).below hb),(fun h=>(p11 h).below hb)⟩
   · generalize hG:wpOp _ _ _ _ _ _ _=G
     have k3:=p3 (hdep 3 (by kernel_rfl))
     obtain ⟨⟨x3,y3,z3,rfl⟩,n3⟩:=k3
     have k8:=p8 (hdep 8 (by kernel_rfl))
     obtain ⟨⟨x8,y8,z8,rfl⟩,n8⟩:=k8
     subst hG
     simp only [pus]
     refine any_op (o:=_) rfl rfl ?_
     have hC:=Lib.hid (HAd.out W _ _ n3 n8)
     go_simp
     refine hC.out.mono ?_
     rintro e W2 ⟨x,y,z,rfl,hn,hb⟩
     refine hK.out _ _ ?_
     exact ⟨vq0,vq1,vq2,.agg #[.slice x3 y3 z3],vq4,vq5,vq6,vq7,.agg #[.slice x8 y8 z8],.agg #[.slice x y z],vq10,(by simp only [pus]),hB.trans (hb.mono hB.size),p0,p1,p2,(fun _=>(show Nm _ _ _ from ⟨⟨x3,y3,z3,rfl⟩,n3⟩).below hb),p4,p5,p6,p7,(fun _=>(show Nm _ _ _ from ⟨⟨x8,y8,z8,rfl⟩,n8⟩).below hb),(fun _=>⟨⟨x,y,z,rfl⟩,hn⟩),(fun h h2=>(p10 h h2).below hb),(fun h=>absurd (hcl 11 9 (by kernel_rfl) h) (by rw [hdi];simp))⟩
   · simp only [pus]
     refine any_op (o:=_) rfl rfl ?_
     have hb:=below_lit W (.cells #[.slice none 0 0] 25)
     have hnb:Bn W3 (W.alloc (.cells #[.slice none 0 0] 25)) (.pointer (some ⟨W.heap.size,0,none⟩)):=⟨_,rfl,Blk.new W _ _,hB.size⟩
     go_wp2_with fail
     refine hK.out _ _ ?_
     exact ⟨vq0,vq1,vq2,vq3,vq4,vq5,vq6,vq7,vq8,vq9,.pointer (some ⟨W.heap.size,0,none⟩),(by simp only [pus]),hB.trans (hb.mono hB.size),p0,p1,p2,(fun h=>(p3 h).below hb),p4,p5,p6,p7,(fun h=>(p8 h).below hb),(fun h=>(p9 h).below hb),(fun _ _=>hnb),(fun h=>absurd (hcl 11 10 (by kernel_rfl) h) (by rw [hdi];simp))⟩
   · obtain ⟨b,rfl,hk,hl⟩:=p10 (hdep 10 (by kernel_rfl)) hdi
     obtain ⟨⟨x,y,z,rfl⟩,hn⟩:=p9 (hdep 9 (by kernel_rfl))
     simp only [pus]
     have c0:=hk.cell 0;have c1:=hk.frozen 0
     simp only [List.getElem?_toArray,List.getElem?_cons_zero] at c0
     refine any_op (o:=_) rfl rfl ?_
     go_wp2_with fail
     refine hK.out _ _ ?_
     exact ⟨vq0,vq1,vq2,vq3,vq4,vq5,vq6,vq7,vq8,.agg #[.slice x y z],.pointer (some ⟨b,0,none⟩),(by simp only [pus]),(hB.setCell (p:=⟨b,0,none⟩) hl _),p0,p1,p2,(fun h=>(p3 h).put hk),p4,p5,p6,p7,(fun h=>(p8 h).put hk),(fun h=>(p9 h).put hk),(fun _ h=>by rw [upd_self] at h;cases h),(fun _=>⟨b,x,y,z,rfl,rfl,hk.set_ 0 _,hl⟩)⟩
 · intro dj a W4 hd hI
   obtain ⟨vq0,vq1,vq2,vq3,vq4,vq5,vq6,vq7,vq8,vq9,vq10,rfl,hB,p0,p1,p2,p3,p4,p5,p6,p7,p8,p9,p10,p11⟩:=hI
   have V:=V3.below hB
   obtain rfl:=p0 (hd 0 (by omega))
   obtain rfl:=p1 (hd 1 (by omega))
   obtain rfl:=p2 (hd 2 (by omega))
   obtain ⟨⟨xq3,yq3,zq3,rfl⟩,nq3⟩:=p3 (hd 3 (by omega))
   obtain rfl:=p4 (hd 4 (by omega))
   obtain rfl:=p5 (hd 5 (by omega))
   obtain rfl:=p6 (hd 6 (by omega))
   obtain rfl:=p7 (hd 7 (by omega))
   obtain ⟨⟨xq8,yq8,zq8,rfl⟩,nq8⟩:=p8 (hd 8 (by omega))
   obtain ⟨⟨xq9,yq9,zq9,rfl⟩,nq9⟩:=p9 (hd 9 (by omega))
   obtain ⟨bq11,x9,y9,z9,rfl,e9,kq11,lq11⟩:=p11 (hd 11 (by omega))
   cases e9
   clear hd p0 p1 p2 p3 p4 p5 p6 p7 p8 p9 p10 p11 dj
   simp only [pus]
   show wpAny Tryz.prog .any _ _ 0 #[true,true,true,true,true,true,true,true,true,true,true,true] _ _
   have V4':=((V.addbox kq11 (Nat.le_trans V3.bel.size lq11)).cons nq9 (w_up HMD.out (by omega)))
   have hlt3:W2.heap.size < W3.heap.size:=(V3.box 0 _ _ _ rfl).1.lt
   have hb11:W3.heap.size≤bq11:=lq11
   clear V V3 nq3 nq8 nq9 kq11 lq11 hB
   refine ⟨by kernel_rfl,?_⟩
   have V4:=V4'
   clear V4' q0 q1
   go_wp2_with fail
   refine wp_region_inv 9 (fun a0 dj a W=>∃ vy0 vy1 vy2 vy3 vy4 vy5 vy6 vy7 vy8:Value,a=puts a0 [(24,vy0),(25,vy1),(26,vy2),(27,vy3),(28,vy4),(29,vy5),(30,vy6),(31,vy7),(7,vy8)]∧Below W4.heap.size W4 W∧(dj 0=true→vy0=.pointer (some ⟨W2.heap.size,2,none⟩))∧(dj 1=true→vy1=.agg #[.slice pa na ca])∧(dj 2=true→Nm W vy2 (U2))∧(dj 3=true→vy3=.agg #[.slice xq9 yq9 zq9])∧(dj 4=true→vy4=.pointer (some ⟨W2.heap.size,3,none⟩))∧(dj 5=true→vy5=.agg #[.slice pb nb cb])∧(dj 6=true→Nm W vy6 (PR))∧(dj 7=true→vy7=.int .i64 C)∧(dj 8=true→vy8=.int .i64 C)) (by kernel_rfl) (by kernel_rfl) (by kernel_rfl) ?_ ?_ ?_ ?_
   · intro dj hcl i hi1 hi2 hd j hj
     exact absurd (Nat.lt_of_lt_of_le hi2 (of_decide_eq_true (by kernel_rfl))) (Nat.not_lt.2 hi1)
   · refine ⟨undef,undef,undef,undef,undef,undef,undef,undef,undef,(by simp only [pus]),(Below.refl _ _).drew,(fun h=>by cases h),(fun h=>by cases h),(fun h=>by cases h),(fun h=>by cases h),(fun h=>by cases h),(fun h=>by cases h),(fun h=>by cases h),(fun h=>by cases h),(fun h=>by cases h)⟩
   · intro dj a W i hi hdi hcl hdep hI K hK
     obtain ⟨vy0,vy1,vy2,vy3,vy4,vy5,vy6,vy7,vy8,rfl,hB,p0,p1,p2,p3,p4,p5,p6,p7,p8⟩:=hI
     have V:=V4.below hB
     obtain rfl | rfl | rfl | rfl | rfl | rfl | rfl | rfl | rfl:i=0∨i=1∨i=2∨i=3∨i=4∨i=5∨i=6∨i=7∨i=8:=by omega
     · simp only [pus]
       refine any_op (o:=_) rfl rfl ?_
       go_wp2_with fail
       refine hK.out _ _ ?_
       exact ⟨.pointer (some ⟨W2.heap.size,2,none⟩),vy1,vy2,vy3,vy4,vy5,vy6,vy7,vy8,(by simp only [pus]),hB,(fun _=>rfl),p1,p2,p3,p4,p5,p6,p7,p8⟩
     · obtain rfl:=p0 (hdep 0 (by kernel_rfl))
       simp only [pus]
       have c0:=V.s2 1 rfl
       refine any_op (o:=_) rfl rfl ?_
       go_wp2_with fail
       refine hK.out _ _ ?_
       exact ⟨.pointer (some ⟨W2.heap.size,2,none⟩),.agg #[.slice pa na ca],vy2,vy3,vy4,vy5,vy6,vy7,vy8,(by simp only [pus]),hB,(fun _=>rfl),(fun _=>rfl),p2,p3,p4,p5,p6,p7,p8⟩
     · obtain rfl:=p1 (hdep 1 (by kernel_rfl))
       simp only [pus]
       refine any_op (o:=_) rfl rfl ?_
       have hC:=Lib.hid (HSh.out W _ (V.num 2 _ _ rfl).1)
       go_simp
       refine hC.out.mono ?_
       rintro e W2 ⟨x,y,z,rfl,hn,hb⟩
       refine hK.out _ _ ?_
       exact ⟨vy0,.agg #[.slice pa na ca],.agg #[.slice x y z],vy3,vy4,vy5,vy6,vy7,vy8,(by simp only [pus]),hB.trans (hb.mono hB.size),p0,(fun _=>rfl),(fun _=>⟨⟨x,y,z,rfl⟩,hn⟩),p3,p4,p5,(fun h=>(p6 h).below hb),p7,p8⟩
     · simp only [pus]
       have c0:=V.n0 0 rfl
       refine any_op (o:=_) rfl rfl ?_
       go_wp2_with fail
       refine hK.out _ _ ?_
       exact ⟨vy0,vy1,vy2,.agg #[.slice xq9 yq9 zq9],vy4,vy5,vy6,vy7,vy8,(by simp only [pus]),hB,p0,p1,p2,(fun _=>rfl),p4,p5,p6,p7,p8⟩
     · simp only [pus]
       refine any_op (o:=_) rfl rfl ?_
       go_wp2_with fail
       refine hK.out _ _ ?_
       exact ⟨vy0,vy1,vy2,vy3,.pointer (some ⟨W2.heap.size,3,none⟩),vy5,vy6,vy7,vy8,(by simp only [pus]),hB,p0,p1,p2,p3,(fun _=>rfl),p5,p6,p7,p8⟩
     · obtain rfl:=p4 (hdep 4 (by kernel_rfl))
       simp only [pus]
       have c0:=V.s3 1 rfl
       refine any_op (o:=_) rfl rfl ?_
       go_wp2_with fail
       refine hK.out _ _ ?_
       exact ⟨vy0,vy1,vy2,vy3,.pointer (some ⟨W2.heap.size,3,none⟩),.agg #[.slice pb nb cb],vy6,vy7,vy8,(by simp only [pus]),hB,p0,p1,p2,p3,(fun _=>rfl),(fun _=>rfl),p6,p7,p8⟩
     · generalize hG:wpOp _ _ _ _ _ _ _=G
       have k2:=p2 (hdep 2 (by kernel_rfl))
       obtain ⟨⟨x2,y2,z2,rfl⟩,n2⟩:=k2
       obtain rfl:=p3 (hdep 3 (by kernel_rfl))
       obtain rfl:=p5 (hdep 5 (by kernel_rfl))
       subst hG
       simp only [pus]
       refine any_op (o:=_) rfl rfl ?_
       have hC:=Lib.hid (HMu.out W _ _ (V.num 0 _ _ rfl).1 (V.num 1 _ _ rfl).1)
       go_simp
       refine hC.out.mono ?_
       rintro e W2 ⟨x,y,z,rfl,hn,hb⟩
       refine hK.out _ _ ?_
       exact ⟨vy0,vy1,.agg #[.slice x2 y2 z2],.agg #[.slice xq9 yq9 zq9],vy4,.agg #[.slice pb nb cb],.agg #[.slice x y z],vy7,vy8,(by simp only [pus]),hB.trans (hb.mono hB.size),p0,p1,(fun _=>(show Nm _ _ _ from ⟨⟨x2,y2,z2,rfl⟩,n2⟩).below hb),(fun _=>rfl),p4,(fun _=>rfl),(fun _=>⟨⟨x,y,z,rfl⟩,hn⟩),p7,p8⟩
     · generalize hG:wpOp _ _ _ _ _ _ _=G
       have k2:=p2 (hdep 2 (by kernel_rfl))
       obtain ⟨⟨x2,y2,z2,rfl⟩,n2⟩:=k2
       have k6:=p6 (hdep 6 (by kernel_rfl))
       obtain ⟨⟨x6,y6,z6,rfl⟩,n6⟩:=k6
       subst hG
       simp only [pus]
       refine any_op (o:=_) rfl rfl ?_
       have hC:=Lib.hid (HC.out W _ _ n2 n6)
       go_simp
       refine hC.out.mono ?_
       rintro e W2 ⟨rfl,hb⟩
       refine hK.out _ _ ?_
       exact ⟨vy0,vy1,.agg #[.slice x2 y2 z2],vy3,vy4,vy5,.agg #[.slice x6 y6 z6],.int .i64 C,vy8,(by simp only [pus]),hB.trans (hb.mono hB.size),p0,p1,(fun _=>(show Nm _ _ _ from ⟨⟨x2,y2,z2,rfl⟩,n2⟩).below hb),p3,p4,p5,(fun _=>(show Nm _ _ _ from ⟨⟨x6,y6,z6,rfl⟩,n6⟩).below hb),(fun _=>rfl),p8⟩
     · generalize hG:wpOp _ _ _ _ _ _ _=G
       obtain rfl:=p0 (hdep 0 (by kernel_rfl))
       obtain rfl:=p1 (hdep 1 (by kernel_rfl))
       have k2:=p2 (hdep 2 (by kernel_rfl))
       obtain ⟨⟨x2,y2,z2,rfl⟩,n2⟩:=k2
       obtain rfl:=p3 (hdep 3 (by kernel_rfl))
       obtain rfl:=p4 (hdep 4 (by kernel_rfl))
       obtain rfl:=p5 (hdep 5 (by kernel_rfl))
       have k6:=p6 (hdep 6 (by kernel_rfl))
       obtain ⟨⟨x6,y6,z6,rfl⟩,n6⟩:=k6
       obtain rfl:=p7 (hdep 7 (by kernel_rfl))
       subst hG
       simp only [pus]
       refine any_op (o:=_) rfl rfl ?_
       go_wp2_with fail
       refine hK.out _ _ ?_
       exact ⟨.pointer (some ⟨W2.heap.size,2,none⟩),.agg #[.slice pa na ca],.agg #[.slice x2 y2 z2],.agg #[.slice xq9 yq9 zq9],.pointer (some ⟨W2.heap.size,3,none⟩),.agg #[.slice pb nb cb],.agg #[.slice x6 y6 z6],.int .i64 C,.int .i64 C,(by simp only [pus]),hB,(fun _=>rfl),(fun _=>rfl),(fun _=>⟨⟨x2,y2,z2,rfl⟩,n2⟩),(fun _=>rfl),(fun _=>rfl),(fun _=>rfl),(fun _=>⟨⟨x6,y6,z6,rfl⟩,n6⟩),(fun _=>rfl),(fun _=>rfl)⟩
   · intro dj a W5 hd hI
     obtain ⟨vy0,vy1,vy2,vy3,vy4,vy5,vy6,vy7,vy8,rfl,hB,p0,p1,p2,p3,p4,p5,p6,p7,p8⟩:=hI
     have V:=V4.below hB
     obtain rfl:=p0 (hd 0 (by omega))
     obtain rfl:=p1 (hd 1 (by omega))
     obtain ⟨⟨xy2,yy2,zy2,rfl⟩,ny2⟩:=p2 (hd 2 (by omega))
     obtain rfl:=p3 (hd 3 (by omega))
     obtain rfl:=p4 (hd 4 (by omega))
     obtain rfl:=p5 (hd 5 (by omega))
     obtain ⟨⟨xy6,yy6,zy6,rfl⟩,ny6⟩:=p6 (hd 6 (by omega))
     obtain rfl:=p7 (hd 7 (by omega))
     obtain rfl:=p8 (hd 8 (by omega))
     clear hd p0 p1 p2 p3 p4 p5 p6 p7 p8 dj
     simp only [pus]
     show wpAny Tryz.prog .any _ _ 0 #[true,true,true,true,true,true,true,true,true] _ _
     refine ⟨by kernel_rfl,?_⟩
     have V5:=V
     clear V V4 hB ny2 ny6
     have hdst:∀ (cs:Array Value) (k' b':Nat) (t':TypeId) (cs':Array Value),[(bq11,25,#[Value.slice xq9 yq9 zq9]),(W2.heap.size,118,cs),(w.heap.size + 1,27,#[.bool zs,.slice p n c,.slice p' n' c']),(w.heap.size,63,#[.int .i64 (e:Int),.int .i64 (m:Int)])][k']?=some (b',t',cs')→k'≠1→b'≠W2.heap.size:=fun cs k' b' t' cs' e hne=>by
      match k' with
      | 0=>simp at e;omega
      | 1=>exact absurd rfl hne
      | 2=>simp at e;omega
      | 3=>simp at e;omega
      | k + 4=>simp at e
     have Hdst:=Lib.hid hdst
     have HBel:=Lib.hid True.intro
     clear hdst hb11 hlt2 hlt3
     by_cases h1:0 < C
     · have d1:decide (0 < C)=true:=decide_eq_true h1
       have hnu:NU=true:=by
        rw [Hnup.out]
        exact decide_eq_true (.inl (Hcm.out.1 h1))
       have HEnd:Hid (∀ w',Below w.heap.size w w'→T (.returned (.int .u64 PY)) w'):=Lib.hid (HYes.out hnu)
       have HPt:=HPy
       have V6a:=V5.bare.putN 1 0 rfl (Hdst.out _) (.int .u64 SJ)
       obtain ⟨W6,hW6⟩:∃ W6,W5.setCell ⟨W2.heap.size,0,none⟩ (.int .u64 SJ)=W6:=⟨_,rfl⟩
       rw [hW6] at V6a
       have V6:=Mq.rcons (x:=x) (v:=.agg #[.bool zs,.slice p n c,.slice p' n' c']) V6a (HRx.out.below V6a.bel (Nat.le_refl _))
       have hSJ:=HSJ.out
       clear HNo HYes HPn HPy Hnup Hcm hnu V6a HRx Hdst HBel
       clear h1
       have q0:=V5.s0 1 rfl;have f0:=V5.frozen 1 0 rfl
       clear V5
       go_wp2_with fail
       clear q0 f0 hSJ
       refine wp_region_inv 7 (fun a0 dj a W=>∃ vz0 vz1 vz2 vz3 vz4 vz5 vz6:Value,a=puts a0 [(48,vz0),(49,vz1),(50,vz2),(51,vz3),(52,vz4),(53,vz5),(4,vz6)]∧Below W6.heap.size W6 W∧(dj 0=true→vz0=.agg #[.int .i64 (e:Int),.int .i64 (m:Int)])∧(dj 1=true→vz1=.agg #[.bool zs,.slice p n c,.slice p' n' c'])∧(dj 2=true→vz2=.bool zs)∧(dj 3=true→vz3=.pointer (some ⟨W2.heap.size,0,none⟩))∧(dj 4=true→vz4=.int .u64 SJ)∧(dj 5=true→vz5=.int .u64 PY)∧(dj 6=true→vz6=.int .u64 PY)) (by kernel_rfl) (by kernel_rfl) (by kernel_rfl) ?_ ?_ ?_ ?_
       · intro dj hcl i hi1 hi2 hd j hj
         exact absurd (Nat.lt_of_lt_of_le hi2 (of_decide_eq_true (by kernel_rfl))) (Nat.not_lt.2 hi1)
       · refine ⟨undef,undef,undef,undef,undef,undef,.int .u64 0,(by simp only [pus]),(Below.refl _ _).drew,(fun h=>by cases h),(fun h=>by cases h),(fun h=>by cases h),(fun h=>by cases h),(fun h=>by cases h),(fun h=>by cases h),(fun h=>by cases h)⟩
       · intro dj a W i hi hdi hcl hdep hI K hK
         obtain ⟨vz0,vz1,vz2,vz3,vz4,vz5,vz6,rfl,hB,p0,p1,p2,p3,p4,p5,p6⟩:=hI
         have V:=V6.below hB
         obtain rfl | rfl | rfl | rfl | rfl | rfl | rfl:i=0∨i=1∨i=2∨i=3∨i=4∨i=5∨i=6:=by omega
         · simp only [pus]
           have c0:=V.f0 3 rfl
           have c1:=V.f1 3 rfl
           refine any_op (o:=_) rfl rfl ?_
           go_wp2_with fail
           refine hK.out _ _ ?_
           exact ⟨.agg #[.int .i64 (e:Int),.int .i64 (m:Int)],vz1,vz2,vz3,vz4,vz5,vz6,(by simp only [pus]),hB,(fun _=>rfl),p1,p2,p3,p4,p5,p6⟩
         · simp only [pus]
           have c0:=V.c0 2 rfl
           have c1:=V.c1 2 rfl
           have c2:=V.c2 2 rfl
           refine any_op (o:=_) rfl rfl ?_
           go_wp2_with fail
           refine hK.out _ _ ?_
           exact ⟨vz0,.agg #[.bool zs,.slice p n c,.slice p' n' c'],vz2,vz3,vz4,vz5,vz6,(by simp only [pus]),hB,p0,(fun _=>rfl),p2,p3,p4,p5,p6⟩
         · obtain rfl:=p1 (hdep 1 (by kernel_rfl))
           simp only [pus]
           refine any_op (o:=_) rfl rfl ?_
           have hC:=Lib.hid (HNg.out W _ (V.rat 0 _ _ rfl))
           go_simp
           refine hC.out.mono ?_
           rintro e W2 ⟨rfl,hb⟩
           refine hK.out _ _ ?_
           exact ⟨vz0,.agg #[.bool zs,.slice p n c,.slice p' n' c'],.bool zs,vz3,vz4,vz5,vz6,(by simp only [pus]),hB.trans (hb.mono hB.size),p0,(fun _=>rfl),(fun _=>rfl),p3,p4,p5,p6⟩
         · simp only [pus]
           refine any_op (o:=_) rfl rfl ?_
           go_wp2_with fail
           refine hK.out _ _ ?_
           exact ⟨vz0,vz1,vz2,.pointer (some ⟨W2.heap.size,0,none⟩),vz4,vz5,vz6,(by simp only [pus]),hB,p0,p1,p2,(fun _=>rfl),p4,p5,p6⟩
         · obtain rfl:=p3 (hdep 3 (by kernel_rfl))
           simp only [pus]
           have c0:=V.s0 1 rfl
           refine any_op (o:=_) rfl rfl ?_
           go_wp2_with fail
           refine hK.out _ _ ?_
           exact ⟨vz0,vz1,vz2,.pointer (some ⟨W2.heap.size,0,none⟩),.int .u64 SJ,vz5,vz6,(by simp only [pus]),hB,p0,p1,p2,(fun _=>rfl),(fun _=>rfl),p5,p6⟩
         · obtain rfl:=p0 (hdep 0 (by kernel_rfl))
           obtain rfl:=p2 (hdep 2 (by kernel_rfl))
           obtain rfl:=p4 (hdep 4 (by kernel_rfl))
           simp only [pus]
           refine any_op (o:=_) rfl rfl ?_
           have hC:=Lib.hid (HPt.out W)
           go_simp
           refine hC.out.mono ?_
           rintro e W2 ⟨rfl,hb⟩
           refine hK.out _ _ ?_
           exact ⟨.agg #[.int .i64 (e:Int),.int .i64 (m:Int)],vz1,.bool zs,vz3,.int .u64 SJ,.int .u64 PY,vz6,(by simp only [pus]),hB.trans (hb.mono hB.size),(fun _=>rfl),p1,(fun _=>rfl),p3,(fun _=>rfl),(fun _=>rfl),p6⟩
         · obtain rfl:=p0 (hdep 0 (by kernel_rfl))
           obtain rfl:=p1 (hdep 1 (by kernel_rfl))
           obtain rfl:=p2 (hdep 2 (by kernel_rfl))
           obtain rfl:=p3 (hdep 3 (by kernel_rfl))
           obtain rfl:=p4 (hdep 4 (by kernel_rfl))
           obtain rfl:=p5 (hdep 5 (by kernel_rfl))
           simp only [pus]
           refine any_op (o:=_) rfl rfl ?_
           go_wp2_with fail
           refine hK.out _ _ ?_
           exact ⟨.agg #[.int .i64 (e:Int),.int .i64 (m:Int)],.agg #[.bool zs,.slice p n c,.slice p' n' c'],.bool zs,.pointer (some ⟨W2.heap.size,0,none⟩),.int .u64 SJ,.int .u64 PY,.int .u64 PY,(by simp only [pus]),hB,(fun _=>rfl),(fun _=>rfl),(fun _=>rfl),(fun _=>rfl),(fun _=>rfl),(fun _=>rfl),(fun _=>rfl)⟩
       · intro dj a W hd hI
         obtain ⟨vz0,vz1,vz2,vz3,vz4,vz5,vz6,rfl,hB,p0,p1,p2,p3,p4,p5,p6⟩:=hI
         have V:=V6.below hB
         obtain rfl:=p0 (hd 0 (by omega))
         obtain rfl:=p1 (hd 1 (by omega))
         obtain rfl:=p2 (hd 2 (by omega))
         obtain rfl:=p3 (hd 3 (by omega))
         obtain rfl:=p4 (hd 4 (by omega))
         obtain rfl:=p5 (hd 5 (by omega))
         obtain rfl:=p6 (hd 6 (by omega))
         clear hd p0 p1 p2 p3 p4 p5 p6 dj
         simp only [pus]
         show wpAny Tryz.prog .any _ _ 0 #[true,true,true,true,true,true,true] _ _
         have HB:=Lib.hid V.bel
         clear V
         refine ⟨by kernel_rfl,?_⟩
         go_wp2_with fail
         exact HEnd.out _ HB.out
     · have d1:decide (0 < C)=false:=decide_eq_false h1
       by_cases h2:C=0
       · have d2:(C == 0)=true:=by rw [h2];rfl
         have h3:U2=PR:=of_decide_eq_true (by rw [← Hcm.out.2.1,d2])
         by_cases h4:s % 2=1
         · have d3:bits .and .u64 SI 1=1:=by rw [Hand.out,Nat.pow_one,h4];rfl
           have hnu:NU=true:=by
            rw [Hnup.out]
            exact decide_eq_true (.inr ⟨h3.symm,h4⟩)
           have HEnd:Hid (∀ w',Below w.heap.size w w'→T (.returned (.int .u64 PY)) w'):=Lib.hid (HYes.out hnu)
           have HPt:=HPy
           have V6a:=V5.bare.putN 1 0 rfl (Hdst.out _) (.int .u64 SJ)
           obtain ⟨W6,hW6⟩:∃ W6,W5.setCell ⟨W2.heap.size,0,none⟩ (.int .u64 SJ)=W6:=⟨_,rfl⟩
           rw [hW6] at V6a
           have V6:=Mq.rcons (x:=x) (v:=.agg #[.bool zs,.slice p n c,.slice p' n' c']) V6a (HRx.out.below V6a.bel (Nat.le_refl _))
           have hSJ:=HSJ.out
           clear HNo HYes HPn HPy Hnup Hcm hnu V6a HRx Hdst HBel
           clear h1 h2 h3 h4
           have q0:=V5.s0 1 rfl;have f0:=V5.frozen 1 0 rfl
           clear V5
           go_wp2_with fail
           clear q0 f0 hSJ
           refine wp_region_inv 7 (fun a0 dj a W=>∃ vz0 vz1 vz2 vz3 vz4 vz5 vz6:Value,a=puts a0 [(48,vz0),(49,vz1),(50,vz2),(51,vz3),(52,vz4),(53,vz5),(4,vz6)]∧Below W6.heap.size W6 W∧(dj 0=true→vz0=.agg #[.int .i64 (e:Int),.int .i64 (m:Int)])∧(dj 1=true→vz1=.agg #[.bool zs,.slice p n c,.slice p' n' c'])∧(dj 2=true→vz2=.bool zs)∧(dj 3=true→vz3=.pointer (some ⟨W2.heap.size,0,none⟩))∧(dj 4=true→vz4=.int .u64 SJ)∧(dj 5=true→vz5=.int .u64 PY)∧(dj 6=true→vz6=.int .u64 PY)) (by kernel_rfl) (by kernel_rfl) (by kernel_rfl) ?_ ?_ ?_ ?_
           · intro dj hcl i hi1 hi2 hd j hj
             exact absurd (Nat.lt_of_lt_of_le hi2 (of_decide_eq_true (by kernel_rfl))) (Nat.not_lt.2 hi1)
           · refine ⟨undef,undef,undef,undef,undef,undef,.int .u64 0,(by simp only [pus]),(Below.refl _ _).drew,(fun h=>by cases h),(fun h=>by cases h),(fun h=>by cases h),(fun h=>by cases h),(fun h=>by cases h),(fun h=>by cases h),(fun h=>by cases h)⟩
           · intro dj a W i hi hdi hcl hdep hI K hK
             obtain ⟨vz0,vz1,vz2,vz3,vz4,vz5,vz6,rfl,hB,p0,p1,p2,p3,p4,p5,p6⟩:=hI
             have V:=V6.below hB
             obtain rfl | rfl | rfl | rfl | rfl | rfl | rfl:i=0∨i=1∨i=2∨i=3∨i=4∨i=5∨i=6:=by omega
             · simp only [pus]
               have c0:=V.f0 3 rfl
               have c1:=V.f1 3 rfl
               refine any_op (o:=_) rfl rfl ?_
               go_wp2_with fail
               refine hK.out _ _ ?_
               exact ⟨.agg #[.int .i64 (e:Int),.int .i64 (m:Int)],vz1,vz2,vz3,vz4,vz5,vz6,(by simp only [pus]),hB,(fun _=>rfl),p1,p2,p3,p4,p5,p6⟩
             · simp only [pus]
               have c0:=V.c0 2 rfl
               have c1:=V.c1 2 rfl
               have c2:=V.c2 2 rfl
               refine any_op (o:=_) rfl rfl ?_
               go_wp2_with fail
               refine hK.out _ _ ?_
               exact ⟨vz0,.agg #[.bool zs,.slice p n c,.slice p' n' c'],vz2,vz3,vz4,vz5,vz6,(by simp only [pus]),hB,p0,(fun _=>rfl),p2,p3,p4,p5,p6⟩
             · obtain rfl:=p1 (hdep 1 (by kernel_rfl))
               simp only [pus]
               refine any_op (o:=_) rfl rfl ?_
               have hC:=Lib.hid (HNg.out W _ (V.rat 0 _ _ rfl))
               go_simp
               refine hC.out.mono ?_
               rintro e W2 ⟨rfl,hb⟩
               refine hK.out _ _ ?_
               exact ⟨vz0,.agg #[.bool zs,.slice p n c,.slice p' n' c'],.bool zs,vz3,vz4,vz5,vz6,(by simp only [pus]),hB.trans (hb.mono hB.size),p0,(fun _=>rfl),(fun _=>rfl),p3,p4,p5,p6⟩
             · simp only [pus]
               refine any_op (o:=_) rfl rfl ?_
               go_wp2_with fail
               refine hK.out _ _ ?_
               exact ⟨vz0,vz1,vz2,.pointer (some ⟨W2.heap.size,0,none⟩),vz4,vz5,vz6,(by simp only [pus]),hB,p0,p1,p2,(fun _=>rfl),p4,p5,p6⟩
             · obtain rfl:=p3 (hdep 3 (by kernel_rfl))
               simp only [pus]
               have c0:=V.s0 1 rfl
               refine any_op (o:=_) rfl rfl ?_
               go_wp2_with fail
               refine hK.out _ _ ?_
               exact ⟨vz0,vz1,vz2,.pointer (some ⟨W2.heap.size,0,none⟩),.int .u64 SJ,vz5,vz6,(by simp only [pus]),hB,p0,p1,p2,(fun _=>rfl),(fun _=>rfl),p5,p6⟩
             · obtain rfl:=p0 (hdep 0 (by kernel_rfl))
               obtain rfl:=p2 (hdep 2 (by kernel_rfl))
               obtain rfl:=p4 (hdep 4 (by kernel_rfl))
               simp only [pus]
               refine any_op (o:=_) rfl rfl ?_
               have hC:=Lib.hid (HPt.out W)
               go_simp
               refine hC.out.mono ?_
               rintro e W2 ⟨rfl,hb⟩
               refine hK.out _ _ ?_
               exact ⟨.agg #[.int .i64 (e:Int),.int .i64 (m:Int)],vz1,.bool zs,vz3,.int .u64 SJ,.int .u64 PY,vz6,(by simp only [pus]),hB.trans (hb.mono hB.size),(fun _=>rfl),p1,(fun _=>rfl),p3,(fun _=>rfl),(fun _=>rfl),p6⟩
             · obtain rfl:=p0 (hdep 0 (by kernel_rfl))
               obtain rfl:=p1 (hdep 1 (by kernel_rfl))
               obtain rfl:=p2 (hdep 2 (by kernel_rfl))
               obtain rfl:=p3 (hdep 3 (by kernel_rfl))
               obtain rfl:=p4 (hdep 4 (by kernel_rfl))
               obtain rfl:=p5 (hdep 5 (by kernel_rfl))
               simp only [pus]
               refine any_op (o:=_) rfl rfl ?_
               go_wp2_with fail
               refine hK.out _ _ ?_
               exact ⟨.agg #[.int .i64 (e:Int),.int .i64 (m:Int)],.agg #[.bool zs,.slice p n c,.slice p' n' c'],.bool zs,.pointer (some ⟨W2.heap.size,0,none⟩),.int .u64 SJ,.int .u64 PY,.int .u64 PY,(by simp only [pus]),hB,(fun _=>rfl),(fun _=>rfl),(fun _=>rfl),(fun _=>rfl),(fun _=>rfl),(fun _=>rfl),(fun _=>rfl)⟩
           · intro dj a W hd hI
             obtain ⟨vz0,vz1,vz2,vz3,vz4,vz5,vz6,rfl,hB,p0,p1,p2,p3,p4,p5,p6⟩:=hI
             have V:=V6.below hB
             obtain rfl:=p0 (hd 0 (by omega))
             obtain rfl:=p1 (hd 1 (by omega))
             obtain rfl:=p2 (hd 2 (by omega))
             obtain rfl:=p3 (hd 3 (by omega))
             obtain rfl:=p4 (hd 4 (by omega))
             obtain rfl:=p5 (hd 5 (by omega))
             obtain rfl:=p6 (hd 6 (by omega))
             clear hd p0 p1 p2 p3 p4 p5 p6 dj
             simp only [pus]
             show wpAny Tryz.prog .any _ _ 0 #[true,true,true,true,true,true,true] _ _
             have HB:=Lib.hid V.bel
             clear V
             refine ⟨by kernel_rfl,?_⟩
             go_wp2_with fail
             exact HEnd.out _ HB.out
         · have d3:bits .and .u64 SI 1=0:=by rw [Hand.out,Nat.pow_one,show s % 2=0 by omega];rfl
           have hnu:NU=false:=by
            rw [Hnup.out]
            exact decide_eq_false (fun h=>by
             rcases h with h | ⟨h,h9⟩
             · have:=Hcm.out.2.2 h;omega
             · exact h4 h9)
           have HEnd:Hid (∀ w',Below w.heap.size w w'→T (.returned (.int .u64 PN)) w'):=Lib.hid (HNo.out hnu)
           have HPt:=HPn
           obtain ⟨PT,hPT⟩:∃ x,PN=x:=⟨_,rfl⟩
           subst hPT
           clear HNo HYes HPn HPy Hnup Hcm hnu HRx Hdst HBel
           clear h1 h2 h3 h4
           have q0:=V5.s0 1 rfl
           go_wp2_with fail
           clear q0
           refine wp_region_inv 7 (fun a0 dj a W=>∃ vz0 vz1 vz2 vz3 vz4 vz5 vz6:Value,a=puts a0 [(48,vz0),(49,vz1),(50,vz2),(51,vz3),(52,vz4),(53,vz5),(4,vz6)]∧Below W5.heap.size W5 W∧(dj 0=true→vz0=.agg #[.int .i64 (e:Int),.int .i64 (m:Int)])∧(dj 1=true→vz1=.agg #[.bool zs,.slice p n c,.slice p' n' c'])∧(dj 2=true→vz2=.bool zs)∧(dj 3=true→vz3=.pointer (some ⟨W2.heap.size,0,none⟩))∧(dj 4=true→vz4=.int .u64 SI)∧(dj 5=true→vz5=.int .u64 PN)∧(dj 6=true→vz6=.int .u64 PN)) (by kernel_rfl) (by kernel_rfl) (by kernel_rfl) ?_ ?_ ?_ ?_
           · intro dj hcl i hi1 hi2 hd j hj
             exact absurd (Nat.lt_of_lt_of_le hi2 (of_decide_eq_true (by kernel_rfl))) (Nat.not_lt.2 hi1)
           · refine ⟨undef,undef,undef,undef,undef,undef,.int .u64 0,(by simp only [pus]),(Below.refl _ _).drew,(fun h=>by cases h),(fun h=>by cases h),(fun h=>by cases h),(fun h=>by cases h),(fun h=>by cases h),(fun h=>by cases h),(fun h=>by cases h)⟩
           · intro dj a W i hi hdi hcl hdep hI K hK
             obtain ⟨vz0,vz1,vz2,vz3,vz4,vz5,vz6,rfl,hB,p0,p1,p2,p3,p4,p5,p6⟩:=hI
             have V:=V5.below hB
             obtain rfl | rfl | rfl | rfl | rfl | rfl | rfl:i=0∨i=1∨i=2∨i=3∨i=4∨i=5∨i=6:=by omega
             · simp only [pus]
               have c0:=V.f0 3 rfl
               have c1:=V.f1 3 rfl
               refine any_op (o:=_) rfl rfl ?_
               go_wp2_with fail
               refine hK.out _ _ ?_
               exact ⟨.agg #[.int .i64 (e:Int),.int .i64 (m:Int)],vz1,vz2,vz3,vz4,vz5,vz6,(by simp only [pus]),hB,(fun _=>rfl),p1,p2,p3,p4,p5,p6⟩
             · simp only [pus]
               have c0:=V.c0 2 rfl
               have c1:=V.c1 2 rfl
               have c2:=V.c2 2 rfl
               refine any_op (o:=_) rfl rfl ?_
               go_wp2_with fail
               refine hK.out _ _ ?_
               exact ⟨vz0,.agg #[.bool zs,.slice p n c,.slice p' n' c'],vz2,vz3,vz4,vz5,vz6,(by simp only [pus]),hB,p0,(fun _=>rfl),p2,p3,p4,p5,p6⟩
             · obtain rfl:=p1 (hdep 1 (by kernel_rfl))
               simp only [pus]
               refine any_op (o:=_) rfl rfl ?_
               have hC:=Lib.hid (HNg.out W _ (V.rat 0 _ _ rfl))
               go_simp
               refine hC.out.mono ?_
               rintro e W2 ⟨rfl,hb⟩
               refine hK.out _ _ ?_
               exact ⟨vz0,.agg #[.bool zs,.slice p n c,.slice p' n' c'],.bool zs,vz3,vz4,vz5,vz6,(by simp only [pus]),hB.trans (hb.mono hB.size),p0,(fun _=>rfl),(fun _=>rfl),p3,p4,p5,p6⟩
             · simp only [pus]
               refine any_op (o:=_) rfl rfl ?_
               go_wp2_with fail
               refine hK.out _ _ ?_
               exact ⟨vz0,vz1,vz2,.pointer (some ⟨W2.heap.size,0,none⟩),vz4,vz5,vz6,(by simp only [pus]),hB,p0,p1,p2,(fun _=>rfl),p4,p5,p6⟩
             · obtain rfl:=p3 (hdep 3 (by kernel_rfl))
               simp only [pus]
               have c0:=V.s0 1 rfl
               refine any_op (o:=_) rfl rfl ?_
               go_wp2_with fail
               refine hK.out _ _ ?_
               exact ⟨vz0,vz1,vz2,.pointer (some ⟨W2.heap.size,0,none⟩),.int .u64 SI,vz5,vz6,(by simp only [pus]),hB,p0,p1,p2,(fun _=>rfl),(fun _=>rfl),p5,p6⟩
             · obtain rfl:=p0 (hdep 0 (by kernel_rfl))
               obtain rfl:=p2 (hdep 2 (by kernel_rfl))
               obtain rfl:=p4 (hdep 4 (by kernel_rfl))
               simp only [pus]
               refine any_op (o:=_) rfl rfl ?_
               have hC:=Lib.hid (HPt.out W)
               go_simp
               refine hC.out.mono ?_
               rintro e W2 ⟨rfl,hb⟩
               refine hK.out _ _ ?_
               exact ⟨.agg #[.int .i64 (e:Int),.int .i64 (m:Int)],vz1,.bool zs,vz3,.int .u64 SI,.int .u64 PN,vz6,(by simp only [pus]),hB.trans (hb.mono hB.size),(fun _=>rfl),p1,(fun _=>rfl),p3,(fun _=>rfl),(fun _=>rfl),p6⟩
             · obtain rfl:=p0 (hdep 0 (by kernel_rfl))
               obtain rfl:=p1 (hdep 1 (by kernel_rfl))
               obtain rfl:=p2 (hdep 2 (by kernel_rfl))
               obtain rfl:=p3 (hdep 3 (by kernel_rfl))
               obtain rfl:=p4 (hdep 4 (by kernel_rfl))
               obtain rfl:=p5 (hdep 5 (by kernel_rfl))
               simp only [pus]
               refine any_op (o:=_) rfl rfl ?_
               go_wp2_with fail
               refine hK.out _ _ ?_
               exact ⟨.agg #[.int .i64 (e:Int),.int .i64 (m:Int)],.agg #[.bool zs,.slice p n c,.slice p' n' c'],.bool zs,.pointer (some ⟨W2.heap.size,0,none⟩),.int .u64 SI,.int .u64 PN,.int .u64 PN,(by simp only [pus]),hB,(fun _=>rfl),(fun _=>rfl),(fun _=>rfl),(fun _=>rfl),(fun _=>rfl),(fun _=>rfl),(fun _=>rfl)⟩
           · intro dj a W hd hI
             obtain ⟨vz0,vz1,vz2,vz3,vz4,vz5,vz6,rfl,hB,p0,p1,p2,p3,p4,p5,p6⟩:=hI
             have V:=V5.below hB
             obtain rfl:=p0 (hd 0 (by omega))
             obtain rfl:=p1 (hd 1 (by omega))
             obtain rfl:=p2 (hd 2 (by omega))
             obtain rfl:=p3 (hd 3 (by omega))
             obtain rfl:=p4 (hd 4 (by omega))
             obtain rfl:=p5 (hd 5 (by omega))
             obtain rfl:=p6 (hd 6 (by omega))
             clear hd p0 p1 p2 p3 p4 p5 p6 dj
             simp only [pus]
             show wpAny Tryz.prog .any _ _ 0 #[true,true,true,true,true,true,true] _ _
             have HB:=Lib.hid V.bel
             clear V
             refine ⟨by kernel_rfl,?_⟩
             go_wp2_with fail
             exact HEnd.out _ HB.out
       · have d2:(C == 0)=false:=by simpa using h2
         have hnu:NU=false:=by
          rw [Hnup.out]
          exact decide_eq_false (fun h=>by
           rcases h with h | ⟨h,h9⟩
           · have:=Hcm.out.2.2 h;omega
           · have:=Hcm.out.2.1;rw [d2] at this;exact absurd h.symm (of_decide_eq_false this.symm))
         have HEnd:Hid (∀ w',Below w.heap.size w w'→T (.returned (.int .u64 PN)) w'):=Lib.hid (HNo.out hnu)
         have HPt:=HPn
         obtain ⟨PT,hPT⟩:∃ x,PN=x:=⟨_,rfl⟩
         subst hPT
         clear HNo HYes HPn HPy Hnup Hcm hnu HRx Hdst HBel
         clear h1 h2
         have q0:=V5.s0 1 rfl
         go_wp2_with fail
         clear q0
         refine wp_region_inv 7 (fun a0 dj a W=>∃ vz0 vz1 vz2 vz3 vz4 vz5 vz6:Value,a=puts a0 [(48,vz0),(49,vz1),(50,vz2),(51,vz3),(52,vz4),(53,vz5),(4,vz6)]∧Below W5.heap.size W5 W∧(dj 0=true→vz0=.agg #[.int .i64 (e:Int),.int .i64 (m:Int)])∧(dj 1=true→vz1=.agg #[.bool zs,.slice p n c,.slice p' n' c'])∧(dj 2=true→vz2=.bool zs)∧(dj 3=true→vz3=.pointer (some ⟨W2.heap.size,0,none⟩))∧(dj 4=true→vz4=.int .u64 SI)∧(dj 5=true→vz5=.int .u64 PN)∧(dj 6=true→vz6=.int .u64 PN)) (by kernel_rfl) (by kernel_rfl) (by kernel_rfl) ?_ ?_ ?_ ?_
         · intro dj hcl i hi1 hi2 hd j hj
           exact absurd (Nat.lt_of_lt_of_le hi2 (of_decide_eq_true (by kernel_rfl))) (Nat.not_lt.2 hi1)
         · refine ⟨undef,undef,undef,undef,undef,undef,.int .u64 0,(by simp only [pus]),(Below.refl _ _).drew,(fun h=>by cases h),(fun h=>by cases h),(fun h=>by cases h),(fun h=>by cases h),(fun h=>by cases h),(fun h=>by cases h),(fun h=>by cases h)⟩
         · intro dj a W i hi hdi hcl hdep hI K hK
           obtain ⟨vz0,vz1,vz2,vz3,vz4,vz5,vz6,rfl,hB,p0,p1,p2,p3,p4,p5,p6⟩:=hI
           have V:=V5.below hB
           obtain rfl | rfl | rfl | rfl | rfl | rfl | rfl:i=0∨i=1∨i=2∨i=3∨i=4∨i=5∨i=6:=by omega
           · simp only [pus]
             have c0:=V.f0 3 rfl
             have c1:=V.f1 3 rfl
             refine any_op (o:=_) rfl rfl ?_
             go_wp2_with fail
             refine hK.out _ _ ?_
             exact ⟨.agg #[.int .i64 (e:Int),.int .i64 (m:Int)],vz1,vz2,vz3,vz4,vz5,vz6,(by simp only [pus]),hB,(fun _=>rfl),p1,p2,p3,p4,p5,p6⟩
           · simp only [pus]
             have c0:=V.c0 2 rfl
             have c1:=V.c1 2 rfl
             have c2:=V.c2 2 rfl
             refine any_op (o:=_) rfl rfl ?_
             go_wp2_with fail
             refine hK.out _ _ ?_
             exact ⟨vz0,.agg #[.bool zs,.slice p n c,.slice p' n' c'],vz2,vz3,vz4,vz5,vz6,(by simp only [pus]),hB,p0,(fun _=>rfl),p2,p3,p4,p5,p6⟩
           · obtain rfl:=p1 (hdep 1 (by kernel_rfl))
             simp only [pus]
             refine any_op (o:=_) rfl rfl ?_
             have hC:=Lib.hid (HNg.out W _ (V.rat 0 _ _ rfl))
             go_simp
             refine hC.out.mono ?_
             rintro e W2 ⟨rfl,hb⟩
             refine hK.out _ _ ?_
             exact ⟨vz0,.agg #[.bool zs,.slice p n c,.slice p' n' c'],.bool zs,vz3,vz4,vz5,vz6,(by simp only [pus]),hB.trans (hb.mono hB.size),p0,(fun _=>rfl),(fun _=>rfl),p3,p4,p5,p6⟩
           · simp only [pus]
             refine any_op (o:=_) rfl rfl ?_
             go_wp2_with fail
             refine hK.out _ _ ?_
             exact ⟨vz0,vz1,vz2,.pointer (some ⟨W2.heap.size,0,none⟩),vz4,vz5,vz6,(by simp only [pus]),hB,p0,p1,p2,(fun _=>rfl),p4,p5,p6⟩
           · obtain rfl:=p3 (hdep 3 (by kernel_rfl))
             simp only [pus]
             have c0:=V.s0 1 rfl
             refine any_op (o:=_) rfl rfl ?_
             go_wp2_with fail
             refine hK.out _ _ ?_
             exact ⟨vz0,vz1,vz2,.pointer (some ⟨W2.heap.size,0,none⟩),.int .u64 SI,vz5,vz6,(by simp only [pus]),hB,p0,p1,p2,(fun _=>rfl),(fun _=>rfl),p5,p6⟩
           · obtain rfl:=p0 (hdep 0 (by kernel_rfl))
             obtain rfl:=p2 (hdep 2 (by kernel_rfl))
             obtain rfl:=p4 (hdep 4 (by kernel_rfl))
             simp only [pus]
             refine any_op (o:=_) rfl rfl ?_
             have hC:=Lib.hid (HPt.out W)
             go_simp
             refine hC.out.mono ?_
             rintro e W2 ⟨rfl,hb⟩
             refine hK.out _ _ ?_
             exact ⟨.agg #[.int .i64 (e:Int),.int .i64 (m:Int)],vz1,.bool zs,vz3,.int .u64 SI,.int .u64 PN,vz6,(by simp only [pus]),hB.trans (hb.mono hB.size),(fun _=>rfl),p1,(fun _=>rfl),p3,(fun _=>rfl),(fun _=>rfl),p6⟩
           · obtain rfl:=p0 (hdep 0 (by kernel_rfl))
             obtain rfl:=p1 (hdep 1 (by kernel_rfl))
             obtain rfl:=p2 (hdep 2 (by kernel_rfl))
             obtain rfl:=p3 (hdep 3 (by kernel_rfl))
             obtain rfl:=p4 (hdep 4 (by kernel_rfl))
             obtain rfl:=p5 (hdep 5 (by kernel_rfl))
             simp only [pus]
             refine any_op (o:=_) rfl rfl ?_
             go_wp2_with fail
             refine hK.out _ _ ?_
             exact ⟨.agg #[.int .i64 (e:Int),.int .i64 (m:Int)],.agg #[.bool zs,.slice p n c,.slice p' n' c'],.bool zs,.pointer (some ⟨W2.heap.size,0,none⟩),.int .u64 SI,.int .u64 PN,.int .u64 PN,(by simp only [pus]),hB,(fun _=>rfl),(fun _=>rfl),(fun _=>rfl),(fun _=>rfl),(fun _=>rfl),(fun _=>rfl),(fun _=>rfl)⟩
         · intro dj a W hd hI
           obtain ⟨vz0,vz1,vz2,vz3,vz4,vz5,vz6,rfl,hB,p0,p1,p2,p3,p4,p5,p6⟩:=hI
           have V:=V5.below hB
           obtain rfl:=p0 (hd 0 (by omega))
           obtain rfl:=p1 (hd 1 (by omega))
           obtain rfl:=p2 (hd 2 (by omega))
           obtain rfl:=p3 (hd 3 (by omega))
           obtain rfl:=p4 (hd 4 (by omega))
           obtain rfl:=p5 (hd 5 (by omega))
           obtain rfl:=p6 (hd 6 (by omega))
           clear hd p0 p1 p2 p3 p4 p5 p6 dj
           simp only [pus]
           show wpAny Tryz.prog .any _ _ 0 #[true,true,true,true,true,true,true] _ _
           have HB:=Lib.hid V.bel
           clear V
           refine ⟨by kernel_rfl,?_⟩
           go_wp2_with fail
           exact HEnd.out _ HB.out
end Go.Proofs.YtnhobagjpjcigaaGreatDoor
