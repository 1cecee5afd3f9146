/-
 Law 4: what stands beside a number (ieee's beside).
-/
import Derived.Test.YtnhobagjpjcigaaGreatDoorEBes
namespace Go.Proofs.YtnhobagjpjcigaaGreatDoor
open Go.RowKit
set_option linter.unusedVariables false
def bsT (e m:Nat) (z aw ex:Bool) (s:Nat):Nat × Bool:=if (if aw=true∧ex=false then s + 1 else s)=inf e m then (0,false) else (ptn e m z (if aw=true∧ex=false then s + 1 else s),true)
def BsIs (e m:Nat) (x:Rat) (aw:Bool) (w:World) (E:Ending) (w':World):Prop:=∃ s,Spot m (inf e m) (x.num.natAbs * 2^upl e m / x.den) s∧E=.returned (.tuple #[.int .u64 (((bsT e m (decide (x.num < 0)) aw (exq m s (x.num.natAbs * 2^upl e m) x.den) s).1:Nat):Int),.bool (bsT e m (decide (x.num < 0)) aw (exq m s (x.num.natAbs * 2^upl e m) x.den) s).2])∧Below w.heap.size w w'
set_option maxRecDepth 100000 in
set_option maxHeartbeats 16000000 in
theorem beside_any (e m:Nat) (x:Rat) (aw:Bool) (va:Value) (he:2≤e) (he2:e≤11) (hm:1≤m) (hm2:m≤52) (w:World) (ha:IsR w va x) (hx:Sz 40 x):Calls Tryz.prog 88 #[.agg #[.int .i64 (e:Int),.int .i64 (m:Int)],va,.bool aw] w (BsIs e m x aw w):=by
 have HFd:Hid (∀ W v,IsR W v x→Calls Tryz.prog 86 #[.agg #[.int .i64 (e:Int),.int .i64 (m:Int)],v] W (SpIs e m (x.num.natAbs * 2^upl e m) x.den W)):=Lib.hid (fun W v h=>find_any e m x v he he2 hm hm2 W h hx)
 have HNg:Hid (∀ W v,IsR W v x→Calls Tryz.prog 73 #[v] W fun e w'=>e=.returned (.bool (decide (x.num < 0)))∧Below W.heap.size W w'):=Lib.hid (fun W v h=>neg_any x v W h)
 have HVa:Hid (∀ W,Calls Tryz.prog 34 #[.agg #[.int .i64 (e:Int),.int .i64 (m:Int)]] W fun E w'=>E=.returned (.bool true)∧Below W.heap.size W w'):=Lib.hid (fun W=>by
  have h:=valid_any e m (by omega) (by omega) (by omega) (by omega) W
  rw [decide_eq_true (by omega)] at h
  exact h)
 have hp:e + m≤63:=by omega
 have HIn:Hid (∀ W,Calls Tryz.prog 100 #[.agg #[.int .i64 (e:Int),.int .i64 (m:Int)]] W fun E w'=>E=.returned (.int .u64 (inf e m:Int))∧Below W.heap.size W w'):=Lib.hid (fun W=>inf_any e m hp W)
 have hinf:inf e m < 2^(e + m):=by
  have h0:0 < 2^m:=Nat.pow_pos (by decide)
  have h1:2^m≤2^(e + m):=Nat.pow_le_pow_right (by decide) (by omega)
  unfold inf
  omega
 have h63:2^(e + m)≤2^63:=Nat.pow_le_pow_right (by decide) hp
 have HRx:Hid (IsR w va x):=Lib.hid ha
 have hR:=ha
 obtain ⟨p,n,c,p',n',c',rfl,-,-⟩:=ha
 have HPat:Hid (∀ s:Nat,s < 2^(e + m)→∀ W,Calls Tryz.prog 87 #[.agg #[.int .i64 (e:Int),.int .i64 (m:Int)],.bool (decide (x.num < 0)),.int .u64 (s:Int)] W fun E w'=>E=.returned (.int .u64 ((ptn e m (decide (x.num < 0)) s:Nat):Int))∧Below W.heap.size W w'):=Lib.hid (fun s hs W=>pat_any e m s _ hp hs W)
 have HEx:Hid (∀ s,Spot m (inf e m) (x.num.natAbs * 2^upl e m / x.den) s→∀ b,exq m s (x.num.natAbs * 2^upl e m) x.den=b→∀ q,(if aw=true∧b=false then s + 1 else s)=q→(q=inf e m→∀ w',Below w.heap.size w w'→BsIs e m x aw w (.returned (.tuple #[.int .u64 0,.bool false])) w')∧(¬ q=inf e m→∀ w',Below w.heap.size w w'→BsIs e m x aw w (.returned (.tuple #[.int .u64 ((ptn e m (decide (x.num < 0)) q:Nat):Int),.bool true])) w')):=Lib.hid (fun s hs b hb q hq=>⟨fun h w' hw=>⟨s,hs,by unfold bsT;rw [hb,hq,if_pos h];rfl,hw⟩,fun h w' hw=>⟨s,hs,by unfold bsT;rw [hb,hq,if_neg h],hw⟩⟩)
 obtain ⟨T,hT⟩:∃ T,BsIs e m x aw w=T:=⟨_,rfl⟩
 rw [hT] at HEx ⊢
 obtain ⟨U,hUe⟩:∃ U,x.num.natAbs * 2^upl e m=U:=⟨_,rfl⟩
 obtain ⟨D,hDe⟩:∃ D,x.den=D:=⟨_,rfl⟩
 obtain ⟨I,hIe⟩:∃ I,inf e m=I:=⟨_,rfl⟩
 have HSp:Hid (∀ W E w',SpIs e m U D W E w'→∃ s ex p n c p' n' c',E=.returned (.agg #[.int .u64 ((s:Nat):Int),.bool ex,.slice p n c,.slice p' n' c'])∧Spot m I (U / D) s∧ex=decide (U % D=0∧un m s=U / D)∧Below W.heap.size W w'):=Lib.hid (fun W E w' h=>by
  obtain ⟨s,ex,p,n,c,p',n',c',h1,h2,h3,h4,h5,h6⟩:=h
  exact ⟨s,ex,p,n,c,p',n',c',h1,by rw [← hIe];exact h2,h3,h6⟩)
 simp only [hUe,hDe] at HFd HEx
 rw [hIe] at HEx hinf HIn
 obtain ⟨zs,hz⟩:∃ z,decide (x.num < 0)=z:=⟨_,rfl⟩
 rw [hz] at hR HNg HPat HEx HRx ⊢
 have V0:=((Mq.refl w).rcons hR).two 63 27 #[.int .i64 (e:Int),.int .i64 (m:Int)] #[.bool zs,.slice p n c,.slice p' n' c']
 have q0:=V0.f0 1 rfl;have q1:=V0.f1 1 rfl
 have HI:=Lib.hid (And.intro hinf h63)
 clear hR hx hp hinf h63 hT hUe hDe hIe hz
 go_enter Tryz.func88,Tryz.ntmps88
 go_wp2_with fail
 refine (HVa.out _).mono ?_
 rintro E W1 ⟨rfl,hb⟩
 have V1:=V0.below hb
 clear V0 hb q0 q1
 have q0:=V1.f0 1 rfl;have q1:=V1.f1 1 rfl
 have c0:=V1.c0 0 rfl;have c1:=V1.c1 0 rfl;have c2:=V1.c2 0 rfl
 go_wp2_with fail
 refine (HFd.out _ _ (V1.rat 0 _ _ rfl)).mono ?_
 rintro E W2 hsp
 obtain ⟨s,ex,pa,na,ca,pb,nb,cb,rfl,hsp,hex,hb⟩:=HSp.out _ _ _ hsp
 obtain ⟨SI,hSI⟩:∃ x:Int,(s:Int)=x:=⟨_,rfl⟩
 rw [hSI]
 have hlt2:w.heap.size + 1 < W2.heap.size:=((V1.below hb).box 0 _ _ _ rfl).1.lt
 have V2:=(V1.below hb).alloc 118 #[.int .u64 SI,.bool ex,.slice pa na ca,.slice pb nb cb]
 obtain ⟨W3,hW3⟩:∃ W3,W2.alloc (.cells #[.int .u64 SI,.bool ex,.slice pa na ca,.slice pb nb cb] 118)=W3:=⟨_,rfl⟩
 rw [hW3] at V2
 have V3:=V2
 clear V2 V1 hb q0 q1 c0 c1 c2 HFd HSp
 have hsl:=hsp.lt
 have hIl:=HI.out
 have hlt3:W2.heap.size < W3.heap.size:=(V3.box 0 _ _ _ rfl).1.lt
 obtain ⟨INF,hINF⟩:∃ x:Int,(I:Int)=x:=⟨_,rfl⟩
 rw [hINF] at HIn
 have hIv:(I:Int)=INF∧I < 2^63∧s < I∧I < 2^(e + m):=⟨hINF,by omega,hsl,hIl.1⟩
 have q0:=V3.s0 0 rfl;have q1:=V3.s1 0 rfl
 have HE1:=Lib.hid (HEx.out s hsp ex hex.symm)
 clear hsp hsl hIl hex hINF HEx
 by_cases hup:aw=true∧ex=false
 · obtain ⟨rfl,rfl⟩:=hup
   have HE0:=Lib.hid (HE1.out (s + 1) rfl)
   obtain ⟨SJ,hSJ⟩:∃ x:Int,SI + 1=x:=⟨_,rfl⟩
   have hsv:((s + 1:Nat):Int)=SJ:=by omega
   have hSI0:0≤SI:=by omega
   have hSI1:SI < 9223372036854775808:=by omega
   have f0:=V3.frozen 0 0 rfl
   have hdst:∀ (k' b':Nat) (t':TypeId) (cs':Array Value),[(W2.heap.size,118,#[Value.int .u64 SI,.bool false,.slice pa na ca,.slice pb nb cb]),(w.heap.size + 1,27,#[.bool zs,.slice p n c,.slice p' n' c']),(w.heap.size,63,#[.int .i64 (e:Int),.int .i64 (m:Int)])][k']?=some (b',t',cs')→k'≠0→b'≠W2.heap.size:=fun k' b' t' cs' e hne=>by
    match k' with
    | 0=>exact absurd rfl hne
    | 1=>simp at e;omega
    | 2=>simp at e;omega
    | k + 3=>simp at e
   have V6a:=V3.bare.putN 0 0 rfl hdst (.int .u64 SJ)
   obtain ⟨W6,hW6⟩:∃ W6,W3.setCell ⟨W2.heap.size,0,none⟩ (.int .u64 SJ)=W6:=⟨_,rfl⟩
   rw [hW6] at V6a
   have V6:=Mq.rcons (x:=x) (v:=.agg #[.bool zs,.slice p n c,.slice p' n' c']) V6a (HRx.out.below V6a.bel (Nat.le_refl _))
   clear hdst V6a V3 HE1 hSI hlt2 hlt3
   go_wp2_with fail
   clear q0 q1 f0 hSJ hSI0 hSI1
   by_cases hfi:s + 1=I
   · have hq:(SJ == INF)=true:=by simp;omega
     have HEnd:Hid (∀ w',Below w.heap.size w w'→T (.returned (.tuple #[.int .u64 0,.bool false])) w'):=Lib.hid (HE0.out.1 hfi)
     clear HE0 hfi HPat HNg HRx hsv hIv
     refine wp_region_inv 5 (fun a0 dj a W=>∃ vy0 vy1 vy2 vy3 vy4:Value,a=puts a0 [(25,vy0),(26,vy1),(27,vy2),(28,vy3),(29,vy4)]∧Below W6.heap.size W6 W∧(dj 0=true→vy0=.pointer (some ⟨W2.heap.size,0,none⟩))∧(dj 1=true→vy1=.int .u64 SJ)∧(dj 2=true→vy2=.agg #[.int .i64 (e:Int),.int .i64 (m:Int)])∧(dj 3=true→vy3=.int .u64 INF)∧(dj 4=true→vy4=.bool true)) (by kernel_rfl) (by kernel_rfl) (by kernel_rfl) ?_ ?_ ?_ ?_
     · intro dj hcl i hi1 hi2 hd j hj
       exact absurd (Nat.lt_of_lt_of_le hi2 (of_decide_eq_true (by kernel_rfl))) (Nat.not_lt.2 hi1)
     · refine ⟨undef,undef,undef,undef,undef,(by simp only [pus]),(Below.refl _ _).drew,(fun h=>by cases h),(fun h=>by cases h),(fun h=>by cases h),(fun h=>by cases h),(fun h=>by cases h)⟩
     · intro dj a W i hi hdi hcl hdep hI K hK
       obtain ⟨vy0,vy1,vy2,vy3,vy4,rfl,hB,p0,p1,p2,p3,p4⟩:=hI
       have V:=V6.below hB
       obtain rfl | rfl | rfl | rfl | rfl:i=0∨i=1∨i=2∨i=3∨i=4:=by omega
       · simp only [pus]
         refine any_op (o:=_) rfl rfl ?_
         go_wp2_with fail
         refine hK.out _ _ ?_
         exact ⟨.pointer (some ⟨W2.heap.size,0,none⟩),vy1,vy2,vy3,vy4,(by simp only [pus]),hB,(fun _=>rfl),p1,p2,p3,p4⟩
       · obtain rfl:=p0 (hdep 0 (by kernel_rfl))
         simp only [pus]
         have c0:=V.s0 0 rfl
         refine any_op (o:=_) rfl rfl ?_
         go_wp2_with fail
         refine hK.out _ _ ?_
         exact ⟨.pointer (some ⟨W2.heap.size,0,none⟩),.int .u64 SJ,vy2,vy3,vy4,(by simp only [pus]),hB,(fun _=>rfl),(fun _=>rfl),p2,p3,p4⟩
       · simp only [pus]
         have c0:=V.f0 2 rfl
         have c1:=V.f1 2 rfl
         refine any_op (o:=_) rfl rfl ?_
         go_wp2_with fail
         refine hK.out _ _ ?_
         exact ⟨vy0,vy1,.agg #[.int .i64 (e:Int),.int .i64 (m:Int)],vy3,vy4,(by simp only [pus]),hB,p0,p1,(fun _=>rfl),p3,p4⟩
       · obtain rfl:=p2 (hdep 2 (by kernel_rfl))
         simp only [pus]
         refine any_op (o:=_) rfl rfl ?_
         have hC:=Lib.hid (HIn.out W)
         go_simp
         refine hC.out.mono ?_
         rintro e W2 ⟨rfl,hb⟩
         refine hK.out _ _ ?_
         exact ⟨vy0,vy1,.agg #[.int .i64 (e:Int),.int .i64 (m:Int)],.int .u64 INF,vy4,(by simp only [pus]),hB.trans (hb.mono hB.size),p0,p1,(fun _=>rfl),(fun _=>rfl),p4⟩
       · obtain rfl:=p1 (hdep 1 (by kernel_rfl))
         obtain rfl:=p3 (hdep 3 (by kernel_rfl))
         simp only [pus]
         refine any_op (o:=_) rfl rfl ?_
         go_wp2_with fail
         refine hK.out _ _ ?_
         exact ⟨vy0,.int .u64 SJ,vy2,.int .u64 INF,.bool true,(by simp only [pus]),hB,p0,(fun _=>rfl),p2,(fun _=>rfl),(fun _=>rfl)⟩
     · intro dj a W5 hd hI
       obtain ⟨vy0,vy1,vy2,vy3,vy4,rfl,hB,p0,p1,p2,p3,p4⟩:=hI
       have V:=V6.below hB
       obtain rfl:=p0 (hd 0 (by omega))
       obtain rfl:=p1 (hd 1 (by omega))
       obtain rfl:=p2 (hd 2 (by omega))
       obtain rfl:=p3 (hd 3 (by omega))
       obtain rfl:=p4 (hd 4 (by omega))
       clear hd p0 p1 p2 p3 p4 dj
       simp only [pus]
       show wpAny Tryz.prog .any _ _ 0 #[true,true,true,true,true] _ _
       have HB:=Lib.hid V.bel
       clear V V6
       refine ⟨by kernel_rfl,?_⟩
       go_wp2_with fail
       exact HEnd.out _ HB.out
   · have hq:(SJ == INF)=false:=by simp;omega
     have HEnd0:=Lib.hid (HE0.out.2 hfi)
     have HPt0:=Lib.hid (HPat.out (s + 1) (by omega))
     rw [hsv] at HPt0
     obtain ⟨PT,hPT⟩:∃ x:Int,((ptn e m zs (s + 1):Nat):Int)=x:=⟨_,rfl⟩
     rw [hPT] at HPt0 HEnd0
     have HPt:=HPt0;have HEnd:=HEnd0
     clear HE0 hfi HPat HPt0 HEnd0 hPT hsv hIv
     refine wp_region_inv 5 (fun a0 dj a W=>∃ vy0 vy1 vy2 vy3 vy4:Value,a=puts a0 [(25,vy0),(26,vy1),(27,vy2),(28,vy3),(29,vy4)]∧Below W6.heap.size W6 W∧(dj 0=true→vy0=.pointer (some ⟨W2.heap.size,0,none⟩))∧(dj 1=true→vy1=.int .u64 SJ)∧(dj 2=true→vy2=.agg #[.int .i64 (e:Int),.int .i64 (m:Int)])∧(dj 3=true→vy3=.int .u64 INF)∧(dj 4=true→vy4=.bool false)) (by kernel_rfl) (by kernel_rfl) (by kernel_rfl) ?_ ?_ ?_ ?_
     · intro dj hcl i hi1 hi2 hd j hj
       exact absurd (Nat.lt_of_lt_of_le hi2 (of_decide_eq_true (by kernel_rfl))) (Nat.not_lt.2 hi1)
     · refine ⟨undef,undef,undef,undef,undef,(by simp only [pus]),(Below.refl _ _).drew,(fun h=>by cases h),(fun h=>by cases h),(fun h=>by cases h),(fun h=>by cases h),(fun h=>by cases h)⟩
     · intro dj a W i hi hdi hcl hdep hI K hK
       obtain ⟨vy0,vy1,vy2,vy3,vy4,rfl,hB,p0,p1,p2,p3,p4⟩:=hI
       have V:=V6.below hB
       obtain rfl | rfl | rfl | rfl | rfl:i=0∨i=1∨i=2∨i=3∨i=4:=by omega
       · simp only [pus]
         refine any_op (o:=_) rfl rfl ?_
         go_wp2_with fail
         refine hK.out _ _ ?_
         exact ⟨.pointer (some ⟨W2.heap.size,0,none⟩),vy1,vy2,vy3,vy4,(by simp only [pus]),hB,(fun _=>rfl),p1,p2,p3,p4⟩
       · obtain rfl:=p0 (hdep 0 (by kernel_rfl))
         simp only [pus]
         have c0:=V.s0 0 rfl
         refine any_op (o:=_) rfl rfl ?_
         go_wp2_with fail
         refine hK.out _ _ ?_
         exact ⟨.pointer (some ⟨W2.heap.size,0,none⟩),.int .u64 SJ,vy2,vy3,vy4,(by simp only [pus]),hB,(fun _=>rfl),(fun _=>rfl),p2,p3,p4⟩
       · simp only [pus]
         have c0:=V.f0 2 rfl
         have c1:=V.f1 2 rfl
         refine any_op (o:=_) rfl rfl ?_
         go_wp2_with fail
         refine hK.out _ _ ?_
         exact ⟨vy0,vy1,.agg #[.int .i64 (e:Int),.int .i64 (m:Int)],vy3,vy4,(by simp only [pus]),hB,p0,p1,(fun _=>rfl),p3,p4⟩
       · obtain rfl:=p2 (hdep 2 (by kernel_rfl))
         simp only [pus]
         refine any_op (o:=_) rfl rfl ?_
         have hC:=Lib.hid (HIn.out W)
         go_simp
         refine hC.out.mono ?_
         rintro e W2 ⟨rfl,hb⟩
         refine hK.out _ _ ?_
         exact ⟨vy0,vy1,.agg #[.int .i64 (e:Int),.int .i64 (m:Int)],.int .u64 INF,vy4,(by simp only [pus]),hB.trans (hb.mono hB.size),p0,p1,(fun _=>rfl),(fun _=>rfl),p4⟩
       · obtain rfl:=p1 (hdep 1 (by kernel_rfl))
         obtain rfl:=p3 (hdep 3 (by kernel_rfl))
         simp only [pus]
         refine any_op (o:=_) rfl rfl ?_
         go_wp2_with fail
         refine hK.out _ _ ?_
         exact ⟨vy0,.int .u64 SJ,vy2,.int .u64 INF,.bool false,(by simp only [pus]),hB,p0,(fun _=>rfl),p2,(fun _=>rfl),(fun _=>rfl)⟩
     · intro dj a W5 hd hI
       obtain ⟨vy0,vy1,vy2,vy3,vy4,rfl,hB,p0,p1,p2,p3,p4⟩:=hI
       have V:=V6.below hB
       obtain rfl:=p0 (hd 0 (by omega))
       obtain rfl:=p1 (hd 1 (by omega))
       obtain rfl:=p2 (hd 2 (by omega))
       obtain rfl:=p3 (hd 3 (by omega))
       obtain rfl:=p4 (hd 4 (by omega))
       clear hd p0 p1 p2 p3 p4 dj
       simp only [pus]
       show wpAny Tryz.prog .any _ _ 0 #[true,true,true,true,true] _ _
       have V5:=V
       clear V V6
       refine ⟨by kernel_rfl,?_⟩
       go_wp2_with fail
       refine wp_region_inv 8 (fun a0 dj a W=>∃ vz0 vz1 vz2 vz3 vz4 vz5 vz6 vz7:Value,a=puts a0 [(30,vz0),(31,vz1),(32,vz2),(33,vz3),(34,vz4),(35,vz5),(6,vz6),(7,vz7)]∧Below W5.heap.size W5 W∧(dj 0=true→vz0=.agg #[.int .i64 (e:Int),.int .i64 (m:Int)])∧(dj 1=true→vz1=.agg #[.bool zs,.slice p n c,.slice p' n' c'])∧(dj 2=true→vz2=.bool zs)∧(dj 3=true→vz3=.pointer (some ⟨W2.heap.size,0,none⟩))∧(dj 4=true→vz4=.int .u64 SJ)∧(dj 5=true→vz5=.int .u64 PT)∧(dj 6=true→vz6=.int .u64 PT)∧(dj 7=true→vz7=.bool true)) (by kernel_rfl) (by kernel_rfl) (by kernel_rfl) ?_ ?_ ?_ ?_
       · intro dj hcl i hi1 hi2 hd j hj
         exact absurd (Nat.lt_of_lt_of_le hi2 (of_decide_eq_true (by kernel_rfl))) (Nat.not_lt.2 hi1)
       · refine ⟨undef,undef,undef,undef,undef,undef,.int .u64 0,.bool false,(by simp only [pus]),(Below.refl _ _).drew,(fun h=>by cases h),(fun h=>by cases h),(fun h=>by cases h),(fun h=>by cases h),(fun h=>by cases h),(fun h=>by cases h),(fun h=>by cases h),(fun h=>by cases h)⟩
       · intro dj a W i hi hdi hcl hdep hI K hK
         obtain ⟨vz0,vz1,vz2,vz3,vz4,vz5,vz6,vz7,rfl,hB,p0,p1,p2,p3,p4,p5,p6,p7⟩:=hI
         have V:=V5.below hB
         obtain rfl | rfl | rfl | rfl | rfl | rfl | rfl | rfl:i=0∨i=1∨i=2∨i=3∨i=4∨i=5∨i=6∨i=7:=by omega
         · simp only [pus]
           have c0:=V.f0 2 rfl
           have c1:=V.f1 2 rfl
           refine any_op (o:=_) rfl rfl ?_
           go_wp2_with fail
           refine hK.out _ _ ?_
           exact ⟨.agg #[.int .i64 (e:Int),.int .i64 (m:Int)],vz1,vz2,vz3,vz4,vz5,vz6,vz7,(by simp only [pus]),hB,(fun _=>rfl),p1,p2,p3,p4,p5,p6,p7⟩
         · simp only [pus]
           have c0:=V.c0 1 rfl
           have c1:=V.c1 1 rfl
           have c2:=V.c2 1 rfl
           refine any_op (o:=_) rfl rfl ?_
           go_wp2_with fail
           refine hK.out _ _ ?_
           exact ⟨vz0,.agg #[.bool zs,.slice p n c,.slice p' n' c'],vz2,vz3,vz4,vz5,vz6,vz7,(by simp only [pus]),hB,p0,(fun _=>rfl),p2,p3,p4,p5,p6,p7⟩
         · obtain rfl:=p1 (hdep 1 (by kernel_rfl))
           simp only [pus]
           refine any_op (o:=_) rfl rfl ?_
           have hC:=Lib.hid (HNg.out W _ (V.rat 0 _ _ rfl))
           go_simp
           refine hC.out.mono ?_
           rintro e W2 ⟨rfl,hb⟩
           refine hK.out _ _ ?_
           exact ⟨vz0,.agg #[.bool zs,.slice p n c,.slice p' n' c'],.bool zs,vz3,vz4,vz5,vz6,vz7,(by simp only [pus]),hB.trans (hb.mono hB.size),p0,(fun _=>rfl),(fun _=>rfl),p3,p4,p5,p6,p7⟩
         · simp only [pus]
           refine any_op (o:=_) rfl rfl ?_
           go_wp2_with fail
           refine hK.out _ _ ?_
           exact ⟨vz0,vz1,vz2,.pointer (some ⟨W2.heap.size,0,none⟩),vz4,vz5,vz6,vz7,(by simp only [pus]),hB,p0,p1,p2,(fun _=>rfl),p4,p5,p6,p7⟩
         · obtain rfl:=p3 (hdep 3 (by kernel_rfl))
           simp only [pus]
           have c0:=V.s0 0 rfl
           refine any_op (o:=_) rfl rfl ?_
           go_wp2_with fail
           refine hK.out _ _ ?_
           exact ⟨vz0,vz1,vz2,.pointer (some ⟨W2.heap.size,0,none⟩),.int .u64 SJ,vz5,vz6,vz7,(by simp only [pus]),hB,p0,p1,p2,(fun _=>rfl),(fun _=>rfl),p5,p6,p7⟩
         · obtain rfl:=p0 (hdep 0 (by kernel_rfl))
           obtain rfl:=p2 (hdep 2 (by kernel_rfl))
           obtain rfl:=p4 (hdep 4 (by kernel_rfl))
           simp only [pus]
           refine any_op (o:=_) rfl rfl ?_
           have hC:=Lib.hid (HPt.out W)
           go_simp
           refine hC.out.mono ?_
           rintro e W2 ⟨rfl,hb⟩
           refine hK.out _ _ ?_
           exact ⟨.agg #[.int .i64 (e:Int),.int .i64 (m:Int)],vz1,.bool zs,vz3,.int .u64 SJ,.int .u64 PT,vz6,vz7,(by simp only [pus]),hB.trans (hb.mono hB.size),(fun _=>rfl),p1,(fun _=>rfl),p3,(fun _=>rfl),(fun _=>rfl),p6,p7⟩
         · obtain rfl:=p0 (hdep 0 (by kernel_rfl))
           obtain rfl:=p1 (hdep 1 (by kernel_rfl))
           obtain rfl:=p2 (hdep 2 (by kernel_rfl))
           obtain rfl:=p3 (hdep 3 (by kernel_rfl))
           obtain rfl:=p4 (hdep 4 (by kernel_rfl))
           obtain rfl:=p5 (hdep 5 (by kernel_rfl))
           simp only [pus]
           refine any_op (o:=_) rfl rfl ?_
           go_wp2_with fail
           refine hK.out _ _ ?_
           exact ⟨.agg #[.int .i64 (e:Int),.int .i64 (m:Int)],.agg #[.bool zs,.slice p n c,.slice p' n' c'],.bool zs,.pointer (some ⟨W2.heap.size,0,none⟩),.int .u64 SJ,.int .u64 PT,.int .u64 PT,vz7,(by simp only [pus]),hB,(fun _=>rfl),(fun _=>rfl),(fun _=>rfl),(fun _=>rfl),(fun _=>rfl),(fun _=>rfl),(fun _=>rfl),p7⟩
         · obtain rfl:=p0 (hdep 0 (by kernel_rfl))
           obtain rfl:=p1 (hdep 1 (by kernel_rfl))
           obtain rfl:=p2 (hdep 2 (by kernel_rfl))
           obtain rfl:=p3 (hdep 3 (by kernel_rfl))
           obtain rfl:=p4 (hdep 4 (by kernel_rfl))
           obtain rfl:=p5 (hdep 5 (by kernel_rfl))
           obtain rfl:=p6 (hdep 6 (by kernel_rfl))
           simp only [pus]
           refine any_op (o:=_) rfl rfl ?_
           go_wp2_with fail
           refine hK.out _ _ ?_
           exact ⟨.agg #[.int .i64 (e:Int),.int .i64 (m:Int)],.agg #[.bool zs,.slice p n c,.slice p' n' c'],.bool zs,.pointer (some ⟨W2.heap.size,0,none⟩),.int .u64 SJ,.int .u64 PT,.int .u64 PT,.bool true,(by simp only [pus]),hB,(fun _=>rfl),(fun _=>rfl),(fun _=>rfl),(fun _=>rfl),(fun _=>rfl),(fun _=>rfl),(fun _=>rfl),(fun _=>rfl)⟩
       · intro dj a W hd hI
         obtain ⟨vz0,vz1,vz2,vz3,vz4,vz5,vz6,vz7,rfl,hB,p0,p1,p2,p3,p4,p5,p6,p7⟩:=hI
         have V:=V5.below hB
         obtain rfl:=p0 (hd 0 (by omega))
         obtain rfl:=p1 (hd 1 (by omega))
         obtain rfl:=p2 (hd 2 (by omega))
         obtain rfl:=p3 (hd 3 (by omega))
         obtain rfl:=p4 (hd 4 (by omega))
         obtain rfl:=p5 (hd 5 (by omega))
         obtain rfl:=p6 (hd 6 (by omega))
         obtain rfl:=p7 (hd 7 (by omega))
         clear hd p0 p1 p2 p3 p4 p5 p6 p7 dj
         simp only [pus]
         show wpAny Tryz.prog .any _ _ 0 #[true,true,true,true,true,true,true,true] _ _
         have HB:=Lib.hid V.bel
         clear V
         refine ⟨by kernel_rfl,?_⟩
         go_wp2_with fail
         exact HEnd.out _ HB.out
 · have HE0:=Lib.hid (HE1.out s (if_neg hup))
   have hsv:(s:Int)=SI:=hSI
   have HUP:=Lib.hid hup
   cases aw with
   | false =>
    clear HE1 hSI hlt2 hlt3 hup HUP
    go_wp2_with fail
    clear q0 q1
    by_cases hfi:s=I
    · have hq:(SI == INF)=true:=by simp;omega
      have HEnd:Hid (∀ w',Below w.heap.size w w'→T (.returned (.tuple #[.int .u64 0,.bool false])) w'):=Lib.hid (HE0.out.1 hfi)
      clear HE0 hfi HPat HNg HRx hsv hIv
      refine wp_region_inv 5 (fun a0 dj a W=>∃ vy0 vy1 vy2 vy3 vy4:Value,a=puts a0 [(25,vy0),(26,vy1),(27,vy2),(28,vy3),(29,vy4)]∧Below W3.heap.size W3 W∧(dj 0=true→vy0=.pointer (some ⟨W2.heap.size,0,none⟩))∧(dj 1=true→vy1=.int .u64 SI)∧(dj 2=true→vy2=.agg #[.int .i64 (e:Int),.int .i64 (m:Int)])∧(dj 3=true→vy3=.int .u64 INF)∧(dj 4=true→vy4=.bool true)) (by kernel_rfl) (by kernel_rfl) (by kernel_rfl) ?_ ?_ ?_ ?_
      · intro dj hcl i hi1 hi2 hd j hj
        exact absurd (Nat.lt_of_lt_of_le hi2 (of_decide_eq_true (by kernel_rfl))) (Nat.not_lt.2 hi1)
      · refine ⟨undef,undef,undef,undef,undef,(by simp only [pus]),(Below.refl _ _).drew,(fun h=>by cases h),(fun h=>by cases h),(fun h=>by cases h),(fun h=>by cases h),(fun h=>by cases h)⟩
      · intro dj a W i hi hdi hcl hdep hI K hK
        obtain ⟨vy0,vy1,vy2,vy3,vy4,rfl,hB,p0,p1,p2,p3,p4⟩:=hI
        have V:=V3.below hB
        obtain rfl | rfl | rfl | rfl | rfl:i=0∨i=1∨i=2∨i=3∨i=4:=by omega
        · simp only [pus]
          refine any_op (o:=_) rfl rfl ?_
          go_wp2_with fail
          refine hK.out _ _ ?_
          exact ⟨.pointer (some ⟨W2.heap.size,0,none⟩),vy1,vy2,vy3,vy4,(by simp only [pus]),hB,(fun _=>rfl),p1,p2,p3,p4⟩
        · obtain rfl:=p0 (hdep 0 (by kernel_rfl))
          simp only [pus]
          have c0:=V.s0 0 rfl
          refine any_op (o:=_) rfl rfl ?_
          go_wp2_with fail
          refine hK.out _ _ ?_
          exact ⟨.pointer (some ⟨W2.heap.size,0,none⟩),.int .u64 SI,vy2,vy3,vy4,(by simp only [pus]),hB,(fun _=>rfl),(fun _=>rfl),p2,p3,p4⟩
        · simp only [pus]
          have c0:=V.f0 2 rfl
          have c1:=V.f1 2 rfl
          refine any_op (o:=_) rfl rfl ?_
          go_wp2_with fail
          refine hK.out _ _ ?_
          exact ⟨vy0,vy1,.agg #[.int .i64 (e:Int),.int .i64 (m:Int)],vy3,vy4,(by simp only [pus]),hB,p0,p1,(fun _=>rfl),p3,p4⟩
        · obtain rfl:=p2 (hdep 2 (by kernel_rfl))
          simp only [pus]
          refine any_op (o:=_) rfl rfl ?_
          have hC:=Lib.hid (HIn.out W)
          go_simp
          refine hC.out.mono ?_
          rintro e W2 ⟨rfl,hb⟩
          refine hK.out _ _ ?_
          exact ⟨vy0,vy1,.agg #[.int .i64 (e:Int),.int .i64 (m:Int)],.int .u64 INF,vy4,(by simp only [pus]),hB.trans (hb.mono hB.size),p0,p1,(fun _=>rfl),(fun _=>rfl),p4⟩
        · obtain rfl:=p1 (hdep 1 (by kernel_rfl))
          obtain rfl:=p3 (hdep 3 (by kernel_rfl))
          simp only [pus]
          refine any_op (o:=_) rfl rfl ?_
          go_wp2_with fail
          refine hK.out _ _ ?_
          exact ⟨vy0,.int .u64 SI,vy2,.int .u64 INF,.bool true,(by simp only [pus]),hB,p0,(fun _=>rfl),p2,(fun _=>rfl),(fun _=>rfl)⟩
      · intro dj a W5 hd hI
        obtain ⟨vy0,vy1,vy2,vy3,vy4,rfl,hB,p0,p1,p2,p3,p4⟩:=hI
        have V:=V3.below hB
        obtain rfl:=p0 (hd 0 (by omega))
        obtain rfl:=p1 (hd 1 (by omega))
        obtain rfl:=p2 (hd 2 (by omega))
        obtain rfl:=p3 (hd 3 (by omega))
        obtain rfl:=p4 (hd 4 (by omega))
        clear hd p0 p1 p2 p3 p4 dj
        simp only [pus]
        show wpAny Tryz.prog .any _ _ 0 #[true,true,true,true,true] _ _
        have HB:=Lib.hid V.bel
        clear V V3
        refine ⟨by kernel_rfl,?_⟩
        go_wp2_with fail
        exact HEnd.out _ HB.out
    · have hq:(SI == INF)=false:=by simp;omega
      have HEnd0:=Lib.hid (HE0.out.2 hfi)
      have HPt0:=Lib.hid (HPat.out (s) (by omega))
      rw [hsv] at HPt0
      obtain ⟨PT,hPT⟩:∃ x:Int,((ptn e m zs (s):Nat):Int)=x:=⟨_,rfl⟩
      rw [hPT] at HPt0 HEnd0
      have HPt:=HPt0;have HEnd:=HEnd0
      clear HE0 hfi HPat HPt0 HEnd0 hPT hsv hIv
      refine wp_region_inv 5 (fun a0 dj a W=>∃ vy0 vy1 vy2 vy3 vy4:Value,a=puts a0 [(25,vy0),(26,vy1),(27,vy2),(28,vy3),(29,vy4)]∧Below W3.heap.size W3 W∧(dj 0=true→vy0=.pointer (some ⟨W2.heap.size,0,none⟩))∧(dj 1=true→vy1=.int .u64 SI)∧(dj 2=true→vy2=.agg #[.int .i64 (e:Int),.int .i64 (m:Int)])∧(dj 3=true→vy3=.int .u64 INF)∧(dj 4=true→vy4=.bool false)) (by kernel_rfl) (by kernel_rfl) (by kernel_rfl) ?_ ?_ ?_ ?_
      · intro dj hcl i hi1 hi2 hd j hj
        exact absurd (Nat.lt_of_lt_of_le hi2 (of_decide_eq_true (by kernel_rfl))) (Nat.not_lt.2 hi1)
      · refine ⟨undef,undef,undef,undef,undef,(by simp only [pus]),(Below.refl _ _).drew,(fun h=>by cases h),(fun h=>by cases h),(fun h=>by cases h),(fun h=>by cases h),(fun h=>by cases h)⟩
      · intro dj a W i hi hdi hcl hdep hI K hK
        obtain ⟨vy0,vy1,vy2,vy3,vy4,rfl,hB,p0,p1,p2,p3,p4⟩:=hI
        have V:=V3.below hB
        obtain rfl | rfl | rfl | rfl | rfl:i=0∨i=1∨i=2∨i=3∨i=4:=by omega
        · simp only [pus]
          refine any_op (o:=_) rfl rfl ?_
          go_wp2_with fail
          refine hK.out _ _ ?_
          exact ⟨.pointer (some ⟨W2.heap.size,0,none⟩),vy1,vy2,vy3,vy4,(by simp only [pus]),hB,(fun _=>rfl),p1,p2,p3,p4⟩
        · obtain rfl:=p0 (hdep 0 (by kernel_rfl))
          simp only [pus]
          have c0:=V.s0 0 rfl
          refine any_op (o:=_) rfl rfl ?_
          go_wp2_with fail
          refine hK.out _ _ ?_
          exact ⟨.pointer (some ⟨W2.heap.size,0,none⟩),.int .u64 SI,vy2,vy3,vy4,(by simp only [pus]),hB,(fun _=>rfl),(fun _=>rfl),p2,p3,p4⟩
        · simp only [pus]
          have c0:=V.f0 2 rfl
          have c1:=V.f1 2 rfl
          refine any_op (o:=_) rfl rfl ?_
          go_wp2_with fail
          refine hK.out _ _ ?_
          exact ⟨vy0,vy1,.agg #[.int .i64 (e:Int),.int .i64 (m:Int)],vy3,vy4,(by simp only [pus]),hB,p0,p1,(fun _=>rfl),p3,p4⟩
        · obtain rfl:=p2 (hdep 2 (by kernel_rfl))
          simp only [pus]
          refine any_op (o:=_) rfl rfl ?_
          have hC:=Lib.hid (HIn.out W)
          go_simp
          refine hC.out.mono ?_
          rintro e W2 ⟨rfl,hb⟩
          refine hK.out _ _ ?_
          exact ⟨vy0,vy1,.agg #[.int .i64 (e:Int),.int .i64 (m:Int)],.int .u64 INF,vy4,(by simp only [pus]),hB.trans (hb.mono hB.size),p0,p1,(fun _=>rfl),(fun _=>rfl),p4⟩
        · obtain rfl:=p1 (hdep 1 (by kernel_rfl))
          obtain rfl:=p3 (hdep 3 (by kernel_rfl))
          simp only [pus]
          refine any_op (o:=_) rfl rfl ?_
          go_wp2_with fail
          refine hK.out _ _ ?_
          exact ⟨vy0,.int .u64 SI,vy2,.int .u64 INF,.bool false,(by simp only [pus]),hB,p0,(fun _=>rfl),p2,(fun _=>rfl),(fun _=>rfl)⟩
      · intro dj a W5 hd hI
        obtain ⟨vy0,vy1,vy2,vy3,vy4,rfl,hB,p0,p1,p2,p3,p4⟩:=hI
        have V:=V3.below hB
        obtain rfl:=p0 (hd 0 (by omega))
        obtain rfl:=p1 (hd 1 (by omega))
        obtain rfl:=p2 (hd 2 (by omega))
        obtain rfl:=p3 (hd 3 (by omega))
        obtain rfl:=p4 (hd 4 (by omega))
        clear hd p0 p1 p2 p3 p4 dj
        simp only [pus]
        show wpAny Tryz.prog .any _ _ 0 #[true,true,true,true,true] _ _
        have V5:=V
        clear V V3
        refine ⟨by kernel_rfl,?_⟩
        go_wp2_with fail
        refine wp_region_inv 8 (fun a0 dj a W=>∃ vz0 vz1 vz2 vz3 vz4 vz5 vz6 vz7:Value,a=puts a0 [(30,vz0),(31,vz1),(32,vz2),(33,vz3),(34,vz4),(35,vz5),(6,vz6),(7,vz7)]∧Below W5.heap.size W5 W∧(dj 0=true→vz0=.agg #[.int .i64 (e:Int),.int .i64 (m:Int)])∧(dj 1=true→vz1=.agg #[.bool zs,.slice p n c,.slice p' n' c'])∧(dj 2=true→vz2=.bool zs)∧(dj 3=true→vz3=.pointer (some ⟨W2.heap.size,0,none⟩))∧(dj 4=true→vz4=.int .u64 SI)∧(dj 5=true→vz5=.int .u64 PT)∧(dj 6=true→vz6=.int .u64 PT)∧(dj 7=true→vz7=.bool true)) (by kernel_rfl) (by kernel_rfl) (by kernel_rfl) ?_ ?_ ?_ ?_
        · intro dj hcl i hi1 hi2 hd j hj
          exact absurd (Nat.lt_of_lt_of_le hi2 (of_decide_eq_true (by kernel_rfl))) (Nat.not_lt.2 hi1)
        · refine ⟨undef,undef,undef,undef,undef,undef,.int .u64 0,.bool false,(by simp only [pus]),(Below.refl _ _).drew,(fun h=>by cases h),(fun h=>by cases h),(fun h=>by cases h),(fun h=>by cases h),(fun h=>by cases h),(fun h=>by cases h),(fun h=>by cases h),(fun h=>by cases h)⟩
        · intro dj a W i hi hdi hcl hdep hI K hK
          obtain ⟨vz0,vz1,vz2,vz3,vz4,vz5,vz6,vz7,rfl,hB,p0,p1,p2,p3,p4,p5,p6,p7⟩:=hI
          have V:=V5.below hB
          obtain rfl | rfl | rfl | rfl | rfl | rfl | rfl | rfl:i=0∨i=1∨i=2∨i=3∨i=4∨i=5∨i=6∨i=7:=by omega
          · simp only [pus]
            have c0:=V.f0 2 rfl
            have c1:=V.f1 2 rfl
            refine any_op (o:=_) rfl rfl ?_
            go_wp2_with fail
            refine hK.out _ _ ?_
            exact ⟨.agg #[.int .i64 (e:Int),.int .i64 (m:Int)],vz1,vz2,vz3,vz4,vz5,vz6,vz7,(by simp only [pus]),hB,(fun _=>rfl),p1,p2,p3,p4,p5,p6,p7⟩
          · simp only [pus]
            have c0:=V.c0 1 rfl
            have c1:=V.c1 1 rfl
            have c2:=V.c2 1 rfl
            refine any_op (o:=_) rfl rfl ?_
            go_wp2_with fail
            refine hK.out _ _ ?_
            exact ⟨vz0,.agg #[.bool zs,.slice p n c,.slice p' n' c'],vz2,vz3,vz4,vz5,vz6,vz7,(by simp only [pus]),hB,p0,(fun _=>rfl),p2,p3,p4,p5,p6,p7⟩
          · obtain rfl:=p1 (hdep 1 (by kernel_rfl))
            simp only [pus]
            refine any_op (o:=_) rfl rfl ?_
            have hC:=Lib.hid (HNg.out W _ (V.rat 0 _ _ rfl))
            go_simp
            refine hC.out.mono ?_
            rintro e W2 ⟨rfl,hb⟩
            refine hK.out _ _ ?_
            exact ⟨vz0,.agg #[.bool zs,.slice p n c,.slice p' n' c'],.bool zs,vz3,vz4,vz5,vz6,vz7,(by simp only [pus]),hB.trans (hb.mono hB.size),p0,(fun _=>rfl),(fun _=>rfl),p3,p4,p5,p6,p7⟩
          · simp only [pus]
            refine any_op (o:=_) rfl rfl ?_
            go_wp2_with fail
            refine hK.out _ _ ?_
            exact ⟨vz0,vz1,vz2,.pointer (some ⟨W2.heap.size,0,none⟩),vz4,vz5,vz6,vz7,(by simp only [pus]),hB,p0,p1,p2,(fun _=>rfl),p4,p5,p6,p7⟩
          · obtain rfl:=p3 (hdep 3 (by kernel_rfl))
            simp only [pus]
            have c0:=V.s0 0 rfl
            refine any_op (o:=_) rfl rfl ?_
            go_wp2_with fail
            refine hK.out _ _ ?_
            exact ⟨vz0,vz1,vz2,.pointer (some ⟨W2.heap.size,0,none⟩),.int .u64 SI,vz5,vz6,vz7,(by simp only [pus]),hB,p0,p1,p2,(fun _=>rfl),(fun _=>rfl),p5,p6,p7⟩
          · obtain rfl:=p0 (hdep 0 (by kernel_rfl))
            obtain rfl:=p2 (hdep 2 (by kernel_rfl))
            obtain rfl:=p4 (hdep 4 (by kernel_rfl))
            simp only [pus]
            refine any_op (o:=_) rfl rfl ?_
            have hC:=Lib.hid (HPt.out W)
            go_simp
            refine hC.out.mono ?_
            rintro e W2 ⟨rfl,hb⟩
            refine hK.out _ _ ?_
            exact ⟨.agg #[.int .i64 (e:Int),.int .i64 (m:Int)],vz1,.bool zs,vz3,.int .u64 SI,.int .u64 PT,vz6,vz7,(by simp only [pus]),hB.trans (hb.mono hB.size),(fun _=>rfl),p1,(fun _=>rfl),p3,(fun _=>rfl),(fun _=>rfl),p6,p7⟩
          · obtain rfl:=p0 (hdep 0 (by kernel_rfl))
            obtain rfl:=p1 (hdep 1 (by kernel_rfl))
            obtain rfl:=p2 (hdep 2 (by kernel_rfl))
            obtain rfl:=p3 (hdep 3 (by kernel_rfl))
            obtain rfl:=p4 (hdep 4 (by kernel_rfl))
            obtain rfl:=p5 (hdep 5 (by kernel_rfl))
            simp only [pus]
            refine any_op (o:=_) rfl rfl ?_
            go_wp2_with fail
            refine hK.out _ _ ?_
            exact ⟨.agg #[.int .i64 (e:Int),.int .i64 (m:Int)],.agg #[.bool zs,.slice p n c,.slice p' n' c'],.bool zs,.pointer (some ⟨W2.heap.size,0,none⟩),.int .u64 SI,.int .u64 PT,.int .u64 PT,vz7,(by simp only [pus]),hB,(fun _=>rfl),(fun _=>rfl),(fun _=>rfl),(fun _=>rfl),(fun _=>rfl),(fun _=>rfl),(fun _=>rfl),p7⟩
          · obtain rfl:=p0 (hdep 0 (by kernel_rfl))
            obtain rfl:=p1 (hdep 1 (by kernel_rfl))
            obtain rfl:=p2 (hdep 2 (by kernel_rfl))
            obtain rfl:=p3 (hdep 3 (by kernel_rfl))
            obtain rfl:=p4 (hdep 4 (by kernel_rfl))
            obtain rfl:=p5 (hdep 5 (by kernel_rfl))
            obtain rfl:=p6 (hdep 6 (by kernel_rfl))
            simp only [pus]
            refine any_op (o:=_) rfl rfl ?_
            go_wp2_with fail
            refine hK.out _ _ ?_
            exact ⟨.agg #[.int .i64 (e:Int),.int .i64 (m:Int)],.agg #[.bool zs,.slice p n c,.slice p' n' c'],.bool zs,.pointer (some ⟨W2.heap.size,0,none⟩),.int .u64 SI,.int .u64 PT,.int .u64 PT,.bool true,(by simp only [pus]),hB,(fun _=>rfl),(fun _=>rfl),(fun _=>rfl),(fun _=>rfl),(fun _=>rfl),(fun _=>rfl),(fun _=>rfl),(fun _=>rfl)⟩
        · intro dj a W hd hI
          obtain ⟨vz0,vz1,vz2,vz3,vz4,vz5,vz6,vz7,rfl,hB,p0,p1,p2,p3,p4,p5,p6,p7⟩:=hI
          have V:=V5.below hB
          obtain rfl:=p0 (hd 0 (by omega))
          obtain rfl:=p1 (hd 1 (by omega))
          obtain rfl:=p2 (hd 2 (by omega))
          obtain rfl:=p3 (hd 3 (by omega))
          obtain rfl:=p4 (hd 4 (by omega))
          obtain rfl:=p5 (hd 5 (by omega))
          obtain rfl:=p6 (hd 6 (by omega))
          obtain rfl:=p7 (hd 7 (by omega))
          clear hd p0 p1 p2 p3 p4 p5 p6 p7 dj
          simp only [pus]
          show wpAny Tryz.prog .any _ _ 0 #[true,true,true,true,true,true,true,true] _ _
          have HB:=Lib.hid V.bel
          clear V
          refine ⟨by kernel_rfl,?_⟩
          go_wp2_with fail
          exact HEnd.out _ HB.out
   | true =>
    cases ex with
    | true =>
     clear HE1 hSI hlt2 hlt3 hup HUP
     go_wp2_with fail
     clear q0 q1
     by_cases hfi:s=I
     · have hq:(SI == INF)=true:=by simp;omega
       have HEnd:Hid (∀ w',Below w.heap.size w w'→T (.returned (.tuple #[.int .u64 0,.bool false])) w'):=Lib.hid (HE0.out.1 hfi)
       clear HE0 hfi HPat HNg HRx hsv hIv
       refine wp_region_inv 5 (fun a0 dj a W=>∃ vy0 vy1 vy2 vy3 vy4:Value,a=puts a0 [(25,vy0),(26,vy1),(27,vy2),(28,vy3),(29,vy4)]∧Below W3.heap.size W3 W∧(dj 0=true→vy0=.pointer (some ⟨W2.heap.size,0,none⟩))∧(dj 1=true→vy1=.int .u64 SI)∧(dj 2=true→vy2=.agg #[.int .i64 (e:Int),.int .i64 (m:Int)])∧(dj 3=true→vy3=.int .u64 INF)∧(dj 4=true→vy4=.bool true)) (by kernel_rfl) (by kernel_rfl) (by kernel_rfl) ?_ ?_ ?_ ?_
       · intro dj hcl i hi1 hi2 hd j hj
         exact absurd (Nat.lt_of_lt_of_le hi2 (of_decide_eq_true (by kernel_rfl))) (Nat.not_lt.2 hi1)
       · refine ⟨undef,undef,undef,undef,undef,(by simp only [pus]),(Below.refl _ _).drew,(fun h=>by cases h),(fun h=>by cases h),(fun h=>by cases h),(fun h=>by cases h),(fun h=>by cases h)⟩
       · intro dj a W i hi hdi hcl hdep hI K hK
         obtain ⟨vy0,vy1,vy2,vy3,vy4,rfl,hB,p0,p1,p2,p3,p4⟩:=hI
         have V:=V3.below hB
         obtain rfl | rfl | rfl | rfl | rfl:i=0∨i=1∨i=2∨i=3∨i=4:=by omega
         · simp only [pus]
           refine any_op (o:=_) rfl rfl ?_
           go_wp2_with fail
           refine hK.out _ _ ?_
           exact ⟨.pointer (some ⟨W2.heap.size,0,none⟩),vy1,vy2,vy3,vy4,(by simp only [pus]),hB,(fun _=>rfl),p1,p2,p3,p4⟩
         · obtain rfl:=p0 (hdep 0 (by kernel_rfl))
           simp only [pus]
           have c0:=V.s0 0 rfl
           refine any_op (o:=_) rfl rfl ?_
           go_wp2_with fail
           refine hK.out _ _ ?_
           exact ⟨.pointer (some ⟨W2.heap.size,0,none⟩),.int .u64 SI,vy2,vy3,vy4,(by simp only [pus]),hB,(fun _=>rfl),(fun _=>rfl),p2,p3,p4⟩
         · simp only [pus]
           have c0:=V.f0 2 rfl
           have c1:=V.f1 2 rfl
           refine any_op (o:=_) rfl rfl ?_
           go_wp2_with fail
           refine hK.out _ _ ?_
           exact ⟨vy0,vy1,.agg #[.int .i64 (e:Int),.int .i64 (m:Int)],vy3,vy4,(by simp only [pus]),hB,p0,p1,(fun _=>rfl),p3,p4⟩
         · obtain rfl:=p2 (hdep 2 (by kernel_rfl))
           simp only [pus]
           refine any_op (o:=_) rfl rfl ?_
           have hC:=Lib.hid (HIn.out W)
           go_simp
           refine hC.out.mono ?_
           rintro e W2 ⟨rfl,hb⟩
           refine hK.out _ _ ?_
           exact ⟨vy0,vy1,.agg #[.int .i64 (e:Int),.int .i64 (m:Int)],.int .u64 INF,vy4,(by simp only [pus]),hB.trans (hb.mono hB.size),p0,p1,(fun _=>rfl),(fun _=>rfl),p4⟩
         · obtain rfl:=p1 (hdep 1 (by kernel_rfl))
           obtain rfl:=p3 (hdep 3 (by kernel_rfl))
           simp only [pus]
           refine any_op (o:=_) rfl rfl ?_
           go_wp2_with fail
           refine hK.out _ _ ?_
           exact ⟨vy0,.int .u64 SI,vy2,.int .u64 INF,.bool true,(by simp only [pus]),hB,p0,(fun _=>rfl),p2,(fun _=>rfl),(fun _=>rfl)⟩
       · intro dj a W5 hd hI
         obtain ⟨vy0,vy1,vy2,vy3,vy4,rfl,hB,p0,p1,p2,p3,p4⟩:=hI
         have V:=V3.below hB
         obtain rfl:=p0 (hd 0 (by omega))
         obtain rfl:=p1 (hd 1 (by omega))
         obtain rfl:=p2 (hd 2 (by omega))
         obtain rfl:=p3 (hd 3 (by omega))
         obtain rfl:=p4 (hd 4 (by omega))
         clear hd p0 p1 p2 p3 p4 dj
         simp only [pus]
         show wpAny Tryz.prog .any _ _ 0 #[true,true,true,true,true] _ _
         have HB:=Lib.hid V.bel
         clear V V3
         refine ⟨by kernel_rfl,?_⟩
         go_wp2_with fail
         exact HEnd.out _ HB.out
     · have hq:(SI == INF)=false:=by simp;omega
       have HEnd0:=Lib.hid (HE0.out.2 hfi)
       have HPt0:=Lib.hid (HPat.out (s) (by omega))
       rw [hsv] at HPt0
       obtain ⟨PT,hPT⟩:∃ x:Int,((ptn e m zs (s):Nat):Int)=x:=⟨_,rfl⟩
       rw [hPT] at HPt0 HEnd0
       have HPt:=HPt0;have HEnd:=HEnd0
       clear HE0 hfi HPat HPt0 HEnd0 hPT hsv hIv
       refine wp_region_inv 5 (fun a0 dj a W=>∃ vy0 vy1 vy2 vy3 vy4:Value,a=puts a0 [(25,vy0),(26,vy1),(27,vy2),(28,vy3),(29,vy4)]∧Below W3.heap.size W3 W∧(dj 0=true→vy0=.pointer (some ⟨W2.heap.size,0,none⟩))∧(dj 1=true→vy1=.int .u64 SI)∧(dj 2=true→vy2=.agg #[.int .i64 (e:Int),.int .i64 (m:Int)])∧(dj 3=true→vy3=.int .u64 INF)∧(dj 4=true→vy4=.bool false)) (by kernel_rfl) (by kernel_rfl) (by kernel_rfl) ?_ ?_ ?_ ?_
       · intro dj hcl i hi1 hi2 hd j hj
         exact absurd (Nat.lt_of_lt_of_le hi2 (of_decide_eq_true (by kernel_rfl))) (Nat.not_lt.2 hi1)
       · refine ⟨undef,undef,undef,undef,undef,(by simp only [pus]),(Below.refl _ _).drew,(fun h=>by cases h),(fun h=>by cases h),(fun h=>by cases h),(fun h=>by cases h),(fun h=>by cases h)⟩
       · intro dj a W i hi hdi hcl hdep hI K hK
         obtain ⟨vy0,vy1,vy2,vy3,vy4,rfl,hB,p0,p1,p2,p3,p4⟩:=hI
         have V:=V3.below hB
         obtain rfl | rfl | rfl | rfl | rfl:i=0∨i=1∨i=2∨i=3∨i=4:=by omega
         · simp only [pus]
           refine any_op (o:=_) rfl rfl ?_
           go_wp2_with fail
           refine hK.out _ _ ?_
           exact ⟨.pointer (some ⟨W2.heap.size,0,none⟩),vy1,vy2,vy3,vy4,(by simp only [pus]),hB,(fun _=>rfl),p1,p2,p3,p4⟩
         · obtain rfl:=p0 (hdep 0 (by kernel_rfl))
           simp only [pus]
           have c0:=V.s0 0 rfl
           refine any_op (o:=_) rfl rfl ?_
           go_wp2_with fail
           refine hK.out _ _ ?_
           exact ⟨.pointer (some ⟨W2.heap.size,0,none⟩),.int .u64 SI,vy2,vy3,vy4,(by simp only [pus]),hB,(fun _=>rfl),(fun _=>rfl),p2,p3,p4⟩
         · simp only [pus]
           have c0:=V.f0 2 rfl
           have c1:=V.f1 2 rfl
           refine any_op (o:=_) rfl rfl ?_
           go_wp2_with fail
           refine hK.out _ _ ?_
           exact ⟨vy0,vy1,.agg #[.int .i64 (e:Int),.int .i64 (m:Int)],vy3,vy4,(by simp only [pus]),hB,p0,p1,(fun _=>rfl),p3,p4⟩
         · obtain rfl:=p2 (hdep 2 (by kernel_rfl))
           simp only [pus]
           refine any_op (o:=_) rfl rfl ?_
           have hC:=Lib.hid (HIn.out W)
           go_simp
           refine hC.out.mono ?_
           rintro e W2 ⟨rfl,hb⟩
           refine hK.out _ _ ?_
           exact ⟨vy0,vy1,.agg #[.int .i64 (e:Int),.int .i64 (m:Int)],.int .u64 INF,vy4,(by simp only [pus]),hB.trans (hb.mono hB.size),p0,p1,(fun _=>rfl),(fun _=>rfl),p4⟩
         · obtain rfl:=p1 (hdep 1 (by kernel_rfl))
           obtain rfl:=p3 (hdep 3 (by kernel_rfl))
           simp only [pus]
           refine any_op (o:=_) rfl rfl ?_
           go_wp2_with fail
           refine hK.out _ _ ?_
           exact ⟨vy0,.int .u64 SI,vy2,.int .u64 INF,.bool false,(by simp only [pus]),hB,p0,(fun _=>rfl),p2,(fun _=>rfl),(fun _=>rfl)⟩
       · intro dj a W5 hd hI
         obtain ⟨vy0,vy1,vy2,vy3,vy4,rfl,hB,p0,p1,p2,p3,p4⟩:=hI
         have V:=V3.below hB
         obtain rfl:=p0 (hd 0 (by omega))
         obtain rfl:=p1 (hd 1 (by omega))
         obtain rfl:=p2 (hd 2 (by omega))
         obtain rfl:=p3 (hd 3 (by omega))
         obtain rfl:=p4 (hd 4 (by omega))
         clear hd p0 p1 p2 p3 p4 dj
         simp only [pus]
         show wpAny Tryz.prog .any _ _ 0 #[true,true,true,true,true] _ _
         have V5:=V
         clear V V3
         refine ⟨by kernel_rfl,?_⟩
         go_wp2_with fail
         refine wp_region_inv 8 (fun a0 dj a W=>∃ vz0 vz1 vz2 vz3 vz4 vz5 vz6 vz7:Value,a=puts a0 [(30,vz0),(31,vz1),(32,vz2),(33,vz3),(34,vz4),(35,vz5),(6,vz6),(7,vz7)]∧Below W5.heap.size W5 W∧(dj 0=true→vz0=.agg #[.int .i64 (e:Int),.int .i64 (m:Int)])∧(dj 1=true→vz1=.agg #[.bool zs,.slice p n c,.slice p' n' c'])∧(dj 2=true→vz2=.bool zs)∧(dj 3=true→vz3=.pointer (some ⟨W2.heap.size,0,none⟩))∧(dj 4=true→vz4=.int .u64 SI)∧(dj 5=true→vz5=.int .u64 PT)∧(dj 6=true→vz6=.int .u64 PT)∧(dj 7=true→vz7=.bool true)) (by kernel_rfl) (by kernel_rfl) (by kernel_rfl) ?_ ?_ ?_ ?_
         · intro dj hcl i hi1 hi2 hd j hj
           exact absurd (Nat.lt_of_lt_of_le hi2 (of_decide_eq_true (by kernel_rfl))) (Nat.not_lt.2 hi1)
         · refine ⟨undef,undef,undef,undef,undef,undef,.int .u64 0,.bool false,(by simp only [pus]),(Below.refl _ _).drew,(fun h=>by cases h),(fun h=>by cases h),(fun h=>by cases h),(fun h=>by cases h),(fun h=>by cases h),(fun h=>by cases h),(fun h=>by cases h),(fun h=>by cases h)⟩
         · intro dj a W i hi hdi hcl hdep hI K hK
           obtain ⟨vz0,vz1,vz2,vz3,vz4,vz5,vz6,vz7,rfl,hB,p0,p1,p2,p3,p4,p5,p6,p7⟩:=hI
           have V:=V5.below hB
           obtain rfl | rfl | rfl | rfl | rfl | rfl | rfl | rfl:i=0∨i=1∨i=2∨i=3∨i=4∨i=5∨i=6∨i=7:=by omega
           · simp only [pus]
             have c0:=V.f0 2 rfl
             have c1:=V.f1 2 rfl
             refine any_op (o:=_) rfl rfl ?_
             go_wp2_with fail
             refine hK.out _ _ ?_
             exact ⟨.agg #[.int .i64 (e:Int),.int .i64 (m:Int)],vz1,vz2,vz3,vz4,vz5,vz6,vz7,(by simp only [pus]),hB,(fun _=>rfl),p1,p2,p3,p4,p5,p6,p7⟩
           · simp only [pus]
             have c0:=V.c0 1 rfl
             have c1:=V.c1 1 rfl
             have c2:=V.c2 1 rfl
             refine any_op (o:=_) rfl rfl ?_
             go_wp2_with fail
             refine hK.out _ _ ?_
             exact ⟨vz0,.agg #[.bool zs,.slice p n c,.slice p' n' c'],vz2,vz3,vz4,vz5,vz6,vz7,(by simp only [pus]),hB,p0,(fun _=>rfl),p2,p3,p4,p5,p6,p7⟩
           · obtain rfl:=p1 (hdep 1 (by kernel_rfl))
             simp only [pus]
             refine any_op (o:=_) rfl rfl ?_
             have hC:=Lib.hid (HNg.out W _ (V.rat 0 _ _ rfl))
             go_simp
             refine hC.out.mono ?_
             rintro e W2 ⟨rfl,hb⟩
             refine hK.out _ _ ?_
             exact ⟨vz0,.agg #[.bool zs,.slice p n c,.slice p' n' c'],.bool zs,vz3,vz4,vz5,vz6,vz7,(by simp only [pus]),hB.trans (hb.mono hB.size),p0,(fun _=>rfl),(fun _=>rfl),p3,p4,p5,p6,p7⟩
           · simp only [pus]
             refine any_op (o:=_) rfl rfl ?_
             go_wp2_with fail
             refine hK.out _ _ ?_
             exact ⟨vz0,vz1,vz2,.pointer (some ⟨W2.heap.size,0,none⟩),vz4,vz5,vz6,vz7,(by simp only [pus]),hB,p0,p1,p2,(fun _=>rfl),p4,p5,p6,p7⟩
           · obtain rfl:=p3 (hdep 3 (by kernel_rfl))
             simp only [pus]
             have c0:=V.s0 0 rfl
             refine any_op (o:=_) rfl rfl ?_
             go_wp2_with fail
             refine hK.out _ _ ?_
             exact ⟨vz0,vz1,vz2,.pointer (some ⟨W2.heap.size,0,none⟩),.int .u64 SI,vz5,vz6,vz7,(by simp only [pus]),hB,p0,p1,p2,(fun _=>rfl),(fun _=>rfl),p5,p6,p7⟩
           · obtain rfl:=p0 (hdep 0 (by kernel_rfl))
             obtain rfl:=p2 (hdep 2 (by kernel_rfl))
             obtain rfl:=p4 (hdep 4 (by kernel_rfl))
             simp only [pus]
             refine any_op (o:=_) rfl rfl ?_
             have hC:=Lib.hid (HPt.out W)
             go_simp
             refine hC.out.mono ?_
             rintro e W2 ⟨rfl,hb⟩
             refine hK.out _ _ ?_
             exact ⟨.agg #[.int .i64 (e:Int),.int .i64 (m:Int)],vz1,.bool zs,vz3,.int .u64 SI,.int .u64 PT,vz6,vz7,(by simp only [pus]),hB.trans (hb.mono hB.size),(fun _=>rfl),p1,(fun _=>rfl),p3,(fun _=>rfl),(fun _=>rfl),p6,p7⟩
           · obtain rfl:=p0 (hdep 0 (by kernel_rfl))
             obtain rfl:=p1 (hdep 1 (by kernel_rfl))
             obtain rfl:=p2 (hdep 2 (by kernel_rfl))
             obtain rfl:=p3 (hdep 3 (by kernel_rfl))
             obtain rfl:=p4 (hdep 4 (by kernel_rfl))
             obtain rfl:=p5 (hdep 5 (by kernel_rfl))
             simp only [pus]
             refine any_op (o:=_) rfl rfl ?_
             go_wp2_with fail
             refine hK.out _ _ ?_
             exact ⟨.agg #[.int .i64 (e:Int),.int .i64 (m:Int)],.agg #[.bool zs,.slice p n c,.slice p' n' c'],.bool zs,.pointer (some ⟨W2.heap.size,0,none⟩),.int .u64 SI,.int .u64 PT,.int .u64 PT,vz7,(by simp only [pus]),hB,(fun _=>rfl),(fun _=>rfl),(fun _=>rfl),(fun _=>rfl),(fun _=>rfl),(fun _=>rfl),(fun _=>rfl),p7⟩
           · obtain rfl:=p0 (hdep 0 (by kernel_rfl))
             obtain rfl:=p1 (hdep 1 (by kernel_rfl))
             obtain rfl:=p2 (hdep 2 (by kernel_rfl))
             obtain rfl:=p3 (hdep 3 (by kernel_rfl))
             obtain rfl:=p4 (hdep 4 (by kernel_rfl))
             obtain rfl:=p5 (hdep 5 (by kernel_rfl))
             obtain rfl:=p6 (hdep 6 (by kernel_rfl))
             simp only [pus]
             refine any_op (o:=_) rfl rfl ?_
             go_wp2_with fail
             refine hK.out _ _ ?_
             exact ⟨.agg #[.int .i64 (e:Int),.int .i64 (m:Int)],.agg #[.bool zs,.slice p n c,.slice p' n' c'],.bool zs,.pointer (some ⟨W2.heap.size,0,none⟩),.int .u64 SI,.int .u64 PT,.int .u64 PT,.bool true,(by simp only [pus]),hB,(fun _=>rfl),(fun _=>rfl),(fun _=>rfl),(fun _=>rfl),(fun _=>rfl),(fun _=>rfl),(fun _=>rfl),(fun _=>rfl)⟩
         · intro dj a W hd hI
           obtain ⟨vz0,vz1,vz2,vz3,vz4,vz5,vz6,vz7,rfl,hB,p0,p1,p2,p3,p4,p5,p6,p7⟩:=hI
           have V:=V5.below hB
           obtain rfl:=p0 (hd 0 (by omega))
           obtain rfl:=p1 (hd 1 (by omega))
           obtain rfl:=p2 (hd 2 (by omega))
           obtain rfl:=p3 (hd 3 (by omega))
           obtain rfl:=p4 (hd 4 (by omega))
           obtain rfl:=p5 (hd 5 (by omega))
           obtain rfl:=p6 (hd 6 (by omega))
           obtain rfl:=p7 (hd 7 (by omega))
           clear hd p0 p1 p2 p3 p4 p5 p6 p7 dj
           simp only [pus]
           show wpAny Tryz.prog .any _ _ 0 #[true,true,true,true,true,true,true,true] _ _
           have HB:=Lib.hid V.bel
           clear V
           refine ⟨by kernel_rfl,?_⟩
           go_wp2_with fail
           exact HEnd.out _ HB.out
    | false=>exact absurd ⟨rfl,rfl⟩ hup
end Go.Proofs.YtnhobagjpjcigaaGreatDoor
