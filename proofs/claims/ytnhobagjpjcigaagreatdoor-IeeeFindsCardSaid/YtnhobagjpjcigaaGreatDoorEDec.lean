/-
 Law 4: a pattern's number and kind (ieee's Decode).
-/
import Derived.Test.YtnhobagjpjcigaaGreatDoorEUnit
import Derived.Test.YtnhobagjpjcigaaGreatDoorERs
namespace Go.Proofs.YtnhobagjpjcigaaGreatDoor
open Go.RowKit
set_option linter.unusedVariables false
section
variable {w W:World} {bx:List (Nat × TypeId × Array Value)} {l:List (Value × Nat)} {r:List (Value × Rat)}
theorem Mq.finr (h:Mq w bx l r W) (k i:Nat) {b:Nat} {z:Bool} {p:Option Addr} {n c:Nat} {p':Option Addr} {n' c':Nat} {y:Bool} {q:Option Addr} {m d:Nat} {q':Option Addr} {m' d':Nat} {x:Rat}
 (e:bx[k]?=some (b,27,#[.bool z,.slice p n c,.slice p' n' c'])) (hi:r[i]?=some (.agg #[.bool y,.slice q m d,.slice q' m' d'],x)) :
 Blk (set3 W b (.bool y) (.slice q m d) (.slice q' m' d')) b 27 #[.bool y,.slice q m d,.slice q' m' d']∧IsR (set3 W b (.bool y) (.slice q m d) (.slice q' m' d')) (.agg #[.bool y,.slice q m d,.slice q' m' d']) x∧Below w.heap.size w (set3 W b (.bool y) (.slice q m d) (.slice q' m' d')):=by
 have hk:=h.box k b _ _ e
 have hD:=h.rat i _ _ hi
 exact ⟨blk_set3 hk.1 _ _ _,isR_put (isR_put (isR_put hD hk.1 (plain_rat _ _ _ _ _ _ _) (i:=0) (.bool y)) (hk.1.set_ 0 (.bool y)) (plain_rat _ _ _ _ _ _ _) (i:=1) (.slice q m d)) ((hk.1.set_ 0 (.bool y)).set_ 1 (.slice q m d)) (plain_rat _ _ _ _ _ _ _) (i:=2) (.slice q' m' d'),below_set3 h.bel hk.2 _ _ _⟩
end
def psz (e m b:Nat):Nat:=b % 2^(e + m)
def png (e m b:Nat):Bool:=decide (b / 2^(e + m) % 2=1)
def vQ (e m:Nat) (z:Bool) (s:Nat):Rat:=mkRat (sgn z (un m s)) (2^upl e m)
def pkd (e m b:Nat):Int:=if inf e m < psz e m b then 4 else if psz e m b=inf e m then (if png e m b=true then 3 else 2) else 1
def pnm (e m b:Nat):Rat:=if psz e m b < inf e m then vQ e m (png e m b) (psz e m b) else 0
def DcIs (k:Int) (x:Rat) (w:World) (E:Ending) (w':World):Prop:=∃ v,E=.returned (.tuple #[v,.int .i64 k])∧IsR w' v x∧Below w.heap.size w w'
set_option maxRecDepth 100000 in
set_option maxHeartbeats 8000000 in
theorem decode_any (e m b:Nat) (he:2≤e) (he2:e≤11) (hm:1≤m) (hm2:m≤52) (hb:b < 18446744073709551616) (w:World) (htb:TabB w):Calls Tryz.prog 44 #[.agg #[.int .i64 (e:Int),.int .i64 (m:Int)],.int .u64 (b:Int)] w (DcIs (pkd e m b) (pnm e m b) w):=by
 have V0:=(Mq.refl w).two 63 27 #[.int .i64 (e:Int),.int .i64 (m:Int)] #[.bool false,.slice none 0 0,.slice none 0 0]
 have hp:e + m≤63:=by omega
 have HVa:Hid (∀ W,Calls Tryz.prog 34 #[.agg #[.int .i64 (e:Int),.int .i64 (m:Int)]] W fun E w'=>E=.returned (.bool true)∧Below W.heap.size W w'):=Lib.hid (fun W=>by
  have h:=valid_any e m (by omega) (by omega) (by omega) (by omega) W
  rw [decide_eq_true (by omega)] at h
  exact h)
 have HSg:Hid (∀ W,Calls Tryz.prog 99 #[.agg #[.int .i64 (e:Int),.int .i64 (m:Int)]] W fun E w'=>E=.returned (.int .u64 ((2^(e + m):Nat):Int))∧Below W.heap.size W w'):=Lib.hid (fun W=>sign_any e m hp W)
 have HIn:Hid (∀ W,Calls Tryz.prog 100 #[.agg #[.int .i64 (e:Int),.int .i64 (m:Int)]] W fun E w'=>E=.returned (.int .u64 (inf e m:Int))∧Below W.heap.size W w'):=Lib.hid (fun W=>inf_any e m hp W)
 have HUp:Hid (∀ W,Calls Tryz.prog 101 #[.agg #[.int .i64 (e:Int),.int .i64 (m:Int)]] W fun E w'=>E=.returned (.int .i64 (upl e m:Int))∧Below W.heap.size W w'):=Lib.hid (fun W=>upl_any e m he hp W)
 have h63:2^(e + m)≤2^63:=Nat.pow_le_pow_right (by decide) hp
 have h63p:0 < 2^(e + m):=Nat.pow_pos (by decide)
 have hsz:b % 2^(e + m) < 2^(e + m):=Nat.mod_lt _ h63p
 have e1:=and_low (b:=b) (p:=e + m) hb hp
 have e2:=and_at (b:=b) (p:=e + m) hb hp
 have HUn:Hid (∀ W,Calls Tryz.prog 90 #[.agg #[.int .i64 (e:Int),.int .i64 (m:Int)],.int .u64 ((b % 2^(e + m):Nat):Int)] W (GaveV (un m (b % 2^(e + m))) W)):=Lib.hid (fun W=>units_any e m _ he2 hm2 hsz W)
 have hunw:=un_w he2 hm2 hsz
 have hup:upl e m≤1100:=by
  have h1:2^(e - 1)≤2^10:=Nat.pow_le_pow_right (by decide) (by omega)
  unfold upl
  omega
 have htw:2^upl e m < 18446744073709551616^20:=two_lt_w (by omega)
 have HO1:Hid (∀ W,Calls Tryz.prog 28 #[.int .u64 1] W (GaveV 1 W)):=Lib.hid (fun W=>nOf 1 (by decide) W)
 have HSh:Hid (∀ W v,IsN W v 1→Calls Tryz.prog 91 #[v,.int .i64 (upl e m:Int)] W (GaveV (2^upl e m) W)):=Lib.hid (fun W v h=>by
  have h2:=nShift 1 (upl e m) v _ W h (Nat.one_lt_pow (by decide) (by decide)) (by omega) rfl
  rw [Nat.one_mul] at h2
  exact h2)
 have HMk:Hid (∀ W va vb,Below w.heap.size w W→IsN W va (un m (b % 2^(e + m)))→IsN W vb (2^upl e m)→Calls Tryz.prog 29 #[.bool (png e m b),va,vb] W fun E w'=>∃ v,E=.returned (.tuple #[v,.int .i64 0])∧IsR w' v (vQ e m (png e m b) (psz e m b))∧Below W.heap.size W w'):=Lib.hid (fun W va vb hB h1 h2=>make_mk (png e m b) _ _ va vb W h1 h2 (Nat.lt_of_lt_of_le hunw (w64_mono (by omega))) (Nat.lt_of_lt_of_le htw (w64_mono (by omega))) (Nat.pow_pos (by decide)) (htb.below hB (Nat.le_refl _)))
 have hneg:decide (b / 2^(e + m) % 2=1)=png e m b:=rfl
 have hpsz:b % 2^(e + m)=psz e m b:=rfl
 have K4:Hid (inf e m < psz e m b→∀ E w',DcIs 4 0 w E w'→DcIs (pkd e m b) (pnm e m b) w E w'):=Lib.hid (fun h E w' h2=>by
  unfold pkd pnm
  rw [if_pos h,if_neg (by omega)]
  exact h2)
 have K3:Hid (psz e m b=inf e m→png e m b=true→∀ E w',DcIs 3 0 w E w'→DcIs (pkd e m b) (pnm e m b) w E w'):=Lib.hid (fun h h1 E w' h2=>by
  unfold pkd pnm
  rw [if_neg (by omega),if_pos h,if_pos h1,if_neg (by omega)]
  exact h2)
 have K2:Hid (psz e m b=inf e m→png e m b=false→∀ E w',DcIs 2 0 w E w'→DcIs (pkd e m b) (pnm e m b) w E w'):=Lib.hid (fun h h1 E w' h2=>by
  unfold pkd pnm
  rw [if_neg (by omega),if_pos h,if_neg (by rw [h1];simp),if_neg (by omega)]
  exact h2)
 have K1:Hid (psz e m b < inf e m→∀ E w',DcIs 1 (vQ e m (png e m b) (psz e m b)) w E w'→DcIs (pkd e m b) (pnm e m b) w E w'):=Lib.hid (fun h E w' h2=>by
  unfold pkd pnm
  rw [if_neg (by omega),if_neg (by omega),if_pos h]
  exact h2)
 have hinf:inf e m < 2^63:=by
  have hm0:0 < 2^m:=Nat.pow_pos (by decide)
  unfold inf
  omega
 rw [hpsz] at e1 HUn HMk hsz
 rw [hneg] at e2
 obtain ⟨UN,hUN⟩:∃ x,un m (psz e m b)=x:=⟨_,rfl⟩
 obtain ⟨X,hX⟩:∃ x,vQ e m (png e m b) (psz e m b)=x:=⟨_,rfl⟩
 rw [hUN] at HUn HMk
 rw [hX] at HMk K1
 obtain ⟨PK,hPK⟩:∃ x,pkd e m b=x:=⟨_,rfl⟩
 obtain ⟨PN,hPN⟩:∃ x,pnm e m b=x:=⟨_,rfl⟩
 rw [hPK,hPN] at K1 K2 K3 K4
 rw [hPK,hPN]
 obtain ⟨neg,hng⟩:∃ x,png e m b=x:=⟨_,rfl⟩
 rw [hng] at e2 HMk K2 K3
 obtain ⟨TP,hTP⟩:∃ x,2^upl e m=x:=⟨_,rfl⟩
 rw [hTP] at HSh HMk
 obtain ⟨UP,hUP⟩:∃ x:Int,(upl e m:Int)=x:=⟨_,rfl⟩
 rw [hUP] at HUp HSh
 obtain ⟨sz,hszz⟩:∃ x,psz e m b=x:=⟨_,rfl⟩
 obtain ⟨fi,hfi⟩:∃ x,inf e m=x:=⟨_,rfl⟩
 simp only [hszz,hfi] at K1 K2 K3 K4 HUn HIn e1 hsz hinf
 obtain ⟨SZ,hSZ⟩:∃ x:Int,(sz:Int)=x:=⟨_,rfl⟩
 obtain ⟨INF,hINF⟩:∃ x:Int,(fi:Int)=x:=⟨_,rfl⟩
 obtain ⟨SG,hSG⟩:∃ x:Int,((2^(e + m):Nat):Int)=x:=⟨_,rfl⟩
 obtain ⟨SM,hSM⟩:∃ x:Int,SG - 1=x:=⟨_,rfl⟩
 obtain ⟨B,hB⟩:∃ x:Int,(b:Int)=x:=⟨_,rfl⟩
 rw [hSZ] at HUn e1
 rw [hINF] at HIn
 rw [hSG] at HSg e2
 rw [hSG,hSM,hB] at e1
 rw [hB] at e2
 rw [hB]
 obtain ⟨AB,hAB⟩:∃ x:Int,bits .and .u64 B SG=x:=⟨_,rfl⟩
 rw [hAB] at e2
 have hSG1:1≤SG:=by omega
 have hSG2:SG≤9223372036854775808:=by omega
 have q0:=V0.f0 1 rfl;have q1:=V0.f1 1 rfl
 have Hsi:=Lib.hid hszz
 clear htb hp h63 h63p hunw hup htw hneg hpsz hUN hX hPK hPN hng hTP hUP hszz hfi hSG hB he he2 hm hm2 hb hsz
 have hcmp:(fi < sz∨sz=fi∨sz < fi):=by omega
 have Hc:=Lib.hid hcmp
 have HS1:=Lib.hid (And.intro hSZ hINF)
 clear hcmp hSZ hINF
 go_enter Tryz.func44,Tryz.ntmps44
 go_wp2_with fail
 refine (HVa.out _).mono ?_
 rintro E W1 ⟨rfl,hb⟩
 have V1:=V0.below hb
 clear V0 hb q0 q1
 go_wp2_with fail
 refine wp_region_inv 12 (fun a0 dj a W=>∃ vq0 vq1 vq2 vq3 vq4 vq5 vq6 vq7 vq8 vq9 vq10 vq11:Value,a=puts a0 [(14,vq0),(15,vq1),(16,vq2),(17,vq3),(18,vq4),(19,vq5),(20,vq6),(21,vq7),(22,vq8),(23,vq9),(6,vq10),(7,vq11)]∧Below W1.heap.size W1 W∧(dj 0=true→vq0=.int .u64 B)∧(dj 1=true→vq1=.agg #[.int .i64 (e:Int),.int .i64 (m:Int)])∧(dj 2=true→vq2=.int .u64 SG)∧(dj 3=true→vq3=.int .u64 AB)∧(dj 4=true→vq4=.bool neg)∧(dj 5=true→vq5=.int .u64 B)∧(dj 6=true→vq6=.agg #[.int .i64 (e:Int),.int .i64 (m:Int)])∧(dj 7=true→vq7=.int .u64 SG)∧(dj 8=true→vq8=.int .u64 SM)∧(dj 9=true→vq9=.int .u64 SZ)∧(dj 10=true→vq10=.bool neg)∧(dj 11=true→vq11=.int .u64 SZ)) (by kernel_rfl) (by kernel_rfl) (by kernel_rfl) ?_ ?_ ?_ ?_
 · intro dj hcl i hi1 hi2 hd j hj
   exact absurd (Nat.lt_of_lt_of_le hi2 (of_decide_eq_true (by kernel_rfl))) (Nat.not_lt.2 hi1)
 · refine ⟨undef,undef,undef,undef,undef,undef,undef,undef,undef,undef,undef,undef,(by simp only [pus]),(Below.refl _ _).drew,(fun h=>by cases h),(fun h=>by cases h),(fun h=>by cases h),(fun h=>by cases h),(fun h=>by cases h),(fun h=>by cases h),(fun h=>by cases h),(fun h=>by cases h),(fun h=>by cases h),(fun h=>by cases h),(fun h=>by cases h),(fun h=>by cases h)⟩
 · intro dj a W i hi hdi hcl hdep hI K hK
   obtain ⟨vq0,vq1,vq2,vq3,vq4,vq5,vq6,vq7,vq8,vq9,vq10,vq11,rfl,hB,p0,p1,p2,p3,p4,p5,p6,p7,p8,p9,p10,p11⟩:=hI
   have V:=V1.below hB
   obtain rfl | rfl | rfl | rfl | rfl | rfl | rfl | rfl | rfl | rfl | rfl | rfl:i=0∨i=1∨i=2∨i=3∨i=4∨i=5∨i=6∨i=7∨i=8∨i=9∨i=10∨i=11:=by omega
   · simp only [pus]
     refine any_op (o:=_) rfl rfl ?_
     go_wp2_with fail
     refine hK.out _ _ ?_
     exact ⟨.int .u64 B,vq1,vq2,vq3,vq4,vq5,vq6,vq7,vq8,vq9,vq10,vq11,(by simp only [pus]),hB,(fun _=>rfl),p1,p2,p3,p4,p5,p6,p7,p8,p9,p10,p11⟩
   · simp only [pus]
     have c0:=V.f0 1 rfl
     have c1:=V.f1 1 rfl
     refine any_op (o:=_) rfl rfl ?_
     go_wp2_with fail
     refine hK.out _ _ ?_
     exact ⟨vq0,.agg #[.int .i64 (e:Int),.int .i64 (m:Int)],vq2,vq3,vq4,vq5,vq6,vq7,vq8,vq9,vq10,vq11,(by simp only [pus]),hB,p0,(fun _=>rfl),p2,p3,p4,p5,p6,p7,p8,p9,p10,p11⟩
   · obtain rfl:=p1 (hdep 1 (by kernel_rfl))
     simp only [pus]
     refine any_op (o:=_) rfl rfl ?_
     have hC:=Lib.hid (HSg.out W)
     go_simp
     refine hC.out.mono ?_
     rintro e W2 ⟨rfl,hb⟩
     refine hK.out _ _ ?_
     exact ⟨vq0,.agg #[.int .i64 (e:Int),.int .i64 (m:Int)],.int .u64 SG,vq3,vq4,vq5,vq6,vq7,vq8,vq9,vq10,vq11,(by simp only [pus]),hB.trans (hb.mono hB.size),p0,(fun _=>rfl),(fun _=>rfl),p3,p4,p5,p6,p7,p8,p9,p10,p11⟩
   · obtain rfl:=p0 (hdep 0 (by kernel_rfl))
     obtain rfl:=p2 (hdep 2 (by kernel_rfl))
     simp only [pus]
     refine any_op (o:=_) rfl rfl ?_
     go_wp2_with fail
     refine hK.out _ _ ?_
     exact ⟨.int .u64 B,vq1,.int .u64 SG,.int .u64 AB,vq4,vq5,vq6,vq7,vq8,vq9,vq10,vq11,(by simp only [pus]),hB,(fun _=>rfl),p1,(fun _=>rfl),(fun _=>rfl),p4,p5,p6,p7,p8,p9,p10,p11⟩
   · obtain rfl:=p3 (hdep 3 (by kernel_rfl))
     simp only [pus]
     refine any_op (o:=_) rfl rfl ?_
     go_wp2_with fail
     refine hK.out _ _ ?_
     exact ⟨vq0,vq1,vq2,.int .u64 AB,.bool neg,vq5,vq6,vq7,vq8,vq9,vq10,vq11,(by simp only [pus]),hB,p0,p1,p2,(fun _=>rfl),(fun _=>rfl),p5,p6,p7,p8,p9,p10,p11⟩
   · simp only [pus]
     refine any_op (o:=_) rfl rfl ?_
     go_wp2_with fail
     refine hK.out _ _ ?_
     exact ⟨vq0,vq1,vq2,vq3,vq4,.int .u64 B,vq6,vq7,vq8,vq9,vq10,vq11,(by simp only [pus]),hB,p0,p1,p2,p3,p4,(fun _=>rfl),p6,p7,p8,p9,p10,p11⟩
   · simp only [pus]
     have c0:=V.f0 1 rfl
     have c1:=V.f1 1 rfl
     refine any_op (o:=_) rfl rfl ?_
     go_wp2_with fail
     refine hK.out _ _ ?_
     exact ⟨vq0,vq1,vq2,vq3,vq4,vq5,.agg #[.int .i64 (e:Int),.int .i64 (m:Int)],vq7,vq8,vq9,vq10,vq11,(by simp only [pus]),hB,p0,p1,p2,p3,p4,p5,(fun _=>rfl),p7,p8,p9,p10,p11⟩
   · obtain rfl:=p2 (hdep 2 (by kernel_rfl))
     obtain rfl:=p6 (hdep 6 (by kernel_rfl))
     simp only [pus]
     refine any_op (o:=_) rfl rfl ?_
     have hC:=Lib.hid (HSg.out W)
     go_simp
     refine hC.out.mono ?_
     rintro e W2 ⟨rfl,hb⟩
     refine hK.out _ _ ?_
     exact ⟨vq0,vq1,.int .u64 SG,vq3,vq4,vq5,.agg #[.int .i64 (e:Int),.int .i64 (m:Int)],.int .u64 SG,vq8,vq9,vq10,vq11,(by simp only [pus]),hB.trans (hb.mono hB.size),p0,p1,(fun _=>rfl),p3,p4,p5,(fun _=>rfl),(fun _=>rfl),p8,p9,p10,p11⟩
   · obtain rfl:=p7 (hdep 7 (by kernel_rfl))
     simp only [pus]
     refine any_op (o:=_) rfl rfl ?_
     go_wp2_with fail
     refine hK.out _ _ ?_
     exact ⟨vq0,vq1,vq2,vq3,vq4,vq5,vq6,.int .u64 SG,.int .u64 SM,vq9,vq10,vq11,(by simp only [pus]),hB,p0,p1,p2,p3,p4,p5,p6,(fun _=>rfl),(fun _=>rfl),p9,p10,p11⟩
   · obtain rfl:=p5 (hdep 5 (by kernel_rfl))
     obtain rfl:=p8 (hdep 8 (by kernel_rfl))
     simp only [pus]
     refine any_op (o:=_) rfl rfl ?_
     go_wp2_with fail
     refine hK.out _ _ ?_
     exact ⟨vq0,vq1,vq2,vq3,vq4,.int .u64 B,vq6,vq7,.int .u64 SM,.int .u64 SZ,vq10,vq11,(by simp only [pus]),hB,p0,p1,p2,p3,p4,(fun _=>rfl),p6,p7,(fun _=>rfl),(fun _=>rfl),p10,p11⟩
   · obtain rfl:=p0 (hdep 0 (by kernel_rfl))
     obtain rfl:=p1 (hdep 1 (by kernel_rfl))
     obtain rfl:=p2 (hdep 2 (by kernel_rfl))
     obtain rfl:=p3 (hdep 3 (by kernel_rfl))
     obtain rfl:=p4 (hdep 4 (by kernel_rfl))
     obtain rfl:=p7 (hdep 7 (by kernel_rfl))
     simp only [pus]
     refine any_op (o:=_) rfl rfl ?_
     go_wp2_with fail
     refine hK.out _ _ ?_
     exact ⟨.int .u64 B,.agg #[.int .i64 (e:Int),.int .i64 (m:Int)],.int .u64 SG,.int .u64 AB,.bool neg,vq5,vq6,.int .u64 SG,vq8,vq9,.bool neg,vq11,(by simp only [pus]),hB,(fun _=>rfl),(fun _=>rfl),(fun _=>rfl),(fun _=>rfl),(fun _=>rfl),p5,p6,(fun _=>rfl),p8,p9,(fun _=>rfl),p11⟩
   · obtain rfl:=p0 (hdep 0 (by kernel_rfl))
     obtain rfl:=p1 (hdep 1 (by kernel_rfl))
     obtain rfl:=p2 (hdep 2 (by kernel_rfl))
     obtain rfl:=p3 (hdep 3 (by kernel_rfl))
     obtain rfl:=p4 (hdep 4 (by kernel_rfl))
     obtain rfl:=p5 (hdep 5 (by kernel_rfl))
     obtain rfl:=p6 (hdep 6 (by kernel_rfl))
     obtain rfl:=p7 (hdep 7 (by kernel_rfl))
     obtain rfl:=p8 (hdep 8 (by kernel_rfl))
     obtain rfl:=p9 (hdep 9 (by kernel_rfl))
     obtain rfl:=p10 (hdep 10 (by kernel_rfl))
     simp only [pus]
     refine any_op (o:=_) rfl rfl ?_
     go_wp2_with fail
     refine hK.out _ _ ?_
     exact ⟨.int .u64 B,.agg #[.int .i64 (e:Int),.int .i64 (m:Int)],.int .u64 SG,.int .u64 AB,.bool neg,.int .u64 B,.agg #[.int .i64 (e:Int),.int .i64 (m:Int)],.int .u64 SG,.int .u64 SM,.int .u64 SZ,.bool neg,.int .u64 SZ,(by simp only [pus]),hB,(fun _=>rfl),(fun _=>rfl),(fun _=>rfl),(fun _=>rfl),(fun _=>rfl),(fun _=>rfl),(fun _=>rfl),(fun _=>rfl),(fun _=>rfl),(fun _=>rfl),(fun _=>rfl),(fun _=>rfl)⟩
 · intro dj a W hd hI
   obtain ⟨vq0,vq1,vq2,vq3,vq4,vq5,vq6,vq7,vq8,vq9,vq10,vq11,rfl,hB,p0,p1,p2,p3,p4,p5,p6,p7,p8,p9,p10,p11⟩:=hI
   have V:=V1.below hB
   obtain rfl:=p0 (hd 0 (by omega))
   obtain rfl:=p1 (hd 1 (by omega))
   obtain rfl:=p2 (hd 2 (by omega))
   obtain rfl:=p3 (hd 3 (by omega))
   obtain rfl:=p4 (hd 4 (by omega))
   obtain rfl:=p5 (hd 5 (by omega))
   obtain rfl:=p6 (hd 6 (by omega))
   obtain rfl:=p7 (hd 7 (by omega))
   obtain rfl:=p8 (hd 8 (by omega))
   obtain rfl:=p9 (hd 9 (by omega))
   obtain rfl:=p10 (hd 10 (by omega))
   obtain rfl:=p11 (hd 11 (by omega))
   simp only [pus]
   show wpAny Tryz.prog .any _ _ 0 #[true,true,true,true,true,true,true,true,true,true,true,true] _ _
   have V2:=V
   clear V V1
   refine ⟨by kernel_rfl,?_⟩
   have q0:=V2.f0 1 rfl;have q1:=V2.f1 1 rfl
   go_wp2_with fail
   refine (HIn.out _).mono ?_
   rintro E W2 ⟨rfl,hb⟩
   have V3:=V2.below hb
   clear V2 hb q0 q1
   obtain ⟨hSZ,hINF⟩:=HS1.out
   rcases Hc.out with hlt | heq | hgt
   · have hd:INF < SZ:=by omega
     have HEnd:Hid (∀ w',Below w.heap.size w w'→DcIs PK PN w (.returned (.tuple #[.agg #[.bool false,.slice none 0 0,.slice none 0 0],.int .i64 4])) w'):=Lib.hid (fun w' hb=>K4.out hlt _ _ ⟨_,rfl,isR_zero w',hb⟩)
     clear hSZ hINF hlt
     have r0:=V3.c0 0 rfl;have r1:=V3.c1 0 rfl;have r2:=V3.c2 0 rfl
     have f0:=V3.frozen 0 0 rfl;have f1:=V3.frozen 0 1 rfl;have f2:=V3.frozen 0 2 rfl
     have HK:=Lib.hid (V3.box 0 _ _ _ rfl)
     have HBl:=Lib.hid V3.bel
     clear V3
     go_wp2_with fail
     exact bodyPost_ret (res_rat2 rfl _ _ _ _ _ _ _ _ _ _ (Value.int .i64 4) rfl rfl (blk_set3 HK.out.1 _ _ _)) rfl (HEnd.out _ (below_set3 HBl.out HK.out.2 _ _ _))
   · have hd:¬ INF < SZ:=by omega
     have hd2:(SZ == INF)=true:=by simp;omega
     cases neg with
     | true =>
      have HEnd:Hid (∀ w',Below w.heap.size w w'→DcIs PK PN w (.returned (.tuple #[.agg #[.bool false,.slice none 0 0,.slice none 0 0],.int .i64 3])) w'):=Lib.hid (fun w' hb=>K3.out heq rfl _ _ ⟨_,rfl,isR_zero w',hb⟩)
      clear hSZ hINF heq
      have q0:=V3.f0 1 rfl;have q1:=V3.f1 1 rfl
      go_wp2_with fail
      refine (HIn.out _).mono ?_
      rintro E W4 ⟨rfl,hb⟩
      have V4:=V3.below hb
      clear V3 hb q0 q1
      have V3:=V4
      clear V4
      have r0:=V3.c0 0 rfl;have r1:=V3.c1 0 rfl;have r2:=V3.c2 0 rfl
      have f0:=V3.frozen 0 0 rfl;have f1:=V3.frozen 0 1 rfl;have f2:=V3.frozen 0 2 rfl
      have HK:=Lib.hid (V3.box 0 _ _ _ rfl)
      have HBl:=Lib.hid V3.bel
      clear V3
      go_wp2_with fail
      exact bodyPost_ret (res_rat2 rfl _ _ _ _ _ _ _ _ _ _ (Value.int .i64 3) rfl rfl (blk_set3 HK.out.1 _ _ _)) rfl (HEnd.out _ (below_set3 HBl.out HK.out.2 _ _ _))
     | false =>
      have HEnd:Hid (∀ w',Below w.heap.size w w'→DcIs PK PN w (.returned (.tuple #[.agg #[.bool false,.slice none 0 0,.slice none 0 0],.int .i64 2])) w'):=Lib.hid (fun w' hb=>K2.out heq rfl _ _ ⟨_,rfl,isR_zero w',hb⟩)
      clear hSZ hINF heq
      have q0:=V3.f0 1 rfl;have q1:=V3.f1 1 rfl
      go_wp2_with fail
      refine (HIn.out _).mono ?_
      rintro E W4 ⟨rfl,hb⟩
      have V4:=V3.below hb
      clear V3 hb q0 q1
      have q0:=V4.f0 1 rfl;have q1:=V4.f1 1 rfl
      go_wp2_with fail
      refine (HIn.out _).mono ?_
      rintro E W5 ⟨rfl,hb⟩
      have V3:=V4.below hb
      clear V4 hb q0 q1
      have r0:=V3.c0 0 rfl;have r1:=V3.c1 0 rfl;have r2:=V3.c2 0 rfl
      have f0:=V3.frozen 0 0 rfl;have f1:=V3.frozen 0 1 rfl;have f2:=V3.frozen 0 2 rfl
      have HK:=Lib.hid (V3.box 0 _ _ _ rfl)
      have HBl:=Lib.hid V3.bel
      clear V3
      go_wp2_with fail
      exact bodyPost_ret (res_rat2 rfl _ _ _ _ _ _ _ _ _ _ (Value.int .i64 2) rfl rfl (blk_set3 HK.out.1 _ _ _)) rfl (HEnd.out _ (below_set3 HBl.out HK.out.2 _ _ _))
   · have hd:¬ INF < SZ:=by omega
     have hd2:(SZ == INF)=false:=by simp;omega
     have HEnd:=Lib.hid (K1.out hgt)
     clear hSZ hINF hgt
     have q0:=V3.f0 1 rfl;have q1:=V3.f1 1 rfl
     cases neg with
     | true =>
      go_wp2_with fail
      refine (HIn.out _).mono ?_
      rintro E W4 ⟨rfl,hb⟩
      have V4:=V3.below hb
      clear V3 hb q0 q1
      have q0:=V4.f0 1 rfl;have q1:=V4.f1 1 rfl
      go_wp2_with fail
      refine (HIn.out _).mono ?_
      rintro E W3 ⟨rfl,hb⟩
      have V3:=V4.below hb
      clear V4 hb q0 q1
      go_wp2_with fail
      refine wp_region_inv 15 (fun a0 dj a W=>∃ vy0 vy1 vy2 vy3 vy4 vy5 vy6 vy7 vy8 vy9 vy10 vy11 vy12 vy14:Value,a=puts a0 [(46,vy0),(47,vy1),(48,vy2),(49,vy3),(50,vy4),(51,vy5),(52,vy6),(53,vy7),(54,vy8),(45,vy9),(55,vy10),(56,vy11),(8,vy12),(9,vy14)]∧Below W3.heap.size W3 W∧(dj 0=true→vy0=.bool true)∧(dj 1=true→vy1=.agg #[.int .i64 (e:Int),.int .i64 (m:Int)])∧(dj 2=true→vy2=.int .u64 SZ)∧(dj 3=true→Nm W vy3 (UN))∧(dj 4=true→Nm W vy4 (1))∧(dj 5=true→vy5=.agg #[.int .i64 (e:Int),.int .i64 (m:Int)])∧(dj 6=true→vy6=.int .i64 UP)∧(dj 7=true→Nm W vy7 (TP))∧(dj 8=true→Rp W vy8 (X))∧(dj 9=true→Rp W vy9 (X))∧(dj 10=true→IsR W vy10 (X))∧(dj 11=true→vy11=.int .i64 0)∧(dj 12=true→dj 13=false→Rn W3 W vy12)∧(dj 13=true→Rs W3 W vy12 (X))∧(dj 14=true→vy14=.int .i64 0)) (by kernel_rfl) (by kernel_rfl) (by kernel_rfl) ?_ ?_ ?_ ?_
      · intro dj hcl i hi1 hi2 hd j hj
        exact absurd (Nat.lt_of_lt_of_le hi2 (of_decide_eq_true (by kernel_rfl))) (Nat.not_lt.2 hi1)
      · refine ⟨undef,undef,undef,undef,undef,undef,undef,undef,undef,undef,undef,undef,undef,undef,(by simp only [pus]),(Below.refl _ _).drew,(fun h=>by cases h),(fun h=>by cases h),(fun h=>by cases h),(fun h=>by cases h),(fun h=>by cases h),(fun h=>by cases h),(fun h=>by cases h),(fun h=>by cases h),(fun h=>by cases h),(fun h=>by cases h),(fun h=>by cases h),(fun h=>by cases h),(fun h=>by cases h),(fun h=>by cases h),(fun h=>by cases h)⟩
      · intro dj a W i hi hdi hcl hdep hI K hK
        obtain ⟨vy0,vy1,vy2,vy3,vy4,vy5,vy6,vy7,vy8,vy9,vy10,vy11,vy12,vy14,rfl,hB,p0,p1,p2,p3,p4,p5,p6,p7,p8,p9,p10,p11,p12,p13,p14⟩:=hI
        have V:=V3.below hB
        obtain rfl | rfl | rfl | rfl | rfl | rfl | rfl | rfl | rfl | rfl | rfl | rfl | rfl | rfl | rfl:i=0∨i=1∨i=2∨i=3∨i=4∨i=5∨i=6∨i=7∨i=8∨i=9∨i=10∨i=11∨i=12∨i=13∨i=14:=by omega
        · simp only [pus]
          refine any_op (o:=_) rfl rfl ?_
          go_wp2_with fail
          refine hK.out _ _ ?_
          exact ⟨.bool true,vy1,vy2,vy3,vy4,vy5,vy6,vy7,vy8,vy9,vy10,vy11,vy12,vy14,(by simp only [pus]),hB,(fun _=>rfl),p1,p2,p3,p4,p5,p6,p7,p8,p9,p10,p11,p12,p13,p14⟩
        · simp only [pus]
          have c0:=V.f0 1 rfl
          have c1:=V.f1 1 rfl
          refine any_op (o:=_) rfl rfl ?_
          go_wp2_with fail
          refine hK.out _ _ ?_
          exact ⟨vy0,.agg #[.int .i64 (e:Int),.int .i64 (m:Int)],vy2,vy3,vy4,vy5,vy6,vy7,vy8,vy9,vy10,vy11,vy12,vy14,(by simp only [pus]),hB,p0,(fun _=>rfl),p2,p3,p4,p5,p6,p7,p8,p9,p10,p11,p12,p13,p14⟩
        · simp only [pus]
          refine any_op (o:=_) rfl rfl ?_
          go_wp2_with fail
          refine hK.out _ _ ?_
          exact ⟨vy0,vy1,.int .u64 SZ,vy3,vy4,vy5,vy6,vy7,vy8,vy9,vy10,vy11,vy12,vy14,(by simp only [pus]),hB,p0,p1,(fun _=>rfl),p3,p4,p5,p6,p7,p8,p9,p10,p11,p12,p13,p14⟩
        · obtain rfl:=p1 (hdep 1 (by kernel_rfl))
          obtain rfl:=p2 (hdep 2 (by kernel_rfl))
          simp only [pus]
          refine any_op (o:=_) rfl rfl ?_
          have hC:=Lib.hid (HUn.out W)
          go_simp
          refine hC.out.mono ?_
          rintro e W2 ⟨x,y,z,rfl,hn,hb⟩
          refine hK.out _ _ ?_
          exact ⟨vy0,.agg #[.int .i64 (e:Int),.int .i64 (m:Int)],.int .u64 SZ,.agg #[.slice x y z],vy4,vy5,vy6,vy7,vy8,vy9,vy10,vy11,vy12,vy14,(by simp only [pus]),hB.trans (hb.mono hB.size),p0,(fun _=>rfl),(fun _=>rfl),(fun _=>⟨⟨x,y,z,rfl⟩,hn⟩),(fun h=>(p4 h).below hb),p5,p6,(fun h=>(p7 h).below hb),(fun h=>(p8 h).below hb),(fun h=>(p9 h).below hb),(fun h=>(p10 h).below hb (Nat.le_refl _)),p11,(fun h h2=>(p12 h h2).below hb),(fun h=>(p13 h).below hb),p14⟩
        · have k3:=p3 (hdep 3 (by kernel_rfl))
          obtain ⟨⟨x3,y3,z3,rfl⟩,n3⟩:=k3
          simp only [pus]
          refine any_op (o:=_) rfl rfl ?_
          have hC:=Lib.hid (HO1.out W)
          go_simp
          refine hC.out.mono ?_
          rintro e W2 ⟨x,y,z,rfl,hn,hb⟩
          refine hK.out _ _ ?_
          exact ⟨vy0,vy1,vy2,.agg #[.slice x3 y3 z3],.agg #[.slice x y z],vy5,vy6,vy7,vy8,vy9,vy10,vy11,vy12,vy14,(by simp only [pus]),hB.trans (hb.mono hB.size),p0,p1,p2,(fun _=>(show Nm _ _ _ from ⟨⟨x3,y3,z3,rfl⟩,n3⟩).below hb),(fun _=>⟨⟨x,y,z,rfl⟩,hn⟩),p5,p6,(fun h=>(p7 h).below hb),(fun h=>(p8 h).below hb),(fun h=>(p9 h).below hb),(fun h=>(p10 h).below hb (Nat.le_refl _)),p11,(fun h h2=>(p12 h h2).below hb),(fun h=>(p13 h).below hb),p14⟩
        · simp only [pus]
          have c0:=V.f0 1 rfl
          have c1:=V.f1 1 rfl
          refine any_op (o:=_) rfl rfl ?_
          go_wp2_with fail
          refine hK.out _ _ ?_
          exact ⟨vy0,vy1,vy2,vy3,vy4,.agg #[.int .i64 (e:Int),.int .i64 (m:Int)],vy6,vy7,vy8,vy9,vy10,vy11,vy12,vy14,(by simp only [pus]),hB,p0,p1,p2,p3,p4,(fun _=>rfl),p6,p7,p8,p9,p10,p11,p12,p13,p14⟩
        · have k4:=p4 (hdep 4 (by kernel_rfl))
          obtain ⟨⟨x4,y4,z4,rfl⟩,n4⟩:=k4
          obtain rfl:=p5 (hdep 5 (by kernel_rfl))
          simp only [pus]
          refine any_op (o:=_) rfl rfl ?_
          have hC:=Lib.hid (HUp.out W)
          go_simp
          refine hC.out.mono ?_
          rintro e W2 ⟨rfl,hb⟩
          refine hK.out _ _ ?_
          exact ⟨vy0,vy1,vy2,vy3,.agg #[.slice x4 y4 z4],.agg #[.int .i64 (e:Int),.int .i64 (m:Int)],.int .i64 UP,vy7,vy8,vy9,vy10,vy11,vy12,vy14,(by simp only [pus]),hB.trans (hb.mono hB.size),p0,p1,p2,(fun h=>(p3 h).below hb),(fun _=>(show Nm _ _ _ from ⟨⟨x4,y4,z4,rfl⟩,n4⟩).below hb),(fun _=>rfl),(fun _=>rfl),(fun h=>(p7 h).below hb),(fun h=>(p8 h).below hb),(fun h=>(p9 h).below hb),(fun h=>(p10 h).below hb (Nat.le_refl _)),p11,(fun h h2=>(p12 h h2).below hb),(fun h=>(p13 h).below hb),p14⟩
        · have k4:=p4 (hdep 4 (by kernel_rfl))
          obtain ⟨⟨x4,y4,z4,rfl⟩,n4⟩:=k4
          obtain rfl:=p6 (hdep 6 (by kernel_rfl))
          simp only [pus]
          refine any_op (o:=_) rfl rfl ?_
          have hC:=Lib.hid (HSh.out W _ n4)
          go_simp
          refine hC.out.mono ?_
          rintro e W2 ⟨x,y,z,rfl,hn,hb⟩
          refine hK.out _ _ ?_
          exact ⟨vy0,vy1,vy2,vy3,.agg #[.slice x4 y4 z4],vy5,.int .i64 UP,.agg #[.slice x y z],vy8,vy9,vy10,vy11,vy12,vy14,(by simp only [pus]),hB.trans (hb.mono hB.size),p0,p1,p2,(fun h=>(p3 h).below hb),(fun _=>(show Nm _ _ _ from ⟨⟨x4,y4,z4,rfl⟩,n4⟩).below hb),p5,(fun _=>rfl),(fun _=>⟨⟨x,y,z,rfl⟩,hn⟩),(fun h=>(p8 h).below hb),(fun h=>(p9 h).below hb),(fun h=>(p10 h).below hb (Nat.le_refl _)),p11,(fun h h2=>(p12 h h2).below hb),(fun h=>(p13 h).below hb),p14⟩
        · obtain rfl:=p0 (hdep 0 (by kernel_rfl))
          have k3:=p3 (hdep 3 (by kernel_rfl))
          obtain ⟨⟨x3,y3,z3,rfl⟩,n3⟩:=k3
          have k7:=p7 (hdep 7 (by kernel_rfl))
          obtain ⟨⟨x7,y7,z7,rfl⟩,n7⟩:=k7
          simp only [pus]
          refine any_op (o:=_) rfl rfl ?_
          have hC:=Lib.hid (HMk.out W _ _ V.bel n3 n7)
          go_simp
          refine hC.out.mono ?_
          rintro e W2 ⟨u,rfl,hn,hb⟩
          refine hK.out _ _ ?_
          exact ⟨.bool true,vy1,vy2,.agg #[.slice x3 y3 z3],vy4,vy5,vy6,.agg #[.slice x7 y7 z7],.tuple #[u,.int .i64 0],vy9,vy10,vy11,vy12,vy14,(by simp only [pus]),hB.trans (hb.mono hB.size),(fun _=>rfl),p1,p2,(fun _=>(show Nm _ _ _ from ⟨⟨x3,y3,z3,rfl⟩,n3⟩).below hb),(fun h=>(p4 h).below hb),p5,p6,(fun _=>(show Nm _ _ _ from ⟨⟨x7,y7,z7,rfl⟩,n7⟩).below hb),(fun _=>⟨u,rfl,hn⟩),(fun h=>(p9 h).below hb),(fun h=>(p10 h).below hb (Nat.le_refl _)),p11,(fun h h2=>(p12 h h2).below hb),(fun h=>(p13 h).below hb),p14⟩
        · have k8:=p8 (hdep 8 (by kernel_rfl))
          obtain ⟨u8,rfl,n8⟩:=k8
          simp only [pus]
          refine any_op (o:=_) rfl rfl ?_
          go_wp2_with fail
          refine hK.out _ _ ?_
          exact ⟨vy0,vy1,vy2,vy3,vy4,vy5,vy6,vy7,.tuple #[u8,.int .i64 0],.tuple #[u8,.int .i64 0],vy10,vy11,vy12,vy14,(by simp only [pus]),hB,p0,p1,p2,p3,p4,p5,p6,p7,(fun _=>⟨u8,rfl,n8⟩),(fun _=>⟨u8,rfl,n8⟩),p10,p11,p12,p13,p14⟩
        · have k9:=p9 (hdep 9 (by kernel_rfl))
          obtain ⟨u9,rfl,n9⟩:=k9
          simp only [pus]
          refine any_op (o:=_) rfl rfl ?_
          go_wp2_with fail
          refine hK.out _ _ ?_
          exact ⟨vy0,vy1,vy2,vy3,vy4,vy5,vy6,vy7,vy8,.tuple #[u9,.int .i64 0],u9,vy11,vy12,vy14,(by simp only [pus]),hB,p0,p1,p2,p3,p4,p5,p6,p7,p8,(fun _=>⟨u9,rfl,n9⟩),(fun _=>n9),p11,p12,(fun h=>absurd (hcl 13 10 (by kernel_rfl) h) (by rw [hdi];simp)),p14⟩
        · have k9:=p9 (hdep 9 (by kernel_rfl))
          obtain ⟨u9,rfl,n9⟩:=k9
          simp only [pus]
          refine any_op (o:=_) rfl rfl ?_
          go_wp2_with fail
          refine hK.out _ _ ?_
          exact ⟨vy0,vy1,vy2,vy3,vy4,vy5,vy6,vy7,vy8,.tuple #[u9,.int .i64 0],vy10,.int .i64 0,vy12,vy14,(by simp only [pus]),hB,p0,p1,p2,p3,p4,p5,p6,p7,p8,(fun _=>⟨u9,rfl,n9⟩),p10,(fun _=>rfl),p12,p13,p14⟩
        · simp only [pus]
          refine any_op (o:=_) rfl rfl ?_
          have hb:=below_lit W (.cells #[.bool false,.slice none 0 0,.slice none 0 0] 27)
          have hnb:Rn W3 (W.alloc (.cells #[.bool false,.slice none 0 0,.slice none 0 0] 27)) (.pointer (some ⟨W.heap.size,0,none⟩)):=⟨_,rfl,Blk.new W _ _,hB.size⟩
          go_wp2_with fail
          refine hK.out _ _ ?_
          exact ⟨vy0,vy1,vy2,vy3,vy4,vy5,vy6,vy7,vy8,vy9,vy10,vy11,.pointer (some ⟨W.heap.size,0,none⟩),vy14,(by simp only [pus]),hB.trans (hb.mono hB.size),p0,p1,p2,(fun h=>(p3 h).below hb),(fun h=>(p4 h).below hb),p5,p6,(fun h=>(p7 h).below hb),(fun h=>(p8 h).below hb),(fun h=>(p9 h).below hb),(fun h=>(p10 h).below hb (Nat.le_refl _)),p11,(fun _ _=>hnb),(fun h=>absurd (hcl 13 12 (by kernel_rfl) h) (by rw [hdi];simp)),p14⟩
        · obtain ⟨b,rfl,hk,hl⟩:=p12 (hdep 12 (by kernel_rfl)) hdi
          have hR0:=p10 (hdep 10 (by kernel_rfl))
          have hR1:=hR0
          obtain ⟨e1,e2,e3,e4,e5,e6,rfl,-,-⟩:=hR1
          obtain ⟨zx,hzx⟩:∃ zx,decide ((X).num < 0)=zx:=⟨_,rfl⟩
          rw [hzx] at hR0 ⊢
          clear hzx
          simp only [pus]
          have c0:=hk.cell 0;have c1:=hk.cell 1;have c2:=hk.cell 2;have f0:=hk.frozen 0;have f1:=hk.frozen 1;have f2:=hk.frozen 2
          simp only [List.getElem?_toArray,List.getElem?_cons_zero,List.getElem?_cons_succ] at c0 c1 c2
          refine any_op (o:=_) rfl rfl ?_
          go_wp2_with fail
          refine hK.out _ _ ?_
          exact ⟨vy0,vy1,vy2,vy3,vy4,vy5,vy6,vy7,vy8,vy9,.agg #[.bool zx,.slice e1 e2 e3,.slice e4 e5 e6],vy11,.pointer (some ⟨b,0,none⟩),vy14,(by simp only [pus]),(below_set3 hB hl _ _ _),p0,p1,p2,(fun h=>(p3 h).s3 hk),(fun h=>(p4 h).s3 hk),p5,p6,(fun h=>(p7 h).s3 hk),(fun h=>(p8 h).s3 hk),(fun h=>(p9 h).s3 hk),(fun _=>isR_s3 hR0 hk _ _ _),p11,(fun _ h=>by rw [upd_self] at h;cases h),(fun _=>⟨b,zx,e1,e2,e3,e4,e5,e6,rfl,blk_set3 hk _ _ _,isR_s3 hR0 hk _ _ _,hl⟩),p14⟩
        · obtain rfl:=p0 (hdep 0 (by kernel_rfl))
          obtain rfl:=p1 (hdep 1 (by kernel_rfl))
          obtain rfl:=p2 (hdep 2 (by kernel_rfl))
          have k3:=p3 (hdep 3 (by kernel_rfl))
          obtain ⟨⟨x3,y3,z3,rfl⟩,n3⟩:=k3
          have k4:=p4 (hdep 4 (by kernel_rfl))
          obtain ⟨⟨x4,y4,z4,rfl⟩,n4⟩:=k4
          obtain rfl:=p5 (hdep 5 (by kernel_rfl))
          obtain rfl:=p6 (hdep 6 (by kernel_rfl))
          have k7:=p7 (hdep 7 (by kernel_rfl))
          obtain ⟨⟨x7,y7,z7,rfl⟩,n7⟩:=k7
          have k8:=p8 (hdep 8 (by kernel_rfl))
          obtain ⟨u8,rfl,n8⟩:=k8
          have k9:=p9 (hdep 9 (by kernel_rfl))
          obtain ⟨u9,rfl,n9⟩:=k9
          have n10:=p10 (hdep 10 (by kernel_rfl))
          obtain rfl:=p11 (hdep 11 (by kernel_rfl))
          simp only [pus]
          refine any_op (o:=_) rfl rfl ?_
          go_wp2_with fail
          refine hK.out _ _ ?_
          exact ⟨.bool true,.agg #[.int .i64 (e:Int),.int .i64 (m:Int)],.int .u64 SZ,.agg #[.slice x3 y3 z3],.agg #[.slice x4 y4 z4],.agg #[.int .i64 (e:Int),.int .i64 (m:Int)],.int .i64 UP,.agg #[.slice x7 y7 z7],.tuple #[u8,.int .i64 0],.tuple #[u9,.int .i64 0],vy10,.int .i64 0,vy12,.int .i64 0,(by simp only [pus]),hB,(fun _=>rfl),(fun _=>rfl),(fun _=>rfl),(fun _=>⟨⟨x3,y3,z3,rfl⟩,n3⟩),(fun _=>⟨⟨x4,y4,z4,rfl⟩,n4⟩),(fun _=>rfl),(fun _=>rfl),(fun _=>⟨⟨x7,y7,z7,rfl⟩,n7⟩),(fun _=>⟨u8,rfl,n8⟩),(fun _=>⟨u9,rfl,n9⟩),(fun _=>n10),(fun _=>rfl),p12,p13,(fun _=>rfl)⟩
      · intro dj a W hd hI
        obtain ⟨vy0,vy1,vy2,vy3,vy4,vy5,vy6,vy7,vy8,vy9,vy10,vy11,vy12,vy14,rfl,hB,p0,p1,p2,p3,p4,p5,p6,p7,p8,p9,p10,p11,p12,p13,p14⟩:=hI
        have V:=V3.below hB
        obtain rfl:=p0 (hd 0 (by omega))
        obtain rfl:=p1 (hd 1 (by omega))
        obtain rfl:=p2 (hd 2 (by omega))
        obtain ⟨⟨xy3,yy3,zy3,rfl⟩,ny3⟩:=p3 (hd 3 (by omega))
        obtain ⟨⟨xy4,yy4,zy4,rfl⟩,ny4⟩:=p4 (hd 4 (by omega))
        obtain rfl:=p5 (hd 5 (by omega))
        obtain rfl:=p6 (hd 6 (by omega))
        obtain ⟨⟨xy7,yy7,zy7,rfl⟩,ny7⟩:=p7 (hd 7 (by omega))
        obtain ⟨uy8,rfl,ny8⟩:=p8 (hd 8 (by omega))
        obtain ⟨uy9,rfl,ny9⟩:=p9 (hd 9 (by omega))
        have ny10:=p10 (hd 10 (by omega))
        obtain rfl:=p11 (hd 11 (by omega))
        obtain ⟨by13,zy13,e1,e2,e3,e4,e5,e6,rfl,ky13,ry13,ly13⟩:=p13 (hd 13 (by omega))
        obtain rfl:=p14 (hd 14 (by omega))
        simp only [pus]
        show wpAny Tryz.prog .any _ _ 0 #[true,true,true,true,true,true,true,true,true,true,true,true,true,true,true] _ _
        have V7:=(V.addbox ky13 (Nat.le_trans V3.bel.size ly13)).rcons ry13
        refine ⟨by kernel_rfl,?_⟩
        clear V V3 ny3 ny4 ny7 ny8 ny9 ny10 ky13 ry13
        have a0:=V7.c0 0 rfl;have a1:=V7.c1 0 rfl;have a2:=V7.c2 0 rfl
        have r0:=V7.c0 1 rfl;have r1:=V7.c1 1 rfl;have r2:=V7.c2 1 rfl
        have f0:=V7.frozen 1 0 rfl;have f1:=V7.frozen 1 1 rfl;have f2:=V7.frozen 1 2 rfl
        have HF:=Lib.hid (V7.finr 1 0 rfl rfl)
        clear V7
        go_wp2_with fail
        exact bodyPost_ret (res_rat2 rfl _ _ _ _ _ _ _ _ _ _ (Value.int .i64 1) rfl rfl HF.out.1) rfl (HEnd.out _ _ ⟨_,rfl,HF.out.2.1,HF.out.2.2⟩)
     | false =>
      go_wp2_with fail
      refine (HIn.out _).mono ?_
      rintro E W4 ⟨rfl,hb⟩
      have V4:=V3.below hb
      clear V3 hb q0 q1
      have q0:=V4.f0 1 rfl;have q1:=V4.f1 1 rfl
      go_wp2_with fail
      refine (HIn.out _).mono ?_
      rintro E W3 ⟨rfl,hb⟩
      have V3:=V4.below hb
      clear V4 hb q0 q1
      go_wp2_with fail
      refine wp_region_inv 15 (fun a0 dj a W=>∃ vy0 vy1 vy2 vy3 vy4 vy5 vy6 vy7 vy8 vy9 vy10 vy11 vy12 vy14:Value,a=puts a0 [(46,vy0),(47,vy1),(48,vy2),(49,vy3),(50,vy4),(51,vy5),(52,vy6),(53,vy7),(54,vy8),(45,vy9),(55,vy10),(56,vy11),(8,vy12),(9,vy14)]∧Below W3.heap.size W3 W∧(dj 0=true→vy0=.bool false)∧(dj 1=true→vy1=.agg #[.int .i64 (e:Int),.int .i64 (m:Int)])∧(dj 2=true→vy2=.int .u64 SZ)∧(dj 3=true→Nm W vy3 (UN))∧(dj 4=true→Nm W vy4 (1))∧(dj 5=true→vy5=.agg #[.int .i64 (e:Int),.int .i64 (m:Int)])∧(dj 6=true→vy6=.int .i64 UP)∧(dj 7=true→Nm W vy7 (TP))∧(dj 8=true→Rp W vy8 (X))∧(dj 9=true→Rp W vy9 (X))∧(dj 10=true→IsR W vy10 (X))∧(dj 11=true→vy11=.int .i64 0)∧(dj 12=true→dj 13=false→Rn W3 W vy12)∧(dj 13=true→Rs W3 W vy12 (X))∧(dj 14=true→vy14=.int .i64 0)) (by kernel_rfl) (by kernel_rfl) (by kernel_rfl) ?_ ?_ ?_ ?_
      · intro dj hcl i hi1 hi2 hd j hj
        exact absurd (Nat.lt_of_lt_of_le hi2 (of_decide_eq_true (by kernel_rfl))) (Nat.not_lt.2 hi1)
      · refine ⟨undef,undef,undef,undef,undef,undef,undef,undef,undef,undef,undef,undef,undef,undef,(by simp only [pus]),(Below.refl _ _).drew,(fun h=>by cases h),(fun h=>by cases h),(fun h=>by cases h),(fun h=>by cases h),(fun h=>by cases h),(fun h=>by cases h),(fun h=>by cases h),(fun h=>by cases h),(fun h=>by cases h),(fun h=>by cases h),(fun h=>by cases h),(fun h=>by cases h),(fun h=>by cases h),(fun h=>by cases h),(fun h=>by cases h)⟩
      · intro dj a W i hi hdi hcl hdep hI K hK
        obtain ⟨vy0,vy1,vy2,vy3,vy4,vy5,vy6,vy7,vy8,vy9,vy10,vy11,vy12,vy14,rfl,hB,p0,p1,p2,p3,p4,p5,p6,p7,p8,p9,p10,p11,p12,p13,p14⟩:=hI
        have V:=V3.below hB
        obtain rfl | rfl | rfl | rfl | rfl | rfl | rfl | rfl | rfl | rfl | rfl | rfl | rfl | rfl | rfl:i=0∨i=1∨i=2∨i=3∨i=4∨i=5∨i=6∨i=7∨i=8∨i=9∨i=10∨i=11∨i=12∨i=13∨i=14:=by omega
        · simp only [pus]
          refine any_op (o:=_) rfl rfl ?_
          go_wp2_with fail
          refine hK.out _ _ ?_
          exact ⟨.bool false,vy1,vy2,vy3,vy4,vy5,vy6,vy7,vy8,vy9,vy10,vy11,vy12,vy14,(by simp only [pus]),hB,(fun _=>rfl),p1,p2,p3,p4,p5,p6,p7,p8,p9,p10,p11,p12,p13,p14⟩
        · simp only [pus]
          have c0:=V.f0 1 rfl
          have c1:=V.f1 1 rfl
          refine any_op (o:=_) rfl rfl ?_
          go_wp2_with fail
          refine hK.out _ _ ?_
          exact ⟨vy0,.agg #[.int .i64 (e:Int),.int .i64 (m:Int)],vy2,vy3,vy4,vy5,vy6,vy7,vy8,vy9,vy10,vy11,vy12,vy14,(by simp only [pus]),hB,p0,(fun _=>rfl),p2,p3,p4,p5,p6,p7,p8,p9,p10,p11,p12,p13,p14⟩
        · simp only [pus]
          refine any_op (o:=_) rfl rfl ?_
          go_wp2_with fail
          refine hK.out _ _ ?_
          exact ⟨vy0,vy1,.int .u64 SZ,vy3,vy4,vy5,vy6,vy7,vy8,vy9,vy10,vy11,vy12,vy14,(by simp only [pus]),hB,p0,p1,(fun _=>rfl),p3,p4,p5,p6,p7,p8,p9,p10,p11,p12,p13,p14⟩
        · obtain rfl:=p1 (hdep 1 (by kernel_rfl))
          obtain rfl:=p2 (hdep 2 (by kernel_rfl))
          simp only [pus]
          refine any_op (o:=_) rfl rfl ?_
          have hC:=Lib.hid (HUn.out W)
          go_simp
          refine hC.out.mono ?_
          rintro e W2 ⟨x,y,z,rfl,hn,hb⟩
          refine hK.out _ _ ?_
          exact ⟨vy0,.agg #[.int .i64 (e:Int),.int .i64 (m:Int)],.int .u64 SZ,.agg #[.slice x y z],vy4,vy5,vy6,vy7,vy8,vy9,vy10,vy11,vy12,vy14,(by simp only [pus]),hB.trans (hb.mono hB.size),p0,(fun _=>rfl),(fun _=>rfl),(fun _=>⟨⟨x,y,z,rfl⟩,hn⟩),(fun h=>(p4 h).below hb),p5,p6,(fun h=>(p7 h).below hb),(fun h=>(p8 h).below hb),(fun h=>(p9 h).below hb),(fun h=>(p10 h).below hb (Nat.le_refl _)),p11,(fun h h2=>(p12 h h2).below hb),(fun h=>(p13 h).below hb),p14⟩
        · have k3:=p3 (hdep 3 (by kernel_rfl))
          obtain ⟨⟨x3,y3,z3,rfl⟩,n3⟩:=k3
          simp only [pus]
          refine any_op (o:=_) rfl rfl ?_
          have hC:=Lib.hid (HO1.out W)
          go_simp
          refine hC.out.mono ?_
          rintro e W2 ⟨x,y,z,rfl,hn,hb⟩
          refine hK.out _ _ ?_
          exact ⟨vy0,vy1,vy2,.agg #[.slice x3 y3 z3],.agg #[.slice x y z],vy5,vy6,vy7,vy8,vy9,vy10,vy11,vy12,vy14,(by simp only [pus]),hB.trans (hb.mono hB.size),p0,p1,p2,(fun _=>(show Nm _ _ _ from ⟨⟨x3,y3,z3,rfl⟩,n3⟩).below hb),(fun _=>⟨⟨x,y,z,rfl⟩,hn⟩),p5,p6,(fun h=>(p7 h).below hb),(fun h=>(p8 h).below hb),(fun h=>(p9 h).below hb),(fun h=>(p10 h).below hb (Nat.le_refl _)),p11,(fun h h2=>(p12 h h2).below hb),(fun h=>(p13 h).below hb),p14⟩
        · simp only [pus]
          have c0:=V.f0 1 rfl
          have c1:=V.f1 1 rfl
          refine any_op (o:=_) rfl rfl ?_
          go_wp2_with fail
          refine hK.out _ _ ?_
          exact ⟨vy0,vy1,vy2,vy3,vy4,.agg #[.int .i64 (e:Int),.int .i64 (m:Int)],vy6,vy7,vy8,vy9,vy10,vy11,vy12,vy14,(by simp only [pus]),hB,p0,p1,p2,p3,p4,(fun _=>rfl),p6,p7,p8,p9,p10,p11,p12,p13,p14⟩
        · have k4:=p4 (hdep 4 (by kernel_rfl))
          obtain ⟨⟨x4,y4,z4,rfl⟩,n4⟩:=k4
          obtain rfl:=p5 (hdep 5 (by kernel_rfl))
          simp only [pus]
          refine any_op (o:=_) rfl rfl ?_
          have hC:=Lib.hid (HUp.out W)
          go_simp
          refine hC.out.mono ?_
          rintro e W2 ⟨rfl,hb⟩
          refine hK.out _ _ ?_
          exact ⟨vy0,vy1,vy2,vy3,.agg #[.slice x4 y4 z4],.agg #[.int .i64 (e:Int),.int .i64 (m:Int)],.int .i64 UP,vy7,vy8,vy9,vy10,vy11,vy12,vy14,(by simp only [pus]),hB.trans (hb.mono hB.size),p0,p1,p2,(fun h=>(p3 h).below hb),(fun _=>(show Nm _ _ _ from ⟨⟨x4,y4,z4,rfl⟩,n4⟩).below hb),(fun _=>rfl),(fun _=>rfl),(fun h=>(p7 h).below hb),(fun h=>(p8 h).below hb),(fun h=>(p9 h).below hb),(fun h=>(p10 h).below hb (Nat.le_refl _)),p11,(fun h h2=>(p12 h h2).below hb),(fun h=>(p13 h).below hb),p14⟩
        · have k4:=p4 (hdep 4 (by kernel_rfl))
          obtain ⟨⟨x4,y4,z4,rfl⟩,n4⟩:=k4
          obtain rfl:=p6 (hdep 6 (by kernel_rfl))
          simp only [pus]
          refine any_op (o:=_) rfl rfl ?_
          have hC:=Lib.hid (HSh.out W _ n4)
          go_simp
          refine hC.out.mono ?_
          rintro e W2 ⟨x,y,z,rfl,hn,hb⟩
          refine hK.out _ _ ?_
          exact ⟨vy0,vy1,vy2,vy3,.agg #[.slice x4 y4 z4],vy5,.int .i64 UP,.agg #[.slice x y z],vy8,vy9,vy10,vy11,vy12,vy14,(by simp only [pus]),hB.trans (hb.mono hB.size),p0,p1,p2,(fun h=>(p3 h).below hb),(fun _=>(show Nm _ _ _ from ⟨⟨x4,y4,z4,rfl⟩,n4⟩).below hb),p5,(fun _=>rfl),(fun _=>⟨⟨x,y,z,rfl⟩,hn⟩),(fun h=>(p8 h).below hb),(fun h=>(p9 h).below hb),(fun h=>(p10 h).below hb (Nat.le_refl _)),p11,(fun h h2=>(p12 h h2).below hb),(fun h=>(p13 h).below hb),p14⟩
        · obtain rfl:=p0 (hdep 0 (by kernel_rfl))
          have k3:=p3 (hdep 3 (by kernel_rfl))
          obtain ⟨⟨x3,y3,z3,rfl⟩,n3⟩:=k3
          have k7:=p7 (hdep 7 (by kernel_rfl))
          obtain ⟨⟨x7,y7,z7,rfl⟩,n7⟩:=k7
          simp only [pus]
          refine any_op (o:=_) rfl rfl ?_
          have hC:=Lib.hid (HMk.out W _ _ V.bel n3 n7)
          go_simp
          refine hC.out.mono ?_
          rintro e W2 ⟨u,rfl,hn,hb⟩
          refine hK.out _ _ ?_
          exact ⟨.bool false,vy1,vy2,.agg #[.slice x3 y3 z3],vy4,vy5,vy6,.agg #[.slice x7 y7 z7],.tuple #[u,.int .i64 0],vy9,vy10,vy11,vy12,vy14,(by simp only [pus]),hB.trans (hb.mono hB.size),(fun _=>rfl),p1,p2,(fun _=>(show Nm _ _ _ from ⟨⟨x3,y3,z3,rfl⟩,n3⟩).below hb),(fun h=>(p4 h).below hb),p5,p6,(fun _=>(show Nm _ _ _ from ⟨⟨x7,y7,z7,rfl⟩,n7⟩).below hb),(fun _=>⟨u,rfl,hn⟩),(fun h=>(p9 h).below hb),(fun h=>(p10 h).below hb (Nat.le_refl _)),p11,(fun h h2=>(p12 h h2).below hb),(fun h=>(p13 h).below hb),p14⟩
        · have k8:=p8 (hdep 8 (by kernel_rfl))
          obtain ⟨u8,rfl,n8⟩:=k8
          simp only [pus]
          refine any_op (o:=_) rfl rfl ?_
          go_wp2_with fail
          refine hK.out _ _ ?_
          exact ⟨vy0,vy1,vy2,vy3,vy4,vy5,vy6,vy7,.tuple #[u8,.int .i64 0],.tuple #[u8,.int .i64 0],vy10,vy11,vy12,vy14,(by simp only [pus]),hB,p0,p1,p2,p3,p4,p5,p6,p7,(fun _=>⟨u8,rfl,n8⟩),(fun _=>⟨u8,rfl,n8⟩),p10,p11,p12,p13,p14⟩
        · have k9:=p9 (hdep 9 (by kernel_rfl))
          obtain ⟨u9,rfl,n9⟩:=k9
          simp only [pus]
          refine any_op (o:=_) rfl rfl ?_
          go_wp2_with fail
          refine hK.out _ _ ?_
          exact ⟨vy0,vy1,vy2,vy3,vy4,vy5,vy6,vy7,vy8,.tuple #[u9,.int .i64 0],u9,vy11,vy12,vy14,(by simp only [pus]),hB,p0,p1,p2,p3,p4,p5,p6,p7,p8,(fun _=>⟨u9,rfl,n9⟩),(fun _=>n9),p11,p12,(fun h=>absurd (hcl 13 10 (by kernel_rfl) h) (by rw [hdi];simp)),p14⟩
        · have k9:=p9 (hdep 9 (by kernel_rfl))
          obtain ⟨u9,rfl,n9⟩:=k9
          simp only [pus]
          refine any_op (o:=_) rfl rfl ?_
          go_wp2_with fail
          refine hK.out _ _ ?_
          exact ⟨vy0,vy1,vy2,vy3,vy4,vy5,vy6,vy7,vy8,.tuple #[u9,.int .i64 0],vy10,.int .i64 0,vy12,vy14,(by simp only [pus]),hB,p0,p1,p2,p3,p4,p5,p6,p7,p8,(fun _=>⟨u9,rfl,n9⟩),p10,(fun _=>rfl),p12,p13,p14⟩
        · simp only [pus]
          refine any_op (o:=_) rfl rfl ?_
          have hb:=below_lit W (.cells #[.bool false,.slice none 0 0,.slice none 0 0] 27)
          have hnb:Rn W3 (W.alloc (.cells #[.bool false,.slice none 0 0,.slice none 0 0] 27)) (.pointer (some ⟨W.heap.size,0,none⟩)):=⟨_,rfl,Blk.new W _ _,hB.size⟩
          go_wp2_with fail
          refine hK.out _ _ ?_
          exact ⟨vy0,vy1,vy2,vy3,vy4,vy5,vy6,vy7,vy8,vy9,vy10,vy11,.pointer (some ⟨W.heap.size,0,none⟩),vy14,(by simp only [pus]),hB.trans (hb.mono hB.size),p0,p1,p2,(fun h=>(p3 h).below hb),(fun h=>(p4 h).below hb),p5,p6,(fun h=>(p7 h).below hb),(fun h=>(p8 h).below hb),(fun h=>(p9 h).below hb),(fun h=>(p10 h).below hb (Nat.le_refl _)),p11,(fun _ _=>hnb),(fun h=>absurd (hcl 13 12 (by kernel_rfl) h) (by rw [hdi];simp)),p14⟩
        · obtain ⟨b,rfl,hk,hl⟩:=p12 (hdep 12 (by kernel_rfl)) hdi
          have hR0:=p10 (hdep 10 (by kernel_rfl))
          have hR1:=hR0
          obtain ⟨e1,e2,e3,e4,e5,e6,rfl,-,-⟩:=hR1
          obtain ⟨zx,hzx⟩:∃ zx,decide ((X).num < 0)=zx:=⟨_,rfl⟩
          rw [hzx] at hR0 ⊢
          clear hzx
          simp only [pus]
          have c0:=hk.cell 0;have c1:=hk.cell 1;have c2:=hk.cell 2;have f0:=hk.frozen 0;have f1:=hk.frozen 1;have f2:=hk.frozen 2
          simp only [List.getElem?_toArray,List.getElem?_cons_zero,List.getElem?_cons_succ] at c0 c1 c2
          refine any_op (o:=_) rfl rfl ?_
          go_wp2_with fail
          refine hK.out _ _ ?_
          exact ⟨vy0,vy1,vy2,vy3,vy4,vy5,vy6,vy7,vy8,vy9,.agg #[.bool zx,.slice e1 e2 e3,.slice e4 e5 e6],vy11,.pointer (some ⟨b,0,none⟩),vy14,(by simp only [pus]),(below_set3 hB hl _ _ _),p0,p1,p2,(fun h=>(p3 h).s3 hk),(fun h=>(p4 h).s3 hk),p5,p6,(fun h=>(p7 h).s3 hk),(fun h=>(p8 h).s3 hk),(fun h=>(p9 h).s3 hk),(fun _=>isR_s3 hR0 hk _ _ _),p11,(fun _ h=>by rw [upd_self] at h;cases h),(fun _=>⟨b,zx,e1,e2,e3,e4,e5,e6,rfl,blk_set3 hk _ _ _,isR_s3 hR0 hk _ _ _,hl⟩),p14⟩
        · obtain rfl:=p0 (hdep 0 (by kernel_rfl))
          obtain rfl:=p1 (hdep 1 (by kernel_rfl))
          obtain rfl:=p2 (hdep 2 (by kernel_rfl))
          have k3:=p3 (hdep 3 (by kernel_rfl))
          obtain ⟨⟨x3,y3,z3,rfl⟩,n3⟩:=k3
          have k4:=p4 (hdep 4 (by kernel_rfl))
          obtain ⟨⟨x4,y4,z4,rfl⟩,n4⟩:=k4
          obtain rfl:=p5 (hdep 5 (by kernel_rfl))
          obtain rfl:=p6 (hdep 6 (by kernel_rfl))
          have k7:=p7 (hdep 7 (by kernel_rfl))
          obtain ⟨⟨x7,y7,z7,rfl⟩,n7⟩:=k7
          have k8:=p8 (hdep 8 (by kernel_rfl))
          obtain ⟨u8,rfl,n8⟩:=k8
          have k9:=p9 (hdep 9 (by kernel_rfl))
          obtain ⟨u9,rfl,n9⟩:=k9
          have n10:=p10 (hdep 10 (by kernel_rfl))
          obtain rfl:=p11 (hdep 11 (by kernel_rfl))
          simp only [pus]
          refine any_op (o:=_) rfl rfl ?_
          go_wp2_with fail
          refine hK.out _ _ ?_
          exact ⟨.bool false,.agg #[.int .i64 (e:Int),.int .i64 (m:Int)],.int .u64 SZ,.agg #[.slice x3 y3 z3],.agg #[.slice x4 y4 z4],.agg #[.int .i64 (e:Int),.int .i64 (m:Int)],.int .i64 UP,.agg #[.slice x7 y7 z7],.tuple #[u8,.int .i64 0],.tuple #[u9,.int .i64 0],vy10,.int .i64 0,vy12,.int .i64 0,(by simp only [pus]),hB,(fun _=>rfl),(fun _=>rfl),(fun _=>rfl),(fun _=>⟨⟨x3,y3,z3,rfl⟩,n3⟩),(fun _=>⟨⟨x4,y4,z4,rfl⟩,n4⟩),(fun _=>rfl),(fun _=>rfl),(fun _=>⟨⟨x7,y7,z7,rfl⟩,n7⟩),(fun _=>⟨u8,rfl,n8⟩),(fun _=>⟨u9,rfl,n9⟩),(fun _=>n10),(fun _=>rfl),p12,p13,(fun _=>rfl)⟩
      · intro dj a W hd hI
        obtain ⟨vy0,vy1,vy2,vy3,vy4,vy5,vy6,vy7,vy8,vy9,vy10,vy11,vy12,vy14,rfl,hB,p0,p1,p2,p3,p4,p5,p6,p7,p8,p9,p10,p11,p12,p13,p14⟩:=hI
        have V:=V3.below hB
        obtain rfl:=p0 (hd 0 (by omega))
        obtain rfl:=p1 (hd 1 (by omega))
        obtain rfl:=p2 (hd 2 (by omega))
        obtain ⟨⟨xy3,yy3,zy3,rfl⟩,ny3⟩:=p3 (hd 3 (by omega))
        obtain ⟨⟨xy4,yy4,zy4,rfl⟩,ny4⟩:=p4 (hd 4 (by omega))
        obtain rfl:=p5 (hd 5 (by omega))
        obtain rfl:=p6 (hd 6 (by omega))
        obtain ⟨⟨xy7,yy7,zy7,rfl⟩,ny7⟩:=p7 (hd 7 (by omega))
        obtain ⟨uy8,rfl,ny8⟩:=p8 (hd 8 (by omega))
        obtain ⟨uy9,rfl,ny9⟩:=p9 (hd 9 (by omega))
        have ny10:=p10 (hd 10 (by omega))
        obtain rfl:=p11 (hd 11 (by omega))
        obtain ⟨by13,zy13,e1,e2,e3,e4,e5,e6,rfl,ky13,ry13,ly13⟩:=p13 (hd 13 (by omega))
        obtain rfl:=p14 (hd 14 (by omega))
        simp only [pus]
        show wpAny Tryz.prog .any _ _ 0 #[true,true,true,true,true,true,true,true,true,true,true,true,true,true,true] _ _
        have V7:=(V.addbox ky13 (Nat.le_trans V3.bel.size ly13)).rcons ry13
        refine ⟨by kernel_rfl,?_⟩
        clear V V3 ny3 ny4 ny7 ny8 ny9 ny10 ky13 ry13
        have a0:=V7.c0 0 rfl;have a1:=V7.c1 0 rfl;have a2:=V7.c2 0 rfl
        have r0:=V7.c0 1 rfl;have r1:=V7.c1 1 rfl;have r2:=V7.c2 1 rfl
        have f0:=V7.frozen 1 0 rfl;have f1:=V7.frozen 1 1 rfl;have f2:=V7.frozen 1 2 rfl
        have HF:=Lib.hid (V7.finr 1 0 rfl rfl)
        clear V7
        go_wp2_with fail
        exact bodyPost_ret (res_rat2 rfl _ _ _ _ _ _ _ _ _ _ (Value.int .i64 1) rfl rfl HF.out.1) rfl (HEnd.out _ _ ⟨_,rfl,HF.out.2.1,HF.out.2.2⟩)
end Go.Proofs.YtnhobagjpjcigaaGreatDoor
