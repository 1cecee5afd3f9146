/-
 Law 4: Below and Above, out of beside.
-/
import Derived.Test.YtnhobagjpjcigaaGreatDoorEBsd
namespace Go.Proofs.YtnhobagjpjcigaaGreatDoor
open Go.RowKit
set_option linter.unusedVariables false
set_option maxRecDepth 100000 in
set_option maxHeartbeats 4000000 in
theorem below_of (e m:Nat) (x:Rat) (va:Value) (PV:Int) (PB:Bool) (w:World) (ha:IsR w va x) (hb:∀ W v,IsR W v x→Calls Tryz.prog 88 #[.agg #[.int .i64 (e:Int),.int .i64 (m:Int)],v,.bool (decide (x.num < 0))] W fun E w'=>E=.returned (.tuple #[.int .u64 PV,.bool PB])∧Below W.heap.size W w'):Calls Tryz.prog 37 #[.agg #[.int .i64 (e:Int),.int .i64 (m:Int)],va] w fun E w'=>E=.returned (.tuple #[.int .u64 PV,.bool PB])∧Below w.heap.size w w':=by
 have HBs:=Lib.hid hb
 have HNg:Hid (∀ W v,IsR W v x→Calls Tryz.prog 73 #[v] W fun e w'=>e=.returned (.bool (decide (x.num < 0)))∧Below W.heap.size W w'):=Lib.hid (fun W v h=>neg_any x v W h)
 have hR:=ha
 obtain ⟨p,n,c,p',n',c',rfl,-,-⟩:=ha
 obtain ⟨zs,hz⟩:∃ z,decide (x.num < 0)=z:=⟨_,rfl⟩
 rw [hz] at hR HNg HBs ⊢
 obtain ⟨W0,hW0⟩:∃ W0,(w.alloc (.cells #[.int .i64 (e:Int),.int .i64 (m:Int)] 63)).alloc (.cells #[.bool zs,.slice p n c,.slice p' n' c'] 27)=W0:=⟨_,rfl⟩
 have V0:=((Mq.refl w).rcons hR).two 63 27 #[.int .i64 (e:Int),.int .i64 (m:Int)] #[.bool zs,.slice p n c,.slice p' n' c']
 rw [hW0] at V0
 clear hR hb hz
 go_enter Tryz.func37,Tryz.ntmps37
 go_wp2_with fail
 refine wp_region_inv 9 (fun a0 dj a W=>∃ vq0 vq1 vq2 vq3 vq4 vq5 vq6 vq7 vq8:Value,a=puts a0 [(6,vq0),(7,vq1),(8,vq2),(9,vq3),(10,vq4),(11,vq5),(12,vq6),(4,vq7),(5,vq8)]∧Below W0.heap.size W0 W∧(dj 0=true→vq0=.agg #[.int .i64 (e:Int),.int .i64 (m:Int)])∧(dj 1=true→vq1=.agg #[.bool zs,.slice p n c,.slice p' n' c'])∧(dj 2=true→vq2=.agg #[.bool zs,.slice p n c,.slice p' n' c'])∧(dj 3=true→vq3=.bool zs)∧(dj 4=true→vq4=.tuple #[.int .u64 PV,.bool PB])∧(dj 5=true→vq5=.int .u64 PV)∧(dj 6=true→vq6=.bool PB)∧(dj 7=true→vq7=.int .u64 PV)∧(dj 8=true→vq8=.bool PB)) (by kernel_rfl) (by kernel_rfl) (by kernel_rfl) ?_ ?_ ?_ ?_
 · intro dj hcl i hi1 hi2 hd j hj
   exact absurd (Nat.lt_of_lt_of_le hi2 (of_decide_eq_true (by kernel_rfl))) (Nat.not_lt.2 hi1)
 · refine ⟨undef,undef,undef,undef,undef,undef,undef,.int .u64 0,.bool false,(by simp only [pus]),(Below.refl _ _).drew,(fun h=>by cases h),(fun h=>by cases h),(fun h=>by cases h),(fun h=>by cases h),(fun h=>by cases h),(fun h=>by cases h),(fun h=>by cases h),(fun h=>by cases h),(fun h=>by cases h)⟩
 · intro dj a W i hi hdi hcl hdep hI K hK
   obtain ⟨vq0,vq1,vq2,vq3,vq4,vq5,vq6,vq7,vq8,rfl,hB,p0,p1,p2,p3,p4,p5,p6,p7,p8⟩:=hI
   have V:=V0.below hB
   obtain rfl | rfl | rfl | rfl | rfl | rfl | rfl | rfl | rfl:i=0∨i=1∨i=2∨i=3∨i=4∨i=5∨i=6∨i=7∨i=8:=by omega
   · simp only [pus]
     have c0:=V.f0 1 rfl
     have c1:=V.f1 1 rfl
     refine any_op (o:=_) rfl rfl ?_
     go_wp2_with fail
     refine hK.out _ _ ?_
     exact ⟨.agg #[.int .i64 (e:Int),.int .i64 (m:Int)],vq1,vq2,vq3,vq4,vq5,vq6,vq7,vq8,(by simp only [pus]),hB,(fun _=>rfl),p1,p2,p3,p4,p5,p6,p7,p8⟩
   · simp only [pus]
     have c0:=V.c0 0 rfl
     have c1:=V.c1 0 rfl
     have c2:=V.c2 0 rfl
     refine any_op (o:=_) rfl rfl ?_
     go_wp2_with fail
     refine hK.out _ _ ?_
     exact ⟨vq0,.agg #[.bool zs,.slice p n c,.slice p' n' c'],vq2,vq3,vq4,vq5,vq6,vq7,vq8,(by simp only [pus]),hB,p0,(fun _=>rfl),p2,p3,p4,p5,p6,p7,p8⟩
   · simp only [pus]
     have c0:=V.c0 0 rfl
     have c1:=V.c1 0 rfl
     have c2:=V.c2 0 rfl
     refine any_op (o:=_) rfl rfl ?_
     go_wp2_with fail
     refine hK.out _ _ ?_
     exact ⟨vq0,vq1,.agg #[.bool zs,.slice p n c,.slice p' n' c'],vq3,vq4,vq5,vq6,vq7,vq8,(by simp only [pus]),hB,p0,p1,(fun _=>rfl),p3,p4,p5,p6,p7,p8⟩
   · obtain rfl:=p2 (hdep 2 (by kernel_rfl))
     simp only [pus]
     refine any_op (o:=_) rfl rfl ?_
     have hC:=Lib.hid (HNg.out W _ (V.rat 0 _ _ rfl))
     go_simp
     refine hC.out.mono ?_
     rintro e W2 ⟨rfl,hb⟩
     refine hK.out _ _ ?_
     exact ⟨vq0,vq1,.agg #[.bool zs,.slice p n c,.slice p' n' c'],.bool zs,vq4,vq5,vq6,vq7,vq8,(by simp only [pus]),hB.trans (hb.mono hB.size),p0,p1,(fun _=>rfl),(fun _=>rfl),p4,p5,p6,p7,p8⟩
   · obtain rfl:=p0 (hdep 0 (by kernel_rfl))
     obtain rfl:=p1 (hdep 1 (by kernel_rfl))
     obtain rfl:=p3 (hdep 3 (by kernel_rfl))
     simp only [pus]
     refine any_op (o:=_) rfl rfl ?_
     have hC:=Lib.hid (HBs.out W _ (V.rat 0 _ _ rfl))
     go_simp
     refine hC.out.mono ?_
     rintro e W2 ⟨rfl,hb⟩
     refine hK.out _ _ ?_
     exact ⟨.agg #[.int .i64 (e:Int),.int .i64 (m:Int)],.agg #[.bool zs,.slice p n c,.slice p' n' c'],vq2,.bool zs,.tuple #[.int .u64 PV,.bool PB],vq5,vq6,vq7,vq8,(by simp only [pus]),hB.trans (hb.mono hB.size),(fun _=>rfl),(fun _=>rfl),p2,(fun _=>rfl),(fun _=>rfl),p5,p6,p7,p8⟩
   · obtain rfl:=p4 (hdep 4 (by kernel_rfl))
     simp only [pus]
     refine any_op (o:=_) rfl rfl ?_
     go_wp2_with fail
     refine hK.out _ _ ?_
     exact ⟨vq0,vq1,vq2,vq3,.tuple #[.int .u64 PV,.bool PB],.int .u64 PV,vq6,vq7,vq8,(by simp only [pus]),hB,p0,p1,p2,p3,(fun _=>rfl),(fun _=>rfl),p6,p7,p8⟩
   · obtain rfl:=p4 (hdep 4 (by kernel_rfl))
     simp only [pus]
     refine any_op (o:=_) rfl rfl ?_
     go_wp2_with fail
     refine hK.out _ _ ?_
     exact ⟨vq0,vq1,vq2,vq3,.tuple #[.int .u64 PV,.bool PB],vq5,.bool PB,vq7,vq8,(by simp only [pus]),hB,p0,p1,p2,p3,(fun _=>rfl),p5,(fun _=>rfl),p7,p8⟩
   · obtain rfl:=p0 (hdep 0 (by kernel_rfl))
     obtain rfl:=p1 (hdep 1 (by kernel_rfl))
     obtain rfl:=p2 (hdep 2 (by kernel_rfl))
     obtain rfl:=p3 (hdep 3 (by kernel_rfl))
     obtain rfl:=p4 (hdep 4 (by kernel_rfl))
     obtain rfl:=p5 (hdep 5 (by kernel_rfl))
     obtain rfl:=p6 (hdep 6 (by kernel_rfl))
     simp only [pus]
     refine any_op (o:=_) rfl rfl ?_
     go_wp2_with fail
     refine hK.out _ _ ?_
     exact ⟨.agg #[.int .i64 (e:Int),.int .i64 (m:Int)],.agg #[.bool zs,.slice p n c,.slice p' n' c'],.agg #[.bool zs,.slice p n c,.slice p' n' c'],.bool zs,.tuple #[.int .u64 PV,.bool PB],.int .u64 PV,.bool PB,.int .u64 PV,vq8,(by simp only [pus]),hB,(fun _=>rfl),(fun _=>rfl),(fun _=>rfl),(fun _=>rfl),(fun _=>rfl),(fun _=>rfl),(fun _=>rfl),(fun _=>rfl),p8⟩
   · obtain rfl:=p0 (hdep 0 (by kernel_rfl))
     obtain rfl:=p1 (hdep 1 (by kernel_rfl))
     obtain rfl:=p2 (hdep 2 (by kernel_rfl))
     obtain rfl:=p3 (hdep 3 (by kernel_rfl))
     obtain rfl:=p4 (hdep 4 (by kernel_rfl))
     obtain rfl:=p5 (hdep 5 (by kernel_rfl))
     obtain rfl:=p6 (hdep 6 (by kernel_rfl))
     obtain rfl:=p7 (hdep 7 (by kernel_rfl))
     simp only [pus]
     refine any_op (o:=_) rfl rfl ?_
     go_wp2_with fail
     refine hK.out _ _ ?_
     exact ⟨.agg #[.int .i64 (e:Int),.int .i64 (m:Int)],.agg #[.bool zs,.slice p n c,.slice p' n' c'],.agg #[.bool zs,.slice p n c,.slice p' n' c'],.bool zs,.tuple #[.int .u64 PV,.bool PB],.int .u64 PV,.bool PB,.int .u64 PV,.bool PB,(by simp only [pus]),hB,(fun _=>rfl),(fun _=>rfl),(fun _=>rfl),(fun _=>rfl),(fun _=>rfl),(fun _=>rfl),(fun _=>rfl),(fun _=>rfl),(fun _=>rfl)⟩
 · intro dj a W hd hI
   obtain ⟨vq0,vq1,vq2,vq3,vq4,vq5,vq6,vq7,vq8,rfl,hB,p0,p1,p2,p3,p4,p5,p6,p7,p8⟩:=hI
   have V:=V0.below hB
   obtain rfl:=p0 (hd 0 (by omega))
   obtain rfl:=p1 (hd 1 (by omega))
   obtain rfl:=p2 (hd 2 (by omega))
   obtain rfl:=p3 (hd 3 (by omega))
   obtain rfl:=p4 (hd 4 (by omega))
   obtain rfl:=p5 (hd 5 (by omega))
   obtain rfl:=p6 (hd 6 (by omega))
   obtain rfl:=p7 (hd 7 (by omega))
   obtain rfl:=p8 (hd 8 (by omega))
   clear hd p0 p1 p2 p3 p4 p5 p6 p7 p8 dj
   simp only [pus]
   show wpAny Tryz.prog .any _ _ 0 #[true,true,true,true,true,true,true,true,true] _ _
   have HB:=Lib.hid V.bel
   clear V V0
   refine ⟨by kernel_rfl,?_⟩
   go_wp2_with fail
   go_ret2
   exact ⟨rfl,HB.out⟩
set_option maxRecDepth 100000 in
set_option maxHeartbeats 4000000 in
theorem above_of (e m:Nat) (x:Rat) (va:Value) (PV:Int) (PB:Bool) (w:World) (ha:IsR w va x) (hb:∀ W v,IsR W v x→Calls Tryz.prog 88 #[.agg #[.int .i64 (e:Int),.int .i64 (m:Int)],v,.bool (!decide (x.num < 0))] W fun E w'=>E=.returned (.tuple #[.int .u64 PV,.bool PB])∧Below W.heap.size W w'):Calls Tryz.prog 38 #[.agg #[.int .i64 (e:Int),.int .i64 (m:Int)],va] w fun E w'=>E=.returned (.tuple #[.int .u64 PV,.bool PB])∧Below w.heap.size w w':=by
 have HBs:=Lib.hid hb
 have HNg:Hid (∀ W v,IsR W v x→Calls Tryz.prog 73 #[v] W fun e w'=>e=.returned (.bool (decide (x.num < 0)))∧Below W.heap.size W w'):=Lib.hid (fun W v h=>neg_any x v W h)
 have hR:=ha
 obtain ⟨p,n,c,p',n',c',rfl,-,-⟩:=ha
 obtain ⟨zs,hz⟩:∃ z,decide (x.num < 0)=z:=⟨_,rfl⟩
 rw [hz] at hR HNg HBs ⊢
 obtain ⟨nz,hnz⟩:∃ b,(!zs)=b:=⟨_,rfl⟩
 rw [hnz] at HBs
 obtain ⟨W0,hW0⟩:∃ W0,(w.alloc (.cells #[.int .i64 (e:Int),.int .i64 (m:Int)] 63)).alloc (.cells #[.bool zs,.slice p n c,.slice p' n' c'] 27)=W0:=⟨_,rfl⟩
 have V0:=((Mq.refl w).rcons hR).two 63 27 #[.int .i64 (e:Int),.int .i64 (m:Int)] #[.bool zs,.slice p n c,.slice p' n' c']
 rw [hW0] at V0
 clear hR hb hz
 go_enter Tryz.func38,Tryz.ntmps38
 go_wp2_with fail
 refine wp_region_inv 10 (fun a0 dj a W=>∃ vq0 vq1 vq2 vq3 vq4 vq5 vq6 vq7 vq8 vq9:Value,a=puts a0 [(6,vq0),(7,vq1),(8,vq2),(9,vq3),(10,vq4),(11,vq5),(12,vq6),(13,vq7),(4,vq8),(5,vq9)]∧Below W0.heap.size W0 W∧(dj 0=true→vq0=.agg #[.int .i64 (e:Int),.int .i64 (m:Int)])∧(dj 1=true→vq1=.agg #[.bool zs,.slice p n c,.slice p' n' c'])∧(dj 2=true→vq2=.agg #[.bool zs,.slice p n c,.slice p' n' c'])∧(dj 3=true→vq3=.bool zs)∧(dj 4=true→vq4=.bool nz)∧(dj 5=true→vq5=.tuple #[.int .u64 PV,.bool PB])∧(dj 6=true→vq6=.int .u64 PV)∧(dj 7=true→vq7=.bool PB)∧(dj 8=true→vq8=.int .u64 PV)∧(dj 9=true→vq9=.bool PB)) (by kernel_rfl) (by kernel_rfl) (by kernel_rfl) ?_ ?_ ?_ ?_
 · intro dj hcl i hi1 hi2 hd j hj
   exact absurd (Nat.lt_of_lt_of_le hi2 (of_decide_eq_true (by kernel_rfl))) (Nat.not_lt.2 hi1)
 · refine ⟨undef,undef,undef,undef,undef,undef,undef,undef,.int .u64 0,.bool false,(by simp only [pus]),(Below.refl _ _).drew,(fun h=>by cases h),(fun h=>by cases h),(fun h=>by cases h),(fun h=>by cases h),(fun h=>by cases h),(fun h=>by cases h),(fun h=>by cases h),(fun h=>by cases h),(fun h=>by cases h),(fun h=>by cases h)⟩
 · intro dj a W i hi hdi hcl hdep hI K hK
   obtain ⟨vq0,vq1,vq2,vq3,vq4,vq5,vq6,vq7,vq8,vq9,rfl,hB,p0,p1,p2,p3,p4,p5,p6,p7,p8,p9⟩:=hI
   have V:=V0.below hB
   obtain rfl | rfl | rfl | rfl | rfl | rfl | rfl | rfl | rfl | rfl:i=0∨i=1∨i=2∨i=3∨i=4∨i=5∨i=6∨i=7∨i=8∨i=9:=by omega
   · simp only [pus]
     have c0:=V.f0 1 rfl
     have c1:=V.f1 1 rfl
     refine any_op (o:=_) rfl rfl ?_
     go_wp2_with fail
     refine hK.out _ _ ?_
     exact ⟨.agg #[.int .i64 (e:Int),.int .i64 (m:Int)],vq1,vq2,vq3,vq4,vq5,vq6,vq7,vq8,vq9,(by simp only [pus]),hB,(fun _=>rfl),p1,p2,p3,p4,p5,p6,p7,p8,p9⟩
   · simp only [pus]
     have c0:=V.c0 0 rfl
     have c1:=V.c1 0 rfl
     have c2:=V.c2 0 rfl
     refine any_op (o:=_) rfl rfl ?_
     go_wp2_with fail
     refine hK.out _ _ ?_
     exact ⟨vq0,.agg #[.bool zs,.slice p n c,.slice p' n' c'],vq2,vq3,vq4,vq5,vq6,vq7,vq8,vq9,(by simp only [pus]),hB,p0,(fun _=>rfl),p2,p3,p4,p5,p6,p7,p8,p9⟩
   · simp only [pus]
     have c0:=V.c0 0 rfl
     have c1:=V.c1 0 rfl
     have c2:=V.c2 0 rfl
     refine any_op (o:=_) rfl rfl ?_
     go_wp2_with fail
     refine hK.out _ _ ?_
     exact ⟨vq0,vq1,.agg #[.bool zs,.slice p n c,.slice p' n' c'],vq3,vq4,vq5,vq6,vq7,vq8,vq9,(by simp only [pus]),hB,p0,p1,(fun _=>rfl),p3,p4,p5,p6,p7,p8,p9⟩
   · obtain rfl:=p2 (hdep 2 (by kernel_rfl))
     simp only [pus]
     refine any_op (o:=_) rfl rfl ?_
     have hC:=Lib.hid (HNg.out W _ (V.rat 0 _ _ rfl))
     go_simp
     refine hC.out.mono ?_
     rintro e W2 ⟨rfl,hb⟩
     refine hK.out _ _ ?_
     exact ⟨vq0,vq1,.agg #[.bool zs,.slice p n c,.slice p' n' c'],.bool zs,vq4,vq5,vq6,vq7,vq8,vq9,(by simp only [pus]),hB.trans (hb.mono hB.size),p0,p1,(fun _=>rfl),(fun _=>rfl),p4,p5,p6,p7,p8,p9⟩
   · obtain rfl:=p3 (hdep 3 (by kernel_rfl))
     simp only [pus]
     refine any_op (o:=_) rfl rfl ?_
     go_wp2_with fail
     refine hK.out _ _ ?_
     exact ⟨vq0,vq1,vq2,.bool zs,.bool nz,vq5,vq6,vq7,vq8,vq9,(by simp only [pus]),hB,p0,p1,p2,(fun _=>rfl),(fun _=>rfl),p5,p6,p7,p8,p9⟩
   · obtain rfl:=p0 (hdep 0 (by kernel_rfl))
     obtain rfl:=p1 (hdep 1 (by kernel_rfl))
     obtain rfl:=p3 (hdep 3 (by kernel_rfl))
     obtain rfl:=p4 (hdep 4 (by kernel_rfl))
     simp only [pus]
     refine any_op (o:=_) rfl rfl ?_
     have hC:=Lib.hid (HBs.out W _ (V.rat 0 _ _ rfl))
     go_simp
     refine hC.out.mono ?_
     rintro e W2 ⟨rfl,hb⟩
     refine hK.out _ _ ?_
     exact ⟨.agg #[.int .i64 (e:Int),.int .i64 (m:Int)],.agg #[.bool zs,.slice p n c,.slice p' n' c'],vq2,.bool zs,.bool nz,.tuple #[.int .u64 PV,.bool PB],vq6,vq7,vq8,vq9,(by simp only [pus]),hB.trans (hb.mono hB.size),(fun _=>rfl),(fun _=>rfl),p2,(fun _=>rfl),(fun _=>rfl),(fun _=>rfl),p6,p7,p8,p9⟩
   · obtain rfl:=p5 (hdep 5 (by kernel_rfl))
     simp only [pus]
     refine any_op (o:=_) rfl rfl ?_
     go_wp2_with fail
     refine hK.out _ _ ?_
     exact ⟨vq0,vq1,vq2,vq3,vq4,.tuple #[.int .u64 PV,.bool PB],.int .u64 PV,vq7,vq8,vq9,(by simp only [pus]),hB,p0,p1,p2,p3,p4,(fun _=>rfl),(fun _=>rfl),p7,p8,p9⟩
   · obtain rfl:=p5 (hdep 5 (by kernel_rfl))
     simp only [pus]
     refine any_op (o:=_) rfl rfl ?_
     go_wp2_with fail
     refine hK.out _ _ ?_
     exact ⟨vq0,vq1,vq2,vq3,vq4,.tuple #[.int .u64 PV,.bool PB],vq6,.bool PB,vq8,vq9,(by simp only [pus]),hB,p0,p1,p2,p3,p4,(fun _=>rfl),p6,(fun _=>rfl),p8,p9⟩
   · obtain rfl:=p0 (hdep 0 (by kernel_rfl))
     obtain rfl:=p1 (hdep 1 (by kernel_rfl))
     obtain rfl:=p2 (hdep 2 (by kernel_rfl))
     obtain rfl:=p3 (hdep 3 (by kernel_rfl))
     obtain rfl:=p4 (hdep 4 (by kernel_rfl))
     obtain rfl:=p5 (hdep 5 (by kernel_rfl))
     obtain rfl:=p6 (hdep 6 (by kernel_rfl))
     obtain rfl:=p7 (hdep 7 (by kernel_rfl))
     simp only [pus]
     refine any_op (o:=_) rfl rfl ?_
     go_wp2_with fail
     refine hK.out _ _ ?_
     exact ⟨.agg #[.int .i64 (e:Int),.int .i64 (m:Int)],.agg #[.bool zs,.slice p n c,.slice p' n' c'],.agg #[.bool zs,.slice p n c,.slice p' n' c'],.bool zs,.bool nz,.tuple #[.int .u64 PV,.bool PB],.int .u64 PV,.bool PB,.int .u64 PV,vq9,(by simp only [pus]),hB,(fun _=>rfl),(fun _=>rfl),(fun _=>rfl),(fun _=>rfl),(fun _=>rfl),(fun _=>rfl),(fun _=>rfl),(fun _=>rfl),(fun _=>rfl),p9⟩
   · obtain rfl:=p0 (hdep 0 (by kernel_rfl))
     obtain rfl:=p1 (hdep 1 (by kernel_rfl))
     obtain rfl:=p2 (hdep 2 (by kernel_rfl))
     obtain rfl:=p3 (hdep 3 (by kernel_rfl))
     obtain rfl:=p4 (hdep 4 (by kernel_rfl))
     obtain rfl:=p5 (hdep 5 (by kernel_rfl))
     obtain rfl:=p6 (hdep 6 (by kernel_rfl))
     obtain rfl:=p7 (hdep 7 (by kernel_rfl))
     obtain rfl:=p8 (hdep 8 (by kernel_rfl))
     simp only [pus]
     refine any_op (o:=_) rfl rfl ?_
     go_wp2_with fail
     refine hK.out _ _ ?_
     exact ⟨.agg #[.int .i64 (e:Int),.int .i64 (m:Int)],.agg #[.bool zs,.slice p n c,.slice p' n' c'],.agg #[.bool zs,.slice p n c,.slice p' n' c'],.bool zs,.bool nz,.tuple #[.int .u64 PV,.bool PB],.int .u64 PV,.bool PB,.int .u64 PV,.bool PB,(by simp only [pus]),hB,(fun _=>rfl),(fun _=>rfl),(fun _=>rfl),(fun _=>rfl),(fun _=>rfl),(fun _=>rfl),(fun _=>rfl),(fun _=>rfl),(fun _=>rfl),(fun _=>rfl)⟩
 · intro dj a W hd hI
   obtain ⟨vq0,vq1,vq2,vq3,vq4,vq5,vq6,vq7,vq8,vq9,rfl,hB,p0,p1,p2,p3,p4,p5,p6,p7,p8,p9⟩:=hI
   have V:=V0.below hB
   obtain rfl:=p0 (hd 0 (by omega))
   obtain rfl:=p1 (hd 1 (by omega))
   obtain rfl:=p2 (hd 2 (by omega))
   obtain rfl:=p3 (hd 3 (by omega))
   obtain rfl:=p4 (hd 4 (by omega))
   obtain rfl:=p5 (hd 5 (by omega))
   obtain rfl:=p6 (hd 6 (by omega))
   obtain rfl:=p7 (hd 7 (by omega))
   obtain rfl:=p8 (hd 8 (by omega))
   obtain rfl:=p9 (hd 9 (by omega))
   clear hd p0 p1 p2 p3 p4 p5 p6 p7 p8 p9 dj
   simp only [pus]
   show wpAny Tryz.prog .any _ _ 0 #[true,true,true,true,true,true,true,true,true,true] _ _
   have HB:=Lib.hid V.bel
   clear V V0
   refine ⟨by kernel_rfl,?_⟩
   go_wp2_with fail
   go_ret2
   exact ⟨rfl,HB.out⟩
end Go.Proofs.YtnhobagjpjcigaaGreatDoor
