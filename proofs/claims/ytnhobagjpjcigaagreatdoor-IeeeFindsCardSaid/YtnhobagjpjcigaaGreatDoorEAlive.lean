/-
 Law 4: what the statements call ahead (alive), and the forms that they look at.
-/
import Derived.Test.YtnhobagjpjcigaaGreatDoorEDec
import Derived.Test.YtnhobagjpjcigaaGreatDoorENear
namespace Go.Proofs.YtnhobagjpjcigaaGreatDoor
open Go.RowKit
set_option linter.unusedVariables false
theorem res_form {fn:Func} {p:Tmp} (h:fn.results=#[.cell p 63]) (tmps:Array Value) (w:World) (g:Nat) (x y:Value) (hp:tmps.getD p undef=.pointer (some ⟨g,0,none⟩)) (hg:Blk w g 63 #[x,y]) :
 (results fn tmps).run Tryz.prog w=.ok (.agg #[x,y]) w:=results_cell_row h tmps w g 63 #[x,y] (0,0) _ hp hg Tryz.underlying63 (by kernel_rfl) (by kernel_rfl)
theorem single_any (w:World):Calls Tryz.prog 84 #[] w fun E w'=>E=.returned (.agg #[.int .i64 8,.int .i64 23])∧Below w.heap.size w w':=by
 have V:=(Mq.refl w).alloc 63 #[.int .i64 8,.int .i64 23]
 have HB:=Lib.hid V.bel
 have HK:=Lib.hid (V.box 0 _ _ _ rfl).1
 clear V
 go_enter Tryz.func84,Tryz.ntmps84
 go_wp2_with fail
 exact bodyPost_ret (res_form rfl _ _ _ _ _ rfl HK.out) rfl ⟨rfl,HB.out⟩
theorem double_any (w:World):Calls Tryz.prog 85 #[] w fun E w'=>E=.returned (.agg #[.int .i64 11,.int .i64 52])∧Below w.heap.size w w':=by
 have V:=(Mq.refl w).alloc 63 #[.int .i64 11,.int .i64 52]
 have HB:=Lib.hid V.bel
 have HK:=Lib.hid (V.box 0 _ _ _ rfl).1
 clear V
 go_enter Tryz.func85,Tryz.ntmps85
 go_wp2_with fail
 exact bodyPost_ret (res_form rfl _ _ _ _ _ rfl HK.out) rfl ⟨rfl,HB.out⟩
theorem al_kd:pkd 8 23 1069547520=1:=by decide +kernel
theorem al_nm:(pnm 8 23 1069547520).num=3∧(pnm 8 23 1069547520).den=2:=by decide +kernel
theorem al_tx:tx (pnm 8 23 1069547520)=⟨#[51,47,50]⟩:=by decide +kernel
theorem al_ten:(mkRat (sgn false 1) 10).num=1∧(mkRat (sgn false 1) 10).den=10:=by decide +kernel
theorem al_spot:Spot 23 (inf 8 23) (1 * 2^upl 8 23 / 10) 1036831948:=⟨by decide +kernel,by decide +kernel,fun _=>by decide +kernel⟩
theorem al_up:nup 23 1036831948 (1 * 2^upl 8 23) 10=true:=by decide +kernel
theorem near_al (w:World) (va:Value) (h:IsR w va (mkRat (sgn false 1) 10)):Calls Tryz.prog 39 #[.agg #[.int .i64 8,.int .i64 23],va] w fun E w'=>E=.returned (.int .u64 1036831949)∧Below w.heap.size w w':=by
 obtain ⟨h1,h2⟩:=al_ten
 have hz:Sz 40 (mkRat (sgn false 1) 10):=⟨by rw [h1];exact Nat.one_lt_pow (by decide) (by decide),by rw [h2];exact Nat.lt_of_lt_of_le (by decide:10 < 18446744073709551616^1) (w64_mono (by omega))⟩
 refine (near_any 8 23 _ va (by omega) (by omega) (by omega) (by omega) w h hz).mono fun E w' hn=>?_
 obtain ⟨s,hs,he,hb⟩:=hn
 rw [h1,h2] at hs he
 have e1:((1:Int)).natAbs=1:=rfl
 rw [e1] at hs he
 obtain rfl:=hs.inj al_spot
 rw [al_up] at he
 exact ⟨he,hb⟩
set_option maxRecDepth 100000 in
set_option maxHeartbeats 8000000 in
theorem alive_e (w:World) (htab:Tab w) (htb:TabB w):Calls Tryz.prog 35 #[] w fun e w'=>e=.returned (.bool true)∧Below w.heap.size w w':=by
 have HSi:Hid (∀ W,Calls Tryz.prog 84 #[] W fun E w'=>E=.returned (.agg #[.int .i64 8,.int .i64 23])∧Below W.heap.size W w'):=Lib.hid single_any
 have HDo:Hid (∀ W,Calls Tryz.prog 85 #[] W fun E w'=>E=.returned (.agg #[.int .i64 11,.int .i64 52])∧Below W.heap.size W w'):=Lib.hid double_any
 have HDe:Hid (∀ W,Below w.heap.size w W→Calls Tryz.prog 44 #[.agg #[.int .i64 8,.int .i64 23],.int .u64 1069547520] W (DcIs 1 (pnm 8 23 1069547520) W)):=Lib.hid (fun W hB=>by
  have h:=decode_any 8 23 1069547520 (by omega) (by omega) (by omega) (by omega) (by omega) W (htb.below hB (Nat.le_refl _))
  rw [al_kd] at h
  exact h)
 have HO1:Hid (∀ W,Calls Tryz.prog 28 #[.int .u64 1] W (GaveV 1 W)):=Lib.hid (fun W=>nOf 1 (by decide) W)
 have HO10:Hid (∀ W,Calls Tryz.prog 28 #[.int .u64 10] W (GaveV 10 W)):=Lib.hid (fun W=>nOf 10 (by decide) W)
 have HMk:Hid (∀ W va vb,Below w.heap.size w W→IsN W va 1→IsN W vb 10→Calls Tryz.prog 29 #[.bool false,va,vb] W fun e w'=>∃ v,e=.returned (.tuple #[v,.int .i64 0])∧IsR w' v (mkRat (sgn false 1) 10)∧Below W.heap.size W w'):=Lib.hid (fun W va vb hB h1 h2=>make_mk false 1 10 va vb W h1 h2 (Nat.one_lt_pow (by decide) (by decide)) (Nat.lt_of_lt_of_le (by decide:10 < 18446744073709551616^1) (w64_mono (by omega))) (by decide) (htb.below hB (Nat.le_refl _)))
 have HTx:Hid (∀ W v,Below w.heap.size w W→IsR W v (pnm 8 23 1069547520)→Calls Tryz.prog 13 #[v] W fun e w'=>e=.returned (.string ⟨#[51,47,50]⟩)∧Below W.heap.size W w'):=Lib.hid (fun W v hB h=>by
  have h2:=text_r _ v W h ⟨by rw [al_nm.1];exact Nat.lt_of_lt_of_le (by decide:3 < 18446744073709551616^1) (w64_mono (by omega)),by rw [al_nm.2];exact Nat.lt_of_lt_of_le (by decide:2 < 18446744073709551616^1) (w64_mono (by omega))⟩ (htab.below hB (Nat.le_refl _))
  rw [al_tx] at h2
  exact h2)
 have HNe:Hid (∀ W v,IsR W v (mkRat (sgn false 1) 10)→Calls Tryz.prog 39 #[.agg #[.int .i64 8,.int .i64 23],v] W fun E w'=>E=.returned (.int .u64 1036831949)∧Below W.heap.size W w'):=Lib.hid (fun W v h=>near_al W v h)
 obtain ⟨X1,hX1⟩:∃ X,pnm 8 23 1069547520=X:=⟨_,rfl⟩
 obtain ⟨X2,hX2⟩:∃ X,mkRat (sgn false 1) 10=X:=⟨_,rfl⟩
 rw [hX1] at HDe HTx
 rw [hX2] at HMk HNe
 clear hX1 hX2 htab htb
 go_enter Tryz.func35,Tryz.ntmps35
 go_wp2_with fail
 refine (HSi.out _).mono ?_
 rintro E w0 ⟨rfl,hb⟩
 have V0:=(Mq.refl w).below hb
 clear hb
 go_wp2_with fail
 refine (HDe.out _ V0.bel).mono ?_
 rintro e w1 ⟨v,rfl,hr,hb⟩
 have V1':=(V0.below hb).rcons hr
 obtain ⟨p,n,c,p',n',c',rfl,-,-⟩:=hr
 obtain ⟨z1,hz⟩:∃ z,decide (X1.num < 0)=z:=⟨_,rfl⟩
 rw [hz] at V1' ⊢
 have V1:=V1'.alloc 27 #[.bool z1,.slice p n c,.slice p' n' c']
 clear V1' hb hz V0 HDe
 go_wp2_with fail
 refine (HO1.out _).mono ?_
 rintro e w2 ⟨x2,y2,z2,rfl,i2,hb⟩
 have V2:=(V1.below hb).cons i2 (Nat.one_lt_pow (by decide) (by decide))
 clear V1 hb i2 HO1
 go_wp2_with fail
 refine (HO10.out _).mono ?_
 rintro e w3 ⟨x3,y3,z3,rfl,i3,hb⟩
 have V3:=V2.below hb
 clear V2 hb HO10
 go_wp2_with fail
 refine (HMk.out _ _ _ V3.bel (V3.num 0 _ _ rfl).1 i3).mono ?_
 rintro e w4 ⟨v,rfl,hr,hb⟩
 have V4':=(V3.below hb).rcons hr
 obtain ⟨q,r,d,q',r',d',rfl,-,-⟩:=hr
 obtain ⟨z2,hu⟩:∃ z,decide (X2.num < 0)=z:=⟨_,rfl⟩
 rw [hu] at V4' ⊢
 have V4:=V4'.alloc 27 #[.bool z2,.slice q r d,.slice q' r' d']
 obtain ⟨W5,hW5⟩:∃ W5,w4.alloc (.cells #[.bool z2,.slice q r d,.slice q' r' d'] 27)=W5:=⟨_,rfl⟩
 rw [hW5] at V4
 have V5:=V4
 clear V3 V4' V4 hb hu i3 HMk
 go_wp2_with fail
 refine wp_region_inv 19 (fun a0 dj a W=>∃ vq0 vq1 vq2 vq3 vq4 vq5 vq6 vq7 vq8 vq9 vq10 vq11 vq12 vq13 vq14 vq15 vq16 vq17 vq18:Value,a=puts a0 [(16,vq0),(17,vq1),(18,vq2),(19,vq3),(20,vq4),(21,vq5),(22,vq6),(23,vq7),(24,vq8),(25,vq9),(26,vq10),(27,vq11),(28,vq12),(29,vq13),(30,vq14),(31,vq15),(32,vq16),(33,vq17),(0,vq18)]∧Below W5.heap.size W5 W∧(dj 0=true→vq0=.int .i64 1)∧(dj 1=true→vq1=.bool true)∧(dj 2=true→vq2=.bool true)∧(dj 3=true→vq3=.agg #[.bool z1,.slice p n c,.slice p' n' c'])∧(dj 4=true→vq4=.string ⟨#[51,47,50]⟩)∧(dj 5=true→vq5=.bool true)∧(dj 6=true→vq6=.bool true)∧(dj 7=true→vq7=.bool true)∧(dj 8=true→vq8=.agg #[.int .i64 8,.int .i64 23])∧(dj 9=true→vq9=.agg #[.bool z2,.slice q r d,.slice q' r' d'])∧(dj 10=true→vq10=.int .u64 1036831949)∧(dj 11=true→vq11=.bool true)∧(dj 12=true→vq12=.bool true)∧(dj 13=true→vq13=.bool true)∧(dj 14=true→vq14=.agg #[.int .i64 11,.int .i64 52])∧(dj 15=true→vq15=.agg #[.int .i64 11,.int .i64 52])∧(dj 16=true→vq16=.bool true)∧(dj 17=true→vq17=.bool true)∧(dj 18=true→vq18=.bool true)) (by kernel_rfl) (by kernel_rfl) (by kernel_rfl) ?_ ?_ ?_ ?_
 · intro dj hcl i hi1 hi2 hd j hj
   exact absurd (Nat.lt_of_lt_of_le hi2 (of_decide_eq_true (by kernel_rfl))) (Nat.not_lt.2 hi1)
 · refine ⟨undef,undef,undef,undef,undef,undef,undef,undef,undef,undef,undef,undef,undef,undef,undef,undef,undef,undef,.bool false,(by simp only [pus]),(Below.refl _ _).drew,(fun h=>by cases h),(fun h=>by cases h),(fun h=>by cases h),(fun h=>by cases h),(fun h=>by cases h),(fun h=>by cases h),(fun h=>by cases h),(fun h=>by cases h),(fun h=>by cases h),(fun h=>by cases h),(fun h=>by cases h),(fun h=>by cases h),(fun h=>by cases h),(fun h=>by cases h),(fun h=>by cases h),(fun h=>by cases h),(fun h=>by cases h),(fun h=>by cases h),(fun h=>by cases h)⟩
 · intro dj a W i hi hdi hcl hdep hI K hK
   obtain ⟨vq0,vq1,vq2,vq3,vq4,vq5,vq6,vq7,vq8,vq9,vq10,vq11,vq12,vq13,vq14,vq15,vq16,vq17,vq18,rfl,hB,p0,p1,p2,p3,p4,p5,p6,p7,p8,p9,p10,p11,p12,p13,p14,p15,p16,p17,p18⟩:=hI
   have V:=V5.below hB
   obtain rfl | rfl | rfl | rfl | rfl | rfl | rfl | rfl | rfl | rfl | rfl | rfl | rfl | rfl | rfl | rfl | rfl | rfl | rfl:i=0∨i=1∨i=2∨i=3∨i=4∨i=5∨i=6∨i=7∨i=8∨i=9∨i=10∨i=11∨i=12∨i=13∨i=14∨i=15∨i=16∨i=17∨i=18:=by omega
   · simp only [pus]
     refine any_op (o:=_) rfl rfl ?_
     go_wp2_with fail
     refine hK.out _ _ ?_
     exact ⟨.int .i64 1,vq1,vq2,vq3,vq4,vq5,vq6,vq7,vq8,vq9,vq10,vq11,vq12,vq13,vq14,vq15,vq16,vq17,vq18,(by simp only [pus]),hB,(fun _=>rfl),p1,p2,p3,p4,p5,p6,p7,p8,p9,p10,p11,p12,p13,p14,p15,p16,p17,p18⟩
   · obtain rfl:=p0 (hdep 0 (by kernel_rfl))
     simp only [pus]
     refine any_op (o:=_) rfl rfl ?_
     go_wp2_with fail
     refine hK.out _ _ ?_
     exact ⟨.int .i64 1,.bool true,vq2,vq3,vq4,vq5,vq6,vq7,vq8,vq9,vq10,vq11,vq12,vq13,vq14,vq15,vq16,vq17,vq18,(by simp only [pus]),hB,(fun _=>rfl),(fun _=>rfl),p2,p3,p4,p5,p6,p7,p8,p9,p10,p11,p12,p13,p14,p15,p16,p17,p18⟩
   · obtain rfl:=p1 (hdep 1 (by kernel_rfl))
     simp only [pus]
     refine any_op (o:=_) rfl rfl ?_
     go_wp2_with fail
     refine hK.out _ _ ?_
     exact ⟨vq0,.bool true,.bool true,vq3,vq4,vq5,vq6,vq7,vq8,vq9,vq10,vq11,vq12,vq13,vq14,vq15,vq16,vq17,vq18,(by simp only [pus]),hB,p0,(fun _=>rfl),(fun _=>rfl),p3,p4,p5,p6,p7,p8,p9,p10,p11,p12,p13,p14,p15,p16,p17,p18⟩
   · obtain rfl:=p2 (hdep 2 (by kernel_rfl))
     simp only [pus]
     have c0:=V.c0 1 rfl
     have c1:=V.c1 1 rfl
     have c2:=V.c2 1 rfl
     refine any_opg (o:=_) rfl (by kernel_rfl) ?_
     go_wp2_with fail
     refine hK.out _ _ ?_
     exact ⟨vq0,vq1,.bool true,.agg #[.bool z1,.slice p n c,.slice p' n' c'],vq4,vq5,vq6,vq7,vq8,vq9,vq10,vq11,vq12,vq13,vq14,vq15,vq16,vq17,vq18,(by simp only [pus]),hB,p0,p1,(fun _=>rfl),(fun _=>rfl),p4,p5,p6,p7,p8,p9,p10,p11,p12,p13,p14,p15,p16,p17,p18⟩
   · obtain rfl:=p2 (hdep 2 (by kernel_rfl))
     obtain rfl:=p3 (hdep 3 (by kernel_rfl))
     simp only [pus]
     refine any_opg (o:=_) rfl (by kernel_rfl) ?_
     have hC:=Lib.hid (HTx.out W _ V.bel (V.rat 1 _ _ rfl))
     go_simp
     refine hC.out.mono ?_
     rintro e W2 ⟨rfl,hb⟩
     refine hK.out _ _ ?_
     exact ⟨vq0,vq1,.bool true,.agg #[.bool z1,.slice p n c,.slice p' n' c'],.string ⟨#[51,47,50]⟩,vq5,vq6,vq7,vq8,vq9,vq10,vq11,vq12,vq13,vq14,vq15,vq16,vq17,vq18,(by simp only [pus]),hB.trans (hb.mono hB.size),p0,p1,(fun _=>rfl),(fun _=>rfl),(fun _=>rfl),p5,p6,p7,p8,p9,p10,p11,p12,p13,p14,p15,p16,p17,p18⟩
   · obtain rfl:=p2 (hdep 2 (by kernel_rfl))
     obtain rfl:=p4 (hdep 4 (by kernel_rfl))
     simp only [pus]
     refine any_opg (o:=_) rfl (by kernel_rfl) ?_
     go_wp2_with fail
     refine hK.out _ _ ?_
     exact ⟨vq0,vq1,.bool true,vq3,.string ⟨#[51,47,50]⟩,.bool true,vq6,vq7,vq8,vq9,vq10,vq11,vq12,vq13,vq14,vq15,vq16,vq17,vq18,(by simp only [pus]),hB,p0,p1,(fun _=>rfl),p3,(fun _=>rfl),(fun _=>rfl),p6,p7,p8,p9,p10,p11,p12,p13,p14,p15,p16,p17,p18⟩
   · obtain rfl:=p2 (hdep 2 (by kernel_rfl))
     obtain rfl:=p5 (hdep 5 (by kernel_rfl))
     simp only [pus]
     refine any_op (o:=_) rfl rfl ?_
     go_wp2_with fail
     refine hK.out _ _ ?_
     exact ⟨vq0,vq1,.bool true,vq3,vq4,.bool true,.bool true,vq7,vq8,vq9,vq10,vq11,vq12,vq13,vq14,vq15,vq16,vq17,vq18,(by simp only [pus]),hB,p0,p1,(fun _=>rfl),p3,p4,(fun _=>rfl),(fun _=>rfl),p7,p8,p9,p10,p11,p12,p13,p14,p15,p16,p17,p18⟩
   · obtain rfl:=p4 (hdep 4 (by kernel_rfl))
     obtain rfl:=p6 (hdep 6 (by kernel_rfl))
     simp only [pus]
     refine any_op (o:=_) rfl rfl ?_
     go_wp2_with fail
     refine hK.out _ _ ?_
     exact ⟨vq0,vq1,vq2,vq3,.string ⟨#[51,47,50]⟩,vq5,.bool true,.bool true,vq8,vq9,vq10,vq11,vq12,vq13,vq14,vq15,vq16,vq17,vq18,(by simp only [pus]),hB,p0,p1,p2,p3,(fun _=>rfl),p5,(fun _=>rfl),(fun _=>rfl),p8,p9,p10,p11,p12,p13,p14,p15,p16,p17,p18⟩
   · obtain rfl:=p7 (hdep 7 (by kernel_rfl))
     simp only [pus]
     refine any_opg (o:=_) rfl (by kernel_rfl) ?_
     have hC:=Lib.hid (HSi.out W)
     go_simp
     refine hC.out.mono ?_
     rintro e W2 ⟨rfl,hb⟩
     refine hK.out _ _ ?_
     exact ⟨vq0,vq1,vq2,vq3,vq4,vq5,vq6,.bool true,.agg #[.int .i64 8,.int .i64 23],vq9,vq10,vq11,vq12,vq13,vq14,vq15,vq16,vq17,vq18,(by simp only [pus]),hB.trans (hb.mono hB.size),p0,p1,p2,p3,p4,p5,p6,(fun _=>rfl),(fun _=>rfl),p9,p10,p11,p12,p13,p14,p15,p16,p17,p18⟩
   · obtain rfl:=p7 (hdep 7 (by kernel_rfl))
     simp only [pus]
     have c0:=V.c0 0 rfl
     have c1:=V.c1 0 rfl
     have c2:=V.c2 0 rfl
     refine any_opg (o:=_) rfl (by kernel_rfl) ?_
     go_wp2_with fail
     refine hK.out _ _ ?_
     exact ⟨vq0,vq1,vq2,vq3,vq4,vq5,vq6,.bool true,vq8,.agg #[.bool z2,.slice q r d,.slice q' r' d'],vq10,vq11,vq12,vq13,vq14,vq15,vq16,vq17,vq18,(by simp only [pus]),hB,p0,p1,p2,p3,p4,p5,p6,(fun _=>rfl),p8,(fun _=>rfl),p10,p11,p12,p13,p14,p15,p16,p17,p18⟩
   · obtain rfl:=p7 (hdep 7 (by kernel_rfl))
     obtain rfl:=p8 (hdep 8 (by kernel_rfl))
     obtain rfl:=p9 (hdep 9 (by kernel_rfl))
     simp only [pus]
     refine any_opg (o:=_) rfl (by kernel_rfl) ?_
     have hC:=Lib.hid (HNe.out W _ (V.rat 0 _ _ rfl))
     go_simp
     refine hC.out.mono ?_
     rintro e W2 ⟨rfl,hb⟩
     refine hK.out _ _ ?_
     exact ⟨vq0,vq1,vq2,vq3,vq4,vq5,vq6,.bool true,.agg #[.int .i64 8,.int .i64 23],.agg #[.bool z2,.slice q r d,.slice q' r' d'],.int .u64 1036831949,vq11,vq12,vq13,vq14,vq15,vq16,vq17,vq18,(by simp only [pus]),hB.trans (hb.mono hB.size),p0,p1,p2,p3,p4,p5,p6,(fun _=>rfl),(fun _=>rfl),(fun _=>rfl),(fun _=>rfl),p11,p12,p13,p14,p15,p16,p17,p18⟩
   · obtain rfl:=p7 (hdep 7 (by kernel_rfl))
     obtain rfl:=p10 (hdep 10 (by kernel_rfl))
     simp only [pus]
     refine any_opg (o:=_) rfl (by kernel_rfl) ?_
     go_wp2_with fail
     refine hK.out _ _ ?_
     exact ⟨vq0,vq1,vq2,vq3,vq4,vq5,vq6,.bool true,vq8,vq9,.int .u64 1036831949,.bool true,vq12,vq13,vq14,vq15,vq16,vq17,vq18,(by simp only [pus]),hB,p0,p1,p2,p3,p4,p5,p6,(fun _=>rfl),p8,p9,(fun _=>rfl),(fun _=>rfl),p12,p13,p14,p15,p16,p17,p18⟩
   · obtain rfl:=p7 (hdep 7 (by kernel_rfl))
     obtain rfl:=p11 (hdep 11 (by kernel_rfl))
     simp only [pus]
     refine any_op (o:=_) rfl rfl ?_
     go_wp2_with fail
     refine hK.out _ _ ?_
     exact ⟨vq0,vq1,vq2,vq3,vq4,vq5,vq6,.bool true,vq8,vq9,vq10,.bool true,.bool true,vq13,vq14,vq15,vq16,vq17,vq18,(by simp only [pus]),hB,p0,p1,p2,p3,p4,p5,p6,(fun _=>rfl),p8,p9,p10,(fun _=>rfl),(fun _=>rfl),p13,p14,p15,p16,p17,p18⟩
   · obtain rfl:=p10 (hdep 10 (by kernel_rfl))
     obtain rfl:=p12 (hdep 12 (by kernel_rfl))
     simp only [pus]
     refine any_op (o:=_) rfl rfl ?_
     go_wp2_with fail
     refine hK.out _ _ ?_
     exact ⟨vq0,vq1,vq2,vq3,vq4,vq5,vq6,vq7,vq8,vq9,.int .u64 1036831949,vq11,.bool true,.bool true,vq14,vq15,vq16,vq17,vq18,(by simp only [pus]),hB,p0,p1,p2,p3,p4,p5,p6,p7,p8,p9,(fun _=>rfl),p11,(fun _=>rfl),(fun _=>rfl),p14,p15,p16,p17,p18⟩
   · obtain rfl:=p13 (hdep 13 (by kernel_rfl))
     simp only [pus]
     refine any_opg (o:=_) rfl (by kernel_rfl) ?_
     have hC:=Lib.hid (HDo.out W)
     go_simp
     refine hC.out.mono ?_
     rintro e W2 ⟨rfl,hb⟩
     refine hK.out _ _ ?_
     exact ⟨vq0,vq1,vq2,vq3,vq4,vq5,vq6,vq7,vq8,vq9,vq10,vq11,vq12,.bool true,.agg #[.int .i64 11,.int .i64 52],vq15,vq16,vq17,vq18,(by simp only [pus]),hB.trans (hb.mono hB.size),p0,p1,p2,p3,p4,p5,p6,p7,p8,p9,p10,p11,p12,(fun _=>rfl),(fun _=>rfl),p15,p16,p17,p18⟩
   · obtain rfl:=p13 (hdep 13 (by kernel_rfl))
     simp only [pus]
     refine any_opg (o:=_) rfl (by kernel_rfl) ?_
     go_wp2_with fail
     refine hK.out _ _ ?_
     exact ⟨vq0,vq1,vq2,vq3,vq4,vq5,vq6,vq7,vq8,vq9,vq10,vq11,vq12,.bool true,vq14,.agg #[.int .i64 11,.int .i64 52],vq16,vq17,vq18,(by simp only [pus]),hB,p0,p1,p2,p3,p4,p5,p6,p7,p8,p9,p10,p11,p12,(fun _=>rfl),p14,(fun _=>rfl),p16,p17,p18⟩
   · obtain rfl:=p13 (hdep 13 (by kernel_rfl))
     obtain rfl:=p14 (hdep 14 (by kernel_rfl))
     obtain rfl:=p15 (hdep 15 (by kernel_rfl))
     simp only [pus]
     refine any_opg (o:=_) rfl (by kernel_rfl) ?_
     go_wp2_with fail
     refine hK.out _ _ ?_
     exact ⟨vq0,vq1,vq2,vq3,vq4,vq5,vq6,vq7,vq8,vq9,vq10,vq11,vq12,.bool true,.agg #[.int .i64 11,.int .i64 52],.agg #[.int .i64 11,.int .i64 52],.bool true,vq17,vq18,(by simp only [pus]),hB,p0,p1,p2,p3,p4,p5,p6,p7,p8,p9,p10,p11,p12,(fun _=>rfl),(fun _=>rfl),(fun _=>rfl),(fun _=>rfl),p17,p18⟩
   · obtain rfl:=p13 (hdep 13 (by kernel_rfl))
     obtain rfl:=p16 (hdep 16 (by kernel_rfl))
     simp only [pus]
     refine any_op (o:=_) rfl rfl ?_
     go_wp2_with fail
     refine hK.out _ _ ?_
     exact ⟨vq0,vq1,vq2,vq3,vq4,vq5,vq6,vq7,vq8,vq9,vq10,vq11,vq12,.bool true,vq14,vq15,.bool true,.bool true,vq18,(by simp only [pus]),hB,p0,p1,p2,p3,p4,p5,p6,p7,p8,p9,p10,p11,p12,(fun _=>rfl),p14,p15,(fun _=>rfl),(fun _=>rfl),p18⟩
   · obtain rfl:=p0 (hdep 0 (by kernel_rfl))
     obtain rfl:=p1 (hdep 1 (by kernel_rfl))
     obtain rfl:=p2 (hdep 2 (by kernel_rfl))
     obtain rfl:=p3 (hdep 3 (by kernel_rfl))
     obtain rfl:=p4 (hdep 4 (by kernel_rfl))
     obtain rfl:=p5 (hdep 5 (by kernel_rfl))
     obtain rfl:=p6 (hdep 6 (by kernel_rfl))
     obtain rfl:=p7 (hdep 7 (by kernel_rfl))
     obtain rfl:=p8 (hdep 8 (by kernel_rfl))
     obtain rfl:=p9 (hdep 9 (by kernel_rfl))
     obtain rfl:=p10 (hdep 10 (by kernel_rfl))
     obtain rfl:=p11 (hdep 11 (by kernel_rfl))
     obtain rfl:=p12 (hdep 12 (by kernel_rfl))
     obtain rfl:=p13 (hdep 13 (by kernel_rfl))
     obtain rfl:=p14 (hdep 14 (by kernel_rfl))
     obtain rfl:=p15 (hdep 15 (by kernel_rfl))
     obtain rfl:=p16 (hdep 16 (by kernel_rfl))
     obtain rfl:=p17 (hdep 17 (by kernel_rfl))
     simp only [pus]
     refine any_op (o:=_) rfl rfl ?_
     go_wp2_with fail
     refine hK.out _ _ ?_
     exact ⟨.int .i64 1,.bool true,.bool true,.agg #[.bool z1,.slice p n c,.slice p' n' c'],.string ⟨#[51,47,50]⟩,.bool true,.bool true,.bool true,.agg #[.int .i64 8,.int .i64 23],.agg #[.bool z2,.slice q r d,.slice q' r' d'],.int .u64 1036831949,.bool true,.bool true,.bool true,.agg #[.int .i64 11,.int .i64 52],.agg #[.int .i64 11,.int .i64 52],.bool true,.bool true,.bool true,(by simp only [pus]),hB,(fun _=>rfl),(fun _=>rfl),(fun _=>rfl),(fun _=>rfl),(fun _=>rfl),(fun _=>rfl),(fun _=>rfl),(fun _=>rfl),(fun _=>rfl),(fun _=>rfl),(fun _=>rfl),(fun _=>rfl),(fun _=>rfl),(fun _=>rfl),(fun _=>rfl),(fun _=>rfl),(fun _=>rfl),(fun _=>rfl),(fun _=>rfl)⟩
 · intro dj a W hd hI
   obtain ⟨vq0,vq1,vq2,vq3,vq4,vq5,vq6,vq7,vq8,vq9,vq10,vq11,vq12,vq13,vq14,vq15,vq16,vq17,vq18,rfl,hB,p0,p1,p2,p3,p4,p5,p6,p7,p8,p9,p10,p11,p12,p13,p14,p15,p16,p17,p18⟩:=hI
   have V:=V5.below hB
   obtain rfl:=p0 (hd 0 (by omega))
   obtain rfl:=p1 (hd 1 (by omega))
   obtain rfl:=p2 (hd 2 (by omega))
   obtain rfl:=p3 (hd 3 (by omega))
   obtain rfl:=p4 (hd 4 (by omega))
   obtain rfl:=p5 (hd 5 (by omega))
   obtain rfl:=p6 (hd 6 (by omega))
   obtain rfl:=p7 (hd 7 (by omega))
   obtain rfl:=p8 (hd 8 (by omega))
   obtain rfl:=p9 (hd 9 (by omega))
   obtain rfl:=p10 (hd 10 (by omega))
   obtain rfl:=p11 (hd 11 (by omega))
   obtain rfl:=p12 (hd 12 (by omega))
   obtain rfl:=p13 (hd 13 (by omega))
   obtain rfl:=p14 (hd 14 (by omega))
   obtain rfl:=p15 (hd 15 (by omega))
   obtain rfl:=p16 (hd 16 (by omega))
   obtain rfl:=p17 (hd 17 (by omega))
   obtain rfl:=p18 (hd 18 (by omega))
   clear hd p0 p1 p2 p3 p4 p5 p6 p7 p8 p9 p10 p11 p12 p13 p14 p15 p16 p17 p18 dj
   simp only [pus]
   show wpAny Tryz.prog .any _ _ 0 #[true,true,true,true,true,true,true,true,true,true,true,true,true,true,true,true,true,true,true] _ _
   have HB:=Lib.hid V.bel
   clear V V5
   refine ⟨by kernel_rfl,?_⟩
   go_wp2_with fail
   go_ret
   exact ⟨rfl,HB.out⟩
end Go.Proofs.YtnhobagjpjcigaaGreatDoor
