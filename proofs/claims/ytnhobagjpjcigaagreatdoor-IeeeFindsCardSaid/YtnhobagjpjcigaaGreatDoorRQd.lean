/-
 Law 2: the document's own fractions: RatAdd, RatCmp.
-/
import Derived.Test.YtnhobagjpjcigaaGreatDoorRQc
import Derived.Test.YtnhobagjpjcigaaGreatDoorRQn
namespace Go.Proofs.YtnhobagjpjcigaaGreatDoor
open Go.RowKit
set_option linter.unusedVariables false
theorem d_mul5 {a b N j k:Nat} (h:a * b=N) (ha:a < 10000^j) (hb:b < 10000^k) (hjk:j + k≤500):N < 10000^500:=by
 rw [← h];exact pow_up (j + k) 500 (d_mul ha hb) hjk
set_option maxRecDepth 100000 in
set_option maxHeartbeats 8000000 in
theorem rratadd_same (x y:Rat) (va vb:Value) (w:World) (ha:RQ w va x) (hb:RQ w vb y) (hx:SzD 200 x) (hy:SzD 200 y) (hzu:decide (x.num < 0)=decide (y.num < 0)) :
 Calls Tryz.prog 98 #[va,vb] w (GaveQ (x + y) w):=by
 obtain ⟨p,n,c,p',n',c',rfl,h1,h2⟩:=ha
 obtain ⟨q,m,d,q',m',d',rfl,k1,k2⟩:=hb
 have hmk:=add_same x y hzu
 obtain ⟨xd,hxd⟩:∃ D,x.den=D:=⟨_,rfl⟩
 obtain ⟨yd,hyd⟩:∃ D,y.den=D:=⟨_,rfl⟩
 obtain ⟨xn,hxn⟩:∃ D,x.num.natAbs=D:=⟨_,rfl⟩
 obtain ⟨yn,hyn⟩:∃ D,y.num.natAbs=D:=⟨_,rfl⟩
 obtain ⟨zs,hz⟩:∃ z,decide (x.num < 0)=z:=⟨_,rfl⟩
 obtain ⟨us,hu⟩:∃ u,decide (y.num < 0)=u:=⟨_,rfl⟩
 have hxd0:=x.den_pos;have hyd0:=y.den_pos
 have hx1:=hx.1;have hx2:=hx.2;have hy1:=hy.1;have hy2:=hy.2
 simp only [hxd,hyd,hxn,hyn,hz,hu] at h1 h2 k1 k2 hxd0 hyd0 hx1 hx2 hy1 hy2 hmk hzu ⊢
 obtain ⟨X,hX⟩:∃ X,x + y=X:=⟨_,rfl⟩
 rw [hX] at hmk ⊢
 obtain ⟨M1,hM1⟩:∃ N,xn * yd=N:=⟨_,rfl⟩
 obtain ⟨M2,hM2⟩:∃ N,yn * xd=N:=⟨_,rfl⟩
 obtain ⟨DD,hDD⟩:∃ N,xd * yd=N:=⟨_,rfl⟩
 have hM19:M1 < 10000^500:=d_mul5 hM1 hx1 hy2 (by omega)
 have hM29:M2 < 10000^500:=d_mul5 hM2 hy1 hx2 (by omega)
 have hD9:DD < 10000^500:=d_mul5 hDD hx2 hy2 (by omega)
 have hD0:0 < DD:=by rw [← hDD];exact Nat.mul_pos hxd0 hyd0
 simp only [hM1,hM2,hDD] at hmk
 obtain ⟨NN,hNN⟩:∃ N,M1 + M2=N:=⟨_,rfl⟩
 have hN9:NN < 10000^900:=by
  rw [← hNN]
  exact pow_up _ 900 (d_add hM19 hM29) (by omega)
 rw [hNN] at hmk
 have HM:Hid (∀ W va vb,RN W va NN→RN W vb DD→Calls Tryz.prog 55 #[.bool zs,va,vb] W (GaveQ X W)):=Lib.hid (fun W va vb h1 h2=>rmake_any X _ NN DD va vb W h1 h2 hN9 (pow_up 500 900 hD9 (by omega)) hD0 hmk)
 have HM1:=Lib.hid (And.intro hM1 (pow_up _ 900 hM19 (by omega)));have HM2:=Lib.hid (And.intro hM2 (pow_up _ 900 hM29 (by omega)));have HDD:=Lib.hid (And.intro hDD (pow_up _ 900 hD9 (by omega)));have HNN:=Lib.hid (And.intro hNN hN9)
 subst hzu
 have hbe:(zs == zs)=true:=by cases zs <;> rfl
 have V0:=(((((Dq.refl w).cons k2 (pow_up 200 900 hy2 (by omega))).cons k1 (pow_up 200 900 hy1 (by omega))).cons h2 (pow_up 200 900 hx2 (by omega))).cons h1 (pow_up 200 900 hx1 (by omega))).three 34 34 34 #[.bool zs,.slice p n c,.slice p' n' c'] #[.bool zs,.slice q m d,.slice q' m' d'] #[.bool false,.slice none 0 0,.slice none 0 0]
 obtain ⟨bX,hbX⟩:∃ b,w.heap.size=b:=⟨_,rfl⟩
 obtain ⟨bY,hbY⟩:∃ b,bX + 1=b:=⟨_,rfl⟩
 obtain ⟨bR,hbR⟩:∃ b,bY + 1=b:=⟨_,rfl⟩
 obtain ⟨W0,hW0⟩:∃ W0,((w.alloc (.cells #[.bool zs,.slice p n c,.slice p' n' c'] 34)).alloc (.cells #[.bool zs,.slice q m d,.slice q' m' d'] 34)).alloc (.cells #[.bool false,.slice none 0 0,.slice none 0 0] 34)=W0:=⟨_,rfl⟩
 have hXR:bX≠bR:=by omega
 have hYR:bY≠bR:=by omega
 rw [hW0] at V0
 simp only [hbX,hbY,hbR] at V0
 have HW0:=Lib.hid hW0;have HbX:=Lib.hid hbX;have HbY:=Lib.hid hbY;have HbR:=Lib.hid hbR
 have HS:Hid (∀ z l q_ r_ W,Dq w [(bR,34,z),(bY,34,#[.bool zs,.slice q m d,.slice q' m' d']),(bX,34,#[.bool zs,.slice p n c,.slice p' n' c'])] l q_ r_ W→W.cell? ⟨bX,0,none⟩=some (.bool zs)∧W.cell? ⟨bX,1,none⟩=some (.slice p n c)∧W.cell? ⟨bX,2,none⟩=some (.slice p' n' c')∧W.cell? ⟨bY,0,none⟩=some (.bool zs)∧W.cell? ⟨bY,1,none⟩=some (.slice q m d)∧W.cell? ⟨bY,2,none⟩=some (.slice q' m' d')):=Lib.hid (fun z l q_ r_ W h=>⟨h.c0 2 rfl,h.c1 2 rfl,h.c2 2 rfl,h.c0 1 rfl,h.c1 1 rfl,h.c2 1 rfl⟩)
 have HSet:Hid (∀ W y0 y1 y2,(W.cell? ⟨bX,0,none⟩=some (.bool zs)∧W.cell? ⟨bX,1,none⟩=some (.slice p n c)∧W.cell? ⟨bX,2,none⟩=some (.slice p' n' c')∧W.cell? ⟨bY,0,none⟩=some (.bool zs)∧W.cell? ⟨bY,1,none⟩=some (.slice q m d)∧W.cell? ⟨bY,2,none⟩=some (.slice q' m' d'))→(World.cell? (set3 W bR y0 y1 y2) ⟨bX,0,none⟩=some (.bool zs)∧World.cell? (set3 W bR y0 y1 y2) ⟨bX,1,none⟩=some (.slice p n c)∧World.cell? (set3 W bR y0 y1 y2) ⟨bX,2,none⟩=some (.slice p' n' c')∧World.cell? (set3 W bR y0 y1 y2) ⟨bY,0,none⟩=some (.bool zs)∧World.cell? (set3 W bR y0 y1 y2) ⟨bY,1,none⟩=some (.slice q m d)∧World.cell? (set3 W bR y0 y1 y2) ⟨bY,2,none⟩=some (.slice q' m' d'))):=Lib.hid (fun W y0 y1 y2 h=>by rw [cell_set3 hXR,cell_set3 hXR,cell_set3 hXR,cell_set3 hYR,cell_set3 hYR,cell_set3 hYR];exact h)
 clear h1 h2 k1 k2 hx hy hx1 hx2 hy1 hy2 hxd hyd hxn hyn hxd0 hyd0 hW0 hbX hbY hbR hXR hYR hX hmk hM1 hM2 hDD hM19 hM29 hD9 hD0 hNN hN9
 go_enter Tryz.func98,Tryz.ntmps98
 go_wp2_with fail
 simp only [HbX.out,HbY.out,HbR.out,HW0.out]
 have V0d:=V0.drew
 clear V0
 refine wp_region_held_drew (S:=(fun w'=>w'.cell? ⟨bX,0,none⟩=some (.bool zs)∧w'.cell? ⟨bX,1,none⟩=some (.slice p n c)∧w'.cell? ⟨bX,2,none⟩=some (.slice p' n' c')∧w'.cell? ⟨bY,0,none⟩=some (.bool zs)∧w'.cell? ⟨bY,1,none⟩=some (.slice q m d)∧w'.cell? ⟨bY,2,none⟩=some (.slice q' m' d'))) (by kernel_rfl) ?_ (fun hHeld=>?_)
 · exact HS.out _ _ _ _ _ V0d
 refine tkH (i:=0) (v:=?_) rfl (by kernel_rfl) (fun _ _ _ h=>h) (Or.inl ⟨by rfl,?_⟩) (by assumption) ?_
 rotate_left
 · intro w hSw;(try dsimp only at hSw);go_simp;(try with_reducible rfl)
 try simp only [las]
 refine tkH (i:=1) (v:=?_) rfl (by kernel_rfl) (fun _ _ _ h=>h) (Or.inl ⟨by rfl,?_⟩) (by assumption) ?_
 rotate_left
 · intro w hSw;(try dsimp only at hSw);go_simp;(try with_reducible rfl)
 try simp only [las]
 refine tkH (i:=2) (v:=?_) rfl (by kernel_rfl) (fun _ _ _ h=>h) (Or.inl ⟨by rfl,?_⟩) (by assumption) ?_
 rotate_left
 · intro w hSw;(try dsimp only at hSw);go_simp;(try with_reducible rfl)
 try simp only [las]
 refine tkH (i:=3) (v:=?_) rfl (by kernel_rfl) (fun _ _ _ h=>h) (Or.inl ⟨by rfl,?_⟩) (by assumption) ?_
 rotate_left
 · intro w hSw;(try dsimp only at hSw);go_simp;(try with_reducible rfl)
 try simp only [las]
 refine tkH (i:=5) (v:=?_) rfl (by kernel_rfl) (fun _ _ _ h=>h) (Or.inl ⟨by rfl,?_⟩) (by assumption) ?_
 rotate_left
 · intro w hSw;(try dsimp only at hSw);go_simp;(try with_reducible rfl)
 try simp only [las]
 refine tkH (i:=6) (v:=?_) rfl (by kernel_rfl) (fun _ _ _ h=>h) (Or.inl ⟨by rfl,?_⟩) (by assumption) ?_
 rotate_left
 · intro w hSw;(try dsimp only at hSw);go_simp;(try with_reducible rfl)
 try simp only [las]
 refine tkH (i:=7) (v:=?_) rfl (by kernel_rfl) (fun _ _ _ h=>h) (Or.inl ⟨by rfl,?_⟩) (by assumption) ?_
 rotate_left
 · intro w hSw;(try dsimp only at hSw);go_simp;(try with_reducible rfl)
 try simp only [las]
 refine tkH (i:=8) (v:=?_) rfl (by kernel_rfl) (fun _ _ _ h=>h) (Or.inl ⟨by rfl,?_⟩) (by assumption) ?_
 rotate_left
 · intro w hSw;(try dsimp only at hSw);go_simp;(try with_reducible rfl)
 try simp only [las]
 refine tkH (i:=10) (v:=?_) rfl (by kernel_rfl) (fun _ _ _ h=>h) (Or.inl ⟨by rfl,?_⟩) (by assumption) ?_
 rotate_left
 · intro w hSw;(try dsimp only at hSw);go_simp;(try with_reducible rfl)
 try simp only [las]
 refine tkH (i:=11) (v:=?_) rfl (by kernel_rfl) (fun _ _ _ h=>h) (Or.inl ⟨by rfl,?_⟩) (by assumption) ?_
 rotate_left
 · intro w hSw;(try dsimp only at hSw);go_simp;(try with_reducible rfl)
 try simp only [las]
 refine tkH (i:=12) (v:=?_) rfl (by kernel_rfl) (fun _ _ _ h=>h) (Or.inl ⟨by rfl,?_⟩) (by assumption) ?_
 rotate_left
 · intro w hSw;(try dsimp only at hSw);go_simp;(try with_reducible rfl)
 try simp only [las]
 refine tkH (i:=13) (v:=?_) rfl (by kernel_rfl) (fun _ _ _ h=>h) (Or.inl ⟨by rfl,?_⟩) (by assumption) ?_
 rotate_left
 · intro w hSw;(try dsimp only at hSw);go_simp;(try with_reducible rfl)
 try simp only [las]
 refine wpAnyH_ready (rs:=[4]) (by kernel_rfl) (by simp) ?_
 refine AllReadyH.cons (o:=_) rfl (fun K hK=>?_) AllReadyH.nil
 go_simp
 go_at_call 54;refine (V0d.mul 0 3 rfl rfl HM1.out).mono ?_;rintro e wa4 ⟨a4,n4,c4,rfl,V4⟩;clear V0d
 refine hK.out _ _ ?_ (fun hHeld=>?_)
 · exact HS.out _ _ _ _ _ ‹_›
 clear hK K
 try simp only [las]
 refine wpAnyH_ready (rs:=[9]) (by kernel_rfl) (by simp) ?_
 refine AllReadyH.cons (o:=_) rfl (fun K hK=>?_) AllReadyH.nil
 go_simp
 go_at_call 54;refine (V4.mul 3 2 rfl rfl HM2.out).mono ?_;rintro e wa9 ⟨a9,n9,c9,rfl,V9⟩;clear V4
 refine hK.out _ _ ?_ (fun hHeld=>?_)
 · exact HS.out _ _ _ _ _ ‹_›
 clear hK K
 try simp only [las]
 refine wpAnyH_ready (rs:=[14]) (by kernel_rfl) (by simp) ?_
 refine AllReadyH.cons (o:=_) rfl (fun K hK=>?_) AllReadyH.nil
 go_simp
 go_at_call 54;refine (V9.mul 3 5 rfl rfl HDD.out).mono ?_;rintro e wa14 ⟨a14,n14,c14,rfl,V14⟩;clear V9
 refine hK.out _ _ ?_ (fun hHeld=>?_)
 · exact HS.out _ _ _ _ _ ‹_›
 clear hK K
 try simp only [las]
 refine tkH (i:=15) (v:=?_) rfl (by kernel_rfl) (fun _ _ _ h=>h) (Or.inl ⟨by rfl,?_⟩) (by assumption) ?_
 rotate_left
 · intro w hSw;(try dsimp only at hSw);go_simp;(try with_reducible rfl)
 try simp only [las]
 refine tkH (i:=16) (v:=?_) rfl (by kernel_rfl) (fun _ _ _ h=>h) (Or.inl ⟨by rfl,?_⟩) (by assumption) ?_
 rotate_left
 · intro w hSw;(try dsimp only at hSw);go_simp;(try with_reducible rfl)
 try simp only [las]
 refine tkH (i:=17) (v:=?_) rfl (by kernel_rfl) (fun _ _ _ h=>h) (Or.inl ⟨by rfl,?_⟩) (by assumption) ?_
 rotate_left
 · intro w hSw;(try dsimp only at hSw);go_simp;(try with_reducible rfl)
 try simp only [las]
 refine wpAnyH_done (by kernel_rfl) ?_ _
 have x0:=V14.c0 2 rfl;have x1:=V14.c1 2 rfl;have x2:=V14.c2 2 rfl
 have y0:=V14.c0 1 rfl;have y1:=V14.c1 1 rfl;have y2:=V14.c2 1 rfl
 go_wp2_with fail
 have Vd:=V14.drew
 clear V14 x0 x1 x2 y0 y1 y2
 refine wp_region_held_drew (S:=(fun w'=>w'.cell? ⟨bX,0,none⟩=some (.bool zs)∧w'.cell? ⟨bX,1,none⟩=some (.slice p n c)∧w'.cell? ⟨bX,2,none⟩=some (.slice p' n' c')∧w'.cell? ⟨bY,0,none⟩=some (.bool zs)∧w'.cell? ⟨bY,1,none⟩=some (.slice q m d)∧w'.cell? ⟨bY,2,none⟩=some (.slice q' m' d'))) (by kernel_rfl) ?_ (fun hHeld=>?_)
 · exact HS.out _ _ _ _ _ Vd
 refine tkH (i:=0) (v:=?_) rfl (by kernel_rfl) (fun _ _ _ h=>h) (Or.inl ⟨by rfl,?_⟩) (by assumption) ?_
 rotate_left
 · intro w hSw;(try dsimp only at hSw);go_simp;(try with_reducible rfl)
 try simp only [las]
 refine tkH (i:=1) (v:=?_) rfl (by kernel_rfl) (fun _ _ _ h=>h) (Or.inl ⟨by rfl,?_⟩) (by assumption) ?_
 rotate_left
 · intro w hSw;(try dsimp only at hSw);go_simp;(try with_reducible rfl)
 try simp only [las]
 refine tkH (i:=2) (v:=?_) rfl (by kernel_rfl) (fun _ _ _ h=>h) (Or.inl ⟨by rfl,?_⟩) (by assumption) ?_
 rotate_left
 · intro w hSw;(try dsimp only at hSw);go_simp;(try with_reducible rfl)
 try simp only [las]
 refine tkH (i:=3) (v:=?_) rfl (by kernel_rfl) (fun _ _ _ h=>h) (Or.inl ⟨by rfl,?_⟩) (by assumption) ?_
 rotate_left
 · intro w hSw;(try dsimp only at hSw);go_simp;(try with_reducible rfl)
 try simp only [las]
 refine tkH (i:=5) (v:=?_) rfl (by kernel_rfl) (fun _ _ _ h=>h) (Or.inl ⟨by rfl,?_⟩) (by assumption) ?_
 rotate_left
 · intro w hSw;(try dsimp only at hSw);go_simp;(try with_reducible rfl)
 try simp only [las]
 refine wpAnyH_ready (rs:=[4]) (by kernel_rfl) (by simp) ?_
 refine AllReadyH.cons (o:=_) rfl (fun K hK=>?_) AllReadyH.nil
 go_simp
 go_at_call 142;refine (Vd.add 2 1 rfl rfl HNN.out).mono ?_;rintro e wa4 ⟨a4,n4,c4,rfl,V4⟩;clear Vd
 refine hK.out _ _ ?_ (fun hHeld=>?_)
 · exact HS.out _ _ _ _ _ ‹_›
 clear hK K
 try simp only [las]
 refine wpAnyH_ready (rs:=[6]) (by kernel_rfl) (by simp) ?_
 refine AllReadyH.cons (o:=_) rfl (fun K hK=>?_) AllReadyH.nil
 go_simp
 go_at_call 55;refine (HM.out _ _ _ (V4.num 0 _ _ rfl).1 (V4.num 1 _ _ rfl).1).mono ?_;rintro e wa6 ⟨v6,rfl,hq,hb⟩;have V6:=(V4.below hb).qcons hq;obtain ⟨a5,n5,c5,a6,n6,c6,rfl,-,-⟩:=hq;obtain ⟨ys,hys⟩:∃ y,decide (X.num < 0)=y:=⟨_,rfl⟩;rw [hys] at V6 ⊢;clear V4 hys hb
 refine hK.out _ _ ?_ (fun hHeld=>?_)
 · exact HS.out _ _ _ _ _ ‹_›
 clear hK K
 try simp only [las]
 refine wpAnyH_ready (rs:=[7]) (by kernel_rfl) (by simp) ?_
 refine AllReadyH.cons (o:=_) rfl (fun K hK=>?_) AllReadyH.nil
 have HF:=Lib.hid (V6.finq 0 0 rfl rfl)
 have r0:=V6.c0 0 rfl;have r1:=V6.c1 0 rfl;have r2:=V6.c2 0 rfl
 have f0:=V6.frozen 0 0 rfl;have f1:=V6.frozen 0 1 rfl;have f2:=V6.frozen 0 2 rfl
 have HSl:=Lib.hid (HS.out _ _ _ _ _ V6)
 clear V6
 go_wp2_with fail
 refine hK.out _ _ ?_ (fun hHeld=>?_)
 · exact HSet.out _ _ _ _ HSl.out
 clear hK K
 try simp only [las]
 refine wpAnyH_done (by kernel_rfl) ?_ _
 go_wp2_with fail
 exact bodyPost_ret (res_ref rfl _ _ _ _ _ _ _ _ _ _ rfl HF.out.1) rfl HF.out.2
set_option maxRecDepth 100000 in
set_option maxHeartbeats 8000000 in
theorem rratadd_ge (x y:Rat) (va vb:Value) (w:World) (ha:RQ w va x) (hb:RQ w vb y) (hx:SzD 200 x) (hy:SzD 200 y) (hzu:decide (x.num < 0)≠decide (y.num < 0)) (hge:y.num.natAbs * x.den≤x.num.natAbs * y.den) :
 Calls Tryz.prog 98 #[va,vb] w (GaveQ (x + y) w):=by
 obtain ⟨p,n,c,p',n',c',rfl,h1,h2⟩:=ha
 obtain ⟨q,m,d,q',m',d',rfl,k1,k2⟩:=hb
 have hmk:=add_ge x y hzu hge
 obtain ⟨xd,hxd⟩:∃ D,x.den=D:=⟨_,rfl⟩
 obtain ⟨yd,hyd⟩:∃ D,y.den=D:=⟨_,rfl⟩
 obtain ⟨xn,hxn⟩:∃ D,x.num.natAbs=D:=⟨_,rfl⟩
 obtain ⟨yn,hyn⟩:∃ D,y.num.natAbs=D:=⟨_,rfl⟩
 obtain ⟨zs,hz⟩:∃ z,decide (x.num < 0)=z:=⟨_,rfl⟩
 obtain ⟨us,hu⟩:∃ u,decide (y.num < 0)=u:=⟨_,rfl⟩
 have hxd0:=x.den_pos;have hyd0:=y.den_pos
 have hx1:=hx.1;have hx2:=hx.2;have hy1:=hy.1;have hy2:=hy.2
 simp only [hxd,hyd,hxn,hyn,hz,hu] at h1 h2 k1 k2 hxd0 hyd0 hx1 hx2 hy1 hy2 hmk hzu hge ⊢
 obtain ⟨X,hX⟩:∃ X,x + y=X:=⟨_,rfl⟩
 rw [hX] at hmk ⊢
 obtain ⟨M1,hM1⟩:∃ N,xn * yd=N:=⟨_,rfl⟩
 obtain ⟨M2,hM2⟩:∃ N,yn * xd=N:=⟨_,rfl⟩
 obtain ⟨DD,hDD⟩:∃ N,xd * yd=N:=⟨_,rfl⟩
 have hM19:M1 < 10000^500:=d_mul5 hM1 hx1 hy2 (by omega)
 have hM29:M2 < 10000^500:=d_mul5 hM2 hy1 hx2 (by omega)
 have hD9:DD < 10000^500:=d_mul5 hDD hx2 hy2 (by omega)
 have hD0:0 < DD:=by rw [← hDD];exact Nat.mul_pos hxd0 hyd0
 simp only [hM1,hM2,hDD] at hmk hge
 obtain ⟨NN,hNN⟩:∃ N,M1 - M2=N:=⟨_,rfl⟩
 have hN9:NN < 10000^900:=by
  rw [← hNN]
  exact pow_up _ 900 (Nat.lt_of_le_of_lt (Nat.sub_le _ _) hM19) (by omega)
 rw [hNN] at hmk
 have HM:Hid (∀ W va vb,RN W va NN→RN W vb DD→Calls Tryz.prog 55 #[.bool zs,va,vb] W (GaveQ X W)):=Lib.hid (fun W va vb h1 h2=>rmake_any X _ NN DD va vb W h1 h2 hN9 (pow_up 500 900 hD9 (by omega)) hD0 hmk)
 have HM1:=Lib.hid (And.intro hM1 (pow_up _ 900 hM19 (by omega)));have HM2:=Lib.hid (And.intro hM2 (pow_up _ 900 hM29 (by omega)));have HDD:=Lib.hid (And.intro hDD (pow_up _ 900 hD9 (by omega)));have HNN:=Lib.hid (And.intro hNN hN9)
 have hbe:(zs == us)=false:=by revert hzu;cases zs <;> cases us <;> simp
 obtain ⟨C,hC⟩:∃ C,cmpI M1 M2=C:=⟨_,rfl⟩
 have hC0:(0:Int)≤C:=by
  rcases Nat.lt_or_eq_of_le hge with h | h
  · rw [← hC,cmpI_gt h];omega
  · rw [← hC,h,cmpI_eq];omega
 have HC:=Lib.hid hC;have Hge:=Lib.hid hge
 have V0:=(((((Dq.refl w).cons k2 (pow_up 200 900 hy2 (by omega))).cons k1 (pow_up 200 900 hy1 (by omega))).cons h2 (pow_up 200 900 hx2 (by omega))).cons h1 (pow_up 200 900 hx1 (by omega))).three 34 34 34 #[.bool zs,.slice p n c,.slice p' n' c'] #[.bool us,.slice q m d,.slice q' m' d'] #[.bool false,.slice none 0 0,.slice none 0 0]
 obtain ⟨bX,hbX⟩:∃ b,w.heap.size=b:=⟨_,rfl⟩
 obtain ⟨bY,hbY⟩:∃ b,bX + 1=b:=⟨_,rfl⟩
 obtain ⟨bR,hbR⟩:∃ b,bY + 1=b:=⟨_,rfl⟩
 obtain ⟨W0,hW0⟩:∃ W0,((w.alloc (.cells #[.bool zs,.slice p n c,.slice p' n' c'] 34)).alloc (.cells #[.bool us,.slice q m d,.slice q' m' d'] 34)).alloc (.cells #[.bool false,.slice none 0 0,.slice none 0 0] 34)=W0:=⟨_,rfl⟩
 have hXR:bX≠bR:=by omega
 have hYR:bY≠bR:=by omega
 rw [hW0] at V0
 simp only [hbX,hbY,hbR] at V0
 have HW0:=Lib.hid hW0;have HbX:=Lib.hid hbX;have HbY:=Lib.hid hbY;have HbR:=Lib.hid hbR
 have HS:Hid (∀ z l q_ r_ W,Dq w [(bR,34,z),(bY,34,#[.bool us,.slice q m d,.slice q' m' d']),(bX,34,#[.bool zs,.slice p n c,.slice p' n' c'])] l q_ r_ W→W.cell? ⟨bX,0,none⟩=some (.bool zs)∧W.cell? ⟨bX,1,none⟩=some (.slice p n c)∧W.cell? ⟨bX,2,none⟩=some (.slice p' n' c')∧W.cell? ⟨bY,0,none⟩=some (.bool us)∧W.cell? ⟨bY,1,none⟩=some (.slice q m d)∧W.cell? ⟨bY,2,none⟩=some (.slice q' m' d')):=Lib.hid (fun z l q_ r_ W h=>⟨h.c0 2 rfl,h.c1 2 rfl,h.c2 2 rfl,h.c0 1 rfl,h.c1 1 rfl,h.c2 1 rfl⟩)
 have HSet:Hid (∀ W y0 y1 y2,(W.cell? ⟨bX,0,none⟩=some (.bool zs)∧W.cell? ⟨bX,1,none⟩=some (.slice p n c)∧W.cell? ⟨bX,2,none⟩=some (.slice p' n' c')∧W.cell? ⟨bY,0,none⟩=some (.bool us)∧W.cell? ⟨bY,1,none⟩=some (.slice q m d)∧W.cell? ⟨bY,2,none⟩=some (.slice q' m' d'))→(World.cell? (set3 W bR y0 y1 y2) ⟨bX,0,none⟩=some (.bool zs)∧World.cell? (set3 W bR y0 y1 y2) ⟨bX,1,none⟩=some (.slice p n c)∧World.cell? (set3 W bR y0 y1 y2) ⟨bX,2,none⟩=some (.slice p' n' c')∧World.cell? (set3 W bR y0 y1 y2) ⟨bY,0,none⟩=some (.bool us)∧World.cell? (set3 W bR y0 y1 y2) ⟨bY,1,none⟩=some (.slice q m d)∧World.cell? (set3 W bR y0 y1 y2) ⟨bY,2,none⟩=some (.slice q' m' d'))):=Lib.hid (fun W y0 y1 y2 h=>by rw [cell_set3 hXR,cell_set3 hXR,cell_set3 hXR,cell_set3 hYR,cell_set3 hYR,cell_set3 hYR];exact h)
 clear h1 h2 k1 k2 hx hy hx1 hx2 hy1 hy2 hxd hyd hxn hyn hxd0 hyd0 hW0 hbX hbY hbR hXR hYR hz hu hX hmk hM1 hM2 hDD hM19 hM29 hD9 hD0 hNN hN9 hC hge hzu
 go_enter Tryz.func98,Tryz.ntmps98
 go_wp2_with fail
 simp only [HbX.out,HbY.out,HbR.out,HW0.out]
 have V0d:=V0.drew
 clear V0
 refine wp_region_held_drew (S:=(fun w'=>w'.cell? ⟨bX,0,none⟩=some (.bool zs)∧w'.cell? ⟨bX,1,none⟩=some (.slice p n c)∧w'.cell? ⟨bX,2,none⟩=some (.slice p' n' c')∧w'.cell? ⟨bY,0,none⟩=some (.bool us)∧w'.cell? ⟨bY,1,none⟩=some (.slice q m d)∧w'.cell? ⟨bY,2,none⟩=some (.slice q' m' d'))) (by kernel_rfl) ?_ (fun hHeld=>?_)
 · exact HS.out _ _ _ _ _ V0d
 refine tkH (i:=0) (v:=?_) rfl (by kernel_rfl) (fun _ _ _ h=>h) (Or.inl ⟨by rfl,?_⟩) (by assumption) ?_
 rotate_left
 · intro w hSw;(try dsimp only at hSw);go_simp;(try with_reducible rfl)
 try simp only [las]
 refine tkH (i:=1) (v:=?_) rfl (by kernel_rfl) (fun _ _ _ h=>h) (Or.inl ⟨by rfl,?_⟩) (by assumption) ?_
 rotate_left
 · intro w hSw;(try dsimp only at hSw);go_simp;(try with_reducible rfl)
 try simp only [las]
 refine tkH (i:=2) (v:=?_) rfl (by kernel_rfl) (fun _ _ _ h=>h) (Or.inl ⟨by rfl,?_⟩) (by assumption) ?_
 rotate_left
 · intro w hSw;(try dsimp only at hSw);go_simp;(try with_reducible rfl)
 try simp only [las]
 refine tkH (i:=3) (v:=?_) rfl (by kernel_rfl) (fun _ _ _ h=>h) (Or.inl ⟨by rfl,?_⟩) (by assumption) ?_
 rotate_left
 · intro w hSw;(try dsimp only at hSw);go_simp;(try with_reducible rfl)
 try simp only [las]
 refine tkH (i:=5) (v:=?_) rfl (by kernel_rfl) (fun _ _ _ h=>h) (Or.inl ⟨by rfl,?_⟩) (by assumption) ?_
 rotate_left
 · intro w hSw;(try dsimp only at hSw);go_simp;(try with_reducible rfl)
 try simp only [las]
 refine tkH (i:=6) (v:=?_) rfl (by kernel_rfl) (fun _ _ _ h=>h) (Or.inl ⟨by rfl,?_⟩) (by assumption) ?_
 rotate_left
 · intro w hSw;(try dsimp only at hSw);go_simp;(try with_reducible rfl)
 try simp only [las]
 refine tkH (i:=7) (v:=?_) rfl (by kernel_rfl) (fun _ _ _ h=>h) (Or.inl ⟨by rfl,?_⟩) (by assumption) ?_
 rotate_left
 · intro w hSw;(try dsimp only at hSw);go_simp;(try with_reducible rfl)
 try simp only [las]
 refine tkH (i:=8) (v:=?_) rfl (by kernel_rfl) (fun _ _ _ h=>h) (Or.inl ⟨by rfl,?_⟩) (by assumption) ?_
 rotate_left
 · intro w hSw;(try dsimp only at hSw);go_simp;(try with_reducible rfl)
 try simp only [las]
 refine tkH (i:=10) (v:=?_) rfl (by kernel_rfl) (fun _ _ _ h=>h) (Or.inl ⟨by rfl,?_⟩) (by assumption) ?_
 rotate_left
 · intro w hSw;(try dsimp only at hSw);go_simp;(try with_reducible rfl)
 try simp only [las]
 refine tkH (i:=11) (v:=?_) rfl (by kernel_rfl) (fun _ _ _ h=>h) (Or.inl ⟨by rfl,?_⟩) (by assumption) ?_
 rotate_left
 · intro w hSw;(try dsimp only at hSw);go_simp;(try with_reducible rfl)
 try simp only [las]
 refine tkH (i:=12) (v:=?_) rfl (by kernel_rfl) (fun _ _ _ h=>h) (Or.inl ⟨by rfl,?_⟩) (by assumption) ?_
 rotate_left
 · intro w hSw;(try dsimp only at hSw);go_simp;(try with_reducible rfl)
 try simp only [las]
 refine tkH (i:=13) (v:=?_) rfl (by kernel_rfl) (fun _ _ _ h=>h) (Or.inl ⟨by rfl,?_⟩) (by assumption) ?_
 rotate_left
 · intro w hSw;(try dsimp only at hSw);go_simp;(try with_reducible rfl)
 try simp only [las]
 refine wpAnyH_ready (rs:=[4]) (by kernel_rfl) (by simp) ?_
 refine AllReadyH.cons (o:=_) rfl (fun K hK=>?_) AllReadyH.nil
 go_simp
 go_at_call 54;refine (V0d.mul 0 3 rfl rfl HM1.out).mono ?_;rintro e wa4 ⟨a4,n4,c4,rfl,V4⟩;clear V0d
 refine hK.out _ _ ?_ (fun hHeld=>?_)
 · exact HS.out _ _ _ _ _ ‹_›
 clear hK K
 try simp only [las]
 refine wpAnyH_ready (rs:=[9]) (by kernel_rfl) (by simp) ?_
 refine AllReadyH.cons (o:=_) rfl (fun K hK=>?_) AllReadyH.nil
 go_simp
 go_at_call 54;refine (V4.mul 3 2 rfl rfl HM2.out).mono ?_;rintro e wa9 ⟨a9,n9,c9,rfl,V9⟩;clear V4
 refine hK.out _ _ ?_ (fun hHeld=>?_)
 · exact HS.out _ _ _ _ _ ‹_›
 clear hK K
 try simp only [las]
 refine wpAnyH_ready (rs:=[14]) (by kernel_rfl) (by simp) ?_
 refine AllReadyH.cons (o:=_) rfl (fun K hK=>?_) AllReadyH.nil
 go_simp
 go_at_call 54;refine (V9.mul 3 5 rfl rfl HDD.out).mono ?_;rintro e wa14 ⟨a14,n14,c14,rfl,V14⟩;clear V9
 refine hK.out _ _ ?_ (fun hHeld=>?_)
 · exact HS.out _ _ _ _ _ ‹_›
 clear hK K
 try simp only [las]
 refine tkH (i:=15) (v:=?_) rfl (by kernel_rfl) (fun _ _ _ h=>h) (Or.inl ⟨by rfl,?_⟩) (by assumption) ?_
 rotate_left
 · intro w hSw;(try dsimp only at hSw);go_simp;(try with_reducible rfl)
 try simp only [las]
 refine tkH (i:=16) (v:=?_) rfl (by kernel_rfl) (fun _ _ _ h=>h) (Or.inl ⟨by rfl,?_⟩) (by assumption) ?_
 rotate_left
 · intro w hSw;(try dsimp only at hSw);go_simp;(try with_reducible rfl)
 try simp only [las]
 refine tkH (i:=17) (v:=?_) rfl (by kernel_rfl) (fun _ _ _ h=>h) (Or.inl ⟨by rfl,?_⟩) (by assumption) ?_
 rotate_left
 · intro w hSw;(try dsimp only at hSw);go_simp;(try with_reducible rfl)
 try simp only [las]
 refine wpAnyH_done (by kernel_rfl) ?_ _
 have x0:=V14.c0 2 rfl;have x1:=V14.c1 2 rfl;have x2:=V14.c2 2 rfl
 have y0:=V14.c0 1 rfl;have y1:=V14.c1 1 rfl;have y2:=V14.c2 1 rfl
 go_wp2_with fail
 refine (V14.cmp 2 1 rfl rfl HC.out).mono ?_
 rintro e wc ⟨rfl,Vc⟩
 clear V14 x0 x1 x2 y0 y1 y2
 go_wp2_with fail
 have Vd:=Vc.drew
 clear Vc
 refine wp_region_held_drew (S:=(fun w'=>w'.cell? ⟨bX,0,none⟩=some (.bool zs)∧w'.cell? ⟨bX,1,none⟩=some (.slice p n c)∧w'.cell? ⟨bX,2,none⟩=some (.slice p' n' c')∧w'.cell? ⟨bY,0,none⟩=some (.bool us)∧w'.cell? ⟨bY,1,none⟩=some (.slice q m d)∧w'.cell? ⟨bY,2,none⟩=some (.slice q' m' d'))) (by kernel_rfl) ?_ (fun hHeld=>?_)
 · exact HS.out _ _ _ _ _ Vd
 refine tkH (i:=0) (v:=?_) rfl (by kernel_rfl) (fun _ _ _ h=>h) (Or.inl ⟨by rfl,?_⟩) (by assumption) ?_
 rotate_left
 · intro w hSw;(try dsimp only at hSw);go_simp;(try with_reducible rfl)
 try simp only [las]
 refine tkH (i:=1) (v:=?_) rfl (by kernel_rfl) (fun _ _ _ h=>h) (Or.inl ⟨by rfl,?_⟩) (by assumption) ?_
 rotate_left
 · intro w hSw;(try dsimp only at hSw);go_simp;(try with_reducible rfl)
 try simp only [las]
 refine tkH (i:=2) (v:=?_) rfl (by kernel_rfl) (fun _ _ _ h=>h) (Or.inl ⟨by rfl,?_⟩) (by assumption) ?_
 rotate_left
 · intro w hSw;(try dsimp only at hSw);go_simp;(try with_reducible rfl)
 try simp only [las]
 refine tkH (i:=3) (v:=?_) rfl (by kernel_rfl) (fun _ _ _ h=>h) (Or.inl ⟨by rfl,?_⟩) (by assumption) ?_
 rotate_left
 · intro w hSw;(try dsimp only at hSw);go_simp;(try with_reducible rfl)
 try simp only [las]
 refine tkH (i:=5) (v:=?_) rfl (by kernel_rfl) (fun _ _ _ h=>h) (Or.inl ⟨by rfl,?_⟩) (by assumption) ?_
 rotate_left
 · intro w hSw;(try dsimp only at hSw);go_simp;(try with_reducible rfl)
 try simp only [las]
 refine wpAnyH_ready (rs:=[4]) (by kernel_rfl) (by simp) ?_
 refine AllReadyH.cons (o:=_) rfl (fun K hK=>?_) AllReadyH.nil
 go_simp
 go_at_call 126;refine (Vd.sub 2 1 rfl rfl Hge.out HNN.out).mono ?_;rintro e wa4 ⟨a4,n4,c4,rfl,V4⟩;clear Vd
 refine hK.out _ _ ?_ (fun hHeld=>?_)
 · exact HS.out _ _ _ _ _ ‹_›
 clear hK K
 try simp only [las]
 refine wpAnyH_ready (rs:=[6]) (by kernel_rfl) (by simp) ?_
 refine AllReadyH.cons (o:=_) rfl (fun K hK=>?_) AllReadyH.nil
 go_simp
 go_at_call 55;refine (HM.out _ _ _ (V4.num 0 _ _ rfl).1 (V4.num 1 _ _ rfl).1).mono ?_;rintro e wa6 ⟨v6,rfl,hq,hb⟩;have V6:=(V4.below hb).qcons hq;obtain ⟨a5,n5,c5,a6,n6,c6,rfl,-,-⟩:=hq;obtain ⟨ys,hys⟩:∃ y,decide (X.num < 0)=y:=⟨_,rfl⟩;rw [hys] at V6 ⊢;clear V4 hys hb
 refine hK.out _ _ ?_ (fun hHeld=>?_)
 · exact HS.out _ _ _ _ _ ‹_›
 clear hK K
 try simp only [las]
 refine wpAnyH_ready (rs:=[7]) (by kernel_rfl) (by simp) ?_
 refine AllReadyH.cons (o:=_) rfl (fun K hK=>?_) AllReadyH.nil
 have HF:=Lib.hid (V6.finq 0 0 rfl rfl)
 have r0:=V6.c0 0 rfl;have r1:=V6.c1 0 rfl;have r2:=V6.c2 0 rfl
 have f0:=V6.frozen 0 0 rfl;have f1:=V6.frozen 0 1 rfl;have f2:=V6.frozen 0 2 rfl
 have HSl:=Lib.hid (HS.out _ _ _ _ _ V6)
 clear V6
 go_wp2_with fail
 refine hK.out _ _ ?_ (fun hHeld=>?_)
 · exact HSet.out _ _ _ _ HSl.out
 clear hK K
 try simp only [las]
 refine wpAnyH_done (by kernel_rfl) ?_ _
 go_wp2_with fail
 exact bodyPost_ret (res_ref rfl _ _ _ _ _ _ _ _ _ _ rfl HF.out.1) rfl HF.out.2
set_option maxRecDepth 100000 in
set_option maxHeartbeats 8000000 in
theorem rratadd_lt (x y:Rat) (va vb:Value) (w:World) (ha:RQ w va x) (hb:RQ w vb y) (hx:SzD 200 x) (hy:SzD 200 y) (hzu:decide (x.num < 0)≠decide (y.num < 0)) (hlt:x.num.natAbs * y.den < y.num.natAbs * x.den) :
 Calls Tryz.prog 98 #[va,vb] w (GaveQ (x + y) w):=by
 obtain ⟨p,n,c,p',n',c',rfl,h1,h2⟩:=ha
 obtain ⟨q,m,d,q',m',d',rfl,k1,k2⟩:=hb
 have hmk:=add_lt x y hzu (Nat.le_of_lt hlt)
 obtain ⟨xd,hxd⟩:∃ D,x.den=D:=⟨_,rfl⟩
 obtain ⟨yd,hyd⟩:∃ D,y.den=D:=⟨_,rfl⟩
 obtain ⟨xn,hxn⟩:∃ D,x.num.natAbs=D:=⟨_,rfl⟩
 obtain ⟨yn,hyn⟩:∃ D,y.num.natAbs=D:=⟨_,rfl⟩
 obtain ⟨zs,hz⟩:∃ z,decide (x.num < 0)=z:=⟨_,rfl⟩
 obtain ⟨us,hu⟩:∃ u,decide (y.num < 0)=u:=⟨_,rfl⟩
 have hxd0:=x.den_pos;have hyd0:=y.den_pos
 have hx1:=hx.1;have hx2:=hx.2;have hy1:=hy.1;have hy2:=hy.2
 simp only [hxd,hyd,hxn,hyn,hz,hu] at h1 h2 k1 k2 hxd0 hyd0 hx1 hx2 hy1 hy2 hmk hzu hlt ⊢
 obtain ⟨X,hX⟩:∃ X,x + y=X:=⟨_,rfl⟩
 rw [hX] at hmk ⊢
 obtain ⟨M1,hM1⟩:∃ N,xn * yd=N:=⟨_,rfl⟩
 obtain ⟨M2,hM2⟩:∃ N,yn * xd=N:=⟨_,rfl⟩
 obtain ⟨DD,hDD⟩:∃ N,xd * yd=N:=⟨_,rfl⟩
 have hM19:M1 < 10000^500:=d_mul5 hM1 hx1 hy2 (by omega)
 have hM29:M2 < 10000^500:=d_mul5 hM2 hy1 hx2 (by omega)
 have hD9:DD < 10000^500:=d_mul5 hDD hx2 hy2 (by omega)
 have hD0:0 < DD:=by rw [← hDD];exact Nat.mul_pos hxd0 hyd0
 simp only [hM1,hM2,hDD] at hmk hlt
 obtain ⟨NN,hNN⟩:∃ N,M2 - M1=N:=⟨_,rfl⟩
 have hN9:NN < 10000^900:=by
  rw [← hNN]
  exact pow_up _ 900 (Nat.lt_of_le_of_lt (Nat.sub_le _ _) hM29) (by omega)
 rw [hNN] at hmk
 have HM:Hid (∀ W va vb,RN W va NN→RN W vb DD→Calls Tryz.prog 55 #[.bool us,va,vb] W (GaveQ X W)):=Lib.hid (fun W va vb h1 h2=>rmake_any X _ NN DD va vb W h1 h2 hN9 (pow_up 500 900 hD9 (by omega)) hD0 hmk)
 have HM1:=Lib.hid (And.intro hM1 (pow_up _ 900 hM19 (by omega)));have HM2:=Lib.hid (And.intro hM2 (pow_up _ 900 hM29 (by omega)));have HDD:=Lib.hid (And.intro hDD (pow_up _ 900 hD9 (by omega)));have HNN:=Lib.hid (And.intro hNN hN9)
 have hbe:(zs == us)=false:=by revert hzu;cases zs <;> cases us <;> simp
 have HC:=Lib.hid (cmpI_lt hlt);have Hge:=Lib.hid (Nat.le_of_lt hlt)
 have V0:=(((((Dq.refl w).cons k2 (pow_up 200 900 hy2 (by omega))).cons k1 (pow_up 200 900 hy1 (by omega))).cons h2 (pow_up 200 900 hx2 (by omega))).cons h1 (pow_up 200 900 hx1 (by omega))).three 34 34 34 #[.bool zs,.slice p n c,.slice p' n' c'] #[.bool us,.slice q m d,.slice q' m' d'] #[.bool false,.slice none 0 0,.slice none 0 0]
 obtain ⟨bX,hbX⟩:∃ b,w.heap.size=b:=⟨_,rfl⟩
 obtain ⟨bY,hbY⟩:∃ b,bX + 1=b:=⟨_,rfl⟩
 obtain ⟨bR,hbR⟩:∃ b,bY + 1=b:=⟨_,rfl⟩
 obtain ⟨W0,hW0⟩:∃ W0,((w.alloc (.cells #[.bool zs,.slice p n c,.slice p' n' c'] 34)).alloc (.cells #[.bool us,.slice q m d,.slice q' m' d'] 34)).alloc (.cells #[.bool false,.slice none 0 0,.slice none 0 0] 34)=W0:=⟨_,rfl⟩
 have hXR:bX≠bR:=by omega
 have hYR:bY≠bR:=by omega
 rw [hW0] at V0
 simp only [hbX,hbY,hbR] at V0
 have HW0:=Lib.hid hW0;have HbX:=Lib.hid hbX;have HbY:=Lib.hid hbY;have HbR:=Lib.hid hbR
 have HS:Hid (∀ z l q_ r_ W,Dq w [(bR,34,z),(bY,34,#[.bool us,.slice q m d,.slice q' m' d']),(bX,34,#[.bool zs,.slice p n c,.slice p' n' c'])] l q_ r_ W→W.cell? ⟨bX,0,none⟩=some (.bool zs)∧W.cell? ⟨bX,1,none⟩=some (.slice p n c)∧W.cell? ⟨bX,2,none⟩=some (.slice p' n' c')∧W.cell? ⟨bY,0,none⟩=some (.bool us)∧W.cell? ⟨bY,1,none⟩=some (.slice q m d)∧W.cell? ⟨bY,2,none⟩=some (.slice q' m' d')):=Lib.hid (fun z l q_ r_ W h=>⟨h.c0 2 rfl,h.c1 2 rfl,h.c2 2 rfl,h.c0 1 rfl,h.c1 1 rfl,h.c2 1 rfl⟩)
 have HSet:Hid (∀ W y0 y1 y2,(W.cell? ⟨bX,0,none⟩=some (.bool zs)∧W.cell? ⟨bX,1,none⟩=some (.slice p n c)∧W.cell? ⟨bX,2,none⟩=some (.slice p' n' c')∧W.cell? ⟨bY,0,none⟩=some (.bool us)∧W.cell? ⟨bY,1,none⟩=some (.slice q m d)∧W.cell? ⟨bY,2,none⟩=some (.slice q' m' d'))→(World.cell? (set3 W bR y0 y1 y2) ⟨bX,0,none⟩=some (.bool zs)∧World.cell? (set3 W bR y0 y1 y2) ⟨bX,1,none⟩=some (.slice p n c)∧World.cell? (set3 W bR y0 y1 y2) ⟨bX,2,none⟩=some (.slice p' n' c')∧World.cell? (set3 W bR y0 y1 y2) ⟨bY,0,none⟩=some (.bool us)∧World.cell? (set3 W bR y0 y1 y2) ⟨bY,1,none⟩=some (.slice q m d)∧World.cell? (set3 W bR y0 y1 y2) ⟨bY,2,none⟩=some (.slice q' m' d'))):=Lib.hid (fun W y0 y1 y2 h=>by rw [cell_set3 hXR,cell_set3 hXR,cell_set3 hXR,cell_set3 hYR,cell_set3 hYR,cell_set3 hYR];exact h)
 clear h1 h2 k1 k2 hx hy hx1 hx2 hy1 hy2 hxd hyd hxn hyn hxd0 hyd0 hW0 hbX hbY hbR hXR hYR hz hu hX hmk hM1 hM2 hDD hM19 hM29 hD9 hD0 hNN hN9 hlt hzu
 go_enter Tryz.func98,Tryz.ntmps98
 go_wp2_with fail
 simp only [HbX.out,HbY.out,HbR.out,HW0.out]
 have V0d:=V0.drew
 clear V0
 refine wp_region_held_drew (S:=(fun w'=>w'.cell? ⟨bX,0,none⟩=some (.bool zs)∧w'.cell? ⟨bX,1,none⟩=some (.slice p n c)∧w'.cell? ⟨bX,2,none⟩=some (.slice p' n' c')∧w'.cell? ⟨bY,0,none⟩=some (.bool us)∧w'.cell? ⟨bY,1,none⟩=some (.slice q m d)∧w'.cell? ⟨bY,2,none⟩=some (.slice q' m' d'))) (by kernel_rfl) ?_ (fun hHeld=>?_)
 · exact HS.out _ _ _ _ _ V0d
 refine tkH (i:=0) (v:=?_) rfl (by kernel_rfl) (fun _ _ _ h=>h) (Or.inl ⟨by rfl,?_⟩) (by assumption) ?_
 rotate_left
 · intro w hSw;(try dsimp only at hSw);go_simp;(try with_reducible rfl)
 try simp only [las]
 refine tkH (i:=1) (v:=?_) rfl (by kernel_rfl) (fun _ _ _ h=>h) (Or.inl ⟨by rfl,?_⟩) (by assumption) ?_
 rotate_left
 · intro w hSw;(try dsimp only at hSw);go_simp;(try with_reducible rfl)
 try simp only [las]
 refine tkH (i:=2) (v:=?_) rfl (by kernel_rfl) (fun _ _ _ h=>h) (Or.inl ⟨by rfl,?_⟩) (by assumption) ?_
 rotate_left
 · intro w hSw;(try dsimp only at hSw);go_simp;(try with_reducible rfl)
 try simp only [las]
 refine tkH (i:=3) (v:=?_) rfl (by kernel_rfl) (fun _ _ _ h=>h) (Or.inl ⟨by rfl,?_⟩) (by assumption) ?_
 rotate_left
 · intro w hSw;(try dsimp only at hSw);go_simp;(try with_reducible rfl)
 try simp only [las]
 refine tkH (i:=5) (v:=?_) rfl (by kernel_rfl) (fun _ _ _ h=>h) (Or.inl ⟨by rfl,?_⟩) (by assumption) ?_
 rotate_left
 · intro w hSw;(try dsimp only at hSw);go_simp;(try with_reducible rfl)
 try simp only [las]
 refine tkH (i:=6) (v:=?_) rfl (by kernel_rfl) (fun _ _ _ h=>h) (Or.inl ⟨by rfl,?_⟩) (by assumption) ?_
 rotate_left
 · intro w hSw;(try dsimp only at hSw);go_simp;(try with_reducible rfl)
 try simp only [las]
 refine tkH (i:=7) (v:=?_) rfl (by kernel_rfl) (fun _ _ _ h=>h) (Or.inl ⟨by rfl,?_⟩) (by assumption) ?_
 rotate_left
 · intro w hSw;(try dsimp only at hSw);go_simp;(try with_reducible rfl)
 try simp only [las]
 refine tkH (i:=8) (v:=?_) rfl (by kernel_rfl) (fun _ _ _ h=>h) (Or.inl ⟨by rfl,?_⟩) (by assumption) ?_
 rotate_left
 · intro w hSw;(try dsimp only at hSw);go_simp;(try with_reducible rfl)
 try simp only [las]
 refine tkH (i:=10) (v:=?_) rfl (by kernel_rfl) (fun _ _ _ h=>h) (Or.inl ⟨by rfl,?_⟩) (by assumption) ?_
 rotate_left
 · intro w hSw;(try dsimp only at hSw);go_simp;(try with_reducible rfl)
 try simp only [las]
 refine tkH (i:=11) (v:=?_) rfl (by kernel_rfl) (fun _ _ _ h=>h) (Or.inl ⟨by rfl,?_⟩) (by assumption) ?_
 rotate_left
 · intro w hSw;(try dsimp only at hSw);go_simp;(try with_reducible rfl)
 try simp only [las]
 refine tkH (i:=12) (v:=?_) rfl (by kernel_rfl) (fun _ _ _ h=>h) (Or.inl ⟨by rfl,?_⟩) (by assumption) ?_
 rotate_left
 · intro w hSw;(try dsimp only at hSw);go_simp;(try with_reducible rfl)
 try simp only [las]
 refine tkH (i:=13) (v:=?_) rfl (by kernel_rfl) (fun _ _ _ h=>h) (Or.inl ⟨by rfl,?_⟩) (by assumption) ?_
 rotate_left
 · intro w hSw;(try dsimp only at hSw);go_simp;(try with_reducible rfl)
 try simp only [las]
 refine wpAnyH_ready (rs:=[4]) (by kernel_rfl) (by simp) ?_
 refine AllReadyH.cons (o:=_) rfl (fun K hK=>?_) AllReadyH.nil
 go_simp
 go_at_call 54;refine (V0d.mul 0 3 rfl rfl HM1.out).mono ?_;rintro e wa4 ⟨a4,n4,c4,rfl,V4⟩;clear V0d
 refine hK.out _ _ ?_ (fun hHeld=>?_)
 · exact HS.out _ _ _ _ _ ‹_›
 clear hK K
 try simp only [las]
 refine wpAnyH_ready (rs:=[9]) (by kernel_rfl) (by simp) ?_
 refine AllReadyH.cons (o:=_) rfl (fun K hK=>?_) AllReadyH.nil
 go_simp
 go_at_call 54;refine (V4.mul 3 2 rfl rfl HM2.out).mono ?_;rintro e wa9 ⟨a9,n9,c9,rfl,V9⟩;clear V4
 refine hK.out _ _ ?_ (fun hHeld=>?_)
 · exact HS.out _ _ _ _ _ ‹_›
 clear hK K
 try simp only [las]
 refine wpAnyH_ready (rs:=[14]) (by kernel_rfl) (by simp) ?_
 refine AllReadyH.cons (o:=_) rfl (fun K hK=>?_) AllReadyH.nil
 go_simp
 go_at_call 54;refine (V9.mul 3 5 rfl rfl HDD.out).mono ?_;rintro e wa14 ⟨a14,n14,c14,rfl,V14⟩;clear V9
 refine hK.out _ _ ?_ (fun hHeld=>?_)
 · exact HS.out _ _ _ _ _ ‹_›
 clear hK K
 try simp only [las]
 refine tkH (i:=15) (v:=?_) rfl (by kernel_rfl) (fun _ _ _ h=>h) (Or.inl ⟨by rfl,?_⟩) (by assumption) ?_
 rotate_left
 · intro w hSw;(try dsimp only at hSw);go_simp;(try with_reducible rfl)
 try simp only [las]
 refine tkH (i:=16) (v:=?_) rfl (by kernel_rfl) (fun _ _ _ h=>h) (Or.inl ⟨by rfl,?_⟩) (by assumption) ?_
 rotate_left
 · intro w hSw;(try dsimp only at hSw);go_simp;(try with_reducible rfl)
 try simp only [las]
 refine tkH (i:=17) (v:=?_) rfl (by kernel_rfl) (fun _ _ _ h=>h) (Or.inl ⟨by rfl,?_⟩) (by assumption) ?_
 rotate_left
 · intro w hSw;(try dsimp only at hSw);go_simp;(try with_reducible rfl)
 try simp only [las]
 refine wpAnyH_done (by kernel_rfl) ?_ _
 have x0:=V14.c0 2 rfl;have x1:=V14.c1 2 rfl;have x2:=V14.c2 2 rfl
 have y0:=V14.c0 1 rfl;have y1:=V14.c1 1 rfl;have y2:=V14.c2 1 rfl
 go_wp2_with fail
 refine (V14.cmp 2 1 rfl rfl HC.out).mono ?_
 rintro e wc ⟨rfl,Vc⟩
 clear V14 x0 x1 x2 y0 y1 y2
 go_wp2_with fail
 have Vd:=Vc.drew
 clear Vc
 refine wp_region_held_drew (S:=(fun w'=>w'.cell? ⟨bX,0,none⟩=some (.bool zs)∧w'.cell? ⟨bX,1,none⟩=some (.slice p n c)∧w'.cell? ⟨bX,2,none⟩=some (.slice p' n' c')∧w'.cell? ⟨bY,0,none⟩=some (.bool us)∧w'.cell? ⟨bY,1,none⟩=some (.slice q m d)∧w'.cell? ⟨bY,2,none⟩=some (.slice q' m' d'))) (by kernel_rfl) ?_ (fun hHeld=>?_)
 · exact HS.out _ _ _ _ _ Vd
 refine tkH (i:=0) (v:=?_) rfl (by kernel_rfl) (fun _ _ _ h=>h) (Or.inl ⟨by rfl,?_⟩) (by assumption) ?_
 rotate_left
 · intro w hSw;(try dsimp only at hSw);go_simp;(try with_reducible rfl)
 try simp only [las]
 refine tkH (i:=1) (v:=?_) rfl (by kernel_rfl) (fun _ _ _ h=>h) (Or.inl ⟨by rfl,?_⟩) (by assumption) ?_
 rotate_left
 · intro w hSw;(try dsimp only at hSw);go_simp;(try with_reducible rfl)
 try simp only [las]
 refine tkH (i:=2) (v:=?_) rfl (by kernel_rfl) (fun _ _ _ h=>h) (Or.inl ⟨by rfl,?_⟩) (by assumption) ?_
 rotate_left
 · intro w hSw;(try dsimp only at hSw);go_simp;(try with_reducible rfl)
 try simp only [las]
 refine tkH (i:=3) (v:=?_) rfl (by kernel_rfl) (fun _ _ _ h=>h) (Or.inl ⟨by rfl,?_⟩) (by assumption) ?_
 rotate_left
 · intro w hSw;(try dsimp only at hSw);go_simp;(try with_reducible rfl)
 try simp only [las]
 refine tkH (i:=5) (v:=?_) rfl (by kernel_rfl) (fun _ _ _ h=>h) (Or.inl ⟨by rfl,?_⟩) (by assumption) ?_
 rotate_left
 · intro w hSw;(try dsimp only at hSw);go_simp;(try with_reducible rfl)
 try simp only [las]
 refine wpAnyH_ready (rs:=[4]) (by kernel_rfl) (by simp) ?_
 refine AllReadyH.cons (o:=_) rfl (fun K hK=>?_) AllReadyH.nil
 go_simp
 go_at_call 126;refine (Vd.sub 1 2 rfl rfl Hge.out HNN.out).mono ?_;rintro e wa4 ⟨a4,n4,c4,rfl,V4⟩;clear Vd
 refine hK.out _ _ ?_ (fun hHeld=>?_)
 · exact HS.out _ _ _ _ _ ‹_›
 clear hK K
 try simp only [las]
 refine wpAnyH_ready (rs:=[6]) (by kernel_rfl) (by simp) ?_
 refine AllReadyH.cons (o:=_) rfl (fun K hK=>?_) AllReadyH.nil
 go_simp
 go_at_call 55;refine (HM.out _ _ _ (V4.num 0 _ _ rfl).1 (V4.num 1 _ _ rfl).1).mono ?_;rintro e wa6 ⟨v6,rfl,hq,hb⟩;have V6:=(V4.below hb).qcons hq;obtain ⟨a5,n5,c5,a6,n6,c6,rfl,-,-⟩:=hq;obtain ⟨ys,hys⟩:∃ y,decide (X.num < 0)=y:=⟨_,rfl⟩;rw [hys] at V6 ⊢;clear V4 hys hb
 refine hK.out _ _ ?_ (fun hHeld=>?_)
 · exact HS.out _ _ _ _ _ ‹_›
 clear hK K
 try simp only [las]
 refine wpAnyH_ready (rs:=[7]) (by kernel_rfl) (by simp) ?_
 refine AllReadyH.cons (o:=_) rfl (fun K hK=>?_) AllReadyH.nil
 have HF:=Lib.hid (V6.finq 0 0 rfl rfl)
 have r0:=V6.c0 0 rfl;have r1:=V6.c1 0 rfl;have r2:=V6.c2 0 rfl
 have f0:=V6.frozen 0 0 rfl;have f1:=V6.frozen 0 1 rfl;have f2:=V6.frozen 0 2 rfl
 have HSl:=Lib.hid (HS.out _ _ _ _ _ V6)
 clear V6
 go_wp2_with fail
 refine hK.out _ _ ?_ (fun hHeld=>?_)
 · exact HSet.out _ _ _ _ HSl.out
 clear hK K
 try simp only [las]
 refine wpAnyH_done (by kernel_rfl) ?_ _
 go_wp2_with fail
 exact bodyPost_ret (res_ref rfl _ _ _ _ _ _ _ _ _ _ rfl HF.out.1) rfl HF.out.2
set_option maxRecDepth 100000 in
set_option maxHeartbeats 8000000 in
theorem rratcmp_pp (x y:Rat) (va vb:Value) (w:World) (ha:RQ w va x) (hb:RQ w vb y) (hx:SzD 200 x) (hy:SzD 200 y) (hzx:decide (x.num < 0)=false) (hzy:decide (y.num < 0)=false) :
 Calls Tryz.prog 93 #[va,vb] w fun e w'=>e=.returned (.int .i64 (cmpQ x y))∧Below w.heap.size w w':=by
 obtain ⟨p,n,c,p',n',c',rfl,h1,h2⟩:=ha
 obtain ⟨q,m,d,q',m',d',rfl,k1,k2⟩:=hb
 have hmk:=cmpQ_pp x y (of_decide_eq_false hzx) (of_decide_eq_false hzy)
 obtain ⟨xd,hxd⟩:∃ D,x.den=D:=⟨_,rfl⟩
 obtain ⟨yd,hyd⟩:∃ D,y.den=D:=⟨_,rfl⟩
 obtain ⟨xn,hxn⟩:∃ D,x.num.natAbs=D:=⟨_,rfl⟩
 obtain ⟨yn,hyn⟩:∃ D,y.num.natAbs=D:=⟨_,rfl⟩
 have hxd0:=x.den_pos;have hyd0:=y.den_pos
 have hx1:=hx.1;have hx2:=hx.2;have hy1:=hy.1;have hy2:=hy.2
 obtain ⟨C,hC⟩:∃ C,cmpQ x y=C:=⟨_,rfl⟩
 rw [hC] at hmk ⊢
 simp only [hxd,hyd,hxn,hyn,hzx,hzy] at h1 h2 k1 k2 hxd0 hyd0 hx1 hx2 hy1 hy2 hmk ⊢
 obtain ⟨M1,hM1⟩:∃ N,xn * yd=N:=⟨_,rfl⟩
 obtain ⟨M2,hM2⟩:∃ N,yn * xd=N:=⟨_,rfl⟩
 have hM19:M1 < 10000^500:=d_mul5 hM1 hx1 hy2 (by omega)
 have hM29:M2 < 10000^500:=d_mul5 hM2 hy1 hx2 (by omega)
 simp only [hM1,hM2] at hmk
 have HM1:=Lib.hid (And.intro hM1 (pow_up _ 900 hM19 (by omega)));have HM2:=Lib.hid (And.intro hM2 (pow_up _ 900 hM29 (by omega)))
 have HC:=Lib.hid hmk
 have V0:=(((((Dq.refl w).cons k2 (pow_up 200 900 hy2 (by omega))).cons k1 (pow_up 200 900 hy1 (by omega))).cons h2 (pow_up 200 900 hx2 (by omega))).cons h1 (pow_up 200 900 hx1 (by omega))).two 34 34 #[.bool false,.slice p n c,.slice p' n' c'] #[.bool false,.slice q m d,.slice q' m' d']
 obtain ⟨bX,hbX⟩:∃ b,w.heap.size=b:=⟨_,rfl⟩
 obtain ⟨bY,hbY⟩:∃ b,bX + 1=b:=⟨_,rfl⟩
 obtain ⟨W0,hW0⟩:∃ W0,(w.alloc (.cells #[.bool false,.slice p n c,.slice p' n' c'] 34)).alloc (.cells #[.bool false,.slice q m d,.slice q' m' d'] 34)=W0:=⟨_,rfl⟩
 rw [hW0] at V0
 simp only [hbX,hbY] at V0
 have HW0:=Lib.hid hW0;have HbX:=Lib.hid hbX;have HbY:=Lib.hid hbY
 have HS:Hid (∀ l q_ r_ W,Dq w [(bY,34,#[.bool false,.slice q m d,.slice q' m' d']),(bX,34,#[.bool false,.slice p n c,.slice p' n' c'])] l q_ r_ W→W.cell? ⟨bX,0,none⟩=some (.bool false)∧W.cell? ⟨bX,1,none⟩=some (.slice p n c)∧W.cell? ⟨bX,2,none⟩=some (.slice p' n' c')∧W.cell? ⟨bY,0,none⟩=some (.bool false)∧W.cell? ⟨bY,1,none⟩=some (.slice q m d)∧W.cell? ⟨bY,2,none⟩=some (.slice q' m' d')):=Lib.hid (fun l q_ r_ W h=>⟨h.c0 1 rfl,h.c1 1 rfl,h.c2 1 rfl,h.c0 0 rfl,h.c1 0 rfl,h.c2 0 rfl⟩)
 clear h1 h2 k1 k2 hx hy hx1 hx2 hy1 hy2 hxd hyd hxn hyn hxd0 hyd0 hW0 hbX hbY hzx hzy hC hmk hM1 hM2 hM19 hM29
 go_enter Tryz.func93,Tryz.ntmps93
 go_wp2_with fail
 simp only [HbX.out,HbY.out,HW0.out]
 have V0d:=V0.drew
 clear V0
 refine wp_region_held_drew (S:=(fun w'=>w'.cell? ⟨bX,0,none⟩=some (.bool false)∧w'.cell? ⟨bX,1,none⟩=some (.slice p n c)∧w'.cell? ⟨bX,2,none⟩=some (.slice p' n' c')∧w'.cell? ⟨bY,0,none⟩=some (.bool false)∧w'.cell? ⟨bY,1,none⟩=some (.slice q m d)∧w'.cell? ⟨bY,2,none⟩=some (.slice q' m' d'))) (by kernel_rfl) ?_ (fun hHeld=>?_)
 · exact HS.out _ _ _ _ V0d
 refine tkH (i:=0) (v:=?_) rfl (by kernel_rfl) (fun _ _ _ h=>h) (Or.inl ⟨by rfl,?_⟩) (by assumption) ?_
 rotate_left
 · intro w hSw;(try dsimp only at hSw);go_simp;(try with_reducible rfl)
 try simp only [las]
 refine tkH (i:=1) (v:=?_) rfl (by kernel_rfl) (fun _ _ _ h=>h) (Or.inl ⟨by rfl,?_⟩) (by assumption) ?_
 rotate_left
 · intro w hSw;(try dsimp only at hSw);go_simp;(try with_reducible rfl)
 try simp only [las]
 refine tkH (i:=2) (v:=?_) rfl (by kernel_rfl) (fun _ _ _ h=>h) (Or.inl ⟨by rfl,?_⟩) (by assumption) ?_
 rotate_left
 · intro w hSw;(try dsimp only at hSw);go_simp;(try with_reducible rfl)
 try simp only [las]
 refine tkH (i:=3) (v:=?_) rfl (by kernel_rfl) (fun _ _ _ h=>h) (Or.inl ⟨by rfl,?_⟩) (by assumption) ?_
 rotate_left
 · intro w hSw;(try dsimp only at hSw);go_simp;(try with_reducible rfl)
 try simp only [las]
 refine tkH (i:=5) (v:=?_) rfl (by kernel_rfl) (fun _ _ _ h=>h) (Or.inl ⟨by rfl,?_⟩) (by assumption) ?_
 rotate_left
 · intro w hSw;(try dsimp only at hSw);go_simp;(try with_reducible rfl)
 try simp only [las]
 refine tkH (i:=6) (v:=?_) rfl (by kernel_rfl) (fun _ _ _ h=>h) (Or.inl ⟨by rfl,?_⟩) (by assumption) ?_
 rotate_left
 · intro w hSw;(try dsimp only at hSw);go_simp;(try with_reducible rfl)
 try simp only [las]
 refine tkH (i:=7) (v:=?_) rfl (by kernel_rfl) (fun _ _ _ h=>h) (Or.inl ⟨by rfl,?_⟩) (by assumption) ?_
 rotate_left
 · intro w hSw;(try dsimp only at hSw);go_simp;(try with_reducible rfl)
 try simp only [las]
 refine tkH (i:=8) (v:=?_) rfl (by kernel_rfl) (fun _ _ _ h=>h) (Or.inl ⟨by rfl,?_⟩) (by assumption) ?_
 rotate_left
 · intro w hSw;(try dsimp only at hSw);go_simp;(try with_reducible rfl)
 try simp only [las]
 refine wpAnyH_ready (rs:=[4]) (by kernel_rfl) (by simp) ?_
 refine AllReadyH.cons (o:=_) rfl (fun K hK=>?_) AllReadyH.nil
 go_simp
 go_at_call 54;refine (V0d.mul 0 3 rfl rfl HM1.out).mono ?_;rintro e wa4 ⟨a4,n4,c4,rfl,V4⟩;clear V0d
 refine hK.out _ _ ?_ (fun hHeld=>?_)
 · exact HS.out _ _ _ _ ‹_›
 clear hK K
 try simp only [las]
 refine wpAnyH_ready (rs:=[9]) (by kernel_rfl) (by simp) ?_
 refine AllReadyH.cons (o:=_) rfl (fun K hK=>?_) AllReadyH.nil
 go_simp
 go_at_call 54;refine (V4.mul 3 2 rfl rfl HM2.out).mono ?_;rintro e wa9 ⟨a9,n9,c9,rfl,V9⟩;clear V4
 refine hK.out _ _ ?_ (fun hHeld=>?_)
 · exact HS.out _ _ _ _ ‹_›
 clear hK K
 try simp only [las]
 refine wpAnyH_ready (rs:=[10]) (by kernel_rfl) (by simp) ?_
 refine AllReadyH.cons (o:=_) rfl (fun K hK=>?_) AllReadyH.nil
 go_simp
 go_at_call 59;refine (V9.cmp 1 0 rfl rfl HC.out).mono ?_;rintro e wa10 ⟨rfl,V10⟩;clear V9
 refine hK.out _ _ ?_ (fun hHeld=>?_)
 · exact HS.out _ _ _ _ ‹_›
 clear hK K
 try simp only [las]
 refine tkH (i:=11) (v:=?_) rfl (by kernel_rfl) (fun _ _ _ h=>h) (Or.inl ⟨by rfl,?_⟩) (by assumption) ?_
 rotate_left
 · intro w hSw;(try dsimp only at hSw);go_simp;(try with_reducible rfl)
 try simp only [las]
 refine wpAnyH_done (by kernel_rfl) ?_ _
 have x0:=V10.c0 1 rfl;have x1:=V10.c1 1 rfl;have x2:=V10.c2 1 rfl
 have HB:=Lib.hid V10.bel
 clear V10
 go_wp2_with fail
 go_ret
 exact ⟨rfl,HB.out⟩
set_option maxRecDepth 100000 in
set_option maxHeartbeats 8000000 in
theorem rratcmp_nn (x y:Rat) (va vb:Value) (w:World) (ha:RQ w va x) (hb:RQ w vb y) (hx:SzD 200 x) (hy:SzD 200 y) (hzx:decide (x.num < 0)=true) (hzy:decide (y.num < 0)=true) :
 Calls Tryz.prog 93 #[va,vb] w fun e w'=>e=.returned (.int .i64 (cmpQ x y))∧Below w.heap.size w w':=by
 obtain ⟨p,n,c,p',n',c',rfl,h1,h2⟩:=ha
 obtain ⟨q,m,d,q',m',d',rfl,k1,k2⟩:=hb
 have hmk:=cmpQ_nn x y (of_decide_eq_true hzx) (of_decide_eq_true hzy)
 obtain ⟨xd,hxd⟩:∃ D,x.den=D:=⟨_,rfl⟩
 obtain ⟨yd,hyd⟩:∃ D,y.den=D:=⟨_,rfl⟩
 obtain ⟨xn,hxn⟩:∃ D,x.num.natAbs=D:=⟨_,rfl⟩
 obtain ⟨yn,hyn⟩:∃ D,y.num.natAbs=D:=⟨_,rfl⟩
 have hxd0:=x.den_pos;have hyd0:=y.den_pos
 have hx1:=hx.1;have hx2:=hx.2;have hy1:=hy.1;have hy2:=hy.2
 obtain ⟨C,hC⟩:∃ C,cmpQ x y=C:=⟨_,rfl⟩
 rw [hC] at hmk ⊢
 simp only [hxd,hyd,hxn,hyn,hzx,hzy] at h1 h2 k1 k2 hxd0 hyd0 hx1 hx2 hy1 hy2 hmk ⊢
 obtain ⟨M1,hM1⟩:∃ N,xn * yd=N:=⟨_,rfl⟩
 obtain ⟨M2,hM2⟩:∃ N,yn * xd=N:=⟨_,rfl⟩
 have hM19:M1 < 10000^500:=d_mul5 hM1 hx1 hy2 (by omega)
 have hM29:M2 < 10000^500:=d_mul5 hM2 hy1 hx2 (by omega)
 simp only [hM1,hM2] at hmk
 have HM1:=Lib.hid (And.intro hM1 (pow_up _ 900 hM19 (by omega)));have HM2:=Lib.hid (And.intro hM2 (pow_up _ 900 hM29 (by omega)))
 obtain ⟨E,hE⟩:∃ E,cmpI M1 M2=E:=⟨_,rfl⟩
 have e4:IntKind.wrap .i64 (-E)=C:=by
  rcases Nat.lt_trichotomy M1 M2 with h | h | h
  · rw [cmpI_lt h] at hE;rw [cmpI_gt h] at hmk;rw [← hE,← hmk];decide
  · subst h;rw [cmpI_eq] at hE hmk;rw [← hE,← hmk];decide
  · rw [cmpI_gt h] at hE;rw [cmpI_lt h] at hmk;rw [← hE,← hmk];decide
 have HC:=Lib.hid hE
 have V0:=(((((Dq.refl w).cons k2 (pow_up 200 900 hy2 (by omega))).cons k1 (pow_up 200 900 hy1 (by omega))).cons h2 (pow_up 200 900 hx2 (by omega))).cons h1 (pow_up 200 900 hx1 (by omega))).two 34 34 #[.bool true,.slice p n c,.slice p' n' c'] #[.bool true,.slice q m d,.slice q' m' d']
 obtain ⟨bX,hbX⟩:∃ b,w.heap.size=b:=⟨_,rfl⟩
 obtain ⟨bY,hbY⟩:∃ b,bX + 1=b:=⟨_,rfl⟩
 obtain ⟨W0,hW0⟩:∃ W0,(w.alloc (.cells #[.bool true,.slice p n c,.slice p' n' c'] 34)).alloc (.cells #[.bool true,.slice q m d,.slice q' m' d'] 34)=W0:=⟨_,rfl⟩
 rw [hW0] at V0
 simp only [hbX,hbY] at V0
 have HW0:=Lib.hid hW0;have HbX:=Lib.hid hbX;have HbY:=Lib.hid hbY
 have HS:Hid (∀ l q_ r_ W,Dq w [(bY,34,#[.bool true,.slice q m d,.slice q' m' d']),(bX,34,#[.bool true,.slice p n c,.slice p' n' c'])] l q_ r_ W→W.cell? ⟨bX,0,none⟩=some (.bool true)∧W.cell? ⟨bX,1,none⟩=some (.slice p n c)∧W.cell? ⟨bX,2,none⟩=some (.slice p' n' c')∧W.cell? ⟨bY,0,none⟩=some (.bool true)∧W.cell? ⟨bY,1,none⟩=some (.slice q m d)∧W.cell? ⟨bY,2,none⟩=some (.slice q' m' d')):=Lib.hid (fun l q_ r_ W h=>⟨h.c0 1 rfl,h.c1 1 rfl,h.c2 1 rfl,h.c0 0 rfl,h.c1 0 rfl,h.c2 0 rfl⟩)
 clear h1 h2 k1 k2 hx hy hx1 hx2 hy1 hy2 hxd hyd hxn hyn hxd0 hyd0 hW0 hbX hbY hzx hzy hC hmk hM1 hM2 hM19 hM29 hE
 go_enter Tryz.func93,Tryz.ntmps93
 go_wp2_with fail
 simp only [HbX.out,HbY.out,HW0.out]
 have V0d:=V0.drew
 clear V0
 refine wp_region_held_drew (S:=(fun w'=>w'.cell? ⟨bX,0,none⟩=some (.bool true)∧w'.cell? ⟨bX,1,none⟩=some (.slice p n c)∧w'.cell? ⟨bX,2,none⟩=some (.slice p' n' c')∧w'.cell? ⟨bY,0,none⟩=some (.bool true)∧w'.cell? ⟨bY,1,none⟩=some (.slice q m d)∧w'.cell? ⟨bY,2,none⟩=some (.slice q' m' d'))) (by kernel_rfl) ?_ (fun hHeld=>?_)
 · exact HS.out _ _ _ _ V0d
 refine tkH (i:=0) (v:=?_) rfl (by kernel_rfl) (fun _ _ _ h=>h) (Or.inl ⟨by rfl,?_⟩) (by assumption) ?_
 rotate_left
 · intro w hSw;(try dsimp only at hSw);go_simp;(try with_reducible rfl)
 try simp only [las]
 refine tkH (i:=1) (v:=?_) rfl (by kernel_rfl) (fun _ _ _ h=>h) (Or.inl ⟨by rfl,?_⟩) (by assumption) ?_
 rotate_left
 · intro w hSw;(try dsimp only at hSw);go_simp;(try with_reducible rfl)
 try simp only [las]
 refine tkH (i:=2) (v:=?_) rfl (by kernel_rfl) (fun _ _ _ h=>h) (Or.inl ⟨by rfl,?_⟩) (by assumption) ?_
 rotate_left
 · intro w hSw;(try dsimp only at hSw);go_simp;(try with_reducible rfl)
 try simp only [las]
 refine tkH (i:=3) (v:=?_) rfl (by kernel_rfl) (fun _ _ _ h=>h) (Or.inl ⟨by rfl,?_⟩) (by assumption) ?_
 rotate_left
 · intro w hSw;(try dsimp only at hSw);go_simp;(try with_reducible rfl)
 try simp only [las]
 refine tkH (i:=5) (v:=?_) rfl (by kernel_rfl) (fun _ _ _ h=>h) (Or.inl ⟨by rfl,?_⟩) (by assumption) ?_
 rotate_left
 · intro w hSw;(try dsimp only at hSw);go_simp;(try with_reducible rfl)
 try simp only [las]
 refine tkH (i:=6) (v:=?_) rfl (by kernel_rfl) (fun _ _ _ h=>h) (Or.inl ⟨by rfl,?_⟩) (by assumption) ?_
 rotate_left
 · intro w hSw;(try dsimp only at hSw);go_simp;(try with_reducible rfl)
 try simp only [las]
 refine tkH (i:=7) (v:=?_) rfl (by kernel_rfl) (fun _ _ _ h=>h) (Or.inl ⟨by rfl,?_⟩) (by assumption) ?_
 rotate_left
 · intro w hSw;(try dsimp only at hSw);go_simp;(try with_reducible rfl)
 try simp only [las]
 refine tkH (i:=8) (v:=?_) rfl (by kernel_rfl) (fun _ _ _ h=>h) (Or.inl ⟨by rfl,?_⟩) (by assumption) ?_
 rotate_left
 · intro w hSw;(try dsimp only at hSw);go_simp;(try with_reducible rfl)
 try simp only [las]
 refine wpAnyH_ready (rs:=[4]) (by kernel_rfl) (by simp) ?_
 refine AllReadyH.cons (o:=_) rfl (fun K hK=>?_) AllReadyH.nil
 go_simp
 go_at_call 54;refine (V0d.mul 0 3 rfl rfl HM1.out).mono ?_;rintro e wa4 ⟨a4,n4,c4,rfl,V4⟩;clear V0d
 refine hK.out _ _ ?_ (fun hHeld=>?_)
 · exact HS.out _ _ _ _ ‹_›
 clear hK K
 try simp only [las]
 refine wpAnyH_ready (rs:=[9]) (by kernel_rfl) (by simp) ?_
 refine AllReadyH.cons (o:=_) rfl (fun K hK=>?_) AllReadyH.nil
 go_simp
 go_at_call 54;refine (V4.mul 3 2 rfl rfl HM2.out).mono ?_;rintro e wa9 ⟨a9,n9,c9,rfl,V9⟩;clear V4
 refine hK.out _ _ ?_ (fun hHeld=>?_)
 · exact HS.out _ _ _ _ ‹_›
 clear hK K
 try simp only [las]
 refine wpAnyH_ready (rs:=[10]) (by kernel_rfl) (by simp) ?_
 refine AllReadyH.cons (o:=_) rfl (fun K hK=>?_) AllReadyH.nil
 go_simp
 go_at_call 59;refine (V9.cmp 1 0 rfl rfl HC.out).mono ?_;rintro e wa10 ⟨rfl,V10⟩;clear V9
 refine hK.out _ _ ?_ (fun hHeld=>?_)
 · exact HS.out _ _ _ _ ‹_›
 clear hK K
 try simp only [las]
 refine tkH (i:=11) (v:=?_) rfl (by kernel_rfl) (fun _ _ _ h=>h) (Or.inl ⟨by rfl,?_⟩) (by assumption) ?_
 rotate_left
 · intro w hSw;(try dsimp only at hSw);go_simp;(try with_reducible rfl)
 try simp only [las]
 refine wpAnyH_done (by kernel_rfl) ?_ _
 have x0:=V10.c0 1 rfl;have x1:=V10.c1 1 rfl;have x2:=V10.c2 1 rfl
 have HB:=Lib.hid V10.bel
 clear V10
 go_wp2_with fail
 go_ret
 exact ⟨rfl,HB.out⟩
end Go.Proofs.YtnhobagjpjcigaaGreatDoor
