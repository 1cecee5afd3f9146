/-
 Law 2: the document's own fractions: Minus, Floor, Ceil, Round.
-/
import Derived.Test.YtnhobagjpjcigaaGreatDoorRQd
namespace Go.Proofs.YtnhobagjpjcigaaGreatDoor
open Go.RowKit
set_option linter.unusedVariables false
theorem szd_neg {k:Nat} {x:Rat} (h:SzD k x):SzD k (-x):=⟨by rw [Rat.neg_num,Int.natAbs_neg];exact h.1,h.2⟩
theorem szd_mk {k:Nat} {n:Int} {d:Nat} (hd:d≠0) (h1:n.natAbs < 10000^k) (h2:d < 10000^k):SzD k (mkRat n d):=by
 obtain ⟨p1,p2,_⟩:=norm_parts n d hd
 exact ⟨by rw [p1];exact Nat.lt_of_le_of_lt (Nat.div_le_self _ _) h1,by rw [p2];exact Nat.lt_of_le_of_lt (Nat.div_le_self _ _) h2⟩
theorem szd_add {j k:Nat} {x y:Rat} (hx:SzD j x) (hy:SzD k y):SzD (j + k + 1) (x + y):=by
 rw [Rat.add_def']
 refine szd_mk (Nat.mul_ne_zero x.den_nz y.den_nz) ?_ (pow_up _ _ (d_mul hx.2 hy.2) (by omega))
 refine Nat.lt_of_le_of_lt (Int.natAbs_add_le _ _) ?_
 rw [Int.natAbs_mul,Int.natAbs_mul]
 refine d_add (d_mul hx.1 hy.2) ?_
 rw [Nat.add_comm]
 exact d_mul hy.1 hx.2
set_option maxRecDepth 100000 in
set_option maxHeartbeats 4000000 in
theorem rminus_any (x:Rat) (va:Value) (w:World) (ha:RQ w va x) (hx:SzD 800 x):Calls Tryz.prog 95 #[va] w (GaveQ (-x) w):=by
 obtain ⟨p,n,c,p',n',c',rfl,h1,h2⟩:=ha
 have hmk:=neg_mk x
 have hx1:x.num.natAbs < 10000^900:=pow_up 800 900 hx.1 (by omega)
 have hx2:x.den < 10000^900:=pow_up 800 900 hx.2 (by omega)
 obtain ⟨zs,hz⟩:∃ z,decide (x.num < 0)=z:=⟨_,rfl⟩
 rw [hz] at hmk ⊢
 have HM:Hid (∀ W va vb,RN W va x.num.natAbs→RN W vb x.den→Calls Tryz.prog 55 #[.bool (!zs),va,vb] W (GaveQ (-x) W)):=Lib.hid (fun W va vb h1 h2=>rmake_any (-x) _ _ _ va vb W h1 h2 hx1 hx2 x.den_pos hmk)
 have V:=(((Dq.refl w).cons h2 hx2).cons h1 hx1).two 34 34 #[.bool zs,.slice p n c,.slice p' n' c'] #[.bool false,.slice none 0 0,.slice none 0 0]
 have x0:=V.c0 1 rfl;have x1:=V.c1 1 rfl;have x2:=V.c2 1 rfl
 clear h1 h2 hx hx1 hx2 hmk hz
 go_enter Tryz.func95,Tryz.ntmps95
 go_wp2_with fail
 refine (HM.out _ _ _ (V.num 0 _ _ rfl).1 (V.num 1 _ _ rfl).1).mono ?_
 rintro e w2 ⟨v2,rfl,hq,hb⟩
 have V2:=(V.below hb).qcons hq
 clear V hb x0 x1 x2
 obtain ⟨a5,n5,c5,a6,n6,c6,rfl,-,-⟩:=hq
 obtain ⟨ys,hys⟩:∃ y,decide ((-x).num < 0)=y:=⟨_,rfl⟩
 rw [hys] at V2 ⊢
 have HF:=Lib.hid (V2.finq 0 0 rfl rfl)
 have r0:=V2.c0 0 rfl;have r1:=V2.c1 0 rfl;have r2:=V2.c2 0 rfl
 have f0:=V2.frozen 0 0 rfl;have f1:=V2.frozen 0 1 rfl;have f2:=V2.frozen 0 2 rfl
 clear V2 hys
 go_wp2_with fail
 exact bodyPost_ret (res_ref rfl _ _ _ _ _ _ _ _ _ _ rfl HF.out.1) rfl HF.out.2
theorem rratadd_big (x y:Rat) (va vb:Value) (w:World) (ha:RQ w va x) (hb:RQ w vb y) (hx:SzD 200 x) (hy:SzD 200 y):Calls Tryz.prog 98 #[va,vb] w (GaveQ (x + y) w):=by
 by_cases h:decide (x.num < 0)=decide (y.num < 0)
 · exact rratadd_same x y va vb w ha hb hx hy h
 · rcases Nat.lt_or_ge (x.num.natAbs * y.den) (y.num.natAbs * x.den) with h2 | h2
   · exact rratadd_lt x y va vb w ha hb hx hy h h2
   · exact rratadd_ge x y va vb w ha hb hx hy h h2
theorem rratadd_any (x y:Rat) (va vb:Value) (w:World) (ha:RQ w va x) (hb:RQ w vb y) (hx:SzD 100 x) (hy:SzD 100 y):Calls Tryz.prog 98 #[va,vb] w (GaveQ (x + y) w) :=
 rratadd_big x y va vb w ha hb (hx.mono (by decide)) (hy.mono (by decide))
set_option maxRecDepth 100000 in
set_option maxHeartbeats 4000000 in
theorem rratcmp_np (x y:Rat) (va vb:Value) (w:World) (ha:RQ w va x) (hb:RQ w vb y) (hzx:decide (x.num < 0)=true) (hzy:decide (y.num < 0)=false):Calls Tryz.prog 93 #[va,vb] w fun e w'=>e=.returned (.int .i64 (cmpQ x y))∧Below w.heap.size w w':=by
 obtain ⟨p,n,c,p',n',c',rfl,h1,h2⟩:=ha
 obtain ⟨q,m,d,q',m',d',rfl,k1,k2⟩:=hb
 rw [cmpQ_np x y (of_decide_eq_true hzx) (of_decide_eq_false hzy),hzx,hzy]
 have V:=(Dq.refl w).two 34 34 #[.bool true,.slice p n c,.slice p' n' c'] #[.bool false,.slice q m d,.slice q' m' d']
 have x0:=V.c0 1 rfl;have x1:=V.c1 1 rfl;have x2:=V.c2 1 rfl
 have y0:=V.c0 0 rfl;have y1:=V.c1 0 rfl;have y2:=V.c2 0 rfl
 have HB:=Lib.hid V.bel
 clear h1 h2 k1 k2 V hzx hzy
 go_enter Tryz.func93,Tryz.ntmps93
 go_wp2_with fail
 go_ret
 exact ⟨rfl,HB.out⟩
set_option maxRecDepth 100000 in
set_option maxHeartbeats 4000000 in
theorem rratcmp_pn (x y:Rat) (va vb:Value) (w:World) (ha:RQ w va x) (hb:RQ w vb y) (hzx:decide (x.num < 0)=false) (hzy:decide (y.num < 0)=true):Calls Tryz.prog 93 #[va,vb] w fun e w'=>e=.returned (.int .i64 (cmpQ x y))∧Below w.heap.size w w':=by
 obtain ⟨p,n,c,p',n',c',rfl,h1,h2⟩:=ha
 obtain ⟨q,m,d,q',m',d',rfl,k1,k2⟩:=hb
 rw [cmpQ_pn x y (of_decide_eq_false hzx) (of_decide_eq_true hzy),hzx,hzy]
 have V:=(Dq.refl w).two 34 34 #[.bool false,.slice p n c,.slice p' n' c'] #[.bool true,.slice q m d,.slice q' m' d']
 have x0:=V.c0 1 rfl;have x1:=V.c1 1 rfl;have x2:=V.c2 1 rfl
 have y0:=V.c0 0 rfl;have y1:=V.c1 0 rfl;have y2:=V.c2 0 rfl
 have HB:=Lib.hid V.bel
 clear h1 h2 k1 k2 V hzx hzy
 go_enter Tryz.func93,Tryz.ntmps93
 go_wp2_with fail
 go_ret
 exact ⟨rfl,HB.out⟩
theorem rratcmp_big (x y:Rat) (va vb:Value) (w:World) (ha:RQ w va x) (hb:RQ w vb y) (hx:SzD 200 x) (hy:SzD 200 y):Calls Tryz.prog 93 #[va,vb] w fun e w'=>e=.returned (.int .i64 (cmpQ x y))∧Below w.heap.size w w':=by
 cases h1:decide (x.num < 0) <;> cases h2:decide (y.num < 0)
 · exact rratcmp_pp x y va vb w ha hb hx hy h1 h2
 · exact rratcmp_pn x y va vb w ha hb h1 h2
 · exact rratcmp_np x y va vb w ha hb h1 h2
 · exact rratcmp_nn x y va vb w ha hb hx hy h1 h2
theorem rratcmp_any (x y:Rat) (va vb:Value) (w:World) (ha:RQ w va x) (hb:RQ w vb y) (hx:SzD 100 x) (hy:SzD 100 y):Calls Tryz.prog 93 #[va,vb] w fun e w'=>e=.returned (.int .i64 (cmpQ x y))∧Below w.heap.size w w' :=
 rratcmp_big x y va vb w ha hb (hx.mono (by decide)) (hy.mono (by decide))
end Go.Proofs.YtnhobagjpjcigaaGreatDoor
