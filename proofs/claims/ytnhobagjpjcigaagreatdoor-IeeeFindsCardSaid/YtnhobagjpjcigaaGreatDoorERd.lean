/-
 Law 4: the document's own Decode.
-/
import Derived.Test.YtnhobagjpjcigaaGreatDoorEUnit
import Derived.Test.YtnhobagjpjcigaaGreatDoorEDec
import Derived.Test.YtnhobagjpjcigaaGreatDoorRQb
namespace Go.Proofs.YtnhobagjpjcigaaGreatDoor
open Go.RowKit
set_option linter.unusedVariables false
theorem psz_parts (e m b:Nat):psz e m b=2^m * (b / 2^m % 2^e) + b % 2^m:=by
 unfold psz
 rw [Nat.add_comm e m,Nat.pow_add,Nat.mod_mul]
 omega
theorem inf_parts (e m:Nat):inf e m=2^m * (2^e - 1):=by
 unfold inf
 rw [Nat.mul_sub,Nat.mul_one,Nat.add_comm e m,Nat.pow_add]
theorem psz_cmp (e m b q r:Nat) (hq:b / 2^m % 2^e=q) (hr:b % 2^m=r):(q=2^e - 1∧r≠0∧inf e m < psz e m b)∨(q=2^e - 1∧r=0∧psz e m b=inf e m)∨(q≠2^e - 1∧q < 2^e - 1∧psz e m b < inf e m):=by
 have h1:=psz_parts e m b
 rw [hq,hr] at h1
 have h2:=inf_parts e m
 have h3:r < 2^m:=by rw [← hr];exact Nat.mod_lt _ (Nat.pow_pos (by decide))
 have h4:q < 2^e:=by rw [← hq];exact Nat.mod_lt _ (Nat.pow_pos (by decide))
 by_cases h:q=2^e - 1
 · rw [h,← h2] at h1
   omega
 · refine Or.inr (Or.inr ⟨h,by omega,?_⟩)
   have h5:2^m * (q + 1)≤2^m * (2^e - 1):=Nat.mul_le_mul_left _ (by omega)
   rw [Nat.mul_add,Nat.mul_one] at h5
   omega
theorem vq_up (e m q r F E U:Nat) (z:Bool) (he:2≤e) (hr:r < 2^m) (hF:F=if q=0 then r else 2^m + r) (hE:E=if q=0 then 1 else q) (hU:E=2^(e - 1) - 1 + m + U):vQ e m z (2^m * q + r)=mkRat (sgn z (F * 2^U)) 1:=by
 have h0:un m (2^m * q + r)=F * 2^(E - 1):=by
  rw [un_parts hr,hF,hE]
  by_cases h:q=0
  · simp [h]
  · simp [h]
 have h2:2≤2^(e - 1):=by
  have:2^1≤2^(e - 1):=Nat.pow_le_pow_right (by decide) (by omega)
  exact this
 have h1:E - 1=U + upl e m:=by unfold upl;omega
 unfold vQ
 have hP:(2^upl e m)≠0:=Nat.ne_of_gt (Nat.pow_pos (by decide))
 rw [h0,h1,Nat.pow_add,← Nat.mul_assoc,sgn_mul]
 have:=Rat.mkRat_mul_right (n:=sgn z (F * 2^U)) (d:=1) hP
 rw [Nat.one_mul] at this
 exact this
theorem vq_dn (e m q r F E D:Nat) (z:Bool) (he:2≤e) (hr:r < 2^m) (hF:F=if q=0 then r else 2^m + r) (hE:E=if q=0 then 1 else q) (hD:2^(e - 1) - 1 + m=E + D):vQ e m z (2^m * q + r)=mkRat (sgn z F) (2^D):=by
 have h0:un m (2^m * q + r)=F * 2^(E - 1):=by
  rw [un_parts hr,hF,hE]
  by_cases h:q=0
  · simp [h]
  · simp [h]
 have h2:2≤2^(e - 1):=by
  have:2^1≤2^(e - 1):=Nat.pow_le_pow_right (by decide) (by omega)
  exact this
 have hE1:1≤E:=by rw [hE];split <;> omega
 have h1:upl e m=D + (E - 1):=by unfold upl;omega
 unfold vQ
 have hP:(2^(E - 1))≠0:=Nat.ne_of_gt (Nat.pow_pos (by decide))
 rw [h0,h1,Nat.pow_add,sgn_mul]
 exact Rat.mkRat_mul_right hP
theorem rn_nul (W:World):RN W (.slice none 0 0) 0:=⟨[],rd_nil W,fun d h=>by simp at h,trm_nil,rfl⟩
theorem Dq.dn {w W:World} {bx:List (Nat × TypeId × Array Value)} {l:List (Value × Nat)} {q r:List (Value × Rat)} (h:Dq w bx l q r W) (n:Nat):Dq w bx l q r (W.drewN n):=h.below (bel_dn (Below.refl _ _) n)
theorem Dq.addbox1 {w W:World} {bx:List (Nat × TypeId × Array Value)} {l:List (Value × Nat)} {q r:List (Value × Rat)} (h:Dq w bx l q r W) {b:Nat} {t:TypeId} {cs:Array Value} (hk:Blk W b t cs) (hl:w.heap.size≤b):Dq w ((b,t,cs) :: bx) l q r W :=
 ⟨h.bel,fun k b' t' cs' e=>by
  cases k with
  | zero =>
   simp only [List.getElem?_cons_zero,Option.some.injEq,Prod.mk.injEq] at e
   obtain ⟨rfl,rfl,rfl⟩:=e
   exact ⟨hk,hl⟩
  | succ k=>exact h.box k _ _ _ (by simpa using e),h.num,h.ref,h.rat⟩
def RdIs (k:Int) (x:Rat) (w:World) (E:Ending) (w':World):Prop:=∃ v,E=.returned (.tuple #[v,.int .i64 k])∧RQ w' v x∧Below w.heap.size w w'
theorem gaveQ_rd {k:Int} {x:Rat} {w W:World} {v:Value} (h:GaveQ x w (.returned v) W):RdIs k x w (.returned (.tuple #[v,.int .i64 k])) W:=by
 obtain ⟨v',he,h1,h2⟩:=h
 injection he with he
 exact ⟨v,rfl,by rw [he];exact h1,h2⟩
theorem zero_ret (w W:World) (hB:Below w.heap.size w W) (b n:Nat) (hb:w.heap.size≤b) (hk:Blk W b 34 #[.bool false,.slice none 0 0,.slice none 0 0]) (hn:W.heap.size=n) (cs:Array Value) (t:TypeId) :
 Blk (((set3 W b (.bool false) (.slice none 0 0) (.slice (some ⟨n,0,none⟩) 1 1)).alloc (.cells #[.int .i64 1] 3)).alloc (.cells cs t)) b 34 #[.bool false,.slice none 0 0,.slice (some ⟨n,0,none⟩) 1 1]∧GaveQ 0 w (.returned (.agg #[.bool false,.slice none 0 0,.slice (some ⟨n,0,none⟩) 1 1])) (((set3 W b (.bool false) (.slice none 0 0) (.slice (some ⟨n,0,none⟩) 1 1)).alloc (.cells #[.int .i64 1] 3)).alloc (.cells cs t)):=by
 obtain ⟨X,hX⟩:∃ X,set3 W b (.bool false) (.slice none 0 0) (.slice (some ⟨n,0,none⟩) 1 1)=X:=⟨_,rfl⟩
 have hs:X.heap.size=n:=by
  rw [← hX,← hn]
  show (((W.setCell _ _).setCell _ _).setCell _ _).heap.size=_
  rw [World.size_setCell,World.size_setCell,World.size_setCell]
 have h1:Blk X b 34 #[.bool false,.slice none 0 0,.slice (some ⟨n,0,none⟩) 1 1]:=by rw [← hX];exact blk_setr hk _ _ _
 have h2:Below w.heap.size w X:=by rw [← hX];exact below_set3 hB hb _ _ _
 rw [hX]
 have V:=(((Dq.refl w).below h2).addbox1 h1 hb).lit1.alloc t cs
 rw [hs] at V
 exact ⟨(V.box 1 _ _ _ rfl).1,_,rfl,⟨none,0,0,_,1,1,rfl,rn_nul _,(V.num 0 _ _ rfl).1⟩,V.bel⟩
set_option maxRecDepth 100000 in
set_option maxHeartbeats 8000000 in
theorem rdec_any (e m b:Nat) (he:2≤e) (he2:e≤9) (hm:1≤m) (hm2:m≤52) (hb:b < 18446744073709551616) (w:World):Calls Tryz.prog 92 #[.int .i64 (e:Int),.int .i64 (m:Int),.int .u64 (b:Int)] w (RdIs (pkd e m b) (pnm e m b) w):=by
 have V0:=((Dq.refl w).cons (rn_nul w) (d_pos 900 (by omega) (by omega))).alloc 34 #[.bool false,.slice none 0 0,.slice none 0 0]
 have hMm:0 < 2^m:=Nat.pow_pos (by decide)
 have hEe:0 < 2^e:=Nat.pow_pos (by decide)
 have hM52:2^m≤2^52:=Nat.pow_le_pow_right (by decide) hm2
 have hE9:2^e≤2^9:=Nat.pow_le_pow_right (by decide) he2
 have hH9:2^(e - 1)≤2^8:=Nat.pow_le_pow_right (by decide) (by omega)
 have hH2:2≤2^(e - 1):=by
  have:2^1≤2^(e - 1):=Nat.pow_le_pow_right (by decide) (by omega)
  exact this
 obtain ⟨r,hr⟩:∃ x,b % 2^m=x:=⟨_,rfl⟩
 obtain ⟨q,hq⟩:∃ x,b / 2^m % 2^e=x:=⟨_,rfl⟩
 have hr2:r < 2^m:=by rw [← hr];exact Nat.mod_lt _ hMm
 have hq2:q < 2^e:=by rw [← hq];exact Nat.mod_lt _ hEe
 have hb1:b / 2^m < 18446744073709551616:=Nat.lt_of_le_of_lt (Nat.div_le_self _ _) hb
 have hb2:b / 2^(e + m) < 18446744073709551616:=Nat.lt_of_le_of_lt (Nat.div_le_self _ _) hb
 have a1:=and_low (b:=b) (p:=m) hb (by omega)
 have a2:=and_low (b:=b / 2^m) (p:=e) hb1 (by omega)
 have a3:=and_low (b:=b / 2^(e + m)) (p:=1) hb2 (by omega)
 rw [hr] at a1
 rw [hq] at a2
 rw [show (((2^1:Nat):Int) - 1)=1 from rfl,show 2^1=2 from rfl] at a3
 have d1:=esh_down (x:=b) (p:=m)
 have d2:=esh_down (x:=b) (p:=e + m)
 have s1:=sh_one (p:=m) (by omega)
 have s2:=sh_one (p:=e) (by omega)
 have s3:=sh_one_i (p:=e) (by omega)
 have s4:=sh_one_i (p:=e - 1) (by omega)
 rw [Int.one_mul] at s1 s2 s3 s4
 have o1:=or_add' (x:=r) (y:=2^m) (k:=m) hr2 (Nat.mod_self _) (by omega) (by omega)
 have hng:decide (b / 2^(e + m) % 2=1)=png e m b:=rfl
 have hpz:=psz_parts e m b
 rw [hr,hq] at hpz
 have hcs:=psz_cmp e m b q r hq hr
 obtain ⟨g3,hg3⟩:∃ x,b / 2^(e + m) % 2=x:=⟨_,rfl⟩
 rw [hg3] at a3 hng
 have hneg:((g3:Int) == 1)=png e m b:=by
  rw [← hng]
  by_cases h:g3=1
  · rw [h];rfl
  · rw [decide_eq_false h];simpa using (show ¬ (g3:Int)=1 by omega)
 have hK4:inf e m < psz e m b→pkd e m b=4∧pnm e m b=0:=fun h=>by
  unfold pkd pnm
  rw [if_pos h,if_neg (by omega)]
  exact ⟨rfl,rfl⟩
 have hK3:psz e m b=inf e m→pkd e m b=(if png e m b=true then 3 else 2)∧pnm e m b=0:=fun h=>by
  unfold pkd pnm
  exact ⟨by rw [if_neg (by omega),if_pos h],by rw [if_neg (by omega)]⟩
 have hK1:psz e m b < inf e m→pkd e m b=1∧pnm e m b=vQ e m (png e m b) (2^m * q + r):=fun h=>by
  unfold pkd pnm
  rw [if_neg (by omega),if_neg (by omega),if_pos h,hpz]
  exact ⟨rfl,rfl⟩
 have hUp:∀ U,q≠0→q=2^(e - 1) - 1 + m + U→vQ e m (png e m b) (2^m * q + r)=mkRat (sgn (png e m b) ((2^m + r) * 2^U)) 1:=fun U h0 h1=>vq_up e m q r _ q U _ he hr2 (by rw [if_neg h0]) (by rw [if_neg h0]) h1
 have hDn:∀ D,q≠0→2^(e - 1) - 1 + m=q + D→vQ e m (png e m b) (2^m * q + r)=mkRat (sgn (png e m b) (2^m + r)) (2^D):=fun D h0 h1=>vq_dn e m q r _ q D _ he hr2 (by rw [if_neg h0]) (by rw [if_neg h0]) h1
 have hDz:∀ D,q=0→2^(e - 1) - 1 + m=1 + D→vQ e m (png e m b) (2^m * q + r)=mkRat (sgn (png e m b) r) (2^D):=fun D h0 h1=>vq_dn e m q r _ 1 D _ he hr2 (by rw [if_pos h0]) (by rw [if_pos h0]) h1
 obtain ⟨PK,hPK⟩:∃ x,pkd e m b=x:=⟨_,rfl⟩
 obtain ⟨PN,hPN⟩:∃ x,pnm e m b=x:=⟨_,rfl⟩
 rw [hPK,hPN] at hK4 hK3 hK1
 rw [hPK,hPN]
 obtain ⟨neg,hnn⟩:∃ x,png e m b=x:=⟨_,rfl⟩
 rw [hnn] at hneg hK3 hK1 hUp hDn hDz
 obtain ⟨VQ,hVQ⟩:∃ x,vQ e m neg (2^m * q + r)=x:=⟨_,rfl⟩
 rw [hVQ] at hK1 hUp hDn hDz
 obtain ⟨Mm,hMmE⟩:∃ x,2^m=x:=⟨_,rfl⟩
 obtain ⟨Ee,hEeE⟩:∃ x,2^e=x:=⟨_,rfl⟩
 obtain ⟨Hh,hHhE⟩:∃ x,2^(e - 1)=x:=⟨_,rfl⟩
 have HK4:=Lib.hid hK4;have HK3:=Lib.hid hK3;have HK1:=Lib.hid hK1;have HUp:=Lib.hid hUp;have HDn:=Lib.hid hDn;have HDz:=Lib.hid hDz
 have Hcs:=Lib.hid hcs
 have t1:((m:Int)).toNat=m:=by omega
 have t2:((e:Int)).toNat=e:=by omega
 have t3:((e:Int) + (m:Int)).toNat=e + m:=by omega
 have t4:((e:Int) - 1).toNat=e - 1:=by omega
 obtain ⟨BI,hBI⟩:∃ x:Int,(b:Int)=x:=⟨_,rfl⟩
 obtain ⟨B1,hB1⟩:∃ x:Int,((b / 2^m:Nat):Int)=x:=⟨_,rfl⟩
 obtain ⟨B2,hB2⟩:∃ x:Int,((b / 2^(e + m):Nat):Int)=x:=⟨_,rfl⟩
 obtain ⟨QM,hQM⟩:∃ x:Int,((2^m:Nat):Int)=x:=⟨_,rfl⟩
 obtain ⟨QE,hQE⟩:∃ x:Int,((2^e:Nat):Int)=x:=⟨_,rfl⟩
 obtain ⟨QH,hQH⟩:∃ x:Int,((2^(e - 1):Nat):Int)=x:=⟨_,rfl⟩
 obtain ⟨RI,hRI⟩:∃ x:Int,(r:Int)=x:=⟨_,rfl⟩
 obtain ⟨QI,hQI⟩:∃ x:Int,(q:Int)=x:=⟨_,rfl⟩
 obtain ⟨FI,hFI⟩:∃ x:Int,((2^m + r:Nat):Int)=x:=⟨_,rfl⟩
 rw [hBI,hQM,hRI] at a1
 rw [hB1,hQE,hQI] at a2
 rw [hB2] at a3
 rw [hBI,hB1] at d1
 rw [hBI,hB2] at d2
 rw [hQM] at s1
 rw [hQE] at s2 s3
 rw [hQH] at s4
 rw [hRI,hQM,hFI] at o1
 rw [hBI]
 have kQM:2≤QM∧QM≤4503599627370496:=by
  have:2^1≤2^m:=Nat.pow_le_pow_right (by decide) hm
  omega
 have kQE:4≤QE∧QE≤512:=by
  have:2^2≤2^e:=Nat.pow_le_pow_right (by decide) he
  omega
 have kQH:2≤QH∧QH≤256:=by omega
 have kQI:0≤QI∧QI < 512:=by omega
 have kRI:0≤RI∧RI < 4503599627370496:=by omega
 have kF:2^m + r < 10000^5:=Nat.lt_of_lt_of_le (show 2^m + r < 18446744073709551616 by omega) (by decide)
 have kR:r < 10000^5:=Nat.lt_of_lt_of_le (show r < 18446744073709551616 by omega) (by decide)
 have HF0:=Lib.hid (fun W=>rof_any (2^m + r) (by omega) W)
 have HR0:=Lib.hid (fun W=>rof_any r (by omega) W)
 rw [hFI] at HF0
 rw [hRI] at HR0
 have HkF:=Lib.hid (And.intro kF kR)
 have hEH:2^e=2 * 2^(e - 1):=by
  obtain ⟨k,rfl⟩:∃ k,e=k + 1:=⟨e - 1,by omega⟩
  rw [Nat.pow_succ,Nat.add_sub_cancel,Nat.mul_comm]
 have HI:=Lib.hid (And.intro hQI (And.intro hQE (And.intro hQH (And.intro hRI (And.intro hEH hq2)))))
 have kg3:(0:Int)≤(g3:Int)∧(g3:Int) < 2:=by omega
 obtain ⟨G3,hG3⟩:∃ x:Int,(g3:Int)=x:=⟨_,rfl⟩
 rw [hG3] at a3 hneg kg3
 have kem:=Lib.hid (And.intro he (And.intro he2 (And.intro hm hm2)))
 clear hEH hMm hEe hM52 hE9 hH9 hH2 hr hq hr2 hq2 hb1 hb2 hng hpz hcs hg3 hK4 hK3 hK1 hUp hDn hDz hPK hPN hnn hVQ hBI hB1 hB2 hQM hQE hQH hRI hQI hFI kF kR hG3 hb
 clear hMmE hEeE hHhE Mm Ee Hh
 have kE:(2:Int)≤(e:Int)∧(e:Int)≤9:=by have:=kem.out;omega
 have kM:(1:Int)≤(m:Int)∧(m:Int)≤52:=by have:=kem.out;omega
 clear he he2 hm hm2
 go_enter Tryz.func92,Tryz.ntmps92
 go_wp2_with fail
 go_quiet (fail)
 have V1:=V0.dn nq
 clear V0
 have hsz:((w.alloc (.cells #[.bool false,.slice none 0 0,.slice none 0 0] 34)).drewN nq).heap.size=w.heap.size + 1:=World.size_alloc _ _
 have HZ:=Lib.hid (zero_ret w _ V1.bel w.heap.size _ (Nat.le_refl _) (V1.box 0 _ _ _ rfl).1 hsz #[.bool false,.slice none 0 0,.slice (some ⟨w.heap.size + 1,0,none⟩) 1 1] 34)
 have V2:=V1.lit1
 rw [hsz] at V2
 have V3:=V2.alloc 34 #[.bool false,.slice none 0 0,.slice (some ⟨w.heap.size + 1,0,none⟩) 1 1]
 clear V1 V2 hsz
 cases neg
 · have k3:decide True=true:=rfl
   clear k3
   rcases Hcs.out with ⟨c1,c2,c3⟩ | ⟨c1,c2,c3⟩ | ⟨c1,c2,c3⟩
   · obtain ⟨rfl,rfl⟩:=HK4.out c3
     have g1:(QI == QE - 1)=true:=by have:=HI.out;simp;omega
     have g2:(RI != 0)=true:=by have:=HI.out;simp;omega
     clear c1 c2 c3
     have r0:=V3.c0 0 rfl;have r1:=V3.c1 0 rfl;have r2:=V3.c2 0 rfl
     have u0:=V3.c0 1 rfl;have u1:=V3.c1 1 rfl;have u2:=V3.c2 1 rfl
     have f0:=V3.frozen 1 0 rfl;have f1:=V3.frozen 1 1 rfl;have f2:=V3.frozen 1 2 rfl
     clear V3
     go_wp2_with fail
     exact bodyPost_ret (res_ref2 rfl _ _ _ _ _ _ _ _ _ _ (.int .i64 4) rfl rfl HZ.out.1) rfl (gaveQ_rd HZ.out.2)
   · obtain ⟨rfl,rfl⟩:=HK3.out c3
     have g1:(QI == QE - 1)=true:=by have:=HI.out;simp;omega
     have g2:(RI != 0)=false:=by have:=HI.out;simp;omega
     clear c1 c2 c3
     have r0:=V3.c0 0 rfl;have r1:=V3.c1 0 rfl;have r2:=V3.c2 0 rfl
     have u0:=V3.c0 1 rfl;have u1:=V3.c1 1 rfl;have u2:=V3.c2 1 rfl
     have f0:=V3.frozen 1 0 rfl;have f1:=V3.frozen 1 1 rfl;have f2:=V3.frozen 1 2 rfl
     clear V3
     go_wp2_with fail
     exact bodyPost_ret (res_ref2 rfl _ _ _ _ _ _ _ _ _ _ (.int .i64 2) rfl rfl HZ.out.1) rfl (gaveQ_rd HZ.out.2)
   · obtain ⟨rfl,rfl⟩:=HK1.out c3
     have g1:(QI == QE - 1)=false:=by have:=HI.out;simp;omega
     clear c3
     by_cases h0:q=0
     · obtain rfl:QI=0:=by have:=HI.out;omega
       obtain ⟨D,hD⟩:∃ D,2^(e - 1) - 1 + m=1 + D:=⟨2^(e - 1) - 1 + m - 1,by have:=HI.out;omega⟩
       have hV:=HDz.out D h0 hD
       have HTw:=Lib.hid (fun W=>rtwo_any D (by have:=HI.out;have:=kem.out;omega) W)
       have eD:-(1 - (QH - 1) - (m:Int))=(D:Int):=by have:=HI.out;omega
       have k4:decide (0≤1 - (QH - 1) - (m:Int))=false:=decide_eq_false (by omega)
       have hD4:D≤400:=by have:=HI.out;have:=kem.out;omega
       have HMk:Hid (∀ W va vb,RN W va r→RN W vb (2^D)→Calls Tryz.prog 55 #[.bool false,va,vb] W (GaveQ PN W)):=Lib.hid (fun W va vb h1 h2=>rmake_any PN false r (2^D) va vb W h1 h2 (pow_up 5 900 HkF.out.2 (by omega)) (two_up D 900 (by omega)) (Nat.pow_pos (by decide)) hV)
       have hN9:r < 10000^900:=pow_up 5 900 HkF.out.2 (by omega)
       have hD9:2^D < 10000^900:=two_up D 900 (by omega)
       have HN9:=Lib.hid (And.intro hN9 hD9)
       clear hV h0 c1 c2 hD hD4 hN9 hD9
       go_wp2_with fail
       refine (HR0.out _).mono ?_
       rintro E w4 ⟨v4,rfl,h4,hb⟩
       have V4:=(V3.below hb).cons h4 HN9.out.1
       obtain ⟨x4,y4,z4,rfl,-,-⟩:=rn_form h4
       clear V3 h4 hb
       go_wp2_with fail
       refine (HTw.out _).mono ?_
       rintro E w5 ⟨v5,rfl,h5,hb⟩
       have V5:=(V4.below hb).cons h5 HN9.out.2
       obtain ⟨x5,y5,z5,rfl,-,-⟩:=rn_form h5
       clear V4 h5 hb
       go_wp2_with fail
       refine (HMk.out _ _ _ (V5.num 1 _ _ rfl).1 (V5.num 0 _ _ rfl).1).mono ?_
       rintro E w8 ⟨v8,rfl,hq,hb⟩
       have V8:=(V5.below hb).qcons hq
       clear V5
       obtain ⟨xa,ya,za,xb,yb,zb,rfl,-,-⟩:=hq
       obtain ⟨sg,hsg⟩:∃ y,decide (PN.num < 0)=y:=⟨_,rfl⟩
       rw [hsg] at V8 ⊢
       have HF:=Lib.hid (V8.finq 1 0 rfl rfl)
       have r0:=V8.c0 1 rfl;have r1:=V8.c1 1 rfl;have r2:=V8.c2 1 rfl
       have f0:=V8.frozen 1 0 rfl;have f1:=V8.frozen 1 1 rfl;have f2:=V8.frozen 1 2 rfl
       clear V8 hsg hb
       go_wp2_with fail
       exact bodyPost_ret (res_ref2 rfl _ _ _ _ _ _ _ _ _ _ (.int .i64 1) rfl rfl HF.out.1) rfl (gaveQ_rd HF.out.2)
     · have g4:(QI == 0)=false:=by have:=HI.out;simp;omega
       by_cases hup:(0:Int)≤QI - (QH - 1) - (m:Int)
       · obtain ⟨U,hU⟩:∃ U,q=2^(e - 1) - 1 + m + U:=⟨q - (2^(e - 1) - 1 + m),by have:=HI.out;omega⟩
         have hV:=HUp.out U h0 hU
         have hU4:U≤400:=by have:=HI.out;have:=kem.out;omega
         have HTw:=Lib.hid (fun W=>rtwo_any U hU4 W)
         have eU:QI - (QH - 1) - (m:Int)=(U:Int):=by have:=HI.out;omega
         have hP9:(2^m + r) * 2^U < 10000^900:=pow_up (5 + 500) 900 (d_mul HkF.out.1 (two_up U 500 (by omega))) (by omega)
         have HMk:Hid (∀ W va vb,RN W va ((2^m + r) * 2^U)→RN W vb 1→Calls Tryz.prog 55 #[.bool false,va,vb] W (GaveQ PN W)):=Lib.hid (fun W va vb h1 h2=>rmake_any PN false _ 1 va vb W h1 h2 hP9 (d_pos 900 (by omega) (by omega)) (by omega) hV)
         have HN9:=Lib.hid (And.intro (pow_up 5 900 HkF.out.1 (by omega)) (And.intro (two_up U 900 (by omega)) hP9))
         obtain ⟨F,hF⟩:∃ F,2^m + r=F:=⟨_,rfl⟩
         obtain ⟨TU,hTU⟩:∃ F,2^U=F:=⟨_,rfl⟩
         simp only [hF,hTU] at HMk HN9 HTw HF0
         have UI0:(0:Int)≤(U:Int):=by omega
         clear hV h0 c1 c2 hU hU4 hP9 hF hTU hup
         go_wp2_with fail
         refine (HF0.out _).mono ?_
         rintro E w4 ⟨v4,rfl,h4,hb⟩
         have V4:=(V3.below hb).cons h4 HN9.out.1
         obtain ⟨x4,y4,z4,rfl,-,-⟩:=rn_form h4
         clear V3 h4 hb
         go_wp2_with fail
         refine (HTw.out _).mono ?_
         rintro E w5 ⟨v5,rfl,h5,hb⟩
         have V5:=(V4.below hb).cons h5 HN9.out.2.1
         obtain ⟨x5,y5,z5,rfl,-,-⟩:=rn_form h5
         clear V4 h5 hb
         go_wp2_with fail
         refine (V5.mul 1 0 rfl rfl ⟨rfl,HN9.out.2.2⟩).mono ?_
         rintro E w6 ⟨x6,y6,z6,rfl,V6⟩
         clear V5
         have V7:=V6.lit1
         clear V6
         go_wp2_with fail
         refine (HMk.out _ _ _ (V7.num 1 _ _ rfl).1 (V7.num 0 _ _ rfl).1).mono ?_
         rintro E w8 ⟨v8,rfl,hq,hb⟩
         have V8:=(V7.below hb).qcons hq
         clear V7
         obtain ⟨xa,ya,za,xb,yb,zb,rfl,-,-⟩:=hq
         obtain ⟨sg,hsg⟩:∃ y,decide (PN.num < 0)=y:=⟨_,rfl⟩
         rw [hsg] at V8 ⊢
         have HF:=Lib.hid (V8.finq 1 0 rfl rfl)
         have r0:=V8.c0 1 rfl;have r1:=V8.c1 1 rfl;have r2:=V8.c2 1 rfl
         have f0:=V8.frozen 1 0 rfl;have f1:=V8.frozen 1 1 rfl;have f2:=V8.frozen 1 2 rfl
         clear V8 hsg hb
         go_wp2_with fail
         exact bodyPost_ret (res_ref2 rfl _ _ _ _ _ _ _ _ _ _ (.int .i64 1) rfl rfl HF.out.1) rfl (gaveQ_rd HF.out.2)
       · obtain ⟨D,hD⟩:∃ D,2^(e - 1) - 1 + m=q + D:=⟨2^(e - 1) - 1 + m - q,by have:=HI.out;omega⟩
         have hV:=HDn.out D h0 hD
         have hD4:D≤400:=by have:=HI.out;have:=kem.out;omega
         have HTw:=Lib.hid (fun W=>rtwo_any D hD4 W)
         have eD:-(QI - (QH - 1) - (m:Int))=(D:Int):=by have:=HI.out;omega
         have k4:decide (0≤QI - (QH - 1) - (m:Int))=false:=decide_eq_false hup
         have HMk:Hid (∀ W va vb,RN W va (2^m + r)→RN W vb (2^D)→Calls Tryz.prog 55 #[.bool false,va,vb] W (GaveQ PN W)):=Lib.hid (fun W va vb h1 h2=>rmake_any PN false _ (2^D) va vb W h1 h2 (pow_up 5 900 HkF.out.1 (by omega)) (two_up D 900 (by omega)) (Nat.pow_pos (by decide)) hV)
         have HN9:=Lib.hid (And.intro (pow_up 5 900 HkF.out.1 (by omega)) (two_up D 900 (by omega)))
         clear hV h0 c1 c2 hD hD4
         go_wp2_with fail
         refine (HF0.out _).mono ?_
         rintro E w4 ⟨v4,rfl,h4,hb⟩
         have V4:=(V3.below hb).cons h4 HN9.out.1
         obtain ⟨x4,y4,z4,rfl,-,-⟩:=rn_form h4
         clear V3 h4 hb
         go_wp2_with fail
         refine (HTw.out _).mono ?_
         rintro E w5 ⟨v5,rfl,h5,hb⟩
         have V5:=(V4.below hb).cons h5 HN9.out.2
         obtain ⟨x5,y5,z5,rfl,-,-⟩:=rn_form h5
         clear V4 h5 hb
         go_wp2_with fail
         refine (HMk.out _ _ _ (V5.num 1 _ _ rfl).1 (V5.num 0 _ _ rfl).1).mono ?_
         rintro E w8 ⟨v8,rfl,hq,hb⟩
         have V8:=(V5.below hb).qcons hq
         clear V5
         obtain ⟨xa,ya,za,xb,yb,zb,rfl,-,-⟩:=hq
         obtain ⟨sg,hsg⟩:∃ y,decide (PN.num < 0)=y:=⟨_,rfl⟩
         rw [hsg] at V8 ⊢
         have HF:=Lib.hid (V8.finq 1 0 rfl rfl)
         have r0:=V8.c0 1 rfl;have r1:=V8.c1 1 rfl;have r2:=V8.c2 1 rfl
         have f0:=V8.frozen 1 0 rfl;have f1:=V8.frozen 1 1 rfl;have f2:=V8.frozen 1 2 rfl
         clear V8 hsg hb
         go_wp2_with fail
         exact bodyPost_ret (res_ref2 rfl _ _ _ _ _ _ _ _ _ _ (.int .i64 1) rfl rfl HF.out.1) rfl (gaveQ_rd HF.out.2)
 · have k3:decide True=true:=rfl
   clear k3
   rcases Hcs.out with ⟨c1,c2,c3⟩ | ⟨c1,c2,c3⟩ | ⟨c1,c2,c3⟩
   · obtain ⟨rfl,rfl⟩:=HK4.out c3
     have g1:(QI == QE - 1)=true:=by have:=HI.out;simp;omega
     have g2:(RI != 0)=true:=by have:=HI.out;simp;omega
     clear c1 c2 c3
     have r0:=V3.c0 0 rfl;have r1:=V3.c1 0 rfl;have r2:=V3.c2 0 rfl
     have u0:=V3.c0 1 rfl;have u1:=V3.c1 1 rfl;have u2:=V3.c2 1 rfl
     have f0:=V3.frozen 1 0 rfl;have f1:=V3.frozen 1 1 rfl;have f2:=V3.frozen 1 2 rfl
     clear V3
     go_wp2_with fail
     exact bodyPost_ret (res_ref2 rfl _ _ _ _ _ _ _ _ _ _ (.int .i64 4) rfl rfl HZ.out.1) rfl (gaveQ_rd HZ.out.2)
   · obtain ⟨rfl,rfl⟩:=HK3.out c3
     have g1:(QI == QE - 1)=true:=by have:=HI.out;simp;omega
     have g2:(RI != 0)=false:=by have:=HI.out;simp;omega
     clear c1 c2 c3
     have r0:=V3.c0 0 rfl;have r1:=V3.c1 0 rfl;have r2:=V3.c2 0 rfl
     have u0:=V3.c0 1 rfl;have u1:=V3.c1 1 rfl;have u2:=V3.c2 1 rfl
     have f0:=V3.frozen 1 0 rfl;have f1:=V3.frozen 1 1 rfl;have f2:=V3.frozen 1 2 rfl
     clear V3
     go_wp2_with fail
     exact bodyPost_ret (res_ref2 rfl _ _ _ _ _ _ _ _ _ _ (.int .i64 3) rfl rfl HZ.out.1) rfl (gaveQ_rd HZ.out.2)
   · obtain ⟨rfl,rfl⟩:=HK1.out c3
     have g1:(QI == QE - 1)=false:=by have:=HI.out;simp;omega
     clear c3
     by_cases h0:q=0
     · obtain rfl:QI=0:=by have:=HI.out;omega
       obtain ⟨D,hD⟩:∃ D,2^(e - 1) - 1 + m=1 + D:=⟨2^(e - 1) - 1 + m - 1,by have:=HI.out;omega⟩
       have hV:=HDz.out D h0 hD
       have HTw:=Lib.hid (fun W=>rtwo_any D (by have:=HI.out;have:=kem.out;omega) W)
       have eD:-(1 - (QH - 1) - (m:Int))=(D:Int):=by have:=HI.out;omega
       have k4:decide (0≤1 - (QH - 1) - (m:Int))=false:=decide_eq_false (by omega)
       have hD4:D≤400:=by have:=HI.out;have:=kem.out;omega
       have HMk:Hid (∀ W va vb,RN W va r→RN W vb (2^D)→Calls Tryz.prog 55 #[.bool true,va,vb] W (GaveQ PN W)):=Lib.hid (fun W va vb h1 h2=>rmake_any PN true r (2^D) va vb W h1 h2 (pow_up 5 900 HkF.out.2 (by omega)) (two_up D 900 (by omega)) (Nat.pow_pos (by decide)) hV)
       have hN9:r < 10000^900:=pow_up 5 900 HkF.out.2 (by omega)
       have hD9:2^D < 10000^900:=two_up D 900 (by omega)
       have HN9:=Lib.hid (And.intro hN9 hD9)
       clear hV h0 c1 c2 hD hD4 hN9 hD9
       go_wp2_with fail
       refine (HR0.out _).mono ?_
       rintro E w4 ⟨v4,rfl,h4,hb⟩
       have V4:=(V3.below hb).cons h4 HN9.out.1
       obtain ⟨x4,y4,z4,rfl,-,-⟩:=rn_form h4
       clear V3 h4 hb
       go_wp2_with fail
       refine (HTw.out _).mono ?_
       rintro E w5 ⟨v5,rfl,h5,hb⟩
       have V5:=(V4.below hb).cons h5 HN9.out.2
       obtain ⟨x5,y5,z5,rfl,-,-⟩:=rn_form h5
       clear V4 h5 hb
       go_wp2_with fail
       refine (HMk.out _ _ _ (V5.num 1 _ _ rfl).1 (V5.num 0 _ _ rfl).1).mono ?_
       rintro E w8 ⟨v8,rfl,hq,hb⟩
       have V8:=(V5.below hb).qcons hq
       clear V5
       obtain ⟨xa,ya,za,xb,yb,zb,rfl,-,-⟩:=hq
       obtain ⟨sg,hsg⟩:∃ y,decide (PN.num < 0)=y:=⟨_,rfl⟩
       rw [hsg] at V8 ⊢
       have HF:=Lib.hid (V8.finq 1 0 rfl rfl)
       have r0:=V8.c0 1 rfl;have r1:=V8.c1 1 rfl;have r2:=V8.c2 1 rfl
       have f0:=V8.frozen 1 0 rfl;have f1:=V8.frozen 1 1 rfl;have f2:=V8.frozen 1 2 rfl
       clear V8 hsg hb
       go_wp2_with fail
       exact bodyPost_ret (res_ref2 rfl _ _ _ _ _ _ _ _ _ _ (.int .i64 1) rfl rfl HF.out.1) rfl (gaveQ_rd HF.out.2)
     · have g4:(QI == 0)=false:=by have:=HI.out;simp;omega
       by_cases hup:(0:Int)≤QI - (QH - 1) - (m:Int)
       · obtain ⟨U,hU⟩:∃ U,q=2^(e - 1) - 1 + m + U:=⟨q - (2^(e - 1) - 1 + m),by have:=HI.out;omega⟩
         have hV:=HUp.out U h0 hU
         have hU4:U≤400:=by have:=HI.out;have:=kem.out;omega
         have HTw:=Lib.hid (fun W=>rtwo_any U hU4 W)
         have eU:QI - (QH - 1) - (m:Int)=(U:Int):=by have:=HI.out;omega
         have hP9:(2^m + r) * 2^U < 10000^900:=pow_up (5 + 500) 900 (d_mul HkF.out.1 (two_up U 500 (by omega))) (by omega)
         have HMk:Hid (∀ W va vb,RN W va ((2^m + r) * 2^U)→RN W vb 1→Calls Tryz.prog 55 #[.bool true,va,vb] W (GaveQ PN W)):=Lib.hid (fun W va vb h1 h2=>rmake_any PN true _ 1 va vb W h1 h2 hP9 (d_pos 900 (by omega) (by omega)) (by omega) hV)
         have HN9:=Lib.hid (And.intro (pow_up 5 900 HkF.out.1 (by omega)) (And.intro (two_up U 900 (by omega)) hP9))
         obtain ⟨F,hF⟩:∃ F,2^m + r=F:=⟨_,rfl⟩
         obtain ⟨TU,hTU⟩:∃ F,2^U=F:=⟨_,rfl⟩
         simp only [hF,hTU] at HMk HN9 HTw HF0
         have UI0:(0:Int)≤(U:Int):=by omega
         clear hV h0 c1 c2 hU hU4 hP9 hF hTU hup
         go_wp2_with fail
         refine (HF0.out _).mono ?_
         rintro E w4 ⟨v4,rfl,h4,hb⟩
         have V4:=(V3.below hb).cons h4 HN9.out.1
         obtain ⟨x4,y4,z4,rfl,-,-⟩:=rn_form h4
         clear V3 h4 hb
         go_wp2_with fail
         refine (HTw.out _).mono ?_
         rintro E w5 ⟨v5,rfl,h5,hb⟩
         have V5:=(V4.below hb).cons h5 HN9.out.2.1
         obtain ⟨x5,y5,z5,rfl,-,-⟩:=rn_form h5
         clear V4 h5 hb
         go_wp2_with fail
         refine (V5.mul 1 0 rfl rfl ⟨rfl,HN9.out.2.2⟩).mono ?_
         rintro E w6 ⟨x6,y6,z6,rfl,V6⟩
         clear V5
         have V7:=V6.lit1
         clear V6
         go_wp2_with fail
         refine (HMk.out _ _ _ (V7.num 1 _ _ rfl).1 (V7.num 0 _ _ rfl).1).mono ?_
         rintro E w8 ⟨v8,rfl,hq,hb⟩
         have V8:=(V7.below hb).qcons hq
         clear V7
         obtain ⟨xa,ya,za,xb,yb,zb,rfl,-,-⟩:=hq
         obtain ⟨sg,hsg⟩:∃ y,decide (PN.num < 0)=y:=⟨_,rfl⟩
         rw [hsg] at V8 ⊢
         have HF:=Lib.hid (V8.finq 1 0 rfl rfl)
         have r0:=V8.c0 1 rfl;have r1:=V8.c1 1 rfl;have r2:=V8.c2 1 rfl
         have f0:=V8.frozen 1 0 rfl;have f1:=V8.frozen 1 1 rfl;have f2:=V8.frozen 1 2 rfl
         clear V8 hsg hb
         go_wp2_with fail
         exact bodyPost_ret (res_ref2 rfl _ _ _ _ _ _ _ _ _ _ (.int .i64 1) rfl rfl HF.out.1) rfl (gaveQ_rd HF.out.2)
       · obtain ⟨D,hD⟩:∃ D,2^(e - 1) - 1 + m=q + D:=⟨2^(e - 1) - 1 + m - q,by have:=HI.out;omega⟩
         have hV:=HDn.out D h0 hD
         have hD4:D≤400:=by have:=HI.out;have:=kem.out;omega
         have HTw:=Lib.hid (fun W=>rtwo_any D hD4 W)
         have eD:-(QI - (QH - 1) - (m:Int))=(D:Int):=by have:=HI.out;omega
         have k4:decide (0≤QI - (QH - 1) - (m:Int))=false:=decide_eq_false hup
         have HMk:Hid (∀ W va vb,RN W va (2^m + r)→RN W vb (2^D)→Calls Tryz.prog 55 #[.bool true,va,vb] W (GaveQ PN W)):=Lib.hid (fun W va vb h1 h2=>rmake_any PN true _ (2^D) va vb W h1 h2 (pow_up 5 900 HkF.out.1 (by omega)) (two_up D 900 (by omega)) (Nat.pow_pos (by decide)) hV)
         have HN9:=Lib.hid (And.intro (pow_up 5 900 HkF.out.1 (by omega)) (two_up D 900 (by omega)))
         clear hV h0 c1 c2 hD hD4
         go_wp2_with fail
         refine (HF0.out _).mono ?_
         rintro E w4 ⟨v4,rfl,h4,hb⟩
         have V4:=(V3.below hb).cons h4 HN9.out.1
         obtain ⟨x4,y4,z4,rfl,-,-⟩:=rn_form h4
         clear V3 h4 hb
         go_wp2_with fail
         refine (HTw.out _).mono ?_
         rintro E w5 ⟨v5,rfl,h5,hb⟩
         have V5:=(V4.below hb).cons h5 HN9.out.2
         obtain ⟨x5,y5,z5,rfl,-,-⟩:=rn_form h5
         clear V4 h5 hb
         go_wp2_with fail
         refine (HMk.out _ _ _ (V5.num 1 _ _ rfl).1 (V5.num 0 _ _ rfl).1).mono ?_
         rintro E w8 ⟨v8,rfl,hq,hb⟩
         have V8:=(V5.below hb).qcons hq
         clear V5
         obtain ⟨xa,ya,za,xb,yb,zb,rfl,-,-⟩:=hq
         obtain ⟨sg,hsg⟩:∃ y,decide (PN.num < 0)=y:=⟨_,rfl⟩
         rw [hsg] at V8 ⊢
         have HF:=Lib.hid (V8.finq 1 0 rfl rfl)
         have r0:=V8.c0 1 rfl;have r1:=V8.c1 1 rfl;have r2:=V8.c2 1 rfl
         have f0:=V8.frozen 1 0 rfl;have f1:=V8.frozen 1 1 rfl;have f2:=V8.frozen 1 2 rfl
         clear V8 hsg hb
         go_wp2_with fail
         exact bodyPost_ret (res_ref2 rfl _ _ _ _ _ _ _ _ _ _ (.int .i64 1) rfl rfl HF.out.1) rfl (gaveQ_rd HF.out.2)
end Go.Proofs.YtnhobagjpjcigaaGreatDoor
