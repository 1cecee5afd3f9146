/-
 Law 4: where a number stands among the finite ones (ieee's find).
-/
import Derived.Test.YtnhobagjpjcigaaGreatDoorEUnit
import Derived.Test.YtnhobagjpjcigaaGreatDoorERs
namespace Go.Proofs.YtnhobagjpjcigaaGreatDoor
open Go.RowKit
set_option linter.unusedVariables false
theorem any_no {P:Program} {ops:Array Oper} {Q:Exit→Act→World→Prop} {i:Nat} {K:Act→World→Prop} {a:Act} {w:World} {oq:Oper} (hi:ops[i]?=some oq) (hg:Region.wanted oq (yielded ops a.tmps)=false) (h:K (a.put oq.dst undef) w):wpOp P ops Q i K a w:=by
 unfold wpOp
 rw [hi]
 simp only [hg,Bool.false_eq_true,if_false]
 exact h
theorem off_at (ad:Addr) (k:Nat):(ad.add k).off=ad.off + k:=by unfold Addr.add;split <;> simp_all
def Off (v:Value) (b:Nat):Prop:=∀ ad n c,v=.agg #[.slice (some ad) n c]→ad.block≠b
theorem off_spot {W:World} {v:Value} {S b:Nat} {z:Bool} {q:Option Addr} {m d:Nat} {q':Option Addr} {m' d':Nat} (h:IsN W v S) (hk:Blk W b 118 #[.int .u64 0,.bool z,.slice q m d,.slice q' m' d']):Off v b:=by
 intro ad n c e hb
 obtain ⟨a',c'',us,he,_,hu',_,_,_,htop,hnil⟩:=h
 rw [e] at he
 have h1:=congrArg (fun v=>match v with | Value.agg xs=>xs[0]? | _=>none) he
 simp at h1
 obtain ⟨rfl,hn',rfl⟩:=h1
 have hne:us≠[]:=fun e=>by have:=(hnil e).1;cases this
 have hpos:=List.length_pos_iff.2 hne
 have key:∀ k,k < us.length→(#[Value.int .u64 0,.bool z,.slice q m d,.slice q' m' d']:Array Value)[ad.off + k]?=some (.int .u64 ((us.getD k 0:Nat):Int)):=fun k hk2=>by
  obtain ⟨ad',hade,hl,hc⟩:=hu' k hk2
  cases hade
  unfold World.cell? at hc
  rw [add_block,hb,show W.heap[b]?=_ from hk] at hc
  simp only at hc
  split at hc
  · cases hc
  · rw [← off_at];exact hc
 have k0:=key 0 hpos
 have hoff:ad.off=0∧us.getD 0 0=0:=by
  rw [Nat.add_zero] at k0
  match h:ad.off with
  | 0 =>
   rw [h] at k0
   simp at k0
   exact ⟨rfl,by simpa using k0.symm⟩
  | 1=>rw [h] at k0;simp at k0
  | 2=>rw [h] at k0;simp at k0
  | 3=>rw [h] at k0;simp at k0
  | k + 4=>rw [h] at k0;simp at k0
 have ht:=htop hne
 by_cases h2:1 < us.length
 · have k1:=key 1 h2
   rw [hoff.1] at k1
   simp at k1
 · have:us.length - 1=0:=by omega
   rw [this] at ht
   exact ht hoff.2
theorem Mq.putN {w W:World} {bx:List (Nat × TypeId × Array Value)} (h:Mq w bx [] [] W) (k i:Nat) {b:Nat} {t:TypeId} {cs:Array Value} (e:bx[k]?=some (b,t,cs)) (hd:∀ (k' b':Nat) (t':TypeId) (cs':Array Value),bx[k']?=some (b',t',cs')→k'≠k→b'≠b) (y:Value) :
 Mq w (bx.set k (b,t,cs.setIfInBounds i y)) [] [] (W.setCell ⟨b,i,none⟩ y):=by
 have hk:=h.box k b t cs e
 refine ⟨h.bel.setCell (p:=⟨b,i,none⟩) hk.2 _,fun k' b' t' cs' e'=>?_,fun j v N e'=>by simp at e',fun j v x e'=>by simp at e'⟩
 by_cases ek:k'=k
 · subst ek
   have hlt:k' < bx.length:=(List.getElem?_eq_some_iff.1 e).1
   rw [List.getElem?_set_self hlt] at e'
   simp only [Option.some.injEq,Prod.mk.injEq] at e'
   obtain ⟨rfl,rfl,rfl⟩:=e'
   exact ⟨hk.1.set_ i _,hk.2⟩
 · rw [List.getElem?_set_ne (Ne.symm ek)] at e'
   have h2:=h.box k' b' t' cs' e'
   exact ⟨h2.1.far (by exact hd k' b' t' cs' e' ek) _,h2.2⟩
theorem Mq.bare {w W:World} {bx:List (Nat × TypeId × Array Value)} {l:List (Value × Nat)} {r:List (Value × Rat)} (h:Mq w bx l r W):Mq w bx [] [] W:=⟨h.bel,h.box,fun j v N e'=>by simp at e',fun j v x e'=>by simp at e'⟩
section
variable {w W:World} {bx:List (Nat × TypeId × Array Value)} {l:List (Value × Nat)} {r:List (Value × Rat)}
theorem Mq.s0 (h:Mq w bx l r W) (k:Nat) {b:Nat} {t:TypeId} {x y z u:Value} (e:bx[k]?=some (b,t,#[x,y,z,u])):W.cell? ⟨b,0,none⟩=some x:=h.cell k 0 e rfl
theorem Mq.s1 (h:Mq w bx l r W) (k:Nat) {b:Nat} {t:TypeId} {x y z u:Value} (e:bx[k]?=some (b,t,#[x,y,z,u])):W.cell? ⟨b,1,none⟩=some y:=h.cell k 1 e rfl
theorem Mq.s2 (h:Mq w bx l r W) (k:Nat) {b:Nat} {t:TypeId} {x y z u:Value} (e:bx[k]?=some (b,t,#[x,y,z,u])):W.cell? ⟨b,2,none⟩=some z:=h.cell k 2 e rfl
theorem Mq.s3 (h:Mq w bx l r W) (k:Nat) {b:Nat} {t:TypeId} {x y z u:Value} (e:bx[k]?=some (b,t,#[x,y,z,u])):W.cell? ⟨b,3,none⟩=some u:=h.cell k 3 e rfl
end
def Sn (W0 W:World) (v:Value):Prop:=∃ b,v=.pointer (some ⟨b,0,none⟩)∧Blk W b 118 #[.int .u64 0,.bool false,.slice none 0 0,.slice none 0 0]∧W0.heap.size≤b
theorem Sn.below {W0 W W':World} {v:Value} (h:Sn W0 W v) (hb:Below W.heap.size W W'):Sn W0 W' v:=by
 obtain ⟨b,h1,h2,h3⟩:=h
 exact ⟨b,h1,h2.below hb h2.lt,h3⟩
def Sp (W:World) (v:Value) (U D:Nat):Prop:=∃ x y z r s t,v=.agg #[.int .u64 0,.bool false,.slice x y z,.slice r s t]∧IsN W (.agg #[.slice x y z]) U∧IsN W (.agg #[.slice r s t]) D
theorem Sp.below {W W':World} {v:Value} {U D:Nat} (h:Sp W v U D) (hb:Below W.heap.size W W'):Sp W' v U D:=by
 obtain ⟨x,y,z,r,s,t,h1,h2,h3⟩:=h
 exact ⟨x,y,z,r,s,t,h1,h2.below hb (Nat.le_refl _),h3.below hb (Nat.le_refl _)⟩
theorem res_spot {fn:Func} {p:Tmp} (h:fn.results=#[.cell p 118]) (tmps:Array Value) (w:World) (g:Nat) (u:Int) (z:Bool) (q:Option Addr) (n c:Nat) (q':Option Addr) (n' c':Nat) (hp:tmps.getD p undef=.pointer (some ⟨g,0,none⟩)) (hg:Blk w g 118 #[.int .u64 u,.bool z,.slice q n c,.slice q' n' c']) :
 (results fn tmps).run Tryz.prog w=.ok (.agg #[.int .u64 u,.bool z,.slice q n c,.slice q' n' c']) w:=results_cell_row h tmps w g 118 #[.int .u64 u,.bool z,.slice q n c,.slice q' n' c'] (0,0) _ hp hg Tryz.underlying118 (by kernel_rfl) (by kernel_rfl)
def SpIs (e m U D:Nat) (w:World) (E:Ending) (w':World):Prop:=∃ s ex p n c p' n' c',E=.returned (.agg #[.int .u64 ((s:Nat):Int),.bool ex,.slice p n c,.slice p' n' c'])∧Spot m (inf e m) (U / D) s∧ex=decide (U % D=0∧un m s=U / D)∧IsN w' (.agg #[.slice p n c]) U∧IsN w' (.agg #[.slice p' n' c']) D∧Below w.heap.size w w'
set_option maxRecDepth 100000 in
set_option maxHeartbeats 16000000 in
theorem find_any (e m:Nat) (x:Rat) (va:Value) (he:2≤e) (he2:e≤11) (hm:1≤m) (hm2:m≤52) (w:World) (ha:IsR w va x) (hx:Sz 40 x):Calls Tryz.prog 86 #[.agg #[.int .i64 (e:Int),.int .i64 (m:Int)],va] w (SpIs e m (x.num.natAbs * 2^upl e m) x.den w):=by
 have hR:=ha
 obtain ⟨p,n,c,p',n',c',rfl,-,-⟩:=ha
 obtain ⟨zs,hz⟩:∃ z,decide (x.num < 0)=z:=⟨_,rfl⟩
 rw [hz] at hR ⊢
 have V0:=((Mq.refl w).rcons hR).three 63 27 118 #[.int .i64 (e:Int),.int .i64 (m:Int)] #[.bool zs,.slice p n c,.slice p' n' c'] #[.int .u64 0,.bool false,.slice none 0 0,.slice none 0 0]
 have hp:e + m≤63:=by omega
 have HNum:Hid (∀ W v,IsR W v x→Calls Tryz.prog 71 #[v] W (GaveV x.num.natAbs W)):=Lib.hid (fun W v h=>num_any x v W h (w_up hx.1 (by omega)))
 have HDen:Hid (∀ W v,IsR W v x→Calls Tryz.prog 68 #[v] W (GaveV x.den W)):=Lib.hid (fun W v h=>den_any x v W h (w_up hx.2 (by omega)))
 have HUp:Hid (∀ W,Calls Tryz.prog 101 #[.agg #[.int .i64 (e:Int),.int .i64 (m:Int)]] W fun E w'=>E=.returned (.int .i64 (upl e m:Int))∧Below W.heap.size W w'):=Lib.hid (fun W=>upl_any e m he hp W)
 have HIn:Hid (∀ W,Calls Tryz.prog 100 #[.agg #[.int .i64 (e:Int),.int .i64 (m:Int)]] W fun E w'=>E=.returned (.int .u64 (inf e m:Int))∧Below W.heap.size W w'):=Lib.hid (fun W=>inf_any e m hp W)
 have hup:upl e m≤1100:=by
  have h1:2^(e - 1)≤2^10:=Nat.pow_le_pow_right (by decide) (by omega)
  unfold upl
  omega
 have h63:2^(e + m)≤2^63:=Nat.pow_le_pow_right (by decide) hp
 have hinf:inf e m < 2^(e + m):=by
  have h0:0 < 2^m:=Nat.pow_pos (by decide)
  have h1:2^m≤2^(e + m):=Nat.pow_le_pow_right (by decide) (by omega)
  unfold inf
  omega
 have hinf0:0 < inf e m:=by
  have h1:2^m < 2^(e + m):=Nat.pow_lt_pow_right (by decide) (by omega)
  unfold inf
  omega
 have HUnits:Hid (∀ s,s < inf e m→∀ W,Calls Tryz.prog 90 #[.agg #[.int .i64 (e:Int),.int .i64 (m:Int)],.int .u64 (s:Int)] W (GaveV (un m s) W)):=Lib.hid (fun s hs W=>units_any e m s he2 hm2 (by omega) W)
 have HUnw:Hid (∀ s,s < inf e m→un m s < 18446744073709551616^100):=Lib.hid (fun s hs=>Nat.lt_of_lt_of_le (un_w he2 hm2 (show s < 2^(e + m) by omega)) (w64_mono (by omega)))
 have hU:x.num.natAbs * 2^upl e m < 18446744073709551616^60:=by
  have h1:2^upl e m < 18446744073709551616^20:=two_lt_w (by omega)
  have h2:18446744073709551616^60=18446744073709551616^40 * 18446744073709551616^20:=by rw [← Nat.pow_add]
  rw [h2]
  exact Nat.mul_lt_mul'' hx.1 h1
 have HSh:Hid (∀ W v,IsN W v x.num.natAbs→Calls Tryz.prog 91 #[v,.int .i64 (upl e m:Int)] W (GaveV (x.num.natAbs * 2^upl e m) W)):=Lib.hid (fun W v h=>nShift _ (upl e m) v _ W h (w_up hx.1 (by omega)) (by omega) rfl)
 have hD:x.den < 18446744073709551616^60:=w_up hx.2 (by omega)
 have hD0:=x.den_pos
 obtain ⟨NU,hNU⟩:∃ N,x.num.natAbs=N:=⟨_,rfl⟩
 rw [hNU] at HNum HSh hU ⊢
 obtain ⟨U,hUe⟩:∃ U,NU * 2^upl e m=U:=⟨_,rfl⟩
 rw [hUe] at HSh hU ⊢
 obtain ⟨D,hDe⟩:∃ N,x.den=N:=⟨_,rfl⟩
 rw [hDe] at HDen hD hD0 ⊢
 obtain ⟨Wh,hWe⟩:∃ N,U / D=N:=⟨_,rfl⟩
 obtain ⟨R,hRe⟩:∃ N,U % D=N:=⟨_,rfl⟩
 have HDv:Hid (∀ W va vb,IsN W va U→IsN W vb D→Calls Tryz.prog 31 #[va,vb] W fun e w'=>∃ x y z x' y' z',e=.returned (.tuple #[.agg #[.slice x y z],.agg #[.slice x' y' z'],.bool true])∧IsN w' (.agg #[.slice x y z]) Wh∧IsN w' (.agg #[.slice x' y' z']) R∧Below W.heap.size W w'):=Lib.hid (fun W va vb h1 h2=>by
  have h:=dvm_tr U D va vb W h1 h2 (q100 8000 (w_up hU (by omega)) (by omega)) hD0
  rw [hWe,hRe] at h
  exact h)
 have hWh:Wh < 18446744073709551616^100:=by rw [← hWe];exact Nat.lt_of_le_of_lt (Nat.div_le_self _ _) (w_up hU (by omega))
 have HCmp:Hid (∀ s,s < inf e m→∀ W va vb,IsN W va (un m s)→IsN W vb Wh→Calls Tryz.prog 74 #[va,vb] W fun E w'=>E=.returned (.int .i64 (cmpI (un m s) Wh))∧Below W.heap.size W w'):=Lib.hid (fun s hs W va vb h1 h2=>cmp_any _ _ va vb W h1 h2)
 have HSpIs:Hid (∀ E w' s ex p n c p' n' c',E=.returned (.agg #[.int .u64 ((s:Nat):Int),.bool ex,.slice p n c,.slice p' n' c'])→Spot m (inf e m) Wh s→ex=decide (R=0∧un m s=Wh)→IsN w' (.agg #[.slice p n c]) U→IsN w' (.agg #[.slice p' n' c']) D→Below w.heap.size w w'→SpIs e m U D w E w'):=Lib.hid (fun E w' s ex p n c p' n' c' h1 h2 h3 h4 h5 h6=>⟨s,ex,p,n,c,p',n',c',h1,by rw [hWe];exact h2,by rw [hWe,hRe];exact h3,h4,h5,h6⟩)
 have HSpt0:=Lib.hid (Spt.start m (inf e m) Wh (e + m) hinf0 (by omega))
 obtain ⟨UP,hUPe⟩:∃ u:Int,(upl e m:Int)=u:=⟨_,rfl⟩
 rw [hUPe] at HUp HSh
 obtain ⟨I,hIe⟩:∃ i,inf e m=i:=⟨_,rfl⟩
 simp only [hIe] at HIn HUnits HUnw HCmp HSpIs HSpt0 hinf hinf0
 obtain ⟨INF,hINF⟩:∃ i:Int,(I:Int)=i:=⟨_,rfl⟩
 rw [hINF] at HIn
 have HINF:=Lib.hid hINF
 have HI:=Lib.hid (And.intro hinf h63)
 obtain ⟨T,hT⟩:∃ T,SpIs e m U D w=T:=⟨_,rfl⟩
 rw [hT] at HSpIs ⊢
 clear hx hz hR hup h63 hinf hinf0 hU hD hD0 hNU hUe hDe hWe hRe hUPe hIe hINF hT hWh hp
 obtain ⟨W0,hW0⟩:∃ W0,((w.alloc (.cells #[.int .i64 (e:Int),.int .i64 (m:Int)] 63)).alloc (.cells #[.bool zs,.slice p n c,.slice p' n' c'] 27)).alloc (.cells #[.int .u64 0,.bool false,.slice none 0 0,.slice none 0 0] 118)=W0:=⟨_,rfl⟩
 rw [hW0] at V0
 go_enter Tryz.func86,Tryz.ntmps86
 go_wp2_with fail
 go_step3
 go_wp2_with fail
 refine wp_region_inv 9 (fun a0 dj a W=>∃ vq0 vq1 vq2 vq3 vq4 vq5 vq6 vq7 vq8:Value,a=puts a0 [(11,vq0),(12,vq1),(13,vq2),(14,vq3),(15,vq4),(16,vq5),(17,vq6),(18,vq7),(5,vq8)]∧Below W0.heap.size W0 W∧(dj 0=true→vq0=.agg #[.bool zs,.slice p n c,.slice p' n' c'])∧(dj 1=true→Nm W vq1 (NU))∧(dj 2=true→vq2=.agg #[.int .i64 (e:Int),.int .i64 (m:Int)])∧(dj 3=true→vq3=.int .i64 UP)∧(dj 4=true→Nm W vq4 (U))∧(dj 5=true→vq5=.agg #[.bool zs,.slice p n c,.slice p' n' c'])∧(dj 6=true→Nm W vq6 (D))∧(dj 7=true→Sp W vq7 U D)∧(dj 8=true→Sn W0 W vq8)) (by kernel_rfl) (by kernel_rfl) (by kernel_rfl) ?_ ?_ ?_ ?_
 · intro dj hcl i hi1 hi2 hd j hj
   have hi2:=Nat.lt_of_lt_of_le hi2 (show _≤10 from of_decide_eq_true (by kernel_rfl))
   obtain rfl:i=9:=by omega
   · have e8:dj 8=true:=hd 8 (by kernel_rfl)
     have e7:dj 7=true:=hd 7 (by kernel_rfl)
     have e6:dj 6=true:=hd 6 (by kernel_rfl)
     have e0:dj 0=true:=hd 0 (by kernel_rfl)
     have e1:dj 1=true:=hd 1 (by kernel_rfl)
     have e2:dj 2=true:=hd 2 (by kernel_rfl)
     have e3:dj 3=true:=hd 3 (by kernel_rfl)
     have e4:dj 4=true:=hd 4 (by kernel_rfl)
     have e5:dj 5=true:=hd 5 (by kernel_rfl)
     obtain rfl | rfl | rfl | rfl | rfl | rfl | rfl | rfl | rfl:j=0∨j=1∨j=2∨j=3∨j=4∨j=5∨j=6∨j=7∨j=8:=by omega
     · exact e0
     · exact e1
     · exact e2
     · exact e3
     · exact e4
     · exact e5
     · exact e6
     · exact e7
     · exact e8
 · refine ⟨undef,undef,undef,undef,undef,undef,undef,undef,undef,(by simp only [pus]),(Below.refl _ _).drew,(fun h=>by cases h),(fun h=>by cases h),(fun h=>by cases h),(fun h=>by cases h),(fun h=>by cases h),(fun h=>by cases h),(fun h=>by cases h),(fun h=>by cases h),(fun h=>by cases h)⟩
 · intro dj a W i hi hdi hcl hdep hI K hK
   obtain ⟨vq0,vq1,vq2,vq3,vq4,vq5,vq6,vq7,vq8,rfl,hB,p0,p1,p2,p3,p4,p5,p6,p7,p8⟩:=hI
   have V:=V0.below hB
   obtain rfl | rfl | rfl | rfl | rfl | rfl | rfl | rfl | rfl:i=0∨i=1∨i=2∨i=3∨i=4∨i=5∨i=6∨i=7∨i=8:=by omega
   · simp only [pus]
     have c0:=V.c0 1 rfl
     have c1:=V.c1 1 rfl
     have c2:=V.c2 1 rfl
     refine any_op (o:=_) rfl rfl ?_
     go_wp2_with fail
     refine hK.out _ _ ?_
     exact ⟨.agg #[.bool zs,.slice p n c,.slice p' n' c'],vq1,vq2,vq3,vq4,vq5,vq6,vq7,vq8,(by simp only [pus]),hB,(fun _=>rfl),p1,p2,p3,p4,p5,p6,p7,p8⟩
   · obtain rfl:=p0 (hdep 0 (by kernel_rfl))
     simp only [pus]
     refine any_op (o:=_) rfl rfl ?_
     have hC:=Lib.hid (HNum.out W _ (V.rat 0 _ _ rfl))
     go_simp
     refine hC.out.mono ?_
     rintro e W2 ⟨x,y,z,rfl,hn,hb⟩
     refine hK.out _ _ ?_
     exact ⟨.agg #[.bool zs,.slice p n c,.slice p' n' c'],.agg #[.slice x y z],vq2,vq3,vq4,vq5,vq6,vq7,vq8,(by simp only [pus]),hB.trans (hb.mono hB.size),(fun _=>rfl),(fun _=>⟨⟨x,y,z,rfl⟩,hn⟩),p2,p3,(fun h=>(p4 h).below hb),p5,(fun h=>(p6 h).below hb),(fun h=>(p7 h).below hb),(fun h=>(p8 h).below hb)⟩
   · simp only [pus]
     have c0:=V.f0 2 rfl
     have c1:=V.f1 2 rfl
     refine any_op (o:=_) rfl rfl ?_
     go_wp2_with fail
     refine hK.out _ _ ?_
     exact ⟨vq0,vq1,.agg #[.int .i64 (e:Int),.int .i64 (m:Int)],vq3,vq4,vq5,vq6,vq7,vq8,(by simp only [pus]),hB,p0,p1,(fun _=>rfl),p3,p4,p5,p6,p7,p8⟩
   · generalize hG:wpOp _ _ _ _ _ _ _=G
     have k1:=p1 (hdep 1 (by kernel_rfl))
     obtain ⟨⟨x1,y1,z1,rfl⟩,n1⟩:=k1
     obtain rfl:=p2 (hdep 2 (by kernel_rfl))
     subst hG
     simp only [pus]
     refine any_op (o:=_) rfl rfl ?_
     have hC:=Lib.hid (HUp.out W)
     go_simp
     refine hC.out.mono ?_
     rintro e W2 ⟨rfl,hb⟩
     refine hK.out _ _ ?_
     exact ⟨vq0,.agg #[.slice x1 y1 z1],.agg #[.int .i64 (e:Int),.int .i64 (m:Int)],.int .i64 UP,vq4,vq5,vq6,vq7,vq8,(by simp only [pus]),hB.trans (hb.mono hB.size),p0,(fun _=>(show Nm _ _ _ from ⟨⟨x1,y1,z1,rfl⟩,n1⟩).below hb),(fun _=>rfl),(fun _=>rfl),(fun h=>(p4 h).below hb),p5,(fun h=>(p6 h).below hb),(fun h=>(p7 h).below hb),(fun h=>(p8 h).below hb)⟩
   · generalize hG:wpOp _ _ _ _ _ _ _=G
     have k1:=p1 (hdep 1 (by kernel_rfl))
     obtain ⟨⟨x1,y1,z1,rfl⟩,n1⟩:=k1
     obtain rfl:=p3 (hdep 3 (by kernel_rfl))
     subst hG
     simp only [pus]
     refine any_op (o:=_) rfl rfl ?_
     have hC:=Lib.hid (HSh.out W _ n1)
     go_simp
     refine hC.out.mono ?_
     rintro e W2 ⟨x,y,z,rfl,hn,hb⟩
     refine hK.out _ _ ?_
     exact ⟨vq0,.agg #[.slice x1 y1 z1],vq2,.int .i64 UP,.agg #[.slice x y z],vq5,vq6,vq7,vq8,(by simp only [pus]),hB.trans (hb.mono hB.size),p0,(fun _=>(show Nm _ _ _ from ⟨⟨x1,y1,z1,rfl⟩,n1⟩).below hb),p2,(fun _=>rfl),(fun _=>⟨⟨x,y,z,rfl⟩,hn⟩),p5,(fun h=>(p6 h).below hb),(fun h=>(p7 h).below hb),(fun h=>(p8 h).below hb)⟩
   · simp only [pus]
     have c0:=V.c0 1 rfl
     have c1:=V.c1 1 rfl
     have c2:=V.c2 1 rfl
     refine any_op (o:=_) rfl rfl ?_
     go_wp2_with fail
     refine hK.out _ _ ?_
     exact ⟨vq0,vq1,vq2,vq3,vq4,.agg #[.bool zs,.slice p n c,.slice p' n' c'],vq6,vq7,vq8,(by simp only [pus]),hB,p0,p1,p2,p3,p4,(fun _=>rfl),p6,p7,p8⟩
   · generalize hG:wpOp _ _ _ _ _ _ _=G
     have k4:=p4 (hdep 4 (by kernel_rfl))
     obtain ⟨⟨x4,y4,z4,rfl⟩,n4⟩:=k4
     obtain rfl:=p5 (hdep 5 (by kernel_rfl))
     subst hG
     simp only [pus]
     refine any_op (o:=_) rfl rfl ?_
     have hC:=Lib.hid (HDen.out W _ (V.rat 0 _ _ rfl))
     go_simp
     refine hC.out.mono ?_
     rintro e W2 ⟨x,y,z,rfl,hn,hb⟩
     refine hK.out _ _ ?_
     exact ⟨vq0,vq1,vq2,vq3,.agg #[.slice x4 y4 z4],.agg #[.bool zs,.slice p n c,.slice p' n' c'],.agg #[.slice x y z],vq7,vq8,(by simp only [pus]),hB.trans (hb.mono hB.size),p0,(fun h=>(p1 h).below hb),p2,p3,(fun _=>(show Nm _ _ _ from ⟨⟨x4,y4,z4,rfl⟩,n4⟩).below hb),(fun _=>rfl),(fun _=>⟨⟨x,y,z,rfl⟩,hn⟩),(fun h=>(p7 h).below hb),(fun h=>(p8 h).below hb)⟩
   · generalize hG:wpOp _ _ _ _ _ _ _=G
     have k4:=p4 (hdep 4 (by kernel_rfl))
     obtain ⟨⟨x4,y4,z4,rfl⟩,n4⟩:=k4
     have k6:=p6 (hdep 6 (by kernel_rfl))
     obtain ⟨⟨x6,y6,z6,rfl⟩,n6⟩:=k6
     subst hG
     simp only [pus]
     refine any_op (o:=_) rfl rfl ?_
     go_wp2_with fail
     refine hK.out _ _ ?_
     exact ⟨vq0,vq1,vq2,vq3,.agg #[.slice x4 y4 z4],vq5,.agg #[.slice x6 y6 z6],.agg #[.int .u64 0,.bool false,.slice x4 y4 z4,.slice x6 y6 z6],vq8,(by simp only [pus]),hB,p0,p1,p2,p3,(fun _=>⟨⟨x4,y4,z4,rfl⟩,n4⟩),p5,(fun _=>⟨⟨x6,y6,z6,rfl⟩,n6⟩),(fun _=>⟨x4,y4,z4,x6,y6,z6,rfl,n4,n6⟩),p8⟩
   · simp only [pus]
     refine any_op (o:=_) rfl rfl ?_
     have hb:=below_lit W (.cells #[.int .u64 0,.bool false,.slice none 0 0,.slice none 0 0] 118)
     have hnb:Sn W0 (W.alloc (.cells #[.int .u64 0,.bool false,.slice none 0 0,.slice none 0 0] 118)) (.pointer (some ⟨W.heap.size,0,none⟩)):=⟨_,rfl,Blk.new W _ _,hB.size⟩
     go_wp2_with fail
     refine hK.out _ _ ?_
     exact ⟨vq0,vq1,vq2,vq3,vq4,vq5,vq6,vq7,.pointer (some ⟨W.heap.size,0,none⟩),(by simp only [pus]),hB.trans (hb.mono hB.size),p0,(fun h=>(p1 h).below hb),p2,p3,(fun h=>(p4 h).below hb),p5,(fun h=>(p6 h).below hb),(fun h=>(p7 h).below hb),(fun _=>hnb)⟩
 · intro dj a W hd hI
   obtain ⟨vq0,vq1,vq2,vq3,vq4,vq5,vq6,vq7,vq8,rfl,hB,p0,p1,p2,p3,p4,p5,p6,p7,p8⟩:=hI
   have V:=V0.below hB
   obtain rfl:=p0 (hd 0 (by omega))
   obtain ⟨⟨xq1,yq1,zq1,rfl⟩,nq1⟩:=p1 (hd 1 (by omega))
   obtain rfl:=p2 (hd 2 (by omega))
   obtain rfl:=p3 (hd 3 (by omega))
   obtain ⟨⟨xq4,yq4,zq4,rfl⟩,nq4⟩:=p4 (hd 4 (by omega))
   obtain rfl:=p5 (hd 5 (by omega))
   obtain ⟨⟨xq6,yq6,zq6,rfl⟩,nq6⟩:=p6 (hd 6 (by omega))
   obtain ⟨xq7,yq7,zq7,rq7,sq7,tq7,rfl,nq7,oq7⟩:=p7 (hd 7 (by omega))
   obtain ⟨bq8,rfl,kq8,lq8⟩:=p8 (hd 8 (by omega))
   clear hd p0 p1 p2 p3 p4 p5 p6 p7 p8 dj
   simp only [pus]
   show wpAny Tryz.prog .any _ _ 1 #[true,true,true,true,true,true,true,true,true,false] _ _
   have V2:=(V.bare).addbox kq8 (Nat.le_trans V0.bel.size lq8)
   obtain ⟨b8,hb8⟩:∃ b,bq8=b:=⟨_,rfl⟩
   subst hb8
   have hne8:w.heap.size < bq8∧w.heap.size + 1 < bq8∧w.heap.size + 1 + 1 < bq8:=by
    have:=(V0.box 0 _ _ _ rfl).1.lt
    omega
   have oU:=off_spot nq7 kq8
   have oD:=off_spot oq7 kq8
   have c0:=V2.s0 0 rfl;have c1:=V2.s1 0 rfl;have c2:=V2.s2 0 rfl;have c3:=V2.s3 0 rfl
   have f0:=V2.frozen 0 0 rfl;have f1:=V2.frozen 0 1 rfl;have f2:=V2.frozen 0 2 rfl;have f3:=V2.frozen 0 3 rfl
   have hdst:∀ (cs cs2:Array Value) (k' b':Nat) (t':TypeId) (cs':Array Value),[(bq8,118,cs),(w.heap.size + 1 + 1,118,cs2),(w.heap.size + 1,27,#[.bool zs,.slice p n c,.slice p' n' c']),(w.heap.size,63,#[.int .i64 (e:Int),.int .i64 (m:Int)])][k']?=some (b',t',cs')→k'≠0→b'≠bq8:=fun cs cs2 k' b' t' cs' e hne=>by
    match k' with
    | 0=>exact absurd rfl hne
    | 1=>simp at e;omega
    | 2=>simp at e;omega
    | 3=>simp at e;omega
    | k + 4=>simp at e
   have V3:=(((V2.putN 0 0 rfl (hdst _ _) (.int .u64 0)).putN 0 1 rfl (hdst _ _) (.bool false)).putN 0 2 rfl (hdst _ _) (.slice xq7 yq7 zq7)).putN 0 3 rfl (hdst _ _) (.slice rq7 sq7 tq7)
   have nU:=isN_put (i:=3) (x:=.slice rq7 sq7 tq7) (isN_put (i:=2) (x:=.slice xq7 yq7 zq7) (isN_put (i:=1) (x:=.bool false) (isN_put (i:=0) (x:=.int .u64 0) nq7 oU) oU) oU) oU
   have nD:=isN_put (i:=3) (x:=.slice rq7 sq7 tq7) (isN_put (i:=2) (x:=.slice xq7 yq7 zq7) (isN_put (i:=1) (x:=.bool false) (isN_put (i:=0) (x:=.int .u64 0) oq7 oD) oD) oD) oD
   clear V V0 V2 hdst nq1 nq4 nq6 nq7 oq7 kq8 lq8 hB hW0
   refine wpAny_of_held (S:=fun _=>True) _ _ _ _ ?_
   refine wpAnyH_ready (rs:=[9]) (by kernel_rfl) (by simp) ?_
   refine AllReadyH.cons (o:=_) rfl (fun K hK=>?_) AllReadyH.nil
   go_simp
   refine hK.out _ _ trivial (fun _=>?_)
   clear hK K
   try simp only [las]
   refine wpAnyH_done (by kernel_rfl) ?_ _
   clear c0 c1 c2 c3 f0 f1 f2 f3
   have V3':Mq w [(bq8,118,#[.int .u64 0,.bool false,.slice xq7 yq7 zq7,.slice rq7 sq7 tq7]),(w.heap.size + 1 + 1,118,#[.int .u64 0,.bool false,.slice none 0 0,.slice none 0 0]),(w.heap.size + 1,27,#[.bool zs,.slice p n c,.slice p' n' c']),(w.heap.size,63,#[.int .i64 (e:Int),.int .i64 (m:Int)])] [] [] _:=V3
   clear V3
   have q2:=V3'.s2 0 rfl;have q3:=V3'.s3 0 rfl
   go_wp2_with fail
   refine (HDv.out _ _ _ nU nD).mono ?_
   rintro ε W5 ⟨xw,yw,zw,xr,yr,zr,rfl,iW,iR,hb⟩
   have V4:=V3'.below hb
   have nU5:=nU.below hb (Nat.le_refl _)
   have nD5:=nD.below hb (Nat.le_refl _)
   have k0:=(V4.box 0 _ _ _ rfl).1
   have k1:=(V4.box 1 _ _ _ rfl).1
   have oo:Hid ((Off (.agg #[.slice xq7 yq7 zq7]) bq8∧Off (.agg #[.slice rq7 sq7 tq7]) bq8∧Off (.agg #[.slice xw yw zw]) bq8∧Off (.agg #[.slice xr yr zr]) bq8)∧(Off (.agg #[.slice xq7 yq7 zq7]) (w.heap.size + 1 + 1)∧Off (.agg #[.slice rq7 sq7 tq7]) (w.heap.size + 1 + 1))):=Lib.hid ⟨⟨oU,oD,off_spot iW k0,off_spot iR k0⟩,off_spot nU5 k1,off_spot nD5 k1⟩
   have hlt5:bq8 < W5.heap.size:=k0.lt
   have V5:=V4.two 25 25 #[.slice xw yw zw] #[.slice xr yr zr]
   have hb6:=((Mq.refl W5).two 25 25 #[.slice xw yw zw] #[.slice xr yr zr]).bel
   have HV5:=Lib.hid V5
   have HN5:=Lib.hid (And.intro (And.intro (nU5.below hb6 (Nat.le_refl _)) (nD5.below hb6 (Nat.le_refl _))) (And.intro (iW.below hb6 (Nat.le_refl _)) (iR.below hb6 (Nat.le_refl _))))
   have q0:=V5.f0 5 rfl;have q1:=V5.f1 5 rfl
   clear V3' V4 V5 nU nD nU5 nD5 iW iR hb hb6 k0 k1 oU oD q2 q3
   have hdst:∀ (cs:Array Value) (k' b':Nat) (t':TypeId) (cs':Array Value),[(W5.heap.size + 1,25,#[Value.slice xr yr zr]),(W5.heap.size,25,#[.slice xw yw zw]),(bq8,118,cs),(w.heap.size + 1 + 1,118,#[.int .u64 0,.bool false,.slice none 0 0,.slice none 0 0]),(w.heap.size + 1,27,#[.bool zs,.slice p n c,.slice p' n' c']),(w.heap.size,63,#[.int .i64 (e:Int),.int .i64 (m:Int)])][k']?=some (b',t',cs')→k'≠2→b'≠bq8:=fun cs k' b' t' cs' e hne=>by
    match k' with
    | 0=>simp at e;omega
    | 1=>simp at e;omega
    | 2=>exact absurd rfl hne
    | 3=>simp at e;omega
    | 4=>simp at e;omega
    | 5=>simp at e;omega
    | k + 6=>simp at e
   have Hdst:=Lib.hid hdst
   clear hdst hlt5 hne8
   go_wp2_with fail
   refine wp_label ?_
   go_wp2_with fail
   go_loopw [9] (fun bv wr=>∃ (k:Nat) (z:Int) (s:Nat) (SI:Int),k≤e + m∧z=(k:Int) - 1∧bv=.int .i64 z∧Hid ((s:Int)=SI∧Spt m I Wh k s)∧Hid (Mq w [(W5.heap.size + 1,25,#[.slice xr yr zr]),(W5.heap.size,25,#[.slice xw yw zw]),(bq8,118,#[.int .u64 SI,.bool false,.slice xq7 yq7 zq7,.slice rq7 sq7 tq7]),(w.heap.size + 1 + 1,118,#[.int .u64 0,.bool false,.slice none 0 0,.slice none 0 0]),(w.heap.size + 1,27,#[.bool zs,.slice p n c,.slice p' n' c']),(w.heap.size,63,#[.int .i64 (e:Int),.int .i64 (m:Int)])] [] [] wr)∧Hid ((IsN wr (.agg #[.slice xq7 yq7 zq7]) U∧IsN wr (.agg #[.slice rq7 sq7 tq7]) D)∧(IsN wr (.agg #[.slice xw yw zw]) Wh∧IsN wr (.agg #[.slice xr yr zr]) R))) (fun bv _=>(intOf bv + 1).toNat)
   case atStart=>exact ⟨e + m,_,0,0,Nat.le_refl _,by omega,rfl,Lib.hid ⟨rfl,HSpt0.out⟩,HV5,HN5⟩
   case round =>
    clear HV5 HN5 HSpt0 q0 q1 HNum HDen HUp HSh HDv
    obtain ⟨k,z,s,SI,hk,hz,rfl,hS,hV,hN⟩:=hrel
    cases k with
    | zero =>
     have hz0:z < 0:=by omega
     have hsp:=hS.out.2.done
     have hsl:=hsp.lt
     have hSI:=hS.out.1
     have V1:=hV.out
     obtain ⟨⟨nU,nD⟩,hWh,hRe⟩:=hN.out
     obtain ⟨⟨oU,oD,-,-⟩,pU,pD⟩:=oo.out
     have Hsp:=Lib.hid hsp
     have HUn:Hid (∀ W,Calls Tryz.prog 90 #[.agg #[.int .i64 (e:Int),.int .i64 (m:Int)],.int .u64 SI] W (GaveV (un m s) W)):=Lib.hid (fun W=>by rw [← hSI];exact HUnits.out s hsl W)
     have HC0:=Lib.hid (HCmp.out s hsl)
     have hg:=cmpI_zero (un m s) Wh
     obtain ⟨UNs,hUN⟩:∃ x,un m s=x:=⟨_,rfl⟩
     rw [hUN] at HUn HC0 hg
     obtain ⟨C,hC⟩:∃ x,cmpI UNs Wh=x:=⟨_,rfl⟩
     have HC:Hid (∀ W va vb,IsN W va UNs→IsN W vb Wh→Calls Tryz.prog 74 #[va,vb] W fun E w'=>E=.returned (.int .i64 C)∧Below W.heap.size W w'):=Lib.hid (by rw [← hC];exact HC0.out)
     rw [hC] at hg
     obtain ⟨g,hgg⟩:∃ x,decide (UNs=Wh)=x:=⟨_,rfl⟩
     rw [hgg] at hg
     have HSI:=Lib.hid hSI;have HUN:=Lib.hid hUN;have Hgg:=Lib.hid hgg
     clear hS hV hN hsp hsl hSI hk hz hC hUN hgg oo HC0 HCmp HUnits HUnw
     by_cases hR0:R=0
     · have HZ:Hid (∀ W v,IsN W v R→Calls Tryz.prog 32 #[v] W fun E w'=>E=.returned (.bool true)∧Below W.heap.size W w'):=Lib.hid (fun W v h=>(zero_any R v W h).mono fun E w' h'=>by
        obtain ⟨⟨h0,h1⟩ | ⟨h0,h1⟩,h2⟩:=h'
        · exact ⟨h1,h2⟩
        · exact absurd hR0 h0)
       have HR:=Lib.hid hR0
       clear hR0
       go_wp2_with fail
       refine wp_region_inv 11 (fun a0 dj a W=>∃ vy0 vy1 vy2 vy3 vy4 vy5 vy6 vy7 vy8 vy9 vy10:Value,a=puts a0 [(57,vy0),(58,vy1),(59,vy2),(60,vy3),(61,vy4),(62,vy5),(63,vy6),(64,vy7),(65,vy8),(66,vy9),(67,vy10)]∧Below wr.heap.size wr W∧(dj 0=true→vy0=.agg #[.slice xr yr zr])∧(dj 1=true→vy1=.bool true)∧(dj 2=true→vy2=.bool true)∧(dj 3=true→vy3=.agg #[.int .i64 (e:Int),.int .i64 (m:Int)])∧(dj 4=true→vy4=.pointer (some ⟨bq8,0,none⟩))∧(dj 5=true→vy5=.int .u64 SI)∧(dj 6=true→Nm W vy6 (UNs))∧(dj 7=true→vy7=.agg #[.slice xw yw zw])∧(dj 8=true→vy8=.int .i64 C)∧(dj 9=true→vy9=.bool g)∧(dj 10=true→vy10=.bool g)) (by kernel_rfl) (by kernel_rfl) (by kernel_rfl) ?_ ?_ ?_ ?_
       · intro dj hcl i hi1 hi2 hd j hj
         have hi2:=Nat.lt_of_lt_of_le hi2 (show _≤13 from of_decide_eq_true (by kernel_rfl))
         obtain rfl | rfl:i=11∨i=12:=by omega
         · have e0:dj 0=true:=hd 0 (by kernel_rfl)
           have e1:dj 1=true:=hd 1 (by kernel_rfl)
           have e2:dj 2=true:=hd 2 (by kernel_rfl)
           have e3:dj 3=true:=hd 3 (by kernel_rfl)
           have e4:dj 4=true:=hd 4 (by kernel_rfl)
           have e5:dj 5=true:=hd 5 (by kernel_rfl)
           have e6:dj 6=true:=hd 6 (by kernel_rfl)
           have e7:dj 7=true:=hd 7 (by kernel_rfl)
           have e8:dj 8=true:=hd 8 (by kernel_rfl)
           have e9:dj 9=true:=hd 9 (by kernel_rfl)
           have e10:dj 10=true:=hd 10 (by kernel_rfl)
           obtain rfl | rfl | rfl | rfl | rfl | rfl | rfl | rfl | rfl | rfl | rfl:j=0∨j=1∨j=2∨j=3∨j=4∨j=5∨j=6∨j=7∨j=8∨j=9∨j=10:=by omega
           · exact e0
           · exact e1
           · exact e2
           · exact e3
           · exact e4
           · exact e5
           · exact e6
           · exact e7
           · exact e8
           · exact e9
           · exact e10
         · have e11:dj 11=true:=hd 11 (by kernel_rfl)
           have e10:dj 10=true:=hd 10 (by kernel_rfl)
           have e8:dj 8=true:=hd 8 (by kernel_rfl)
           have e0:dj 0=true:=hd 0 (by kernel_rfl)
           have e1:dj 1=true:=hd 1 (by kernel_rfl)
           have e2:dj 2=true:=hd 2 (by kernel_rfl)
           have e3:dj 3=true:=hd 3 (by kernel_rfl)
           have e4:dj 4=true:=hd 4 (by kernel_rfl)
           have e5:dj 5=true:=hd 5 (by kernel_rfl)
           have e6:dj 6=true:=hd 6 (by kernel_rfl)
           have e7:dj 7=true:=hd 7 (by kernel_rfl)
           have e9:dj 9=true:=hd 9 (by kernel_rfl)
           obtain rfl | rfl | rfl | rfl | rfl | rfl | rfl | rfl | rfl | rfl | rfl:j=0∨j=1∨j=2∨j=3∨j=4∨j=5∨j=6∨j=7∨j=8∨j=9∨j=10:=by omega
           · exact e0
           · exact e1
           · exact e2
           · exact e3
           · exact e4
           · exact e5
           · exact e6
           · exact e7
           · exact e8
           · exact e9
           · exact e10
       · refine ⟨undef,undef,undef,undef,undef,undef,undef,undef,undef,undef,undef,(by simp only [pus]),(Below.refl _ _).drew,(fun h=>by cases h),(fun h=>by cases h),(fun h=>by cases h),(fun h=>by cases h),(fun h=>by cases h),(fun h=>by cases h),(fun h=>by cases h),(fun h=>by cases h),(fun h=>by cases h),(fun h=>by cases h),(fun h=>by cases h)⟩
       · intro dj a W i hi hdi hcl hdep hI K hK
         obtain ⟨vy0,vy1,vy2,vy3,vy4,vy5,vy6,vy7,vy8,vy9,vy10,rfl,hB,p0,p1,p2,p3,p4,p5,p6,p7,p8,p9,p10⟩:=hI
         have V:=V1.below hB
         obtain rfl | rfl | rfl | rfl | rfl | rfl | rfl | rfl | rfl | rfl | rfl:i=0∨i=1∨i=2∨i=3∨i=4∨i=5∨i=6∨i=7∨i=8∨i=9∨i=10:=by omega
         · simp only [pus]
           have c0:=V.n0 0 rfl
           refine any_op (o:=_) rfl rfl ?_
           go_wp2_with fail
           refine hK.out _ _ ?_
           exact ⟨.agg #[.slice xr yr zr],vy1,vy2,vy3,vy4,vy5,vy6,vy7,vy8,vy9,vy10,(by simp only [pus]),hB,(fun _=>rfl),p1,p2,p3,p4,p5,p6,p7,p8,p9,p10⟩
         · obtain rfl:=p0 (hdep 0 (by kernel_rfl))
           simp only [pus]
           refine any_op (o:=_) rfl rfl ?_
           have hC:=Lib.hid (HZ.out W _ (hRe.below hB (Nat.le_refl _)))
           go_simp
           refine hC.out.mono ?_
           rintro e W2 ⟨rfl,hb⟩
           refine hK.out _ _ ?_
           exact ⟨.agg #[.slice xr yr zr],.bool true,vy2,vy3,vy4,vy5,vy6,vy7,vy8,vy9,vy10,(by simp only [pus]),hB.trans (hb.mono hB.size),(fun _=>rfl),(fun _=>rfl),p2,p3,p4,p5,(fun h=>(p6 h).below hb),p7,p8,p9,p10⟩
         · obtain rfl:=p1 (hdep 1 (by kernel_rfl))
           simp only [pus]
           refine any_op (o:=_) rfl rfl ?_
           go_wp2_with fail
           refine hK.out _ _ ?_
           exact ⟨vy0,.bool true,.bool true,vy3,vy4,vy5,vy6,vy7,vy8,vy9,vy10,(by simp only [pus]),hB,p0,(fun _=>rfl),(fun _=>rfl),p3,p4,p5,p6,p7,p8,p9,p10⟩
         · obtain rfl:=p2 (hdep 2 (by kernel_rfl))
           simp only [pus]
           have c0:=V.f0 5 rfl
           have c1:=V.f1 5 rfl
           refine any_opg (o:=_) rfl (by kernel_rfl) ?_
           go_wp2_with fail
           refine hK.out _ _ ?_
           exact ⟨vy0,vy1,.bool true,.agg #[.int .i64 (e:Int),.int .i64 (m:Int)],vy4,vy5,vy6,vy7,vy8,vy9,vy10,(by simp only [pus]),hB,p0,p1,(fun _=>rfl),(fun _=>rfl),p4,p5,p6,p7,p8,p9,p10⟩
         · obtain rfl:=p2 (hdep 2 (by kernel_rfl))
           simp only [pus]
           refine any_opg (o:=_) rfl (by kernel_rfl) ?_
           go_wp2_with fail
           refine hK.out _ _ ?_
           exact ⟨vy0,vy1,.bool true,vy3,.pointer (some ⟨bq8,0,none⟩),vy5,vy6,vy7,vy8,vy9,vy10,(by simp only [pus]),hB,p0,p1,(fun _=>rfl),p3,(fun _=>rfl),p5,p6,p7,p8,p9,p10⟩
         · obtain rfl:=p2 (hdep 2 (by kernel_rfl))
           obtain rfl:=p4 (hdep 4 (by kernel_rfl))
           simp only [pus]
           have c0:=V.s0 2 rfl
           refine any_opg (o:=_) rfl (by kernel_rfl) ?_
           go_wp2_with fail
           refine hK.out _ _ ?_
           exact ⟨vy0,vy1,.bool true,vy3,.pointer (some ⟨bq8,0,none⟩),.int .u64 SI,vy6,vy7,vy8,vy9,vy10,(by simp only [pus]),hB,p0,p1,(fun _=>rfl),p3,(fun _=>rfl),(fun _=>rfl),p6,p7,p8,p9,p10⟩
         · obtain rfl:=p2 (hdep 2 (by kernel_rfl))
           obtain rfl:=p3 (hdep 3 (by kernel_rfl))
           obtain rfl:=p5 (hdep 5 (by kernel_rfl))
           simp only [pus]
           refine any_opg (o:=_) rfl (by kernel_rfl) ?_
           have hC:=Lib.hid (HUn.out W)
           go_simp
           refine hC.out.mono ?_
           rintro e W2 ⟨x,y,z,rfl,hn,hb⟩
           refine hK.out _ _ ?_
           exact ⟨vy0,vy1,.bool true,.agg #[.int .i64 (e:Int),.int .i64 (m:Int)],vy4,.int .u64 SI,.agg #[.slice x y z],vy7,vy8,vy9,vy10,(by simp only [pus]),hB.trans (hb.mono hB.size),p0,p1,(fun _=>rfl),(fun _=>rfl),p4,(fun _=>rfl),(fun _=>⟨⟨x,y,z,rfl⟩,hn⟩),p7,p8,p9,p10⟩
         · obtain rfl:=p2 (hdep 2 (by kernel_rfl))
           simp only [pus]
           have c0:=V.n0 1 rfl
           refine any_opg (o:=_) rfl (by kernel_rfl) ?_
           go_wp2_with fail
           refine hK.out _ _ ?_
           exact ⟨vy0,vy1,.bool true,vy3,vy4,vy5,vy6,.agg #[.slice xw yw zw],vy8,vy9,vy10,(by simp only [pus]),hB,p0,p1,(fun _=>rfl),p3,p4,p5,p6,(fun _=>rfl),p8,p9,p10⟩
         · generalize hG:wpOp _ _ _ _ _ _ _=G
           obtain rfl:=p2 (hdep 2 (by kernel_rfl))
           have k6:=p6 (hdep 6 (by kernel_rfl))
           obtain ⟨⟨x6,y6,z6,rfl⟩,n6⟩:=k6
           obtain rfl:=p7 (hdep 7 (by kernel_rfl))
           subst hG
           simp only [pus]
           refine any_opg (o:=_) rfl (by kernel_rfl) ?_
           have hC:=Lib.hid (HC.out W _ _ n6 (hWh.below hB (Nat.le_refl _)))
           go_simp
           refine hC.out.mono ?_
           rintro e W2 ⟨rfl,hb⟩
           refine hK.out _ _ ?_
           exact ⟨vy0,vy1,.bool true,vy3,vy4,vy5,.agg #[.slice x6 y6 z6],.agg #[.slice xw yw zw],.int .i64 C,vy9,vy10,(by simp only [pus]),hB.trans (hb.mono hB.size),p0,p1,(fun _=>rfl),p3,p4,p5,(fun _=>(show Nm _ _ _ from ⟨⟨x6,y6,z6,rfl⟩,n6⟩).below hb),(fun _=>rfl),(fun _=>rfl),p9,p10⟩
         · obtain rfl:=p2 (hdep 2 (by kernel_rfl))
           obtain rfl:=p8 (hdep 8 (by kernel_rfl))
           simp only [pus]
           refine any_opg (o:=_) rfl (by kernel_rfl) ?_
           go_wp2_with fail
           refine hK.out _ _ ?_
           exact ⟨vy0,vy1,.bool true,vy3,vy4,vy5,vy6,vy7,.int .i64 C,.bool g,vy10,(by simp only [pus]),hB,p0,p1,(fun _=>rfl),p3,p4,p5,p6,p7,(fun _=>rfl),(fun _=>rfl),p10⟩
         · obtain rfl:=p2 (hdep 2 (by kernel_rfl))
           obtain rfl:=p9 (hdep 9 (by kernel_rfl))
           simp only [pus]
           refine any_op (o:=_) rfl rfl ?_
           go_wp2_with fail
           refine hK.out _ _ ?_
           exact ⟨vy0,vy1,.bool true,vy3,vy4,vy5,vy6,vy7,vy8,.bool g,.bool g,(by simp only [pus]),hB,p0,p1,(fun _=>rfl),p3,p4,p5,p6,p7,p8,(fun _=>rfl),(fun _=>rfl)⟩
       · intro dj a W hd hI
         obtain ⟨vy0,vy1,vy2,vy3,vy4,vy5,vy6,vy7,vy8,vy9,vy10,rfl,hB,p0,p1,p2,p3,p4,p5,p6,p7,p8,p9,p10⟩:=hI
         have V:=V1.below hB
         obtain rfl:=p0 (hd 0 (by omega))
         obtain rfl:=p1 (hd 1 (by omega))
         obtain rfl:=p2 (hd 2 (by omega))
         obtain rfl:=p3 (hd 3 (by omega))
         obtain rfl:=p4 (hd 4 (by omega))
         obtain rfl:=p5 (hd 5 (by omega))
         obtain ⟨⟨xy6,yy6,zy6,rfl⟩,ny6⟩:=p6 (hd 6 (by omega))
         obtain rfl:=p7 (hd 7 (by omega))
         obtain rfl:=p8 (hd 8 (by omega))
         obtain rfl:=p9 (hd 9 (by omega))
         obtain rfl:=p10 (hd 10 (by omega))
         clear hd p0 p1 p2 p3 p4 p5 p6 p7 p8 p9 p10 dj
         simp only [pus]
         show wpAny Tryz.prog .any _ _ 2 #[true,true,true,true,true,true,true,true,true,true,true,false,false] _ _
         have V2:Mq w [(W5.heap.size + 1,25,#[.slice xr yr zr]),(W5.heap.size,25,#[.slice xw yw zw]),(bq8,118,#[.int .u64 SI,.bool false,.slice xq7 yq7 zq7,.slice rq7 sq7 tq7]),(w.heap.size + 1 + 1,118,#[.int .u64 0,.bool false,.slice none 0 0,.slice none 0 0]),(w.heap.size + 1,27,#[.bool zs,.slice p n c,.slice p' n' c']),(w.heap.size,63,#[.int .i64 (e:Int),.int .i64 (m:Int)])] [] [] W:=V
         have c1:=V2.s1 2 rfl;have f1:=V2.frozen 2 1 rfl
         have V3:Mq w [(W5.heap.size + 1,25,#[.slice xr yr zr]),(W5.heap.size,25,#[.slice xw yw zw]),(bq8,118,#[.int .u64 SI,.bool g,.slice xq7 yq7 zq7,.slice rq7 sq7 tq7]),(w.heap.size + 1 + 1,118,#[.int .u64 0,.bool false,.slice none 0 0,.slice none 0 0]),(w.heap.size + 1,27,#[.bool zs,.slice p n c,.slice p' n' c']),(w.heap.size,63,#[.int .i64 (e:Int),.int .i64 (m:Int)])] [] [] _:=V2.putN 2 1 rfl (Hdst.out _) (.bool g)
         have mU:=isN_put (i:=1) (x:=.bool g) (nU.below hB (Nat.le_refl _)) oU
         have mD:=isN_put (i:=1) (x:=.bool g) (nD.below hB (Nat.le_refl _)) oD
         have HV3:=Lib.hid V3;have HmUD:=Lib.hid (And.intro mU mD)
         have HoUD:=Lib.hid (And.intro (And.intro oU oD) (And.intro pU pD))
         clear V V1 V2 V3 mU mD oU oD pU pD hB nU nD hWh hRe ny6
         refine wpAny_of_held (S:=fun _=>True) _ _ _ _ ?_
         refine wpAnyH_ready (rs:=[11]) (by kernel_rfl) (by simp) ?_
         refine AllReadyH.cons (o:=_) rfl (fun K hK=>?_) AllReadyH.nil
         go_simp
         refine hK.out _ _ trivial (fun _=>?_)
         clear hK K
         try simp only [las]
         refine wpAnyH_ready (rs:=[12]) (by kernel_rfl) (by simp) ?_
         refine AllReadyH.cons (o:=_) rfl (fun K hK=>?_) AllReadyH.nil
         go_simp
         refine hK.out _ _ trivial (fun _=>?_)
         clear hK K
         try simp only [las]
         refine wpAnyH_done (by kernel_rfl) ?_ _
         clear c1 f1
         have V3:=HV3.out
         obtain ⟨mU,mD⟩:=HmUD.out
         obtain ⟨⟨oU,oD⟩,pU,pD⟩:=HoUD.out
         have a0:=V3.s0 2 rfl;have a1:=V3.s1 2 rfl;have a2:=V3.s2 2 rfl;have a3:=V3.s3 2 rfl
         have r0:=V3.s0 3 rfl;have r1:=V3.s1 3 rfl;have r2:=V3.s2 3 rfl;have r3:=V3.s3 3 rfl
         have g0:=V3.frozen 3 0 rfl;have g1:=V3.frozen 3 1 rfl;have g2:=V3.frozen 3 2 rfl;have g3:=V3.frozen 3 3 rfl
         have hk3:=V3.box 3 _ _ _ rfl
         have HK:Hid (Blk _ _ 118 #[.int .u64 SI,.bool g,.slice xq7 yq7 zq7,.slice rq7 sq7 tq7]):=Lib.hid ((((hk3.1.set_ 0 (.int .u64 SI)).set_ 1 (.bool g)).set_ 2 (.slice xq7 yq7 zq7)).set_ 3 (.slice rq7 sq7 tq7))
         have HB:=Lib.hid ((((V3.bel.setCell (p:=⟨w.heap.size + 1 + 1,0,none⟩) hk3.2 (.int .u64 SI)).setCell (p:=⟨w.heap.size + 1 + 1,1,none⟩) hk3.2 (.bool g)).setCell (p:=⟨w.heap.size + 1 + 1,2,none⟩) hk3.2 (.slice xq7 yq7 zq7)).setCell (p:=⟨w.heap.size + 1 + 1,3,none⟩) hk3.2 (.slice rq7 sq7 tq7))
         have HmU:=Lib.hid (isN_put (i:=3) (x:=.slice rq7 sq7 tq7) (isN_put (i:=2) (x:=.slice xq7 yq7 zq7) (isN_put (i:=1) (x:=.bool g) (isN_put (i:=0) (x:=.int .u64 SI) mU pU) pU) pU) pU)
         have HmD:=Lib.hid (isN_put (i:=3) (x:=.slice rq7 sq7 tq7) (isN_put (i:=2) (x:=.slice xq7 yq7 zq7) (isN_put (i:=1) (x:=.bool g) (isN_put (i:=0) (x:=.int .u64 SI) mD pD) pD) pD) pD)
         clear V3 hk3 mU mD oU oD pU pD HV3 HmUD HoUD
         go_wp2_with fail
         exact bodyPost_ret (res_spot rfl _ _ _ _ _ _ _ _ _ _ _ rfl HK.out) rfl (HSpIs.out _ _ s g _ _ _ _ _ _ (by rw [HSI.out]) Hsp.out (by rw [← Hgg.out,← HUN.out];exact decide_eq_decide.2 ⟨fun h=>⟨HR.out,h⟩,fun h=>h.2⟩) HmU.out HmD.out HB.out)
     · have HZ:Hid (∀ W v,IsN W v R→Calls Tryz.prog 32 #[v] W fun E w'=>E=.returned (.bool false)∧Below W.heap.size W w'):=Lib.hid (fun W v h=>(zero_any R v W h).mono fun E w' h'=>by
        obtain ⟨⟨h0,h1⟩ | ⟨h0,h1⟩,h2⟩:=h'
        · exact absurd h0 hR0
        · exact ⟨h1,h2⟩)
       have HR:=Lib.hid hR0
       clear hR0
       go_wp2_with fail
       refine wp_region_inv 11 (fun a0 dj a W=>∃ vy0 vy1 vy2 vy3 vy4 vy5 vy6 vy7 vy8 vy9 vy10:Value,a=puts a0 [(57,vy0),(58,vy1),(59,vy2),(60,vy3),(61,vy4),(62,vy5),(63,vy6),(64,vy7),(65,vy8),(66,vy9),(67,vy10)]∧Below wr.heap.size wr W∧(dj 0=true→vy0=.agg #[.slice xr yr zr])∧(dj 1=true→vy1=.bool false)∧(dj 2=true→vy2=.bool false)∧(dj 3=true→vy3=undef)∧(dj 4=true→vy4=undef)∧(dj 5=true→vy5=undef)∧(dj 6=true→vy6=undef)∧(dj 7=true→vy7=undef)∧(dj 8=true→vy8=undef)∧(dj 9=true→vy9=undef)∧(dj 10=true→vy10=.bool false)) (by kernel_rfl) (by kernel_rfl) (by kernel_rfl) ?_ ?_ ?_ ?_
       · intro dj hcl i hi1 hi2 hd j hj
         have hi2:=Nat.lt_of_lt_of_le hi2 (show _≤13 from of_decide_eq_true (by kernel_rfl))
         obtain rfl | rfl:i=11∨i=12:=by omega
         · have e0:dj 0=true:=hd 0 (by kernel_rfl)
           have e1:dj 1=true:=hd 1 (by kernel_rfl)
           have e2:dj 2=true:=hd 2 (by kernel_rfl)
           have e3:dj 3=true:=hd 3 (by kernel_rfl)
           have e4:dj 4=true:=hd 4 (by kernel_rfl)
           have e5:dj 5=true:=hd 5 (by kernel_rfl)
           have e6:dj 6=true:=hd 6 (by kernel_rfl)
           have e7:dj 7=true:=hd 7 (by kernel_rfl)
           have e8:dj 8=true:=hd 8 (by kernel_rfl)
           have e9:dj 9=true:=hd 9 (by kernel_rfl)
           have e10:dj 10=true:=hd 10 (by kernel_rfl)
           obtain rfl | rfl | rfl | rfl | rfl | rfl | rfl | rfl | rfl | rfl | rfl:j=0∨j=1∨j=2∨j=3∨j=4∨j=5∨j=6∨j=7∨j=8∨j=9∨j=10:=by omega
           · exact e0
           · exact e1
           · exact e2
           · exact e3
           · exact e4
           · exact e5
           · exact e6
           · exact e7
           · exact e8
           · exact e9
           · exact e10
         · have e11:dj 11=true:=hd 11 (by kernel_rfl)
           have e10:dj 10=true:=hd 10 (by kernel_rfl)
           have e8:dj 8=true:=hd 8 (by kernel_rfl)
           have e0:dj 0=true:=hd 0 (by kernel_rfl)
           have e1:dj 1=true:=hd 1 (by kernel_rfl)
           have e2:dj 2=true:=hd 2 (by kernel_rfl)
           have e3:dj 3=true:=hd 3 (by kernel_rfl)
           have e4:dj 4=true:=hd 4 (by kernel_rfl)
           have e5:dj 5=true:=hd 5 (by kernel_rfl)
           have e6:dj 6=true:=hd 6 (by kernel_rfl)
           have e7:dj 7=true:=hd 7 (by kernel_rfl)
           have e9:dj 9=true:=hd 9 (by kernel_rfl)
           obtain rfl | rfl | rfl | rfl | rfl | rfl | rfl | rfl | rfl | rfl | rfl:j=0∨j=1∨j=2∨j=3∨j=4∨j=5∨j=6∨j=7∨j=8∨j=9∨j=10:=by omega
           · exact e0
           · exact e1
           · exact e2
           · exact e3
           · exact e4
           · exact e5
           · exact e6
           · exact e7
           · exact e8
           · exact e9
           · exact e10
       · refine ⟨undef,undef,undef,undef,undef,undef,undef,undef,undef,undef,undef,(by simp only [pus]),(Below.refl _ _).drew,(fun h=>by cases h),(fun h=>by cases h),(fun h=>by cases h),(fun h=>by cases h),(fun h=>by cases h),(fun h=>by cases h),(fun h=>by cases h),(fun h=>by cases h),(fun h=>by cases h),(fun h=>by cases h),(fun h=>by cases h)⟩
       · intro dj a W i hi hdi hcl hdep hI K hK
         obtain ⟨vy0,vy1,vy2,vy3,vy4,vy5,vy6,vy7,vy8,vy9,vy10,rfl,hB,p0,p1,p2,p3,p4,p5,p6,p7,p8,p9,p10⟩:=hI
         have V:=V1.below hB
         obtain rfl | rfl | rfl | rfl | rfl | rfl | rfl | rfl | rfl | rfl | rfl:i=0∨i=1∨i=2∨i=3∨i=4∨i=5∨i=6∨i=7∨i=8∨i=9∨i=10:=by omega
         · simp only [pus]
           have c0:=V.n0 0 rfl
           refine any_op (o:=_) rfl rfl ?_
           go_wp2_with fail
           refine hK.out _ _ ?_
           exact ⟨.agg #[.slice xr yr zr],vy1,vy2,vy3,vy4,vy5,vy6,vy7,vy8,vy9,vy10,(by simp only [pus]),hB,(fun _=>rfl),p1,p2,p3,p4,p5,p6,p7,p8,p9,p10⟩
         · obtain rfl:=p0 (hdep 0 (by kernel_rfl))
           simp only [pus]
           refine any_op (o:=_) rfl rfl ?_
           have hC:=Lib.hid (HZ.out W _ (hRe.below hB (Nat.le_refl _)))
           go_simp
           refine hC.out.mono ?_
           rintro e W2 ⟨rfl,hb⟩
           refine hK.out _ _ ?_
           exact ⟨.agg #[.slice xr yr zr],.bool false,vy2,vy3,vy4,vy5,vy6,vy7,vy8,vy9,vy10,(by simp only [pus]),hB.trans (hb.mono hB.size),(fun _=>rfl),(fun _=>rfl),p2,p3,p4,p5,p6,p7,p8,p9,p10⟩
         · obtain rfl:=p1 (hdep 1 (by kernel_rfl))
           simp only [pus]
           refine any_op (o:=_) rfl rfl ?_
           go_wp2_with fail
           refine hK.out _ _ ?_
           exact ⟨vy0,.bool false,.bool false,vy3,vy4,vy5,vy6,vy7,vy8,vy9,vy10,(by simp only [pus]),hB,p0,(fun _=>rfl),(fun _=>rfl),p3,p4,p5,p6,p7,p8,p9,p10⟩
         · obtain rfl:=p2 (hdep 2 (by kernel_rfl))
           simp only [pus]
           refine any_no (oq := { dst := some 60, op := Op.load 63 (Operand.tmp 2), type := 63, pos := "ieee.go:88", after := #[{ on := 2, ground := Ground.guard }], guard := some (2, true) }) rfl (by kernel_rfl) (hK.out _ _ ?_)
           exact ⟨vy0,vy1,.bool false,undef,vy4,vy5,vy6,vy7,vy8,vy9,vy10,(by simp only [Act.put,puts,List.foldl_cons,List.foldl_nil,List.setIfInBounds_toArray,List.set_cons_zero,List.set_cons_succ]),hB,p0,p1,(fun _=>rfl),(fun _=>rfl),p4,p5,p6,p7,p8,p9,p10⟩
         · obtain rfl:=p2 (hdep 2 (by kernel_rfl))
           simp only [pus]
           refine any_no (oq := { dst := some 61, op := Op.fieldAddr 118 (Operand.tmp 5) 0, type := 0, pos := "ieee.go:88", after := #[{ on := 2, ground := Ground.guard }], guard := some (2, true) }) rfl (by kernel_rfl) (hK.out _ _ ?_)
           exact ⟨vy0,vy1,.bool false,vy3,undef,vy5,vy6,vy7,vy8,vy9,vy10,(by simp only [Act.put,puts,List.foldl_cons,List.foldl_nil,List.setIfInBounds_toArray,List.set_cons_zero,List.set_cons_succ]),hB,p0,p1,(fun _=>rfl),p3,(fun _=>rfl),p5,p6,p7,p8,p9,p10⟩
         · obtain rfl:=p2 (hdep 2 (by kernel_rfl))
           obtain rfl:=p4 (hdep 4 (by kernel_rfl))
           simp only [pus]
           refine any_no (oq := { dst := some 62, op := Op.load 53 (Operand.tmp 61), type := 53, pos := "ieee.go:88", after := #[{ on := 4, ground := Ground.data }, { on := 2, ground := Ground.guard }], guard := some (2, true) }) rfl (by kernel_rfl) (hK.out _ _ ?_)
           exact ⟨vy0,vy1,.bool false,vy3,undef,undef,vy6,vy7,vy8,vy9,vy10,(by simp only [Act.put,puts,List.foldl_cons,List.foldl_nil,List.setIfInBounds_toArray,List.set_cons_zero,List.set_cons_succ]),hB,p0,p1,(fun _=>rfl),p3,(fun _=>rfl),(fun _=>rfl),p6,p7,p8,p9,p10⟩
         · obtain rfl:=p2 (hdep 2 (by kernel_rfl))
           obtain rfl:=p3 (hdep 3 (by kernel_rfl))
           obtain rfl:=p5 (hdep 5 (by kernel_rfl))
           simp only [pus]
           refine any_no (oq := { dst := some 63, op := Op.call { callee := Callee.value (Operand.func 90), args := #[Operand.tmp 60, Operand.tmp 62], argTypes := #[63, 53] }, type := 25, pos := "ieee.go:88", after := #[{ on := 3, ground := Ground.data }, { on := 5, ground := Ground.data }, { on := 2, ground := Ground.chain }, { on := 2, ground := Ground.guard }], guard := some (2, true) }) rfl (by kernel_rfl) (hK.out _ _ ?_)
           exact ⟨vy0,vy1,.bool false,undef,vy4,undef,undef,vy7,vy8,vy9,vy10,(by simp only [Act.put,puts,List.foldl_cons,List.foldl_nil,List.setIfInBounds_toArray,List.set_cons_zero,List.set_cons_succ]),hB,p0,p1,(fun _=>rfl),(fun _=>rfl),p4,(fun _=>rfl),(fun _=>rfl),p7,p8,p9,p10⟩
         · obtain rfl:=p2 (hdep 2 (by kernel_rfl))
           simp only [pus]
           refine any_no (oq := { dst := some 64, op := Op.load 25 (Operand.tmp 6), type := 25, pos := "ieee.go:88", after := #[{ on := 2, ground := Ground.guard }], guard := some (2, true) }) rfl (by kernel_rfl) (hK.out _ _ ?_)
           exact ⟨vy0,vy1,.bool false,vy3,vy4,vy5,vy6,undef,vy8,vy9,vy10,(by simp only [Act.put,puts,List.foldl_cons,List.foldl_nil,List.setIfInBounds_toArray,List.set_cons_zero,List.set_cons_succ]),hB,p0,p1,(fun _=>rfl),p3,p4,p5,p6,(fun _=>rfl),p8,p9,p10⟩
         · obtain rfl:=p2 (hdep 2 (by kernel_rfl))
           obtain rfl:=p6 (hdep 6 (by kernel_rfl))
           obtain rfl:=p7 (hdep 7 (by kernel_rfl))
           simp only [pus]
           refine any_no (oq := { dst := some 65, op := Op.call { callee := Callee.value (Operand.func 74), args := #[Operand.tmp 63, Operand.tmp 64], argTypes := #[25, 25] }, type := 3, pos := "ieee.go:88", after := #[{ on := 6, ground := Ground.data }, { on := 7, ground := Ground.data }, { on := 6, ground := Ground.chain }, { on := 2, ground := Ground.guard }], guard := some (2, true) }) rfl (by kernel_rfl) (hK.out _ _ ?_)
           exact ⟨vy0,vy1,.bool false,vy3,vy4,vy5,undef,undef,undef,vy9,vy10,(by simp only [Act.put,puts,List.foldl_cons,List.foldl_nil,List.setIfInBounds_toArray,List.set_cons_zero,List.set_cons_succ]),hB,p0,p1,(fun _=>rfl),p3,p4,p5,(fun _=>rfl),(fun _=>rfl),(fun _=>rfl),p9,p10⟩
         · obtain rfl:=p2 (hdep 2 (by kernel_rfl))
           obtain rfl:=p8 (hdep 8 (by kernel_rfl))
           simp only [pus]
           refine any_no (oq := { dst := some 66, op := Op.binOp BinOp.eql 3 (Operand.tmp 65) (Operand.const (Value.int IntKind.i64 0)) 3, type := 4, pos := "ieee.go:88", after := #[{ on := 8, ground := Ground.data }, { on := 2, ground := Ground.guard }], guard := some (2, true) }) rfl (by kernel_rfl) (hK.out _ _ ?_)
           exact ⟨vy0,vy1,.bool false,vy3,vy4,vy5,vy6,vy7,undef,undef,vy10,(by simp only [Act.put,puts,List.foldl_cons,List.foldl_nil,List.setIfInBounds_toArray,List.set_cons_zero,List.set_cons_succ]),hB,p0,p1,(fun _=>rfl),p3,p4,p5,p6,p7,(fun _=>rfl),(fun _=>rfl),p10⟩
         · obtain rfl:=p2 (hdep 2 (by kernel_rfl))
           obtain rfl:=p9 (hdep 9 (by kernel_rfl))
           simp only [pus]
           refine any_op (o:=_) rfl rfl ?_
           go_wp2_with fail
           refine hK.out _ _ ?_
           exact ⟨vy0,vy1,.bool false,vy3,vy4,vy5,vy6,vy7,vy8,undef,.bool false,(by simp only [pus]),hB,p0,p1,(fun _=>rfl),p3,p4,p5,p6,p7,p8,(fun _=>rfl),(fun _=>rfl)⟩
       · intro dj a W hd hI
         obtain ⟨vy0,vy1,vy2,vy3,vy4,vy5,vy6,vy7,vy8,vy9,vy10,rfl,hB,p0,p1,p2,p3,p4,p5,p6,p7,p8,p9,p10⟩:=hI
         have V:=V1.below hB
         obtain rfl:=p0 (hd 0 (by omega))
         obtain rfl:=p1 (hd 1 (by omega))
         obtain rfl:=p2 (hd 2 (by omega))
         obtain rfl:=p3 (hd 3 (by omega))
         obtain rfl:=p4 (hd 4 (by omega))
         obtain rfl:=p5 (hd 5 (by omega))
         obtain rfl:=p6 (hd 6 (by omega))
         obtain rfl:=p7 (hd 7 (by omega))
         obtain rfl:=p8 (hd 8 (by omega))
         obtain rfl:=p9 (hd 9 (by omega))
         obtain rfl:=p10 (hd 10 (by omega))
         clear hd p0 p1 p2 p3 p4 p5 p6 p7 p8 p9 p10 dj
         simp only [pus]
         show wpAny Tryz.prog .any _ _ 2 #[true,true,true,true,true,true,true,true,true,true,true,false,false] _ _
         have V2:Mq w [(W5.heap.size + 1,25,#[.slice xr yr zr]),(W5.heap.size,25,#[.slice xw yw zw]),(bq8,118,#[.int .u64 SI,.bool false,.slice xq7 yq7 zq7,.slice rq7 sq7 tq7]),(w.heap.size + 1 + 1,118,#[.int .u64 0,.bool false,.slice none 0 0,.slice none 0 0]),(w.heap.size + 1,27,#[.bool zs,.slice p n c,.slice p' n' c']),(w.heap.size,63,#[.int .i64 (e:Int),.int .i64 (m:Int)])] [] [] W:=V
         have c1:=V2.s1 2 rfl;have f1:=V2.frozen 2 1 rfl
         have V3:Mq w [(W5.heap.size + 1,25,#[.slice xr yr zr]),(W5.heap.size,25,#[.slice xw yw zw]),(bq8,118,#[.int .u64 SI,.bool false,.slice xq7 yq7 zq7,.slice rq7 sq7 tq7]),(w.heap.size + 1 + 1,118,#[.int .u64 0,.bool false,.slice none 0 0,.slice none 0 0]),(w.heap.size + 1,27,#[.bool zs,.slice p n c,.slice p' n' c']),(w.heap.size,63,#[.int .i64 (e:Int),.int .i64 (m:Int)])] [] [] _:=V2.putN 2 1 rfl (Hdst.out _) (.bool false)
         have mU:=isN_put (i:=1) (x:=.bool false) (nU.below hB (Nat.le_refl _)) oU
         have mD:=isN_put (i:=1) (x:=.bool false) (nD.below hB (Nat.le_refl _)) oD
         have HV3:=Lib.hid V3;have HmUD:=Lib.hid (And.intro mU mD)
         have HoUD:=Lib.hid (And.intro (And.intro oU oD) (And.intro pU pD))
         clear V V1 V2 V3 mU mD oU oD pU pD hB nU nD hWh hRe
         refine wpAny_of_held (S:=fun _=>True) _ _ _ _ ?_
         refine wpAnyH_ready (rs:=[11]) (by kernel_rfl) (by simp) ?_
         refine AllReadyH.cons (o:=_) rfl (fun K hK=>?_) AllReadyH.nil
         go_simp
         refine hK.out _ _ trivial (fun _=>?_)
         clear hK K
         try simp only [las]
         refine wpAnyH_ready (rs:=[12]) (by kernel_rfl) (by simp) ?_
         refine AllReadyH.cons (o:=_) rfl (fun K hK=>?_) AllReadyH.nil
         go_simp
         refine hK.out _ _ trivial (fun _=>?_)
         clear hK K
         try simp only [las]
         refine wpAnyH_done (by kernel_rfl) ?_ _
         clear c1 f1
         have V3:=HV3.out
         obtain ⟨mU,mD⟩:=HmUD.out
         obtain ⟨⟨oU,oD⟩,pU,pD⟩:=HoUD.out
         have a0:=V3.s0 2 rfl;have a1:=V3.s1 2 rfl;have a2:=V3.s2 2 rfl;have a3:=V3.s3 2 rfl
         have r0:=V3.s0 3 rfl;have r1:=V3.s1 3 rfl;have r2:=V3.s2 3 rfl;have r3:=V3.s3 3 rfl
         have g0:=V3.frozen 3 0 rfl;have g1:=V3.frozen 3 1 rfl;have g2:=V3.frozen 3 2 rfl;have g3:=V3.frozen 3 3 rfl
         have hk3:=V3.box 3 _ _ _ rfl
         have HK:Hid (Blk _ _ 118 #[.int .u64 SI,.bool false,.slice xq7 yq7 zq7,.slice rq7 sq7 tq7]):=Lib.hid ((((hk3.1.set_ 0 (.int .u64 SI)).set_ 1 (.bool false)).set_ 2 (.slice xq7 yq7 zq7)).set_ 3 (.slice rq7 sq7 tq7))
         have HB:=Lib.hid ((((V3.bel.setCell (p:=⟨w.heap.size + 1 + 1,0,none⟩) hk3.2 (.int .u64 SI)).setCell (p:=⟨w.heap.size + 1 + 1,1,none⟩) hk3.2 (.bool false)).setCell (p:=⟨w.heap.size + 1 + 1,2,none⟩) hk3.2 (.slice xq7 yq7 zq7)).setCell (p:=⟨w.heap.size + 1 + 1,3,none⟩) hk3.2 (.slice rq7 sq7 tq7))
         have HmU:=Lib.hid (isN_put (i:=3) (x:=.slice rq7 sq7 tq7) (isN_put (i:=2) (x:=.slice xq7 yq7 zq7) (isN_put (i:=1) (x:=.bool false) (isN_put (i:=0) (x:=.int .u64 SI) mU pU) pU) pU) pU)
         have HmD:=Lib.hid (isN_put (i:=3) (x:=.slice rq7 sq7 tq7) (isN_put (i:=2) (x:=.slice xq7 yq7 zq7) (isN_put (i:=1) (x:=.bool false) (isN_put (i:=0) (x:=.int .u64 SI) mD pD) pD) pD) pD)
         clear V3 hk3 mU mD oU oD pU pD HV3 HmUD HoUD
         go_wp2_with fail
         exact bodyPost_ret (res_spot rfl _ _ _ _ _ _ _ _ _ _ _ rfl HK.out) rfl (HSpIs.out _ _ s false _ _ _ _ _ _ (by rw [HSI.out]) Hsp.out (by symm;exact decide_eq_false (fun h=>HR.out h.1)) HmU.out HmD.out HB.out)
    | succ k =>
     have hz0:0≤z:=by omega
     have hz1:z≤62:=by have:=HI.out.2;omega
     have e2:z.toNat=k:=by omega
     have Hz:=Lib.hid hz
     have hk62:k≤62:=by omega
     clear hz
     have e1:=sh_one (p:=k) (by omega)
     rw [Int.one_mul] at e1
     have hmd:=hS.out.2.md
     have hlt:=hS.out.2.lt
     have hSI:=hS.out.1
     have hpk:2^k < 2^(k + 1):=Nat.pow_lt_pow_right (by decide) (by omega)
     have hpk2:2^k≤2^62:=Nat.pow_le_pow_right (by decide) hk62
     have hI:=HI.out
     have e3:=or_add (x:=2^k) (y:=s) (k:=k + 1) hpk hmd (by omega) (by omega)
     have hINF:=HINF.out
     obtain ⟨S2,hS2⟩:∃ x:Int,((s + 2^k:Nat):Int)=x:=⟨_,rfl⟩
     obtain ⟨PK,hPK⟩:∃ x:Int,((2^k:Nat):Int)=x:=⟨_,rfl⟩
     rw [hPK] at e1
     rw [hPK,hS2,hSI] at e3
     have V1:=hV.out
     have q0:=V1.s0 2 rfl
     have HN:=hN
     have HS:=Lib.hid hS.out.2
     have HSI:=Lib.hid hSI
     by_cases hfar:I≤s + 2^k
     · have hd:INF≤S2:=by omega
       have HSk:=Lib.hid (HS.out.skip (fun h=>by omega))
       clear hS hV hN hmd hlt hSI hpk hpk2 hI hINF hS2 hPK hfar HS
       go_wp2_with fail
       go_quiet (fail)
       have V2:=V1.dn nq
       have HN2:Hid ((IsN (wr.drewN nq) (.agg #[.slice xq7 yq7 zq7]) U∧IsN (wr.drewN nq) (.agg #[.slice rq7 sq7 tq7]) D)∧(IsN (wr.drewN nq) (.agg #[.slice xw yw zw]) Wh∧IsN (wr.drewN nq) (.agg #[.slice xr yr zr]) R)):=Lib.hid ⟨⟨HN.out.1.1.below (bel_dn (Below.refl _ _) nq) (Nat.le_refl _),HN.out.1.2.below (bel_dn (Below.refl _ _) nq) (Nat.le_refl _)⟩,HN.out.2.1.below (bel_dn (Below.refl _ _) nq) (Nat.le_refl _),HN.out.2.2.below (bel_dn (Below.refl _ _) nq) (Nat.le_refl _)⟩
       clear V1 HN q0
       go_wp2_with fail
       generalize wr.drewN nq=wq at V2 HN2 ⊢
       refine wp_region_inv 12 (fun a0 dj a W=>∃ vz0 vz1 vz2 vz3 vz4 vz5 vz6 vz7 vz8 vz9 vz10 vz11:Value,a=puts a0 [(43,vz0),(44,vz1),(45,vz2),(46,vz3),(47,vz4),(48,vz5),(49,vz6),(50,vz7),(51,vz8),(52,vz9),(53,vz10),(54,vz11)]∧Below wq.heap.size wq W∧(dj 0=true→vz0=.int .u64 S2)∧(dj 1=true→vz1=.agg #[.int .i64 (e:Int),.int .i64 (m:Int)])∧(dj 2=true→vz2=.int .u64 INF)∧(dj 3=true→vz3=.bool true)∧(dj 4=true→vz4=.bool true)∧(dj 5=true→vz5=undef)∧(dj 6=true→vz6=undef)∧(dj 7=true→vz7=undef)∧(dj 8=true→vz8=undef)∧(dj 9=true→vz9=undef)∧(dj 10=true→vz10=undef)∧(dj 11=true→vz11=.bool true)) (by kernel_rfl) (by kernel_rfl) (by kernel_rfl) ?_ ?_ ?_ ?_
       · intro dj hcl i hi1 hi2 hd j hj
         exact absurd (Nat.lt_of_lt_of_le hi2 (of_decide_eq_true (by kernel_rfl))) (Nat.not_lt.2 hi1)
       · refine ⟨u43,u44,u45,u46,u47,u48,u49,u50,u51,u52,u53,u54,(by simp only [pus]),(Below.refl _ _).drew,(fun h=>by cases h),(fun h=>by cases h),(fun h=>by cases h),(fun h=>by cases h),(fun h=>by cases h),(fun h=>by cases h),(fun h=>by cases h),(fun h=>by cases h),(fun h=>by cases h),(fun h=>by cases h),(fun h=>by cases h),(fun h=>by cases h)⟩
       · intro dj a W i hi hdi hcl hdep hI K hK
         obtain ⟨vz0,vz1,vz2,vz3,vz4,vz5,vz6,vz7,vz8,vz9,vz10,vz11,rfl,hB,p0,p1,p2,p3,p4,p5,p6,p7,p8,p9,p10,p11⟩:=hI
         have V:=V2.below hB
         obtain rfl | rfl | rfl | rfl | rfl | rfl | rfl | rfl | rfl | rfl | rfl | rfl:i=0∨i=1∨i=2∨i=3∨i=4∨i=5∨i=6∨i=7∨i=8∨i=9∨i=10∨i=11:=by omega
         · simp only [pus]
           refine any_op (o:=_) rfl rfl ?_
           go_wp2_with fail
           refine hK.out _ _ ?_
           exact ⟨.int .u64 S2,vz1,vz2,vz3,vz4,vz5,vz6,vz7,vz8,vz9,vz10,vz11,(by simp only [pus]),hB,(fun _=>rfl),p1,p2,p3,p4,p5,p6,p7,p8,p9,p10,p11⟩
         · simp only [pus]
           have c0:=V.f0 5 rfl
           have c1:=V.f1 5 rfl
           refine any_op (o:=_) rfl rfl ?_
           go_wp2_with fail
           refine hK.out _ _ ?_
           exact ⟨vz0,.agg #[.int .i64 (e:Int),.int .i64 (m:Int)],vz2,vz3,vz4,vz5,vz6,vz7,vz8,vz9,vz10,vz11,(by simp only [pus]),hB,p0,(fun _=>rfl),p2,p3,p4,p5,p6,p7,p8,p9,p10,p11⟩
         · obtain rfl:=p1 (hdep 1 (by kernel_rfl))
           simp only [pus]
           refine any_op (o:=_) rfl rfl ?_
           have hC:=Lib.hid (HIn.out W)
           go_simp
           refine hC.out.mono ?_
           rintro e W2 ⟨rfl,hb⟩
           refine hK.out _ _ ?_
           exact ⟨vz0,.agg #[.int .i64 (e:Int),.int .i64 (m:Int)],.int .u64 INF,vz3,vz4,vz5,vz6,vz7,vz8,vz9,vz10,vz11,(by simp only [pus]),hB.trans (hb.mono hB.size),p0,(fun _=>rfl),(fun _=>rfl),p3,p4,p5,p6,p7,p8,p9,p10,p11⟩
         · obtain rfl:=p0 (hdep 0 (by kernel_rfl))
           obtain rfl:=p2 (hdep 2 (by kernel_rfl))
           simp only [pus]
           refine any_op (o:=_) rfl rfl ?_
           go_wp2_with fail
           refine hK.out _ _ ?_
           exact ⟨.int .u64 S2,vz1,.int .u64 INF,.bool true,vz4,vz5,vz6,vz7,vz8,vz9,vz10,vz11,(by simp only [pus]),hB,(fun _=>rfl),p1,(fun _=>rfl),(fun _=>rfl),p4,p5,p6,p7,p8,p9,p10,p11⟩
         · obtain rfl:=p2 (hdep 2 (by kernel_rfl))
           obtain rfl:=p3 (hdep 3 (by kernel_rfl))
           simp only [pus]
           refine any_op (o:=_) rfl rfl ?_
           go_wp2_with fail
           refine hK.out _ _ ?_
           exact ⟨vz0,vz1,.int .u64 INF,.bool true,.bool true,vz5,vz6,vz7,vz8,vz9,vz10,vz11,(by simp only [pus]),hB,p0,p1,(fun _=>rfl),(fun _=>rfl),(fun _=>rfl),p5,p6,p7,p8,p9,p10,p11⟩
         · obtain rfl:=p4 (hdep 4 (by kernel_rfl))
           simp only [pus]
           refine any_no (oq := { dst := some 48, op := Op.load 63 (Operand.tmp 2), type := 63, pos := "ieee.go:83", after := #[{ on := 4, ground := Ground.guard }], guard := some (4, false) }) rfl (by kernel_rfl) (hK.out _ _ ?_)
           exact ⟨vz0,vz1,vz2,vz3,.bool true,undef,vz6,vz7,vz8,vz9,vz10,vz11,(by simp only [Act.put,puts,List.foldl_cons,List.foldl_nil,List.setIfInBounds_toArray,List.set_cons_zero,List.set_cons_succ]),hB,p0,p1,p2,p3,(fun _=>rfl),(fun _=>rfl),p6,p7,p8,p9,p10,p11⟩
         · obtain rfl:=p4 (hdep 4 (by kernel_rfl))
           simp only [pus]
           refine any_no (oq := { dst := some 49, op := Op.move (Operand.tmp 10), type := 53, pos := "ieee.go:83", after := #[{ on := 4, ground := Ground.guard }], guard := some (4, false) }) rfl (by kernel_rfl) (hK.out _ _ ?_)
           exact ⟨vz0,vz1,vz2,vz3,.bool true,vz5,undef,vz7,vz8,vz9,vz10,vz11,(by simp only [Act.put,puts,List.foldl_cons,List.foldl_nil,List.setIfInBounds_toArray,List.set_cons_zero,List.set_cons_succ]),hB,p0,p1,p2,p3,(fun _=>rfl),p5,(fun _=>rfl),p7,p8,p9,p10,p11⟩
         · obtain rfl:=p4 (hdep 4 (by kernel_rfl))
           obtain rfl:=p5 (hdep 5 (by kernel_rfl))
           obtain rfl:=p6 (hdep 6 (by kernel_rfl))
           simp only [pus]
           refine any_no (oq := { dst := some 50, op := Op.call { callee := Callee.value (Operand.func 90), args := #[Operand.tmp 48, Operand.tmp 49], argTypes := #[63, 53] }, type := 25, pos := "ieee.go:83", after := #[{ on := 5, ground := Ground.data }, { on := 6, ground := Ground.data }, { on := 4, ground := Ground.chain }, { on := 4, ground := Ground.guard }], guard := some (4, false) }) rfl (by kernel_rfl) (hK.out _ _ ?_)
           exact ⟨vz0,vz1,vz2,vz3,.bool true,undef,undef,undef,vz8,vz9,vz10,vz11,(by simp only [Act.put,puts,List.foldl_cons,List.foldl_nil,List.setIfInBounds_toArray,List.set_cons_zero,List.set_cons_succ]),hB,p0,p1,p2,p3,(fun _=>rfl),(fun _=>rfl),(fun _=>rfl),(fun _=>rfl),p8,p9,p10,p11⟩
         · obtain rfl:=p4 (hdep 4 (by kernel_rfl))
           simp only [pus]
           refine any_no (oq := { dst := some 51, op := Op.load 25 (Operand.tmp 6), type := 25, pos := "ieee.go:83", after := #[{ on := 4, ground := Ground.guard }], guard := some (4, false) }) rfl (by kernel_rfl) (hK.out _ _ ?_)
           exact ⟨vz0,vz1,vz2,vz3,.bool true,vz5,vz6,vz7,undef,vz9,vz10,vz11,(by simp only [Act.put,puts,List.foldl_cons,List.foldl_nil,List.setIfInBounds_toArray,List.set_cons_zero,List.set_cons_succ]),hB,p0,p1,p2,p3,(fun _=>rfl),p5,p6,p7,(fun _=>rfl),p9,p10,p11⟩
         · obtain rfl:=p4 (hdep 4 (by kernel_rfl))
           obtain rfl:=p7 (hdep 7 (by kernel_rfl))
           obtain rfl:=p8 (hdep 8 (by kernel_rfl))
           simp only [pus]
           refine any_no (oq := { dst := some 52, op := Op.call { callee := Callee.value (Operand.func 74), args := #[Operand.tmp 50, Operand.tmp 51], argTypes := #[25, 25] }, type := 3, pos := "ieee.go:83", after := #[{ on := 7, ground := Ground.data }, { on := 8, ground := Ground.data }, { on := 7, ground := Ground.chain }, { on := 4, ground := Ground.guard }], guard := some (4, false) }) rfl (by kernel_rfl) (hK.out _ _ ?_)
           exact ⟨vz0,vz1,vz2,vz3,.bool true,vz5,vz6,undef,undef,undef,vz10,vz11,(by simp only [Act.put,puts,List.foldl_cons,List.foldl_nil,List.setIfInBounds_toArray,List.set_cons_zero,List.set_cons_succ]),hB,p0,p1,p2,p3,(fun _=>rfl),p5,p6,(fun _=>rfl),(fun _=>rfl),(fun _=>rfl),p10,p11⟩
         · obtain rfl:=p4 (hdep 4 (by kernel_rfl))
           obtain rfl:=p9 (hdep 9 (by kernel_rfl))
           simp only [pus]
           refine any_no (oq := { dst := some 53, op := Op.binOp BinOp.gtr 3 (Operand.tmp 52) (Operand.const (Value.int IntKind.i64 0)) 3, type := 4, pos := "ieee.go:83", after := #[{ on := 9, ground := Ground.data }, { on := 4, ground := Ground.guard }], guard := some (4, false) }) rfl (by kernel_rfl) (hK.out _ _ ?_)
           exact ⟨vz0,vz1,vz2,vz3,.bool true,vz5,vz6,vz7,vz8,undef,undef,vz11,(by simp only [Act.put,puts,List.foldl_cons,List.foldl_nil,List.setIfInBounds_toArray,List.set_cons_zero,List.set_cons_succ]),hB,p0,p1,p2,p3,(fun _=>rfl),p5,p6,p7,p8,(fun _=>rfl),(fun _=>rfl),p11⟩
         · obtain rfl:=p4 (hdep 4 (by kernel_rfl))
           obtain rfl:=p10 (hdep 10 (by kernel_rfl))
           simp only [pus]
           refine any_op (o:=_) rfl rfl ?_
           go_wp2_with fail
           refine hK.out _ _ ?_
           exact ⟨vz0,vz1,vz2,vz3,.bool true,vz5,vz6,vz7,vz8,vz9,undef,.bool true,(by simp only [pus]),hB,p0,p1,p2,p3,(fun _=>rfl),p5,p6,p7,p8,p9,(fun _=>rfl),(fun _=>rfl)⟩
       · intro dj a W hd hI
         obtain ⟨vz0,vz1,vz2,vz3,vz4,vz5,vz6,vz7,vz8,vz9,vz10,vz11,rfl,hB,p0,p1,p2,p3,p4,p5,p6,p7,p8,p9,p10,p11⟩:=hI
         have V:=V2.below hB
         obtain rfl:=p0 (hd 0 (by omega))
         obtain rfl:=p1 (hd 1 (by omega))
         obtain rfl:=p2 (hd 2 (by omega))
         obtain rfl:=p3 (hd 3 (by omega))
         obtain rfl:=p4 (hd 4 (by omega))
         obtain rfl:=p5 (hd 5 (by omega))
         obtain rfl:=p6 (hd 6 (by omega))
         obtain rfl:=p7 (hd 7 (by omega))
         obtain rfl:=p8 (hd 8 (by omega))
         obtain rfl:=p9 (hd 9 (by omega))
         obtain rfl:=p10 (hd 10 (by omega))
         obtain rfl:=p11 (hd 11 (by omega))
         clear hd p0 p1 p2 p3 p4 p5 p6 p7 p8 p9 p10 p11 dj
         simp only [pus]
         show wpAny Tryz.prog .any _ _ 0 #[true,true,true,true,true,true,true,true,true,true,true,true] _ _
         refine ⟨by kernel_rfl,?_⟩
         have HV:=Lib.hid V
         have HN3:Hid ((IsN W (.agg #[.slice xq7 yq7 zq7]) U∧IsN W (.agg #[.slice rq7 sq7 tq7]) D)∧(IsN W (.agg #[.slice xw yw zw]) Wh∧IsN W (.agg #[.slice xr yr zr]) R)):=Lib.hid ⟨⟨HN2.out.1.1.below hB (Nat.le_refl _),HN2.out.1.2.below hB (Nat.le_refl _)⟩,HN2.out.2.1.below hB (Nat.le_refl _),HN2.out.2.2.below hB (Nat.le_refl _)⟩
         clear V V2 hB HN2
         go_wp2_with fail
         go_round
         case rel=>exact ⟨k,_,s,SI,by omega,by have:=Hz.out;omega,rfl,Lib.hid ⟨HSI.out,HSk.out⟩,HV,HN3⟩
         case measure=>simp [intOf];omega
     · have hd:decide (INF≤S2)=false:=decide_eq_false (by omega)
       have hlt2:s + 2^k < I:=by omega
       have HUn2:Hid (∀ W,Calls Tryz.prog 90 #[.agg #[.int .i64 (e:Int),.int .i64 (m:Int)],.int .u64 S2] W (GaveV (un m (s + 2^k)) W)):=Lib.hid (fun W=>by rw [← hS2];exact HUnits.out _ hlt2 W)
       have HC0:=Lib.hid (HCmp.out _ hlt2)
       have HSt:Hid (∀ g,decide (0 < cmpI (un m (s + 2^k)) Wh)=g→(g=true→Spt m I Wh k s)∧(g=false→Spt m I Wh k (s + 2^k))):=Lib.hid (fun g hg=>⟨fun h=>HS.out.skip (fun _=>by
        rw [h] at hg
        have h1:=of_decide_eq_true hg
        rcases Nat.lt_or_ge Wh (un m (s + 2^k)) with h2 | h2
        · exact h2
        · rcases Nat.lt_or_eq_of_le h2 with h3 | h3
          · rw [cmpI_lt h3] at h1;omega
          · rw [h3,cmpI_eq] at h1;omega),fun h=>HS.out.take hlt2 (by
        rw [h] at hg
        have h1:=of_decide_eq_false hg
        rcases Nat.lt_or_ge Wh (un m (s + 2^k)) with h2 | h2
        · rw [cmpI_gt h2] at h1;omega
        · exact h2)⟩)
       obtain ⟨UN2,hUN⟩:∃ x,un m (s + 2^k)=x:=⟨_,rfl⟩
       rw [hUN] at HUn2 HC0 HSt
       obtain ⟨C,hC⟩:∃ x,cmpI UN2 Wh=x:=⟨_,rfl⟩
       have HC:Hid (∀ W va vb,IsN W va UN2→IsN W vb Wh→Calls Tryz.prog 74 #[va,vb] W fun E w'=>E=.returned (.int .i64 C)∧Below W.heap.size W w'):=Lib.hid (by rw [← hC];exact HC0.out)
       rw [hC] at HSt
       obtain ⟨g,hg⟩:∃ x,decide (0 < C)=x:=⟨_,rfl⟩
       obtain ⟨hsk,htk⟩:=HSt.out g hg
       have Hsk:=Lib.hid hsk;have Htk:=Lib.hid htk;have HS2:=Lib.hid hS2
       clear hS hV hN hmd hlt hSI hpk hpk2 hI hINF hS2 hPK hfar HS hlt2 hUN hC HSt hsk htk HC0
       go_wp2_with fail
       go_quiet (fail)
       have V2:=V1.dn nq
       have HN2:Hid ((IsN (wr.drewN nq) (.agg #[.slice xq7 yq7 zq7]) U∧IsN (wr.drewN nq) (.agg #[.slice rq7 sq7 tq7]) D)∧(IsN (wr.drewN nq) (.agg #[.slice xw yw zw]) Wh∧IsN (wr.drewN nq) (.agg #[.slice xr yr zr]) R)):=Lib.hid ⟨⟨HN.out.1.1.below (bel_dn (Below.refl _ _) nq) (Nat.le_refl _),HN.out.1.2.below (bel_dn (Below.refl _ _) nq) (Nat.le_refl _)⟩,HN.out.2.1.below (bel_dn (Below.refl _ _) nq) (Nat.le_refl _),HN.out.2.2.below (bel_dn (Below.refl _ _) nq) (Nat.le_refl _)⟩
       clear V1 HN q0
       go_wp2_with fail
       generalize wr.drewN nq=wq at V2 HN2 ⊢
       have hWh:=HN2.out.2.1
       refine wp_region_inv 12 (fun a0 dj a W=>∃ vz0 vz1 vz2 vz3 vz4 vz5 vz6 vz7 vz8 vz9 vz10 vz11:Value,a=puts a0 [(43,vz0),(44,vz1),(45,vz2),(46,vz3),(47,vz4),(48,vz5),(49,vz6),(50,vz7),(51,vz8),(52,vz9),(53,vz10),(54,vz11)]∧Below wq.heap.size wq W∧(dj 0=true→vz0=.int .u64 S2)∧(dj 1=true→vz1=.agg #[.int .i64 (e:Int),.int .i64 (m:Int)])∧(dj 2=true→vz2=.int .u64 INF)∧(dj 3=true→vz3=.bool false)∧(dj 4=true→vz4=.bool false)∧(dj 5=true→vz5=.agg #[.int .i64 (e:Int),.int .i64 (m:Int)])∧(dj 6=true→vz6=.int .u64 S2)∧(dj 7=true→Nm W vz7 (UN2))∧(dj 8=true→vz8=.agg #[.slice xw yw zw])∧(dj 9=true→vz9=.int .i64 C)∧(dj 10=true→vz10=.bool g)∧(dj 11=true→vz11=.bool g)) (by kernel_rfl) (by kernel_rfl) (by kernel_rfl) ?_ ?_ ?_ ?_
       · intro dj hcl i hi1 hi2 hd j hj
         exact absurd (Nat.lt_of_lt_of_le hi2 (of_decide_eq_true (by kernel_rfl))) (Nat.not_lt.2 hi1)
       · refine ⟨u43,u44,u45,u46,u47,u48,u49,u50,u51,u52,u53,u54,(by simp only [pus]),(Below.refl _ _).drew,(fun h=>by cases h),(fun h=>by cases h),(fun h=>by cases h),(fun h=>by cases h),(fun h=>by cases h),(fun h=>by cases h),(fun h=>by cases h),(fun h=>by cases h),(fun h=>by cases h),(fun h=>by cases h),(fun h=>by cases h),(fun h=>by cases h)⟩
       · intro dj a W i hi hdi hcl hdep hI K hK
         obtain ⟨vz0,vz1,vz2,vz3,vz4,vz5,vz6,vz7,vz8,vz9,vz10,vz11,rfl,hB,p0,p1,p2,p3,p4,p5,p6,p7,p8,p9,p10,p11⟩:=hI
         have V:=V2.below hB
         obtain rfl | rfl | rfl | rfl | rfl | rfl | rfl | rfl | rfl | rfl | rfl | rfl:i=0∨i=1∨i=2∨i=3∨i=4∨i=5∨i=6∨i=7∨i=8∨i=9∨i=10∨i=11:=by omega
         · simp only [pus]
           refine any_op (o:=_) rfl rfl ?_
           go_wp2_with fail
           refine hK.out _ _ ?_
           exact ⟨.int .u64 S2,vz1,vz2,vz3,vz4,vz5,vz6,vz7,vz8,vz9,vz10,vz11,(by simp only [pus]),hB,(fun _=>rfl),p1,p2,p3,p4,p5,p6,p7,p8,p9,p10,p11⟩
         · simp only [pus]
           have c0:=V.f0 5 rfl
           have c1:=V.f1 5 rfl
           refine any_op (o:=_) rfl rfl ?_
           go_wp2_with fail
           refine hK.out _ _ ?_
           exact ⟨vz0,.agg #[.int .i64 (e:Int),.int .i64 (m:Int)],vz2,vz3,vz4,vz5,vz6,vz7,vz8,vz9,vz10,vz11,(by simp only [pus]),hB,p0,(fun _=>rfl),p2,p3,p4,p5,p6,p7,p8,p9,p10,p11⟩
         · obtain rfl:=p1 (hdep 1 (by kernel_rfl))
           simp only [pus]
           refine any_op (o:=_) rfl rfl ?_
           have hC:=Lib.hid (HIn.out W)
           go_simp
           refine hC.out.mono ?_
           rintro e W2 ⟨rfl,hb⟩
           refine hK.out _ _ ?_
           exact ⟨vz0,.agg #[.int .i64 (e:Int),.int .i64 (m:Int)],.int .u64 INF,vz3,vz4,vz5,vz6,vz7,vz8,vz9,vz10,vz11,(by simp only [pus]),hB.trans (hb.mono hB.size),p0,(fun _=>rfl),(fun _=>rfl),p3,p4,p5,p6,(fun h=>(p7 h).below hb),p8,p9,p10,p11⟩
         · obtain rfl:=p0 (hdep 0 (by kernel_rfl))
           obtain rfl:=p2 (hdep 2 (by kernel_rfl))
           simp only [pus]
           refine any_op (o:=_) rfl rfl ?_
           go_wp2_with fail
           refine hK.out _ _ ?_
           exact ⟨.int .u64 S2,vz1,.int .u64 INF,.bool false,vz4,vz5,vz6,vz7,vz8,vz9,vz10,vz11,(by simp only [pus]),hB,(fun _=>rfl),p1,(fun _=>rfl),(fun _=>rfl),p4,p5,p6,p7,p8,p9,p10,p11⟩
         · obtain rfl:=p2 (hdep 2 (by kernel_rfl))
           obtain rfl:=p3 (hdep 3 (by kernel_rfl))
           simp only [pus]
           refine any_op (o:=_) rfl rfl ?_
           go_wp2_with fail
           refine hK.out _ _ ?_
           exact ⟨vz0,vz1,.int .u64 INF,.bool false,.bool false,vz5,vz6,vz7,vz8,vz9,vz10,vz11,(by simp only [pus]),hB,p0,p1,(fun _=>rfl),(fun _=>rfl),(fun _=>rfl),p5,p6,p7,p8,p9,p10,p11⟩
         · obtain rfl:=p4 (hdep 4 (by kernel_rfl))
           simp only [pus]
           have c0:=V.f0 5 rfl
           have c1:=V.f1 5 rfl
           refine any_opg (o:=_) rfl (by kernel_rfl) ?_
           go_wp2_with fail
           refine hK.out _ _ ?_
           exact ⟨vz0,vz1,vz2,vz3,.bool false,.agg #[.int .i64 (e:Int),.int .i64 (m:Int)],vz6,vz7,vz8,vz9,vz10,vz11,(by simp only [pus]),hB,p0,p1,p2,p3,(fun _=>rfl),(fun _=>rfl),p6,p7,p8,p9,p10,p11⟩
         · obtain rfl:=p4 (hdep 4 (by kernel_rfl))
           simp only [pus]
           refine any_opg (o:=_) rfl (by kernel_rfl) ?_
           go_wp2_with fail
           refine hK.out _ _ ?_
           exact ⟨vz0,vz1,vz2,vz3,.bool false,vz5,.int .u64 S2,vz7,vz8,vz9,vz10,vz11,(by simp only [pus]),hB,p0,p1,p2,p3,(fun _=>rfl),p5,(fun _=>rfl),p7,p8,p9,p10,p11⟩
         · obtain rfl:=p4 (hdep 4 (by kernel_rfl))
           obtain rfl:=p5 (hdep 5 (by kernel_rfl))
           obtain rfl:=p6 (hdep 6 (by kernel_rfl))
           simp only [pus]
           refine any_opg (o:=_) rfl (by kernel_rfl) ?_
           have hC:=Lib.hid (HUn2.out W)
           go_simp
           refine hC.out.mono ?_
           rintro e W2 ⟨x,y,z,rfl,hn,hb⟩
           refine hK.out _ _ ?_
           exact ⟨vz0,vz1,vz2,vz3,.bool false,.agg #[.int .i64 (e:Int),.int .i64 (m:Int)],.int .u64 S2,.agg #[.slice x y z],vz8,vz9,vz10,vz11,(by simp only [pus]),hB.trans (hb.mono hB.size),p0,p1,p2,p3,(fun _=>rfl),(fun _=>rfl),(fun _=>rfl),(fun _=>⟨⟨x,y,z,rfl⟩,hn⟩),p8,p9,p10,p11⟩
         · obtain rfl:=p4 (hdep 4 (by kernel_rfl))
           simp only [pus]
           have c0:=V.n0 1 rfl
           refine any_opg (o:=_) rfl (by kernel_rfl) ?_
           go_wp2_with fail
           refine hK.out _ _ ?_
           exact ⟨vz0,vz1,vz2,vz3,.bool false,vz5,vz6,vz7,.agg #[.slice xw yw zw],vz9,vz10,vz11,(by simp only [pus]),hB,p0,p1,p2,p3,(fun _=>rfl),p5,p6,p7,(fun _=>rfl),p9,p10,p11⟩
         · generalize hG:wpOp _ _ _ _ _ _ _=G
           obtain rfl:=p4 (hdep 4 (by kernel_rfl))
           have k7:=p7 (hdep 7 (by kernel_rfl))
           obtain ⟨⟨x7,y7,z7,rfl⟩,n7⟩:=k7
           obtain rfl:=p8 (hdep 8 (by kernel_rfl))
           subst hG
           simp only [pus]
           refine any_opg (o:=_) rfl (by kernel_rfl) ?_
           have hC:=Lib.hid (HC.out W _ _ n7 (hWh.below hB (Nat.le_refl _)))
           go_simp
           refine hC.out.mono ?_
           rintro e W2 ⟨rfl,hb⟩
           refine hK.out _ _ ?_
           exact ⟨vz0,vz1,vz2,vz3,.bool false,vz5,vz6,.agg #[.slice x7 y7 z7],.agg #[.slice xw yw zw],.int .i64 C,vz10,vz11,(by simp only [pus]),hB.trans (hb.mono hB.size),p0,p1,p2,p3,(fun _=>rfl),p5,p6,(fun _=>(show Nm _ _ _ from ⟨⟨x7,y7,z7,rfl⟩,n7⟩).below hb),(fun _=>rfl),(fun _=>rfl),p10,p11⟩
         · obtain rfl:=p4 (hdep 4 (by kernel_rfl))
           obtain rfl:=p9 (hdep 9 (by kernel_rfl))
           simp only [pus]
           refine any_opg (o:=_) rfl (by kernel_rfl) ?_
           go_wp2_with fail
           refine hK.out _ _ ?_
           exact ⟨vz0,vz1,vz2,vz3,.bool false,vz5,vz6,vz7,vz8,.int .i64 C,.bool g,vz11,(by simp only [pus]),hB,p0,p1,p2,p3,(fun _=>rfl),p5,p6,p7,p8,(fun _=>rfl),(fun _=>rfl),p11⟩
         · obtain rfl:=p4 (hdep 4 (by kernel_rfl))
           obtain rfl:=p10 (hdep 10 (by kernel_rfl))
           simp only [pus]
           refine any_op (o:=_) rfl rfl ?_
           go_wp2_with fail
           refine hK.out _ _ ?_
           exact ⟨vz0,vz1,vz2,vz3,.bool false,vz5,vz6,vz7,vz8,vz9,.bool g,.bool g,(by simp only [pus]),hB,p0,p1,p2,p3,(fun _=>rfl),p5,p6,p7,p8,p9,(fun _=>rfl),(fun _=>rfl)⟩
       · intro dj a W hd hI
         obtain ⟨vz0,vz1,vz2,vz3,vz4,vz5,vz6,vz7,vz8,vz9,vz10,vz11,rfl,hB,p0,p1,p2,p3,p4,p5,p6,p7,p8,p9,p10,p11⟩:=hI
         have V:=V2.below hB
         obtain rfl:=p0 (hd 0 (by omega))
         obtain rfl:=p1 (hd 1 (by omega))
         obtain rfl:=p2 (hd 2 (by omega))
         obtain rfl:=p3 (hd 3 (by omega))
         obtain rfl:=p4 (hd 4 (by omega))
         obtain rfl:=p5 (hd 5 (by omega))
         obtain rfl:=p6 (hd 6 (by omega))
         obtain ⟨⟨xz7,yz7,zz7,rfl⟩,nz7⟩:=p7 (hd 7 (by omega))
         obtain rfl:=p8 (hd 8 (by omega))
         obtain rfl:=p9 (hd 9 (by omega))
         obtain rfl:=p10 (hd 10 (by omega))
         obtain rfl:=p11 (hd 11 (by omega))
         clear hd p0 p1 p2 p3 p4 p5 p6 p7 p8 p9 p10 p11 dj
         simp only [pus]
         show wpAny Tryz.prog .any _ _ 0 #[true,true,true,true,true,true,true,true,true,true,true,true] _ _
         refine ⟨by kernel_rfl,?_⟩
         have HN3:Hid ((IsN W (.agg #[.slice xq7 yq7 zq7]) U∧IsN W (.agg #[.slice rq7 sq7 tq7]) D)∧(IsN W (.agg #[.slice xw yw zw]) Wh∧IsN W (.agg #[.slice xr yr zr]) R)):=Lib.hid ⟨⟨HN2.out.1.1.below hB (Nat.le_refl _),HN2.out.1.2.below hB (Nat.le_refl _)⟩,HN2.out.2.1.below hB (Nat.le_refl _),HN2.out.2.2.below hB (Nat.le_refl _)⟩
         have V3:=V
         clear V V2 hB HN2 nz7 hWh
         cases g with
         | true =>
          have HV:=Lib.hid V3
          clear V3
          go_wp2_with fail
          go_round
          case rel=>exact ⟨k,_,s,SI,by omega,by have:=Hz.out;omega,rfl,Lib.hid ⟨HSI.out,Hsk.out rfl⟩,HV,HN3⟩
          case measure=>simp [intOf];omega
         | false =>
          have c0:=V3.s0 2 rfl;have f0:=V3.frozen 2 0 rfl
          have HV:Hid (Mq w [(W5.heap.size + 1,25,#[.slice xr yr zr]),(W5.heap.size,25,#[.slice xw yw zw]),(bq8,118,#[.int .u64 S2,.bool false,.slice xq7 yq7 zq7,.slice rq7 sq7 tq7]),(w.heap.size + 1 + 1,118,#[.int .u64 0,.bool false,.slice none 0 0,.slice none 0 0]),(w.heap.size + 1,27,#[.bool zs,.slice p n c,.slice p' n' c']),(w.heap.size,63,#[.int .i64 (e:Int),.int .i64 (m:Int)])] [] [] _):=Lib.hid (V3.putN 2 0 rfl (Hdst.out _) (.int .u64 S2))
          obtain ⟨⟨oU,oD,oW,oR⟩,-,-⟩:=oo.out
          have HN4:=Lib.hid (And.intro (And.intro (isN_put (i:=0) (x:=.int .u64 S2) HN3.out.1.1 oU) (isN_put (i:=0) (x:=.int .u64 S2) HN3.out.1.2 oD)) (And.intro (isN_put (i:=0) (x:=.int .u64 S2) HN3.out.2.1 oW) (isN_put (i:=0) (x:=.int .u64 S2) HN3.out.2.2 oR)))
          clear V3 HN3 oU oD oW oR
          go_wp2_with fail
          go_round
          case rel=>exact ⟨k,_,s + 2^k,S2,by omega,by have:=Hz.out;omega,rfl,Lib.hid ⟨HS2.out,Htk.out rfl⟩,HV,HN4⟩
          case measure=>simp [intOf];omega
end Go.Proofs.YtnhobagjpjcigaaGreatDoor
