/-
 Law 4: forms: signs, infinities, units.
-/
import Derived.Test.YtnhobagjpjcigaaGreatDoorEBit
import Derived.Test.YtnhobagjpjcigaaGreatDoorQC
import Derived.Deep.QuietTactic
import Derived.BigQuiet
namespace Go.Proofs.YtnhobagjpjcigaaGreatDoor
open Go.RowKit
set_option linter.unusedVariables false
section
variable {w W:World} {bx:List (Nat × TypeId × Array Value)} {l:List (Value × Nat)} {r:List (Value × Rat)}
theorem Mq.f0 (h:Mq w bx l r W) (k:Nat) {b:Nat} {t:TypeId} {x y:Value} (e:bx[k]?=some (b,t,#[x,y])):W.cell? ⟨b,0,none⟩=some x:=h.cell k 0 e rfl
theorem Mq.f1 (h:Mq w bx l r W) (k:Nat) {b:Nat} {t:TypeId} {x y:Value} (e:bx[k]?=some (b,t,#[x,y])):W.cell? ⟨b,1,none⟩=some y:=h.cell k 1 e rfl
end
theorem bel_dn {B:Nat} {a w:World} (h:Below B a w) (n:Nat):Below B a (w.drewN n):=h.trans ⟨rfl,rfl,rfl,Nat.le_refl _,fun _ _=>rfl⟩
theorem Mq.dn {w W:World} {bx:List (Nat × TypeId × Array Value)} {l:List (Value × Nat)} {r:List (Value × Rat)} (h:Mq w bx l r W) (n:Nat):Mq w bx l r (W.drewN n):=h.below (bel_dn (Below.refl _ _) n)
set_option maxRecDepth 100000 in
theorem sign_any (e m:Nat) (h:e + m≤63) (w:World):Calls Tryz.prog 99 #[.agg #[.int .i64 (e:Int),.int .i64 (m:Int)]] w fun E w'=>E=.returned (.int .u64 ((2^(e + m):Nat):Int))∧Below w.heap.size w w':=by
 have V:=(Mq.refl w).alloc 63 #[.int .i64 (e:Int),.int .i64 (m:Int)]
 have q0:=V.f0 0 rfl;have q1:=V.f1 0 rfl
 have HB:=Lib.hid V.bel
 have e1:=sh_one h
 rw [Int.one_mul] at e1
 have e2:((e:Int) + (m:Int)).toNat=e + m:=by omega
 obtain ⟨S,hS⟩:∃ S:Int,((2^(e + m):Nat):Int)=S:=⟨_,rfl⟩
 rw [hS] at e1 ⊢
 clear V hS
 go_enter Tryz.func99,Tryz.ntmps99
 go_wp2_with fail
 go_ret
 exact ⟨rfl,HB.out⟩
set_option maxRecDepth 100000 in
theorem valid_any (e m:Int) (h1:-9223372036854775808≤e) (h2:e≤9223372036854775807) (h3:-9223372036854775808≤m) (h4:m≤9223372036854775807) (w:World):Calls Tryz.prog 34 #[.agg #[.int .i64 e,.int .i64 m]] w fun E w'=>E=.returned (.bool (decide (2≤e∧e≤11∧1≤m∧m≤52)))∧Below w.heap.size w w':=by
 have V:=(Mq.refl w).alloc 63 #[.int .i64 e,.int .i64 m]
 have q0:=V.f0 0 rfl;have q1:=V.f1 0 rfl
 have HB:=Lib.hid V.bel
 clear V
 by_cases k1:2≤e
 · by_cases k2:e≤11
   · by_cases k3:1≤m
     · have d1:decide (2≤e)=true:=decide_eq_true k1
       have d2:decide (e≤11)=true:=decide_eq_true k2
       have d3:decide (1≤m)=true:=decide_eq_true k3
       have d4:decide (2≤e∧e≤11∧1≤m∧m≤52)=decide (m≤52):=decide_eq_decide.2 ⟨fun h=>h.2.2.2,fun h=>⟨k1,k2,k3,h⟩⟩
       rw [d4]
       go_enter Tryz.func34,Tryz.ntmps34
       go_wp2_with fail
       go_ret
       exact ⟨rfl,HB.out⟩
     · have d1:decide (2≤e)=true:=decide_eq_true k1
       have d2:decide (e≤11)=true:=decide_eq_true k2
       have d3:decide (1≤m)=false:=decide_eq_false k3
       have d4:decide (2≤e∧e≤11∧1≤m∧m≤52)=false:=decide_eq_false (fun h=>k3 h.2.2.1)
       rw [d4]
       go_enter Tryz.func34,Tryz.ntmps34
       go_wp2_with fail
       go_ret
       exact ⟨rfl,HB.out⟩
   · have d1:decide (2≤e)=true:=decide_eq_true k1
     have d2:decide (e≤11)=false:=decide_eq_false k2
     have d4:decide (2≤e∧e≤11∧1≤m∧m≤52)=false:=decide_eq_false (fun h=>k2 h.2.1)
     rw [d4]
     go_enter Tryz.func34,Tryz.ntmps34
     go_wp2_with fail
     go_ret
     exact ⟨rfl,HB.out⟩
 · have d1:decide (2≤e)=false:=decide_eq_false k1
   have d4:decide (2≤e∧e≤11∧1≤m∧m≤52)=false:=decide_eq_false (fun h=>k1 h.1)
   rw [d4]
   go_enter Tryz.func34,Tryz.ntmps34
   go_wp2_with fail
   go_ret
   exact ⟨rfl,HB.out⟩
def inf (e m:Nat):Nat:=2^(e + m) - 2^m
set_option maxRecDepth 100000 in
set_option maxHeartbeats 2000000 in
theorem inf_any (e m:Nat) (h:e + m≤63) (w:World):Calls Tryz.prog 100 #[.agg #[.int .i64 (e:Int),.int .i64 (m:Int)]] w fun E w'=>E=.returned (.int .u64 (inf e m:Int))∧Below w.heap.size w w':=by
 obtain ⟨W0,hW0⟩:∃ W0,w.alloc (.cells #[.int .i64 (e:Int),.int .i64 (m:Int)] 63)=W0:=⟨_,rfl⟩
 have V0:=(Mq.refl w).alloc 63 #[.int .i64 (e:Int),.int .i64 (m:Int)]
 rw [hW0] at V0
 have h1:2^m≤2^(e + m):=Nat.pow_le_pow_right (by decide) (by omega)
 have h2:2^(e + m)≤2^63:=Nat.pow_le_pow_right (by decide) h
 have e1:=sh_one (p:=m) (by omega)
 rw [Int.one_mul] at e1
 have HSg:Hid (∀ W,Calls Tryz.prog 99 #[.agg #[.int .i64 (e:Int),.int .i64 (m:Int)]] W fun E w'=>E=.returned (.int .u64 ((2^(e + m):Nat):Int))∧Below W.heap.size W w'):=Lib.hid (fun W=>sign_any e m h W)
 obtain ⟨INF,hI⟩:∃ I:Int,((inf e m:Nat):Int)=I:=⟨_,rfl⟩
 obtain ⟨SG,hSG⟩:∃ S:Int,((2^(e + m):Nat):Int)=S:=⟨_,rfl⟩
 obtain ⟨MB,hMB⟩:∃ S:Int,((2^m:Nat):Int)=S:=⟨_,rfl⟩
 have e3:SG - MB=INF:=by rw [← hI,← hSG,← hMB];unfold inf;omega
 have hI0:0≤INF:=by rw [← hI];omega
 have hI1:INF < 18446744073709551616:=by
  have:inf e m≤2^(e + m):=Nat.sub_le _ _
  omega
 have hm0:(0:Int)≤(m:Int):=by omega
 have hm1:(m:Int)≤63:=by omega
 have e2:((m:Int)).toNat=m:=by omega
 rw [hI]
 rw [hSG] at HSg
 rw [hMB] at e1
 clear hI hSG hMB h1 h2 h
 go_enter Tryz.func100,Tryz.ntmps100
 go_wp2_with fail
 refine wp_region_inv 7 (fun a0 dj a W=>∃ vq0 vq1 vq2 vq3 vq4 vq5 vq6:Value,a=puts a0 [(3,vq0),(4,vq1),(5,vq2),(6,vq3),(7,vq4),(8,vq5),(2,vq6)]∧Below W0.heap.size W0 W∧(dj 0=true→vq0=.agg #[.int .i64 (e:Int),.int .i64 (m:Int)])∧(dj 1=true→vq1=.int .u64 SG)∧(dj 2=true→vq2=.pointer (some ⟨w.heap.size,1,none⟩))∧(dj 3=true→vq3=.int .i64 (m:Int))∧(dj 4=true→vq4=.int .u64 MB)∧(dj 5=true→vq5=.int .u64 INF)∧(dj 6=true→vq6=.int .u64 INF)) (by kernel_rfl) (by kernel_rfl) (by kernel_rfl) ?_ ?_ ?_ ?_
 · intro dj hcl i hi1 hi2 hd j hj
   exact absurd (Nat.lt_of_lt_of_le hi2 (of_decide_eq_true (by kernel_rfl))) (Nat.not_lt.2 hi1)
 · refine ⟨undef,undef,undef,undef,undef,undef,.int .u64 0,(by simp only [pus]),(Below.refl _ _).drew,(fun h=>by cases h),(fun h=>by cases h),(fun h=>by cases h),(fun h=>by cases h),(fun h=>by cases h),(fun h=>by cases h),(fun h=>by cases h)⟩
 · intro dj a W i hi hdi hcl hdep hI K hK
   obtain ⟨vq0,vq1,vq2,vq3,vq4,vq5,vq6,rfl,hB,p0,p1,p2,p3,p4,p5,p6⟩:=hI
   have V:=V0.below hB
   obtain rfl | rfl | rfl | rfl | rfl | rfl | rfl:i=0∨i=1∨i=2∨i=3∨i=4∨i=5∨i=6:=by omega
   · simp only [pus]
     have c0:=V.f0 0 rfl
     have c1:=V.f1 0 rfl
     refine any_op (o:=_) rfl rfl ?_
     go_wp2_with fail
     refine hK.out _ _ ?_
     exact ⟨.agg #[.int .i64 (e:Int),.int .i64 (m:Int)],vq1,vq2,vq3,vq4,vq5,vq6,(by simp only [pus]),hB,(fun _=>rfl),p1,p2,p3,p4,p5,p6⟩
   · obtain rfl:=p0 (hdep 0 (by kernel_rfl))
     simp only [pus]
     refine any_op (o:=_) rfl rfl ?_
     have hC:=Lib.hid (HSg.out W)
     go_simp
     refine hC.out.mono ?_
     rintro e W2 ⟨rfl,hb⟩
     refine hK.out _ _ ?_
     exact ⟨.agg #[.int .i64 (e:Int),.int .i64 (m:Int)],.int .u64 SG,vq2,vq3,vq4,vq5,vq6,(by simp only [pus]),hB.trans (hb.mono hB.size),(fun _=>rfl),(fun _=>rfl),p2,p3,p4,p5,p6⟩
   · simp only [pus]
     refine any_op (o:=_) rfl rfl ?_
     go_wp2_with fail
     refine hK.out _ _ ?_
     exact ⟨vq0,vq1,.pointer (some ⟨w.heap.size,1,none⟩),vq3,vq4,vq5,vq6,(by simp only [pus]),hB,p0,p1,(fun _=>rfl),p3,p4,p5,p6⟩
   · obtain rfl:=p2 (hdep 2 (by kernel_rfl))
     simp only [pus]
     have c0:=V.f1 0 rfl
     refine any_op (o:=_) rfl rfl ?_
     go_wp2_with fail
     refine hK.out _ _ ?_
     exact ⟨vq0,vq1,.pointer (some ⟨w.heap.size,1,none⟩),.int .i64 (m:Int),vq4,vq5,vq6,(by simp only [pus]),hB,p0,p1,(fun _=>rfl),(fun _=>rfl),p4,p5,p6⟩
   · obtain rfl:=p3 (hdep 3 (by kernel_rfl))
     simp only [pus]
     refine any_op (o:=_) rfl rfl ?_
     go_wp2_with fail
     refine hK.out _ _ ?_
     exact ⟨vq0,vq1,vq2,.int .i64 (m:Int),.int .u64 MB,vq5,vq6,(by simp only [pus]),hB,p0,p1,p2,(fun _=>rfl),(fun _=>rfl),p5,p6⟩
   · obtain rfl:=p1 (hdep 1 (by kernel_rfl))
     obtain rfl:=p4 (hdep 4 (by kernel_rfl))
     simp only [pus]
     refine any_op (o:=_) rfl rfl ?_
     go_wp2_with fail
     refine hK.out _ _ ?_
     exact ⟨vq0,.int .u64 SG,vq2,vq3,.int .u64 MB,.int .u64 INF,vq6,(by simp only [pus]),hB,p0,(fun _=>rfl),p2,p3,(fun _=>rfl),(fun _=>rfl),p6⟩
   · obtain rfl:=p0 (hdep 0 (by kernel_rfl))
     obtain rfl:=p1 (hdep 1 (by kernel_rfl))
     obtain rfl:=p2 (hdep 2 (by kernel_rfl))
     obtain rfl:=p3 (hdep 3 (by kernel_rfl))
     obtain rfl:=p4 (hdep 4 (by kernel_rfl))
     obtain rfl:=p5 (hdep 5 (by kernel_rfl))
     simp only [pus]
     refine any_op (o:=_) rfl rfl ?_
     go_wp2_with fail
     refine hK.out _ _ ?_
     exact ⟨.agg #[.int .i64 (e:Int),.int .i64 (m:Int)],.int .u64 SG,.pointer (some ⟨w.heap.size,1,none⟩),.int .i64 (m:Int),.int .u64 MB,.int .u64 INF,.int .u64 INF,(by simp only [pus]),hB,(fun _=>rfl),(fun _=>rfl),(fun _=>rfl),(fun _=>rfl),(fun _=>rfl),(fun _=>rfl),(fun _=>rfl)⟩
 · intro dj a W hd hI
   obtain ⟨vq0,vq1,vq2,vq3,vq4,vq5,vq6,rfl,hB,p0,p1,p2,p3,p4,p5,p6⟩:=hI
   have V:=V0.below hB
   obtain rfl:=p0 (hd 0 (by omega))
   obtain rfl:=p1 (hd 1 (by omega))
   obtain rfl:=p2 (hd 2 (by omega))
   obtain rfl:=p3 (hd 3 (by omega))
   obtain rfl:=p4 (hd 4 (by omega))
   obtain rfl:=p5 (hd 5 (by omega))
   obtain rfl:=p6 (hd 6 (by omega))
   simp only [pus]
   show wpAny Tryz.prog .any _ _ 0 #[true,true,true,true,true,true,true] _ _
   have HB:=Lib.hid V.bel
   clear V V0
   refine ⟨by kernel_rfl,?_⟩
   go_wp2_with fail
   go_ret
   exact ⟨rfl,HB.out⟩
def upl (e m:Nat):Nat:=2^(e - 1) - 2 + m
set_option maxRecDepth 100000 in
set_option maxHeartbeats 2000000 in
theorem upl_any (e m:Nat) (he:2≤e) (h:e + m≤63) (w:World):Calls Tryz.prog 101 #[.agg #[.int .i64 (e:Int),.int .i64 (m:Int)]] w fun E w'=>E=.returned (.int .i64 (upl e m:Int))∧Below w.heap.size w w':=by
 have V:=(Mq.refl w).alloc 63 #[.int .i64 (e:Int),.int .i64 (m:Int)]
 have q0:=V.f0 0 rfl;have q1:=V.f1 0 rfl
 have HB:=Lib.hid V.bel
 have e1:=sh_one_i (p:=e - 1) (by omega)
 rw [Int.one_mul] at e1
 have e2:((e:Int) - 1).toNat=e - 1:=by omega
 have h1:2^(e - 1)≤2^62:=Nat.pow_le_pow_right (by decide) (by omega)
 have h0:2^1≤2^(e - 1):=Nat.pow_le_pow_right (by decide) (by omega)
 obtain ⟨U,hU⟩:∃ S:Int,((upl e m:Nat):Int)=S:=⟨_,rfl⟩
 obtain ⟨P,hP⟩:∃ S:Int,((2^(e - 1):Nat):Int)=S:=⟨_,rfl⟩
 have e3:P - 2 + (m:Int)=U:=by rw [← hU,← hP];unfold upl;omega
 have hP0:2≤P:=by omega
 have hP1:P≤4611686018427387904:=by omega
 rw [hP] at e1
 rw [hU]
 clear V hU hP h1 h0
 go_enter Tryz.func101,Tryz.ntmps101
 go_wp2_with fail
 go_quiet (fail)
 go_wp2_with fail
 go_ret
 exact ⟨rfl,bel_dn HB.out _⟩
set_option maxRecDepth 100000 in
set_option maxHeartbeats 2000000 in
theorem pattern_any (e m s:Nat) (z:Bool) (h:e + m≤63) (hs:s < 2^(e + m)) (w:World):Calls Tryz.prog 87 #[.agg #[.int .i64 (e:Int),.int .i64 (m:Int)],.bool z,.int .u64 (s:Int)] w fun E w'=>E=.returned (.int .u64 ((if z=true∧0 < s then 2^(e + m) + s else s:Nat):Int))∧Below w.heap.size w w':=by
 have V:=(Mq.refl w).alloc 63 #[.int .i64 (e:Int),.int .i64 (m:Int)]
 have q0:=V.f0 0 rfl;have q1:=V.f1 0 rfl
 have HV:=Lib.hid V
 clear V
 have h2:2^(e + m)≤2^63:=Nat.pow_le_pow_right (by decide) h
 have HSg:Hid (∀ W,Calls Tryz.prog 99 #[.agg #[.int .i64 (e:Int),.int .i64 (m:Int)]] W fun E w'=>E=.returned (.int .u64 ((2^(e + m):Nat):Int))∧Below W.heap.size W w'):=Lib.hid (fun W=>sign_any e m h W)
 have hor:=or_add (x:=s) (y:=2^(e + m)) (k:=e + m) hs (Nat.mod_self _) (by omega) (by omega)
 cases z with
 | false =>
  rw [if_neg (by simp)]
  obtain ⟨S,hS⟩:∃ S:Int,(s:Int)=S:=⟨_,rfl⟩
  rw [hS]
  clear hS hor h2 hs HSg
  go_enter Tryz.func87,Tryz.ntmps87
  go_wp2_with fail
  go_ret
  exact ⟨rfl,HV.out.bel⟩
 | true =>
  by_cases h0:0 < s
  · rw [if_pos ⟨rfl,h0⟩]
    obtain ⟨R,hR⟩:∃ S:Int,((2^(e + m) + s:Nat):Int)=S:=⟨_,rfl⟩
    obtain ⟨S,hS⟩:∃ S:Int,(s:Int)=S:=⟨_,rfl⟩
    have hS0:0 < S:=by omega
    obtain ⟨P,hP⟩:∃ S:Int,((2^(e + m):Nat):Int)=S:=⟨_,rfl⟩
    rw [hP] at HSg
    rw [hP,hS,hR] at hor
    rw [hR,hS]
    clear hP hS hR h2 hs h0
    go_enter Tryz.func87,Tryz.ntmps87
    go_wp2_with fail
    refine (HSg.out _).mono ?_
    rintro E w1 ⟨rfl,hb⟩
    have HB:=Lib.hid (HV.out.below hb).bel
    clear hb q0 q1
    go_wp2_with fail
    go_ret
    exact ⟨rfl,HB.out⟩
  · rw [if_neg (fun h=>h0 h.2)]
    obtain rfl:s=0:=by omega
    clear hor h2 hs HSg h0
    go_enter Tryz.func87,Tryz.ntmps87
    go_wp2_with fail
    go_ret
    exact ⟨rfl,HV.out.bel⟩
end Go.Proofs.YtnhobagjpjcigaaGreatDoor
