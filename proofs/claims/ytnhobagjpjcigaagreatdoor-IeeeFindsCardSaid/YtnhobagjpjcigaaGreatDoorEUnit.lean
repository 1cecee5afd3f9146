/-
 Law 4: the number of a size in units (ieee's units).
-/
import Derived.Test.YtnhobagjpjcigaaGreatDoorEForm
import Derived.Test.YtnhobagjpjcigaaGreatDoorNDvM
namespace Go.Proofs.YtnhobagjpjcigaaGreatDoor
open Go.RowKit
set_option linter.unusedVariables false
theorem nOf (n:Nat) (hn:n < 18446744073709551616) (w:World):Calls Tryz.prog 28 #[.int .u64 (n:Int)] w (GaveV n w):=(of_any n hn w).mono fun e w' h'=>gaveV h'
theorem nShift (N d:Nat) (v:Value) (BY:Int) (w:World) (h:IsN w v N) (hN:N < 18446744073709551616^100) (hd:d≤20000) (hBY:BY=(d:Int)):Calls Tryz.prog 91 #[v,.int .i64 BY] w (GaveV (N * 2^d) w) :=
 (shu_any N d v BY w h (q100 9000 hN (by omega)) hd hBY).mono fun e w' h'=>gaveV (gaveF_n h')
theorem two_w {n k:Nat} (h:n≤64 * k):2^n≤18446744073709551616^k:=by
 have e1:(18446744073709551616:Nat)=2^64:=by decide
 rw [e1,← Nat.pow_mul]
 exact Nat.pow_le_pow_right (by decide) h
theorem two_lt_w {n k:Nat} (h:n < 64 * k):2^n < 18446744073709551616^k:=Nat.lt_of_lt_of_le (Nat.pow_lt_pow_right (by decide) h) (two_w (Nat.le_refl _))
theorem un_w {e m s:Nat} (he:e≤11) (hm:m≤52) (hs:s < 2^(e + m)):un m s < 18446744073709551616^35:=by
 have h1:=un_big (m:=m) (s:=s) (k:=e) (by rw [Nat.add_comm];exact hs)
 have h2:2^e≤2^11:=Nat.pow_le_pow_right (by decide) he
 exact Nat.lt_of_lt_of_le h1 (two_w (by omega))
set_option maxRecDepth 100000 in
set_option maxHeartbeats 2000000 in
theorem units_any (e m s:Nat) (he:e≤11) (hm:m≤52) (hs:s < 2^(e + m)) (w:World):Calls Tryz.prog 90 #[.agg #[.int .i64 (e:Int),.int .i64 (m:Int)],.int .u64 (s:Int)] w (GaveV (un m s) w):=by
 have V0:=(Mq.refl w).two 63 25 #[.int .i64 (e:Int),.int .i64 (m:Int)] #[.slice none 0 0]
 have hw:=un_w he hm hs
 have hP:2^m≤2^52:=Nat.pow_le_pow_right (by decide) hm
 have hP0:0 < 2^m:=Nat.pow_pos (by decide)
 have hE:2^e≤2^11:=Nat.pow_le_pow_right (by decide) he
 have hs64:s < 2^63:=Nat.lt_of_lt_of_le hs (Nat.pow_le_pow_right (by decide) (by omega))
 have hx:s / 2^m < 2^e:=Nat.div_lt_of_lt_mul (by rw [← Nat.pow_add,Nat.add_comm];exact hs)
 have hr:=Nat.mod_lt s hP0
 have e1:=sh_one (p:=m) (by omega)
 rw [Int.one_mul] at e1
 have e2:((m:Int)).toNat=m:=by omega
 have e3:=esh_down (x:=s) (p:=m)
 have e4:=and_low (b:=s) (p:=m) (by omega) (by omega)
 have e5:=or_add (x:=s % 2^m) (y:=2^m) (k:=m) hr (Nat.mod_self _) (by omega) (by omega)
 have hm0:(0:Int)≤(m:Int):=by omega
 have hm1:(m:Int)≤63:=by omega
 have hun:un m s=if s / 2^m=0 then s else (2^m + s % 2^m) * 2^(s / 2^m - 1):=rfl
 have hmod:s / 2^m=0→s % 2^m=s:=fun h=>by have:=Nat.div_add_mod s (2^m);rw [h,Nat.mul_zero,Nat.zero_add] at this;exact this
 obtain ⟨UN,hUN⟩:∃ U,un m s=U:=⟨_,rfl⟩
 rw [hUN] at hun hw ⊢
 obtain ⟨q,hq⟩:∃ q,s / 2^m=q:=⟨_,rfl⟩
 obtain ⟨r,hrr⟩:∃ r,s % 2^m=r:=⟨_,rfl⟩
 obtain ⟨P,hPP⟩:∃ P,2^m=P:=⟨_,rfl⟩
 rw [hq] at hun hmod hx e3
 rw [hrr] at hun hmod hr e4 e5
 rw [hPP] at hun hr hP hP0 e1 e4 e5
 obtain ⟨S,hS⟩:∃ S:Int,(s:Int)=S:=⟨_,rfl⟩
 obtain ⟨Q,hQ⟩:∃ S:Int,(q:Int)=S:=⟨_,rfl⟩
 obtain ⟨PI,hPI⟩:∃ S:Int,(P:Int)=S:=⟨_,rfl⟩
 obtain ⟨PM,hPM⟩:∃ S:Int,PI - 1=S:=⟨_,rfl⟩
 obtain ⟨R,hR⟩:∃ S:Int,(r:Int)=S:=⟨_,rfl⟩
 rw [hS,hQ] at e3
 rw [hPI] at e1
 rw [hS,hPI,hPM,hR] at e4
 rw [hPI,hR] at e5
 rw [hS]
 have hQ0:0≤Q:=by omega
 have hQ1:Q < 2048:=by omega
 have hPI0:1≤PI:=by omega
 have hPI1:PI≤4503599627370496:=by omega
 have q0:=V0.f0 1 rfl;have q1:=V0.f1 1 rfl
 have HV0:=Lib.hid V0
 have HW:=Lib.hid hw
 by_cases h0:q=0
 · have hz:(Q == 0)=true:=by simp;omega
   rw [if_pos h0] at hun
   have hrs:=hmod h0
   have HO:Hid (∀ W,Calls Tryz.prog 28 #[.int .u64 R] W (GaveV UN W)):=Lib.hid (fun W=>by
    have h:=nOf r (by omega) W
    rw [hR] at h
    rw [hun,← hrs]
    exact h)
   clear hun hmod hq hrr hPP hw hx hr hP hP0 hE hs64 hs e5 hUN h0 hrs V0 hS hQ hPI hR
   go_enter Tryz.func90,Tryz.ntmps90
   go_wp2_with fail
   go_quiet (fail)
   go_wp2_with fail
   refine (HO.out _).mono ?_
   rintro ε w1 ⟨x1,y1,z1,rfl,i1,hb⟩
   have V1:=(((HV0.out.dn _).below hb)).cons i1 (Nat.lt_of_lt_of_le HW.out (w64_mono (by omega)))
   have r0:=V1.n0 0 rfl;have fr:=V1.frozen 0 0 rfl
   have HF:=Lib.hid (V1.fin1 0 0 rfl rfl)
   clear V1 hb i1 q0 q1
   go_wp2_with fail
   exact bodyPost_ret (res_nat rfl _ _ _ _ rfl HF.out.1) rfl HF.out.2
 · have hz:(Q == 0)=false:=by simp;omega
   rw [if_neg h0] at hun
   obtain ⟨OR,hOR⟩:∃ S:Int,((P + r:Nat):Int)=S:=⟨_,rfl⟩
   rw [hOR] at e5
   obtain ⟨Q1,hQ1e⟩:∃ S:Int,Q - 1=S:=⟨_,rfl⟩
   have hPr:P + r < 18446744073709551616:=by omega
   have HO:Hid (∀ W,Calls Tryz.prog 28 #[.int .u64 OR] W (GaveV (P + r) W)):=Lib.hid (fun W=>by
    have h:=nOf (P + r) hPr W
    rw [hOR] at h
    exact h)
   have HSh:Hid (∀ W v,IsN W v (P + r)→Calls Tryz.prog 91 #[v,.int .i64 Q1] W (GaveV UN W)):=Lib.hid (fun W v h=>by
    have h2:=nShift (P + r) (q - 1) v Q1 W h (Nat.lt_of_lt_of_le hPr (by rw [← Nat.pow_one 18446744073709551616];exact w64_mono (by omega))) (by omega) (by omega)
    rw [← hun] at h2
    exact h2)
   clear hun hmod hq hrr hPP hw hx hr hP hP0 hE hs64 hs hUN h0 V0 hS hQ hPI hR hPr hOR
   go_enter Tryz.func90,Tryz.ntmps90
   go_wp2_with fail
   go_quiet (fail)
   have V1:=HV0.out.dn nq
   have q0:=V1.f0 1 rfl;have q1:=V1.f1 1 rfl
   go_wp2_with fail
   refine (HO.out _).mono ?_
   rintro ε w1 ⟨x1,y1,z1,rfl,i1,hb⟩
   have V2:=V1.below hb
   clear V1 hb q0 q1
   go_wp2_with fail
   refine (HSh.out _ _ i1).mono ?_
   rintro ε w2 ⟨x2,y2,z2,rfl,i2,hb⟩
   have V3:=(V2.below hb).cons i2 (Nat.lt_of_lt_of_le HW.out (w64_mono (by omega)))
   have r0:=V3.n0 0 rfl;have fr:=V3.frozen 0 0 rfl
   have HF:=Lib.hid (V3.fin1 0 0 rfl rfl)
   clear V2 V3 hb i1 i2
   go_wp2_with fail
   exact bodyPost_ret (res_nat rfl _ _ _ _ rfl HF.out.1) rfl HF.out.2
end Go.Proofs.YtnhobagjpjcigaaGreatDoor
