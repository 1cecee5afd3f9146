/-
 Law 2: the numbers of sums and products of fractions.
 Law 2: Text, Of.
-/
import Derived.Test.YtnhobagjpjcigaaGreatDoorQB
namespace Go.Proofs.YtnhobagjpjcigaaGreatDoor
set_option linter.unusedVariables false
end Go.Proofs.YtnhobagjpjcigaaGreatDoor
namespace Go.Proofs.YtnhobagjpjcigaaGreatDoor
open Go.RowKit
set_option linter.unusedVariables false
def dg (N:Nat):ByteArray:=⟨(Lib.decDigits N).toArray⟩
def tx (x:Rat):ByteArray:=if x.den=1 then (if x.num < 0 then ⟨#[45]⟩ ++ dg x.num.natAbs else dg x.num.natAbs) else (if x.num < 0 then ⟨#[45]⟩ ++ dg x.num.natAbs else dg x.num.natAbs) ++ (⟨#[47]⟩ ++ dg x.den)
theorem w_ten (k:Nat):18446744073709551616^k≤10^(20 * k):=by
 rw [Nat.pow_mul]
 exact Nat.pow_le_pow_left (by decide) k
theorem dg_size {N k:Nat} (h:N < 18446744073709551616^k) (hk:0 < k):(dg N).size≤20 * k:=by
 show (Lib.decDigits N).toArray.size≤_
 rw [List.size_toArray,Lib.decDigits_length]
 have:=nDigits_le (20 * k - 1) N (by rw [show 20 * k - 1 + 1=20 * k from by omega];exact Nat.lt_of_lt_of_le h (w_ten k))
 omega
set_option maxRecDepth 100000 in
set_option maxHeartbeats 2000000 in
theorem text_r (x:Rat) (va:Value) (w:World) (ha:IsR w va x) (hx:Sz 100 x) (htab:Tab w):Calls Tryz.prog 13 #[va] w fun e w'=>e=.returned (.string (tx x))∧Below w.heap.size w w':=by
 have hR:=ha
 obtain ⟨p,n,c,p',n',c',rfl,h1,h2⟩:=ha
 obtain ⟨z,hz⟩:∃ z,decide (x.num < 0)=z:=⟨_,rfl⟩
 obtain ⟨h,hw⟩:∃ h,decide (x.den=1)=h:=⟨_,rfl⟩
 rw [hz] at hR ⊢
 have Hz:=Lib.hid hz;have Hw:=Lib.hid hw
 have V:=((((Mq.refl w).rcons hR).cons h2 hx.dn).cons h1 hx.1).alloc 27 #[.bool z,.slice p n c,.slice p' n' c']
 have b0:=V.c0 0 rfl;have b1:=V.c1 0 rfl;have b2:=V.c2 0 rfl
 obtain ⟨T1,hT1⟩:∃ T,dg x.num.natAbs=T:=⟨_,rfl⟩
 obtain ⟨T2,hT2⟩:∃ T,dg x.den=T:=⟨_,rfl⟩
 have s1:T1.size≤2000:=by rw [← hT1];exact dg_size hx.1 (by omega)
 have s2:T2.size≤2000:=by rw [← hT2];exact dg_size hx.2 (by omega)
 have HT1:=Lib.hid hT1;have HT3:=Lib.hid hT2
 clear h1 h2 hz hw hR hT1 hT2
 cases z with
 | true =>
  cases h with
  | true =>
   have hg:Hid (tx x=⟨#[45]⟩ ++ T1):=Lib.hid (by
    have e1:=Hz.out
    have e2:=Hw.out
    simp only [decide_eq_true_eq] at e1 e2
    unfold tx
    rw [HT1.out]
    simp [e1,e2])
   go_enter Tryz.func13,Tryz.ntmps13
   go_wp2_with fail
   refine (V.text 0 rfl htab HT1.out).mono ?_
   rintro e w2 ⟨rfl,V2⟩
   have a0:=V2.c0 0 rfl;have a1:=V2.c1 0 rfl;have a2:=V2.c2 0 rfl
   have R2:=V2.rat 0 _ _ rfl
   have HWh:=Lib.hid (whole_any x _ w2 R2 hx.2)
   rw [Hw.out] at HWh
   clear V b0 b1 b2
   go_wp2_with fail
   refine HWh.out.mono ?_
   rintro e w3 ⟨rfl,hb3⟩
   have V3:=V2.below hb3
   have c2:=V3.c2 0 rfl
   have HB:=Lib.hid V3.bel
   clear V2 V3 R2 HWh hb3 a0 a1 a2 c2
   go_wp2_with fail
   go_ret
   exact ⟨by rw [hg.out];rfl,HB.out⟩
  | false =>
   have hg:Hid (tx x=(⟨#[45]⟩ ++ T1) ++ (⟨#[47]⟩ ++ T2)):=Lib.hid (by
    have e1:=Hz.out
    have e2:=Hw.out
    simp only [decide_eq_true_eq,decide_eq_false_iff_not] at e1 e2
    unfold tx
    rw [HT1.out]
    simp [e1,e2,HT3.out])
   have HT2:Hid ((⟨(Lib.decDigits (dn x)).toArray⟩:ByteArray)=T2):=Lib.hid (by rw [dn_ne (of_decide_eq_false Hw.out)];exact HT3.out)
   go_enter Tryz.func13,Tryz.ntmps13
   go_wp2_with fail
   refine (V.text 0 rfl htab HT1.out).mono ?_
   rintro e w2 ⟨rfl,V2⟩
   have a0:=V2.c0 0 rfl;have a1:=V2.c1 0 rfl;have a2:=V2.c2 0 rfl
   have R2:=V2.rat 0 _ _ rfl
   have HWh:=Lib.hid (whole_any x _ w2 R2 hx.2)
   rw [Hw.out] at HWh
   clear V b0 b1 b2
   go_wp2_with fail
   refine HWh.out.mono ?_
   rintro e w3 ⟨rfl,hb3⟩
   have V3:=V2.below hb3
   have c2:=V3.c2 0 rfl
   clear V2 R2 HWh hb3 a0 a1 a2
   go_wp2_with fail
   refine (V3.text 1 rfl htab HT2.out).mono ?_
   rintro e w4 ⟨rfl,V4⟩
   have HB:=Lib.hid V4.bel
   clear V3 V4 c2
   go_wp2_with fail
   go_ret
   exact ⟨by rw [hg.out];rfl,HB.out⟩
 | false =>
  cases h with
  | true =>
   have hg:Hid (tx x=T1):=Lib.hid (by
    have e1:=Hz.out
    have e2:=Hw.out
    simp only [decide_eq_true_eq,decide_eq_false_iff_not] at e1 e2
    unfold tx
    rw [HT1.out]
    simp [e1,e2])
   go_enter Tryz.func13,Tryz.ntmps13
   go_wp2_with fail
   refine (V.text 0 rfl htab HT1.out).mono ?_
   rintro e w2 ⟨rfl,V2⟩
   have a0:=V2.c0 0 rfl;have a1:=V2.c1 0 rfl;have a2:=V2.c2 0 rfl
   have R2:=V2.rat 0 _ _ rfl
   have HWh:=Lib.hid (whole_any x _ w2 R2 hx.2)
   rw [Hw.out] at HWh
   clear V b0 b1 b2
   go_wp2_with fail
   refine HWh.out.mono ?_
   rintro e w3 ⟨rfl,hb3⟩
   have V3:=V2.below hb3
   have c2:=V3.c2 0 rfl
   have HB:=Lib.hid V3.bel
   clear V2 V3 R2 HWh hb3 a0 a1 a2 c2
   go_wp2_with fail
   go_ret
   exact ⟨by rw [hg.out];rfl,HB.out⟩
  | false =>
   have hg:Hid (tx x=(T1) ++ (⟨#[47]⟩ ++ T2)):=Lib.hid (by
    have e1:=Hz.out
    have e2:=Hw.out
    simp only [decide_eq_false_iff_not] at e1 e2
    unfold tx
    rw [HT1.out]
    simp [e1,e2,HT3.out])
   have HT2:Hid ((⟨(Lib.decDigits (dn x)).toArray⟩:ByteArray)=T2):=Lib.hid (by rw [dn_ne (of_decide_eq_false Hw.out)];exact HT3.out)
   go_enter Tryz.func13,Tryz.ntmps13
   go_wp2_with fail
   refine (V.text 0 rfl htab HT1.out).mono ?_
   rintro e w2 ⟨rfl,V2⟩
   have a0:=V2.c0 0 rfl;have a1:=V2.c1 0 rfl;have a2:=V2.c2 0 rfl
   have R2:=V2.rat 0 _ _ rfl
   have HWh:=Lib.hid (whole_any x _ w2 R2 hx.2)
   rw [Hw.out] at HWh
   clear V b0 b1 b2
   go_wp2_with fail
   refine HWh.out.mono ?_
   rintro e w3 ⟨rfl,hb3⟩
   have V3:=V2.below hb3
   have c2:=V3.c2 0 rfl
   clear V2 R2 HWh hb3 a0 a1 a2
   go_wp2_with fail
   refine (V3.text 1 rfl htab HT2.out).mono ?_
   rintro e w4 ⟨rfl,V4⟩
   have HB:=Lib.hid V4.bel
   clear V3 V4 c2
   go_wp2_with fail
   go_ret
   exact ⟨by rw [hg.out];rfl,HB.out⟩
end Go.Proofs.YtnhobagjpjcigaaGreatDoor
