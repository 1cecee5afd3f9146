/-
  The walk of IeeeFinds: for every input it returns true, and leaves what lay in memory as it was.
-/
import Derived.Test.YtnhobagjpjcigaaGreatDoorERn
import Derived.Test.YtnhobagjpjcigaaGreatDoorEAlive
import Derived.Test.YtnhobagjpjcigaaGreatDoorRQf
namespace Go.Proofs.YtnhobagjpjcigaaGreatDoor
open Go.RowKit
set_option linter.unusedVariables false
theorem Dq.f0 {w W:World} {bx:List (Nat × TypeId × Array Value)} {l:List (Value × Nat)} {q r:List (Value × Rat)} (h:Dq w bx l q r W) (k:Nat) {b:Nat} {t:TypeId} {x y:Value} (e:bx[k]?=some (b,t,#[x,y])):W.cell? ⟨b,0,none⟩=some x:=h.cell k 0 e rfl
theorem Dq.f1 {w W:World} {bx:List (Nat × TypeId × Array Value)} {l:List (Value × Nat)} {q r:List (Value × Rat)} (h:Dq w bx l q r W) (k:Nat) {b:Nat} {t:TypeId} {x y:Value} (e:bx[k]?=some (b,t,#[x,y])):W.cell? ⟨b,1,none⟩=some y:=h.cell k 1 e rfl
theorem and_sml (O:Int) (k n:Nat) (hn:k < n) (h8:n≤9):∃ j:Nat,j < n∧bits .and .i64 O (k:Int)=(j:Int):=by
 have h:(BitVec.ofInt 64 O &&& BitVec.ofInt 64 k).toNat < n:=by
  rw [BitVec.toNat_and]
  refine Nat.lt_of_le_of_lt Nat.and_le_right ?_
  rw [BitVec.ofInt_natCast,BitVec.toNat_ofNat,Nat.mod_eq_of_lt (by omega)]
  exact hn
 refine ⟨(BitVec.ofInt 64 O &&& BitVec.ofInt 64 k).toNat,h,?_⟩
 have e:bits .and .i64 O (k:Int)=IntKind.i64.wrap ((BitVec.ofInt 64 O &&& BitVec.ofInt 64 k).toNat:Int):=rfl
 rw [e]
 generalize (BitVec.ofInt 64 O &&& BitVec.ofInt 64 k).toNat=m at h
 have h2:m=0∨m=1∨m=2∨m=3∨m=4∨m=5∨m=6∨m=7∨m=8:=by omega
 rcases h2 with rfl | rfl | rfl | rfl | rfl | rfl | rfl | rfl | rfl <;> rfl
set_option maxRecDepth 100000 in
set_option maxHeartbeats 4000000 in
theorem form_gen (H x y:Int) (hx1:-9223372036854775808≤x) (hx2:x≤9223372036854775807) (hy1:-9223372036854775808≤y) (hy2:y≤9223372036854775807):∃ E M:Int,(-9223372036854775808≤E∧E≤9223372036854775807∧-9223372036854775808≤M∧M≤9223372036854775807)∧∀ w,Calls Tryz.prog 33 #[.int .i64 H,.int .i64 x,.int .i64 y] w fun e w'=>e=.returned (.agg #[.int .i64 E,.int .i64 M])∧Below w.heap.size w w':=by
 obtain ⟨j,hj,e0⟩:=and_sml H 3 4 (by omega) (by omega)
 obtain ⟨jx,hjx,ex⟩:=and_sml x 3 4 (by omega) (by omega)
 obtain ⟨jy,hjy,ey⟩:=and_sml y 7 8 (by omega) (by omega)
 have e3:((3:Nat):Int)=3:=rfl
 have e7:((7:Nat):Int)=7:=rfl
 rw [e3] at e0 ex
 rw [e7] at ey
 clear e3 e7
 have h4:j=0∨j=1∨j=2∨j=3:=by omega
 rcases h4 with rfl | rfl | rfl | rfl
 · refine ⟨8,23,by omega,fun w=>?_⟩
   have V:=(Mq.refl w).alloc 63 #[.int .i64 0,.int .i64 0]
   have HSi:Hid (∀ W,Calls Tryz.prog 84 #[] W fun E w'=>E=.returned (.agg #[.int .i64 8,.int .i64 23])∧Below W.heap.size W w'):=Lib.hid single_any
   go_enter Tryz.func33,Tryz.ntmps33
   go_wp2_with fail
   refine (HSi.out _).mono ?_
   rintro E w1 ⟨rfl,hb⟩
   have V1:=V.below hb
   have r0:=V1.f0 0 rfl;have r1:=V1.f1 0 rfl;have f0:=V1.frozen 0 0 rfl;have f1:=V1.frozen 0 1 rfl
   have hk:=V1.box 0 _ _ _ rfl
   have HK:=Lib.hid ((hk.1.set_ 0 (.int .i64 8)).set_ 1 (.int .i64 23))
   have HB:=Lib.hid ((V1.bel.setCell (p:=⟨w.heap.size,0,none⟩) hk.2 (.int .i64 8)).setCell (p:=⟨w.heap.size,1,none⟩) hk.2 (.int .i64 23))
   clear V V1 hb hk
   go_wp2_with fail
   exact bodyPost_ret (res_form rfl _ _ _ _ _ rfl HK.out) rfl ⟨rfl,HB.out⟩
 · refine ⟨x,y,by omega,fun w=>?_⟩
   have V:=(Mq.refl w).alloc 63 #[.int .i64 x,.int .i64 y]
   have HB:=Lib.hid V.bel
   have HK:=Lib.hid (V.box 0 _ _ _ rfl).1
   clear V ex ey
   go_enter Tryz.func33,Tryz.ntmps33
   go_wp2_with fail
   exact bodyPost_ret (res_form rfl _ _ _ _ _ rfl HK.out) rfl ⟨rfl,HB.out⟩
 · refine ⟨4,3,by omega,fun w=>?_⟩
   have V:=(Mq.refl w).alloc 63 #[.int .i64 4,.int .i64 3]
   have HB:=Lib.hid V.bel
   have HK:=Lib.hid (V.box 0 _ _ _ rfl).1
   clear V ex ey
   go_enter Tryz.func33,Tryz.ntmps33
   go_wp2_with fail
   exact bodyPost_ret (res_form rfl _ _ _ _ _ rfl HK.out) rfl ⟨rfl,HB.out⟩
 · refine ⟨2 + (jx:Int),1 + (jy:Int),by omega,fun w=>?_⟩
   have V:=(Mq.refl w).alloc 63 #[.int .i64 (2 + (jx:Int)),.int .i64 (1 + (jy:Int))]
   have HB:=Lib.hid V.bel
   have HK:=Lib.hid (V.box 0 _ _ _ rfl).1
   clear V
   go_enter Tryz.func33,Tryz.ntmps33
   go_wp2_with fail
   exact bodyPost_ret (res_form rfl _ _ _ _ _ rfl HK.out) rfl ⟨rfl,HB.out⟩
set_option maxRecDepth 100000 in
set_option maxHeartbeats 16000000 in
theorem ieeeFinds.long (H x y:Int) (s:ByteArray) (w:World) (htab:Tab w) (htb:TabB w) (E1 M1:Int) (hf:-9223372036854775808≤E1∧E1≤9223372036854775807∧-9223372036854775808≤M1∧M1≤9223372036854775807) (hF:∀ w,Calls Tryz.prog 33 #[.int .i64 H,.int .i64 x,.int .i64 y] w fun e w'=>e=.returned (.agg #[.int .i64 E1,.int .i64 M1])∧Below w.heap.size w w') (hs:(60:Int) < (s.size:Int)) :
 Calls Tryz.prog 7 #[.int .i64 H,.int .i64 x,.int .i64 y,.string s] w fun e w'=>e=.returned (.bool true)∧Below w.heap.size w w':=by
 have HAl:Hid (∀ W,Below w.heap.size w W→Calls Tryz.prog 35 #[] W fun e w'=>e=.returned (.bool true)∧Below W.heap.size W w'):=Lib.hid (fun W hb=>alive_e W (htab.below hb (Nat.le_refl _)) (htb.below hb (Nat.le_refl _)))
 have HF:=Lib.hid hF
 clear htab htb hF hf
 go_enter Tryz.func7,Tryz.ntmps7
 go_wp2_with fail
 refine (HF.out _).mono ?_
 rintro E w0 ⟨rfl,hb⟩
 have V0:=((Dq.refl w).below hb).alloc 63 #[.int .i64 E1,.int .i64 M1]
 clear hb HF
 go_wp2_with fail
 refine (HAl.out _ V0.bel).mono ?_
 rintro E wz ⟨rfl,hb⟩
 have V1:=V0.below hb
 clear V0 hb HAl
 have HB:=Lib.hid V1.bel
 clear V1
 go_wp2_with fail
 go_ret
 exact ⟨rfl,HB.out⟩
set_option maxRecDepth 100000 in
set_option maxHeartbeats 16000000 in
theorem ieeeFinds.great (H x y:Int) (s:ByteArray) (w:World) (htab:Tab w) (htb:TabB w) (E1 M1:Int) (hf:-9223372036854775808≤E1∧E1≤9223372036854775807∧-9223372036854775808≤M1∧M1≤9223372036854775807) (hF:∀ w,Calls Tryz.prog 33 #[.int .i64 H,.int .i64 x,.int .i64 y] w fun e w'=>e=.returned (.agg #[.int .i64 E1,.int .i64 M1])∧Below w.heap.size w w') (hs:¬ (60:Int) < (s.size:Int)) (hv:2≤E1∧E1≤11∧1≤M1∧M1≤52) (h8:¬ E1≤8) :
 Calls Tryz.prog 7 #[.int .i64 H,.int .i64 x,.int .i64 y,.string s] w fun e w'=>e=.returned (.bool true)∧Below w.heap.size w w':=by
 have HAl:Hid (∀ W,Below w.heap.size w W→Calls Tryz.prog 35 #[] W fun e w'=>e=.returned (.bool true)∧Below W.heap.size W w'):=Lib.hid (fun W hb=>alive_e W (htab.below hb (Nat.le_refl _)) (htb.below hb (Nat.le_refl _)))
 have HF:=Lib.hid hF
 have HVa:Hid (∀ W,Calls Tryz.prog 34 #[.agg #[.int .i64 E1,.int .i64 M1]] W fun E w'=>E=.returned (.bool true)∧Below W.heap.size W w'):=Lib.hid (fun W=>by
  have h:=valid_any E1 M1 hf.1 hf.2.1 hf.2.2.1 hf.2.2.2 W
  rw [decide_eq_true hv] at h
  exact h)
 have g8:decide (8 < E1)=true:=decide_eq_true (by omega)
 clear htab htb hF hf hv h8
 go_enter Tryz.func7,Tryz.ntmps7
 go_wp2_with fail
 refine (HF.out _).mono ?_
 rintro E w0 ⟨rfl,hb⟩
 have V0:=((Dq.refl w).below hb).alloc 63 #[.int .i64 E1,.int .i64 M1]
 clear hb HF
 have q0:=V0.f0 0 rfl;have q1:=V0.f1 0 rfl
 go_wp2_with fail
 refine (HVa.out _).mono ?_
 rintro E wv ⟨rfl,hb⟩
 have V0b:=V0.below hb
 clear V0 hb HVa q0 q1
 have q0:=V0b.f0 0 rfl;have q1:=V0b.f1 0 rfl
 go_wp2_with fail
 refine (HAl.out _ V0b.bel).mono ?_
 rintro E wz ⟨rfl,hb⟩
 have V1:=V0b.below hb
 clear V0b hb HAl
 clear q0 q1
 have HB:=Lib.hid V1.bel
 clear V1
 go_wp2_with fail
 go_ret
 exact ⟨rfl,HB.out⟩
set_option maxRecDepth 100000 in
set_option maxHeartbeats 16000000 in
theorem ieeeFinds.bad (H x y:Int) (s:ByteArray) (w:World) (htab:Tab w) (htb:TabB w) (E1 M1:Int) (hf:-9223372036854775808≤E1∧E1≤9223372036854775807∧-9223372036854775808≤M1∧M1≤9223372036854775807) (hF:∀ w,Calls Tryz.prog 33 #[.int .i64 H,.int .i64 x,.int .i64 y] w fun e w'=>e=.returned (.agg #[.int .i64 E1,.int .i64 M1])∧Below w.heap.size w w') (hs:¬ (60:Int) < (s.size:Int)) (hv:¬ (2≤E1∧E1≤11∧1≤M1∧M1≤52)) :
 Calls Tryz.prog 7 #[.int .i64 H,.int .i64 x,.int .i64 y,.string s] w fun e w'=>e=.returned (.bool true)∧Below w.heap.size w w':=by
 have HAl:Hid (∀ W,Below w.heap.size w W→Calls Tryz.prog 35 #[] W fun e w'=>e=.returned (.bool true)∧Below W.heap.size W w'):=Lib.hid (fun W hb=>alive_e W (htab.below hb (Nat.le_refl _)) (htb.below hb (Nat.le_refl _)))
 have HF:=Lib.hid hF
 have HVa:Hid (∀ W,Calls Tryz.prog 34 #[.agg #[.int .i64 E1,.int .i64 M1]] W fun E w'=>E=.returned (.bool false)∧Below W.heap.size W w'):=Lib.hid (fun W=>by
  have h:=valid_any E1 M1 hf.1 hf.2.1 hf.2.2.1 hf.2.2.2 W
  rw [decide_eq_false hv] at h
  exact h)
 have HTB:Hid (∀ W,Below w.heap.size w W→TabB W):=Lib.hid (fun W hb=>htb.below hb (Nat.le_refl _))
 have HP0:Hid (∀ W,TabB W→Calls Tryz.prog 15 #[.string s] W fun e w'=>∃ b x y z x' y' z',e=.returned (.tuple #[.agg #[.bool b,.slice x y z,.slice x' y' z'],.int .i64 (oc (pq s))])∧IsR w' (.agg #[.bool b,.slice x y z,.slice x' y' z']) ((pq s).getD 0)∧Below W.heap.size W w'):=Lib.hid (fun W h=>parse_r s W (by omega) h)
 have HP1:Hid (∀ W,Calls Tryz.prog 16 #[.string s] W (GotP (pq s) W)):=Lib.hid (fun W=>rratparse_any s W (by omega))
 have hsz:Sz 4 ((pq s).getD 0):=pqd_sz19 (by omega) (by omega)
 have hszd:SzD 15 ((pq s).getD 0):=pqd_szd (by omega) (by omega)
 unfold GotP at HP1
 obtain ⟨X,hX⟩:∃ X,(pq s).getD 0=X:=⟨_,rfl⟩
 obtain ⟨OC,hOC⟩:∃ X,oc (pq s)=X:=⟨_,rfl⟩
 rw [hX] at hsz hszd
 simp only [hX,hOC] at HP0 HP1
 clear hX hOC
 have HEx:Hid (∀ W v,IsR W v X→Calls Tryz.prog 36 #[.agg #[.int .i64 E1,.int .i64 M1],v] W fun E w'=>E=.returned (.tuple #[.int .u64 0,.bool false])∧Below W.heap.size W w'):=Lib.hid (fun W v h=>exact_no E1 M1 hf hv X v W h)
 have HBl:Hid (∀ W v,IsR W v X→Calls Tryz.prog 37 #[.agg #[.int .i64 E1,.int .i64 M1],v] W fun E w'=>E=.returned (.tuple #[.int .u64 0,.bool false])∧Below W.heap.size W w'):=Lib.hid (fun W v h=>below_no E1 M1 hf hv X v W h)
 have HAb:Hid (∀ W v,IsR W v X→Calls Tryz.prog 38 #[.agg #[.int .i64 E1,.int .i64 M1],v] W fun E w'=>E=.returned (.tuple #[.int .u64 0,.bool false])∧Below W.heap.size W w'):=Lib.hid (fun W v h=>above_no E1 M1 hf hv X v W h)
 have HNr:Hid (∀ W v,IsR W v X→Calls Tryz.prog 39 #[.agg #[.int .i64 E1,.int .i64 M1],v] W fun E w'=>E=.returned (.int .u64 0)∧Below W.heap.size W w'):=Lib.hid (fun W v h=>near_no E1 M1 hf hv X v W h)
 clear htab htb hF hf hv hsz hszd
 go_enter Tryz.func7,Tryz.ntmps7
 go_wp2_with fail
 refine (HF.out _).mono ?_
 rintro E w0 ⟨rfl,hb⟩
 have V0:=((Dq.refl w).below hb).alloc 63 #[.int .i64 E1,.int .i64 M1]
 clear hb HF
 have q0:=V0.f0 0 rfl;have q1:=V0.f1 0 rfl
 go_wp2_with fail
 refine (HVa.out _).mono ?_
 rintro E wv ⟨rfl,hb⟩
 have V0b:=V0.below hb
 clear V0 hb q0 q1
 go_wp2_with fail
 refine (HAl.out _ V0b.bel).mono ?_
 rintro E wz ⟨rfl,hb⟩
 have V1:=V0b.below hb
 clear V0b hb HAl
 go_wp2_with fail
 refine (HP0.out _ (HTB.out _ V1.bel)).mono ?_
 rintro E w2 ⟨bA,pA,nA,cA,qA,mA,dA,rfl,hr,hb⟩
 have V2:=((V1.below hb).rcons hr).alloc 27 #[.bool bA,.slice pA nA cA,.slice qA mA dA]
 clear V1 hb HP0 HTB hr
 go_wp2_with fail
 refine (HP1.out _).mono ?_
 rintro E w3 ⟨v,rfl,hr,hb⟩
 have V3':=(V2.below hb).qcons hr
 obtain ⟨pB,nB,cB,pB',nB',cB',rfl,-,-⟩:=hr
 obtain ⟨zB,hz⟩:∃ z,decide (X.num < 0)=z:=⟨_,rfl⟩
 rw [hz] at V3' ⊢
 have V3:=V3'.alloc 34 #[.bool zB,.slice pB nB cB,.slice pB' nB' cB']
 clear V2 V3' hb hz HP1
 have q0:=V3.f0 2 rfl;have q1:=V3.f1 2 rfl
 have a0:=V3.c0 1 rfl;have a1:=V3.c1 1 rfl;have a2:=V3.c2 1 rfl
 go_wp2_with fail
 refine (HEx.out _ _ (V3.rat 0 _ _ rfl)).mono ?_
 rintro E wf0 ⟨rfl,hb⟩
 have V4:=V3.below hb
 clear V3 hb HEx q0 q1 a0 a1 a2
 have q0:=V4.f0 2 rfl;have q1:=V4.f1 2 rfl
 have a0:=V4.c0 1 rfl;have a1:=V4.c1 1 rfl;have a2:=V4.c2 1 rfl
 go_wp2_with fail
 refine (HBl.out _ _ (V4.rat 0 _ _ rfl)).mono ?_
 rintro E wf1 ⟨rfl,hb⟩
 have V5:=V4.below hb
 clear V4 hb HBl q0 q1 a0 a1 a2
 have q0:=V5.f0 2 rfl;have q1:=V5.f1 2 rfl
 have a0:=V5.c0 1 rfl;have a1:=V5.c1 1 rfl;have a2:=V5.c2 1 rfl
 go_wp2_with fail
 refine (HAb.out _ _ (V5.rat 0 _ _ rfl)).mono ?_
 rintro E wf2 ⟨rfl,hb⟩
 have V6:=V5.below hb
 clear V5 hb HAb q0 q1 a0 a1 a2
 have q0:=V6.f0 2 rfl;have q1:=V6.f1 2 rfl
 have a0:=V6.c0 1 rfl;have a1:=V6.c1 1 rfl;have a2:=V6.c2 1 rfl
 go_wp2_with fail
 refine (HNr.out _ _ (V6.rat 0 _ _ rfl)).mono ?_
 rintro E wf3 ⟨rfl,hb⟩
 have V7:=V6.below hb
 clear V6 hb HNr q0 q1 a0 a1 a2
 have q0:=V7.f0 2 rfl;have q1:=V7.f1 2 rfl
 go_wp2_with fail
 refine (HVa.out _).mono ?_
 rintro E w9 ⟨rfl,hb⟩
 have V8:=V7.below hb
 clear V7 hb HVa q0 q1
 have HB:=Lib.hid V8.bel
 clear V8
 go_wp2_with fail
 go_ret
 exact ⟨rfl,HB.out⟩
set_option maxRecDepth 100000 in
set_option maxHeartbeats 16000000 in
theorem ieeeFinds.good (H x y:Int) (s:ByteArray) (w:World) (htab:Tab w) (htb:TabB w) (E1 M1:Int) (hf:-9223372036854775808≤E1∧E1≤9223372036854775807∧-9223372036854775808≤M1∧M1≤9223372036854775807) (hF:∀ w,Calls Tryz.prog 33 #[.int .i64 H,.int .i64 x,.int .i64 y] w fun e w'=>e=.returned (.agg #[.int .i64 E1,.int .i64 M1])∧Below w.heap.size w w') (hs:¬ (60:Int) < (s.size:Int)) (hv:2≤E1∧E1≤11∧1≤M1∧M1≤52) (h8:E1≤8) :
 Calls Tryz.prog 7 #[.int .i64 H,.int .i64 x,.int .i64 y,.string s] w fun e w'=>e=.returned (.bool true)∧Below w.heap.size w w':=by
 have HAl:Hid (∀ W,Below w.heap.size w W→Calls Tryz.prog 35 #[] W fun e w'=>e=.returned (.bool true)∧Below W.heap.size W w'):=Lib.hid (fun W hb=>alive_e W (htab.below hb (Nat.le_refl _)) (htb.below hb (Nat.le_refl _)))
 have HF:=Lib.hid hF
 have HVa:Hid (∀ W,Calls Tryz.prog 34 #[.agg #[.int .i64 E1,.int .i64 M1]] W fun E w'=>E=.returned (.bool true)∧Below W.heap.size W w'):=Lib.hid (fun W=>by
  have h:=valid_any E1 M1 hf.1 hf.2.1 hf.2.2.1 hf.2.2.2 W
  rw [decide_eq_true hv] at h
  exact h)
 have HTB:Hid (∀ W,Below w.heap.size w W→TabB W):=Lib.hid (fun W hb=>htb.below hb (Nat.le_refl _))
 have HP0:Hid (∀ W,TabB W→Calls Tryz.prog 15 #[.string s] W fun e w'=>∃ b x y z x' y' z',e=.returned (.tuple #[.agg #[.bool b,.slice x y z,.slice x' y' z'],.int .i64 (oc (pq s))])∧IsR w' (.agg #[.bool b,.slice x y z,.slice x' y' z']) ((pq s).getD 0)∧Below W.heap.size W w'):=Lib.hid (fun W h=>parse_r s W (by omega) h)
 have HP1:Hid (∀ W,Calls Tryz.prog 16 #[.string s] W (GotP (pq s) W)):=Lib.hid (fun W=>rratparse_any s W (by omega))
 have hsz:Sz 4 ((pq s).getD 0):=pqd_sz19 (by omega) (by omega)
 have hszd:SzD 15 ((pq s).getD 0):=pqd_szd (by omega) (by omega)
 unfold GotP at HP1
 obtain ⟨X,hX⟩:∃ X,(pq s).getD 0=X:=⟨_,rfl⟩
 obtain ⟨OC,hOC⟩:∃ X,oc (pq s)=X:=⟨_,rfl⟩
 rw [hX] at hsz hszd
 simp only [hX,hOC] at HP0 HP1
 clear hX hOC
 obtain ⟨e,he⟩:∃ e:Nat,E1=e:=⟨E1.toNat,by omega⟩
 obtain ⟨m,hm⟩:∃ m:Nat,M1=m:=⟨M1.toNat,by omega⟩
 obtain ⟨t,hS⟩:=spot_ex m (X.num.natAbs * 2^upl e m / X.den) (inf e m) (inf_pos e m (by omega))
 have hA:=at_spot e m X (by omega) (by omega) (by omega) (by omega) (hsz.mono (by omega)) t hS
 have HEx:=Lib.hid hA.ext;have HBl:=Lib.hid hA.blw;have HAb:=Lib.hid hA.abv;have HNr:=Lib.hid hA.nrs
 have HRe:=Lib.hid (fun W v h=>rexact_any e m (by omega) (by omega) (by omega) (by omega) X v W h (hszd.mono (by omega)) t hS)
 have HRb:=Lib.hid (fun W v h=>rbelow_any e m (by omega) (by omega) (by omega) (by omega) X v W h (hszd.mono (by omega)) t hS)
 have HRa:=Lib.hid (fun W v h=>rabove_any e m (by omega) (by omega) (by omega) (by omega) X v W h (hszd.mono (by omega)) t hS)
 have HRn:=Lib.hid (fun W v h=>rnear_any e m (by omega) (by omega) (by omega) (by omega) X v W h (hszd.mono (by omega)) t hS)
 obtain ⟨EX,hEX⟩:∃ x,exq m t (X.num.natAbs * 2^upl e m) X.den=x:=⟨_,rfl⟩
 simp only [hEX] at HEx HBl HAb HRe HRb HRa
 obtain ⟨EP,h6⟩:∃ x:Int,((if EX=true then ptn e m (decide (X.num < 0)) t else 0:Nat):Int)=x:=⟨_,rfl⟩
 obtain ⟨BP,h1⟩:∃ x:Int,(((bsT e m (decide (X.num < 0)) (decide (X.num < 0)) EX t).1:Nat):Int)=x:=⟨_,rfl⟩
 obtain ⟨BB,h2⟩:∃ x,(bsT e m (decide (X.num < 0)) (decide (X.num < 0)) EX t).2=x:=⟨_,rfl⟩
 obtain ⟨AP,h3⟩:∃ x:Int,(((bsT e m (decide (X.num < 0)) (!decide (X.num < 0)) EX t).1:Nat):Int)=x:=⟨_,rfl⟩
 obtain ⟨AB,h4⟩:∃ x,(bsT e m (decide (X.num < 0)) (!decide (X.num < 0)) EX t).2=x:=⟨_,rfl⟩
 obtain ⟨NP,h5⟩:∃ x:Int,((ptn e m (decide (X.num < 0)) (if nup m t (X.num.natAbs * 2^upl e m) X.den=true then t + 1 else t):Nat):Int)=x:=⟨_,rfl⟩
 rw [h6] at HEx HRe
 rw [h1,h2] at HBl HRb
 rw [h3,h4] at HAb HRa
 rw [h5] at HNr HRn
 rw [← he,← hm] at HEx HBl HAb HNr HRe HRb HRa HRn
 clear h1 h2 h3 h4 h5 h6 hEX hA hS t he hm e m
 have g8:decide (8 < E1)=false:=decide_eq_false (by omega)
 clear htab htb hF hf hv h8 hsz hszd
 go_enter Tryz.func7,Tryz.ntmps7
 go_wp2_with fail
 refine (HF.out _).mono ?_
 rintro E w0 ⟨rfl,hb⟩
 have V0:=((Dq.refl w).below hb).alloc 63 #[.int .i64 E1,.int .i64 M1]
 clear hb HF
 have q0:=V0.f0 0 rfl;have q1:=V0.f1 0 rfl
 go_wp2_with fail
 refine (HVa.out _).mono ?_
 rintro E wv ⟨rfl,hb⟩
 have V0b:=V0.below hb
 clear V0 hb q0 q1
 have q0:=V0b.f0 0 rfl;have q1:=V0b.f1 0 rfl
 go_wp2_with fail
 refine (HAl.out _ V0b.bel).mono ?_
 rintro E wz ⟨rfl,hb⟩
 have V1:=V0b.below hb
 clear V0b hb HAl
 clear q0 q1
 go_wp2_with fail
 refine (HP0.out _ (HTB.out _ V1.bel)).mono ?_
 rintro E w2 ⟨bA,pA,nA,cA,qA,mA,dA,rfl,hr,hb⟩
 have V2:=((V1.below hb).rcons hr).alloc 27 #[.bool bA,.slice pA nA cA,.slice qA mA dA]
 clear V1 hb HP0 HTB hr
 go_wp2_with fail
 refine (HP1.out _).mono ?_
 rintro E w3 ⟨v,rfl,hr,hb⟩
 have V3':=(V2.below hb).qcons hr
 obtain ⟨pB,nB,cB,pB',nB',cB',rfl,-,-⟩:=hr
 obtain ⟨zB,hz⟩:∃ z,decide (X.num < 0)=z:=⟨_,rfl⟩
 rw [hz] at V3' ⊢
 have V3:=V3'.alloc 34 #[.bool zB,.slice pB nB cB,.slice pB' nB' cB']
 clear V2 V3' hb hz HP1
 have q0:=V3.f0 2 rfl;have q1:=V3.f1 2 rfl
 have a0:=V3.c0 1 rfl;have a1:=V3.c1 1 rfl;have a2:=V3.c2 1 rfl
 go_wp2_with fail
 refine (HEx.out _ _ (V3.rat 0 _ _ rfl)).mono ?_
 rintro E wf0 ⟨rfl,hb⟩
 have V4:=V3.below hb
 clear V3 hb HEx q0 q1 a0 a1 a2
 have q0:=V4.f0 2 rfl;have q1:=V4.f1 2 rfl
 have a0:=V4.c0 1 rfl;have a1:=V4.c1 1 rfl;have a2:=V4.c2 1 rfl
 go_wp2_with fail
 refine (HBl.out _ _ (V4.rat 0 _ _ rfl)).mono ?_
 rintro E wf1 ⟨rfl,hb⟩
 have V5:=V4.below hb
 clear V4 hb HBl q0 q1 a0 a1 a2
 have q0:=V5.f0 2 rfl;have q1:=V5.f1 2 rfl
 have a0:=V5.c0 1 rfl;have a1:=V5.c1 1 rfl;have a2:=V5.c2 1 rfl
 go_wp2_with fail
 refine (HAb.out _ _ (V5.rat 0 _ _ rfl)).mono ?_
 rintro E wf2 ⟨rfl,hb⟩
 have V6:=V5.below hb
 clear V5 hb HAb q0 q1 a0 a1 a2
 have q0:=V6.f0 2 rfl;have q1:=V6.f1 2 rfl
 have a0:=V6.c0 1 rfl;have a1:=V6.c1 1 rfl;have a2:=V6.c2 1 rfl
 go_wp2_with fail
 refine (HNr.out _ _ (V6.rat 0 _ _ rfl)).mono ?_
 rintro E wf3 ⟨rfl,hb⟩
 have V7:=V6.below hb
 clear V6 hb HNr q0 q1 a0 a1 a2
 have q0:=V7.f0 2 rfl;have q1:=V7.f1 2 rfl
 go_wp2_with fail
 refine (HVa.out _).mono ?_
 rintro E w9 ⟨rfl,hb⟩
 have V8:=V7.below hb
 clear V7 hb HVa q0 q1
 have q0:=V8.f0 2 rfl;have q1:=V8.f1 2 rfl
 have a0:=V8.c0 0 rfl;have a1:=V8.c1 0 rfl;have a2:=V8.c2 0 rfl
 go_wp2_with fail
 refine (HRe.out _ _ (V8.ref 0 _ _ rfl)).mono ?_
 rintro E wr0 ⟨rfl,hb⟩
 have V9:=V8.below hb
 clear V8 hb HRe q0 q1 a0 a1 a2
 have q0:=V9.f0 2 rfl;have q1:=V9.f1 2 rfl
 have a0:=V9.c0 0 rfl;have a1:=V9.c1 0 rfl;have a2:=V9.c2 0 rfl
 go_wp2_with fail
 refine (HRb.out _ _ (V9.ref 0 _ _ rfl)).mono ?_
 rintro E wr1 ⟨rfl,hb⟩
 have V10:=V9.below hb
 clear V9 hb HRb q0 q1 a0 a1 a2
 have q0:=V10.f0 2 rfl;have q1:=V10.f1 2 rfl
 have a0:=V10.c0 0 rfl;have a1:=V10.c1 0 rfl;have a2:=V10.c2 0 rfl
 go_wp2_with fail
 refine (HRa.out _ _ (V10.ref 0 _ _ rfl)).mono ?_
 rintro E wr2 ⟨rfl,hb⟩
 have V11:=V10.below hb
 clear V10 hb HRa q0 q1 a0 a1 a2
 have q0:=V11.f0 2 rfl;have q1:=V11.f1 2 rfl
 have a0:=V11.c0 0 rfl;have a1:=V11.c1 0 rfl;have a2:=V11.c2 0 rfl
 go_wp2_with fail
 refine (HRn.out _ _ (V11.ref 0 _ _ rfl)).mono ?_
 rintro E wn ⟨rfl,hb⟩
 have V12:=V11.below hb
 clear V11 hb HRn q0 q1 a0 a1 a2
 have HB:=Lib.hid V12.bel
 clear V12
 go_wp2_with fail
 go_ret
 exact ⟨rfl,HB.out⟩
theorem wf_i8 {a:Int} (h:(Lit.int .i64 a).wf=true):-9223372036854775808≤a∧a≤9223372036854775807:=by
 simp [Lit.wf,IntKind.min,IntKind.max,IntKind.bits,IntKind.signed] at h;omega
theorem ieeeFinds.walk (H x y:Int) (s:ByteArray) (_:(Lit.int .i64 H).wf=true) (wx:(Lit.int .i64 x).wf=true) (wy:(Lit.int .i64 y).wf=true) (_:s.size≤maxLen) (w:World) (htab:Tab w) (htb:TabB w) :
 Calls Tryz.prog 7 #[.int .i64 H,.int .i64 x,.int .i64 y,.string s] w fun e w'=>e=.returned (.bool true)∧Below w.heap.size w w':=by
 have x2:=wf_i8 wx
 have y2:=wf_i8 wy
 obtain ⟨E1,M1,hf,hF⟩:=form_gen H x y x2.1 x2.2 y2.1 y2.2
 by_cases hl:(60:Int) < (s.size:Int)
 · exact ieeeFinds.long H x y s w htab htb E1 M1 hf hF hl
 by_cases hv:2≤E1∧E1≤11∧1≤M1∧M1≤52
 · by_cases h8:E1≤8
   · exact ieeeFinds.good H x y s w htab htb E1 M1 hf hF hl hv h8
   · exact ieeeFinds.great H x y s w htab htb E1 M1 hf hF hl hv h8
 · exact ieeeFinds.bad H x y s w htab htb E1 M1 hf hF hl hv
end Go.Proofs.YtnhobagjpjcigaaGreatDoor
