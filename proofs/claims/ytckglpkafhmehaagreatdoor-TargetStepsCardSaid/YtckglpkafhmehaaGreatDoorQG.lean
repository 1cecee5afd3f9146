/-
 Law 2: Cmp; sums of signed numbers.
 Law 2: Add, Sub.
 Law 2: Floor, Ceil.
 Law 2: the mathematics of Round; what a walk of many calls asks.
-/
import Derived.Test.YtckglpkafhmehaaGreatDoorQRound
import Derived.Test.YtckglpkafhmehaaGreatDoorQTxA
namespace Go.Proofs.YtckglpkafhmehaaGreatDoor
open Go.RowKit
set_option linter.unusedVariables false
theorem cmpQ_int (x y : Rat) : cmpQ x y = if x.num * (y.den : Int) < y.num * (x.den : Int) then -1 else if y.num * (x.den : Int) < x.num * (y.den : Int) then 1 else 0 := by
 unfold cmpQ
 simp only [Rat.lt_iff]
theorem cmpI_int (M N : Nat) : cmpI M N = if (M : Int) < (N : Int) then -1 else if (N : Int) < (M : Int) then 1 else 0 := by
 rcases Nat.lt_trichotomy M N with h | h | h
 · rw [cmpI_lt h, if_pos (by omega)]
 · subst h; rw [cmpI_eq]; simp
 · rw [cmpI_gt h, if_neg (by omega), if_pos (by omega)]
theorem cmpQ_np (x y : Rat) (hx : x.num < 0) (hy : ¬ y.num < 0) : cmpQ x y = -1 := by
 rw [cmpQ_int, if_pos]
 have h1 : x.num * (y.den : Int) < 0 := Int.mul_neg_of_neg_of_pos hx (by have := y.den_pos; omega)
 have h2 : 0 ≤ y.num * (x.den : Int) := Int.mul_nonneg (by omega) (by omega)
 omega
theorem cmpQ_pn (x y : Rat) (hx : ¬ x.num < 0) (hy : y.num < 0) : cmpQ x y = 1 := by
 have h1 : y.num * (x.den : Int) < 0 := Int.mul_neg_of_neg_of_pos hy (by have := x.den_pos; omega)
 have h2 : 0 ≤ x.num * (y.den : Int) := Int.mul_nonneg (by omega) (by omega)
 rw [cmpQ_int, if_neg (by omega), if_pos (by omega)]
theorem cmpQ_pp (x y : Rat) (hx : ¬ x.num < 0) (hy : ¬ y.num < 0) : cmpI (x.num.natAbs * y.den) (y.num.natAbs * x.den) = cmpQ x y := by
 rw [cmpI_int, cmpQ_int]
 have e1 : ((x.num.natAbs * y.den : Nat) : Int) = x.num * (y.den : Int) := by rw [Int.natCast_mul, Int.natAbs_of_nonneg (by omega)]
 have e2 : ((y.num.natAbs * x.den : Nat) : Int) = y.num * (x.den : Int) := by rw [Int.natCast_mul, Int.natAbs_of_nonneg (by omega)]
 rw [e1, e2]
theorem cmpQ_nn (x y : Rat) (hx : x.num < 0) (hy : y.num < 0) : cmpI (y.num.natAbs * x.den) (x.num.natAbs * y.den) = cmpQ x y := by
 rw [cmpI_int, cmpQ_int]
 have e1 : ((x.num.natAbs * y.den : Nat) : Int) = -(x.num * (y.den : Int)) := by rw [Int.natCast_mul, show ((x.num.natAbs : Nat) : Int) = -x.num by omega, Int.neg_mul]
 have e2 : ((y.num.natAbs * x.den : Nat) : Int) = -(y.num * (x.den : Int)) := by rw [Int.natCast_mul, show ((y.num.natAbs : Nat) : Int) = -y.num by omega, Int.neg_mul]
 rw [e1, e2]
 by_cases h1 : x.num * (y.den : Int) < y.num * (x.den : Int)
 · rw [if_pos (by omega), if_pos h1]
 · rw [if_neg (by omega), if_neg h1]
   by_cases h2 : y.num * (x.den : Int) < x.num * (y.den : Int)
   · rw [if_pos (by omega), if_pos h2]
   · rw [if_neg (by omega), if_neg h2]
set_option maxRecDepth 100000 in
set_option maxHeartbeats 4000000 in
theorem cmpr_any (x y : Rat) (va vb : Value) (w : World) (ha : IsR w va x) (hb : IsR w vb y) (hx : Sz 50 x) (hy : Sz 50 y) :
 Calls Tryz.prog 13 #[va, vb] w fun e w' => e = .returned (.int .i64 (cmpQ x y)) ∧ Below w.heap.size w w' := by
 have hRa := ha
 have hRb := hb
 obtain ⟨p, n, c, p', n', c', rfl, h1, h2⟩ := ha
 obtain ⟨q, m, d, q', m', d', rfl, k1, k2⟩ := hb
 have HL : Hid (∀ W va vb, IsR W va x → IsR W vb y → Calls Tryz.prog 30 #[va, vb] W fun e w' => e = .returned (.int .i64 (cmpI (x.num.natAbs * y.den) (y.num.natAbs * x.den))) ∧ Below W.heap.size W w') := Lib.hid (fun W va vb h1 h2 => cmps_any x y va vb W h1 h2 hx hy)
 have HL2 : Hid (∀ W va vb, IsR W va y → IsR W vb x → Calls Tryz.prog 30 #[va, vb] W fun e w' => e = .returned (.int .i64 (cmpI (y.num.natAbs * x.den) (x.num.natAbs * y.den))) ∧ Below W.heap.size W w') := Lib.hid (fun W va vb h1 h2 => cmps_any y x va vb W h1 h2 hy hx)
 have HNP := Lib.hid (cmpQ_np x y)
 have HPN := Lib.hid (cmpQ_pn x y)
 have HPP := Lib.hid (cmpQ_pp x y)
 have HNN := Lib.hid (cmpQ_nn x y)
 obtain ⟨C, hC⟩ : ∃ C, cmpQ x y = C := ⟨_, rfl⟩
 rw [hC] at HNP HPN HPP HNN ⊢
 obtain ⟨z, hz⟩ : ∃ z, decide (x.num < 0) = z := ⟨_, rfl⟩
 obtain ⟨u, hu⟩ : ∃ u, decide (y.num < 0) = u := ⟨_, rfl⟩
 rw [hz] at hRa ⊢
 rw [hu] at hRb ⊢
 have V := (((Mq.refl w).rcons hRb).rcons hRa).two 33 33 #[.bool z, .slice p n c, .slice p' n' c'] #[.bool u, .slice q m d, .slice q' m' d']
 have q0 := V.c0 1 rfl; have q1 := V.c1 1 rfl; have q2 := V.c2 1 rfl
 have r0 := V.c0 0 rfl; have r1 := V.c1 0 rfl; have r2 := V.c2 0 rfl
 clear h1 h2 k1 k2 hRa hRb hC
 cases z with
 | true =>
  have hx0 := of_decide_eq_true hz
  cases u with
  | true =>
   have HC := Lib.hid (HNN.out hx0 (of_decide_eq_true hu))
   clear HL HNP HPN HPP HNN hx0 hz hu
   go_enter Tryz.func13, Tryz.ntmps13
   go_wp2_with fail
   refine (HL2.out _ _ _ (V.rat 1 _ _ rfl) (V.rat 0 _ _ rfl)).mono ?_
   rintro e w2 ⟨rfl, hb⟩
   have HB := Lib.hid (V.below hb).bel
   clear V
   go_wp2_with fail
   go_ret
   exact ⟨by rw [HC.out]; rfl, HB.out⟩
  | false =>
   have HC := Lib.hid (HNP.out hx0 (of_decide_eq_false hu))
   clear HL HL2 HNP HPN HPP HNN hx0 hz hu
   go_enter Tryz.func13, Tryz.ntmps13
   go_wp2_with fail
   go_ret
   exact ⟨by rw [show C = -1 from HC.out]; rfl, V.bel⟩
 | false =>
  have hx0 := of_decide_eq_false hz
  cases u with
  | true =>
   have HC := Lib.hid (HPN.out hx0 (of_decide_eq_true hu))
   clear HL HL2 HNP HPN HPP HNN hx0 hz hu
   go_enter Tryz.func13, Tryz.ntmps13
   go_wp2_with fail
   go_ret
   exact ⟨by rw [show C = 1 from HC.out]; rfl, V.bel⟩
  | false =>
   have HC := Lib.hid (HPP.out hx0 (of_decide_eq_false hu))
   clear HL2 HNP HPN HPP HNN hx0 hz hu
   go_enter Tryz.func13, Tryz.ntmps13
   go_wp2_with fail
   refine (HL.out _ _ _ (V.rat 0 _ _ rfl) (V.rat 1 _ _ rfl)).mono ?_
   rintro e w2 ⟨rfl, hb⟩
   have HB := Lib.hid (V.below hb).bel
   clear V
   go_wp2_with fail
   go_ret
   exact ⟨by rw [HC.out]; rfl, HB.out⟩
/-- The sum of two numbers that have signs. -/
def jn (z : Bool) (A : Nat) (u : Bool) (B : Nat) : Bool × Nat := if z = u then (z, A + B) else if B ≤ A then (z, A - B) else (u, B - A)
theorem jn_sgn (z : Bool) (A : Nat) (u : Bool) (B : Nat) : sgn (jn z A u B).1 (jn z A u B).2 = sgn z A + sgn u B := by
 unfold jn sgn
 cases z <;> cases u <;> simp <;> first | omega | (split <;> simp <;> omega)
theorem results_tn {fn : Func} {u p : Tmp} {ty : TypeId} (h : fn.results = #[.tmp u, .cell p ty]) (tmps : Array Value) (P : Program) (w : World) :
 (results fn tmps).run P w = ((asAddr (tmps.getD p undef)).run P w).andThen fun a w1 => ((loadVar ty a).run P w1).andThen fun v w2 => .ok (.tuple #[tmps.getD u undef, v]) w2 := by
 simp only [results, h]
 simp [Sem.run_bind, Result.andThen]
theorem res_tn {fn : Func} {u p : Tmp} (h : fn.results = #[.tmp u, .cell p 31]) (tmps : Array Value) (w : World) (g : Nat) (q : Option Addr) (n c : Nat) (x : Value) (hu : tmps.getD u undef = x) (hp : tmps.getD p undef = .pointer (some ⟨g, 0, none⟩)) (hg : Blk w g 31 #[.slice q n c]) :
 (results fn tmps).run Tryz.prog w = .ok (.tuple #[x, .agg #[.slice q n c]]) w := by
 have e : (loadVar 31 ⟨g, 0, none⟩).run Tryz.prog w = .ok (.agg #[.slice q n c]) w := run_loadVar_row w g 31 31 #[.slice q n c] (0, 0) _ hg Tryz.underlying31 (by kernel_rfl) (by kernel_rfl)
 rw [results_tn h, hp, hu]
 simp [asAddr, e, Result.andThen]
set_option maxRecDepth 100000 in
set_option maxHeartbeats 8000000 in
theorem join_any (z : Bool) (A : Nat) (u : Bool) (B : Nat) (va vb : Value) (w : World) (ha : IsN w va A) (hb : IsN w vb B) (hA : A < 18446744073709551616 ^ 100) (hB : B < 18446744073709551616 ^ 100) (hAB : A + B < 18446744073709551616 ^ 100) :
 Calls Tryz.prog 46 #[.bool z, va, .bool u, vb] w fun e w' => ∃ x y z', e = .returned (.tuple #[.bool (jn z A u B).1, .agg #[.slice x y z']]) ∧ IsN w' (.agg #[.slice x y z']) (jn z A u B).2 ∧ Below w.heap.size w w' := by
 obtain ⟨a1, n1, c1, rfl⟩ := isN_form ha
 obtain ⟨a2, n2, c2, rfl⟩ := isN_form hb
 have V := (((Mq.refl w).cons hb hB).cons ha hA).three 31 31 31 #[.slice a1 n1 c1] #[.slice a2 n2 c2] #[.slice none 0 0]
 have q0 := V.n0 2 rfl; have q1 := V.n0 1 rfl
 clear ha hb
 cases z with
 | true => cases u with
  | true =>
   have hjn : jn true A true B = (true, A + B) := by unfold jn; rw [if_pos rfl]
   rw [hjn]
   obtain ⟨S, hSe⟩ : ∃ S, A + B = S := ⟨_, rfl⟩
   have HSe := Lib.hid hSe
   rw [hSe] at hAB ⊢
   clear hjn hSe
   go_enter Tryz.func46, Tryz.ntmps46
   go_wp2_with fail
   refine (V.add 0 1 rfl rfl ⟨HSe.out, hAB⟩).mono ?_
   rintro e w3 ⟨xs, ys, zs, rfl, V4⟩
   have r0 := V4.n0 0 rfl
   have f0 := V4.frozen 0 0 rfl
   have HF := Lib.hid (V4.fin1 0 0 rfl rfl)
   clear V V4 q0 q1
   go_wp2_with fail
   obtain ⟨hf1, x, y, z, hv, hf2, hf3⟩ := HF.out
   cases hv
   exact bodyPost_ret (res_tn rfl _ _ _ _ _ _ _ rfl rfl hf1) rfl ⟨_, _, _, rfl, hf2, hf3⟩
  | false =>
   by_cases hle : B ≤ A
   · have hjn : jn true A false B = (true, A - B) := by unfold jn; rw [if_neg (by decide), if_pos hle]
     rw [hjn]
     have hS : A - B < 18446744073709551616 ^ 100 := by omega
     obtain ⟨S, hSe⟩ : ∃ S, A - B = S := ⟨_, rfl⟩
     have HSe := Lib.hid hSe
     rw [hSe] at hS ⊢
     clear hjn hSe
     go_enter Tryz.func46, Tryz.ntmps46
     go_wp2_with fail
     refine (V.sub 0 1 rfl rfl hle ⟨HSe.out, hS⟩).mono ?_
     rintro e w3 ⟨xs, ys, zs, rfl, V3⟩
     have V4 := V3.alloc 31 #[.slice xs ys zs]
     obtain ⟨W4, hW4⟩ : ∃ W4, w3.alloc (.cells #[.slice xs ys zs] 31) = W4 := ⟨_, rfl⟩
     rw [hW4] at V4
     have HW4 := Lib.hid hW4
     clear V V3 hW4 q0 q1
     go_wp2_with fail
     rw [HW4.out]
     refine wp_region_inv 3 (fun a0 dj a W => ∃ vr0 vr1 vr2 : Value, a = puts a0 [(28, vr0), (29, vr1), (8, vr2)] ∧ Below W4.heap.size W4 W ∧ (dj 0 = true → vr0 = .bool true) ∧ (dj 1 = true → vr1 = .agg #[.slice xs ys zs]) ∧ (dj 2 = true → vr2 = .bool true)) (by kernel_rfl) (by kernel_rfl) (by kernel_rfl) ?_ ?_ ?_ ?_
     · intro dj hcl i hi1 hi2 hd j hj
       have hi2 := Nat.lt_of_lt_of_le hi2 (show _ ≤ 4 from of_decide_eq_true (by kernel_rfl))
       obtain rfl : i = 3 := by omega
       · have e1 : dj 1 = true := hd 1 (by kernel_rfl)
         have e2 : dj 2 = true := hd 2 (by kernel_rfl)
         have e0 : dj 0 = true := hd 0 (by kernel_rfl)
         obtain rfl | rfl | rfl : j = 0 ∨ j = 1 ∨ j = 2 := by omega
         · exact e0
         · exact e1
         · exact e2
     · refine ⟨undef, undef, .bool false, (by simp only [pus]), (Below.refl _ _).drew, (fun h => by cases h), (fun h => by cases h), (fun h => by cases h)⟩
     · intro dj a W i hi hdi hcl hdep hI K hK
       obtain ⟨vr0, vr1, vr2, rfl, hB, p0, p1, p2⟩ := hI
       have V := V4.below hB
       obtain rfl | rfl | rfl : i = 0 ∨ i = 1 ∨ i = 2 := by omega
       · simp only [pus]
         refine any_op (o := _) rfl rfl ?_
         go_wp2_with fail
         refine hK.out _ _ ?_
         exact ⟨.bool true, vr1, vr2, (by simp only [pus]), hB, (fun _ => rfl), p1, p2⟩
       · simp only [pus]
         have c0 := V.n0 0 rfl
         refine any_op (o := _) rfl rfl ?_
         go_wp2_with fail
         refine hK.out _ _ ?_
         exact ⟨vr0, .agg #[.slice xs ys zs], vr2, (by simp only [pus]), hB, p0, (fun _ => rfl), p2⟩
       · obtain rfl := p0 (hdep 0 (by kernel_rfl))
         simp only [pus]
         refine any_op (o := _) rfl rfl ?_
         go_wp2_with fail
         refine hK.out _ _ ?_
         exact ⟨.bool true, vr1, .bool true, (by simp only [pus]), hB, (fun _ => rfl), p1, (fun _ => rfl)⟩
     · intro dj a W hd hI
       obtain ⟨vr0, vr1, vr2, rfl, hB, p0, p1, p2⟩ := hI
       have V := V4.below hB
       obtain rfl := p0 (hd 0 (by omega))
       obtain rfl := p1 (hd 1 (by omega))
       obtain rfl := p2 (hd 2 (by omega))
       simp only [pus]
       show wpAny Tryz.prog .any _ _ 1 #[true, true, true, false] _ _
       have r0 := V.n0 1 rfl
       have f0 := V.frozen 1 0 rfl
       have HF := Lib.hid (V.fin1 1 0 rfl rfl)
       clear V V4
       refine wpAny_of_held (S := fun _ => True) _ _ _ _ ?_
       refine wpAnyH_ready (rs := [3]) (by kernel_rfl) (by simp) ?_
       refine AllReadyH.cons (o := _) rfl (fun K hK => ?_) AllReadyH.nil
       go_wp2_with fail
       refine hK.out _ _ trivial (fun _ => ?_)
       clear hK K
       try simp only [las]
       refine wpAnyH_done (by kernel_rfl) ?_ _
       go_wp2_with fail
       obtain ⟨hf1, x, y, z, hv, hf2, hf3⟩ := HF.out
       cases hv
       exact bodyPost_ret (res_tn rfl _ _ _ _ _ _ _ rfl rfl hf1) rfl ⟨_, _, _, rfl, hf2, hf3⟩
   · have hjn : jn true A false B = (false, B - A) := by unfold jn; rw [if_neg (by decide), if_neg hle]
     rw [hjn]
     have hS : B - A < 18446744073709551616 ^ 100 := by omega
     have hlt : A < B := by omega
     have hle2 : A ≤ B := by omega
     obtain ⟨S, hSe⟩ : ∃ S, B - A = S := ⟨_, rfl⟩
     have HSe := Lib.hid hSe
     rw [hSe] at hS ⊢
     clear hjn hSe hle
     go_enter Tryz.func46, Tryz.ntmps46
     go_wp2_with fail
     refine (V.subl 0 1 rfl rfl hlt).mono ?_
     rintro e w2 ⟨rfl, V2⟩
     have V3 := V2.alloc 31 #[.slice none 0 0]
     have q0 := V3.n0 3 rfl; have q1 := V3.n0 2 rfl
     clear V V2
     go_wp2_with fail
     refine (V3.sub 1 0 rfl rfl hle2 ⟨HSe.out, hS⟩).mono ?_
     rintro e w3 ⟨xs, ys, zs, rfl, V5⟩
     have V4 := V5.alloc 31 #[.slice xs ys zs]
     obtain ⟨W4, hW4⟩ : ∃ W4, w3.alloc (.cells #[.slice xs ys zs] 31) = W4 := ⟨_, rfl⟩
     rw [hW4] at V4
     have HW4 := Lib.hid hW4
     clear V3 V5 hW4 q0 q1
     go_wp2_with fail
     rw [HW4.out]
     refine wp_region_inv 3 (fun a0 dj a W => ∃ vr0 vr1 vr2 : Value, a = puts a0 [(36, vr0), (37, vr1), (8, vr2)] ∧ Below W4.heap.size W4 W ∧ (dj 0 = true → vr0 = .bool false) ∧ (dj 1 = true → vr1 = .agg #[.slice xs ys zs]) ∧ (dj 2 = true → vr2 = .bool false)) (by kernel_rfl) (by kernel_rfl) (by kernel_rfl) ?_ ?_ ?_ ?_
     · intro dj hcl i hi1 hi2 hd j hj
       have hi2 := Nat.lt_of_lt_of_le hi2 (show _ ≤ 4 from of_decide_eq_true (by kernel_rfl))
       obtain rfl : i = 3 := by omega
       · have e1 : dj 1 = true := hd 1 (by kernel_rfl)
         have e2 : dj 2 = true := hd 2 (by kernel_rfl)
         have e0 : dj 0 = true := hd 0 (by kernel_rfl)
         obtain rfl | rfl | rfl : j = 0 ∨ j = 1 ∨ j = 2 := by omega
         · exact e0
         · exact e1
         · exact e2
     · refine ⟨undef, undef, .bool false, (by simp only [pus]), (Below.refl _ _).drew, (fun h => by cases h), (fun h => by cases h), (fun h => by cases h)⟩
     · intro dj a W i hi hdi hcl hdep hI K hK
       obtain ⟨vr0, vr1, vr2, rfl, hB, p0, p1, p2⟩ := hI
       have V := V4.below hB
       obtain rfl | rfl | rfl : i = 0 ∨ i = 1 ∨ i = 2 := by omega
       · simp only [pus]
         refine any_op (o := _) rfl rfl ?_
         go_wp2_with fail
         refine hK.out _ _ ?_
         exact ⟨.bool false, vr1, vr2, (by simp only [pus]), hB, (fun _ => rfl), p1, p2⟩
       · simp only [pus]
         have c0 := V.n0 0 rfl
         refine any_op (o := _) rfl rfl ?_
         go_wp2_with fail
         refine hK.out _ _ ?_
         exact ⟨vr0, .agg #[.slice xs ys zs], vr2, (by simp only [pus]), hB, p0, (fun _ => rfl), p2⟩
       · obtain rfl := p0 (hdep 0 (by kernel_rfl))
         simp only [pus]
         refine any_op (o := _) rfl rfl ?_
         go_wp2_with fail
         refine hK.out _ _ ?_
         exact ⟨.bool false, vr1, .bool false, (by simp only [pus]), hB, (fun _ => rfl), p1, (fun _ => rfl)⟩
     · intro dj a W hd hI
       obtain ⟨vr0, vr1, vr2, rfl, hB, p0, p1, p2⟩ := hI
       have V := V4.below hB
       obtain rfl := p0 (hd 0 (by omega))
       obtain rfl := p1 (hd 1 (by omega))
       obtain rfl := p2 (hd 2 (by omega))
       simp only [pus]
       show wpAny Tryz.prog .any _ _ 1 #[true, true, true, false] _ _
       have r0 := V.n0 2 rfl
       have f0 := V.frozen 2 0 rfl
       have HF := Lib.hid (V.fin1 2 0 rfl rfl)
       clear V V4
       refine wpAny_of_held (S := fun _ => True) _ _ _ _ ?_
       refine wpAnyH_ready (rs := [3]) (by kernel_rfl) (by simp) ?_
       refine AllReadyH.cons (o := _) rfl (fun K hK => ?_) AllReadyH.nil
       go_wp2_with fail
       refine hK.out _ _ trivial (fun _ => ?_)
       clear hK K
       try simp only [las]
       refine wpAnyH_done (by kernel_rfl) ?_ _
       go_wp2_with fail
       obtain ⟨hf1, x, y, z, hv, hf2, hf3⟩ := HF.out
       cases hv
       exact bodyPost_ret (res_tn rfl _ _ _ _ _ _ _ rfl rfl hf1) rfl ⟨_, _, _, rfl, hf2, hf3⟩
 | false => cases u with
  | true =>
   by_cases hle : B ≤ A
   · have hjn : jn false A true B = (false, A - B) := by unfold jn; rw [if_neg (by decide), if_pos hle]
     rw [hjn]
     have hS : A - B < 18446744073709551616 ^ 100 := by omega
     obtain ⟨S, hSe⟩ : ∃ S, A - B = S := ⟨_, rfl⟩
     have HSe := Lib.hid hSe
     rw [hSe] at hS ⊢
     clear hjn hSe
     go_enter Tryz.func46, Tryz.ntmps46
     go_wp2_with fail
     refine (V.sub 0 1 rfl rfl hle ⟨HSe.out, hS⟩).mono ?_
     rintro e w3 ⟨xs, ys, zs, rfl, V3⟩
     have V4 := V3.alloc 31 #[.slice xs ys zs]
     obtain ⟨W4, hW4⟩ : ∃ W4, w3.alloc (.cells #[.slice xs ys zs] 31) = W4 := ⟨_, rfl⟩
     rw [hW4] at V4
     have HW4 := Lib.hid hW4
     clear V V3 hW4 q0 q1
     go_wp2_with fail
     rw [HW4.out]
     refine wp_region_inv 3 (fun a0 dj a W => ∃ vr0 vr1 vr2 : Value, a = puts a0 [(28, vr0), (29, vr1), (8, vr2)] ∧ Below W4.heap.size W4 W ∧ (dj 0 = true → vr0 = .bool false) ∧ (dj 1 = true → vr1 = .agg #[.slice xs ys zs]) ∧ (dj 2 = true → vr2 = .bool false)) (by kernel_rfl) (by kernel_rfl) (by kernel_rfl) ?_ ?_ ?_ ?_
     · intro dj hcl i hi1 hi2 hd j hj
       have hi2 := Nat.lt_of_lt_of_le hi2 (show _ ≤ 4 from of_decide_eq_true (by kernel_rfl))
       obtain rfl : i = 3 := by omega
       · have e1 : dj 1 = true := hd 1 (by kernel_rfl)
         have e2 : dj 2 = true := hd 2 (by kernel_rfl)
         have e0 : dj 0 = true := hd 0 (by kernel_rfl)
         obtain rfl | rfl | rfl : j = 0 ∨ j = 1 ∨ j = 2 := by omega
         · exact e0
         · exact e1
         · exact e2
     · refine ⟨undef, undef, .bool false, (by simp only [pus]), (Below.refl _ _).drew, (fun h => by cases h), (fun h => by cases h), (fun h => by cases h)⟩
     · intro dj a W i hi hdi hcl hdep hI K hK
       obtain ⟨vr0, vr1, vr2, rfl, hB, p0, p1, p2⟩ := hI
       have V := V4.below hB
       obtain rfl | rfl | rfl : i = 0 ∨ i = 1 ∨ i = 2 := by omega
       · simp only [pus]
         refine any_op (o := _) rfl rfl ?_
         go_wp2_with fail
         refine hK.out _ _ ?_
         exact ⟨.bool false, vr1, vr2, (by simp only [pus]), hB, (fun _ => rfl), p1, p2⟩
       · simp only [pus]
         have c0 := V.n0 0 rfl
         refine any_op (o := _) rfl rfl ?_
         go_wp2_with fail
         refine hK.out _ _ ?_
         exact ⟨vr0, .agg #[.slice xs ys zs], vr2, (by simp only [pus]), hB, p0, (fun _ => rfl), p2⟩
       · obtain rfl := p0 (hdep 0 (by kernel_rfl))
         simp only [pus]
         refine any_op (o := _) rfl rfl ?_
         go_wp2_with fail
         refine hK.out _ _ ?_
         exact ⟨.bool false, vr1, .bool false, (by simp only [pus]), hB, (fun _ => rfl), p1, (fun _ => rfl)⟩
     · intro dj a W hd hI
       obtain ⟨vr0, vr1, vr2, rfl, hB, p0, p1, p2⟩ := hI
       have V := V4.below hB
       obtain rfl := p0 (hd 0 (by omega))
       obtain rfl := p1 (hd 1 (by omega))
       obtain rfl := p2 (hd 2 (by omega))
       simp only [pus]
       show wpAny Tryz.prog .any _ _ 1 #[true, true, true, false] _ _
       have r0 := V.n0 1 rfl
       have f0 := V.frozen 1 0 rfl
       have HF := Lib.hid (V.fin1 1 0 rfl rfl)
       clear V V4
       refine wpAny_of_held (S := fun _ => True) _ _ _ _ ?_
       refine wpAnyH_ready (rs := [3]) (by kernel_rfl) (by simp) ?_
       refine AllReadyH.cons (o := _) rfl (fun K hK => ?_) AllReadyH.nil
       go_wp2_with fail
       refine hK.out _ _ trivial (fun _ => ?_)
       clear hK K
       try simp only [las]
       refine wpAnyH_done (by kernel_rfl) ?_ _
       go_wp2_with fail
       obtain ⟨hf1, x, y, z, hv, hf2, hf3⟩ := HF.out
       cases hv
       exact bodyPost_ret (res_tn rfl _ _ _ _ _ _ _ rfl rfl hf1) rfl ⟨_, _, _, rfl, hf2, hf3⟩
   · have hjn : jn false A true B = (true, B - A) := by unfold jn; rw [if_neg (by decide), if_neg hle]
     rw [hjn]
     have hS : B - A < 18446744073709551616 ^ 100 := by omega
     have hlt : A < B := by omega
     have hle2 : A ≤ B := by omega
     obtain ⟨S, hSe⟩ : ∃ S, B - A = S := ⟨_, rfl⟩
     have HSe := Lib.hid hSe
     rw [hSe] at hS ⊢
     clear hjn hSe hle
     go_enter Tryz.func46, Tryz.ntmps46
     go_wp2_with fail
     refine (V.subl 0 1 rfl rfl hlt).mono ?_
     rintro e w2 ⟨rfl, V2⟩
     have V3 := V2.alloc 31 #[.slice none 0 0]
     have q0 := V3.n0 3 rfl; have q1 := V3.n0 2 rfl
     clear V V2
     go_wp2_with fail
     refine (V3.sub 1 0 rfl rfl hle2 ⟨HSe.out, hS⟩).mono ?_
     rintro e w3 ⟨xs, ys, zs, rfl, V5⟩
     have V4 := V5.alloc 31 #[.slice xs ys zs]
     obtain ⟨W4, hW4⟩ : ∃ W4, w3.alloc (.cells #[.slice xs ys zs] 31) = W4 := ⟨_, rfl⟩
     rw [hW4] at V4
     have HW4 := Lib.hid hW4
     clear V3 V5 hW4 q0 q1
     go_wp2_with fail
     rw [HW4.out]
     refine wp_region_inv 3 (fun a0 dj a W => ∃ vr0 vr1 vr2 : Value, a = puts a0 [(36, vr0), (37, vr1), (8, vr2)] ∧ Below W4.heap.size W4 W ∧ (dj 0 = true → vr0 = .bool true) ∧ (dj 1 = true → vr1 = .agg #[.slice xs ys zs]) ∧ (dj 2 = true → vr2 = .bool true)) (by kernel_rfl) (by kernel_rfl) (by kernel_rfl) ?_ ?_ ?_ ?_
     · intro dj hcl i hi1 hi2 hd j hj
       have hi2 := Nat.lt_of_lt_of_le hi2 (show _ ≤ 4 from of_decide_eq_true (by kernel_rfl))
       obtain rfl : i = 3 := by omega
       · have e1 : dj 1 = true := hd 1 (by kernel_rfl)
         have e2 : dj 2 = true := hd 2 (by kernel_rfl)
         have e0 : dj 0 = true := hd 0 (by kernel_rfl)
         obtain rfl | rfl | rfl : j = 0 ∨ j = 1 ∨ j = 2 := by omega
         · exact e0
         · exact e1
         · exact e2
     · refine ⟨undef, undef, .bool false, (by simp only [pus]), (Below.refl _ _).drew, (fun h => by cases h), (fun h => by cases h), (fun h => by cases h)⟩
     · intro dj a W i hi hdi hcl hdep hI K hK
       obtain ⟨vr0, vr1, vr2, rfl, hB, p0, p1, p2⟩ := hI
       have V := V4.below hB
       obtain rfl | rfl | rfl : i = 0 ∨ i = 1 ∨ i = 2 := by omega
       · simp only [pus]
         refine any_op (o := _) rfl rfl ?_
         go_wp2_with fail
         refine hK.out _ _ ?_
         exact ⟨.bool true, vr1, vr2, (by simp only [pus]), hB, (fun _ => rfl), p1, p2⟩
       · simp only [pus]
         have c0 := V.n0 0 rfl
         refine any_op (o := _) rfl rfl ?_
         go_wp2_with fail
         refine hK.out _ _ ?_
         exact ⟨vr0, .agg #[.slice xs ys zs], vr2, (by simp only [pus]), hB, p0, (fun _ => rfl), p2⟩
       · obtain rfl := p0 (hdep 0 (by kernel_rfl))
         simp only [pus]
         refine any_op (o := _) rfl rfl ?_
         go_wp2_with fail
         refine hK.out _ _ ?_
         exact ⟨.bool true, vr1, .bool true, (by simp only [pus]), hB, (fun _ => rfl), p1, (fun _ => rfl)⟩
     · intro dj a W hd hI
       obtain ⟨vr0, vr1, vr2, rfl, hB, p0, p1, p2⟩ := hI
       have V := V4.below hB
       obtain rfl := p0 (hd 0 (by omega))
       obtain rfl := p1 (hd 1 (by omega))
       obtain rfl := p2 (hd 2 (by omega))
       simp only [pus]
       show wpAny Tryz.prog .any _ _ 1 #[true, true, true, false] _ _
       have r0 := V.n0 2 rfl
       have f0 := V.frozen 2 0 rfl
       have HF := Lib.hid (V.fin1 2 0 rfl rfl)
       clear V V4
       refine wpAny_of_held (S := fun _ => True) _ _ _ _ ?_
       refine wpAnyH_ready (rs := [3]) (by kernel_rfl) (by simp) ?_
       refine AllReadyH.cons (o := _) rfl (fun K hK => ?_) AllReadyH.nil
       go_wp2_with fail
       refine hK.out _ _ trivial (fun _ => ?_)
       clear hK K
       try simp only [las]
       refine wpAnyH_done (by kernel_rfl) ?_ _
       go_wp2_with fail
       obtain ⟨hf1, x, y, z, hv, hf2, hf3⟩ := HF.out
       cases hv
       exact bodyPost_ret (res_tn rfl _ _ _ _ _ _ _ rfl rfl hf1) rfl ⟨_, _, _, rfl, hf2, hf3⟩
  | false =>
   have hjn : jn false A false B = (false, A + B) := by unfold jn; rw [if_pos rfl]
   rw [hjn]
   obtain ⟨S, hSe⟩ : ∃ S, A + B = S := ⟨_, rfl⟩
   have HSe := Lib.hid hSe
   rw [hSe] at hAB ⊢
   clear hjn hSe
   go_enter Tryz.func46, Tryz.ntmps46
   go_wp2_with fail
   refine (V.add 0 1 rfl rfl ⟨HSe.out, hAB⟩).mono ?_
   rintro e w3 ⟨xs, ys, zs, rfl, V4⟩
   have r0 := V4.n0 0 rfl
   have f0 := V4.frozen 0 0 rfl
   have HF := Lib.hid (V4.fin1 0 0 rfl rfl)
   clear V V4 q0 q1
   go_wp2_with fail
   obtain ⟨hf1, x, y, z, hv, hf2, hf3⟩ := HF.out
   cases hv
   exact bodyPost_ret (res_tn rfl _ _ _ _ _ _ _ rfl rfl hf1) rfl ⟨_, _, _, rfl, hf2, hf3⟩
end Go.Proofs.YtckglpkafhmehaaGreatDoor
namespace Go.Proofs.YtckglpkafhmehaaGreatDoor
open Go.RowKit
set_option linter.unusedVariables false
theorem sgn_ab (b : Bool) (n : Nat) : (sgn b n).natAbs = n := by unfold sgn; cases b <;> simp
theorem sgn_lt (b : Bool) (n : Nat) (h : n ≠ 0) : decide (sgn b n < 0) = b := by
 unfold sgn
 cases b
 · simp
 · simp; omega
theorem sgn_mul (b : Bool) (n m : Nat) : sgn b (n * m) = sgn b n * (m : Int) := by
 unfold sgn
 cases b
 · simp
 · simp [Int.neg_mul]
theorem jn_le (z : Bool) (A : Nat) (u : Bool) (B : Nat) : (jn z A u B).2 ≤ A + B := by
 unfold jn
 split
 · exact Nat.le_refl _
 · split <;> simp <;> omega
theorem add_join (x y : Rat) {G DA DB M1 M2 T R : Nat} {js : Bool} (hG : Nat.gcd x.den y.den = G) (hDA : x.den / G = DA) (hDB : y.den / G = DB) (hM1 : x.num.natAbs * DB = M1) (hM2 : y.num.natAbs * DA = M2)
 (hj : jn (decide (x.num < 0)) M1 (decide (y.num < 0)) M2 = (js, T)) (hR : Nat.gcd T G = R) :
 (x + y).num.natAbs = T / R ∧ (x + y).den = DA * (y.den / R) ∧ (T / R ≠ 0 → decide ((x + y).num < 0) = js) := by
 have hs := jn_sgn (decide (x.num < 0)) M1 (decide (y.num < 0)) M2
 rw [hj, ← hM1, ← hM2, sgn_mul, sgn_mul, ← num_sgn, ← num_sgn, ← hDA, ← hDB, ← hG] at hs
 have ha : sgn js T = addn x y := hs
 obtain ⟨n1, n2⟩ := add_nums x y
 have n3 := add_sign x y
 rw [← ha, sgn_ab, hG, hR] at n1
 rw [← ha, sgn_ab, hG, hR, hDA] at n2
 refine ⟨n1, n2, fun h => ?_⟩
 rw [n3, ← ha]
 refine sgn_lt _ _ (fun h0 => h ?_)
 rw [h0, Nat.zero_div]
theorem w_mul {j k M N : Nat} (h1 : M < 18446744073709551616 ^ j) (h2 : N < 18446744073709551616 ^ k) : M * N < 18446744073709551616 ^ (j + k) := by
 rw [Nat.pow_add]
 exact Nat.mul_lt_mul'' h1 h2
theorem w_up {j k N : Nat} (h : N < 18446744073709551616 ^ j) (hk : j ≤ k) : N < 18446744073709551616 ^ k := Nat.lt_of_lt_of_le h (w64_mono hk)
theorem w_add {k M N : Nat} (h1 : M < 18446744073709551616 ^ k) (h2 : N < 18446744073709551616 ^ k) : M + N < 18446744073709551616 ^ (k + 1) := by
 rw [Nat.pow_succ]
 have := Nat.mul_le_mul_left (18446744073709551616 ^ k) (show 2 ≤ 18446744073709551616 by decide)
 omega
theorem sz_neg {k : Nat} {x : Rat} (h : Sz k x) : Sz k (-x) := ⟨by rw [Rat.neg_num, Int.natAbs_neg]; exact h.1, h.2⟩
theorem addn_lt (x y : Rat) {j k : Nat} (hx : Sz j x) (hy : Sz k y) : (addn x y).natAbs < 18446744073709551616 ^ (j + k + 1) := by
 refine Nat.lt_of_le_of_lt (Int.natAbs_add_le _ _) ?_
 rw [Int.natAbs_mul, Int.natAbs_mul]
 refine w_add (w_mul hx.1 (Nat.lt_of_le_of_lt (Nat.div_le_self _ _) hy.2)) ?_
 rw [Nat.add_comm j k]
 exact w_mul hy.1 (Nat.lt_of_le_of_lt (Nat.div_le_self _ _) hx.2)
theorem sz_add {j k : Nat} {x y : Rat} (hx : Sz j x) (hy : Sz k y) : Sz (j + k + 1) (x + y) := by
 obtain ⟨n1, n2⟩ := add_nums x y
 refine ⟨?_, ?_⟩
 · rw [n1]
   exact Nat.lt_of_le_of_lt (Nat.div_le_self _ _) (addn_lt x y hx hy)
 · rw [n2]
   exact w_up (w_mul (Nat.lt_of_le_of_lt (Nat.div_le_self _ _) hx.2) (Nat.lt_of_le_of_lt (Nat.div_le_self _ _) hy.2)) (by omega)
theorem sz_sub {j k : Nat} {x y : Rat} (hx : Sz j x) (hy : Sz k y) : Sz (j + k + 1) (x - y) := by
 rw [Rat.sub_eq_add_neg]
 exact sz_add hx (sz_neg hy)
set_option maxRecDepth 100000 in
set_option maxHeartbeats 16000000 in
theorem addr_any (x y : Rat) (j k : Nat) (va vb : Value) (w : World) (ha : IsR w va x) (hb : IsR w vb y) (hx : Sz j x) (hy : Sz k y) (hjk : j + k ≤ 39) (htb : TabB w) : Calls Tryz.prog 23 #[va, vb] w (GaveR (x + y) w) := by
 have hRa := ha
 have hRb := hb
 obtain ⟨p, n, c, p', n', c', rfl, h1, h2⟩ := ha
 obtain ⟨q, m, d, q', m', d', rfl, k1, k2⟩ := hb
 have hX := fun {G DA DB M1 M2 T R : Nat} {js : Bool} => add_join x y (G := G) (DA := DA) (DB := DB) (M1 := M1) (M2 := M2) (T := T) (R := R) (js := js)
 have HTB : Hid (∀ W, Below w.heap.size w W → TabB W) := Lib.hid (fun W hb => htb.below hb (Nat.le_refl _))
 have hxs := sz_add hx hy
 have HXs : Hid ((x + y).num.natAbs < 18446744073709551616 ^ 100 ∧ dn (x + y) < 18446744073709551616 ^ 100) := Lib.hid ⟨(hxs.mono (by omega)).1, (hxs.mono (by omega)).dn⟩
 have hx1 : x.den < 18446744073709551616 ^ 100 := w_up hx.2 (by omega)
 have hy1 : y.den < 18446744073709551616 ^ 100 := w_up hy.2 (by omega)
 have hxn : x.num.natAbs < 18446744073709551616 ^ 100 := w_up hx.1 (by omega)
 have hyn : y.num.natAbs < 18446744073709551616 ^ 100 := w_up hy.1 (by omega)
 have HDx : Hid (∀ W v, IsR W v x → Calls Tryz.prog 44 #[v] W (GaveV x.den W)) := Lib.hid (fun W v h => den_any x v W h hx1)
 have HDy : Hid (∀ W v, IsR W v y → Calls Tryz.prog 44 #[v] W (GaveV y.den W)) := Lib.hid (fun W v h => den_any y v W h hy1)
 have hM1b : x.num.natAbs * (y.den / Nat.gcd x.den y.den) < 18446744073709551616 ^ 39 := w_up (w_mul hx.1 (Nat.lt_of_le_of_lt (Nat.div_le_self _ _) hy.2)) hjk
 have hM2b : y.num.natAbs * (x.den / Nat.gcd x.den y.den) < 18446744073709551616 ^ 39 := w_up (w_mul hy.1 (Nat.lt_of_le_of_lt (Nat.div_le_self _ _) hx.2)) (by omega)
 have hDDb : ∀ R, (x.den / Nat.gcd x.den y.den) * (y.den / R) < 18446744073709551616 ^ 100 := fun R => w_up (w_mul (Nat.lt_of_le_of_lt (Nat.div_le_self _ _) hx.2) (Nat.lt_of_le_of_lt (Nat.div_le_self _ _) hy.2)) (by omega)
 have hxd26 : x.den < 18446744073709551616 ^ 40 := w_up hx.2 (by omega)
 have hyd26 : y.den < 18446744073709551616 ^ 40 := w_up hy.2 (by omega)
 have hG0 : 0 < Nat.gcd x.den y.den := Nat.gcd_pos_of_pos_left _ x.den_pos
 have hG26 : Nat.gcd x.den y.den < 18446744073709551616 ^ 40 := Nat.lt_of_le_of_lt (Nat.gcd_le_left _ x.den_pos) hxd26
 obtain ⟨X, hXe⟩ : ∃ X, x + y = X := ⟨_, rfl⟩
 rw [hXe] at hX HXs ⊢
 obtain ⟨xd, hxd⟩ : ∃ D, x.den = D := ⟨_, rfl⟩
 obtain ⟨yd, hyd⟩ : ∃ D, y.den = D := ⟨_, rfl⟩
 obtain ⟨xn, hxn'⟩ : ∃ D, x.num.natAbs = D := ⟨_, rfl⟩
 obtain ⟨yn, hyn'⟩ : ∃ D, y.num.natAbs = D := ⟨_, rfl⟩
 obtain ⟨zs, hz⟩ : ∃ z, decide (x.num < 0) = z := ⟨_, rfl⟩
 obtain ⟨us, hu⟩ : ∃ u, decide (y.num < 0) = u := ⟨_, rfl⟩
 rw [hz] at hRa ⊢
 rw [hu] at hRb ⊢
 rw [hxn'] at h1 hxn hM1b
 rw [hyn'] at k1 hyn hM2b
 simp only [hxd, hyd, hxn', hyn', hz, hu] at hX hM1b hM2b hDDb hG0 hG26 hx1 hy1 hxd26 hyd26 HDx HDy
 obtain ⟨G, hG⟩ : ∃ G, Nat.gcd xd yd = G := ⟨_, rfl⟩
 have HG : Hid (∀ W va vb, IsN W va xd → IsN W vb yd → TabB W → Calls Tryz.prog 20 #[va, vb] W (GaveV G W)) := Lib.hid (fun W va vb h1 h2 ht => by
  rw [← hG]
  exact gcd_all xd yd va vb W h1 h2 hxd26 hyd26 ht)
 rw [hG] at hM1b hM2b hG0 hG26
 have hDDb' : ∀ R, (xd / G) * (yd / R) < 18446744073709551616 ^ 100 := fun R => by have := hDDb R; rwa [hG] at this
 have hG100 : G < 18446744073709551616 ^ 100 := w_up hG26 (by omega)
 obtain ⟨DA, hDA⟩ : ∃ D, xd / G = D := ⟨_, rfl⟩
 obtain ⟨DB, hDB⟩ : ∃ D, yd / G = D := ⟨_, rfl⟩
 have hDA1 : DA < 18446744073709551616 ^ 100 := by rw [← hDA]; exact div_lt100 hx1
 have hDB1 : DB < 18446744073709551616 ^ 100 := by rw [← hDB]; exact div_lt100 hy1
 have HOA : Hid (∀ W va vb, IsN W va xd → IsN W vb G → Calls Tryz.prog 45 #[va, vb] W (GaveV DA W)) := Lib.hid (fun W va vb h1 h2 => by
  rw [← hDA]
  exact over_any xd G va vb W h1 h2 hx1 hG100 hG0)
 have HOB : Hid (∀ W va vb, IsN W va yd → IsN W vb G → Calls Tryz.prog 45 #[va, vb] W (GaveV DB W)) := Lib.hid (fun W va vb h1 h2 => by
  rw [← hDB]
  exact over_any yd G va vb W h1 h2 hy1 hG100 hG0)
 rw [hDB] at hM1b
 rw [hDA] at hM2b hDDb'
 obtain ⟨M1, hM1⟩ : ∃ D, xn * DB = D := ⟨_, rfl⟩
 obtain ⟨M2, hM2⟩ : ∃ D, yn * DA = D := ⟨_, rfl⟩
 have up5 : ∀ {N : Nat}, N < 18446744073709551616 ^ 100 → N < 18446744073709551616 ^ 5000 := fun h => q100 5000 h (by decide)
 have HM1 : Hid (∀ W va vb, IsN W va xn → IsN W vb DB → Calls Tryz.prog 37 #[va, vb] W (GaveV M1 W)) := Lib.hid (fun W va vb h1 h2 => by
  rw [← hM1]
  exact (mul_any xn DB va vb W h1 h2 (up5 hxn) (up5 hDB1)).mono fun e w' h => gaveV h)
 have HM2 : Hid (∀ W va vb, IsN W va yn → IsN W vb DA → Calls Tryz.prog 37 #[va, vb] W (GaveV M2 W)) := Lib.hid (fun W va vb h1 h2 => by
  rw [← hM2]
  exact (mul_any yn DA va vb W h1 h2 (up5 hyn) (up5 hDA1)).mono fun e w' h => gaveV h)
 rw [hM1] at hM1b
 rw [hM2] at hM2b
 obtain ⟨js, T, hj⟩ : ∃ js T, jn zs M1 us M2 = (js, T) := ⟨_, _, rfl⟩
 have hT26 : T < 18446744073709551616 ^ 40 := by
  have h5 := jn_le zs M1 us M2
  rw [hj] at h5
  exact Nat.lt_of_le_of_lt h5 (w_add hM1b hM2b)
 have hT100 : T < 18446744073709551616 ^ 100 := w_up hT26 (by omega)
 have HJ : Hid (∀ W va vb, IsN W va M1 → IsN W vb M2 → Calls Tryz.prog 46 #[.bool zs, va, .bool us, vb] W fun e w' => ∃ x y z', e = .returned (.tuple #[.bool js, .agg #[.slice x y z']]) ∧ IsN w' (.agg #[.slice x y z']) T ∧ Below W.heap.size W w') := Lib.hid (fun W va vb h1 h2 => by
  have := join_any zs M1 us M2 va vb W h1 h2 (w_up hM1b (by omega)) (w_up hM2b (by omega)) (w_up (w_add hM1b hM2b) (by omega))
  rwa [hj] at this)
 obtain ⟨R, hR⟩ : ∃ R, Nat.gcd T G = R := ⟨_, rfl⟩
 have hR0 : 0 < R := by rw [← hR]; exact Nat.gcd_pos_of_pos_right _ hG0
 have hR100 : R < 18446744073709551616 ^ 100 := by rw [← hR]; exact Nat.lt_of_le_of_lt (Nat.gcd_le_right _ hG0) hG100
 have hX2 := hX hG hDA hDB hM1 hM2 hj hR
 clear hX
 obtain ⟨SR, hSR⟩ : ∃ D, T / R = D := ⟨_, rfl⟩
 obtain ⟨YR, hYR⟩ : ∃ D, yd / R = D := ⟨_, rfl⟩
 have HSR : Hid (∀ W va vb, IsN W va T → IsN W vb R → Calls Tryz.prog 45 #[va, vb] W (GaveV SR W)) := Lib.hid (fun W va vb h1 h2 => by
  rw [← hSR]
  exact over_any T R va vb W h1 h2 hT100 hR100 hR0)
 have HYR : Hid (∀ W va vb, IsN W va yd → IsN W vb R → Calls Tryz.prog 45 #[va, vb] W (GaveV YR W)) := Lib.hid (fun W va vb h1 h2 => by
  rw [← hYR]
  exact over_any yd R va vb W h1 h2 hy1 hR100 hR0)
 have hDD1 := hDDb' R
 rw [hYR] at hDD1 hX2
 rw [hSR] at hX2
 have hYR1 : YR < 18446744073709551616 ^ 100 := by rw [← hYR]; exact div_lt100 hy1
 have hSR1 : SR < 18446744073709551616 ^ 100 := by rw [← hSR]; exact div_lt100 hT100
 obtain ⟨DD, hDD⟩ : ∃ D, DA * YR = D := ⟨_, rfl⟩
 have HDD : Hid (∀ W va vb, IsN W va DA → IsN W vb YR → Calls Tryz.prog 37 #[va, vb] W (GaveV DD W)) := Lib.hid (fun W va vb h1 h2 => by
  rw [← hDD]
  exact (mul_any DA YR va vb W h1 h2 (up5 hDA1) (up5 hYR1)).mono fun e w' h => gaveV h)
 rw [hDD] at hDD1 hX2
 have HX : Hid (∀ W va vb, IsN W va SR → IsN W vb DD → Calls Tryz.prog 47 #[.bool js, va, vb] W (GaveR X W)) := Lib.hid (fun W va vb h1 h2 => made_any X js SR DD va vb W h1 h2 hSR1 hDD1 hX2.1 hX2.2.1 hX2.2.2)
 have HT26 := Lib.hid hT26; have HG26 := Lib.hid hG26; have HT100 := Lib.hid hT100; have HG100 := Lib.hid hG100
 have HDA1 := Lib.hid hDA1; have HDB1 := Lib.hid hDB1
 have HR : Hid (Nat.gcd T G = R ∧ R < 18446744073709551616 ^ 100) := Lib.hid ⟨hR, hR100⟩
 have V0 := (((((Mq.refl w).rcons hRb).rcons hRa).cons k1 hyn).cons h1 hxn).three 33 33 33 #[.bool zs, .slice p n c, .slice p' n' c'] #[.bool us, .slice q m d, .slice q' m' d'] #[.bool false, .slice none 0 0, .slice none 0 0]
 obtain ⟨W0, hW0⟩ : ∃ W0, ((w.alloc (.cells #[.bool zs, .slice p n c, .slice p' n' c'] 33)).alloc (.cells #[.bool us, .slice q m d, .slice q' m' d'] 33)).alloc (.cells #[.bool false, .slice none 0 0, .slice none 0 0] 33) = W0 := ⟨_, rfl⟩
 rw [hW0] at V0
 have HW0 := Lib.hid hW0
 clear h1 h2 k1 k2 hRa hRb hx hy hjk hxs hx1 hy1 hxn hyn hM1b hM2b hDDb hDDb' hxd26 hyd26 hG0 hG26 hXe hxd hyd hxn' hyn' hz hu hG hG100 hDA hDB hDA1 hDB1 hM1 hM2 up5 hj hT26 hT100 hR hR0 hR100 hX2 hSR hYR hDD1 hYR1 hSR1 hDD hW0
 go_enter Tryz.func23, Tryz.ntmps23
 go_wp2_with fail
 rw [HW0.out]
 refine wp_region_inv 7 (fun a0 dj a W => ∃ vr0 vr1 vr2 vr3 vr4 vr5 : Value, a = puts a0 [(11, vr0), (12, vr1), (13, vr2), (14, vr3), (15, vr4), (5, vr5)] ∧ Below W0.heap.size W0 W ∧ (dj 0 = true → vr0 = .agg #[.bool zs, .slice p n c, .slice p' n' c']) ∧ (dj 1 = true → Nm W vr1 (xd)) ∧ (dj 2 = true → vr2 = .agg #[.bool us, .slice q m d, .slice q' m' d']) ∧ (dj 3 = true → Nm W vr3 (yd)) ∧ (dj 4 = true → Nm W vr4 (G)) ∧ (dj 5 = true → dj 6 = false → Bn W0 W vr5) ∧ (dj 6 = true → St W0 W vr5 vr4)) (by kernel_rfl) (by kernel_rfl) (by kernel_rfl) ?_ ?_ ?_ ?_
 · intro dj hcl i hi1 hi2 hd j hj
   exact absurd (Nat.lt_of_lt_of_le hi2 (of_decide_eq_true (by kernel_rfl))) (Nat.not_lt.2 hi1)
 · refine ⟨undef, undef, undef, undef, undef, undef, (by simp only [pus]), (Below.refl _ _).drew, (fun h => by cases h), (fun h => by cases h), (fun h => by cases h), (fun h => by cases h), (fun h => by cases h), (fun h => by cases h), (fun h => by cases h)⟩
 · intro dj a W i hi hdi hcl hdep hI K hK
   obtain ⟨vr0, vr1, vr2, vr3, vr4, vr5, rfl, hB, p0, p1, p2, p3, p4, p5, p6⟩ := hI
   have V := V0.below hB
   obtain rfl | rfl | rfl | rfl | rfl | rfl | rfl : i = 0 ∨ i = 1 ∨ i = 2 ∨ i = 3 ∨ i = 4 ∨ i = 5 ∨ i = 6 := by omega
   · simp only [pus]
     have c0 := V.c0 2 rfl
     have c1 := V.c1 2 rfl
     have c2 := V.c2 2 rfl
     refine any_op (o := _) rfl rfl ?_
     go_wp2_with fail
     refine hK.out _ _ ?_
     exact ⟨.agg #[.bool zs, .slice p n c, .slice p' n' c'], vr1, vr2, vr3, vr4, vr5, (by simp only [pus]), hB, (fun _ => rfl), p1, p2, p3, p4, p5, p6⟩
   · obtain rfl := p0 (hdep 0 (by kernel_rfl))
     simp only [pus]
     refine any_op (o := _) rfl rfl ?_
     have hC := Lib.hid (HDx.out W _ (V.rat 0 _ _ rfl))
     go_simp
     refine hC.out.mono ?_
     rintro e W2 ⟨x, y, z, rfl, hn, hb⟩
     refine hK.out _ _ ?_
     exact ⟨.agg #[.bool zs, .slice p n c, .slice p' n' c'], .agg #[.slice x y z], vr2, vr3, vr4, vr5, (by simp only [pus]), hB.trans (hb.mono hB.size), (fun _ => rfl), (fun _ => ⟨⟨x, y, z, rfl⟩, hn⟩), p2, (fun h => (p3 h).below hb), (fun h => (p4 h).below hb), (fun h h2 => (p5 h h2).below hb), (fun h => (p6 h).below hb)⟩
   · simp only [pus]
     have c0 := V.c0 1 rfl
     have c1 := V.c1 1 rfl
     have c2 := V.c2 1 rfl
     refine any_op (o := _) rfl rfl ?_
     go_wp2_with fail
     refine hK.out _ _ ?_
     exact ⟨vr0, vr1, .agg #[.bool us, .slice q m d, .slice q' m' d'], vr3, vr4, vr5, (by simp only [pus]), hB, p0, p1, (fun _ => rfl), p3, p4, p5, p6⟩
   · have k1 := p1 (hdep 1 (by kernel_rfl))
     obtain ⟨⟨x1, y1, z1, rfl⟩, n1⟩ := k1
     obtain rfl := p2 (hdep 2 (by kernel_rfl))
     simp only [pus]
     refine any_op (o := _) rfl rfl ?_
     have hC := Lib.hid (HDy.out W _ (V.rat 1 _ _ rfl))
     go_simp
     refine hC.out.mono ?_
     rintro e W2 ⟨x, y, z, rfl, hn, hb⟩
     refine hK.out _ _ ?_
     exact ⟨vr0, .agg #[.slice x1 y1 z1], .agg #[.bool us, .slice q m d, .slice q' m' d'], .agg #[.slice x y z], vr4, vr5, (by simp only [pus]), hB.trans (hb.mono hB.size), p0, (fun _ => (show Nm _ _ _ from ⟨⟨x1, y1, z1, rfl⟩, n1⟩).below hb), (fun _ => rfl), (fun _ => ⟨⟨x, y, z, rfl⟩, hn⟩), (fun h => (p4 h).below hb), (fun h h2 => (p5 h h2).below hb), (fun h => (p6 h).below hb)⟩
   · have k1 := p1 (hdep 1 (by kernel_rfl))
     obtain ⟨⟨x1, y1, z1, rfl⟩, n1⟩ := k1
     have k3 := p3 (hdep 3 (by kernel_rfl))
     obtain ⟨⟨x3, y3, z3, rfl⟩, n3⟩ := k3
     simp only [pus]
     refine any_op (o := _) rfl rfl ?_
     have hC := Lib.hid (HG.out W _ _ n1 n3 (HTB.out W V.bel))
     go_simp
     refine hC.out.mono ?_
     rintro e W2 ⟨x, y, z, rfl, hn, hb⟩
     refine hK.out _ _ ?_
     exact ⟨vr0, .agg #[.slice x1 y1 z1], vr2, .agg #[.slice x3 y3 z3], .agg #[.slice x y z], vr5, (by simp only [pus]), hB.trans (hb.mono hB.size), p0, (fun _ => (show Nm _ _ _ from ⟨⟨x1, y1, z1, rfl⟩, n1⟩).below hb), p2, (fun _ => (show Nm _ _ _ from ⟨⟨x3, y3, z3, rfl⟩, n3⟩).below hb), (fun _ => ⟨⟨x, y, z, rfl⟩, hn⟩), (fun h h2 => (p5 h h2).below hb), (fun h => absurd (hcl 6 4 (by kernel_rfl) h) (by rw [hdi]; simp))⟩
   · simp only [pus]
     refine any_op (o := _) rfl rfl ?_
     have hb := below_lit W (.cells #[.slice none 0 0] 31)
     have hnb : Bn W0 (W.alloc (.cells #[.slice none 0 0] 31)) (.pointer (some ⟨W.heap.size, 0, none⟩)) := ⟨_, rfl, Blk.new W _ _, hB.size⟩
     go_wp2_with fail
     refine hK.out _ _ ?_
     exact ⟨vr0, vr1, vr2, vr3, vr4, .pointer (some ⟨W.heap.size, 0, none⟩), (by simp only [pus]), hB.trans (hb.mono hB.size), p0, (fun h => (p1 h).below hb), p2, (fun h => (p3 h).below hb), (fun h => (p4 h).below hb), (fun _ _ => hnb), (fun h => absurd (hcl 6 5 (by kernel_rfl) h) (by rw [hdi]; simp))⟩
   · obtain ⟨b, rfl, hk, hl⟩ := p5 (hdep 5 (by kernel_rfl)) hdi
     obtain ⟨⟨x, y, z, rfl⟩, hn⟩ := p4 (hdep 4 (by kernel_rfl))
     simp only [pus]
     have c0 := hk.cell 0; have c1 := hk.frozen 0
     simp only [List.getElem?_toArray, List.getElem?_cons_zero] at c0
     refine any_op (o := _) rfl rfl ?_
     go_wp2_with fail
     refine hK.out _ _ ?_
     exact ⟨vr0, vr1, vr2, vr3, .agg #[.slice x y z], .pointer (some ⟨b, 0, none⟩), (by simp only [pus]), (hB.setCell (p := ⟨b, 0, none⟩) hl _), p0, (fun h => (p1 h).put hk), p2, (fun h => (p3 h).put hk), (fun h => (p4 h).put hk), (fun _ h => by rw [upd_self] at h; cases h), (fun _ => ⟨b, x, y, z, rfl, rfl, hk.set_ 0 _, hl⟩)⟩
 · intro dj a W1 hd hI
   obtain ⟨vr0, vr1, vr2, vr3, vr4, vr5, rfl, hB, p0, p1, p2, p3, p4, p5, p6⟩ := hI
   have V := V0.below hB
   obtain rfl := p0 (hd 0 (by omega))
   obtain ⟨⟨xr1, yr1, zr1, rfl⟩, nr1⟩ := p1 (hd 1 (by omega))
   obtain rfl := p2 (hd 2 (by omega))
   obtain ⟨⟨xr3, yr3, zr3, rfl⟩, nr3⟩ := p3 (hd 3 (by omega))
   obtain ⟨⟨xr4, yr4, zr4, rfl⟩, nr4⟩ := p4 (hd 4 (by omega))
   obtain ⟨br6, x9, y9, z9, rfl, e9, kr6, lr6⟩ := p6 (hd 6 (by omega))
   cases e9
   simp only [pus]
   show wpAny Tryz.prog .any _ _ 0 #[true, true, true, true, true, true, true] _ _
   have V1 := (V.cons nr4 HG100.out).addbox kr6 (Nat.le_trans V0.bel.size lr6)
   clear V V0 kr6 nr1 nr3
   refine ⟨by kernel_rfl, ?_⟩
   go_wp2_with fail
   refine wp_region_inv 12 (fun a0 dj a W => ∃ vq0 vq1 vq2 vq3 vq4 vq5 vq6 vq7 vq8 vq9 : Value, a = puts a0 [(16, vq0), (17, vq1), (18, vq2), (19, vq3), (20, vq4), (21, vq5), (22, vq6), (23, vq7), (6, vq8), (7, vq9)] ∧ Below W1.heap.size W1 W ∧ (dj 0 = true → vq0 = .agg #[.bool zs, .slice p n c, .slice p' n' c']) ∧ (dj 1 = true → Nm W vq1 (xd)) ∧ (dj 2 = true → vq2 = .agg #[.slice xr4 yr4 zr4]) ∧ (dj 3 = true → Nm W vq3 (DA)) ∧ (dj 4 = true → vq4 = .agg #[.bool us, .slice q m d, .slice q' m' d']) ∧ (dj 5 = true → Nm W vq5 (yd)) ∧ (dj 6 = true → vq6 = .agg #[.slice xr4 yr4 zr4]) ∧ (dj 7 = true → Nm W vq7 (DB)) ∧ (dj 8 = true → dj 10 = false → Bn W1 W vq8) ∧ (dj 9 = true → dj 11 = false → Bn W1 W vq9) ∧ (dj 10 = true → St W1 W vq8 vq3) ∧ (dj 11 = true → St W1 W vq9 vq7) ∧ (dj 8 = true → dj 9 = true → vq8 ≠ vq9)) (by kernel_rfl) (by kernel_rfl) (by kernel_rfl) ?_ ?_ ?_ ?_
   · intro dj hcl i hi1 hi2 hd j hj
     exact absurd (Nat.lt_of_lt_of_le hi2 (of_decide_eq_true (by kernel_rfl))) (Nat.not_lt.2 hi1)
   · refine ⟨undef, undef, undef, undef, undef, undef, undef, undef, undef, undef, (by simp only [pus]), (Below.refl _ _).drew, (fun h => by cases h), (fun h => by cases h), (fun h => by cases h), (fun h => by cases h), (fun h => by cases h), (fun h => by cases h), (fun h => by cases h), (fun h => by cases h), (fun h => by cases h), (fun h => by cases h), (fun h => by cases h), (fun h => by cases h), (fun h => by cases h)⟩
   · intro dj a W i hi hdi hcl hdep hI K hK
     obtain ⟨vq0, vq1, vq2, vq3, vq4, vq5, vq6, vq7, vq8, vq9, rfl, hB, p0, p1, p2, p3, p4, p5, p6, p7, p8, p9, p10, p11, q8_9⟩ := hI
     have V := V1.below hB
     obtain rfl | rfl | rfl | rfl | rfl | rfl | rfl | rfl | rfl | rfl | rfl | rfl : i = 0 ∨ i = 1 ∨ i = 2 ∨ i = 3 ∨ i = 4 ∨ i = 5 ∨ i = 6 ∨ i = 7 ∨ i = 8 ∨ i = 9 ∨ i = 10 ∨ i = 11 := by omega
     · simp only [pus]
       have c0 := V.c0 3 rfl
       have c1 := V.c1 3 rfl
       have c2 := V.c2 3 rfl
       refine any_op (o := _) rfl rfl ?_
       go_wp2_with fail
       refine hK.out _ _ ?_
       exact ⟨.agg #[.bool zs, .slice p n c, .slice p' n' c'], vq1, vq2, vq3, vq4, vq5, vq6, vq7, vq8, vq9, (by simp only [pus]), hB, (fun _ => rfl), p1, p2, p3, p4, p5, p6, p7, p8, p9, p10, p11, q8_9⟩
     · obtain rfl := p0 (hdep 0 (by kernel_rfl))
       simp only [pus]
       refine any_op (o := _) rfl rfl ?_
       have hC := Lib.hid (HDx.out W _ (V.rat 0 _ _ rfl))
       go_simp
       refine hC.out.mono ?_
       rintro e W2 ⟨x, y, z, rfl, hn, hb⟩
       refine hK.out _ _ ?_
       exact ⟨.agg #[.bool zs, .slice p n c, .slice p' n' c'], .agg #[.slice x y z], vq2, vq3, vq4, vq5, vq6, vq7, vq8, vq9, (by simp only [pus]), hB.trans (hb.mono hB.size), (fun _ => rfl), (fun _ => ⟨⟨x, y, z, rfl⟩, hn⟩), p2, (fun h => (p3 h).below hb), p4, (fun h => (p5 h).below hb), p6, (fun h => (p7 h).below hb), (fun h h2 => (p8 h h2).below hb), (fun h h2 => (p9 h h2).below hb), (fun h => (p10 h).below hb), (fun h => (p11 h).below hb), q8_9⟩
     · simp only [pus]
       have c0 := V.n0 0 rfl
       refine any_op (o := _) rfl rfl ?_
       go_wp2_with fail
       refine hK.out _ _ ?_
       exact ⟨vq0, vq1, .agg #[.slice xr4 yr4 zr4], vq3, vq4, vq5, vq6, vq7, vq8, vq9, (by simp only [pus]), hB, p0, p1, (fun _ => rfl), p3, p4, p5, p6, p7, p8, p9, p10, p11, q8_9⟩
     · have k1 := p1 (hdep 1 (by kernel_rfl))
       obtain ⟨⟨x1, y1, z1, rfl⟩, n1⟩ := k1
       obtain rfl := p2 (hdep 2 (by kernel_rfl))
       simp only [pus]
       refine any_op (o := _) rfl rfl ?_
       have hC := Lib.hid (HOA.out W _ _ n1 (V.num 0 _ _ rfl).1)
       go_simp
       refine hC.out.mono ?_
       rintro e W2 ⟨x, y, z, rfl, hn, hb⟩
       refine hK.out _ _ ?_
       exact ⟨vq0, .agg #[.slice x1 y1 z1], .agg #[.slice xr4 yr4 zr4], .agg #[.slice x y z], vq4, vq5, vq6, vq7, vq8, vq9, (by simp only [pus]), hB.trans (hb.mono hB.size), p0, (fun _ => (show Nm _ _ _ from ⟨⟨x1, y1, z1, rfl⟩, n1⟩).below hb), (fun _ => rfl), (fun _ => ⟨⟨x, y, z, rfl⟩, hn⟩), p4, (fun h => (p5 h).below hb), p6, (fun h => (p7 h).below hb), (fun h h2 => (p8 h h2).below hb), (fun h h2 => (p9 h h2).below hb), (fun h => absurd (hcl 10 3 (by kernel_rfl) h) (by rw [hdi]; simp)), (fun h => (p11 h).below hb), q8_9⟩
     · simp only [pus]
       have c0 := V.c0 2 rfl
       have c1 := V.c1 2 rfl
       have c2 := V.c2 2 rfl
       refine any_op (o := _) rfl rfl ?_
       go_wp2_with fail
       refine hK.out _ _ ?_
       exact ⟨vq0, vq1, vq2, vq3, .agg #[.bool us, .slice q m d, .slice q' m' d'], vq5, vq6, vq7, vq8, vq9, (by simp only [pus]), hB, p0, p1, p2, p3, (fun _ => rfl), p5, p6, p7, p8, p9, p10, p11, q8_9⟩
     · have k3 := p3 (hdep 3 (by kernel_rfl))
       obtain ⟨⟨x3, y3, z3, rfl⟩, n3⟩ := k3
       obtain rfl := p4 (hdep 4 (by kernel_rfl))
       simp only [pus]
       refine any_op (o := _) rfl rfl ?_
       have hC := Lib.hid (HDy.out W _ (V.rat 1 _ _ rfl))
       go_simp
       refine hC.out.mono ?_
       rintro e W2 ⟨x, y, z, rfl, hn, hb⟩
       refine hK.out _ _ ?_
       exact ⟨vq0, vq1, vq2, .agg #[.slice x3 y3 z3], .agg #[.bool us, .slice q m d, .slice q' m' d'], .agg #[.slice x y z], vq6, vq7, vq8, vq9, (by simp only [pus]), hB.trans (hb.mono hB.size), p0, (fun h => (p1 h).below hb), p2, (fun _ => (show Nm _ _ _ from ⟨⟨x3, y3, z3, rfl⟩, n3⟩).below hb), (fun _ => rfl), (fun _ => ⟨⟨x, y, z, rfl⟩, hn⟩), p6, (fun h => (p7 h).below hb), (fun h h2 => (p8 h h2).below hb), (fun h h2 => (p9 h h2).below hb), (fun h => (p10 h).below hb), (fun h => (p11 h).below hb), q8_9⟩
     · simp only [pus]
       have c0 := V.n0 0 rfl
       refine any_op (o := _) rfl rfl ?_
       go_wp2_with fail
       refine hK.out _ _ ?_
       exact ⟨vq0, vq1, vq2, vq3, vq4, vq5, .agg #[.slice xr4 yr4 zr4], vq7, vq8, vq9, (by simp only [pus]), hB, p0, p1, p2, p3, p4, p5, (fun _ => rfl), p7, p8, p9, p10, p11, q8_9⟩
     · have k5 := p5 (hdep 5 (by kernel_rfl))
       obtain ⟨⟨x5, y5, z5, rfl⟩, n5⟩ := k5
       obtain rfl := p6 (hdep 6 (by kernel_rfl))
       simp only [pus]
       refine any_op (o := _) rfl rfl ?_
       have hC := Lib.hid (HOB.out W _ _ n5 (V.num 0 _ _ rfl).1)
       go_simp
       refine hC.out.mono ?_
       rintro e W2 ⟨x, y, z, rfl, hn, hb⟩
       refine hK.out _ _ ?_
       exact ⟨vq0, vq1, vq2, vq3, vq4, .agg #[.slice x5 y5 z5], .agg #[.slice xr4 yr4 zr4], .agg #[.slice x y z], vq8, vq9, (by simp only [pus]), hB.trans (hb.mono hB.size), p0, (fun h => (p1 h).below hb), p2, (fun h => (p3 h).below hb), p4, (fun _ => (show Nm _ _ _ from ⟨⟨x5, y5, z5, rfl⟩, n5⟩).below hb), (fun _ => rfl), (fun _ => ⟨⟨x, y, z, rfl⟩, hn⟩), (fun h h2 => (p8 h h2).below hb), (fun h h2 => (p9 h h2).below hb), (fun h => (p10 h).below hb), (fun h => absurd (hcl 11 7 (by kernel_rfl) h) (by rw [hdi]; simp)), q8_9⟩
     · simp only [pus]
       refine any_op (o := _) rfl rfl ?_
       have hb := below_lit W (.cells #[.slice none 0 0] 31)
       have hnb : Bn W1 (W.alloc (.cells #[.slice none 0 0] 31)) (.pointer (some ⟨W.heap.size, 0, none⟩)) := ⟨_, rfl, Blk.new W _ _, hB.size⟩
       go_wp2_with fail
       refine hK.out _ _ ?_
       exact ⟨vq0, vq1, vq2, vq3, vq4, vq5, vq6, vq7, .pointer (some ⟨W.heap.size, 0, none⟩), vq9, (by simp only [pus]), hB.trans (hb.mono hB.size), p0, (fun h => (p1 h).below hb), p2, (fun h => (p3 h).below hb), p4, (fun h => (p5 h).below hb), p6, (fun h => (p7 h).below hb), (fun _ _ => hnb), (fun h h2 => (p9 h h2).below hb), (fun h => absurd (hcl 10 8 (by kernel_rfl) h) (by rw [hdi]; simp)), (fun h => (p11 h).below hb), (fun _ h e => (box_ne (p9 h) (p11)) e.symm)⟩
     · simp only [pus]
       refine any_op (o := _) rfl rfl ?_
       have hb := below_lit W (.cells #[.slice none 0 0] 31)
       have hnb : Bn W1 (W.alloc (.cells #[.slice none 0 0] 31)) (.pointer (some ⟨W.heap.size, 0, none⟩)) := ⟨_, rfl, Blk.new W _ _, hB.size⟩
       go_wp2_with fail
       refine hK.out _ _ ?_
       exact ⟨vq0, vq1, vq2, vq3, vq4, vq5, vq6, vq7, vq8, .pointer (some ⟨W.heap.size, 0, none⟩), (by simp only [pus]), hB.trans (hb.mono hB.size), p0, (fun h => (p1 h).below hb), p2, (fun h => (p3 h).below hb), p4, (fun h => (p5 h).below hb), p6, (fun h => (p7 h).below hb), (fun h h2 => (p8 h h2).below hb), (fun _ _ => hnb), (fun h => (p10 h).below hb), (fun h => absurd (hcl 11 9 (by kernel_rfl) h) (by rw [hdi]; simp)), (fun h _ e => (box_ne (p8 h) (p10)) e)⟩
     · obtain ⟨b, rfl, hk, hl⟩ := p8 (hdep 8 (by kernel_rfl)) hdi
       have hne9 : dj 9 = true → vq9 ≠ .pointer (some ⟨b, 0, none⟩) := fun h e => q8_9 (hdep 8 (by kernel_rfl)) h e.symm
       obtain ⟨⟨x, y, z, rfl⟩, hn⟩ := p3 (hdep 3 (by kernel_rfl))
       simp only [pus]
       have c0 := hk.cell 0; have c1 := hk.frozen 0
       simp only [List.getElem?_toArray, List.getElem?_cons_zero] at c0
       refine any_op (o := _) rfl rfl ?_
       go_wp2_with fail
       refine hK.out _ _ ?_
       exact ⟨vq0, vq1, vq2, .agg #[.slice x y z], vq4, vq5, vq6, vq7, .pointer (some ⟨b, 0, none⟩), vq9, (by simp only [pus]), (hB.setCell (p := ⟨b, 0, none⟩) hl _), p0, (fun h => (p1 h).put hk), p2, (fun h => (p3 h).put hk), p4, (fun h => (p5 h).put hk), p6, (fun h => (p7 h).put hk), (fun _ h => by rw [upd_self] at h; cases h), (fun h h2 => (p9 h h2).far (hne9 h)), (fun _ => ⟨b, x, y, z, rfl, rfl, hk.set_ 0 _, hl⟩), (fun h => (p11 h).far (hne9 (hcl 11 9 (by kernel_rfl) h))), q8_9⟩
     · obtain ⟨b, rfl, hk, hl⟩ := p9 (hdep 9 (by kernel_rfl)) hdi
       have hne8 : dj 8 = true → vq8 ≠ .pointer (some ⟨b, 0, none⟩) := fun h e => q8_9 h (hdep 9 (by kernel_rfl)) e
       obtain ⟨⟨x, y, z, rfl⟩, hn⟩ := p7 (hdep 7 (by kernel_rfl))
       simp only [pus]
       have c0 := hk.cell 0; have c1 := hk.frozen 0
       simp only [List.getElem?_toArray, List.getElem?_cons_zero] at c0
       refine any_op (o := _) rfl rfl ?_
       go_wp2_with fail
       refine hK.out _ _ ?_
       exact ⟨vq0, vq1, vq2, vq3, vq4, vq5, vq6, .agg #[.slice x y z], vq8, .pointer (some ⟨b, 0, none⟩), (by simp only [pus]), (hB.setCell (p := ⟨b, 0, none⟩) hl _), p0, (fun h => (p1 h).put hk), p2, (fun h => (p3 h).put hk), p4, (fun h => (p5 h).put hk), p6, (fun h => (p7 h).put hk), (fun h h2 => (p8 h h2).far (hne8 h)), (fun _ h => by rw [upd_self] at h; cases h), (fun h => (p10 h).far (hne8 (hcl 10 8 (by kernel_rfl) h))), (fun _ => ⟨b, x, y, z, rfl, rfl, hk.set_ 0 _, hl⟩), q8_9⟩
   · intro dj a W2 hd hI
     obtain ⟨vq0, vq1, vq2, vq3, vq4, vq5, vq6, vq7, vq8, vq9, rfl, hB, p0, p1, p2, p3, p4, p5, p6, p7, p8, p9, p10, p11, q8_9⟩ := hI
     have V := V1.below hB
     obtain rfl := p0 (hd 0 (by omega))
     obtain ⟨⟨xq1, yq1, zq1, rfl⟩, nq1⟩ := p1 (hd 1 (by omega))
     obtain rfl := p2 (hd 2 (by omega))
     obtain ⟨⟨xq3, yq3, zq3, rfl⟩, nq3⟩ := p3 (hd 3 (by omega))
     obtain rfl := p4 (hd 4 (by omega))
     obtain ⟨⟨xq5, yq5, zq5, rfl⟩, nq5⟩ := p5 (hd 5 (by omega))
     obtain rfl := p6 (hd 6 (by omega))
     obtain ⟨⟨xq7, yq7, zq7, rfl⟩, nq7⟩ := p7 (hd 7 (by omega))
     obtain ⟨bq10, x9, y9, z9, rfl, e9, kq10, lq10⟩ := p10 (hd 10 (by omega))
     cases e9
     obtain ⟨bq11, x9, y9, z9, rfl, e9, kq11, lq11⟩ := p11 (hd 11 (by omega))
     cases e9
     have neq10_11 : bq10 ≠ bq11 := fun e => q8_9 (hd 8 (by omega)) (hd 9 (by omega)) (by rw [e])
     simp only [pus]
     show wpAny Tryz.prog .any _ _ 0 #[true, true, true, true, true, true, true, true, true, true, true, true] _ _
     have V2 := (((V.cons nq7 HDB1.out).cons nq3 HDA1.out).addbox kq10 (Nat.le_trans V1.bel.size lq10)).addbox kq11 (Nat.le_trans V1.bel.size lq11)
     clear V V1 kq10 kq11 nq1 nq5
     refine ⟨by kernel_rfl, ?_⟩
     go_wp2_with fail
     refine wp_region_inv 19 (fun a0 dj a W => ∃ vs0 vs1 vs2 vs3 vs4 vs5 vs6 vs7 vs8 vs9 vs10 vs11 vs12 vs13 vs14 vs15 vs16 vs17 : Value, a = puts a0 [(25, vs0), (26, vs1), (27, vs2), (28, vs3), (29, vs4), (30, vs5), (31, vs6), (32, vs7), (33, vs8), (34, vs9), (35, vs10), (36, vs11), (37, vs12), (24, vs13), (38, vs14), (39, vs15), (9, vs16), (8, vs17)] ∧ Below W2.heap.size W2 W ∧ (dj 0 = true → vs0 = .pointer (some ⟨w.heap.size, 0, none⟩)) ∧ (dj 1 = true → vs1 = .bool zs) ∧ (dj 2 = true → vs2 = .pointer (some ⟨w.heap.size, 1, none⟩)) ∧ (dj 3 = true → vs3 = .agg #[.slice p n c]) ∧ (dj 4 = true → vs4 = .agg #[.slice xq7 yq7 zq7]) ∧ (dj 5 = true → Nm W vs5 (M1)) ∧ (dj 6 = true → vs6 = .pointer (some ⟨w.heap.size + 1, 0, none⟩)) ∧ (dj 7 = true → vs7 = .bool us) ∧ (dj 8 = true → vs8 = .pointer (some ⟨w.heap.size + 1, 1, none⟩)) ∧ (dj 9 = true → vs9 = .agg #[.slice q m d]) ∧ (dj 10 = true → vs10 = .agg #[.slice xq3 yq3 zq3]) ∧ (dj 11 = true → Nm W vs11 (M2)) ∧ (dj 12 = true → Pr W vs12 (js) (T)) ∧ (dj 13 = true → Pr W vs13 (js) (T)) ∧ (dj 14 = true → vs14 = .bool js) ∧ (dj 15 = true → Nm W vs15 (T)) ∧ (dj 16 = true → dj 18 = false → Bn W2 W vs16) ∧ (dj 17 = true → vs17 = .bool js) ∧ (dj 18 = true → St W2 W vs16 vs15)) (by kernel_rfl) (by kernel_rfl) (by kernel_rfl) ?_ ?_ ?_ ?_
     · intro dj hcl i hi1 hi2 hd j hj
       exact absurd (Nat.lt_of_lt_of_le hi2 (of_decide_eq_true (by kernel_rfl))) (Nat.not_lt.2 hi1)
     · refine ⟨undef, undef, undef, undef, undef, undef, undef, undef, undef, undef, undef, undef, undef, undef, undef, undef, undef, undef, (by simp only [pus]), (Below.refl _ _).drew, (fun h => by cases h), (fun h => by cases h), (fun h => by cases h), (fun h => by cases h), (fun h => by cases h), (fun h => by cases h), (fun h => by cases h), (fun h => by cases h), (fun h => by cases h), (fun h => by cases h), (fun h => by cases h), (fun h => by cases h), (fun h => by cases h), (fun h => by cases h), (fun h => by cases h), (fun h => by cases h), (fun h => by cases h), (fun h => by cases h), (fun h => by cases h)⟩
     · intro dj a W i hi hdi hcl hdep hI K hK
       obtain ⟨vs0, vs1, vs2, vs3, vs4, vs5, vs6, vs7, vs8, vs9, vs10, vs11, vs12, vs13, vs14, vs15, vs16, vs17, rfl, hB, p0, p1, p2, p3, p4, p5, p6, p7, p8, p9, p10, p11, p12, p13, p14, p15, p16, p17, p18⟩ := hI
       have V := V2.below hB
       obtain rfl | rfl | rfl | rfl | rfl | rfl | rfl | rfl | rfl | rfl | rfl | rfl | rfl | rfl | rfl | rfl | rfl | rfl | rfl : i = 0 ∨ i = 1 ∨ i = 2 ∨ i = 3 ∨ i = 4 ∨ i = 5 ∨ i = 6 ∨ i = 7 ∨ i = 8 ∨ i = 9 ∨ i = 10 ∨ i = 11 ∨ i = 12 ∨ i = 13 ∨ i = 14 ∨ i = 15 ∨ i = 16 ∨ i = 17 ∨ i = 18 := by omega
       · simp only [pus]
         refine any_op (o := _) rfl rfl ?_
         go_wp2_with fail
         refine hK.out _ _ ?_
         exact ⟨.pointer (some ⟨w.heap.size, 0, none⟩), vs1, vs2, vs3, vs4, vs5, vs6, vs7, vs8, vs9, vs10, vs11, vs12, vs13, vs14, vs15, vs16, vs17, (by simp only [pus]), hB, (fun _ => rfl), p1, p2, p3, p4, p5, p6, p7, p8, p9, p10, p11, p12, p13, p14, p15, p16, p17, p18⟩
       · obtain rfl := p0 (hdep 0 (by kernel_rfl))
         simp only [pus]
         have c0 := V.c0 5 rfl
         refine any_op (o := _) rfl rfl ?_
         go_wp2_with fail
         refine hK.out _ _ ?_
         exact ⟨.pointer (some ⟨w.heap.size, 0, none⟩), .bool zs, vs2, vs3, vs4, vs5, vs6, vs7, vs8, vs9, vs10, vs11, vs12, vs13, vs14, vs15, vs16, vs17, (by simp only [pus]), hB, (fun _ => rfl), (fun _ => rfl), p2, p3, p4, p5, p6, p7, p8, p9, p10, p11, p12, p13, p14, p15, p16, p17, p18⟩
       · simp only [pus]
         refine any_op (o := _) rfl rfl ?_
         go_wp2_with fail
         refine hK.out _ _ ?_
         exact ⟨vs0, vs1, .pointer (some ⟨w.heap.size, 1, none⟩), vs3, vs4, vs5, vs6, vs7, vs8, vs9, vs10, vs11, vs12, vs13, vs14, vs15, vs16, vs17, (by simp only [pus]), hB, p0, p1, (fun _ => rfl), p3, p4, p5, p6, p7, p8, p9, p10, p11, p12, p13, p14, p15, p16, p17, p18⟩
       · obtain rfl := p2 (hdep 2 (by kernel_rfl))
         simp only [pus]
         have c0 := V.c1 5 rfl
         refine any_op (o := _) rfl rfl ?_
         go_wp2_with fail
         refine hK.out _ _ ?_
         exact ⟨vs0, vs1, .pointer (some ⟨w.heap.size, 1, none⟩), .agg #[.slice p n c], vs4, vs5, vs6, vs7, vs8, vs9, vs10, vs11, vs12, vs13, vs14, vs15, vs16, vs17, (by simp only [pus]), hB, p0, p1, (fun _ => rfl), (fun _ => rfl), p4, p5, p6, p7, p8, p9, p10, p11, p12, p13, p14, p15, p16, p17, p18⟩
       · simp only [pus]
         have c0 := V.n0 0 rfl
         refine any_op (o := _) rfl rfl ?_
         go_wp2_with fail
         refine hK.out _ _ ?_
         exact ⟨vs0, vs1, vs2, vs3, .agg #[.slice xq7 yq7 zq7], vs5, vs6, vs7, vs8, vs9, vs10, vs11, vs12, vs13, vs14, vs15, vs16, vs17, (by simp only [pus]), hB, p0, p1, p2, p3, (fun _ => rfl), p5, p6, p7, p8, p9, p10, p11, p12, p13, p14, p15, p16, p17, p18⟩
       · obtain rfl := p3 (hdep 3 (by kernel_rfl))
         obtain rfl := p4 (hdep 4 (by kernel_rfl))
         simp only [pus]
         refine any_op (o := _) rfl rfl ?_
         have hC := Lib.hid (HM1.out W _ _ (V.num 3 _ _ rfl).1 (V.num 1 _ _ rfl).1)
         go_simp
         refine hC.out.mono ?_
         rintro e W2 ⟨x, y, z, rfl, hn, hb⟩
         refine hK.out _ _ ?_
         exact ⟨vs0, vs1, vs2, .agg #[.slice p n c], .agg #[.slice xq7 yq7 zq7], .agg #[.slice x y z], vs6, vs7, vs8, vs9, vs10, vs11, vs12, vs13, vs14, vs15, vs16, vs17, (by simp only [pus]), hB.trans (hb.mono hB.size), p0, p1, p2, (fun _ => rfl), (fun _ => rfl), (fun _ => ⟨⟨x, y, z, rfl⟩, hn⟩), p6, p7, p8, p9, p10, (fun h => (p11 h).below hb), (fun h => (p12 h).below hb), (fun h => (p13 h).below hb), p14, (fun h => (p15 h).below hb), (fun h h2 => (p16 h h2).below hb), p17, (fun h => (p18 h).below hb)⟩
       · simp only [pus]
         refine any_op (o := _) rfl rfl ?_
         go_wp2_with fail
         refine hK.out _ _ ?_
         exact ⟨vs0, vs1, vs2, vs3, vs4, vs5, .pointer (some ⟨w.heap.size + 1, 0, none⟩), vs7, vs8, vs9, vs10, vs11, vs12, vs13, vs14, vs15, vs16, vs17, (by simp only [pus]), hB, p0, p1, p2, p3, p4, p5, (fun _ => rfl), p7, p8, p9, p10, p11, p12, p13, p14, p15, p16, p17, p18⟩
       · obtain rfl := p6 (hdep 6 (by kernel_rfl))
         simp only [pus]
         have c0 := V.c0 4 rfl
         refine any_op (o := _) rfl rfl ?_
         go_wp2_with fail
         refine hK.out _ _ ?_
         exact ⟨vs0, vs1, vs2, vs3, vs4, vs5, .pointer (some ⟨w.heap.size + 1, 0, none⟩), .bool us, vs8, vs9, vs10, vs11, vs12, vs13, vs14, vs15, vs16, vs17, (by simp only [pus]), hB, p0, p1, p2, p3, p4, p5, (fun _ => rfl), (fun _ => rfl), p8, p9, p10, p11, p12, p13, p14, p15, p16, p17, p18⟩
       · simp only [pus]
         refine any_op (o := _) rfl rfl ?_
         go_wp2_with fail
         refine hK.out _ _ ?_
         exact ⟨vs0, vs1, vs2, vs3, vs4, vs5, vs6, vs7, .pointer (some ⟨w.heap.size + 1, 1, none⟩), vs9, vs10, vs11, vs12, vs13, vs14, vs15, vs16, vs17, (by simp only [pus]), hB, p0, p1, p2, p3, p4, p5, p6, p7, (fun _ => rfl), p9, p10, p11, p12, p13, p14, p15, p16, p17, p18⟩
       · obtain rfl := p8 (hdep 8 (by kernel_rfl))
         simp only [pus]
         have c0 := V.c1 4 rfl
         refine any_op (o := _) rfl rfl ?_
         go_wp2_with fail
         refine hK.out _ _ ?_
         exact ⟨vs0, vs1, vs2, vs3, vs4, vs5, vs6, vs7, .pointer (some ⟨w.heap.size + 1, 1, none⟩), .agg #[.slice q m d], vs10, vs11, vs12, vs13, vs14, vs15, vs16, vs17, (by simp only [pus]), hB, p0, p1, p2, p3, p4, p5, p6, p7, (fun _ => rfl), (fun _ => rfl), p10, p11, p12, p13, p14, p15, p16, p17, p18⟩
       · simp only [pus]
         have c0 := V.n0 1 rfl
         refine any_op (o := _) rfl rfl ?_
         go_wp2_with fail
         refine hK.out _ _ ?_
         exact ⟨vs0, vs1, vs2, vs3, vs4, vs5, vs6, vs7, vs8, vs9, .agg #[.slice xq3 yq3 zq3], vs11, vs12, vs13, vs14, vs15, vs16, vs17, (by simp only [pus]), hB, p0, p1, p2, p3, p4, p5, p6, p7, p8, p9, (fun _ => rfl), p11, p12, p13, p14, p15, p16, p17, p18⟩
       · have k5 := p5 (hdep 5 (by kernel_rfl))
         obtain ⟨⟨x5, y5, z5, rfl⟩, n5⟩ := k5
         obtain rfl := p9 (hdep 9 (by kernel_rfl))
         obtain rfl := p10 (hdep 10 (by kernel_rfl))
         simp only [pus]
         refine any_op (o := _) rfl rfl ?_
         have hC := Lib.hid (HM2.out W _ _ (V.num 4 _ _ rfl).1 (V.num 0 _ _ rfl).1)
         go_simp
         refine hC.out.mono ?_
         rintro e W2 ⟨x, y, z, rfl, hn, hb⟩
         refine hK.out _ _ ?_
         exact ⟨vs0, vs1, vs2, vs3, vs4, .agg #[.slice x5 y5 z5], vs6, vs7, vs8, .agg #[.slice q m d], .agg #[.slice xq3 yq3 zq3], .agg #[.slice x y z], vs12, vs13, vs14, vs15, vs16, vs17, (by simp only [pus]), hB.trans (hb.mono hB.size), p0, p1, p2, p3, p4, (fun _ => (show Nm _ _ _ from ⟨⟨x5, y5, z5, rfl⟩, n5⟩).below hb), p6, p7, p8, (fun _ => rfl), (fun _ => rfl), (fun _ => ⟨⟨x, y, z, rfl⟩, hn⟩), (fun h => (p12 h).below hb), (fun h => (p13 h).below hb), p14, (fun h => (p15 h).below hb), (fun h h2 => (p16 h h2).below hb), p17, (fun h => (p18 h).below hb)⟩
       · obtain rfl := p1 (hdep 1 (by kernel_rfl))
         have k5 := p5 (hdep 5 (by kernel_rfl))
         obtain ⟨⟨x5, y5, z5, rfl⟩, n5⟩ := k5
         obtain rfl := p7 (hdep 7 (by kernel_rfl))
         have k11 := p11 (hdep 11 (by kernel_rfl))
         obtain ⟨⟨x11, y11, z11, rfl⟩, n11⟩ := k11
         simp only [pus]
         refine any_op (o := _) rfl rfl ?_
         have hC := Lib.hid (HJ.out W _ _ n5 n11)
         go_simp
         refine hC.out.mono ?_
         rintro e W2 ⟨x, y, z, rfl, hn, hb⟩
         refine hK.out _ _ ?_
         exact ⟨vs0, .bool zs, vs2, vs3, vs4, .agg #[.slice x5 y5 z5], vs6, .bool us, vs8, vs9, vs10, .agg #[.slice x11 y11 z11], .tuple #[.bool (js), .agg #[.slice x y z]], vs13, vs14, vs15, vs16, vs17, (by simp only [pus]), hB.trans (hb.mono hB.size), p0, (fun _ => rfl), p2, p3, p4, (fun _ => (show Nm _ _ _ from ⟨⟨x5, y5, z5, rfl⟩, n5⟩).below hb), p6, (fun _ => rfl), p8, p9, p10, (fun _ => (show Nm _ _ _ from ⟨⟨x11, y11, z11, rfl⟩, n11⟩).below hb), (fun _ => ⟨x, y, z, rfl, hn⟩), (fun h => (p13 h).below hb), p14, (fun h => (p15 h).below hb), (fun h h2 => (p16 h h2).below hb), p17, (fun h => (p18 h).below hb)⟩
       · have k12 := p12 (hdep 12 (by kernel_rfl))
         obtain ⟨x12, y12, z12, rfl, n12⟩ := k12
         simp only [pus]
         refine any_op (o := _) rfl rfl ?_
         go_wp2_with fail
         refine hK.out _ _ ?_
         exact ⟨vs0, vs1, vs2, vs3, vs4, vs5, vs6, vs7, vs8, vs9, vs10, vs11, .tuple #[.bool (js), .agg #[.slice x12 y12 z12]], .tuple #[.bool js, .agg #[.slice x12 y12 z12]], vs14, vs15, vs16, vs17, (by simp only [pus]), hB, p0, p1, p2, p3, p4, p5, p6, p7, p8, p9, p10, p11, (fun _ => ⟨x12, y12, z12, rfl, n12⟩), (fun _ => ⟨x12, y12, z12, rfl, n12⟩), p14, p15, p16, p17, p18⟩
       · have k13 := p13 (hdep 13 (by kernel_rfl))
         obtain ⟨x13, y13, z13, rfl, n13⟩ := k13
         simp only [pus]
         refine any_op (o := _) rfl rfl ?_
         go_wp2_with fail
         refine hK.out _ _ ?_
         exact ⟨vs0, vs1, vs2, vs3, vs4, vs5, vs6, vs7, vs8, vs9, vs10, vs11, vs12, .tuple #[.bool (js), .agg #[.slice x13 y13 z13]], .bool js, vs15, vs16, vs17, (by simp only [pus]), hB, p0, p1, p2, p3, p4, p5, p6, p7, p8, p9, p10, p11, p12, (fun _ => ⟨x13, y13, z13, rfl, n13⟩), (fun _ => rfl), p15, p16, p17, p18⟩
       · have k13 := p13 (hdep 13 (by kernel_rfl))
         obtain ⟨x13, y13, z13, rfl, n13⟩ := k13
         simp only [pus]
         refine any_op (o := _) rfl rfl ?_
         go_wp2_with fail
         refine hK.out _ _ ?_
         exact ⟨vs0, vs1, vs2, vs3, vs4, vs5, vs6, vs7, vs8, vs9, vs10, vs11, vs12, .tuple #[.bool (js), .agg #[.slice x13 y13 z13]], vs14, .agg #[.slice x13 y13 z13], vs16, vs17, (by simp only [pus]), hB, p0, p1, p2, p3, p4, p5, p6, p7, p8, p9, p10, p11, p12, (fun _ => ⟨x13, y13, z13, rfl, n13⟩), p14, (fun _ => ⟨⟨x13, y13, z13, rfl⟩, n13⟩), p16, p17, (fun h => absurd (hcl 18 15 (by kernel_rfl) h) (by rw [hdi]; simp))⟩
       · simp only [pus]
         refine any_op (o := _) rfl rfl ?_
         have hb := below_lit W (.cells #[.slice none 0 0] 31)
         have hnb : Bn W2 (W.alloc (.cells #[.slice none 0 0] 31)) (.pointer (some ⟨W.heap.size, 0, none⟩)) := ⟨_, rfl, Blk.new W _ _, hB.size⟩
         go_wp2_with fail
         refine hK.out _ _ ?_
         exact ⟨vs0, vs1, vs2, vs3, vs4, vs5, vs6, vs7, vs8, vs9, vs10, vs11, vs12, vs13, vs14, vs15, .pointer (some ⟨W.heap.size, 0, none⟩), vs17, (by simp only [pus]), hB.trans (hb.mono hB.size), p0, p1, p2, p3, p4, (fun h => (p5 h).below hb), p6, p7, p8, p9, p10, (fun h => (p11 h).below hb), (fun h => (p12 h).below hb), (fun h => (p13 h).below hb), p14, (fun h => (p15 h).below hb), (fun _ _ => hnb), p17, (fun h => absurd (hcl 18 16 (by kernel_rfl) h) (by rw [hdi]; simp))⟩
       · obtain rfl := p0 (hdep 0 (by kernel_rfl))
         obtain rfl := p1 (hdep 1 (by kernel_rfl))
         obtain rfl := p2 (hdep 2 (by kernel_rfl))
         obtain rfl := p3 (hdep 3 (by kernel_rfl))
         obtain rfl := p4 (hdep 4 (by kernel_rfl))
         have k5 := p5 (hdep 5 (by kernel_rfl))
         obtain ⟨⟨x5, y5, z5, rfl⟩, n5⟩ := k5
         obtain rfl := p6 (hdep 6 (by kernel_rfl))
         obtain rfl := p7 (hdep 7 (by kernel_rfl))
         obtain rfl := p8 (hdep 8 (by kernel_rfl))
         obtain rfl := p9 (hdep 9 (by kernel_rfl))
         obtain rfl := p10 (hdep 10 (by kernel_rfl))
         have k11 := p11 (hdep 11 (by kernel_rfl))
         obtain ⟨⟨x11, y11, z11, rfl⟩, n11⟩ := k11
         have k12 := p12 (hdep 12 (by kernel_rfl))
         obtain ⟨x12, y12, z12, rfl, n12⟩ := k12
         have k13 := p13 (hdep 13 (by kernel_rfl))
         obtain ⟨x13, y13, z13, rfl, n13⟩ := k13
         obtain rfl := p14 (hdep 14 (by kernel_rfl))
         simp only [pus]
         refine any_op (o := _) rfl rfl ?_
         go_wp2_with fail
         refine hK.out _ _ ?_
         exact ⟨.pointer (some ⟨w.heap.size, 0, none⟩), .bool zs, .pointer (some ⟨w.heap.size, 1, none⟩), .agg #[.slice p n c], .agg #[.slice xq7 yq7 zq7], .agg #[.slice x5 y5 z5], .pointer (some ⟨w.heap.size + 1, 0, none⟩), .bool us, .pointer (some ⟨w.heap.size + 1, 1, none⟩), .agg #[.slice q m d], .agg #[.slice xq3 yq3 zq3], .agg #[.slice x11 y11 z11], .tuple #[.bool (js), .agg #[.slice x12 y12 z12]], .tuple #[.bool (js), .agg #[.slice x13 y13 z13]], .bool js, vs15, vs16, .bool js, (by simp only [pus]), hB, (fun _ => rfl), (fun _ => rfl), (fun _ => rfl), (fun _ => rfl), (fun _ => rfl), (fun _ => ⟨⟨x5, y5, z5, rfl⟩, n5⟩), (fun _ => rfl), (fun _ => rfl), (fun _ => rfl), (fun _ => rfl), (fun _ => rfl), (fun _ => ⟨⟨x11, y11, z11, rfl⟩, n11⟩), (fun _ => ⟨x12, y12, z12, rfl, n12⟩), (fun _ => ⟨x13, y13, z13, rfl, n13⟩), (fun _ => rfl), p15, p16, (fun _ => rfl), p18⟩
       · obtain ⟨b, rfl, hk, hl⟩ := p16 (hdep 16 (by kernel_rfl)) hdi
         obtain ⟨⟨x, y, z, rfl⟩, hn⟩ := p15 (hdep 15 (by kernel_rfl))
         simp only [pus]
         have c0 := hk.cell 0; have c1 := hk.frozen 0
         simp only [List.getElem?_toArray, List.getElem?_cons_zero] at c0
         refine any_op (o := _) rfl rfl ?_
         go_wp2_with fail
         refine hK.out _ _ ?_
         exact ⟨vs0, vs1, vs2, vs3, vs4, vs5, vs6, vs7, vs8, vs9, vs10, vs11, vs12, vs13, vs14, .agg #[.slice x y z], .pointer (some ⟨b, 0, none⟩), vs17, (by simp only [pus]), (hB.setCell (p := ⟨b, 0, none⟩) hl _), p0, p1, p2, p3, p4, (fun h => (p5 h).put hk), p6, p7, p8, p9, p10, (fun h => (p11 h).put hk), (fun h => (p12 h).put hk), (fun h => (p13 h).put hk), p14, (fun h => (p15 h).put hk), (fun _ h => by rw [upd_self] at h; cases h), p17, (fun _ => ⟨b, x, y, z, rfl, rfl, hk.set_ 0 _, hl⟩)⟩
     · intro dj a W3 hd hI
       obtain ⟨vs0, vs1, vs2, vs3, vs4, vs5, vs6, vs7, vs8, vs9, vs10, vs11, vs12, vs13, vs14, vs15, vs16, vs17, rfl, hB, p0, p1, p2, p3, p4, p5, p6, p7, p8, p9, p10, p11, p12, p13, p14, p15, p16, p17, p18⟩ := hI
       have V := V2.below hB
       obtain rfl := p0 (hd 0 (by omega))
       obtain rfl := p1 (hd 1 (by omega))
       obtain rfl := p2 (hd 2 (by omega))
       obtain rfl := p3 (hd 3 (by omega))
       obtain rfl := p4 (hd 4 (by omega))
       obtain ⟨⟨xs5, ys5, zs5, rfl⟩, ns5⟩ := p5 (hd 5 (by omega))
       obtain rfl := p6 (hd 6 (by omega))
       obtain rfl := p7 (hd 7 (by omega))
       obtain rfl := p8 (hd 8 (by omega))
       obtain rfl := p9 (hd 9 (by omega))
       obtain rfl := p10 (hd 10 (by omega))
       obtain ⟨⟨xs11, ys11, zs11, rfl⟩, ns11⟩ := p11 (hd 11 (by omega))
       obtain ⟨xs12, ys12, zs12, rfl, ns12⟩ := p12 (hd 12 (by omega))
       obtain ⟨xs13, ys13, zs13, rfl, ns13⟩ := p13 (hd 13 (by omega))
       obtain rfl := p14 (hd 14 (by omega))
       obtain ⟨⟨xs15, ys15, zs15, rfl⟩, ns15⟩ := p15 (hd 15 (by omega))
       obtain rfl := p17 (hd 17 (by omega))
       obtain ⟨bs18, x9, y9, z9, rfl, e9, ks18, ls18⟩ := p18 (hd 18 (by omega))
       cases e9
       simp only [pus]
       show wpAny Tryz.prog .any _ _ 0 #[true, true, true, true, true, true, true, true, true, true, true, true, true, true, true, true, true, true, true] _ _
       have V3 := (V.cons ns15 HT100.out).addbox ks18 (Nat.le_trans V2.bel.size ls18)
       have g0 := V3.n0 0 rfl; have g1 := V3.n0 3 rfl
       clear V V2 ks18 ns5 ns11 ns12 ns13
       refine ⟨by kernel_rfl, ?_⟩
       go_wp2_with fail
       refine (V3.gcd 0 3 rfl rfl HT26.out HG26.out htb HR.out).mono ?_
       rintro e w4 ⟨xg, yg, zg, rfl, V4⟩
       have V5 := V4.alloc 31 #[.slice xg yg zg]
       obtain ⟨W5, hW5⟩ : ∃ W5, w4.alloc (.cells #[.slice xg yg zg] 31) = W5 := ⟨_, rfl⟩
       rw [hW5] at V5
       have HW5 := Lib.hid hW5
       clear V3 V4 hW5 g0 g1
       go_wp2_with fail
       rw [HW5.out]
       refine wp_region_inv 11 (fun a0 dj a W => ∃ vt0 vt1 vt2 vt3 vt4 vt5 vt6 vt7 vt8 vt9 vt10 : Value, a = puts a0 [(43, vt0), (44, vt1), (45, vt2), (46, vt3), (47, vt4), (48, vt5), (49, vt6), (50, vt7), (51, vt8), (52, vt9), (53, vt10)] ∧ Below W5.heap.size W5 W ∧ (dj 0 = true → vt0 = .bool js) ∧ (dj 1 = true → vt1 = .agg #[.slice xs15 ys15 zs15]) ∧ (dj 2 = true → vt2 = .agg #[.slice xg yg zg]) ∧ (dj 3 = true → Nm W vt3 (SR)) ∧ (dj 4 = true → vt4 = .agg #[.slice xq3 yq3 zq3]) ∧ (dj 5 = true → vt5 = .agg #[.bool us, .slice q m d, .slice q' m' d']) ∧ (dj 6 = true → Nm W vt6 (yd)) ∧ (dj 7 = true → vt7 = .agg #[.slice xg yg zg]) ∧ (dj 8 = true → Nm W vt8 (YR)) ∧ (dj 9 = true → Nm W vt9 (DD)) ∧ (dj 10 = true → IsR W vt10 (X))) (by kernel_rfl) (by kernel_rfl) (by kernel_rfl) ?_ ?_ ?_ ?_
       · intro dj hcl i hi1 hi2 hd j hj
         have hi2 := Nat.lt_of_lt_of_le hi2 (show _ ≤ 12 from of_decide_eq_true (by kernel_rfl))
         obtain rfl : i = 11 := by omega
         · have e10 : dj 10 = true := hd 10 (by kernel_rfl)
           have e0 : dj 0 = true := hd 0 (by kernel_rfl)
           have e1 : dj 1 = true := hd 1 (by kernel_rfl)
           have e2 : dj 2 = true := hd 2 (by kernel_rfl)
           have e3 : dj 3 = true := hd 3 (by kernel_rfl)
           have e4 : dj 4 = true := hd 4 (by kernel_rfl)
           have e5 : dj 5 = true := hd 5 (by kernel_rfl)
           have e6 : dj 6 = true := hd 6 (by kernel_rfl)
           have e7 : dj 7 = true := hd 7 (by kernel_rfl)
           have e8 : dj 8 = true := hd 8 (by kernel_rfl)
           have e9 : dj 9 = true := hd 9 (by kernel_rfl)
           obtain rfl | rfl | rfl | rfl | rfl | rfl | rfl | rfl | rfl | rfl | rfl : j = 0 ∨ j = 1 ∨ j = 2 ∨ j = 3 ∨ j = 4 ∨ j = 5 ∨ j = 6 ∨ j = 7 ∨ j = 8 ∨ j = 9 ∨ j = 10 := by omega
           · exact e0
           · exact e1
           · exact e2
           · exact e3
           · exact e4
           · exact e5
           · exact e6
           · exact e7
           · exact e8
           · exact e9
           · exact e10
       · refine ⟨undef, undef, undef, undef, undef, undef, undef, undef, undef, undef, undef, (by simp only [pus]), (Below.refl _ _).drew, (fun h => by cases h), (fun h => by cases h), (fun h => by cases h), (fun h => by cases h), (fun h => by cases h), (fun h => by cases h), (fun h => by cases h), (fun h => by cases h), (fun h => by cases h), (fun h => by cases h), (fun h => by cases h)⟩
       · intro dj a W i hi hdi hcl hdep hI K hK
         obtain ⟨vt0, vt1, vt2, vt3, vt4, vt5, vt6, vt7, vt8, vt9, vt10, rfl, hB, p0, p1, p2, p3, p4, p5, p6, p7, p8, p9, p10⟩ := hI
         have V := V5.below hB
         obtain rfl | rfl | rfl | rfl | rfl | rfl | rfl | rfl | rfl | rfl | rfl : i = 0 ∨ i = 1 ∨ i = 2 ∨ i = 3 ∨ i = 4 ∨ i = 5 ∨ i = 6 ∨ i = 7 ∨ i = 8 ∨ i = 9 ∨ i = 10 := by omega
         · simp only [pus]
           refine any_op (o := _) rfl rfl ?_
           go_wp2_with fail
           refine hK.out _ _ ?_
           exact ⟨.bool js, vt1, vt2, vt3, vt4, vt5, vt6, vt7, vt8, vt9, vt10, (by simp only [pus]), hB, (fun _ => rfl), p1, p2, p3, p4, p5, p6, p7, p8, p9, p10⟩
         · simp only [pus]
           have c0 := V.n0 1 rfl
           refine any_op (o := _) rfl rfl ?_
           go_wp2_with fail
           refine hK.out _ _ ?_
           exact ⟨vt0, .agg #[.slice xs15 ys15 zs15], vt2, vt3, vt4, vt5, vt6, vt7, vt8, vt9, vt10, (by simp only [pus]), hB, p0, (fun _ => rfl), p2, p3, p4, p5, p6, p7, p8, p9, p10⟩
         · simp only [pus]
           have c0 := V.n0 0 rfl
           refine any_op (o := _) rfl rfl ?_
           go_wp2_with fail
           refine hK.out _ _ ?_
           exact ⟨vt0, vt1, .agg #[.slice xg yg zg], vt3, vt4, vt5, vt6, vt7, vt8, vt9, vt10, (by simp only [pus]), hB, p0, p1, (fun _ => rfl), p3, p4, p5, p6, p7, p8, p9, p10⟩
         · obtain rfl := p1 (hdep 1 (by kernel_rfl))
           obtain rfl := p2 (hdep 2 (by kernel_rfl))
           simp only [pus]
           refine any_op (o := _) rfl rfl ?_
           have hC := Lib.hid (HSR.out W _ _ (V.num 1 _ _ rfl).1 (V.num 0 _ _ rfl).1)
           go_simp
           refine hC.out.mono ?_
           rintro e W2 ⟨x, y, z, rfl, hn, hb⟩
           refine hK.out _ _ ?_
           exact ⟨vt0, .agg #[.slice xs15 ys15 zs15], .agg #[.slice xg yg zg], .agg #[.slice x y z], vt4, vt5, vt6, vt7, vt8, vt9, vt10, (by simp only [pus]), hB.trans (hb.mono hB.size), p0, (fun _ => rfl), (fun _ => rfl), (fun _ => ⟨⟨x, y, z, rfl⟩, hn⟩), p4, p5, (fun h => (p6 h).below hb), p7, (fun h => (p8 h).below hb), (fun h => (p9 h).below hb), (fun h => (p10 h).below hb (Nat.le_refl _))⟩
         · simp only [pus]
           have c0 := V.n0 3 rfl
           refine any_op (o := _) rfl rfl ?_
           go_wp2_with fail
           refine hK.out _ _ ?_
           exact ⟨vt0, vt1, vt2, vt3, .agg #[.slice xq3 yq3 zq3], vt5, vt6, vt7, vt8, vt9, vt10, (by simp only [pus]), hB, p0, p1, p2, p3, (fun _ => rfl), p5, p6, p7, p8, p9, p10⟩
         · simp only [pus]
           have c0 := V.c0 6 rfl
           have c1 := V.c1 6 rfl
           have c2 := V.c2 6 rfl
           refine any_op (o := _) rfl rfl ?_
           go_wp2_with fail
           refine hK.out _ _ ?_
           exact ⟨vt0, vt1, vt2, vt3, vt4, .agg #[.bool us, .slice q m d, .slice q' m' d'], vt6, vt7, vt8, vt9, vt10, (by simp only [pus]), hB, p0, p1, p2, p3, p4, (fun _ => rfl), p6, p7, p8, p9, p10⟩
         · have k3 := p3 (hdep 3 (by kernel_rfl))
           obtain ⟨⟨x3, y3, z3, rfl⟩, n3⟩ := k3
           obtain rfl := p5 (hdep 5 (by kernel_rfl))
           simp only [pus]
           refine any_op (o := _) rfl rfl ?_
           have hC := Lib.hid (HDy.out W _ (V.rat 1 _ _ rfl))
           go_simp
           refine hC.out.mono ?_
           rintro e W2 ⟨x, y, z, rfl, hn, hb⟩
           refine hK.out _ _ ?_
           exact ⟨vt0, vt1, vt2, .agg #[.slice x3 y3 z3], vt4, .agg #[.bool us, .slice q m d, .slice q' m' d'], .agg #[.slice x y z], vt7, vt8, vt9, vt10, (by simp only [pus]), hB.trans (hb.mono hB.size), p0, p1, p2, (fun _ => (show Nm _ _ _ from ⟨⟨x3, y3, z3, rfl⟩, n3⟩).below hb), p4, (fun _ => rfl), (fun _ => ⟨⟨x, y, z, rfl⟩, hn⟩), p7, (fun h => (p8 h).below hb), (fun h => (p9 h).below hb), (fun h => (p10 h).below hb (Nat.le_refl _))⟩
         · simp only [pus]
           have c0 := V.n0 0 rfl
           refine any_op (o := _) rfl rfl ?_
           go_wp2_with fail
           refine hK.out _ _ ?_
           exact ⟨vt0, vt1, vt2, vt3, vt4, vt5, vt6, .agg #[.slice xg yg zg], vt8, vt9, vt10, (by simp only [pus]), hB, p0, p1, p2, p3, p4, p5, p6, (fun _ => rfl), p8, p9, p10⟩
         · have k6 := p6 (hdep 6 (by kernel_rfl))
           obtain ⟨⟨x6, y6, z6, rfl⟩, n6⟩ := k6
           obtain rfl := p7 (hdep 7 (by kernel_rfl))
           simp only [pus]
           refine any_op (o := _) rfl rfl ?_
           have hC := Lib.hid (HYR.out W _ _ n6 (V.num 0 _ _ rfl).1)
           go_simp
           refine hC.out.mono ?_
           rintro e W2 ⟨x, y, z, rfl, hn, hb⟩
           refine hK.out _ _ ?_
           exact ⟨vt0, vt1, vt2, vt3, vt4, vt5, .agg #[.slice x6 y6 z6], .agg #[.slice xg yg zg], .agg #[.slice x y z], vt9, vt10, (by simp only [pus]), hB.trans (hb.mono hB.size), p0, p1, p2, (fun h => (p3 h).below hb), p4, p5, (fun _ => (show Nm _ _ _ from ⟨⟨x6, y6, z6, rfl⟩, n6⟩).below hb), (fun _ => rfl), (fun _ => ⟨⟨x, y, z, rfl⟩, hn⟩), (fun h => (p9 h).below hb), (fun h => (p10 h).below hb (Nat.le_refl _))⟩
         · obtain rfl := p4 (hdep 4 (by kernel_rfl))
           have k8 := p8 (hdep 8 (by kernel_rfl))
           obtain ⟨⟨x8, y8, z8, rfl⟩, n8⟩ := k8
           simp only [pus]
           refine any_op (o := _) rfl rfl ?_
           have hC := Lib.hid (HDD.out W _ _ (V.num 2 _ _ rfl).1 n8)
           go_simp
           refine hC.out.mono ?_
           rintro e W2 ⟨x, y, z, rfl, hn, hb⟩
           refine hK.out _ _ ?_
           exact ⟨vt0, vt1, vt2, vt3, .agg #[.slice xq3 yq3 zq3], vt5, vt6, vt7, .agg #[.slice x8 y8 z8], .agg #[.slice x y z], vt10, (by simp only [pus]), hB.trans (hb.mono hB.size), p0, p1, p2, (fun h => (p3 h).below hb), (fun _ => rfl), p5, (fun h => (p6 h).below hb), p7, (fun _ => (show Nm _ _ _ from ⟨⟨x8, y8, z8, rfl⟩, n8⟩).below hb), (fun _ => ⟨⟨x, y, z, rfl⟩, hn⟩), (fun h => (p10 h).below hb (Nat.le_refl _))⟩
         · obtain rfl := p0 (hdep 0 (by kernel_rfl))
           have k3 := p3 (hdep 3 (by kernel_rfl))
           obtain ⟨⟨x3, y3, z3, rfl⟩, n3⟩ := k3
           have k9 := p9 (hdep 9 (by kernel_rfl))
           obtain ⟨⟨x9, y9, z9, rfl⟩, n9⟩ := k9
           simp only [pus]
           refine any_op (o := _) rfl rfl ?_
           have hC := Lib.hid (HX.out W _ _ n3 n9)
           go_simp
           refine hC.out.mono ?_
           rintro e W2 ⟨u, rfl, hn, hb⟩
           refine hK.out _ _ ?_
           exact ⟨.bool js, vt1, vt2, .agg #[.slice x3 y3 z3], vt4, vt5, vt6, vt7, vt8, .agg #[.slice x9 y9 z9], u, (by simp only [pus]), hB.trans (hb.mono hB.size), (fun _ => rfl), p1, p2, (fun _ => (show Nm _ _ _ from ⟨⟨x3, y3, z3, rfl⟩, n3⟩).below hb), p4, p5, (fun h => (p6 h).below hb), p7, (fun h => (p8 h).below hb), (fun _ => (show Nm _ _ _ from ⟨⟨x9, y9, z9, rfl⟩, n9⟩).below hb), (fun _ => hn)⟩
       · intro dj a W hd hI
         obtain ⟨vt0, vt1, vt2, vt3, vt4, vt5, vt6, vt7, vt8, vt9, vt10, rfl, hB, p0, p1, p2, p3, p4, p5, p6, p7, p8, p9, p10⟩ := hI
         have V := V5.below hB
         obtain rfl := p0 (hd 0 (by omega))
         obtain rfl := p1 (hd 1 (by omega))
         obtain rfl := p2 (hd 2 (by omega))
         obtain ⟨⟨xt3, yt3, zt3, rfl⟩, nt3⟩ := p3 (hd 3 (by omega))
         obtain rfl := p4 (hd 4 (by omega))
         obtain rfl := p5 (hd 5 (by omega))
         obtain ⟨⟨xt6, yt6, zt6, rfl⟩, nt6⟩ := p6 (hd 6 (by omega))
         obtain rfl := p7 (hd 7 (by omega))
         obtain ⟨⟨xt8, yt8, zt8, rfl⟩, nt8⟩ := p8 (hd 8 (by omega))
         obtain ⟨⟨xt9, yt9, zt9, rfl⟩, nt9⟩ := p9 (hd 9 (by omega))
         have nt10 := p10 (hd 10 (by omega))
         simp only [pus]
         show wpAny Tryz.prog .any _ _ 1 #[true, true, true, true, true, true, true, true, true, true, true, false] _ _
         obtain ⟨e1, e2, e3, e4, e5, e6, rfl, m1, m2⟩ := nt10
         obtain ⟨zx, hzx⟩ : ∃ zx, decide (X.num < 0) = zx := ⟨_, rfl⟩
         rw [hzx]
         have V9 := (V.cons m2 HXs.out.2).cons m1 HXs.out.1
         have r0 := V9.c0 5 rfl; have r1 := V9.c1 5 rfl; have r2 := V9.c2 5 rfl
         have f0 := V9.frozen 5 0 rfl; have f1 := V9.frozen 5 1 rfl; have f2 := V9.frozen 5 2 rfl
         have HF := Lib.hid (V9.fin3 (x := X) (y := zx) 5 0 1 rfl rfl rfl hzx)
         clear V V9 m1 m2 hzx V5 nt3 nt6 nt8 nt9
         refine wpAny_of_held (S := fun _ => True) _ _ _ _ ?_
         refine wpAnyH_ready (rs := [11]) (by kernel_rfl) (by simp) ?_
         refine AllReadyH.cons (o := _) rfl (fun K hK => ?_) AllReadyH.nil
         go_wp2_with fail
         refine hK.out _ _ trivial (fun _ => ?_)
         clear hK K
         try simp only [las]
         refine wpAnyH_done (by kernel_rfl) ?_ _
         go_wp2_with fail
         exact bodyPost_ret (res_rat rfl _ _ _ _ _ _ _ _ _ _ rfl HF.out.1) rfl HF.out.2
end Go.Proofs.YtckglpkafhmehaaGreatDoor
namespace Go.Proofs.YtckglpkafhmehaaGreatDoor
open Go.RowKit
set_option linter.unusedVariables false
theorem floor_whole (x : Rat) (h : x.den = 1) : ((x.floor : Int) : Rat) = x := by
 rw [Rat.floor_def, h]
 simp only [Int.natCast_one, Int.ediv_one]
 apply Rat.ext
 · rw [Rat.num_intCast]
 · rw [Rat.den_intCast, h]
theorem floor_pos (x : Rat) (h : ¬ x.num < 0) : x.floor = ((x.num.natAbs / x.den : Nat) : Int) := by
 rw [Rat.floor_def, Int.natCast_ediv, Int.natAbs_of_nonneg (by omega)]
theorem floor_neg (x : Rat) (h : x.num < 0) (hd : x.den ≠ 1) : x.floor = -((x.num.natAbs / x.den + 1 : Nat) : Int) := by
 rw [Rat.floor_def]
 obtain ⟨N, hN⟩ : ∃ N, x.num.natAbs = N := ⟨_, rfl⟩
 have hn : x.num = -(N : Int) := by omega
 have hr : 0 < N % x.den := by
  rcases Nat.eq_zero_or_pos (N % x.den) with h0 | h0
  · have h1 : x.den ∣ N := Nat.dvd_of_mod_eq_zero h0
    have h2 : x.den ∣ Nat.gcd x.num.natAbs x.den := Nat.dvd_gcd (by rw [hN]; exact h1) (Nat.dvd_refl _)
    rw [x.reduced] at h2
    exact absurd (Nat.dvd_one.1 h2) hd
  · exact h0
 have hl := Nat.mod_lt N x.den_pos
 have he := Nat.div_add_mod N x.den
 rw [hN, hn]
 have hu := (Int.ediv_emod_unique (a := -(N : Int)) (b := (x.den : Int)) (q := -((N / x.den + 1 : Nat) : Int)) (r := ((x.den - N % x.den : Nat) : Int)) (by have := x.den_pos; omega)).2 ⟨?_, by omega, by omega⟩
 · exact hu.1
 · have e1 : (x.den : Int) * -((N / x.den + 1 : Nat) : Int) = -(((x.den * (N / x.den) + x.den : Nat)) : Int) := by
    rw [Int.mul_neg, ← Int.natCast_mul, Nat.mul_add, Nat.mul_one]
   rw [e1]
   omega
theorem sz_floor {k : Nat} {x : Rat} (h : Sz k x) (hk : 1 ≤ k) : Sz (k + 1) ((x.floor : Int) : Rat) := by
 refine ⟨?_, by rw [Rat.den_intCast]; exact Nat.one_lt_pow (by omega) (by decide)⟩
 rw [nd_num]
 have h1 : x.num.natAbs / x.den < 18446744073709551616 ^ k := Nat.lt_of_le_of_lt (Nat.div_le_self _ _) h.1
 have h2 : x.num.natAbs / x.den + 1 < 18446744073709551616 ^ (k + 1) := w_add h1 (Nat.one_lt_pow (by omega) (by decide))
 by_cases hs : x.num < 0
 · by_cases hd : x.den = 1
   · have := floor_whole x hd
     have h3 : x.floor = x.num := by rw [Rat.floor_def, hd]; simp
     rw [h3]
     exact w_up h.1 (by omega)
   · rw [floor_neg x hs hd]
     generalize x.num.natAbs / x.den = T at h1 h2 ⊢
     omega
 · rw [floor_pos x hs]
   generalize x.num.natAbs / x.den = T at h1 h2 ⊢
   omega
set_option maxRecDepth 100000 in
set_option maxHeartbeats 8000000 in
theorem floor_any (x : Rat) (va : Value) (w : World) (ha : IsR w va x) (hx : Sz 90 x) : Calls Tryz.prog 27 #[va] w (GaveR ((x.floor : Int) : Rat) w) := by
 have hx1 := hx.mono (k := 100) (by omega)
 have hR := ha
 obtain ⟨p, n, c, p', n', c', rfl, h1, h2⟩ := ha
 have HW : Hid (∀ W v, IsR W v x → Calls Tryz.prog 29 #[v] W fun e w' => e = .returned (.bool (decide (x.den = 1))) ∧ Below W.heap.size W w') := Lib.hid (fun W v h => whole_any x v W h hx1.2)
 obtain ⟨z, hz⟩ : ∃ z, decide (x.num < 0) = z := ⟨_, rfl⟩
 rw [hz] at hR ⊢
 have V0 := ((((Mq.refl w).rcons hR).cons h2 hx1.dn).cons h1 hx1.1).two 33 33 #[.bool z, .slice p n c, .slice p' n' c'] #[.bool false, .slice none 0 0, .slice none 0 0]
 have b0 := V0.c0 1 rfl; have b1 := V0.c1 1 rfl; have b2 := V0.c2 1 rfl
 by_cases hd : x.den = 1
 · have hw := floor_whole x hd
   rw [hw]
   rw [decide_eq_true hd] at HW
   clear h1 h2 hR hd hw
   go_enter Tryz.func27, Tryz.ntmps27
   go_wp2_with fail
   refine (HW.out _ _ (V0.rat 0 _ _ rfl)).mono ?_
   rintro e w2 ⟨rfl, hb⟩
   have V2 := V0.below hb
   have b0 := V2.c0 1 rfl; have b1 := V2.c1 1 rfl; have b2 := V2.c2 1 rfl
   have r0 := V2.c0 0 rfl; have r1 := V2.c1 0 rfl; have r2 := V2.c2 0 rfl
   have f0 := V2.frozen 0 0 rfl; have f1 := V2.frozen 0 1 rfl; have f2 := V2.frozen 0 2 rfl
   have HF := Lib.hid (V2.fin3 (x := x) (y := z) 0 0 1 rfl rfl rfl hz)
   clear V0 V2
   go_wp2_with fail
   exact bodyPost_ret (res_rat rfl _ _ _ _ _ _ _ _ _ _ rfl HF.out.1) rfl HF.out.2
 rw [decide_eq_false hd] at HW
 have hdn : dn x = x.den := dn_ne hd
 rw [hdn] at V0
 have hq : x.num.natAbs / x.den < 18446744073709551616 ^ 90 := Nat.lt_of_le_of_lt (Nat.div_le_self _ _) hx.1
 have hXp : z = false → ((x.floor : Int) : Rat).num.natAbs = x.num.natAbs / x.den ∧ ((x.floor : Int) : Rat).den = 1 ∧ decide (((x.floor : Int) : Rat).num < 0) = false := fun e => by
  subst e
  rw [floor_pos x (of_decide_eq_false hz)]
  generalize x.num.natAbs / x.den = T
  refine ⟨by rw [nd_num]; rfl, Rat.den_intCast _, ?_⟩
  rw [Rat.num_intCast]
  exact decide_eq_false (by omega)
 have hXn : z = true → ((x.floor : Int) : Rat).num.natAbs = x.num.natAbs / x.den + 1 ∧ ((x.floor : Int) : Rat).den = 1 ∧ decide (((x.floor : Int) : Rat).num < 0) = true := fun e => by
  subst e
  rw [floor_neg x (of_decide_eq_true hz) hd]
  generalize x.num.natAbs / x.den = T
  refine ⟨by rw [nd_num]; omega, Rat.den_intCast _, ?_⟩
  rw [Rat.num_intCast]
  exact decide_eq_true (by omega)
 obtain ⟨X, hXe⟩ : ∃ X, ((x.floor : Int) : Rat) = X := ⟨_, rfl⟩
 rw [hXe] at hXp hXn ⊢
 have hD0 := x.den_pos
 obtain ⟨A, hA⟩ : ∃ A, x.num.natAbs = A := ⟨_, rfl⟩
 obtain ⟨D, hD⟩ : ∃ D, x.den = D := ⟨_, rfl⟩
 rw [hA] at V0 hq hXp hXn
 rw [hD] at V0 hq hXp hXn hD0
 have hA8 : A < 18446744073709551616 ^ 8000 := by rw [← hA]; exact q100 8000 hx1.1 (by omega)
 have HD : Hid (∀ W va vb, IsN W va A → IsN W vb D → Calls Tryz.prog 49 #[va, vb] W fun e w' => ∃ x y z x' y' z', e = .returned (.tuple #[.agg #[.slice x y z], .agg #[.slice x' y' z'], .bool true]) ∧ IsN w' (.agg #[.slice x y z]) (A / D) ∧ IsN w' (.agg #[.slice x' y' z']) (A % D) ∧ Below W.heap.size W w') := Lib.hid (fun W va vb h1 h2 => dvm_tr A D va vb W h1 h2 hA8 hD0)
 obtain ⟨Q, hQ⟩ : ∃ Q, A / D = Q := ⟨_, rfl⟩
 rw [hQ] at HD hq hXp hXn
 have HOf : Hid (∀ W, Calls Tryz.prog 35 #[.int .u64 1] W (GaveV 1 W)) := Lib.hid (fun W => (of_any 1 (by decide) W).mono fun e w' h' => by
  obtain ⟨v, h1, h2, h3⟩ := h'
  obtain ⟨x, y, z, rfl⟩ := isN_form h2
  exact ⟨x, y, z, h1, h2, h3⟩)
 have HAd : Hid (∀ W va vb, IsN W va Q → IsN W vb 1 → Calls Tryz.prog 36 #[va, vb] W (GaveV (Q + 1) W)) := Lib.hid (fun W va vb h1 h2 => add_any Q 1 va vb W h1 h2 (q100 9000 (w_up hq (by omega)) (by omega)) (q100 9000 (Nat.one_lt_pow (by decide) (by decide)) (by omega)))
 have hQ1 : Q < 18446744073709551616 ^ 100 := w_up hq (by omega)
 have hQ2 : Q + 1 < 18446744073709551616 ^ 100 := w_up (w_add hq (Nat.one_lt_pow (by decide) (by decide))) (by omega)
 have HQ1 := Lib.hid hQ1
 have HQ2 := Lib.hid hQ2
 clear h1 h2 hR hd hdn hXe hA hD hA8 hD0 hq hQ hz hQ1 hQ2
 cases z with
 | true =>
  have HX := Lib.hid (hXn rfl)
  have HXs : Hid (X.num.natAbs < 18446744073709551616 ^ 100 ∧ dn X < 18446744073709551616 ^ 100) := Lib.hid ⟨by rw [HX.out.1]; exact HQ2.out, by rw [dn_one HX.out.2.1]; exact Nat.pow_pos (by decide)⟩
  clear hXn hXp
  go_enter Tryz.func27, Tryz.ntmps27
  go_wp2_with fail
  refine (HW.out _ _ (V0.rat 0 _ _ rfl)).mono ?_
  rintro e w2 ⟨rfl, hb⟩
  have V2 := V0.below hb
  have b1 := V2.c1 1 rfl; have b2 := V2.c2 1 rfl
  clear V0
  go_wp2_with fail
  refine (HD.out _ _ _ (V2.num 0 _ _ rfl).1 (V2.num 1 _ _ rfl).1).mono ?_
  rintro e w3 ⟨xA, yA, zA, xB, yB, zB, rfl, nA, nB, hb3⟩
  have V3 := (V2.below hb3).cons nA HQ1.out
  have V4 := V3.two 31 31 #[.slice xA yA zA] #[.slice xB yB zB]
  have g0 := V4.c0 3 rfl
  obtain ⟨W4, hW4⟩ : ∃ W4, (w3.alloc (.cells #[.slice xA yA zA] 31)).alloc (.cells #[.slice xB yB zB] 31) = W4 := ⟨_, rfl⟩
  rw [hW4] at V4
  have HW4 := Lib.hid hW4
  clear V2 V3 hW4 nA nB b0 b1 b2
  go_wp2_with fail
  rw [HW4.out]
  refine wp_region_inv 4 (fun a0 dj a W => ∃ vr0 vr1 vr2 vr3 : Value, a = puts a0 [(20, vr0), (21, vr1), (22, vr2), (23, vr3)] ∧ Below W4.heap.size W4 W ∧ (dj 0 = true → vr0 = .agg #[.slice xA yA zA]) ∧ (dj 1 = true → Nm W vr1 (1)) ∧ (dj 2 = true → Nm W vr2 (Q + 1)) ∧ (dj 3 = true → IsR W vr3 (X))) (by kernel_rfl) (by kernel_rfl) (by kernel_rfl) ?_ ?_ ?_ ?_
  · intro dj hcl i hi1 hi2 hd j hj
    have hi2 := Nat.lt_of_lt_of_le hi2 (show _ ≤ 5 from of_decide_eq_true (by kernel_rfl))
    obtain rfl : i = 4 := by omega
    · have e3 : dj 3 = true := hd 3 (by kernel_rfl)
      have e2 : dj 2 = true := hd 2 (by kernel_rfl)
      have e0 : dj 0 = true := hd 0 (by kernel_rfl)
      have e1 : dj 1 = true := hd 1 (by kernel_rfl)
      obtain rfl | rfl | rfl | rfl : j = 0 ∨ j = 1 ∨ j = 2 ∨ j = 3 := by omega
      · exact e0
      · exact e1
      · exact e2
      · exact e3
  · refine ⟨undef, undef, undef, undef, (by simp only [pus]), (Below.refl _ _).drew, (fun h => by cases h), (fun h => by cases h), (fun h => by cases h), (fun h => by cases h)⟩
  · intro dj a W i hi hdi hcl hdep hI K hK
    obtain ⟨vr0, vr1, vr2, vr3, rfl, hB, p0, p1, p2, p3⟩ := hI
    have V := V4.below hB
    obtain rfl | rfl | rfl | rfl : i = 0 ∨ i = 1 ∨ i = 2 ∨ i = 3 := by omega
    · simp only [pus]
      have c0 := V.n0 1 rfl
      refine any_op (o := _) rfl rfl ?_
      go_wp2_with fail
      refine hK.out _ _ ?_
      exact ⟨.agg #[.slice xA yA zA], vr1, vr2, vr3, (by simp only [pus]), hB, (fun _ => rfl), p1, p2, p3⟩
    · simp only [pus]
      refine any_op (o := _) rfl rfl ?_
      have hC := Lib.hid (HOf.out W)
      go_simp
      refine hC.out.mono ?_
      rintro e W2 ⟨x, y, z, rfl, hn, hb⟩
      refine hK.out _ _ ?_
      exact ⟨vr0, .agg #[.slice x y z], vr2, vr3, (by simp only [pus]), hB.trans (hb.mono hB.size), p0, (fun _ => ⟨⟨x, y, z, rfl⟩, hn⟩), (fun h => (p2 h).below hb), (fun h => (p3 h).below hb (Nat.le_refl _))⟩
    · obtain rfl := p0 (hdep 0 (by kernel_rfl))
      have k1 := p1 (hdep 1 (by kernel_rfl))
      obtain ⟨⟨x1, y1, z1, rfl⟩, n1⟩ := k1
      simp only [pus]
      refine any_op (o := _) rfl rfl ?_
      have hC := Lib.hid (HAd.out W _ _ (V.num 0 _ _ rfl).1 n1)
      go_simp
      refine hC.out.mono ?_
      rintro e W2 ⟨x, y, z, rfl, hn, hb⟩
      refine hK.out _ _ ?_
      exact ⟨.agg #[.slice xA yA zA], .agg #[.slice x1 y1 z1], .agg #[.slice x y z], vr3, (by simp only [pus]), hB.trans (hb.mono hB.size), (fun _ => rfl), (fun _ => (show Nm _ _ _ from ⟨⟨x1, y1, z1, rfl⟩, n1⟩).below hb), (fun _ => ⟨⟨x, y, z, rfl⟩, hn⟩), (fun h => (p3 h).below hb (Nat.le_refl _))⟩
    · have k2 := p2 (hdep 2 (by kernel_rfl))
      obtain ⟨⟨x2, y2, z2, rfl⟩, n2⟩ := k2
      simp only [pus]
      refine any_op (o := _) rfl rfl ?_
      go_wp2_with fail
      refine hK.out _ _ ?_
      exact ⟨vr0, vr1, .agg #[.slice x2 y2 z2], .agg #[.bool true, .slice x2 y2 z2, .slice none 0 0], (by simp only [pus]), hB, p0, p1, (fun _ => ⟨⟨x2, y2, z2, rfl⟩, n2⟩), (fun _ => isR_of n2 X HX.out.1 HX.out.2.1 HX.out.2.2)⟩
  · intro dj a W hd hI
    obtain ⟨vr0, vr1, vr2, vr3, rfl, hB, p0, p1, p2, p3⟩ := hI
    have V := V4.below hB
    obtain rfl := p0 (hd 0 (by omega))
    obtain ⟨⟨xr1, yr1, zr1, rfl⟩, nr1⟩ := p1 (hd 1 (by omega))
    obtain ⟨⟨xr2, yr2, zr2, rfl⟩, nr2⟩ := p2 (hd 2 (by omega))
    have nr3 := p3 (hd 3 (by omega))
    simp only [pus]
    show wpAny Tryz.prog .any _ _ 1 #[true, true, true, true, false] _ _
    obtain ⟨e1, e2, e3, e4, e5, e6, rfl, m1, m2⟩ := nr3
    obtain ⟨zx, hzx⟩ : ∃ zx, decide (X.num < 0) = zx := ⟨_, rfl⟩
    rw [hzx]
    have V9 := (V.cons m2 HXs.out.2).cons m1 HXs.out.1
    have r0 := V9.c0 2 rfl; have r1 := V9.c1 2 rfl; have r2 := V9.c2 2 rfl
    have f0 := V9.frozen 2 0 rfl; have f1 := V9.frozen 2 1 rfl; have f2 := V9.frozen 2 2 rfl
    have HF := Lib.hid (V9.fin3 (x := X) (y := zx) 2 0 1 rfl rfl rfl hzx)
    clear V V9 m1 m2 hzx V4 nr1 nr2
    refine wpAny_of_held (S := fun _ => True) _ _ _ _ ?_
    refine wpAnyH_ready (rs := [4]) (by kernel_rfl) (by simp) ?_
    refine AllReadyH.cons (o := _) rfl (fun K hK => ?_) AllReadyH.nil
    go_wp2_with fail
    refine hK.out _ _ trivial (fun _ => ?_)
    clear hK K
    try simp only [las]
    refine wpAnyH_done (by kernel_rfl) ?_ _
    go_wp2_with fail
    exact bodyPost_ret (res_rat rfl _ _ _ _ _ _ _ _ _ _ rfl HF.out.1) rfl HF.out.2
 | false =>
  have HX := Lib.hid (hXp rfl)
  clear hXn hXp
  go_enter Tryz.func27, Tryz.ntmps27
  go_wp2_with fail
  refine (HW.out _ _ (V0.rat 0 _ _ rfl)).mono ?_
  rintro e w2 ⟨rfl, hb⟩
  have V2 := V0.below hb
  have b1 := V2.c1 1 rfl; have b2 := V2.c2 1 rfl
  clear V0
  go_wp2_with fail
  refine (HD.out _ _ _ (V2.num 0 _ _ rfl).1 (V2.num 1 _ _ rfl).1).mono ?_
  rintro e w3 ⟨xA, yA, zA, xB, yB, zB, rfl, nA, nB, hb3⟩
  have V3 := ((V2.below hb3).cons (isN_zero _) (Nat.pow_pos (by decide))).cons nA HQ1.out
  have V4 := V3.two 31 31 #[.slice xA yA zA] #[.slice xB yB zB]
  have g0 := V4.c0 3 rfl
  have g1 := V4.n0 1 rfl
  have r0 := V4.c0 2 rfl; have r1 := V4.c1 2 rfl; have r2 := V4.c2 2 rfl
  have f0 := V4.frozen 2 0 rfl; have f1 := V4.frozen 2 1 rfl; have f2 := V4.frozen 2 2 rfl
  have HF := Lib.hid (V4.fin3 (x := X) (y := false) (q := xA) (m := yA) (d := zA) (q' := none) (m' := 0) (d' := 0) 2 0 1 rfl (by rw [HX.out.1]; rfl) (by rw [dn_one HX.out.2.1]; rfl) HX.out.2.2)
  clear V2 V3 V4 nA nB b0 b1 b2
  go_wp2_with fail
  exact bodyPost_ret (res_rat rfl _ _ _ _ _ _ _ _ _ _ rfl HF.out.1) rfl HF.out.2
set_option maxRecDepth 100000 in
set_option maxHeartbeats 4000000 in
theorem ceil_any (x : Rat) (va : Value) (w : World) (ha : IsR w va x) (hx : Sz 80 x) : Calls Tryz.prog 26 #[va] w (GaveR ((x.ceil : Int) : Rat) w) := by
 have hR := ha
 obtain ⟨p, n, c, p', n', c', rfl, h1, h2⟩ := ha
 obtain ⟨z, hz⟩ : ∃ z, decide (x.num < 0) = z := ⟨_, rfl⟩
 rw [hz] at hR ⊢
 have V0 := ((Mq.refl w).rcons hR).two 33 33 #[.bool z, .slice p n c, .slice p' n' c'] #[.bool false, .slice none 0 0, .slice none 0 0]
 have hsn : Sz 80 (-x) := sz_neg hx
 have hsf : Sz 81 (((-x).floor : Int) : Rat) := sz_floor hsn (by omega)
 have HO : Hid (∀ W v, IsR W v x → Calls Tryz.prog 48 #[v] W (GaveR (-x) W)) := Lib.hid (fun W v h => opp_any x v W h (hx.mono (by omega)))
 have HR : Hid (∀ W v, IsR W v (-x) → Calls Tryz.prog 27 #[v] W (GaveR (((-x).floor : Int) : Rat) W)) := Lib.hid (fun W v h => floor_any (-x) v W h (hsn.mono (by omega)))
 have HO2 : Hid (∀ W v, IsR W v (((-x).floor : Int) : Rat) → Calls Tryz.prog 48 #[v] W (GaveR ((x.ceil : Int) : Rat) W)) := Lib.hid (fun W v h => by
  have h3 := opp_any _ v W h (hsf.mono (by omega))
  rw [Rat.ceil_eq_neg_floor_neg, Rat.intCast_neg]
  exact h3)
 have b0 := V0.c0 1 rfl; have b1 := V0.c1 1 rfl; have b2 := V0.c2 1 rfl
 have hsY : Sz 100 ((x.ceil : Int) : Rat) := by
  rw [Rat.ceil_eq_neg_floor_neg, Rat.intCast_neg]
  exact (sz_neg hsf).mono (by omega)
 obtain ⟨Y, hY⟩ : ∃ Y, ((x.ceil : Int) : Rat) = Y := ⟨_, rfl⟩
 rw [hY] at HO2 hsY ⊢
 clear h1 h2 hz hsn hsf hY
 go_enter Tryz.func26, Tryz.ntmps26
 go_wp2_with fail
 refine (HO.out _ _ (V0.rat 0 _ _ rfl)).mono ?_
 rintro e w2 ⟨v2, rfl, r2, hb2⟩
 have V2 := V0.below hb2
 clear V0 b0 b1 b2
 go_wp2_with fail
 refine (HR.out _ _ r2).mono ?_
 rintro e w3 ⟨v3, rfl, r3, hb3⟩
 have V3 := V2.below hb3
 clear V2 r2
 go_wp2_with fail
 refine (HO2.out _ _ r3).mono ?_
 rintro e w4 ⟨v4, rfl, r4, hb4⟩
 have V4 := V3.below hb4
 obtain ⟨q, m, d, q', m', d', rfl, k1, k2⟩ := r4
 obtain ⟨zy, hzy⟩ : ∃ z, decide (Y.num < 0) = z := ⟨_, rfl⟩
 rw [hzy]
 have V5 := (V4.cons k2 hsY.dn).cons k1 hsY.1
 have r0 := V5.c0 0 rfl; have r1 := V5.c1 0 rfl; have r2 := V5.c2 0 rfl
 have f0 := V5.frozen 0 0 rfl; have f1 := V5.frozen 0 1 rfl; have f2 := V5.frozen 0 2 rfl
 have HF := Lib.hid (V5.fin3 (x := Y) (y := zy) 0 0 1 rfl rfl rfl hzy)
 clear V3 V4 V5 r3 k1 k2 hzy
 go_wp2_with fail
 exact bodyPost_ret (res_rat rfl _ _ _ _ _ _ _ _ _ _ rfl HF.out.1) rfl HF.out.2
end Go.Proofs.YtckglpkafhmehaaGreatDoor
namespace Go.Proofs.YtckglpkafhmehaaGreatDoor
open Go.RowKit
set_option linter.unusedVariables false
theorem any_opg {P : Program} {ops : Array Oper} {Q : Exit → Act → World → Prop} {i : Nat} {K : Act → World → Prop} {a : Act} {w : World} {o : Oper} (hi : ops[i]? = some o) (hg : Region.wanted o (yielded ops a.tmps) = true) (h : o.wp P a w K Q) : wpOp P ops Q i K a w := by
 unfold wpOp
 rw [hi]
 simp only [hg, if_true]
 exact .inl h
section
variable {w W8 W : World} {bx : List (Nat × TypeId × Array Value)} {l : List (Value × Nat)} {r : List (Value × Rat)}
/-- A fraction is stored into a box that was made late. -/
theorem Mq.put3 (V : Mq w bx l r W8) (hb : Below W8.heap.size W8 W) {b : Nat} {z : Bool} {p : Option Addr} {n c : Nat} {p' : Option Addr} {n' c' : Nat} (hk : Blk W b 33 #[.bool z, .slice p n c, .slice p' n' c']) (hb8 : W8.heap.size ≤ b)
 {v : Value} {D : Rat} (hD : IsR W v D) (y : Bool) (q : Option Addr) (m d : Nat) (q' : Option Addr) (m' d' : Nat) :
 Mq w ((b, 33, #[.bool y, .slice q m d, .slice q' m' d']) :: bx) l ((v, D) :: r) (set3 W b (.bool y) (.slice q m d) (.slice q' m' d')) :=
 ((V.below (below_set3 hb hb8 _ _ _)).rcons (isR_put (isR_put (isR_put hD hk (plain_rat _ _ _ _ _ _ _) (i := 0) (.bool y)) (hk.set_ 0 (.bool y)) (plain_rat _ _ _ _ _ _ _) (i := 1) (.slice q m d)) ((hk.set_ 0 (.bool y)).set_ 1 (.slice q m d)) (plain_rat _ _ _ _ _ _ _) (i := 2) (.slice q' m' d'))).addbox (blk_set3 hk _ _ _) (Nat.le_trans V.bel.size hb8)
end
/-- One half. -/
def H12 : Rat := mkRat 1 2
theorem h12_two : H12 + H12 = 1 := by decide +kernel
theorem h12_parts : H12.num = 1 ∧ H12.den = 2 := mk_parts (n := 1) (q := 2) (by decide) (by decide)
theorem sz_h12 (k : Nat) (h : 1 ≤ k) : Sz k H12 := ⟨by rw [h12_parts.1]; exact w_pos k h (by decide), by rw [h12_parts.2]; exact w_pos k h (by decide)⟩
theorem sz_zero (k : Nat) (h : 1 ≤ k) : Sz k 0 := ⟨w_pos k h (by decide), w_pos k h (by decide)⟩
theorem den_num (x : Rat) : x * ((x.den : Int) : Rat) = ((x.num : Int) : Rat) := by
 rw [Rat.mul_def', Rat.num_intCast, Rat.den_intCast, Nat.mul_one]
 have := Rat.mkRat_mul_right (n := x.num) (d := 1) (a := x.den) x.den_nz
 rw [Nat.one_mul] at this
 rw [this]
 have h2 := Rat.mkRat_self ((x.num : Int) : Rat)
 rwa [Rat.num_intCast, Rat.den_intCast] at h2
theorem rnd_bounds (x H : Rat) (hH : H + H = 1) (h : ¬ x.num < 0) : ((rndN x : Int) : Rat) - x ≤ H ∧ -H < ((rndN x : Int) : Rat) - x := by
 have hd : (0 : Rat) < ((x.den : Int) : Rat) := Rat.intCast_lt_intCast.2 (Int.natCast_pos.2 x.den_pos)
 have hx := den_num x
 have hdp := x.den_pos
 obtain ⟨R, hR⟩ : ∃ R, rndN x = R := ⟨_, rfl⟩
 have e := Nat.div_add_mod (x.num.natAbs * 2 ^ 1 + x.den) (x.den * 2 ^ 1)
 have l := Nat.mod_lt (x.num.natAbs * 2 ^ 1 + x.den) (show 0 < x.den * 2 ^ 1 by omega)
 have hR2 := hR
 unfold rndN at hR2
 rw [hR2] at e
 have e2 : x.den * 2 ^ 1 * R = 2 * (x.den * R) := by rw [Nat.mul_assoc, Nat.mul_left_comm]
 rw [e2] at e
 have i1 : 2 * ((x.den : Int) * (R : Int)) ≤ 2 * x.num + (x.den : Int) := by
  have := Int.natCast_mul x.den R
  omega
 have i2 : 2 * x.num < 2 * ((x.den : Int) * (R : Int)) + (x.den : Int) := by
  have := Int.natCast_mul x.den R
  omega
 have j1 := Rat.intCast_le_intCast.2 i1
 have j2 := Rat.intCast_lt_intCast.2 i2
 simp only [Rat.intCast_mul, Rat.intCast_add] at j1 j2
 rw [hR]
 clear e l e2 i1 i2 hdp hR hR2
 generalize ((x.den : Int) : Rat) = d at *
 generalize ((x.num : Int) : Rat) = n at *
 generalize ((R : Int) : Rat) = r at *
 have two : (((2 : Int)) : Rat) = 2 := rfl
 rw [two] at j1 j2
 refine ⟨Rat.not_lt.1 fun h1 => ?_, Rat.not_le.1 fun h1 => ?_⟩
 · have h2 := Rat.mul_pos ((Rat.lt_iff_sub_pos _ _).1 h1) hd
   have e : 2 * ((r - x - H) * d) = 2 * (d * r) - 2 * n - d := by grind
   generalize (r - x - H) * d = u at *
   generalize d * r = s at *
   clear hx h1 hH
   grind
 · have h2 := Rat.mul_nonneg ((Rat.le_iff_sub_nonneg _ _).1 h1) (Rat.le_of_lt hd)
   have e : 2 * ((-H - (r - x)) * d) = 2 * n - 2 * (d * r) - d := by grind
   generalize (-H - (r - x)) * d = u at *
   generalize d * r = s at *
   clear hx h1 hH
   grind
theorem num_neg_iff (z : Rat) : z.num < 0 ↔ z < 0 := by
 have := Rat.num_nonneg (q := z)
 refine ⟨fun h => Rat.not_le.1 (fun h2 => by have := this.2 h2; omega), fun h => ?_⟩
 by_cases h3 : z.num < 0
 · exact h3
 · exact absurd (this.1 (by omega)) (Rat.not_le.2 h)
/-- The nearest whole number. -/
def rndQ (x : Rat) : Int := if x.num < 0 then -(rndN x : Int) else (rndN x : Int)
theorem rndN_neg (x : Rat) : rndN (-x) = rndN x := by unfold rndN; rw [Rat.neg_num, Int.natAbs_neg]; rfl
theorem rndQ_neg (x : Rat) : ((rndQ (-x) : Int) : Rat) = -((rndQ x : Int) : Rat) := by
 rw [← Rat.intCast_neg]
 congr 1
 unfold rndQ
 rw [rndN_neg, Rat.neg_num]
 by_cases h0 : x.num = 0
 · have hz : rndN x = 0 := by
    unfold rndN
    rw [h0]
    have := x.den_pos
    exact Nat.div_eq_of_lt (by simp; omega)
   rw [hz]
   simp [h0]
 · by_cases h : x.num < 0
   · rw [if_neg (by omega), if_pos h]; omega
   · rw [if_pos (by omega), if_neg h]
theorem rndQ_bounds (x : Rat) : (¬ x.num < 0 → ((rndQ x : Int) : Rat) - x ≤ H12 ∧ -H12 < ((rndQ x : Int) : Rat) - x) ∧ (x.num < 0 → -H12 ≤ ((rndQ x : Int) : Rat) - x ∧ ((rndQ x : Int) : Rat) - x < H12) := by
 constructor
 · intro h
   unfold rndQ
   rw [if_neg h]
   exact rnd_bounds x H12 h12_two h
 · intro h
   have hn : ¬ (-x).num < 0 := by rw [Rat.neg_num]; omega
   obtain ⟨h1, h2⟩ := rnd_bounds (-x) H12 h12_two hn
   rw [rndN_neg] at h1 h2
   unfold rndQ
   rw [if_pos h, Rat.intCast_neg]
   generalize ((rndN x : Int) : Rat) = r at *
   constructor <;> grind
/-- How far it is from the nearest whole number. -/
def offQ (x : Rat) : Rat := if (((rndQ x : Int) : Rat) - x).num < 0 then 0 - (((rndQ x : Int) : Rat) - x) else ((rndQ x : Int) : Rat) - x
theorem offQ_le (x : Rat) : offQ x ≤ H12 := by
 obtain ⟨h1, h2⟩ := rndQ_bounds x
 unfold offQ
 generalize ((rndQ x : Int) : Rat) - x = e at *
 by_cases h : x.num < 0
 · obtain ⟨h3, h4⟩ := h2 h
   split <;> grind
 · obtain ⟨h3, h4⟩ := h1 h
   split <;> grind
theorem offQ_eq (x : Rat) (h : offQ x = H12) : (x.num < 0 → (((rndQ x : Int) : Rat) - x).num < 0 ∧ ((rndQ x : Int) : Rat) < x) ∧ (¬ x.num < 0 → ¬ (((rndQ x : Int) : Rat) - x).num < 0 ∧ x < ((rndQ x : Int) : Rat)) := by
 obtain ⟨h1, h2⟩ := rndQ_bounds x
 have hp := h12_two
 unfold offQ at h
 constructor
 · intro hx
   obtain ⟨h3, h4⟩ := h2 hx
   by_cases h5 : (((rndQ x : Int) : Rat) - x).num < 0
   · refine ⟨h5, ?_⟩
     have := (num_neg_iff _).1 h5
     generalize ((rndQ x : Int) : Rat) = e at *
     grind
   · rw [if_neg h5] at h
     exact absurd h4 (by rw [h]; exact Rat.lt_irrefl)
 · intro hx
   obtain ⟨h3, h4⟩ := h1 hx
   by_cases h5 : (((rndQ x : Int) : Rat) - x).num < 0
   · rw [if_pos h5] at h
     generalize ((rndQ x : Int) : Rat) - x = e at *
     exfalso
     grind
   · refine ⟨h5, ?_⟩
     rw [if_neg h5] at h
     generalize ((rndQ x : Int) : Rat) = e at *
     grind
theorem cmpQ_lt {x y : Rat} (h : x < y) : cmpQ x y = -1 := if_pos h
theorem cmpQ_gt {x y : Rat} (h : y < x) : cmpQ x y = 1 := by
 unfold cmpQ
 rw [if_neg (Rat.not_lt.2 (Rat.le_of_lt h)), if_pos h]
theorem cmpQ_eq (x : Rat) : cmpQ x x = 0 := by
 unfold cmpQ
 rw [if_neg Rat.lt_irrefl, if_neg Rat.lt_irrefl]
theorem sz_rnd {k : Nat} {x : Rat} (h : Sz k x) (hk : 1 ≤ k) : Sz (k + 1) ((rndQ x : Int) : Rat) := by
 refine ⟨?_, by rw [Rat.den_intCast]; exact Nat.one_lt_pow (by omega) (by decide)⟩
 rw [nd_num]
 have h1 : rndN x ≤ x.num.natAbs + 1 := by
  unfold rndN
  have hd := x.den_pos
  rw [Nat.pow_one]
  have : x.num.natAbs * 2 + x.den < (x.den * 2) * (x.num.natAbs + 1 + 1) := by
   have h5 : x.num.natAbs ≤ x.den * x.num.natAbs := Nat.le_mul_of_pos_left _ hd
   have h6 : (x.den * 2) * (x.num.natAbs + 1 + 1) = 2 * (x.den * x.num.natAbs) + 4 * x.den := by
    rw [Nat.mul_add, Nat.mul_add, Nat.mul_one, Nat.mul_assoc, Nat.mul_left_comm]; omega
   omega
  have := (Nat.div_lt_iff_lt_mul (by omega : 0 < x.den * 2)).2 (by rw [Nat.mul_comm]; exact this)
  omega
 have h2 := w_add h.1 (Nat.one_lt_pow (a := 18446744073709551616) (n := k) (by omega) (by decide))
 have h3 : (rndQ x).natAbs = rndN x := by unfold rndQ; split <;> omega
 omega
theorem round_any (x : Rat) (va : Value) (w : World) (ha : IsR w va x) (hx : Sz 90 x) : Calls Tryz.prog 25 #[va] w (GaveR ((rndQ x : Int) : Rat) w) := by
 unfold rndQ
 by_cases h : x.num < 0
 · rw [if_pos h, Rat.intCast_neg]
   exact round_neg x va w ha hx (decide_eq_true h)
 · rw [if_neg h]
   exact round_pos x va w ha hx (decide_eq_false h)
theorem pq_sz {s : ByteArray} {x : Rat} {k : Nat} (h : pq s = some x) (hs : s.size ≤ 16 * k) (hk : 1 ≤ k) : Sz k x := by
 classical
 have hb := bd_size s
 unfold pq at h
 split at h
 · unfold pqw at h
   split at h
   · cases h
     refine ⟨?_, by rw [Rat.den_intCast]; exact Nat.one_lt_pow (by omega) (by decide)⟩
     rw [nd_num, sgn_abs]
     exact nn_lt (by omega)
   · cases h
 · split at h
   · rename_i hc
     cases h
     have ha := above_size (bd s)
     have hu := under_size (bd s)
     obtain ⟨p1, p2⟩ := mk_parts (n := sgn (ng s) (nn (above (bd s)))) (q := nn (under (bd s))) hc.2.1 (by rw [sgn_abs]; exact hc.2.2.2)
     refine ⟨?_, ?_⟩
     · rw [p1, sgn_abs]
       exact nn_lt (by omega)
     · rw [p2]
       exact nn_lt (by omega)
   · cases h
end Go.Proofs.YtckglpkafhmehaaGreatDoor
