/-
 Law 4: the pattern of the next number (ieee's Next).
-/
import Derived.Test.YtnhobagjpjcigaaGreatDoorEUnit
import Derived.Test.YtnhobagjpjcigaaGreatDoorENextM
namespace Go.Proofs.YtnhobagjpjcigaaGreatDoor
open Go.RowKit
set_option linter.unusedVariables false
/-- What Next tells. -/
def NxIs (e m b : Nat) (w : World) (E : Ending) (w' : World) : Prop := E = .returned (.tuple #[.int .u64 ((nxT e m b).1 : Int), .bool (nxT e m b).2]) ∧ Below w.heap.size w w'
set_option maxRecDepth 100000 in
set_option maxHeartbeats 8000000 in
theorem next_any (e m b : Nat) (he : 2 ≤ e) (he2 : e ≤ 11) (hm : 1 ≤ m) (hm2 : m ≤ 52) (hb : b < 18446744073709551616) (w : World) : Calls Tryz.prog 45 #[.agg #[.int .i64 (e : Int), .int .i64 (m : Int)], .int .u64 (b : Int)] w (NxIs e m b w) := by
 have V0 := (Mq.refl w).alloc 63 #[.int .i64 (e : Int), .int .i64 (m : Int)]
 have hp : e + m ≤ 63 := by omega
 have HVa : Hid (∀ W, Calls Tryz.prog 34 #[.agg #[.int .i64 (e : Int), .int .i64 (m : Int)]] W fun E w' => E = .returned (.bool true) ∧ Below W.heap.size W w') := Lib.hid (fun W => by
  have h := valid_any e m (by omega) (by omega) (by omega) (by omega) W
  rw [decide_eq_true (by omega)] at h
  exact h)
 have HSg : Hid (∀ W, Calls Tryz.prog 99 #[.agg #[.int .i64 (e : Int), .int .i64 (m : Int)]] W fun E w' => E = .returned (.int .u64 ((2 ^ (e + m) : Nat) : Int)) ∧ Below W.heap.size W w') := Lib.hid (fun W => sign_any e m hp W)
 have HIn : Hid (∀ W, Calls Tryz.prog 100 #[.agg #[.int .i64 (e : Int), .int .i64 (m : Int)]] W fun E w' => E = .returned (.int .u64 (inf e m : Int)) ∧ Below W.heap.size W w') := Lib.hid (fun W => inf_any e m hp W)
 have h63 : 2 ^ (e + m) ≤ 2 ^ 63 := Nat.pow_le_pow_right (by decide) hp
 have h63p : 0 < 2 ^ (e + m) := Nat.pow_pos (by decide)
 have hsz : b % 2 ^ (e + m) < 2 ^ (e + m) := Nat.mod_lt _ h63p
 have e1 := and_low (b := b) (p := e + m) hb hp
 have e2 := and_at (b := b) (p := e + m) hb hp
 have hneg : decide (b / 2 ^ (e + m) % 2 = 1) = png e m b := rfl
 have hpsz : b % 2 ^ (e + m) = psz e m b := rfl
 have K1 : Hid (inf e m ≤ psz e m b → ∀ w', Below w.heap.size w w' → NxIs e m b w (.returned (.tuple #[.int .u64 0, .bool false])) w') := Lib.hid (fun h w' h2 => by
  unfold NxIs nxT
  rw [if_pos h]
  exact ⟨rfl, h2⟩)
 have K2 : Hid (psz e m b < inf e m → png e m b = true → 0 < psz e m b → ∀ w', Below w.heap.size w w' → NxIs e m b w (.returned (.tuple #[.int .u64 ((ptn e m true (psz e m b - 1) : Nat) : Int), .bool true])) w') := Lib.hid (fun h h0 h1 w' h2 => by
  unfold NxIs nxT
  rw [if_neg (by omega), if_pos ⟨h0, h1⟩]
  exact ⟨rfl, h2⟩)
 have K3 : Hid (psz e m b < inf e m → ¬ (png e m b = true ∧ 0 < psz e m b) → psz e m b + 1 = inf e m → ∀ w', Below w.heap.size w w' → NxIs e m b w (.returned (.tuple #[.int .u64 0, .bool false])) w') := Lib.hid (fun h h0 h1 w' h2 => by
  unfold NxIs nxT
  rw [if_neg (by omega), if_neg h0, if_pos h1]
  exact ⟨rfl, h2⟩)
 have K4 : Hid (psz e m b < inf e m → ¬ (png e m b = true ∧ 0 < psz e m b) → psz e m b + 1 ≠ inf e m → ∀ w', Below w.heap.size w w' → NxIs e m b w (.returned (.tuple #[.int .u64 ((psz e m b : Int) + 1), .bool true])) w') := Lib.hid (fun h h0 h1 w' h2 => by
  unfold NxIs nxT
  rw [if_neg (by omega), if_neg h0, if_neg h1]
  exact ⟨rfl, h2⟩)
 have HPt : Hid (0 < psz e m b → ∀ W, Calls Tryz.prog 87 #[.agg #[.int .i64 (e : Int), .int .i64 (m : Int)], .bool true, .int .u64 ((psz e m b : Int) - 1)] W fun E w' => E = .returned (.int .u64 ((ptn e m true (psz e m b - 1) : Nat) : Int)) ∧ Below W.heap.size W w') := Lib.hid (fun h W => by
  have h2 := pat_any e m (psz e m b - 1) true hp (by rw [← hpsz]; omega) W
  rw [show ((psz e m b - 1 : Nat) : Int) = (psz e m b : Int) - 1 by omega] at h2
  exact h2)
 have hinf : inf e m < 2 ^ 63 := by
  have hm0 : 0 < 2 ^ m := Nat.pow_pos (by decide)
  unfold inf
  omega
 rw [hpsz] at e1 hsz
 rw [hneg] at e2
 obtain ⟨neg, hng⟩ : ∃ x, png e m b = x := ⟨_, rfl⟩
 rw [hng] at e2 K2 K3 K4
 obtain ⟨PT, hPT⟩ : ∃ x : Int, ((ptn e m true (psz e m b - 1) : Nat) : Int) = x := ⟨_, rfl⟩
 rw [hPT] at HPt K2
 obtain ⟨sz, hszz⟩ : ∃ x, psz e m b = x := ⟨_, rfl⟩
 obtain ⟨fi, hfi⟩ : ∃ x, inf e m = x := ⟨_, rfl⟩
 simp only [hszz, hfi] at K1 K2 K3 K4 HPt HIn e1 hsz hinf
 obtain ⟨SZ, hSZ⟩ : ∃ x : Int, (sz : Int) = x := ⟨_, rfl⟩
 obtain ⟨INF, hINF⟩ : ∃ x : Int, (fi : Int) = x := ⟨_, rfl⟩
 obtain ⟨SG, hSG⟩ : ∃ x : Int, ((2 ^ (e + m) : Nat) : Int) = x := ⟨_, rfl⟩
 obtain ⟨SM, hSM⟩ : ∃ x : Int, SG - 1 = x := ⟨_, rfl⟩
 obtain ⟨B, hB⟩ : ∃ x : Int, (b : Int) = x := ⟨_, rfl⟩
 rw [hSZ] at e1 HPt K4
 rw [hINF] at HIn
 rw [hSG] at HSg e2
 rw [hSG, hSM, hB] at e1
 rw [hB] at e2
 rw [hB]
 obtain ⟨AB, hAB⟩ : ∃ x : Int, bits .and .u64 B SG = x := ⟨_, rfl⟩
 rw [hAB] at e2
 have hSG1 : 1 ≤ SG := by omega
 have hSG2 : SG ≤ 9223372036854775808 := by omega
 have hSZ1 : 0 ≤ SZ := by omega
 have hSZ2 : SZ < 9223372036854775808 := by omega
 have q0 := V0.f0 0 rfl; have q1 := V0.f1 0 rfl
 have HS1 := Lib.hid (And.intro hSZ hINF)
 clear hp h63 h63p hneg hpsz hng hszz hfi hSG hB he he2 hm hm2 hb hsz hPT hinf hSZ hINF
 go_enter Tryz.func45, Tryz.ntmps45
 go_wp2_with fail
 refine (HVa.out _).mono ?_
 rintro E W1 ⟨rfl, hb⟩
 have V1 := V0.below hb
 clear V0 hb q0 q1
 go_wp2_with fail
 refine wp_region_inv 12 (fun a0 dj a W => ∃ vq0 vq1 vq2 vq3 vq4 vq5 vq6 vq7 vq8 vq9 vq10 vq11 : Value, a = puts a0 [(11, vq0), (12, vq1), (13, vq2), (14, vq3), (15, vq4), (16, vq5), (17, vq6), (18, vq7), (19, vq8), (20, vq9), (6, vq10), (7, vq11)] ∧ Below W1.heap.size W1 W ∧ (dj 0 = true → vq0 = .int .u64 B) ∧ (dj 1 = true → vq1 = .agg #[.int .i64 (e : Int), .int .i64 (m : Int)]) ∧ (dj 2 = true → vq2 = .int .u64 SG) ∧ (dj 3 = true → vq3 = .int .u64 AB) ∧ (dj 4 = true → vq4 = .bool neg) ∧ (dj 5 = true → vq5 = .int .u64 B) ∧ (dj 6 = true → vq6 = .agg #[.int .i64 (e : Int), .int .i64 (m : Int)]) ∧ (dj 7 = true → vq7 = .int .u64 SG) ∧ (dj 8 = true → vq8 = .int .u64 SM) ∧ (dj 9 = true → vq9 = .int .u64 SZ) ∧ (dj 10 = true → vq10 = .bool neg) ∧ (dj 11 = true → vq11 = .int .u64 SZ)) (by kernel_rfl) (by kernel_rfl) (by kernel_rfl) ?_ ?_ ?_ ?_
 · intro dj hcl i hi1 hi2 hd j hj
   exact absurd (Nat.lt_of_lt_of_le hi2 (of_decide_eq_true (by kernel_rfl))) (Nat.not_lt.2 hi1)
 · refine ⟨undef, undef, undef, undef, undef, undef, undef, undef, undef, undef, undef, undef, (by simp only [pus]), (Below.refl _ _).drew, (fun h => by cases h), (fun h => by cases h), (fun h => by cases h), (fun h => by cases h), (fun h => by cases h), (fun h => by cases h), (fun h => by cases h), (fun h => by cases h), (fun h => by cases h), (fun h => by cases h), (fun h => by cases h), (fun h => by cases h)⟩
 · intro dj a W i hi hdi hcl hdep hI K hK
   obtain ⟨vq0, vq1, vq2, vq3, vq4, vq5, vq6, vq7, vq8, vq9, vq10, vq11, rfl, hB, p0, p1, p2, p3, p4, p5, p6, p7, p8, p9, p10, p11⟩ := hI
   have V := V1.below hB
   obtain rfl | rfl | rfl | rfl | rfl | rfl | rfl | rfl | rfl | rfl | rfl | rfl : i = 0 ∨ i = 1 ∨ i = 2 ∨ i = 3 ∨ i = 4 ∨ i = 5 ∨ i = 6 ∨ i = 7 ∨ i = 8 ∨ i = 9 ∨ i = 10 ∨ i = 11 := by omega
   · simp only [pus]
     refine any_op (o := _) rfl rfl ?_
     go_wp2_with fail
     refine hK.out _ _ ?_
     exact ⟨.int .u64 B, vq1, vq2, vq3, vq4, vq5, vq6, vq7, vq8, vq9, vq10, vq11, (by simp only [pus]), hB, (fun _ => rfl), p1, p2, p3, p4, p5, p6, p7, p8, p9, p10, p11⟩
   · simp only [pus]
     have c0 := V.f0 0 rfl
     have c1 := V.f1 0 rfl
     refine any_op (o := _) rfl rfl ?_
     go_wp2_with fail
     refine hK.out _ _ ?_
     exact ⟨vq0, .agg #[.int .i64 (e : Int), .int .i64 (m : Int)], vq2, vq3, vq4, vq5, vq6, vq7, vq8, vq9, vq10, vq11, (by simp only [pus]), hB, p0, (fun _ => rfl), p2, p3, p4, p5, p6, p7, p8, p9, p10, p11⟩
   · obtain rfl := p1 (hdep 1 (by kernel_rfl))
     simp only [pus]
     refine any_op (o := _) rfl rfl ?_
     have hC := Lib.hid (HSg.out W)
     go_simp
     refine hC.out.mono ?_
     rintro e W2 ⟨rfl, hb⟩
     refine hK.out _ _ ?_
     exact ⟨vq0, .agg #[.int .i64 (e : Int), .int .i64 (m : Int)], .int .u64 SG, vq3, vq4, vq5, vq6, vq7, vq8, vq9, vq10, vq11, (by simp only [pus]), hB.trans (hb.mono hB.size), p0, (fun _ => rfl), (fun _ => rfl), p3, p4, p5, p6, p7, p8, p9, p10, p11⟩
   · obtain rfl := p0 (hdep 0 (by kernel_rfl))
     obtain rfl := p2 (hdep 2 (by kernel_rfl))
     simp only [pus]
     refine any_op (o := _) rfl rfl ?_
     go_wp2_with fail
     refine hK.out _ _ ?_
     exact ⟨.int .u64 B, vq1, .int .u64 SG, .int .u64 AB, vq4, vq5, vq6, vq7, vq8, vq9, vq10, vq11, (by simp only [pus]), hB, (fun _ => rfl), p1, (fun _ => rfl), (fun _ => rfl), p4, p5, p6, p7, p8, p9, p10, p11⟩
   · obtain rfl := p3 (hdep 3 (by kernel_rfl))
     simp only [pus]
     refine any_op (o := _) rfl rfl ?_
     go_wp2_with fail
     refine hK.out _ _ ?_
     exact ⟨vq0, vq1, vq2, .int .u64 AB, .bool neg, vq5, vq6, vq7, vq8, vq9, vq10, vq11, (by simp only [pus]), hB, p0, p1, p2, (fun _ => rfl), (fun _ => rfl), p5, p6, p7, p8, p9, p10, p11⟩
   · simp only [pus]
     refine any_op (o := _) rfl rfl ?_
     go_wp2_with fail
     refine hK.out _ _ ?_
     exact ⟨vq0, vq1, vq2, vq3, vq4, .int .u64 B, vq6, vq7, vq8, vq9, vq10, vq11, (by simp only [pus]), hB, p0, p1, p2, p3, p4, (fun _ => rfl), p6, p7, p8, p9, p10, p11⟩
   · simp only [pus]
     have c0 := V.f0 0 rfl
     have c1 := V.f1 0 rfl
     refine any_op (o := _) rfl rfl ?_
     go_wp2_with fail
     refine hK.out _ _ ?_
     exact ⟨vq0, vq1, vq2, vq3, vq4, vq5, .agg #[.int .i64 (e : Int), .int .i64 (m : Int)], vq7, vq8, vq9, vq10, vq11, (by simp only [pus]), hB, p0, p1, p2, p3, p4, p5, (fun _ => rfl), p7, p8, p9, p10, p11⟩
   · obtain rfl := p2 (hdep 2 (by kernel_rfl))
     obtain rfl := p6 (hdep 6 (by kernel_rfl))
     simp only [pus]
     refine any_op (o := _) rfl rfl ?_
     have hC := Lib.hid (HSg.out W)
     go_simp
     refine hC.out.mono ?_
     rintro e W2 ⟨rfl, hb⟩
     refine hK.out _ _ ?_
     exact ⟨vq0, vq1, .int .u64 SG, vq3, vq4, vq5, .agg #[.int .i64 (e : Int), .int .i64 (m : Int)], .int .u64 SG, vq8, vq9, vq10, vq11, (by simp only [pus]), hB.trans (hb.mono hB.size), p0, p1, (fun _ => rfl), p3, p4, p5, (fun _ => rfl), (fun _ => rfl), p8, p9, p10, p11⟩
   · obtain rfl := p7 (hdep 7 (by kernel_rfl))
     simp only [pus]
     refine any_op (o := _) rfl rfl ?_
     go_wp2_with fail
     refine hK.out _ _ ?_
     exact ⟨vq0, vq1, vq2, vq3, vq4, vq5, vq6, .int .u64 SG, .int .u64 SM, vq9, vq10, vq11, (by simp only [pus]), hB, p0, p1, p2, p3, p4, p5, p6, (fun _ => rfl), (fun _ => rfl), p9, p10, p11⟩
   · obtain rfl := p5 (hdep 5 (by kernel_rfl))
     obtain rfl := p8 (hdep 8 (by kernel_rfl))
     simp only [pus]
     refine any_op (o := _) rfl rfl ?_
     go_wp2_with fail
     refine hK.out _ _ ?_
     exact ⟨vq0, vq1, vq2, vq3, vq4, .int .u64 B, vq6, vq7, .int .u64 SM, .int .u64 SZ, vq10, vq11, (by simp only [pus]), hB, p0, p1, p2, p3, p4, (fun _ => rfl), p6, p7, (fun _ => rfl), (fun _ => rfl), p10, p11⟩
   · obtain rfl := p0 (hdep 0 (by kernel_rfl))
     obtain rfl := p1 (hdep 1 (by kernel_rfl))
     obtain rfl := p2 (hdep 2 (by kernel_rfl))
     obtain rfl := p3 (hdep 3 (by kernel_rfl))
     obtain rfl := p4 (hdep 4 (by kernel_rfl))
     obtain rfl := p7 (hdep 7 (by kernel_rfl))
     simp only [pus]
     refine any_op (o := _) rfl rfl ?_
     go_wp2_with fail
     refine hK.out _ _ ?_
     exact ⟨.int .u64 B, .agg #[.int .i64 (e : Int), .int .i64 (m : Int)], .int .u64 SG, .int .u64 AB, .bool neg, vq5, vq6, .int .u64 SG, vq8, vq9, .bool neg, vq11, (by simp only [pus]), hB, (fun _ => rfl), (fun _ => rfl), (fun _ => rfl), (fun _ => rfl), (fun _ => rfl), p5, p6, (fun _ => rfl), p8, p9, (fun _ => rfl), p11⟩
   · obtain rfl := p0 (hdep 0 (by kernel_rfl))
     obtain rfl := p1 (hdep 1 (by kernel_rfl))
     obtain rfl := p2 (hdep 2 (by kernel_rfl))
     obtain rfl := p3 (hdep 3 (by kernel_rfl))
     obtain rfl := p4 (hdep 4 (by kernel_rfl))
     obtain rfl := p5 (hdep 5 (by kernel_rfl))
     obtain rfl := p6 (hdep 6 (by kernel_rfl))
     obtain rfl := p7 (hdep 7 (by kernel_rfl))
     obtain rfl := p8 (hdep 8 (by kernel_rfl))
     obtain rfl := p9 (hdep 9 (by kernel_rfl))
     obtain rfl := p10 (hdep 10 (by kernel_rfl))
     simp only [pus]
     refine any_op (o := _) rfl rfl ?_
     go_wp2_with fail
     refine hK.out _ _ ?_
     exact ⟨.int .u64 B, .agg #[.int .i64 (e : Int), .int .i64 (m : Int)], .int .u64 SG, .int .u64 AB, .bool neg, .int .u64 B, .agg #[.int .i64 (e : Int), .int .i64 (m : Int)], .int .u64 SG, .int .u64 SM, .int .u64 SZ, .bool neg, .int .u64 SZ, (by simp only [pus]), hB, (fun _ => rfl), (fun _ => rfl), (fun _ => rfl), (fun _ => rfl), (fun _ => rfl), (fun _ => rfl), (fun _ => rfl), (fun _ => rfl), (fun _ => rfl), (fun _ => rfl), (fun _ => rfl), (fun _ => rfl)⟩
 · intro dj a W hd hI
   obtain ⟨vq0, vq1, vq2, vq3, vq4, vq5, vq6, vq7, vq8, vq9, vq10, vq11, rfl, hB, p0, p1, p2, p3, p4, p5, p6, p7, p8, p9, p10, p11⟩ := hI
   have V := V1.below hB
   obtain rfl := p0 (hd 0 (by omega))
   obtain rfl := p1 (hd 1 (by omega))
   obtain rfl := p2 (hd 2 (by omega))
   obtain rfl := p3 (hd 3 (by omega))
   obtain rfl := p4 (hd 4 (by omega))
   obtain rfl := p5 (hd 5 (by omega))
   obtain rfl := p6 (hd 6 (by omega))
   obtain rfl := p7 (hd 7 (by omega))
   obtain rfl := p8 (hd 8 (by omega))
   obtain rfl := p9 (hd 9 (by omega))
   obtain rfl := p10 (hd 10 (by omega))
   obtain rfl := p11 (hd 11 (by omega))
   simp only [pus]
   show wpAny Tryz.prog .any _ _ 0 #[true, true, true, true, true, true, true, true, true, true, true, true] _ _
   have V2 := V
   clear V V1
   refine ⟨by kernel_rfl, ?_⟩
   have q0 := V2.f0 0 rfl; have q1 := V2.f1 0 rfl
   go_wp2_with fail
   refine (HIn.out _).mono ?_
   rintro E W2 ⟨rfl, hb⟩
   have V3 := V2.below hb
   clear V2 hb q0 q1
   by_cases hd : INF ≤ SZ
   · have HEnd := K1.out (by have := HS1.out; omega)
     have HB := Lib.hid V3.bel
     have HE := Lib.hid HEnd
     clear HEnd V3
     go_wp2_with fail
     go_ret2
     exact HE.out _ HB.out
   · have hlt : sz < fi := by have := HS1.out; omega
     have h3 : neg = true ∧ 0 < SZ ∨ ¬ (neg = true ∧ 0 < SZ) := Classical.em _
     rcases h3 with ⟨rfl, hpos⟩ | hno
     · have h4 : 0 < sz := by have := HS1.out; omega
       have HE := Lib.hid (K2.out hlt rfl h4)
       have HP := Lib.hid (HPt.out h4)
       clear h4 hlt
       have q0 := V3.f0 0 rfl; have q1 := V3.f1 0 rfl
       go_wp2_with fail
       refine (HP.out _).mono ?_
       rintro E W4 ⟨rfl, hb⟩
       have V4 := V3.below hb
       clear V3 hb q0 q1
       have HB := Lib.hid V4.bel
       clear V4
       go_wp2_with fail
       go_ret2
       exact HE.out _ HB.out
     · have h4 : ¬ (neg = true ∧ 0 < sz) := fun h => hno ⟨h.1, by have := HS1.out; omega⟩
       by_cases h5 : SZ + 1 = INF
       · have HE := Lib.hid (K3.out hlt h4 (by have := HS1.out; omega))
         have h6 : (SZ + 1 == INF) = true := by simpa using h5
         clear h4 hlt h5
         have q0 := V3.f0 0 rfl; have q1 := V3.f1 0 rfl
         cases neg with
         | true =>
          have h7 : decide (0 < SZ) = false := decide_eq_false (fun h => hno ⟨rfl, h⟩)
          clear hno
          go_wp2_with fail
          refine (HIn.out _).mono ?_
          rintro E W4 ⟨rfl, hb⟩
          have V4 := V3.below hb
          clear V3 hb q0 q1
          have HB := Lib.hid V4.bel
          clear V4
          go_wp2_with fail
          go_ret2
          exact HE.out _ HB.out
         | false =>
          clear hno
          go_wp2_with fail
          refine (HIn.out _).mono ?_
          rintro E W4 ⟨rfl, hb⟩
          have V4 := V3.below hb
          clear V3 hb q0 q1
          have HB := Lib.hid V4.bel
          clear V4
          go_wp2_with fail
          go_ret2
          exact HE.out _ HB.out
       · have HE := Lib.hid (K4.out hlt h4 (by have := HS1.out; omega))
         have h6 : (SZ + 1 == INF) = false := by simpa using h5
         clear h4 hlt h5
         have q0 := V3.f0 0 rfl; have q1 := V3.f1 0 rfl
         cases neg with
         | true =>
          have h7 : decide (0 < SZ) = false := decide_eq_false (fun h => hno ⟨rfl, h⟩)
          clear hno
          go_wp2_with fail
          refine (HIn.out _).mono ?_
          rintro E W4 ⟨rfl, hb⟩
          have V4 := V3.below hb
          clear V3 hb q0 q1
          have HB := Lib.hid V4.bel
          clear V4
          go_wp2_with fail
          go_ret2
          exact HE.out _ HB.out
         | false =>
          clear hno
          go_wp2_with fail
          refine (HIn.out _).mono ?_
          rintro E W4 ⟨rfl, hb⟩
          have V4 := V3.below hb
          clear V3 hb q0 q1
          have HB := Lib.hid V4.bel
          clear V4
          go_wp2_with fail
          go_ret2
          exact HE.out _ HB.out
end Go.Proofs.YtnhobagjpjcigaaGreatDoor
