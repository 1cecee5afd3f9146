/-
 Law 3: a prime taken out of a number.
-/
import Derived.Test.YtggmnmmjmihnfaaGreatDoorDMath
import Derived.Test.YtggmnmmjmihnfaaGreatDoorQRound
namespace Go.Proofs.YtggmnmmjmihnfaaGreatDoor
open Go.RowKit
set_option linter.unusedVariables false
def TkIs (p N : Nat) (w : World) (e : Ending) (w' : World) : Prop := ∃ x y z, e = .returned (.tuple #[.agg #[.slice x y z], .int .i64 (((tk p N).2 : Nat) : Int)]) ∧ IsN w' (.agg #[.slice x y z]) (tk p N).1 ∧ Below w.heap.size w w'
/-- Of numbers the first one alone. -/
theorem Mq.head {w W : World} {bx : List (Nat × TypeId × Array Value)} {a : Value × Nat} {l : List (Value × Nat)} {r : List (Value × Rat)} (h : Mq w bx (a :: l) r W) : Mq w bx [a] r W :=
 ⟨h.bel, h.box, fun k v N e => by
  cases k with
  | zero => exact h.num 0 v N (by simpa using e)
  | succ k => simp at e, h.rat⟩
theorem two_6400 {v N : Nat} (h : 2 ^ v ≤ N) (hN : N < 18446744073709551616 ^ 100) : v ≤ 6400 := by
 have e1 : (18446744073709551616 : Nat) = 2 ^ 64 := by decide
 rw [e1, ← Nat.pow_mul] at hN
 have := (Nat.pow_lt_pow_iff_right (a := 2) (by omega)).1 (Nat.lt_of_le_of_lt h hN)
 omega
set_option maxRecDepth 100000 in
set_option maxHeartbeats 8000000 in
theorem takeout_any (p N : Nat) (va : Value) (w : World) (h : IsN w va N) (hN : N < 18446744073709551616 ^ 100) (hN0 : N ≠ 0) (hp : 2 ≤ p) (hpu : p < 18446744073709551616) :
 Calls Tryz.prog 39 #[va, .int .u64 (p : Int)] w (TkIs p N w) := by
 obtain ⟨a, n, c, rfl⟩ := isN_form h
 have V0 := ((Mq.refl w).cons h hN).two 25 25 #[.slice a n c] #[.slice none 0 0]
 have HOf : Hid (∀ W, Calls Tryz.prog 17 #[.int .u64 (p : Int)] W (GaveV p W)) := Lib.hid (fun W => (of_any p hpu W).mono fun e w' h' => by
  obtain ⟨v, h1, h2, h3⟩ := h'
  obtain ⟨x, y, z, rfl⟩ := isN_form h2
  exact ⟨x, y, z, h1, h2, h3⟩)
 have HT : Hid (∀ M k, tk p N = ((tk p M).1, (tk p M).2 + k) ∧ M ≠ 0 ∧ M ≤ N → M < 18446744073709551616 ^ 100 ∧ k ≤ 6400 ∧ (M % p = 0 → (tk p N = ((tk p (M / p)).1, (tk p (M / p)).2 + (k + 1)) ∧ M / p ≠ 0 ∧ M / p ≤ N)) ∧ (M % p ≠ 0 → tk p N = (M, k))) := Lib.hid (fun M k h => by
  obtain ⟨h1, h2, h3⟩ := h
  have h4 := tk_pow_le hp hN0
  rw [h1] at h4
  have h5 : 2 ^ k ≤ N := Nat.le_trans (Nat.le_trans (Nat.pow_le_pow_left hp k) (Nat.pow_le_pow_right (by omega) (by omega))) h4
  refine ⟨Nat.lt_of_le_of_lt h3 hN, two_6400 h5 hN, fun hm => ?_, fun hm => ?_⟩
  · rw [h1, tk_go h2 hp hm]
    refine ⟨by rw [show (tk p (M / p)).2 + 1 + k = (tk p (M / p)).2 + (k + 1) by omega], fun e => ?_, Nat.le_trans (Nat.div_le_self _ _) h3⟩
    have := Nat.div_add_mod M p
    rw [e, hm] at this
    simp at this
    exact h2 this.symm
  · rw [h1, tk_stop hm]
    simp)
 have HT0 : Hid (tk p N = ((tk p N).1, (tk p N).2 + 0) ∧ N ≠ 0 ∧ N ≤ N) := Lib.hid ⟨rfl, hN0, Nat.le_refl _⟩
 have hp0 : 0 < p := by omega
 have HP0 := Lib.hid hp0
 obtain ⟨b0, hb0⟩ : ∃ b, w.heap.size = b := ⟨_, rfl⟩
 obtain ⟨b1, hb1⟩ : ∃ b, b0 + 1 = b := ⟨_, rfl⟩
 obtain ⟨W0, hW0⟩ : ∃ W0, (w.alloc (.cells #[.slice a n c] 25)).alloc (.cells #[.slice none 0 0] 25) = W0 := ⟨_, rfl⟩
 rw [hW0, hb0, hb1] at V0
 have HW0 := Lib.hid hW0; have Hb0 := Lib.hid hb0; have Hb1 := Lib.hid hb1
 have HV0 := Lib.hid V0
 clear h hN hN0 hp hpu hp0 hW0 hb0 hb1 V0
 go_enter Tryz.func39, Tryz.ntmps39
 go_wp2_with fail
 simp only [HW0.out, Hb0.out, Hb1.out]
 go_loopw [6] (fun tv wr => ∃ (k M : Nat) (x0 : Option Addr) (y0 z0 : Nat), tv = .int .i64 (k : Int) ∧ Hid (tk p N = ((tk p M).1, (tk p M).2 + k) ∧ M ≠ 0 ∧ M ≤ N) ∧ Hid (Mq w [(b1, 25, #[.slice none 0 0]), (b0, 25, #[.slice x0 y0 z0])] [(.agg #[.slice x0 y0 z0], M)] [] wr)) (fun tv _ => 7000 - (intOf tv).toNat)
 case atStart => exact ⟨0, N, a, n, c, rfl, HT0, HV0⟩
 case round =>
  clear HV0 HT0
  obtain ⟨k, M, x0, y0, z0, rfl, hT, hM⟩ := hrel
  obtain ⟨hM100, hk, hgo, hstop⟩ := HT.out M k hT.out
  have HM8 := Lib.hid (q100 8000 hM100 (by omega))
  have HDv : Hid (∀ W va vb, IsN W va M → IsN W vb p → Calls Tryz.prog 43 #[va, vb] W fun e w' => ∃ x y z x' y' z', e = .returned (.tuple #[.agg #[.slice x y z], .agg #[.slice x' y' z'], .bool true]) ∧ IsN w' (.agg #[.slice x y z]) (M / p) ∧ IsN w' (.agg #[.slice x' y' z']) (M % p) ∧ Below W.heap.size W w') := Lib.hid (fun W va vb h1 h2 => dvm_tr M p va vb W h1 h2 HM8.out HP0.out)
  have hQ : M / p < 18446744073709551616 ^ 100 := Nat.lt_of_le_of_lt (Nat.div_le_self _ _) hM100
  have hR : M % p < 18446744073709551616 ^ 100 := Nat.lt_of_le_of_lt (Nat.mod_le _ _) hM100
  have HQ := Lib.hid (And.intro hQ hR)
  have Hgo := Lib.hid hgo; have Hstop := Lib.hid hstop
  obtain ⟨W1, hW1⟩ : ∃ W1, wr = W1 := ⟨_, rfl⟩
  subst hW1
  have V1 := hM.out
  clear hM hM100 hgo hstop hQ hR hT
  go_wp2_with fail
  refine wp_region_inv 13 (fun a0 dj a W => ∃ vq0 vq1 vq2 vq3 vq4 vq5 vq6 vq7 vq8 vq9 vq12 : Value, a = puts a0 [(13, vq0), (14, vq1), (15, vq2), (16, vq3), (12, vq4), (17, vq5), (18, vq6), (19, vq7), (7, vq8), (8, vq9), (9, vq12)] ∧ Below wr.heap.size wr W ∧ (dj 0 = true → vq0 = .agg #[.slice x0 y0 z0]) ∧ (dj 1 = true → vq1 = .int .u64 (p : Int)) ∧ (dj 2 = true → Nm W vq2 (p)) ∧ (dj 3 = true → Tr W vq3 (M / p) (M % p)) ∧ (dj 4 = true → Tr W vq4 (M / p) (M % p)) ∧ (dj 5 = true → Nm W vq5 (M / p)) ∧ (dj 6 = true → Nm W vq6 (M % p)) ∧ (dj 7 = true → vq7 = .bool true) ∧ (dj 8 = true → dj 10 = false → Bn wr W vq8) ∧ (dj 9 = true → dj 11 = false → Bn wr W vq9) ∧ (dj 10 = true → St wr W vq8 vq5) ∧ (dj 11 = true → St wr W vq9 vq6) ∧ (dj 12 = true → vq12 = .bool true) ∧ (dj 8 = true → dj 9 = true → vq8 ≠ vq9)) (by kernel_rfl) (by kernel_rfl) (by kernel_rfl) ?_ ?_ ?_ ?_
  · intro dj hcl i hi1 hi2 hd j hj
    exact absurd (Nat.lt_of_lt_of_le hi2 (of_decide_eq_true (by kernel_rfl))) (Nat.not_lt.2 hi1)
  · refine ⟨u13, u14, u15, u16, u12, u17, u18, u19, u7, u8, u9, (by simp only [pus]), (Below.refl _ _).drew, (fun h => by cases h), (fun h => by cases h), (fun h => by cases h), (fun h => by cases h), (fun h => by cases h), (fun h => by cases h), (fun h => by cases h), (fun h => by cases h), (fun h => by cases h), (fun h => by cases h), (fun h => by cases h), (fun h => by cases h), (fun h => by cases h), (fun h => by cases h)⟩
  · intro dj a W i hi hdi hcl hdep hI K hK
    obtain ⟨vq0, vq1, vq2, vq3, vq4, vq5, vq6, vq7, vq8, vq9, vq12, rfl, hB, p0, p1, p2, p3, p4, p5, p6, p7, p8, p9, p10, p11, p12, q8_9⟩ := hI
    have V := V1.below hB
    obtain rfl | rfl | rfl | rfl | rfl | rfl | rfl | rfl | rfl | rfl | rfl | rfl | rfl : i = 0 ∨ i = 1 ∨ i = 2 ∨ i = 3 ∨ i = 4 ∨ i = 5 ∨ i = 6 ∨ i = 7 ∨ i = 8 ∨ i = 9 ∨ i = 10 ∨ i = 11 ∨ i = 12 := by omega
    · simp only [pus]
      have c0 := V.n0 1 rfl
      refine any_op (o := _) rfl rfl ?_
      go_wp2_with fail
      refine hK.out _ _ ?_
      exact ⟨.agg #[.slice x0 y0 z0], vq1, vq2, vq3, vq4, vq5, vq6, vq7, vq8, vq9, vq12, (by simp only [pus]), hB, (fun _ => rfl), p1, p2, p3, p4, p5, p6, p7, p8, p9, p10, p11, p12, q8_9⟩
    · simp only [pus]
      refine any_op (o := _) rfl rfl ?_
      go_wp2_with fail
      refine hK.out _ _ ?_
      exact ⟨vq0, .int .u64 (p : Int), vq2, vq3, vq4, vq5, vq6, vq7, vq8, vq9, vq12, (by simp only [pus]), hB, p0, (fun _ => rfl), p2, p3, p4, p5, p6, p7, p8, p9, p10, p11, p12, q8_9⟩
    · obtain rfl := p1 (hdep 1 (by kernel_rfl))
      simp only [pus]
      refine any_op (o := _) rfl rfl ?_
      have hC := Lib.hid (HOf.out W)
      go_simp
      refine hC.out.mono ?_
      rintro e W2 ⟨x, y, z, rfl, hn, hb⟩
      refine hK.out _ _ ?_
      exact ⟨vq0, .int .u64 (p : Int), .agg #[.slice x y z], vq3, vq4, vq5, vq6, vq7, vq8, vq9, vq12, (by simp only [pus]), hB.trans (hb.mono hB.size), p0, (fun _ => rfl), (fun _ => ⟨⟨x, y, z, rfl⟩, hn⟩), (fun h => (p3 h).below hb), (fun h => (p4 h).below hb), (fun h => (p5 h).below hb), (fun h => (p6 h).below hb), p7, (fun h h2 => (p8 h h2).below hb), (fun h h2 => (p9 h h2).below hb), (fun h => (p10 h).below hb), (fun h => (p11 h).below hb), p12, q8_9⟩
    · obtain rfl := p0 (hdep 0 (by kernel_rfl))
      have k2 := p2 (hdep 2 (by kernel_rfl))
      obtain ⟨⟨x2, y2, z2, rfl⟩, n2⟩ := k2
      simp only [pus]
      refine any_op (o := _) rfl rfl ?_
      have hC := Lib.hid (HDv.out W _ _ (V.num 0 _ _ rfl).1 n2)
      go_simp
      refine hC.out.mono ?_
      rintro e W2 ⟨x, y, z, x9, y9, z9, rfl, hn, hn9, hb⟩
      refine hK.out _ _ ?_
      exact ⟨.agg #[.slice x0 y0 z0], vq1, .agg #[.slice x2 y2 z2], .tuple #[.agg #[.slice x y z], .agg #[.slice x9 y9 z9], .bool true], vq4, vq5, vq6, vq7, vq8, vq9, vq12, (by simp only [pus]), hB.trans (hb.mono hB.size), (fun _ => rfl), p1, (fun _ => (show Nm _ _ _ from ⟨⟨x2, y2, z2, rfl⟩, n2⟩).below hb), (fun _ => ⟨x, y, z, x9, y9, z9, rfl, hn, hn9⟩), (fun h => (p4 h).below hb), (fun h => (p5 h).below hb), (fun h => (p6 h).below hb), p7, (fun h h2 => (p8 h h2).below hb), (fun h h2 => (p9 h h2).below hb), (fun h => (p10 h).below hb), (fun h => (p11 h).below hb), p12, q8_9⟩
    · have k3 := p3 (hdep 3 (by kernel_rfl))
      obtain ⟨x3, y3, z3, r3, s3, t3, rfl, n3, o3⟩ := k3
      simp only [pus]
      refine any_op (o := _) rfl rfl ?_
      go_wp2_with fail
      refine hK.out _ _ ?_
      exact ⟨vq0, vq1, vq2, .tuple #[.agg #[.slice x3 y3 z3], .agg #[.slice r3 s3 t3], .bool true], .tuple #[.agg #[.slice x3 y3 z3], .agg #[.slice r3 s3 t3], .bool true], vq5, vq6, vq7, vq8, vq9, vq12, (by simp only [pus]), hB, p0, p1, p2, (fun _ => ⟨x3, y3, z3, r3, s3, t3, rfl, n3, o3⟩), (fun _ => ⟨x3, y3, z3, r3, s3, t3, rfl, n3, o3⟩), p5, p6, p7, p8, p9, p10, p11, p12, q8_9⟩
    · have k4 := p4 (hdep 4 (by kernel_rfl))
      obtain ⟨x4, y4, z4, r4, s4, t4, rfl, n4, o4⟩ := k4
      simp only [pus]
      refine any_op (o := _) rfl rfl ?_
      go_wp2_with fail
      refine hK.out _ _ ?_
      exact ⟨vq0, vq1, vq2, vq3, .tuple #[.agg #[.slice x4 y4 z4], .agg #[.slice r4 s4 t4], .bool true], .agg #[.slice x4 y4 z4], vq6, vq7, vq8, vq9, vq12, (by simp only [pus]), hB, p0, p1, p2, p3, (fun _ => ⟨x4, y4, z4, r4, s4, t4, rfl, n4, o4⟩), (fun _ => ⟨⟨x4, y4, z4, rfl⟩, n4⟩), p6, p7, p8, p9, (fun h => absurd (hcl 10 5 (by kernel_rfl) h) (by rw [hdi]; simp)), p11, p12, q8_9⟩
    · have k4 := p4 (hdep 4 (by kernel_rfl))
      obtain ⟨x4, y4, z4, r4, s4, t4, rfl, n4, o4⟩ := k4
      simp only [pus]
      refine any_op (o := _) rfl rfl ?_
      go_wp2_with fail
      refine hK.out _ _ ?_
      exact ⟨vq0, vq1, vq2, vq3, .tuple #[.agg #[.slice x4 y4 z4], .agg #[.slice r4 s4 t4], .bool true], vq5, .agg #[.slice r4 s4 t4], vq7, vq8, vq9, vq12, (by simp only [pus]), hB, p0, p1, p2, p3, (fun _ => ⟨x4, y4, z4, r4, s4, t4, rfl, n4, o4⟩), p5, (fun _ => ⟨⟨r4, s4, t4, rfl⟩, o4⟩), p7, p8, p9, p10, (fun h => absurd (hcl 11 6 (by kernel_rfl) h) (by rw [hdi]; simp)), p12, q8_9⟩
    · have k4 := p4 (hdep 4 (by kernel_rfl))
      obtain ⟨x4, y4, z4, r4, s4, t4, rfl, n4, o4⟩ := k4
      simp only [pus]
      refine any_op (o := _) rfl rfl ?_
      go_wp2_with fail
      refine hK.out _ _ ?_
      exact ⟨vq0, vq1, vq2, vq3, .tuple #[.agg #[.slice x4 y4 z4], .agg #[.slice r4 s4 t4], .bool true], vq5, vq6, .bool true, vq8, vq9, vq12, (by simp only [pus]), hB, p0, p1, p2, p3, (fun _ => ⟨x4, y4, z4, r4, s4, t4, rfl, n4, o4⟩), p5, p6, (fun _ => rfl), p8, p9, p10, p11, p12, q8_9⟩
    · simp only [pus]
      refine any_op (o := _) rfl rfl ?_
      have hb := below_lit W (.cells #[.slice none 0 0] 25)
      have hnb : Bn wr (W.alloc (.cells #[.slice none 0 0] 25)) (.pointer (some ⟨W.heap.size, 0, none⟩)) := ⟨_, rfl, Blk.new W _ _, hB.size⟩
      go_wp2_with fail
      refine hK.out _ _ ?_
      exact ⟨vq0, vq1, vq2, vq3, vq4, vq5, vq6, vq7, .pointer (some ⟨W.heap.size, 0, none⟩), vq9, vq12, (by simp only [pus]), hB.trans (hb.mono hB.size), p0, p1, (fun h => (p2 h).below hb), (fun h => (p3 h).below hb), (fun h => (p4 h).below hb), (fun h => (p5 h).below hb), (fun h => (p6 h).below hb), p7, (fun _ _ => hnb), (fun h h2 => (p9 h h2).below hb), (fun h => absurd (hcl 10 8 (by kernel_rfl) h) (by rw [hdi]; simp)), (fun h => (p11 h).below hb), p12, (fun _ h e => (box_ne (p9 h) (p11)) e.symm)⟩
    · simp only [pus]
      refine any_op (o := _) rfl rfl ?_
      have hb := below_lit W (.cells #[.slice none 0 0] 25)
      have hnb : Bn wr (W.alloc (.cells #[.slice none 0 0] 25)) (.pointer (some ⟨W.heap.size, 0, none⟩)) := ⟨_, rfl, Blk.new W _ _, hB.size⟩
      go_wp2_with fail
      refine hK.out _ _ ?_
      exact ⟨vq0, vq1, vq2, vq3, vq4, vq5, vq6, vq7, vq8, .pointer (some ⟨W.heap.size, 0, none⟩), vq12, (by simp only [pus]), hB.trans (hb.mono hB.size), p0, p1, (fun h => (p2 h).below hb), (fun h => (p3 h).below hb), (fun h => (p4 h).below hb), (fun h => (p5 h).below hb), (fun h => (p6 h).below hb), p7, (fun h h2 => (p8 h h2).below hb), (fun _ _ => hnb), (fun h => (p10 h).below hb), (fun h => absurd (hcl 11 9 (by kernel_rfl) h) (by rw [hdi]; simp)), p12, (fun h _ e => (box_ne (p8 h) (p10)) e)⟩
    · obtain ⟨b, rfl, hk, hl⟩ := p8 (hdep 8 (by kernel_rfl)) hdi
      have hne9 : dj 9 = true → vq9 ≠ .pointer (some ⟨b, 0, none⟩) := fun h e => q8_9 (hdep 8 (by kernel_rfl)) h e.symm
      obtain ⟨⟨x, y, z, rfl⟩, hn⟩ := p5 (hdep 5 (by kernel_rfl))
      simp only [pus]
      have c0 := hk.cell 0; have c1 := hk.frozen 0
      simp only [List.getElem?_toArray, List.getElem?_cons_zero] at c0
      refine any_op (o := _) rfl rfl ?_
      go_wp2_with fail
      refine hK.out _ _ ?_
      exact ⟨vq0, vq1, vq2, vq3, vq4, .agg #[.slice x y z], vq6, vq7, .pointer (some ⟨b, 0, none⟩), vq9, vq12, (by simp only [pus]), (hB.setCell (p := ⟨b, 0, none⟩) hl _), p0, p1, (fun h => (p2 h).put hk), (fun h => (p3 h).put hk), (fun h => (p4 h).put hk), (fun h => (p5 h).put hk), (fun h => (p6 h).put hk), p7, (fun _ h => by rw [upd_self] at h; cases h), (fun h h2 => (p9 h h2).far (hne9 h)), (fun _ => ⟨b, x, y, z, rfl, rfl, hk.set_ 0 _, hl⟩), (fun h => (p11 h).far (hne9 (hcl 11 9 (by kernel_rfl) h))), p12, q8_9⟩
    · obtain ⟨b, rfl, hk, hl⟩ := p9 (hdep 9 (by kernel_rfl)) hdi
      have hne8 : dj 8 = true → vq8 ≠ .pointer (some ⟨b, 0, none⟩) := fun h e => q8_9 h (hdep 9 (by kernel_rfl)) e
      obtain ⟨⟨x, y, z, rfl⟩, hn⟩ := p6 (hdep 6 (by kernel_rfl))
      simp only [pus]
      have c0 := hk.cell 0; have c1 := hk.frozen 0
      simp only [List.getElem?_toArray, List.getElem?_cons_zero] at c0
      refine any_op (o := _) rfl rfl ?_
      go_wp2_with fail
      refine hK.out _ _ ?_
      exact ⟨vq0, vq1, vq2, vq3, vq4, vq5, .agg #[.slice x y z], vq7, vq8, .pointer (some ⟨b, 0, none⟩), vq12, (by simp only [pus]), (hB.setCell (p := ⟨b, 0, none⟩) hl _), p0, p1, (fun h => (p2 h).put hk), (fun h => (p3 h).put hk), (fun h => (p4 h).put hk), (fun h => (p5 h).put hk), (fun h => (p6 h).put hk), p7, (fun h h2 => (p8 h h2).far (hne8 h)), (fun _ h => by rw [upd_self] at h; cases h), (fun h => (p10 h).far (hne8 (hcl 10 8 (by kernel_rfl) h))), (fun _ => ⟨b, x, y, z, rfl, rfl, hk.set_ 0 _, hl⟩), p12, q8_9⟩
    · obtain rfl := p0 (hdep 0 (by kernel_rfl))
      obtain rfl := p1 (hdep 1 (by kernel_rfl))
      have k2 := p2 (hdep 2 (by kernel_rfl))
      obtain ⟨⟨x2, y2, z2, rfl⟩, n2⟩ := k2
      have k3 := p3 (hdep 3 (by kernel_rfl))
      obtain ⟨x3, y3, z3, r3, s3, t3, rfl, n3, o3⟩ := k3
      have k4 := p4 (hdep 4 (by kernel_rfl))
      obtain ⟨x4, y4, z4, r4, s4, t4, rfl, n4, o4⟩ := k4
      have k5 := p5 (hdep 5 (by kernel_rfl))
      obtain ⟨⟨x5, y5, z5, rfl⟩, n5⟩ := k5
      have k6 := p6 (hdep 6 (by kernel_rfl))
      obtain ⟨⟨x6, y6, z6, rfl⟩, n6⟩ := k6
      obtain rfl := p7 (hdep 7 (by kernel_rfl))
      simp only [pus]
      refine any_op (o := _) rfl rfl ?_
      go_wp2_with fail
      refine hK.out _ _ ?_
      exact ⟨.agg #[.slice x0 y0 z0], .int .u64 (p : Int), .agg #[.slice x2 y2 z2], .tuple #[.agg #[.slice x3 y3 z3], .agg #[.slice r3 s3 t3], .bool true], .tuple #[.agg #[.slice x4 y4 z4], .agg #[.slice r4 s4 t4], .bool true], .agg #[.slice x5 y5 z5], .agg #[.slice x6 y6 z6], .bool true, vq8, vq9, .bool true, (by simp only [pus]), hB, (fun _ => rfl), (fun _ => rfl), (fun _ => ⟨⟨x2, y2, z2, rfl⟩, n2⟩), (fun _ => ⟨x3, y3, z3, r3, s3, t3, rfl, n3, o3⟩), (fun _ => ⟨x4, y4, z4, r4, s4, t4, rfl, n4, o4⟩), (fun _ => ⟨⟨x5, y5, z5, rfl⟩, n5⟩), (fun _ => ⟨⟨x6, y6, z6, rfl⟩, n6⟩), (fun _ => rfl), p8, p9, p10, p11, (fun _ => rfl), q8_9⟩
  · intro dj a W hd hI
    obtain ⟨vq0, vq1, vq2, vq3, vq4, vq5, vq6, vq7, vq8, vq9, vq12, rfl, hB, p0, p1, p2, p3, p4, p5, p6, p7, p8, p9, p10, p11, p12, q8_9⟩ := hI
    have V := V1.below hB
    obtain rfl := p0 (hd 0 (by omega))
    obtain rfl := p1 (hd 1 (by omega))
    obtain ⟨⟨xq2, yq2, zq2, rfl⟩, nq2⟩ := p2 (hd 2 (by omega))
    obtain ⟨xq3, yq3, zq3, rq3, sq3, tq3, rfl, nq3, oq3⟩ := p3 (hd 3 (by omega))
    obtain ⟨xq4, yq4, zq4, rq4, sq4, tq4, rfl, nq4, oq4⟩ := p4 (hd 4 (by omega))
    obtain ⟨⟨xq5, yq5, zq5, rfl⟩, nq5⟩ := p5 (hd 5 (by omega))
    obtain ⟨⟨xq6, yq6, zq6, rfl⟩, nq6⟩ := p6 (hd 6 (by omega))
    obtain rfl := p7 (hd 7 (by omega))
    obtain ⟨bq10, x9, y9, z9, rfl, e9, kq10, lq10⟩ := p10 (hd 10 (by omega))
    cases e9
    obtain ⟨bq11, x9, y9, z9, rfl, e9, kq11, lq11⟩ := p11 (hd 11 (by omega))
    cases e9
    obtain rfl := p12 (hd 12 (by omega))
    have neq10_11 : bq10 ≠ bq11 := fun e => q8_9 (hd 8 (by omega)) (hd 9 (by omega)) (by rw [e])
    simp only [pus]
    show wpAny Tryz.prog .any _ _ 0 #[true, true, true, true, true, true, true, true, true, true, true, true, true] _ _
    have Vs := V.cons nq5 HQ.out.1
    have V2 := (((V.cons nq5 HQ.out.1).cons nq6 HQ.out.2).addbox kq10 (Nat.le_trans V1.bel.size lq10)).addbox kq11 (Nat.le_trans V1.bel.size lq11)
    have g0 := V2.n0 0 rfl
    have hb01 := Hb1.out
    refine ⟨by kernel_rfl, ?_⟩
    clear V V1 nq2 nq3 oq3 nq4 oq4 nq5 nq6 kq10 kq11
    go_wp2_with fail
    refine (zero_any (M % p) _ _ (V2.num 0 _ _ rfl).1).mono ?_
    rintro e w3 ⟨⟨hm, rfl⟩ | ⟨hm, rfl⟩, hb⟩
    · have V3 := V2.below hb
      have Vs3 := Vs.below hb
      have g1 := V3.n0 1 rfl; have g3 := V3.n0 3 rfl; have f3 := V3.frozen 3 0 rfl
      have HV4 := Lib.hid (Vs3.put 1 0 rfl (plain_nat _ _ _) (fun k' b' t' cs' e hne => by
       match k' with
       | 0 => simp at e; omega
       | 1 => exact absurd rfl hne
       | k + 2 => simp at e) (.slice xq5 yq5 zq5)).head
      have HG := Lib.hid (Hgo.out hm)
      clear V2 Vs V3 Vs3 hb g0
      go_wp2_with fail
      go_roundw
      case rel => exact ⟨k + 1, M / p, _, _, _, by go_num, HG, HV4⟩
      case measure => simp [intOf]; omega
    · have V3 := V2.below hb
      have g3 := V3.n0 3 rfl
      have r := V3.n0 2 rfl; have fr := V3.frozen 2 0 rfl
      have HF := Lib.hid (V3.fin1 2 2 rfl rfl)
      have HS := Lib.hid (Hstop.out hm)
      clear V2 Vs V3 hb g0
      go_wp2_with fail
      refine bodyPost_ret (res_nat2 rfl _ _ _ _ _ rfl rfl HF.out.1) rfl ?_
      obtain ⟨x9, y9, z9, e9, h9, h8⟩ := HF.out.2
      unfold TkIs
      rw [HS.out]
      exact ⟨x0, y0, z0, rfl, by injection e9 with e9; rw [e9]; exact h9, h8⟩
end Go.Proofs.YtggmnmmjmihnfaaGreatDoor
