/-
 Law 2: the document's own fractions: Make, Of, Int, RatText.
-/
import Derived.Test.YtggmnmmjmihnfaaGreatDoorRQa
namespace Go.Proofs.YtggmnmmjmihnfaaGreatDoor
open Go.RowKit
set_option linter.unusedVariables false
theorem rn_len {W : World} {a : Option Addr} {n c N : Nat} (h : RN W (.slice a n c) N) : n = 0 ↔ N = 0 := by
 obtain ⟨a', n', c', he, _, hz⟩ := rn_form h
 injection he with e1 e2 e3
 subst e2
 exact hz
set_option maxRecDepth 100000 in
set_option maxHeartbeats 4000000 in
theorem rmake_any (x : Rat) (z : Bool) (N D : Nat) (va vb : Value) (w : World) (ha : RN w va N) (hb : RN w vb D) (hN : N < 10000 ^ 900) (hD : D < 10000 ^ 900) (hD0 : 0 < D) (hx : x = mkRat (sgn z N) D) :
 Calls Tryz.prog 26 #[.bool z, va, vb] w (GaveQ x w) := by
 obtain ⟨p1, p2, p3⟩ := norm_parts (sgn z N) D (by omega)
 rw [← hx, sgn_abs] at p1 p2 p3
 clear hx
 obtain ⟨G, hG⟩ : ∃ G, Nat.gcd N D = G := ⟨_, rfl⟩
 have hG0 : 0 < G := by rw [← hG]; exact Nat.gcd_pos_of_pos_right _ hD0
 have hGb : G < 10000 ^ 900 := by rw [← hG]; exact Nat.lt_of_le_of_lt (Nat.gcd_le_right _ hD0) hD
 have hGN : G ∣ N := by rw [← hG]; exact Nat.gcd_dvd_left _ _
 rw [hG] at p1 p2
 have hs0 : N / G = 0 → decide (x.num < 0) = false := fun h => by
  rw [h] at p1
  exact decide_eq_false (by omega)
 have hs1 : N / G ≠ 0 → decide (x.num < 0) = z := fun h => by
  have hN0 : N ≠ 0 := fun e => h (by rw [e, Nat.zero_div])
  rw [p3 hN0]
  exact sgn_neg (fun e => absurd e hN0)
 have HP := Lib.hid p1; have HP2 := Lib.hid p2; have HS0 := Lib.hid hs0; have HS1 := Lib.hid hs1; have HG := Lib.hid hG; have HG0 := Lib.hid hG0; have HGb := Lib.hid hGb
 obtain ⟨a, n, c, rfl, _, _⟩ := rn_form ha
 obtain ⟨a', n', c', rfl, _, _⟩ := rn_form hb
 have V := (((Dq.refl w).cons hb hD).cons ha hN).alloc 34 #[.bool false, .slice none 0 0, .slice none 0 0]
 clear ha hb hN hD hD0 p1 p2 p3 hG hG0 hGb hGN hs0 hs1
 go_enter Tryz.func26, Tryz.ntmps26
 go_wp2_with fail
 refine (V.trim 0 rfl).mono ?_
 rintro e w1 ⟨rfl, rfl⟩
 go_wp2_with fail
 refine (V.trim 1 rfl).mono ?_
 rintro e w1 ⟨rfl, rfl⟩
 go_wp2_with fail
 refine (V.gcd 0 1 rfl rfl ⟨HG.out, HGb.out⟩).mono ?_
 rintro e w2 ⟨a3, n3, c3, rfl, V2⟩
 clear V
 go_wp2_with fail
 refine (V2.dvm 1 0 rfl rfl HG0.out).mono ?_
 rintro e w3 ⟨a4, n4, c4, a5, n5, c5, rfl, -, V3⟩
 clear V2
 go_wp2_with fail
 refine (V3.dvm 4 2 rfl rfl HG0.out).mono ?_
 rintro e w4 ⟨a6, n6, c6, a7, n7, c7, rfl, -, V4⟩
 clear V3
 have hz4 := rn_len (V4.num 2 _ _ rfl).1
 have r0 := V4.c0 0 rfl; have r1 := V4.c1 0 rfl; have r2 := V4.c2 0 rfl
 have f0 := V4.frozen 0 0 rfl; have f1 := V4.frozen 0 1 rfl; have f2 := V4.frozen 0 2 rfl
 by_cases h0 : N / G = 0
 · obtain rfl : n4 = 0 := hz4.2 h0
   have HF := Lib.hid (V4.fin3 (x := x) (y := false) (a := a4) (m := 0) (d := c4) (a' := a6) (m' := n6) (d' := c6) 0 2 0 rfl (by rw [HP.out]; rfl) (by rw [HP2.out]; rfl) (HS0.out h0))
   clear V4 hz4 h0
   cases z
   · go_wp2_with fail
     exact bodyPost_ret (res_ref rfl _ _ _ _ _ _ _ _ _ _ rfl HF.out.1) rfl HF.out.2
   · go_wp2_with fail
     exact bodyPost_ret (res_ref rfl _ _ _ _ _ _ _ _ _ _ rfl HF.out.1) rfl HF.out.2
 · have hn4 : 0 < n4 := by
    have : n4 ≠ 0 := fun e => h0 (hz4.1 e)
    omega
   have HF := Lib.hid (V4.fin3 (x := x) (y := z) (a := a4) (m := n4) (d := c4) (a' := a6) (m' := n6) (d' := c6) 0 2 0 rfl (by rw [HP.out]; rfl) (by rw [HP2.out]; rfl) (HS1.out h0))
   clear V4 hz4 h0
   cases z
   · go_wp2_with fail
     exact bodyPost_ret (res_ref rfl _ _ _ _ _ _ _ _ _ _ rfl HF.out.1) rfl HF.out.2
   · go_wp2_with fail
     exact bodyPost_ret (res_ref rfl _ _ _ _ _ _ _ _ _ _ rfl HF.out.1) rfl HF.out.2
theorem dgd_size {N k : Nat} (h : N < 10000 ^ k) (hk : 0 < k) : (dg N).size ≤ 4 * k := by
 show (Lib.decDigits N).toArray.size ≤ _
 rw [List.size_toArray, Lib.decDigits_length]
 have h2 : (10000 : Nat) ^ k = 10 ^ (4 * k) := by rw [Nat.pow_mul]
 have := nDigits_le (4 * k - 1) N (by rw [show 4 * k - 1 + 1 = 4 * k from by omega, ← h2]; exact h)
 omega
set_option maxRecDepth 100000 in
set_option maxHeartbeats 4000000 in
theorem rattext_any (x : Rat) (va : Value) (w : World) (ha : RQ w va x) (hx : SzD 900 x) : Calls Tryz.prog 8 #[va] w fun e w' => e = .returned (.string (tx x)) ∧ Below w.heap.size w w' := by
 obtain ⟨p, n, c, p', n', c', rfl, h1, h2⟩ := ha
 obtain ⟨z, hz⟩ : ∃ z, decide (x.num < 0) = z := ⟨_, rfl⟩
 obtain ⟨h, hw⟩ : ∃ h, decide (x.den = 1) = h := ⟨_, rfl⟩
 have hc1 : h = true → cmpI x.den 1 = 0 := fun e => by rw [e] at hw; rw [of_decide_eq_true hw]; rfl
 have hc2 : h = false → cmpI x.den 1 = 1 := fun e => by
  rw [e] at hw
  have := of_decide_eq_false hw
  have := x.den_pos
  exact cmpI_gt (by omega)
 rw [hz]
 have Hz := Lib.hid hz; have Hw := Lib.hid hw
 have V := (((Dq.refl w).cons h2 hx.2).cons h1 hx.1).alloc 34 #[.bool z, .slice p n c, .slice p' n' c']
 have b0 := V.c0 0 rfl; have b1 := V.c1 0 rfl; have b2 := V.c2 0 rfl
 obtain ⟨T1, hT1⟩ : ∃ T, dg x.num.natAbs = T := ⟨_, rfl⟩
 obtain ⟨T2, hT2⟩ : ∃ T, dg x.den = T := ⟨_, rfl⟩
 have s1 : T1.size ≤ 4000 := by rw [← hT1]; exact Nat.le_trans (dgd_size hx.1 (by omega)) (by omega)
 have s2 : T2.size ≤ 4000 := by rw [← hT2]; exact Nat.le_trans (dgd_size hx.2 (by omega)) (by omega)
 have HT1 := Lib.hid hT1; have HT2 := Lib.hid hT2
 have HC1 := Lib.hid hc1; have HC2 := Lib.hid hc2
 clear h1 h2 hz hw hT1 hT2 hc1 hc2
 cases z with
 | true =>
  cases h with
  | true =>
   have hg : Hid (tx x = ⟨#[45]⟩ ++ T1) := Lib.hid (by
    have e1 := Hz.out
    have e2 := Hw.out
    simp only [decide_eq_true_eq] at e1 e2
    unfold tx
    rw [HT1.out]
    simp [e1, e2])
   have HCC := Lib.hid (HC1.out rfl)
   clear HC1 HC2
   go_enter Tryz.func8, Tryz.ntmps8
   go_wp2_with fail
   refine (V.text 0 rfl HT1.out).mono ?_
   rintro e w2 ⟨rfl, V2⟩
   have V3 := V2.lit1
   have a0 := V2.c0 0 rfl; have a1 := V2.c1 0 rfl; have a2 := V2.c2 0 rfl
   clear V b0 b1 b2
   go_wp2_with fail
   refine (V3.cmp 2 0 rfl rfl HCC.out).mono ?_
   rintro e w3 ⟨rfl, V4⟩
   have a0 := V4.c0 0 rfl; have a1 := V4.c1 0 rfl; have a2 := V4.c2 0 rfl
   clear V2 V3
   have HB := Lib.hid V4.bel
   clear V4
   go_wp2_with fail
   go_ret
   exact ⟨by rw [hg.out]; rfl, HB.out⟩
  | false =>
   have hg : Hid (tx x = ((⟨#[45]⟩ ++ T1) ++ ⟨#[47]⟩) ++ T2) := Lib.hid (by
    have e1 := Hz.out
    have e2 := Hw.out
    simp only [decide_eq_true_eq, decide_eq_false_iff_not] at e1 e2
    unfold tx
    rw [HT1.out, HT2.out]
    simp [e1, e2, ByteArray.append_assoc])
   have HCC := Lib.hid (HC2.out rfl)
   clear HC1 HC2
   go_enter Tryz.func8, Tryz.ntmps8
   go_wp2_with fail
   refine (V.text 0 rfl HT1.out).mono ?_
   rintro e w2 ⟨rfl, V2⟩
   have V3 := V2.lit1
   have a0 := V2.c0 0 rfl; have a1 := V2.c1 0 rfl; have a2 := V2.c2 0 rfl
   clear V b0 b1 b2
   go_wp2_with fail
   refine (V3.cmp 2 0 rfl rfl HCC.out).mono ?_
   rintro e w3 ⟨rfl, V4⟩
   have a0 := V4.c0 0 rfl; have a1 := V4.c1 0 rfl; have a2 := V4.c2 0 rfl
   clear V2 V3
   go_wp2_with fail
   refine (V4.text 2 rfl HT2.out).mono ?_
   rintro e w5 ⟨rfl, V5⟩
   have HB := Lib.hid V5.bel
   clear V4 V5 a0 a1 a2
   go_wp2_with fail
   go_ret
   exact ⟨by rw [hg.out]; rfl, HB.out⟩
 | false =>
  cases h with
  | true =>
   have hg : Hid (tx x = T1) := Lib.hid (by
    have e1 := Hz.out
    have e2 := Hw.out
    simp only [decide_eq_true_eq, decide_eq_false_iff_not] at e1 e2
    unfold tx
    rw [HT1.out]
    simp [e1, e2])
   have HCC := Lib.hid (HC1.out rfl)
   clear HC1 HC2
   go_enter Tryz.func8, Tryz.ntmps8
   go_wp2_with fail
   refine (V.text 0 rfl HT1.out).mono ?_
   rintro e w2 ⟨rfl, V2⟩
   have V3 := V2.lit1
   have a0 := V2.c0 0 rfl; have a1 := V2.c1 0 rfl; have a2 := V2.c2 0 rfl
   clear V b0 b1 b2
   go_wp2_with fail
   refine (V3.cmp 2 0 rfl rfl HCC.out).mono ?_
   rintro e w3 ⟨rfl, V4⟩
   have a0 := V4.c0 0 rfl; have a1 := V4.c1 0 rfl; have a2 := V4.c2 0 rfl
   clear V2 V3
   have HB := Lib.hid V4.bel
   clear V4
   go_wp2_with fail
   go_ret
   exact ⟨by rw [hg.out]; rfl, HB.out⟩
  | false =>
   have hg : Hid (tx x = ((T1) ++ ⟨#[47]⟩) ++ T2) := Lib.hid (by
    have e1 := Hz.out
    have e2 := Hw.out
    simp only [decide_eq_false_iff_not] at e1 e2
    unfold tx
    rw [HT1.out, HT2.out]
    simp [e1, e2, ByteArray.append_assoc])
   have HCC := Lib.hid (HC2.out rfl)
   clear HC1 HC2
   go_enter Tryz.func8, Tryz.ntmps8
   go_wp2_with fail
   refine (V.text 0 rfl HT1.out).mono ?_
   rintro e w2 ⟨rfl, V2⟩
   have V3 := V2.lit1
   have a0 := V2.c0 0 rfl; have a1 := V2.c1 0 rfl; have a2 := V2.c2 0 rfl
   clear V b0 b1 b2
   go_wp2_with fail
   refine (V3.cmp 2 0 rfl rfl HCC.out).mono ?_
   rintro e w3 ⟨rfl, V4⟩
   have a0 := V4.c0 0 rfl; have a1 := V4.c1 0 rfl; have a2 := V4.c2 0 rfl
   clear V2 V3
   go_wp2_with fail
   refine (V4.text 2 rfl HT2.out).mono ?_
   rintro e w5 ⟨rfl, V5⟩
   have HB := Lib.hid V5.bel
   clear V4 V5 a0 a1 a2
   go_wp2_with fail
   go_ret
   exact ⟨by rw [hg.out]; rfl, HB.out⟩
end Go.Proofs.YtggmnmmjmihnfaaGreatDoor
