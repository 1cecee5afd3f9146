/-
 Law 2: the numbers of sums and products of fractions.
 Law 2: Text, Of.
-/
import Derived.Test.YtckglpkafhmehaaGreatDoorQB
namespace Go.Proofs.YtckglpkafhmehaaGreatDoor
set_option linter.unusedVariables false
theorem mul_parts (x y : Rat) : (x * y).num = (x.num.tdiv (Nat.gcd x.num.natAbs y.den)) * (y.num.tdiv (Nat.gcd y.num.natAbs x.den)) ∧ (x * y).den = (x.den / Nat.gcd y.num.natAbs x.den) * (y.den / Nat.gcd x.num.natAbs y.den) := by
 show (Rat.mul x y).num = _ ∧ (Rat.mul x y).den = _
 unfold Rat.mul
 refine ⟨?_, ?_⟩ <;> simp only [Int.divExact_eq_tdiv, Nat.divExact_eq_div]
theorem mul_nums (x y : Rat) : (x * y).num.natAbs = (x.num.natAbs / Nat.gcd x.num.natAbs y.den) * (y.num.natAbs / Nat.gcd y.num.natAbs x.den) ∧ (x * y).den = (x.den / Nat.gcd y.num.natAbs x.den) * (y.den / Nat.gcd x.num.natAbs y.den) := by
 obtain ⟨h1, h2⟩ := mul_parts x y
 refine ⟨?_, h2⟩
 rw [h1, Int.natAbs_mul, Int.natAbs_tdiv, Int.natAbs_tdiv]
 rfl
theorem mul_sign (x y : Rat) (h : (x * y).num.natAbs ≠ 0) : decide ((x * y).num < 0) = (decide (x.num < 0) != decide (y.num < 0)) := by
 have e : x * y = mkRat (x.num * y.num) (x.den * y.den) := Rat.mul_def' x y
 have hs : ∀ z : Rat, (0 ≤ z.num ↔ 0 ≤ z) := fun z => Rat.num_nonneg
 have h0 : (x * y).num ≠ 0 := by omega
 have hx0 : x.num ≠ 0 := fun e0 => h0 (by rw [Rat.num_eq_zero] at e0; rw [e0, Rat.zero_mul]; rfl)
 have hy0 : y.num ≠ 0 := fun e0 => h0 (by rw [Rat.num_eq_zero] at e0; rw [e0, Rat.mul_zero]; rfl)
 have hneg : ∀ z : Rat, (z.num < 0 ↔ z < 0) := fun z => by
  have := hs z
  refine ⟨fun h => Rat.not_le.1 (fun h2 => by have := this.2 h2; omega), fun h => ?_⟩
  by_cases h3 : z.num < 0
  · exact h3
  · exact absurd (this.1 (by omega)) (Rat.not_le.2 h)
 have hpos : ∀ z : Rat, z.num ≠ 0 → ¬ z.num < 0 → 0 < z := fun z h1 h2 => by
  have h3 := (hs z).1 (by omega)
  exact Rat.lt_of_le_of_ne h3 (fun e => h1 (by rw [← e]; rfl))
 have key : ((x * y).num < 0) ↔ ¬ ((x.num < 0) ↔ (y.num < 0)) := by
  rw [hneg (x * y)]
  by_cases hx : x.num < 0
  · by_cases hy : y.num < 0
    · have h1 : 0 < (-x) * (-y) := Rat.mul_pos (Rat.lt_neg_iff.2 (by rw [Rat.neg_zero]; exact (hneg x).1 hx)) (Rat.lt_neg_iff.2 (by rw [Rat.neg_zero]; exact (hneg y).1 hy))
      rw [Rat.neg_mul, Rat.mul_neg, Rat.neg_neg] at h1
      have h2 : ¬ x * y < 0 := Rat.not_lt.2 (Rat.le_of_lt h1)
      simp [hx, hy, h2]
    · have h1 : 0 < (-x) * y := Rat.mul_pos (Rat.lt_neg_iff.2 (by rw [Rat.neg_zero]; exact (hneg x).1 hx)) (hpos y hy0 hy)
      rw [Rat.neg_mul] at h1
      have h2 : x * y < 0 := by have := Rat.lt_neg_iff.1 h1; rwa [Rat.neg_zero] at this
      simp [hx, hy, h2]
  · by_cases hy : y.num < 0
    · have h1 : 0 < x * (-y) := Rat.mul_pos (hpos x hx0 hx) (Rat.lt_neg_iff.2 (by rw [Rat.neg_zero]; exact (hneg y).1 hy))
      rw [Rat.mul_neg] at h1
      have h2 : x * y < 0 := by have := Rat.lt_neg_iff.1 h1; rwa [Rat.neg_zero] at this
      simp [hx, hy, h2]
    · have h1 : 0 < x * y := Rat.mul_pos (hpos x hx0 hx) (hpos y hy0 hy)
      have h2 : ¬ x * y < 0 := Rat.not_lt.2 (Rat.le_of_lt h1)
      simp [hx, hy, h2]
 by_cases hx : x.num < 0 <;> by_cases hy : y.num < 0 <;> simp [hx, hy, key]
/-- The numerator of a sum ahead of its last division. -/
def addn (x y : Rat) : Int := x.num * ((y.den / Nat.gcd x.den y.den : Nat) : Int) + y.num * ((x.den / Nat.gcd x.den y.den : Nat) : Int)
theorem add_parts (x y : Rat) : (x + y).num = addn x y / ((Nat.gcd (addn x y).natAbs (Nat.gcd x.den y.den) : Nat) : Int) ∧ (x + y).den = (x.den / Nat.gcd x.den y.den) * y.den / Nat.gcd (addn x y).natAbs (Nat.gcd x.den y.den) := by
 show (Rat.add x y).num = _ ∧ (Rat.add x y).den = _
 unfold Rat.add
 simp only []
 split
 · rename_i h
   unfold addn
   simp [h]
 · simp only [Rat.maybeNormalize_eq]
   exact ⟨rfl, rfl⟩
theorem add_nums (x y : Rat) : (x + y).num.natAbs = (addn x y).natAbs / Nat.gcd (addn x y).natAbs (Nat.gcd x.den y.den) ∧ (x + y).den = (x.den / Nat.gcd x.den y.den) * (y.den / Nat.gcd (addn x y).natAbs (Nat.gcd x.den y.den)) := by
 obtain ⟨h1, h2⟩ := add_parts x y
 refine ⟨?_, ?_⟩
 · rw [h1, Int.natAbs_ediv_of_dvd]
   · simp
   · exact Int.ofNat_dvd_left.2 (Nat.gcd_dvd_left _ _)
 · rw [h2]
   exact Nat.mul_div_assoc _ (Nat.dvd_trans (Nat.gcd_dvd_right _ _) (Nat.gcd_dvd_right _ _))
theorem add_sign (x y : Rat) : decide ((x + y).num < 0) = decide (addn x y < 0) := by
 obtain ⟨h1, _⟩ := add_parts x y
 have hg : 0 < Nat.gcd (addn x y).natAbs (Nat.gcd x.den y.den) := Nat.gcd_pos_of_pos_right _ (Nat.gcd_pos_of_pos_left _ x.den_pos)
 rw [h1]
 generalize hG : Nat.gcd (addn x y).natAbs (Nat.gcd x.den y.den) = G at hg ⊢
 have hgi : (0 : Int) < (G : Int) := by omega
 by_cases h : addn x y < 0
 · rw [decide_eq_true h, decide_eq_true (Int.ediv_neg_of_neg_of_pos h hgi)]
 · rw [decide_eq_false h, decide_eq_false]
   have := Int.ediv_nonneg (a := addn x y) (b := (G : Int)) (by omega) (by omega)
   omega
end Go.Proofs.YtckglpkafhmehaaGreatDoor
namespace Go.Proofs.YtckglpkafhmehaaGreatDoor
open Go.RowKit
set_option linter.unusedVariables false
def dg (N : Nat) : ByteArray := ⟨(Lib.decDigits N).toArray⟩
/-- The text of a fraction. -/
def tx (x : Rat) : ByteArray := if x.den = 1 then (if x.num < 0 then ⟨#[45]⟩ ++ dg x.num.natAbs else dg x.num.natAbs) else (if x.num < 0 then ⟨#[45]⟩ ++ dg x.num.natAbs else dg x.num.natAbs) ++ (⟨#[47]⟩ ++ dg x.den)
theorem w_ten (k : Nat) : 18446744073709551616 ^ k ≤ 10 ^ (20 * k) := by
 rw [Nat.pow_mul]
 exact Nat.pow_le_pow_left (by decide) k
theorem dg_size {N k : Nat} (h : N < 18446744073709551616 ^ k) (hk : 0 < k) : (dg N).size ≤ 20 * k := by
 show (Lib.decDigits N).toArray.size ≤ _
 rw [List.size_toArray, Lib.decDigits_length]
 have := nDigits_le (20 * k - 1) N (by rw [show 20 * k - 1 + 1 = 20 * k from by omega]; exact Nat.lt_of_lt_of_le h (w_ten k))
 omega
set_option maxRecDepth 100000 in
set_option maxHeartbeats 2000000 in
theorem text_r (x : Rat) (va : Value) (w : World) (ha : IsR w va x) (hx : Sz 100 x) (htab : Tab w) : Calls Tryz.prog 12 #[va] w fun e w' => e = .returned (.string (tx x)) ∧ Below w.heap.size w w' := by
 have hR := ha
 obtain ⟨p, n, c, p', n', c', rfl, h1, h2⟩ := ha
 obtain ⟨z, hz⟩ : ∃ z, decide (x.num < 0) = z := ⟨_, rfl⟩
 obtain ⟨h, hw⟩ : ∃ h, decide (x.den = 1) = h := ⟨_, rfl⟩
 rw [hz] at hR ⊢
 have Hz := Lib.hid hz; have Hw := Lib.hid hw
 have V := ((((Mq.refl w).rcons hR).cons h2 hx.dn).cons h1 hx.1).alloc 33 #[.bool z, .slice p n c, .slice p' n' c']
 have b0 := V.c0 0 rfl; have b1 := V.c1 0 rfl; have b2 := V.c2 0 rfl
 obtain ⟨T1, hT1⟩ : ∃ T, dg x.num.natAbs = T := ⟨_, rfl⟩
 obtain ⟨T2, hT2⟩ : ∃ T, dg x.den = T := ⟨_, rfl⟩
 have s1 : T1.size ≤ 2000 := by rw [← hT1]; exact dg_size hx.1 (by omega)
 have s2 : T2.size ≤ 2000 := by rw [← hT2]; exact dg_size hx.2 (by omega)
 have HT1 := Lib.hid hT1; have HT3 := Lib.hid hT2
 clear h1 h2 hz hw hR hT1 hT2
 cases z with
 | true =>
  cases h with
  | true =>
   have hg : Hid (tx x = ⟨#[45]⟩ ++ T1) := Lib.hid (by
    have e1 := Hz.out
    have e2 := Hw.out
    simp only [decide_eq_true_eq] at e1 e2
    unfold tx
    rw [HT1.out]
    simp [e1, e2])
   go_enter Tryz.func12, Tryz.ntmps12
   go_wp2_with fail
   refine (V.text 0 rfl htab HT1.out).mono ?_
   rintro e w2 ⟨rfl, V2⟩
   have a0 := V2.c0 0 rfl; have a1 := V2.c1 0 rfl; have a2 := V2.c2 0 rfl
   have R2 := V2.rat 0 _ _ rfl
   have HWh := Lib.hid (whole_any x _ w2 R2 hx.2)
   rw [Hw.out] at HWh
   clear V b0 b1 b2
   go_wp2_with fail
   refine HWh.out.mono ?_
   rintro e w3 ⟨rfl, hb3⟩
   have V3 := V2.below hb3
   have c2 := V3.c2 0 rfl
   have HB := Lib.hid V3.bel
   clear V2 V3 R2 HWh hb3 a0 a1 a2 c2
   go_wp2_with fail
   go_ret
   exact ⟨by rw [hg.out]; rfl, HB.out⟩
  | false =>
   have hg : Hid (tx x = (⟨#[45]⟩ ++ T1) ++ (⟨#[47]⟩ ++ T2)) := Lib.hid (by
    have e1 := Hz.out
    have e2 := Hw.out
    simp only [decide_eq_true_eq, decide_eq_false_iff_not] at e1 e2
    unfold tx
    rw [HT1.out]
    simp [e1, e2, HT3.out])
   have HT2 : Hid ((⟨(Lib.decDigits (dn x)).toArray⟩ : ByteArray) = T2) := Lib.hid (by rw [dn_ne (of_decide_eq_false Hw.out)]; exact HT3.out)
   go_enter Tryz.func12, Tryz.ntmps12
   go_wp2_with fail
   refine (V.text 0 rfl htab HT1.out).mono ?_
   rintro e w2 ⟨rfl, V2⟩
   have a0 := V2.c0 0 rfl; have a1 := V2.c1 0 rfl; have a2 := V2.c2 0 rfl
   have R2 := V2.rat 0 _ _ rfl
   have HWh := Lib.hid (whole_any x _ w2 R2 hx.2)
   rw [Hw.out] at HWh
   clear V b0 b1 b2
   go_wp2_with fail
   refine HWh.out.mono ?_
   rintro e w3 ⟨rfl, hb3⟩
   have V3 := V2.below hb3
   have c2 := V3.c2 0 rfl
   clear V2 R2 HWh hb3 a0 a1 a2
   go_wp2_with fail
   refine (V3.text 1 rfl htab HT2.out).mono ?_
   rintro e w4 ⟨rfl, V4⟩
   have HB := Lib.hid V4.bel
   clear V3 V4 c2
   go_wp2_with fail
   go_ret
   exact ⟨by rw [hg.out]; rfl, HB.out⟩
 | false =>
  cases h with
  | true =>
   have hg : Hid (tx x = T1) := Lib.hid (by
    have e1 := Hz.out
    have e2 := Hw.out
    simp only [decide_eq_true_eq, decide_eq_false_iff_not] at e1 e2
    unfold tx
    rw [HT1.out]
    simp [e1, e2])
   go_enter Tryz.func12, Tryz.ntmps12
   go_wp2_with fail
   refine (V.text 0 rfl htab HT1.out).mono ?_
   rintro e w2 ⟨rfl, V2⟩
   have a0 := V2.c0 0 rfl; have a1 := V2.c1 0 rfl; have a2 := V2.c2 0 rfl
   have R2 := V2.rat 0 _ _ rfl
   have HWh := Lib.hid (whole_any x _ w2 R2 hx.2)
   rw [Hw.out] at HWh
   clear V b0 b1 b2
   go_wp2_with fail
   refine HWh.out.mono ?_
   rintro e w3 ⟨rfl, hb3⟩
   have V3 := V2.below hb3
   have c2 := V3.c2 0 rfl
   have HB := Lib.hid V3.bel
   clear V2 V3 R2 HWh hb3 a0 a1 a2 c2
   go_wp2_with fail
   go_ret
   exact ⟨by rw [hg.out]; rfl, HB.out⟩
  | false =>
   have hg : Hid (tx x = (T1) ++ (⟨#[47]⟩ ++ T2)) := Lib.hid (by
    have e1 := Hz.out
    have e2 := Hw.out
    simp only [decide_eq_false_iff_not] at e1 e2
    unfold tx
    rw [HT1.out]
    simp [e1, e2, HT3.out])
   have HT2 : Hid ((⟨(Lib.decDigits (dn x)).toArray⟩ : ByteArray) = T2) := Lib.hid (by rw [dn_ne (of_decide_eq_false Hw.out)]; exact HT3.out)
   go_enter Tryz.func12, Tryz.ntmps12
   go_wp2_with fail
   refine (V.text 0 rfl htab HT1.out).mono ?_
   rintro e w2 ⟨rfl, V2⟩
   have a0 := V2.c0 0 rfl; have a1 := V2.c1 0 rfl; have a2 := V2.c2 0 rfl
   have R2 := V2.rat 0 _ _ rfl
   have HWh := Lib.hid (whole_any x _ w2 R2 hx.2)
   rw [Hw.out] at HWh
   clear V b0 b1 b2
   go_wp2_with fail
   refine HWh.out.mono ?_
   rintro e w3 ⟨rfl, hb3⟩
   have V3 := V2.below hb3
   have c2 := V3.c2 0 rfl
   clear V2 R2 HWh hb3 a0 a1 a2
   go_wp2_with fail
   refine (V3.text 1 rfl htab HT2.out).mono ?_
   rintro e w4 ⟨rfl, V4⟩
   have HB := Lib.hid V4.bel
   clear V3 V4 c2
   go_wp2_with fail
   go_ret
   exact ⟨by rw [hg.out]; rfl, HB.out⟩
theorem wrap_u (z : Int) : IntKind.wrap .u64 z = z % 18446744073709551616 := by simp [IntKind.wrap, IntKind.signed, IntKind.bits]
theorem isR_of {W : World} {N : Nat} {b : Bool} {p : Option Addr} {n c : Nat} (h : IsN W (.agg #[.slice p n c]) N) (x : Rat) (hx : x.num.natAbs = N) (hd : x.den = 1) (hb : decide (x.num < 0) = b) : IsR W (.agg #[.bool b, .slice p n c, .slice none 0 0]) x :=
 ⟨p, n, c, none, 0, 0, by rw [hb], by rw [hx]; exact h, by rw [dn_one hd]; exact isN_zero W⟩
set_option maxRecDepth 100000 in
set_option maxHeartbeats 2000000 in
theorem of_r (v : Int) (w : World) (h1 : -9223372036854775808 ≤ v) (h2 : v < 9223372036854775808) : Calls Tryz.prog 21 #[.int .i64 v] w (GaveR (v : Rat) w) := by
 have V := ((Mq.refl w).cons (isN_zero w) (Nat.pow_pos (by decide))).alloc 33 #[.bool false, .slice none 0 0, .slice none 0 0]
 have a1 : ((v : Rat)).num.natAbs = v.natAbs := by rw [Rat.num_intCast]
 have a2 : ((v : Rat)).den = 1 := Rat.den_intCast v
 by_cases h : v < 0
 · have hs : decide ((v : Rat).num < 0) = true := by rw [Rat.num_intCast]; exact decide_eq_true h
   obtain ⟨U, hU⟩ : ∃ U : Nat, v.natAbs = U := ⟨_, rfl⟩
   have hU2 : U < 18446744073709551616 := by omega
   have e1 : IntKind.wrap .u64 (-IntKind.wrap .u64 v) = (U : Int) := by
    rw [wrap_u v, wrap_u]
    omega
   have HU := Lib.hid hU
   clear hU
   go_enter Tryz.func21, Tryz.ntmps21
   go_wp2_with fail
   refine (V.of hU2).mono ?_
   rintro e w2 ⟨x, y, z, rfl, V2⟩
   have r0 := V2.c0 0 rfl; have r1 := V2.c1 0 rfl; have r2 := V2.c2 0 rfl
   have f0 := V2.frozen 0 0 rfl; have f1 := V2.frozen 0 1 rfl; have f2 := V2.frozen 0 2 rfl
   have HF := Lib.hid (V2.fin3 (x := (v : Rat)) (y := true) (q := x) (m := y) (d := z) (q' := none) (m' := 0) (d' := 0) 0 0 1 rfl (by rw [a1, HU.out]; rfl) (by rw [dn_one a2]; rfl) hs)
   clear V V2
   go_wp2_with fail
   exact bodyPost_ret (res_rat rfl _ _ _ _ _ _ _ _ _ _ rfl HF.out.1) rfl HF.out.2
 · have hs : decide ((v : Rat).num < 0) = false := by rw [Rat.num_intCast]; exact decide_eq_false h
   obtain ⟨U, hU⟩ : ∃ U : Nat, v.natAbs = U := ⟨_, rfl⟩
   have hU2 : U < 18446744073709551616 := by omega
   have e1 : IntKind.wrap .u64 v = (U : Int) := by
    rw [wrap_u v]
    omega
   have HU := Lib.hid hU
   clear hU
   go_enter Tryz.func21, Tryz.ntmps21
   go_wp2_with fail
   refine (V.of hU2).mono ?_
   rintro e w2 ⟨x, y, z, rfl, V2⟩
   have r0 := V2.c0 0 rfl; have r1 := V2.c1 0 rfl; have r2 := V2.c2 0 rfl
   have f0 := V2.frozen 0 0 rfl; have f1 := V2.frozen 0 1 rfl; have f2 := V2.frozen 0 2 rfl
   have HF := Lib.hid (V2.fin3 (x := (v : Rat)) (y := false) (q := x) (m := y) (d := z) (q' := none) (m' := 0) (d' := 0) 0 0 1 rfl (by rw [a1, HU.out]; rfl) (by rw [dn_one a2]; rfl) hs)
   clear V V2
   go_wp2_with fail
   exact bodyPost_ret (res_rat rfl _ _ _ _ _ _ _ _ _ _ rfl HF.out.1) rfl HF.out.2
end Go.Proofs.YtckglpkafhmehaaGreatDoor
