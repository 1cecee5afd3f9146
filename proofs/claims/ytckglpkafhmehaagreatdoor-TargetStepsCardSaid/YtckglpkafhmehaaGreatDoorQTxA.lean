/-
 Law 2: the first call of the statements, whose answer the document fixes: it answers true.
 RatTexts: its numbers and texts.
-/
import Derived.Test.YtckglpkafhmehaaGreatDoorQPp
namespace Go.Proofs.YtckglpkafhmehaaGreatDoor
open Go.RowKit
set_option linter.unusedVariables false
def x32 : Rat := mkRat (-3) 2
def x52 : Rat := mkRat (-5) 2
theorem x32_parts : x32.num = -3 ∧ x32.den = 2 := mk_parts (by decide) (by decide)
theorem x52_parts : x52.num = -5 ∧ x52.den = 2 := mk_parts (by decide) (by decide)
theorem w_pos (k : Nat) (h : 1 ≤ k) {N : Nat} (hN : N < 18446744073709551616) : N < 18446744073709551616 ^ k := Nat.lt_of_lt_of_le (by rw [Nat.pow_one]; exact hN) (w64_mono (j := 1) h)
theorem sz32 (k : Nat) (h : 1 ≤ k) : Sz k x32 := ⟨by rw [x32_parts.1]; exact w_pos k h (by decide), by rw [x32_parts.2]; exact w_pos k h (by decide)⟩
theorem sz52 (k : Nat) (h : 1 ≤ k) : Sz k x52 := ⟨by rw [x52_parts.1]; exact w_pos k h (by decide), by rw [x52_parts.2]; exact w_pos k h (by decide)⟩
theorem sz_int (k : Nat) (h : 1 ≤ k) (v : Int) (hv : v.natAbs < 18446744073709551616) : Sz k (v : Rat) := ⟨by rw [nd_num]; exact w_pos k h hv, by rw [Rat.den_intCast]; exact w_pos k h (by decide)⟩
theorem dg_one {k : Nat} (h : k < 10) : dg k = ⟨#[UInt8.ofNat (48 + k)]⟩ := by unfold dg; rw [Lib.decDigits_one h]
theorem tx32 : tx x32 = ⟨#[45, 51, 47, 50]⟩ := by
 unfold tx
 rw [x32_parts.1, x32_parts.2, if_neg (by decide), if_pos (by decide), dg_one (k := 2) (by decide), show (-3 : Int).natAbs = 3 from rfl, dg_one (k := 3) (by decide)]
 rfl
theorem tx52 : tx x52 = ⟨#[45, 53, 47, 50]⟩ := by
 unfold tx
 rw [x52_parts.1, x52_parts.2, if_neg (by decide), if_pos (by decide), dg_one (k := 2) (by decide), show (-5 : Int).natAbs = 5 from rfl, dg_one (k := 5) (by decide)]
 rfl
theorem tx_int (v : Int) : tx (v : Rat) = if v < 0 then ⟨#[45]⟩ ++ dg v.natAbs else dg v.natAbs := by
 unfold tx
 rw [Rat.num_intCast, Rat.den_intCast, if_pos rfl]
theorem tx3 : tx ((-3 : Int) : Rat) = ⟨#[45, 51]⟩ := by
 rw [tx_int, if_pos (by decide), show (-3 : Int).natAbs = 3 from rfl, dg_one (k := 3) (by decide)]
 rfl
theorem tx7 : tx ((-7 : Int) : Rat) = ⟨#[45, 55]⟩ := by
 rw [tx_int, if_pos (by decide), show (-7 : Int).natAbs = 7 from rfl, dg_one (k := 7) (by decide)]
 rfl
theorem tx0 : tx (0 : Rat) = ⟨#[48]⟩ := by
 have := tx_int 0
 rw [if_neg (by decide), show (0 : Int).natAbs = 0 from rfl, dg_one (k := 0) (by decide)] at this
 exact this
theorem rnd52 : -((rndN x52 : Int) : Rat) = ((-3 : Int) : Rat) := by
 have : rndN x52 = 3 := by unfold rndN; rw [x52_parts.1, x52_parts.2]; rfl
 rw [this]; rfl
end Go.Proofs.YtckglpkafhmehaaGreatDoor
namespace Go.Proofs.YtckglpkafhmehaaGreatDoor
open Go.RowKit
set_option linter.unusedVariables false
theorem mk_make (z : Bool) (N D : Nat) (hD : D ≠ 0) : (mkRat (sgn z N) D).num.natAbs = N / Nat.gcd N D ∧ (mkRat (sgn z N) D).den = D / Nat.gcd N D ∧ (N / Nat.gcd N D ≠ 0 → decide ((mkRat (sgn z N) D).num < 0) = z) := by
 rw [← Rat.normalize_eq_mkRat hD, Rat.num_normalize, Rat.den_normalize, sgn_abs]
 have hg : 0 < Nat.gcd N D := Nat.gcd_pos_of_pos_right _ (Nat.pos_of_ne_zero hD)
 have hdv : Nat.gcd N D ∣ N := Nat.gcd_dvd_left _ _
 have e : sgn z N / ((Nat.gcd N D : Nat) : Int) = sgn z (N / Nat.gcd N D) := by
  obtain ⟨q, hq⟩ := hdv
  generalize Nat.gcd N D = G at *
  rw [hq, Nat.mul_div_cancel_left _ hg]
  unfold sgn
  have hG : (G : Int) ≠ 0 := by omega
  split
  · rw [show -((G * q : Nat) : Int) = (G : Int) * (-(q : Int)) from by push_cast; rw [Int.mul_neg], Int.mul_ediv_cancel_left _ hG]
  · rw [Int.natCast_mul, Int.mul_ediv_cancel_left _ hG]
 rw [e, sgn_abs]
 exact ⟨rfl, rfl, fun h => sgn_neg (fun e => absurd e h)⟩
theorem mk_scale (N D B : Nat) (hD : D ≠ 0) (hB : B ≠ 0) : mkRat (sgn false (N * B)) (D * B) = mkRat (sgn false N) D := by
 have h0 : D * B ≠ 0 := Nat.mul_ne_zero hD hB
 rw [← Rat.normalize_eq_mkRat hD, ← Rat.normalize_eq_mkRat h0]
 have := Rat.normalize_mul_right (n := sgn false N) (d := D) (a := B) hD hB
 unfold sgn at *
 simpa using this
theorem pq_both (N D B : Nat) (hB : 2 ≤ B) : pq ((dg (N * B) ++ ⟨#[47]⟩) ++ dg (D * B)) = none := by
 rw [ByteArray.append_assoc]
 obtain ⟨h1, h2⟩ := ng_false (dg_head (N * B) (⟨#[47]⟩ ++ dg (D * B))).1
 rw [pq_two false _ _ _ h1 h2, if_neg]
 rintro ⟨_, _, h⟩
 rw [Nat.gcd_mul_right] at h
 have := Nat.eq_one_of_mul_eq_one_left h
 omega
theorem plus_wf (t : ByteArray) : ¬ WF (⟨#[43]⟩ ++ t) := fun h => by
 have := h.dig 43 (by simp)
 unfold isDig at this
 exact absurd this (by decide)
theorem pq_plus (x : Rat) (hx : ¬ x.num < 0) : pq (⟨#[43]⟩ ++ tx x) = none := by
 have hh : (⟨#[43]⟩ ++ tx x : ByteArray).data.toList.head? ≠ some 45 := by
  rw [app_list]
  simp
 obtain ⟨h1, h2⟩ := ng_false hh
 unfold pq
 rw [h1, h2]
 have nslash : ∀ t : ByteArray, (47 : UInt8) ∉ t.data.toList → (47 : UInt8) ∉ (⟨#[43]⟩ ++ t : ByteArray).data.toList := fun t ht => by
  rw [app_list]
  simp [ht]
 by_cases h : x.den = 1
 · have e : tx x = dg x.num.natAbs := by unfold tx; rw [if_pos h, if_neg hx]
   rw [e, if_pos (sl_none (nslash _ (fun h => (dg_ne h).2.1 rfl)))]
   unfold pqw
   rw [if_neg (fun h => plus_wf _ h.1)]
 · have e : tx x = dg x.num.natAbs ++ (⟨#[47]⟩ ++ dg x.den) := by unfold tx; rw [if_neg h, if_neg hx]
   obtain ⟨s1, s2, _⟩ := sl_some (⟨#[43]⟩ ++ dg x.num.natAbs) (dg x.den) (nslash _ (fun h => (dg_ne h).2.1 rfl))
   rw [ByteArray.append_assoc] at s1 s2
   rw [e, s1, s2, if_neg (by simp), if_neg (fun h => plus_wf _ h.1.1)]
theorem tx_size (x : Rat) (k : Nat) (hk : 0 < k) (hx : Sz k x) : (tx x).size ≤ 40 * k + 2 := by
 have h1 := dg_size hx.1 hk
 have h2 := dg_size hx.2 hk
 have e45 : (⟨#[45]⟩ : ByteArray).size = 1 := rfl
 have e47 : (⟨#[47]⟩ : ByteArray).size = 1 := rfl
 unfold tx
 split <;> split <;> (try simp only [ByteArray.size_append, e45, e47]) <;> omega
end Go.Proofs.YtckglpkafhmehaaGreatDoor
