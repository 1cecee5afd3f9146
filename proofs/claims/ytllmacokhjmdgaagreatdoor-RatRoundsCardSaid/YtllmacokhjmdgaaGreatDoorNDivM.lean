/-
  A digit of a quotient: guessed, and made less till it fits.
-/
import Derived.Test.YtllmacokhjmdgaaGreatDoorProg
namespace Go.Proofs.YtllmacokhjmdgaaGreatDoor
theorem quo_le (b u v y1 y0 : Nat) (h1 : 0 < y1) (hb : 0 < b) (hv : v < b) : (u * b + v) / (y1 * b + y0) ≤ u / y1 := by
  rw [Nat.le_div_iff_mul_le h1]
  have h2 : (u * b + v) / (y1 * b + y0) * (y1 * b + y0) ≤ u * b + v := Nat.div_mul_le_self _ _
  generalize (u * b + v) / (y1 * b + y0) = q at *
  have h3 : q * y1 * b ≤ q * (y1 * b + y0) := by rw [Nat.mul_add, Nat.mul_assoc]; omega
  have h4 : q * y1 * b < (u + 1) * b := by rw [Nat.add_mul, Nat.one_mul]; omega
  have := Nat.lt_of_mul_lt_mul_right h4
  omega
/-- What a loop over a guess k keeps: it is not too small; r is what it leaves of u. -/
structure DI (b u v y1 y0 k r : Nat) : Prop where
  le : (u * b + v) / (y1 * b + y0) ≤ k
  eq : k * y1 + r = u
  lt : r < b
theorem di_init (b u v y1 y0 : Nat) (h1 : 0 < y1) (h1b : y1 ≤ b) (hb : 0 < b) (hv : v < b) : DI b u v y1 y0 (u / y1) (u - u / y1 * y1) := by
  have h2 := Nat.div_add_mod u y1
  have h3 := Nat.mod_lt u h1
  rw [Nat.mul_comm] at h2
  exact ⟨quo_le b u v y1 y0 h1 hb hv, by omega, by omega⟩
section
variable {b u v y1 y0 k r : Nat}
theorem di_lt (h1 : 0 < y1) (hb : 0 < b) (hu : u < y1 * b + y0) (hv : v < b) : (u * b + v) / (y1 * b + y0) < b := by
  have hY : 0 < y1 * b + y0 := by have := Nat.mul_pos h1 hb; omega
  rw [Nat.div_lt_iff_lt_mul hY]
  have h2 : (u + 1) * b ≤ (y1 * b + y0) * b := Nat.mul_le_mul_right b hu
  rw [Nat.add_mul, Nat.one_mul] at h2
  rw [Nat.mul_comm b]; omega
theorem di_more (h : DI b u v y1 y0 k r) (h1 : 0 < y1) (hb : 0 < b) (hu : u < y1 * b + y0) (hv : v < b) (ht : b ≤ k ∨ b * r + v < k * y0) :
    0 < k ∧ (u * b + v) / (y1 * b + y0) ≤ k - 1 ∧ (k - 1) * y1 + (r + y1) = u := by
  have hlt : (u * b + v) / (y1 * b + y0) < k := by
    rcases ht with ht | ht
    · have := di_lt (v := v) h1 hb hu hv; omega
    · have hY : 0 < y1 * b + y0 := by have := Nat.mul_pos h1 hb; omega
      rw [Nat.div_lt_iff_lt_mul hY, ← h.eq, Nat.mul_add, Nat.add_mul, Nat.mul_assoc]
      have : r * b = b * r := Nat.mul_comm _ _
      omega
  have hk : 0 < k := Nat.lt_of_le_of_lt (Nat.zero_le _) hlt
  refine ⟨hk, Nat.le_sub_one_of_lt hlt, ?_⟩
  obtain ⟨j, rfl⟩ : ∃ j, k = j + 1 := ⟨k - 1, by omega⟩
  have := h.eq
  rw [Nat.add_mul, Nat.one_mul] at this
  simp only [Nat.add_sub_cancel]
  omega
theorem di_break (h : DI b u v y1 y0 k r) (h1 : 0 < y1) (hb : 0 < b) (hu : u < y1 * b + y0) (hy : y0 < b) (hv : v < b) (ht : b ≤ k ∨ b * r + v < k * y0) (hr : b ≤ r + y1) :
    (u * b + v) / (y1 * b + y0) = k - 1 := by
  obtain ⟨hk, hle, he⟩ := di_more h h1 hb hu hv ht
  have hY : 0 < y1 * b + y0 := by have := Nat.mul_pos h1 hb; omega
  generalize hj : k - 1 = j at *
  have hjb : j < b := by
    have h2 : j * y1 < b * y1 := by rw [Nat.mul_comm b]; omega
    exact Nat.lt_of_mul_lt_mul_right h2
  refine Nat.le_antisymm hle ?_
  rw [Nat.le_div_iff_mul_le hY, ← he, Nat.mul_add, Nat.add_mul, Nat.mul_assoc]
  have h3 : j * y0 ≤ b * b := Nat.mul_le_mul (by omega) (by omega)
  have h4 : b * b ≤ (r + y1) * b := Nat.mul_le_mul_right b hr
  omega
theorem di_done (h : DI b u v y1 y0 k r) (h1 : 0 < y1) (hb : 0 < b) (ht : k * y0 ≤ b * r + v) : (u * b + v) / (y1 * b + y0) = k := by
  have hY : 0 < y1 * b + y0 := by have := Nat.mul_pos h1 hb; omega
  refine Nat.le_antisymm h.le ?_
  rw [Nat.le_div_iff_mul_le hY]
  have he := h.eq
  rw [← he, Nat.mul_add, Nat.add_mul, Nat.mul_assoc]
  have : r * b = b * r := Nat.mul_comm _ _
  omega
end
/-- Two digits, one behind the other, are the quotient. -/
theorem two_digits (b Y u1 u0 q1 r1 q0 r0 : Nat) (U : Nat) (h1 : U * b + u1 = q1 * Y + r1) (h0 : r1 * b + u0 = q0 * Y + r0) : (U * b + u1) * b + u0 = (q1 * b + q0) * Y + r0 := by
  rw [h1, Nat.add_mul, Nat.add_mul, Nat.mul_assoc, Nat.mul_comm Y b, ← Nat.mul_assoc]
  omega
theorem div_of_eq {N Y Q R : Nat} (h : N = Q * Y + R) (hR : R < Y) : N / Y = Q ∧ N % Y = R := by
  have hY : 0 < Y := by omega
  rw [h, Nat.mul_comm]
  exact ⟨by rw [Nat.mul_add_div hY, Nat.div_eq_of_lt hR]; rfl, by rw [Nat.mul_add_mod, Nat.mod_eq_of_lt hR]⟩
/-- Quotient and rest of two numbers that are shifted alike. -/
theorem div_shift {N y p Q R : Nat} (hp : 0 < p) (hy : 0 < y) (h : N * p = Q * (y * p) + R) (hR : R < y * p) : N / y = Q ∧ N % y = R / p := by
  have hq : N / y = Q := by
    have := (div_of_eq h hR).1
    rwa [Nat.mul_div_mul_right _ _ hp] at this
  refine ⟨hq, ?_⟩
  have h2 : N % y * p = R := by
    have h3 := Nat.div_add_mod N y
    rw [hq] at h3
    have h4 : N * p = y * Q * p + N % y * p := by rw [← Nat.add_mul, h3]
    have h5 : y * Q * p = Q * (y * p) := by rw [Nat.mul_comm y Q, Nat.mul_assoc]
    omega
  rw [← h2, Nat.mul_div_cancel _ hp]
end Go.Proofs.YtllmacokhjmdgaaGreatDoor
