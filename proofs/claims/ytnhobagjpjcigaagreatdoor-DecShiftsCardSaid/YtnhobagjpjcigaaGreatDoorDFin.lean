/-
 Law 3: denominators that are made of twos and fives.
-/
import Derived.Test.YtnhobagjpjcigaaGreatDoorDMath
namespace Go.Proofs.YtnhobagjpjcigaaGreatDoor
set_option linter.unusedVariables false
theorem cop5 {r : Nat} (h : r % 5 ≠ 0) : Nat.Coprime r 5 := by
 have hd : Nat.gcd r 5 ∣ 5 := Nat.gcd_dvd_right _ _
 have hle : Nat.gcd r 5 ≤ 5 := Nat.le_of_dvd (by decide) hd
 have key : ∀ g, g ≤ 5 → g ∣ 5 → g = 1 ∨ g = 5 := by decide
 rcases key _ hle hd with h1 | h1
 · exact h1
 · have := Nat.gcd_dvd_left r 5
   rw [h1] at this
   exact absurd (Nat.mod_eq_zero_of_dvd this) h
theorem cop2 {r : Nat} (h : r % 2 ≠ 0) : Nat.Coprime r 2 := by
 have hd : Nat.gcd r 2 ∣ 2 := Nat.gcd_dvd_right _ _
 have hle : Nat.gcd r 2 ≤ 2 := Nat.le_of_dvd (by decide) hd
 have key : ∀ g, g ≤ 2 → g ∣ 2 → g = 1 ∨ g = 2 := by decide
 rcases key _ hle hd with h1 | h1
 · exact h1
 · have := Nat.gcd_dvd_left r 2
   rw [h1] at this
   exact absurd (Nat.mod_eq_zero_of_dvd this) h
/-- A divisor of twos and fives is made of them, and of no more of each. -/
theorem fin_parts {d t f : Nat} (h : d ∣ 2 ^ t * 5 ^ f) : rst d = 1 ∧ (tk 2 d).2 ≤ t ∧ (tk 5 (tk 2 d).1).2 ≤ f := by
 have hpos : 0 < 2 ^ t * 5 ^ f := Nat.mul_pos (Nat.pow_pos (by decide)) (Nat.pow_pos (by decide))
 have h0 : d ≠ 0 := fun e => by
  rw [e] at h
  have := Nat.eq_zero_of_zero_dvd h
  omega
 have e2 := tk_eq (p := 2) (by decide) h0
 have l2 := tk_left (p := 2) (by decide) h0
 have m0 := tk_ne (p := 2) (by decide) h0
 have e5 := tk_eq (p := 5) (by decide) m0
 have l5 := tk_left (p := 5) (by decide) m0
 unfold rst
 generalize (tk 2 d).1 = m at e2 l2 m0 e5 l5 ⊢
 generalize (tk 2 d).2 = a at e2 ⊢
 generalize (tk 5 m).1 = r at e5 l5 ⊢
 generalize (tk 5 m).2 = b at e5 ⊢
 have hm : m ∣ 5 ^ f := by
  refine Nat.Coprime.dvd_of_dvd_mul_left (m := 2 ^ t) ?_ (Nat.dvd_trans ⟨2 ^ a, e2⟩ h)
  exact Nat.Coprime.pow_right t (cop2 l2)
 have h2 : 2 ^ a ∣ 2 ^ t := by
  refine Nat.Coprime.dvd_of_dvd_mul_right (n := 5 ^ f) ?_ (Nat.dvd_trans ⟨m, by rw [Nat.mul_comm]; exact e2⟩ h)
  exact Nat.Coprime.pow a f (by decide)
 have hr : r = 1 := by
  refine Nat.Coprime.eq_one_of_dvd (m := 5 ^ f) ?_ (Nat.dvd_trans ⟨5 ^ b, e5⟩ hm)
  exact Nat.Coprime.pow_right f (cop5 l5)
 have h5 : 5 ^ b ∣ 5 ^ f := Nat.dvd_trans ⟨r, by rw [Nat.mul_comm]; exact e5⟩ hm
 exact ⟨hr, (Nat.pow_dvd_pow_iff_le_right (by decide)).1 h2, (Nat.pow_dvd_pow_iff_le_right (by decide)).1 h5⟩
/-- A denominator that a further prime divides is not made of them. -/
theorem fin_not {d p : Nat} (h0 : d ≠ 0) (h2 : Nat.Coprime p 2) (h5 : Nat.Coprime p 5) (hp : p ≠ 1) (h : p ∣ d) : rst d ≠ 1 := by
 intro e
 have hd := rst_eq h0
 rw [e, Nat.one_mul] at hd
 rw [hd] at h
 exact hp (Nat.Coprime.eq_one_of_dvd (Nat.Coprime.mul_right (Nat.Coprime.pow_right _ h5) (Nat.Coprime.pow_right _ h2)) h)
/-- The denominator behind the common divisor. -/
theorem fin_yes {N D K t f : Nat} (hN : N ≠ 0) (hD : D = 2 ^ t * 5 ^ f * K) (hK : K ∣ N) : D / Nat.gcd N D ∣ 2 ^ t * 5 ^ f := by
 have hg : K ∣ Nat.gcd N D := Nat.dvd_gcd hK ⟨2 ^ t * 5 ^ f, by rw [hD, Nat.mul_comm]⟩
 obtain ⟨q, hq⟩ := hg
 have hG : Nat.gcd N D ∣ D := Nat.gcd_dvd_right _ _
 have hG0 : 0 < Nat.gcd N D := Nat.gcd_pos_of_pos_left _ (Nat.pos_of_ne_zero hN)
 obtain ⟨u, hu⟩ := hG
 have e1 : D / Nat.gcd N D = u := by
  conv => lhs; lhs; rw [hu]
  exact Nat.mul_div_cancel_left _ hG0
 rw [e1]
 have hK0 : 0 < K := Nat.pos_of_ne_zero (fun e => by rw [e, Nat.zero_mul] at hq; omega)
 refine ⟨q, Nat.eq_of_mul_eq_mul_right hK0 ?_⟩
 rw [← hD]
 conv => lhs; rw [hu]
 rw [hq, Nat.mul_assoc, Nat.mul_comm K, Nat.mul_comm q u]
theorem fin_no {N D p : Nat} (hN : N ≠ 0) (hp : ∀ a b, p ∣ a * b → p ∣ a ∨ p ∣ b) (hD : p ∣ D) (hpN : ¬ p ∣ N) : p ∣ D / Nat.gcd N D := by
 have hG : Nat.gcd N D ∣ D := Nat.gcd_dvd_right _ _
 have e1 : D = Nat.gcd N D * (D / Nat.gcd N D) := (Nat.mul_div_cancel' hG).symm
 rw [e1] at hD
 rcases hp _ _ hD with h | h
 · exact absurd (Nat.dvd_trans h (Nat.gcd_dvd_left _ _)) hpN
 · exact h
theorem prime_of {p : Nat} (hp : ∀ g, g ≤ p → g ∣ p → g = 1 ∨ g = p) (h0 : 0 < p) (a b : Nat) (h : p ∣ a * b) : p ∣ a ∨ p ∣ b := by
 have hd : Nat.gcd p a ∣ p := Nat.gcd_dvd_left _ _
 rcases hp _ (Nat.le_of_dvd h0 hd) hd with h1 | h1
 · exact .inr (Nat.Coprime.dvd_of_dvd_mul_left h1 h)
 · exact .inl (by rw [← h1]; exact Nat.gcd_dvd_right _ _)
end Go.Proofs.YtnhobagjpjcigaaGreatDoor
