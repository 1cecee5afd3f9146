/-
 Law 3: what is left of a number without its factors; places and texts of fractions (mathematics).
-/
import Derived.Test.YtggmnmmjmihnfaaGreatDoorQC
namespace Go.Proofs.YtggmnmmjmihnfaaGreatDoor
set_option linter.unusedVariables false
/-- What is left of N without its factors p, and how many there were. -/
def tk (p N : Nat) : Nat × Nat :=
 if h : N ≠ 0 ∧ 2 ≤ p ∧ N % p = 0 then ((tk p (N / p)).1, (tk p (N / p)).2 + 1) else (N, 0)
termination_by N
decreasing_by all_goals exact Nat.div_lt_self (by omega) (by omega)
theorem tk_go {p N : Nat} (h0 : N ≠ 0) (hp : 2 ≤ p) (h : N % p = 0) : tk p N = ((tk p (N / p)).1, (tk p (N / p)).2 + 1) := by
 conv => lhs; unfold tk
 rw [dif_pos ⟨h0, hp, h⟩]
theorem tk_stop {p N : Nat} (h : N % p ≠ 0) : tk p N = (N, 0) := by
 unfold tk
 rw [dif_neg (fun e => h e.2.2)]
theorem tk_spec {p : Nat} (hp : 2 ≤ p) : ∀ n N : Nat, N ≤ n → N ≠ 0 → N = (tk p N).1 * p ^ (tk p N).2 ∧ (tk p N).1 % p ≠ 0 := by
 intro n
 induction n with
 | zero => intro N h h0; omega
 | succ n ih =>
  intro N h h0
  by_cases hm : N % p = 0
  · have hd : N / p ≠ 0 := fun e => by
     have := Nat.div_add_mod N p
     rw [e, hm] at this
     simp at this
     exact h0 this.symm
    have hlt : N / p < N := Nat.div_lt_self (by omega) (by omega)
    obtain ⟨h1, h2⟩ := ih (N / p) (by omega) hd
    rw [tk_go h0 hp hm]
    refine ⟨?_, h2⟩
    have e1 : N = N / p * p := by have := Nat.div_add_mod N p; rw [hm, Nat.add_zero, Nat.mul_comm] at this; exact this.symm
    show N = (tk p (N / p)).1 * p ^ ((tk p (N / p)).2 + 1)
    rw [Nat.pow_succ, ← Nat.mul_assoc, ← h1]
    exact e1
  · rw [tk_stop hm]
    exact ⟨by simp, hm⟩
theorem tk_eq {p N : Nat} (hp : 2 ≤ p) (h0 : N ≠ 0) : N = (tk p N).1 * p ^ (tk p N).2 := (tk_spec hp N N (Nat.le_refl _) h0).1
theorem tk_left {p N : Nat} (hp : 2 ≤ p) (h0 : N ≠ 0) : (tk p N).1 % p ≠ 0 := (tk_spec hp N N (Nat.le_refl _) h0).2
theorem tk_ne {p N : Nat} (hp : 2 ≤ p) (h0 : N ≠ 0) : (tk p N).1 ≠ 0 := fun e => by
 have := tk_left hp h0
 rw [e] at this
 simp at this
theorem tk_le {p N : Nat} (hp : 2 ≤ p) (h0 : N ≠ 0) : (tk p N).1 ≤ N := by
 conv => rhs; rw [tk_eq hp h0]
 exact Nat.le_mul_of_pos_right _ (Nat.pow_pos (by omega))
theorem tk_pow_le {p N : Nat} (hp : 2 ≤ p) (h0 : N ≠ 0) : p ^ (tk p N).2 ≤ N := by
 conv => rhs; rw [tk_eq hp h0]
 exact Nat.le_mul_of_pos_left _ (Nat.pos_of_ne_zero (tk_ne hp h0))
theorem tk_mul {p M v : Nat} (hp : 2 ≤ p) (hM : M % p ≠ 0) : tk p (M * p ^ v) = (M, v) := by
 have hM0 : M ≠ 0 := fun e => hM (by rw [e]; simp)
 induction v with
 | zero => rw [Nat.pow_zero, Nat.mul_one]; exact tk_stop hM
 | succ v ih =>
  have e1 : M * p ^ (v + 1) / p = M * p ^ v := by
   rw [Nat.pow_succ, ← Nat.mul_assoc]
   exact Nat.mul_div_cancel _ (by omega)
  have e2 : M * p ^ (v + 1) % p = 0 := by
   rw [Nat.pow_succ, ← Nat.mul_assoc]
   exact Nat.mul_mod_left _ _
  rw [tk_go (Nat.mul_ne_zero hM0 (Nat.ne_of_gt (Nat.pow_pos (by omega)))) hp e2, e1, ih]
/-- What is left of a denominator without twos and fives. -/
def rst (d : Nat) : Nat := (tk 5 (tk 2 d).1).1
/-- How many places a denominator needs. -/
def plc (d : Nat) : Nat := max (tk 2 d).2 (tk 5 (tk 2 d).1).2
theorem rst_eq {d : Nat} (h : d ≠ 0) : d = rst d * 5 ^ (tk 5 (tk 2 d).1).2 * 2 ^ (tk 2 d).2 := by
 unfold rst
 rw [← tk_eq (by decide) (tk_ne (by decide) h), ← tk_eq (by decide) h]
theorem plc_pow {d : Nat} (h : d ≠ 0) : 2 ^ plc d ≤ d := by
 unfold plc
 rcases Nat.le_total (tk 2 d).2 (tk 5 (tk 2 d).1).2 with h1 | h1
 · rw [Nat.max_eq_right h1]
   have h2 := tk_pow_le (p := 5) (by decide) (tk_ne (p := 2) (by decide) h)
   exact Nat.le_trans (Nat.le_trans (Nat.pow_le_pow_left (by decide) _) h2) (tk_le (by decide) h)
 · rw [Nat.max_eq_left h1]
   exact tk_pow_le (by decide) h
/-- A fraction's number without its point. -/
def sct (x : Rat) : Nat := x.num.natAbs * 10 ^ plc x.den / x.den
/-- Its digits, at least one more than there are places. -/
def sdg (x : Rat) : ByteArray := if (dg (sct x)).size ≤ plc x.den then ⟨(List.replicate (plc x.den + 1 - (dg (sct x)).size) (48 : UInt8)).toArray⟩ ++ dg (sct x) else dg (sct x)
/-- Its text ahead of a sign. -/
def ubt (x : Rat) : ByteArray := if 0 < plc x.den then (sdg x).extract 0 ((sdg x).size - plc x.den) ++ (⟨#[46]⟩ ++ (sdg x).extract ((sdg x).size - plc x.den) (sdg x).size) else (sdg x).extract 0 ((sdg x).size - plc x.den)
/-- The literal of a fraction. -/
def ltx (x : Rat) : ByteArray := if x.num < 0 then ⟨#[45]⟩ ++ ubt x else ubt x
end Go.Proofs.YtggmnmmjmihnfaaGreatDoor
