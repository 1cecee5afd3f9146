/-
  NatDigits: rows of bytes; a text of nines.
-/
import Derived.Test.YtllmacokhjmdgaaGreatDoorNAlive
namespace Go.Proofs.YtllmacokhjmdgaaGreatDoor
open Go.RowKit
set_option linter.unusedVariables false
theorem ten_pow {n k : Nat} (h : n ≤ 16 * k) : 10 ^ n ≤ 18446744073709551616 ^ k := by
  have h1 : 10 ^ n ≤ 16 ^ n := Nat.pow_le_pow_left (by decide) n
  have h2 : 16 ^ n ≤ 16 ^ (16 * k) := Nat.pow_le_pow_right (by decide) h
  rw [Nat.pow_mul] at h2
  exact Nat.le_trans h1 h2
theorem w64_mono {j k : Nat} (h : j ≤ k) : 18446744073709551616 ^ j ≤ 18446744073709551616 ^ k := Nat.pow_le_pow_right (by decide) h
/-- A sum, the greater number ahead. -/
theorem add_big (M N : Nat) (va vb : Value) (w : World) (ha : IsN w va M) (hb : IsN w vb N) (hM : M < 18446744073709551616 ^ 9000) (hN : N ≠ 0) (hNM : N < 18446744073709551616) (hM0 : M ≠ 0) :
    Calls Tryz.prog 71 #[va, vb] w (AddIs (M + N) w) := by
  obtain ⟨a1, c1, us, rfl, hc1, hu, hwu, rfl, hl1, _, _, hz1⟩ := isN_open 9000 ha hM
  obtain ⟨a2, c2, vs, rfl, hc2, hv, hwv, rfl, hl2, _, _, hz2⟩ := isN_open 1 hb (by rw [Nat.pow_one]; exact hNM)
  have hne : us ≠ [] := fun e => hM0 (by rw [e]; rfl)
  have hlu := List.length_pos_iff.2 hne
  obtain ⟨ad, rfl, _⟩ := hu 0 hlu
  exact add_long ad a2 c1 c2 us vs w hu hv hwu hwv hl1 hne (by omega)
end Go.Proofs.YtllmacokhjmdgaaGreatDoor
