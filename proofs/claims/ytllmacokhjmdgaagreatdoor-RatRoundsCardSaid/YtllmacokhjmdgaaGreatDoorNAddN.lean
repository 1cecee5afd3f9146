/-
  Law 1: a sum, whichever number is longer.
-/
import Derived.Test.YtllmacokhjmdgaaGreatDoorNAddS
import Derived.Test.YtllmacokhjmdgaaGreatDoorNNines
namespace Go.Proofs.YtllmacokhjmdgaaGreatDoor
open Go.RowKit
set_option linter.unusedVariables false
theorem add_some (M N : Nat) (va vb : Value) (w : World) (ha : IsN w va M) (hb : IsN w vb N) (hM : M < 18446744073709551616 ^ 9000) (hN : N < 18446744073709551616 ^ 9000) (h0 : M ≠ 0 ∨ N ≠ 0) :
    Calls Tryz.prog 71 #[va, vb] w (GaveV (M + N) w) := by
  obtain ⟨a1, c1, us, rfl, hc1, hu, hwu, rfl, hl1, _, _, hz1⟩ := isN_open 9000 ha hM
  obtain ⟨a2, c2, vs, rfl, hc2, hv, hwv, rfl, hl2, _, _, hz2⟩ := isN_open 9000 hb hN
  rcases Nat.lt_or_ge us.length vs.length with hlt | hge
  · have hne : vs ≠ [] := fun e => by rw [e] at hlt; simp at hlt
    obtain ⟨ad, rfl, _, _⟩ := hv 0 (List.length_pos_iff.2 hne)
    have := add_swap ad a1 c2 c1 vs us w hv hu hwv hwu (by omega) hne hlt
    rw [Nat.add_comm (wv us)]
    exact this.mono fun _ _ h => gaveV h
  · have hne : us ≠ [] := fun e => by
      rw [e] at hge
      have : vs = [] := List.eq_nil_of_length_eq_zero (by simpa using hge)
      rw [e, this] at h0
      rcases h0 with h | h <;> exact h rfl
    obtain ⟨ad, rfl, _, _⟩ := hu 0 (List.length_pos_iff.2 hne)
    exact (add_long ad a2 c1 c2 us vs w hu hv hwu hwv (by omega) hne hge).mono fun _ _ h => gaveV h
end Go.Proofs.YtllmacokhjmdgaaGreatDoor
