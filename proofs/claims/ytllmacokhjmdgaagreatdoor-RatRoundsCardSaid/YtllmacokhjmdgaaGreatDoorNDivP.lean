/-
  bits.Div64: what is shifted ahead of the division.
-/
import Derived.Test.YtllmacokhjmdgaaGreatDoorNDivM
import Derived.Laws.BitsAllLaws
import Derived.Laws.Bits64
import Derived.Lib.ItoaNum
import Derived.Lib.BitFns
import Derived.WalkKit
import Derived.Lib.Hide
namespace Go.Proofs.YtllmacokhjmdgaaGreatDoor
theorem wrapu64 (n : Nat) (h : n < 18446744073709551616) : IntKind.u64.wrap (n : Int) = n := IntWalk.u64_in _ ⟨by omega, by omega⟩
theorem wrapu64_mod (n : Nat) : IntKind.u64.wrap (n : Int) = ((n % 18446744073709551616 : Nat) : Int) := by
  rw [IntKind.wrap_u64]; omega
theorem mask32 (n : Nat) (h : n < 18446744073709551616) : bits .and .u64 (n : Int) 4294967295 = ((n % 4294967296 : Nat) : Int) := by
  have := u64_and_nat n 4294967295 h (by omega)
  rw [show n &&& 4294967295 = n % 4294967296 from Nat.and_two_pow_sub_one_eq_mod n 32] at this
  exact this
/-- What stands after the shifts. -/
structure Shifted (hi lo y s yn u v : Nat) : Prop where
  s63 : s ≤ 63
  ey : yn = y * 2 ^ s
  ylt : yn < 18446744073709551616
  yge : 9223372036854775808 ≤ yn
  ult : u < yn
  vlt : v < 18446744073709551616
  num : (hi * 18446744073709551616 + lo) * 2 ^ s = u * 18446744073709551616 + v
theorem div_pre (hi lo y : Nat) (hlo : lo < 18446744073709551616) (hy : y < 18446744073709551616) (h : hi < y) :
    ∃ s yn u v : Nat, 64 - (Lib.bitLen y : Int) = (s : Int) ∧ Shifted hi lo y s yn u v ∧ IntKind.u64.wrap ((y : Int) * 2 ^ s) = (yn : Int) ∧
      bits .or .u64 (IntKind.u64.wrap ((hi : Int) * 2 ^ s)) ((lo : Int) / 2 ^ (64 - (s : Int)).toNat) = (u : Int) ∧ IntKind.u64.wrap ((lo : Int) * 2 ^ s) = (v : Int) := by
  have e64' : (2 : Nat) ^ 64 = 18446744073709551616 := by decide
  obtain ⟨hge, hb2, hb1⟩ := Lib.bitLenAux_bounds 64 y (by omega) (by omega)
  have hle : Lib.bitLen y ≤ 64 := Lib.bitLen_le y 64 (by omega) (by omega)
  change 1 ≤ Lib.bitLen y at hge
  change 2 ^ (Lib.bitLen y - 1) ≤ y at hb2
  change y < 2 ^ Lib.bitLen y at hb1
  generalize Lib.bitLen y = L at *
  obtain ⟨s, hs⟩ : ∃ s, s = 64 - L := ⟨_, rfl⟩
  have hsL : L = 64 - s := by omega
  have hpP : 2 ^ s * 2 ^ L = 18446744073709551616 := by rw [← Nat.pow_add, show s + L = 64 from by omega]
  have hp : 0 < 2 ^ s := Nat.two_pow_pos s
  have hP : 0 < 2 ^ L := Nat.two_pow_pos L
  have hyp : y * 2 ^ s < 18446744073709551616 := by rw [← hpP, Nat.mul_comm]; exact Nat.mul_lt_mul_of_pos_left hb1 hp
  have hyp2 : 9223372036854775808 ≤ y * 2 ^ s := by
    have h1 : 2 ^ (L - 1) * 2 ^ s ≤ y * 2 ^ s := Nat.mul_le_mul_right _ hb2
    rw [← Nat.pow_add, show L - 1 + s = 63 from by omega] at h1
    exact h1
  have hhp : hi * 2 ^ s + 2 ^ s ≤ y * 2 ^ s := by
    have : (hi + 1) * 2 ^ s ≤ y * 2 ^ s := Nat.mul_le_mul_right _ h
    rwa [Nat.add_mul, Nat.one_mul] at this
  have ha : lo / 2 ^ L < 2 ^ s := by rw [Nat.div_lt_iff_lt_mul hP, hpP]; exact hlo
  have hc : lo % 2 ^ L < 2 ^ L := Nat.mod_lt _ hP
  have hlo2 := Nat.div_add_mod lo (2 ^ L)
  have hcp : lo % 2 ^ L * 2 ^ s < 18446744073709551616 := by rw [← hpP, Nat.mul_comm]; exact Nat.mul_lt_mul_of_pos_left hc hp
  have e2 : ((2 : Int) ^ s) = ((2 ^ s : Nat) : Int) := by rw [Int.natCast_pow]; rfl
  have e64 : (64 - (s : Int)).toNat = L := by omega
  refine ⟨s, y * 2 ^ s, hi * 2 ^ s + lo / 2 ^ L, lo % 2 ^ L * 2 ^ s, by omega, ⟨by omega, rfl, hyp, hyp2, by omega, hcp, ?_⟩, ?_, ?_, ?_⟩
  · have h1 : lo * 2 ^ s = lo / 2 ^ L * 18446744073709551616 + lo % 2 ^ L * 2 ^ s := by
      conv => lhs; rw [← hlo2]
      rw [Nat.add_mul, Nat.mul_comm (2 ^ L), Nat.mul_assoc, Nat.mul_comm (2 ^ L), hpP]
    rw [Nat.add_mul, h1, Nat.add_mul, Nat.mul_right_comm]
    omega
  · rw [e2, ← Int.natCast_mul, wrapu64 _ hyp]
  · rw [e2, ← Int.natCast_mul, wrapu64 _ (by omega), e64]
    have e3 : ((2 : Int) ^ L) = ((2 ^ L : Nat) : Int) := by rw [Int.natCast_pow]; rfl
    rw [e3, ← Int.natCast_ediv, u64_or_nat _ _ (by omega) (by omega)]
    congr 1
    rw [nat_join s _ _ (Nat.mul_mod_left hi (2 ^ s)) ha]
  · rw [e2, ← Int.natCast_mul, wrapu64_mod]
    congr 1
    have h1 : lo * 2 ^ s = lo / 2 ^ L * 18446744073709551616 + lo % 2 ^ L * 2 ^ s := by
      conv => lhs; rw [← hlo2]
      rw [Nat.add_mul, Nat.mul_comm (2 ^ L), Nat.mul_assoc, Nat.mul_comm (2 ^ L), hpP]
    rw [h1, Nat.add_comm, Nat.add_mul_mod_self_right, Nat.mod_eq_of_lt hcp]
/-- What a loop over a guess keeps, in the walk's numbers: u is what is divided, v the digit behind it, n the divisor. -/
def DZ (u v n : Nat) (K R : Int) : Prop := ∃ k r : Nat, K = (k : Int) ∧ R = (r : Int) ∧ DI 4294967296 u v (n / 4294967296) (n % 4294967296) k r
section
variable {u v n : Nat}
theorem n_eq (n : Nat) : n / 4294967296 * 4294967296 + n % 4294967296 = n := by omega
theorem dz_init (hn : 9223372036854775808 ≤ n) (hn2 : n < 18446744073709551616) (hv : v < 4294967296) (hu : u < n) :
    DZ u v n ((u : Int) / ((n / 4294967296 : Nat) : Int)) (IntKind.u64.wrap ((u : Int) - IntKind.u64.wrap ((u : Int) / ((n / 4294967296 : Nat) : Int) * ((n / 4294967296 : Nat) : Int)))) := by
  have h := di_init 4294967296 u v (n / 4294967296) (n % 4294967296) (by omega) (by omega) (by omega) hv
  refine ⟨_, _, (Int.natCast_ediv _ _).symm, ?_, h⟩
  have hle : u / (n / 4294967296) * (n / 4294967296) ≤ u := Nat.div_mul_le_self _ _
  rw [← Int.natCast_ediv, ← Int.natCast_mul, wrapu64 _ (by omega), ← Int.natCast_sub hle, wrapu64 _ (by omega)]
/-- The test of the loop, as the walk spells it. -/
def DT (K R Y0 V : Int) : Prop := IntKind.u64.wrap (IntKind.u64.wrap (4294967296 * R) + V) < IntKind.u64.wrap (K * Y0)
theorem dt_iff (k r y0 v : Nat) (hk : k < 4294967296) (hr : r < 4294967296) (hy : y0 < 4294967296) (hv : v < 4294967296) : DT (k : Int) (r : Int) (y0 : Int) (v : Int) ↔ 4294967296 * r + v < k * y0 := by
  have h1 : k * y0 < 18446744073709551616 := by
    have : k * y0 ≤ 4294967295 * 4294967295 := Nat.mul_le_mul (by omega) (by omega)
    omega
  have e1 : (4294967296 : Int) * (r : Int) = ((4294967296 * r : Nat) : Int) := by rw [Int.natCast_mul]; rfl
  unfold DT
  rw [e1, wrapu64 _ (by omega), ← Int.natCast_add, wrapu64 _ (by omega), ← Int.natCast_mul, wrapu64 _ h1]
  exact Int.ofNat_lt
theorem dz_step {K R : Int} (hn : 9223372036854775808 ≤ n) (hn2 : n < 18446744073709551616) (hv : v < 4294967296) (hu : u < n) (h : DZ u v n K R)
    (ht : 4294967296 ≤ K ∨ ¬ 4294967296 ≤ K ∧ DT K R ((n % 4294967296 : Nat) : Int) (v : Int)) :
    ∃ K1 R1 : Int, IntKind.u64.wrap (K - 1) = K1 ∧ IntKind.u64.wrap (R + ((n / 4294967296 : Nat) : Int)) = R1 ∧ K1.toNat < K.toNat ∧
      (4294967296 ≤ R1 ∧ K1 = (((u * 4294967296 + v) / n : Nat) : Int) ∨ ¬ 4294967296 ≤ R1 ∧ DZ u v n K1 R1) := by
  obtain ⟨k, r, rfl, rfl, hd⟩ := h
  have hr := hd.lt
  have hq := hd.eq
  have hku : k * (n / 4294967296) ≤ u := by omega
  have hk1 : k ≤ k * (n / 4294967296) := Nat.le_mul_of_pos_right k (by omega)
  have hu' : u < n / 4294967296 * 4294967296 + n % 4294967296 := by rw [n_eq]; exact hu
  have ht' : 4294967296 ≤ k ∨ 4294967296 * r + v < k * (n % 4294967296) := by
    rcases ht with ht | ⟨h1, h2⟩
    · exact .inl (by omega)
    · exact .inr ((dt_iff k r _ v (by omega) hr (by omega) hv).1 h2)
  obtain ⟨m1, m2, m3⟩ := di_more hd (by omega) (by omega) hu' hv ht'
  refine ⟨((k - 1 : Nat) : Int), ((r + n / 4294967296 : Nat) : Int), ?_, ?_, by omega, ?_⟩
  · have e : (k : Int) - 1 = ((k - 1 : Nat) : Int) := by omega
    rw [e, wrapu64 _ (by omega)]
  · rw [← Int.natCast_add, wrapu64 _ (by omega)]
  · by_cases hb : 4294967296 ≤ r + n / 4294967296
    · refine .inl ⟨by omega, ?_⟩
      have := di_break hd (by omega) (by omega) hu' (by omega) hv ht' hb
      rw [n_eq] at this
      rw [this]
    · exact .inr ⟨by omega, k - 1, r + n / 4294967296, rfl, rfl, m2, m3, by omega⟩
theorem dz_done {K R : Int} (hn : 9223372036854775808 ≤ n) (hn2 : n < 18446744073709551616) (hv : v < 4294967296) (hu : u < n) (h : DZ u v n K R)
    (h1 : ¬ 4294967296 ≤ K) (h2 : ¬ DT K R ((n % 4294967296 : Nat) : Int) (v : Int)) : K = (((u * 4294967296 + v) / n : Nat) : Int) := by
  obtain ⟨k, r, rfl, rfl, hd⟩ := h
  rw [dt_iff k r _ v (by omega) hd.lt (by omega) hv] at h2
  have := di_done hd (by omega) (by omega) (by omega)
  rw [n_eq] at this
  rw [this]
theorem join_eq (u v : Nat) : (u * 4294967296 + v / 4294967296) * 4294967296 + v % 4294967296 = u * 18446744073709551616 + v := by omega
/-- What a digit leaves. -/
theorem rest_eq (hn : 0 < n) (hn2 : n < 18446744073709551616) :
    IntKind.u64.wrap (IntKind.u64.wrap (IntKind.u64.wrap ((u : Int) * 4294967296) + (v : Int)) - IntKind.u64.wrap ((((u * 4294967296 + v) / n : Nat) : Int) * (n : Int))) = (((u * 4294967296 + v) % n : Nat) : Int) := by
  have h1 := Nat.div_add_mod (u * 4294967296 + v) n
  have h2 := Nat.mod_lt (u * 4294967296 + v) hn
  have h3 : (((u * 4294967296 + v) / n : Nat) : Int) * (n : Int) = ((n * ((u * 4294967296 + v) / n) : Nat) : Int) := by rw [Int.natCast_mul, Int.mul_comm]
  rw [h3]
  have h4 : (u : Int) * 4294967296 = ((u * 4294967296 : Nat) : Int) := by rw [Int.natCast_mul]; rfl
  rw [h4]
  generalize u * 4294967296 = a at *
  generalize (a + v) / n = q at *
  generalize (a + v) % n = r at *
  generalize n * q = b at *
  simp only [IntKind.wrap_u64]
  omega
end
end Go.Proofs.YtllmacokhjmdgaaGreatDoor
