/-
  A digit of a quotient: guessed, and made less till it fits.
  bits.Div64: what is shifted ahead of the division.
  bits.Div64: quotient and rest.
  Law 1: words and their numbers; blocks known whole; noughts behind the words taken away.
  Law 1: words times a word and a carry, in place.
  Law 1: is a text well formed; the value of a part of it.
  Law 1: the number of a text's digits.
-/
import Derived.Test.YtckglpkafhmehaaGreatDoorProg
import Derived.Laws.BitsAllLaws
import Derived.Laws.Bits64
import Derived.Lib.ItoaNum
import Derived.Lib.BitFns
import Derived.WalkKit
import Derived.Lib.Hide
import Derived.Test.YtckglpkafhmehaaGreatDoorShelf
import Derived.WalkSpells
import Derived.WalkSmall
import Derived.ProofKit
import Derived.BigQuiet
import Derived.Deep.QuietTactic
import Derived.Deep.CutRange
import Derived.Deep.CutBlock
import Derived.RangeFuncBox
import Derived.RangeFuncNested
import Derived.Maps.AppendAt
import Derived.Laws.Rows
import Derived.Laws.ResultCell
import Derived.Laws.Externs
import Derived.Laws.MakeOwn
namespace Go.Proofs.YtckglpkafhmehaaGreatDoor
set_option linter.unusedVariables false
theorem quo_le (b u v y1 y0 : Nat) (h1 : 0 < y1) (hb : 0 < b) (hv : v < b) : (u * b + v) / (y1 * b + y0) ≤ u / y1 := by
  rw [Nat.le_div_iff_mul_le h1]
  have h2 : (u * b + v) / (y1 * b + y0) * (y1 * b + y0) ≤ u * b + v := Nat.div_mul_le_self _ _
  generalize (u * b + v) / (y1 * b + y0) = q at *
  have h3 : q * y1 * b ≤ q * (y1 * b + y0) := by rw [Nat.mul_add, Nat.mul_assoc]; omega
  have h4 : q * y1 * b < (u + 1) * b := by rw [Nat.add_mul, Nat.one_mul]; omega
  have := Nat.lt_of_mul_lt_mul_right h4
  omega
/-- What a loop over a guess k keeps: it is not too small; r is what it leaves of u. -/
structure DI (b u v y1 y0 k r : Nat) : Prop where
  le : (u * b + v) / (y1 * b + y0) ≤ k
  eq : k * y1 + r = u
  lt : r < b
theorem di_init (b u v y1 y0 : Nat) (h1 : 0 < y1) (h1b : y1 ≤ b) (hb : 0 < b) (hv : v < b) : DI b u v y1 y0 (u / y1) (u - u / y1 * y1) := by
  have h2 := Nat.div_add_mod u y1
  have h3 := Nat.mod_lt u h1
  rw [Nat.mul_comm] at h2
  exact ⟨quo_le b u v y1 y0 h1 hb hv, by omega, by omega⟩
section
variable {b u v y1 y0 k r : Nat}
theorem di_lt (h1 : 0 < y1) (hb : 0 < b) (hu : u < y1 * b + y0) (hv : v < b) : (u * b + v) / (y1 * b + y0) < b := by
  have hY : 0 < y1 * b + y0 := by have := Nat.mul_pos h1 hb; omega
  rw [Nat.div_lt_iff_lt_mul hY]
  have h2 : (u + 1) * b ≤ (y1 * b + y0) * b := Nat.mul_le_mul_right b hu
  rw [Nat.add_mul, Nat.one_mul] at h2
  rw [Nat.mul_comm b]; omega
theorem di_more (h : DI b u v y1 y0 k r) (h1 : 0 < y1) (hb : 0 < b) (hu : u < y1 * b + y0) (hv : v < b) (ht : b ≤ k ∨ b * r + v < k * y0) :
    0 < k ∧ (u * b + v) / (y1 * b + y0) ≤ k - 1 ∧ (k - 1) * y1 + (r + y1) = u := by
  have hlt : (u * b + v) / (y1 * b + y0) < k := by
    rcases ht with ht | ht
    · have := di_lt (v := v) h1 hb hu hv; omega
    · have hY : 0 < y1 * b + y0 := by have := Nat.mul_pos h1 hb; omega
      rw [Nat.div_lt_iff_lt_mul hY, ← h.eq, Nat.mul_add, Nat.add_mul, Nat.mul_assoc]
      have : r * b = b * r := Nat.mul_comm _ _
      omega
  have hk : 0 < k := Nat.lt_of_le_of_lt (Nat.zero_le _) hlt
  refine ⟨hk, Nat.le_sub_one_of_lt hlt, ?_⟩
  obtain ⟨j, rfl⟩ : ∃ j, k = j + 1 := ⟨k - 1, by omega⟩
  have := h.eq
  rw [Nat.add_mul, Nat.one_mul] at this
  simp only [Nat.add_sub_cancel]
  omega
theorem di_break (h : DI b u v y1 y0 k r) (h1 : 0 < y1) (hb : 0 < b) (hu : u < y1 * b + y0) (hy : y0 < b) (hv : v < b) (ht : b ≤ k ∨ b * r + v < k * y0) (hr : b ≤ r + y1) :
    (u * b + v) / (y1 * b + y0) = k - 1 := by
  obtain ⟨hk, hle, he⟩ := di_more h h1 hb hu hv ht
  have hY : 0 < y1 * b + y0 := by have := Nat.mul_pos h1 hb; omega
  generalize hj : k - 1 = j at *
  have hjb : j < b := by
    have h2 : j * y1 < b * y1 := by rw [Nat.mul_comm b]; omega
    exact Nat.lt_of_mul_lt_mul_right h2
  refine Nat.le_antisymm hle ?_
  rw [Nat.le_div_iff_mul_le hY, ← he, Nat.mul_add, Nat.add_mul, Nat.mul_assoc]
  have h3 : j * y0 ≤ b * b := Nat.mul_le_mul (by omega) (by omega)
  have h4 : b * b ≤ (r + y1) * b := Nat.mul_le_mul_right b hr
  omega
theorem di_done (h : DI b u v y1 y0 k r) (h1 : 0 < y1) (hb : 0 < b) (ht : k * y0 ≤ b * r + v) : (u * b + v) / (y1 * b + y0) = k := by
  have hY : 0 < y1 * b + y0 := by have := Nat.mul_pos h1 hb; omega
  refine Nat.le_antisymm h.le ?_
  rw [Nat.le_div_iff_mul_le hY]
  have he := h.eq
  rw [← he, Nat.mul_add, Nat.add_mul, Nat.mul_assoc]
  have : r * b = b * r := Nat.mul_comm _ _
  omega
end
/-- Two digits, one behind the other, are the quotient. -/
theorem two_digits (b Y u1 u0 q1 r1 q0 r0 : Nat) (U : Nat) (h1 : U * b + u1 = q1 * Y + r1) (h0 : r1 * b + u0 = q0 * Y + r0) : (U * b + u1) * b + u0 = (q1 * b + q0) * Y + r0 := by
  rw [h1, Nat.add_mul, Nat.add_mul, Nat.mul_assoc, Nat.mul_comm Y b, ← Nat.mul_assoc]
  omega
theorem div_of_eq {N Y Q R : Nat} (h : N = Q * Y + R) (hR : R < Y) : N / Y = Q ∧ N % Y = R := by
  have hY : 0 < Y := by omega
  rw [h, Nat.mul_comm]
  exact ⟨by rw [Nat.mul_add_div hY, Nat.div_eq_of_lt hR]; rfl, by rw [Nat.mul_add_mod, Nat.mod_eq_of_lt hR]⟩
/-- Quotient and rest of two numbers that are shifted alike. -/
theorem div_shift {N y p Q R : Nat} (hp : 0 < p) (hy : 0 < y) (h : N * p = Q * (y * p) + R) (hR : R < y * p) : N / y = Q ∧ N % y = R / p := by
  have hq : N / y = Q := by
    have := (div_of_eq h hR).1
    rwa [Nat.mul_div_mul_right _ _ hp] at this
  refine ⟨hq, ?_⟩
  have h2 : N % y * p = R := by
    have h3 := Nat.div_add_mod N y
    rw [hq] at h3
    have h4 : N * p = y * Q * p + N % y * p := by rw [← Nat.add_mul, h3]
    have h5 : y * Q * p = Q * (y * p) := by rw [Nat.mul_comm y Q, Nat.mul_assoc]
    omega
  rw [← h2, Nat.mul_div_cancel _ hp]
end Go.Proofs.YtckglpkafhmehaaGreatDoor
namespace Go.Proofs.YtckglpkafhmehaaGreatDoor
theorem wrapu64 (n : Nat) (h : n < 18446744073709551616) : IntKind.u64.wrap (n : Int) = n := IntWalk.u64_in _ ⟨by omega, by omega⟩
theorem wrapu64_mod (n : Nat) : IntKind.u64.wrap (n : Int) = ((n % 18446744073709551616 : Nat) : Int) := by
  rw [IntKind.wrap_u64]; omega
theorem mask32 (n : Nat) (h : n < 18446744073709551616) : bits .and .u64 (n : Int) 4294967295 = ((n % 4294967296 : Nat) : Int) := by
  have := u64_and_nat n 4294967295 h (by omega)
  rw [show n &&& 4294967295 = n % 4294967296 from Nat.and_two_pow_sub_one_eq_mod n 32] at this
  exact this
/-- What stands after the shifts. -/
structure Shifted (hi lo y s yn u v : Nat) : Prop where
  s63 : s ≤ 63
  ey : yn = y * 2 ^ s
  ylt : yn < 18446744073709551616
  yge : 9223372036854775808 ≤ yn
  ult : u < yn
  vlt : v < 18446744073709551616
  num : (hi * 18446744073709551616 + lo) * 2 ^ s = u * 18446744073709551616 + v
theorem div_pre (hi lo y : Nat) (hlo : lo < 18446744073709551616) (hy : y < 18446744073709551616) (h : hi < y) :
    ∃ s yn u v : Nat, 64 - (Lib.bitLen y : Int) = (s : Int) ∧ Shifted hi lo y s yn u v ∧ IntKind.u64.wrap ((y : Int) * 2 ^ s) = (yn : Int) ∧
      bits .or .u64 (IntKind.u64.wrap ((hi : Int) * 2 ^ s)) ((lo : Int) / 2 ^ (64 - (s : Int)).toNat) = (u : Int) ∧ IntKind.u64.wrap ((lo : Int) * 2 ^ s) = (v : Int) := by
  have e64' : (2 : Nat) ^ 64 = 18446744073709551616 := by decide
  obtain ⟨hge, hb2, hb1⟩ := Lib.bitLenAux_bounds 64 y (by omega) (by omega)
  have hle : Lib.bitLen y ≤ 64 := Lib.bitLen_le y 64 (by omega) (by omega)
  change 1 ≤ Lib.bitLen y at hge
  change 2 ^ (Lib.bitLen y - 1) ≤ y at hb2
  change y < 2 ^ Lib.bitLen y at hb1
  generalize Lib.bitLen y = L at *
  obtain ⟨s, hs⟩ : ∃ s, s = 64 - L := ⟨_, rfl⟩
  have hsL : L = 64 - s := by omega
  have hpP : 2 ^ s * 2 ^ L = 18446744073709551616 := by rw [← Nat.pow_add, show s + L = 64 from by omega]
  have hp : 0 < 2 ^ s := Nat.two_pow_pos s
  have hP : 0 < 2 ^ L := Nat.two_pow_pos L
  have hyp : y * 2 ^ s < 18446744073709551616 := by rw [← hpP, Nat.mul_comm]; exact Nat.mul_lt_mul_of_pos_left hb1 hp
  have hyp2 : 9223372036854775808 ≤ y * 2 ^ s := by
    have h1 : 2 ^ (L - 1) * 2 ^ s ≤ y * 2 ^ s := Nat.mul_le_mul_right _ hb2
    rw [← Nat.pow_add, show L - 1 + s = 63 from by omega] at h1
    exact h1
  have hhp : hi * 2 ^ s + 2 ^ s ≤ y * 2 ^ s := by
    have : (hi + 1) * 2 ^ s ≤ y * 2 ^ s := Nat.mul_le_mul_right _ h
    rwa [Nat.add_mul, Nat.one_mul] at this
  have ha : lo / 2 ^ L < 2 ^ s := by rw [Nat.div_lt_iff_lt_mul hP, hpP]; exact hlo
  have hc : lo % 2 ^ L < 2 ^ L := Nat.mod_lt _ hP
  have hlo2 := Nat.div_add_mod lo (2 ^ L)
  have hcp : lo % 2 ^ L * 2 ^ s < 18446744073709551616 := by rw [← hpP, Nat.mul_comm]; exact Nat.mul_lt_mul_of_pos_left hc hp
  have e2 : ((2 : Int) ^ s) = ((2 ^ s : Nat) : Int) := by rw [Int.natCast_pow]; rfl
  have e64 : (64 - (s : Int)).toNat = L := by omega
  refine ⟨s, y * 2 ^ s, hi * 2 ^ s + lo / 2 ^ L, lo % 2 ^ L * 2 ^ s, by omega, ⟨by omega, rfl, hyp, hyp2, by omega, hcp, ?_⟩, ?_, ?_, ?_⟩
  · have h1 : lo * 2 ^ s = lo / 2 ^ L * 18446744073709551616 + lo % 2 ^ L * 2 ^ s := by
      conv => lhs; rw [← hlo2]
      rw [Nat.add_mul, Nat.mul_comm (2 ^ L), Nat.mul_assoc, Nat.mul_comm (2 ^ L), hpP]
    rw [Nat.add_mul, h1, Nat.add_mul, Nat.mul_right_comm]
    omega
  · rw [e2, ← Int.natCast_mul, wrapu64 _ hyp]
  · rw [e2, ← Int.natCast_mul, wrapu64 _ (by omega), e64]
    have e3 : ((2 : Int) ^ L) = ((2 ^ L : Nat) : Int) := by rw [Int.natCast_pow]; rfl
    rw [e3, ← Int.natCast_ediv, u64_or_nat _ _ (by omega) (by omega)]
    congr 1
    rw [nat_join s _ _ (Nat.mul_mod_left hi (2 ^ s)) ha]
  · rw [e2, ← Int.natCast_mul, wrapu64_mod]
    congr 1
    have h1 : lo * 2 ^ s = lo / 2 ^ L * 18446744073709551616 + lo % 2 ^ L * 2 ^ s := by
      conv => lhs; rw [← hlo2]
      rw [Nat.add_mul, Nat.mul_comm (2 ^ L), Nat.mul_assoc, Nat.mul_comm (2 ^ L), hpP]
    rw [h1, Nat.add_comm, Nat.add_mul_mod_self_right, Nat.mod_eq_of_lt hcp]
/-- What a loop over a guess keeps, in the walk's numbers: u is what is divided, v the digit behind it, n the divisor. -/
def DZ (u v n : Nat) (K R : Int) : Prop := ∃ k r : Nat, K = (k : Int) ∧ R = (r : Int) ∧ DI 4294967296 u v (n / 4294967296) (n % 4294967296) k r
section
variable {u v n : Nat}
theorem n_eq (n : Nat) : n / 4294967296 * 4294967296 + n % 4294967296 = n := by omega
theorem dz_init (hn : 9223372036854775808 ≤ n) (hn2 : n < 18446744073709551616) (hv : v < 4294967296) (hu : u < n) :
    DZ u v n ((u : Int) / ((n / 4294967296 : Nat) : Int)) (IntKind.u64.wrap ((u : Int) - IntKind.u64.wrap ((u : Int) / ((n / 4294967296 : Nat) : Int) * ((n / 4294967296 : Nat) : Int)))) := by
  have h := di_init 4294967296 u v (n / 4294967296) (n % 4294967296) (by omega) (by omega) (by omega) hv
  refine ⟨_, _, (Int.natCast_ediv _ _).symm, ?_, h⟩
  have hle : u / (n / 4294967296) * (n / 4294967296) ≤ u := Nat.div_mul_le_self _ _
  rw [← Int.natCast_ediv, ← Int.natCast_mul, wrapu64 _ (by omega), ← Int.natCast_sub hle, wrapu64 _ (by omega)]
/-- The test of the loop, as the walk spells it. -/
def DT (K R Y0 V : Int) : Prop := IntKind.u64.wrap (IntKind.u64.wrap (4294967296 * R) + V) < IntKind.u64.wrap (K * Y0)
theorem dt_iff (k r y0 v : Nat) (hk : k < 4294967296) (hr : r < 4294967296) (hy : y0 < 4294967296) (hv : v < 4294967296) : DT (k : Int) (r : Int) (y0 : Int) (v : Int) ↔ 4294967296 * r + v < k * y0 := by
  have h1 : k * y0 < 18446744073709551616 := by
    have : k * y0 ≤ 4294967295 * 4294967295 := Nat.mul_le_mul (by omega) (by omega)
    omega
  have e1 : (4294967296 : Int) * (r : Int) = ((4294967296 * r : Nat) : Int) := by rw [Int.natCast_mul]; rfl
  unfold DT
  rw [e1, wrapu64 _ (by omega), ← Int.natCast_add, wrapu64 _ (by omega), ← Int.natCast_mul, wrapu64 _ h1]
  exact Int.ofNat_lt
theorem dz_step {K R : Int} (hn : 9223372036854775808 ≤ n) (hn2 : n < 18446744073709551616) (hv : v < 4294967296) (hu : u < n) (h : DZ u v n K R)
    (ht : 4294967296 ≤ K ∨ ¬ 4294967296 ≤ K ∧ DT K R ((n % 4294967296 : Nat) : Int) (v : Int)) :
    ∃ K1 R1 : Int, IntKind.u64.wrap (K - 1) = K1 ∧ IntKind.u64.wrap (R + ((n / 4294967296 : Nat) : Int)) = R1 ∧ K1.toNat < K.toNat ∧
      (4294967296 ≤ R1 ∧ K1 = (((u * 4294967296 + v) / n : Nat) : Int) ∨ ¬ 4294967296 ≤ R1 ∧ DZ u v n K1 R1) := by
  obtain ⟨k, r, rfl, rfl, hd⟩ := h
  have hr := hd.lt
  have hq := hd.eq
  have hku : k * (n / 4294967296) ≤ u := by omega
  have hk1 : k ≤ k * (n / 4294967296) := Nat.le_mul_of_pos_right k (by omega)
  have hu' : u < n / 4294967296 * 4294967296 + n % 4294967296 := by rw [n_eq]; exact hu
  have ht' : 4294967296 ≤ k ∨ 4294967296 * r + v < k * (n % 4294967296) := by
    rcases ht with ht | ⟨h1, h2⟩
    · exact .inl (by omega)
    · exact .inr ((dt_iff k r _ v (by omega) hr (by omega) hv).1 h2)
  obtain ⟨m1, m2, m3⟩ := di_more hd (by omega) (by omega) hu' hv ht'
  refine ⟨((k - 1 : Nat) : Int), ((r + n / 4294967296 : Nat) : Int), ?_, ?_, by omega, ?_⟩
  · have e : (k : Int) - 1 = ((k - 1 : Nat) : Int) := by omega
    rw [e, wrapu64 _ (by omega)]
  · rw [← Int.natCast_add, wrapu64 _ (by omega)]
  · by_cases hb : 4294967296 ≤ r + n / 4294967296
    · refine .inl ⟨by omega, ?_⟩
      have := di_break hd (by omega) (by omega) hu' (by omega) hv ht' hb
      rw [n_eq] at this
      rw [this]
    · exact .inr ⟨by omega, k - 1, r + n / 4294967296, rfl, rfl, m2, m3, by omega⟩
theorem dz_done {K R : Int} (hn : 9223372036854775808 ≤ n) (hn2 : n < 18446744073709551616) (hv : v < 4294967296) (hu : u < n) (h : DZ u v n K R)
    (h1 : ¬ 4294967296 ≤ K) (h2 : ¬ DT K R ((n % 4294967296 : Nat) : Int) (v : Int)) : K = (((u * 4294967296 + v) / n : Nat) : Int) := by
  obtain ⟨k, r, rfl, rfl, hd⟩ := h
  rw [dt_iff k r _ v (by omega) hd.lt (by omega) hv] at h2
  have := di_done hd (by omega) (by omega) (by omega)
  rw [n_eq] at this
  rw [this]
theorem join_eq (u v : Nat) : (u * 4294967296 + v / 4294967296) * 4294967296 + v % 4294967296 = u * 18446744073709551616 + v := by omega
/-- What a digit leaves. -/
theorem rest_eq (hn : 0 < n) (hn2 : n < 18446744073709551616) :
    IntKind.u64.wrap (IntKind.u64.wrap (IntKind.u64.wrap ((u : Int) * 4294967296) + (v : Int)) - IntKind.u64.wrap ((((u * 4294967296 + v) / n : Nat) : Int) * (n : Int))) = (((u * 4294967296 + v) % n : Nat) : Int) := by
  have h1 := Nat.div_add_mod (u * 4294967296 + v) n
  have h2 := Nat.mod_lt (u * 4294967296 + v) hn
  have h3 : (((u * 4294967296 + v) / n : Nat) : Int) * (n : Int) = ((n * ((u * 4294967296 + v) / n) : Nat) : Int) := by rw [Int.natCast_mul, Int.mul_comm]
  rw [h3]
  have h4 : (u : Int) * 4294967296 = ((u * 4294967296 : Nat) : Int) := by rw [Int.natCast_mul]; rfl
  rw [h4]
  generalize u * 4294967296 = a at *
  generalize (a + v) / n = q at *
  generalize (a + v) % n = r at *
  generalize n * q = b at *
  simp only [IntKind.wrap_u64]
  omega
end
end Go.Proofs.YtckglpkafhmehaaGreatDoor
namespace Go.Proofs.YtckglpkafhmehaaGreatDoor
open Go.RowKit
set_option linter.unusedVariables false
theorem wrap_tdiv (a b : Nat) (h : a < 18446744073709551616) : IntKind.u64.wrap ((a : Int).tdiv (b : Int)) = ((a / b : Nat) : Int) := by
  rw [Int.tdiv_eq_ediv_of_nonneg (by omega), ← Int.natCast_ediv, wrapu64 _ (Nat.lt_of_le_of_lt (Nat.div_le_self a b) h)]
theorem wrap_tmod (a b : Nat) (h : a < 18446744073709551616) : IntKind.u64.wrap ((a : Int).tmod (b : Int)) = ((a % b : Nat) : Int) := by
  rw [Int.tmod_eq_emod_of_nonneg (by omega), ← Int.natCast_emod, wrapu64 _ (Nat.lt_of_le_of_lt (Nat.mod_le a b) h)]
def DivIs (hi lo y : Nat) (w : World) (e : Ending) (w' : World) : Prop :=
  ∃ q r : Nat, q = (hi * 18446744073709551616 + lo) / y ∧ r = (hi * 18446744073709551616 + lo) % y ∧ e = .returned (.tuple #[.int .u64 (q : Int), .int .u64 (r : Int)]) ∧ Below w.heap.size w w'
set_option maxRecDepth 100000 in
set_option maxHeartbeats 4000000 in
theorem div64_any (hi lo y : Nat) (hlo : lo < 18446744073709551616) (hy : y < 18446744073709551616) (h : hi < y) (w : World) :
    Calls Tryz.prog 50 #[.int .u64 (hi : Int), .int .u64 (lo : Int), .int .u64 (y : Int)] w (DivIs hi lo y w) := by
  by_cases h0 : hi = 0
  · subst h0
    have HD : Hid (∀ w', Below w.heap.size w w' → DivIs 0 lo y w (.returned (.tuple #[.int .u64 (IntKind.u64.wrap ((lo : Int).tdiv (y : Int))), .int .u64 ((lo : Int) % (y : Int))])) w') := Lib.hid (fun w' hb => ⟨lo / y, lo % y, by simp, by simp, by rw [wrap_tdiv lo y hlo, ← Int.natCast_emod], hb⟩)
    obtain ⟨LO, hLO⟩ : ∃ LO : Int, (lo : Int) = LO := ⟨_, rfl⟩
    obtain ⟨Y, hY⟩ : ∃ Y : Int, (y : Int) = Y := ⟨_, rfl⟩
    have hY0 : (Y == 0) = false := by simp; omega
    have hYH : ¬ Y ≤ 0 := by omega
    have hL0 : 0 ≤ LO := by omega
    rw [hLO, hY] at HD ⊢
    clear hLO hY hlo hy h
    go_enter Tryz.func50, Tryz.ntmps50
    go_wp2
    go_quiet (fail)
    go_wp2
    go_ret2
    exact HD.out _ (below_drewN (Below.refl _ _) nq)
  · obtain ⟨s, yn, u, v, eS, hsh, eY, eU, eV⟩ := div_pre hi lo y hlo hy h
    have h1 := hsh.ylt; have h2 := hsh.yge; have h3 := hsh.ult; have h4 := hsh.vlt
    obtain ⟨HI, hHI⟩ : ∃ HI : Int, (hi : Int) = HI := ⟨_, rfl⟩
    obtain ⟨LO, hLO⟩ : ∃ LO : Int, (lo : Int) = LO := ⟨_, rfl⟩
    obtain ⟨Y, hY⟩ : ∃ Y : Int, (y : Int) = Y := ⟨_, rfl⟩
    have hY0 : (Y == 0) = false := by simp; omega
    have hYH : ¬ Y ≤ HI := by omega
    have hH0 : (HI == 0) = false := by simp; omega
    have hLe := Lib.hid (Tryz.bits_LeadingZeros64 Y w (by omega) (by omega))
    have hYn : Y.toNat = y := by omega
    rw [hYn, eS] at hLe
    obtain ⟨YS, hYS⟩ : ∃ YS : Int, (yn : Int) = YS := ⟨_, rfl⟩
    obtain ⟨U, hU⟩ : ∃ U : Int, (u : Int) = U := ⟨_, rfl⟩
    obtain ⟨V, hV⟩ : ∃ V : Int, (v : Int) = V := ⟨_, rfl⟩
    obtain ⟨Y1, hY1⟩ : ∃ Y1 : Int, ((yn / 4294967296 : Nat) : Int) = Y1 := ⟨_, rfl⟩
    obtain ⟨Y0, hY00⟩ : ∃ Y0 : Int, ((yn % 4294967296 : Nat) : Int) = Y0 := ⟨_, rfl⟩
    obtain ⟨V1, hV1⟩ : ∃ V1 : Int, ((v / 4294967296 : Nat) : Int) = V1 := ⟨_, rfl⟩
    obtain ⟨V0, hV0⟩ : ∃ V0 : Int, ((v % 4294967296 : Nat) : Int) = V0 := ⟨_, rfl⟩
    have eY1 : YS / 4294967296 = Y1 := by omega
    have eY0 : bits .and .u64 YS 4294967295 = Y0 := by rw [← hYS, mask32 yn h1, hY00]
    have eV1 : V / 4294967296 = V1 := by omega
    have eV0 : bits .and .u64 V 4294967295 = V0 := by rw [← hV, mask32 v h4, hV0]
    have hY1z : ¬ Y1 = 0 := by omega
    have hs0 : (0 : Int) ≤ (s : Int) := by omega
    have hs1 : (s : Int) ≤ 63 := by have := hsh.s63; omega
    obtain ⟨S, hS⟩ : ∃ S : Int, (s : Int) = S := ⟨_, rfl⟩
    have eS2 : s = S.toNat := by omega
    rw [hHI] at eU
    rw [hLO] at eU eV
    rw [hY] at eY
    rw [hHI, hLO, hY]
    rw [hS] at hLe hs0 hs1 eU
    rw [eS2, hYS] at eY
    rw [eS2, hU] at eU
    rw [eS2, hV] at eV
    have HQ := dz_init (u := u) (v := v / 4294967296) (n := yn) h2 h1 (by omega) h3
    rw [hU, hY1] at HQ
    obtain ⟨K0, hK0'⟩ : ∃ K0, U / Y1 = K0 := ⟨_, rfl⟩
    have hK0 : IntKind.u64.wrap (U.tdiv Y1) = K0 := by rw [← hU, ← hY1, wrap_tdiv _ _ (by omega), ← hK0', ← hU, ← hY1, Int.natCast_ediv]
    rw [hK0'] at HQ
    clear hK0'
    obtain ⟨R0, hR0⟩ : ∃ R0, IntKind.u64.wrap (U - IntKind.u64.wrap (K0 * Y1)) = R0 := ⟨_, rfl⟩
    rw [hR0] at HQ
    have HQ := Lib.hid HQ
    obtain ⟨q1, hq1⟩ : ∃ q1, (u * 4294967296 + v / 4294967296) / yn = q1 := ⟨_, rfl⟩
    obtain ⟨r1, hr1⟩ : ∃ r1, (u * 4294967296 + v / 4294967296) % yn = r1 := ⟨_, rfl⟩
    obtain ⟨Q1, hQ1⟩ : ∃ Q1 : Int, (q1 : Int) = Q1 := ⟨_, rfl⟩
    have HS1 : Hid (∀ K R : Int, DZ u (v / 4294967296) yn K R → (4294967296 ≤ K ∨ ¬ 4294967296 ≤ K ∧ DT K R Y0 V1) → ∃ K1 R1 : Int, IntKind.u64.wrap (K - 1) = K1 ∧ IntKind.u64.wrap (R + Y1) = R1 ∧ K1.toNat < K.toNat ∧
        (4294967296 ≤ R1 ∧ K1 = Q1 ∨ ¬ 4294967296 ≤ R1 ∧ DZ u (v / 4294967296) yn K1 R1)) := Lib.hid (fun K R hz ht => by
      have := dz_step h2 h1 (by omega) h3 hz (by rw [hY00, hV1]; exact ht)
      rw [hY1, hq1, hQ1] at this
      exact this)
    have HD1 : Hid (∀ K R : Int, DZ u (v / 4294967296) yn K R → ¬ 4294967296 ≤ K → ¬ DT K R Y0 V1 → K = Q1) := Lib.hid (fun K R hz h5 h6 => by
      have := dz_done h2 h1 (by omega) h3 hz h5 (by rw [hY00, hV1]; exact h6)
      rw [hq1, hQ1] at this
      exact this)
    -- the second digit
    have h5 : r1 < yn := by rw [← hr1]; exact Nat.mod_lt _ (by omega)
    obtain ⟨U2, hU2⟩ : ∃ U2 : Int, (r1 : Int) = U2 := ⟨_, rfl⟩
    have eU2 : IntKind.u64.wrap (IntKind.u64.wrap (IntKind.u64.wrap (U * 4294967296) + V1) - IntKind.u64.wrap (Q1 * YS)) = U2 := by
      have := rest_eq (u := u) (v := v / 4294967296) (n := yn) (by omega) h1
      rw [hq1, hr1, hU, hV1, hQ1, hYS, hU2] at this
      exact this
    have HQ2 := dz_init (u := r1) (v := v % 4294967296) (n := yn) h2 h1 (by omega) h5
    rw [hU2, hY1] at HQ2
    obtain ⟨K2, hK2'⟩ : ∃ K2, U2 / Y1 = K2 := ⟨_, rfl⟩
    have hK2 : IntKind.u64.wrap (U2.tdiv Y1) = K2 := by rw [← hU2, ← hY1, wrap_tdiv _ _ (by omega), ← hK2', ← hU2, ← hY1, Int.natCast_ediv]
    rw [hK2'] at HQ2
    clear hK2'
    obtain ⟨R2, hR2⟩ : ∃ R2, IntKind.u64.wrap (U2 - IntKind.u64.wrap (K2 * Y1)) = R2 := ⟨_, rfl⟩
    rw [hR2] at HQ2
    have HQ2 := Lib.hid HQ2
    obtain ⟨q2, hq2⟩ : ∃ q2, (r1 * 4294967296 + v % 4294967296) / yn = q2 := ⟨_, rfl⟩
    obtain ⟨rm, hrm⟩ : ∃ rm, (r1 * 4294967296 + v % 4294967296) % yn = rm := ⟨_, rfl⟩
    obtain ⟨Q2, hQ2⟩ : ∃ Q2 : Int, (q2 : Int) = Q2 := ⟨_, rfl⟩
    have HS2 : Hid (∀ K R : Int, DZ r1 (v % 4294967296) yn K R → (4294967296 ≤ K ∨ K < 4294967296 ∧ DT K R Y0 V0) → ∃ K1 R1 : Int, IntKind.u64.wrap (K - 1) = K1 ∧ IntKind.u64.wrap (R + Y1) = R1 ∧ K1.toNat < K.toNat ∧
        (4294967296 ≤ R1 ∧ K1 = Q2 ∨ R1 < 4294967296 ∧ DZ r1 (v % 4294967296) yn K1 R1)) := Lib.hid (fun K R hz ht => by
      have := dz_step h2 h1 (by omega) h5 hz (by rw [hY00, hV0]; exact ht.imp id (fun h => ⟨Int.not_le.2 h.1, h.2⟩))
      rw [hY1, hq2, hQ2] at this
      obtain ⟨K1, R1, e1, e2, e3, e4⟩ := this
      exact ⟨K1, R1, e1, e2, e3, e4.imp id (fun h => ⟨Int.not_le.1 h.1, h.2⟩)⟩)
    have HD2 : Hid (∀ K R : Int, DZ r1 (v % 4294967296) yn K R → K < 4294967296 → ¬ DT K R Y0 V0 → K = Q2) := Lib.hid (fun K R hz h8 h6 => by
      have := dz_done h2 h1 (by omega) h5 hz (Int.not_le.2 h8) (by rw [hY00, hV0]; exact h6)
      rw [hq2, hQ2] at this
      exact this)
    obtain ⟨RM, hRM⟩ : ∃ RM : Int, (rm : Int) = RM := ⟨_, rfl⟩
    have eRM : IntKind.u64.wrap (IntKind.u64.wrap (IntKind.u64.wrap (U2 * 4294967296) + V0) - IntKind.u64.wrap (Q2 * YS)) = RM := by
      have := rest_eq (u := r1) (v := v % 4294967296) (n := yn) (by omega) h1
      rw [hq2, hrm, hU2, hV0, hQ2, hYS, hRM] at this
      exact this
    have hq1b : q1 < 4294967296 := by
      rw [← hq1, Nat.div_lt_iff_lt_mul (by omega)]; omega
    have hq2b : q2 < 4294967296 := by
      rw [← hq2, Nat.div_lt_iff_lt_mul (by omega)]; omega
    obtain ⟨QQ, hQQ⟩ : ∃ QQ : Int, ((q1 * 4294967296 + q2 : Nat) : Int) = QQ := ⟨_, rfl⟩
    have eQQ : IntKind.u64.wrap (IntKind.u64.wrap (Q1 * 4294967296) + Q2) = QQ := by
      rw [← hQ1, ← hQ2, ← hQQ]
      have e : (q1 : Int) * 4294967296 = ((q1 * 4294967296 : Nat) : Int) := by rw [Int.natCast_mul]; rfl
      rw [e, wrapu64 _ (by omega), ← Int.natCast_add, wrapu64 _ (by omega)]
    have HFin : Hid (∀ w', Below w.heap.size w w' → DivIs hi lo y w (.returned (.tuple #[.int .u64 QQ, .int .u64 (RM / 2 ^ S.toNat)])) w') := Lib.hid (fun w' hb => by
      have g1 : u * 4294967296 + v / 4294967296 = q1 * yn + r1 := by have := Nat.div_add_mod (u * 4294967296 + v / 4294967296) yn; rw [hq1, hr1, Nat.mul_comm yn q1] at this; exact this.symm
      have g0 : r1 * 4294967296 + v % 4294967296 = q2 * yn + rm := by have := Nat.div_add_mod (r1 * 4294967296 + v % 4294967296) yn; rw [hq2, hrm, Nat.mul_comm yn q2] at this; exact this.symm
      have g2 := two_digits 4294967296 yn (v / 4294967296) (v % 4294967296) q1 r1 q2 rm u g1 g0
      have g3 : (hi * 18446744073709551616 + lo) * 2 ^ s = (q1 * 4294967296 + q2) * (y * 2 ^ s) + rm := by
        rw [hsh.num, ← hsh.ey, ← g2, join_eq]
      have hrmlt : rm < yn := by rw [← hrm]; exact Nat.mod_lt _ (by omega)
      obtain ⟨g4, g5⟩ := div_shift (Nat.two_pow_pos s) (by omega) g3 (by rw [← hsh.ey]; exact hrmlt)
      refine ⟨_, _, g4.symm, g5.symm, ?_, hb⟩
      have e2 : ((2 : Int) ^ S.toNat) = ((2 ^ s : Nat) : Int) := by rw [← eS2, Int.natCast_pow]; rfl
      rw [← hQQ, e2, ← hRM, Int.natCast_ediv])
    clear h1 h2 h3 h4 h5 hq1b hq2b hlo hy h hYn eS eS2 hS
    go_enter Tryz.func50, Tryz.ntmps50
    go_wp2_with fail
    refine hLe.out.mono ?_
    rintro e w1 ⟨rfl, rfl⟩
    go_upto_block 0 with fail
    go_cut [15, 16] from 67 to 85 (fun k r wc => k = .int .u64 Q1 ∧ (∃ R' : Int, r = .int .u64 R') ∧ wc = w1)
    case first =>
      go_wp2_with fail
      go_loop [15, 16] (fun k r => ∃ K R : Int, k = .int .u64 K ∧ r = .int .u64 R ∧ Hid (DZ u (v / 4294967296) yn K R)) (fun k _ => (intOf k).toNat)
      case atStart => exact ⟨K0, R0, rfl, rfl, HQ⟩
      case round =>
        obtain ⟨K, R, rfl, rfl, hz⟩ := hrel
        by_cases hk : (4294967296 : Int) ≤ K
        · obtain ⟨K1, R1, eK1, eR1, hlt, hfin⟩ := HS1.out K R hz.out (.inl hk)
          rcases hfin with ⟨hR1, rfl⟩ | ⟨hR1, hz1⟩
          · clear hz
            go_wp2_with fail
            go_meet
            case rel => exact ⟨rfl, ⟨_, rfl⟩, rfl⟩
          · have Hz1 := Lib.hid hz1
            clear hz hz1
            go_wp2_with fail
            go_round
            case rel => exact ⟨K1, R1, rfl, rfl, Hz1⟩
            case measure => simpa [intOf] using hlt
        · by_cases hT : IntKind.u64.wrap (IntKind.u64.wrap (4294967296 * R) + V1) < IntKind.u64.wrap (K * Y0)
          · obtain ⟨K1, R1, eK1, eR1, hlt, hfin⟩ := HS1.out K R hz.out (.inr ⟨Int.not_le.1 hk, hT⟩)
            rcases hfin with ⟨hR1, rfl⟩ | ⟨hR1, hz1⟩
            · clear hz
              go_wp2_with fail
              go_meet
              case rel => exact ⟨rfl, ⟨_, rfl⟩, rfl⟩
            · have Hz1 := Lib.hid hz1
              clear hz hz1
              go_wp2_with fail
              go_round
              case rel => exact ⟨K1, R1, rfl, rfl, Hz1⟩
              case measure => simpa [intOf] using hlt
          · obtain rfl := HD1.out K R hz.out (Int.not_le.1 hk) hT
            clear hz
            go_wp2_with fail
            go_meet
            case rel => exact ⟨rfl, ⟨_, rfl⟩, rfl⟩
    case rest =>
      obtain ⟨rfl, ⟨R', rfl⟩, rfl⟩ := hcut
      clear HS1 HD1 HQ
      go_upto_block 2 with fail
      go_cut [18, 16] from 102 to 120 (fun k r wz => k = .int .u64 Q2 ∧ (∃ R' : Int, r = .int .u64 R') ∧ wz = wc)
      case first =>
        go_wp2_with fail
        go_loop [18, 16] (fun k r => ∃ K R : Int, k = .int .u64 K ∧ r = .int .u64 R ∧ Hid (DZ r1 (v % 4294967296) yn K R)) (fun k _ => (intOf k).toNat)
        case atStart => exact ⟨K2, R2, rfl, rfl, HQ2⟩
        case round =>
          obtain ⟨K, R, rfl, rfl, hz⟩ := hrel
          by_cases hk : (4294967296 : Int) ≤ K
          · obtain ⟨K1, R1, eK1, eR1, hlt, hfin⟩ := HS2.out K R hz.out (.inl hk)
            rcases hfin with ⟨hR1, rfl⟩ | ⟨hR1, hz1⟩
            · clear hz
              go_wp2_with fail
              go_meet
              case rel => exact ⟨rfl, ⟨_, rfl⟩, rfl⟩
            · have Hz1 := Lib.hid hz1
              clear hz hz1
              go_wp2_with fail
              go_round
              case rel => exact ⟨K1, R1, rfl, rfl, Hz1⟩
              case measure => simpa [intOf] using hlt
          · by_cases hT : IntKind.u64.wrap (IntKind.u64.wrap (4294967296 * R) + V0) < IntKind.u64.wrap (K * Y0)
            · obtain ⟨K1, R1, eK1, eR1, hlt, hfin⟩ := HS2.out K R hz.out (.inr ⟨Int.not_le.1 hk, hT⟩)
              rcases hfin with ⟨hR1, rfl⟩ | ⟨hR1, hz1⟩
              · clear hz
                go_wp2_with fail
                go_meet
                case rel => exact ⟨rfl, ⟨_, rfl⟩, rfl⟩
              · have Hz1 := Lib.hid hz1
                clear hz hz1
                go_wp2_with fail
                go_round
                case rel => exact ⟨K1, R1, rfl, rfl, Hz1⟩
                case measure => simpa [intOf] using hlt
            · obtain rfl := HD2.out K R hz.out (Int.not_le.1 hk) hT
              clear hz
              go_wp2_with fail
              go_meet
              case rel => exact ⟨rfl, ⟨_, rfl⟩, rfl⟩
      case rest =>
        obtain ⟨rfl, ⟨R'', rfl⟩, rfl⟩ := hcut
        clear HS2 HD2 HQ2
        go_wp2_with fail
        go_ret2
        exact HFin.out _ (Below.refl _ _)
end Go.Proofs.YtckglpkafhmehaaGreatDoor
namespace Go.Proofs.YtckglpkafhmehaaGreatDoor
open Go.RowKit Go.Shelf
set_option linter.unusedVariables false
theorem grown_below {B : Nat} {W W' : World} (h : Below B W W') (hB : W.heap.size ≤ B) : W.grownBy W' none := ⟨h.os, h.tape, h.output, h.size, fun i hi _ => h.block i (by omega)⟩
/-- The block g is just the cells cs. -/
def Blk (W : World) (g : Nat) (t : TypeId) (cs : Array Value) : Prop := W.heap[g]? = some (.cells cs t (0, 0))
section
variable {w w' : World} {g : Nat} {t : TypeId} {cs : Array Value}
theorem Blk.lt (h : Blk w g t cs) : g < w.heap.size := (Array.getElem?_eq_some_iff.1 h).1
theorem Blk.cell (h : Blk w g t cs) (i : Nat) : w.cell? ⟨g, i, none⟩ = cs[i]? := cell_of_row w g i cs t (0, 0) h
theorem Blk.frozen (h : Blk w g t cs) (i : Nat) : w.frozen? ⟨g, i, none⟩ = false := by
  unfold Blk at h
  simp [World.frozen?, h]
theorem Blk.new (w : World) (t : TypeId) (cs : Array Value) : Blk (w.alloc (.cells cs t)) w.heap.size t cs := World.alloc_heap_new w _
theorem Blk.kept {row : Option Nat} (h : Blk w g t cs) (hb : w.grownBy w' row) (hg : some g ≠ row) : Blk w' g t cs := (hb.block g h.lt hg).trans h
theorem Blk.alloc (h : Blk w g t cs) (o : Obj) : Blk (w.alloc o) g t cs := h.kept (World.grownBy_alloc w o none) (by simp)
theorem Blk.far (h : Blk w g t cs) {p : Addr} (hp : g ≠ p.block) (u : Value) : Blk (w.setCell p u) g t cs := (Below.heap_setCell w p u g hp).trans h
theorem Blk.set_ (h : Blk w g t cs) (i : Nat) (u : Value) : Blk (w.setCell ⟨g, i, none⟩ u) g t (cs.setIfInBounds i u) := by
  unfold Blk at h ⊢
  simp [World.setCell, Array.getElem?_modify, h]
theorem Blk.below {B : Nat} (h : Blk w g t cs) (hb : Below B w w') (hg : g < B) : Blk w' g t cs := (hb.block g hg).trans h
end
theorem own_set {W : World} {b : Nat} {e : TypeId} {z : Nat} {v : Value} {n : Nat} {xs : List Value} (h : W.ownsRow b e z v n xs) {g : Nat} {t : TypeId} {cs : Array Value} (hg : Blk W g t cs) (hte : t ≠ e) (i : Nat) (u : Value) : (W.setCell ⟨g, i, none⟩ u).ownsRow b e z v n xs := by
  have hgr : W.grownBy (W.setCell ⟨g, i, none⟩ u) (some g) := ⟨rfl, rfl, rfl, by simp, fun k _ hk => Below.heap_setCell _ _ _ k (fun e => hk (by rw [e]))⟩
  refine h.kept hgr ?_
  rcases h.2 with ⟨rfl, _⟩ | ⟨g', cap, cur, rfl, _, hgb, _⟩
  · exact .inl rfl
  · refine .inr fun e' => ?_
    obtain rfl : g' = g := by simpa [Value.ownBlock] using e'
    have := (show W.heap[g']? = _ from hg).symm.trans hgb
    simp at this
    exact hte this.2
theorem add_block (a : Addr) (i : Nat) : (a.add i).block = a.block := by unfold Addr.add; split <;> rfl
/-- The row at a holds the words us. -/
def UR (w : World) (a : Option Addr) (us : List Nat) : Prop := ∀ i, i < us.length → ∃ ad, a = some ad ∧ ad.block < w.heap.size ∧ w.cell? (ad.add i) = some (.int .u64 ((us.getD i 0 : Nat) : Int))
theorem UR.below {w w' : World} {a : Option Addr} {us : List Nat} {B : Nat} (h : UR w a us) (hb : Below B w w') (hB : w.heap.size ≤ B) : UR w' a us := by
  intro i hi
  obtain ⟨ad, rfl, hlt, hc⟩ := h i hi
  exact ⟨ad, rfl, Nat.lt_of_lt_of_le hlt hb.size, (hb.cell (by rw [add_block]; omega)).trans hc⟩
theorem UR.take {w : World} {a : Option Addr} {us : List Nat} (h : UR w a us) (m : Nat) : UR w a (us.take m) := by
  intro i hi
  rw [List.length_take] at hi
  obtain ⟨ad, ha, hlt, hc⟩ := h i (by omega)
  refine ⟨ad, ha, hlt, ?_⟩
  rw [hc, List.getD_eq_getElem?_getD, List.getD_eq_getElem?_getD, List.getElem?_take, if_pos (by omega)]
/-- The number that words are, the lowest first. -/
def wv : List Nat → Nat
  | [] => 0
  | x :: r => x + 18446744073709551616 * wv r
def Wrd (us : List Nat) : Prop := ∀ u ∈ us, u < 18446744073709551616
theorem wv_append (a b : List Nat) : wv (a ++ b) = wv a + 18446744073709551616 ^ a.length * wv b := by
  induction a with
  | nil => simp [wv]
  | cons x r ih => simp only [List.cons_append, wv, ih, List.length_cons, Nat.pow_succ]; rw [Nat.mul_add, ← Nat.mul_assoc, Nat.mul_comm (18446744073709551616 ^ r.length)]; omega
theorem take_succ_getD (us : List Nat) (k : Nat) (h : k < us.length) : us.take (k + 1) = us.take k ++ [us.getD k 0] := by
  rw [List.take_add_one, List.getD_eq_getElem?_getD, List.getElem?_eq_getElem h]; rfl
/-- How many words are left without the noughts behind them. -/
def tlen (us : List Nat) : Nat → Nat
  | 0 => 0
  | k + 1 => if us.getD k 0 = 0 then tlen us k else k + 1
theorem tlen_le (us : List Nat) : ∀ n, tlen us n ≤ n := by
  intro n; induction n with
  | zero => exact Nat.le_refl _
  | succ n ih => unfold tlen; split <;> omega
theorem tlen_wv (us : List Nat) : ∀ n, n ≤ us.length → wv (us.take (tlen us n)) = wv (us.take n) := by
  intro n; induction n with
  | zero => intro _; rfl
  | succ n ih =>
    intro h
    unfold tlen
    split
    · rename_i h0
      rw [ih (by omega), take_succ_getD us n (by omega), wv_append, h0]
      simp [wv]
    · rfl
theorem tlen_last (us : List Nat) : ∀ n, 0 < tlen us n → us.getD (tlen us n - 1) 0 ≠ 0 := by
  intro n; induction n with
  | zero => intro h; simp [tlen] at h
  | succ n ih =>
    unfold tlen
    split
    · exact ih
    · rename_i h0; intro _; simpa using h0
set_option maxRecDepth 100000 in
theorem cut_w (a : Option Addr) (n m cap : Nat) (h1 : m ≤ n) (h2 : n ≤ cap) (wx : World) : (Instr.slice 29 (.slice a n cap) none (some (.int .i64 (m : Int))) none).run Tryz.prog wx = .ok (.slice a m cap) wx := by
  refine (run_slice_h (P := Tryz.prog) (w := wx) 29 a n cap (by kernel_rfl) .i64 (m : Int) (by omega) (by omega)).trans ?_
  have hs : (sizeOf (Tryz.prog.elem 29)).run Tryz.prog wx = .ok 1 wx := by kernel_rfl
  rw [hs]
  simp only [Result.andThen, sliced, Nat.zero_mul, Nat.sub_zero, Int.toNat_natCast]
  congr 1
  split
  · rfl
  · cases a <;> rfl
/-- A number's one field. -/
def trimV (a : Option Addr) (c : Nat) (m : Nat) : Value := if m = 0 then .slice none 0 0 else .slice a m c
def natT : TypeId := 31
theorem res_nat {fn : Func} {p : Tmp} (h : fn.results = #[.cell p 31]) (tmps : Array Value) (w : World) (g : Nat) (v : Value) (hp : tmps.getD p undef = .pointer (some ⟨g, 0, none⟩)) (hg : Blk w g 31 #[v]) :
    (results fn tmps).run Tryz.prog w = .ok (.agg #[v]) w := results_cell_row h tmps w g 31 #[v] (0, 0) _ hp hg Tryz.underlying31 (by kernel_rfl) (by kernel_rfl)
def TrimIs (a : Option Addr) (c : Nat) (us : List Nat) (w : World) (e : Ending) (w' : World) : Prop :=
  e = .returned (.agg #[trimV a c (tlen us us.length)]) ∧ Below w.heap.size w w'
set_option maxRecDepth 100000 in
set_option maxHeartbeats 1000000 in
theorem trim_any (a : Option Addr) (c : Nat) (us : List Nat) (w : World) (hu : UR w a us) (hl : us.length ≤ 1000000) (hc : us.length ≤ c) :
    Calls Tryz.prog 51 #[.slice a us.length c] w (TrimIs a c us w) := by
  have HU := Lib.hid hu
  obtain ⟨n, hn⟩ : ∃ n, us.length = n := ⟨_, rfl⟩
  have HF : Hid (∀ w', Below w.heap.size w w' → TrimIs a c us w (.returned (.agg #[trimV a c (tlen us n)])) w') := Lib.hid (fun w' hb => by rw [← hn]; exact ⟨rfl, hb⟩)
  have Hn := Lib.hid hn
  rw [hn] at hl hc ⊢
  clear hu hn
  obtain ⟨W1, hW1⟩ : ∃ W1, w.alloc (.cells #[.slice none 0 0] 31) = W1 := ⟨_, rfl⟩
  have hk : Blk W1 w.heap.size 31 #[.slice none 0 0] := by rw [← hW1]; exact Blk.new w _ _
  have HB : Hid (Below w.heap.size w W1) := Lib.hid (by rw [← hW1]; exact (Below.refl _ _).alloc (Nat.le_refl _) _)
  have hk0 := hk.cell 0; have hkf := hk.frozen 0
  simp only [List.getElem?_toArray, List.getElem?_cons_zero] at hk0
  have HK := Lib.hid hk
  clear hk
  go_enter Tryz.func51, Tryz.ntmps51
  go_wp2_with fail
  clear hW1
  go_loop [3] (fun i => ∃ k : Nat, k ≤ n ∧ i = .int .i64 (k : Int) ∧ Hid (tlen us k = tlen us n)) (fun i => (intOf i).toNat)
  case atStart => exact ⟨n, by omega, rfl, Lib.hid rfl⟩
  case round =>
    obtain ⟨k, hkn, rfl, ht⟩ := hrel
    cases k with
    | zero =>
      have ht0 : Hid (tlen us n = 0) := Lib.hid (by rw [← ht.out]; rfl)
      go_wp2_with fail
      refine bodyPost_ret (res_nat rfl _ _ w.heap.size (.slice none 0 0) rfl (HK.out.set_ 0 _)) rfl ?_
      have := HF.out _ (HB.out.setCell (p := ⟨w.heap.size, 0, none⟩) (Nat.le_refl _) (.slice none 0 0))
      rw [ht0.out] at this
      exact this
    | succ k =>
      obtain ⟨ad, rfl, hadl, hcl⟩ := HU.out k (by rw [Hn.out]; omega)
      obtain ⟨x, hx⟩ : ∃ x : Int, ((us.getD k 0 : Nat) : Int) = x := ⟨_, rfl⟩
      rw [hx] at hcl
      have hcl1 : W1.cell? (ad.add k) = some (.int .u64 x) := (HB.out.cell (by rw [add_block]; exact hadl)).trans hcl
      have hk0i : (0 : Int) < ((k + 1 : Nat) : Int) := by omega
      have hki : ((k + 1 : Nat) : Int) - 1 = (k : Int) := by omega
      obtain ⟨z, hz⟩ : ∃ z : Int, ((k + 1 : Nat) : Int) = z := ⟨_, rfl⟩
      rw [hz] at hk0i hki ⊢
      have hz1 : z - 1 < (n : Int) := by omega
      by_cases hx0 : us.getD k 0 = 0
      · have hx1 : x = 0 := by omega
        subst hx1
        have ht1 : Hid (tlen us k = tlen us n) := Lib.hid (by rw [← ht.out]; simp only [tlen]; rw [if_pos hx0])
        go_wp2_with fail
        go_round
        case rel => exact ⟨k, by omega, by go_num, ht1⟩
        case measure => simp [intOf]; omega
      · have hx1 : (x == 0) = false := by simp; omega
        have ht1 : Hid (tlen us n = k + 1) := Lib.hid (by rw [← ht.out]; simp only [tlen]; rw [if_neg hx0])
        have hsl : ∀ wx, (Instr.slice 29 (.slice (some ad) n c) none (some (.int .i64 z)) none).run Tryz.prog wx = .ok (.slice (some ad) (k + 1) c) wx := fun wx => by rw [← hz]; exact cut_w (some ad) n (k + 1) c hkn hc wx
        have hz0 : ¬ z = 0 := by omega
        go_wp2_with fail
        refine bodyPost_ret (res_nat rfl _ _ w.heap.size (.slice (some ad) (k + 1) c) rfl (HK.out.set_ 0 _)) rfl ?_
        have := HF.out _ (HB.out.setCell (p := ⟨w.heap.size, 0, none⟩) (Nat.le_refl _) (.slice (some ad) (k + 1) c))
        rw [ht1.out] at this
        exact this
end Go.Proofs.YtckglpkafhmehaaGreatDoor
namespace Go.Proofs.YtckglpkafhmehaaGreatDoor
open Go.RowKit
set_option linter.unusedVariables false
theorem run_add64c (x y c : Nat) (hc : c ≤ 1) (w : World) :
    (callFunc 66 #[.int .u64 (x : Int), .int .u64 (y : Int), .int .u64 (c : Int)]).run Tryz.prog w =
      .ok (.value (.tuple #[.int .u64 (((x + y + c) % 18446744073709551616 : Nat) : Int), .int .u64 (((x + y + c) / 18446744073709551616 : Nat) : Int)])) w := by
  rw [run_callFunc_extern Tryz.func66 (by kernel_rfl) (by kernel_rfl) (by kernel_rfl) (e := add64Entry) (by kernel_rfl), run_add64 x y c (by omega) (by omega) (by omega) (by omega)]
  simp only [Result.andThen]
  congr 5 <;> omega
def uv (u : Nat) : Value := .int .u64 (u : Int)
theorem Tryz.infoU : (Tryz.prog.info? 60).map (fun i => (i.zero, i.size, i.bytes)) = some (some (.int .u64 0), 1, 8) := by kernel_rfl
theorem uv_one (us : List Nat) : ∀ v ∈ us.map uv, v.oneCell' = true := by
  intro v hv
  obtain ⟨u, _, rfl⟩ := List.mem_map.1 hv
  rfl
/-- A row of the call's own: words. -/
def OU (B : Nat) (w : World) (v : Value) (us : List Nat) : Prop := w.ownsRow B 60 1 v us.length (us.map uv)
theorem ou_form {B : Nat} {w : World} {v : Value} {us : List Nat} (h : OU B w v us) : ∃ a c, v = .slice a us.length c ∧ us.length ≤ c ∧ (us = [] ∨ ∃ g, a = some ⟨g, 0, none⟩) := by
  rcases h.2 with ⟨rfl, h0⟩ | ⟨g, cap, cur, rfl, _, _, hnc, _⟩
  · exact ⟨none, 0, by rw [h0], by omega, .inl (List.eq_nil_of_length_eq_zero h0)⟩
  · exact ⟨_, _, rfl, hnc, .inr ⟨g, rfl⟩⟩
theorem add_zero_off (g k : Nat) : (⟨g, 0, none⟩ : Addr).add k = ⟨g, k, none⟩ := by cases k with
  | zero => rfl
  | succ k => simp [Addr.add]
theorem ou_cell {B : Nat} {w : World} {g n c : Nat} {us : List Nat} (h : w.ownsRow B 60 1 (.slice (some ⟨g, 0, none⟩) n c) n (us.map uv)) (i : Nat) (hi : i < us.length) :
    w.cell? ((⟨g, 0, none⟩ : Addr).add i) = some (.int .u64 ((us.getD i 0 : Nat) : Int)) := by
  rcases h.2 with ⟨hv, _⟩ | ⟨g', cap', cur, hv, hbg, hg, hnc, _, hsz, htk⟩
  · cases hv
  · cases hv
    have hl : us.length = n := by have := h.1; rw [List.length_map] at this; omega
    have e2 : (⟨g, 0, none⟩ : Addr).add i = ⟨g, i, none⟩ := by unfold Addr.add; split <;> simp_all
    have hu : (us.map uv)[i]? = some (.int .u64 ((us.getD i 0 : Nat) : Int)) := by rw [List.getElem?_map, List.getElem?_eq_getElem hi, List.getD_eq_getElem?_getD, List.getElem?_eq_getElem hi]; rfl
    rw [← htk, List.getElem?_take, if_pos (by omega)] at hu
    rw [e2, cell_of_row w g i cur 60 (0, 0) hg, ← Array.getElem?_toList]
    exact hu
theorem ou_ur {B : Nat} {w : World} {v : Value} {us : List Nat} (h : OU B w v us) : ∃ a c, v = .slice a us.length c ∧ us.length ≤ c ∧ UR w a us := by
  obtain ⟨a, c, rfl, hc, ha⟩ := ou_form h
  refine ⟨a, c, rfl, hc, fun i hi => ?_⟩
  rcases ha with rfl | ⟨g, rfl⟩
  · simp at hi
  · have := ou_cell h i hi
    exact ⟨_, rfl, by rw [← add_block ⟨g, 0, none⟩ i]; exact World.block_lt_of_cell? w _ this, this⟩
/-- A word of a row is written. -/
theorem ou_set {B : Nat} {w : World} {g n c : Nat} {us : List Nat} (h : w.ownsRow B 60 1 (.slice (some ⟨g, 0, none⟩) n c) n (us.map uv)) (i x : Nat) (hi : i < n) :
    (w.setCell ⟨g, i, none⟩ (.int .u64 (x : Int))).ownsRow B 60 1 (.slice (some ⟨g, 0, none⟩) n c) n ((us.set i x).map uv) := by
  rcases h.2 with ⟨hv, _⟩ | ⟨g', cap', cur, hv, hbg, hg, hnc, hm, hsz, htk⟩
  · cases hv
  · cases hv
    refine ⟨by rw [List.length_map, List.length_set]; have := h.1; rwa [List.length_map] at this, .inr ⟨g, c, cur.setIfInBounds i (.int .u64 (x : Int)), rfl, hbg, ?_, hnc, hm, by rw [Array.size_setIfInBounds]; exact hsz, ?_⟩⟩
    · simp [World.setCell, Array.getElem?_modify, hg]
    · rw [Array.toList_setIfInBounds, List.take_set, htk, List.map_set]
      rfl
theorem ou_block {B : Nat} {w : World} {g n c : Nat} {us : List Nat} (h : w.ownsRow B 60 1 (.slice (some ⟨g, 0, none⟩) n c) n (us.map uv)) : B ≤ g ∧ g < w.heap.size ∧ ∀ i, i < n → w.frozen? ⟨g, i, none⟩ = false := by
  rcases h.2 with ⟨hv, _⟩ | ⟨g', cap', cur, hv, hbg, hg, _⟩
  · cases hv
  · cases hv
    exact ⟨hbg, (Array.getElem?_eq_some_iff.1 hg).1, fun i _ => Blk.frozen (cs := cur) hg i⟩
theorem push_u {ops : Array Oper} {rest : List Oper} {o : Oper} {a : Act} {Q : Exit → Act → World → Prop} (hgd : o.guard = none) (s x : Operand)
    (ho : o.op = .call { callee := .builtin .append, args := #[s, x], argTypes := #[29, 29] }) (B : Nat) (W : World) (v : Value) (us : List Nat) (u : Nat)
    (hs : a.eval s = v) (hown : OU B W v us) (hB : B ≤ W.heap.size) (g : Nat) (hgW : W.heap.size = g) (hx : a.eval x = .slice (some ⟨g, 0, none⟩) 1 1) (hlen : us.length ≤ 1000000)
    (h : ∀ v' W', OU B W' v' (us ++ [u]) → (W.alloc (.cells #[.int .u64 (u : Int)] 60)).grownBy W' v.ownBlock → Below B W W' → wpList Tryz.prog ops Q rest (a.put o.dst v') W') :
    wpList Tryz.prog ops Q (o :: rest) a (W.alloc (.cells #[.int .u64 (u : Int)] 60)) := by
  obtain ⟨i0, hi, hz0, hz1, hz2⟩ := info_parts Tryz.infoU
  subst hgW
  have hl := hown.lt
  have hB' : B ≤ (W.alloc (.cells #[.int .u64 (u : Int)] 60)).heap.size := by simp; omega
  refine wpList_append_own _ hgd s x 29 ho B 60 i0 (.int .u64 0) 1 8 Tryz.underlying29 hi hz0 hz1 hz2 rfl (by decide) v us.length _ hs (hown.alloc _) ⟨W.heap.size, 0, none⟩ 1 1 [.int .u64 (u : Int)] hx rfl ?_ ?_ ?_ ?_ hB' ?_
  · intro j y hj
    have hj0 : j = 0 := by have := (List.getElem?_eq_some_iff.1 hj).1; simp at this; omega
    subst hj0
    have e : (⟨W.heap.size, 0, none⟩ : Addr).add 0 = ⟨W.heap.size, 0, none⟩ := rfl
    rw [e, (Blk.new W 60 #[.int .u64 (u : Int)]).cell 0]
    simpa using hj
  · intro y hy; simp at hy; subst hy; rfl
  · unfold maxLen; omega
  · omega
  · intro v' W' hown' hg _
    refine h v' W' ?_ hg (((Below.refl B W).alloc hB _).grown hg hB' (fun k hk => (hl k hk).1))
    unfold OU
    rw [List.length_append, List.map_append]
    exact hown'
/-- What the loop keeps: ps are the words that are done, c the carry. -/
structure Sc (us : List Nat) (b c0 k : Nat) (ps : List Nat) (c : Nat) : Prop where
  len : ps.length = k
  wrd : Wrd ps
  clt : c < 18446744073709551616
  eq : wv ps + 18446744073709551616 ^ k * c = wv (us.take k) * b + c0
theorem sc_step {us : List Nat} {b c0 k : Nat} {ps : List Nat} {c : Nat} (h : Sc us b c0 k ps c) (hk : k < us.length) (hb : b < 18446744073709551616) (hx : us.getD k 0 < 18446744073709551616) :
    Sc us b c0 (k + 1) (ps ++ [(us.getD k 0 * b + c) % 18446744073709551616]) ((us.getD k 0 * b + c) / 18446744073709551616) := by
  have hc := h.clt
  generalize hxx : us.getD k 0 = x at *
  have hxb : x * b ≤ 18446744073709551615 * 18446744073709551615 := Nat.mul_le_mul (by omega) (by omega)
  refine ⟨by rw [List.length_append, h.len]; rfl, ?_, by omega, ?_⟩
  · intro u hu
    rcases List.mem_append.1 hu with hu | hu
    · exact h.wrd u hu
    · simp at hu; omega
  · rw [wv_append, h.len, take_succ_getD us k hk, wv_append, hxx]
    have hl : (us.take k).length = k := by rw [List.length_take]; omega
    rw [hl]
    have he := h.eq
    have hd := Nat.div_add_mod (x * b + c) 18446744073709551616
    simp only [wv, Nat.mul_zero, Nat.add_zero]
    generalize (x * b + c) % 18446744073709551616 = lo at *
    generalize (x * b + c) / 18446744073709551616 = hi at *
    generalize hp : 18446744073709551616 ^ k = p at *
    have e1 : 18446744073709551616 ^ (k + 1) * hi = p * (18446744073709551616 * hi) := by rw [Nat.pow_succ, hp, Nat.mul_assoc]
    have e2 : p * (18446744073709551616 * hi) + p * lo = p * (x * b) + p * c := by rw [← Nat.mul_add, hd, Nat.mul_add]
    have e3 : (wv (us.take k) + p * x) * b = wv (us.take k) * b + p * (x * b) := by rw [Nat.add_mul, Nat.mul_assoc]
    rw [e1, e3]
    omega
def ScaleIs (us : List Nat) (b c0 B : Nat) (w : World) (e : Ending) (w' : World) : Prop :=
  ∃ v us', e = .returned v ∧ OU B w' v us' ∧ Wrd us' ∧ wv us' = wv us * b + c0 ∧ us'.length ≤ us.length + 1 ∧ Below B w w'
set_option maxRecDepth 100000 in
set_option maxHeartbeats 2000000 in
theorem scale_any (B : Nat) (v : Value) (us : List Nat) (b c0 : Nat) (w : World) (ho : OU B w v us) (hB : B ≤ w.heap.size) (hw : Wrd us) (hb : b < 18446744073709551616) (hc0 : c0 < 18446744073709551616) (hl : us.length ≤ 10000) :
    Calls Tryz.prog 62 #[v, .int .u64 (b : Int), .int .u64 (c0 : Int)] w (ScaleIs us b c0 B w) := by
  obtain ⟨a, cap, rfl, hcap, ha⟩ := ou_form ho
  have HF : Hid (∀ v' us' w', OU B w' v' us' → Wrd us' → wv us' = wv us * b + c0 → us'.length ≤ us.length + 1 → Below B w w' → ScaleIs us b c0 B w (.returned v') w') := Lib.hid (fun v' us' w' h1 h2 h3 h4 h5 => ⟨v', us', rfl, h1, h2, h3, h4, h5⟩)
  obtain ⟨n, hn⟩ : ∃ n, us.length = n := ⟨_, rfl⟩
  have Hn := Lib.hid hn
  have HW := Lib.hid hw
  have Ho : Hid (w.ownsRow B 60 1 (.slice a n cap) n (([] ++ us.drop 0).map uv)) := Lib.hid (by rw [← hn]; exact ho)
  have H0 : Hid (Sc us b c0 0 [] c0) := Lib.hid ⟨rfl, fun u hu => by simp at hu, hc0, by simp [wv]⟩
  have Ha : Hid (us = [] ∨ ∃ g, a = some ⟨g, 0, none⟩) := Lib.hid ha
  have HB0 : Hid (Below B w w) := Lib.hid (Below.refl _ _)
  rw [hn] at hl hcap ⊢
  obtain ⟨BY, hBY⟩ : ∃ BY : Int, (b : Int) = BY := ⟨_, rfl⟩
  have HBY := Lib.hid hBY
  have Hb := Lib.hid hb
  obtain ⟨C0, hC0⟩ : ∃ C0 : Int, (c0 : Int) = C0 := ⟨_, rfl⟩
  have HC0 := Lib.hid hC0.symm
  rw [hBY, hC0]
  clear ho hw hb hc0 hn ha hBY hC0
  go_enter Tryz.func62, Tryz.ntmps62
  go_wp2_with fail
  go_loopw [2, 15] (fun cv i wr => ∃ (k c : Nat) (ps : List Nat) (C : Int), k ≤ n ∧ i = .int .i64 (k : Int) ∧ cv = .int .u64 C ∧ Hid (C = (c : Int)) ∧ Hid (Sc us b c0 k ps c) ∧ Hid (wr.ownsRow B 60 1 (.slice a n cap) n ((ps ++ us.drop k).map uv)) ∧ Hid (Below B w wr)) (fun _ i _ => n - (intOf i).toNat)
  case atStart => exact ⟨0, c0, [], C0, by omega, rfl, rfl, HC0, H0, Ho, HB0⟩
  case round =>
    obtain ⟨k, c, ps, C, hk, rfl, rfl, hC, hsc, hrow, hbel⟩ := hrel
    clear HC0 H0 Ho HB0
    by_cases hlt : k < n
    · obtain ⟨g, rfl⟩ : ∃ g, a = some ⟨g, 0, none⟩ := by
        rcases Ha.out with h | h
        · have := Hn.out; rw [h] at this; simp at this; omega
        · exact h
      obtain ⟨x, hx⟩ : ∃ x, us.getD k 0 = x := ⟨_, rfl⟩
      have hlk : k < us.length := by rw [Hn.out]; exact hlt
      have hxw : x < 18446744073709551616 := by rw [← hx, List.getD_eq_getElem?_getD, List.getElem?_eq_getElem hlk]; exact HW.out _ (List.getElem_mem _)
      have hdrop : us.drop k = x :: us.drop (k + 1) := by
        rw [List.drop_eq_getElem_cons hlk]
        congr 1
        rw [← hx, List.getD_eq_getElem?_getD, List.getElem?_eq_getElem hlk]; rfl
      have hcell := ou_cell hrow.out k (by rw [List.length_append, List.length_drop, hsc.out.len]; omega)
      have hgx : (ps ++ us.drop k).getD k 0 = x := by
        rw [List.getD_eq_getElem?_getD, List.getElem?_append_right (by rw [hsc.out.len]; omega), hsc.out.len, hdrop]; simp
      rw [hgx] at hcell
      obtain ⟨hbg, hgl, hfr⟩ := ou_block hrow.out
      have hfrk := hfr k hlt
      have hstep : Hid (Sc us b c0 (k + 1) (ps ++ [(x * b + c) % 18446744073709551616]) ((x * b + c) / 18446744073709551616)) := Lib.hid (by have := sc_step hsc.out hlk Hb.out (by rw [hx]; exact hxw); rw [hx] at this; exact this)
      have hdiv := Nat.div_add_mod (x * b) 18446744073709551616
      have hmul : x * b ≤ 18446744073709551615 * 18446744073709551615 := Nat.mul_le_mul (by omega) (by have := Hb.out; omega)
      have hclt := hsc.out.clt
      obtain ⟨X, hX⟩ : ∃ X : Int, (x : Int) = X := ⟨_, rfl⟩
      obtain ⟨HI, hHI⟩ : ∃ HI : Int, ((x * b / 18446744073709551616 : Nat) : Int) = HI := ⟨_, rfl⟩
      obtain ⟨LO, hLO⟩ : ∃ LO : Int, ((x * b % 18446744073709551616 : Nat) : Int) = LO := ⟨_, rfl⟩
      obtain ⟨SM, hSM⟩ : ∃ SM : Int, (((x * b + c) % 18446744073709551616 : Nat) : Int) = SM := ⟨_, rfl⟩
      obtain ⟨OV, hOV⟩ : ∃ OV : Int, (((x * b % 18446744073709551616 + c) / 18446744073709551616 : Nat) : Int) = OV := ⟨_, rfl⟩
      obtain ⟨C1, hC1⟩ : ∃ C1 : Int, (((x * b + c) / 18446744073709551616 : Nat) : Int) = C1 := ⟨_, rfl⟩
      have hMul : Hid (Calls Tryz.prog 85 #[.int .u64 X, .int .u64 BY] wr fun e w' => e = .returned (.tuple #[.int .u64 HI, .int .u64 LO]) ∧ w' = wr) := Lib.hid (by
        have := Tryz.bits_Mul64 x b hxw Hb.out wr
        rw [hHI, hLO, hX, HBY.out] at this
        exact this)
      have hadd : ∀ wx, (callFunc 66 #[.int .u64 LO, .int .u64 C, .int .u64 0]).run Tryz.prog wx = .ok (.value (.tuple #[.int .u64 SM, .int .u64 OV])) wx := fun wx => by
        have := run_add64c (x * b % 18446744073709551616) c 0 (by omega) wx
        rw [Nat.add_zero, hOV, hLO, ← hC.out] at this
        have e : (x * b % 18446744073709551616 + c) % 18446744073709551616 = (x * b + c) % 18446744073709551616 := by rw [Nat.mod_add_mod]
        rw [e, hSM] at this
        exact this
      have eC1 : IntKind.u64.wrap (HI + OV) = C1 := by
        have e : x * b / 18446744073709551616 + (x * b % 18446744073709551616 + c) / 18446744073709551616 = (x * b + c) / 18446744073709551616 := by omega
        rw [← hHI, ← hOV, ← hC1, ← Int.natCast_add, e, wrapu64 _ (by omega)]
      have hrow2 : Hid ((wr.setCell ⟨g, k, none⟩ (.int .u64 SM)).ownsRow B 60 1 (.slice (some ⟨g, 0, none⟩) n cap) n (((ps ++ [(x * b + c) % 18446744073709551616]) ++ us.drop (k + 1)).map uv)) := Lib.hid (by
        have := ou_set hrow.out k ((x * b + c) % 18446744073709551616) hlt
        rw [hSM] at this
        have e : (ps ++ us.drop k).set k ((x * b + c) % 18446744073709551616) = (ps ++ [(x * b + c) % 18446744073709551616]) ++ us.drop (k + 1) := by
          rw [List.set_append_right _ _ (by rw [hsc.out.len]; omega), hsc.out.len, hdrop, Nat.sub_self]; simp
        rw [e] at this
        exact this)
      have hbel2 : Hid (Below B w (wr.setCell ⟨g, k, none⟩ (.int .u64 SM))) := Lib.hid (hbel.out.setCell (p := ⟨g, k, none⟩) hbg _)
      have hC1' := Lib.hid hC1.symm
      have hi0 : (0 : Int) ≤ (k : Int) := by omega
      have hi1 : (k : Int) < (n : Int) := by omega
      have e2 := add_zero_off g k
      rw [e2, hX] at hcell
      clear hdiv hmul hclt hHI hLO hSM hOV hC1 hX hdrop hgx hx hxw hrow hbel hfr hsc hgl hC hlk
      go_wp2_with fail
      refine hMul.out.mono ?_
      rintro e w1 ⟨rfl, rfl⟩
      clear hMul
      go_wp2_with fail
      go_roundw
      case rel => exact ⟨k + 1, _, _, C1, by omega, by go_num, rfl, hC1', hstep, hrow2, hbel2⟩
      case measure => simp [intOf]; omega
    · obtain rfl : k = n := by omega
      have hfin : Hid (Wrd ps ∧ ps.length = k ∧ wv ps + 18446744073709551616 ^ k * c = wv us * b + c0) := Lib.hid (by
        have h := hsc.out.eq
        rw [List.take_of_length_le (by rw [Hn.out]; exact Nat.le_refl _)] at h
        exact ⟨hsc.out.wrd, hsc.out.len, h⟩)
      have hclt := hsc.out.clt
      have hrow' : Hid (OU B wr (.slice a k cap) ps) := Lib.hid (by
        have h := hrow.out
        rw [List.drop_of_length_le (by rw [Hn.out]; exact Nat.le_refl _), List.append_nil] at h
        unfold OU
        rw [hfin.out.2.1]
        exact h)
      by_cases hc0 : c = 0
      · have hCz : C = 0 := by rw [hC.out]; omega
        subst hCz
        have HR := Lib.hid (HF.out _ ps wr hrow'.out hfin.out.1 (by have := hfin.out.2.2; rw [hc0, Nat.mul_zero, Nat.add_zero] at this; exact this) (by rw [hfin.out.2.1, Hn.out]; omega) hbel.out)
        clear hfin hrow' hrow hsc hbel HF hclt hC hc0
        go_wp2_with fail
        go_ret
        exact HR.out
      · have hCz : 0 < C := by rw [hC.out]; omega
        have hwr : B ≤ wr.heap.size := Nat.le_trans hB hbel.out.size
        have hps : ps.length ≤ 10000 := by rw [hfin.out.2.1]; omega
        have HR : Hid (∀ v' W', OU B W' v' (ps ++ [c]) → Below B wr W' → ScaleIs us b c0 B w (.returned v') W') := Lib.hid (fun v' W' h1 h2 => by
          refine HF.out v' (ps ++ [c]) W' h1 ?_ ?_ ?_ (hbel.out.trans h2)
          · intro u hu
            rcases List.mem_append.1 hu with hu | hu
            · exact hfin.out.1 u hu
            · simp at hu; omega
          · rw [wv_append, hfin.out.2.1, ← hfin.out.2.2]; simp [wv]
          · rw [List.length_append, hfin.out.2.1, Hn.out]; simp)
        have HCn : Hid (Value.int .u64 C = .int .u64 (c : Int)) := Lib.hid (by rw [hC.out])
        have hCe := hC.out
        subst hCe
        clear hfin hrow hsc hbel HF hclt hC HCn
        go_wp2_with (at_builtin; refine push_u rfl (.tmp 42) (.tmp 44) rfl B _ _ ps c rfl hrow'.out hwr _ rfl rfl (by omega) ?_)
        intro v' W' ho' _ hb'
        have HR2 := Lib.hid (HR.out v' W' ho' hb')
        obtain ⟨a2, c2, hv2, _⟩ := ou_form ho'
        subst hv2
        clear ho' hb' HR hrow'
        go_wp2_with fail
        go_ret
        exact HR2.out
end Go.Proofs.YtckglpkafhmehaaGreatDoor
namespace Go.Proofs.YtckglpkafhmehaaGreatDoor
open Go.RowKit
set_option linter.unusedVariables false
def isDig (b : UInt8) : Prop := 48 ≤ b.toNat ∧ b.toNat ≤ 57
/-- A text of digits, no nought ahead of others. -/
structure WF (s : ByteArray) : Prop where
  ne : 0 < s.size
  lead : ¬ (s.data.toList.head? = some 48 ∧ 1 < s.size)
  dig : ∀ b ∈ s.data.toList, isDig b
def FormIs (s : ByteArray) (w : World) (e : Ending) (w' : World) : Prop :=
  (WF s ∧ e = .returned (.bool true) ∨ ¬ WF s ∧ e = .returned (.bool false)) ∧ w = w'
theorem toList_at (s : ByteArray) (i : Nat) (h : i < s.size) : s.data.toList[i]? = some s[i] := by
  rw [List.getElem?_eq_getElem (by simpa using h)]
  rfl
set_option maxRecDepth 100000 in
set_option maxHeartbeats 1000000 in
theorem form_any (s : ByteArray) (w : World) (hs : s.size ≤ maxLen) :
    Calls Tryz.prog 61 #[.string s] w (FormIs s w) := by
  unfold maxLen at hs
  by_cases h0 : s.size = 0
  · have hs0 : s = ⟨#[]⟩ := ByteArray.size_eq_zero_iff.1 h0
    subst hs0
    have HF : Hid (FormIs ⟨#[]⟩ w (.returned (.bool false)) w) := Lib.hid ⟨.inr ⟨fun h => absurd h.ne (by decide), rfl⟩, rfl⟩
    go_enter Tryz.func61, Tryz.ntmps61
    go_wp2
    go_ret
    exact HF.out
  · have hp : 0 < s.size := by omega
    have hpi : (0 : Int) < (s.size : Int) := by omega
    have hE : s.toList.isEmpty = false := by
      rw [List.isEmpty_eq_false_iff]
      intro h; exact h0 (by rw [ByteArray.toList_eq] at h; exact List.length_eq_zero_iff.2 h)
    have hat := toList_at s 0 hp
    obtain ⟨b0, hb0⟩ : ∃ b0, s[0] = b0 := ⟨_, rfl⟩
    rw [hb0] at hat
    have hhead : s.data.toList.head? = some b0 := by rw [List.head?_eq_getElem?]; exact hat
    obtain ⟨Z, hZ⟩ : ∃ Z : Int, (b0.toNat : Int) = Z := ⟨_, rfl⟩
    obtain ⟨n, hn⟩ : ∃ n, s.size = n := ⟨_, rfl⟩
    have Hn := Lib.hid hn
    by_cases hl : Z = 48 ∧ 1 < n
    · have HF : Hid (FormIs s w (.returned (.bool false)) w) := Lib.hid ⟨.inr ⟨fun h => h.lead ⟨by rw [hhead]; congr 1; exact UInt8.toNat_inj.1 (by have := hl.1; show b0.toNat = 48; omega), by omega⟩, rfl⟩, rfl⟩
      obtain ⟨rfl, hl1⟩ := hl
      have hl2 : (1 : Int) < (n : Int) := by omega
      clear hhead hat
      go_enter Tryz.func61, Tryz.ntmps61
      go_wp2_with fail
      go_ret
      exact HF.out
    · have HNo : Hid (¬ (∀ b ∈ s.data.toList, isDig b) → FormIs s w (.returned (.bool false)) w) := Lib.hid (fun h => ⟨.inr ⟨fun hw => h hw.dig, rfl⟩, rfl⟩)
      have HYes : Hid ((∀ b ∈ s.data.toList, isDig b) → FormIs s w (.returned (.bool true)) w) := Lib.hid (fun h => ⟨.inl ⟨⟨hp, fun hh => hl ⟨by
        have h1 := hh.1
        rw [hhead] at h1
        have h2 : b0 = 48 := Option.some.inj h1
        rw [← hZ, h2]; rfl, by have := hh.2; omega⟩, h⟩, rfl⟩, rfl⟩)
      rw [hn] at hs hp hpi
      by_cases hz : Z = 48
      · have hn1 : ¬ (1 : Int) < (n : Int) := by omega
        subst hz
        clear hhead hat hl
        go_enter Tryz.func61, Tryz.ntmps61
        go_wp2_with fail
        go_loopw [18] (fun i wr => ∃ k : Nat, k ≤ n ∧ i = .int .i64 (k : Int) ∧ Hid (∀ j b, j < k → s.data.toList[j]? = some b → isDig b) ∧ w = wr) (fun i _ => n - (intOf i).toNat)
        case atStart => exact ⟨0, by omega, rfl, Lib.hid (fun j b hj => by omega), rfl⟩
        case round =>
          obtain ⟨k, hk, rfl, hd, rfl⟩ := hrel
          by_cases hlt : k < n
          · have hks : k < s.size := by rw [Hn.out]; exact hlt
            have hat := toList_at s k hks
            obtain ⟨b, hb⟩ : ∃ b, s[k] = b := ⟨_, rfl⟩
            rw [hb] at hat
            obtain ⟨C, hC⟩ : ∃ C : Int, (b.toNat : Int) = C := ⟨_, rfl⟩
            have hi0 : (0 : Int) ≤ (k : Int) := by omega
            have hi1 : (k : Int) < (n : Int) := by omega
            have HC := Lib.hid hC
            have Hat := Lib.hid hat
            have hsn := Hn.out
            by_cases hlo : C < 48
            · have HX : Hid (FormIs s w (.returned (.bool false)) w) := Lib.hid (HNo.out (fun hd => by have h1 := hd b (List.mem_of_getElem? Hat.out); have := h1.1; have := HC.out; omega))
              clear hat
              go_wp2_with fail
              go_ret
              exact HX.out
            · by_cases hhi : 57 < C
              · have HX : Hid (FormIs s w (.returned (.bool false)) w) := Lib.hid (HNo.out (fun hd => by have h1 := hd b (List.mem_of_getElem? Hat.out); have := h1.2; have := HC.out; omega))
                clear hat
                go_wp2_with fail
                go_ret
                exact HX.out
              · have hd1 : Hid (∀ j b, j < k + 1 → s.data.toList[j]? = some b → isDig b) := Lib.hid (fun j b' hj hjb => by
                  by_cases hjk : j < k
                  · exact hd.out j b' hjk hjb
                  · have : j = k := by omega
                    subst this
                    rw [Hat.out] at hjb
                    cases hjb
                    have := HC.out
                    exact ⟨by omega, by omega⟩)
                clear hd hat
                go_wp2_with fail
                go_roundw
                case rel => first | exact ⟨k + 1, by omega, by go_num, hd1⟩ | exact ⟨k + 1, by omega, by go_num, hd1, trivial⟩ | exact ⟨k + 1, by omega, by go_num, hd1, rfl⟩
                case measure => simp [intOf]; omega
          · obtain rfl : k = n := by omega
            have HX : Hid (FormIs s w (.returned (.bool true)) w) := Lib.hid (HYes.out (fun b hb => by
              obtain ⟨j, hj⟩ := List.mem_iff_getElem?.1 hb
              exact hd.out j b (by have := (List.getElem?_eq_some_iff.1 hj).1; have := Hn.out; simp at *; omega) hj))
            clear hd
            go_wp2_with fail
            go_ret
            exact HX.out
      · have hzb : (Z == 48) = false := by simp [hz]
        clear hhead hat hl
        go_enter Tryz.func61, Tryz.ntmps61
        go_wp2_with fail
        go_loopw [18] (fun i wr => ∃ k : Nat, k ≤ n ∧ i = .int .i64 (k : Int) ∧ Hid (∀ j b, j < k → s.data.toList[j]? = some b → isDig b) ∧ w = wr) (fun i _ => n - (intOf i).toNat)
        case atStart => exact ⟨0, by omega, rfl, Lib.hid (fun j b hj => by omega), rfl⟩
        case round =>
          obtain ⟨k, hk, rfl, hd, rfl⟩ := hrel
          by_cases hlt : k < n
          · have hks : k < s.size := by rw [Hn.out]; exact hlt
            have hat := toList_at s k hks
            obtain ⟨b, hb⟩ : ∃ b, s[k] = b := ⟨_, rfl⟩
            rw [hb] at hat
            obtain ⟨C, hC⟩ : ∃ C : Int, (b.toNat : Int) = C := ⟨_, rfl⟩
            have hi0 : (0 : Int) ≤ (k : Int) := by omega
            have hi1 : (k : Int) < (n : Int) := by omega
            have HC := Lib.hid hC
            have Hat := Lib.hid hat
            have hsn := Hn.out
            by_cases hlo : C < 48
            · have HX : Hid (FormIs s w (.returned (.bool false)) w) := Lib.hid (HNo.out (fun hd => by have h1 := hd b (List.mem_of_getElem? Hat.out); have := h1.1; have := HC.out; omega))
              clear hat
              go_wp2_with fail
              go_ret
              exact HX.out
            · by_cases hhi : 57 < C
              · have HX : Hid (FormIs s w (.returned (.bool false)) w) := Lib.hid (HNo.out (fun hd => by have h1 := hd b (List.mem_of_getElem? Hat.out); have := h1.2; have := HC.out; omega))
                clear hat
                go_wp2_with fail
                go_ret
                exact HX.out
              · have hd1 : Hid (∀ j b, j < k + 1 → s.data.toList[j]? = some b → isDig b) := Lib.hid (fun j b' hj hjb => by
                  by_cases hjk : j < k
                  · exact hd.out j b' hjk hjb
                  · have : j = k := by omega
                    subst this
                    rw [Hat.out] at hjb
                    cases hjb
                    have := HC.out
                    exact ⟨by omega, by omega⟩)
                clear hd hat
                go_wp2_with fail
                go_roundw
                case rel => first | exact ⟨k + 1, by omega, by go_num, hd1⟩ | exact ⟨k + 1, by omega, by go_num, hd1, trivial⟩ | exact ⟨k + 1, by omega, by go_num, hd1, rfl⟩
                case measure => simp [intOf]; omega
          · obtain rfl : k = n := by omega
            have HX : Hid (FormIs s w (.returned (.bool true)) w) := Lib.hid (HYes.out (fun b hb => by
              obtain ⟨j, hj⟩ := List.mem_iff_getElem?.1 hb
              exact hd.out j b (by have := (List.getElem?_eq_some_iff.1 hj).1; have := Hn.out; simp at *; omega) hj))
            clear hd
            go_wp2_with fail
            go_ret
            exact HX.out
/-- The number of digits. -/
def dv (l : List UInt8) : Nat := l.foldl (fun a b => a * 10 + (b.toNat - 48)) 0
theorem dv_snoc (l : List UInt8) (b : UInt8) : dv (l ++ [b]) = dv l * 10 + (b.toNat - 48) := by unfold dv; rw [List.foldl_append]; rfl
theorem dv_lt : ∀ (n : Nat) (l : List UInt8), l.length = n → (∀ b ∈ l, isDig b) → dv l < 10 ^ n := by
  intro n
  induction n with
  | zero => intro l hl _; rw [List.eq_nil_of_length_eq_zero hl]; decide
  | succ n ih =>
    intro l hl hd
    rcases List.eq_nil_or_concat l with rfl | ⟨r, b, rfl⟩
    · simp at hl
    · rw [List.concat_eq_append] at *
      rw [dv_snoc, Nat.pow_succ]
      have h1 := ih r (by simp at hl; omega) (fun x hx => hd x (List.mem_append_left _ hx))
      have h2 := hd b (by simp)
      unfold isDig at h2
      omega
set_option maxRecDepth 100000 in
set_option maxHeartbeats 1000000 in
theorem part_any (s : ByteArray) (w : World) (hs : s.size ≤ 19) (hd : ∀ b ∈ s.data.toList, isDig b) :
    Calls Tryz.prog 63 #[.string s] w fun e w' => e = .returned (.int .u64 (dv s.data.toList : Nat)) ∧ w = w' := by
  have HD := Lib.hid hd
  obtain ⟨D, hD⟩ : ∃ D : Int, ((dv s.data.toList : Nat) : Int) = D := ⟨_, rfl⟩
  have HDv := Lib.hid hD
  rw [hD]
  obtain ⟨n, hn⟩ : ∃ n, s.size = n := ⟨_, rfl⟩
  have Hn := Lib.hid hn
  have hn19 : n ≤ 19 := by omega
  clear hd hD hs
  go_enter Tryz.func63, Tryz.ntmps63
  go_wp2_with fail
  go_loop [3, 7] (fun v i => ∃ (k : Nat) (V : Int), k ≤ n ∧ i = .int .i64 (k : Int) ∧ v = .int .u64 V ∧ Hid (V = (dv (s.data.toList.take k) : Nat))) (fun _ i => n - (intOf i).toNat)
  case atStart => exact ⟨0, 0, by omega, rfl, rfl, Lib.hid (by simp [dv])⟩
  case round =>
    obtain ⟨k, V, hk, rfl, rfl, hV⟩ := hrel
    by_cases hlt : k < n
    · have hks : k < s.size := by rw [Hn.out]; exact hlt
      have hat := toList_at s k hks
      obtain ⟨b, hb⟩ : ∃ b, s[k] = b := ⟨_, rfl⟩
      rw [hb] at hat
      have hdb := HD.out b (List.mem_of_getElem? hat)
      have hl : (s.data.toList.take k).length = k := by rw [List.length_take]; have : s.data.toList.length = s.size := by simp
                                                        omega
      have hlt10 := dv_lt k (s.data.toList.take k) hl (fun x hx => HD.out x (List.mem_of_mem_take hx))
      have h18 : 10 ^ k ≤ 10 ^ 18 := Nat.pow_le_pow_right (by decide) (by omega)
      have e18 : (10 : Nat) ^ 18 = 1000000000000000000 := by decide
      have htk : s.data.toList.take (k + 1) = s.data.toList.take k ++ [b] := by rw [List.take_add_one, hat]; rfl
      obtain ⟨C, hC⟩ : ∃ C : Int, (b.toNat : Int) = C := ⟨_, rfl⟩
      obtain ⟨E, hE⟩ : ∃ E : Int, ((b.toNat - 48 : Nat) : Int) = E := ⟨_, rfl⟩
      unfold isDig at hdb
      have e1 : IntKind.u8.wrap (C - 48) = E := by
        rw [← hC, ← hE]
        simp [IntKind.wrap, IntKind.bits, IntKind.signed]; omega
      obtain ⟨V1, hV1⟩ : ∃ V1 : Int, ((dv (s.data.toList.take (k + 1)) : Nat) : Int) = V1 := ⟨_, rfl⟩
      have e2 : IntKind.u64.wrap (IntKind.u64.wrap (V * 10) + E) = V1 := by
        rw [← hV1, htk, dv_snoc, hV.out, ← hE]
        simp only [IntKind.wrap_u64]
        omega
      have hi0 : (0 : Int) ≤ (k : Int) := by omega
      have hi1 : (k : Int) < (n : Int) := by omega
      have HV1 := Lib.hid hV1.symm
      have hE0 : 0 ≤ E ∧ E ≤ 9 := by omega
      obtain ⟨hE0, hE9⟩ := hE0
      clear hat hdb hlt10 h18 e18 htk hE hV hV1 hl
      go_wp2_with fail
      go_round
      case rel => exact ⟨k + 1, V1, by omega, by go_num, rfl, HV1⟩
      case measure => simp [intOf]; omega
    · obtain rfl : k = n := by omega
      have hfin : V = D := by
        rw [hV.out, ← HDv.out, List.take_of_length_le (by have : s.data.toList.length = s.size := by simp
                                                          omega)]
      subst hfin
      clear hV
      go_wp2_with fail
      go_ret
      exact ⟨rfl, rfl⟩
end Go.Proofs.YtckglpkafhmehaaGreatDoor
namespace Go.Proofs.YtckglpkafhmehaaGreatDoor
open Go.RowKit
set_option linter.unusedVariables false
/-- The value v is the number N: its words lie in memory, the last of them is not 0. -/
def IsN (w : World) (v : Value) (N : Nat) : Prop :=
  ∃ a c us, v = .agg #[.slice a us.length c] ∧ us.length ≤ c ∧ UR w a us ∧ Wrd us ∧ wv us = N ∧ us.length ≤ 10000 ∧ (us ≠ [] → us.getD (us.length - 1) 0 ≠ 0) ∧ (us = [] → a = none ∧ c = 0)
theorem IsN.below {w w' : World} {v : Value} {N B : Nat} (h : IsN w v N) (hb : Below B w w') (hB : w.heap.size ≤ B) : IsN w' v N := by
  obtain ⟨a, c, us, h1, h2, h3, h4⟩ := h
  exact ⟨a, c, us, h1, h2, h3.below hb hB, h4⟩
theorem isN_zero (w : World) : IsN w (.agg #[.slice none 0 0]) 0 := ⟨none, 0, [], rfl, Nat.le_refl _, fun i hi => by simp at hi, fun u hu => by simp at hu, rfl, by simp, fun h => absurd rfl h, fun _ => ⟨rfl, rfl⟩⟩
theorem isN_trim {w : World} {a : Option Addr} {c : Nat} {us : List Nat} (hu : UR w a us) (hw : Wrd us) (hc : us.length ≤ c) (hl : us.length ≤ 10000) : IsN w (.agg #[trimV a c (tlen us us.length)]) (wv us) := by
  have hle := tlen_le us us.length
  have hv := tlen_wv us us.length (Nat.le_refl _)
  rw [List.take_length] at hv
  have hlast := tlen_last us us.length
  generalize tlen us us.length = m at *
  have hlen : (us.take m).length = m := by rw [List.length_take]; omega
  unfold trimV
  by_cases h0 : m = 0
  · rw [if_pos h0, ← hv, h0]
    exact isN_zero w
  · rw [if_neg h0]
    refine ⟨a, c, us.take m, by rw [hlen], by omega, hu.take m, fun u hx => hw u (List.mem_of_mem_take hx), hv, by omega, fun _ => ?_, fun h => by have := congrArg List.length h; rw [hlen] at this; exact absurd this h0⟩
    rw [hlen, List.getD_eq_getElem?_getD, List.getElem?_take, if_pos (by omega), ← List.getD_eq_getElem?_getD]
    exact hlast (by omega)
theorem dv_append (a b : List UInt8) : dv (a ++ b) = dv a * 10 ^ b.length + dv b := by
  rcases List.eq_nil_or_concat b with rfl | ⟨r, x, rfl⟩
  · simp [dv]
  · have ih := dv_append a r
    rw [List.concat_eq_append, ← List.append_assoc, dv_snoc, dv_snoc, ih, List.length_append, List.length_singleton, Nat.pow_succ, Nat.add_mul, ← Nat.mul_assoc]
    omega
termination_by b.length
decreasing_by simp_all
theorem ou_far {B : Nat} {w : World} {v : Value} {us : List Nat} (h : OU B w v us) : ∃ a c, v = .slice a us.length c ∧ us.length ≤ c ∧ UR w a us ∧ (us = [] ∨ ∃ g, a = some ⟨g, 0, none⟩ ∧ B ≤ g) := by
  obtain ⟨a, c, rfl, hc, hu⟩ := ou_ur h
  refine ⟨a, c, rfl, hc, hu, ?_⟩
  rcases h.2 with ⟨he, h0⟩ | ⟨g, cap, cur, he, hbg, _⟩
  · exact .inl (List.eq_nil_of_length_eq_zero h0)
  · refine .inr ⟨g, ?_, hbg⟩
    injection he
theorem UR.far {w : World} {a : Option Addr} {us : List Nat} (h : UR w a us) {B b i : Nat} (hb : b < B) (hf : us = [] ∨ ∃ g, a = some ⟨g, 0, none⟩ ∧ B ≤ g) (x : Value) : UR (w.setCell ⟨b, i, none⟩ x) a us := by
  intro j hj
  obtain ⟨ad, ha, hlt, hc⟩ := h j hj
  refine ⟨ad, ha, by rw [World.size_setCell]; exact hlt, ?_⟩
  rcases hf with rfl | ⟨g, hg, hbg⟩
  · simp at hj
  · rw [hg] at ha
    cases ha
    rw [World.cell?_setCell_other _ _ _ _ (fun e => by have := congrArg Addr.block e; rw [add_block] at this; simp at this; omega)]
    exact hc
theorem ext_list (s : ByteArray) (i j : Nat) : (s.extract i j).data.toList = (s.data.toList.drop i).take (j - i) := by
  rw [ByteArray.data_extract, Array.toList_extract, List.extract_eq_take_drop]
theorem bytes_ext {a b : ByteArray} (h : a.data.toList = b.data.toList) : a = b := ByteArray.ext (Array.toList_inj.1 h)
def sOf : Value → Nat
  | .string s => s.size
  | _ => 0
/-- What the loop over the parts keeps: p bytes are read, the words us stand for them. -/
structure Pz (s : ByteArray) (p : Nat) (us : List Nat) : Prop where
  wrd : Wrd us
  val : wv us = dv (s.data.toList.take p)
  len : us.length ≤ p
  div : p = 0 ∨ (s.size - p) % 19 = 0
def ParseIs (s : ByteArray) (w : World) (e : Ending) (w' : World) : Prop :=
  ((WF s ∧ s.size ≤ 1200 ∧ ∃ v, e = .returned (.tuple #[v, .int .i64 0]) ∧ IsN w' v (dv s.data.toList)) ∨
   (¬ WF s ∧ e = .returned (.tuple #[.agg #[.slice none 0 0], .int .i64 3])) ∨
   (WF s ∧ 1200 < s.size ∧ e = .returned (.tuple #[.agg #[.slice none 0 0], .int .i64 2]))) ∧ Below w.heap.size w w'
theorem res_nat2 {fn : Func} {p u : Tmp} (h : fn.results = #[.cell p 31, .tmp u]) (tmps : Array Value) (w : World) (g : Nat) (v x : Value) (hp : tmps.getD p undef = .pointer (some ⟨g, 0, none⟩)) (hu : tmps.getD u undef = x) (hg : Blk w g 31 #[v]) :
    (results fn tmps).run Tryz.prog w = .ok (.tuple #[.agg #[v], x]) w := by
  rw [results_cell_tmp h, hp, hu]
  have e : (loadVar 31 ⟨g, 0, none⟩).run Tryz.prog w = .ok (.agg #[v]) w := run_loadVar_row w g 31 31 #[v] (0, 0) _ hg Tryz.underlying31 (by kernel_rfl) (by kernel_rfl)
  simp [asAddr, e, Result.andThen]
set_option maxRecDepth 100000 in
set_option maxHeartbeats 2000000 in
theorem parse_any (s : ByteArray) (w : World) (hs : s.size ≤ maxLen) :
    Calls Tryz.prog 33 #[.string s] w (ParseIs s w) := by
  obtain ⟨W1, hW1⟩ : ∃ W1, w.alloc (.cells #[.slice none 0 0] 31) = W1 := ⟨_, rfl⟩
  have hk : Blk W1 w.heap.size 31 #[.slice none 0 0] := by rw [← hW1]; exact Blk.new w _ _
  have HB : Hid (Below w.heap.size w W1) := Lib.hid (by rw [← hW1]; exact (Below.refl _ _).alloc (Nat.le_refl _) _)
  have hsz1 : W1.heap.size = w.heap.size + 1 := by rw [← hW1]; simp
  have hk0 := hk.cell 0; have hkf := hk.frozen 0
  simp only [List.getElem?_toArray, List.getElem?_cons_zero] at hk0
  have HK := Lib.hid hk
  have HForm := Lib.hid (form_any s W1 hs)
  clear hk
  unfold maxLen at hs
  by_cases hwf : WF s
  · have hform : Hid (Calls Tryz.prog 61 #[.string s] W1 fun e w' => e = .returned (.bool true) ∧ W1 = w') := Lib.hid (HForm.out.mono fun e w' h => by
      rcases h.1 with ⟨_, he⟩ | ⟨hn, _⟩
      · exact ⟨he, h.2⟩
      · exact absurd hwf hn)
    by_cases hbig : 1200 < s.size
    · have hbi : (1200 : Int) < (s.size : Int) := by omega
      have HF : Hid (∀ w', Below w.heap.size w w' → ParseIs s w (.returned (.tuple #[.agg #[.slice none 0 0], .int .i64 2])) w') := Lib.hid (fun w' hb => ⟨.inr (.inr ⟨hwf, hbig, rfl⟩), hb⟩)
      clear hwf HForm
      go_enter Tryz.func33, Tryz.ntmps33
      go_wp2_with fail
      refine hform.out.mono ?_
      rintro e w2 ⟨rfl, rfl⟩
      go_wp2_with fail
      refine bodyPost_ret (res_nat2 rfl _ _ w.heap.size (.slice none 0 0) (.int .i64 2) rfl rfl (HK.out.set_ 0 _)) rfl ?_
      exact HF.out _ (HB.out.setCell (p := ⟨w.heap.size, 0, none⟩) (Nat.le_refl _) _)
    · have hbi : ¬ (1200 : Int) < (s.size : Int) := by omega
      obtain ⟨n, hn⟩ : ∃ n, s.size = n := ⟨_, rfl⟩
      have Hn := Lib.hid hn
      have HWF := Lib.hid hwf
      rw [hn] at hbi
      have hn12 : n ≤ 1200 := by omega
      obtain ⟨i0, hi, hz0, hz1, hz2⟩ := info_parts Tryz.infoU
      obtain ⟨W2, hmk, hom, hgm⟩ := run_make_own (P := Tryz.prog) W1 (w.heap.size + 1) 29 60 i0 (.int .u64 0) 1 Tryz.underlying29 hi hz0 hz1 .i64 .i64 (n / 19 + 1) (by rw [hz2]; omega) (by unfold maxLen; omega) (by omega)
      have ecap : ((n / 19 + 1 : Nat) : Int) = (n : Int) / 19 + 1 := by omega
      rw [ecap] at hmk
      rw [hsz1] at hom
      have HO2 : Hid (OU (w.heap.size + 1) W2 (.slice (some ⟨w.heap.size + 1, 0, none⟩) 0 (n / 19 + 1)) []) := Lib.hid hom
      have HB2 : Hid (Below (w.heap.size + 1) W1 W2) := Lib.hid ((Below.refl _ W1).grown hgm (by omega) (fun k hk => by cases hk))
      have HP0 : Hid (Pz s 0 []) := Lib.hid ⟨fun u hu => by simp at hu, by simp [wv, dv], by simp, .inl rfl⟩
      have hex0 : s.extract 0 s.size = s := ByteArray.extract_zero_size
      clear HForm hs hom hgm hi hz0 hz1 hz2 hwf
      go_enter Tryz.func33, Tryz.ntmps33
      go_wp2_with fail
      refine hform.out.mono ?_
      rintro e w2 ⟨rfl, rfl⟩
      go_wp2_with fail
      clear hmk
      go_loopw [0, 4] (fun sv vv wr => ∃ (p : Nat) (us : List Nat) (r : ByteArray), p ≤ n ∧ sv = .string r ∧ Hid (r = s.extract p s.size) ∧ Hid (OU (w.heap.size + 1) wr vv us) ∧ Hid (Pz s p us) ∧ Hid (Below (w.heap.size + 1) W1 wr)) (fun sv _ _ => sOf sv)
      case atStart => exact ⟨0, [], s, by omega, rfl, Lib.hid hex0.symm, HO2, HP0, HB2⟩
      case round =>
        obtain ⟨p, us, r, hp, rfl, hr, hO, hP, hBl⟩ := hrel
        clear HO2 HP0 HB2 hex0
        obtain ⟨L, hL⟩ : ∃ L, r.size = L := ⟨_, rfl⟩
        have hrs : Hid (L = n - p) := Lib.hid (by rw [← hL, hr.out]; have := Hn.out; simp; omega)
        have hLn : L ≤ n := by have := hrs.out; omega
        by_cases hL0 : 0 < L
        · have hLi : (0 : Int) < (L : Int) := by omega
          obtain ⟨m, hm⟩ : ∃ m, (L - 1) % 19 + 1 = m := ⟨_, rfl⟩
          have hm19 : m ≤ 19 := by omega
          have hmL : m ≤ L := by omega
          have hm1 : 1 ≤ m := by omega
          have eM : ((L : Int) - 1) % 19 + 1 = (m : Int) := by omega
          have hmi : (m : Int) ≤ (L : Int) := by omega
          have hmi0 : (0 : Int) ≤ (m : Int) := by omega
          have htake : Hid ((r.extract 0 m).data.toList = (s.data.toList.drop p).take m) := Lib.hid (by
            rw [hr.out, ext_list, ext_list, List.drop_zero, List.take_take, Nat.sub_zero]
            congr 1
            have := Hn.out; have := hrs.out; omega)
          obtain ⟨t, htt⟩ : ∃ t, r.extract 0 m = t := ⟨_, rfl⟩
          obtain ⟨r', hrr⟩ : ∃ r', r.extract m L = r' := ⟨_, rfl⟩
          rw [htt] at htake
          have hpart : Hid (∀ wx, Calls Tryz.prog 63 #[.string t] wx fun e w' => e = .returned (.int .u64 (dv t.data.toList : Nat)) ∧ wx = w') := Lib.hid (fun wx => part_any t wx (by rw [← htt]; simp; omega) (fun b hb => HWF.out.dig b (by rw [htake.out] at hb; exact List.mem_of_mem_drop (List.mem_of_mem_take hb))))
          obtain ⟨T, hT⟩ : ∃ T : Int, ((dv t.data.toList : Nat) : Int) = T := ⟨_, rfl⟩
          rw [hT] at hpart
          have hscale : Hid (Calls Tryz.prog 62 #[u4, .int .u64 10000000000000000000, .int .u64 T] wr (ScaleIs us 10000000000000000000 (dv t.data.toList) (w.heap.size + 1) wr)) := Lib.hid (by
            rw [← hT]
            have hdv : dv t.data.toList < 10 ^ t.data.toList.length := dv_lt _ _ rfl (fun b hb => HWF.out.dig b (by rw [htake.out] at hb; exact List.mem_of_mem_drop (List.mem_of_mem_take hb)))
            have h19 : 10 ^ t.data.toList.length ≤ 10 ^ 19 := Nat.pow_le_pow_right (by decide) (by rw [htake.out, List.length_take]; omega)
            have e19 : (10 : Nat) ^ 19 = 10000000000000000000 := by decide
            exact scale_any (w.heap.size + 1) u4 us 10000000000000000000 _ wr hO.out (by have := hBl.out.size; omega) hP.out.wrd (by omega) (by omega) (by have := hP.out.len; omega))
          go_wp2_with fail
          refine (hpart.out _).mono ?_
          rintro e w3 ⟨rfl, rfl⟩
          go_wp2_with fail
          refine hscale.out.mono ?_
          rintro e w4 ⟨v4, us4, rfl, hO4, hW4, hv4, hl4, hB4⟩
          obtain ⟨a4, c4, hv4', hc4, _⟩ := ou_form hO4
          subst hv4'
          have HO4 := Lib.hid hO4
          have HB4 : Hid (Below (w.heap.size + 1) W1 w4) := Lib.hid (hBl.out.trans hB4)
          have HP4 : Hid (Pz s (p + m) us4) := Lib.hid (by
            refine ⟨hW4, ?_, by have := hP.out.len; omega, .inr ?_⟩
            · have hlen : t.data.toList.length = m := by
                rw [htake.out, List.length_take, List.length_drop]
                have : s.data.toList.length = s.size := by simp
                have := Hn.out; have := hrs.out; omega
              rw [List.take_add, ← htake.out, dv_append, hv4, hP.out.val, hlen]
              rcases hP.out.div with h0 | h0
              · rw [h0]; simp [dv]
              · have hm9 : m = 19 := by rw [Hn.out] at h0; have := hrs.out; omega
                rw [hm9]
            · rw [Hn.out]; have := hrs.out; omega)
          have Hr4 : Hid (r' = s.extract (p + m) s.size) := Lib.hid (by
            refine bytes_ext ?_
            rw [← hrr, hr.out, ext_list, ext_list, ext_list, List.drop_take, List.drop_drop, List.take_take]
            have := Hn.out; have := hrs.out
            congr 1
            omega)
          have hr's : r'.size = L - m := by rw [← hrr]; simp; omega
          clear hO4 hW4 hv4 hl4 hB4 hP hBl hO hscale hpart
          go_wp2_with fail
          go_roundw
          case rel => exact ⟨p + m, us4, r', by have := hrs.out; omega, rfl, Hr4, HO4, HP4, HB4⟩
          case measure => simp only [sOf]; omega
        · have hL0' : L = 0 := by omega
          subst hL0'
          have hpn : p = n := by have := hrs.out; omega
          obtain ⟨a4, c4, rfl, hc4, hur, hfar⟩ := ou_far hO.out
          have htrim := Lib.hid (trim_any a4 c4 us wr hur (by have := hP.out.len; omega) hc4)
          have HN : Hid (∀ w' x, Below wr.heap.size wr w' → IsN (w'.setCell ⟨w.heap.size, 0, none⟩ x) (.agg #[trimV a4 c4 (tlen us us.length)]) (dv s.data.toList)) := Lib.hid (fun w' x hb => by
            have h1 := isN_trim ((hur.below hb (Nat.le_refl _)).far (B := w.heap.size + 1) (b := w.heap.size) (i := 0) (by omega) hfar x) hP.out.wrd hc4 (by have := hP.out.len; omega)
            rw [hP.out.val, hpn, List.take_of_length_le (by have : s.data.toList.length = s.size := by simp
                                                            have := Hn.out; omega)] at h1
            exact h1)
          have hBw : Below w.heap.size w wr := HB.out.trans (hBl.out.mono (by omega))
          have hk3 : Blk wr w.heap.size 31 #[.slice none 0 0] := HK.out.below hBl.out (by omega)
          have hw3 : w.heap.size < wr.heap.size := hk3.lt
          have HK3 := Lib.hid hk3
          have HBw := Lib.hid hBw
          clear hO hP hBl hur hk3 hBw hfar
          go_wp2_with fail
          refine htrim.out.mono ?_
          rintro e w5 ⟨rfl, hb5⟩
          have hk5 : Blk w5 w.heap.size 31 #[.slice none 0 0] := HK3.out.below hb5 hw3
          have hk50 := hk5.cell 0; have hk5f := hk5.frozen 0
          simp only [List.getElem?_toArray, List.getElem?_cons_zero] at hk50
          obtain ⟨tv, htv⟩ : ∃ tv, trimV a4 c4 (tlen us us.length) = tv := ⟨_, rfl⟩
          have htvs : ∃ x y z, tv = .slice x y z := by
            rw [← htv]; unfold trimV; split
            · exact ⟨_, _, _, rfl⟩
            · exact ⟨_, _, _, rfl⟩
          obtain ⟨tx, ty, tz, rfl⟩ := htvs
          have HN5 := Lib.hid (fun x => HN.out w5 x hb5)
          rw [htv] at HN5 ⊢
          have HB5 := Lib.hid (HBw.out.trans (hb5.mono (by omega)))
          have hsz5 : w.heap.size < w5.heap.size := hk5.lt
          have HK5 := Lib.hid hk5
          clear hb5 hk5 htv HN htrim
          go_wp2_with fail
          refine bodyPost_ret (res_nat2 rfl _ _ w.heap.size (.slice tx ty tz) (.int .i64 0) rfl rfl (HK5.out.set_ 0 _)) rfl ?_
          exact ⟨.inl ⟨HWF.out, by rw [Hn.out]; omega, _, rfl, HN5.out _⟩, HB5.out.setCell (p := ⟨w.heap.size, 0, none⟩) (Nat.le_refl _) _⟩
  · have hform : Hid (Calls Tryz.prog 61 #[.string s] W1 fun e w' => e = .returned (.bool false) ∧ W1 = w') := Lib.hid (HForm.out.mono fun e w' h => by
      rcases h.1 with ⟨hn, _⟩ | ⟨_, he⟩
      · exact absurd hn hwf
      · exact ⟨he, h.2⟩)
    have HF : Hid (∀ w', Below w.heap.size w w' → ParseIs s w (.returned (.tuple #[.agg #[.slice none 0 0], .int .i64 3])) w') := Lib.hid (fun w' hb => ⟨.inr (.inl ⟨hwf, rfl⟩), hb⟩)
    clear hwf HForm
    go_enter Tryz.func33, Tryz.ntmps33
    go_wp2_with fail
    refine hform.out.mono ?_
    rintro e w2 ⟨rfl, rfl⟩
    go_wp2_with fail
    refine bodyPost_ret (res_nat2 rfl _ _ w.heap.size (.slice none 0 0) (.int .i64 3) rfl rfl (HK.out.set_ 0 _)) rfl ?_
    exact HF.out _ (HB.out.setCell (p := ⟨w.heap.size, 0, none⟩) (Nat.le_refl _) _)
end Go.Proofs.YtckglpkafhmehaaGreatDoor
