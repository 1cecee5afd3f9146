/-
  Plain mathematics for chapter 10 (numbers as bytes): nothing of the program is imported here.
-/
import Derived.WalkKit
import Derived.Lib.Hide
import Derived.Laws.BitsAllLaws
namespace Go.Proofs.Ytbkcklefkhlciaa
/-- What the first bytes of a list are as a number in groups of seven bits, from byte i on, v being what is in front. -/
def gvFrom (l : List UInt8) (i v : Nat) : Nat × Nat × Bool :=
  match l with
  | [] => (0, 0, false)
  | c :: t => if i = 10 then (0, 0, false) else if i = 9 ∧ 1 < c.toNat then (0, 0, false)
    else if c.toNat < 128 then (v + c.toNat % 128 * 128 ^ i, i + 1, true) else gvFrom t (i + 1) (v + c.toNat % 128 * 128 ^ i)
def gv (l : List UInt8) : Nat × Nat × Bool := gvFrom l 0 0
def p128 (k : Nat) : Nat := 128 ^ k
theorem p128_succ (k : Nat) : p128 k * 128 = p128 (k + 1) := by unfold p128; rw [Nat.pow_succ]

theorem drop_step (s : ByteArray) (k : Nat) (h : k < s.size) : s.data.toList.drop k = s[k] :: s.data.toList.drop (k + 1) := by
  rw [List.drop_eq_getElem_cons (by simpa using h)]; rfl
theorem low7 : ∀ c : Nat, c < 256 → c &&& 18446744073709551487 = c % 128 := by
  have h : ∀ c : Fin 256, c.val &&& 18446744073709551487 = c.val % 128 := by decide +kernel
  exact fun c hc => h ⟨c, hc⟩
theorem andNot128 (c : Nat) (hc : c < 256) : bits .andNot .u64 (c : Int) 128 = ((c % 128 : Nat) : Int) := by
  have h := u64_andNot_nat c 128 (by omega) (by omega)
  rw [low7 c hc] at h
  exact h
theorem wrapu64 (n : Nat) (h : n < 18446744073709551616) : IntKind.u64.wrap (n : Int) = n := IntWalk.u64_in _ ⟨by omega, by omega⟩
theorem pow9 (k : Nat) (hk : k ≤ 8) : 128 ^ k ≤ 72057594037927936 := by
  have := Nat.pow_le_pow_right (n := 128) (by omega) hk
  simpa using this
/-- The bounds that the k-th group keeps. -/
theorem acc_lt (V c k : Nat) (hV : V < 128 ^ k) : V + c % 128 * 128 ^ k < 128 ^ (k + 1) := by
  have h1 : c % 128 ≤ 127 := by omega
  have h2 : c % 128 * 128 ^ k ≤ 127 * 128 ^ k := Nat.mul_le_mul_right _ h1
  rw [Nat.pow_succ]; omega
theorem acc_lt64 (V c k : Nat) (hV : V < 128 ^ k) (hk : k ≤ 9) (h9 : k = 9 → c ≤ 1) : V + c % 128 * 128 ^ k < 18446744073709551616 := by
  by_cases h : k = 9
  · subst h
    have hc := h9 rfl
    have : c % 128 ≤ 1 := by omega
    have h2 : c % 128 * 128 ^ 9 ≤ 1 * 128 ^ 9 := Nat.mul_le_mul_right _ this
    simp at hV h2 ⊢; omega
  · have h1 := acc_lt V c k hV
    have h2 : 128 ^ (k + 1) ≤ 128 ^ 9 := Nat.pow_le_pow_right (by omega) (by omega)
    simp at h2; omega
theorem acc_or (V c k : Nat) (hV : V < 128 ^ k) (hk : k ≤ 9) (h9 : k = 9 → c ≤ 1) (hc : c < 256) :
    bits .or .u64 (V : Int) (IntKind.u64.wrap (bits .andNot .u64 (c : Int) 128 * 2 ^ (7 * k))) = ((V + c % 128 * 128 ^ k : Nat) : Int) := by
  have hl := acc_lt64 V c k hV hk h9
  rw [andNot128 c hc]
  have e : (((c % 128 : Nat) : Int) * 2 ^ (7 * k)) = ((c % 128 * 128 ^ k : Nat) : Int) := by
    have h2 : (2 : Int) ^ (7 * k) = ((128 ^ k : Nat) : Int) := by
      rw [show (128 : Nat) ^ k = 2 ^ (7 * k) from by rw [Nat.pow_mul], Int.natCast_pow]; rfl
    rw [h2, Int.natCast_mul]
  rw [e, wrapu64 _ (by omega), u64_or_nat _ _ (by omega) (by omega)]
  rw [Nat.or_comm, nat_join (7 * k) _ _ ?_ ?_, Nat.add_comm]
  · rw [Nat.pow_mul]; simp
  · rw [Nat.pow_mul]; exact hV
theorem acc_or9 (V c : Nat) (hV : V < 128 ^ 9) (h9 : c ≤ 1) :
    bits .or .u64 (V : Int) (IntKind.u64.wrap (bits .andNot .u64 (c : Int) 128 * 9223372036854775808)) = ((V + c % 128 * 128 ^ 9 : Nat) : Int) :=
  acc_or V c 9 hV (by omega) (fun _ => h9) (by omega)
theorem acc_ref (V c k : Nat) (hV : V < 128 ^ k) (hk : k ≤ 9) (h9 : k = 9 → c ≤ 1) :
    IntKind.u64.wrap ((V : Int) + IntKind.u64.wrap ((c : Int) % 128 * (p128 k : Int))) = ((V + c % 128 * 128 ^ k : Nat) : Int) := by
  have hl := acc_lt64 V c k hV hk h9
  have e : ((c : Int) % 128 * (p128 k : Int)) = ((c % 128 * 128 ^ k : Nat) : Int) := by
    unfold p128; rw [Int.natCast_mul]; rfl
  rw [e, wrapu64 _ (by omega)]
  exact wrapu64 _ hl
theorem mul_ref (k : Nat) (hk : k ≤ 8) : IntKind.u64.wrap ((p128 k : Int) * 128) = (p128 (k + 1) : Int) := by
  have h := pow9 k hk
  have e : ((p128 k : Int) * 128) = ((p128 (k + 1) : Nat) : Int) := by rw [← p128_succ]; rfl
  rw [e]; apply wrapu64; rw [← p128_succ]; unfold p128; omega
theorem gv_end (i v : Nat) : gvFrom [] i v = (0, 0, false) := rfl
theorem gv_nine (c : UInt8) (t : List UInt8) (i v : Nat) (h : i = 9) (hc : 1 < c.toNat) : gvFrom (c :: t) i v = (0, 0, false) := by
  unfold gvFrom; rw [if_neg (by omega), if_pos ⟨h, hc⟩]
theorem gv_last (c : UInt8) (t : List UInt8) (i v : Nat) (h : i ≤ 9) (h9 : i = 9 → c.toNat ≤ 1) (hc : c.toNat < 128) : gvFrom (c :: t) i v = (v + c.toNat % 128 * 128 ^ i, i + 1, true) := by
  unfold gvFrom; rw [if_neg (by omega), if_neg (by omega), if_pos hc]
theorem gv_more (c : UInt8) (t : List UInt8) (i v : Nat) (h : i ≤ 8) (hc : 128 ≤ c.toNat) : gvFrom (c :: t) i v = gvFrom t (i + 1) (v + c.toNat % 128 * 128 ^ i) := by
  rw [gvFrom]; rw [if_neg (by omega), if_neg (by omega), if_neg (by omega)]

/-- A number as bytes in groups of seven bits. -/
def pv (v : Nat) : List Nat := if v < 128 then [v] else (v % 128 + 128) :: pv (v / 128)
termination_by v
decreasing_by omega
theorem pv_small (v : Nat) (h : v < 128) : pv v = [v] := by rw [pv, if_pos h]
theorem pv_great (v : Nat) (h : 128 ≤ v) : pv v = (v % 128 + 128) :: pv (v / 128) := by rw [pv, if_neg (by omega)]
theorem pv_length : ∀ (f v : Nat), v < 128 ^ (f + 1) → (pv v).length ≤ f + 1 := by
  intro f
  induction f with
  | zero => intro v h; rw [pv_small v (by simpa using h)]; simp
  | succ f ih =>
    intro v h
    by_cases hv : v < 128
    · rw [pv_small v hv]; simp
    · rw [pv_great v (by omega)]
      have := ih (v / 128) (by rw [Nat.pow_succ] at h; omega)
      simp; omega
theorem pv_ten (v : Nat) (h : v < 18446744073709551616) : (pv v).length ≤ 10 := pv_length 9 v (by omega)
theorem pv_byte : ∀ (f v : Nat), v < 128 ^ (f + 1) → ∀ b ∈ pv v, b < 256 := by
  intro f
  induction f with
  | zero => intro v h; rw [pv_small v (by simpa using h)]; intro b hb; simp at hb h; omega
  | succ f ih =>
    intro v h b hb
    by_cases hv : v < 128
    · rw [pv_small v hv] at hb; simp at hb; omega
    · rw [pv_great v (by omega)] at hb
      rcases List.mem_cons.1 hb with rfl | hb
      · omega
      · exact ih (v / 128) (by rw [Nat.pow_succ] at h; omega) b hb
theorem pv_bytes (v : Nat) (h : v < 18446744073709551616) : ∀ b ∈ pv v, b < 256 := pv_byte 9 v (by omega)
def bv (n : Nat) : Value := .int .u8 (n : Int)
theorem bv_one (l : List Nat) : ∀ u ∈ l.map bv, u.oneCell' = true := by
  intro u hu
  obtain ⟨n, _, rfl⟩ := List.mem_map.1 hu
  rfl
theorem byte_more (x : Nat) : bits .or .u8 ((x : Int) % 256) 128 = ((x % 128 + 128 : Nat) : Int) := by
  have e : (x : Int) % 256 = ((x % 256 : Nat) : Int) := by omega
  rw [e]
  have h := u8_or_nat (x % 256) 128 (by omega) (by omega)
  have hh : ∀ c : Fin 256, c.val ||| 128 = c.val % 128 + 128 := by decide +kernel
  have h2 := hh ⟨x % 256, by omega⟩
  simp only at h2
  rw [h2] at h
  rw [show x % 256 % 128 = x % 128 from by omega] at h
  exact h
theorem byte_more_ref (x : Nat) : IntKind.u8.wrap (IntKind.u64.wrap ((x : Int) % 128 + 128)) = ((x % 128 + 128 : Nat) : Int) := by
  rw [show ((x : Int) % 128 + 128) = ((x % 128 + 128 : Nat) : Int) from by omega, wrapu64 _ (by omega), IntKind.wrap_u8']; omega
theorem byte_last (x : Nat) (h : x < 128) : (x : Int) % 256 = (x : Int) := by omega
/-- Bytes as a text. -/
def txt (l : List Nat) : ByteArray := ⟨(l.map UInt8.ofNat).toArray⟩
theorem txt_list (l : List Nat) : (txt l).data.toList = l.map UInt8.ofNat := rfl
theorem txt_size (l : List Nat) : (txt l).size = l.length := by simp [txt, ByteArray.size]

/-- An int, turned into a number without a sign, and back. -/
def zz (n : Int) : Int := if 0 ≤ n then 2 * n else -2 * n - 1
def uz (n : Nat) : Int := if n % 2 = 0 then ((n / 2 : Nat) : Int) else -((n / 2 : Nat) : Int) - 1
theorem zz_lo (n : Int) : 0 ≤ zz n := by unfold zz; split <;> omega
theorem zz_hi (n : Int) (h0 : -9223372036854775808 ≤ n) (h1 : n ≤ 9223372036854775807) : zz n < 18446744073709551616 := by unfold zz; split <;> omega
theorem uz_zz (n : Int) : uz (zz n).toNat = n := by
  unfold uz zz
  by_cases h : 0 ≤ n
  · rw [if_pos h]; rw [if_pos (by omega)]; omega
  · rw [if_neg h]; rw [if_neg (by omega)]; omega
theorem zz_uz (n : Nat) : zz (uz n) = n := by
  unfold uz
  by_cases h : n % 2 = 0
  · rw [if_pos h]; unfold zz; rw [if_pos (by omega)]; omega
  · rw [if_neg h]; unfold zz; rw [if_neg (by omega)]; omega
theorem uz_lo (n : Nat) (h : n < 18446744073709551616) : -9223372036854775808 ≤ uz n := by unfold uz; split <;> omega
theorem uz_hi (n : Nat) (h : n < 18446744073709551616) : uz n ≤ 9223372036854775807 := by unfold uz; split <;> omega
theorem xor_ones (a : Nat) (ha : a < 18446744073709551616) : bits .xor .u64 (a : Int) (18446744073709551615 : Int) = ((18446744073709551615 - a : Nat) : Int) := by
  show IntKind.u64.wrap ((BitVec.ofInt 64 (a : Int) ^^^ BitVec.ofInt 64 (18446744073709551615 : Int)).toNat : Int) = _
  have h1 : BitVec.ofInt 64 (18446744073709551615 : Int) = BitVec.allOnes 64 := by decide
  rw [h1, BitVec.xor_allOnes, BitVec.toNat_not, ofInt_u64 a ha, IntKind.wrap_u64]
  omega
theorem zz_form (n : Int) (h0 : -9223372036854775808 ≤ n) (h1 : n ≤ 9223372036854775807) :
    bits .xor .u64 (IntKind.u64.wrap (IntKind.u64.wrap n * 2)) (IntKind.u64.wrap (n / 9223372036854775808)) = zz n := by
  by_cases h : 0 ≤ n
  · have e1 : IntKind.u64.wrap (IntKind.u64.wrap n * 2) = ((2 * n.toNat : Nat) : Int) := by rw [IntKind.wrap_u64, IntKind.wrap_u64]; omega
    have e2 : IntKind.u64.wrap (n / 9223372036854775808) = ((0 : Nat) : Int) := by rw [IntKind.wrap_u64]; omega
    rw [e1, e2, u64_xor_nat _ _ (by omega) (by omega), Nat.xor_zero]
    unfold zz; rw [if_pos h]; omega
  · have e1 : IntKind.u64.wrap (IntKind.u64.wrap n * 2) = (((2 * n + 18446744073709551616).toNat : Nat) : Int) := by rw [IntKind.wrap_u64, IntKind.wrap_u64]; omega
    have e2 : IntKind.u64.wrap (n / 9223372036854775808) = (18446744073709551615 : Int) := by rw [IntKind.wrap_u64]; omega
    rw [e1, e2, xor_ones _ (by omega)]
    unfold zz; rw [if_neg h]; omega
theorem i64_not' (a : Nat) (ha : a < 9223372036854775808) : bits .xor .i64 (a : Int) (-1) = -1 - (a : Int) := by
  show IntKind.i64.wrap ((BitVec.ofInt 64 (a : Int) ^^^ BitVec.ofInt 64 (-1)).toNat : Int) = _
  have h1 : BitVec.ofInt 64 (-1) = BitVec.allOnes 64 := by decide
  rw [h1, BitVec.xor_allOnes, BitVec.toNat_not, ofInt_u64 a (by omega)]
  simp [IntKind.wrap, IntKind.bits, IntKind.signed]
  omega
theorem i64_xor0 (a : Nat) (ha : a < 9223372036854775808) : bits .xor .i64 (a : Int) 0 = (a : Int) := by
  show IntKind.i64.wrap ((BitVec.ofInt 64 (a : Int) ^^^ BitVec.ofInt 64 0).toNat : Int) = _
  have h1 : BitVec.ofInt 64 0 = (0 : BitVec 64) := by decide
  rw [h1, BitVec.toNat_xor, ofInt_u64 a (by omega)]
  simp [IntKind.wrap, IntKind.bits, IntKind.signed]
  omega
theorem uz_form (n : Nat) (h : n < 18446744073709551616) : bits .xor .i64 ((n : Int) / 2) (Go.RowKit.wrap64 (-Go.RowKit.wrap64 (bits .and .u64 (n : Int) 1))) = uz n := by
  have e0 : bits .and .u64 (n : Int) 1 = ((n % 2 : Nat) : Int) := by
    have := u64_and_nat n 1 h (by omega)
    rw [nat_mask1] at this
    exact this
  have e1 : (n : Int) / 2 = ((n / 2 : Nat) : Int) := by omega
  rw [e0, e1]
  by_cases hp : n % 2 = 0
  · rw [hp, show Go.RowKit.wrap64 (-Go.RowKit.wrap64 ((0 : Nat) : Int)) = 0 from by unfold Go.RowKit.wrap64; omega, i64_xor0 _ (by omega)]
    unfold uz; rw [if_pos hp]
  · rw [show n % 2 = 1 from by omega, show Go.RowKit.wrap64 (-Go.RowKit.wrap64 ((1 : Nat) : Int)) = -1 from by unfold Go.RowKit.wrap64; omega, i64_not' _ (by omega)]
    unfold uz; rw [if_neg hp]; omega

theorem ofNat_toNat (n : Nat) (h : n < 256) : (UInt8.ofNat n).toNat = n := by simp; omega
/-- A number that was written is read again, whatever stands behind it. -/
theorem gv_pv : ∀ (f i v V : Nat) (t : List UInt8), f = 9 - i → i ≤ 9 → v * 128 ^ i < 18446744073709551616 →
    gvFrom ((pv v).map UInt8.ofNat ++ t) i V = (V + v * 128 ^ i, i + (pv v).length, true) := by
  intro f
  induction f with
  | zero =>
    intro i v V t hf hi hv
    obtain rfl : i = 9 := by omega
    have hv1 : v ≤ 1 := by simp at hv; omega
    rw [pv_small v (by omega)]
    have e := ofNat_toNat v (by omega)
    simp only [List.map_cons, List.map_nil, List.cons_append, List.nil_append]
    rw [gv_last _ _ _ _ (by omega) (by omega) (by omega), e, show v % 128 = v from by omega]
    rfl
  | succ f ih =>
    intro i v V t hf hi hv
    by_cases h : v < 128
    · rw [pv_small v h]
      have e := ofNat_toNat v (by omega)
      simp only [List.map_cons, List.map_nil, List.cons_append, List.nil_append]
      rw [gv_last _ _ _ _ (by omega) (by omega) (by omega), e, show v % 128 = v from by omega]
      rfl
    · rw [pv_great v (by omega)]
      have e := ofNat_toNat (v % 128 + 128) (by omega)
      simp only [List.map_cons, List.cons_append]
      rw [gv_more _ _ _ _ (by omega) (by omega), e, show (v % 128 + 128) % 128 = v % 128 from by omega]
      have hp : 128 ^ (i + 1) = 128 ^ i * 128 := Nat.pow_succ ..
      have hd : v / 128 * 128 ^ (i + 1) + v % 128 * 128 ^ i = v * 128 ^ i := by
        rw [hp, Nat.mul_comm (128 ^ i) 128, ← Nat.mul_assoc, ← Nat.add_mul]
        congr 1; omega
      rw [ih (i + 1) (v / 128) _ t (by omega) (by omega) (by omega)]
      simp only [List.length_cons, Prod.mk.injEq, and_true]
      omega
theorem gv_back (v : Nat) (t : List UInt8) (h : v < 18446744073709551616) : gv ((pv v).map UInt8.ofNat ++ t) = (v, (pv v).length, true) := by
  unfold gv
  rw [gv_pv 9 0 v 0 t rfl (by omega) (by simpa using h)]
  simp

/-- A number in m more bytes than it needs. -/
def pl (v m : Nat) : List Nat := if v < 128 then (v + 128) :: (List.replicate (m - 1) 128 ++ [0]) else (v % 128 + 128) :: pl (v / 128) m
termination_by v
decreasing_by omega
theorem pl_small (v m : Nat) (h : v < 128) : pl v m = (v + 128) :: (List.replicate (m - 1) 128 ++ [0]) := by rw [pl, if_pos h]
theorem pl_great (v m : Nat) (h : 128 ≤ v) : pl v m = (v % 128 + 128) :: pl (v / 128) m := by rw [pl, if_neg (by omega)]
/-- The last byte marked, then what stands behind it. -/
theorem pl_eq : ∀ (f v m : Nat), v < 128 ^ (f + 1) → pl v m = (pv v).dropLast ++ ((pv v).getLastD 0 + 128) :: (List.replicate (m - 1) 128 ++ [0]) := by
  intro f
  induction f with
  | zero => intro v m h; rw [pl_small v m (by simpa using h), pv_small v (by simpa using h)]; simp
  | succ f ih =>
    intro v m h
    by_cases hv : v < 128
    · rw [pl_small v m hv, pv_small v hv]; simp
    · rw [pl_great v m (by omega), pv_great v (by omega), ih (v / 128) m (by rw [Nat.pow_succ] at h; omega)]
      have hne : pv (v / 128) ≠ [] := by
        intro e
        by_cases h2 : v / 128 < 128
        · rw [pv_small _ h2] at e; cases e
        · rw [pv_great _ (by omega)] at e; cases e
      obtain ⟨a, t, ht⟩ := List.exists_cons_of_ne_nil hne
      rw [ht]
      simp
theorem pv_ne (v : Nat) : pv v ≠ [] := by
  intro e
  by_cases h2 : v < 128
  · rw [pv_small _ h2] at e; cases e
  · rw [pv_great _ (by omega)] at e; cases e
theorem gv_rep : ∀ (k i V : Nat), i ≤ 10 → gvFrom ((List.replicate k 128 ++ [0]).map UInt8.ofNat) i V = if i + k + 1 ≤ 10 then (V, i + k + 1, true) else (0, 0, false) := by
  intro k
  induction k with
  | zero =>
    intro i V hi
    by_cases h : i = 10
    · subst h; rfl
    · simp only [List.replicate_zero, List.nil_append, List.map_cons, List.map_nil]
      rw [gv_last _ _ _ _ (by omega) (by intro _; decide) (by decide), if_pos (by omega)]
      simp
  | succ k ih =>
    intro i V hi
    by_cases h : i = 10
    · subst h
      rw [if_neg (by omega)]
      rfl
    · simp only [List.replicate_succ, List.cons_append, List.map_cons]
      by_cases h9 : i = 9
      · subst h9
        rw [gv_nine _ _ _ _ rfl (by decide), if_neg (by omega)]
      · rw [gv_more _ _ _ _ (by omega) (by decide), ih (i + 1) _ (by omega)]
        rw [show i + 1 + k + 1 = i + (k + 1) + 1 from by omega]
        simp
theorem gv_long : ∀ (f i v V m : Nat), f = 9 - i → i ≤ 9 → 1 ≤ m → v * 128 ^ i < 18446744073709551616 →
    gvFrom ((pl v m).map UInt8.ofNat) i V = if i + ((pv v).length + m) ≤ 10 then (V + v * 128 ^ i, i + ((pv v).length + m), true) else (0, 0, false) := by
  intro f
  induction f with
  | zero =>
    intro i v V m hf hi hm hv
    obtain rfl : i = 9 := by omega
    have hv1 : v ≤ 1 := by simp at hv; omega
    rw [pl_small v m (by omega), pv_small v (by omega)]
    simp only [List.map_cons]
    have e := ofNat_toNat (v + 128) (by omega)
    rw [gv_nine _ _ _ _ rfl (by rw [e]; omega), if_neg (by simp; omega)]
  | succ f ih =>
    intro i v V m hf hi hm hv
    by_cases h : v < 128
    · rw [pl_small v m h, pv_small v h]
      have e := ofNat_toNat (v + 128) (by omega)
      simp only [List.map_cons]
      rw [gv_more _ _ _ _ (by omega) (by omega), e, gv_rep (m - 1) (i + 1) _ (by omega), show (v + 128) % 128 = v from by omega]
      rw [show i + 1 + (m - 1) + 1 = i + ([v].length + m) from by simp; omega]
    · rw [pl_great v m (by omega), pv_great v (by omega)]
      have e := ofNat_toNat (v % 128 + 128) (by omega)
      simp only [List.map_cons]
      rw [gv_more _ _ _ _ (by omega) (by omega), e, show (v % 128 + 128) % 128 = v % 128 from by omega]
      have hp : 128 ^ (i + 1) = 128 ^ i * 128 := Nat.pow_succ ..
      have hd : v / 128 * 128 ^ (i + 1) + v % 128 * 128 ^ i = v * 128 ^ i := by
        rw [hp, Nat.mul_comm (128 ^ i) 128, ← Nat.mul_assoc, ← Nat.add_mul]
        congr 1; omega
      rw [ih (i + 1) (v / 128) _ m (by omega) (by omega) hm (by omega)]
      rw [show i + 1 + ((pv (v / 128)).length + m) = i + (((v % 128 + 128) :: pv (v / 128)).length + m) from by simp; omega]
      rw [show V + v % 128 * 128 ^ i + v / 128 * 128 ^ (i + 1) = V + v * 128 ^ i from by omega]
theorem gv_longer (v m : Nat) (h : v < 18446744073709551616) (hm : 1 ≤ m) : gv ((pl v m).map UInt8.ofNat) = if (pv v).length + m ≤ 10 then (v, (pv v).length + m, true) else (0, 0, false) := by
  unfold gv
  rw [gv_long 9 0 v 0 m rfl (by omega) hm (by simpa using h)]
  simp
theorem wf_u64 {a : Int} (h : (Lit.int .u64 a).wf = true) : 0 ≤ a ∧ a < 18446744073709551616 := by
  simp [Lit.wf, IntKind.min, IntKind.max, IntKind.bits, IntKind.signed] at h; omega
theorem wf_i64 {a : Int} (h : (Lit.int .i64 a).wf = true) : -9223372036854775808 ≤ a ∧ a ≤ 9223372036854775807 := by
  simp [Lit.wf, IntKind.min, IntKind.max, IntKind.bits, IntKind.signed] at h; omega
theorem pv_last' : ∀ (f v : Nat), v < 128 ^ (f + 1) → (pv v).getLastD 0 < 128 := by
  intro f
  induction f with
  | zero => intro v h; rw [pv_small v (by simpa using h)]; simpa using h
  | succ f ih =>
    intro v h
    by_cases hv : v < 128
    · rw [pv_small v hv]; simpa using hv
    · rw [pv_great v (by omega)]
      have := ih (v / 128) (by rw [Nat.pow_succ] at h; omega)
      obtain ⟨a, t, ht⟩ := List.exists_cons_of_ne_nil (pv_ne (v / 128))
      rw [ht] at this ⊢
      simpa using this
theorem pv_last (v : Nat) (h : v < 18446744073709551616) : (pv v).getLastD 0 < 128 := pv_last' 9 v (by omega)
theorem byte_mark (x : Nat) (hx : x < 128) : bits .or .u8 (x : Int) 128 = ((x + 128 : Nat) : Int) := by
  have h := u8_or_nat x 128 (by omega) (by omega)
  have hh : ∀ c : Fin 128, c.val ||| 128 = c.val + 128 := by decide +kernel
  have h2 := hh ⟨x, hx⟩
  simp only at h2
  rw [h2] at h
  exact h
end Go.Proofs.Ytbkcklefkhlciaa
