/-
  Plain mathematics for chapter 10 (fields): nothing of the program is imported here.
-/
import Derived.Test.YtbkcklefkhlciaaPbMath
namespace Go.Proofs.Ytbkcklefkhlciaa
/-- What bytes are as a number, the lowest first. -/
def lit : List UInt8 → Nat
  | [] => 0
  | c :: t => c.toNat + 256 * lit t
theorem lit_lt : ∀ l : List UInt8, lit l < 256 ^ l.length := by
  intro l
  induction l with
  | nil => simp [lit]
  | cons c t ih =>
    have hc : c.toNat < 256 := UInt8.toNat_lt _
    simp only [lit, List.length_cons, Nat.pow_succ]
    omega
theorem lit_snoc : ∀ (l : List UInt8) (c : UInt8), lit (l ++ [c]) = lit l + c.toNat * 256 ^ l.length := by
  intro l
  induction l with
  | nil => intro c; simp [lit]
  | cons d t ih =>
    intro c
    simp only [List.cons_append, lit, ih, List.length_cons, Nat.pow_succ]
    rw [Nat.mul_add, Nat.add_assoc]
    congr 1
    congr 1
    rw [Nat.mul_comm (256 ^ t.length) 256, ← Nat.mul_assoc, ← Nat.mul_assoc, Nat.mul_comm 256 c.toNat]
theorem take_snoc (s : ByteArray) (k : Nat) (h : k < s.size) : s.data.toList.take (k + 1) = s.data.toList.take k ++ [s[k]] := by
  rw [List.take_succ_eq_append_getElem (by simpa using h)]; rfl
theorem lit_step (s : ByteArray) (k : Nat) (h : k < s.size) : lit (s.data.toList.take (k + 1)) = lit (s.data.toList.take k) + s[k].toNat * 256 ^ k := by
  have hl : (s.data.toList.take k).length = k := by simp; omega
  rw [take_snoc s k h, lit_snoc, hl]
theorem lit_take_lt (s : ByteArray) (k : Nat) (h : k ≤ s.size) : lit (s.data.toList.take k) < 256 ^ k := by
  have hl : (s.data.toList.take k).length = k := by simp; omega
  have := lit_lt (s.data.toList.take k)
  rwa [hl] at this
theorem pow256 (k : Nat) (hk : k ≤ 8) : 256 ^ k ≤ 18446744073709551616 := by
  have := Nat.pow_le_pow_right (n := 256) (by omega) hk
  simpa using this
theorem lit_or (V c k : Nat) (hV : V < 256 ^ k) (hk : k ≤ 7) (hc : c < 256) : bits .or .u64 (V : Int) (IntKind.u64.wrap ((c : Int) * 2 ^ (8 * k))) = ((V + c * 256 ^ k : Nat) : Int) := by
  have h1 := pow256 (k + 1) (by omega)
  have h2 : (2 : Int) ^ (8 * k) = ((256 ^ k : Nat) : Int) := by
    rw [show (256 : Nat) ^ k = 2 ^ (8 * k) from by rw [Nat.pow_mul], Int.natCast_pow]; rfl
  have h3 : c * 256 ^ k ≤ 255 * 256 ^ k := Nat.mul_le_mul_right _ (by omega)
  rw [Nat.pow_succ] at h1
  have e : ((c : Int) * 2 ^ (8 * k)) = ((c * 256 ^ k : Nat) : Int) := by rw [h2, Int.natCast_mul]
  rw [e, wrapu64 _ (by omega), u64_or_nat _ _ (by omega) (by omega)]
  rw [Nat.or_comm, nat_join (8 * k) _ _ ?_ ?_, Nat.add_comm]
  · rw [Nat.pow_mul]; simp
  · rw [Nat.pow_mul]; exact hV
theorem gvFrom_le : ∀ (l : List UInt8) (i v : Nat), i ≤ 10 → (gvFrom l i v).2.1 ≤ i + l.length ∧ (gvFrom l i v).2.1 ≤ 10 := by
  intro l
  induction l with
  | nil => intro i v _; simp [gvFrom]
  | cons c t ih =>
    intro i v hi
    simp only [gvFrom]
    (repeat' split)
    · simp
    · simp
    · simp; omega
    · have := ih (i + 1) (v + c.toNat % 128 * 128 ^ i) (by omega)
      simp only [List.length_cons]
      omega
theorem gv_le (l : List UInt8) : (gv l).2.1 ≤ l.length ∧ (gv l).2.1 ≤ 10 := by
  have := gvFrom_le l 0 0 (by omega)
  unfold gv
  omega
theorem gvFrom_no : ∀ (l : List UInt8) (i v : Nat), (gvFrom l i v).2.2 = false → gvFrom l i v = (0, 0, false) := by
  intro l
  induction l with
  | nil => intro i v _; rfl
  | cons c t ih =>
    intro i v h
    simp only [gvFrom] at h ⊢
    by_cases h1 : i = 10
    · simp [h1]
    · simp only [h1, if_false] at h ⊢
      by_cases h2 : i = 9 ∧ 1 < c.toNat
      · simp [h2]
      · simp only [h2, if_false] at h ⊢
        by_cases h3 : c.toNat < 128
        · simp [h3] at h
        · simp only [h3, if_false] at h ⊢
          exact ih _ _ h
theorem gv_no (l : List UInt8) (h : (gv l).2.2 = false) : gv l = (0, 0, false) := gvFrom_no l 0 0 h
theorem gvFrom_pos : ∀ (l : List UInt8) (i v : Nat), (gvFrom l i v).2.2 = true → i < (gvFrom l i v).2.1 := by
  intro l
  induction l with
  | nil => intro i v h; simp [gvFrom] at h
  | cons c t ih =>
    intro i v h
    simp only [gvFrom] at h ⊢
    by_cases h1 : i = 10
    · simp [h1] at h
    · simp only [h1, if_false] at h ⊢
      by_cases h2 : i = 9 ∧ 1 < c.toNat
      · simp [h2] at h
      · simp only [h2, if_false] at h ⊢
        by_cases h3 : c.toNat < 128
        · simp [h3]
        · simp only [h3, if_false] at h ⊢
          have := ih _ _ h
          omega
theorem gv_pos (l : List UInt8) (h : (gv l).2.2 = true) : 1 ≤ (gv l).2.1 := gvFrom_pos l 0 0 h
theorem gvFrom_lt : ∀ (l : List UInt8) (i v : Nat), i ≤ 10 → v < 128 ^ i → v < 18446744073709551616 → (gvFrom l i v).1 < 18446744073709551616 := by
  intro l
  induction l with
  | nil => intro i v _ _ _; simp [gvFrom]
  | cons c t ih =>
    intro i v hi hv hv2
    have hc : c.toNat < 256 := UInt8.toNat_lt _
    simp only [gvFrom]
    by_cases h1 : i = 10
    · simp [h1]
    · simp only [h1, if_false]
      by_cases h2 : i = 9 ∧ 1 < c.toNat
      · simp [h2]
      · simp only [h2, if_false]
        have h9 : i = 9 → c.toNat ≤ 1 := by omega
        have h64 := acc_lt64 v c.toNat i hv (by omega) h9
        by_cases h3 : c.toNat < 128
        · simp only [h3, if_true]; exact h64
        · simp only [h3, if_false]
          exact ih _ _ (by omega) (acc_lt v c.toNat i hv) h64
theorem gv_lt (l : List UInt8) : (gv l).1 < 18446744073709551616 := gvFrom_lt l 0 0 (by omega) (by simp) (by omega)

/-- A field: its number, kind, value and data. -/
structure Fd where
  num : Nat
  kind : Nat
  val : Nat
  data : ByteArray
/-- What follows a tag: the value, the data, and how many bytes it has. -/
def pbody (r : ByteArray) (kind : Nat) : Option (Nat × ByteArray × Nat) :=
  if kind = 0 then if (gv r.data.toList).2.2 = true then some ((gv r.data.toList).1, ⟨#[]⟩, (gv r.data.toList).2.1) else none
  else if kind = 2 then if (gv r.data.toList).2.2 = true ∧ (gv r.data.toList).1 ≤ r.size - (gv r.data.toList).2.1 then some (0, r.extract (gv r.data.toList).2.1 ((gv r.data.toList).2.1 + (gv r.data.toList).1), (gv r.data.toList).2.1 + (gv r.data.toList).1) else none
  else if kind = 5 then if 4 ≤ r.size then some (lit (r.data.toList.take 4), ⟨#[]⟩, 4) else none
  else if kind = 1 then if 8 ≤ r.size then some (lit (r.data.toList.take 8), ⟨#[]⟩, 8) else none
  else none
/-- The field at the front, and how many bytes it has. -/
def pget (s : ByteArray) : Option (Fd × Nat) :=
  if (gv s.data.toList).2.2 = true ∧ 1 ≤ (gv s.data.toList).1 / 8 ∧ (gv s.data.toList).1 / 8 ≤ 536870911 then
    match pbody (s.extract (gv s.data.toList).2.1 s.size) ((gv s.data.toList).1 % 8) with
    | some (v, d, n) => some (⟨(gv s.data.toList).1 / 8, (gv s.data.toList).1 % 8, v, d⟩, (gv s.data.toList).2.1 + n)
    | none => none
  else none
theorem pget_tag (s : ByteArray) (t z : Nat) (hg : gv s.data.toList = (t, z, true)) (h1 : 1 ≤ t / 8) (h2 : t / 8 ≤ 536870911) :
    pget s = match pbody (s.extract z s.size) (t % 8) with | some (v, d, n) => some (⟨t / 8, t % 8, v, d⟩, z + n) | none => none := by
  unfold pget; rw [hg]; simp [h1, h2]
theorem pget_bad (s : ByteArray) (t z : Nat) (b : Bool) (hg : gv s.data.toList = (t, z, b)) (h : b = false ∨ t / 8 = 0 ∨ 536870911 < t / 8) : pget s = none := by
  unfold pget; rw [hg]
  rw [if_neg]
  rintro ⟨h1, h2, h3⟩
  rcases h with h | h | h
  · simp only at h1; rw [h] at h1; cases h1
  · simp only at h2; omega
  · simp only at h3; omega
end Go.Proofs.Ytbkcklefkhlciaa
