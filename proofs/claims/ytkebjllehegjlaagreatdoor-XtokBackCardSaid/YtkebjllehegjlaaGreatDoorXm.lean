/-
  Law 7: plain mathematics: the digits of a number, and what they are worth; the first of a list.
-/
import Derived.Test.YtkebjllehegjlaaGreatDoorUtMath
import Derived.Lib.ParseIntB
namespace Go.Proofs.YtkebjllehegjlaaGreatDoor
set_option linter.unusedVariables false
def dgs (B : Nat) (g : Nat → UInt8) (r : Nat) : List UInt8 := if h : 2 ≤ B ∧ B ≤ r then dgs B g (r / B) ++ [g (r % B)] else [g r]
termination_by r
decreasing_by exact Nat.div_lt_self (by omega) (by omega)
section
variable {B : Nat} {g : Nat → UInt8}
theorem dgs_small {r : Nat} (h : r < B) : dgs B g r = [g r] := by rw [dgs, dif_neg (by omega)]
theorem dgs_big {r : Nat} (h2 : 2 ≤ B) (h : B ≤ r) : dgs B g r = dgs B g (r / B) ++ [g (r % B)] := by rw [dgs, dif_pos ⟨h2, h⟩]
theorem dgs_ne (r : Nat) : dgs B g r ≠ [] := by
  rw [dgs]
  split <;> simp
theorem dgs_len (h2 : 2 ≤ B) : ∀ (k r : Nat), r < B ^ (k + 1) → (dgs B g r).length ≤ k + 1
  | 0, r, h => by
    rw [dgs_small (by simpa using h)]
    exact Nat.le_refl _
  | k + 1, r, h => by
    by_cases hr : r < B
    · rw [dgs_small hr]; simp
    · rw [dgs_big h2 (by omega), List.length_append]
      have := dgs_len h2 k (r / B) (by rw [Nat.div_lt_iff_lt_mul (by omega)]; rwa [← Nat.pow_succ])
      simp only [List.length_cons, List.length_nil]
      omega
theorem dgs_all (h2 : 2 ≤ B) (P : UInt8 → Prop) (hP : ∀ d, d < B → P (g d)) (r : Nat) : ∀ y ∈ dgs B g r, P y := by
  induction r using Nat.strongRecOn with
  | ind r ih =>
    by_cases hr : r < B
    · rw [dgs_small hr]
      intro y hy
      rw [List.mem_singleton.1 hy]
      exact hP r hr
    · rw [dgs_big h2 (by omega)]
      intro y hy
      rcases List.mem_append.1 hy with hy | hy
      · exact ih (r / B) (Nat.div_lt_self (by omega) (by omega)) y hy
      · rw [List.mem_singleton.1 hy]
        exact hP _ (Nat.mod_lt _ (by omega))
/-- What digits are worth. -/
def worth (B : Nat) (v : UInt8 → Nat) (l : List UInt8) : Nat := l.foldl (fun a c => a * B + v c) 0
theorem worth_snoc (v : UInt8 → Nat) (l : List UInt8) (c : UInt8) : worth B v (l ++ [c]) = worth B v l * B + v c := by simp [worth]
theorem worth_dgs (h2 : 2 ≤ B) (v : UInt8 → Nat) (hv : ∀ d, d < B → v (g d) = d) (r : Nat) : worth B v (dgs B g r) = r := by
  induction r using Nat.strongRecOn with
  | ind r ih =>
    by_cases hr : r < B
    · rw [dgs_small hr]
      show 0 * B + v (g r) = r
      rw [hv r hr]; omega
    · rw [dgs_big h2 (by omega), worth_snoc, ih (r / B) (Nat.div_lt_self (by omega) (by omega)), hv _ (Nat.mod_lt _ (by omega))]
      rw [Nat.mul_comm]
      exact Nat.div_add_mod r B
theorem fold_lt (v : UInt8 → Nat) (hB : 0 < B) : ∀ (l : List UInt8) (acc : Nat), (∀ y ∈ l, v y < B) → l.foldl (fun a c => a * B + v c) acc < (acc + 1) * B ^ l.length
  | [], acc, _ => by simp
  | c :: l, acc, hv => by
    have h1 := fold_lt v hB l (acc * B + v c) (fun y hy => hv y (List.mem_cons_of_mem _ hy))
    have h2 := hv c (List.mem_cons_self ..)
    rw [List.foldl_cons, List.length_cons, Nat.pow_succ, Nat.mul_comm (B ^ l.length) B, ← Nat.mul_assoc]
    refine Nat.lt_of_lt_of_le h1 (Nat.mul_le_mul_right _ ?_)
    rw [Nat.add_mul, Nat.one_mul]
    omega
theorem worth_lt (v : UInt8 → Nat) (hB : 0 < B) (l : List UInt8) (hv : ∀ y ∈ l, v y < B) : worth B v l < B ^ l.length := by
  have := fold_lt v hB l 0 hv
  unfold worth
  omega
/-- The digits of v that are still to be written ahead of what is written. -/
def todo (B : Nat) (g : Nat → UInt8) (r v : Nat) (acc : List UInt8) : Prop := (acc = [] ∧ v = r) ∨ (acc ≠ [] ∧ (if v = 0 then [] else dgs B g v) ++ acc = dgs B g r)
theorem todo_step (h2 : 2 ≤ B) {r v : Nat} {acc : List UInt8} (h : todo B g r v acc) (hv : 0 < v ∨ acc = []) : todo B g r (v / B) (g (v % B) :: acc) := by
  refine .inr ⟨by simp, ?_⟩
  have e : (if v / B = 0 then [] else dgs B g (v / B)) ++ (g (v % B) :: acc) = dgs B g v ++ acc := by
    by_cases hb : v < B
    · rw [if_pos (Nat.div_eq_of_lt hb), dgs_small hb, Nat.mod_eq_of_lt hb]; rfl
    · have h5 : 0 < v / B := Nat.div_pos (by omega) (by omega)
      rw [if_neg (by omega), dgs_big (r := v) h2 (by omega), List.append_assoc]; rfl
  rw [e]
  rcases h with ⟨h1, h3⟩ | ⟨h1, h3⟩
  · rw [h1, h3, List.append_nil]
  · rw [← h3, if_neg (by rcases hv with h | h; omega; exact absurd h h1)]
theorem todo_end {r : Nat} {acc : List UInt8} (h : todo B g r 0 acc) (ha : acc ≠ []) : acc = dgs B g r := by
  rcases h with ⟨h1, _⟩ | ⟨_, h2⟩
  · exact absurd h1 ha
  · rwa [if_pos rfl] at h2
end
def gDec (d : Nat) : UInt8 := UInt8.ofNat (48 + d)
def gHex (upper : Bool) (d : Nat) : UInt8 := if d < 10 then UInt8.ofNat (48 + d) else UInt8.ofNat ((if upper = true then 55 else 87) + d)
def vHex (c : UInt8) : Nat := if c.toNat ≤ 57 then c.toNat - 48 else (c.toNat ||| 32) - 87
theorem gDec_nat : ∀ d, d < 10 → (gDec d).toNat = 48 + d ∧ vHex (gDec d) = d := by decide
theorem gHex_ok : ∀ (u : Bool) (d : Nat), d < 16 → vHex (gHex u d) = d ∧ ((48 ≤ (gHex u d).toNat ∧ (gHex u d).toNat ≤ 57) ∨ (65 ≤ (gHex u d).toNat ∧ (gHex u d).toNat ≤ 70) ∨ (97 ≤ (gHex u d).toNat ∧ (gHex u d).toNat ≤ 102)) := by decide
/-- What a digit of base ten or sixteen is. -/
def Dig (B : Nat) (c : UInt8) : Prop := vHex c < B ∧ ((48 ≤ c.toNat ∧ c.toNat ≤ 57) ∨ (97 ≤ (c.toNat ||| 32) ∧ (c.toNat ||| 32) ≤ 122 ∧ 57 < c.toNat))
theorem or32 : ∀ n, n < 103 → 65 ≤ n → (n ≤ 70 ∨ 97 ≤ n) → 97 ≤ (n ||| 32) ∧ (n ||| 32) ≤ 122 := by decide
theorem dig_dec (d : Nat) (h : d < 10) : Dig 10 (gDec d) := by
  obtain ⟨h1, h2⟩ := gDec_nat d h
  exact ⟨by rw [h2]; exact h, .inl (by omega)⟩
theorem dig_hex (u : Bool) (d : Nat) (h : d < 16) : Dig 16 (gHex u d) := by
  obtain ⟨h1, h2⟩ := gHex_ok u d h
  refine ⟨by rw [h1]; exact h, ?_⟩
  rcases h2 with h2 | h2 | h2
  · exact .inl h2
  · have := or32 _ (by omega) h2.1 (.inl h2.2); exact .inr ⟨this.1, this.2, by omega⟩
  · have := or32 _ (by omega) (by omega) (.inr h2.1); exact .inr ⟨this.1, this.2, by omega⟩
theorem find_of_prefix {α : Type} (p : α → Bool) (l pre : List α) (x : α) (h : pre ++ [x] <+: l) (hp : ∀ y ∈ pre, p y = false) (hx : p x = true) : l.find? p = some x := by
  obtain ⟨t, rfl⟩ := h
  rw [List.append_assoc, List.find?_append, List.find?_eq_none.2 (fun y hy => by rw [hp y hy]; decide)]
  simp [hx]
theorem find_none {α : Type} (p : α → Bool) (l : List α) (hp : ∀ y ∈ l, p y = false) : l.find? p = none := List.find?_eq_none.2 (fun y hy => by rw [hp y hy]; decide)
end Go.Proofs.YtkebjllehegjlaaGreatDoor
