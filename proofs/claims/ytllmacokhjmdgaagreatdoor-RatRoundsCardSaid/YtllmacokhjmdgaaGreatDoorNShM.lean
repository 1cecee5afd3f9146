/-
  Law 1: words that are shifted.
-/
import Derived.Test.YtllmacokhjmdgaaGreatDoorNBits
namespace Go.Proofs.YtllmacokhjmdgaaGreatDoor
open Go.RowKit
set_option linter.unusedVariables false
theorem pow_part {p : Nat} (hp : p ≤ 64) : 2 ^ p * 2 ^ (64 - p) = 18446744073709551616 := by rw [← Nat.pow_add, show p + (64 - p) = 64 by omega]
/-- A word of a number that is shifted down. -/
def shw (p x y : Nat) : Nat := x / 2 ^ p + (y * 2 ^ (64 - p)) % 18446744073709551616
theorem shw_parts {p x y : Nat} (hp : p ≤ 63) (hx : x < 18446744073709551616) : x / 2 ^ p < 2 ^ (64 - p) ∧ (y * 2 ^ (64 - p)) % 18446744073709551616 = (y % 2 ^ p) * 2 ^ (64 - p) ∧ shw p x y < 18446744073709551616 := by
  have h1 := pow_part (p := p) (by omega)
  have h2 : 0 < 2 ^ p := Nat.two_pow_pos p
  have h3 : 0 < 2 ^ (64 - p) := Nat.two_pow_pos _
  have h4 : x / 2 ^ p < 2 ^ (64 - p) := by rw [Nat.div_lt_iff_lt_mul h2, Nat.mul_comm, h1]; exact hx
  have h5 : (y * 2 ^ (64 - p)) % 18446744073709551616 = (y % 2 ^ p) * 2 ^ (64 - p) := by rw [← h1, Nat.mul_mod_mul_right]
  refine ⟨h4, h5, ?_⟩
  unfold shw
  rw [h5]
  have h6 : y % 2 ^ p < 2 ^ p := Nat.mod_lt _ h2
  have h7 : (y % 2 ^ p + 1) * 2 ^ (64 - p) ≤ 2 ^ p * 2 ^ (64 - p) := Nat.mul_le_mul_right _ (by omega)
  rw [Nat.add_mul, Nat.one_mul, h1] at h7
  omega
theorem wv_mod {r : List Nat} {p : Nat} (hp : p ≤ 63) : wv r % 2 ^ p = r.getD 0 0 % 2 ^ p := by
  cases r with
  | nil => rfl
  | cons x r =>
    simp only [wv, List.getD_cons_zero]
    rw [← pow_part (p := p) (by omega), Nat.mul_assoc, Nat.add_mul_mod_self_left]
theorem shd_step {zs : List Nat} {p k : Nat} (hp : p ≤ 63) (hk : k < zs.length) : wv (zs.drop k) / 2 ^ p = shw p (zs.getD k 0) (zs.getD (k + 1) 0) + 18446744073709551616 * (wv (zs.drop (k + 1)) / 2 ^ p) := by
  have h0 : (zs.drop (k + 1)).getD 0 0 = zs.getD (k + 1) 0 := by rw [List.getD_eq_getElem?_getD, List.getElem?_drop, List.getD_eq_getElem?_getD]
  have h1 := drop_get zs k hk
  rw [h1]
  generalize zs.getD k 0 = x at *
  have h2 := wv_mod (r := zs.drop (k + 1)) hp
  rw [h0] at h2
  generalize zs.getD (k + 1) 0 = y at *
  simp only [wv]
  generalize wv (zs.drop (k + 1)) = R at *
  have hB := pow_part (p := p) (by omega)
  have hpos : 0 < 2 ^ p := Nat.two_pow_pos p
  unfold shw
  have h5 : (y * 2 ^ (64 - p)) % 18446744073709551616 = (y % 2 ^ p) * 2 ^ (64 - p) := by rw [← hB, Nat.mul_mod_mul_right]
  rw [h5, ← h2, ← hB]
  generalize 2 ^ (64 - p) = t at *
  rw [Nat.mul_assoc, Nat.add_mul_div_left _ _ hpos]
  have h6 := Nat.div_add_mod R (2 ^ p)
  generalize R / 2 ^ p = d at *
  generalize R % 2 ^ p = m at *
  rw [← h6, Nat.mul_add, Nat.mul_comm t m]
  have h7 : t * (2 ^ p * d) = 2 ^ p * t * d := by rw [Nat.mul_left_comm, Nat.mul_assoc]
  rw [h7]
  omega
/-- What the loop down keeps. -/
structure Sd (zs : List Nat) (p k : Nat) (ps : List Nat) : Prop where
  len : ps.length = k
  wrd : Wrd ps
  eq : wv ps + 18446744073709551616 ^ k * (wv (zs.drop k) / 2 ^ p) = wv zs / 2 ^ p
theorem sd_step {zs ps : List Nat} {p k : Nat} (hp : p ≤ 63) (hk : k < zs.length) (hw : Wrd zs) (h : Sd zs p k ps) : Sd zs p (k + 1) (ps ++ [shw p (zs.getD k 0) (zs.getD (k + 1) 0)]) := by
  refine ⟨by rw [List.length_append, h.len]; rfl, ?_, ?_⟩
  · intro u hu
    rcases List.mem_append.1 hu with hu | hu
    · exact h.wrd u hu
    · simp only [List.mem_singleton] at hu
      rw [hu]
      exact (shw_parts hp (getW hw k)).2.2
  · rw [← h.eq, shd_step hp hk, wv_append, h.len, Nat.mul_add, Nat.pow_succ, ← Nat.mul_assoc, ← Nat.add_assoc]
    simp [wv]
theorem sd_done {zs ps : List Nat} {p : Nat} (h : Sd zs p zs.length ps) : wv ps = wv zs / 2 ^ p := by
  have h1 := h.eq
  rw [List.drop_length] at h1
  simp only [wv, Nat.zero_div, Nat.mul_zero, Nat.add_zero] at h1
  exact h1
theorem wv_drop {us : List Nat} (hw : Wrd us) (k : Nat) : wv us / 18446744073709551616 ^ k = wv (us.drop k) := by
  have h1 : wv us = wv (us.take k) + 18446744073709551616 ^ (us.take k).length * wv (us.drop k) := by rw [← wv_append, List.take_append_drop]
  have hpos : 0 < 18446744073709551616 ^ k := Nat.pow_pos (by omega)
  by_cases hk : k ≤ us.length
  · have hl : (us.take k).length = k := by rw [List.length_take]; omega
    have h2 := wv_lt (us.take k) (fun u hu => hw u (List.mem_of_mem_take hu))
    rw [hl] at h1 h2
    rw [h1, Nat.add_mul_div_left _ _ hpos, Nat.div_eq_of_lt h2, Nat.zero_add]
  · rw [List.drop_of_length_le (by omega)]
    have h2 := wv_lt us hw
    have h3 : 18446744073709551616 ^ us.length ≤ 18446744073709551616 ^ k := Nat.pow_le_pow_right (by omega) (by omega)
    rw [Nat.div_eq_of_lt (by omega)]
    rfl
theorem shd_whole {us ps : List Nat} {d wh p : Nat} (hw : Wrd us) (hd : d = wh * 64 + p) (h : wv ps = wv (us.drop wh) / 2 ^ p) : wv ps = wv us / 2 ^ d := by
  rw [h, ← wv_drop hw, Nat.div_div_eq_div_mul, hd, Nat.pow_add]
  have e : 18446744073709551616 ^ wh = 2 ^ (wh * 64) := by rw [Nat.mul_comm, Nat.pow_mul]
  rw [e]
/-- What the loop up keeps: the row is A, then c, then noughts. -/
structure Su (us : List Nat) (p wh k : Nat) (A : List Nat) (c : Nat) : Prop where
  len : A.length = wh + k
  wrd : Wrd A
  clt : c < 2 ^ p
  eq : wv A + 18446744073709551616 ^ (wh + k) * c = wv (us.take k) * 2 ^ (wh * 64 + p)
theorem su_step {us A : List Nat} {p wh k c : Nat} (hp : p ≤ 63) (hw : Wrd us) (h : Su us p wh k A c) :
    c < 2 ^ p ∧ (us.getD k 0 * 2 ^ p) % 18446744073709551616 = (us.getD k 0 % 2 ^ (64 - p)) * 2 ^ p ∧ Su us p wh (k + 1) (A ++ [(us.getD k 0 * 2 ^ p) % 18446744073709551616 + c]) (us.getD k 0 / 2 ^ (64 - p)) := by
  have hx := getW hw k
  have he := h.eq
  have e1 := wv_take us k
  have hc := h.clt
  generalize us.getD k 0 = x at *
  have hB := pow_part (p := p) (by omega)
  have hpos : 0 < 2 ^ p := Nat.two_pow_pos p
  have hpos2 : 0 < 2 ^ (64 - p) := Nat.two_pow_pos _
  have h5 : (x * 2 ^ p) % 18446744073709551616 = (x % 2 ^ (64 - p)) * 2 ^ p := by
    have hB2 : 2 ^ (64 - p) * 2 ^ p = 18446744073709551616 := by rw [Nat.mul_comm]; exact hB
    rw [← hB2, Nat.mul_mod_mul_right]
  refine ⟨hc, h5, ?_⟩
  have h6 : x % 2 ^ (64 - p) < 2 ^ (64 - p) := Nat.mod_lt _ hpos2
  have h7 : (x % 2 ^ (64 - p) + 1) * 2 ^ p ≤ 2 ^ (64 - p) * 2 ^ p := Nat.mul_le_mul_right _ (by omega)
  rw [Nat.add_mul, Nat.one_mul, Nat.mul_comm (2 ^ (64 - p)), hB] at h7
  have h8 : x / 2 ^ (64 - p) < 2 ^ p := by rw [Nat.div_lt_iff_lt_mul hpos2, hB]; exact hx
  refine ⟨by rw [List.length_append, h.len]; rfl, ?_, h8, ?_⟩
  · intro u hu
    rcases List.mem_append.1 hu with hu | hu
    · exact h.wrd u hu
    · simp only [List.mem_singleton] at hu
      rw [hu, h5]
      omega
  · rw [wv_append, h.len, e1, Nat.add_mul, ← he, h5]
    have h9 := Nat.div_add_mod x (2 ^ (64 - p))
    have e2 : 18446744073709551616 ^ k * x * 2 ^ (wh * 64 + p) = 18446744073709551616 ^ (wh + k) * (x * 2 ^ p) := by
      have e : 18446744073709551616 ^ wh = 2 ^ (wh * 64) := by rw [Nat.mul_comm, Nat.pow_mul]
      rw [Nat.pow_add, Nat.pow_add, e, Nat.mul_assoc, Nat.mul_left_comm x, ← Nat.mul_assoc, Nat.mul_comm (18446744073709551616 ^ k)]
    rw [e2, ← Nat.add_assoc, Nat.pow_succ, show wv [x % 2 ^ (64 - p) * 2 ^ p + c] = x % 2 ^ (64 - p) * 2 ^ p + c by simp [wv]]
    generalize 18446744073709551616 ^ (wh + k) = P at *
    generalize x % 2 ^ (64 - p) = m at *
    generalize x / 2 ^ (64 - p) = q at *
    have e3 : x * 2 ^ p = 18446744073709551616 * q + m * 2 ^ p := by
      rw [← h9, Nat.add_mul, ← hB]
      congr 1
      rw [Nat.mul_comm (2 ^ (64 - p)), Nat.mul_assoc, Nat.mul_comm, Nat.mul_comm (2 ^ p)]
    rw [e3, Nat.mul_add, Nat.mul_add, Nat.mul_assoc]
    omega
theorem su_done {us A : List Nat} {p wh c : Nat} (hp : p ≤ 63) (h : Su us p wh us.length A c) : Wrd (A ++ [c]) ∧ wv (A ++ [c]) = wv us * 2 ^ (wh * 64 + p) := by
  have h1 := h.eq
  rw [List.take_length] at h1
  have h2 : 2 ^ p ≤ 2 ^ 63 := Nat.pow_le_pow_right (by omega) hp
  have h3 := h.clt
  refine ⟨?_, ?_⟩
  · intro u hu
    rcases List.mem_append.1 hu with hu | hu
    · exact h.wrd u hu
    · simp only [List.mem_singleton] at hu; omega
  · rw [wv_append, h.len, ← h1]; simp [wv]
end Go.Proofs.YtllmacokhjmdgaaGreatDoor
