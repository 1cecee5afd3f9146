/-
  Law 1: the math of a difference, word by word.
-/
import Derived.Test.YtglcgkgceadbkaaDoorNTake
namespace Go.Proofs.YtglcgkgceadbkaaDoor
/-- What the loops keep: ps are the words that are done, bb the borrow. -/
structure Sb (us vs : List Nat) (k : Nat) (ps : List Nat) (bb : Nat) : Prop where
  len : ps.length = k
  wrd : Wrd ps
  ble : bb ≤ 1
  eq : wv ps + wv (vs.take k) = wv (us.take k) + 18446744073709551616 ^ k * bb
theorem sb_zero (us vs : List Nat) : Sb us vs 0 [] 0 := ⟨rfl, fun u hu => (by cases hu), by omega, by simp [wv]⟩
theorem sb_fin {B P df y bb x b' A V Z wps wvs wzs Q : Nat} (h1 : wps = A + P * df) (h2 : wvs = V + P * y) (h3 : wzs = Z + P * x) (h4 : Q = P * B) (he : A + V = Z + P * bb)
    (e3 : df + (y + bb) = x + B * b') : wps + wvs = wzs + Q * b' := by
  subst h1 h2 h3 h4
  have e4 : P * df + P * y + P * bb = P * x + P * (B * b') := by
    rw [← Nat.mul_add, ← Nat.mul_add, ← Nat.mul_add]
    congr 1
    omega
  rw [Nat.mul_assoc P B]
  generalize P * (B * b') = R at *
  generalize P * y = S at *
  generalize P * bb = T at *
  generalize P * df = M at *
  generalize P * x = N at *
  omega
theorem sb_step {us vs ps : List Nat} {k bb : Nat} (h : Sb us vs k ps bb) (hx : us.getD k 0 < 18446744073709551616) (hy : vs.getD k 0 < 18446744073709551616) :
    Sb us vs (k + 1) (ps ++ [(us.getD k 0 + 18446744073709551616 - vs.getD k 0 - bb) % 18446744073709551616]) (if us.getD k 0 < vs.getD k 0 + bb then 1 else 0) := by
  refine ⟨by rw [List.length_append, h.len]; rfl, fun u hu => ?_, by split <;> omega, ?_⟩
  · rcases List.mem_append.1 hu with hu | hu
    · exact h.wrd u hu
    · rw [List.mem_singleton] at hu
      rw [hu]; exact Nat.mod_lt _ (by decide)
  · exact sb_fin (wv_snoc ps _ k h.len) (wv_take vs k) (wv_take us k) (Nat.pow_succ _ k) h.eq (sub_word hx hy h.ble)
/-- No borrow is left, and the shorter number is done: the rest is as it was. -/
theorem sb_done {us vs ps : List Nat} {k : Nat} (h : Sb us vs k ps 0) (hk : k ≤ us.length) (hm : vs.length ≤ k) : wv (ps ++ us.drop k) + wv vs = wv us := by
  have he := h.eq
  rw [List.take_of_length_le hm, Nat.mul_zero, Nat.add_zero] at he
  have h1 : wv us = wv (us.take k) + 18446744073709551616 ^ k * wv (us.drop k) := by
    conv => lhs; rw [← List.take_append_drop k us]
    rw [wv_append, List.length_take, Nat.min_eq_left hk]
  rw [wv_append, h.len, h1, ← he]
  omega
/-- All words are done: there is no borrow. -/
theorem sb_all {us vs ps : List Nat} {k bb : Nat} (h : Sb us vs k ps bb) (hk : us.length ≤ k) (hm : vs.length ≤ k) (hle : wv vs ≤ wv us) : bb = 0 := by
  have he := h.eq
  rw [List.take_of_length_le hm, List.take_of_length_le hk] at he
  have h1 := wv_lt ps h.wrd
  rw [h.len] at h1
  rcases Nat.eq_zero_or_pos bb with h0 | h0
  · exact h0
  · exfalso
    have : bb = 1 := by have := h.ble; omega
    subst this
    rw [Nat.mul_one] at he
    omega
end Go.Proofs.YtglcgkgceadbkaaDoor
