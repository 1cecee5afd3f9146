/-
  Law 1: what a long division keeps, round for round.
-/
import Derived.Test.YtllmacokhjmdgaaGreatDoorNGuess
import Derived.Laws.CopyOwn
namespace Go.Proofs.YtllmacokhjmdgaaGreatDoor
open Go.RowKit
set_option linter.unusedVariables false
theorem w64_le {j k : Nat} (h : j ≤ k) : 18446744073709551616 ^ j ≤ 18446744073709551616 ^ k := Nat.pow_le_pow_right (by decide) h
/-- The words xs with ys in place of k of them, from i on. -/
def midl (xs : List Nat) (i : Nat) (ys : List Nat) (k : Nat) : List Nat := xs.take i ++ ys ++ xs.drop (i + k)
section
variable {xs ys zs : List Nat} {i k : Nat}
theorem midl_len (hi : i + k ≤ xs.length) (hy : ys.length = k) : (midl xs i ys k).length = xs.length := by unfold midl; simp; omega
theorem midl_take (hi : i + k ≤ xs.length) : (midl xs i ys k).take i = xs.take i := by
  unfold midl
  rw [List.append_assoc, List.take_append_of_le_length (by rw [List.length_take]; omega), List.take_take, Nat.min_self]
theorem midl_drop (hi : i + k ≤ xs.length) : (midl xs i ys k).drop i = ys ++ xs.drop (i + k) := by
  unfold midl
  rw [List.append_assoc, List.drop_append_of_le_length (by rw [List.length_take]; omega), List.drop_of_length_le (by rw [List.length_take]; omega), List.nil_append]
theorem midl_part (hi : i + k ≤ xs.length) (hy : ys.length = k) : ((midl xs i ys k).drop i).take k = ys := by
  rw [midl_drop hi, List.take_append_of_le_length (by omega), List.take_of_length_le (by omega)]
theorem midl_rest (hi : i + k ≤ xs.length) (hy : ys.length = k) : (midl xs i ys k).drop (i + k) = xs.drop (i + k) := by
  rw [← List.drop_drop, midl_drop hi, List.drop_append_of_le_length (by omega), List.drop_of_length_le (by omega), List.nil_append]
theorem midl_midl (hi : i + k ≤ xs.length) (hy : ys.length = k) : midl (midl xs i ys k) i zs k = midl xs i zs k := by
  have h1 := midl_take (ys := ys) hi
  have h2 := midl_rest hi hy
  generalize hq : midl xs i ys k = q at *
  unfold midl
  rw [h1, h2]
theorem midl_wrd (hx : Wrd xs) (hy : Wrd ys) : Wrd (midl xs i ys k) := fun u hu => by
  unfold midl at hu
  rcases List.mem_append.1 hu with hu | hu
  · rcases List.mem_append.1 hu with hu | hu
    · exact hx u (List.mem_of_mem_take hu)
    · exact hy u hu
  · exact hx u (List.mem_of_mem_drop hu)
theorem midl_self (hi : i + k ≤ xs.length) : midl xs i ((xs.drop i).take k) k = xs := by
  unfold midl
  rw [List.append_assoc]
  have e : xs.drop (i + k) = (xs.drop i).drop k := by rw [List.drop_drop]
  rw [e, List.take_append_drop, List.take_append_drop]
end
theorem wv_split (xs : List Nat) (k : Nat) (hk : k ≤ xs.length) : wv xs = wv (xs.take k) + 18446744073709551616 ^ k * wv (xs.drop k) := by
  conv => lhs; rw [← List.take_append_drop k xs]
  rw [wv_append, List.length_take, Nat.min_eq_left hk]
/-- What the loop of digits keeps: k digits are still to come; os are those that are done. -/
structure Dl (X V m L k : Nat) (xs os : List Nat) : Prop where
  len : xs.length = L
  wx : Wrd xs
  wo : Wrd os
  eq : X = wv os * 18446744073709551616 ^ k * V + wv xs
  lt : wv (xs.drop k) < V
/-- What stands in the part of a round. -/
theorem dl_part {X V m L i : Nat} {xs os : List Nat} (h : Dl X V m L (i + 1) xs os) (hL : i + (m + 1) ≤ L) (hVm : V ≤ 18446744073709551616 ^ m) :
    wv (xs.drop (i + (m + 1))) = 0 ∧ wv ((xs.drop i).take (m + 1)) = wv (xs.drop i) ∧ wv (xs.drop i) < V * 18446744073709551616 ∧ wv xs = wv (xs.take i) + 18446744073709551616 ^ i * wv (xs.drop i) := by
  have hlen := h.len
  have h1 := wv_split (xs.drop (i + 1)) m (by rw [List.length_drop]; omega)
  rw [List.drop_drop, show i + 1 + m = i + (m + 1) by omega] at h1
  have h2 := h.lt
  have h0 : wv (xs.drop (i + (m + 1))) = 0 := by
    rcases Nat.eq_zero_or_pos (wv (xs.drop (i + (m + 1)))) with h3 | h3
    · exact h3
    · exfalso
      have h4 : 18446744073709551616 ^ m * 1 ≤ 18446744073709551616 ^ m * wv (xs.drop (i + (m + 1))) := Nat.mul_le_mul_left _ h3
      rw [Nat.mul_one] at h4
      omega
  refine ⟨h0, ?_, ?_, wv_split xs i (by omega)⟩
  · have h3 := wv_split (xs.drop i) (m + 1) (by rw [List.length_drop]; omega)
    rw [List.drop_drop, h0, Nat.mul_zero, Nat.add_zero] at h3
    exact h3.symm
  · rw [drop_get xs i (by omega)]
    simp only [wv]
    have h5 := getW h.wx i
    have h6 : (wv (xs.drop (i + 1)) + 1) * 18446744073709551616 ≤ V * 18446744073709551616 := Nat.mul_le_mul_right _ h2
    rw [Nat.add_mul, Nat.one_mul] at h6
    rw [Nat.mul_comm 18446744073709551616]
    omega
/-- A round: a digit d, and what it leaves, ys. -/
theorem dl_step {X V m L i d : Nat} {xs os ys : List Nat} (h : Dl X V m L (i + 1) xs os) (hL : i + (m + 1) ≤ L) (hVm : V ≤ 18446744073709551616 ^ m) (hyl : ys.length = m + 1) (hy : Wrd ys) (hd : d < 18446744073709551616)
    (he : wv ys + V * d = wv (xs.drop i)) (hlt : wv ys < V) : Dl X V m L i (midl xs i ys (m + 1)) (d :: os) := by
  obtain ⟨h1, h2, h3, h4⟩ := dl_part h hL hVm
  have hlen := h.len
  have hmd := midl_drop (ys := ys) (show i + (m + 1) ≤ xs.length by omega)
  have hmt := midl_take (ys := ys) (show i + (m + 1) ≤ xs.length by omega)
  have hml := midl_len (show i + (m + 1) ≤ xs.length by omega) hyl
  have hwd : wv ((midl xs i ys (m + 1)).drop i) = wv ys := by rw [hmd, wv_append, h1, Nat.mul_zero, Nat.add_zero]
  refine ⟨by rw [hml, hlen], midl_wrd h.wx hy, fun u hu => ?_, ?_, by rw [hwd]; exact hlt⟩
  · rcases List.mem_cons.1 hu with rfl | hu
    · exact hd
    · exact h.wo u hu
  · have h5 := wv_split (midl xs i ys (m + 1)) i (by omega)
    rw [hmt, hwd] at h5
    rw [h5, h.eq, h4, ← he]
    simp only [wv]
    rw [Nat.pow_succ]
    generalize 18446744073709551616 ^ i = P
    generalize wv (xs.take i) = T
    generalize wv ys = Y
    generalize wv os = O
    have e1 : O * (P * 18446744073709551616) * V = P * (18446744073709551616 * O * V) := by
      rw [Nat.mul_assoc, Nat.mul_assoc P, Nat.mul_left_comm O, ← Nat.mul_assoc O, Nat.mul_comm O]
    have e2 : (d + 18446744073709551616 * O) * P * V = P * (d * V) + P * (18446744073709551616 * O * V) := by
      rw [Nat.mul_comm _ P, Nat.mul_assoc, Nat.add_mul, Nat.mul_add]
    have e3 : P * (Y + V * d) = P * Y + P * (d * V) := by rw [Nat.mul_add, Nat.mul_comm V]
    rw [e1, e2, e3]
    omega
/-- What the loop of corrections keeps. -/
structure Cr (P V m d bb : Nat) (ys : List Nat) : Prop where
  len : ys.length = m + 1
  wrd : Wrd ys
  ble : bb ≤ 1
  qle : P / V ≤ d
  dlt : d < 18446744073709551616
  eq : wv ys + V * d = P + 18446744073709551616 ^ (m + 1) * bb
theorem cr_done {P V m d : Nat} {ys : List Nat} (h : Cr P V m d 0 ys) (hV : 0 < V) : wv ys + V * d = P ∧ wv ys < V := by
  have h1 := h.eq
  rw [Nat.mul_zero, Nat.add_zero] at h1
  refine ⟨h1, ?_⟩
  rcases Nat.lt_or_ge (wv ys) V with h2 | h2
  · exact h2
  · exfalso
    have h3 : d + 1 ≤ P / V := by
      rw [Nat.le_div_iff_mul_le hV, Nat.add_mul, Nat.one_mul, Nat.mul_comm d]
      omega
    have := h.qle
    omega
theorem cr_step {P V m d c : Nat} {ys zs xs vs : List Nat} (h : Cr P V m d 1 ys) (hV : 0 < V) (hvs : wv vs = V) (hvl : vs.length = m) (hA : Ad xs vs (m + 1) zs c) (hxs : xs.take (m + 1) = ys) :
    0 < d ∧ Cr P V m (d - 1) (1 - c) zs := by
  have h1 := h.eq
  have h2 := hA.eq
  rw [hxs, List.take_of_length_le (show vs.length ≤ m + 1 by omega), hvs] at h2
  have h3 := wv_lt ys h.wrd
  rw [h.len] at h3
  have hlt : P < V * d := by omega
  have hq : P / V < d := by rw [Nat.div_lt_iff_lt_mul hV, Nat.mul_comm]; exact hlt
  have hc := hA.cle
  have hdl := h.dlt
  refine ⟨Nat.lt_of_le_of_lt (Nat.zero_le _) hq, hA.len, hA.wrd, by omega, Nat.le_sub_one_of_lt hq, by omega, ?_⟩
  obtain ⟨e, rfl⟩ : ∃ e, d = e + 1 := ⟨d - 1, by have := Nat.lt_of_le_of_lt (Nat.zero_le _) hq; omega⟩
  rw [Nat.add_sub_cancel]
  rw [Nat.mul_add V, Nat.mul_one] at h1
  generalize 18446744073709551616 ^ (m + 1) = Q at *
  have : c = 0 ∨ c = 1 := by omega
  rcases this with rfl | rfl
  · omega
  · simp only [Nat.sub_self, Nat.mul_zero, Nat.mul_one, Nat.add_zero] at *
    omega
/-- How many words a number has. -/
theorem words_len {us : List Nat} {N k : Nat} (hw : Wrd us) (hl : us ≠ [] → us.getD (us.length - 1) 0 ≠ 0) (hv : wv us = N) (h1 : 18446744073709551616 ^ k ≤ N) (h2 : N < 18446744073709551616 ^ (k + 1)) : us.length = k + 1 := by
  have h3 := wv_lt us hw
  have hne : us ≠ [] := fun e => by
    rw [e] at hv
    have := Nat.pow_pos (n := k) (show 0 < 18446744073709551616 by decide)
    simp [wv] at hv
    omega
  have h4 := wv_ge hne (hl hne)
  have h5 : k < us.length := by
    rcases Nat.lt_or_ge k us.length with h | h
    · exact h
    · have := Nat.pow_le_pow_right (show 0 < 18446744073709551616 by decide) h
      omega
  have h6 : us.length - 1 < k + 1 := by
    rcases Nat.lt_or_ge (us.length - 1) (k + 1) with h | h
    · exact h
    · have := Nat.pow_le_pow_right (show 0 < 18446744073709551616 by decide) h
      omega
  omega
/-- The divisor, shifted up: as many words. -/
theorem norm_bounds {vs : List Nat} {k up : Nat} (hw : Wrd vs) (hl : vs.length = k + 1) (ht : vs.getD k 0 ≠ 0) (hup : 64 - (Lib.bitLen (vs.getD k 0) : Int) = (up : Int)) (hup63 : up ≤ 63) :
    18446744073709551616 ^ k ≤ wv vs * 2 ^ up ∧ wv vs * 2 ^ up < 18446744073709551616 ^ (k + 1) := by
  have hne : vs ≠ [] := fun e => by rw [e] at hl; simp at hl
  have h1 := wv_last hne
  rw [hl, Nat.add_sub_cancel] at h1
  have h2 := wv_lt (vs.take k) (fun u hu => hw u (List.mem_of_mem_take hu))
  rw [List.length_take, hl, Nat.min_eq_left (by omega)] at h2
  have htw := getW hw k
  have hB := isLen_bitLen _ _ (Nat.le_refl _) htw
  generalize vs.getD k 0 = t at *
  generalize Lib.bitLen t = b at *
  have hp := Nat.two_pow_pos up
  have hb := hB.lt
  have e64 : 2 ^ b * 2 ^ up = 18446744073709551616 := by rw [← Nat.pow_add, show b + up = 64 by omega]
  rw [Nat.pow_succ]
  generalize 18446744073709551616 ^ k = P at *
  constructor
  · have h3 : P * 1 ≤ P * t := Nat.mul_le_mul_left _ (by omega)
    have h4 : wv vs * 1 ≤ wv vs * 2 ^ up := Nat.mul_le_mul_left _ hp
    omega
  · have h5 : (wv vs + 1) * 2 ^ up ≤ (P * (t + 1)) * 2 ^ up := Nat.mul_le_mul_right _ (by rw [h1, Nat.mul_add, Nat.mul_one]; omega)
    have h6 : P * (t + 1) * 2 ^ up ≤ P * 2 ^ b * 2 ^ up := Nat.mul_le_mul_right _ (Nat.mul_le_mul_left _ hb)
    rw [Nat.mul_assoc P (2 ^ b), e64] at h6
    rw [Nat.add_mul, Nat.one_mul] at h5
    omega
/-- At the beginning. -/
theorem dl_init {M N up n m no : Nat} {xs : List Nat} (hx : Wrd xs) (hl : xs.length = n + 1) (hv : wv xs = M * 2 ^ up) (hM : M < 18446744073709551616 ^ n) (hN : 18446744073709551616 ^ (m - 1) ≤ N) (hm : 0 < m) (hno : no + m = n + 1) :
    Dl (M * 2 ^ up) (N * 2 ^ up) m (n + 1) no xs [] := by
  refine ⟨hl, hx, fun u hu => by simp at hu, by simp [wv, hv], ?_⟩
  have h1 := wv_split xs no (by omega)
  rw [hv] at h1
  rcases Nat.lt_or_ge (wv (xs.drop no)) (N * 2 ^ up) with h | h
  · exact h
  · exfalso
    have h2 : 18446744073709551616 ^ no * (18446744073709551616 ^ (m - 1) * 2 ^ up) ≤ 18446744073709551616 ^ no * wv (xs.drop no) := Nat.mul_le_mul_left _ (Nat.le_trans (Nat.mul_le_mul_right _ hN) h)
    rw [← Nat.mul_assoc, ← Nat.pow_add, show no + (m - 1) = n by omega] at h2
    have h3 : (M + 1) * 2 ^ up ≤ 18446744073709551616 ^ n * 2 ^ up := Nat.mul_le_mul_right _ hM
    rw [Nat.add_mul, Nat.one_mul] at h3
    have := Nat.two_pow_pos up
    omega
theorem own_whole {B : Nat} {e : TypeId} {w : World} {g n : Nat} {xs : List Value} (h : w.ownsRow B e 1 (.slice (some ⟨g, 0, none⟩) n n) n xs) : w.heap[g]? = some (.cells xs.toArray e (0, 0)) := by
  rcases h.2 with ⟨hv, _⟩ | ⟨g', cap', cur, hv, hbg, hg, hnc, hm, hsz, htk⟩
  · cases hv
  · cases hv
    rw [hg, ← htk, List.take_of_length_le (by rw [Array.length_toList, hsz]; exact Nat.le_refl _)]
theorem own_swap {B : Nat} {e : TypeId} {w w' : World} {g n : Nat} {xs ys : List Value} (h : w.ownsRow B e 1 (.slice (some ⟨g, 0, none⟩) n n) n xs) (hl : ys.length = n) (hg' : w'.heap[g]? = some (.cells ys.toArray e (0, 0))) :
    w'.ownsRow B e 1 (.slice (some ⟨g, 0, none⟩) n n) n ys := by
  rcases h.2 with ⟨hv, _⟩ | ⟨g', cap', cur, hv, hbg, hg, hnc, hm, hsz, htk⟩
  · cases hv
  · cases hv
    refine ⟨by rw [hl]; simp, .inr ⟨g, n, ys.toArray, rfl, hbg, hg', hnc, hm, by simp [hl], ?_⟩⟩
    rw [List.toList_toArray, List.take_of_length_le (by omega)]
end Go.Proofs.YtllmacokhjmdgaaGreatDoor
