/-
  Law 17: a target's steps, one behind the other (mathematics).
-/
import Derived.Test.YtckglpkafhmehaaGreatDoorTgM
namespace Go.Proofs.YtckglpkafhmehaaGreatDoor
open Go.RowKit
set_option linter.unusedVariables false
theorem nDig_le : ∀ (k N : Nat), N < 10 ^ (k + 1) → Lib.nDigits N ≤ k + 1 := by
  intro k
  induction k with
  | zero => intro N h; rw [Lib.nDigits_small (by simpa using h)]; omega
  | succ k ih =>
    intro N h
    by_cases h1 : N < 10
    · rw [Lib.nDigits_small h1]; omega
    · rw [Lib.nDigits_big h1]
      have := ih (N / 10) (by rw [Nat.pow_succ] at h; omega)
      omega
theorem dg_sz {N k : Nat} (h : N < 18446744073709551616 ^ k) (hk : 1 ≤ k) : (dg N).size ≤ 20 * k := by
  show (Lib.decDigits N).toArray.size ≤ _
  rw [List.size_toArray, Lib.decDigits_length]
  have h2 : (18446744073709551616 : Nat) ^ k ≤ (10 ^ 20) ^ k := Nat.pow_le_pow_left (by decide) k
  rw [← Nat.pow_mul] at h2
  have := nDig_le (20 * k - 1) N (by rw [show 20 * k - 1 + 1 = 20 * k from by omega]; exact Nat.lt_of_lt_of_le h h2)
  omega
theorem tx_le (x : Rat) : (tx x).size ≤ 2 + (dg x.num.natAbs).size + (dg x.den).size := by
  have e1 : (⟨#[45]⟩ : ByteArray).size = 1 := rfl
  have e2 : (⟨#[47]⟩ : ByteArray).size = 1 := rfl
  unfold tx
  split <;> split <;> first | omega | (simp only [ByteArray.size_append, e1, e2]; omega)
/-- A number that is told is read again, however long it is. -/
theorem parse_tx (x : Rat) (w : World) (hx : Sz 29 x) (htb : TabB w) : Calls Tryz.prog 9 #[.string (tx x)] w (GotQ (pq (tx x)) w) := by
  have h1 := dg_sz hx.1 (by omega)
  have h2 := dg_sz hx.2 (by omega)
  have h3 := tx_le x
  obtain ⟨-, hb⟩ := tx_body x
  by_cases hd : x.den = 1
  · rw [if_pos hd] at hb
    exact parse_whole (tx x) w (by omega) (by rw [hb]; exact sl_none (fun h => (dg_ne h).2.1 rfl))
  · rw [if_neg hd] at hb
    obtain ⟨s1, s2, s3⟩ := sl_some (dg x.num.natAbs) (dg x.den) (fun h => (dg_ne h).2.1 rfl)
    exact parse_frac2 (tx x) w (by omega) (by rw [hb, s2]; omega) (by rw [hb, s3]; omega) (by rw [hb, s1]; simp) htb
theorem rnd_int (n : Int) : rndQ (n : Rat) = n := by
  have h : rndN (n : Rat) = n.natAbs := by
    unfold rndN
    rw [Rat.num_intCast, Rat.den_intCast]
    omega
  unfold rndQ
  rw [h, Rat.num_intCast]
  split <;> omega
theorem cst_again (ca : Int) (X : Rat) : cst ca (cst ca X) = cst ca X := by
  unfold cst
  by_cases h1 : ca = 1
  · simp only [if_pos h1]
    rw [rnd_int]
  · simp only [if_neg h1]
    by_cases h2 : ca = 2
    · simp only [if_pos h2]
      rw [Rat.ceil_intCast]
    · simp only [if_neg h2]
      by_cases h3 : ca = 3
      · simp only [if_pos h3]
        rw [Rat.floor_intCast]
      · simp only [if_neg h3]
theorem apT_tx (mn mx fa co : ByteArray) (ca : Int) (x : Rat) (h : ok4 mn mx fa co = true) : apT mn mx fa co ca (tx x) = tx (apv x (qv mn 0) (qv mx 0) (qv fa 1) (qv co 0) (!mn.toList.isEmpty) (!mx.toList.isEmpty) ca) := by
  unfold apT
  rw [pq_tx, if_pos ⟨rfl, h⟩]
  rfl
theorem ok4_of {mn mx fa co : ByteArray} (h1 : okt mn = true) (h2 : okt mx = true) (h3 : okt fa = true) (h4 : okt co = true) : ok4 mn mx fa co = true := by
  unfold ok4
  rw [h1, h2, h3, h4]
  rfl
theorem apv_nn (x F C : Rat) (ca : Int) : apv x 0 0 F C false false ca = cst ca (x * F + C) := rfl
theorem cst_zero (x : Rat) : cst 0 x = x := by
  unfold cst
  rw [if_neg (by decide), if_neg (by decide), if_neg (by decide)]
/-- All by itself, one behind the other. -/
theorem steps (mn mx fa co num : ByteArray) (ca : Int) (X : Rat) (hX : pq num = some X) (hv : vld mn mx fa co ca = true) :
    ∃ R F C : Rat, qv fa 1 = F ∧ qv co 0 = C ∧ (∀ k, Sz k X → Sz k (qv mn 0) → Sz k (qv mx 0) → Sz k R) ∧
      apT mn mx Nl Nl 0 num = tx R ∧ apT Nl Nl fa Nl 0 (tx R) = tx (R * F) ∧ apT Nl Nl Nl co 0 (tx (R * F)) = tx (R * F + C) ∧ apT Nl Nl Nl Nl ca (tx (R * F + C)) = tx (cst ca (R * F + C)) ∧
      apT mn mx fa co ca num = tx (cst ca (R * F + C)) ∧ apT Nl Nl Nl Nl ca (tx (cst ca (R * F + C))) = tx (cst ca (R * F + C)) := by
  unfold vld at hv
  simp only [Bool.and_eq_true] at hv
  obtain ⟨h4, -⟩ := hv
  have h4' := h4
  unfold ok4 at h4'
  simp only [Bool.and_eq_true] at h4'
  obtain ⟨h1, h2, h3, h5⟩ := h4'
  have hn : tx X = num := tx_pq hX
  refine ⟨clm (!mx.toList.isEmpty) (qv mx 0) (cll (!mn.toList.isEmpty) (qv mn 0) X), _, _, rfl, rfl, ?_, ?_, ?_, ?_, ?_, ?_, ?_⟩
  · intro k s1 s2 s3
    unfold clm
    split
    · exact s3
    · unfold cll
      split <;> assumption
  · exact apT_some mn mx num X hX h1 h2
  · rw [apT_tx _ _ _ _ _ _ (ok4_of okt_nl okt_nl h3 okt_nl), qv_nl, nl_empty]
    show tx (apv _ 0 0 _ 0 false false 0) = _
    rw [apv_nn, cst_zero, Rat.add_zero]
  · rw [apT_tx _ _ _ _ _ _ (ok4_of okt_nl okt_nl okt_nl h5), qv_nl, qv_nl, nl_empty]
    show tx (apv _ 0 0 1 _ false false 0) = _
    rw [apv_nn, cst_zero, Rat.mul_one]
  · rw [apT_tx _ _ _ _ _ _ (ok4_of okt_nl okt_nl okt_nl okt_nl), qv_nl, qv_nl, nl_empty]
    show tx (apv _ 0 0 1 0 false false ca) = _
    rw [apv_nn, Rat.mul_one, Rat.add_zero]
  · rw [← hn, apT_tx _ _ _ _ _ _ h4]
    rfl
  · rw [apT_tx _ _ _ _ _ _ (ok4_of okt_nl okt_nl okt_nl okt_nl), qv_nl, qv_nl, nl_empty]
    show tx (apv _ 0 0 1 0 false false ca) = _
    rw [apv_nn, Rat.mul_one, Rat.add_zero, cst_again]
theorem sz_cst {k : Nat} {x : Rat} (h : Sz k x) (hk : 1 ≤ k) (ca : Int) : Sz (k + 1) (cst ca x) := by
  unfold cst
  split
  · exact sz_rnd h hk
  · split
    · rw [Rat.ceil_eq_neg_floor_neg, Rat.intCast_neg]
      exact sz_neg (sz_floor (sz_neg h) hk)
    · split
      · exact sz_floor h hk
      · exact h.mono (by omega)
end Go.Proofs.YtckglpkafhmehaaGreatDoor
