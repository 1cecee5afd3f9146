/-
 Law 4: what Next tells, what is below, above, beside (mathematics).
-/
import Derived.Test.YtnhobagjpjcigaaGreatDoorEBsd
import Derived.Test.YtnhobagjpjcigaaGreatDoorEDec
import Derived.Test.YtnhobagjpjcigaaGreatDoorIeeeBackM
import Derived.Test.YtnhobagjpjcigaaGreatDoorRQm
namespace Go.Proofs.YtnhobagjpjcigaaGreatDoor
set_option linter.unusedVariables false
theorem vq_den (e m : Nat) : (0 : Rat) < (((2 ^ upl e m : Nat) : Rat))⁻¹ := Rat.inv_pos.2 (by
 have h : 0 < 2 ^ upl e m := Nat.pow_pos (by decide)
 exact_mod_cast h)
theorem vq_mul (e m : Nat) (z : Bool) (s : Nat) : vQ e m z s = ((sgn z (un m s) : Int) : Rat) * (((2 ^ upl e m : Nat) : Rat))⁻¹ := by
 unfold vQ
 rw [Rat.mkRat_eq_div, Rat.div_def]
theorem vq_lt (e m a b : Nat) : vQ e m false a < vQ e m false b ↔ a < b := by
 rw [vq_mul, vq_mul, Rat.mul_lt_mul_right (vq_den e m)]
 have h : ∀ x : Nat, sgn false x = (x : Int) := fun x => rfl
 rw [h, h, Rat.intCast_lt_intCast]
 constructor
 · intro h; exact (un_lt_iff (m := m)).1 (by omega)
 · intro h; have := un_lt (m := m) h; omega
theorem vq_neg (e m s : Nat) : vQ e m true s = 0 - vQ e m false s := by
 unfold vQ
 rw [Rat.sub_eq_add_neg, Rat.zero_add, Rat.neg_mkRat]
 rfl
/-- What Next tells. -/
def nxT (e m b : Nat) : Nat × Bool := if inf e m ≤ psz e m b then (0, false) else if png e m b = true ∧ 0 < psz e m b then (ptn e m true (psz e m b - 1), true) else if psz e m b + 1 = inf e m then (0, false) else (psz e m b + 1, true)
theorem inf_lt (e m : Nat) : inf e m < 2 ^ (e + m) := by
 have h1 : 0 < 2 ^ m := Nat.pow_pos (by decide)
 have h2 : 2 ^ m ≤ 2 ^ (e + m) := Nat.pow_le_pow_right (by decide) (by omega)
 unfold inf
 omega
theorem ptn_psz (e m s : Nat) (z : Bool) (h : s < 2 ^ (e + m)) : psz e m (ptn e m z s) = s := by
 unfold psz ptn
 split
 · rw [Nat.add_mod_left, Nat.mod_eq_of_lt h]
 · exact Nat.mod_eq_of_lt h
theorem ptn_png (e m s : Nat) (z : Bool) (h : s < 2 ^ (e + m)) : png e m (ptn e m z s) = (z && decide (0 < s)) := by
 have hP : 0 < 2 ^ (e + m) := Nat.pow_pos (by decide)
 unfold png ptn
 split
 · rename_i h1
   rw [Nat.add_div_left _ hP, Nat.div_eq_of_lt h, h1.1, decide_eq_true h1.2]
   rfl
 · rename_i h1
   rw [Nat.div_eq_of_lt h]
   cases z with
   | false => rfl
   | true => rw [decide_eq_false (fun h2 => h1 ⟨rfl, h2⟩)]; rfl
theorem vq_pos0 (e m s : Nat) (z : Bool) : vQ e m (z && decide (0 < s)) s = vQ e m z s := by
 by_cases h : 0 < s
 · rw [decide_eq_true h, Bool.and_true]
 · obtain rfl : s = 0 := by omega
   rw [(vq_zero e m 0 _).2 rfl, (vq_zero e m 0 _).2 rfl]
theorem ptn_kd (e m s : Nat) (z : Bool) (h : s < inf e m) : pkd e m (ptn e m z s) = 1 := by
 have h2 := inf_lt e m
 unfold pkd
 rw [ptn_psz e m s z (by omega), if_neg (by omega), if_neg (by omega)]
theorem ptn_nm (e m s : Nat) (z : Bool) (h : s < inf e m) : pnm e m (ptn e m z s) = vQ e m z s := by
 have h2 := inf_lt e m
 unfold pnm
 rw [ptn_psz e m s z (by omega), if_pos h, ptn_png e m s z (by omega), vq_pos0]
theorem ptn_nx_neg (e m s : Nat) (h : s + 1 < inf e m) : nxT e m (ptn e m true (s + 1)) = (ptn e m true s, true) := by
 have h2 := inf_lt e m
 unfold nxT
 rw [ptn_psz e m _ _ (by omega), ptn_png e m _ _ (by omega), if_neg (by omega), if_pos ⟨by simp, by omega⟩]
 rfl
theorem nx_pos (e m s : Nat) (h : s < inf e m) : nxT e m s = if s + 1 = inf e m then (0, false) else (s + 1, true) := by
 have h2 := inf_lt e m
 have h3 : ptn e m false s = s := by unfold ptn; rw [if_neg (by simp)]
 have h4 := ptn_psz e m s false (by omega)
 have h5 := ptn_png e m s false (by omega)
 rw [h3] at h4 h5
 unfold nxT
 rw [h4, h5, if_neg (by omega), if_neg (by simp)]
/-- A size's number beside another one. -/
theorem vq_cross (e m s : Nat) : (vQ e m false s).num * ((2 ^ upl e m : Nat) : Int) = (un m s : Int) * (vQ e m false s).den := by
 have h1 := vq_units e m s false
 have h2 := vq_sign e m s false
 have h3 : 0 ≤ (vQ e m false s).num := by
  have h4 := of_decide_eq_false (h2.trans (Bool.false_and _))
  omega
 have h5 : (((vQ e m false s).num.natAbs * 2 ^ upl e m : Nat) : Int) = ((un m s * (vQ e m false s).den : Nat) : Int) := by rw [h1]
 rw [Int.natCast_mul, Int.natCast_mul, Int.natAbs_of_nonneg h3] at h5
 exact h5
theorem vq_le_iff (e m s : Nat) (x : Rat) : vQ e m false s ≤ x ↔ (un m s : Int) * x.den ≤ x.num * ((2 ^ upl e m : Nat) : Int) := by
 have hc := vq_cross e m s
 have hP : (0 : Int) < ((2 ^ upl e m : Nat) : Int) := by
  have : 0 < 2 ^ upl e m := Nat.pow_pos (by decide)
  omega
 have hd : (0 : Int) < ((vQ e m false s).den : Int) := by have := (vQ e m false s).den_pos; omega
 rw [Rat.le_iff]
 generalize (vQ e m false s).num = a at hc ⊢
 generalize ((vQ e m false s).den : Int) = d at hc hd ⊢
 generalize ((2 ^ upl e m : Nat) : Int) = P at hc hP ⊢
 generalize (x.den : Int) = D
 generalize x.num = U
 generalize (un m s : Int) = n at hc ⊢
 constructor
 · intro h
   have h1 := Int.mul_le_mul_of_nonneg_right h (Int.le_of_lt hP)
   have e1 : a * D * P = n * D * d := by rw [Int.mul_right_comm, hc]; rw [Int.mul_right_comm]
   rw [e1, Int.mul_right_comm U d P] at h1
   exact Int.le_of_mul_le_mul_right h1 hd
 · intro h
   have h1 := Int.mul_le_mul_of_nonneg_right h (Int.le_of_lt hd)
   have e1 : n * D * d = a * D * P := by rw [Int.mul_right_comm, ← hc]; rw [Int.mul_right_comm]
   rw [e1, Int.mul_right_comm U P d] at h1
   exact Int.le_of_mul_le_mul_right h1 hP
theorem abs_cast {x : Rat} (h : ¬ x.num < 0) (P : Nat) : x.num * (P : Int) = ((x.num.natAbs * P : Nat) : Int) := by
 rw [Int.natCast_mul, Int.natAbs_of_nonneg (by omega)]
/-- Of a number from 0 on: what its spot says. -/
theorem vq_le (e m s : Nat) {x : Rat} (h : ¬ x.num < 0) : vQ e m false s ≤ x ↔ un m s ≤ x.num.natAbs * 2 ^ upl e m / x.den := by
 rw [vq_le_iff, abs_cast h, ← Int.natCast_mul, Int.ofNat_le, Nat.le_div_iff_mul_le x.den_pos]
theorem exq_iff (e m s : Nat) {x : Rat} (h : ¬ x.num < 0) (hs : vQ e m false s < x) : exq m s (x.num.natAbs * 2 ^ upl e m) x.den = false := by
 refine decide_eq_false ?_
 rintro ⟨h1, h2⟩
 have h3 := Nat.div_add_mod (x.num.natAbs * 2 ^ upl e m) x.den
 rw [h1, ← h2, Nat.add_zero, Nat.mul_comm] at h3
 have h4 : x ≤ vQ e m false s := by
  rw [Rat.le_iff]
  have hc := vq_cross e m s
  have hP : (0 : Int) < ((2 ^ upl e m : Nat) : Int) := by
   have : 0 < 2 ^ upl e m := Nat.pow_pos (by decide)
   omega
  have h5 := abs_cast h (2 ^ upl e m)
  rw [← h3, Int.natCast_mul] at h5
  generalize (vQ e m false s).num = a at hc ⊢
  generalize ((vQ e m false s).den : Int) = d at hc ⊢
  generalize ((2 ^ upl e m : Nat) : Int) = P at hc hP h5 ⊢
  generalize (x.den : Int) = D at h5 ⊢
  generalize x.num = U at h5 ⊢
  generalize (un m s : Int) = n at hc h5 ⊢
  refine Int.le_of_mul_le_mul_right (a := P) ?_ hP
  rw [Int.mul_right_comm, h5, Int.mul_right_comm, ← hc, Int.mul_right_comm]
  omega
 exact absurd hs (Rat.not_lt.2 h4)
theorem exq_eq (e m s : Nat) {x : Rat} (h : ¬ x.num < 0) (hx : exq m s (x.num.natAbs * 2 ^ upl e m) x.den = true) : x = vQ e m false s := by
 have h1 : vQ e m false s ≤ x := by
  rw [vq_le e m s h]
  have := of_decide_eq_true hx
  omega
 rcases Rat.le_iff_lt_or_eq.1 h1 with h2 | h2
 · rw [exq_iff e m s h h2] at hx
   cases hx
 · exact h2.symm
theorem spot_of (e m s : Nat) {x : Rat} (h : ¬ x.num < 0) (hs : s < inf e m) (h1 : vQ e m false s ≤ x) (h2 : x < vQ e m false (s + 1)) : Spot m (inf e m) (x.num.natAbs * 2 ^ upl e m / x.den) s := by
 refine ⟨hs, (vq_le e m s h).1 h1, fun _ => ?_⟩
 have h3 := mt (vq_le e m (s + 1) h).2 (Rat.not_le.2 h2)
 omega
theorem neg_num (x : Rat) : (-x).num.natAbs = x.num.natAbs ∧ (-x).den = x.den ∧ (decide ((-x).num < 0) = decide (0 < x.num)) := by
 refine ⟨by rw [Rat.neg_num]; omega, Rat.neg_den x, ?_⟩
 rw [Rat.neg_num]
 exact decide_eq_decide.2 (by omega)
theorem pos_num {x : Rat} (h : 0 < x) : 0 < x.num := by
 have h1 := (Rat.lt_iff 0 x).1 h
 rw [show (0 : Rat).num = 0 from rfl, show (0 : Rat).den = 1 from rfl] at h1
 omega
/-- The middle of two neighbours. -/
theorem mid_spot (e m s : Nat) (hs : s < inf e m) : ∃ y : Rat, (vQ e m false s + vQ e m false (s + 1)) / 2 = y ∧ 0 < y.num ∧ Spot m (inf e m) (y.num.natAbs * 2 ^ upl e m / y.den) s ∧ exq m s (y.num.natAbs * 2 ^ upl e m) y.den = false := by
 have h1 : vQ e m false s < vQ e m false (s + 1) := (vq_lt e m s (s + 1)).2 (by omega)
 have h0 : 0 ≤ vQ e m false s := by
  have h2 := vq_sign e m s false
  have h4 := of_decide_eq_false (h2.trans (Bool.false_and _))
  exact Rat.num_nonneg.1 (by omega)
 obtain ⟨y, hy⟩ : ∃ y : Rat, (vQ e m false s + vQ e m false (s + 1)) / 2 = y := ⟨_, rfl⟩
 have h2 : vQ e m false s < y := by grind
 have h3 : y < vQ e m false (s + 1) := by grind
 have h4 : 0 < y.num := pos_num (by grind)
 exact ⟨y, hy, h4, spot_of e m s (by omega) hs (Rat.le_of_lt h2) h3, exq_iff e m s (by omega) h2⟩
theorem vq_nn (e m s : Nat) : 0 ≤ vQ e m false s := by
 have h2 := vq_sign e m s false
 have h4 := of_decide_eq_false (h2.trans (Bool.false_and _))
 exact Rat.num_nonneg.1 (by omega)
theorem vq_neg' (e m s : Nat) : vQ e m true s = -vQ e m false s := by rw [vq_neg]; grind
theorem mid_neg (e m s : Nat) (hs : s < inf e m) : ∃ y : Rat, (vQ e m true (s + 1) + vQ e m true s) / 2 = y ∧ y.num < 0 ∧ Spot m (inf e m) (y.num.natAbs * 2 ^ upl e m / y.den) s ∧ exq m s (y.num.natAbs * 2 ^ upl e m) y.den = false := by
 obtain ⟨y, hy, h1, h2, h3⟩ := mid_spot e m s hs
 obtain ⟨n1, n2, -⟩ := neg_num y
 refine ⟨-y, ?_, by rw [Rat.neg_num]; omega, by rw [n1, n2]; exact h2, by rw [n1, n2]; exact h3⟩
 rw [vq_neg', vq_neg']
 grind
theorem bsd_no (e m s : Nat) (z aw ex : Bool) (h : s < inf e m) (h2 : (aw && !ex) = false) : bsT e m z aw ex s = (ptn e m z s, true) := by
 have h3 : ¬ (aw = true ∧ ex = false) := by rintro ⟨rfl, rfl⟩; cases h2
 unfold bsT
 simp only [if_neg h3]
 rw [if_neg (by omega)]
theorem bsd_up (e m s : Nat) (z : Bool) : bsT e m z true false s = if s + 1 = inf e m then (0, false) else (ptn e m z (s + 1), true) := by
 simp [bsT]
/-- What is below a number is not above it; what is next to that is. -/
structure BelOk (e m : Nat) (x : Rat) (P : Nat) : Prop where
 fin : ∃ t z, t < inf e m ∧ P = ptn e m z t ∧ vQ e m z t ≤ x
 nxt : (nxT e m P).2 = true → ∃ t z, t < inf e m ∧ (nxT e m P).1 = ptn e m z t ∧ x < vQ e m z t
theorem ptn_pos (e m s : Nat) : ptn e m false s = s := by unfold ptn; rw [if_neg (by simp)]
theorem bel_ok (e m : Nat) (x : Rat) (s : Nat) (h : Spot m (inf e m) (x.num.natAbs * 2 ^ upl e m / x.den) s) (P : Nat)
 (hb : bsT e m (decide (x.num < 0)) (decide (x.num < 0)) (exq m s (x.num.natAbs * 2 ^ upl e m) x.den) s = (P, true)) : BelOk e m x P := by
 have hi := inf_lt e m
 by_cases hz : x.num < 0
 · rw [decide_eq_true hz] at hb
   obtain ⟨n1, n2, -⟩ := neg_num x
   have hz2 : ¬ (-x).num < 0 := by rw [Rat.neg_num]; omega
   rw [← n1, ← n2] at h hb
   cases hx : exq m s ((-x).num.natAbs * 2 ^ upl e m) (-x).den with
   | true =>
    have hq := exq_eq e m s hz2 hx
    have hxq : x = vQ e m true s := by rw [vq_neg']; grind
    rw [hx] at hb
    rw [bsd_no e m s _ _ _ h.1 rfl] at hb
    injection hb with hb1
    cases s with
    | zero =>
     rw [(vq_zero e m 0 true).2 rfl] at hxq
     rw [hxq] at hz
     exact absurd hz (by decide)
    | succ t =>
     refine ⟨⟨t + 1, true, h.1, hb1.symm, by rw [hxq]; exact Rat.le_refl⟩, fun _ => ⟨t, true, by have := h.1; omega, ?_, ?_⟩⟩
     · rw [← hb1, ptn_nx_neg e m t h.1]
     · rw [hxq, vq_neg', vq_neg']
       have := (vq_lt e m t (t + 1)).2 (by omega)
       grind
   | false =>
    rw [hx] at hb
    rw [bsd_up] at hb
    by_cases hs : s + 1 = inf e m
    · rw [if_pos hs] at hb
      injection hb with _ hb2
      cases hb2
    · rw [if_neg hs] at hb
      injection hb with hb1
      have hs1 := h.1
      have hs2 : s + 1 < inf e m := by omega
      have hl := (vq_le e m s hz2).2 h.2
      have hl2 : vQ e m false s < -x := by
       rcases Rat.le_iff_lt_or_eq.1 hl with h5 | h5
       · exact h5
       · exfalso
         have := vq_exq e m s false
         rw [h5] at this
         rw [this] at hx
         cases hx
      have hn := Nat.not_le.2 (h.3 hs2)
      have hn2 := Rat.not_le.1 (mt (vq_le e m (s + 1) hz2).1 hn)
      refine ⟨⟨s + 1, true, hs2, hb1.symm, by rw [vq_neg']; grind⟩, fun _ => ⟨s, true, hs1, ?_, by rw [vq_neg']; grind⟩⟩
      rw [← hb1, ptn_nx_neg e m s hs2]
 · rw [decide_eq_false hz] at hb
   rw [bsd_no e m s _ _ _ h.1 rfl] at hb
   injection hb with hb1
   have hs1 := h.1
   rw [ptn_pos] at hb1
   refine ⟨⟨s, false, hs1, by rw [← hb1, ptn_pos], (vq_le e m s hz).2 h.2⟩, fun hn => ?_⟩
   rw [← hb1, nx_pos e m s hs1] at hn ⊢
   by_cases hs : s + 1 = inf e m
   · rw [if_pos hs] at hn
     cases hn
   · rw [if_neg hs]
     have hs2 : s + 1 < inf e m := by omega
     exact ⟨s + 1, false, hs2, (ptn_pos e m _).symm, Rat.not_le.1 (mt (vq_le e m (s + 1) hz).1 (Nat.not_le.2 (h.3 hs2)))⟩
theorem exq_units (m s U D : Nat) (h : exq m s U D = true) : U = un m s * D := by
 obtain ⟨h1, h2⟩ := of_decide_eq_true h
 have h3 := Nat.div_add_mod U D
 rw [h1, ← h2, Nat.add_zero, Nat.mul_comm] at h3
 exact h3.symm
theorem exq_nup (m s U D : Nat) (hD : 0 < D) (h : exq m s U D = true) : nup m s U D = false := by
 rw [exq_units m s U D h]
 refine decide_eq_false ?_
 have h1 : 2 * (un m s * D) < (un m s + un m (s + 1)) * D := by
  rw [← Nat.mul_assoc]
  exact Nat.mul_lt_mul_of_pos_right (by have := un_succ m s; omega) hD
 omega
/-- A finite pattern, its next one, and the middle of both. -/
structure NxOk (e m : Nat) (R : Rat) (P UP : Nat) (N Y : Rat) (t : Nat) : Prop where
 kd : pkd e m P = 1
 nm : pnm e m P = N
 ps : ∃ u z, u < inf e m ∧ P = ptn e m z u ∧ N = vQ e m z u
 lt : R < N
 mid : (R + N) / 2 = Y
 spot : Spot m (inf e m) (Y.num.natAbs * 2 ^ upl e m / Y.den) t
 exq : exq m t (Y.num.natAbs * 2 ^ upl e m) Y.den = false
 bs : bsT e m (decide (Y.num < 0)) (decide (Y.num < 0)) false t = (UP, true)
 us : ∃ u z, u < inf e m ∧ UP = ptn e m z u
 ukd : pkd e m UP = 1
 unm : pnm e m UP = R
 top : R ≠ vQ e m false (inf e m - 1)
theorem nx_case (e m b : Nat) (hs : psz e m b < inf e m) :
 (nxT e m b = (0, false) ∧ pnm e m b = vQ e m false (inf e m - 1)) ∨ ∃ P UP N Y t, nxT e m b = (P, true) ∧ NxOk e m (pnm e m b) P UP N Y t := by
 have hi := inf_lt e m
 have hR : pnm e m b = vQ e m (png e m b) (psz e m b) := by unfold pnm; rw [if_pos hs]
 rw [hR]
 by_cases hn : png e m b = true ∧ 0 < psz e m b
 · obtain ⟨h1, h2⟩ := hn
   have hx : nxT e m b = (ptn e m true (psz e m b - 1), true) := by unfold nxT; rw [if_neg (by omega), if_pos ⟨h1, h2⟩]
   rw [h1]
   generalize psz e m b = s at *
   obtain ⟨t, rfl⟩ : ∃ t, s = t + 1 := ⟨s - 1, by omega⟩
   rw [Nat.add_sub_cancel] at hx
   obtain ⟨y, hy, y1, y2, y3⟩ := mid_neg e m t (by omega)
   have hlt := (vq_lt e m t (t + 1)).2 (by omega)
   refine Or.inr ⟨_, ptn e m true (t + 1), vQ e m true t, y, t, hx, ptn_kd e m t true (by omega), ptn_nm e m t true (by omega), ⟨t, true, by omega, rfl, rfl⟩, ?_, hy, y2, y3, ?_, ⟨t + 1, true, hs, rfl⟩, ptn_kd e m _ true hs, ptn_nm e m _ true hs, fun h => ?_⟩
   · rw [vq_neg', vq_neg']; grind
   · rw [decide_eq_true y1, bsd_up, if_neg (by omega)]
   · rw [vq_neg'] at h
     have h3 := vq_nn e m (inf e m - 1)
     have h4 := vq_nn e m t
     grind
 · have hz : vQ e m (png e m b) (psz e m b) = vQ e m false (psz e m b) := by
    cases hp : png e m b with
    | false => rfl
    | true =>
     have : psz e m b = 0 := by
      rcases Nat.eq_zero_or_pos (psz e m b) with h | h
      · exact h
      · exact absurd ⟨hp, h⟩ hn
     rw [this, (vq_zero e m 0 true).2 rfl, (vq_zero e m 0 false).2 rfl]
   have hx : nxT e m b = if psz e m b + 1 = inf e m then (0, false) else (psz e m b + 1, true) := by unfold nxT; rw [if_neg (by omega), if_neg hn]
   rw [hz]
   generalize psz e m b = s at *
   by_cases h1 : s + 1 = inf e m
   · rw [if_pos h1] at hx
     exact Or.inl ⟨hx, by rw [← h1]; rfl⟩
   · rw [if_neg h1] at hx
     have h2 : s + 1 < inf e m := by omega
     obtain ⟨y, hy, y1, y2, y3⟩ := mid_spot e m s hs
     refine Or.inr ⟨_, s, vQ e m false (s + 1), y, s, hx, ?_, ?_, ⟨s + 1, false, h2, (ptn_pos e m _).symm, rfl⟩, (vq_lt e m s (s + 1)).2 (by omega), hy, y2, y3, ?_, ⟨s, false, hs, (ptn_pos e m _).symm⟩, ?_, ?_, fun h => ?_⟩
     · have := ptn_kd e m (s + 1) false h2
       rwa [ptn_pos] at this
     · have := ptn_nm e m (s + 1) false h2
       rwa [ptn_pos] at this
     · rw [decide_eq_false (by omega), bsd_no e m s _ _ _ hs rfl, ptn_pos]
     · have := ptn_kd e m s false hs
       rwa [ptn_pos] at this
     · have := ptn_nm e m s false hs
       rwa [ptn_pos] at this
     · have h5 := (vq_lt e m s (inf e m - 1)).2 (by omega)
       rw [h] at h5
       exact absurd h5 Rat.lt_irrefl
end Go.Proofs.YtnhobagjpjcigaaGreatDoor
