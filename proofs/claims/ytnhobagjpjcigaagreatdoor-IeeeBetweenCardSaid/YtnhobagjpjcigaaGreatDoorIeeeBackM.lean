/-
  Law 4: the number of a pattern and its own spot (mathematics of IeeeBack).
-/
import Derived.Test.YtnhobagjpjcigaaGreatDoorEAlive
import Derived.Test.YtnhobagjpjcigaaGreatDoorEBel
namespace Go.Proofs.YtnhobagjpjcigaaGreatDoor
open Go.RowKit
set_option linter.unusedVariables false
/-- Of a pattern's own number the spot is its size, exactly. -/
theorem vq_units (e m s : Nat) (z : Bool) : (vQ e m z s).num.natAbs * 2 ^ upl e m = un m s * (vQ e m z s).den := by
  obtain ⟨p1, p2, -⟩ := norm_parts (sgn z (un m s)) (2 ^ upl e m) (Nat.ne_of_gt (Nat.pow_pos (by decide)))
  rw [sgn_ab] at p1 p2
  unfold vQ
  rw [p1, p2]
  obtain ⟨a, ha⟩ := Nat.gcd_dvd_left (un m s) (2 ^ upl e m)
  obtain ⟨b, hb⟩ := Nat.gcd_dvd_right (un m s) (2 ^ upl e m)
  have hg : 0 < Nat.gcd (un m s) (2 ^ upl e m) := Nat.gcd_pos_of_pos_right _ (Nat.pow_pos (by decide))
  generalize Nat.gcd (un m s) (2 ^ upl e m) = g at *
  have e1 : un m s / g = a := by rw [ha]; exact Nat.mul_div_cancel_left _ hg
  have e2 : 2 ^ upl e m / g = b := by rw [hb]; exact Nat.mul_div_cancel_left _ hg
  rw [e1, e2]
  conv => lhs; rw [hb]
  conv => rhs; rw [ha]
  rw [Nat.mul_left_comm, Nat.mul_assoc]
theorem vq_div (e m s : Nat) (z : Bool) : (vQ e m z s).num.natAbs * 2 ^ upl e m / (vQ e m z s).den = un m s ∧ (vQ e m z s).num.natAbs * 2 ^ upl e m % (vQ e m z s).den = 0 := by
  rw [vq_units]
  exact ⟨Nat.mul_div_cancel _ (vQ e m z s).den_pos, Nat.mul_mod_left _ _⟩
theorem spot_self {m I s : Nat} (h : s < I) : Spot m I (un m s) s := ⟨h, Nat.le_refl _, fun _ => un_succ m s⟩
theorem vq_exq (e m s : Nat) (z : Bool) : exq m s ((vQ e m z s).num.natAbs * 2 ^ upl e m) (vQ e m z s).den = true := decide_eq_true ⟨(vq_div e m s z).2, (vq_div e m s z).1.symm⟩
theorem vq_nup (e m s : Nat) (z : Bool) : nup m s ((vQ e m z s).num.natAbs * 2 ^ upl e m) (vQ e m z s).den = false := by
  refine decide_eq_false ?_
  rw [vq_units]
  have hd := (vQ e m z s).den_pos
  have h1 : 2 * (un m s * (vQ e m z s).den) < (un m s + un m (s + 1)) * (vQ e m z s).den := by
    rw [← Nat.mul_assoc]
    exact Nat.mul_lt_mul_of_pos_right (by have := un_succ m s; omega) hd
  omega
theorem un_pos {m s : Nat} (h : 0 < s) : 0 < un m s := by have := un_lt (m := m) h; omega
theorem vq_sign (e m s : Nat) (z : Bool) : decide ((vQ e m z s).num < 0) = (z && decide (0 < s)) := by
  by_cases h : 0 < s
  · obtain ⟨-, -, p3⟩ := norm_parts (sgn z (un m s)) (2 ^ upl e m) (Nat.ne_of_gt (Nat.pow_pos (by decide)))
    unfold vQ
    rw [p3 (by rw [sgn_ab]; have := un_pos (m := m) h; omega), decide_eq_true h, Bool.and_true]
    exact sgn_lt z _ (by have := un_pos (m := m) h; omega)
  · obtain rfl : s = 0 := by omega
    have : vQ e m z 0 = 0 := by unfold vQ; rw [un_zero]; cases z <;> simp [sgn]
    rw [this]
    simp
theorem vq_zero (e m s : Nat) (z : Bool) : vQ e m z s = 0 ↔ s = 0 := by
  constructor
  · intro h
    by_cases h0 : s = 0
    · exact h0
    · have h1 := vq_units e m s z
      rw [h] at h1
      have h2 := un_pos (m := m) (s := s) (by omega)
      have h3 : ((0 : Rat)).den = 1 := rfl
      have h4 : ((0 : Rat)).num.natAbs = 0 := rfl
      rw [h3, h4] at h1
      omega
  · rintro rfl
    unfold vQ
    rw [un_zero]
    cases z <;> simp [sgn]
theorem tx_nought (x : Rat) : tx x = ⟨#[48]⟩ ↔ x = 0 := by
  have h0 : tx 0 = ⟨#[48]⟩ := by decide +kernel
  constructor
  · intro h
    have h1 := pq_tx x
    rw [h, ← h0, pq_tx] at h1
    exact (Option.some.inj h1).symm
  · rintro rfl
    exact h0
/-- Its patterns are the one that it came of. -/
theorem vq_ptn (e m b : Nat) (hb : b < 2 ^ (e + m + 1)) (h0 : 0 < psz e m b) : ptn e m (decide ((vQ e m (png e m b) (psz e m b)).num < 0)) (psz e m b) = b := by
  rw [vq_sign, decide_eq_true h0, Bool.and_true]
  have hP : 0 < 2 ^ (e + m) := Nat.pow_pos (by decide)
  have h1 := Nat.div_add_mod b (2 ^ (e + m))
  have h2 : b / 2 ^ (e + m) < 2 := Nat.div_lt_of_lt_mul (by rw [← Nat.pow_succ]; exact hb)
  unfold ptn
  unfold png psz at *
  generalize hr : b % 2 ^ (e + m) = r at *
  generalize hq : b / 2 ^ (e + m) = q at *
  by_cases h3 : q % 2 = 1
  · rw [if_pos ⟨decide_eq_true h3, h0⟩]
    have h4 : q = 1 := by omega
    rw [h4] at h1
    omega
  · rw [if_neg (fun h => h3 (of_decide_eq_true h.1))]
    have h4 : q = 0 := by omega
    rw [h4] at h1
    omega
theorem bq_sz (e m s : Nat) (z : Bool) (he : e ≤ 8) (hm : m ≤ 23) (hs : s < 2 ^ (e + m)) : Sz 6 (vQ e m z s) := by
  have h1 := un_big (m := m) (s := s) (k := e) (by rw [Nat.add_comm]; exact hs)
  have h2 : 2 ^ e ≤ 2 ^ 8 := Nat.pow_le_pow_right (by decide) he
  have h3 : 2 ^ (e - 1) ≤ 2 ^ 7 := Nat.pow_le_pow_right (by decide) (by omega)
  obtain ⟨p1, p2, -⟩ := norm_parts (sgn z (un m s)) (2 ^ upl e m) (Nat.ne_of_gt (Nat.pow_pos (by decide)))
  rw [sgn_ab] at p1
  unfold vQ
  refine ⟨?_, ?_⟩
  · rw [p1]
    exact Nat.lt_of_le_of_lt (Nat.div_le_self _ _) (Nat.lt_trans h1 (two_lt_w (by omega)))
  · rw [p2]
    refine Nat.lt_of_le_of_lt (Nat.div_le_self _ _) (two_lt_w ?_)
    unfold upl
    omega
/-- What the calls tell of a pattern's own number. -/
structure Own (e m : Nat) (x : Rat) (PV : Int) : Prop where
  ex : ∀ W v, IsR W v x → Calls Tryz.prog 36 #[.agg #[.int .i64 (e : Int), .int .i64 (m : Int)], v] W fun E w' => E = .returned (.tuple #[.int .u64 PV, .bool true]) ∧ Below W.heap.size W w'
  be : ∀ W v, IsR W v x → Calls Tryz.prog 37 #[.agg #[.int .i64 (e : Int), .int .i64 (m : Int)], v] W fun E w' => E = .returned (.tuple #[.int .u64 PV, .bool true]) ∧ Below W.heap.size W w'
  ab : ∀ W v, IsR W v x → Calls Tryz.prog 38 #[.agg #[.int .i64 (e : Int), .int .i64 (m : Int)], v] W fun E w' => E = .returned (.tuple #[.int .u64 PV, .bool true]) ∧ Below W.heap.size W w'
  ne : ∀ W v, IsR W v x → Calls Tryz.prog 39 #[.agg #[.int .i64 (e : Int), .int .i64 (m : Int)], v] W fun E w' => E = .returned (.int .u64 PV) ∧ Below W.heap.size W w'
theorem own_of (e m s : Nat) (z : Bool) (he : 2 ≤ e) (he2 : e ≤ 8) (hm : 1 ≤ m) (hm2 : m ≤ 23) (hs : s < inf e m) (h2 : s < 2 ^ (e + m)) (P : Nat) (hP : ptn e m (decide ((vQ e m z s).num < 0)) s = P) : Own e m (vQ e m z s) (P : Int) := by
  have hz : Sz 40 (vQ e m z s) := (bq_sz e m s z he2 hm2 h2).mono (by omega)
  have hsp : ∀ t, Spot m (inf e m) ((vQ e m z s).num.natAbs * 2 ^ upl e m / (vQ e m z s).den) t → t = s := fun t ht => by
    rw [(vq_div e m s z).1] at ht
    exact ht.inj (spot_self hs)
  have hbs : ∀ (aw : Bool) W v, IsR W v (vQ e m z s) → Calls Tryz.prog 88 #[.agg #[.int .i64 (e : Int), .int .i64 (m : Int)], v, .bool aw] W fun E w' => E = .returned (.tuple #[.int .u64 (P : Int), .bool true]) ∧ Below W.heap.size W w' := fun aw W v h => (beside_any e m _ aw v he (by omega) hm (by omega) W h hz).mono fun E w' hb => by
    obtain ⟨t, ht, h3, h4⟩ := hb
    obtain rfl := hsp t ht
    rw [vq_exq] at h3
    have h5 : bsT e m (decide ((vQ e m z t).num < 0)) aw true t = (P, true) := by
      unfold bsT
      rw [if_neg (show ¬ (aw = true ∧ true = false) by simp), if_neg (by omega), hP]
    rw [h5] at h3
    exact ⟨h3, h4⟩
  refine ⟨fun W v h => (exact_any e m _ v he (by omega) hm (by omega) W h hz).mono fun E w' hb => ?_, fun W v h => below_of e m _ v P true W h (hbs _), fun W v h => above_of e m _ v P true W h (hbs _), fun W v h => (near_any e m _ v he (by omega) hm (by omega) W h hz).mono fun E w' hb => ?_⟩
  · obtain ⟨t, ht, h3, h4⟩ := hb
    obtain rfl := hsp t ht
    rw [vq_exq, if_pos rfl, hP] at h3
    exact ⟨h3, h4⟩
  · obtain ⟨t, ht, h3, h4⟩ := hb
    obtain rfl := hsp t ht
    rw [vq_nup, if_neg (show ¬ (false = true) by simp), hP] at h3
    exact ⟨h3, h4⟩
end Go.Proofs.YtnhobagjpjcigaaGreatDoor
