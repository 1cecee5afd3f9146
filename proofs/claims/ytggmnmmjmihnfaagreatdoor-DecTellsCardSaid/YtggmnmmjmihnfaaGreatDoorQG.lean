/-
 Law 2: Cmp; sums of signed numbers.
 Law 2: Add, Sub.
 Law 2: Floor, Ceil.
 Law 2: the mathematics of Round; what a walk of many calls asks.
-/
import Derived.Test.YtggmnmmjmihnfaaGreatDoorQRound
import Derived.Test.YtggmnmmjmihnfaaGreatDoorQTxA
namespace Go.Proofs.YtggmnmmjmihnfaaGreatDoor
open Go.RowKit
set_option linter.unusedVariables false
theorem cmpQ_int (x y : Rat) : cmpQ x y = if x.num * (y.den : Int) < y.num * (x.den : Int) then -1 else if y.num * (x.den : Int) < x.num * (y.den : Int) then 1 else 0 := by
 unfold cmpQ
 simp only [Rat.lt_iff]
theorem cmpI_int (M N : Nat) : cmpI M N = if (M : Int) < (N : Int) then -1 else if (N : Int) < (M : Int) then 1 else 0 := by
 rcases Nat.lt_trichotomy M N with h | h | h
 · rw [cmpI_lt h, if_pos (by omega)]
 · subst h; rw [cmpI_eq]; simp
 · rw [cmpI_gt h, if_neg (by omega), if_pos (by omega)]
theorem cmpQ_np (x y : Rat) (hx : x.num < 0) (hy : ¬ y.num < 0) : cmpQ x y = -1 := by
 rw [cmpQ_int, if_pos]
 have h1 : x.num * (y.den : Int) < 0 := Int.mul_neg_of_neg_of_pos hx (by have := y.den_pos; omega)
 have h2 : 0 ≤ y.num * (x.den : Int) := Int.mul_nonneg (by omega) (by omega)
 omega
theorem cmpQ_pn (x y : Rat) (hx : ¬ x.num < 0) (hy : y.num < 0) : cmpQ x y = 1 := by
 have h1 : y.num * (x.den : Int) < 0 := Int.mul_neg_of_neg_of_pos hy (by have := x.den_pos; omega)
 have h2 : 0 ≤ x.num * (y.den : Int) := Int.mul_nonneg (by omega) (by omega)
 rw [cmpQ_int, if_neg (by omega), if_pos (by omega)]
theorem cmpQ_pp (x y : Rat) (hx : ¬ x.num < 0) (hy : ¬ y.num < 0) : cmpI (x.num.natAbs * y.den) (y.num.natAbs * x.den) = cmpQ x y := by
 rw [cmpI_int, cmpQ_int]
 have e1 : ((x.num.natAbs * y.den : Nat) : Int) = x.num * (y.den : Int) := by rw [Int.natCast_mul, Int.natAbs_of_nonneg (by omega)]
 have e2 : ((y.num.natAbs * x.den : Nat) : Int) = y.num * (x.den : Int) := by rw [Int.natCast_mul, Int.natAbs_of_nonneg (by omega)]
 rw [e1, e2]
theorem cmpQ_nn (x y : Rat) (hx : x.num < 0) (hy : y.num < 0) : cmpI (y.num.natAbs * x.den) (x.num.natAbs * y.den) = cmpQ x y := by
 rw [cmpI_int, cmpQ_int]
 have e1 : ((x.num.natAbs * y.den : Nat) : Int) = -(x.num * (y.den : Int)) := by rw [Int.natCast_mul, show ((x.num.natAbs : Nat) : Int) = -x.num by omega, Int.neg_mul]
 have e2 : ((y.num.natAbs * x.den : Nat) : Int) = -(y.num * (x.den : Int)) := by rw [Int.natCast_mul, show ((y.num.natAbs : Nat) : Int) = -y.num by omega, Int.neg_mul]
 rw [e1, e2]
 by_cases h1 : x.num * (y.den : Int) < y.num * (x.den : Int)
 · rw [if_pos (by omega), if_pos h1]
 · rw [if_neg (by omega), if_neg h1]
   by_cases h2 : y.num * (x.den : Int) < x.num * (y.den : Int)
   · rw [if_pos (by omega), if_pos h2]
   · rw [if_neg (by omega), if_neg h2]
/-- The sum of two numbers that have signs. -/
def jn (z : Bool) (A : Nat) (u : Bool) (B : Nat) : Bool × Nat := if z = u then (z, A + B) else if B ≤ A then (z, A - B) else (u, B - A)
theorem jn_sgn (z : Bool) (A : Nat) (u : Bool) (B : Nat) : sgn (jn z A u B).1 (jn z A u B).2 = sgn z A + sgn u B := by
 unfold jn sgn
 cases z <;> cases u <;> simp <;> first | omega | (split <;> simp <;> omega)
theorem results_tn {fn : Func} {u p : Tmp} {ty : TypeId} (h : fn.results = #[.tmp u, .cell p ty]) (tmps : Array Value) (P : Program) (w : World) :
 (results fn tmps).run P w = ((asAddr (tmps.getD p undef)).run P w).andThen fun a w1 => ((loadVar ty a).run P w1).andThen fun v w2 => .ok (.tuple #[tmps.getD u undef, v]) w2 := by
 simp only [results, h]
 simp [Sem.run_bind, Result.andThen]
theorem res_tn {fn : Func} {u p : Tmp} (h : fn.results = #[.tmp u, .cell p 25]) (tmps : Array Value) (w : World) (g : Nat) (q : Option Addr) (n c : Nat) (x : Value) (hu : tmps.getD u undef = x) (hp : tmps.getD p undef = .pointer (some ⟨g, 0, none⟩)) (hg : Blk w g 25 #[.slice q n c]) :
 (results fn tmps).run Tryz.prog w = .ok (.tuple #[x, .agg #[.slice q n c]]) w := by
 have e : (loadVar 25 ⟨g, 0, none⟩).run Tryz.prog w = .ok (.agg #[.slice q n c]) w := run_loadVar_row w g 25 25 #[.slice q n c] (0, 0) _ hg Tryz.underlying25 (by kernel_rfl) (by kernel_rfl)
 rw [results_tn h, hp, hu]
 simp [asAddr, e, Result.andThen]
end Go.Proofs.YtggmnmmjmihnfaaGreatDoor
namespace Go.Proofs.YtggmnmmjmihnfaaGreatDoor
open Go.RowKit
set_option linter.unusedVariables false
theorem sgn_ab (b : Bool) (n : Nat) : (sgn b n).natAbs = n := by unfold sgn; cases b <;> simp
theorem sgn_lt (b : Bool) (n : Nat) (h : n ≠ 0) : decide (sgn b n < 0) = b := by
 unfold sgn
 cases b
 · simp
 · simp; omega
theorem sgn_mul (b : Bool) (n m : Nat) : sgn b (n * m) = sgn b n * (m : Int) := by
 unfold sgn
 cases b
 · simp
 · simp [Int.neg_mul]
theorem jn_le (z : Bool) (A : Nat) (u : Bool) (B : Nat) : (jn z A u B).2 ≤ A + B := by
 unfold jn
 split
 · exact Nat.le_refl _
 · split <;> simp <;> omega
theorem add_join (x y : Rat) {G DA DB M1 M2 T R : Nat} {js : Bool} (hG : Nat.gcd x.den y.den = G) (hDA : x.den / G = DA) (hDB : y.den / G = DB) (hM1 : x.num.natAbs * DB = M1) (hM2 : y.num.natAbs * DA = M2)
 (hj : jn (decide (x.num < 0)) M1 (decide (y.num < 0)) M2 = (js, T)) (hR : Nat.gcd T G = R) :
 (x + y).num.natAbs = T / R ∧ (x + y).den = DA * (y.den / R) ∧ (T / R ≠ 0 → decide ((x + y).num < 0) = js) := by
 have hs := jn_sgn (decide (x.num < 0)) M1 (decide (y.num < 0)) M2
 rw [hj, ← hM1, ← hM2, sgn_mul, sgn_mul, ← num_sgn, ← num_sgn, ← hDA, ← hDB, ← hG] at hs
 have ha : sgn js T = addn x y := hs
 obtain ⟨n1, n2⟩ := add_nums x y
 have n3 := add_sign x y
 rw [← ha, sgn_ab, hG, hR] at n1
 rw [← ha, sgn_ab, hG, hR, hDA] at n2
 refine ⟨n1, n2, fun h => ?_⟩
 rw [n3, ← ha]
 refine sgn_lt _ _ (fun h0 => h ?_)
 rw [h0, Nat.zero_div]
theorem w_mul {j k M N : Nat} (h1 : M < 18446744073709551616 ^ j) (h2 : N < 18446744073709551616 ^ k) : M * N < 18446744073709551616 ^ (j + k) := by
 rw [Nat.pow_add]
 exact Nat.mul_lt_mul'' h1 h2
theorem w_up {j k N : Nat} (h : N < 18446744073709551616 ^ j) (hk : j ≤ k) : N < 18446744073709551616 ^ k := Nat.lt_of_lt_of_le h (w64_mono hk)
theorem w_add {k M N : Nat} (h1 : M < 18446744073709551616 ^ k) (h2 : N < 18446744073709551616 ^ k) : M + N < 18446744073709551616 ^ (k + 1) := by
 rw [Nat.pow_succ]
 have := Nat.mul_le_mul_left (18446744073709551616 ^ k) (show 2 ≤ 18446744073709551616 by decide)
 omega
theorem sz_neg {k : Nat} {x : Rat} (h : Sz k x) : Sz k (-x) := ⟨by rw [Rat.neg_num, Int.natAbs_neg]; exact h.1, h.2⟩
theorem addn_lt (x y : Rat) {j k : Nat} (hx : Sz j x) (hy : Sz k y) : (addn x y).natAbs < 18446744073709551616 ^ (j + k + 1) := by
 refine Nat.lt_of_le_of_lt (Int.natAbs_add_le _ _) ?_
 rw [Int.natAbs_mul, Int.natAbs_mul]
 refine w_add (w_mul hx.1 (Nat.lt_of_le_of_lt (Nat.div_le_self _ _) hy.2)) ?_
 rw [Nat.add_comm j k]
 exact w_mul hy.1 (Nat.lt_of_le_of_lt (Nat.div_le_self _ _) hx.2)
theorem sz_add {j k : Nat} {x y : Rat} (hx : Sz j x) (hy : Sz k y) : Sz (j + k + 1) (x + y) := by
 obtain ⟨n1, n2⟩ := add_nums x y
 refine ⟨?_, ?_⟩
 · rw [n1]
   exact Nat.lt_of_le_of_lt (Nat.div_le_self _ _) (addn_lt x y hx hy)
 · rw [n2]
   exact w_up (w_mul (Nat.lt_of_le_of_lt (Nat.div_le_self _ _) hx.2) (Nat.lt_of_le_of_lt (Nat.div_le_self _ _) hy.2)) (by omega)
theorem sz_sub {j k : Nat} {x y : Rat} (hx : Sz j x) (hy : Sz k y) : Sz (j + k + 1) (x - y) := by
 rw [Rat.sub_eq_add_neg]
 exact sz_add hx (sz_neg hy)
end Go.Proofs.YtggmnmmjmihnfaaGreatDoor
namespace Go.Proofs.YtggmnmmjmihnfaaGreatDoor
open Go.RowKit
set_option linter.unusedVariables false
theorem floor_whole (x : Rat) (h : x.den = 1) : ((x.floor : Int) : Rat) = x := by
 rw [Rat.floor_def, h]
 simp only [Int.natCast_one, Int.ediv_one]
 apply Rat.ext
 · rw [Rat.num_intCast]
 · rw [Rat.den_intCast, h]
theorem floor_pos (x : Rat) (h : ¬ x.num < 0) : x.floor = ((x.num.natAbs / x.den : Nat) : Int) := by
 rw [Rat.floor_def, Int.natCast_ediv, Int.natAbs_of_nonneg (by omega)]
theorem floor_neg (x : Rat) (h : x.num < 0) (hd : x.den ≠ 1) : x.floor = -((x.num.natAbs / x.den + 1 : Nat) : Int) := by
 rw [Rat.floor_def]
 obtain ⟨N, hN⟩ : ∃ N, x.num.natAbs = N := ⟨_, rfl⟩
 have hn : x.num = -(N : Int) := by omega
 have hr : 0 < N % x.den := by
  rcases Nat.eq_zero_or_pos (N % x.den) with h0 | h0
  · have h1 : x.den ∣ N := Nat.dvd_of_mod_eq_zero h0
    have h2 : x.den ∣ Nat.gcd x.num.natAbs x.den := Nat.dvd_gcd (by rw [hN]; exact h1) (Nat.dvd_refl _)
    rw [x.reduced] at h2
    exact absurd (Nat.dvd_one.1 h2) hd
  · exact h0
 have hl := Nat.mod_lt N x.den_pos
 have he := Nat.div_add_mod N x.den
 rw [hN, hn]
 have hu := (Int.ediv_emod_unique (a := -(N : Int)) (b := (x.den : Int)) (q := -((N / x.den + 1 : Nat) : Int)) (r := ((x.den - N % x.den : Nat) : Int)) (by have := x.den_pos; omega)).2 ⟨?_, by omega, by omega⟩
 · exact hu.1
 · have e1 : (x.den : Int) * -((N / x.den + 1 : Nat) : Int) = -(((x.den * (N / x.den) + x.den : Nat)) : Int) := by
    rw [Int.mul_neg, ← Int.natCast_mul, Nat.mul_add, Nat.mul_one]
   rw [e1]
   omega
theorem sz_floor {k : Nat} {x : Rat} (h : Sz k x) (hk : 1 ≤ k) : Sz (k + 1) ((x.floor : Int) : Rat) := by
 refine ⟨?_, by rw [Rat.den_intCast]; exact Nat.one_lt_pow (by omega) (by decide)⟩
 rw [nd_num]
 have h1 : x.num.natAbs / x.den < 18446744073709551616 ^ k := Nat.lt_of_le_of_lt (Nat.div_le_self _ _) h.1
 have h2 : x.num.natAbs / x.den + 1 < 18446744073709551616 ^ (k + 1) := w_add h1 (Nat.one_lt_pow (by omega) (by decide))
 by_cases hs : x.num < 0
 · by_cases hd : x.den = 1
   · have := floor_whole x hd
     have h3 : x.floor = x.num := by rw [Rat.floor_def, hd]; simp
     rw [h3]
     exact w_up h.1 (by omega)
   · rw [floor_neg x hs hd]
     generalize x.num.natAbs / x.den = T at h1 h2 ⊢
     omega
 · rw [floor_pos x hs]
   generalize x.num.natAbs / x.den = T at h1 h2 ⊢
   omega
end Go.Proofs.YtggmnmmjmihnfaaGreatDoor
namespace Go.Proofs.YtggmnmmjmihnfaaGreatDoor
open Go.RowKit
set_option linter.unusedVariables false
theorem any_opg {P : Program} {ops : Array Oper} {Q : Exit → Act → World → Prop} {i : Nat} {K : Act → World → Prop} {a : Act} {w : World} {o : Oper} (hi : ops[i]? = some o) (hg : Region.wanted o (yielded ops a.tmps) = true) (h : o.wp P a w K Q) : wpOp P ops Q i K a w := by
 unfold wpOp
 rw [hi]
 simp only [hg, if_true]
 exact .inl h
section
variable {w W8 W : World} {bx : List (Nat × TypeId × Array Value)} {l : List (Value × Nat)} {r : List (Value × Rat)}
/-- A fraction is stored into a box that was made late. -/
theorem Mq.put3 (V : Mq w bx l r W8) (hb : Below W8.heap.size W8 W) {b : Nat} {z : Bool} {p : Option Addr} {n c : Nat} {p' : Option Addr} {n' c' : Nat} (hk : Blk W b 27 #[.bool z, .slice p n c, .slice p' n' c']) (hb8 : W8.heap.size ≤ b)
 {v : Value} {D : Rat} (hD : IsR W v D) (y : Bool) (q : Option Addr) (m d : Nat) (q' : Option Addr) (m' d' : Nat) :
 Mq w ((b, 27, #[.bool y, .slice q m d, .slice q' m' d']) :: bx) l ((v, D) :: r) (set3 W b (.bool y) (.slice q m d) (.slice q' m' d')) :=
 ((V.below (below_set3 hb hb8 _ _ _)).rcons (isR_put (isR_put (isR_put hD hk (plain_rat _ _ _ _ _ _ _) (i := 0) (.bool y)) (hk.set_ 0 (.bool y)) (plain_rat _ _ _ _ _ _ _) (i := 1) (.slice q m d)) ((hk.set_ 0 (.bool y)).set_ 1 (.slice q m d)) (plain_rat _ _ _ _ _ _ _) (i := 2) (.slice q' m' d'))).addbox (blk_set3 hk _ _ _) (Nat.le_trans V.bel.size hb8)
end
/-- One half. -/
def H12 : Rat := mkRat 1 2
theorem h12_two : H12 + H12 = 1 := by decide +kernel
theorem h12_parts : H12.num = 1 ∧ H12.den = 2 := mk_parts (n := 1) (q := 2) (by decide) (by decide)
theorem sz_h12 (k : Nat) (h : 1 ≤ k) : Sz k H12 := ⟨by rw [h12_parts.1]; exact w_pos k h (by decide), by rw [h12_parts.2]; exact w_pos k h (by decide)⟩
theorem sz_zero (k : Nat) (h : 1 ≤ k) : Sz k 0 := ⟨w_pos k h (by decide), w_pos k h (by decide)⟩
theorem den_num (x : Rat) : x * ((x.den : Int) : Rat) = ((x.num : Int) : Rat) := by
 rw [Rat.mul_def', Rat.num_intCast, Rat.den_intCast, Nat.mul_one]
 have := Rat.mkRat_mul_right (n := x.num) (d := 1) (a := x.den) x.den_nz
 rw [Nat.one_mul] at this
 rw [this]
 have h2 := Rat.mkRat_self ((x.num : Int) : Rat)
 rwa [Rat.num_intCast, Rat.den_intCast] at h2
theorem rnd_bounds (x H : Rat) (hH : H + H = 1) (h : ¬ x.num < 0) : ((rndN x : Int) : Rat) - x ≤ H ∧ -H < ((rndN x : Int) : Rat) - x := by
 have hd : (0 : Rat) < ((x.den : Int) : Rat) := Rat.intCast_lt_intCast.2 (Int.natCast_pos.2 x.den_pos)
 have hx := den_num x
 have hdp := x.den_pos
 obtain ⟨R, hR⟩ : ∃ R, rndN x = R := ⟨_, rfl⟩
 have e := Nat.div_add_mod (x.num.natAbs * 2 ^ 1 + x.den) (x.den * 2 ^ 1)
 have l := Nat.mod_lt (x.num.natAbs * 2 ^ 1 + x.den) (show 0 < x.den * 2 ^ 1 by omega)
 have hR2 := hR
 unfold rndN at hR2
 rw [hR2] at e
 have e2 : x.den * 2 ^ 1 * R = 2 * (x.den * R) := by rw [Nat.mul_assoc, Nat.mul_left_comm]
 rw [e2] at e
 have i1 : 2 * ((x.den : Int) * (R : Int)) ≤ 2 * x.num + (x.den : Int) := by
  have := Int.natCast_mul x.den R
  omega
 have i2 : 2 * x.num < 2 * ((x.den : Int) * (R : Int)) + (x.den : Int) := by
  have := Int.natCast_mul x.den R
  omega
 have j1 := Rat.intCast_le_intCast.2 i1
 have j2 := Rat.intCast_lt_intCast.2 i2
 simp only [Rat.intCast_mul, Rat.intCast_add] at j1 j2
 rw [hR]
 clear e l e2 i1 i2 hdp hR hR2
 generalize ((x.den : Int) : Rat) = d at *
 generalize ((x.num : Int) : Rat) = n at *
 generalize ((R : Int) : Rat) = r at *
 have two : (((2 : Int)) : Rat) = 2 := rfl
 rw [two] at j1 j2
 refine ⟨Rat.not_lt.1 fun h1 => ?_, Rat.not_le.1 fun h1 => ?_⟩
 · have h2 := Rat.mul_pos ((Rat.lt_iff_sub_pos _ _).1 h1) hd
   have e : 2 * ((r - x - H) * d) = 2 * (d * r) - 2 * n - d := by grind
   generalize (r - x - H) * d = u at *
   generalize d * r = s at *
   clear hx h1 hH
   grind
 · have h2 := Rat.mul_nonneg ((Rat.le_iff_sub_nonneg _ _).1 h1) (Rat.le_of_lt hd)
   have e : 2 * ((-H - (r - x)) * d) = 2 * n - 2 * (d * r) - d := by grind
   generalize (-H - (r - x)) * d = u at *
   generalize d * r = s at *
   clear hx h1 hH
   grind
theorem num_neg_iff (z : Rat) : z.num < 0 ↔ z < 0 := by
 have := Rat.num_nonneg (q := z)
 refine ⟨fun h => Rat.not_le.1 (fun h2 => by have := this.2 h2; omega), fun h => ?_⟩
 by_cases h3 : z.num < 0
 · exact h3
 · exact absurd (this.1 (by omega)) (Rat.not_le.2 h)
/-- The nearest whole number. -/
def rndQ (x : Rat) : Int := if x.num < 0 then -(rndN x : Int) else (rndN x : Int)
theorem rndN_neg (x : Rat) : rndN (-x) = rndN x := by unfold rndN; rw [Rat.neg_num, Int.natAbs_neg]; rfl
theorem rndQ_neg (x : Rat) : ((rndQ (-x) : Int) : Rat) = -((rndQ x : Int) : Rat) := by
 rw [← Rat.intCast_neg]
 congr 1
 unfold rndQ
 rw [rndN_neg, Rat.neg_num]
 by_cases h0 : x.num = 0
 · have hz : rndN x = 0 := by
    unfold rndN
    rw [h0]
    have := x.den_pos
    exact Nat.div_eq_of_lt (by simp; omega)
   rw [hz]
   simp [h0]
 · by_cases h : x.num < 0
   · rw [if_neg (by omega), if_pos h]; omega
   · rw [if_pos (by omega), if_neg h]
theorem rndQ_bounds (x : Rat) : (¬ x.num < 0 → ((rndQ x : Int) : Rat) - x ≤ H12 ∧ -H12 < ((rndQ x : Int) : Rat) - x) ∧ (x.num < 0 → -H12 ≤ ((rndQ x : Int) : Rat) - x ∧ ((rndQ x : Int) : Rat) - x < H12) := by
 constructor
 · intro h
   unfold rndQ
   rw [if_neg h]
   exact rnd_bounds x H12 h12_two h
 · intro h
   have hn : ¬ (-x).num < 0 := by rw [Rat.neg_num]; omega
   obtain ⟨h1, h2⟩ := rnd_bounds (-x) H12 h12_two hn
   rw [rndN_neg] at h1 h2
   unfold rndQ
   rw [if_pos h, Rat.intCast_neg]
   generalize ((rndN x : Int) : Rat) = r at *
   constructor <;> grind
/-- How far it is from the nearest whole number. -/
def offQ (x : Rat) : Rat := if (((rndQ x : Int) : Rat) - x).num < 0 then 0 - (((rndQ x : Int) : Rat) - x) else ((rndQ x : Int) : Rat) - x
theorem offQ_le (x : Rat) : offQ x ≤ H12 := by
 obtain ⟨h1, h2⟩ := rndQ_bounds x
 unfold offQ
 generalize ((rndQ x : Int) : Rat) - x = e at *
 by_cases h : x.num < 0
 · obtain ⟨h3, h4⟩ := h2 h
   split <;> grind
 · obtain ⟨h3, h4⟩ := h1 h
   split <;> grind
theorem offQ_eq (x : Rat) (h : offQ x = H12) : (x.num < 0 → (((rndQ x : Int) : Rat) - x).num < 0 ∧ ((rndQ x : Int) : Rat) < x) ∧ (¬ x.num < 0 → ¬ (((rndQ x : Int) : Rat) - x).num < 0 ∧ x < ((rndQ x : Int) : Rat)) := by
 obtain ⟨h1, h2⟩ := rndQ_bounds x
 have hp := h12_two
 unfold offQ at h
 constructor
 · intro hx
   obtain ⟨h3, h4⟩ := h2 hx
   by_cases h5 : (((rndQ x : Int) : Rat) - x).num < 0
   · refine ⟨h5, ?_⟩
     have := (num_neg_iff _).1 h5
     generalize ((rndQ x : Int) : Rat) = e at *
     grind
   · rw [if_neg h5] at h
     exact absurd h4 (by rw [h]; exact Rat.lt_irrefl)
 · intro hx
   obtain ⟨h3, h4⟩ := h1 hx
   by_cases h5 : (((rndQ x : Int) : Rat) - x).num < 0
   · rw [if_pos h5] at h
     generalize ((rndQ x : Int) : Rat) - x = e at *
     exfalso
     grind
   · refine ⟨h5, ?_⟩
     rw [if_neg h5] at h
     generalize ((rndQ x : Int) : Rat) = e at *
     grind
theorem cmpQ_lt {x y : Rat} (h : x < y) : cmpQ x y = -1 := if_pos h
theorem cmpQ_gt {x y : Rat} (h : y < x) : cmpQ x y = 1 := by
 unfold cmpQ
 rw [if_neg (Rat.not_lt.2 (Rat.le_of_lt h)), if_pos h]
theorem cmpQ_eq (x : Rat) : cmpQ x x = 0 := by
 unfold cmpQ
 rw [if_neg Rat.lt_irrefl, if_neg Rat.lt_irrefl]
theorem sz_rnd {k : Nat} {x : Rat} (h : Sz k x) (hk : 1 ≤ k) : Sz (k + 1) ((rndQ x : Int) : Rat) := by
 refine ⟨?_, by rw [Rat.den_intCast]; exact Nat.one_lt_pow (by omega) (by decide)⟩
 rw [nd_num]
 have h1 : rndN x ≤ x.num.natAbs + 1 := by
  unfold rndN
  have hd := x.den_pos
  rw [Nat.pow_one]
  have : x.num.natAbs * 2 + x.den < (x.den * 2) * (x.num.natAbs + 1 + 1) := by
   have h5 : x.num.natAbs ≤ x.den * x.num.natAbs := Nat.le_mul_of_pos_left _ hd
   have h6 : (x.den * 2) * (x.num.natAbs + 1 + 1) = 2 * (x.den * x.num.natAbs) + 4 * x.den := by
    rw [Nat.mul_add, Nat.mul_add, Nat.mul_one, Nat.mul_assoc, Nat.mul_left_comm]; omega
   omega
  have := (Nat.div_lt_iff_lt_mul (by omega : 0 < x.den * 2)).2 (by rw [Nat.mul_comm]; exact this)
  omega
 have h2 := w_add h.1 (Nat.one_lt_pow (a := 18446744073709551616) (n := k) (by omega) (by decide))
 have h3 : (rndQ x).natAbs = rndN x := by unfold rndQ; split <;> omega
 omega
theorem pq_sz {s : ByteArray} {x : Rat} {k : Nat} (h : pq s = some x) (hs : s.size ≤ 16 * k) (hk : 1 ≤ k) : Sz k x := by
 classical
 have hb := bd_size s
 unfold pq at h
 split at h
 · unfold pqw at h
   split at h
   · cases h
     refine ⟨?_, by rw [Rat.den_intCast]; exact Nat.one_lt_pow (by omega) (by decide)⟩
     rw [nd_num, sgn_abs]
     exact nn_lt (by omega)
   · cases h
 · split at h
   · rename_i hc
     cases h
     have ha := above_size (bd s)
     have hu := under_size (bd s)
     obtain ⟨p1, p2⟩ := mk_parts (n := sgn (ng s) (nn (above (bd s)))) (q := nn (under (bd s))) hc.2.1 (by rw [sgn_abs]; exact hc.2.2.2)
     refine ⟨?_, ?_⟩
     · rw [p1, sgn_abs]
       exact nn_lt (by omega)
     · rw [p2]
       exact nn_lt (by omega)
   · cases h
end Go.Proofs.YtggmnmmjmihnfaaGreatDoor
