/-
  Law 2: the first call of the statements, whose answer the document fixes: it answers true.
  RatTexts: its numbers and texts.
  RatTexts, where its numbers are not 0 and small.
-/
import Derived.Test.YtllmacokhjmdgaaGreatDoorQPp
namespace Go.Proofs.YtllmacokhjmdgaaGreatDoor
open Go.RowKit
set_option linter.unusedVariables false
def x32 : Rat := mkRat (-3) 2
def x52 : Rat := mkRat (-5) 2
theorem x32_parts : x32.num = -3 ∧ x32.den = 2 := mk_parts (by decide) (by decide)
theorem x52_parts : x52.num = -5 ∧ x52.den = 2 := mk_parts (by decide) (by decide)
theorem w_pos (k : Nat) (h : 1 ≤ k) {N : Nat} (hN : N < 18446744073709551616) : N < 18446744073709551616 ^ k := Nat.lt_of_lt_of_le (by rw [Nat.pow_one]; exact hN) (w64_mono (j := 1) h)
theorem sz32 (k : Nat) (h : 1 ≤ k) : Sz k x32 := ⟨by rw [x32_parts.1]; exact w_pos k h (by decide), by rw [x32_parts.2]; exact w_pos k h (by decide)⟩
theorem sz52 (k : Nat) (h : 1 ≤ k) : Sz k x52 := ⟨by rw [x52_parts.1]; exact w_pos k h (by decide), by rw [x52_parts.2]; exact w_pos k h (by decide)⟩
theorem sz_int (k : Nat) (h : 1 ≤ k) (v : Int) (hv : v.natAbs < 18446744073709551616) : Sz k (v : Rat) := ⟨by rw [nd_num]; exact w_pos k h hv, by rw [Rat.den_intCast]; exact w_pos k h (by decide)⟩
theorem dg_one {k : Nat} (h : k < 10) : dg k = ⟨#[UInt8.ofNat (48 + k)]⟩ := by unfold dg; rw [Lib.decDigits_one h]
theorem tx32 : tx x32 = ⟨#[45, 51, 47, 50]⟩ := by
  unfold tx
  rw [x32_parts.1, x32_parts.2, if_neg (by decide), if_pos (by decide), dg_one (k := 2) (by decide), show (-3 : Int).natAbs = 3 from rfl, dg_one (k := 3) (by decide)]
  rfl
theorem tx52 : tx x52 = ⟨#[45, 53, 47, 50]⟩ := by
  unfold tx
  rw [x52_parts.1, x52_parts.2, if_neg (by decide), if_pos (by decide), dg_one (k := 2) (by decide), show (-5 : Int).natAbs = 5 from rfl, dg_one (k := 5) (by decide)]
  rfl
theorem tx_int (v : Int) : tx (v : Rat) = if v < 0 then ⟨#[45]⟩ ++ dg v.natAbs else dg v.natAbs := by
  unfold tx
  rw [Rat.num_intCast, Rat.den_intCast, if_pos rfl]
theorem tx3 : tx ((-3 : Int) : Rat) = ⟨#[45, 51]⟩ := by
  rw [tx_int, if_pos (by decide), show (-3 : Int).natAbs = 3 from rfl, dg_one (k := 3) (by decide)]
  rfl
theorem tx7 : tx ((-7 : Int) : Rat) = ⟨#[45, 55]⟩ := by
  rw [tx_int, if_pos (by decide), show (-7 : Int).natAbs = 7 from rfl, dg_one (k := 7) (by decide)]
  rfl
theorem tx0 : tx (0 : Rat) = ⟨#[48]⟩ := by
  have := tx_int 0
  rw [if_neg (by decide), show (0 : Int).natAbs = 0 from rfl, dg_one (k := 0) (by decide)] at this
  exact this
theorem rnd52 : -((rndN x52 : Int) : Rat) = ((-3 : Int) : Rat) := by
  have : rndN x52 = 3 := by unfold rndN; rw [x52_parts.1, x52_parts.2]; rfl
  rw [this]; rfl
set_option maxRecDepth 100000 in
set_option maxHeartbeats 4000000 in
theorem alive_r (w : World) (htab : Tab w) (htb : TabB w) : Calls Tryz.prog 9 #[] w fun e w' => e = .returned (.bool true) ∧ Below w.heap.size w w' := by
  have HMake : Hid (∀ W va vb, Below w.heap.size w W → IsN W va 6 → IsN W vb 4 → Calls Tryz.prog 10 #[.bool true, va, vb] W fun e w' => ∃ v, e = .returned (.tuple #[v, .int .i64 0]) ∧ IsR w' v x32 ∧ Below W.heap.size W w') := Lib.hid (fun W va vb hb h1 h2 =>
    make_any x32 true 6 4 va vb W h1 h2 (w_pos 26 (by omega) (by decide)) (w_pos 26 (by omega) (by decide)) (by decide) (htb.below hb (Nat.le_refl _)) ⟨by rw [x32_parts.1]; rfl, by rw [x32_parts.2]; rfl, fun _ => by rw [x32_parts.1]; rfl⟩)
  have HParse : Hid (∀ W, Below w.heap.size w W → Calls Tryz.prog 12 #[.string ⟨#[45, 53, 47, 50]⟩] W fun e w' => ∃ b x y z x' y' z', e = .returned (.tuple #[.agg #[.bool b, .slice x y z, .slice x' y' z'], .int .i64 0]) ∧ IsR w' (.agg #[.bool b, .slice x y z, .slice x' y' z']) x52 ∧ Below W.heap.size W w') := Lib.hid (fun W hb => by
    have h := parse_r ⟨#[45, 53, 47, 50]⟩ W (by decide) (htb.below hb (Nat.le_refl _))
    rw [← tx52, pq_tx] at h
    rw [← tx52]
    exact h)
  have HTx : Hid (∀ W v x, Below w.heap.size w W → IsR W v x → Sz 100 x → Calls Tryz.prog 13 #[v] W fun e w' => e = .returned (.string (tx x)) ∧ Below W.heap.size W w') := Lib.hid (fun W v x hb h hs => text_r x v W h hs (htab.below hb (Nat.le_refl _)))
  have HNeg : Hid (∀ W v, IsR W v x32 → Calls Tryz.prog 21 #[v] W fun e w' => e = .returned (.bool true) ∧ Below W.heap.size W w') := Lib.hid (fun W v h => by
    have := neg_any x32 v W h
    rw [x32_parts.1] at this
    exact this)
  have HRnd : Hid (∀ W v, IsR W v x52 → Calls Tryz.prog 19 #[v] W (GaveR ((-3 : Int) : Rat) W)) := Lib.hid (fun W v h => by
    have := round_neg x52 v W h (sz52 90 (by omega)) (by rw [x52_parts.1]; rfl)
    rwa [rnd52] at this)
  have HOf : Hid (∀ W, Calls Tryz.prog 29 #[.int .i64 (-7)] W (GaveR ((-7 : Int) : Rat) W)) := Lib.hid (fun W => of_r (-7) W (by decide) (by decide))
  have V := Mq.refl w
  clear htab htb
  go_enter Tryz.func9, Tryz.ntmps9
  go_wp2_with fail
  refine (V.of (N := 6) (by decide)).mono ?_
  rintro e w1 ⟨x1, y1, z1, rfl, V1⟩
  clear V
  go_wp2_with fail
  refine (V1.of (N := 4) (by decide)).mono ?_
  rintro e w2 ⟨x2, y2, z2, rfl, V2⟩
  clear V1
  go_wp2_with fail
  refine (HMake.out w2 _ _ V2.bel (V2.num 1 _ _ rfl).1 (V2.num 0 _ _ rfl).1).mono ?_
  rintro e w3 ⟨v3, rfl, hr3, hb3⟩
  have V3 := V2.below hb3
  obtain ⟨p, n, c, p', n', c', rfl, m1, m2⟩ := hr3
  have hs3 : decide (x32.num < 0) = true := by rw [x32_parts.1]; rfl
  have hr3 : IsR w3 (.agg #[.bool true, .slice p n c, .slice p' n' c']) x32 := ⟨p, n, c, p', n', c', by rw [hs3], m1, m2⟩
  rw [hs3]
  have V4 := (V3.rcons hr3).alloc 28 #[.bool true, .slice p n c, .slice p' n' c']
  clear V2 V3 hr3 m1 m2 hb3 hs3
  go_wp2_with fail
  refine (HParse.out _ V4.bel).mono ?_
  rintro e w5 ⟨b, x5, y5, z5, x6, y6, z6, rfl, hr5, hb5⟩
  have V5 := ((V4.below hb5).rcons hr5).alloc 28 #[.bool b, .slice x5 y5 z5, .slice x6 y6 z6]
  have r0 := V5.c0 1 rfl; have r1 := V5.c1 1 rfl; have r2 := V5.c2 1 rfl
  clear V4 hr5 hb5
  go_wp2_with fail
  refine (HTx.out _ _ x32 V5.bel (V5.rat 1 _ _ rfl) (sz32 100 (by omega))).mono ?_
  rintro e w6 ⟨rfl, hb6⟩
  rw [tx32]
  have V6 := V5.below hb6
  have s0 := V6.c0 1 rfl; have s1 := V6.c1 1 rfl; have s2 := V6.c2 1 rfl
  clear V5 hb6 r0 r1 r2
  go_wp2_with fail
  refine (HNeg.out _ _ (V6.rat 1 _ _ rfl)).mono ?_
  rintro e w7 ⟨rfl, hb7⟩
  have V7 := V6.below hb7
  have t0 := V7.c0 0 rfl; have t1 := V7.c1 0 rfl; have t2 := V7.c2 0 rfl
  clear V6 hb7 s0 s1 s2
  go_wp2_with fail
  refine (HRnd.out _ _ (V7.rat 0 _ _ rfl)).mono ?_
  rintro e w8 ⟨v8, rfl, hr8, hb8⟩
  have V8 := V7.below hb8
  clear V7 hb8 t0 t1 t2
  go_wp2_with fail
  refine (HTx.out _ _ _ V8.bel hr8 (sz_int 100 (by omega) (-3) (by decide))).mono ?_
  rintro e w9 ⟨rfl, hb9⟩
  rw [tx3]
  have V9 := V8.below hb9
  clear V8 hb9 hr8
  go_wp2_with fail
  refine (HOf.out _).mono ?_
  rintro e wA ⟨vA, rfl, hrA, hbA⟩
  have VA := V9.below hbA
  clear V9 hbA
  go_wp2_with fail
  refine (HTx.out _ _ _ VA.bel hrA (sz_int 100 (by omega) (-7) (by decide))).mono ?_
  rintro e wB ⟨rfl, hbB⟩
  rw [tx7]
  have VB := VA.below hbB
  clear VA hbB hrA
  go_wp2_with fail
  refine (HTx.out _ _ 0 VB.bel (isR_zero _) (sz_int 100 (by omega) 0 (by decide))).mono ?_
  rintro e wC ⟨rfl, hbC⟩
  rw [tx0]
  have HB := Lib.hid (VB.below hbC).bel
  clear VB hbC
  go_wp2_with fail
  go_ret
  exact ⟨rfl, HB.out⟩
end Go.Proofs.YtllmacokhjmdgaaGreatDoor
namespace Go.Proofs.YtllmacokhjmdgaaGreatDoor
open Go.RowKit
set_option linter.unusedVariables false
theorem mk_make (z : Bool) (N D : Nat) (hD : D ≠ 0) : (mkRat (sgn z N) D).num.natAbs = N / Nat.gcd N D ∧ (mkRat (sgn z N) D).den = D / Nat.gcd N D ∧ (N / Nat.gcd N D ≠ 0 → decide ((mkRat (sgn z N) D).num < 0) = z) := by
  rw [← Rat.normalize_eq_mkRat hD, Rat.num_normalize, Rat.den_normalize, sgn_abs]
  have hg : 0 < Nat.gcd N D := Nat.gcd_pos_of_pos_right _ (Nat.pos_of_ne_zero hD)
  have hdv : Nat.gcd N D ∣ N := Nat.gcd_dvd_left _ _
  have e : sgn z N / ((Nat.gcd N D : Nat) : Int) = sgn z (N / Nat.gcd N D) := by
    obtain ⟨q, hq⟩ := hdv
    generalize Nat.gcd N D = G at *
    rw [hq, Nat.mul_div_cancel_left _ hg]
    unfold sgn
    have hG : (G : Int) ≠ 0 := by omega
    split
    · rw [show -((G * q : Nat) : Int) = (G : Int) * (-(q : Int)) from by push_cast; rw [Int.mul_neg], Int.mul_ediv_cancel_left _ hG]
    · rw [Int.natCast_mul, Int.mul_ediv_cancel_left _ hG]
  rw [e, sgn_abs]
  exact ⟨rfl, rfl, fun h => sgn_neg (fun e => absurd e h)⟩
theorem mk_scale (N D B : Nat) (hD : D ≠ 0) (hB : B ≠ 0) : mkRat (sgn false (N * B)) (D * B) = mkRat (sgn false N) D := by
  have h0 : D * B ≠ 0 := Nat.mul_ne_zero hD hB
  rw [← Rat.normalize_eq_mkRat hD, ← Rat.normalize_eq_mkRat h0]
  have := Rat.normalize_mul_right (n := sgn false N) (d := D) (a := B) hD hB
  unfold sgn at *
  simpa using this
theorem pq_both (N D B : Nat) (hB : 2 ≤ B) : pq ((dg (N * B) ++ ⟨#[47]⟩) ++ dg (D * B)) = none := by
  rw [ByteArray.append_assoc]
  obtain ⟨h1, h2⟩ := ng_false (dg_head (N * B) (⟨#[47]⟩ ++ dg (D * B))).1
  rw [pq_two false _ _ _ h1 h2, if_neg]
  rintro ⟨_, _, h⟩
  rw [Nat.gcd_mul_right] at h
  have := Nat.eq_one_of_mul_eq_one_left h
  omega
theorem plus_wf (t : ByteArray) : ¬ WF (⟨#[43]⟩ ++ t) := fun h => by
  have := h.dig 43 (by simp)
  unfold isDig at this
  exact absurd this (by decide)
theorem pq_plus (x : Rat) (hx : ¬ x.num < 0) : pq (⟨#[43]⟩ ++ tx x) = none := by
  have hh : (⟨#[43]⟩ ++ tx x : ByteArray).data.toList.head? ≠ some 45 := by
    rw [app_list]
    simp
  obtain ⟨h1, h2⟩ := ng_false hh
  unfold pq
  rw [h1, h2]
  have nslash : ∀ t : ByteArray, (47 : UInt8) ∉ t.data.toList → (47 : UInt8) ∉ (⟨#[43]⟩ ++ t : ByteArray).data.toList := fun t ht => by
    rw [app_list]
    simp [ht]
  by_cases h : x.den = 1
  · have e : tx x = dg x.num.natAbs := by unfold tx; rw [if_pos h, if_neg hx]
    rw [e, if_pos (sl_none (nslash _ (fun h => (dg_ne h).2.1 rfl)))]
    unfold pqw
    rw [if_neg (fun h => plus_wf _ h.1)]
  · have e : tx x = dg x.num.natAbs ++ (⟨#[47]⟩ ++ dg x.den) := by unfold tx; rw [if_neg h, if_neg hx]
    obtain ⟨s1, s2, _⟩ := sl_some (⟨#[43]⟩ ++ dg x.num.natAbs) (dg x.den) (nslash _ (fun h => (dg_ne h).2.1 rfl))
    rw [ByteArray.append_assoc] at s1 s2
    rw [e, s1, s2, if_neg (by simp), if_neg (fun h => plus_wf _ h.1.1)]
theorem tx_size (x : Rat) (k : Nat) (hk : 0 < k) (hx : Sz k x) : (tx x).size ≤ 40 * k + 2 := by
  have h1 := dg_size hx.1 hk
  have h2 := dg_size hx.2 hk
  have e45 : (⟨#[45]⟩ : ByteArray).size = 1 := rfl
  have e47 : (⟨#[47]⟩ : ByteArray).size = 1 := rfl
  unfold tx
  split <;> split <;> (try simp only [ByteArray.size_append, e45, e47]) <;> omega
end Go.Proofs.YtllmacokhjmdgaaGreatDoor
namespace Go.Proofs.YtllmacokhjmdgaaGreatDoor
open Go.RowKit
set_option linter.unusedVariables false
set_option maxRecDepth 100000 in
set_option maxHeartbeats 8000000 in
theorem ratTexts.good (N D B : Nat) (w : World) (htab : Tab w) (htb : TabB w) (hN0 : 0 < N) (hN : N ≤ 1073741824) (hD0 : 0 < D) (hD : D ≤ 1073741824) (hB0 : 2 ≤ B) (hB : B ≤ 1000) :
    Calls Tryz.prog 3 #[.int .u64 (N : Int), .int .u64 (D : Int), .int .i64 (B : Int)] w fun e w' => e = .returned (.bool true) ∧ Below w.heap.size w w' := by
  have HAl := Lib.hid (alive_r w htab htb)
  obtain ⟨X, hX⟩ : ∃ X, mkRat (sgn false N) D = X := ⟨_, rfl⟩
  obtain ⟨p1, p2, p3⟩ := mk_make false N D (by omega)
  obtain ⟨q1, q2, q3⟩ := mk_make false (N * B) (D * B) (Nat.mul_ne_zero (by omega) (by omega))
  rw [mk_scale N D B (by omega) (by omega)] at q1 q2 q3
  rw [hX] at p1 p2 p3 q1 q2 q3
  have hNB : N * B ≤ 1073741824 * 1000 := Nat.mul_le_mul hN hB
  have hDB : D * B ≤ 1073741824 * 1000 := Nat.mul_le_mul hD hB
  have hx1 : X.num.natAbs < 18446744073709551616 := by rw [p1]; exact Nat.lt_of_le_of_lt (Nat.div_le_self _ _) (by omega)
  have hx2 : X.den < 18446744073709551616 := by rw [p2]; exact Nat.lt_of_le_of_lt (Nat.div_le_self _ _) (by omega)
  have hneg : ¬ X.num < 0 := by
    by_cases h0 : N / Nat.gcd N D = 0
    · rw [h0] at p1
      omega
    · have := p3 h0
      exact of_decide_eq_false this
  have hS : ∀ k, 1 ≤ k → Sz k X := fun k h => ⟨w_pos k h hx1, w_pos k h hx2⟩
  have hgx : Nat.gcd X.num.natAbs X.den = 1 := X.reduced
  have HMake : Hid (∀ W va vb, Below w.heap.size w W → IsN W va N → IsN W vb D → Calls Tryz.prog 10 #[.bool false, va, vb] W fun e w' => ∃ v, e = .returned (.tuple #[v, .int .i64 0]) ∧ IsR w' v X ∧ Below W.heap.size W w') := Lib.hid (fun W va vb hb h1 h2 =>
    make_any X false N D va vb W h1 h2 (w_pos 26 (by omega) (by omega)) (w_pos 26 (by omega) (by omega)) hD0 (htb.below hb (Nat.le_refl _)) ⟨p1, p2, p3⟩)
  have HMake2 : Hid (∀ W va vb, Below w.heap.size w W → IsN W va (N * B) → IsN W vb (D * B) → Calls Tryz.prog 10 #[.bool false, va, vb] W fun e w' => ∃ v, e = .returned (.tuple #[v, .int .i64 0]) ∧ IsR w' v X ∧ Below W.heap.size W w') := Lib.hid (fun W va vb hb h1 h2 =>
    make_any X false (N * B) (D * B) va vb W h1 h2 (w_pos 26 (by omega) (by omega)) (w_pos 26 (by omega) (by omega)) (Nat.mul_pos hD0 (by omega)) (htb.below hb (Nat.le_refl _)) ⟨q1, q2, q3⟩)
  obtain ⟨T, hT⟩ : ∃ T, tx X = T := ⟨_, rfl⟩
  have hTs : T.size ≤ 42 := by rw [← hT]; exact tx_size X 1 (by omega) (hS 1 (by omega))
  have HText : Hid (∀ W v, Below w.heap.size w W → IsR W v X → Calls Tryz.prog 13 #[v] W fun e w' => e = .returned (.string T) ∧ Below W.heap.size W w') := Lib.hid (fun W v hb h => by
    have := text_r X v W h (hS 100 (by omega)) (htab.below hb (Nat.le_refl _))
    rwa [hT] at this)
  have HParse : Hid (∀ W, Below w.heap.size w W → Calls Tryz.prog 12 #[.string T] W fun e w' => ∃ b x y z x' y' z', e = .returned (.tuple #[.agg #[.bool b, .slice x y z, .slice x' y' z'], .int .i64 0]) ∧ IsR w' (.agg #[.bool b, .slice x y z, .slice x' y' z']) X ∧ Below W.heap.size W w') := Lib.hid (fun W hb => by
    have h := parse_r T W (by omega) (htb.below hb (Nat.le_refl _))
    rw [← hT, pq_tx] at h
    rw [← hT]
    exact h)
  have HPlus : Hid (∀ W, Below w.heap.size w W → Calls Tryz.prog 12 #[.string (⟨#[43]⟩ ++ T)] W fun e w' => ∃ b x y z x' y' z', e = .returned (.tuple #[.agg #[.bool b, .slice x y z, .slice x' y' z'], .int .i64 3]) ∧ Below W.heap.size W w') := Lib.hid (fun W hb => by
    have h := parse_r (⟨#[43]⟩ ++ T) W (by rw [ByteArray.size_append]; show 1 + T.size ≤ 400; omega) (htb.below hb (Nat.le_refl _))
    rw [← hT, pq_plus X hneg] at h
    rw [← hT]
    exact h.mono fun e w' ⟨b, x, y, z, x', y', z', h1, _, h3⟩ => ⟨b, x, y, z, x', y', z', h1, h3⟩)
  obtain ⟨TN, hTN⟩ : ∃ T, dg (N * B) = T := ⟨_, rfl⟩
  obtain ⟨TD, hTD⟩ : ∃ T, dg (D * B) = T := ⟨_, rfl⟩
  have hTNs : TN.size ≤ 20 := by rw [← hTN]; exact dg_size (k := 1) (by rw [Nat.pow_one]; omega) (by omega)
  have hTDs : TD.size ≤ 20 := by rw [← hTD]; exact dg_size (k := 1) (by rw [Nat.pow_one]; omega) (by omega)
  have HBoth : Hid (∀ W, Below w.heap.size w W → Calls Tryz.prog 12 #[.string ((TN ++ ⟨#[47]⟩) ++ TD)] W fun e w' => ∃ b x y z x' y' z', e = .returned (.tuple #[.agg #[.bool b, .slice x y z, .slice x' y' z'], .int .i64 3]) ∧ Below W.heap.size W w') := Lib.hid (fun W hb => by
    have h := parse_r ((TN ++ ⟨#[47]⟩) ++ TD) W (by rw [ByteArray.size_append, ByteArray.size_append]; show TN.size + 1 + TD.size ≤ 400; omega) (htb.below hb (Nat.le_refl _))
    rw [← hTN, ← hTD, pq_both N D B hB0] at h
    rw [← hTN, ← hTD]
    exact h.mono fun e w' ⟨b, x, y, z, x', y', z', h1, _, h3⟩ => ⟨b, x, y, z, x', y', z', h1, h3⟩)
  have HtN : Hid (∀ W v, Below w.heap.size w W → IsN W v (N * B) → Calls Tryz.prog 14 #[v] W fun e w' => e = .returned (.string TN) ∧ Below W.heap.size W w') := Lib.hid (fun W v hb h => (text_any _ v W h (htab.below hb (Nat.le_refl _))).mono fun e w' h' => ⟨by rw [← hTN]; exact h'.1, h'.2⟩)
  have HtD : Hid (∀ W v, Below w.heap.size w W → IsN W v (D * B) → Calls Tryz.prog 14 #[v] W fun e w' => e = .returned (.string TD) ∧ Below W.heap.size W w') := Lib.hid (fun W v hb h => (text_any _ v W h (htab.below hb (Nat.le_refl _))).mono fun e w' h' => ⟨by rw [← hTD]; exact h'.1, h'.2⟩)
  have HSame0 : Hid (∀ W va vb, IsR W va X → IsR W vb X → Calls Tryz.prog 15 #[va, vb] W fun e w' => e = .returned (.bool true) ∧ Below W.heap.size W w') := Lib.hid (fun W va vb h1 h2 => by
    have := same_any X X va vb W h1 h2 (hS 100 (by omega)) (hS 100 (by omega))
    simpa using this)
  have HNum0 : Hid (∀ W v, IsR W v X → Calls Tryz.prog 17 #[v] W (GaveV X.num.natAbs W)) := Lib.hid (fun W v h => num_any X v W h (hS 100 (by omega)).1)
  have HDen0 : Hid (∀ W v, IsR W v X → Calls Tryz.prog 18 #[v] W (GaveV X.den W)) := Lib.hid (fun W v h => den_any X v W h (hS 100 (by omega)).2)
  have HGcd0 : Hid (∀ W va vb, Below w.heap.size w W → IsN W va X.num.natAbs → IsN W vb X.den → Calls Tryz.prog 16 #[va, vb] W (GaveV 1 W)) := Lib.hid (fun W va vb hb h1 h2 => by
    have := gcd_all X.num.natAbs X.den va vb W h1 h2 (hS 26 (by omega)).1 (hS 26 (by omega)).2 (htb.below hb (Nat.le_refl _))
    rwa [hgx] at this)
  have HNt0 : Hid (∀ W v, Below w.heap.size w W → IsN W v 1 → Calls Tryz.prog 14 #[v] W fun e w' => e = .returned (.string ⟨#[49]⟩) ∧ Below W.heap.size W w') := Lib.hid (fun W v hb h => (text_any _ v W h (htab.below hb (Nat.le_refl _))).mono fun e w' h' => ⟨by rw [show (⟨#[49]⟩ : ByteArray) = dg 1 from (dg_one (k := 1) (by decide)).symm]; exact h'.1, h'.2⟩)
  have HX1 : Hid (X.num.natAbs < 18446744073709551616 ^ 100) := Lib.hid (hS 100 (by omega)).1
  have HX2 : Hid (X.den < 18446744073709551616 ^ 100) := Lib.hid (hS 100 (by omega)).2
  have hsg : decide (X.num < 0) = false := decide_eq_false hneg
  obtain ⟨NB, hNBe⟩ : ∃ NB, N * B = NB := ⟨_, rfl⟩
  obtain ⟨DB, hDBe⟩ : ∃ DB, D * B = DB := ⟨_, rfl⟩
  have e1 : IntKind.wrap .u64 (B : Int) = (B : Int) := by rw [wrap_u]; omega
  have e2 : IntKind.wrap .u64 ((N : Int) * (B : Int)) = (NB : Int) := by rw [wrap_u, ← Int.natCast_mul, hNBe]; omega
  have e3 : IntKind.wrap .u64 ((D : Int) * (B : Int)) = (DB : Int) := by rw [wrap_u, ← Int.natCast_mul, hDBe]; omega
  rw [hNBe] at HMake2 HtN hNB
  rw [hDBe] at HMake2 HtD hDB
  have n1 : ((D : Int) == 0) = false := by simp; omega
  have n2 : ((N : Int) == 0) = false := by simp; omega
  have n3 : decide ((1073741824 : Int) < (N : Int)) = false := by simp; omega
  have n4 : decide ((1073741824 : Int) < (D : Int)) = false := by simp; omega
  have n5 : decide ((B : Int) < 2) = false := by simp; omega
  have n6 : decide ((1000 : Int) < (B : Int)) = false := by simp; omega
  have hN64 : N < 18446744073709551616 := by omega
  have hD64 : D < 18446744073709551616 := by omega
  have hNB64 : NB < 18446744073709551616 := by omega
  have hDB64 : DB < 18446744073709551616 := by omega
  have V := Mq.refl w
  have HSg := Lib.hid hsg
  clear hX p1 p2 p3 q1 q2 q3 hNB hDB hx1 hx2 hneg hS hgx hT hTN hTD hNBe hDBe htab htb hN0 hN hD0 hD hB0 hB hsg
  go_enter Tryz.func3, Tryz.ntmps3
  go_wp2_with fail
  refine HAl.out.mono ?_
  rintro e w1 ⟨rfl, hb1⟩
  have V1 := V.below hb1
  clear V hb1 HAl
  go_wp2_with fail
  refine (V1.of hN64).mono ?_
  rintro e w2 ⟨x2, y2, z2, rfl, V2⟩
  clear V1
  go_wp2_with fail
  refine (V2.of hD64).mono ?_
  rintro e w3 ⟨x3, y3, z3, rfl, V3⟩
  clear V2
  go_wp2_with fail
  refine (HMake.out _ _ _ V3.bel (V3.num 1 _ _ rfl).1 (V3.num 0 _ _ rfl).1).mono ?_
  rintro e w4 ⟨v4, rfl, hr4, hb4⟩
  obtain ⟨i7, j7, k7, l7, m7, n7, rfl, a1, a2⟩ := hr4
  have hr4 : IsR w4 (.agg #[.bool false, .slice i7 j7 k7, .slice l7 m7 n7]) X := ⟨i7, j7, k7, l7, m7, n7, by rw [HSg.out], a1, a2⟩
  rw [HSg.out]
  have V4 := ((V3.below hb4).rcons hr4).alloc 28 #[.bool false, .slice i7 j7 k7, .slice l7 m7 n7]
  obtain ⟨g7, hg7⟩ : ∃ g, w4.heap.size = g := ⟨_, rfl⟩
  obtain ⟨W4, hW4⟩ : ∃ W, w4.alloc (.cells #[.bool false, .slice i7 j7 k7, .slice l7 m7 n7] 28) = W := ⟨_, rfl⟩
  rw [hg7, hW4] at V4
  have HW4 := Lib.hid hW4; have Hg7 := Lib.hid hg7
  clear V3 hr4 a1 a2 hb4 hW4 hg7
  go_wp2_with fail
  rw [HW4.out, Hg7.out]
  refine (V4.of hNB64).mono ?_
  rintro e w5 ⟨x5, y5, z5, rfl, V5⟩
  clear V4
  go_wp2_with fail
  refine (V5.of hDB64).mono ?_
  rintro e w6 ⟨x6, y6, z6, rfl, V6⟩
  clear V5
  go_wp2_with fail
  refine (HMake2.out _ _ _ V6.bel (V6.num 1 _ _ rfl).1 (V6.num 0 _ _ rfl).1).mono ?_
  rintro e w7 ⟨v7, rfl, hr7, hb7⟩
  obtain ⟨i9, j9, k9, l9, m9, n9, rfl, a1, a2⟩ := hr7
  have hr7 : IsR w7 (.agg #[.bool false, .slice i9 j9 k9, .slice l9 m9 n9]) X := ⟨i9, j9, k9, l9, m9, n9, by rw [HSg.out], a1, a2⟩
  rw [HSg.out]
  have V7 := ((V6.below hb7).rcons hr7).alloc 28 #[.bool false, .slice i9 j9 k9, .slice l9 m9 n9]
  obtain ⟨g9, hg9⟩ : ∃ g, w7.heap.size = g := ⟨_, rfl⟩
  have r0 : (w7.alloc (.cells #[.bool false, .slice i9 j9 k9, .slice l9 m9 n9] 28)).cell? ⟨g7, 0, none⟩ = some (.bool false) := V7.c0 1 rfl
  have r1 : (w7.alloc (.cells #[.bool false, .slice i9 j9 k9, .slice l9 m9 n9] 28)).cell? ⟨g7, 1, none⟩ = some (.slice i7 j7 k7) := V7.c1 1 rfl
  have r2 : (w7.alloc (.cells #[.bool false, .slice i9 j9 k9, .slice l9 m9 n9] 28)).cell? ⟨g7, 2, none⟩ = some (.slice l7 m7 n7) := V7.c2 1 rfl
  obtain ⟨W7, hW7⟩ : ∃ W, w7.alloc (.cells #[.bool false, .slice i9 j9 k9, .slice l9 m9 n9] 28) = W := ⟨_, rfl⟩
  rw [hg9, hW7] at V7
  have HW7 := Lib.hid hW7; have Hg9 := Lib.hid hg9
  clear V6 hr7 a1 a2 hb7 hW7 hg9
  go_wp2_with fail
  rw [HW7.out, Hg9.out]
  refine (HText.out _ _ V7.bel (V7.rat 1 _ _ rfl)).mono ?_
  rintro e w8 ⟨rfl, hb8⟩
  have V8 := V7.below hb8
  clear V7 hb8 r0 r1 r2
  go_wp2_with fail
  refine (HParse.out _ V8.bel).mono ?_
  rintro e w9 ⟨c1, i1, j1, k1, l1, m1, n1', rfl, hr9, hb9⟩
  have V9 := ((V8.below hb9).rcons hr9).alloc 28 #[.bool c1, .slice i1 j1 k1, .slice l1 m1 n1']
  obtain ⟨g1, hg1⟩ : ∃ g, w9.heap.size = g := ⟨_, rfl⟩
  obtain ⟨W9, hW9⟩ : ∃ W, w9.alloc (.cells #[.bool c1, .slice i1 j1 k1, .slice l1 m1 n1'] 28) = W := ⟨_, rfl⟩
  rw [hg1, hW9] at V9
  have HW9 := Lib.hid hW9; have Hg1 := Lib.hid hg1
  clear V8 hr9 hb9 hW9 hg1
  go_wp2_with fail
  rw [HW9.out, Hg1.out]
  refine (V9.of hNB64).mono ?_
  rintro e wA ⟨xA, yA, zA, rfl, VA⟩
  clear V9
  go_wp2_with fail
  refine (HtN.out _ _ VA.bel (VA.num 0 _ _ rfl).1).mono ?_
  rintro e wB ⟨rfl, hbB⟩
  have VB := VA.below hbB
  clear VA hbB
  go_wp2_with fail
  refine (VB.of hDB64).mono ?_
  rintro e wC ⟨xC, yC, zC, rfl, VC⟩
  clear VB
  go_wp2_with fail
  refine (HtD.out _ _ VC.bel (VC.num 0 _ _ rfl).1).mono ?_
  rintro e wD ⟨rfl, hbD⟩
  have VD := VC.below hbD
  clear VC hbD
  go_wp2_with fail
  refine (HBoth.out _ VD.bel).mono ?_
  rintro e wE ⟨cE, iE, jE, kE, lE, mE, nE, rfl, hbE⟩
  have VE := (VD.below hbE).alloc 28 #[.bool cE, .slice iE jE kE, .slice lE mE nE]
  have s0 := VE.c0 3 rfl; have s1 := VE.c1 3 rfl; have s2 := VE.c2 3 rfl
  clear VD hbE
  go_wp2_with fail
  refine (HText.out _ _ VE.bel (VE.rat 2 _ _ rfl)).mono ?_
  rintro e wF ⟨rfl, hbF⟩
  have VF := VE.below hbF
  clear VE hbF s0 s1 s2
  go_wp2_with fail
  refine (HPlus.out _ VF.bel).mono ?_
  rintro e wG ⟨cG, iG, jG, kG, lG, mG, nG, rfl, hbG⟩
  have VG := (VF.below hbG).alloc 28 #[.bool cG, .slice iG jG kG, .slice lG mG nG]
  obtain ⟨WG, hWG⟩ : ∃ W, wG.alloc (.cells #[.bool cG, .slice iG jG kG, .slice lG mG nG] 28) = W := ⟨_, rfl⟩
  rw [hWG] at VG
  have HWG := Lib.hid hWG
  clear VF hbG hWG
  go_wp2_with fail
  rw [HWG.out]
  have HS : Hid (∀ w', Below WG.drew.heap.size WG.drew w' → w'.cell? ⟨g7, 0, none⟩ = some (.bool false) ∧ w'.cell? ⟨g7, 1, none⟩ = some (.slice i7 j7 k7) ∧ w'.cell? ⟨g7, 2, none⟩ = some (.slice l7 m7 n7) ∧ w'.cell? ⟨g9, 0, none⟩ = some (.bool false) ∧ w'.cell? ⟨g9, 1, none⟩ = some (.slice i9 j9 k9) ∧ w'.cell? ⟨g9, 2, none⟩ = some (.slice l9 m9 n9) ∧ w'.cell? ⟨g1, 0, none⟩ = some (.bool c1) ∧ w'.cell? ⟨g1, 1, none⟩ = some (.slice i1 j1 k1) ∧ w'.cell? ⟨g1, 2, none⟩ = some (.slice l1 m1 n1')) := Lib.hid (fun w' hb => by
    have K := VG.drew.below hb
    exact ⟨K.c0 4 rfl, K.c1 4 rfl, K.c2 4 rfl, K.c0 3 rfl, K.c1 3 rfl, K.c2 3 rfl, K.c0 2 rfl, K.c1 2 rfl, K.c2 2 rfl⟩)
  have bWG := VG.drew.bel
  have up : ∀ W, Below WG.drew.heap.size WG.drew W → Below w.heap.size w W := fun W h => bWG.trans (h.mono bWG.size)
  have HTxt : Hid (∀ W v, Below WG.drew.heap.size WG.drew W → IsR W v X → Calls Tryz.prog 13 #[v] W fun e w' => e = .returned (.string T) ∧ Below W.heap.size W w') := Lib.hid (fun W v h => HText.out W v (up W h))
  have HGcd : Hid (∀ W va vb, Below WG.drew.heap.size WG.drew W → IsN W va X.num.natAbs → IsN W vb X.den → Calls Tryz.prog 16 #[va, vb] W (GaveV 1 W)) := Lib.hid (fun W va vb h => HGcd0.out W va vb (up W h))
  have HNt : Hid (∀ W v, Below WG.drew.heap.size WG.drew W → IsN W v 1 → Calls Tryz.prog 14 #[v] W fun e w' => e = .returned (.string ⟨#[49]⟩) ∧ Below W.heap.size W w') := Lib.hid (fun W v h => HNt0.out W v (up W h))
  have HSame := HSame0; have HNum := HNum0; have HDen := HDen0
  have U0 := (((Mq.refl WG.drew).rcons (VG.drew.rat 0 _ _ rfl)).rcons (VG.drew.rat 1 _ _ rfl)).rcons (VG.drew.rat 2 _ _ rfl)
  have HFin : Hid (∀ W, Below WG.drew.heap.size WG.drew W → Below w.heap.size w W) := Lib.hid up
  clear HText up bWG VG
  refine wp_region_held_drew (S := (fun w' => w'.cell? ⟨g7, 0, none⟩ = some (.bool false) ∧ w'.cell? ⟨g7, 1, none⟩ = some (.slice i7 j7 k7) ∧ w'.cell? ⟨g7, 2, none⟩ = some (.slice l7 m7 n7) ∧ w'.cell? ⟨g9, 0, none⟩ = some (.bool false) ∧ w'.cell? ⟨g9, 1, none⟩ = some (.slice i9 j9 k9) ∧ w'.cell? ⟨g9, 2, none⟩ = some (.slice l9 m9 n9) ∧ w'.cell? ⟨g1, 0, none⟩ = some (.bool c1) ∧ w'.cell? ⟨g1, 1, none⟩ = some (.slice i1 j1 k1) ∧ w'.cell? ⟨g1, 2, none⟩ = some (.slice l1 m1 n1'))) (by kernel_rfl) ?_ (fun hHeld => ?_)
  · exact HS.out _ U0.bel
  refine wpAnyH_take (i := 0) (oi := { dst := some 97, op := Op.move (Operand.tmp 8), type := 29, pos := "more.go:21", after := #[], guard := none }) (v := ?_) rfl (by kernel_rfl) (by kernel_rfl) (by kernel_rfl) (fun _ _ _ h => h) (Or.inl ⟨by rfl, ?_⟩) (by assumption) ?_
  rotate_left
  · intro w hSw; (try dsimp only at hSw); go_simp; (try with_reducible rfl)
  try simp only [Act.put, List.setIfInBounds_toArray, List.set_cons_zero, List.set_cons_succ]
  refine wpAnyH_take (i := 1) (oi := { dst := some 98, op := Op.binOp BinOp.eql 29 (Operand.tmp 97) (Operand.const (Value.int IntKind.i64 0)) 29, type := 4, pos := "more.go:21", after := #[{ on := 0, ground := Ground.data }], guard := none }) (v := ?_) rfl (by kernel_rfl) (by kernel_rfl) (by kernel_rfl) (fun _ _ _ h => h) (Or.inl ⟨by rfl, ?_⟩) (by assumption) ?_
  rotate_left
  · intro w hSw; (try dsimp only at hSw); go_simp; (try with_reducible rfl)
  try simp only [Act.put, List.setIfInBounds_toArray, List.set_cons_zero, List.set_cons_succ]
  refine wpAnyH_take (i := 2) (oi := { dst := some 99, op := Op.move (Operand.tmp 98), type := 4, pos := "more.go:21", after := #[{ on := 1, ground := Ground.data }], guard := none }) (v := ?_) rfl (by kernel_rfl) (by kernel_rfl) (by kernel_rfl) (fun _ _ _ h => h) (Or.inl ⟨by rfl, ?_⟩) (by assumption) ?_
  rotate_left
  · intro w hSw; (try dsimp only at hSw); go_simp; (try with_reducible rfl)
  try simp only [Act.put, List.setIfInBounds_toArray, List.set_cons_zero, List.set_cons_succ]
  refine wpAnyH_take (i := 3) (oi := { dst := some 100, op := Op.move (Operand.tmp 10), type := 29, pos := "more.go:21", after := #[{ on := 2, ground := Ground.guard }], guard := some (2, true) }) (v := ?_) rfl (by kernel_rfl) (by kernel_rfl) (by kernel_rfl) (fun _ _ _ h => h) (Or.inl ⟨by rfl, ?_⟩) (by assumption) ?_
  rotate_left
  · intro w hSw; (try dsimp only at hSw); go_simp; (try with_reducible rfl)
  try simp only [Act.put, List.setIfInBounds_toArray, List.set_cons_zero, List.set_cons_succ]
  refine wpAnyH_take (i := 4) (oi := { dst := some 101, op := Op.binOp BinOp.eql 29 (Operand.tmp 100) (Operand.const (Value.int IntKind.i64 0)) 29, type := 4, pos := "more.go:21", after := #[{ on := 3, ground := Ground.data }, { on := 2, ground := Ground.guard }], guard := some (2, true) }) (v := ?_) rfl (by kernel_rfl) (by kernel_rfl) (by kernel_rfl) (fun _ _ _ h => h) (Or.inl ⟨by rfl, ?_⟩) (by assumption) ?_
  rotate_left
  · intro w hSw; (try dsimp only at hSw); go_simp; (try with_reducible rfl)
  try simp only [Act.put, List.setIfInBounds_toArray, List.set_cons_zero, List.set_cons_succ]
  refine wpAnyH_take (i := 5) (oi := { dst := some 102, op := Op.pick (Operand.tmp 99) (Operand.tmp 101) (Operand.const (Value.bool false)), type := 4, pos := "more.go:21", after := #[{ on := 2, ground := Ground.data }, { on := 4, ground := Ground.data }], guard := none }) (v := ?_) rfl (by kernel_rfl) (by kernel_rfl) (by kernel_rfl) (fun _ _ _ h => h) (Or.inl ⟨by rfl, ?_⟩) (by assumption) ?_
  rotate_left
  · intro w hSw; (try dsimp only at hSw); go_simp; (try with_reducible rfl)
  try simp only [Act.put, List.setIfInBounds_toArray, List.set_cons_zero, List.set_cons_succ]
  refine wpAnyH_take (i := 6) (oi := { dst := some 103, op := Op.move (Operand.tmp 102), type := 4, pos := "more.go:21", after := #[{ on := 5, ground := Ground.data }, { on := 2, ground := Ground.chain }], guard := none }) (v := ?_) rfl (by kernel_rfl) (by kernel_rfl) (by kernel_rfl) (fun _ _ _ h => h) (Or.inl ⟨by rfl, ?_⟩) (by assumption) ?_
  rotate_left
  · intro w hSw; (try dsimp only at hSw); go_simp; (try with_reducible rfl)
  try simp only [Act.put, List.setIfInBounds_toArray, List.set_cons_zero, List.set_cons_succ]
  refine wpAnyH_take (i := 7) (oi := { dst := some 104, op := Op.move (Operand.tmp 12), type := 29, pos := "more.go:21", after := #[{ on := 6, ground := Ground.guard }], guard := some (6, true) }) (v := ?_) rfl (by kernel_rfl) (by kernel_rfl) (by kernel_rfl) (fun _ _ _ h => h) (Or.inl ⟨by rfl, ?_⟩) (by assumption) ?_
  rotate_left
  · intro w hSw; (try dsimp only at hSw); go_simp; (try with_reducible rfl)
  try simp only [Act.put, List.setIfInBounds_toArray, List.set_cons_zero, List.set_cons_succ]
  refine wpAnyH_take (i := 8) (oi := { dst := some 105, op := Op.binOp BinOp.eql 29 (Operand.tmp 104) (Operand.const (Value.int IntKind.i64 0)) 29, type := 4, pos := "more.go:21", after := #[{ on := 7, ground := Ground.data }, { on := 6, ground := Ground.guard }], guard := some (6, true) }) (v := ?_) rfl (by kernel_rfl) (by kernel_rfl) (by kernel_rfl) (fun _ _ _ h => h) (Or.inl ⟨by rfl, ?_⟩) (by assumption) ?_
  rotate_left
  · intro w hSw; (try dsimp only at hSw); go_simp; (try with_reducible rfl)
  try simp only [Act.put, List.setIfInBounds_toArray, List.set_cons_zero, List.set_cons_succ]
  refine wpAnyH_take (i := 9) (oi := { dst := some 106, op := Op.pick (Operand.tmp 103) (Operand.tmp 105) (Operand.const (Value.bool false)), type := 4, pos := "more.go:21", after := #[{ on := 6, ground := Ground.data }, { on := 8, ground := Ground.data }], guard := none }) (v := ?_) rfl (by kernel_rfl) (by kernel_rfl) (by kernel_rfl) (fun _ _ _ h => h) (Or.inl ⟨by rfl, ?_⟩) (by assumption) ?_
  rotate_left
  · intro w hSw; (try dsimp only at hSw); go_simp; (try with_reducible rfl)
  try simp only [Act.put, List.setIfInBounds_toArray, List.set_cons_zero, List.set_cons_succ]
  refine wpAnyH_take (i := 10) (oi := { dst := some 107, op := Op.move (Operand.tmp 106), type := 4, pos := "more.go:21", after := #[{ on := 9, ground := Ground.data }, { on := 6, ground := Ground.chain }], guard := none }) (v := ?_) rfl (by kernel_rfl) (by kernel_rfl) (by kernel_rfl) (fun _ _ _ h => h) (Or.inl ⟨by rfl, ?_⟩) (by assumption) ?_
  rotate_left
  · intro w hSw; (try dsimp only at hSw); go_simp; (try with_reducible rfl)
  try simp only [Act.put, List.setIfInBounds_toArray, List.set_cons_zero, List.set_cons_succ]
  refine wpAnyH_take (i := 11) (oi := { dst := some 108, op := Op.load 28 (Operand.tmp 7), type := 28, pos := "more.go:21", after := #[{ on := 10, ground := Ground.guard }], guard := some (10, true) }) (v := ?_) rfl (by kernel_rfl) (by kernel_rfl) (by kernel_rfl) (fun _ _ _ h => h) (Or.inl ⟨by rfl, ?_⟩) (by assumption) ?_
  rotate_left
  · intro w hSw; (try dsimp only at hSw); go_simp; (try with_reducible rfl)
  try simp only [Act.put, List.setIfInBounds_toArray, List.set_cons_zero, List.set_cons_succ]
  refine wpAnyH_take (i := 12) (oi := { dst := some 109, op := Op.load 28 (Operand.tmp 9), type := 28, pos := "more.go:21", after := #[{ on := 10, ground := Ground.guard }], guard := some (10, true) }) (v := ?_) rfl (by kernel_rfl) (by kernel_rfl) (by kernel_rfl) (fun _ _ _ h => h) (Or.inl ⟨by rfl, ?_⟩) (by assumption) ?_
  rotate_left
  · intro w hSw; (try dsimp only at hSw); go_simp; (try with_reducible rfl)
  try simp only [Act.put, List.setIfInBounds_toArray, List.set_cons_zero, List.set_cons_succ]
  refine wpAnyH_ready (rs := [13]) (by kernel_rfl) (by simp) ?_
  refine AllReadyH.cons (o := { dst := some 110, op := Op.call { callee := Callee.value (Operand.func 15), args := #[Operand.tmp 108, Operand.tmp 109], argTypes := #[28, 28] }, type := 4, pos := "more.go:21", after := #[{ on := 11, ground := Ground.data }, { on := 12, ground := Ground.data }, { on := 10, ground := Ground.chain }, { on := 10, ground := Ground.guard }], guard := some (10, true) }) rfl (fun K hK => ?_) AllReadyH.nil
  go_simp
  refine (HSame.out _ _ _ (U0.rat 0 _ _ rfl) (U0.rat 1 _ _ rfl)).mono ?_
  rintro e v1 ⟨rfl, hb⟩
  have U1 := U0.below hb
  clear hb
  refine hK.out _ _ ?_ (fun hHeld => ?_)
  · first | exact HS.out _ U8.bel | exact HS.out _ U7.bel | exact HS.out _ U6.bel | exact HS.out _ U5.bel | exact HS.out _ U4.bel | exact HS.out _ U3.bel | exact HS.out _ U2.bel | exact HS.out _ U1.bel
  clear hK K
  try simp only [Act.put, List.setIfInBounds_toArray, List.set_cons_zero, List.set_cons_succ]
  refine wpAnyH_take (i := 14) (oi := { dst := some 111, op := Op.pick (Operand.tmp 107) (Operand.tmp 110) (Operand.const (Value.bool false)), type := 4, pos := "more.go:21", after := #[{ on := 10, ground := Ground.data }, { on := 13, ground := Ground.data }], guard := none }) (v := ?_) rfl (by kernel_rfl) (by kernel_rfl) (by kernel_rfl) (fun _ _ _ h => h) (Or.inl ⟨by rfl, ?_⟩) (by assumption) ?_
  rotate_left
  · intro w hSw; (try dsimp only at hSw); go_simp; (try with_reducible rfl)
  try simp only [Act.put, List.setIfInBounds_toArray, List.set_cons_zero, List.set_cons_succ]
  refine wpAnyH_take (i := 15) (oi := { dst := some 112, op := Op.move (Operand.tmp 111), type := 4, pos := "more.go:21", after := #[{ on := 14, ground := Ground.data }, { on := 13, ground := Ground.chain }], guard := none }) (v := ?_) rfl (by kernel_rfl) (by kernel_rfl) (by kernel_rfl) (fun _ _ _ h => h) (Or.inl ⟨by rfl, ?_⟩) (by assumption) ?_
  rotate_left
  · intro w hSw; (try dsimp only at hSw); go_simp; (try with_reducible rfl)
  try simp only [Act.put, List.setIfInBounds_toArray, List.set_cons_zero, List.set_cons_succ]
  refine wpAnyH_take (i := 16) (oi := { dst := some 113, op := Op.load 28 (Operand.tmp 7), type := 28, pos := "more.go:21", after := #[{ on := 15, ground := Ground.guard }], guard := some (15, true) }) (v := ?_) rfl (by kernel_rfl) (by kernel_rfl) (by kernel_rfl) (fun _ _ _ h => h) (Or.inl ⟨by rfl, ?_⟩) (by assumption) ?_
  rotate_left
  · intro w hSw; (try dsimp only at hSw); go_simp; (try with_reducible rfl)
  try simp only [Act.put, List.setIfInBounds_toArray, List.set_cons_zero, List.set_cons_succ]
  refine wpAnyH_take (i := 18) (oi := { dst := some 115, op := Op.load 28 (Operand.tmp 9), type := 28, pos := "more.go:21", after := #[{ on := 15, ground := Ground.guard }], guard := some (15, true) }) (v := ?_) rfl (by kernel_rfl) (by kernel_rfl) (by kernel_rfl) (fun _ _ _ h => h) (Or.inl ⟨by rfl, ?_⟩) (by assumption) ?_
  rotate_left
  · intro w hSw; (try dsimp only at hSw); go_simp; (try with_reducible rfl)
  try simp only [Act.put, List.setIfInBounds_toArray, List.set_cons_zero, List.set_cons_succ]
  refine wpAnyH_ready (rs := [17]) (by kernel_rfl) (by simp) ?_
  refine AllReadyH.cons (o := { dst := some 114, op := Op.call { callee := Callee.value (Operand.func 13), args := #[Operand.tmp 113], argTypes := #[28] }, type := 9, pos := "more.go:21", after := #[{ on := 16, ground := Ground.data }, { on := 15, ground := Ground.chain }, { on := 15, ground := Ground.guard }], guard := some (15, true) }) rfl (fun K hK => ?_) AllReadyH.nil
  go_simp
  refine (HTxt.out _ _ U1.bel (U1.rat 0 _ _ rfl)).mono ?_
  rintro e v2 ⟨rfl, hb⟩
  have U2 := U1.below hb
  clear hb
  refine hK.out _ _ ?_ (fun hHeld => ?_)
  · first | exact HS.out _ U8.bel | exact HS.out _ U7.bel | exact HS.out _ U6.bel | exact HS.out _ U5.bel | exact HS.out _ U4.bel | exact HS.out _ U3.bel | exact HS.out _ U2.bel | exact HS.out _ U1.bel
  clear hK K
  try simp only [Act.put, List.setIfInBounds_toArray, List.set_cons_zero, List.set_cons_succ]
  refine wpAnyH_ready (rs := [19]) (by kernel_rfl) (by simp) ?_
  refine AllReadyH.cons (o := { dst := some 116, op := Op.call { callee := Callee.value (Operand.func 13), args := #[Operand.tmp 115], argTypes := #[28] }, type := 9, pos := "more.go:21", after := #[{ on := 18, ground := Ground.data }, { on := 17, ground := Ground.chain }, { on := 15, ground := Ground.guard }], guard := some (15, true) }) rfl (fun K hK => ?_) AllReadyH.nil
  go_simp
  refine (HTxt.out _ _ U2.bel (U2.rat 1 _ _ rfl)).mono ?_
  rintro e v3 ⟨rfl, hb⟩
  have U3 := U2.below hb
  clear hb
  refine hK.out _ _ ?_ (fun hHeld => ?_)
  · first | exact HS.out _ U8.bel | exact HS.out _ U7.bel | exact HS.out _ U6.bel | exact HS.out _ U5.bel | exact HS.out _ U4.bel | exact HS.out _ U3.bel | exact HS.out _ U2.bel | exact HS.out _ U1.bel
  clear hK K
  try simp only [Act.put, List.setIfInBounds_toArray, List.set_cons_zero, List.set_cons_succ]
  refine wpAnyH_take (i := 20) (oi := { dst := some 117, op := Op.binOp BinOp.eql 9 (Operand.tmp 114) (Operand.tmp 116) 9, type := 4, pos := "more.go:21", after := #[{ on := 17, ground := Ground.data }, { on := 19, ground := Ground.data }, { on := 15, ground := Ground.guard }], guard := some (15, true) }) (v := ?_) rfl (by kernel_rfl) (by kernel_rfl) (by kernel_rfl) (fun _ _ _ h => h) (Or.inl ⟨by rfl, ?_⟩) (by assumption) ?_
  rotate_left
  · intro w hSw; (try dsimp only at hSw); go_simp; (try with_reducible rfl)
  try simp only [Act.put, List.setIfInBounds_toArray, List.set_cons_zero, List.set_cons_succ]
  refine wpAnyH_take (i := 21) (oi := { dst := some 118, op := Op.pick (Operand.tmp 112) (Operand.tmp 117) (Operand.const (Value.bool false)), type := 4, pos := "more.go:21", after := #[{ on := 15, ground := Ground.data }, { on := 20, ground := Ground.data }], guard := none }) (v := ?_) rfl (by kernel_rfl) (by kernel_rfl) (by kernel_rfl) (fun _ _ _ h => h) (Or.inl ⟨by rfl, ?_⟩) (by assumption) ?_
  rotate_left
  · intro w hSw; (try dsimp only at hSw); go_simp; (try with_reducible rfl)
  try simp only [Act.put, List.setIfInBounds_toArray, List.set_cons_zero, List.set_cons_succ]
  refine wpAnyH_take (i := 22) (oi := { dst := some 119, op := Op.move (Operand.tmp 118), type := 4, pos := "more.go:21", after := #[{ on := 21, ground := Ground.data }, { on := 19, ground := Ground.chain }], guard := none }) (v := ?_) rfl (by kernel_rfl) (by kernel_rfl) (by kernel_rfl) (fun _ _ _ h => h) (Or.inl ⟨by rfl, ?_⟩) (by assumption) ?_
  rotate_left
  · intro w hSw; (try dsimp only at hSw); go_simp; (try with_reducible rfl)
  try simp only [Act.put, List.setIfInBounds_toArray, List.set_cons_zero, List.set_cons_succ]
  refine wpAnyH_take (i := 23) (oi := { dst := some 120, op := Op.load 28 (Operand.tmp 7), type := 28, pos := "more.go:21", after := #[{ on := 22, ground := Ground.guard }], guard := some (22, true) }) (v := ?_) rfl (by kernel_rfl) (by kernel_rfl) (by kernel_rfl) (fun _ _ _ h => h) (Or.inl ⟨by rfl, ?_⟩) (by assumption) ?_
  rotate_left
  · intro w hSw; (try dsimp only at hSw); go_simp; (try with_reducible rfl)
  try simp only [Act.put, List.setIfInBounds_toArray, List.set_cons_zero, List.set_cons_succ]
  refine wpAnyH_take (i := 24) (oi := { dst := some 121, op := Op.load 28 (Operand.tmp 11), type := 28, pos := "more.go:21", after := #[{ on := 22, ground := Ground.guard }], guard := some (22, true) }) (v := ?_) rfl (by kernel_rfl) (by kernel_rfl) (by kernel_rfl) (fun _ _ _ h => h) (Or.inl ⟨by rfl, ?_⟩) (by assumption) ?_
  rotate_left
  · intro w hSw; (try dsimp only at hSw); go_simp; (try with_reducible rfl)
  try simp only [Act.put, List.setIfInBounds_toArray, List.set_cons_zero, List.set_cons_succ]
  refine wpAnyH_ready (rs := [25]) (by kernel_rfl) (by simp) ?_
  refine AllReadyH.cons (o := { dst := some 122, op := Op.call { callee := Callee.value (Operand.func 15), args := #[Operand.tmp 120, Operand.tmp 121], argTypes := #[28, 28] }, type := 4, pos := "more.go:21", after := #[{ on := 23, ground := Ground.data }, { on := 24, ground := Ground.data }, { on := 22, ground := Ground.chain }, { on := 22, ground := Ground.guard }], guard := some (22, true) }) rfl (fun K hK => ?_) AllReadyH.nil
  go_simp
  refine (HSame.out _ _ _ (U3.rat 0 _ _ rfl) (U3.rat 2 _ _ rfl)).mono ?_
  rintro e v4 ⟨rfl, hb⟩
  have U4 := U3.below hb
  clear hb
  refine hK.out _ _ ?_ (fun hHeld => ?_)
  · first | exact HS.out _ U8.bel | exact HS.out _ U7.bel | exact HS.out _ U6.bel | exact HS.out _ U5.bel | exact HS.out _ U4.bel | exact HS.out _ U3.bel | exact HS.out _ U2.bel | exact HS.out _ U1.bel
  clear hK K
  try simp only [Act.put, List.setIfInBounds_toArray, List.set_cons_zero, List.set_cons_succ]
  refine wpAnyH_take (i := 26) (oi := { dst := some 123, op := Op.pick (Operand.tmp 119) (Operand.tmp 122) (Operand.const (Value.bool false)), type := 4, pos := "more.go:21", after := #[{ on := 22, ground := Ground.data }, { on := 25, ground := Ground.data }], guard := none }) (v := ?_) rfl (by kernel_rfl) (by kernel_rfl) (by kernel_rfl) (fun _ _ _ h => h) (Or.inl ⟨by rfl, ?_⟩) (by assumption) ?_
  rotate_left
  · intro w hSw; (try dsimp only at hSw); go_simp; (try with_reducible rfl)
  try simp only [Act.put, List.setIfInBounds_toArray, List.set_cons_zero, List.set_cons_succ]
  refine wpAnyH_take (i := 27) (oi := { dst := some 124, op := Op.move (Operand.tmp 123), type := 4, pos := "more.go:21", after := #[{ on := 26, ground := Ground.data }, { on := 25, ground := Ground.chain }], guard := none }) (v := ?_) rfl (by kernel_rfl) (by kernel_rfl) (by kernel_rfl) (fun _ _ _ h => h) (Or.inl ⟨by rfl, ?_⟩) (by assumption) ?_
  rotate_left
  · intro w hSw; (try dsimp only at hSw); go_simp; (try with_reducible rfl)
  try simp only [Act.put, List.setIfInBounds_toArray, List.set_cons_zero, List.set_cons_succ]
  refine wpAnyH_take (i := 28) (oi := { dst := some 125, op := Op.move (Operand.tmp 14), type := 29, pos := "more.go:21", after := #[{ on := 27, ground := Ground.guard }], guard := some (27, true) }) (v := ?_) rfl (by kernel_rfl) (by kernel_rfl) (by kernel_rfl) (fun _ _ _ h => h) (Or.inl ⟨by rfl, ?_⟩) (by assumption) ?_
  rotate_left
  · intro w hSw; (try dsimp only at hSw); go_simp; (try with_reducible rfl)
  try simp only [Act.put, List.setIfInBounds_toArray, List.set_cons_zero, List.set_cons_succ]
  refine wpAnyH_take (i := 29) (oi := { dst := some 126, op := Op.binOp BinOp.eql 29 (Operand.tmp 125) (Operand.const (Value.int IntKind.i64 3)) 29, type := 4, pos := "more.go:21", after := #[{ on := 28, ground := Ground.data }, { on := 27, ground := Ground.guard }], guard := some (27, true) }) (v := ?_) rfl (by kernel_rfl) (by kernel_rfl) (by kernel_rfl) (fun _ _ _ h => h) (Or.inl ⟨by rfl, ?_⟩) (by assumption) ?_
  rotate_left
  · intro w hSw; (try dsimp only at hSw); go_simp; (try with_reducible rfl)
  try simp only [Act.put, List.setIfInBounds_toArray, List.set_cons_zero, List.set_cons_succ]
  refine wpAnyH_take (i := 30) (oi := { dst := some 127, op := Op.pick (Operand.tmp 124) (Operand.tmp 126) (Operand.const (Value.bool false)), type := 4, pos := "more.go:21", after := #[{ on := 27, ground := Ground.data }, { on := 29, ground := Ground.data }], guard := none }) (v := ?_) rfl (by kernel_rfl) (by kernel_rfl) (by kernel_rfl) (fun _ _ _ h => h) (Or.inl ⟨by rfl, ?_⟩) (by assumption) ?_
  rotate_left
  · intro w hSw; (try dsimp only at hSw); go_simp; (try with_reducible rfl)
  try simp only [Act.put, List.setIfInBounds_toArray, List.set_cons_zero, List.set_cons_succ]
  refine wpAnyH_take (i := 31) (oi := { dst := some 128, op := Op.move (Operand.tmp 127), type := 4, pos := "more.go:21", after := #[{ on := 30, ground := Ground.data }, { on := 27, ground := Ground.chain }], guard := none }) (v := ?_) rfl (by kernel_rfl) (by kernel_rfl) (by kernel_rfl) (fun _ _ _ h => h) (Or.inl ⟨by rfl, ?_⟩) (by assumption) ?_
  rotate_left
  · intro w hSw; (try dsimp only at hSw); go_simp; (try with_reducible rfl)
  try simp only [Act.put, List.setIfInBounds_toArray, List.set_cons_zero, List.set_cons_succ]
  refine wpAnyH_take (i := 32) (oi := { dst := some 129, op := Op.move (Operand.tmp 16), type := 29, pos := "more.go:21", after := #[{ on := 31, ground := Ground.guard }], guard := some (31, true) }) (v := ?_) rfl (by kernel_rfl) (by kernel_rfl) (by kernel_rfl) (fun _ _ _ h => h) (Or.inl ⟨by rfl, ?_⟩) (by assumption) ?_
  rotate_left
  · intro w hSw; (try dsimp only at hSw); go_simp; (try with_reducible rfl)
  try simp only [Act.put, List.setIfInBounds_toArray, List.set_cons_zero, List.set_cons_succ]
  refine wpAnyH_take (i := 33) (oi := { dst := some 130, op := Op.binOp BinOp.eql 29 (Operand.tmp 129) (Operand.const (Value.int IntKind.i64 3)) 29, type := 4, pos := "more.go:21", after := #[{ on := 32, ground := Ground.data }, { on := 31, ground := Ground.guard }], guard := some (31, true) }) (v := ?_) rfl (by kernel_rfl) (by kernel_rfl) (by kernel_rfl) (fun _ _ _ h => h) (Or.inl ⟨by rfl, ?_⟩) (by assumption) ?_
  rotate_left
  · intro w hSw; (try dsimp only at hSw); go_simp; (try with_reducible rfl)
  try simp only [Act.put, List.setIfInBounds_toArray, List.set_cons_zero, List.set_cons_succ]
  refine wpAnyH_take (i := 34) (oi := { dst := some 131, op := Op.pick (Operand.tmp 128) (Operand.tmp 130) (Operand.const (Value.bool false)), type := 4, pos := "more.go:21", after := #[{ on := 31, ground := Ground.data }, { on := 33, ground := Ground.data }], guard := none }) (v := ?_) rfl (by kernel_rfl) (by kernel_rfl) (by kernel_rfl) (fun _ _ _ h => h) (Or.inl ⟨by rfl, ?_⟩) (by assumption) ?_
  rotate_left
  · intro w hSw; (try dsimp only at hSw); go_simp; (try with_reducible rfl)
  try simp only [Act.put, List.setIfInBounds_toArray, List.set_cons_zero, List.set_cons_succ]
  refine wpAnyH_take (i := 35) (oi := { dst := some 132, op := Op.move (Operand.tmp 131), type := 4, pos := "more.go:21", after := #[{ on := 34, ground := Ground.data }, { on := 31, ground := Ground.chain }], guard := none }) (v := ?_) rfl (by kernel_rfl) (by kernel_rfl) (by kernel_rfl) (fun _ _ _ h => h) (Or.inl ⟨by rfl, ?_⟩) (by assumption) ?_
  rotate_left
  · intro w hSw; (try dsimp only at hSw); go_simp; (try with_reducible rfl)
  try simp only [Act.put, List.setIfInBounds_toArray, List.set_cons_zero, List.set_cons_succ]
  refine wpAnyH_take (i := 36) (oi := { dst := some 133, op := Op.load 28 (Operand.tmp 7), type := 28, pos := "more.go:21", after := #[{ on := 35, ground := Ground.guard }], guard := some (35, true) }) (v := ?_) rfl (by kernel_rfl) (by kernel_rfl) (by kernel_rfl) (fun _ _ _ h => h) (Or.inl ⟨by rfl, ?_⟩) (by assumption) ?_
  rotate_left
  · intro w hSw; (try dsimp only at hSw); go_simp; (try with_reducible rfl)
  try simp only [Act.put, List.setIfInBounds_toArray, List.set_cons_zero, List.set_cons_succ]
  refine wpAnyH_take (i := 38) (oi := { dst := some 135, op := Op.load 28 (Operand.tmp 7), type := 28, pos := "more.go:21", after := #[{ on := 35, ground := Ground.guard }], guard := some (35, true) }) (v := ?_) rfl (by kernel_rfl) (by kernel_rfl) (by kernel_rfl) (fun _ _ _ h => h) (Or.inl ⟨by rfl, ?_⟩) (by assumption) ?_
  rotate_left
  · intro w hSw; (try dsimp only at hSw); go_simp; (try with_reducible rfl)
  try simp only [Act.put, List.setIfInBounds_toArray, List.set_cons_zero, List.set_cons_succ]
  refine wpAnyH_ready (rs := [37]) (by kernel_rfl) (by simp) ?_
  refine AllReadyH.cons (o := { dst := some 134, op := Op.call { callee := Callee.value (Operand.func 17), args := #[Operand.tmp 133], argTypes := #[28] }, type := 26, pos := "more.go:21", after := #[{ on := 36, ground := Ground.data }, { on := 35, ground := Ground.chain }, { on := 35, ground := Ground.guard }], guard := some (35, true) }) rfl (fun K hK => ?_) AllReadyH.nil
  go_simp
  refine (HNum.out _ _ (U4.rat 0 _ _ rfl)).mono ?_
  rintro e v5 ⟨xn, yn, zn, rfl, hn, hb⟩
  have U5 := (U4.below hb).cons hn HX1.out
  clear hb hn
  refine hK.out _ _ ?_ (fun hHeld => ?_)
  · first | exact HS.out _ U8.bel | exact HS.out _ U7.bel | exact HS.out _ U6.bel | exact HS.out _ U5.bel | exact HS.out _ U4.bel | exact HS.out _ U3.bel | exact HS.out _ U2.bel | exact HS.out _ U1.bel
  clear hK K
  try simp only [Act.put, List.setIfInBounds_toArray, List.set_cons_zero, List.set_cons_succ]
  refine wpAnyH_ready (rs := [39]) (by kernel_rfl) (by simp) ?_
  refine AllReadyH.cons (o := { dst := some 136, op := Op.call { callee := Callee.value (Operand.func 18), args := #[Operand.tmp 135], argTypes := #[28] }, type := 26, pos := "more.go:21", after := #[{ on := 38, ground := Ground.data }, { on := 37, ground := Ground.chain }, { on := 35, ground := Ground.guard }], guard := some (35, true) }) rfl (fun K hK => ?_) AllReadyH.nil
  go_simp
  refine (HDen.out _ _ (U5.rat 0 _ _ rfl)).mono ?_
  rintro e v6 ⟨xd, yd, zd, rfl, hn, hb⟩
  have U6 := (U5.below hb).cons hn HX2.out
  clear hb hn
  refine hK.out _ _ ?_ (fun hHeld => ?_)
  · first | exact HS.out _ U8.bel | exact HS.out _ U7.bel | exact HS.out _ U6.bel | exact HS.out _ U5.bel | exact HS.out _ U4.bel | exact HS.out _ U3.bel | exact HS.out _ U2.bel | exact HS.out _ U1.bel
  clear hK K
  try simp only [Act.put, List.setIfInBounds_toArray, List.set_cons_zero, List.set_cons_succ]
  refine wpAnyH_ready (rs := [40]) (by kernel_rfl) (by simp) ?_
  refine AllReadyH.cons (o := { dst := some 137, op := Op.call { callee := Callee.value (Operand.func 16), args := #[Operand.tmp 134, Operand.tmp 136], argTypes := #[26, 26] }, type := 26, pos := "more.go:21", after := #[{ on := 37, ground := Ground.data }, { on := 39, ground := Ground.data }, { on := 39, ground := Ground.chain }, { on := 35, ground := Ground.guard }], guard := some (35, true) }) rfl (fun K hK => ?_) AllReadyH.nil
  go_simp
  refine (HGcd.out _ _ _ U6.bel (U6.num 1 _ _ rfl).1 (U6.num 0 _ _ rfl).1).mono ?_
  rintro e v7 ⟨xg, yg, zg, rfl, hn, hb⟩
  have U7 := (U6.below hb).cons hn (w_pos 100 (by omega) (by decide))
  clear hb hn
  refine hK.out _ _ ?_ (fun hHeld => ?_)
  · first | exact HS.out _ U8.bel | exact HS.out _ U7.bel | exact HS.out _ U6.bel | exact HS.out _ U5.bel | exact HS.out _ U4.bel | exact HS.out _ U3.bel | exact HS.out _ U2.bel | exact HS.out _ U1.bel
  clear hK K
  try simp only [Act.put, List.setIfInBounds_toArray, List.set_cons_zero, List.set_cons_succ]
  refine wpAnyH_ready (rs := [41]) (by kernel_rfl) (by simp) ?_
  refine AllReadyH.cons (o := { dst := some 138, op := Op.call { callee := Callee.value (Operand.func 14), args := #[Operand.tmp 137], argTypes := #[26] }, type := 9, pos := "more.go:21", after := #[{ on := 40, ground := Ground.data }, { on := 40, ground := Ground.chain }, { on := 35, ground := Ground.guard }], guard := some (35, true) }) rfl (fun K hK => ?_) AllReadyH.nil
  go_simp
  refine (HNt.out _ _ U7.bel (U7.num 0 _ _ rfl).1).mono ?_
  rintro e v8 ⟨rfl, hb⟩
  have U8 := U7.below hb
  clear hb
  refine hK.out _ _ ?_ (fun hHeld => ?_)
  · first | exact HS.out _ U8.bel | exact HS.out _ U7.bel | exact HS.out _ U6.bel | exact HS.out _ U5.bel | exact HS.out _ U4.bel | exact HS.out _ U3.bel | exact HS.out _ U2.bel | exact HS.out _ U1.bel
  clear hK K
  try simp only [Act.put, List.setIfInBounds_toArray, List.set_cons_zero, List.set_cons_succ]
  refine wpAnyH_take (i := 42) (oi := { dst := some 139, op := Op.binOp BinOp.eql 9 (Operand.tmp 138) (Operand.const (Value.string { data := #[49] })) 9, type := 4, pos := "more.go:21", after := #[{ on := 41, ground := Ground.data }, { on := 35, ground := Ground.guard }], guard := some (35, true) }) (v := ?_) rfl (by kernel_rfl) (by kernel_rfl) (by kernel_rfl) (fun _ _ _ h => h) (Or.inl ⟨by rfl, ?_⟩) (by assumption) ?_
  rotate_left
  · intro w hSw; (try dsimp only at hSw); go_simp; (try with_reducible rfl)
  try simp only [Act.put, List.setIfInBounds_toArray, List.set_cons_zero, List.set_cons_succ]
  refine wpAnyH_take (i := 43) (oi := { dst := some 140, op := Op.pick (Operand.tmp 132) (Operand.tmp 139) (Operand.const (Value.bool false)), type := 4, pos := "more.go:21", after := #[{ on := 35, ground := Ground.data }, { on := 42, ground := Ground.data }], guard := none }) (v := ?_) rfl (by kernel_rfl) (by kernel_rfl) (by kernel_rfl) (fun _ _ _ h => h) (Or.inl ⟨by rfl, ?_⟩) (by assumption) ?_
  rotate_left
  · intro w hSw; (try dsimp only at hSw); go_simp; (try with_reducible rfl)
  try simp only [Act.put, List.setIfInBounds_toArray, List.set_cons_zero, List.set_cons_succ]
  refine wpAnyH_take (i := 44) (oi := { dst := some 6, op := Op.assign (Operand.tmp 140), type := 4, pos := "more.go:21", after := #[{ on := 43, ground := Ground.data }, { on := 41, ground := Ground.chain }, { on := 0, ground := Ground.phase }, { on := 1, ground := Ground.phase }, { on := 2, ground := Ground.phase }, { on := 3, ground := Ground.phase }, { on := 4, ground := Ground.phase }, { on := 5, ground := Ground.phase }, { on := 6, ground := Ground.phase }, { on := 7, ground := Ground.phase }, { on := 8, ground := Ground.phase }, { on := 9, ground := Ground.phase }, { on := 10, ground := Ground.phase }, { on := 11, ground := Ground.phase }, { on := 12, ground := Ground.phase }, { on := 13, ground := Ground.phase }, { on := 14, ground := Ground.phase }, { on := 15, ground := Ground.phase }, { on := 16, ground := Ground.phase }, { on := 17, ground := Ground.phase }, { on := 18, ground := Ground.phase }, { on := 19, ground := Ground.phase }, { on := 20, ground := Ground.phase }, { on := 21, ground := Ground.phase }, { on := 22, ground := Ground.phase }, { on := 23, ground := Ground.phase }, { on := 24, ground := Ground.phase }, { on := 25, ground := Ground.phase }, { on := 26, ground := Ground.phase }, { on := 27, ground := Ground.phase }, { on := 28, ground := Ground.phase }, { on := 29, ground := Ground.phase }, { on := 30, ground := Ground.phase }, { on := 31, ground := Ground.phase }, { on := 32, ground := Ground.phase }, { on := 33, ground := Ground.phase }, { on := 34, ground := Ground.phase }, { on := 35, ground := Ground.phase }, { on := 36, ground := Ground.phase }, { on := 37, ground := Ground.phase }, { on := 38, ground := Ground.phase }, { on := 39, ground := Ground.phase }, { on := 40, ground := Ground.phase }, { on := 41, ground := Ground.phase }, { on := 42, ground := Ground.phase }, { on := 43, ground := Ground.phase }], guard := none }) (v := ?_) rfl (by kernel_rfl) (by kernel_rfl) (by kernel_rfl) (fun _ _ _ h => h) (Or.inl ⟨by rfl, ?_⟩) (by assumption) ?_
  rotate_left
  · intro w hSw; (try dsimp only at hSw); go_simp; (try with_reducible rfl)
  try simp only [Act.put, List.setIfInBounds_toArray, List.set_cons_zero, List.set_cons_succ]
  refine wpAnyH_done (by kernel_rfl) ?_ _
  have HB := Lib.hid (HFin.out _ U8.bel)
  clear U0 U1 U2 U3 U4 U5 U6 U7 U8
  go_wp2_with fail
  go_ret
  exact ⟨rfl, HB.out⟩
end Go.Proofs.YtllmacokhjmdgaaGreatDoor
