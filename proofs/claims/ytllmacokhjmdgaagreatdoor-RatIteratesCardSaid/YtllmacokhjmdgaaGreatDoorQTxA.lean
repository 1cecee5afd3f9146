/-
 Law 2: the first call of the statements, whose answer the document fixes: it answers true.
 RatTexts: its numbers and texts.
-/
import Derived.Test.YtllmacokhjmdgaaGreatDoorQPp
namespace Go.Proofs.YtllmacokhjmdgaaGreatDoor
open Go.RowKit
set_option linter.unusedVariables false
def x32 : Rat := mkRat (-3) 2
def x52 : Rat := mkRat (-5) 2
theorem x32_parts : x32.num = -3 ∧ x32.den = 2 := mk_parts (by decide) (by decide)
theorem x52_parts : x52.num = -5 ∧ x52.den = 2 := mk_parts (by decide) (by decide)
theorem w_pos (k : Nat) (h : 1 ≤ k) {N : Nat} (hN : N < 18446744073709551616) : N < 18446744073709551616 ^ k := Nat.lt_of_lt_of_le (by rw [Nat.pow_one]; exact hN) (w64_mono (j := 1) h)
theorem sz32 (k : Nat) (h : 1 ≤ k) : Sz k x32 := ⟨by rw [x32_parts.1]; exact w_pos k h (by decide), by rw [x32_parts.2]; exact w_pos k h (by decide)⟩
theorem sz52 (k : Nat) (h : 1 ≤ k) : Sz k x52 := ⟨by rw [x52_parts.1]; exact w_pos k h (by decide), by rw [x52_parts.2]; exact w_pos k h (by decide)⟩
theorem sz_int (k : Nat) (h : 1 ≤ k) (v : Int) (hv : v.natAbs < 18446744073709551616) : Sz k (v : Rat) := ⟨by rw [nd_num]; exact w_pos k h hv, by rw [Rat.den_intCast]; exact w_pos k h (by decide)⟩
theorem dg_one {k : Nat} (h : k < 10) : dg k = ⟨#[UInt8.ofNat (48 + k)]⟩ := by unfold dg; rw [Lib.decDigits_one h]
theorem tx32 : tx x32 = ⟨#[45, 51, 47, 50]⟩ := by
 unfold tx
 rw [x32_parts.1, x32_parts.2, if_neg (by decide), if_pos (by decide), dg_one (k := 2) (by decide), show (-3 : Int).natAbs = 3 from rfl, dg_one (k := 3) (by decide)]
 rfl
theorem tx52 : tx x52 = ⟨#[45, 53, 47, 50]⟩ := by
 unfold tx
 rw [x52_parts.1, x52_parts.2, if_neg (by decide), if_pos (by decide), dg_one (k := 2) (by decide), show (-5 : Int).natAbs = 5 from rfl, dg_one (k := 5) (by decide)]
 rfl
theorem tx_int (v : Int) : tx (v : Rat) = if v < 0 then ⟨#[45]⟩ ++ dg v.natAbs else dg v.natAbs := by
 unfold tx
 rw [Rat.num_intCast, Rat.den_intCast, if_pos rfl]
theorem tx3 : tx ((-3 : Int) : Rat) = ⟨#[45, 51]⟩ := by
 rw [tx_int, if_pos (by decide), show (-3 : Int).natAbs = 3 from rfl, dg_one (k := 3) (by decide)]
 rfl
theorem tx7 : tx ((-7 : Int) : Rat) = ⟨#[45, 55]⟩ := by
 rw [tx_int, if_pos (by decide), show (-7 : Int).natAbs = 7 from rfl, dg_one (k := 7) (by decide)]
 rfl
theorem tx0 : tx (0 : Rat) = ⟨#[48]⟩ := by
 have := tx_int 0
 rw [if_neg (by decide), show (0 : Int).natAbs = 0 from rfl, dg_one (k := 0) (by decide)] at this
 exact this
theorem rnd52 : -((rndN x52 : Int) : Rat) = ((-3 : Int) : Rat) := by
 have : rndN x52 = 3 := by unfold rndN; rw [x52_parts.1, x52_parts.2]; rfl
 rw [this]; rfl
set_option maxRecDepth 100000 in
set_option maxHeartbeats 4000000 in
theorem alive_r (w : World) (htab : Tab w) (htb : TabB w) : Calls Tryz.prog 9 #[] w fun e w' => e = .returned (.bool true) ∧ Below w.heap.size w w' := by
 have HMake : Hid (∀ W va vb, Below w.heap.size w W → IsN W va 6 → IsN W vb 4 → Calls Tryz.prog 10 #[.bool true, va, vb] W fun e w' => ∃ v, e = .returned (.tuple #[v, .int .i64 0]) ∧ IsR w' v x32 ∧ Below W.heap.size W w') := Lib.hid (fun W va vb hb h1 h2 =>
  make_any x32 true 6 4 va vb W h1 h2 (w_pos 40 (by omega) (by decide)) (w_pos 40 (by omega) (by decide)) (by decide) (htb.below hb (Nat.le_refl _)) ⟨by rw [x32_parts.1]; rfl, by rw [x32_parts.2]; rfl, fun _ => by rw [x32_parts.1]; rfl⟩)
 have HParse : Hid (∀ W, Below w.heap.size w W → Calls Tryz.prog 12 #[.string ⟨#[45, 53, 47, 50]⟩] W fun e w' => ∃ b x y z x' y' z', e = .returned (.tuple #[.agg #[.bool b, .slice x y z, .slice x' y' z'], .int .i64 0]) ∧ IsR w' (.agg #[.bool b, .slice x y z, .slice x' y' z']) x52 ∧ Below W.heap.size W w') := Lib.hid (fun W hb => by
  have h := parse_r ⟨#[45, 53, 47, 50]⟩ W (by decide) (htb.below hb (Nat.le_refl _))
  rw [← tx52, pq_tx] at h
  rw [← tx52]
  exact h)
 have HTx : Hid (∀ W v x, Below w.heap.size w W → IsR W v x → Sz 100 x → Calls Tryz.prog 13 #[v] W fun e w' => e = .returned (.string (tx x)) ∧ Below W.heap.size W w') := Lib.hid (fun W v x hb h hs => text_r x v W h hs (htab.below hb (Nat.le_refl _)))
 have HNeg : Hid (∀ W v, IsR W v x32 → Calls Tryz.prog 21 #[v] W fun e w' => e = .returned (.bool true) ∧ Below W.heap.size W w') := Lib.hid (fun W v h => by
  have := neg_any x32 v W h
  rw [x32_parts.1] at this
  exact this)
 have HRnd : Hid (∀ W v, IsR W v x52 → Calls Tryz.prog 19 #[v] W (GaveR ((-3 : Int) : Rat) W)) := Lib.hid (fun W v h => by
  have := round_neg x52 v W h (sz52 90 (by omega)) (by rw [x52_parts.1]; rfl)
  rwa [rnd52] at this)
 have HOf : Hid (∀ W, Calls Tryz.prog 29 #[.int .i64 (-7)] W (GaveR ((-7 : Int) : Rat) W)) := Lib.hid (fun W => of_r (-7) W (by decide) (by decide))
 have V := Mq.refl w
 clear htab htb
 go_enter Tryz.func9, Tryz.ntmps9
 go_wp2_with fail
 refine (V.of (N := 6) (by decide)).mono ?_
 rintro e w1 ⟨x1, y1, z1, rfl, V1⟩
 clear V
 go_wp2_with fail
 refine (V1.of (N := 4) (by decide)).mono ?_
 rintro e w2 ⟨x2, y2, z2, rfl, V2⟩
 clear V1
 go_wp2_with fail
 refine (HMake.out w2 _ _ V2.bel (V2.num 1 _ _ rfl).1 (V2.num 0 _ _ rfl).1).mono ?_
 rintro e w3 ⟨v3, rfl, hr3, hb3⟩
 have V3 := V2.below hb3
 obtain ⟨p, n, c, p', n', c', rfl, m1, m2⟩ := hr3
 have hs3 : decide (x32.num < 0) = true := by rw [x32_parts.1]; rfl
 have hr3 : IsR w3 (.agg #[.bool true, .slice p n c, .slice p' n' c']) x32 := ⟨p, n, c, p', n', c', by rw [hs3], m1, m2⟩
 rw [hs3]
 have V4 := (V3.rcons hr3).alloc 28 #[.bool true, .slice p n c, .slice p' n' c']
 clear V2 V3 hr3 m1 m2 hb3 hs3
 go_wp2_with fail
 refine (HParse.out _ V4.bel).mono ?_
 rintro e w5 ⟨b, x5, y5, z5, x6, y6, z6, rfl, hr5, hb5⟩
 have V5 := ((V4.below hb5).rcons hr5).alloc 28 #[.bool b, .slice x5 y5 z5, .slice x6 y6 z6]
 have r0 := V5.c0 1 rfl; have r1 := V5.c1 1 rfl; have r2 := V5.c2 1 rfl
 clear V4 hr5 hb5
 go_wp2_with fail
 refine (HTx.out _ _ x32 V5.bel (V5.rat 1 _ _ rfl) (sz32 100 (by omega))).mono ?_
 rintro e w6 ⟨rfl, hb6⟩
 rw [tx32]
 have V6 := V5.below hb6
 have s0 := V6.c0 1 rfl; have s1 := V6.c1 1 rfl; have s2 := V6.c2 1 rfl
 clear V5 hb6 r0 r1 r2
 go_wp2_with fail
 refine (HNeg.out _ _ (V6.rat 1 _ _ rfl)).mono ?_
 rintro e w7 ⟨rfl, hb7⟩
 have V7 := V6.below hb7
 have t0 := V7.c0 0 rfl; have t1 := V7.c1 0 rfl; have t2 := V7.c2 0 rfl
 clear V6 hb7 s0 s1 s2
 go_wp2_with fail
 refine (HRnd.out _ _ (V7.rat 0 _ _ rfl)).mono ?_
 rintro e w8 ⟨v8, rfl, hr8, hb8⟩
 have V8 := V7.below hb8
 clear V7 hb8 t0 t1 t2
 go_wp2_with fail
 refine (HTx.out _ _ _ V8.bel hr8 (sz_int 100 (by omega) (-3) (by decide))).mono ?_
 rintro e w9 ⟨rfl, hb9⟩
 rw [tx3]
 have V9 := V8.below hb9
 clear V8 hb9 hr8
 go_wp2_with fail
 refine (HOf.out _).mono ?_
 rintro e wA ⟨vA, rfl, hrA, hbA⟩
 have VA := V9.below hbA
 clear V9 hbA
 go_wp2_with fail
 refine (HTx.out _ _ _ VA.bel hrA (sz_int 100 (by omega) (-7) (by decide))).mono ?_
 rintro e wB ⟨rfl, hbB⟩
 rw [tx7]
 have VB := VA.below hbB
 clear VA hbB hrA
 go_wp2_with fail
 refine (HTx.out _ _ 0 VB.bel (isR_zero _) (sz_int 100 (by omega) 0 (by decide))).mono ?_
 rintro e wC ⟨rfl, hbC⟩
 rw [tx0]
 have HB := Lib.hid (VB.below hbC).bel
 clear VB hbC
 go_wp2_with fail
 go_ret
 exact ⟨rfl, HB.out⟩
end Go.Proofs.YtllmacokhjmdgaaGreatDoor
namespace Go.Proofs.YtllmacokhjmdgaaGreatDoor
open Go.RowKit
set_option linter.unusedVariables false
end Go.Proofs.YtllmacokhjmdgaaGreatDoor
