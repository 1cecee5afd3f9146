/-
  The walk of NatShifts: for every input it returns true, and leaves what lay in memory as it was.
-/
import Derived.Test.YtckllmlkhlaboaaDoorNatDigitsWalk
import Derived.Test.YtckllmlkhlaboaaDoorNPow
import Derived.Test.YtckllmlkhlaboaaDoorNShN
import Derived.Test.YtckllmlkhlaboaaDoorNShU
namespace Go.Proofs.YtckllmlkhlaboaaDoor
open Go.RowKit
set_option linter.unusedVariables false
theorem gaveVF {N : Nat} {w : World} {e : Ending} {w' : World} (h : GaveF N w e w') : GaveV N w e w' := gaveV (gaveF_n h)
theorem isLen_shift {A L d : Nat} (hA : A ≠ 0) (h : IsLen A L) : IsLen (A * 2 ^ d) (L + d) := by
  have hd : 0 < 2 ^ d := Nat.pow_pos (by decide)
  have hL : 0 < L := by
    rcases Nat.eq_zero_or_pos L with h0 | h0
    · exfalso
      have := h.lt
      rw [h0, Nat.pow_zero] at this
      omega
    · exact h0
  refine ⟨?_, fun _ => ?_⟩
  · rw [Nat.pow_add]
    exact Nat.mul_lt_mul_of_pos_right h.lt hd
  · rw [show L + d - 1 = (L - 1) + d by omega, Nat.pow_add]
    exact Nat.mul_le_mul_right _ (h.le hL)
/-- What holds on throughout the last test: the four numbers. -/
structure AtS (w w9 : World) (a t u q : Value) (A T U Q : Nat) (W : World) : Prop where
  na : IsN W a A
  nt : IsN W t T
  nu : IsN W u U
  nq : IsN W q Q
  b0 : Below w.heap.size w W
  b9 : Below w9.heap.size w9 W
theorem AtS.below {w w9 : World} {a t u q : Value} {A T U Q : Nat} {W W' : World} (h : AtS w w9 a t u q A T U Q W) (hb : Below W.heap.size W W') : AtS w w9 a t u q A T U Q W' :=
  ⟨h.na.below hb (Nat.le_refl _), h.nt.below hb (Nat.le_refl _), h.nu.below hb (Nat.le_refl _), h.nq.below hb (Nat.le_refl _), h.b0.trans (hb.mono h.b0.size), h.b9.trans (hb.mono h.b9.size)⟩
theorem big_mul {A d : Nat} (hA : A < 10 ^ 200) (hd : d ≤ 500) : A * 2 ^ d < 18446744073709551616 ^ 26 := by
  have h1 := ten_pow (n := 200) (k := 13) (by omega)
  have h2 : 2 ^ d < 18446744073709551616 ^ 13 := two_big (q := d) (k := 13) (by omega) (Nat.le_refl _)
  rw [show 26 = 13 + 13 by rfl, Nat.pow_add]
  exact Nat.mul_lt_mul'' (Nat.lt_of_lt_of_le hA h1) h2
theorem w26 {x : Nat} (k : Nat) (h : x < 18446744073709551616 ^ 26) (hk : 26 ≤ k) : x < 18446744073709551616 ^ k := Nat.lt_of_lt_of_le h (w64_mono hk)
/-- A shift to the right, of no places too. -/
theorem sh_neg (N d : Nat) (v : Value) (BY : Int) (w : World) (h : IsN w v N) (hN : N < 18446744073709551616 ^ 9000) (hd : d ≤ 500) (hBY : BY = -(d : Int)) :
    Calls Tryd.prog 14 #[v, .int .i64 BY] w (GaveV (N / 2 ^ d) w) := by
  rcases Nat.eq_zero_or_pos d with rfl | h0
  · have := shu_any N 0 v BY w h hN (by omega) (by omega)
    rw [Nat.pow_zero, Nat.mul_one] at this
    rw [Nat.pow_zero, Nat.div_one]
    exact this.mono fun _ _ h => gaveVF h
  · exact (shn_any N d v BY w h h0 (by omega) hBY).mono fun _ _ h => gaveVF h
/-- The calls of the last test. -/
structure ShCalls (w w9 : World) (a t u q : Value) (A T U Q : Nat) (BY : Int) : Prop where
  shu : ∀ W, AtS w w9 a t u q A T U Q W → Calls Tryd.prog 14 #[u, .int .i64 BY] W fun e w' => ∃ x y z, e = .returned (.agg #[.slice x y z]) ∧ IsN w' (.agg #[.slice x y z]) A ∧ AtS w w9 a t u q A T U Q w'
  sha : ∀ W, AtS w w9 a t u q A T U Q W → Calls Tryd.prog 14 #[a, .int .i64 BY] W fun e w' => ∃ x y z, e = .returned (.agg #[.slice x y z]) ∧ IsN w' (.agg #[.slice x y z]) Q ∧ AtS w w9 a t u q A T U Q w'
  mul : ∀ W, AtS w w9 a t u q A T U Q W → Calls Tryd.prog 18 #[a, t] W fun e w' => ∃ x y z, e = .returned (.agg #[.slice x y z]) ∧ IsN w' (.agg #[.slice x y z]) U ∧ AtS w w9 a t u q A T U Q w'
  cmpa : ∀ W v, IsN W v A → AtS w w9 a t u q A T U Q W → Calls Tryd.prog 17 #[v, a] W fun e w' => e = .returned (.int .i64 0) ∧ AtS w w9 a t u q A T U Q w'
  cmpu : ∀ W v, IsN W v U → AtS w w9 a t u q A T U Q W → Calls Tryd.prog 17 #[u, v] W fun e w' => e = .returned (.int .i64 0) ∧ AtS w w9 a t u q A T U Q w'
  cmpq : ∀ W v, IsN W v Q → AtS w w9 a t u q A T U Q W → Calls Tryd.prog 17 #[v, q] W fun e w' => e = .returned (.int .i64 0) ∧ AtS w w9 a t u q A T U Q w'
theorem shCalls (w w9 : World) (a t u q : Value) (A d : Nat) (BY : Int) (hA : A < 10 ^ 200) (hd : d ≤ 500) (hBY : BY = -(d : Int)) : ShCalls w w9 a t u q A (2 ^ d) (A * 2 ^ d) (A / 2 ^ d) BY where
  shu W h := (sh_neg _ d _ BY W h.nu (w26 9000 (big_mul hA hd) (by omega)) hd hBY).mono fun e w' h' => by
    obtain ⟨x, y, z, h1, h2, h3⟩ := h'
    rw [Nat.mul_div_cancel _ (Nat.pow_pos (by decide))] at h2
    exact ⟨x, y, z, h1, h2, h.below h3⟩
  sha W h := (sh_neg _ d _ BY W h.na (w26 9000 (by have := big_mul (d := 0) hA (by omega); rwa [Nat.pow_zero, Nat.mul_one] at this) (by omega)) hd hBY).mono fun e w' h' => by
    obtain ⟨x, y, z, h1, h2, h3⟩ := h'
    exact ⟨x, y, z, h1, h2, h.below h3⟩
  mul W h := (mul_any _ _ _ _ W h.na h.nt (w26 5000 (by have := big_mul (d := 0) hA (by omega); rwa [Nat.pow_zero, Nat.mul_one] at this) (by omega)) (two_big (k := 5000) (by omega) (by omega))).mono fun e w' h' => by
    obtain ⟨x, y, z, h1, h2, h3⟩ := gaveV h'
    exact ⟨x, y, z, h1, h2, h.below h3⟩
  cmpa W v hv h := (cmp_any _ _ _ _ W hv h.na).mono fun e w' h' => ⟨by rw [h'.1, cmpI_eq], h.below h'.2⟩
  cmpu W v hv h := (cmp_any _ _ _ _ W h.nu hv).mono fun e w' h' => ⟨by rw [h'.1, cmpI_eq], h.below h'.2⟩
  cmpq W v hv h := (cmp_any _ _ _ _ W hv h.nq).mono fun e w' h' => ⟨by rw [h'.1, cmpI_eq], h.below h'.2⟩
/-- The box b holds a number. -/
structure BoxN (W : World) (b : Nat) (x : Option Addr) (y z N : Nat) : Prop where
  blk : Blk W b 25 #[.slice x y z]
  num : IsN W (.agg #[.slice x y z]) N
theorem BoxN.below {W W' : World} {b : Nat} {x : Option Addr} {y z N : Nat} (h : BoxN W b x y z N) (hb : Below W.heap.size W W') : BoxN W' b x y z N := ⟨h.blk.below hb h.blk.lt, h.num.below hb (Nat.le_refl _)⟩
theorem BoxN.cell {W : World} {b : Nat} {x : Option Addr} {y z N : Nat} (h : BoxN W b x y z N) : W.cell? ⟨b, 0, none⟩ = some (.slice x y z) := h.blk.cell 0
theorem BoxN.new {W : World} {x : Option Addr} {y z N : Nat} (h : IsN W (.agg #[.slice x y z]) N) : BoxN (W.alloc (.cells #[.slice x y z] 25)) W.heap.size x y z N := ⟨Blk.new W _ _, h.below ((Below.refl _ W).alloc (Nat.le_refl _) _) (Nat.le_refl _)⟩
theorem below_box {w W W' : World} (v : Value) (h0 : Below w.heap.size w W) (hb : Below W.heap.size W W') : Below w.heap.size w (W'.alloc (.cells #[v] 25)) := by
  have := h0.trans (hb.mono h0.size)
  exact this.alloc this.size _
set_option maxRecDepth 100000 in
set_option maxHeartbeats 4000000 in
theorem natShifts.good (s : ByteArray) (d : Nat) (hwf : WF s) (hs2 : s.size ≤ 200) (hd : d ≤ 500) (w : World) (htab : Tab w) :
    Calls Tryd.prog 4 #[.string s, .int .i64 (d : Int)] w fun e w' => e = .returned (.bool true) ∧ Below w.heap.size w w' := by
  have HAl := Lib.hid (alive_any w htab)
  have HWF := Lib.hid hwf
  obtain ⟨sz, hsz⟩ : ∃ sz, s.size = sz := ⟨_, rfl⟩
  have Hsz := Lib.hid hsz
  obtain ⟨D, hD⟩ : ∃ D : Int, (d : Int) = D := ⟨_, rfl⟩
  have c1 : ¬ (200 : Int) < (sz : Int) := by omega
  have c2 : ¬ D < 0 := by omega
  have c3 : ¬ (500 : Int) < D := by omega
  have c4 : 0 ≤ D := by omega
  have c5 : D ≤ 500 := by omega
  have d1 : decide ((200 : Int) < (sz : Int)) = false := by simp; omega
  have d2 : decide (D < 0) = false := by simp; omega
  have d3 : decide ((500 : Int) < D) = false := by simp; omega
  have d4 : IntKind.i64.wrap (-D) = -D := IntWalk.i64_in _ ⟨by omega, by omega⟩
  have hs9 : sz ≤ 200 := by omega
  have HD := Lib.hid hD
  rw [hD]
  clear hwf htab hs2 hD
  go_enter Tryd.func4, Tryd.ntmps4
  go_wp2_with fail
  refine HAl.out.mono ?_
  rintro e w1 ⟨rfl, hb1⟩
  have HB1 := Lib.hid hb1
  clear hb1 HAl
  go_wp2_with fail
  refine (parse_ok s w1 HWF.out (by rw [Hsz.out]; omega)).mono ?_
  rintro e w2 ⟨x, y, z, rfl, hN2, hb2⟩
  obtain ⟨A, hA⟩ : ∃ A, dv s.data.toList = A := ⟨_, rfl⟩
  have HA : Hid (A < 10 ^ 200) := Lib.hid (by
    rw [← hA]
    have h1 := dv_lt s.size s.data.toList (by simp) HWF.out.dig
    have h2 : 10 ^ s.size ≤ 10 ^ 200 := Nat.pow_le_pow_right (by decide) (by rw [Hsz.out]; omega)
    omega)
  rw [hA] at hN2
  have HX3 := Lib.hid (BoxN.new hN2)
  have HB3 := Lib.hid (below_box (.slice x y z) HB1.out hb2)
  obtain ⟨ba, hba⟩ : ∃ ba, w2.heap.size = ba := ⟨_, rfl⟩
  obtain ⟨W3, hW3⟩ : ∃ W3, w2.alloc (.cells #[.slice x y z] 25) = W3 := ⟨_, rfl⟩
  rw [hW3] at HX3 HB3
  rw [hba] at HX3
  have HW3 := Lib.hid hW3
  have Hba := Lib.hid hba
  clear hA hb2 hN2 HB1 hW3 hba
  go_wp2_with fail
  rw [HW3.out, Hba.out]
  refine (of_any 2 (by decide) W3).mono ?_
  rintro e w4 h4
  obtain ⟨x4, y4, z4, rfl, hN4, hb4⟩ := gaveV h4
  have HPw := Lib.hid (pow_two d _ w4 D hN4 hd HD.out.symm)
  have HX4 := Lib.hid (HX3.out.below hb4)
  have HB4 := Lib.hid (HB3.out.trans (hb4.mono HB3.out.size))
  clear h4 hb4 hN4 HX3 HB3
  go_wp2_with fail
  refine HPw.out.mono ?_
  rintro e w5 ⟨x5, y5, z5, rfl, hN5, hb5⟩
  have hb56 := below_box (.slice x5 y5 z5) (Below.refl w4.heap.size w4) hb5
  have HX6 := Lib.hid (HX4.out.below hb56)
  have HT6 := Lib.hid (BoxN.new hN5)
  have HB6 := Lib.hid (HB4.out.trans (hb56.mono HB4.out.size))
  have q6 := HX6.out.cell
  obtain ⟨bt, hbt⟩ : ∃ bt, w5.heap.size = bt := ⟨_, rfl⟩
  obtain ⟨W6, hW6⟩ : ∃ W6, w5.alloc (.cells #[.slice x5 y5 z5] 25) = W6 := ⟨_, rfl⟩
  rw [hW6] at HX6 HT6 HB6
  rw [hbt] at HT6
  have HW6 := Lib.hid hW6
  have Hbt := Lib.hid hbt
  have HSh := Lib.hid (shu_any A d _ D W6 HX6.out.num (w26 9000 (by have := big_mul (d := 0) HA.out (by omega); rwa [Nat.pow_zero, Nat.mul_one] at this) (by omega)) (by omega) HD.out.symm)
  clear hb5 hb56 hN5 HX4 HB4 HPw hW6 hbt
  go_wp2_with fail
  rw [HW6.out, Hbt.out]
  refine HSh.out.mono ?_
  rintro e w7 h7
  obtain ⟨x7, y7, z7, rfl, hN7, hb7⟩ := gaveVF h7
  have hb78 := below_box (.slice x7 y7 z7) (Below.refl W6.heap.size W6) hb7
  have HX8 := Lib.hid (HX6.out.below hb78)
  have HT8 := Lib.hid (HT6.out.below hb78)
  have HU8 := Lib.hid (BoxN.new hN7)
  have HB8 := Lib.hid (HB6.out.trans (hb78.mono HB6.out.size))
  have q8 := HX8.out.cell
  have q8t := HT8.out.cell
  obtain ⟨bu, hbu⟩ : ∃ bu, w7.heap.size = bu := ⟨_, rfl⟩
  obtain ⟨W8, hW8⟩ : ∃ W8, w7.alloc (.cells #[.slice x7 y7 z7] 25) = W8 := ⟨_, rfl⟩
  rw [hW8] at HX8 HT8 HU8 HB8
  rw [hbu] at HU8
  have HW8 := Lib.hid hW8
  have Hbu := Lib.hid hbu
  have HDv := Lib.hid (dvm_any A (2 ^ d) _ _ W8 HX8.out.num HT8.out.num (w26 8000 (by have := big_mul (d := 0) HA.out (by omega); rwa [Nat.pow_zero, Nat.mul_one] at this) (by omega)))
  clear h7 hb7 hb78 hN7 HX6 HT6 HB6 HSh hW8 hbu q6
  go_wp2_with fail
  rw [HW8.out, Hbu.out]
  refine HDv.out.mono ?_
  rintro e w9 ⟨h9, hb9⟩
  obtain ⟨_, x9, y9, z9, xr, yr, zr, rfl, hN9, hNr⟩ : 0 < 2 ^ d ∧ ∃ x y z x' y' z', e = .returned (.tuple #[.agg #[.slice x y z], .agg #[.slice x' y' z'], .bool true]) ∧ IsN w9 (.agg #[.slice x y z]) (A / 2 ^ d) ∧ IsN w9 (.agg #[.slice x' y' z']) (A % 2 ^ d) := by
    rcases h9 with ⟨h0, _⟩ | h
    · exact absurd h0 (by have := Nat.pow_pos (n := d) (show 0 < 2 by decide); omega)
    · exact h
  have hb9q := below_box (.slice x9 y9 z9) (Below.refl W8.heap.size W8) hb9
  have hb9r : Below W8.heap.size W8 ((w9.alloc (.cells #[.slice x9 y9 z9] 25)).alloc (.cells #[.slice xr yr zr] 25)) := hb9q.alloc hb9q.size _
  have HX10 := Lib.hid (HX8.out.below hb9r)
  have HT10 := Lib.hid (HT8.out.below hb9r)
  have HU10 := Lib.hid (HU8.out.below hb9r)
  have HQ10 := Lib.hid ((BoxN.new hN9).below ((Below.refl _ _).alloc (Nat.le_refl _) (.cells #[.slice xr yr zr] 25)))
  have HB10 := Lib.hid (HB8.out.trans (hb9r.mono HB8.out.size))
  have q10 := HX10.out.cell
  obtain ⟨bq, hbq⟩ : ∃ bq, w9.heap.size = bq := ⟨_, rfl⟩
  obtain ⟨W10, hW10⟩ : ∃ W10, (w9.alloc (.cells #[.slice x9 y9 z9] 25)).alloc (.cells #[.slice xr yr zr] 25) = W10 := ⟨_, rfl⟩
  rw [hW10] at HX10 HT10 HU10 HQ10 HB10
  rw [hbq] at HQ10
  have HW10 := Lib.hid hW10
  have Hbq := Lib.hid hbq
  have HBt := Lib.hid (bits_any A _ W10 HX10.out.num)
  clear h9 hb9 hb9q hb9r hN9 hNr HX8 HT8 HU8 HB8 HDv hW10 hbq q8 q8t
  go_wp2_with fail
  rw [HW10.out, Hbq.out]
  refine HBt.out.mono ?_
  rintro e w11 ⟨L, rfl, hL, hL1, hb11⟩
  have HX11 := Lib.hid (HX10.out.below hb11)
  have HT11 := Lib.hid (HT10.out.below hb11)
  have HU11 := Lib.hid (HU10.out.below hb11)
  have HQ11 := Lib.hid (HQ10.out.below hb11)
  have HB11 := Lib.hid (HB10.out.trans (hb11.mono HB10.out.size))
  have q11 := HX11.out.cell
  have HL := Lib.hid hL
  have HL1 := Lib.hid hL1
  clear hb11 hL hL1 HX10 HT10 HU10 HQ10 HB10 HBt q10
  by_cases hA0 : A = 0
  · have HZ := Lib.hid (zero_yes (v := .agg #[.slice x y z]) (w := w11) (by have := HX11.out.num; rwa [hA0] at this))
    clear hA0
    go_wp2_with fail
    refine HZ.out.mono ?_
    rintro e wz ⟨rfl, hbz⟩
    have HXz := Lib.hid (HX11.out.below hbz)
    have HTz := Lib.hid (HT11.out.below hbz)
    have HUz := Lib.hid (HU11.out.below hbz)
    have HQz := Lib.hid (HQ11.out.below hbz)
    have HBz := Lib.hid (HB11.out.trans (hbz.mono HB11.out.size))
    have hA0 : AtS w wz (.agg #[.slice x y z]) (.agg #[.slice x5 y5 z5]) (.agg #[.slice x7 y7 z7]) (.agg #[.slice x9 y9 z9]) A (2 ^ d) (A * 2 ^ d) (A / 2 ^ d) wz.drew := ⟨HXz.out.num.drew, HTz.out.num.drew, HUz.out.num.drew, HQz.out.num.drew, HBz.out.drew, (Below.refl _ _).drew⟩
    have HC := Lib.hid (shCalls w wz (.agg #[.slice x y z]) (.agg #[.slice x5 y5 z5]) (.agg #[.slice x7 y7 z7]) (.agg #[.slice x9 y9 z9]) A d (-D) HA.out hd (by rw [HD.out]))
    have q1 : wz.drew.cell? ⟨ba, 0, none⟩ = some (.slice x y z) := HXz.out.cell
    have q2 : wz.drew.cell? ⟨bt, 0, none⟩ = some (.slice x5 y5 z5) := HTz.out.cell
    have q3 : wz.drew.cell? ⟨bu, 0, none⟩ = some (.slice x7 y7 z7) := HUz.out.cell
    have q4 : wz.drew.cell? ⟨bq, 0, none⟩ = some (.slice x9 y9 z9) := HQz.out.cell
    obtain ⟨T, hT⟩ : ∃ T, 2 ^ d = T := ⟨_, rfl⟩
    obtain ⟨U, hU⟩ : ∃ U, A * T = U := ⟨_, rfl⟩
    obtain ⟨Q, hQ⟩ : ∃ Q, A / T = Q := ⟨_, rfl⟩
    rw [hT, hU, hQ] at hA0 HC
    have HS : Hid (∀ W, AtS w wz (.agg #[.slice x y z]) (.agg #[.slice x5 y5 z5]) (.agg #[.slice x7 y7 z7]) (.agg #[.slice x9 y9 z9]) A T U Q W → W.cell? ⟨ba, 0, none⟩ = some (.slice x y z) ∧ W.cell? ⟨bt, 0, none⟩ = some (.slice x5 y5 z5) ∧ W.cell? ⟨bu, 0, none⟩ = some (.slice x7 y7 z7) ∧ W.cell? ⟨bq, 0, none⟩ = some (.slice x9 y9 z9)) := Lib.hid (fun W h => ⟨(HXz.out.below h.b9).cell, (HTz.out.below h.b9).cell, (HUz.out.below h.b9).cell, (HQz.out.below h.b9).cell⟩)
    clear hbz hT hU hQ HX11 HT11 HU11 HQ11 HB11
    go_wp2_with fail
    refine wp_region_held_drew (S := (fun w' => w'.cell? ⟨ba, 0, none⟩ = some (.slice x y z) ∧ w'.cell? ⟨bt, 0, none⟩ = some (.slice x5 y5 z5) ∧ w'.cell? ⟨bu, 0, none⟩ = some (.slice x7 y7 z7) ∧ w'.cell? ⟨bq, 0, none⟩ = some (.slice x9 y9 z9))) (by kernel_rfl) ?_ (fun hHeld => ?_)
    · exact ⟨q1, q2, q3, q4⟩
    refine wpAnyH_take (i := 0) (oi := { dst := some 66, op := Op.move (Operand.tmp 8), type := 26, pos := "more.go:51", after := #[], guard := none }) (v := ?_) rfl (by kernel_rfl) (by kernel_rfl) (by kernel_rfl) (fun _ _ _ h => h) (Or.inl ⟨by rfl, ?_⟩) (by assumption) ?_
    rotate_left
    · intro w hSw; (try dsimp only at hSw); go_simp; (try with_reducible rfl)
    try simp only [Act.put, List.setIfInBounds_toArray, List.set_cons_zero, List.set_cons_succ]
    refine wpAnyH_take (i := 1) (oi := { dst := some 67, op := Op.binOp BinOp.eql 26 (Operand.tmp 66) (Operand.const (Value.int IntKind.i64 0)) 26, type := 4, pos := "more.go:51", after := #[{ on := 0, ground := Ground.data }], guard := none }) (v := ?_) rfl (by kernel_rfl) (by kernel_rfl) (by kernel_rfl) (fun _ _ _ h => h) (Or.inl ⟨by rfl, ?_⟩) (by assumption) ?_
    rotate_left
    · intro w hSw; (try dsimp only at hSw); go_simp; (try with_reducible rfl)
    try simp only [Act.put, List.setIfInBounds_toArray, List.set_cons_zero, List.set_cons_succ]
    refine wpAnyH_take (i := 2) (oi := { dst := some 68, op := Op.move (Operand.tmp 67), type := 4, pos := "more.go:51", after := #[{ on := 1, ground := Ground.data }], guard := none }) (v := ?_) rfl (by kernel_rfl) (by kernel_rfl) (by kernel_rfl) (fun _ _ _ h => h) (Or.inl ⟨by rfl, ?_⟩) (by assumption) ?_
    rotate_left
    · intro w hSw; (try dsimp only at hSw); go_simp; (try with_reducible rfl)
    try simp only [Act.put, List.setIfInBounds_toArray, List.set_cons_zero, List.set_cons_succ]
    refine wpAnyH_take (i := 3) (oi := { dst := some 69, op := Op.move (Operand.tmp 12), type := 4, pos := "more.go:51", after := #[{ on := 2, ground := Ground.guard }], guard := some (2, true) }) (v := ?_) rfl (by kernel_rfl) (by kernel_rfl) (by kernel_rfl) (fun _ _ _ h => h) (Or.inl ⟨by rfl, ?_⟩) (by assumption) ?_
    rotate_left
    · intro w hSw; (try dsimp only at hSw); go_simp; (try with_reducible rfl)
    try simp only [Act.put, List.setIfInBounds_toArray, List.set_cons_zero, List.set_cons_succ]
    refine wpAnyH_take (i := 4) (oi := { dst := some 70, op := Op.pick (Operand.tmp 68) (Operand.tmp 69) (Operand.const (Value.bool false)), type := 4, pos := "more.go:51", after := #[{ on := 2, ground := Ground.data }, { on := 3, ground := Ground.data }], guard := none }) (v := ?_) rfl (by kernel_rfl) (by kernel_rfl) (by kernel_rfl) (fun _ _ _ h => h) (Or.inl ⟨by rfl, ?_⟩) (by assumption) ?_
    rotate_left
    · intro w hSw; (try dsimp only at hSw); go_simp; (try with_reducible rfl)
    try simp only [Act.put, List.setIfInBounds_toArray, List.set_cons_zero, List.set_cons_succ]
    refine wpAnyH_take (i := 5) (oi := { dst := some 71, op := Op.move (Operand.tmp 70), type := 4, pos := "more.go:51", after := #[{ on := 4, ground := Ground.data }, { on := 2, ground := Ground.chain }], guard := none }) (v := ?_) rfl (by kernel_rfl) (by kernel_rfl) (by kernel_rfl) (fun _ _ _ h => h) (Or.inl ⟨by rfl, ?_⟩) (by assumption) ?_
    rotate_left
    · intro w hSw; (try dsimp only at hSw); go_simp; (try with_reducible rfl)
    try simp only [Act.put, List.setIfInBounds_toArray, List.set_cons_zero, List.set_cons_succ]
    refine wpAnyH_take (i := 6) (oi := { dst := some 72, op := Op.load 25 (Operand.tmp 9), type := 25, pos := "more.go:51", after := #[{ on := 5, ground := Ground.guard }], guard := some (5, true) }) (v := ?_) rfl (by kernel_rfl) (by kernel_rfl) (by kernel_rfl) (fun _ _ _ h => h) (Or.inl ⟨by rfl, ?_⟩) (by assumption) ?_
    rotate_left
    · intro w hSw; (try dsimp only at hSw); go_simp; (try with_reducible rfl)
    try simp only [Act.put, List.setIfInBounds_toArray, List.set_cons_zero, List.set_cons_succ]
    refine wpAnyH_take (i := 7) (oi := { dst := some 73, op := Op.move (Operand.tmp 1), type := 3, pos := "more.go:51", after := #[{ on := 5, ground := Ground.guard }], guard := some (5, true) }) (v := ?_) rfl (by kernel_rfl) (by kernel_rfl) (by kernel_rfl) (fun _ _ _ h => h) (Or.inl ⟨by rfl, ?_⟩) (by assumption) ?_
    rotate_left
    · intro w hSw; (try dsimp only at hSw); go_simp; (try with_reducible rfl)
    try simp only [Act.put, List.setIfInBounds_toArray, List.set_cons_zero, List.set_cons_succ]
    refine wpAnyH_take (i := 8) (oi := { dst := some 74, op := Op.unOp UnOp.neg 3 (Operand.tmp 73), type := 3, pos := "more.go:51", after := #[{ on := 7, ground := Ground.data }, { on := 5, ground := Ground.guard }], guard := some (5, true) }) (v := ?_) rfl (by kernel_rfl) (by kernel_rfl) (by kernel_rfl) (fun _ _ _ h => h) (Or.inl ⟨by rfl, ?_⟩) (by assumption) ?_
    rotate_left
    · intro w hSw; (try dsimp only at hSw); go_simp; (try with_reducible rfl)
    try simp only [Act.put, List.setIfInBounds_toArray, List.set_cons_zero, List.set_cons_succ]
    refine wpAnyH_take (i := 10) (oi := { dst := some 76, op := Op.load 25 (Operand.tmp 5), type := 25, pos := "more.go:51", after := #[{ on := 5, ground := Ground.guard }], guard := some (5, true) }) (v := ?_) rfl (by kernel_rfl) (by kernel_rfl) (by kernel_rfl) (fun _ _ _ h => h) (Or.inl ⟨by rfl, ?_⟩) (by assumption) ?_
    rotate_left
    · intro w hSw; (try dsimp only at hSw); go_simp; (try with_reducible rfl)
    try simp only [Act.put, List.setIfInBounds_toArray, List.set_cons_zero, List.set_cons_succ]
    refine wpAnyH_ready (rs := [9]) (by kernel_rfl) (by simp) ?_
    refine AllReadyH.cons (o := { dst := some 75, op := Op.call { callee := Callee.value (Operand.func 14), args := #[Operand.tmp 72, Operand.tmp 74], argTypes := #[25, 3] }, type := 25, pos := "more.go:51", after := #[{ on := 6, ground := Ground.data }, { on := 8, ground := Ground.data }, { on := 5, ground := Ground.chain }, { on := 5, ground := Ground.guard }], guard := some (5, true) }) rfl (fun K hK => ?_) AllReadyH.nil
    go_simp
    go_at_call 14; refine (HC.out.shu _ (by assumption)).mono ?_; rintro e wa9 ⟨xa9, ya9, za9, rfl, hNa9, hAa9⟩
    refine hK.out _ _ ?_ (fun hHeld => ?_)
    · exact HS.out _ ‹_›
    clear hK K
    try simp only [Act.put, List.setIfInBounds_toArray, List.set_cons_zero, List.set_cons_succ]
    refine wpAnyH_ready (rs := [11]) (by kernel_rfl) (by simp) ?_
    refine AllReadyH.cons (o := { dst := some 77, op := Op.call { callee := Callee.value (Operand.func 17), args := #[Operand.tmp 75, Operand.tmp 76], argTypes := #[25, 25] }, type := 3, pos := "more.go:51", after := #[{ on := 9, ground := Ground.data }, { on := 10, ground := Ground.data }, { on := 9, ground := Ground.chain }, { on := 5, ground := Ground.guard }], guard := some (5, true) }) rfl (fun K hK => ?_) AllReadyH.nil
    go_simp
    go_at_call 17; refine (HC.out.cmpa _ _ hNa9 hAa9).mono ?_; rintro e wa11 ⟨rfl, hAa11⟩; clear hNa9
    refine hK.out _ _ ?_ (fun hHeld => ?_)
    · exact HS.out _ ‹_›
    clear hK K
    try simp only [Act.put, List.setIfInBounds_toArray, List.set_cons_zero, List.set_cons_succ]
    refine wpAnyH_take (i := 12) (oi := { dst := some 78, op := Op.binOp BinOp.eql 3 (Operand.tmp 77) (Operand.const (Value.int IntKind.i64 0)) 3, type := 4, pos := "more.go:51", after := #[{ on := 11, ground := Ground.data }, { on := 5, ground := Ground.guard }], guard := some (5, true) }) (v := ?_) rfl (by kernel_rfl) (by kernel_rfl) (by kernel_rfl) (fun _ _ _ h => h) (Or.inl ⟨by rfl, ?_⟩) (by assumption) ?_
    rotate_left
    · intro w hSw; (try dsimp only at hSw); go_simp; (try with_reducible rfl)
    try simp only [Act.put, List.setIfInBounds_toArray, List.set_cons_zero, List.set_cons_succ]
    refine wpAnyH_take (i := 13) (oi := { dst := some 79, op := Op.pick (Operand.tmp 71) (Operand.tmp 78) (Operand.const (Value.bool false)), type := 4, pos := "more.go:51", after := #[{ on := 5, ground := Ground.data }, { on := 12, ground := Ground.data }], guard := none }) (v := ?_) rfl (by kernel_rfl) (by kernel_rfl) (by kernel_rfl) (fun _ _ _ h => h) (Or.inl ⟨by rfl, ?_⟩) (by assumption) ?_
    rotate_left
    · intro w hSw; (try dsimp only at hSw); go_simp; (try with_reducible rfl)
    try simp only [Act.put, List.setIfInBounds_toArray, List.set_cons_zero, List.set_cons_succ]
    refine wpAnyH_take (i := 14) (oi := { dst := some 80, op := Op.move (Operand.tmp 79), type := 4, pos := "more.go:51", after := #[{ on := 13, ground := Ground.data }, { on := 11, ground := Ground.chain }], guard := none }) (v := ?_) rfl (by kernel_rfl) (by kernel_rfl) (by kernel_rfl) (fun _ _ _ h => h) (Or.inl ⟨by rfl, ?_⟩) (by assumption) ?_
    rotate_left
    · intro w hSw; (try dsimp only at hSw); go_simp; (try with_reducible rfl)
    try simp only [Act.put, List.setIfInBounds_toArray, List.set_cons_zero, List.set_cons_succ]
    refine wpAnyH_take (i := 15) (oi := { dst := some 81, op := Op.load 25 (Operand.tmp 9), type := 25, pos := "more.go:51", after := #[{ on := 14, ground := Ground.guard }], guard := some (14, true) }) (v := ?_) rfl (by kernel_rfl) (by kernel_rfl) (by kernel_rfl) (fun _ _ _ h => h) (Or.inl ⟨by rfl, ?_⟩) (by assumption) ?_
    rotate_left
    · intro w hSw; (try dsimp only at hSw); go_simp; (try with_reducible rfl)
    try simp only [Act.put, List.setIfInBounds_toArray, List.set_cons_zero, List.set_cons_succ]
    refine wpAnyH_take (i := 16) (oi := { dst := some 82, op := Op.load 25 (Operand.tmp 5), type := 25, pos := "more.go:51", after := #[{ on := 14, ground := Ground.guard }], guard := some (14, true) }) (v := ?_) rfl (by kernel_rfl) (by kernel_rfl) (by kernel_rfl) (fun _ _ _ h => h) (Or.inl ⟨by rfl, ?_⟩) (by assumption) ?_
    rotate_left
    · intro w hSw; (try dsimp only at hSw); go_simp; (try with_reducible rfl)
    try simp only [Act.put, List.setIfInBounds_toArray, List.set_cons_zero, List.set_cons_succ]
    refine wpAnyH_take (i := 17) (oi := { dst := some 83, op := Op.load 25 (Operand.tmp 7), type := 25, pos := "more.go:51", after := #[{ on := 14, ground := Ground.guard }], guard := some (14, true) }) (v := ?_) rfl (by kernel_rfl) (by kernel_rfl) (by kernel_rfl) (fun _ _ _ h => h) (Or.inl ⟨by rfl, ?_⟩) (by assumption) ?_
    rotate_left
    · intro w hSw; (try dsimp only at hSw); go_simp; (try with_reducible rfl)
    try simp only [Act.put, List.setIfInBounds_toArray, List.set_cons_zero, List.set_cons_succ]
    refine wpAnyH_ready (rs := [18]) (by kernel_rfl) (by simp) ?_
    refine AllReadyH.cons (o := { dst := some 84, op := Op.call { callee := Callee.value (Operand.func 18), args := #[Operand.tmp 82, Operand.tmp 83], argTypes := #[25, 25] }, type := 25, pos := "more.go:51", after := #[{ on := 16, ground := Ground.data }, { on := 17, ground := Ground.data }, { on := 14, ground := Ground.chain }, { on := 14, ground := Ground.guard }], guard := some (14, true) }) rfl (fun K hK => ?_) AllReadyH.nil
    go_simp
    go_at_call 18; refine (HC.out.mul _ (by assumption)).mono ?_; rintro e wa18 ⟨xa18, ya18, za18, rfl, hNa18, hAa18⟩
    refine hK.out _ _ ?_ (fun hHeld => ?_)
    · exact HS.out _ ‹_›
    clear hK K
    try simp only [Act.put, List.setIfInBounds_toArray, List.set_cons_zero, List.set_cons_succ]
    refine wpAnyH_ready (rs := [19]) (by kernel_rfl) (by simp) ?_
    refine AllReadyH.cons (o := { dst := some 85, op := Op.call { callee := Callee.value (Operand.func 17), args := #[Operand.tmp 81, Operand.tmp 84], argTypes := #[25, 25] }, type := 3, pos := "more.go:51", after := #[{ on := 15, ground := Ground.data }, { on := 18, ground := Ground.data }, { on := 18, ground := Ground.chain }, { on := 14, ground := Ground.guard }], guard := some (14, true) }) rfl (fun K hK => ?_) AllReadyH.nil
    go_simp
    go_at_call 17; refine (HC.out.cmpu _ _ hNa18 hAa18).mono ?_; rintro e wa19 ⟨rfl, hAa19⟩; clear hNa18
    refine hK.out _ _ ?_ (fun hHeld => ?_)
    · exact HS.out _ ‹_›
    clear hK K
    try simp only [Act.put, List.setIfInBounds_toArray, List.set_cons_zero, List.set_cons_succ]
    refine wpAnyH_take (i := 20) (oi := { dst := some 86, op := Op.binOp BinOp.eql 3 (Operand.tmp 85) (Operand.const (Value.int IntKind.i64 0)) 3, type := 4, pos := "more.go:51", after := #[{ on := 19, ground := Ground.data }, { on := 14, ground := Ground.guard }], guard := some (14, true) }) (v := ?_) rfl (by kernel_rfl) (by kernel_rfl) (by kernel_rfl) (fun _ _ _ h => h) (Or.inl ⟨by rfl, ?_⟩) (by assumption) ?_
    rotate_left
    · intro w hSw; (try dsimp only at hSw); go_simp; (try with_reducible rfl)
    try simp only [Act.put, List.setIfInBounds_toArray, List.set_cons_zero, List.set_cons_succ]
    refine wpAnyH_take (i := 21) (oi := { dst := some 87, op := Op.pick (Operand.tmp 80) (Operand.tmp 86) (Operand.const (Value.bool false)), type := 4, pos := "more.go:51", after := #[{ on := 14, ground := Ground.data }, { on := 20, ground := Ground.data }], guard := none }) (v := ?_) rfl (by kernel_rfl) (by kernel_rfl) (by kernel_rfl) (fun _ _ _ h => h) (Or.inl ⟨by rfl, ?_⟩) (by assumption) ?_
    rotate_left
    · intro w hSw; (try dsimp only at hSw); go_simp; (try with_reducible rfl)
    try simp only [Act.put, List.setIfInBounds_toArray, List.set_cons_zero, List.set_cons_succ]
    refine wpAnyH_take (i := 22) (oi := { dst := some 88, op := Op.move (Operand.tmp 87), type := 4, pos := "more.go:51", after := #[{ on := 21, ground := Ground.data }, { on := 19, ground := Ground.chain }], guard := none }) (v := ?_) rfl (by kernel_rfl) (by kernel_rfl) (by kernel_rfl) (fun _ _ _ h => h) (Or.inl ⟨by rfl, ?_⟩) (by assumption) ?_
    rotate_left
    · intro w hSw; (try dsimp only at hSw); go_simp; (try with_reducible rfl)
    try simp only [Act.put, List.setIfInBounds_toArray, List.set_cons_zero, List.set_cons_succ]
    refine wpAnyH_take (i := 23) (oi := { dst := some 89, op := Op.load 25 (Operand.tmp 5), type := 25, pos := "more.go:51", after := #[{ on := 22, ground := Ground.guard }], guard := some (22, true) }) (v := ?_) rfl (by kernel_rfl) (by kernel_rfl) (by kernel_rfl) (fun _ _ _ h => h) (Or.inl ⟨by rfl, ?_⟩) (by assumption) ?_
    rotate_left
    · intro w hSw; (try dsimp only at hSw); go_simp; (try with_reducible rfl)
    try simp only [Act.put, List.setIfInBounds_toArray, List.set_cons_zero, List.set_cons_succ]
    refine wpAnyH_take (i := 24) (oi := { dst := some 90, op := Op.move (Operand.tmp 1), type := 3, pos := "more.go:51", after := #[{ on := 22, ground := Ground.guard }], guard := some (22, true) }) (v := ?_) rfl (by kernel_rfl) (by kernel_rfl) (by kernel_rfl) (fun _ _ _ h => h) (Or.inl ⟨by rfl, ?_⟩) (by assumption) ?_
    rotate_left
    · intro w hSw; (try dsimp only at hSw); go_simp; (try with_reducible rfl)
    try simp only [Act.put, List.setIfInBounds_toArray, List.set_cons_zero, List.set_cons_succ]
    refine wpAnyH_take (i := 25) (oi := { dst := some 91, op := Op.unOp UnOp.neg 3 (Operand.tmp 90), type := 3, pos := "more.go:51", after := #[{ on := 24, ground := Ground.data }, { on := 22, ground := Ground.guard }], guard := some (22, true) }) (v := ?_) rfl (by kernel_rfl) (by kernel_rfl) (by kernel_rfl) (fun _ _ _ h => h) (Or.inl ⟨by rfl, ?_⟩) (by assumption) ?_
    rotate_left
    · intro w hSw; (try dsimp only at hSw); go_simp; (try with_reducible rfl)
    try simp only [Act.put, List.setIfInBounds_toArray, List.set_cons_zero, List.set_cons_succ]
    refine wpAnyH_take (i := 27) (oi := { dst := some 93, op := Op.load 25 (Operand.tmp 10), type := 25, pos := "more.go:51", after := #[{ on := 22, ground := Ground.guard }], guard := some (22, true) }) (v := ?_) rfl (by kernel_rfl) (by kernel_rfl) (by kernel_rfl) (fun _ _ _ h => h) (Or.inl ⟨by rfl, ?_⟩) (by assumption) ?_
    rotate_left
    · intro w hSw; (try dsimp only at hSw); go_simp; (try with_reducible rfl)
    try simp only [Act.put, List.setIfInBounds_toArray, List.set_cons_zero, List.set_cons_succ]
    refine wpAnyH_ready (rs := [26]) (by kernel_rfl) (by simp) ?_
    refine AllReadyH.cons (o := { dst := some 92, op := Op.call { callee := Callee.value (Operand.func 14), args := #[Operand.tmp 89, Operand.tmp 91], argTypes := #[25, 3] }, type := 25, pos := "more.go:51", after := #[{ on := 23, ground := Ground.data }, { on := 25, ground := Ground.data }, { on := 22, ground := Ground.chain }, { on := 22, ground := Ground.guard }], guard := some (22, true) }) rfl (fun K hK => ?_) AllReadyH.nil
    go_simp
    go_at_call 14; refine (HC.out.sha _ (by assumption)).mono ?_; rintro e wa26 ⟨xa26, ya26, za26, rfl, hNa26, hAa26⟩
    refine hK.out _ _ ?_ (fun hHeld => ?_)
    · exact HS.out _ ‹_›
    clear hK K
    try simp only [Act.put, List.setIfInBounds_toArray, List.set_cons_zero, List.set_cons_succ]
    refine wpAnyH_ready (rs := [28]) (by kernel_rfl) (by simp) ?_
    refine AllReadyH.cons (o := { dst := some 94, op := Op.call { callee := Callee.value (Operand.func 17), args := #[Operand.tmp 92, Operand.tmp 93], argTypes := #[25, 25] }, type := 3, pos := "more.go:51", after := #[{ on := 26, ground := Ground.data }, { on := 27, ground := Ground.data }, { on := 26, ground := Ground.chain }, { on := 22, ground := Ground.guard }], guard := some (22, true) }) rfl (fun K hK => ?_) AllReadyH.nil
    go_simp
    go_at_call 17; refine (HC.out.cmpq _ _ hNa26 hAa26).mono ?_; rintro e wa28 ⟨rfl, hAa28⟩; clear hNa26
    refine hK.out _ _ ?_ (fun hHeld => ?_)
    · exact HS.out _ ‹_›
    clear hK K
    try simp only [Act.put, List.setIfInBounds_toArray, List.set_cons_zero, List.set_cons_succ]
    refine wpAnyH_take (i := 29) (oi := { dst := some 95, op := Op.binOp BinOp.eql 3 (Operand.tmp 94) (Operand.const (Value.int IntKind.i64 0)) 3, type := 4, pos := "more.go:51", after := #[{ on := 28, ground := Ground.data }, { on := 22, ground := Ground.guard }], guard := some (22, true) }) (v := ?_) rfl (by kernel_rfl) (by kernel_rfl) (by kernel_rfl) (fun _ _ _ h => h) (Or.inl ⟨by rfl, ?_⟩) (by assumption) ?_
    rotate_left
    · intro w hSw; (try dsimp only at hSw); go_simp; (try with_reducible rfl)
    try simp only [Act.put, List.setIfInBounds_toArray, List.set_cons_zero, List.set_cons_succ]
    refine wpAnyH_take (i := 30) (oi := { dst := some 96, op := Op.pick (Operand.tmp 88) (Operand.tmp 95) (Operand.const (Value.bool false)), type := 4, pos := "more.go:51", after := #[{ on := 22, ground := Ground.data }, { on := 29, ground := Ground.data }], guard := none }) (v := ?_) rfl (by kernel_rfl) (by kernel_rfl) (by kernel_rfl) (fun _ _ _ h => h) (Or.inl ⟨by rfl, ?_⟩) (by assumption) ?_
    rotate_left
    · intro w hSw; (try dsimp only at hSw); go_simp; (try with_reducible rfl)
    try simp only [Act.put, List.setIfInBounds_toArray, List.set_cons_zero, List.set_cons_succ]
    refine wpAnyH_take (i := 31) (oi := { dst := some 4, op := Op.assign (Operand.tmp 96), type := 4, pos := "more.go:51", after := #[{ on := 30, ground := Ground.data }, { on := 28, ground := Ground.chain }, { on := 0, ground := Ground.phase }, { on := 1, ground := Ground.phase }, { on := 2, ground := Ground.phase }, { on := 3, ground := Ground.phase }, { on := 4, ground := Ground.phase }, { on := 5, ground := Ground.phase }, { on := 6, ground := Ground.phase }, { on := 7, ground := Ground.phase }, { on := 8, ground := Ground.phase }, { on := 9, ground := Ground.phase }, { on := 10, ground := Ground.phase }, { on := 11, ground := Ground.phase }, { on := 12, ground := Ground.phase }, { on := 13, ground := Ground.phase }, { on := 14, ground := Ground.phase }, { on := 15, ground := Ground.phase }, { on := 16, ground := Ground.phase }, { on := 17, ground := Ground.phase }, { on := 18, ground := Ground.phase }, { on := 19, ground := Ground.phase }, { on := 20, ground := Ground.phase }, { on := 21, ground := Ground.phase }, { on := 22, ground := Ground.phase }, { on := 23, ground := Ground.phase }, { on := 24, ground := Ground.phase }, { on := 25, ground := Ground.phase }, { on := 26, ground := Ground.phase }, { on := 27, ground := Ground.phase }, { on := 28, ground := Ground.phase }, { on := 29, ground := Ground.phase }, { on := 30, ground := Ground.phase }], guard := none }) (v := ?_) rfl (by kernel_rfl) (by kernel_rfl) (by kernel_rfl) (fun _ _ _ h => h) (Or.inl ⟨by rfl, ?_⟩) (by assumption) ?_
    rotate_left
    · intro w hSw; (try dsimp only at hSw); go_simp; (try with_reducible rfl)
    try simp only [Act.put, List.setIfInBounds_toArray, List.set_cons_zero, List.set_cons_succ]
    refine wpAnyH_done (by kernel_rfl) ?_ _
    have HAa := Lib.hid hAa28
    go_wp2_with fail
    go_ret
    exact ⟨rfl, HAa.out.b0⟩
  · have HZ := Lib.hid (zero_no (v := .agg #[.slice x y z]) (w := w11) HX11.out.num hA0)
    have HA0 := Lib.hid hA0
    clear hA0
    go_wp2_with fail
    refine HZ.out.mono ?_
    rintro e w12 ⟨rfl, hb12⟩
    have HX12 := Lib.hid (HX11.out.below hb12)
    have HT12 := Lib.hid (HT11.out.below hb12)
    have HU12 := Lib.hid (HU11.out.below hb12)
    have HQ12 := Lib.hid (HQ11.out.below hb12)
    have HB12 := Lib.hid (HB11.out.trans (hb12.mono HB11.out.size))
    have q12 := HU12.out.cell
    have hLD : Hid ((L : Int) + D ≤ 1000500 ∧ 0 ≤ (L : Int) + D) := Lib.hid (by have := HL1.out; omega)
    have hw12 : IntKind.i64.wrap ((L : Int) + D) = (L : Int) + D := IntWalk.i64_in _ ⟨by have := hLD.out; omega, by have := hLD.out; omega⟩
    have HBu : Hid (Calls Tryd.prog 16 #[.agg #[.slice x7 y7 z7]] w12 fun e w' => e = .returned (.int .i64 ((L : Int) + D)) ∧ Below w12.heap.size w12 w') := Lib.hid ((bits_any _ _ w12 HU12.out.num).mono fun e w' h => by
      obtain ⟨L', h1, h2, _, h3⟩ := h
      have e1 : L' = L + d := h2.inj (isLen_shift HA0.out HL.out)
      subst e1
      exact ⟨by rw [h1, ← HD.out]; simp, h3⟩)
    clear hb12 HX11 HT11 HU11 HQ11 HB11 HZ q11
    go_wp2_with fail
    refine HBu.out.mono ?_
    rintro e wz ⟨rfl, hbz⟩
    clear HBu q12
    have HXz := Lib.hid (HX12.out.below hbz)
    have HTz := Lib.hid (HT12.out.below hbz)
    have HUz := Lib.hid (HU12.out.below hbz)
    have HQz := Lib.hid (HQ12.out.below hbz)
    have HBz := Lib.hid (HB12.out.trans (hbz.mono HB12.out.size))
    have hA0 : AtS w wz (.agg #[.slice x y z]) (.agg #[.slice x5 y5 z5]) (.agg #[.slice x7 y7 z7]) (.agg #[.slice x9 y9 z9]) A (2 ^ d) (A * 2 ^ d) (A / 2 ^ d) wz.drew := ⟨HXz.out.num.drew, HTz.out.num.drew, HUz.out.num.drew, HQz.out.num.drew, HBz.out.drew, (Below.refl _ _).drew⟩
    have HC := Lib.hid (shCalls w wz (.agg #[.slice x y z]) (.agg #[.slice x5 y5 z5]) (.agg #[.slice x7 y7 z7]) (.agg #[.slice x9 y9 z9]) A d (-D) HA.out hd (by rw [HD.out]))
    have q1 : wz.drew.cell? ⟨ba, 0, none⟩ = some (.slice x y z) := HXz.out.cell
    have q2 : wz.drew.cell? ⟨bt, 0, none⟩ = some (.slice x5 y5 z5) := HTz.out.cell
    have q3 : wz.drew.cell? ⟨bu, 0, none⟩ = some (.slice x7 y7 z7) := HUz.out.cell
    have q4 : wz.drew.cell? ⟨bq, 0, none⟩ = some (.slice x9 y9 z9) := HQz.out.cell
    obtain ⟨T, hT⟩ : ∃ T, 2 ^ d = T := ⟨_, rfl⟩
    obtain ⟨U, hU⟩ : ∃ U, A * T = U := ⟨_, rfl⟩
    obtain ⟨Q, hQ⟩ : ∃ Q, A / T = Q := ⟨_, rfl⟩
    rw [hT, hU, hQ] at hA0 HC
    have HS : Hid (∀ W, AtS w wz (.agg #[.slice x y z]) (.agg #[.slice x5 y5 z5]) (.agg #[.slice x7 y7 z7]) (.agg #[.slice x9 y9 z9]) A T U Q W → W.cell? ⟨ba, 0, none⟩ = some (.slice x y z) ∧ W.cell? ⟨bt, 0, none⟩ = some (.slice x5 y5 z5) ∧ W.cell? ⟨bu, 0, none⟩ = some (.slice x7 y7 z7) ∧ W.cell? ⟨bq, 0, none⟩ = some (.slice x9 y9 z9)) := Lib.hid (fun W h => ⟨(HXz.out.below h.b9).cell, (HTz.out.below h.b9).cell, (HUz.out.below h.b9).cell, (HQz.out.below h.b9).cell⟩)
    clear hbz hT hU hQ HX12 HT12 HU12 HQ12 HB12
    go_wp2_with fail
    refine wp_region_held_drew (S := (fun w' => w'.cell? ⟨ba, 0, none⟩ = some (.slice x y z) ∧ w'.cell? ⟨bt, 0, none⟩ = some (.slice x5 y5 z5) ∧ w'.cell? ⟨bu, 0, none⟩ = some (.slice x7 y7 z7) ∧ w'.cell? ⟨bq, 0, none⟩ = some (.slice x9 y9 z9))) (by kernel_rfl) ?_ (fun hHeld => ?_)
    · exact ⟨q1, q2, q3, q4⟩
    refine wpAnyH_take (i := 0) (oi := { dst := some 66, op := Op.move (Operand.tmp 8), type := 26, pos := "more.go:51", after := #[], guard := none }) (v := ?_) rfl (by kernel_rfl) (by kernel_rfl) (by kernel_rfl) (fun _ _ _ h => h) (Or.inl ⟨by rfl, ?_⟩) (by assumption) ?_
    rotate_left
    · intro w hSw; (try dsimp only at hSw); go_simp; (try with_reducible rfl)
    try simp only [Act.put, List.setIfInBounds_toArray, List.set_cons_zero, List.set_cons_succ]
    refine wpAnyH_take (i := 1) (oi := { dst := some 67, op := Op.binOp BinOp.eql 26 (Operand.tmp 66) (Operand.const (Value.int IntKind.i64 0)) 26, type := 4, pos := "more.go:51", after := #[{ on := 0, ground := Ground.data }], guard := none }) (v := ?_) rfl (by kernel_rfl) (by kernel_rfl) (by kernel_rfl) (fun _ _ _ h => h) (Or.inl ⟨by rfl, ?_⟩) (by assumption) ?_
    rotate_left
    · intro w hSw; (try dsimp only at hSw); go_simp; (try with_reducible rfl)
    try simp only [Act.put, List.setIfInBounds_toArray, List.set_cons_zero, List.set_cons_succ]
    refine wpAnyH_take (i := 2) (oi := { dst := some 68, op := Op.move (Operand.tmp 67), type := 4, pos := "more.go:51", after := #[{ on := 1, ground := Ground.data }], guard := none }) (v := ?_) rfl (by kernel_rfl) (by kernel_rfl) (by kernel_rfl) (fun _ _ _ h => h) (Or.inl ⟨by rfl, ?_⟩) (by assumption) ?_
    rotate_left
    · intro w hSw; (try dsimp only at hSw); go_simp; (try with_reducible rfl)
    try simp only [Act.put, List.setIfInBounds_toArray, List.set_cons_zero, List.set_cons_succ]
    refine wpAnyH_take (i := 3) (oi := { dst := some 69, op := Op.move (Operand.tmp 12), type := 4, pos := "more.go:51", after := #[{ on := 2, ground := Ground.guard }], guard := some (2, true) }) (v := ?_) rfl (by kernel_rfl) (by kernel_rfl) (by kernel_rfl) (fun _ _ _ h => h) (Or.inl ⟨by rfl, ?_⟩) (by assumption) ?_
    rotate_left
    · intro w hSw; (try dsimp only at hSw); go_simp; (try with_reducible rfl)
    try simp only [Act.put, List.setIfInBounds_toArray, List.set_cons_zero, List.set_cons_succ]
    refine wpAnyH_take (i := 4) (oi := { dst := some 70, op := Op.pick (Operand.tmp 68) (Operand.tmp 69) (Operand.const (Value.bool false)), type := 4, pos := "more.go:51", after := #[{ on := 2, ground := Ground.data }, { on := 3, ground := Ground.data }], guard := none }) (v := ?_) rfl (by kernel_rfl) (by kernel_rfl) (by kernel_rfl) (fun _ _ _ h => h) (Or.inl ⟨by rfl, ?_⟩) (by assumption) ?_
    rotate_left
    · intro w hSw; (try dsimp only at hSw); go_simp; (try with_reducible rfl)
    try simp only [Act.put, List.setIfInBounds_toArray, List.set_cons_zero, List.set_cons_succ]
    refine wpAnyH_take (i := 5) (oi := { dst := some 71, op := Op.move (Operand.tmp 70), type := 4, pos := "more.go:51", after := #[{ on := 4, ground := Ground.data }, { on := 2, ground := Ground.chain }], guard := none }) (v := ?_) rfl (by kernel_rfl) (by kernel_rfl) (by kernel_rfl) (fun _ _ _ h => h) (Or.inl ⟨by rfl, ?_⟩) (by assumption) ?_
    rotate_left
    · intro w hSw; (try dsimp only at hSw); go_simp; (try with_reducible rfl)
    try simp only [Act.put, List.setIfInBounds_toArray, List.set_cons_zero, List.set_cons_succ]
    refine wpAnyH_take (i := 6) (oi := { dst := some 72, op := Op.load 25 (Operand.tmp 9), type := 25, pos := "more.go:51", after := #[{ on := 5, ground := Ground.guard }], guard := some (5, true) }) (v := ?_) rfl (by kernel_rfl) (by kernel_rfl) (by kernel_rfl) (fun _ _ _ h => h) (Or.inl ⟨by rfl, ?_⟩) (by assumption) ?_
    rotate_left
    · intro w hSw; (try dsimp only at hSw); go_simp; (try with_reducible rfl)
    try simp only [Act.put, List.setIfInBounds_toArray, List.set_cons_zero, List.set_cons_succ]
    refine wpAnyH_take (i := 7) (oi := { dst := some 73, op := Op.move (Operand.tmp 1), type := 3, pos := "more.go:51", after := #[{ on := 5, ground := Ground.guard }], guard := some (5, true) }) (v := ?_) rfl (by kernel_rfl) (by kernel_rfl) (by kernel_rfl) (fun _ _ _ h => h) (Or.inl ⟨by rfl, ?_⟩) (by assumption) ?_
    rotate_left
    · intro w hSw; (try dsimp only at hSw); go_simp; (try with_reducible rfl)
    try simp only [Act.put, List.setIfInBounds_toArray, List.set_cons_zero, List.set_cons_succ]
    refine wpAnyH_take (i := 8) (oi := { dst := some 74, op := Op.unOp UnOp.neg 3 (Operand.tmp 73), type := 3, pos := "more.go:51", after := #[{ on := 7, ground := Ground.data }, { on := 5, ground := Ground.guard }], guard := some (5, true) }) (v := ?_) rfl (by kernel_rfl) (by kernel_rfl) (by kernel_rfl) (fun _ _ _ h => h) (Or.inl ⟨by rfl, ?_⟩) (by assumption) ?_
    rotate_left
    · intro w hSw; (try dsimp only at hSw); go_simp; (try with_reducible rfl)
    try simp only [Act.put, List.setIfInBounds_toArray, List.set_cons_zero, List.set_cons_succ]
    refine wpAnyH_take (i := 10) (oi := { dst := some 76, op := Op.load 25 (Operand.tmp 5), type := 25, pos := "more.go:51", after := #[{ on := 5, ground := Ground.guard }], guard := some (5, true) }) (v := ?_) rfl (by kernel_rfl) (by kernel_rfl) (by kernel_rfl) (fun _ _ _ h => h) (Or.inl ⟨by rfl, ?_⟩) (by assumption) ?_
    rotate_left
    · intro w hSw; (try dsimp only at hSw); go_simp; (try with_reducible rfl)
    try simp only [Act.put, List.setIfInBounds_toArray, List.set_cons_zero, List.set_cons_succ]
    refine wpAnyH_ready (rs := [9]) (by kernel_rfl) (by simp) ?_
    refine AllReadyH.cons (o := { dst := some 75, op := Op.call { callee := Callee.value (Operand.func 14), args := #[Operand.tmp 72, Operand.tmp 74], argTypes := #[25, 3] }, type := 25, pos := "more.go:51", after := #[{ on := 6, ground := Ground.data }, { on := 8, ground := Ground.data }, { on := 5, ground := Ground.chain }, { on := 5, ground := Ground.guard }], guard := some (5, true) }) rfl (fun K hK => ?_) AllReadyH.nil
    go_simp
    go_at_call 14; refine (HC.out.shu _ (by assumption)).mono ?_; rintro e wa9 ⟨xa9, ya9, za9, rfl, hNa9, hAa9⟩
    refine hK.out _ _ ?_ (fun hHeld => ?_)
    · exact HS.out _ ‹_›
    clear hK K
    try simp only [Act.put, List.setIfInBounds_toArray, List.set_cons_zero, List.set_cons_succ]
    refine wpAnyH_ready (rs := [11]) (by kernel_rfl) (by simp) ?_
    refine AllReadyH.cons (o := { dst := some 77, op := Op.call { callee := Callee.value (Operand.func 17), args := #[Operand.tmp 75, Operand.tmp 76], argTypes := #[25, 25] }, type := 3, pos := "more.go:51", after := #[{ on := 9, ground := Ground.data }, { on := 10, ground := Ground.data }, { on := 9, ground := Ground.chain }, { on := 5, ground := Ground.guard }], guard := some (5, true) }) rfl (fun K hK => ?_) AllReadyH.nil
    go_simp
    go_at_call 17; refine (HC.out.cmpa _ _ hNa9 hAa9).mono ?_; rintro e wa11 ⟨rfl, hAa11⟩; clear hNa9
    refine hK.out _ _ ?_ (fun hHeld => ?_)
    · exact HS.out _ ‹_›
    clear hK K
    try simp only [Act.put, List.setIfInBounds_toArray, List.set_cons_zero, List.set_cons_succ]
    refine wpAnyH_take (i := 12) (oi := { dst := some 78, op := Op.binOp BinOp.eql 3 (Operand.tmp 77) (Operand.const (Value.int IntKind.i64 0)) 3, type := 4, pos := "more.go:51", after := #[{ on := 11, ground := Ground.data }, { on := 5, ground := Ground.guard }], guard := some (5, true) }) (v := ?_) rfl (by kernel_rfl) (by kernel_rfl) (by kernel_rfl) (fun _ _ _ h => h) (Or.inl ⟨by rfl, ?_⟩) (by assumption) ?_
    rotate_left
    · intro w hSw; (try dsimp only at hSw); go_simp; (try with_reducible rfl)
    try simp only [Act.put, List.setIfInBounds_toArray, List.set_cons_zero, List.set_cons_succ]
    refine wpAnyH_take (i := 13) (oi := { dst := some 79, op := Op.pick (Operand.tmp 71) (Operand.tmp 78) (Operand.const (Value.bool false)), type := 4, pos := "more.go:51", after := #[{ on := 5, ground := Ground.data }, { on := 12, ground := Ground.data }], guard := none }) (v := ?_) rfl (by kernel_rfl) (by kernel_rfl) (by kernel_rfl) (fun _ _ _ h => h) (Or.inl ⟨by rfl, ?_⟩) (by assumption) ?_
    rotate_left
    · intro w hSw; (try dsimp only at hSw); go_simp; (try with_reducible rfl)
    try simp only [Act.put, List.setIfInBounds_toArray, List.set_cons_zero, List.set_cons_succ]
    refine wpAnyH_take (i := 14) (oi := { dst := some 80, op := Op.move (Operand.tmp 79), type := 4, pos := "more.go:51", after := #[{ on := 13, ground := Ground.data }, { on := 11, ground := Ground.chain }], guard := none }) (v := ?_) rfl (by kernel_rfl) (by kernel_rfl) (by kernel_rfl) (fun _ _ _ h => h) (Or.inl ⟨by rfl, ?_⟩) (by assumption) ?_
    rotate_left
    · intro w hSw; (try dsimp only at hSw); go_simp; (try with_reducible rfl)
    try simp only [Act.put, List.setIfInBounds_toArray, List.set_cons_zero, List.set_cons_succ]
    refine wpAnyH_take (i := 15) (oi := { dst := some 81, op := Op.load 25 (Operand.tmp 9), type := 25, pos := "more.go:51", after := #[{ on := 14, ground := Ground.guard }], guard := some (14, true) }) (v := ?_) rfl (by kernel_rfl) (by kernel_rfl) (by kernel_rfl) (fun _ _ _ h => h) (Or.inl ⟨by rfl, ?_⟩) (by assumption) ?_
    rotate_left
    · intro w hSw; (try dsimp only at hSw); go_simp; (try with_reducible rfl)
    try simp only [Act.put, List.setIfInBounds_toArray, List.set_cons_zero, List.set_cons_succ]
    refine wpAnyH_take (i := 16) (oi := { dst := some 82, op := Op.load 25 (Operand.tmp 5), type := 25, pos := "more.go:51", after := #[{ on := 14, ground := Ground.guard }], guard := some (14, true) }) (v := ?_) rfl (by kernel_rfl) (by kernel_rfl) (by kernel_rfl) (fun _ _ _ h => h) (Or.inl ⟨by rfl, ?_⟩) (by assumption) ?_
    rotate_left
    · intro w hSw; (try dsimp only at hSw); go_simp; (try with_reducible rfl)
    try simp only [Act.put, List.setIfInBounds_toArray, List.set_cons_zero, List.set_cons_succ]
    refine wpAnyH_take (i := 17) (oi := { dst := some 83, op := Op.load 25 (Operand.tmp 7), type := 25, pos := "more.go:51", after := #[{ on := 14, ground := Ground.guard }], guard := some (14, true) }) (v := ?_) rfl (by kernel_rfl) (by kernel_rfl) (by kernel_rfl) (fun _ _ _ h => h) (Or.inl ⟨by rfl, ?_⟩) (by assumption) ?_
    rotate_left
    · intro w hSw; (try dsimp only at hSw); go_simp; (try with_reducible rfl)
    try simp only [Act.put, List.setIfInBounds_toArray, List.set_cons_zero, List.set_cons_succ]
    refine wpAnyH_ready (rs := [18]) (by kernel_rfl) (by simp) ?_
    refine AllReadyH.cons (o := { dst := some 84, op := Op.call { callee := Callee.value (Operand.func 18), args := #[Operand.tmp 82, Operand.tmp 83], argTypes := #[25, 25] }, type := 25, pos := "more.go:51", after := #[{ on := 16, ground := Ground.data }, { on := 17, ground := Ground.data }, { on := 14, ground := Ground.chain }, { on := 14, ground := Ground.guard }], guard := some (14, true) }) rfl (fun K hK => ?_) AllReadyH.nil
    go_simp
    go_at_call 18; refine (HC.out.mul _ (by assumption)).mono ?_; rintro e wa18 ⟨xa18, ya18, za18, rfl, hNa18, hAa18⟩
    refine hK.out _ _ ?_ (fun hHeld => ?_)
    · exact HS.out _ ‹_›
    clear hK K
    try simp only [Act.put, List.setIfInBounds_toArray, List.set_cons_zero, List.set_cons_succ]
    refine wpAnyH_ready (rs := [19]) (by kernel_rfl) (by simp) ?_
    refine AllReadyH.cons (o := { dst := some 85, op := Op.call { callee := Callee.value (Operand.func 17), args := #[Operand.tmp 81, Operand.tmp 84], argTypes := #[25, 25] }, type := 3, pos := "more.go:51", after := #[{ on := 15, ground := Ground.data }, { on := 18, ground := Ground.data }, { on := 18, ground := Ground.chain }, { on := 14, ground := Ground.guard }], guard := some (14, true) }) rfl (fun K hK => ?_) AllReadyH.nil
    go_simp
    go_at_call 17; refine (HC.out.cmpu _ _ hNa18 hAa18).mono ?_; rintro e wa19 ⟨rfl, hAa19⟩; clear hNa18
    refine hK.out _ _ ?_ (fun hHeld => ?_)
    · exact HS.out _ ‹_›
    clear hK K
    try simp only [Act.put, List.setIfInBounds_toArray, List.set_cons_zero, List.set_cons_succ]
    refine wpAnyH_take (i := 20) (oi := { dst := some 86, op := Op.binOp BinOp.eql 3 (Operand.tmp 85) (Operand.const (Value.int IntKind.i64 0)) 3, type := 4, pos := "more.go:51", after := #[{ on := 19, ground := Ground.data }, { on := 14, ground := Ground.guard }], guard := some (14, true) }) (v := ?_) rfl (by kernel_rfl) (by kernel_rfl) (by kernel_rfl) (fun _ _ _ h => h) (Or.inl ⟨by rfl, ?_⟩) (by assumption) ?_
    rotate_left
    · intro w hSw; (try dsimp only at hSw); go_simp; (try with_reducible rfl)
    try simp only [Act.put, List.setIfInBounds_toArray, List.set_cons_zero, List.set_cons_succ]
    refine wpAnyH_take (i := 21) (oi := { dst := some 87, op := Op.pick (Operand.tmp 80) (Operand.tmp 86) (Operand.const (Value.bool false)), type := 4, pos := "more.go:51", after := #[{ on := 14, ground := Ground.data }, { on := 20, ground := Ground.data }], guard := none }) (v := ?_) rfl (by kernel_rfl) (by kernel_rfl) (by kernel_rfl) (fun _ _ _ h => h) (Or.inl ⟨by rfl, ?_⟩) (by assumption) ?_
    rotate_left
    · intro w hSw; (try dsimp only at hSw); go_simp; (try with_reducible rfl)
    try simp only [Act.put, List.setIfInBounds_toArray, List.set_cons_zero, List.set_cons_succ]
    refine wpAnyH_take (i := 22) (oi := { dst := some 88, op := Op.move (Operand.tmp 87), type := 4, pos := "more.go:51", after := #[{ on := 21, ground := Ground.data }, { on := 19, ground := Ground.chain }], guard := none }) (v := ?_) rfl (by kernel_rfl) (by kernel_rfl) (by kernel_rfl) (fun _ _ _ h => h) (Or.inl ⟨by rfl, ?_⟩) (by assumption) ?_
    rotate_left
    · intro w hSw; (try dsimp only at hSw); go_simp; (try with_reducible rfl)
    try simp only [Act.put, List.setIfInBounds_toArray, List.set_cons_zero, List.set_cons_succ]
    refine wpAnyH_take (i := 23) (oi := { dst := some 89, op := Op.load 25 (Operand.tmp 5), type := 25, pos := "more.go:51", after := #[{ on := 22, ground := Ground.guard }], guard := some (22, true) }) (v := ?_) rfl (by kernel_rfl) (by kernel_rfl) (by kernel_rfl) (fun _ _ _ h => h) (Or.inl ⟨by rfl, ?_⟩) (by assumption) ?_
    rotate_left
    · intro w hSw; (try dsimp only at hSw); go_simp; (try with_reducible rfl)
    try simp only [Act.put, List.setIfInBounds_toArray, List.set_cons_zero, List.set_cons_succ]
    refine wpAnyH_take (i := 24) (oi := { dst := some 90, op := Op.move (Operand.tmp 1), type := 3, pos := "more.go:51", after := #[{ on := 22, ground := Ground.guard }], guard := some (22, true) }) (v := ?_) rfl (by kernel_rfl) (by kernel_rfl) (by kernel_rfl) (fun _ _ _ h => h) (Or.inl ⟨by rfl, ?_⟩) (by assumption) ?_
    rotate_left
    · intro w hSw; (try dsimp only at hSw); go_simp; (try with_reducible rfl)
    try simp only [Act.put, List.setIfInBounds_toArray, List.set_cons_zero, List.set_cons_succ]
    refine wpAnyH_take (i := 25) (oi := { dst := some 91, op := Op.unOp UnOp.neg 3 (Operand.tmp 90), type := 3, pos := "more.go:51", after := #[{ on := 24, ground := Ground.data }, { on := 22, ground := Ground.guard }], guard := some (22, true) }) (v := ?_) rfl (by kernel_rfl) (by kernel_rfl) (by kernel_rfl) (fun _ _ _ h => h) (Or.inl ⟨by rfl, ?_⟩) (by assumption) ?_
    rotate_left
    · intro w hSw; (try dsimp only at hSw); go_simp; (try with_reducible rfl)
    try simp only [Act.put, List.setIfInBounds_toArray, List.set_cons_zero, List.set_cons_succ]
    refine wpAnyH_take (i := 27) (oi := { dst := some 93, op := Op.load 25 (Operand.tmp 10), type := 25, pos := "more.go:51", after := #[{ on := 22, ground := Ground.guard }], guard := some (22, true) }) (v := ?_) rfl (by kernel_rfl) (by kernel_rfl) (by kernel_rfl) (fun _ _ _ h => h) (Or.inl ⟨by rfl, ?_⟩) (by assumption) ?_
    rotate_left
    · intro w hSw; (try dsimp only at hSw); go_simp; (try with_reducible rfl)
    try simp only [Act.put, List.setIfInBounds_toArray, List.set_cons_zero, List.set_cons_succ]
    refine wpAnyH_ready (rs := [26]) (by kernel_rfl) (by simp) ?_
    refine AllReadyH.cons (o := { dst := some 92, op := Op.call { callee := Callee.value (Operand.func 14), args := #[Operand.tmp 89, Operand.tmp 91], argTypes := #[25, 3] }, type := 25, pos := "more.go:51", after := #[{ on := 23, ground := Ground.data }, { on := 25, ground := Ground.data }, { on := 22, ground := Ground.chain }, { on := 22, ground := Ground.guard }], guard := some (22, true) }) rfl (fun K hK => ?_) AllReadyH.nil
    go_simp
    go_at_call 14; refine (HC.out.sha _ (by assumption)).mono ?_; rintro e wa26 ⟨xa26, ya26, za26, rfl, hNa26, hAa26⟩
    refine hK.out _ _ ?_ (fun hHeld => ?_)
    · exact HS.out _ ‹_›
    clear hK K
    try simp only [Act.put, List.setIfInBounds_toArray, List.set_cons_zero, List.set_cons_succ]
    refine wpAnyH_ready (rs := [28]) (by kernel_rfl) (by simp) ?_
    refine AllReadyH.cons (o := { dst := some 94, op := Op.call { callee := Callee.value (Operand.func 17), args := #[Operand.tmp 92, Operand.tmp 93], argTypes := #[25, 25] }, type := 3, pos := "more.go:51", after := #[{ on := 26, ground := Ground.data }, { on := 27, ground := Ground.data }, { on := 26, ground := Ground.chain }, { on := 22, ground := Ground.guard }], guard := some (22, true) }) rfl (fun K hK => ?_) AllReadyH.nil
    go_simp
    go_at_call 17; refine (HC.out.cmpq _ _ hNa26 hAa26).mono ?_; rintro e wa28 ⟨rfl, hAa28⟩; clear hNa26
    refine hK.out _ _ ?_ (fun hHeld => ?_)
    · exact HS.out _ ‹_›
    clear hK K
    try simp only [Act.put, List.setIfInBounds_toArray, List.set_cons_zero, List.set_cons_succ]
    refine wpAnyH_take (i := 29) (oi := { dst := some 95, op := Op.binOp BinOp.eql 3 (Operand.tmp 94) (Operand.const (Value.int IntKind.i64 0)) 3, type := 4, pos := "more.go:51", after := #[{ on := 28, ground := Ground.data }, { on := 22, ground := Ground.guard }], guard := some (22, true) }) (v := ?_) rfl (by kernel_rfl) (by kernel_rfl) (by kernel_rfl) (fun _ _ _ h => h) (Or.inl ⟨by rfl, ?_⟩) (by assumption) ?_
    rotate_left
    · intro w hSw; (try dsimp only at hSw); go_simp; (try with_reducible rfl)
    try simp only [Act.put, List.setIfInBounds_toArray, List.set_cons_zero, List.set_cons_succ]
    refine wpAnyH_take (i := 30) (oi := { dst := some 96, op := Op.pick (Operand.tmp 88) (Operand.tmp 95) (Operand.const (Value.bool false)), type := 4, pos := "more.go:51", after := #[{ on := 22, ground := Ground.data }, { on := 29, ground := Ground.data }], guard := none }) (v := ?_) rfl (by kernel_rfl) (by kernel_rfl) (by kernel_rfl) (fun _ _ _ h => h) (Or.inl ⟨by rfl, ?_⟩) (by assumption) ?_
    rotate_left
    · intro w hSw; (try dsimp only at hSw); go_simp; (try with_reducible rfl)
    try simp only [Act.put, List.setIfInBounds_toArray, List.set_cons_zero, List.set_cons_succ]
    refine wpAnyH_take (i := 31) (oi := { dst := some 4, op := Op.assign (Operand.tmp 96), type := 4, pos := "more.go:51", after := #[{ on := 30, ground := Ground.data }, { on := 28, ground := Ground.chain }, { on := 0, ground := Ground.phase }, { on := 1, ground := Ground.phase }, { on := 2, ground := Ground.phase }, { on := 3, ground := Ground.phase }, { on := 4, ground := Ground.phase }, { on := 5, ground := Ground.phase }, { on := 6, ground := Ground.phase }, { on := 7, ground := Ground.phase }, { on := 8, ground := Ground.phase }, { on := 9, ground := Ground.phase }, { on := 10, ground := Ground.phase }, { on := 11, ground := Ground.phase }, { on := 12, ground := Ground.phase }, { on := 13, ground := Ground.phase }, { on := 14, ground := Ground.phase }, { on := 15, ground := Ground.phase }, { on := 16, ground := Ground.phase }, { on := 17, ground := Ground.phase }, { on := 18, ground := Ground.phase }, { on := 19, ground := Ground.phase }, { on := 20, ground := Ground.phase }, { on := 21, ground := Ground.phase }, { on := 22, ground := Ground.phase }, { on := 23, ground := Ground.phase }, { on := 24, ground := Ground.phase }, { on := 25, ground := Ground.phase }, { on := 26, ground := Ground.phase }, { on := 27, ground := Ground.phase }, { on := 28, ground := Ground.phase }, { on := 29, ground := Ground.phase }, { on := 30, ground := Ground.phase }], guard := none }) (v := ?_) rfl (by kernel_rfl) (by kernel_rfl) (by kernel_rfl) (fun _ _ _ h => h) (Or.inl ⟨by rfl, ?_⟩) (by assumption) ?_
    rotate_left
    · intro w hSw; (try dsimp only at hSw); go_simp; (try with_reducible rfl)
    try simp only [Act.put, List.setIfInBounds_toArray, List.set_cons_zero, List.set_cons_succ]
    refine wpAnyH_done (by kernel_rfl) ?_ _
    have HAa := Lib.hid hAa28
    go_wp2_with fail
    go_ret
    exact ⟨rfl, HAa.out.b0⟩
set_option maxRecDepth 100000 in
set_option maxHeartbeats 2000000 in
theorem natShifts.walk (s : ByteArray) (n : Int) (hs : s.size ≤ maxLen) (_hn : (Lit.int .i64 n).wf = true) (w : World) (htab : Tab w) :
    Calls Tryd.prog 4 #[.string s, .int .i64 n] w fun e w' => e = .returned (.bool true) ∧ Below w.heap.size w w' := by
  have HAl := Lib.hid (alive_any w htab)
  obtain ⟨sn, hsn⟩ : ∃ sn, s.size = sn := ⟨_, rfl⟩
  by_cases c1 : (200 : Int) < (s.size : Int)
  · go_enter Tryd.func4, Tryd.ntmps4
    go_wp2_with fail
    refine HAl.out.mono ?_
    rintro e w1 ⟨rfl, hb1⟩
    go_wp2_with fail
    go_ret
    exact ⟨rfl, hb1⟩
  by_cases c2 : n < 0
  · go_enter Tryd.func4, Tryd.ntmps4
    go_wp2_with fail
    refine HAl.out.mono ?_
    rintro e w1 ⟨rfl, hb1⟩
    go_wp2_with fail
    go_ret
    exact ⟨rfl, hb1⟩
  by_cases c3 : 500 < n
  · go_enter Tryd.func4, Tryd.ntmps4
    go_wp2_with fail
    refine HAl.out.mono ?_
    rintro e w1 ⟨rfl, hb1⟩
    go_wp2_with fail
    go_ret
    exact ⟨rfl, hb1⟩
  have hs2 : s.size ≤ 200 := by omega
  by_cases hwf : WF s
  · obtain ⟨d, rfl⟩ : ∃ d : Nat, n = (d : Int) := ⟨n.toNat, by omega⟩
    exact natShifts.good s d hwf hs2 (by omega) w htab
  · go_enter Tryd.func4, Tryd.ntmps4
    go_wp2_with fail
    refine HAl.out.mono ?_
    rintro e w1 ⟨rfl, hb1⟩
    have HB1 := Lib.hid hb1
    clear hb1
    go_wp2_with fail
    refine (parse_bad s w1 hs hwf).mono ?_
    rintro e w2 ⟨rfl, hb2⟩
    have HB3 := Lib.hid (below_box (.slice none 0 0) HB1.out hb2)
    clear hb2 HB1
    go_wp2_with fail
    go_ret
    exact ⟨rfl, HB3.out⟩
end Go.Proofs.YtckllmlkhlaboaaDoor
