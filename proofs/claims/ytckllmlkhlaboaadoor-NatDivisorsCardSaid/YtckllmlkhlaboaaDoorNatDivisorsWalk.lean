/-
  The walk of NatDivisors: for every input it returns true, and leaves what lay in memory as it was.
-/
import Derived.Test.YtckllmlkhlaboaaDoorNGcd
namespace Go.Proofs.YtckllmlkhlaboaaDoor
open Go.RowKit
set_option linter.unusedVariables false
/-- A text of 120 bytes or less: a number or none. -/
theorem parse_some (s : ByteArray) (w : World) (hs : s.size ≤ maxLen) : Calls Tryd.prog 7 #[.string s] w fun e w' => ∃ (x : Option Addr) (y z : Nat) (c : Int), e = .returned (.tuple #[.agg #[.slice x y z], .int .i64 c]) ∧ Below w.heap.size w w' :=
  (parse_any s w hs).mono fun e w' ⟨h1, hb⟩ => by
    rcases h1 with ⟨_, _, v, rfl, hN⟩ | ⟨_, rfl⟩ | ⟨_, _, rfl⟩
    · obtain ⟨x, y, z, rfl⟩ := isN_form hN
      exact ⟨x, y, z, 0, rfl, hb⟩
    · exact ⟨none, 0, 0, 3, rfl, hb⟩
    · exact ⟨none, 0, 0, 2, rfl, hb⟩
theorem small120 {s : ByteArray} (hwf : WF s) (h : s.size ≤ 120) : dv s.data.toList < 18446744073709551616 ^ 26 := by
  have h1 := dv_lt s.size s.data.toList (by simp) hwf.dig
  have h2 : 10 ^ s.size ≤ 18446744073709551616 ^ 26 := ten_pow (by omega)
  exact Nat.lt_of_lt_of_le h1 h2
theorem text_one : (⟨(Lib.decDigits 1).toArray⟩ : ByteArray) = ⟨#[49]⟩ := by
  rw [Lib.decDigits_one (by decide)]; rfl
/-- What holds on throughout the last test. -/
structure AtV (w wz : World) (a b g x r y u : Value) (A B G X Y : Nat) (W : World) : Prop where
  na : IsN W a A
  nb : IsN W b B
  ng : IsN W g G
  nx : IsN W x X
  nr : IsN W r 0
  ny : IsN W y Y
  nu : IsN W u 0
  b0 : Below w.heap.size w W
  b9 : Below wz.heap.size wz W
theorem AtV.below {w wz : World} {a b g x r y u : Value} {A B G X Y : Nat} {W W' : World} (h : AtV w wz a b g x r y u A B G X Y W) (hb : Below W.heap.size W W') : AtV w wz a b g x r y u A B G X Y W' :=
  ⟨h.na.below hb (Nat.le_refl _), h.nb.below hb (Nat.le_refl _), h.ng.below hb (Nat.le_refl _), h.nx.below hb (Nat.le_refl _), h.nr.below hb (Nat.le_refl _), h.ny.below hb (Nat.le_refl _), h.nu.below hb (Nat.le_refl _), h.b0.trans (hb.mono h.b0.size), h.b9.trans (hb.mono h.b9.size)⟩
structure DvCalls (w wz : World) (a b g x r y u : Value) (A B G X Y : Nat) (SG : ByteArray) : Prop where
  zr : ∀ W, AtV w wz a b g x r y u A B G X Y W → Calls Tryd.prog 8 #[r] W fun e w' => e = .returned (.bool true) ∧ AtV w wz a b g x r y u A B G X Y w'
  zu : ∀ W, AtV w wz a b g x r y u A B G X Y W → Calls Tryd.prog 8 #[u] W fun e w' => e = .returned (.bool true) ∧ AtV w wz a b g x r y u A B G X Y w'
  gxy : ∀ W, AtV w wz a b g x r y u A B G X Y W → Calls Tryd.prog 19 #[x, y] W fun e w' => ∃ x1 y1 z1, e = .returned (.agg #[.slice x1 y1 z1]) ∧ IsN w' (.agg #[.slice x1 y1 z1]) 1 ∧ AtV w wz a b g x r y u A B G X Y w'
  t1 : ∀ W v, IsN W v 1 → AtV w wz a b g x r y u A B G X Y W → Calls Tryd.prog 9 #[v] W fun e w' => e = .returned (.string ⟨#[49]⟩) ∧ AtV w wz a b g x r y u A B G X Y w'
  gba : ∀ W, AtV w wz a b g x r y u A B G X Y W → Calls Tryd.prog 19 #[b, a] W fun e w' => ∃ x1 y1 z1, e = .returned (.agg #[.slice x1 y1 z1]) ∧ IsN w' (.agg #[.slice x1 y1 z1]) G ∧ AtV w wz a b g x r y u A B G X Y w'
  tg : ∀ W v, IsN W v G → AtV w wz a b g x r y u A B G X Y W → Calls Tryd.prog 9 #[v] W fun e w' => e = .returned (.string SG) ∧ AtV w wz a b g x r y u A B G X Y w'
theorem dvCalls (w wz : World) (a b g x r y u : Value) (A B : Nat) (SG : ByteArray) (hA0 : A ≠ 0) (hB0 : B ≠ 0) (hA : A < 18446744073709551616 ^ 26) (hB : B < 18446744073709551616 ^ 26) (ht : Tab w) (htb : TabB w) (hSG : (⟨(Lib.decDigits (Nat.gcd A B)).toArray⟩ : ByteArray) = SG) :
    DvCalls w wz a b g x r y u A B (Nat.gcd A B) (A / Nat.gcd A B) (B / Nat.gcd A B) SG where
  zr W h := (zero_yes h.nr).mono fun e w' h' => ⟨h'.1, h.below h'.2⟩
  zu W h := (zero_yes h.nu).mono fun e w' h' => ⟨h'.1, h.below h'.2⟩
  gxy W h := by
    have hg : 0 < Nat.gcd A B := Nat.gcd_pos_of_pos_left _ (by omega)
    have h1 : 0 < A / Nat.gcd A B := Nat.div_pos (Nat.gcd_le_left _ (by omega)) hg
    have h2 : 0 < B / Nat.gcd A B := Nat.div_pos (Nat.gcd_le_right _ (by omega)) hg
    refine (gcd_any _ _ _ _ W h.nx h.ny (by omega) (by omega) (Nat.lt_of_le_of_lt (Nat.div_le_self _ _) hA) (Nat.lt_of_le_of_lt (Nat.div_le_self _ _) hB) (htb.below h.b0 (Nat.le_refl _))).mono fun e w' h' => ?_
    obtain ⟨x1, y1, z1, h3, h4, h5⟩ := h'
    rw [Nat.gcd_div (Nat.gcd_dvd_left A B) (Nat.gcd_dvd_right A B), Nat.div_self hg] at h4
    exact ⟨x1, y1, z1, h3, h4, h.below h5⟩
  t1 W v hv h := (text_any _ _ W hv (ht.below h.b0 (Nat.le_refl _))).mono fun e w' h' => ⟨by rw [h'.1, text_one], h.below h'.2⟩
  gba W h := (gcd_any _ _ _ _ W h.nb h.na hB0 hA0 hB hA (htb.below h.b0 (Nat.le_refl _))).mono fun e w' h' => by
    obtain ⟨x1, y1, z1, h3, h4, h5⟩ := h'
    rw [Nat.gcd_comm] at h4
    exact ⟨x1, y1, z1, h3, h4, h.below h5⟩
  tg W v hv h := (text_any _ _ W hv (ht.below h.b0 (Nat.le_refl _))).mono fun e w' h' => ⟨by rw [h'.1, hSG], h.below h'.2⟩
/-- DivMod by a divisor. -/
theorem dvm_of (A G : Nat) (va vb : Value) (w : World) (ha : IsN w va A) (hb : IsN w vb G) (hA : A < 18446744073709551616 ^ 26) (hG : 0 < G) (hd : G ∣ A) :
    Calls Tryd.prog 15 #[va, vb] w fun e w' => ∃ x y z x' y' z', e = .returned (.tuple #[.agg #[.slice x y z], .agg #[.slice x' y' z'], .bool true]) ∧ IsN w' (.agg #[.slice x y z]) (A / G) ∧ IsN w' (.agg #[.slice x' y' z']) 0 ∧ Below w.heap.size w w' :=
  (dvm_any A G _ _ w ha hb (w26 8000 hA (by omega))).mono fun e w' ⟨h, hb⟩ => by
    rcases h with ⟨h0, _⟩ | ⟨_, x, y, z, x', y', z', h1, h2, h3⟩
    · omega
    · rw [Nat.mod_eq_zero_of_dvd hd] at h3
      exact ⟨x, y, z, x', y', z', h1, h2, h3, hb⟩
set_option maxRecDepth 100000 in
set_option maxHeartbeats 4000000 in
theorem natDivisors.good (s t : ByteArray) (hwf : WF s) (hwt : WF t) (hs1 : s.size ≤ 120) (ht1 : t.size ≤ 120) (hA0 : dv s.data.toList ≠ 0) (hB0 : dv t.data.toList ≠ 0) (w : World) (htab : Tab w) (htb : TabB w) :
    Calls Tryd.prog 5 #[.string s, .string t] w fun e w' => e = .returned (.bool true) ∧ Below w.heap.size w w' := by
  have HAl := Lib.hid (alive_any w htab)
  have HWF := Lib.hid hwf; have HWT := Lib.hid hwt
  have HTab := Lib.hid htab; have HTb := Lib.hid htb
  have Hs1 := Lib.hid hs1; have Ht1 := Lib.hid ht1
  obtain ⟨sz, hsz⟩ : ∃ sz, s.size = sz := ⟨_, rfl⟩
  obtain ⟨tz, htz⟩ : ∃ tz, t.size = tz := ⟨_, rfl⟩
  have c1 : decide ((120 : Int) < (sz : Int)) = false := by simp; omega
  have c2 : decide ((120 : Int) < (tz : Int)) = false := by simp; omega
  have HA := Lib.hid (small120 hwf hs1)
  have HB := Lib.hid (small120 hwt ht1)
  have HPs : Hid (∀ W, Calls Tryd.prog 7 #[.string s] W fun e w' => ∃ x y z, e = .returned (.tuple #[.agg #[.slice x y z], .int .i64 0]) ∧ IsN w' (.agg #[.slice x y z]) (dv s.data.toList) ∧ Below W.heap.size W w') := Lib.hid (fun W => parse_ok s W hwf (by omega))
  have HPt : Hid (∀ W, Calls Tryd.prog 7 #[.string t] W fun e w' => ∃ x y z, e = .returned (.tuple #[.agg #[.slice x y z], .int .i64 0]) ∧ IsN w' (.agg #[.slice x y z]) (dv t.data.toList) ∧ Below W.heap.size W w') := Lib.hid (fun W => parse_ok t W hwt (by omega))
  obtain ⟨A, hA⟩ : ∃ A, dv s.data.toList = A := ⟨_, rfl⟩
  obtain ⟨B, hB⟩ : ∃ B, dv t.data.toList = B := ⟨_, rfl⟩
  rw [hA] at HA HPs hA0
  rw [hB] at HB HPt hB0
  have HA0 := Lib.hid hA0; have HB0 := Lib.hid hB0
  clear hwf hwt htab htb hs1 ht1 hA hB hA0 hB0
  go_enter Tryd.func5, Tryd.ntmps5
  go_wp2_with fail
  refine HAl.out.mono ?_
  rintro e w1 ⟨rfl, hb1⟩
  have HB1 := Lib.hid hb1
  clear hb1 HAl
  go_wp2_with fail
  refine (HPs.out w1).mono ?_
  rintro e w2 ⟨x2, y2, z2, rfl, hN2, hb2⟩
  have HX3 := Lib.hid (BoxN.new hN2)
  have HB3 := Lib.hid (below_box (.slice x2 y2 z2) HB1.out hb2)
  obtain ⟨ba, hba⟩ : ∃ ba, w2.heap.size = ba := ⟨_, rfl⟩
  obtain ⟨W3, hW3⟩ : ∃ W3, w2.alloc (.cells #[.slice x2 y2 z2] 25) = W3 := ⟨_, rfl⟩
  rw [hW3] at HX3 HB3
  rw [hba] at HX3
  have HW3 := Lib.hid hW3
  have Hba := Lib.hid hba
  clear hb2 hN2 HB1 hW3 hba HPs
  go_wp2_with fail
  rw [HW3.out, Hba.out]
  refine (HPt.out W3).mono ?_
  rintro e w4 ⟨x4, y4, z4, rfl, hN4, hb4⟩
  have hb45 := below_box (.slice x4 y4 z4) (Below.refl W3.heap.size W3) hb4
  have HX5 := Lib.hid (HX3.out.below hb45)
  have HY5 := Lib.hid (BoxN.new hN4)
  have HB5 := Lib.hid (HB3.out.trans (hb45.mono HB3.out.size))
  have q5 := HX5.out.cell
  obtain ⟨bb, hbb⟩ : ∃ bb, w4.heap.size = bb := ⟨_, rfl⟩
  obtain ⟨W5, hW5⟩ : ∃ W5, w4.alloc (.cells #[.slice x4 y4 z4] 25) = W5 := ⟨_, rfl⟩
  rw [hW5] at HX5 HY5 HB5
  rw [hbb] at HY5
  have HW5 := Lib.hid hW5
  have Hbb := Lib.hid hbb
  have HZ1 := Lib.hid (zero_no HX5.out.num HA0.out)
  clear hb4 hb45 hN4 HX3 HB3 hW5 hbb HPt
  go_wp2_with fail
  rw [HW5.out, Hbb.out]
  refine HZ1.out.mono ?_
  rintro e w6 ⟨rfl, hb6⟩
  have HX6 := Lib.hid (HX5.out.below hb6)
  have HY6 := Lib.hid (HY5.out.below hb6)
  have HB6 := Lib.hid (HB5.out.trans (hb6.mono HB5.out.size))
  have q6 := HY6.out.cell
  have HZ2 := Lib.hid (zero_no HY6.out.num HB0.out)
  clear hb6 HX5 HY5 HB5 HZ1 q5
  go_wp2_with fail
  refine HZ2.out.mono ?_
  rintro e w7 ⟨rfl, hb7⟩
  have HX7 := Lib.hid (HX6.out.below hb7)
  have HY7 := Lib.hid (HY6.out.below hb7)
  have HB7 := Lib.hid (HB6.out.trans (hb7.mono HB6.out.size))
  have q7 := HX7.out.cell
  have q7b := HY7.out.cell
  have HG := Lib.hid (gcd_any A B _ _ w7 HX7.out.num HY7.out.num HA0.out HB0.out HA.out HB.out (HTb.out.below HB7.out (Nat.le_refl _)))
  clear hb7 HX6 HY6 HB6 HZ2 q6
  go_wp2_with fail
  refine HG.out.mono ?_
  rintro e w8 ⟨x6, y6, z6, rfl, hN8, hb8⟩
  obtain ⟨G, hG⟩ : ∃ G, Nat.gcd A B = G := ⟨_, rfl⟩
  rw [hG] at hN8
  have HGe := Lib.hid hG
  have hb89 := below_box (.slice x6 y6 z6) (Below.refl w7.heap.size w7) hb8
  have HX9 := Lib.hid (HX7.out.below hb89)
  have HY9 := Lib.hid (HY7.out.below hb89)
  have HG9 := Lib.hid (BoxN.new hN8)
  have HB9 := Lib.hid (HB7.out.trans (hb89.mono HB7.out.size))
  have q9 := HX9.out.cell
  obtain ⟨bg, hbg⟩ : ∃ bg, w8.heap.size = bg := ⟨_, rfl⟩
  obtain ⟨W9, hW9⟩ : ∃ W9, w8.alloc (.cells #[.slice x6 y6 z6] 25) = W9 := ⟨_, rfl⟩
  rw [hW9] at HX9 HY9 HG9 HB9
  rw [hbg] at HG9
  have q9g := HG9.out.cell
  have HW9 := Lib.hid hW9
  have Hbg := Lib.hid hbg
  have HG0 : Hid (0 < G) := Lib.hid (by rw [← hG]; exact Nat.gcd_pos_of_pos_left _ (by have := HA0.out; omega))
  have HD1 := Lib.hid (dvm_of A G _ _ W9 HX9.out.num HG9.out.num HA.out HG0.out (by rw [← hG]; exact Nat.gcd_dvd_left A B))
  have q9g' : World.cell? (w8.alloc (.cells #[.slice x6 y6 z6] 25)) ⟨w8.heap.size, 0, none⟩ = some (.slice x6 y6 z6) := by rw [hW9, hbg]; exact q9g
  clear hb8 hb89 hN8 HX7 HY7 HB7 HG hW9 hbg hG q7 q7b
  go_wp2_with fail
  rw [HW9.out, Hbg.out]
  refine HD1.out.mono ?_
  rintro e w10 ⟨x8, y8, z8, xr, yr, zr, rfl, hN10, hNr, hb10⟩
  have hb11 : Below W9.heap.size W9 ((w10.alloc (.cells #[.slice x8 y8 z8] 25)).alloc (.cells #[.slice xr yr zr] 25)) := (below_box (.slice x8 y8 z8) (Below.refl W9.heap.size W9) hb10).alloc (below_box (.slice x8 y8 z8) (Below.refl W9.heap.size W9) hb10).size _
  have HX11 := Lib.hid (HX9.out.below hb11)
  have HY11 := Lib.hid (HY9.out.below hb11)
  have HG11 := Lib.hid (HG9.out.below hb11)
  have HQ11 := Lib.hid ((BoxN.new hN10).below ((Below.refl _ _).alloc (Nat.le_refl _) (.cells #[.slice xr yr zr] 25)))
  have HR11 := Lib.hid (BoxN.new (hNr.below ((Below.refl _ w10).alloc (Nat.le_refl _) (.cells #[.slice x8 y8 z8] 25)) (Nat.le_refl _)))
  rw [World.size_alloc] at HR11
  have HB11 := Lib.hid (HB9.out.trans (hb11.mono HB9.out.size))
  have q11 := HY11.out.cell
  have q11g := HG11.out.cell
  obtain ⟨bx, hbx⟩ : ∃ bx, w10.heap.size = bx := ⟨_, rfl⟩
  obtain ⟨W11, hW11⟩ : ∃ W11, (w10.alloc (.cells #[.slice x8 y8 z8] 25)).alloc (.cells #[.slice xr yr zr] 25) = W11 := ⟨_, rfl⟩
  rw [hW11] at HX11 HY11 HG11 HQ11 HR11 HB11
  rw [hbx] at HQ11 HR11
  have HW11 := Lib.hid hW11
  have Hbx := Lib.hid hbx
  have HD2 := Lib.hid (dvm_of B G _ _ W11 HY11.out.num HG11.out.num HB.out HG0.out (by rw [← HGe.out]; exact Nat.gcd_dvd_right A B))
  clear hb10 hb11 hN10 hNr HX9 HY9 HG9 HB9 HD1 hW11 hbx q9 q9g q9g'
  go_wp2_with fail
  rw [HW11.out, Hbx.out]
  refine HD2.out.mono ?_
  rintro e w12 ⟨x9, y9, z9, xu, yu, zu, rfl, hN12, hNu, hb12⟩
  have hb13 : Below W11.heap.size W11 ((w12.alloc (.cells #[.slice x9 y9 z9] 25)).alloc (.cells #[.slice xu yu zu] 25)) := (below_box (.slice x9 y9 z9) (Below.refl W11.heap.size W11) hb12).alloc (below_box (.slice x9 y9 z9) (Below.refl W11.heap.size W11) hb12).size _
  have HX13 := Lib.hid (HX11.out.below hb13)
  have HY13 := Lib.hid (HY11.out.below hb13)
  have HG13 := Lib.hid (HG11.out.below hb13)
  have HQ13 := Lib.hid (HQ11.out.below hb13)
  have HR13 := Lib.hid (HR11.out.below hb13)
  have HZ13 := Lib.hid ((BoxN.new hN12).below ((Below.refl _ _).alloc (Nat.le_refl _) (.cells #[.slice xu yu zu] 25)))
  have HU13 := Lib.hid (BoxN.new (hNu.below ((Below.refl _ w12).alloc (Nat.le_refl _) (.cells #[.slice x9 y9 z9] 25)) (Nat.le_refl _)))
  rw [World.size_alloc] at HU13
  have HB13 := Lib.hid (HB11.out.trans (hb13.mono HB11.out.size))
  obtain ⟨bz, hbz⟩ : ∃ bz, w12.heap.size = bz := ⟨_, rfl⟩
  obtain ⟨wz, hwz⟩ : ∃ wz, (w12.alloc (.cells #[.slice x9 y9 z9] 25)).alloc (.cells #[.slice xu yu zu] 25) = wz := ⟨_, rfl⟩
  rw [hwz] at HX13 HY13 HG13 HQ13 HR13 HZ13 HU13 HB13
  rw [hbz] at HZ13 HU13
  have HWz := Lib.hid hwz
  have Hbz := Lib.hid hbz
  clear hb12 hb13 hN12 hNu HX11 HY11 HG11 HQ11 HR11 HB11 HD2 hwz hbz q11 q11g
  obtain ⟨SG, hSG⟩ : ∃ SG, (⟨(Lib.decDigits (Nat.gcd A B)).toArray⟩ : ByteArray) = SG := ⟨_, rfl⟩
  have hC := dvCalls w wz (.agg #[.slice x2 y2 z2]) (.agg #[.slice x4 y4 z4]) (.agg #[.slice x6 y6 z6]) (.agg #[.slice x8 y8 z8]) (.agg #[.slice xr yr zr]) (.agg #[.slice x9 y9 z9]) (.agg #[.slice xu yu zu]) A B SG HA0.out HB0.out HA.out HB.out HTab.out HTb.out hSG
  rw [HGe.out] at hC
  obtain ⟨X, hX⟩ : ∃ X, A / G = X := ⟨_, rfl⟩
  obtain ⟨Y, hY⟩ : ∃ Y, B / G = Y := ⟨_, rfl⟩
  rw [hX] at HQ13 hC
  rw [hY] at HZ13 hC
  have HC := Lib.hid hC
  have hV0 : AtV w wz (.agg #[.slice x2 y2 z2]) (.agg #[.slice x4 y4 z4]) (.agg #[.slice x6 y6 z6]) (.agg #[.slice x8 y8 z8]) (.agg #[.slice xr yr zr]) (.agg #[.slice x9 y9 z9]) (.agg #[.slice xu yu zu]) A B G X Y wz.drew := ⟨HX13.out.num.drew, HY13.out.num.drew, HG13.out.num.drew, HQ13.out.num.drew, HR13.out.num.drew, HZ13.out.num.drew, HU13.out.num.drew, HB13.out.drew, (Below.refl _ _).drew⟩
  have q1 : wz.drew.cell? ⟨ba, 0, none⟩ = some (.slice x2 y2 z2) := HX13.out.cell
  have q2 : wz.drew.cell? ⟨bb, 0, none⟩ = some (.slice x4 y4 z4) := HY13.out.cell
  have q3 : wz.drew.cell? ⟨bg, 0, none⟩ = some (.slice x6 y6 z6) := HG13.out.cell
  have q4 : wz.drew.cell? ⟨bx, 0, none⟩ = some (.slice x8 y8 z8) := HQ13.out.cell
  have q5 : wz.drew.cell? ⟨bx + 1, 0, none⟩ = some (.slice xr yr zr) := HR13.out.cell
  have q6 : wz.drew.cell? ⟨bz, 0, none⟩ = some (.slice x9 y9 z9) := HZ13.out.cell
  have q7 : wz.drew.cell? ⟨bz + 1, 0, none⟩ = some (.slice xu yu zu) := HU13.out.cell
  have HS : Hid (∀ W, AtV w wz (.agg #[.slice x2 y2 z2]) (.agg #[.slice x4 y4 z4]) (.agg #[.slice x6 y6 z6]) (.agg #[.slice x8 y8 z8]) (.agg #[.slice xr yr zr]) (.agg #[.slice x9 y9 z9]) (.agg #[.slice xu yu zu]) A B G X Y W → W.cell? ⟨ba, 0, none⟩ = some (.slice x2 y2 z2) ∧ W.cell? ⟨bb, 0, none⟩ = some (.slice x4 y4 z4) ∧ W.cell? ⟨bg, 0, none⟩ = some (.slice x6 y6 z6) ∧ W.cell? ⟨bx, 0, none⟩ = some (.slice x8 y8 z8) ∧ W.cell? ⟨bx + 1, 0, none⟩ = some (.slice xr yr zr) ∧ W.cell? ⟨bz, 0, none⟩ = some (.slice x9 y9 z9) ∧ W.cell? ⟨bz + 1, 0, none⟩ = some (.slice xu yu zu)) := Lib.hid (fun W h => ⟨(HX13.out.below h.b9).cell, (HY13.out.below h.b9).cell, (HG13.out.below h.b9).cell, (HQ13.out.below h.b9).cell, (HR13.out.below h.b9).cell, (HZ13.out.below h.b9).cell, (HU13.out.below h.b9).cell⟩)
  clear hC hX hY hSG HGe HX13 HY13 HG13 HQ13 HR13 HZ13 HU13 HB13
  go_wp2_with fail
  rw [HWz.out, Hbz.out]
  refine wp_region_held_drew (S := (fun w' => w'.cell? ⟨ba, 0, none⟩ = some (.slice x2 y2 z2) ∧ w'.cell? ⟨bb, 0, none⟩ = some (.slice x4 y4 z4) ∧ w'.cell? ⟨bg, 0, none⟩ = some (.slice x6 y6 z6) ∧ w'.cell? ⟨bx, 0, none⟩ = some (.slice x8 y8 z8) ∧ w'.cell? ⟨bx + 1, 0, none⟩ = some (.slice xr yr zr) ∧ w'.cell? ⟨bz, 0, none⟩ = some (.slice x9 y9 z9) ∧ w'.cell? ⟨bz + 1, 0, none⟩ = some (.slice xu yu zu))) (by kernel_rfl) ?_ (fun hHeld => ?_)
  · exact ⟨q1, q2, q3, q4, q5, q6, q7⟩
  refine wpAnyH_take (i := 0) (oi := { dst := some 70, op := Op.move (Operand.tmp 12), type := 4, pos := "more.go:67", after := #[], guard := none }) (v := ?_) rfl (by kernel_rfl) (by kernel_rfl) (by kernel_rfl) (fun _ _ _ h => h) (Or.inl ⟨by rfl, ?_⟩) (by assumption) ?_
  rotate_left
  · intro w hSw; (try dsimp only at hSw); go_simp; (try with_reducible rfl)
  try simp only [Act.put, List.setIfInBounds_toArray, List.set_cons_zero, List.set_cons_succ]
  refine wpAnyH_take (i := 1) (oi := { dst := some 71, op := Op.move (Operand.tmp 70), type := 4, pos := "more.go:67", after := #[{ on := 0, ground := Ground.data }], guard := none }) (v := ?_) rfl (by kernel_rfl) (by kernel_rfl) (by kernel_rfl) (fun _ _ _ h => h) (Or.inl ⟨by rfl, ?_⟩) (by assumption) ?_
  rotate_left
  · intro w hSw; (try dsimp only at hSw); go_simp; (try with_reducible rfl)
  try simp only [Act.put, List.setIfInBounds_toArray, List.set_cons_zero, List.set_cons_succ]
  refine wpAnyH_take (i := 2) (oi := { dst := some 72, op := Op.move (Operand.tmp 15), type := 4, pos := "more.go:67", after := #[{ on := 1, ground := Ground.guard }], guard := some (1, true) }) (v := ?_) rfl (by kernel_rfl) (by kernel_rfl) (by kernel_rfl) (fun _ _ _ h => h) (Or.inl ⟨by rfl, ?_⟩) (by assumption) ?_
  rotate_left
  · intro w hSw; (try dsimp only at hSw); go_simp; (try with_reducible rfl)
  try simp only [Act.put, List.setIfInBounds_toArray, List.set_cons_zero, List.set_cons_succ]
  refine wpAnyH_take (i := 3) (oi := { dst := some 73, op := Op.pick (Operand.tmp 71) (Operand.tmp 72) (Operand.const (Value.bool false)), type := 4, pos := "more.go:67", after := #[{ on := 1, ground := Ground.data }, { on := 2, ground := Ground.data }], guard := none }) (v := ?_) rfl (by kernel_rfl) (by kernel_rfl) (by kernel_rfl) (fun _ _ _ h => h) (Or.inl ⟨by rfl, ?_⟩) (by assumption) ?_
  rotate_left
  · intro w hSw; (try dsimp only at hSw); go_simp; (try with_reducible rfl)
  try simp only [Act.put, List.setIfInBounds_toArray, List.set_cons_zero, List.set_cons_succ]
  refine wpAnyH_take (i := 4) (oi := { dst := some 74, op := Op.move (Operand.tmp 73), type := 4, pos := "more.go:67", after := #[{ on := 3, ground := Ground.data }, { on := 1, ground := Ground.chain }], guard := none }) (v := ?_) rfl (by kernel_rfl) (by kernel_rfl) (by kernel_rfl) (fun _ _ _ h => h) (Or.inl ⟨by rfl, ?_⟩) (by assumption) ?_
  rotate_left
  · intro w hSw; (try dsimp only at hSw); go_simp; (try with_reducible rfl)
  try simp only [Act.put, List.setIfInBounds_toArray, List.set_cons_zero, List.set_cons_succ]
  refine wpAnyH_take (i := 5) (oi := { dst := some 75, op := Op.load 25 (Operand.tmp 11), type := 25, pos := "more.go:67", after := #[{ on := 4, ground := Ground.guard }], guard := some (4, true) }) (v := ?_) rfl (by kernel_rfl) (by kernel_rfl) (by kernel_rfl) (fun _ _ _ h => h) (Or.inl ⟨by rfl, ?_⟩) (by assumption) ?_
  rotate_left
  · intro w hSw; (try dsimp only at hSw); go_simp; (try with_reducible rfl)
  try simp only [Act.put, List.setIfInBounds_toArray, List.set_cons_zero, List.set_cons_succ]
  refine wpAnyH_ready (rs := [6]) (by kernel_rfl) (by simp) ?_
  refine AllReadyH.cons (o := { dst := some 76, op := Op.call { callee := Callee.value (Operand.func 8), args := #[Operand.tmp 75], argTypes := #[25] }, type := 4, pos := "more.go:67", after := #[{ on := 5, ground := Ground.data }, { on := 4, ground := Ground.chain }, { on := 4, ground := Ground.guard }], guard := some (4, true) }) rfl (fun K hK => ?_) AllReadyH.nil
  go_simp
  go_at_call 8; refine (HC.out.zr _ hV0).mono ?_; rintro e wa6 ⟨rfl, hV6⟩
  refine hK.out _ _ ?_ (fun hHeld => ?_)
  · exact HS.out _ ‹_›
  clear hK K
  try simp only [Act.put, List.setIfInBounds_toArray, List.set_cons_zero, List.set_cons_succ]
  refine wpAnyH_take (i := 7) (oi := { dst := some 77, op := Op.pick (Operand.tmp 74) (Operand.tmp 76) (Operand.const (Value.bool false)), type := 4, pos := "more.go:67", after := #[{ on := 4, ground := Ground.data }, { on := 6, ground := Ground.data }], guard := none }) (v := ?_) rfl (by kernel_rfl) (by kernel_rfl) (by kernel_rfl) (fun _ _ _ h => h) (Or.inl ⟨by rfl, ?_⟩) (by assumption) ?_
  rotate_left
  · intro w hSw; (try dsimp only at hSw); go_simp; (try with_reducible rfl)
  try simp only [Act.put, List.setIfInBounds_toArray, List.set_cons_zero, List.set_cons_succ]
  refine wpAnyH_take (i := 8) (oi := { dst := some 78, op := Op.move (Operand.tmp 77), type := 4, pos := "more.go:67", after := #[{ on := 7, ground := Ground.data }, { on := 6, ground := Ground.chain }], guard := none }) (v := ?_) rfl (by kernel_rfl) (by kernel_rfl) (by kernel_rfl) (fun _ _ _ h => h) (Or.inl ⟨by rfl, ?_⟩) (by assumption) ?_
  rotate_left
  · intro w hSw; (try dsimp only at hSw); go_simp; (try with_reducible rfl)
  try simp only [Act.put, List.setIfInBounds_toArray, List.set_cons_zero, List.set_cons_succ]
  refine wpAnyH_take (i := 9) (oi := { dst := some 79, op := Op.load 25 (Operand.tmp 14), type := 25, pos := "more.go:67", after := #[{ on := 8, ground := Ground.guard }], guard := some (8, true) }) (v := ?_) rfl (by kernel_rfl) (by kernel_rfl) (by kernel_rfl) (fun _ _ _ h => h) (Or.inl ⟨by rfl, ?_⟩) (by assumption) ?_
  rotate_left
  · intro w hSw; (try dsimp only at hSw); go_simp; (try with_reducible rfl)
  try simp only [Act.put, List.setIfInBounds_toArray, List.set_cons_zero, List.set_cons_succ]
  refine wpAnyH_ready (rs := [10]) (by kernel_rfl) (by simp) ?_
  refine AllReadyH.cons (o := { dst := some 80, op := Op.call { callee := Callee.value (Operand.func 8), args := #[Operand.tmp 79], argTypes := #[25] }, type := 4, pos := "more.go:67", after := #[{ on := 9, ground := Ground.data }, { on := 8, ground := Ground.chain }, { on := 8, ground := Ground.guard }], guard := some (8, true) }) rfl (fun K hK => ?_) AllReadyH.nil
  go_simp
  go_at_call 8; refine (HC.out.zu _ hV6).mono ?_; rintro e wa10 ⟨rfl, hV10⟩
  refine hK.out _ _ ?_ (fun hHeld => ?_)
  · exact HS.out _ ‹_›
  clear hK K
  try simp only [Act.put, List.setIfInBounds_toArray, List.set_cons_zero, List.set_cons_succ]
  refine wpAnyH_take (i := 11) (oi := { dst := some 81, op := Op.pick (Operand.tmp 78) (Operand.tmp 80) (Operand.const (Value.bool false)), type := 4, pos := "more.go:67", after := #[{ on := 8, ground := Ground.data }, { on := 10, ground := Ground.data }], guard := none }) (v := ?_) rfl (by kernel_rfl) (by kernel_rfl) (by kernel_rfl) (fun _ _ _ h => h) (Or.inl ⟨by rfl, ?_⟩) (by assumption) ?_
  rotate_left
  · intro w hSw; (try dsimp only at hSw); go_simp; (try with_reducible rfl)
  try simp only [Act.put, List.setIfInBounds_toArray, List.set_cons_zero, List.set_cons_succ]
  refine wpAnyH_take (i := 12) (oi := { dst := some 82, op := Op.move (Operand.tmp 81), type := 4, pos := "more.go:67", after := #[{ on := 11, ground := Ground.data }, { on := 10, ground := Ground.chain }], guard := none }) (v := ?_) rfl (by kernel_rfl) (by kernel_rfl) (by kernel_rfl) (fun _ _ _ h => h) (Or.inl ⟨by rfl, ?_⟩) (by assumption) ?_
  rotate_left
  · intro w hSw; (try dsimp only at hSw); go_simp; (try with_reducible rfl)
  try simp only [Act.put, List.setIfInBounds_toArray, List.set_cons_zero, List.set_cons_succ]
  refine wpAnyH_take (i := 13) (oi := { dst := some 83, op := Op.load 25 (Operand.tmp 10), type := 25, pos := "more.go:67", after := #[{ on := 12, ground := Ground.guard }], guard := some (12, true) }) (v := ?_) rfl (by kernel_rfl) (by kernel_rfl) (by kernel_rfl) (fun _ _ _ h => h) (Or.inl ⟨by rfl, ?_⟩) (by assumption) ?_
  rotate_left
  · intro w hSw; (try dsimp only at hSw); go_simp; (try with_reducible rfl)
  try simp only [Act.put, List.setIfInBounds_toArray, List.set_cons_zero, List.set_cons_succ]
  refine wpAnyH_take (i := 14) (oi := { dst := some 84, op := Op.load 25 (Operand.tmp 13), type := 25, pos := "more.go:67", after := #[{ on := 12, ground := Ground.guard }], guard := some (12, true) }) (v := ?_) rfl (by kernel_rfl) (by kernel_rfl) (by kernel_rfl) (fun _ _ _ h => h) (Or.inl ⟨by rfl, ?_⟩) (by assumption) ?_
  rotate_left
  · intro w hSw; (try dsimp only at hSw); go_simp; (try with_reducible rfl)
  try simp only [Act.put, List.setIfInBounds_toArray, List.set_cons_zero, List.set_cons_succ]
  refine wpAnyH_ready (rs := [15]) (by kernel_rfl) (by simp) ?_
  refine AllReadyH.cons (o := { dst := some 85, op := Op.call { callee := Callee.value (Operand.func 19), args := #[Operand.tmp 83, Operand.tmp 84], argTypes := #[25, 25] }, type := 25, pos := "more.go:67", after := #[{ on := 13, ground := Ground.data }, { on := 14, ground := Ground.data }, { on := 12, ground := Ground.chain }, { on := 12, ground := Ground.guard }], guard := some (12, true) }) rfl (fun K hK => ?_) AllReadyH.nil
  go_simp
  go_at_call 19; refine (HC.out.gxy _ hV10).mono ?_; rintro e wa15 ⟨xa15, ya15, za15, rfl, hN15, hV15⟩
  refine hK.out _ _ ?_ (fun hHeld => ?_)
  · exact HS.out _ ‹_›
  clear hK K
  try simp only [Act.put, List.setIfInBounds_toArray, List.set_cons_zero, List.set_cons_succ]
  refine wpAnyH_ready (rs := [16]) (by kernel_rfl) (by simp) ?_
  refine AllReadyH.cons (o := { dst := some 86, op := Op.call { callee := Callee.value (Operand.func 9), args := #[Operand.tmp 85], argTypes := #[25] }, type := 9, pos := "more.go:67", after := #[{ on := 15, ground := Ground.data }, { on := 15, ground := Ground.chain }, { on := 12, ground := Ground.guard }], guard := some (12, true) }) rfl (fun K hK => ?_) AllReadyH.nil
  go_simp
  go_at_call 9; refine (HC.out.t1 _ _ hN15 hV15).mono ?_; rintro e wa16 ⟨rfl, hV16⟩
  refine hK.out _ _ ?_ (fun hHeld => ?_)
  · exact HS.out _ ‹_›
  clear hK K
  try simp only [Act.put, List.setIfInBounds_toArray, List.set_cons_zero, List.set_cons_succ]
  refine wpAnyH_take (i := 17) (oi := { dst := some 87, op := Op.binOp BinOp.eql 9 (Operand.tmp 86) (Operand.const (Value.string { data := #[49] })) 9, type := 4, pos := "more.go:67", after := #[{ on := 16, ground := Ground.data }, { on := 12, ground := Ground.guard }], guard := some (12, true) }) (v := ?_) rfl (by kernel_rfl) (by kernel_rfl) (by kernel_rfl) (fun _ _ _ h => h) (Or.inl ⟨by rfl, ?_⟩) (by assumption) ?_
  rotate_left
  · intro w hSw; (try dsimp only at hSw); go_simp; (try with_reducible rfl)
  try simp only [Act.put, List.setIfInBounds_toArray, List.set_cons_zero, List.set_cons_succ]
  refine wpAnyH_take (i := 18) (oi := { dst := some 88, op := Op.pick (Operand.tmp 82) (Operand.tmp 87) (Operand.const (Value.bool false)), type := 4, pos := "more.go:67", after := #[{ on := 12, ground := Ground.data }, { on := 17, ground := Ground.data }], guard := none }) (v := ?_) rfl (by kernel_rfl) (by kernel_rfl) (by kernel_rfl) (fun _ _ _ h => h) (Or.inl ⟨by rfl, ?_⟩) (by assumption) ?_
  rotate_left
  · intro w hSw; (try dsimp only at hSw); go_simp; (try with_reducible rfl)
  try simp only [Act.put, List.setIfInBounds_toArray, List.set_cons_zero, List.set_cons_succ]
  refine wpAnyH_take (i := 19) (oi := { dst := some 89, op := Op.move (Operand.tmp 88), type := 4, pos := "more.go:67", after := #[{ on := 18, ground := Ground.data }, { on := 16, ground := Ground.chain }], guard := none }) (v := ?_) rfl (by kernel_rfl) (by kernel_rfl) (by kernel_rfl) (fun _ _ _ h => h) (Or.inl ⟨by rfl, ?_⟩) (by assumption) ?_
  rotate_left
  · intro w hSw; (try dsimp only at hSw); go_simp; (try with_reducible rfl)
  try simp only [Act.put, List.setIfInBounds_toArray, List.set_cons_zero, List.set_cons_succ]
  refine wpAnyH_take (i := 20) (oi := { dst := some 90, op := Op.load 25 (Operand.tmp 7), type := 25, pos := "more.go:67", after := #[{ on := 19, ground := Ground.guard }], guard := some (19, true) }) (v := ?_) rfl (by kernel_rfl) (by kernel_rfl) (by kernel_rfl) (fun _ _ _ h => h) (Or.inl ⟨by rfl, ?_⟩) (by assumption) ?_
  rotate_left
  · intro w hSw; (try dsimp only at hSw); go_simp; (try with_reducible rfl)
  try simp only [Act.put, List.setIfInBounds_toArray, List.set_cons_zero, List.set_cons_succ]
  refine wpAnyH_take (i := 21) (oi := { dst := some 91, op := Op.load 25 (Operand.tmp 5), type := 25, pos := "more.go:67", after := #[{ on := 19, ground := Ground.guard }], guard := some (19, true) }) (v := ?_) rfl (by kernel_rfl) (by kernel_rfl) (by kernel_rfl) (fun _ _ _ h => h) (Or.inl ⟨by rfl, ?_⟩) (by assumption) ?_
  rotate_left
  · intro w hSw; (try dsimp only at hSw); go_simp; (try with_reducible rfl)
  try simp only [Act.put, List.setIfInBounds_toArray, List.set_cons_zero, List.set_cons_succ]
  refine wpAnyH_take (i := 24) (oi := { dst := some 94, op := Op.load 25 (Operand.tmp 9), type := 25, pos := "more.go:67", after := #[{ on := 19, ground := Ground.guard }], guard := some (19, true) }) (v := ?_) rfl (by kernel_rfl) (by kernel_rfl) (by kernel_rfl) (fun _ _ _ h => h) (Or.inl ⟨by rfl, ?_⟩) (by assumption) ?_
  rotate_left
  · intro w hSw; (try dsimp only at hSw); go_simp; (try with_reducible rfl)
  try simp only [Act.put, List.setIfInBounds_toArray, List.set_cons_zero, List.set_cons_succ]
  refine wpAnyH_ready (rs := [22]) (by kernel_rfl) (by simp) ?_
  refine AllReadyH.cons (o := { dst := some 92, op := Op.call { callee := Callee.value (Operand.func 19), args := #[Operand.tmp 90, Operand.tmp 91], argTypes := #[25, 25] }, type := 25, pos := "more.go:67", after := #[{ on := 20, ground := Ground.data }, { on := 21, ground := Ground.data }, { on := 19, ground := Ground.chain }, { on := 19, ground := Ground.guard }], guard := some (19, true) }) rfl (fun K hK => ?_) AllReadyH.nil
  go_simp
  go_at_call 19; refine (HC.out.gba _ hV16).mono ?_; rintro e wa22 ⟨xa22, ya22, za22, rfl, hN22, hV22⟩
  refine hK.out _ _ ?_ (fun hHeld => ?_)
  · exact HS.out _ ‹_›
  clear hK K
  try simp only [Act.put, List.setIfInBounds_toArray, List.set_cons_zero, List.set_cons_succ]
  refine wpAnyH_ready (rs := [23]) (by kernel_rfl) (by simp) ?_
  refine AllReadyH.cons (o := { dst := some 93, op := Op.call { callee := Callee.value (Operand.func 9), args := #[Operand.tmp 92], argTypes := #[25] }, type := 9, pos := "more.go:67", after := #[{ on := 22, ground := Ground.data }, { on := 22, ground := Ground.chain }, { on := 19, ground := Ground.guard }], guard := some (19, true) }) rfl (fun K hK => ?_) AllReadyH.nil
  go_simp
  go_at_call 9; refine (HC.out.tg _ _ hN22 hV22).mono ?_; rintro e wa23 ⟨rfl, hV23⟩
  refine hK.out _ _ ?_ (fun hHeld => ?_)
  · exact HS.out _ ‹_›
  clear hK K
  try simp only [Act.put, List.setIfInBounds_toArray, List.set_cons_zero, List.set_cons_succ]
  refine wpAnyH_ready (rs := [25]) (by kernel_rfl) (by simp) ?_
  refine AllReadyH.cons (o := { dst := some 95, op := Op.call { callee := Callee.value (Operand.func 9), args := #[Operand.tmp 94], argTypes := #[25] }, type := 9, pos := "more.go:67", after := #[{ on := 24, ground := Ground.data }, { on := 23, ground := Ground.chain }, { on := 19, ground := Ground.guard }], guard := some (19, true) }) rfl (fun K hK => ?_) AllReadyH.nil
  go_simp
  go_at_call 9; refine (HC.out.tg _ _ hV23.ng hV23).mono ?_; rintro e wa25 ⟨rfl, hV25⟩
  refine hK.out _ _ ?_ (fun hHeld => ?_)
  · exact HS.out _ ‹_›
  clear hK K
  try simp only [Act.put, List.setIfInBounds_toArray, List.set_cons_zero, List.set_cons_succ]
  refine wpAnyH_take (i := 26) (oi := { dst := some 96, op := Op.binOp BinOp.eql 9 (Operand.tmp 93) (Operand.tmp 95) 9, type := 4, pos := "more.go:67", after := #[{ on := 23, ground := Ground.data }, { on := 25, ground := Ground.data }, { on := 19, ground := Ground.guard }], guard := some (19, true) }) (v := ?_) rfl (by kernel_rfl) (by kernel_rfl) (by kernel_rfl) (fun _ _ _ h => h) (Or.inl ⟨by rfl, ?_⟩) (by assumption) ?_
  rotate_left
  · intro w hSw; (try dsimp only at hSw); go_simp; (try with_reducible rfl)
  try simp only [Act.put, List.setIfInBounds_toArray, List.set_cons_zero, List.set_cons_succ]
  refine wpAnyH_take (i := 27) (oi := { dst := some 97, op := Op.pick (Operand.tmp 89) (Operand.tmp 96) (Operand.const (Value.bool false)), type := 4, pos := "more.go:67", after := #[{ on := 19, ground := Ground.data }, { on := 26, ground := Ground.data }], guard := none }) (v := ?_) rfl (by kernel_rfl) (by kernel_rfl) (by kernel_rfl) (fun _ _ _ h => h) (Or.inl ⟨by rfl, ?_⟩) (by assumption) ?_
  rotate_left
  · intro w hSw; (try dsimp only at hSw); go_simp; (try with_reducible rfl)
  try simp only [Act.put, List.setIfInBounds_toArray, List.set_cons_zero, List.set_cons_succ]
  refine wpAnyH_take (i := 28) (oi := { dst := some 4, op := Op.assign (Operand.tmp 97), type := 4, pos := "more.go:67", after := #[{ on := 27, ground := Ground.data }, { on := 25, ground := Ground.chain }, { on := 0, ground := Ground.phase }, { on := 1, ground := Ground.phase }, { on := 2, ground := Ground.phase }, { on := 3, ground := Ground.phase }, { on := 4, ground := Ground.phase }, { on := 5, ground := Ground.phase }, { on := 6, ground := Ground.phase }, { on := 7, ground := Ground.phase }, { on := 8, ground := Ground.phase }, { on := 9, ground := Ground.phase }, { on := 10, ground := Ground.phase }, { on := 11, ground := Ground.phase }, { on := 12, ground := Ground.phase }, { on := 13, ground := Ground.phase }, { on := 14, ground := Ground.phase }, { on := 15, ground := Ground.phase }, { on := 16, ground := Ground.phase }, { on := 17, ground := Ground.phase }, { on := 18, ground := Ground.phase }, { on := 19, ground := Ground.phase }, { on := 20, ground := Ground.phase }, { on := 21, ground := Ground.phase }, { on := 22, ground := Ground.phase }, { on := 23, ground := Ground.phase }, { on := 24, ground := Ground.phase }, { on := 25, ground := Ground.phase }, { on := 26, ground := Ground.phase }, { on := 27, ground := Ground.phase }], guard := none }) (v := ?_) rfl (by kernel_rfl) (by kernel_rfl) (by kernel_rfl) (fun _ _ _ h => h) (Or.inl ⟨by rfl, ?_⟩) (by assumption) ?_
  rotate_left
  · intro w hSw; (try dsimp only at hSw); go_simp; (try with_reducible rfl)
  try simp only [Act.put, List.setIfInBounds_toArray, List.set_cons_zero, List.set_cons_succ]
  refine wpAnyH_done (by kernel_rfl) ?_ _
  have HV := Lib.hid hV25
  go_wp2_with fail
  go_ret
  exact ⟨rfl, HV.out.b0⟩
set_option maxRecDepth 100000 in
set_option maxHeartbeats 4000000 in
theorem natDivisors.walk (s t : ByteArray) (hs : s.size ≤ maxLen) (ht : t.size ≤ maxLen) (w : World) (htab : Tab w) (htb : TabB w) :
    Calls Tryd.prog 5 #[.string s, .string t] w fun e w' => e = .returned (.bool true) ∧ Below w.heap.size w w' := by
  have HAl := Lib.hid (alive_any w htab)
  by_cases c1 : (120 : Int) < (s.size : Int)
  · go_enter Tryd.func5, Tryd.ntmps5
    go_wp2_with fail
    refine HAl.out.mono ?_
    rintro e w1 ⟨rfl, hb1⟩
    go_wp2_with fail
    go_ret
    exact ⟨rfl, hb1⟩
  by_cases c2 : (120 : Int) < (t.size : Int)
  · go_enter Tryd.func5, Tryd.ntmps5
    go_wp2_with fail
    refine HAl.out.mono ?_
    rintro e w1 ⟨rfl, hb1⟩
    go_wp2_with fail
    go_ret
    exact ⟨rfl, hb1⟩
  have hs1 : s.size ≤ 120 := by omega
  have ht1 : t.size ≤ 120 := by omega
  by_cases hwf : WF s
  · by_cases hwt : WF t
    · by_cases hA0 : dv s.data.toList = 0
      · have HA0 := Lib.hid hA0
        clear hA0
        go_enter Tryd.func5, Tryd.ntmps5
        go_wp2_with fail
        refine HAl.out.mono ?_
        rintro e w1 ⟨rfl, hb1⟩
        have HB1 := Lib.hid hb1
        clear hb1 HAl
        go_wp2_with fail
        refine (parse_ok s w1 hwf (by omega)).mono ?_
        rintro e w2 ⟨x2, y2, z2, rfl, hN2, hb2⟩
        have HX3 := Lib.hid (BoxN.new hN2)
        have HB3 := Lib.hid (below_box (.slice x2 y2 z2) HB1.out hb2)
        obtain ⟨ba, hba⟩ : ∃ ba, w2.heap.size = ba := ⟨_, rfl⟩
        obtain ⟨W3, hW3⟩ : ∃ W3, w2.alloc (.cells #[.slice x2 y2 z2] 25) = W3 := ⟨_, rfl⟩
        rw [hW3] at HX3 HB3
        rw [hba] at HX3
        have HW3 := Lib.hid hW3
        have Hba := Lib.hid hba
        clear hb2 hN2 HB1 hW3 hba
        go_wp2_with fail
        rw [HW3.out, Hba.out]
        refine (parse_ok t W3 hwt (by omega)).mono ?_
        rintro e w4 ⟨x4, y4, z4, rfl, hN4, hb4⟩
        have hb45 := below_box (.slice x4 y4 z4) (Below.refl W3.heap.size W3) hb4
        have HX5 := Lib.hid (HX3.out.below hb45)
        have HY5 := Lib.hid (BoxN.new hN4)
        have HB5 := Lib.hid (HB3.out.trans (hb45.mono HB3.out.size))
        have q5 := HX5.out.cell
        obtain ⟨bb, hbb⟩ : ∃ bb, w4.heap.size = bb := ⟨_, rfl⟩
        obtain ⟨W5, hW5⟩ : ∃ W5, w4.alloc (.cells #[.slice x4 y4 z4] 25) = W5 := ⟨_, rfl⟩
        rw [hW5] at HX5 HY5 HB5
        rw [hbb] at HY5
        have HW5 := Lib.hid hW5
        have Hbb := Lib.hid hbb
        have HZ1 := Lib.hid (zero_yes (v := .agg #[.slice x2 y2 z2]) (w := W5) (by have := HX5.out.num; rwa [HA0.out] at this))
        clear hb4 hb45 hN4 HX3 HB3 hW5 hbb
        go_wp2_with fail
        rw [HW5.out]
        refine HZ1.out.mono ?_
        rintro e w6 ⟨rfl, hb6⟩
        have HB6 := Lib.hid (HB5.out.trans (hb6.mono HB5.out.size))
        clear hb6 HZ1 HB5
        go_wp2_with fail
        go_ret
        exact ⟨rfl, HB6.out⟩
      · by_cases hB0 : dv t.data.toList = 0
        · have HA0 := Lib.hid hA0
          have HB0 := Lib.hid hB0
          clear hA0 hB0
          go_enter Tryd.func5, Tryd.ntmps5
          go_wp2_with fail
          refine HAl.out.mono ?_
          rintro e w1 ⟨rfl, hb1⟩
          have HB1 := Lib.hid hb1
          clear hb1 HAl
          go_wp2_with fail
          refine (parse_ok s w1 hwf (by omega)).mono ?_
          rintro e w2 ⟨x2, y2, z2, rfl, hN2, hb2⟩
          have HX3 := Lib.hid (BoxN.new hN2)
          have HB3 := Lib.hid (below_box (.slice x2 y2 z2) HB1.out hb2)
          obtain ⟨ba, hba⟩ : ∃ ba, w2.heap.size = ba := ⟨_, rfl⟩
          obtain ⟨W3, hW3⟩ : ∃ W3, w2.alloc (.cells #[.slice x2 y2 z2] 25) = W3 := ⟨_, rfl⟩
          rw [hW3] at HX3 HB3
          rw [hba] at HX3
          have HW3 := Lib.hid hW3
          have Hba := Lib.hid hba
          clear hb2 hN2 HB1 hW3 hba
          go_wp2_with fail
          rw [HW3.out, Hba.out]
          refine (parse_ok t W3 hwt (by omega)).mono ?_
          rintro e w4 ⟨x4, y4, z4, rfl, hN4, hb4⟩
          have hb45 := below_box (.slice x4 y4 z4) (Below.refl W3.heap.size W3) hb4
          have HX5 := Lib.hid (HX3.out.below hb45)
          have HY5 := Lib.hid (BoxN.new hN4)
          have HB5 := Lib.hid (HB3.out.trans (hb45.mono HB3.out.size))
          have q5 := HX5.out.cell
          obtain ⟨bb, hbb⟩ : ∃ bb, w4.heap.size = bb := ⟨_, rfl⟩
          obtain ⟨W5, hW5⟩ : ∃ W5, w4.alloc (.cells #[.slice x4 y4 z4] 25) = W5 := ⟨_, rfl⟩
          rw [hW5] at HX5 HY5 HB5
          rw [hbb] at HY5
          have HW5 := Lib.hid hW5
          have Hbb := Lib.hid hbb
          have HZ1 := Lib.hid (zero_no HX5.out.num HA0.out)
          clear hb4 hb45 hN4 HX3 HB3 hW5 hbb
          go_wp2_with fail
          rw [HW5.out, Hbb.out]
          refine HZ1.out.mono ?_
          rintro e w6 ⟨rfl, hb6⟩
          have HY6 := Lib.hid (HY5.out.below hb6)
          have HB6 := Lib.hid (HB5.out.trans (hb6.mono HB5.out.size))
          have q6 := HY6.out.cell
          have HZ2 := Lib.hid (zero_yes (v := .agg #[.slice x4 y4 z4]) (w := w6) (by have := HY6.out.num; rwa [HB0.out] at this))
          clear hb6 HX5 HY5 HB5 HZ1 q5
          go_wp2_with fail
          refine HZ2.out.mono ?_
          rintro e w7 ⟨rfl, hb7⟩
          have HB7 := Lib.hid (HB6.out.trans (hb7.mono HB6.out.size))
          clear hb7 HZ2 HB6
          go_wp2_with fail
          go_ret
          exact ⟨rfl, HB7.out⟩
        · exact natDivisors.good s t hwf hwt hs1 ht1 hA0 hB0 w htab htb
    · go_enter Tryd.func5, Tryd.ntmps5
      go_wp2_with fail
      refine HAl.out.mono ?_
      rintro e w1 ⟨rfl, hb1⟩
      have HB1 := Lib.hid hb1
      clear hb1 HAl
      go_wp2_with fail
      refine (parse_ok s w1 hwf (by omega)).mono ?_
      rintro e w2 ⟨x2, y2, z2, rfl, hN2, hb2⟩
      have HB3 := Lib.hid (below_box (.slice x2 y2 z2) HB1.out hb2)
      clear hb2 HB1 hN2
      go_wp2_with fail
      refine (parse_bad t _ ht hwt).mono ?_
      rintro e w4 ⟨rfl, hb4⟩
      have HB5 := Lib.hid (below_box (.slice none 0 0) HB3.out hb4)
      clear hb4 HB3
      go_wp2_with fail
      go_ret
      exact ⟨rfl, HB5.out⟩
  · go_enter Tryd.func5, Tryd.ntmps5
    go_wp2_with fail
    refine HAl.out.mono ?_
    rintro e w1 ⟨rfl, hb1⟩
    have HB1 := Lib.hid hb1
    clear hb1 HAl
    go_wp2_with fail
    refine (parse_bad s w1 hs hwf).mono ?_
    rintro e w2 ⟨rfl, hb2⟩
    have HB3 := Lib.hid (below_box (.slice none 0 0) HB1.out hb2)
    clear hb2 HB1
    go_wp2_with fail
    refine (parse_some t _ ht).mono ?_
    rintro e w4 ⟨x, y, z, c, rfl, hb4⟩
    have HB5 := Lib.hid (below_box (.slice x y z) HB3.out hb4)
    clear hb4 HB3
    go_wp2_with fail
    go_ret
    exact ⟨rfl, HB5.out⟩
end Go.Proofs.YtckllmlkhlaboaaDoor
