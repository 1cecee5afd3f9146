/-
 Law 3: powers of ten, places, whether a fraction is too long.
-/
import Derived.Test.YtggmnmmjmihnfaaGreatDoorDTk
import Derived.Test.YtggmnmmjmihnfaaGreatDoorDPow
namespace Go.Proofs.YtggmnmmjmihnfaaGreatDoor
open Go.RowKit
set_option linter.unusedVariables false
theorem isLen_le2 {N L m : Nat} (h : IsLen N L) (hN : N < 2 ^ m) : L ≤ m := by
 rcases Nat.lt_or_ge m L with hlt | hge
 · exfalso
   have h1 := h.le (by omega)
   have h2 : 2 ^ m ≤ 2 ^ (L - 1) := Nat.pow_le_pow_right (by omega) (by omega)
   omega
 · exact hge
theorem isLen_w {N L k : Nat} (h : IsLen N L) (hN : N < 18446744073709551616 ^ k) : L ≤ 64 * k := isLen_le2 h (by rw [Nat.pow_mul]; exact hN)
set_option maxRecDepth 100000 in
set_option maxHeartbeats 8000000 in
theorem long_any (N : Nat) (va : Value) (w : World) (ha : IsN w va N) (hN : N < 18446744073709551616 ^ 50) : Calls Tryz.prog 77 #[va] w fun e w' => e = .returned (.bool false) ∧ Below w.heap.size w w' := by
 have HB : Hid (∀ W v, IsN W v N → Calls Tryz.prog 91 #[v] W fun e w' => ∃ L : Nat, e = .returned (.int .i64 (L : Int)) ∧ L ≤ 3200 ∧ Below W.heap.size W w') := Lib.hid (fun W v h => (bits_any N v W h).mono fun e w' h' => by
  obtain ⟨L, h3, h4, _, h5⟩ := h'
  exact ⟨L, h3, by have := isLen_w h4 hN; omega, h5⟩)
 obtain ⟨a, n, c, rfl⟩ := isN_form ha
 have V := ((Mq.refl w).cons ha (Nat.lt_of_lt_of_le hN (w64_mono (by omega)))).alloc 25 #[.slice a n c]
 have q0 := V.n0 0 rfl
 clear ha hN
 go_enter Tryz.func77, Tryz.ntmps77
 go_wp2_with fail
 refine (HB.out _ _ (V.num 0 _ _ rfl).1).mono ?_
 rintro e w2 ⟨L, rfl, hL, hb⟩
 have HBel := Lib.hid (V.below hb).bel
 clear V hb q0
 go_wp2_with fail
 go_ret
 exact ⟨rfl, HBel.out⟩
set_option maxRecDepth 100000 in
set_option maxHeartbeats 8000000 in
theorem big_any (x : Rat) (va : Value) (w : World) (ha : IsR w va x) (hx : Sz 50 x) : Calls Tryz.prog 42 #[va] w fun e w' => e = .returned (.bool false) ∧ Below w.heap.size w w' := by
 have HL1 : Hid (∀ W v, IsN W v x.num.natAbs → Calls Tryz.prog 77 #[v] W fun e w' => e = .returned (.bool false) ∧ Below W.heap.size W w') := Lib.hid (fun W v h => long_any _ v W h hx.1)
 have HL2 : Hid (∀ W v, IsN W v (dn x) → Calls Tryz.prog 77 #[v] W fun e w' => e = .returned (.bool false) ∧ Below W.heap.size W w') := Lib.hid (fun W v h => long_any _ v W h hx.dn)
 obtain ⟨p, n, c, p', n', c', rfl, h1, h2⟩ := ha
 obtain ⟨zs, hz⟩ : ∃ z, decide (x.num < 0) = z := ⟨_, rfl⟩
 rw [hz]
 have V := (((Mq.refl w).cons h2 (hx.mono (by omega) (k := 100)).dn).cons h1 (hx.mono (by omega) (k := 100)).1).alloc 27 #[.bool zs, .slice p n c, .slice p' n' c']
 have x1 := V.c1 0 rfl; have x2 := V.c2 0 rfl
 clear h1 h2 hx hz
 go_enter Tryz.func42, Tryz.ntmps42
 go_wp2_with fail
 refine (HL1.out _ _ (V.num 0 _ _ rfl).1).mono ?_
 rintro e w2 ⟨rfl, hb⟩
 have V2 := V.below hb
 have x1 := V2.c1 0 rfl; have x2 := V2.c2 0 rfl
 clear V hb
 go_wp2_with fail
 refine (HL2.out _ _ (V2.num 1 _ _ rfl).1).mono ?_
 rintro e w3 ⟨rfl, hb⟩
 have HBel := Lib.hid (V2.below hb).bel
 clear V2 hb x1 x2
 go_wp2_with fail
 go_ret
 exact ⟨rfl, HBel.out⟩
theorem dw_mul {j k M N : Nat} (h1 : M < 18446744073709551616 ^ j) (h2 : N < 18446744073709551616 ^ k) : M * N < 18446744073709551616 ^ (j + k) := by
 rw [Nat.pow_add]
 exact Nat.mul_lt_mul'' h1 h2
theorem dw_up {j k N : Nat} (h : N < 18446744073709551616 ^ j) (hk : j ≤ k) : N < 18446744073709551616 ^ k := Nat.lt_of_lt_of_le h (w64_mono hk)
theorem ten_w {n k : Nat} (h : n ≤ 19 * k) : 10 ^ n ≤ 18446744073709551616 ^ k := by
 refine Nat.le_trans (Nat.pow_le_pow_right (by decide) h) ?_
 rw [Nat.pow_mul]
 exact Nat.pow_le_pow_left (by decide) k
theorem ten_lt {n k : Nat} (h : n < 19 * k) : 10 ^ n < 18446744073709551616 ^ k := Nat.lt_of_lt_of_le (Nat.pow_lt_pow_right (by decide) h) (ten_w (Nat.le_refl _))
/-- Of, as a slice. -/
theorem ofV (u : Nat) (hu : u < 18446744073709551616) (W : World) : Calls Tryz.prog 17 #[.int .u64 (u : Int)] W (GaveV u W) := (of_any u hu W).mono fun e w' h' => by
 obtain ⟨v, h1, h2, h3⟩ := h'
 obtain ⟨x, y, z, rfl⟩ := isN_form h2
 exact ⟨x, y, z, h1, h2, h3⟩
set_option maxRecDepth 100000 in
set_option maxHeartbeats 2000000 in
theorem tento_any (e : Nat) (E : Int) (w : World) (he : e ≤ 1300) (hE : E = (e : Int)) : Calls Tryz.prog 23 #[.int .i64 E] w (GaveV (10 ^ e) w) := by
 have V0 := (Mq.refl w).alloc 25 #[.slice none 0 0]
 have HOf : Hid (∀ W, Calls Tryz.prog 17 #[.int .u64 10] W (GaveV 10 W)) := Lib.hid (fun W => ofV 10 (by decide) W)
 have HP : Hid (∀ W v, IsN W v 10 → Calls Tryz.prog 61 #[v, .int .i64 E] W (PowIs (10 ^ e) W)) := Lib.hid (fun W v h => pow_big 10 e v W E h (by decide) (by decide) he hE)
 have HS : Hid (10 ^ e < 18446744073709551616 ^ 100) := Lib.hid (ten_lt (by omega))
 clear he hE
 go_enter Tryz.func23, Tryz.ntmps23
 go_wp2_with fail
 refine (HOf.out _).mono ?_
 rintro ε w1 ⟨x1, y1, z1, rfl, i1, hb⟩
 have V1 := V0.below hb
 clear V0 hb
 go_wp2_with fail
 refine (HP.out _ _ i1).mono ?_
 rintro ε w2 ⟨x2, y2, z2, rfl, i2, hb⟩
 have V2 := ((V1.below hb).cons i2 HS.out).alloc 25 #[.slice x2 y2 z2]
 have q := V2.n0 0 rfl
 have r := V2.n0 1 rfl; have fr := V2.frozen 1 0 rfl
 have HF := Lib.hid (V2.fin1 1 0 rfl rfl)
 clear V1 V2 hb i1 i2
 go_wp2_with fail
 exact bodyPost_ret (res_nat rfl _ _ _ _ rfl HF.out.1) rfl HF.out.2
/-- What Places tells. -/
def PlIs (d : Nat) (w : World) (e : Ending) (w' : World) : Prop := e = .returned (.tuple #[.int .i64 ((if rst d = 1 then plc d else 0 : Nat) : Int), .bool (decide (rst d = 1))]) ∧ Below w.heap.size w w'
set_option maxRecDepth 100000 in
set_option maxHeartbeats 4000000 in
theorem places_any (x : Rat) (va : Value) (w : World) (ha : IsR w va x) (hx : x.den < 18446744073709551616 ^ 100) : Calls Tryz.prog 12 #[va] w (PlIs x.den w) := by
 have HDen : Hid (∀ W v, IsR W v x → Calls Tryz.prog 40 #[v] W (GaveV x.den W)) := Lib.hid (fun W v h => den_any x v W h hx)
 have hR := ha
 obtain ⟨p, n, c, p', n', c', rfl, h1, h2⟩ := ha
 obtain ⟨zs, hz⟩ : ∃ z, decide (x.num < 0) = z := ⟨_, rfl⟩
 rw [hz] at hR ⊢
 have hd0 := x.den_nz
 have V0 := ((Mq.refl w).rcons hR).alloc 27 #[.bool zs, .slice p n c, .slice p' n' c']
 have b0 := V0.c0 0 rfl; have b1 := V0.c1 0 rfl; have b2 := V0.c2 0 rfl
 obtain ⟨D, hD⟩ : ∃ D, x.den = D := ⟨_, rfl⟩
 rw [hD] at HDen hx hd0 ⊢
 have hm0 := tk_ne (p := 2) (by decide) hd0
 have hm := Nat.lt_of_le_of_lt (tk_le (p := 2) (by decide) hd0) hx
 have hr := Nat.lt_of_le_of_lt (tk_le (p := 5) (by decide) hm0) hm
 have HT2 : Hid (∀ W v, IsN W v D → Calls Tryz.prog 39 #[v, .int .u64 2] W (TkIs 2 D W)) := Lib.hid (fun W v h => takeout_any 2 D v W h hx hd0 (by decide) (by decide))
 have HT5 : Hid (∀ W v, IsN W v (tk 2 D).1 → Calls Tryz.prog 39 #[v, .int .u64 5] W (TkIs 5 (tk 2 D).1 W)) := Lib.hid (fun W v h => takeout_any 5 _ v W h hm hm0 (by decide) (by decide))
 have HM := Lib.hid hm; have HRs := Lib.hid hr
 have hv2 := two_6400 (tk_pow_le (p := 2) (by decide) hd0) hx
 have hv5 : (tk 5 (tk 2 D).1).2 ≤ 6400 := two_6400 (Nat.le_trans (Nat.pow_le_pow_left (by decide) _) (tk_pow_le (p := 5) (by decide) hm0)) hm
 have hfin : Hid (∀ w', Below w.heap.size w w' → PlIs D w (.returned (.tuple #[.int .i64 ((if (tk 5 (tk 2 D).1).1 = 1 then max (tk 2 D).2 (tk 5 (tk 2 D).1).2 else 0 : Nat) : Int), .bool (decide ((tk 5 (tk 2 D).1).1 = 1))])) w') := Lib.hid (fun w' hb => ⟨rfl, hb⟩)
 unfold TkIs at HT2 HT5
 obtain ⟨M, hM⟩ : ∃ M, (tk 2 D).1 = M := ⟨_, rfl⟩
 obtain ⟨A, hA⟩ : ∃ A, (tk 2 D).2 = A := ⟨_, rfl⟩
 simp only [hM] at HT2 HT5 HM HRs hfin hv5
 simp only [hA] at HT2 hfin hv2
 obtain ⟨R, hRr⟩ : ∃ R, (tk 5 M).1 = R := ⟨_, rfl⟩
 obtain ⟨B, hB⟩ : ∃ B, (tk 5 M).2 = B := ⟨_, rfl⟩
 simp only [hRr] at HT5 HRs hfin
 simp only [hB] at HT5 hfin hv5
 have hmx : max (A : Int) (B : Int) = ((max A B : Nat) : Int) := by omega
 obtain ⟨P, hP⟩ : ∃ P, max A B = P := ⟨_, rfl⟩
 rw [hP] at hmx hfin
 have hSm : Hid (∀ W v, IsN W v R → Calls Tryz.prog 41 #[v] W (SmallIs R W)) := Lib.hid (fun W v h => small_any R v W h)
 clear h1 h2 hR hz hD hx hd0 hm0 hm hr hM hA hRr hB hP
 go_enter Tryz.func12, Tryz.ntmps12
 go_wp2_with fail
 refine (HDen.out _ _ (V0.rat 0 _ _ rfl)).mono ?_
 rintro e w1 ⟨x1, y1, z1, rfl, i1, hb⟩
 have V1 := V0.below hb
 clear V0 hb b0 b1 b2
 go_wp2_with fail
 refine (HT2.out _ _ i1).mono ?_
 rintro e w2 ⟨x2, y2, z2, rfl, i2, hb⟩
 have hs2 := ((V1.below hb).box 0 _ _ _ rfl).1.lt
 have V2 := ((V1.below hb).cons i2 HM.out).alloc 25 #[.slice x2 y2 z2]
 have q := V2.n0 0 rfl
 clear V1 hb i1 i2
 go_wp2_with fail
 refine (HT5.out _ _ (V2.num 0 _ _ rfl).1).mono ?_
 rintro e w3 ⟨x3, y3, z3, rfl, i3, hb⟩
 have V3 := (V2.below hb).cons i3 HRs.out
 have q := V3.n0 0 rfl; have fq := V3.frozen 0 0 rfl
 have V4 := V3.put 0 0 rfl (plain_nat _ _ _) (fun k' b' t' cs' e hne => by
  match k' with
  | 0 => exact absurd rfl hne
  | 1 => simp at e; omega
  | k + 2 => simp at e) (.slice x3 y3 z3)
 have q4 := V4.n0 0 rfl
 clear V2 V3 hb i3
 go_wp2_with fail
 refine (hSm.out _ _ (V4.num 0 _ _ rfl).1).mono ?_
 rintro e w5 ⟨⟨hlt, rfl⟩ | ⟨hge, rfl⟩, hb⟩
 · have HB := Lib.hid (V4.bel.trans (hb.mono V4.bel.size))
   by_cases h1 : R = 1
   · subst h1
     clear V4 hb hlt q4
     go_wp2_with fail
     go_ret2
     exact hfin.out _ HB.out
   · have hn : ((R : Int) != 1) = true := by simp; omega
     rw [if_neg h1, decide_eq_false h1] at hfin
     have hni : ¬ (R : Int) = 1 := by omega
     clear V4 hb hlt q4
     go_wp2_with fail
     go_ret2
     exact hfin.out _ HB.out
 · have HB := Lib.hid (V4.bel.trans (hb.mono V4.bel.size))
   have h1 : R ≠ 1 := by omega
   rw [if_neg h1, decide_eq_false h1] at hfin
   clear V4 hb hge q4
   go_wp2_with fail
   go_ret2
   exact hfin.out _ HB.out
set_option maxRecDepth 100000 in
set_option maxHeartbeats 2000000 in
theorem finite_any (x : Rat) (va : Value) (w : World) (ha : IsR w va x) (hx : x.den < 18446744073709551616 ^ 100) : Calls Tryz.prog 15 #[va] w fun e w' => e = .returned (.bool (decide (rst x.den = 1))) ∧ Below w.heap.size w w' := by
 have HP : Hid (∀ W v, IsR W v x → Calls Tryz.prog 12 #[v] W (PlIs x.den W)) := Lib.hid (fun W v h => places_any x v W h hx)
 have hR := ha
 obtain ⟨p, n, c, p', n', c', rfl, h1, h2⟩ := ha
 obtain ⟨zs, hz⟩ : ∃ z, decide (x.num < 0) = z := ⟨_, rfl⟩
 rw [hz] at hR ⊢
 have V0 := ((Mq.refl w).rcons hR).alloc 27 #[.bool zs, .slice p n c, .slice p' n' c']
 have b0 := V0.c0 0 rfl; have b1 := V0.c1 0 rfl; have b2 := V0.c2 0 rfl
 obtain ⟨y, hy⟩ : ∃ y, decide (rst x.den = 1) = y := ⟨_, rfl⟩
 unfold PlIs at HP
 rw [hy] at HP ⊢
 obtain ⟨Q, hQ⟩ : ∃ Q : Nat, (if rst x.den = 1 then plc x.den else 0) = Q := ⟨_, rfl⟩
 rw [hQ] at HP
 clear h1 h2 hR hz hy hQ hx
 go_enter Tryz.func15, Tryz.ntmps15
 go_wp2_with fail
 refine (HP.out _ _ (V0.rat 0 _ _ rfl)).mono ?_
 rintro e w1 ⟨rfl, hb⟩
 have HB := Lib.hid (V0.below hb).bel
 clear V0 hb b0 b1 b2
 go_wp2_with fail
 go_ret
 exact ⟨rfl, HB.out⟩
end Go.Proofs.YtggmnmmjmihnfaaGreatDoor
