/-
  Law 1: the greatest common divisor.
-/
import Derived.Test.YtckllmlkhlaboaaDoorNShUp
import Derived.Test.YtckllmlkhlaboaaDoorNatShiftsWalk
namespace Go.Proofs.YtckllmlkhlaboaaDoor
open Go.RowKit
set_option linter.unusedVariables false
theorem isTwos_div {N T : Nat} (h : IsTwos N T) : N = 2 ^ T * (N / 2 ^ T) ∧ N / 2 ^ T % 2 = 1 := by
  obtain ⟨m, rfl⟩ := h
  have h0 : 0 < 2 ^ T := Nat.pow_pos (by decide)
  rw [Nat.mul_div_cancel_left _ h0]
  exact ⟨rfl, by omega⟩
theorem isTwos_lt {N T k : Nat} (h : IsTwos N T) (hN : N < 18446744073709551616 ^ k) : T ≤ 64 * k := by
  obtain ⟨m, rfl⟩ := h
  rcases Nat.lt_or_ge (64 * k) T with h1 | h1
  · exfalso
    have e1 : (18446744073709551616 : Nat) = 2 ^ 64 := by decide
    rw [e1, ← Nat.pow_mul] at hN
    have h2 : 2 ^ (64 * k) ≤ 2 ^ T := Nat.pow_le_pow_right (by decide) (by omega)
    have h3 : 2 ^ T ≤ 2 ^ T * (2 * m + 1) := Nat.le_mul_of_pos_right _ (by omega)
    omega
  · exact h1
theorem cop_two {m : Nat} (h : m % 2 = 1) (k : Nat) : Nat.Coprime (2 ^ k) m := by
  refine Nat.Coprime.pow_left k ?_
  show Nat.gcd 2 m = 1
  rw [Nat.gcd_rec, h]
  rfl
theorem gcd_twos_le {m n T k : Nat} (hm : m % 2 = 1) : Nat.gcd (2 ^ T * m) (2 ^ (T + k) * n) = Nat.gcd m n * 2 ^ T := by
  rw [Nat.pow_add, Nat.mul_assoc, Nat.gcd_mul_left, Nat.Coprime.gcd_mul_left_cancel_right _ (cop_two hm k), Nat.mul_comm]
theorem gcd_twos {M N S T : Nat} (hM : IsTwos M S) (hN : IsTwos N T) : Nat.gcd (M / 2 ^ S) (N / 2 ^ T) * 2 ^ (min S T) = Nat.gcd M N := by
  obtain ⟨h1, h2⟩ := isTwos_div hM
  obtain ⟨h3, h4⟩ := isTwos_div hN
  generalize M / 2 ^ S = m at *
  generalize N / 2 ^ T = n at *
  subst h1 h3
  rcases Nat.le_total S T with h | h
  · obtain ⟨k, rfl⟩ := Nat.exists_eq_add_of_le h
    rw [Nat.min_eq_left h, gcd_twos_le h2]
  · obtain ⟨k, rfl⟩ := Nat.exists_eq_add_of_le h
    rw [Nat.min_eq_right h, Nat.gcd_comm (2 ^ _ * m), gcd_twos_le h4, Nat.gcd_comm]
/-- A shift to the right, of no places too. -/
theorem sh_down (N d : Nat) (v : Value) (BY : Int) (w : World) (h : IsN w v N) (hN : N < 18446744073709551616 ^ 9000) (hd : d ≤ 1000000) (hBY : BY = -(d : Int)) :
    Calls Tryd.prog 14 #[v, .int .i64 BY] w (GaveV (N / 2 ^ d) w) := by
  rcases Nat.eq_zero_or_pos d with rfl | h0
  · exact sh_neg N 0 v BY w h hN (by omega) hBY
  · exact (shn_any N d v BY w h h0 hd hBY).mono fun _ _ h => gaveVF h
/-- The first number is made. -/
structure AtGa (wb : World) (v : Value) (A : Nat) (W : World) : Prop where
  bel : Below wb.heap.size wb W
  num : IsN W v A
theorem AtGa.alloc {wb W : World} {v : Value} {A : Nat} (h : AtGa wb v A W) (o : Obj) : AtGa wb v A (W.alloc o) :=
  ⟨h.bel.alloc h.bel.size o, h.num.below ((Below.refl _ W).alloc (Nat.le_refl _) o) (Nat.le_refl _)⟩
/-- Both are. -/
structure AtGb (wb : World) (v : Value) (A : Nat) (u : Value) (B : Nat) (W : World) : Prop where
  bel : Below wb.heap.size wb W
  num : IsN W v A
  num2 : IsN W u B
theorem AtGb.alloc {wb W : World} {v u : Value} {A B : Nat} (h : AtGb wb v A u B W) (o : Obj) : AtGb wb v A u B (W.alloc o) :=
  ⟨h.bel.alloc h.bel.size o, h.num.below ((Below.refl _ W).alloc (Nat.le_refl _) o) (Nat.le_refl _), h.num2.below ((Below.refl _ W).alloc (Nat.le_refl _) o) (Nat.le_refl _)⟩
set_option maxRecDepth 100000 in
set_option maxHeartbeats 8000000 in
theorem gcd_any (M N : Nat) (va vb : Value) (w : World) (ha : IsN w va M) (hb : IsN w vb N) (hM0 : M ≠ 0) (hN0 : N ≠ 0) (hM : M < 18446744073709551616 ^ 26) (hN : N < 18446744073709551616 ^ 26) (htab : TabB w) :
    Calls Tryd.prog 19 #[va, vb] w (GaveV (Nat.gcd M N) w) := by
  obtain ⟨a1, n1, c1, rfl⟩ := isN_form ha
  obtain ⟨a2, n2, c2, rfl⟩ := isN_form hb
  have hg0 := G3.new w (.slice a1 n1 c1) (.slice a2 n2 c2)
  obtain ⟨W3, hW3⟩ : ∃ W3, (((w.alloc (.cells #[.slice a1 n1 c1] 25)).alloc (.cells #[.slice a2 n2 c2] 25)).alloc (.cells #[.slice none 0 0] 25)) = W3 := ⟨_, rfl⟩
  rw [hW3] at hg0
  have HG0 := Lib.hid hg0
  have HX0 := Lib.hid (ha.below hg0.bel (Nat.le_refl _))
  have HY0 := Lib.hid (hb.below hg0.bel (Nat.le_refl _))
  have HT0 := Lib.hid (htab.below hg0.bel (Nat.le_refl _))
  have HM0 := Lib.hid hM0; have HN0 := Lib.hid hN0; have HM := Lib.hid hM; have HN := Lib.hid hN
  have r1 : W3.cell? ⟨w.heap.size, 0, none⟩ = some (.slice a1 n1 c1) := hg0.b1.cell 0
  have HZ1 := Lib.hid (zero_no HX0.out hM0)
  clear ha hb hg0 hM0 hN0 hM hN htab
  go_enter Tryd.func19, Tryd.ntmps19
  go_wp2_with fail
  refine HZ1.out.mono ?_
  rintro e w4 ⟨rfl, hb4⟩
  have HG4 := Lib.hid (HG0.out.below hb4 HG0.out.size)
  have HX4 := Lib.hid (HX0.out.below hb4 (Nat.le_refl _))
  have HY4 := Lib.hid (HY0.out.below hb4 (Nat.le_refl _))
  have HT4 := Lib.hid (HT0.out.below hb4 (Nat.le_refl _))
  have HZ2 := Lib.hid (zero_no HY4.out HN0.out)
  have r2 : w4.cell? ⟨w.heap.size + 1, 0, none⟩ = some (.slice a2 n2 c2) := HG4.out.b2.cell 0
  clear hb4 HG0 HX0 HY0 HT0 HZ1 r1
  go_wp2_with fail
  refine HZ2.out.mono ?_
  rintro e w5 ⟨rfl, hb5⟩
  have hg5 := HG4.out.below hb5 HG4.out.size
  have HG5 := Lib.hid hg5
  have HX5 := Lib.hid (HX4.out.below hb5 (Nat.le_refl _))
  have HY5 := Lib.hid (HY4.out.below hb5 (Nat.le_refl _))
  have HT5 := Lib.hid (HT4.out.below hb5 (Nat.le_refl _))
  have r3 : w5.drew.cell? ⟨w.heap.size, 0, none⟩ = some (.slice a1 n1 c1) := hg5.b1.cell 0
  have r4 : w5.drew.cell? ⟨w.heap.size + 1, 0, none⟩ = some (.slice a2 n2 c2) := hg5.b2.cell 0
  have HS : Hid (∀ W, Below w5.heap.size w5 W → W.cell? ⟨w.heap.size, 0, none⟩ = some (.slice a1 n1 c1) ∧ W.cell? ⟨w.heap.size + 1, 0, none⟩ = some (.slice a2 n2 c2)) := Lib.hid (fun W h => ⟨(hg5.b1.below h hg5.b1.lt).cell 0, (hg5.b2.below h hg5.b2.lt).cell 0⟩)
  have HTw1 : Hid (∀ W, Below w5.heap.size w5 W → Calls Tryd.prog 41 #[.agg #[.slice a1 n1 c1]] W fun e w' => ∃ T : Nat, e = .returned (.int .i64 (T : Int)) ∧ Hid (IsTwos M T) ∧ Below w5.heap.size w5 w') := Lib.hid (fun W h => (twos_any M _ W (HX5.out.below h (Nat.le_refl _)) HM0.out (HT5.out.below h (Nat.le_refl _))).mono fun e w' ⟨T, h1, h2, _, h3⟩ => ⟨T, h1, Lib.hid h2, h.trans (h3.mono h.size)⟩)
  have HTw2 : Hid (∀ W, Below w5.heap.size w5 W → Calls Tryd.prog 41 #[.agg #[.slice a2 n2 c2]] W fun e w' => ∃ T : Nat, e = .returned (.int .i64 (T : Int)) ∧ Hid (IsTwos N T) ∧ Below w5.heap.size w5 w') := Lib.hid (fun W h => (twos_any N _ W (HY5.out.below h (Nat.le_refl _)) HN0.out (HT5.out.below h (Nat.le_refl _))).mono fun e w' ⟨T, h1, h2, _, h3⟩ => ⟨T, h1, Lib.hid h2, h.trans (h3.mono h.size)⟩)
  have hd5 : Below w5.heap.size w5 w5.drew := (Below.refl _ _).drew
  clear hb5 hg5 HG4 HX4 HY4 HT4 HZ2 r2
  go_wp2_with fail
  refine wp_region_held_drew (S := (fun w' => w'.cell? ⟨w.heap.size, 0, none⟩ = some (.slice a1 n1 c1) ∧ w'.cell? ⟨w.heap.size + 1, 0, none⟩ = some (.slice a2 n2 c2))) (by kernel_rfl) ?_ (fun hHeld => ?_)
  · exact ⟨r3, r4⟩
  refine wpAnyH_take (i := 0) (oi := { dst := some 14, op := Op.load 25 (Operand.tmp 2), type := 25, pos := "gcd.go:13", after := #[], guard := none }) (v := ?_) rfl (by kernel_rfl) (by kernel_rfl) (by kernel_rfl) (fun _ _ _ h => h) (Or.inl ⟨by rfl, ?_⟩) (by assumption) ?_
  rotate_left
  · intro w hSw; (try dsimp only at hSw); go_simp; (try with_reducible rfl)
  try simp only [Act.put, List.setIfInBounds_toArray, List.set_cons_zero, List.set_cons_succ]
  refine wpAnyH_take (i := 2) (oi := { dst := some 16, op := Op.load 25 (Operand.tmp 3), type := 25, pos := "gcd.go:13", after := #[], guard := none }) (v := ?_) rfl (by kernel_rfl) (by kernel_rfl) (by kernel_rfl) (fun _ _ _ h => h) (Or.inl ⟨by rfl, ?_⟩) (by assumption) ?_
  rotate_left
  · intro w hSw; (try dsimp only at hSw); go_simp; (try with_reducible rfl)
  try simp only [Act.put, List.setIfInBounds_toArray, List.set_cons_zero, List.set_cons_succ]
  refine wpAnyH_ready (rs := [1]) (by kernel_rfl) (by simp) ?_
  refine AllReadyH.cons (o := { dst := some 15, op := Op.call { callee := Callee.value (Operand.func 41), args := #[Operand.tmp 14], argTypes := #[25] }, type := 3, pos := "gcd.go:13", after := #[{ on := 0, ground := Ground.data }], guard := none }) rfl (fun K hK => ?_) AllReadyH.nil
  go_simp
  go_at_call 41; refine (HTw1.out _ (by assumption)).mono ?_; rintro e w6 ⟨T1, rfl, hT1, hb6⟩
  refine hK.out _ _ ?_ (fun hHeld => ?_)
  · exact HS.out _ ‹_›
  clear hK K
  try simp only [Act.put, List.setIfInBounds_toArray, List.set_cons_zero, List.set_cons_succ]
  refine wpAnyH_ready (rs := [3]) (by kernel_rfl) (by simp) ?_
  refine AllReadyH.cons (o := { dst := some 17, op := Op.call { callee := Callee.value (Operand.func 41), args := #[Operand.tmp 16], argTypes := #[25] }, type := 3, pos := "gcd.go:13", after := #[{ on := 2, ground := Ground.data }, { on := 1, ground := Ground.chain }], guard := none }) rfl (fun K hK => ?_) AllReadyH.nil
  go_simp
  go_at_call 41; refine (HTw2.out _ (by assumption)).mono ?_; rintro e w7 ⟨T2, rfl, hT2, hb7⟩
  refine hK.out _ _ ?_ (fun hHeld => ?_)
  · exact HS.out _ ‹_›
  clear hK K
  try simp only [Act.put, List.setIfInBounds_toArray, List.set_cons_zero, List.set_cons_succ]
  refine wpAnyH_take (i := 4) (oi := { dst := some 5, op := Op.assign (Operand.tmp 15), type := 3, pos := "gcd.go:13", after := #[{ on := 1, ground := Ground.data }, { on := 3, ground := Ground.chain }, { on := 0, ground := Ground.phase }, { on := 1, ground := Ground.phase }, { on := 2, ground := Ground.textOnly Departure.lateStores }, { on := 3, ground := Ground.textOnly Departure.lateStoresUnsure }], guard := none }) (v := ?_) rfl (by kernel_rfl) (by kernel_rfl) (by kernel_rfl) (fun _ _ _ h => h) (Or.inl ⟨by rfl, ?_⟩) (by assumption) ?_
  rotate_left
  · intro w hSw; (try dsimp only at hSw); go_simp; (try with_reducible rfl)
  try simp only [Act.put, List.setIfInBounds_toArray, List.set_cons_zero, List.set_cons_succ]
  refine wpAnyH_take (i := 5) (oi := { dst := some 6, op := Op.assign (Operand.tmp 17), type := 3, pos := "gcd.go:13", after := #[{ on := 3, ground := Ground.data }, { on := 4, ground := Ground.chain }, { on := 0, ground := Ground.phase }, { on := 1, ground := Ground.phase }, { on := 2, ground := Ground.phase }, { on := 3, ground := Ground.phase }, { on := 4, ground := Ground.phase }], guard := none }) (v := ?_) rfl (by kernel_rfl) (by kernel_rfl) (by kernel_rfl) (fun _ _ _ h => h) (Or.inl ⟨by rfl, ?_⟩) (by assumption) ?_
  rotate_left
  · intro w hSw; (try dsimp only at hSw); go_simp; (try with_reducible rfl)
  try simp only [Act.put, List.setIfInBounds_toArray, List.set_cons_zero, List.set_cons_succ]
  refine wpAnyH_done (by kernel_rfl) ?_ _
  have HG7 := Lib.hid (HG5.out.below hb7 HG5.out.size)
  have HX7 := Lib.hid (HX5.out.below hb7 (Nat.le_refl _))
  have HY7 := Lib.hid (HY5.out.below hb7 (Nat.le_refl _))
  have q1 : w7.drew.cell? ⟨w.heap.size, 0, none⟩ = some (.slice a1 n1 c1) := HG7.out.b1.cell 0
  have q2 : w7.drew.cell? ⟨w.heap.size + 1, 0, none⟩ = some (.slice a2 n2 c2) := HG7.out.b2.cell 0
  have HS7 : Hid (∀ W, Below w7.heap.size w7 W → W.cell? ⟨w.heap.size, 0, none⟩ = some (.slice a1 n1 c1) ∧ W.cell? ⟨w.heap.size + 1, 0, none⟩ = some (.slice a2 n2 c2)) := Lib.hid (fun W h => ⟨(HG7.out.b1.below h HG7.out.b1.lt).cell 0, (HG7.out.b2.below h HG7.out.b2.lt).cell 0⟩)
  have hl1 : T1 ≤ 1664 := by have := isTwos_lt hT1.out HM.out; omega
  have hl2 : T2 ≤ 1664 := by have := isTwos_lt hT2.out HN.out; omega
  obtain ⟨S1, hS1⟩ : ∃ S1 : Int, (T1 : Int) = S1 := ⟨_, rfl⟩
  obtain ⟨S2, hS2⟩ : ∃ S2 : Int, (T2 : Int) = S2 := ⟨_, rfl⟩
  have hw1 : IntKind.i64.wrap (-S1) = -S1 := IntWalk.i64_in _ ⟨by omega, by omega⟩
  have hw2 : IntKind.i64.wrap (-S2) = -S2 := IntWalk.i64_in _ ⟨by omega, by omega⟩
  obtain ⟨TT, hTT⟩ : ∃ TT : Int, min S1 S2 = TT := ⟨_, rfl⟩
  have HTT : Hid (TT = ((min T1 T2 : Nat) : Int) ∧ min T1 T2 ≤ 20000) := Lib.hid ⟨by omega, by omega⟩
  obtain ⟨m1, hm1⟩ : ∃ m1, M / 2 ^ T1 = m1 := ⟨_, rfl⟩
  obtain ⟨m2, hm2⟩ : ∃ m2, N / 2 ^ T2 = m2 := ⟨_, rfl⟩
  have Hgt : Hid (Nat.gcd m1 m2 * 2 ^ (min T1 T2) = Nat.gcd M N) := Lib.hid (by rw [← hm1, ← hm2]; exact gcd_twos hT1.out hT2.out)
  have Hm1 : Hid (m1 < 18446744073709551616 ^ 26) := Lib.hid (by rw [← hm1]; exact Nat.lt_of_le_of_lt (Nat.div_le_self _ _) HM.out)
  have Hm2 : Hid (m2 < 18446744073709551616 ^ 26) := Lib.hid (by rw [← hm2]; exact Nat.lt_of_le_of_lt (Nat.div_le_self _ _) HN.out)
  have Hgl : Hid (Nat.gcd m1 m2 < 18446744073709551616 ^ 9000) := Lib.hid (by
    rcases Nat.eq_zero_or_pos m1 with h0 | h0
    · rw [h0, Nat.gcd_zero_left]; exact w26 9000 Hm2.out (by omega)
    · exact w26 9000 (Nat.lt_of_le_of_lt (Nat.gcd_le_left _ h0) Hm1.out) (by omega))
  have HC1 : Hid (∀ W, Below w7.heap.size w7 W → Calls Tryd.prog 14 #[.agg #[.slice a1 n1 c1], .int .i64 (-S1)] W fun e w' => ∃ x y z, e = .returned (.agg #[.slice x y z]) ∧ AtGa w7 (.agg #[.slice x y z]) m1 w' ∧ Below W.heap.size W w') := Lib.hid (fun W h => (sh_down M T1 _ (-S1) W (HX7.out.below h (Nat.le_refl _)) (w26 9000 HM.out (by omega)) (by omega) (by rw [hS1])).mono fun e w' h' => by
    obtain ⟨x, y, z, h1, h2, h3⟩ := h'
    rw [hm1] at h2
    exact ⟨x, y, z, h1, ⟨h.trans (h3.mono h.size), h2⟩, h3⟩)
  have HC2 : Hid (∀ W v, AtGa w7 v m1 W → Calls Tryd.prog 14 #[.agg #[.slice a2 n2 c2], .int .i64 (-S2)] W fun e w' => ∃ x y z, e = .returned (.agg #[.slice x y z]) ∧ AtGb w7 v m1 (.agg #[.slice x y z]) m2 w' ∧ Below W.heap.size W w') := Lib.hid (fun W v h => (sh_down N T2 _ (-S2) W (HY7.out.below h.bel (Nat.le_refl _)) (w26 9000 HN.out (by omega)) (by omega) (by rw [hS2])).mono fun e w' h' => by
    obtain ⟨x, y, z, h1, h2, h3⟩ := h'
    rw [hm2] at h2
    exact ⟨x, y, z, h1, ⟨h.bel.trans (h3.mono h.bel.size), h.num.below h3 (Nat.le_refl _), h2⟩, h3⟩)
  have HC3 : Hid (∀ W v u, AtGb w7 v m1 u m2 W → Calls Tryd.prog 42 #[v, u] W fun e w' => ∃ x y z, e = .returned (.agg #[.slice x y z]) ∧ IsN w' (.agg #[.slice x y z]) (Nat.gcd m1 m2) ∧ Below w7.heap.size w7 w' ∧ Below W.heap.size W w') := Lib.hid (fun W v u h => (gcdo_any m1 m2 _ _ W h.num h.num2 (w26 8000 Hm1.out (by omega)) (w26 8000 Hm2.out (by omega))).mono fun e w' h' => by
    obtain ⟨x, y, z, h1, h2, h3⟩ := h'
    exact ⟨x, y, z, h1, h2, h.bel.trans (h3.mono h.bel.size), h3⟩)
  have hd7 : Below w7.heap.size w7 w7.drew := (Below.refl _ _).drew
  have hd7a : ∀ o, Below w7.heap.size w7 (w7.drew.alloc o) := fun o => hd7.alloc (show w7.heap.size ≤ w7.drew.heap.size from Nat.le_refl _) o
  have HT12 := Lib.hid (And.intro hS1 hS2)
  rw [hS1, hS2]
  clear hb6 hb7 HTw1 HTw2 HS hd5 r3 r4 HG5 HX5 HY5 HT5 hT1 hT2 hm1 hm2 hS1 hS2
  go_wp2_with fail
  refine wp_region_held_drew (S := (fun w' => w'.cell? ⟨w.heap.size, 0, none⟩ = some (.slice a1 n1 c1) ∧ w'.cell? ⟨w.heap.size + 1, 0, none⟩ = some (.slice a2 n2 c2))) (by kernel_rfl) ?_ (fun hHeld => ?_)
  · exact ⟨q1, q2⟩
  refine wpAnyH_take (i := 0) (oi := { dst := some 18, op := Op.load 25 (Operand.tmp 2), type := 25, pos := "gcd.go:14", after := #[], guard := none }) (v := ?_) rfl (by kernel_rfl) (by kernel_rfl) (by kernel_rfl) (fun _ _ _ h => h) (Or.inl ⟨by rfl, ?_⟩) (by assumption) ?_
  rotate_left
  · intro w hSw; (try dsimp only at hSw); go_simp; (try with_reducible rfl)
  try simp only [Act.put, List.setIfInBounds_toArray, List.set_cons_zero, List.set_cons_succ]
  refine wpAnyH_take (i := 1) (oi := { dst := some 19, op := Op.move (Operand.tmp 5), type := 3, pos := "gcd.go:14", after := #[], guard := none }) (v := ?_) rfl (by kernel_rfl) (by kernel_rfl) (by kernel_rfl) (fun _ _ _ h => h) (Or.inl ⟨by rfl, ?_⟩) (by assumption) ?_
  rotate_left
  · intro w hSw; (try dsimp only at hSw); go_simp; (try with_reducible rfl)
  try simp only [Act.put, List.setIfInBounds_toArray, List.set_cons_zero, List.set_cons_succ]
  refine wpAnyH_take (i := 2) (oi := { dst := some 20, op := Op.unOp UnOp.neg 3 (Operand.tmp 19), type := 3, pos := "gcd.go:14", after := #[{ on := 1, ground := Ground.data }], guard := none }) (v := ?_) rfl (by kernel_rfl) (by kernel_rfl) (by kernel_rfl) (fun _ _ _ h => h) (Or.inl ⟨by rfl, ?_⟩) (by assumption) ?_
  rotate_left
  · intro w hSw; (try dsimp only at hSw); go_simp; (try with_reducible rfl)
  try simp only [Act.put, List.setIfInBounds_toArray, List.set_cons_zero, List.set_cons_succ]
  refine wpAnyH_take (i := 4) (oi := { dst := some 22, op := Op.load 25 (Operand.tmp 3), type := 25, pos := "gcd.go:14", after := #[], guard := none }) (v := ?_) rfl (by kernel_rfl) (by kernel_rfl) (by kernel_rfl) (fun _ _ _ h => h) (Or.inl ⟨by rfl, ?_⟩) (by assumption) ?_
  rotate_left
  · intro w hSw; (try dsimp only at hSw); go_simp; (try with_reducible rfl)
  try simp only [Act.put, List.setIfInBounds_toArray, List.set_cons_zero, List.set_cons_succ]
  refine wpAnyH_take (i := 5) (oi := { dst := some 23, op := Op.move (Operand.tmp 6), type := 3, pos := "gcd.go:14", after := #[], guard := none }) (v := ?_) rfl (by kernel_rfl) (by kernel_rfl) (by kernel_rfl) (fun _ _ _ h => h) (Or.inl ⟨by rfl, ?_⟩) (by assumption) ?_
  rotate_left
  · intro w hSw; (try dsimp only at hSw); go_simp; (try with_reducible rfl)
  try simp only [Act.put, List.setIfInBounds_toArray, List.set_cons_zero, List.set_cons_succ]
  refine wpAnyH_take (i := 6) (oi := { dst := some 24, op := Op.unOp UnOp.neg 3 (Operand.tmp 23), type := 3, pos := "gcd.go:14", after := #[{ on := 5, ground := Ground.data }], guard := none }) (v := ?_) rfl (by kernel_rfl) (by kernel_rfl) (by kernel_rfl) (fun _ _ _ h => h) (Or.inl ⟨by rfl, ?_⟩) (by assumption) ?_
  rotate_left
  · intro w hSw; (try dsimp only at hSw); go_simp; (try with_reducible rfl)
  try simp only [Act.put, List.setIfInBounds_toArray, List.set_cons_zero, List.set_cons_succ]
  refine wpAnyH_ready (rs := [3, 9]) (by kernel_rfl) (by simp) ?_
  refine (AllReadyH.cons (o := { dst := some 21, op := Op.call { callee := Callee.value (Operand.func 14), args := #[Operand.tmp 18, Operand.tmp 20], argTypes := #[25, 3] }, type := 25, pos := "gcd.go:14", after := #[{ on := 0, ground := Ground.data }, { on := 2, ground := Ground.data }], guard := none }) rfl (fun K hK => ?_) (AllReadyH.cons (o := { dst := some 7, op := Op.alloc 25, type := 0, pos := "gcd.go:14", after := #[], guard := none }) rfl (fun K hK => ?_) AllReadyH.nil))
  · go_simp
    go_at_call 14; refine (HC1.out _ hd7).mono ?_; rintro e wq1 ⟨x1, y1, z1, rfl, hA1, hb1⟩
    have hs1 := hA1.bel.size
    refine hK.out _ _ ?_ (fun hHeld => ?_)
    · exact HS7.out _ hA1.bel
    clear hK K
    try simp only [Act.put, List.setIfInBounds_toArray, List.set_cons_zero, List.set_cons_succ]
    refine wpAnyH_ready (rs := [7, 9]) (by kernel_rfl) (by simp) ?_
    refine (AllReadyH.cons (o := { dst := some 25, op := Op.call { callee := Callee.value (Operand.func 14), args := #[Operand.tmp 22, Operand.tmp 24], argTypes := #[25, 3] }, type := 25, pos := "gcd.go:14", after := #[{ on := 4, ground := Ground.data }, { on := 6, ground := Ground.data }, { on := 3, ground := Ground.chain }], guard := none }) rfl (fun K hK => ?_) (AllReadyH.cons (o := { dst := some 7, op := Op.alloc 25, type := 0, pos := "gcd.go:14", after := #[], guard := none }) rfl (fun K hK => ?_) AllReadyH.nil))
    · go_simp
      go_at_call 14; refine (HC2.out _ _ hA1).mono ?_; rintro e wq2 ⟨x2, y2, z2, rfl, hA2, hb2⟩
      have hs2 := hA2.bel.size
      refine hK.out _ _ ?_ (fun hHeld => ?_)
      · exact HS7.out _ hA2.bel
      clear hK K
      try simp only [Act.put, List.setIfInBounds_toArray, List.set_cons_zero, List.set_cons_succ]
      refine wpAnyH_ready (rs := [8, 9]) (by kernel_rfl) (by simp) ?_
      refine (AllReadyH.cons (o := { dst := some 26, op := Op.call { callee := Callee.value (Operand.func 42), args := #[Operand.tmp 21, Operand.tmp 25], argTypes := #[25, 25] }, type := 25, pos := "gcd.go:14", after := #[{ on := 3, ground := Ground.data }, { on := 7, ground := Ground.data }, { on := 7, ground := Ground.chain }], guard := none }) rfl (fun K hK => ?_) (AllReadyH.cons (o := { dst := some 7, op := Op.alloc 25, type := 0, pos := "gcd.go:14", after := #[], guard := none }) rfl (fun K hK => ?_) AllReadyH.nil))
      · go_simp
        go_at_call 42; refine (HC3.out _ _ _ hA2).mono ?_; rintro e wq3 ⟨x3, y3, z3, rfl, hN3, hbb3, hb3⟩
        refine hK.out _ _ ?_ (fun hHeld => ?_)
        · exact HS7.out _ hbb3
        clear hK K
        try simp only [Act.put, List.setIfInBounds_toArray, List.set_cons_zero, List.set_cons_succ]
        refine wpAnyH_ready (rs := [9]) (by kernel_rfl) (by simp) ?_
        refine (AllReadyH.cons (o := { dst := some 7, op := Op.alloc 25, type := 0, pos := "gcd.go:14", after := #[], guard := none }) rfl (fun K hK => ?_) AllReadyH.nil)
        go_wp2_with fail
        refine hK.out _ _ ?_ (fun hHeld => ?_)
        · exact HS7.out _ (hbb3.alloc hbb3.size _)
        clear hK K
        try simp only [Act.put, List.setIfInBounds_toArray, List.set_cons_zero, List.set_cons_succ]
        refine wpAnyH_ready (rs := [10]) (by kernel_rfl) (by simp) ?_
        refine (AllReadyH.cons (o := { dst := none, op := Op.store 25 (Operand.tmp 7) (Operand.tmp 26), type := 0, pos := "gcd.go:14", after := #[{ on := 9, ground := Ground.data }, { on := 8, ground := Ground.data }, { on := 8, ground := Ground.chain }, { on := 0, ground := Ground.phase }, { on := 1, ground := Ground.phase }, { on := 2, ground := Ground.phase }, { on := 3, ground := Ground.phase }, { on := 4, ground := Ground.phase }, { on := 5, ground := Ground.phase }, { on := 6, ground := Ground.phase }, { on := 7, ground := Ground.phase }, { on := 8, ground := Ground.phase }, { on := 9, ground := Ground.phase }], guard := none }) rfl (fun K hK => ?_) AllReadyH.nil)
        go_wp2_with fail
        refine hK.out _ _ ?_ (fun hHeld => ?_)
        · first | exact HS7.out _ (hbb3.alloc hbb3.size _) | exact HS7.out _ ((hbb3.alloc hbb3.size _).setCell (p := ⟨wq3.heap.size, 0, none⟩) hbb3.size _)
        clear hK K
        try simp only [Act.put, List.setIfInBounds_toArray, List.set_cons_zero, List.set_cons_succ]
        refine wpAnyH_done (by kernel_rfl) ?_ _
        have hB8 : Below w7.heap.size w7 (wq3.alloc (.cells #[.slice x3 y3 z3] 25)) := hbb3.alloc hbb3.size _
        have hk8 : Blk (wq3.alloc (.cells #[.slice x3 y3 z3] 25)) wq3.heap.size 25 #[.slice x3 y3 z3] := Blk.new wq3 _ _
        have hn8 : IsN (wq3.alloc (.cells #[.slice x3 y3 z3] 25)) (.agg #[.slice x3 y3 z3]) (Nat.gcd m1 m2) := hN3.below ((Below.refl _ wq3).alloc (Nat.le_refl _) _) (Nat.le_refl _)
        have HG8 := Lib.hid (HG7.out.below hB8 HG7.out.size)
        have q8 : World.cell? (wq3.alloc (.cells #[.slice x3 y3 z3] 25)) ⟨wq3.heap.size, 0, none⟩ = some (.slice x3 y3 z3) := hk8.cell 0
        have HSu := Lib.hid (shup_any (Nat.gcd m1 m2) (min T1 T2) _ TT (wq3.alloc (.cells #[.slice x3 y3 z3] 25)) hn8 Hgl.out HTT.out.2 HTT.out.1)
        clear hB8 hk8 hn8 hA1 hA2 hb1 hb2 hb3 hN3 hbb3 q1 q2 hd7 hd7a HC1 HC2 HC3 HS7
        go_wp2_with fail
        refine HSu.out.mono ?_
        rintro e w9 ⟨x9, y9, z9, rfl, hN9, hb9⟩
        have hg9 := HG8.out.below hb9 HG8.out.size
        have q9 : w9.cell? ⟨w.heap.size + 1 + 1, 0, none⟩ = some (.slice none 0 0) := hg9.b3.cell 0
        have q9f : w9.frozen? ⟨w.heap.size + 1 + 1, 0, none⟩ = false := hg9.b3.frozen 0
        have HJ := Lib.hid (hg9.b3.set_ 0 (.slice x9 y9 z9))
        have HR : Hid (GaveV (Nat.gcd M N) w (.returned (.agg #[.slice x9 y9 z9])) (w9.setCell ⟨w.heap.size + 1 + 1, 0, none⟩ (.slice x9 y9 z9))) := Lib.hid ⟨x9, y9, z9, rfl, by rw [← Hgt.out]; exact isN_set1 hN9 (isN_box hN9 hg9.b3), hg9.bel.setCell (p := ⟨w.heap.size + 1 + 1, 0, none⟩) (by show w.heap.size ≤ w.heap.size + 1 + 1; omega) _⟩
        clear hN9 hb9 hg9 HSu
        go_wp2_with fail
        refine bodyPost_ret (res_nat rfl _ _ (w.heap.size + 1 + 1) (.slice x9 y9 z9) rfl HJ.out) rfl ?_
        exact HR.out
      · go_wp2_with fail
        refine hK.out _ _ ?_ (fun hHeld => ?_)
        · exact HS7.out _ (hA2.alloc _).bel
        clear hK K
        try simp only [Act.put, List.setIfInBounds_toArray, List.set_cons_zero, List.set_cons_succ]
        refine wpAnyH_ready (rs := [8]) (by kernel_rfl) (by simp) ?_
        refine (AllReadyH.cons (o := { dst := some 26, op := Op.call { callee := Callee.value (Operand.func 42), args := #[Operand.tmp 21, Operand.tmp 25], argTypes := #[25, 25] }, type := 25, pos := "gcd.go:14", after := #[{ on := 3, ground := Ground.data }, { on := 7, ground := Ground.data }, { on := 7, ground := Ground.chain }], guard := none }) rfl (fun K hK => ?_) AllReadyH.nil)
        go_simp
        go_at_call 42; refine (HC3.out _ _ _ (hA2.alloc _)).mono ?_; rintro e wq3 ⟨x3, y3, z3, rfl, hN3, hbb3, hb3⟩
        have hkB3 : Blk wq3 wq2.heap.size 25 #[.slice none 0 0] := (Blk.new wq2 _ _).below hb3 (by simp)
        have hkc := hkB3.cell 0; have hkf := hkB3.frozen 0
        simp only [List.getElem?_toArray, List.getElem?_cons_zero] at hkc
        refine hK.out _ _ ?_ (fun hHeld => ?_)
        · exact HS7.out _ hbb3
        clear hK K
        try simp only [Act.put, List.setIfInBounds_toArray, List.set_cons_zero, List.set_cons_succ]
        refine wpAnyH_ready (rs := [10]) (by kernel_rfl) (by simp) ?_
        refine (AllReadyH.cons (o := { dst := none, op := Op.store 25 (Operand.tmp 7) (Operand.tmp 26), type := 0, pos := "gcd.go:14", after := #[{ on := 9, ground := Ground.data }, { on := 8, ground := Ground.data }, { on := 8, ground := Ground.chain }, { on := 0, ground := Ground.phase }, { on := 1, ground := Ground.phase }, { on := 2, ground := Ground.phase }, { on := 3, ground := Ground.phase }, { on := 4, ground := Ground.phase }, { on := 5, ground := Ground.phase }, { on := 6, ground := Ground.phase }, { on := 7, ground := Ground.phase }, { on := 8, ground := Ground.phase }, { on := 9, ground := Ground.phase }], guard := none }) rfl (fun K hK => ?_) AllReadyH.nil)
        go_wp2_with fail
        refine hK.out _ _ ?_ (fun hHeld => ?_)
        · exact HS7.out _ (hbb3.setCell (p := ⟨wq2.heap.size, 0, none⟩) hs2 _)
        clear hK K
        try simp only [Act.put, List.setIfInBounds_toArray, List.set_cons_zero, List.set_cons_succ]
        refine wpAnyH_done (by kernel_rfl) ?_ _
        have hB8 : Below w7.heap.size w7 (wq3.setCell ⟨wq2.heap.size, 0, none⟩ (.slice x3 y3 z3)) := hbb3.setCell (p := ⟨wq2.heap.size, 0, none⟩) hs2 _
        have hk8 : Blk (wq3.setCell ⟨wq2.heap.size, 0, none⟩ (.slice x3 y3 z3)) wq2.heap.size 25 #[.slice x3 y3 z3] := hkB3.set_ 0 _
        have hn8 : IsN (wq3.setCell ⟨wq2.heap.size, 0, none⟩ (.slice x3 y3 z3)) (.agg #[.slice x3 y3 z3]) (Nat.gcd m1 m2) := isN_set1 hN3 (isN_box hN3 hkB3)
        have HG8 := Lib.hid (HG7.out.below hB8 HG7.out.size)
        have q8 : World.cell? (wq3.setCell ⟨wq2.heap.size, 0, none⟩ (.slice x3 y3 z3)) ⟨wq2.heap.size, 0, none⟩ = some (.slice x3 y3 z3) := hk8.cell 0
        have HSu := Lib.hid (shup_any (Nat.gcd m1 m2) (min T1 T2) _ TT (wq3.setCell ⟨wq2.heap.size, 0, none⟩ (.slice x3 y3 z3)) hn8 Hgl.out HTT.out.2 HTT.out.1)
        clear hB8 hk8 hn8 hA1 hA2 hb1 hb2 hb3 hN3 hbb3 hkB3 hkc hkf q1 q2 hd7 hd7a HC1 HC2 HC3 HS7
        go_wp2_with fail
        refine HSu.out.mono ?_
        rintro e w9 ⟨x9, y9, z9, rfl, hN9, hb9⟩
        have hg9 := HG8.out.below hb9 HG8.out.size
        have q9 : w9.cell? ⟨w.heap.size + 1 + 1, 0, none⟩ = some (.slice none 0 0) := hg9.b3.cell 0
        have q9f : w9.frozen? ⟨w.heap.size + 1 + 1, 0, none⟩ = false := hg9.b3.frozen 0
        have HJ := Lib.hid (hg9.b3.set_ 0 (.slice x9 y9 z9))
        have HR : Hid (GaveV (Nat.gcd M N) w (.returned (.agg #[.slice x9 y9 z9])) (w9.setCell ⟨w.heap.size + 1 + 1, 0, none⟩ (.slice x9 y9 z9))) := Lib.hid ⟨x9, y9, z9, rfl, by rw [← Hgt.out]; exact isN_set1 hN9 (isN_box hN9 hg9.b3), hg9.bel.setCell (p := ⟨w.heap.size + 1 + 1, 0, none⟩) (by show w.heap.size ≤ w.heap.size + 1 + 1; omega) _⟩
        clear hN9 hb9 hg9 HSu
        go_wp2_with fail
        refine bodyPost_ret (res_nat rfl _ _ (w.heap.size + 1 + 1) (.slice x9 y9 z9) rfl HJ.out) rfl ?_
        exact HR.out
    · go_wp2_with fail
      refine hK.out _ _ ?_ (fun hHeld => ?_)
      · exact HS7.out _ (hA1.alloc _).bel
      clear hK K
      try simp only [Act.put, List.setIfInBounds_toArray, List.set_cons_zero, List.set_cons_succ]
      refine wpAnyH_ready (rs := [7]) (by kernel_rfl) (by simp) ?_
      refine (AllReadyH.cons (o := { dst := some 25, op := Op.call { callee := Callee.value (Operand.func 14), args := #[Operand.tmp 22, Operand.tmp 24], argTypes := #[25, 3] }, type := 25, pos := "gcd.go:14", after := #[{ on := 4, ground := Ground.data }, { on := 6, ground := Ground.data }, { on := 3, ground := Ground.chain }], guard := none }) rfl (fun K hK => ?_) AllReadyH.nil)
      go_simp
      go_at_call 14; refine (HC2.out _ _ (hA1.alloc _)).mono ?_; rintro e wq2 ⟨x2, y2, z2, rfl, hA2, hb2⟩
      have hkB2 : Blk wq2 wq1.heap.size 25 #[.slice none 0 0] := (Blk.new wq1 _ _).below hb2 (by simp)
      have hs2 := hA2.bel.size
      refine hK.out _ _ ?_ (fun hHeld => ?_)
      · exact HS7.out _ hA2.bel
      clear hK K
      try simp only [Act.put, List.setIfInBounds_toArray, List.set_cons_zero, List.set_cons_succ]
      refine wpAnyH_ready (rs := [8]) (by kernel_rfl) (by simp) ?_
      refine (AllReadyH.cons (o := { dst := some 26, op := Op.call { callee := Callee.value (Operand.func 42), args := #[Operand.tmp 21, Operand.tmp 25], argTypes := #[25, 25] }, type := 25, pos := "gcd.go:14", after := #[{ on := 3, ground := Ground.data }, { on := 7, ground := Ground.data }, { on := 7, ground := Ground.chain }], guard := none }) rfl (fun K hK => ?_) AllReadyH.nil)
      go_simp
      go_at_call 42; refine (HC3.out _ _ _ hA2).mono ?_; rintro e wq3 ⟨x3, y3, z3, rfl, hN3, hbb3, hb3⟩
      have hkB3 : Blk wq3 wq1.heap.size 25 #[.slice none 0 0] := hkB2.below hb3 hkB2.lt
      have hkc := hkB3.cell 0; have hkf := hkB3.frozen 0
      simp only [List.getElem?_toArray, List.getElem?_cons_zero] at hkc
      refine hK.out _ _ ?_ (fun hHeld => ?_)
      · exact HS7.out _ hbb3
      clear hK K
      try simp only [Act.put, List.setIfInBounds_toArray, List.set_cons_zero, List.set_cons_succ]
      refine wpAnyH_ready (rs := [10]) (by kernel_rfl) (by simp) ?_
      refine (AllReadyH.cons (o := { dst := none, op := Op.store 25 (Operand.tmp 7) (Operand.tmp 26), type := 0, pos := "gcd.go:14", after := #[{ on := 9, ground := Ground.data }, { on := 8, ground := Ground.data }, { on := 8, ground := Ground.chain }, { on := 0, ground := Ground.phase }, { on := 1, ground := Ground.phase }, { on := 2, ground := Ground.phase }, { on := 3, ground := Ground.phase }, { on := 4, ground := Ground.phase }, { on := 5, ground := Ground.phase }, { on := 6, ground := Ground.phase }, { on := 7, ground := Ground.phase }, { on := 8, ground := Ground.phase }, { on := 9, ground := Ground.phase }], guard := none }) rfl (fun K hK => ?_) AllReadyH.nil)
      go_wp2_with fail
      refine hK.out _ _ ?_ (fun hHeld => ?_)
      · exact HS7.out _ (hbb3.setCell (p := ⟨wq1.heap.size, 0, none⟩) hs1 _)
      clear hK K
      try simp only [Act.put, List.setIfInBounds_toArray, List.set_cons_zero, List.set_cons_succ]
      refine wpAnyH_done (by kernel_rfl) ?_ _
      have hB8 : Below w7.heap.size w7 (wq3.setCell ⟨wq1.heap.size, 0, none⟩ (.slice x3 y3 z3)) := hbb3.setCell (p := ⟨wq1.heap.size, 0, none⟩) hs1 _
      have hk8 : Blk (wq3.setCell ⟨wq1.heap.size, 0, none⟩ (.slice x3 y3 z3)) wq1.heap.size 25 #[.slice x3 y3 z3] := hkB3.set_ 0 _
      have hn8 : IsN (wq3.setCell ⟨wq1.heap.size, 0, none⟩ (.slice x3 y3 z3)) (.agg #[.slice x3 y3 z3]) (Nat.gcd m1 m2) := isN_set1 hN3 (isN_box hN3 hkB3)
      have HG8 := Lib.hid (HG7.out.below hB8 HG7.out.size)
      have q8 : World.cell? (wq3.setCell ⟨wq1.heap.size, 0, none⟩ (.slice x3 y3 z3)) ⟨wq1.heap.size, 0, none⟩ = some (.slice x3 y3 z3) := hk8.cell 0
      have HSu := Lib.hid (shup_any (Nat.gcd m1 m2) (min T1 T2) _ TT (wq3.setCell ⟨wq1.heap.size, 0, none⟩ (.slice x3 y3 z3)) hn8 Hgl.out HTT.out.2 HTT.out.1)
      clear hB8 hk8 hn8 hA1 hA2 hb1 hb2 hb3 hN3 hbb3 hkB2 hkB3 hkc hkf q1 q2 hd7 hd7a HC1 HC2 HC3 HS7
      go_wp2_with fail
      refine HSu.out.mono ?_
      rintro e w9 ⟨x9, y9, z9, rfl, hN9, hb9⟩
      have hg9 := HG8.out.below hb9 HG8.out.size
      have q9 : w9.cell? ⟨w.heap.size + 1 + 1, 0, none⟩ = some (.slice none 0 0) := hg9.b3.cell 0
      have q9f : w9.frozen? ⟨w.heap.size + 1 + 1, 0, none⟩ = false := hg9.b3.frozen 0
      have HJ := Lib.hid (hg9.b3.set_ 0 (.slice x9 y9 z9))
      have HR : Hid (GaveV (Nat.gcd M N) w (.returned (.agg #[.slice x9 y9 z9])) (w9.setCell ⟨w.heap.size + 1 + 1, 0, none⟩ (.slice x9 y9 z9))) := Lib.hid ⟨x9, y9, z9, rfl, by rw [← Hgt.out]; exact isN_set1 hN9 (isN_box hN9 hg9.b3), hg9.bel.setCell (p := ⟨w.heap.size + 1 + 1, 0, none⟩) (by show w.heap.size ≤ w.heap.size + 1 + 1; omega) _⟩
      clear hN9 hb9 hg9 HSu
      go_wp2_with fail
      refine bodyPost_ret (res_nat rfl _ _ (w.heap.size + 1 + 1) (.slice x9 y9 z9) rfl HJ.out) rfl ?_
      exact HR.out
  · go_wp2_with fail
    refine hK.out _ _ ?_ (fun hHeld => ?_)
    · exact HS7.out _ (hd7a _)
    clear hK K
    try simp only [Act.put, List.setIfInBounds_toArray, List.set_cons_zero, List.set_cons_succ]
    refine wpAnyH_ready (rs := [3]) (by kernel_rfl) (by simp) ?_
    refine (AllReadyH.cons (o := { dst := some 21, op := Op.call { callee := Callee.value (Operand.func 14), args := #[Operand.tmp 18, Operand.tmp 20], argTypes := #[25, 3] }, type := 25, pos := "gcd.go:14", after := #[{ on := 0, ground := Ground.data }, { on := 2, ground := Ground.data }], guard := none }) rfl (fun K hK => ?_) AllReadyH.nil)
    go_simp
    go_at_call 14; refine (HC1.out _ (hd7a _)).mono ?_; rintro e wq1 ⟨x1, y1, z1, rfl, hA1, hb1⟩
    have hkB1 : Blk wq1 w7.heap.size 25 #[.slice none 0 0] := (Blk.new w7.drew _ _).below hb1 (by simp)
    have hs1 := hA1.bel.size
    refine hK.out _ _ ?_ (fun hHeld => ?_)
    · exact HS7.out _ hA1.bel
    clear hK K
    try simp only [Act.put, List.setIfInBounds_toArray, List.set_cons_zero, List.set_cons_succ]
    refine wpAnyH_ready (rs := [7]) (by kernel_rfl) (by simp) ?_
    refine (AllReadyH.cons (o := { dst := some 25, op := Op.call { callee := Callee.value (Operand.func 14), args := #[Operand.tmp 22, Operand.tmp 24], argTypes := #[25, 3] }, type := 25, pos := "gcd.go:14", after := #[{ on := 4, ground := Ground.data }, { on := 6, ground := Ground.data }, { on := 3, ground := Ground.chain }], guard := none }) rfl (fun K hK => ?_) AllReadyH.nil)
    go_simp
    go_at_call 14; refine (HC2.out _ _ hA1).mono ?_; rintro e wq2 ⟨x2, y2, z2, rfl, hA2, hb2⟩
    have hkB2 : Blk wq2 w7.heap.size 25 #[.slice none 0 0] := hkB1.below hb2 hkB1.lt
    have hs2 := hA2.bel.size
    refine hK.out _ _ ?_ (fun hHeld => ?_)
    · exact HS7.out _ hA2.bel
    clear hK K
    try simp only [Act.put, List.setIfInBounds_toArray, List.set_cons_zero, List.set_cons_succ]
    refine wpAnyH_ready (rs := [8]) (by kernel_rfl) (by simp) ?_
    refine (AllReadyH.cons (o := { dst := some 26, op := Op.call { callee := Callee.value (Operand.func 42), args := #[Operand.tmp 21, Operand.tmp 25], argTypes := #[25, 25] }, type := 25, pos := "gcd.go:14", after := #[{ on := 3, ground := Ground.data }, { on := 7, ground := Ground.data }, { on := 7, ground := Ground.chain }], guard := none }) rfl (fun K hK => ?_) AllReadyH.nil)
    go_simp
    go_at_call 42; refine (HC3.out _ _ _ hA2).mono ?_; rintro e wq3 ⟨x3, y3, z3, rfl, hN3, hbb3, hb3⟩
    have hkB3 : Blk wq3 w7.heap.size 25 #[.slice none 0 0] := hkB2.below hb3 hkB2.lt
    have hkc := hkB3.cell 0; have hkf := hkB3.frozen 0
    simp only [List.getElem?_toArray, List.getElem?_cons_zero] at hkc
    refine hK.out _ _ ?_ (fun hHeld => ?_)
    · exact HS7.out _ hbb3
    clear hK K
    try simp only [Act.put, List.setIfInBounds_toArray, List.set_cons_zero, List.set_cons_succ]
    refine wpAnyH_ready (rs := [10]) (by kernel_rfl) (by simp) ?_
    refine (AllReadyH.cons (o := { dst := none, op := Op.store 25 (Operand.tmp 7) (Operand.tmp 26), type := 0, pos := "gcd.go:14", after := #[{ on := 9, ground := Ground.data }, { on := 8, ground := Ground.data }, { on := 8, ground := Ground.chain }, { on := 0, ground := Ground.phase }, { on := 1, ground := Ground.phase }, { on := 2, ground := Ground.phase }, { on := 3, ground := Ground.phase }, { on := 4, ground := Ground.phase }, { on := 5, ground := Ground.phase }, { on := 6, ground := Ground.phase }, { on := 7, ground := Ground.phase }, { on := 8, ground := Ground.phase }, { on := 9, ground := Ground.phase }], guard := none }) rfl (fun K hK => ?_) AllReadyH.nil)
    go_wp2_with fail
    refine hK.out _ _ ?_ (fun hHeld => ?_)
    · exact HS7.out _ (hbb3.setCell (p := ⟨w7.heap.size, 0, none⟩) (Nat.le_refl w7.heap.size) _)
    clear hK K
    try simp only [Act.put, List.setIfInBounds_toArray, List.set_cons_zero, List.set_cons_succ]
    refine wpAnyH_done (by kernel_rfl) ?_ _
    have hB8 : Below w7.heap.size w7 (wq3.setCell ⟨w7.heap.size, 0, none⟩ (.slice x3 y3 z3)) := hbb3.setCell (p := ⟨w7.heap.size, 0, none⟩) (Nat.le_refl w7.heap.size) _
    have hk8 : Blk (wq3.setCell ⟨w7.heap.size, 0, none⟩ (.slice x3 y3 z3)) w7.heap.size 25 #[.slice x3 y3 z3] := hkB3.set_ 0 _
    have hn8 : IsN (wq3.setCell ⟨w7.heap.size, 0, none⟩ (.slice x3 y3 z3)) (.agg #[.slice x3 y3 z3]) (Nat.gcd m1 m2) := isN_set1 hN3 (isN_box hN3 hkB3)
    have HG8 := Lib.hid (HG7.out.below hB8 HG7.out.size)
    have q8 : World.cell? (wq3.setCell ⟨w7.heap.size, 0, none⟩ (.slice x3 y3 z3)) ⟨w7.heap.size, 0, none⟩ = some (.slice x3 y3 z3) := hk8.cell 0
    have HSu := Lib.hid (shup_any (Nat.gcd m1 m2) (min T1 T2) _ TT (wq3.setCell ⟨w7.heap.size, 0, none⟩ (.slice x3 y3 z3)) hn8 Hgl.out HTT.out.2 HTT.out.1)
    clear hB8 hk8 hn8 hA1 hA2 hb1 hb2 hb3 hN3 hbb3 hkB1 hkB2 hkB3 hkc hkf q1 q2 hd7 hd7a HC1 HC2 HC3 HS7
    go_wp2_with fail
    refine HSu.out.mono ?_
    rintro e w9 ⟨x9, y9, z9, rfl, hN9, hb9⟩
    have hg9 := HG8.out.below hb9 HG8.out.size
    have q9 : w9.cell? ⟨w.heap.size + 1 + 1, 0, none⟩ = some (.slice none 0 0) := hg9.b3.cell 0
    have q9f : w9.frozen? ⟨w.heap.size + 1 + 1, 0, none⟩ = false := hg9.b3.frozen 0
    have HJ := Lib.hid (hg9.b3.set_ 0 (.slice x9 y9 z9))
    have HR : Hid (GaveV (Nat.gcd M N) w (.returned (.agg #[.slice x9 y9 z9])) (w9.setCell ⟨w.heap.size + 1 + 1, 0, none⟩ (.slice x9 y9 z9))) := Lib.hid ⟨x9, y9, z9, rfl, by rw [← Hgt.out]; exact isN_set1 hN9 (isN_box hN9 hg9.b3), hg9.bel.setCell (p := ⟨w.heap.size + 1 + 1, 0, none⟩) (by show w.heap.size ≤ w.heap.size + 1 + 1; omega) _⟩
    clear hN9 hb9 hg9 HSu
    go_wp2_with fail
    refine bodyPost_ret (res_nat rfl _ _ (w.heap.size + 1 + 1) (.slice x9 y9 z9) rfl HJ.out) rfl ?_
    exact HR.out
end Go.Proofs.YtckllmlkhlaboaaDoor
