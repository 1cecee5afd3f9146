/-
  Law 1: the greatest common divisor, by the long way.
-/
import Derived.Test.YtckllmlkhlaboaaDoorNTwos
import Derived.Test.YtckllmlkhlaboaaDoorNHlv
import Derived.StillTailTactics
namespace Go.Proofs.YtckllmlkhlaboaaDoor
open Go.RowKit
set_option linter.unusedVariables false
/-- Three boxes. -/
structure G3 (w W : World) (v1 v2 : Value) : Prop where
  b1 : Blk W w.heap.size 25 #[v1]
  b2 : Blk W (w.heap.size + 1) 25 #[v2]
  b3 : Blk W (w.heap.size + 1 + 1) 25 #[.slice none 0 0]
  bel : Below w.heap.size w W
theorem G3.new (w : World) (v1 v2 : Value) : G3 w (((w.alloc (.cells #[v1] 25)).alloc (.cells #[v2] 25)).alloc (.cells #[.slice none 0 0] 25)) v1 v2 := by
  have k1 := ((Blk.new w 25 #[v1]).alloc (.cells #[v2] 25)).alloc (.cells #[.slice none 0 0] 25)
  have k2 := (Blk.new (w.alloc (.cells #[v1] 25)) 25 #[v2]).alloc (.cells #[.slice none 0 0] 25)
  have k3 := Blk.new ((w.alloc (.cells #[v1] 25)).alloc (.cells #[v2] 25)) 25 #[.slice none 0 0]
  simp only [World.size_alloc] at k2 k3
  exact ⟨k1, k2, k3, (((Below.refl _ w).alloc (Nat.le_refl _) _).alloc (by simp) _).alloc (by simp; omega) _⟩
theorem G3.below {w W W' : World} {v1 v2 : Value} {B : Nat} (h : G3 w W v1 v2) (hb : Below B W W') (hB : w.heap.size + 3 ≤ B) : G3 w W' v1 v2 :=
  ⟨h.b1.below hb (by omega), h.b2.below hb (by omega), h.b3.below hb (by omega), h.bel.trans (hb.mono (by omega))⟩
theorem G3.size {w W : World} {v1 v2 : Value} (h : G3 w W v1 v2) : w.heap.size + 3 ≤ W.heap.size := by have := h.b3.lt; omega
theorem G3.set {w W : World} {v1 v2 : Value} (h : G3 w W v1 v2) (u1 u2 : Value) : G3 w ((W.setCell ⟨w.heap.size, 0, none⟩ u1).setCell ⟨w.heap.size + 1, 0, none⟩ u2) u1 u2 :=
  ⟨(h.b1.set_ 0 u1).far (p := ⟨w.heap.size + 1, 0, none⟩) (by show w.heap.size ≠ w.heap.size + 1; omega) _,
   (h.b2.far (p := ⟨w.heap.size, 0, none⟩) (by show w.heap.size + 1 ≠ w.heap.size; omega) u1).set_ 0 u2,
   (h.b3.far (p := ⟨w.heap.size, 0, none⟩) (by show w.heap.size + 1 + 1 ≠ w.heap.size; omega) u1).far (p := ⟨w.heap.size + 1, 0, none⟩) (by show w.heap.size + 1 + 1 ≠ w.heap.size + 1; omega) u2,
   (h.bel.setCell (p := ⟨w.heap.size, 0, none⟩) (Nat.le_refl w.heap.size) u1).setCell (p := ⟨w.heap.size + 1, 0, none⟩) (by show w.heap.size ≤ w.heap.size + 1; omega) u2⟩
theorem G3.drew {w W : World} {v1 v2 : Value} (h : G3 w W v1 v2) : G3 w W.drew v1 v2 := ⟨h.b1, h.b2, h.b3, h.bel.drew⟩
theorem G3.num {w W : World} {x1 x2 : Option Addr} {y1 z1 y2 z2 N : Nat} {v u1 u2 : Value} (h : G3 w W (.slice x1 y1 z1) (.slice x2 y2 z2)) (hn : IsN W v N) : IsN ((W.setCell ⟨w.heap.size, 0, none⟩ u1).setCell ⟨w.heap.size + 1, 0, none⟩ u2) v N :=
  isN_stores (b := w.heap.size) hn (fun ad n c e => by
    have h1 := isN_box hn h.b1 ad n c e
    have h2 := isN_box hn h.b2 ad n c e
    omega)
theorem gcd_step (X Y : Nat) : Nat.gcd Y (X % Y) = Nat.gcd X Y := by rw [Nat.gcd_comm X Y, Nat.gcd_rec Y X, Nat.gcd_comm]
theorem isN_one {W : World} {x : Option Addr} {y z N : Nat} (h : IsN W (.agg #[.slice x y z]) N) (hy : y ≤ 1) : N < 18446744073709551616 := by
  obtain ⟨a', c'', us, he, _, _, hw, hv, _⟩ := h
  have h1 := congrArg (fun v => match v with | Value.agg xs => xs[0]? | _ => none) he
  simp at h1
  have hl := wv_lt us hw
  rw [← hv]
  refine Nat.lt_of_lt_of_le hl ?_
  have := w64_mono (j := us.length) (k := 1) (by omega)
  rwa [Nat.pow_one] at this
set_option maxRecDepth 100000 in
set_option maxHeartbeats 4000000 in
theorem gcdo_any (M N : Nat) (va vb : Value) (w : World) (ha : IsN w va M) (hb : IsN w vb N) (hM : M < 18446744073709551616 ^ 8000) (hN : N < 18446744073709551616 ^ 8000) :
    Calls Tryd.prog 42 #[va, vb] w (GaveV (Nat.gcd M N) w) := by
  obtain ⟨a1, n1, c1, rfl⟩ := isN_form ha
  obtain ⟨a2, n2, c2, rfl⟩ := isN_form hb
  have hg0 := G3.new w (.slice a1 n1 c1) (.slice a2 n2 c2)
  obtain ⟨W3, hW3⟩ : ∃ W3, (((w.alloc (.cells #[.slice a1 n1 c1] 25)).alloc (.cells #[.slice a2 n2 c2] 25)).alloc (.cells #[.slice none 0 0] 25)) = W3 := ⟨_, rfl⟩
  rw [hW3] at hg0
  have HG0 := Lib.hid hg0
  have HX0 := Lib.hid (ha.below hg0.bel (Nat.le_refl _))
  have HY0 := Lib.hid (hb.below hg0.bel (Nat.le_refl _))
  have HL0 := Lib.hid (And.intro hM hN)
  clear ha hb hg0 hM hN
  go_enter Tryd.func42, Tryd.ntmps42
  go_wp2_with fail
  go_loopw [] (fun wr => ∃ (X Y : Nat) (x : Option Addr) (y z : Nat) (x' : Option Addr) (y' z' : Nat), Hid (G3 w wr (.slice x y z) (.slice x' y' z')) ∧ Hid (IsN wr (.agg #[.slice x y z]) X) ∧ Hid (IsN wr (.agg #[.slice x' y' z']) Y) ∧ Hid (Nat.gcd X Y = Nat.gcd M N) ∧ Hid (X < 18446744073709551616 ^ 8000 ∧ Y < 18446744073709551616 ^ 8000)) (fun wr => numAt wr (.pointer (some ⟨w.heap.size + 1, 0, none⟩)))
  case atStart => exact ⟨M, N, a1, n1, c1, a2, n2, c2, HG0, HX0, HY0, Lib.hid rfl, HL0⟩
  case round =>
    clear HG0 HX0 HY0 HL0 hW3
    obtain ⟨X, Y, x, y, z, x', y', z', hg, hX, hY, hC, hL⟩ := hrel
    have r1 : wr.cell? ⟨w.heap.size, 0, none⟩ = some (.slice x y z) := hg.out.b1.cell 0
    have r2 : wr.cell? ⟨w.heap.size + 1, 0, none⟩ = some (.slice x' y' z') := hg.out.b2.cell 0
    have Hms := Lib.hid (numAt_eq r2 hY.out)
    by_cases hsm : y ≤ 1 ∧ y' ≤ 1
    · have hX64 := isN_one hX.out hsm.1
      have hY64 := isN_one hY.out hsm.2
      have d1 : decide (1 < (y : Int)) = false := by simp; omega
      have d2 : decide (1 < (y' : Int)) = false := by simp; omega
      obtain ⟨XX, hXX⟩ : ∃ XX : Int, (X : Int) = XX := ⟨_, rfl⟩
      obtain ⟨YY, hYY⟩ : ∃ YY : Int, (Y : Int) = YY := ⟨_, rfl⟩
      have HS1 : Hid (Calls Tryd.prog 22 #[.agg #[.slice x y z]] wr fun e w' => e = .returned (.tuple #[.int .u64 XX, .bool true]) ∧ G3 w w' (.slice x y z) (.slice x' y' z') ∧ IsN w' (.agg #[.slice x' y' z']) Y) := Lib.hid ((small_any X _ wr hX.out).mono fun e w' h => by
        obtain ⟨h1, h2⟩ := h
        rcases h1 with ⟨_, h1⟩ | ⟨h1, _⟩
        · rw [hXX] at h1
          exact ⟨h1, hg.out.below h2 hg.out.size, hY.out.below h2 (Nat.le_refl _)⟩
        · omega)
      have hr0 : Hid (XX = (X : Int) ∧ YY = (Y : Int) ∧ X < 18446744073709551616 ∧ Y < 18446744073709551616 ∧ Nat.gcd X Y = Nat.gcd M N) := Lib.hid ⟨hXX.symm, hYY.symm, hX64, hY64, hC.out⟩
      have HYY := Lib.hid hYY
      have HY64 := Lib.hid hY64
      clear hsm hX64 hY64 hg hX hY hC hL Hms hXX hYY
      go_wp2_with fail
      refine HS1.out.mono ?_
      rintro e w5 ⟨rfl, hg5, hY5⟩
      have HS2 : Hid (Calls Tryd.prog 22 #[.agg #[.slice x' y' z']] w5 fun e w' => e = .returned (.tuple #[.int .u64 YY, .bool true]) ∧ G3 w w' (.slice x y z) (.slice x' y' z')) := Lib.hid ((small_any Y _ w5 hY5).mono fun e w' h => by
        obtain ⟨h1, h2⟩ := h
        rcases h1 with ⟨_, h1⟩ | ⟨h1, _⟩
        · rw [HYY.out] at h1
          exact ⟨h1, hg5.below h2 hg5.size⟩
        · have := HY64.out; omega)
      have q2 : w5.cell? ⟨w.heap.size + 1, 0, none⟩ = some (.slice x' y' z') := hg5.b2.cell 0
      clear hg5 hY5 HS1 r1 r2
      go_wp2_with fail
      refine HS2.out.mono ?_
      rintro e w6 ⟨rfl, hg6⟩
      have HG6 := Lib.hid hg6
      clear hg6 HS2 q2
      go_wp2_with fail
      go_loopw [8, 10] (fun xv yv wq => ∃ (P R : Nat) (PP RR : Int), xv = .int .u64 PP ∧ yv = .int .u64 RR ∧ Hid (PP = (P : Int) ∧ RR = (R : Int) ∧ P < 18446744073709551616 ∧ R < 18446744073709551616 ∧ Nat.gcd P R = Nat.gcd M N) ∧ Hid (G3 w wq (.slice x y z) (.slice x' y' z'))) (fun _ yv _ => (intOf yv).toNat)
      case atStart => exact ⟨X, Y, XX, YY, rfl, rfl, hr0, HG6⟩
      case round =>
        clear hr0 HG6 HYY HY64
        obtain ⟨P, R, PP, RR, rfl, rfl, hr, hgq⟩ := hrel
        have hP0 : 0 ≤ PP := by have := hr.out.1; omega
        have hR0 : 0 ≤ RR := by have := hr.out.2.1; omega
        have hP1 : PP < 18446744073709551616 := by have := hr.out.1; have := hr.out.2.2.1; omega
        have hR1 : RR < 18446744073709551616 := by have := hr.out.2.1; have := hr.out.2.2.2.1; omega
        by_cases hz : RR = 0
        · have hR00 : R = 0 := by have := hr.out.2.1; omega
          have hPg : Hid (P = Nat.gcd M N) := Lib.hid (by rw [← hr.out.2.2.2.2, hR00, Nat.gcd_zero_right])
          have HOf : Hid (Calls Tryd.prog 12 #[.int .u64 PP] wr (GaveN P wr)) := Lib.hid (by rw [hr.out.1]; exact of_any P hr.out.2.2.1 wr)
          have d3 : decide (0 < RR) = false := by simp; omega
          clear hR00 hr hz
          go_wp2_with fail
          refine HOf.out.mono ?_
          rintro e w7 h7
          obtain ⟨x7, y7, z7, rfl, hN7, hb7⟩ := gaveV h7
          have hg7 := hgq.out.below hb7 hgq.out.size
          have q1 : w7.cell? ⟨w.heap.size + 1 + 1, 0, none⟩ = some (.slice none 0 0) := hg7.b3.cell 0
          have q3 : w7.frozen? ⟨w.heap.size + 1 + 1, 0, none⟩ = false := hg7.b3.frozen 0
          have HJ := Lib.hid (hg7.b3.set_ 0 (.slice x7 y7 z7))
          have HR : Hid (GaveV (Nat.gcd M N) w (.returned (.agg #[.slice x7 y7 z7])) (w7.setCell ⟨w.heap.size + 1 + 1, 0, none⟩ (.slice x7 y7 z7))) := Lib.hid ⟨x7, y7, z7, rfl, by rw [← hPg.out]; exact isN_set1 hN7 (isN_box hN7 hg7.b3), hg7.bel.setCell (p := ⟨w.heap.size + 1 + 1, 0, none⟩) (by show w.heap.size ≤ w.heap.size + 1 + 1; omega) _⟩
          clear h7 hN7 hb7 hg7 HOf hgq
          go_wp2_with fail
          refine bodyPost_ret (res_nat rfl _ _ (w.heap.size + 1 + 1) (.slice x7 y7 z7) rfl HJ.out) rfl ?_
          exact HR.out
        · have hR2 : 0 < RR := by omega
          have d3 : decide (0 < RR) = true := by simp; omega
          have d4 : (RR == 0) = false := by simp; omega
          obtain ⟨Z, hZ⟩ : ∃ Z : Int, PP % RR = Z := ⟨_, rfl⟩
          have hZ2 : Int.tmod PP RR = Z := by rw [Int.tmod_eq_emod_of_nonneg hP0]; exact hZ
          have hZ3 : 0 ≤ Z := by rw [← hZ]; exact Int.emod_nonneg _ (by omega)
          have hZ4 : Z < RR := by rw [← hZ]; exact Int.emod_lt_of_pos _ hR2
          have hZ5 : IntKind.u64.wrap Z = Z := IntWalk.u64_in _ ⟨by omega, by omega⟩
          have hr2 : Hid (RR = (R : Int) ∧ Z = ((P % R : Nat) : Int) ∧ R < 18446744073709551616 ∧ P % R < 18446744073709551616 ∧ Nat.gcd R (P % R) = Nat.gcd M N) := Lib.hid ⟨hr.out.2.1, by rw [← hZ, hr.out.1, hr.out.2.1]; exact (Int.natCast_emod P R).symm, hr.out.2.2.2.1, Nat.lt_of_le_of_lt (Nat.mod_le _ _) hr.out.2.2.1, by rw [gcd_step]; exact hr.out.2.2.2.2⟩
          have hgd : Hid (G3 w wr.drew (.slice x y z) (.slice x' y' z')) := Lib.hid hgq.out.drew
          clear hr hgq hz
          go_wp2_with fail
          go_region
          go_wp2_with fail
          go_roundw
          case rel => exact ⟨R, P % R, RR, Z, rfl, rfl, hr2, hgd⟩
          case measure => simp [intOf]; omega
    · have hlen : (1 < (y : Int)) ∨ ¬ (1 < (y : Int)) ∧ (1 < (y' : Int)) := by omega
      clear hsm
      rcases hlen with hl1 | ⟨hl1, hl2⟩
      · have d1 : decide (1 < (y : Int)) = true := by simp; omega
        by_cases hY0 : Y = 0
        · have HZ := Lib.hid (zero_yes (v := .agg #[.slice x' y' z']) (w := wr) (by have := hY.out; rwa [hY0] at this))
          have hXg : Hid (X = Nat.gcd M N) := Lib.hid (by rw [← hC.out, hY0, Nat.gcd_zero_right])
          clear hY0
          go_wp2_with fail
          refine HZ.out.mono ?_
          rintro e w5 ⟨rfl, hb5⟩
          have hg5 := hg.out.below hb5 hg.out.size
          have hX5 := hX.out.below hb5 (Nat.le_refl _)
          have q1 : w5.cell? ⟨w.heap.size, 0, none⟩ = some (.slice x y z) := hg5.b1.cell 0
          have q2 : w5.cell? ⟨w.heap.size + 1 + 1, 0, none⟩ = some (.slice none 0 0) := hg5.b3.cell 0
          have q3 : w5.frozen? ⟨w.heap.size + 1 + 1, 0, none⟩ = false := hg5.b3.frozen 0
          have HJ := Lib.hid (hg5.b3.set_ 0 (.slice x y z))
          have HR : Hid (GaveV (Nat.gcd M N) w (.returned (.agg #[.slice x y z])) (w5.setCell ⟨w.heap.size + 1 + 1, 0, none⟩ (.slice x y z))) := Lib.hid ⟨x, y, z, rfl, by rw [← hXg.out]; exact isN_set1 hX5 (isN_box hX5 hg5.b3), hg5.bel.setCell (p := ⟨w.heap.size + 1 + 1, 0, none⟩) (by show w.heap.size ≤ w.heap.size + 1 + 1; omega) _⟩
          clear hg5 hX5 hb5 HZ hg hX hY hC hL Hms
          go_wp2_with fail
          refine bodyPost_ret (res_nat rfl _ _ (w.heap.size + 1 + 1) (.slice x y z) rfl HJ.out) rfl ?_
          exact HR.out
        · have HZ := Lib.hid (zero_no (v := .agg #[.slice x' y' z']) (w := wr) hY.out hY0)
          have HY0 := Lib.hid hY0
          clear hY0
          go_wp2_with fail
          refine HZ.out.mono ?_
          rintro e w5 ⟨rfl, hb5⟩
          have Hg5 := Lib.hid (hg.out.below hb5 hg.out.size)
          have HY5 := Lib.hid (hY.out.below hb5 (Nat.le_refl _))
          have HDv := Lib.hid (dvm_any X Y _ _ w5 (hX.out.below hb5 (Nat.le_refl _)) HY5.out hL.out.1)
          have q1 : w5.cell? ⟨w.heap.size, 0, none⟩ = some (.slice x y z) := Hg5.out.b1.cell 0
          have q2 : w5.cell? ⟨w.heap.size + 1, 0, none⟩ = some (.slice x' y' z') := Hg5.out.b2.cell 0
          clear hb5 HZ hg hX hY r1 r2
          go_wp2_with fail
          refine HDv.out.mono ?_
          rintro e w6 ⟨h6, hb6⟩
          obtain ⟨_, xq, yq, zq, xr, yr, zr, rfl, hNq, hNr⟩ : 0 < Y ∧ ∃ x y z x' y' z', e = .returned (.tuple #[.agg #[.slice x y z], .agg #[.slice x' y' z'], .bool true]) ∧ IsN w6 (.agg #[.slice x y z]) (X / Y) ∧ IsN w6 (.agg #[.slice x' y' z']) (X % Y) := by
            rcases h6 with ⟨h0, _⟩ | h
            · exact absurd h0 HY0.out
            · exact h
          have hb67 : Below w6.heap.size w6 ((w6.alloc (.cells #[.slice xq yq zq] 25)).alloc (.cells #[.slice xr yr zr] 25)) := ((Below.refl _ w6).alloc (Nat.le_refl _) _).alloc (by simp) _
          have hb57 := hb6.trans (hb67.mono hb6.size)
          have Hg7 := Lib.hid (Hg5.out.below hb57 Hg5.out.size)
          have HY7 := Lib.hid (HY5.out.below hb57 (Nat.le_refl _))
          have HR7 := Lib.hid (hNr.below hb67 (Nat.le_refl _))
          have hkr := Blk.new (w6.alloc (.cells #[.slice xq yq zq] 25)) 25 #[.slice xr yr zr]
          rw [World.size_alloc] at hkr
          obtain ⟨g, hgg⟩ : ∃ g, w6.heap.size = g := ⟨_, rfl⟩
          obtain ⟨W7, hW7⟩ : ∃ W7, (w6.alloc (.cells #[.slice xq yq zq] 25)).alloc (.cells #[.slice xr yr zr] 25) = W7 := ⟨_, rfl⟩
          have hgs : w.heap.size + 3 ≤ g := by have := Hg5.out.size; have := hb6.size; omega
          rw [hW7] at Hg7 HY7 HR7 hkr
          rw [hgg] at hkr
          have q3 : W7.drew.cell? ⟨w.heap.size, 0, none⟩ = some (.slice x y z) := Hg7.out.b1.cell 0
          have q4 : W7.drew.cell? ⟨w.heap.size + 1, 0, none⟩ = some (.slice x' y' z') := Hg7.out.b2.cell 0
          have q5 : W7.drew.cell? ⟨g + 1, 0, none⟩ = some (.slice xr yr zr) := hkr.cell 0
          have q6 : W7.drew.frozen? ⟨w.heap.size, 0, none⟩ = false := Hg7.out.b1.frozen 0
          have q7 : W7.drew.frozen? ⟨w.heap.size + 1, 0, none⟩ = false := Hg7.out.b2.frozen 0
          have q3' : W7.cell? ⟨w.heap.size, 0, none⟩ = some (.slice x y z) := q3
          have q4' : W7.cell? ⟨w.heap.size + 1, 0, none⟩ = some (.slice x' y' z') := q4
          have q5' : W7.cell? ⟨g + 1, 0, none⟩ = some (.slice xr yr zr) := q5
          have q6' : W7.frozen? ⟨w.heap.size, 0, none⟩ = false := q6
          have q7' : W7.frozen? ⟨w.heap.size + 1, 0, none⟩ = false := q7
          have q8 : (W7.setCell ⟨w.heap.size, 0, none⟩ (.slice x' y' z')).cell? ⟨g + 1, 0, none⟩ = some (.slice xr yr zr) := (World.cell?_setCell_other _ _ _ _ (fun e => by have := congrArg Addr.block e; simp at this; omega)).trans q5'
          have HW7 := Lib.hid hW7
          have Hgg := Lib.hid hgg
          have HG9 := Lib.hid (Hg7.out.set (.slice x' y' z') (.slice xr yr zr)).drew
          have HX9 := Lib.hid (Hg7.out.num (u1 := .slice x' y' z') (u2 := .slice xr yr zr) HY7.out).drew2
          have HY9 := Lib.hid (Hg7.out.num (u1 := .slice x' y' z') (u2 := .slice xr yr zr) HR7.out).drew2
          have HC9 : Hid (Nat.gcd Y (X % Y) = Nat.gcd M N) := Lib.hid (by rw [gcd_step]; exact hC.out)
          have HL9 : Hid (Y < 18446744073709551616 ^ 8000 ∧ X % Y < 18446744073709551616 ^ 8000) := Lib.hid ⟨hL.out.2, Nat.lt_of_le_of_lt (Nat.mod_le _ _) hL.out.1⟩
          have HM9 := Lib.hid (numAt_eq (HG9.out.b2.cell 0) HY9.out)
          have HYm : Hid (X % Y < Y) := Lib.hid (Nat.mod_lt _ (by have := HY0.out; omega))
          clear h6 hb6 hb67 hb57 hNq hNr hkr HDv Hg7 HY7 HR7 hW7 hgg hC hL
          go_wp2_with fail
          rw [HW7.out, Hgg.out]
          go_region
          go_wp2_with fail
          go_roundw
          case rel => exact ⟨Y, X % Y, x', y', z', xr, yr, zr, HG9, HX9, HY9, HC9, HL9⟩
          case measure => (show numAt _ _ < numAt _ _); rw [HM9.out, Hms.out]; exact HYm.out
      · have d1 : decide (1 < (y : Int)) = false := by simp; omega
        have d2 : decide (1 < (y' : Int)) = true := by simp; omega
        by_cases hY0 : Y = 0
        · have HZ := Lib.hid (zero_yes (v := .agg #[.slice x' y' z']) (w := wr) (by have := hY.out; rwa [hY0] at this))
          have hXg : Hid (X = Nat.gcd M N) := Lib.hid (by rw [← hC.out, hY0, Nat.gcd_zero_right])
          clear hY0
          go_wp2_with fail
          refine HZ.out.mono ?_
          rintro e w5 ⟨rfl, hb5⟩
          have hg5 := hg.out.below hb5 hg.out.size
          have hX5 := hX.out.below hb5 (Nat.le_refl _)
          have q1 : w5.cell? ⟨w.heap.size, 0, none⟩ = some (.slice x y z) := hg5.b1.cell 0
          have q2 : w5.cell? ⟨w.heap.size + 1 + 1, 0, none⟩ = some (.slice none 0 0) := hg5.b3.cell 0
          have q3 : w5.frozen? ⟨w.heap.size + 1 + 1, 0, none⟩ = false := hg5.b3.frozen 0
          have HJ := Lib.hid (hg5.b3.set_ 0 (.slice x y z))
          have HR : Hid (GaveV (Nat.gcd M N) w (.returned (.agg #[.slice x y z])) (w5.setCell ⟨w.heap.size + 1 + 1, 0, none⟩ (.slice x y z))) := Lib.hid ⟨x, y, z, rfl, by rw [← hXg.out]; exact isN_set1 hX5 (isN_box hX5 hg5.b3), hg5.bel.setCell (p := ⟨w.heap.size + 1 + 1, 0, none⟩) (by show w.heap.size ≤ w.heap.size + 1 + 1; omega) _⟩
          clear hg5 hX5 hb5 HZ hg hX hY hC hL Hms
          go_wp2_with fail
          refine bodyPost_ret (res_nat rfl _ _ (w.heap.size + 1 + 1) (.slice x y z) rfl HJ.out) rfl ?_
          exact HR.out
        · have HZ := Lib.hid (zero_no (v := .agg #[.slice x' y' z']) (w := wr) hY.out hY0)
          have HY0 := Lib.hid hY0
          clear hY0
          go_wp2_with fail
          refine HZ.out.mono ?_
          rintro e w5 ⟨rfl, hb5⟩
          have Hg5 := Lib.hid (hg.out.below hb5 hg.out.size)
          have HY5 := Lib.hid (hY.out.below hb5 (Nat.le_refl _))
          have HDv := Lib.hid (dvm_any X Y _ _ w5 (hX.out.below hb5 (Nat.le_refl _)) HY5.out hL.out.1)
          have q1 : w5.cell? ⟨w.heap.size, 0, none⟩ = some (.slice x y z) := Hg5.out.b1.cell 0
          have q2 : w5.cell? ⟨w.heap.size + 1, 0, none⟩ = some (.slice x' y' z') := Hg5.out.b2.cell 0
          clear hb5 HZ hg hX hY r1 r2
          go_wp2_with fail
          refine HDv.out.mono ?_
          rintro e w6 ⟨h6, hb6⟩
          obtain ⟨_, xq, yq, zq, xr, yr, zr, rfl, hNq, hNr⟩ : 0 < Y ∧ ∃ x y z x' y' z', e = .returned (.tuple #[.agg #[.slice x y z], .agg #[.slice x' y' z'], .bool true]) ∧ IsN w6 (.agg #[.slice x y z]) (X / Y) ∧ IsN w6 (.agg #[.slice x' y' z']) (X % Y) := by
            rcases h6 with ⟨h0, _⟩ | h
            · exact absurd h0 HY0.out
            · exact h
          have hb67 : Below w6.heap.size w6 ((w6.alloc (.cells #[.slice xq yq zq] 25)).alloc (.cells #[.slice xr yr zr] 25)) := ((Below.refl _ w6).alloc (Nat.le_refl _) _).alloc (by simp) _
          have hb57 := hb6.trans (hb67.mono hb6.size)
          have Hg7 := Lib.hid (Hg5.out.below hb57 Hg5.out.size)
          have HY7 := Lib.hid (HY5.out.below hb57 (Nat.le_refl _))
          have HR7 := Lib.hid (hNr.below hb67 (Nat.le_refl _))
          have hkr := Blk.new (w6.alloc (.cells #[.slice xq yq zq] 25)) 25 #[.slice xr yr zr]
          rw [World.size_alloc] at hkr
          obtain ⟨g, hgg⟩ : ∃ g, w6.heap.size = g := ⟨_, rfl⟩
          obtain ⟨W7, hW7⟩ : ∃ W7, (w6.alloc (.cells #[.slice xq yq zq] 25)).alloc (.cells #[.slice xr yr zr] 25) = W7 := ⟨_, rfl⟩
          have hgs : w.heap.size + 3 ≤ g := by have := Hg5.out.size; have := hb6.size; omega
          rw [hW7] at Hg7 HY7 HR7 hkr
          rw [hgg] at hkr
          have q3 : W7.drew.cell? ⟨w.heap.size, 0, none⟩ = some (.slice x y z) := Hg7.out.b1.cell 0
          have q4 : W7.drew.cell? ⟨w.heap.size + 1, 0, none⟩ = some (.slice x' y' z') := Hg7.out.b2.cell 0
          have q5 : W7.drew.cell? ⟨g + 1, 0, none⟩ = some (.slice xr yr zr) := hkr.cell 0
          have q6 : W7.drew.frozen? ⟨w.heap.size, 0, none⟩ = false := Hg7.out.b1.frozen 0
          have q7 : W7.drew.frozen? ⟨w.heap.size + 1, 0, none⟩ = false := Hg7.out.b2.frozen 0
          have q3' : W7.cell? ⟨w.heap.size, 0, none⟩ = some (.slice x y z) := q3
          have q4' : W7.cell? ⟨w.heap.size + 1, 0, none⟩ = some (.slice x' y' z') := q4
          have q5' : W7.cell? ⟨g + 1, 0, none⟩ = some (.slice xr yr zr) := q5
          have q6' : W7.frozen? ⟨w.heap.size, 0, none⟩ = false := q6
          have q7' : W7.frozen? ⟨w.heap.size + 1, 0, none⟩ = false := q7
          have q8 : (W7.setCell ⟨w.heap.size, 0, none⟩ (.slice x' y' z')).cell? ⟨g + 1, 0, none⟩ = some (.slice xr yr zr) := (World.cell?_setCell_other _ _ _ _ (fun e => by have := congrArg Addr.block e; simp at this; omega)).trans q5'
          have HW7 := Lib.hid hW7
          have Hgg := Lib.hid hgg
          have HG9 := Lib.hid (Hg7.out.set (.slice x' y' z') (.slice xr yr zr)).drew
          have HX9 := Lib.hid (Hg7.out.num (u1 := .slice x' y' z') (u2 := .slice xr yr zr) HY7.out).drew2
          have HY9 := Lib.hid (Hg7.out.num (u1 := .slice x' y' z') (u2 := .slice xr yr zr) HR7.out).drew2
          have HC9 : Hid (Nat.gcd Y (X % Y) = Nat.gcd M N) := Lib.hid (by rw [gcd_step]; exact hC.out)
          have HL9 : Hid (Y < 18446744073709551616 ^ 8000 ∧ X % Y < 18446744073709551616 ^ 8000) := Lib.hid ⟨hL.out.2, Nat.lt_of_le_of_lt (Nat.mod_le _ _) hL.out.1⟩
          have HM9 := Lib.hid (numAt_eq (HG9.out.b2.cell 0) HY9.out)
          have HYm : Hid (X % Y < Y) := Lib.hid (Nat.mod_lt _ (by have := HY0.out; omega))
          clear h6 hb6 hb67 hb57 hNq hNr hkr HDv Hg7 HY7 HR7 hW7 hgg hC hL
          go_wp2_with fail
          rw [HW7.out, Hgg.out]
          go_region
          go_wp2_with fail
          go_roundw
          case rel => exact ⟨Y, X % Y, x', y', z', xr, yr, zr, HG9, HX9, HY9, HC9, HL9⟩
          case measure => (show numAt _ _ < numAt _ _); rw [HM9.out, Hms.out]; exact HYm.out
end Go.Proofs.YtckllmlkhlaboaaDoor
