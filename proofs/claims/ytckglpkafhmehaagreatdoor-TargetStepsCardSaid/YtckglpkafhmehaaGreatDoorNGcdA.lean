/-
  Law 1: how often 2 divides a number.
  Law 1: the greatest common divisor, by the long way.
  Law 1: shiftUp, by no more than one shift does.
  Law 1: the greatest common divisor.
  Law 1: the greatest divisor of two numbers, one of which is 0.
-/
import Derived.Test.YtckglpkafhmehaaGreatDoorNDvM
import Derived.Test.YtckglpkafhmehaaGreatDoorNNines
import Derived.Shelf.Spec.TrailingZeros
import Derived.Test.YtckglpkafhmehaaGreatDoorNCmp
import Derived.StillTailTactics
namespace Go.Proofs.YtckglpkafhmehaaGreatDoor
open Go.RowKit
set_option linter.unusedVariables false
def brTab : List Int := [0, 1, 56, 2, 57, 49, 28, 3, 61, 58, 42, 50, 38, 29, 17, 4, 62, 47, 59, 36, 45, 43, 51, 22, 53, 39, 33, 30, 24, 18, 12, 5, 63, 55, 48, 27, 60, 41, 37, 16, 46, 35, 44, 21, 52, 32, 23, 11, 54, 26, 40, 15, 34, 20, 31, 10, 25, 14, 19, 9, 13, 8, 7, 6]
def TabB (w : World) : Prop := Lib.TabIs Tryz.prog w "math/bits.deBruijn64tab" .u8 brTab
theorem TabB.below {w w' : World} {B : Nat} (h : TabB w) (hb : Below B w w') (hB : w.heap.size ≤ B) : TabB w' := by
  have hs : (Tryz.prog.globalNamed "math/bits.deBruijn64tab").isSome = true := by kernel_rfl
  obtain ⟨g, hg⟩ := Option.isSome_iff_exists.1 hs
  exact Go.Joins.tab_stays hg h hb hB
theorem brTab_at : ∀ j, j < 64 → brTab.getD j 0 = ((Lib.deBruijn64tab.getD j 0 : Nat) : Int) := by decide +kernel
theorem brTab_len : brTab.length = 64 := by decide
theorem tabB_cell {w : World} (h : TabB w) (j : Nat) (hj : j < 64) : w.cell? ⟨3, j, none⟩ = some (.int .u8 ((Lib.deBruijn64tab.getD j 0 : Nat) : Int)) := by
  have := Lib.TabIs.cell h (g := 3) (by kernel_rfl) j (by rw [brTab_len]; exact hj)
  rw [brTab_at j hj] at this
  exact this
set_option maxRecDepth 100000 in
set_option maxHeartbeats 2000000 in
theorem tz64_core (x k idx : Nat) (w : World) (hx0 : ((x : Int) == 0) = false)
    (key : IntKind.u64.wrap (bits BinOp.and IntKind.u64 (x : Int) (IntKind.u64.wrap (-(x : Int))) * 285870213051353865) / 288230376151711744 = (idx : Int))
    (hi : idx < 64) (hk : k < 64) (hcell : w.cell? ⟨3, idx, none⟩ = some (.int .u8 k)) :
    Calls Tryz.prog 69 #[.int .u64 x] w fun e w' => e = .returned (.int .i64 k) ∧ w' = w := by
  go_enter Tryz.func69, Tryz.ntmps69
  go_wp2_with (simp only [key])
  go_ret
  exact ⟨rfl, rfl⟩
theorem tz64_any (x : Nat) (hx : x < 18446744073709551616) (h0 : x ≠ 0) (w : World) (hT : TabB w) :
    Calls Tryz.prog 69 #[.int .u64 (x : Int)] w fun e w' => e = .returned (.int .i64 ((Lib.ctzFrom 64 x : Nat) : Int)) ∧ w' = w := by
  obtain ⟨hlow, hk⟩ := Lib.lowest_bit 64 x h0 hx
  have e : Lib.ctz 64 x = Lib.ctzFrom 64 x := by simp [Lib.ctz, h0]
  rw [e] at hlow hk
  obtain ⟨hi, htab⟩ := Lib.deBruijn64_at _ hk
  have hcell := tabB_cell hT _ hi
  rw [htab] at hcell
  exact tz64_core x _ _ w (by simp; omega) (tz64_key x _ hx h0 hlow) hi hk hcell
/-- T is how often 2 divides N. -/
def IsTwos (N T : Nat) : Prop := ∃ m, N = 2 ^ T * (2 * m + 1)
theorem twos_words {us : List Nat} {k : Nat} (hk : k < us.length) (hz : ∀ j, j < k → us.getD j 0 = 0) (h0 : us.getD k 0 ≠ 0) (hx : us.getD k 0 < 18446744073709551616) :
    IsTwos (wv us) (k * 64 + Lib.ctzFrom 64 (us.getD k 0)) ∧ Lib.ctzFrom 64 (us.getD k 0) < 64 := by
  have h2 : (18446744073709551616 : Nat) = 2 ^ 64 := by decide
  obtain ⟨m, hm, hc⟩ := Lib.ctzFrom_spec 64 (us.getD k 0) (by omega) (by rw [← h2]; exact hx)
  refine ⟨?_, hc⟩
  generalize Lib.ctzFrom 64 (us.getD k 0) = c at *
  have e1 : wv us = wv (us.take k) + 18446744073709551616 ^ k * (us.getD k 0 + 18446744073709551616 * wv (us.drop (k + 1))) := by
    conv => lhs; rw [← List.take_append_drop k us]
    rw [wv_append, List.length_take, Nat.min_eq_left (by omega), drop_get us k hk]
    rfl
  have e2 : wv (us.take k) = 0 := by
    have : us.take k = List.replicate k 0 := by
      refine List.eq_replicate_iff.2 ⟨by rw [List.length_take, Nat.min_eq_left (by omega)], fun b hb => ?_⟩
      obtain ⟨j, hj, rfl⟩ := List.mem_iff_getElem.1 hb
      rw [List.length_take] at hj
      have := hz j (by omega)
      rw [List.getElem_take]
      rw [List.getD_eq_getElem?_getD, List.getElem?_eq_getElem (by omega)] at this
      exact this
    rw [this, wv_zeros]
  have e3 : 18446744073709551616 = 2 ^ c * (2 * 2 ^ (63 - c)) := by
    rw [h2, ← Nat.pow_succ', ← Nat.pow_add]
    congr 1
    omega
  refine ⟨m + 2 ^ (63 - c) * wv (us.drop (k + 1)), ?_⟩
  rw [e1, e2, Nat.zero_add, hm, Nat.pow_add, show k * 64 = 64 * k by omega, Nat.pow_mul, ← h2, Nat.mul_assoc]
  congr 1
  have e4 : 18446744073709551616 * wv (us.drop (k + 1)) = 2 ^ c * (2 * (2 ^ (63 - c) * wv (us.drop (k + 1)))) := by
    conv => lhs; rw [e3]
    rw [Nat.mul_assoc, Nat.mul_assoc]
  rw [e4, ← Nat.mul_add]
  congr 1
  omega
def TwosIs (N : Nat) (w : World) (e : Ending) (w' : World) : Prop := ∃ T : Nat, e = .returned (.int .i64 (T : Int)) ∧ IsTwos N T ∧ T ≤ 1000000 ∧ Below w.heap.size w w'
set_option maxRecDepth 100000 in
set_option maxHeartbeats 2000000 in
theorem twos_any (N : Nat) (v : Value) (w : World) (h : IsN w v N) (hN : N ≠ 0) (htab : TabB w) : Calls Tryz.prog 40 #[v] w (TwosIs N w) := by
  obtain ⟨a, c, us, rfl, hc, hu, hw, rfl, hl, hlast, hnil⟩ := h
  obtain ⟨W1, hW1⟩ : ∃ W1, w.alloc (.cells #[.slice a us.length c] 31) = W1 := ⟨_, rfl⟩
  have hk : Blk W1 w.heap.size 31 #[.slice a us.length c] := by rw [← hW1]; exact Blk.new w _ _
  have hb : Below w.heap.size w W1 := by rw [← hW1]; exact (Below.refl _ _).alloc (Nat.le_refl _) _
  have HT := Lib.hid (htab.below hb (Nat.le_refl _))
  have hne : us ≠ [] := fun e => hN (by rw [e]; rfl)
  have hlast' := hlast hne
  have hl0 : 0 < us.length := List.length_pos_iff.2 hne
  have hW0 := getW hw
  obtain ⟨ad, rfl, _, _⟩ := hu 0 hl0
  have HU : Hid (∀ k, k < us.length → W1.cell? (ad.add k) = some (.int .u64 ((us.getD k 0 : Nat) : Int))) := Lib.hid (fun k hk => by
    obtain ⟨ad', h1, h2, h3⟩ := hu k hk
    cases h1
    exact (hb.cell (by rw [add_block]; exact h2)).trans h3)
  have q1 : W1.cell? ⟨w.heap.size, 0, none⟩ = some (.slice (some ad) us.length c) := hk.cell 0
  obtain ⟨n, hn⟩ : ∃ n, us.length = n := ⟨_, rfl⟩
  have Hn := Lib.hid hn
  have HW0 := Lib.hid hW0
  have HLst := Lib.hid hlast'
  have HB := Lib.hid hb
  have hz0 : Hid (∀ j, j < 0 → us.getD j 0 = 0) := Lib.hid (fun j hj => by omega)
  rw [hn] at q1 hW1 hl hl0 ⊢
  clear hc hu hw hlast hnil hne hlast' hW0 hk hb hN htab hn
  go_enter Tryz.func40, Tryz.ntmps40
  go_wp2_with fail
  go_loopw [3] (fun iv wr => ∃ (k : Nat), k < n ∧ iv = .int .i64 (k : Int) ∧ Hid (∀ j, j < k → us.getD j 0 = 0) ∧ wr = W1) (fun iv _ => n - (intOf iv).toNat)
  case atStart => exact ⟨0, hl0, rfl, hz0, rfl⟩
  case round =>
    clear hz0
    obtain ⟨k, hk, rfl, hz, rfl⟩ := hrel
    have hcu := HU.out k (by rw [Hn.out]; exact hk)
    obtain ⟨x, hx⟩ : ∃ x, us.getD k 0 = x := ⟨_, rfl⟩
    have Hx := Lib.hid hx
    rw [hx] at hcu
    have hi0 : (0 : Int) ≤ (k : Int) := by omega
    have hi1 : (k : Int) < (n : Int) := by omega
    by_cases h0 : x = 0
    · have hx0 : ((x : Int) == 0) = true := by simp [h0]
      have hk1 : k + 1 < n := by
        rcases Nat.lt_or_ge (k + 1) n with h | h
        · exact h
        · exfalso
          have e : us.length - 1 = k := by rw [Hn.out]; omega
          exact HLst.out (by rw [e, Hx.out, h0])
      have hz2 : Hid (∀ j, j < k + 1 → us.getD j 0 = 0) := Lib.hid (fun j hj => by
        rcases Nat.lt_or_ge j k with h | h
        · exact hz.out j h
        · obtain rfl : j = k := by omega
          rw [Hx.out, h0])
      clear hx h0 hz
      go_wp2_with fail
      go_roundw
      case rel => exact ⟨k + 1, hk1, by go_num, hz2, trivial⟩
      case measure => simp [intOf]; omega
    · have hx0 : ((x : Int) == 0) = false := by simp; omega
      have h2 := twos_words (us := us) (k := k) (by rw [Hn.out]; exact hk) hz.out (by rw [hx]; exact h0) (HW0.out k)
      rw [hx] at h2
      have hTz := Lib.hid (tz64_any x (by rw [← hx]; exact HW0.out k) h0 wr HT.out)
      obtain ⟨t, ht⟩ : ∃ t, Lib.ctzFrom 64 x = t := ⟨_, rfl⟩
      rw [ht] at h2 hTz
      have ht64 := h2.2
      have hs2 : (k : Int) * 64 + (t : Int) = ((k * 64 + t : Nat) : Int) := by omega
      have HR : Hid (TwosIs (wv us) w (.returned (.int .i64 ((k * 64 + t : Nat) : Int))) wr) := Lib.hid ⟨_, rfl, h2.1, by omega, HB.out⟩
      rw [← hs2] at HR
      clear hx h0 hz h2 ht hs2
      go_wp2_with fail
      refine hTz.out.mono ?_
      rintro e w2 ⟨rfl, rfl⟩
      clear hTz
      go_wp2_with fail
      go_ret
      exact HR.out
end Go.Proofs.YtckglpkafhmehaaGreatDoor
namespace Go.Proofs.YtckglpkafhmehaaGreatDoor
open Go.RowKit
set_option linter.unusedVariables false
/-- Three boxes. -/
structure G3 (w W : World) (v1 v2 : Value) : Prop where
  b1 : Blk W w.heap.size 31 #[v1]
  b2 : Blk W (w.heap.size + 1) 31 #[v2]
  b3 : Blk W (w.heap.size + 1 + 1) 31 #[.slice none 0 0]
  bel : Below w.heap.size w W
theorem G3.new (w : World) (v1 v2 : Value) : G3 w (((w.alloc (.cells #[v1] 31)).alloc (.cells #[v2] 31)).alloc (.cells #[.slice none 0 0] 31)) v1 v2 := by
  have k1 := ((Blk.new w 31 #[v1]).alloc (.cells #[v2] 31)).alloc (.cells #[.slice none 0 0] 31)
  have k2 := (Blk.new (w.alloc (.cells #[v1] 31)) 31 #[v2]).alloc (.cells #[.slice none 0 0] 31)
  have k3 := Blk.new ((w.alloc (.cells #[v1] 31)).alloc (.cells #[v2] 31)) 31 #[.slice none 0 0]
  simp only [World.size_alloc] at k2 k3
  exact ⟨k1, k2, k3, (((Below.refl _ w).alloc (Nat.le_refl _) _).alloc (by simp) _).alloc (by simp; omega) _⟩
theorem G3.below {w W W' : World} {v1 v2 : Value} {B : Nat} (h : G3 w W v1 v2) (hb : Below B W W') (hB : w.heap.size + 3 ≤ B) : G3 w W' v1 v2 :=
  ⟨h.b1.below hb (by omega), h.b2.below hb (by omega), h.b3.below hb (by omega), h.bel.trans (hb.mono (by omega))⟩
theorem G3.size {w W : World} {v1 v2 : Value} (h : G3 w W v1 v2) : w.heap.size + 3 ≤ W.heap.size := by have := h.b3.lt; omega
theorem G3.set {w W : World} {v1 v2 : Value} (h : G3 w W v1 v2) (u1 u2 : Value) : G3 w ((W.setCell ⟨w.heap.size, 0, none⟩ u1).setCell ⟨w.heap.size + 1, 0, none⟩ u2) u1 u2 :=
  ⟨(h.b1.set_ 0 u1).far (p := ⟨w.heap.size + 1, 0, none⟩) (by show w.heap.size ≠ w.heap.size + 1; omega) _,
   (h.b2.far (p := ⟨w.heap.size, 0, none⟩) (by show w.heap.size + 1 ≠ w.heap.size; omega) u1).set_ 0 u2,
   (h.b3.far (p := ⟨w.heap.size, 0, none⟩) (by show w.heap.size + 1 + 1 ≠ w.heap.size; omega) u1).far (p := ⟨w.heap.size + 1, 0, none⟩) (by show w.heap.size + 1 + 1 ≠ w.heap.size + 1; omega) u2,
   (h.bel.setCell (p := ⟨w.heap.size, 0, none⟩) (Nat.le_refl w.heap.size) u1).setCell (p := ⟨w.heap.size + 1, 0, none⟩) (by show w.heap.size ≤ w.heap.size + 1; omega) u2⟩
theorem G3.drew {w W : World} {v1 v2 : Value} (h : G3 w W v1 v2) : G3 w W.drew v1 v2 := ⟨h.b1, h.b2, h.b3, h.bel.drew⟩
theorem G3.num {w W : World} {x1 x2 : Option Addr} {y1 z1 y2 z2 N : Nat} {v u1 u2 : Value} (h : G3 w W (.slice x1 y1 z1) (.slice x2 y2 z2)) (hn : IsN W v N) : IsN ((W.setCell ⟨w.heap.size, 0, none⟩ u1).setCell ⟨w.heap.size + 1, 0, none⟩ u2) v N :=
  isN_stores (b := w.heap.size) hn (fun ad n c e => by
    have h1 := isN_box hn h.b1 ad n c e
    have h2 := isN_box hn h.b2 ad n c e
    omega)
theorem gcd_step (X Y : Nat) : Nat.gcd Y (X % Y) = Nat.gcd X Y := by rw [Nat.gcd_comm X Y, Nat.gcd_rec Y X, Nat.gcd_comm]
theorem isN_one {W : World} {x : Option Addr} {y z N : Nat} (h : IsN W (.agg #[.slice x y z]) N) (hy : y ≤ 1) : N < 18446744073709551616 := by
  obtain ⟨a', c'', us, he, _, _, hw, hv, _⟩ := h
  have h1 := congrArg (fun v => match v with | Value.agg xs => xs[0]? | _ => none) he
  simp at h1
  have hl := wv_lt us hw
  rw [← hv]
  refine Nat.lt_of_lt_of_le hl ?_
  have := w64_mono (j := us.length) (k := 1) (by omega)
  rwa [Nat.pow_one] at this
set_option maxRecDepth 100000 in
set_option maxHeartbeats 4000000 in
theorem gcdo_any (M N : Nat) (va vb : Value) (w : World) (ha : IsN w va M) (hb : IsN w vb N) (hM : M < 18446744073709551616 ^ 8000) (hN : N < 18446744073709551616 ^ 8000) :
    Calls Tryz.prog 41 #[va, vb] w (GaveV (Nat.gcd M N) w) := by
  obtain ⟨a1, n1, c1, rfl⟩ := isN_form ha
  obtain ⟨a2, n2, c2, rfl⟩ := isN_form hb
  have hg0 := G3.new w (.slice a1 n1 c1) (.slice a2 n2 c2)
  obtain ⟨W3, hW3⟩ : ∃ W3, (((w.alloc (.cells #[.slice a1 n1 c1] 31)).alloc (.cells #[.slice a2 n2 c2] 31)).alloc (.cells #[.slice none 0 0] 31)) = W3 := ⟨_, rfl⟩
  rw [hW3] at hg0
  have HG0 := Lib.hid hg0
  have HX0 := Lib.hid (ha.below hg0.bel (Nat.le_refl _))
  have HY0 := Lib.hid (hb.below hg0.bel (Nat.le_refl _))
  have HL0 := Lib.hid (And.intro hM hN)
  clear ha hb hg0 hM hN
  go_enter Tryz.func41, Tryz.ntmps41
  go_wp2_with fail
  go_loopw [] (fun wr => ∃ (X Y : Nat) (x : Option Addr) (y z : Nat) (x' : Option Addr) (y' z' : Nat), Hid (G3 w wr (.slice x y z) (.slice x' y' z')) ∧ Hid (IsN wr (.agg #[.slice x y z]) X) ∧ Hid (IsN wr (.agg #[.slice x' y' z']) Y) ∧ Hid (Nat.gcd X Y = Nat.gcd M N) ∧ Hid (X < 18446744073709551616 ^ 8000 ∧ Y < 18446744073709551616 ^ 8000)) (fun wr => numAt wr (.pointer (some ⟨w.heap.size + 1, 0, none⟩)))
  case atStart => exact ⟨M, N, a1, n1, c1, a2, n2, c2, HG0, HX0, HY0, Lib.hid rfl, HL0⟩
  case round =>
    clear HG0 HX0 HY0 HL0 hW3
    obtain ⟨X, Y, x, y, z, x', y', z', hg, hX, hY, hC, hL⟩ := hrel
    have r1 : wr.cell? ⟨w.heap.size, 0, none⟩ = some (.slice x y z) := hg.out.b1.cell 0
    have r2 : wr.cell? ⟨w.heap.size + 1, 0, none⟩ = some (.slice x' y' z') := hg.out.b2.cell 0
    have Hms := Lib.hid (numAt_eq r2 hY.out)
    by_cases hsm : y ≤ 1 ∧ y' ≤ 1
    · have hX64 := isN_one hX.out hsm.1
      have hY64 := isN_one hY.out hsm.2
      have d1 : decide (1 < (y : Int)) = false := by simp; omega
      have d2 : decide (1 < (y' : Int)) = false := by simp; omega
      obtain ⟨XX, hXX⟩ : ∃ XX : Int, (X : Int) = XX := ⟨_, rfl⟩
      obtain ⟨YY, hYY⟩ : ∃ YY : Int, (Y : Int) = YY := ⟨_, rfl⟩
      have HS1 : Hid (Calls Tryz.prog 39 #[.agg #[.slice x y z]] wr fun e w' => e = .returned (.tuple #[.int .u64 XX, .bool true]) ∧ G3 w w' (.slice x y z) (.slice x' y' z') ∧ IsN w' (.agg #[.slice x' y' z']) Y) := Lib.hid ((small_any X _ wr hX.out).mono fun e w' h => by
        obtain ⟨h1, h2⟩ := h
        rcases h1 with ⟨_, h1⟩ | ⟨h1, _⟩
        · rw [hXX] at h1
          exact ⟨h1, hg.out.below h2 hg.out.size, hY.out.below h2 (Nat.le_refl _)⟩
        · omega)
      have hr0 : Hid (XX = (X : Int) ∧ YY = (Y : Int) ∧ X < 18446744073709551616 ∧ Y < 18446744073709551616 ∧ Nat.gcd X Y = Nat.gcd M N) := Lib.hid ⟨hXX.symm, hYY.symm, hX64, hY64, hC.out⟩
      have HYY := Lib.hid hYY
      have HY64 := Lib.hid hY64
      clear hsm hX64 hY64 hg hX hY hC hL Hms hXX hYY
      go_wp2_with fail
      refine HS1.out.mono ?_
      rintro e w5 ⟨rfl, hg5, hY5⟩
      have HS2 : Hid (Calls Tryz.prog 39 #[.agg #[.slice x' y' z']] w5 fun e w' => e = .returned (.tuple #[.int .u64 YY, .bool true]) ∧ G3 w w' (.slice x y z) (.slice x' y' z')) := Lib.hid ((small_any Y _ w5 hY5).mono fun e w' h => by
        obtain ⟨h1, h2⟩ := h
        rcases h1 with ⟨_, h1⟩ | ⟨h1, _⟩
        · rw [HYY.out] at h1
          exact ⟨h1, hg5.below h2 hg5.size⟩
        · have := HY64.out; omega)
      have q2 : w5.cell? ⟨w.heap.size + 1, 0, none⟩ = some (.slice x' y' z') := hg5.b2.cell 0
      clear hg5 hY5 HS1 r1 r2
      go_wp2_with fail
      refine HS2.out.mono ?_
      rintro e w6 ⟨rfl, hg6⟩
      have HG6 := Lib.hid hg6
      clear hg6 HS2 q2
      go_wp2_with fail
      go_loopw [8, 10] (fun xv yv wq => ∃ (P R : Nat) (PP RR : Int), xv = .int .u64 PP ∧ yv = .int .u64 RR ∧ Hid (PP = (P : Int) ∧ RR = (R : Int) ∧ P < 18446744073709551616 ∧ R < 18446744073709551616 ∧ Nat.gcd P R = Nat.gcd M N) ∧ Hid (G3 w wq (.slice x y z) (.slice x' y' z'))) (fun _ yv _ => (intOf yv).toNat)
      case atStart => exact ⟨X, Y, XX, YY, rfl, rfl, hr0, HG6⟩
      case round =>
        clear hr0 HG6 HYY HY64
        obtain ⟨P, R, PP, RR, rfl, rfl, hr, hgq⟩ := hrel
        have hP0 : 0 ≤ PP := by have := hr.out.1; omega
        have hR0 : 0 ≤ RR := by have := hr.out.2.1; omega
        have hP1 : PP < 18446744073709551616 := by have := hr.out.1; have := hr.out.2.2.1; omega
        have hR1 : RR < 18446744073709551616 := by have := hr.out.2.1; have := hr.out.2.2.2.1; omega
        by_cases hz : RR = 0
        · have hR00 : R = 0 := by have := hr.out.2.1; omega
          have hPg : Hid (P = Nat.gcd M N) := Lib.hid (by rw [← hr.out.2.2.2.2, hR00, Nat.gcd_zero_right])
          have HOf : Hid (Calls Tryz.prog 35 #[.int .u64 PP] wr (GaveN P wr)) := Lib.hid (by rw [hr.out.1]; exact of_any P hr.out.2.2.1 wr)
          have d3 : decide (0 < RR) = false := by simp; omega
          clear hR00 hr hz
          go_wp2_with fail
          refine HOf.out.mono ?_
          rintro e w7 h7
          obtain ⟨x7, y7, z7, rfl, hN7, hb7⟩ := gaveV h7
          have hg7 := hgq.out.below hb7 hgq.out.size
          have q1 : w7.cell? ⟨w.heap.size + 1 + 1, 0, none⟩ = some (.slice none 0 0) := hg7.b3.cell 0
          have q3 : w7.frozen? ⟨w.heap.size + 1 + 1, 0, none⟩ = false := hg7.b3.frozen 0
          have HJ := Lib.hid (hg7.b3.set_ 0 (.slice x7 y7 z7))
          have HR : Hid (GaveV (Nat.gcd M N) w (.returned (.agg #[.slice x7 y7 z7])) (w7.setCell ⟨w.heap.size + 1 + 1, 0, none⟩ (.slice x7 y7 z7))) := Lib.hid ⟨x7, y7, z7, rfl, by rw [← hPg.out]; exact isN_set1 hN7 (isN_box hN7 hg7.b3), hg7.bel.setCell (p := ⟨w.heap.size + 1 + 1, 0, none⟩) (by show w.heap.size ≤ w.heap.size + 1 + 1; omega) _⟩
          clear h7 hN7 hb7 hg7 HOf hgq
          go_wp2_with fail
          refine bodyPost_ret (res_nat rfl _ _ (w.heap.size + 1 + 1) (.slice x7 y7 z7) rfl HJ.out) rfl ?_
          exact HR.out
        · have hR2 : 0 < RR := by omega
          have d3 : decide (0 < RR) = true := by simp; omega
          have d4 : (RR == 0) = false := by simp; omega
          obtain ⟨Z, hZ⟩ : ∃ Z : Int, PP % RR = Z := ⟨_, rfl⟩
          have hZ2 : Int.tmod PP RR = Z := by rw [Int.tmod_eq_emod_of_nonneg hP0]; exact hZ
          have hZ3 : 0 ≤ Z := by rw [← hZ]; exact Int.emod_nonneg _ (by omega)
          have hZ4 : Z < RR := by rw [← hZ]; exact Int.emod_lt_of_pos _ hR2
          have hZ5 : IntKind.u64.wrap Z = Z := IntWalk.u64_in _ ⟨by omega, by omega⟩
          have hr2 : Hid (RR = (R : Int) ∧ Z = ((P % R : Nat) : Int) ∧ R < 18446744073709551616 ∧ P % R < 18446744073709551616 ∧ Nat.gcd R (P % R) = Nat.gcd M N) := Lib.hid ⟨hr.out.2.1, by rw [← hZ, hr.out.1, hr.out.2.1]; exact (Int.natCast_emod P R).symm, hr.out.2.2.2.1, Nat.lt_of_le_of_lt (Nat.mod_le _ _) hr.out.2.2.1, by rw [gcd_step]; exact hr.out.2.2.2.2⟩
          have hgd : Hid (G3 w wr.drew (.slice x y z) (.slice x' y' z')) := Lib.hid hgq.out.drew
          clear hr hgq hz
          go_wp2_with fail
          go_region
          go_wp2_with fail
          go_roundw
          case rel => exact ⟨R, P % R, RR, Z, rfl, rfl, hr2, hgd⟩
          case measure => simp [intOf]; omega
    · have hlen : (1 < (y : Int)) ∨ ¬ (1 < (y : Int)) ∧ (1 < (y' : Int)) := by omega
      clear hsm
      rcases hlen with hl1 | ⟨hl1, hl2⟩
      · have d1 : decide (1 < (y : Int)) = true := by simp; omega
        by_cases hY0 : Y = 0
        · have HZ := Lib.hid (zero_yes (v := .agg #[.slice x' y' z']) (w := wr) (by have := hY.out; rwa [hY0] at this))
          have hXg : Hid (X = Nat.gcd M N) := Lib.hid (by rw [← hC.out, hY0, Nat.gcd_zero_right])
          clear hY0
          go_wp2_with fail
          refine HZ.out.mono ?_
          rintro e w5 ⟨rfl, hb5⟩
          have hg5 := hg.out.below hb5 hg.out.size
          have hX5 := hX.out.below hb5 (Nat.le_refl _)
          have q1 : w5.cell? ⟨w.heap.size, 0, none⟩ = some (.slice x y z) := hg5.b1.cell 0
          have q2 : w5.cell? ⟨w.heap.size + 1 + 1, 0, none⟩ = some (.slice none 0 0) := hg5.b3.cell 0
          have q3 : w5.frozen? ⟨w.heap.size + 1 + 1, 0, none⟩ = false := hg5.b3.frozen 0
          have HJ := Lib.hid (hg5.b3.set_ 0 (.slice x y z))
          have HR : Hid (GaveV (Nat.gcd M N) w (.returned (.agg #[.slice x y z])) (w5.setCell ⟨w.heap.size + 1 + 1, 0, none⟩ (.slice x y z))) := Lib.hid ⟨x, y, z, rfl, by rw [← hXg.out]; exact isN_set1 hX5 (isN_box hX5 hg5.b3), hg5.bel.setCell (p := ⟨w.heap.size + 1 + 1, 0, none⟩) (by show w.heap.size ≤ w.heap.size + 1 + 1; omega) _⟩
          clear hg5 hX5 hb5 HZ hg hX hY hC hL Hms
          go_wp2_with fail
          refine bodyPost_ret (res_nat rfl _ _ (w.heap.size + 1 + 1) (.slice x y z) rfl HJ.out) rfl ?_
          exact HR.out
        · have HZ := Lib.hid (zero_no (v := .agg #[.slice x' y' z']) (w := wr) hY.out hY0)
          have HY0 := Lib.hid hY0
          clear hY0
          go_wp2_with fail
          refine HZ.out.mono ?_
          rintro e w5 ⟨rfl, hb5⟩
          have Hg5 := Lib.hid (hg.out.below hb5 hg.out.size)
          have HY5 := Lib.hid (hY.out.below hb5 (Nat.le_refl _))
          have HDv := Lib.hid (dvm_any X Y _ _ w5 (hX.out.below hb5 (Nat.le_refl _)) HY5.out hL.out.1)
          have q1 : w5.cell? ⟨w.heap.size, 0, none⟩ = some (.slice x y z) := Hg5.out.b1.cell 0
          have q2 : w5.cell? ⟨w.heap.size + 1, 0, none⟩ = some (.slice x' y' z') := Hg5.out.b2.cell 0
          clear hb5 HZ hg hX hY r1 r2
          go_wp2_with fail
          refine HDv.out.mono ?_
          rintro e w6 ⟨h6, hb6⟩
          obtain ⟨_, xq, yq, zq, xr, yr, zr, rfl, hNq, hNr⟩ : 0 < Y ∧ ∃ x y z x' y' z', e = .returned (.tuple #[.agg #[.slice x y z], .agg #[.slice x' y' z'], .bool true]) ∧ IsN w6 (.agg #[.slice x y z]) (X / Y) ∧ IsN w6 (.agg #[.slice x' y' z']) (X % Y) := by
            rcases h6 with ⟨h0, _⟩ | h
            · exact absurd h0 HY0.out
            · exact h
          have hb67 : Below w6.heap.size w6 ((w6.alloc (.cells #[.slice xq yq zq] 31)).alloc (.cells #[.slice xr yr zr] 31)) := ((Below.refl _ w6).alloc (Nat.le_refl _) _).alloc (by simp) _
          have hb57 := hb6.trans (hb67.mono hb6.size)
          have Hg7 := Lib.hid (Hg5.out.below hb57 Hg5.out.size)
          have HY7 := Lib.hid (HY5.out.below hb57 (Nat.le_refl _))
          have HR7 := Lib.hid (hNr.below hb67 (Nat.le_refl _))
          have hkr := Blk.new (w6.alloc (.cells #[.slice xq yq zq] 31)) 31 #[.slice xr yr zr]
          rw [World.size_alloc] at hkr
          obtain ⟨g, hgg⟩ : ∃ g, w6.heap.size = g := ⟨_, rfl⟩
          obtain ⟨W7, hW7⟩ : ∃ W7, (w6.alloc (.cells #[.slice xq yq zq] 31)).alloc (.cells #[.slice xr yr zr] 31) = W7 := ⟨_, rfl⟩
          have hgs : w.heap.size + 3 ≤ g := by have := Hg5.out.size; have := hb6.size; omega
          rw [hW7] at Hg7 HY7 HR7 hkr
          rw [hgg] at hkr
          have q3 : W7.drew.cell? ⟨w.heap.size, 0, none⟩ = some (.slice x y z) := Hg7.out.b1.cell 0
          have q4 : W7.drew.cell? ⟨w.heap.size + 1, 0, none⟩ = some (.slice x' y' z') := Hg7.out.b2.cell 0
          have q5 : W7.drew.cell? ⟨g + 1, 0, none⟩ = some (.slice xr yr zr) := hkr.cell 0
          have q6 : W7.drew.frozen? ⟨w.heap.size, 0, none⟩ = false := Hg7.out.b1.frozen 0
          have q7 : W7.drew.frozen? ⟨w.heap.size + 1, 0, none⟩ = false := Hg7.out.b2.frozen 0
          have q3' : W7.cell? ⟨w.heap.size, 0, none⟩ = some (.slice x y z) := q3
          have q4' : W7.cell? ⟨w.heap.size + 1, 0, none⟩ = some (.slice x' y' z') := q4
          have q5' : W7.cell? ⟨g + 1, 0, none⟩ = some (.slice xr yr zr) := q5
          have q6' : W7.frozen? ⟨w.heap.size, 0, none⟩ = false := q6
          have q7' : W7.frozen? ⟨w.heap.size + 1, 0, none⟩ = false := q7
          have q8 : (W7.setCell ⟨w.heap.size, 0, none⟩ (.slice x' y' z')).cell? ⟨g + 1, 0, none⟩ = some (.slice xr yr zr) := (World.cell?_setCell_other _ _ _ _ (fun e => by have := congrArg Addr.block e; simp at this; omega)).trans q5'
          have HW7 := Lib.hid hW7
          have Hgg := Lib.hid hgg
          have HG9 := Lib.hid (Hg7.out.set (.slice x' y' z') (.slice xr yr zr)).drew
          have HX9 := Lib.hid (Hg7.out.num (u1 := .slice x' y' z') (u2 := .slice xr yr zr) HY7.out).drew2
          have HY9 := Lib.hid (Hg7.out.num (u1 := .slice x' y' z') (u2 := .slice xr yr zr) HR7.out).drew2
          have HC9 : Hid (Nat.gcd Y (X % Y) = Nat.gcd M N) := Lib.hid (by rw [gcd_step]; exact hC.out)
          have HL9 : Hid (Y < 18446744073709551616 ^ 8000 ∧ X % Y < 18446744073709551616 ^ 8000) := Lib.hid ⟨hL.out.2, Nat.lt_of_le_of_lt (Nat.mod_le _ _) hL.out.1⟩
          have HM9 := Lib.hid (numAt_eq (HG9.out.b2.cell 0) HY9.out)
          have HYm : Hid (X % Y < Y) := Lib.hid (Nat.mod_lt _ (by have := HY0.out; omega))
          clear h6 hb6 hb67 hb57 hNq hNr hkr HDv Hg7 HY7 HR7 hW7 hgg hC hL
          go_wp2_with fail
          rw [HW7.out, Hgg.out]
          go_region
          go_wp2_with fail
          go_roundw
          case rel => exact ⟨Y, X % Y, x', y', z', xr, yr, zr, HG9, HX9, HY9, HC9, HL9⟩
          case measure => (show numAt _ _ < numAt _ _); rw [HM9.out, Hms.out]; exact HYm.out
      · have d1 : decide (1 < (y : Int)) = false := by simp; omega
        have d2 : decide (1 < (y' : Int)) = true := by simp; omega
        by_cases hY0 : Y = 0
        · have HZ := Lib.hid (zero_yes (v := .agg #[.slice x' y' z']) (w := wr) (by have := hY.out; rwa [hY0] at this))
          have hXg : Hid (X = Nat.gcd M N) := Lib.hid (by rw [← hC.out, hY0, Nat.gcd_zero_right])
          clear hY0
          go_wp2_with fail
          refine HZ.out.mono ?_
          rintro e w5 ⟨rfl, hb5⟩
          have hg5 := hg.out.below hb5 hg.out.size
          have hX5 := hX.out.below hb5 (Nat.le_refl _)
          have q1 : w5.cell? ⟨w.heap.size, 0, none⟩ = some (.slice x y z) := hg5.b1.cell 0
          have q2 : w5.cell? ⟨w.heap.size + 1 + 1, 0, none⟩ = some (.slice none 0 0) := hg5.b3.cell 0
          have q3 : w5.frozen? ⟨w.heap.size + 1 + 1, 0, none⟩ = false := hg5.b3.frozen 0
          have HJ := Lib.hid (hg5.b3.set_ 0 (.slice x y z))
          have HR : Hid (GaveV (Nat.gcd M N) w (.returned (.agg #[.slice x y z])) (w5.setCell ⟨w.heap.size + 1 + 1, 0, none⟩ (.slice x y z))) := Lib.hid ⟨x, y, z, rfl, by rw [← hXg.out]; exact isN_set1 hX5 (isN_box hX5 hg5.b3), hg5.bel.setCell (p := ⟨w.heap.size + 1 + 1, 0, none⟩) (by show w.heap.size ≤ w.heap.size + 1 + 1; omega) _⟩
          clear hg5 hX5 hb5 HZ hg hX hY hC hL Hms
          go_wp2_with fail
          refine bodyPost_ret (res_nat rfl _ _ (w.heap.size + 1 + 1) (.slice x y z) rfl HJ.out) rfl ?_
          exact HR.out
        · have HZ := Lib.hid (zero_no (v := .agg #[.slice x' y' z']) (w := wr) hY.out hY0)
          have HY0 := Lib.hid hY0
          clear hY0
          go_wp2_with fail
          refine HZ.out.mono ?_
          rintro e w5 ⟨rfl, hb5⟩
          have Hg5 := Lib.hid (hg.out.below hb5 hg.out.size)
          have HY5 := Lib.hid (hY.out.below hb5 (Nat.le_refl _))
          have HDv := Lib.hid (dvm_any X Y _ _ w5 (hX.out.below hb5 (Nat.le_refl _)) HY5.out hL.out.1)
          have q1 : w5.cell? ⟨w.heap.size, 0, none⟩ = some (.slice x y z) := Hg5.out.b1.cell 0
          have q2 : w5.cell? ⟨w.heap.size + 1, 0, none⟩ = some (.slice x' y' z') := Hg5.out.b2.cell 0
          clear hb5 HZ hg hX hY r1 r2
          go_wp2_with fail
          refine HDv.out.mono ?_
          rintro e w6 ⟨h6, hb6⟩
          obtain ⟨_, xq, yq, zq, xr, yr, zr, rfl, hNq, hNr⟩ : 0 < Y ∧ ∃ x y z x' y' z', e = .returned (.tuple #[.agg #[.slice x y z], .agg #[.slice x' y' z'], .bool true]) ∧ IsN w6 (.agg #[.slice x y z]) (X / Y) ∧ IsN w6 (.agg #[.slice x' y' z']) (X % Y) := by
            rcases h6 with ⟨h0, _⟩ | h
            · exact absurd h0 HY0.out
            · exact h
          have hb67 : Below w6.heap.size w6 ((w6.alloc (.cells #[.slice xq yq zq] 31)).alloc (.cells #[.slice xr yr zr] 31)) := ((Below.refl _ w6).alloc (Nat.le_refl _) _).alloc (by simp) _
          have hb57 := hb6.trans (hb67.mono hb6.size)
          have Hg7 := Lib.hid (Hg5.out.below hb57 Hg5.out.size)
          have HY7 := Lib.hid (HY5.out.below hb57 (Nat.le_refl _))
          have HR7 := Lib.hid (hNr.below hb67 (Nat.le_refl _))
          have hkr := Blk.new (w6.alloc (.cells #[.slice xq yq zq] 31)) 31 #[.slice xr yr zr]
          rw [World.size_alloc] at hkr
          obtain ⟨g, hgg⟩ : ∃ g, w6.heap.size = g := ⟨_, rfl⟩
          obtain ⟨W7, hW7⟩ : ∃ W7, (w6.alloc (.cells #[.slice xq yq zq] 31)).alloc (.cells #[.slice xr yr zr] 31) = W7 := ⟨_, rfl⟩
          have hgs : w.heap.size + 3 ≤ g := by have := Hg5.out.size; have := hb6.size; omega
          rw [hW7] at Hg7 HY7 HR7 hkr
          rw [hgg] at hkr
          have q3 : W7.drew.cell? ⟨w.heap.size, 0, none⟩ = some (.slice x y z) := Hg7.out.b1.cell 0
          have q4 : W7.drew.cell? ⟨w.heap.size + 1, 0, none⟩ = some (.slice x' y' z') := Hg7.out.b2.cell 0
          have q5 : W7.drew.cell? ⟨g + 1, 0, none⟩ = some (.slice xr yr zr) := hkr.cell 0
          have q6 : W7.drew.frozen? ⟨w.heap.size, 0, none⟩ = false := Hg7.out.b1.frozen 0
          have q7 : W7.drew.frozen? ⟨w.heap.size + 1, 0, none⟩ = false := Hg7.out.b2.frozen 0
          have q3' : W7.cell? ⟨w.heap.size, 0, none⟩ = some (.slice x y z) := q3
          have q4' : W7.cell? ⟨w.heap.size + 1, 0, none⟩ = some (.slice x' y' z') := q4
          have q5' : W7.cell? ⟨g + 1, 0, none⟩ = some (.slice xr yr zr) := q5
          have q6' : W7.frozen? ⟨w.heap.size, 0, none⟩ = false := q6
          have q7' : W7.frozen? ⟨w.heap.size + 1, 0, none⟩ = false := q7
          have q8 : (W7.setCell ⟨w.heap.size, 0, none⟩ (.slice x' y' z')).cell? ⟨g + 1, 0, none⟩ = some (.slice xr yr zr) := (World.cell?_setCell_other _ _ _ _ (fun e => by have := congrArg Addr.block e; simp at this; omega)).trans q5'
          have HW7 := Lib.hid hW7
          have Hgg := Lib.hid hgg
          have HG9 := Lib.hid (Hg7.out.set (.slice x' y' z') (.slice xr yr zr)).drew
          have HX9 := Lib.hid (Hg7.out.num (u1 := .slice x' y' z') (u2 := .slice xr yr zr) HY7.out).drew2
          have HY9 := Lib.hid (Hg7.out.num (u1 := .slice x' y' z') (u2 := .slice xr yr zr) HR7.out).drew2
          have HC9 : Hid (Nat.gcd Y (X % Y) = Nat.gcd M N) := Lib.hid (by rw [gcd_step]; exact hC.out)
          have HL9 : Hid (Y < 18446744073709551616 ^ 8000 ∧ X % Y < 18446744073709551616 ^ 8000) := Lib.hid ⟨hL.out.2, Nat.lt_of_le_of_lt (Nat.mod_le _ _) hL.out.1⟩
          have HM9 := Lib.hid (numAt_eq (HG9.out.b2.cell 0) HY9.out)
          have HYm : Hid (X % Y < Y) := Lib.hid (Nat.mod_lt _ (by have := HY0.out; omega))
          clear h6 hb6 hb67 hb57 hNq hNr hkr HDv Hg7 HY7 HR7 hW7 hgg hC hL
          go_wp2_with fail
          rw [HW7.out, Hgg.out]
          go_region
          go_wp2_with fail
          go_roundw
          case rel => exact ⟨Y, X % Y, x', y', z', xr, yr, zr, HG9, HX9, HY9, HC9, HL9⟩
          case measure => (show numAt _ _ < numAt _ _); rw [HM9.out, Hms.out]; exact HYm.out
end Go.Proofs.YtckglpkafhmehaaGreatDoor
namespace Go.Proofs.YtckglpkafhmehaaGreatDoor
open Go.RowKit
set_option linter.unusedVariables false
set_option maxRecDepth 100000 in
set_option maxHeartbeats 2000000 in
theorem shup_any (N d : Nat) (v : Value) (BY : Int) (w : World) (h : IsN w v N) (hN : N < 18446744073709551616 ^ 9000) (hd : d ≤ 20000) (hBY : BY = (d : Int)) :
    Calls Tryz.prog 43 #[v, .int .i64 BY] w (GaveV (N * 2 ^ d) w) := by
  obtain ⟨a, n, c, rfl⟩ := isN_form h
  obtain ⟨W2, hW2⟩ : ∃ W2, ((w.alloc (.cells #[.slice a n c] 31)).alloc (.cells #[.slice none 0 0] 31)) = W2 := ⟨_, rfl⟩
  have k1 : Blk W2 w.heap.size 31 #[.slice a n c] := by rw [← hW2]; exact (Blk.new w _ _).alloc _
  have k2 : Blk W2 (w.heap.size + 1) 31 #[.slice none 0 0] := by
    have := Blk.new (w.alloc (.cells #[.slice a n c] 31)) 31 #[.slice none 0 0]
    rw [World.size_alloc, hW2] at this
    exact this
  have hb2 : Below w.heap.size w W2 := by rw [← hW2]; exact ((Below.refl _ w).alloc (Nat.le_refl _) _).alloc (by simp) _
  have q1 : W2.cell? ⟨w.heap.size, 0, none⟩ = some (.slice a n c) := k1.cell 0
  have HSh := Lib.hid (shu_any N d _ BY W2 (h.below hb2 (Nat.le_refl _)) hN hd hBY)
  have HK := Lib.hid (And.intro k2 hb2)
  have hBY1 : ¬ 20000 < BY := by omega
  have d1 : decide (20000 < BY) = false := by simp; omega
  clear h k1 k2 hb2 hBY
  go_enter Tryz.func43, Tryz.ntmps43
  go_wp2_with fail
  go_loopw [1] (fun iv wr => iv = .int .i64 BY ∧ wr = W2) (fun _ _ => 0)
  case atStart => exact ⟨rfl, rfl⟩
  case round =>
    obtain ⟨rfl, rfl⟩ := hrel
    go_wp2_with fail
    refine HSh.out.mono ?_
    rintro e w7 h7
    obtain ⟨x7, y7, z7, rfl, hN7, hb7⟩ := gaveV (gaveF_n h7)
    have hk7 := HK.out.1.below hb7 HK.out.1.lt
    have q2 : w7.cell? ⟨w.heap.size + 1, 0, none⟩ = some (.slice none 0 0) := hk7.cell 0
    have q3 : w7.frozen? ⟨w.heap.size + 1, 0, none⟩ = false := hk7.frozen 0
    have HJ := Lib.hid (hk7.set_ 0 (.slice x7 y7 z7))
    have HR : Hid (GaveV (N * 2 ^ d) w (.returned (.agg #[.slice x7 y7 z7])) (w7.setCell ⟨w.heap.size + 1, 0, none⟩ (.slice x7 y7 z7))) := Lib.hid ⟨x7, y7, z7, rfl, isN_set1 hN7 (isN_box hN7 hk7), (HK.out.2.trans (hb7.mono HK.out.2.size)).setCell (p := ⟨w.heap.size + 1, 0, none⟩) (by show w.heap.size ≤ w.heap.size + 1; omega) _⟩
    clear h7 hN7 hb7 hk7 HSh
    go_wp2_with fail
    refine bodyPost_ret (res_nat rfl _ _ (w.heap.size + 1) (.slice x7 y7 z7) rfl HJ.out) rfl ?_
    exact HR.out
end Go.Proofs.YtckglpkafhmehaaGreatDoor
namespace Go.Proofs.YtckglpkafhmehaaGreatDoor
open Go.RowKit
set_option linter.unusedVariables false
theorem gaveVF {N : Nat} {w : World} {e : Ending} {w' : World} (h : GaveF N w e w') : GaveV N w e w' := gaveV (gaveF_n h)
theorem w26 {x : Nat} (k : Nat) (h : x < 18446744073709551616 ^ 40) (hk : 40 ≤ k) : x < 18446744073709551616 ^ k := Nat.lt_of_lt_of_le h (w64_mono hk)
theorem sh_neg (N d : Nat) (v : Value) (BY : Int) (w : World) (h : IsN w v N) (hN : N < 18446744073709551616 ^ 9000) (hd : d ≤ 500) (hBY : BY = -(d : Int)) :
    Calls Tryz.prog 42 #[v, .int .i64 BY] w (GaveV (N / 2 ^ d) w) := by
  rcases Nat.eq_zero_or_pos d with rfl | h0
  · have := shu_any N 0 v BY w h hN (by omega) (by omega)
    rw [Nat.pow_zero, Nat.mul_one] at this
    rw [Nat.pow_zero, Nat.div_one]
    exact this.mono fun _ _ h => gaveVF h
  · exact (shn_any N d v BY w h h0 (by omega) hBY).mono fun _ _ h => gaveVF h
theorem isTwos_div {N T : Nat} (h : IsTwos N T) : N = 2 ^ T * (N / 2 ^ T) ∧ N / 2 ^ T % 2 = 1 := by
  obtain ⟨m, rfl⟩ := h
  have h0 : 0 < 2 ^ T := Nat.pow_pos (by decide)
  rw [Nat.mul_div_cancel_left _ h0]
  exact ⟨rfl, by omega⟩
theorem isTwos_lt {N T k : Nat} (h : IsTwos N T) (hN : N < 18446744073709551616 ^ k) : T ≤ 64 * k := by
  obtain ⟨m, rfl⟩ := h
  rcases Nat.lt_or_ge (64 * k) T with h1 | h1
  · exfalso
    have e1 : (18446744073709551616 : Nat) = 2 ^ 64 := by decide
    rw [e1, ← Nat.pow_mul] at hN
    have h2 : 2 ^ (64 * k) ≤ 2 ^ T := Nat.pow_le_pow_right (by decide) (by omega)
    have h3 : 2 ^ T ≤ 2 ^ T * (2 * m + 1) := Nat.le_mul_of_pos_right _ (by omega)
    omega
  · exact h1
theorem cop_two {m : Nat} (h : m % 2 = 1) (k : Nat) : Nat.Coprime (2 ^ k) m := by
  refine Nat.Coprime.pow_left k ?_
  show Nat.gcd 2 m = 1
  rw [Nat.gcd_rec, h]
  rfl
theorem gcd_twos_le {m n T k : Nat} (hm : m % 2 = 1) : Nat.gcd (2 ^ T * m) (2 ^ (T + k) * n) = Nat.gcd m n * 2 ^ T := by
  rw [Nat.pow_add, Nat.mul_assoc, Nat.gcd_mul_left, Nat.Coprime.gcd_mul_left_cancel_right _ (cop_two hm k), Nat.mul_comm]
theorem gcd_twos {M N S T : Nat} (hM : IsTwos M S) (hN : IsTwos N T) : Nat.gcd (M / 2 ^ S) (N / 2 ^ T) * 2 ^ (min S T) = Nat.gcd M N := by
  obtain ⟨h1, h2⟩ := isTwos_div hM
  obtain ⟨h3, h4⟩ := isTwos_div hN
  generalize M / 2 ^ S = m at *
  generalize N / 2 ^ T = n at *
  subst h1 h3
  rcases Nat.le_total S T with h | h
  · obtain ⟨k, rfl⟩ := Nat.exists_eq_add_of_le h
    rw [Nat.min_eq_left h, gcd_twos_le h2]
  · obtain ⟨k, rfl⟩ := Nat.exists_eq_add_of_le h
    rw [Nat.min_eq_right h, Nat.gcd_comm (2 ^ _ * m), gcd_twos_le h4, Nat.gcd_comm]
/-- A shift to the right, of no places too. -/
theorem sh_down (N d : Nat) (v : Value) (BY : Int) (w : World) (h : IsN w v N) (hN : N < 18446744073709551616 ^ 9000) (hd : d ≤ 1000000) (hBY : BY = -(d : Int)) :
    Calls Tryz.prog 42 #[v, .int .i64 BY] w (GaveV (N / 2 ^ d) w) := by
  rcases Nat.eq_zero_or_pos d with rfl | h0
  · exact sh_neg N 0 v BY w h hN (by omega) hBY
  · exact (shn_any N d v BY w h h0 hd hBY).mono fun _ _ h => gaveVF h
/-- The first number is made. -/
structure AtGa (wb : World) (v : Value) (A : Nat) (W : World) : Prop where
  bel : Below wb.heap.size wb W
  num : IsN W v A
theorem AtGa.alloc {wb W : World} {v : Value} {A : Nat} (h : AtGa wb v A W) (o : Obj) : AtGa wb v A (W.alloc o) :=
  ⟨h.bel.alloc h.bel.size o, h.num.below ((Below.refl _ W).alloc (Nat.le_refl _) o) (Nat.le_refl _)⟩
/-- Both are. -/
structure AtGb (wb : World) (v : Value) (A : Nat) (u : Value) (B : Nat) (W : World) : Prop where
  bel : Below wb.heap.size wb W
  num : IsN W v A
  num2 : IsN W u B
theorem AtGb.alloc {wb W : World} {v u : Value} {A B : Nat} (h : AtGb wb v A u B W) (o : Obj) : AtGb wb v A u B (W.alloc o) :=
  ⟨h.bel.alloc h.bel.size o, h.num.below ((Below.refl _ W).alloc (Nat.le_refl _) o) (Nat.le_refl _), h.num2.below ((Below.refl _ W).alloc (Nat.le_refl _) o) (Nat.le_refl _)⟩
set_option maxRecDepth 100000 in
set_option maxHeartbeats 8000000 in
theorem gcd_any (M N : Nat) (va vb : Value) (w : World) (ha : IsN w va M) (hb : IsN w vb N) (hM0 : M ≠ 0) (hN0 : N ≠ 0) (hM : M < 18446744073709551616 ^ 40) (hN : N < 18446744073709551616 ^ 40) (htab : TabB w) :
    Calls Tryz.prog 20 #[va, vb] w (GaveV (Nat.gcd M N) w) := by
  obtain ⟨a1, n1, c1, rfl⟩ := isN_form ha
  obtain ⟨a2, n2, c2, rfl⟩ := isN_form hb
  have hg0 := G3.new w (.slice a1 n1 c1) (.slice a2 n2 c2)
  obtain ⟨W3, hW3⟩ : ∃ W3, (((w.alloc (.cells #[.slice a1 n1 c1] 31)).alloc (.cells #[.slice a2 n2 c2] 31)).alloc (.cells #[.slice none 0 0] 31)) = W3 := ⟨_, rfl⟩
  rw [hW3] at hg0
  have HG0 := Lib.hid hg0
  have HX0 := Lib.hid (ha.below hg0.bel (Nat.le_refl _))
  have HY0 := Lib.hid (hb.below hg0.bel (Nat.le_refl _))
  have HT0 := Lib.hid (htab.below hg0.bel (Nat.le_refl _))
  have HM0 := Lib.hid hM0; have HN0 := Lib.hid hN0; have HM := Lib.hid hM; have HN := Lib.hid hN
  have r1 : W3.cell? ⟨w.heap.size, 0, none⟩ = some (.slice a1 n1 c1) := hg0.b1.cell 0
  have HZ1 := Lib.hid (zero_no HX0.out hM0)
  clear ha hb hg0 hM0 hN0 hM hN htab
  go_enter Tryz.func20, Tryz.ntmps20
  go_wp2_with fail
  refine HZ1.out.mono ?_
  rintro e w4 ⟨rfl, hb4⟩
  have HG4 := Lib.hid (HG0.out.below hb4 HG0.out.size)
  have HX4 := Lib.hid (HX0.out.below hb4 (Nat.le_refl _))
  have HY4 := Lib.hid (HY0.out.below hb4 (Nat.le_refl _))
  have HT4 := Lib.hid (HT0.out.below hb4 (Nat.le_refl _))
  have HZ2 := Lib.hid (zero_no HY4.out HN0.out)
  have r2 : w4.cell? ⟨w.heap.size + 1, 0, none⟩ = some (.slice a2 n2 c2) := HG4.out.b2.cell 0
  clear hb4 HG0 HX0 HY0 HT0 HZ1 r1
  go_wp2_with fail
  refine HZ2.out.mono ?_
  rintro e w5 ⟨rfl, hb5⟩
  have hg5 := HG4.out.below hb5 HG4.out.size
  have HG5 := Lib.hid hg5
  have HX5 := Lib.hid (HX4.out.below hb5 (Nat.le_refl _))
  have HY5 := Lib.hid (HY4.out.below hb5 (Nat.le_refl _))
  have HT5 := Lib.hid (HT4.out.below hb5 (Nat.le_refl _))
  have r3 : w5.drew.cell? ⟨w.heap.size, 0, none⟩ = some (.slice a1 n1 c1) := hg5.b1.cell 0
  have r4 : w5.drew.cell? ⟨w.heap.size + 1, 0, none⟩ = some (.slice a2 n2 c2) := hg5.b2.cell 0
  have HS : Hid (∀ W, Below w5.heap.size w5 W → W.cell? ⟨w.heap.size, 0, none⟩ = some (.slice a1 n1 c1) ∧ W.cell? ⟨w.heap.size + 1, 0, none⟩ = some (.slice a2 n2 c2)) := Lib.hid (fun W h => ⟨(hg5.b1.below h hg5.b1.lt).cell 0, (hg5.b2.below h hg5.b2.lt).cell 0⟩)
  have HTw1 : Hid (∀ W, Below w5.heap.size w5 W → Calls Tryz.prog 40 #[.agg #[.slice a1 n1 c1]] W fun e w' => ∃ T : Nat, e = .returned (.int .i64 (T : Int)) ∧ Hid (IsTwos M T) ∧ Below w5.heap.size w5 w') := Lib.hid (fun W h => (twos_any M _ W (HX5.out.below h (Nat.le_refl _)) HM0.out (HT5.out.below h (Nat.le_refl _))).mono fun e w' ⟨T, h1, h2, _, h3⟩ => ⟨T, h1, Lib.hid h2, h.trans (h3.mono h.size)⟩)
  have HTw2 : Hid (∀ W, Below w5.heap.size w5 W → Calls Tryz.prog 40 #[.agg #[.slice a2 n2 c2]] W fun e w' => ∃ T : Nat, e = .returned (.int .i64 (T : Int)) ∧ Hid (IsTwos N T) ∧ Below w5.heap.size w5 w') := Lib.hid (fun W h => (twos_any N _ W (HY5.out.below h (Nat.le_refl _)) HN0.out (HT5.out.below h (Nat.le_refl _))).mono fun e w' ⟨T, h1, h2, _, h3⟩ => ⟨T, h1, Lib.hid h2, h.trans (h3.mono h.size)⟩)
  have hd5 : Below w5.heap.size w5 w5.drew := (Below.refl _ _).drew
  clear hb5 hg5 HG4 HX4 HY4 HT4 HZ2 r2
  go_wp2_with fail
  refine wp_region_held_drew (S := (fun w' => w'.cell? ⟨w.heap.size, 0, none⟩ = some (.slice a1 n1 c1) ∧ w'.cell? ⟨w.heap.size + 1, 0, none⟩ = some (.slice a2 n2 c2))) (by kernel_rfl) ?_ (fun hHeld => ?_)
  · exact ⟨r3, r4⟩
  refine wpAnyH_take (i := 0) (oi := { dst := some 14, op := Op.load 31 (Operand.tmp 2), type := 31, pos := "gcd.go:13", after := #[], guard := none }) (v := ?_) rfl (by kernel_rfl) (by kernel_rfl) (by kernel_rfl) (fun _ _ _ h => h) (Or.inl ⟨by rfl, ?_⟩) (by assumption) ?_
  rotate_left
  · intro w hSw; (try dsimp only at hSw); go_simp; (try with_reducible rfl)
  try simp only [Act.put, List.setIfInBounds_toArray, List.set_cons_zero, List.set_cons_succ]
  refine wpAnyH_take (i := 2) (oi := { dst := some 16, op := Op.load 31 (Operand.tmp 3), type := 31, pos := "gcd.go:13", after := #[], guard := none }) (v := ?_) rfl (by kernel_rfl) (by kernel_rfl) (by kernel_rfl) (fun _ _ _ h => h) (Or.inl ⟨by rfl, ?_⟩) (by assumption) ?_
  rotate_left
  · intro w hSw; (try dsimp only at hSw); go_simp; (try with_reducible rfl)
  try simp only [Act.put, List.setIfInBounds_toArray, List.set_cons_zero, List.set_cons_succ]
  refine wpAnyH_ready (rs := [1]) (by kernel_rfl) (by simp) ?_
  refine AllReadyH.cons (o := { dst := some 15, op := Op.call { callee := Callee.value (Operand.func 40), args := #[Operand.tmp 14], argTypes := #[31] }, type := 3, pos := "gcd.go:13", after := #[{ on := 0, ground := Ground.data }], guard := none }) rfl (fun K hK => ?_) AllReadyH.nil
  go_simp
  go_at_call 40; refine (HTw1.out _ (by assumption)).mono ?_; rintro e w6 ⟨T1, rfl, hT1, hb6⟩
  refine hK.out _ _ ?_ (fun hHeld => ?_)
  · exact HS.out _ ‹_›
  clear hK K
  try simp only [Act.put, List.setIfInBounds_toArray, List.set_cons_zero, List.set_cons_succ]
  refine wpAnyH_ready (rs := [3]) (by kernel_rfl) (by simp) ?_
  refine AllReadyH.cons (o := { dst := some 17, op := Op.call { callee := Callee.value (Operand.func 40), args := #[Operand.tmp 16], argTypes := #[31] }, type := 3, pos := "gcd.go:13", after := #[{ on := 2, ground := Ground.data }, { on := 1, ground := Ground.chain }], guard := none }) rfl (fun K hK => ?_) AllReadyH.nil
  go_simp
  go_at_call 40; refine (HTw2.out _ (by assumption)).mono ?_; rintro e w7 ⟨T2, rfl, hT2, hb7⟩
  refine hK.out _ _ ?_ (fun hHeld => ?_)
  · exact HS.out _ ‹_›
  clear hK K
  try simp only [Act.put, List.setIfInBounds_toArray, List.set_cons_zero, List.set_cons_succ]
  refine wpAnyH_take (i := 4) (oi := { dst := some 5, op := Op.assign (Operand.tmp 15), type := 3, pos := "gcd.go:13", after := #[{ on := 1, ground := Ground.data }, { on := 3, ground := Ground.chain }, { on := 0, ground := Ground.phase }, { on := 1, ground := Ground.phase }, { on := 2, ground := Ground.textOnly Departure.lateStores }, { on := 3, ground := Ground.textOnly Departure.lateStoresUnsure }], guard := none }) (v := ?_) rfl (by kernel_rfl) (by kernel_rfl) (by kernel_rfl) (fun _ _ _ h => h) (Or.inl ⟨by rfl, ?_⟩) (by assumption) ?_
  rotate_left
  · intro w hSw; (try dsimp only at hSw); go_simp; (try with_reducible rfl)
  try simp only [Act.put, List.setIfInBounds_toArray, List.set_cons_zero, List.set_cons_succ]
  refine wpAnyH_take (i := 5) (oi := { dst := some 6, op := Op.assign (Operand.tmp 17), type := 3, pos := "gcd.go:13", after := #[{ on := 3, ground := Ground.data }, { on := 4, ground := Ground.chain }, { on := 0, ground := Ground.phase }, { on := 1, ground := Ground.phase }, { on := 2, ground := Ground.phase }, { on := 3, ground := Ground.phase }, { on := 4, ground := Ground.phase }], guard := none }) (v := ?_) rfl (by kernel_rfl) (by kernel_rfl) (by kernel_rfl) (fun _ _ _ h => h) (Or.inl ⟨by rfl, ?_⟩) (by assumption) ?_
  rotate_left
  · intro w hSw; (try dsimp only at hSw); go_simp; (try with_reducible rfl)
  try simp only [Act.put, List.setIfInBounds_toArray, List.set_cons_zero, List.set_cons_succ]
  refine wpAnyH_done (by kernel_rfl) ?_ _
  have HG7 := Lib.hid (HG5.out.below hb7 HG5.out.size)
  have HX7 := Lib.hid (HX5.out.below hb7 (Nat.le_refl _))
  have HY7 := Lib.hid (HY5.out.below hb7 (Nat.le_refl _))
  have q1 : w7.drew.cell? ⟨w.heap.size, 0, none⟩ = some (.slice a1 n1 c1) := HG7.out.b1.cell 0
  have q2 : w7.drew.cell? ⟨w.heap.size + 1, 0, none⟩ = some (.slice a2 n2 c2) := HG7.out.b2.cell 0
  have HS7 : Hid (∀ W, Below w7.heap.size w7 W → W.cell? ⟨w.heap.size, 0, none⟩ = some (.slice a1 n1 c1) ∧ W.cell? ⟨w.heap.size + 1, 0, none⟩ = some (.slice a2 n2 c2)) := Lib.hid (fun W h => ⟨(HG7.out.b1.below h HG7.out.b1.lt).cell 0, (HG7.out.b2.below h HG7.out.b2.lt).cell 0⟩)
  have hl1 : T1 ≤ 2560 := by have := isTwos_lt hT1.out HM.out; omega
  have hl2 : T2 ≤ 2560 := by have := isTwos_lt hT2.out HN.out; omega
  obtain ⟨S1, hS1⟩ : ∃ S1 : Int, (T1 : Int) = S1 := ⟨_, rfl⟩
  obtain ⟨S2, hS2⟩ : ∃ S2 : Int, (T2 : Int) = S2 := ⟨_, rfl⟩
  have hw1 : IntKind.i64.wrap (-S1) = -S1 := IntWalk.i64_in _ ⟨by omega, by omega⟩
  have hw2 : IntKind.i64.wrap (-S2) = -S2 := IntWalk.i64_in _ ⟨by omega, by omega⟩
  obtain ⟨TT, hTT⟩ : ∃ TT : Int, min S1 S2 = TT := ⟨_, rfl⟩
  have HTT : Hid (TT = ((min T1 T2 : Nat) : Int) ∧ min T1 T2 ≤ 20000) := Lib.hid ⟨by omega, by omega⟩
  obtain ⟨m1, hm1⟩ : ∃ m1, M / 2 ^ T1 = m1 := ⟨_, rfl⟩
  obtain ⟨m2, hm2⟩ : ∃ m2, N / 2 ^ T2 = m2 := ⟨_, rfl⟩
  have Hgt : Hid (Nat.gcd m1 m2 * 2 ^ (min T1 T2) = Nat.gcd M N) := Lib.hid (by rw [← hm1, ← hm2]; exact gcd_twos hT1.out hT2.out)
  have Hm1 : Hid (m1 < 18446744073709551616 ^ 40) := Lib.hid (by rw [← hm1]; exact Nat.lt_of_le_of_lt (Nat.div_le_self _ _) HM.out)
  have Hm2 : Hid (m2 < 18446744073709551616 ^ 40) := Lib.hid (by rw [← hm2]; exact Nat.lt_of_le_of_lt (Nat.div_le_self _ _) HN.out)
  have Hgl : Hid (Nat.gcd m1 m2 < 18446744073709551616 ^ 9000) := Lib.hid (by
    rcases Nat.eq_zero_or_pos m1 with h0 | h0
    · rw [h0, Nat.gcd_zero_left]; exact w26 9000 Hm2.out (by omega)
    · exact w26 9000 (Nat.lt_of_le_of_lt (Nat.gcd_le_left _ h0) Hm1.out) (by omega))
  have HC1 : Hid (∀ W, Below w7.heap.size w7 W → Calls Tryz.prog 42 #[.agg #[.slice a1 n1 c1], .int .i64 (-S1)] W fun e w' => ∃ x y z, e = .returned (.agg #[.slice x y z]) ∧ AtGa w7 (.agg #[.slice x y z]) m1 w' ∧ Below W.heap.size W w') := Lib.hid (fun W h => (sh_down M T1 _ (-S1) W (HX7.out.below h (Nat.le_refl _)) (w26 9000 HM.out (by omega)) (by omega) (by rw [hS1])).mono fun e w' h' => by
    obtain ⟨x, y, z, h1, h2, h3⟩ := h'
    rw [hm1] at h2
    exact ⟨x, y, z, h1, ⟨h.trans (h3.mono h.size), h2⟩, h3⟩)
  have HC2 : Hid (∀ W v, AtGa w7 v m1 W → Calls Tryz.prog 42 #[.agg #[.slice a2 n2 c2], .int .i64 (-S2)] W fun e w' => ∃ x y z, e = .returned (.agg #[.slice x y z]) ∧ AtGb w7 v m1 (.agg #[.slice x y z]) m2 w' ∧ Below W.heap.size W w') := Lib.hid (fun W v h => (sh_down N T2 _ (-S2) W (HY7.out.below h.bel (Nat.le_refl _)) (w26 9000 HN.out (by omega)) (by omega) (by rw [hS2])).mono fun e w' h' => by
    obtain ⟨x, y, z, h1, h2, h3⟩ := h'
    rw [hm2] at h2
    exact ⟨x, y, z, h1, ⟨h.bel.trans (h3.mono h.bel.size), h.num.below h3 (Nat.le_refl _), h2⟩, h3⟩)
  have HC3 : Hid (∀ W v u, AtGb w7 v m1 u m2 W → Calls Tryz.prog 41 #[v, u] W fun e w' => ∃ x y z, e = .returned (.agg #[.slice x y z]) ∧ IsN w' (.agg #[.slice x y z]) (Nat.gcd m1 m2) ∧ Below w7.heap.size w7 w' ∧ Below W.heap.size W w') := Lib.hid (fun W v u h => (gcdo_any m1 m2 _ _ W h.num h.num2 (w26 8000 Hm1.out (by omega)) (w26 8000 Hm2.out (by omega))).mono fun e w' h' => by
    obtain ⟨x, y, z, h1, h2, h3⟩ := h'
    exact ⟨x, y, z, h1, h2, h.bel.trans (h3.mono h.bel.size), h3⟩)
  have hd7 : Below w7.heap.size w7 w7.drew := (Below.refl _ _).drew
  have hd7a : ∀ o, Below w7.heap.size w7 (w7.drew.alloc o) := fun o => hd7.alloc (show w7.heap.size ≤ w7.drew.heap.size from Nat.le_refl _) o
  have HT12 := Lib.hid (And.intro hS1 hS2)
  rw [hS1, hS2]
  clear hb6 hb7 HTw1 HTw2 HS hd5 r3 r4 HG5 HX5 HY5 HT5 hT1 hT2 hm1 hm2 hS1 hS2
  go_wp2_with fail
  refine wp_region_held_drew (S := (fun w' => w'.cell? ⟨w.heap.size, 0, none⟩ = some (.slice a1 n1 c1) ∧ w'.cell? ⟨w.heap.size + 1, 0, none⟩ = some (.slice a2 n2 c2))) (by kernel_rfl) ?_ (fun hHeld => ?_)
  · exact ⟨q1, q2⟩
  refine wpAnyH_take (i := 0) (oi := { dst := some 18, op := Op.load 31 (Operand.tmp 2), type := 31, pos := "gcd.go:14", after := #[], guard := none }) (v := ?_) rfl (by kernel_rfl) (by kernel_rfl) (by kernel_rfl) (fun _ _ _ h => h) (Or.inl ⟨by rfl, ?_⟩) (by assumption) ?_
  rotate_left
  · intro w hSw; (try dsimp only at hSw); go_simp; (try with_reducible rfl)
  try simp only [Act.put, List.setIfInBounds_toArray, List.set_cons_zero, List.set_cons_succ]
  refine wpAnyH_take (i := 1) (oi := { dst := some 19, op := Op.move (Operand.tmp 5), type := 3, pos := "gcd.go:14", after := #[], guard := none }) (v := ?_) rfl (by kernel_rfl) (by kernel_rfl) (by kernel_rfl) (fun _ _ _ h => h) (Or.inl ⟨by rfl, ?_⟩) (by assumption) ?_
  rotate_left
  · intro w hSw; (try dsimp only at hSw); go_simp; (try with_reducible rfl)
  try simp only [Act.put, List.setIfInBounds_toArray, List.set_cons_zero, List.set_cons_succ]
  refine wpAnyH_take (i := 2) (oi := { dst := some 20, op := Op.unOp UnOp.neg 3 (Operand.tmp 19), type := 3, pos := "gcd.go:14", after := #[{ on := 1, ground := Ground.data }], guard := none }) (v := ?_) rfl (by kernel_rfl) (by kernel_rfl) (by kernel_rfl) (fun _ _ _ h => h) (Or.inl ⟨by rfl, ?_⟩) (by assumption) ?_
  rotate_left
  · intro w hSw; (try dsimp only at hSw); go_simp; (try with_reducible rfl)
  try simp only [Act.put, List.setIfInBounds_toArray, List.set_cons_zero, List.set_cons_succ]
  refine wpAnyH_take (i := 4) (oi := { dst := some 22, op := Op.load 31 (Operand.tmp 3), type := 31, pos := "gcd.go:14", after := #[], guard := none }) (v := ?_) rfl (by kernel_rfl) (by kernel_rfl) (by kernel_rfl) (fun _ _ _ h => h) (Or.inl ⟨by rfl, ?_⟩) (by assumption) ?_
  rotate_left
  · intro w hSw; (try dsimp only at hSw); go_simp; (try with_reducible rfl)
  try simp only [Act.put, List.setIfInBounds_toArray, List.set_cons_zero, List.set_cons_succ]
  refine wpAnyH_take (i := 5) (oi := { dst := some 23, op := Op.move (Operand.tmp 6), type := 3, pos := "gcd.go:14", after := #[], guard := none }) (v := ?_) rfl (by kernel_rfl) (by kernel_rfl) (by kernel_rfl) (fun _ _ _ h => h) (Or.inl ⟨by rfl, ?_⟩) (by assumption) ?_
  rotate_left
  · intro w hSw; (try dsimp only at hSw); go_simp; (try with_reducible rfl)
  try simp only [Act.put, List.setIfInBounds_toArray, List.set_cons_zero, List.set_cons_succ]
  refine wpAnyH_take (i := 6) (oi := { dst := some 24, op := Op.unOp UnOp.neg 3 (Operand.tmp 23), type := 3, pos := "gcd.go:14", after := #[{ on := 5, ground := Ground.data }], guard := none }) (v := ?_) rfl (by kernel_rfl) (by kernel_rfl) (by kernel_rfl) (fun _ _ _ h => h) (Or.inl ⟨by rfl, ?_⟩) (by assumption) ?_
  rotate_left
  · intro w hSw; (try dsimp only at hSw); go_simp; (try with_reducible rfl)
  try simp only [Act.put, List.setIfInBounds_toArray, List.set_cons_zero, List.set_cons_succ]
  refine wpAnyH_ready (rs := [3, 9]) (by kernel_rfl) (by simp) ?_
  refine (AllReadyH.cons (o := { dst := some 21, op := Op.call { callee := Callee.value (Operand.func 42), args := #[Operand.tmp 18, Operand.tmp 20], argTypes := #[31, 3] }, type := 31, pos := "gcd.go:14", after := #[{ on := 0, ground := Ground.data }, { on := 2, ground := Ground.data }], guard := none }) rfl (fun K hK => ?_) (AllReadyH.cons (o := { dst := some 7, op := Op.alloc 31, type := 0, pos := "gcd.go:14", after := #[], guard := none }) rfl (fun K hK => ?_) AllReadyH.nil))
  · go_simp
    go_at_call 42; refine (HC1.out _ hd7).mono ?_; rintro e wq1 ⟨x1, y1, z1, rfl, hA1, hb1⟩
    have hs1 := hA1.bel.size
    refine hK.out _ _ ?_ (fun hHeld => ?_)
    · exact HS7.out _ hA1.bel
    clear hK K
    try simp only [Act.put, List.setIfInBounds_toArray, List.set_cons_zero, List.set_cons_succ]
    refine wpAnyH_ready (rs := [7, 9]) (by kernel_rfl) (by simp) ?_
    refine (AllReadyH.cons (o := { dst := some 25, op := Op.call { callee := Callee.value (Operand.func 42), args := #[Operand.tmp 22, Operand.tmp 24], argTypes := #[31, 3] }, type := 31, pos := "gcd.go:14", after := #[{ on := 4, ground := Ground.data }, { on := 6, ground := Ground.data }, { on := 3, ground := Ground.chain }], guard := none }) rfl (fun K hK => ?_) (AllReadyH.cons (o := { dst := some 7, op := Op.alloc 31, type := 0, pos := "gcd.go:14", after := #[], guard := none }) rfl (fun K hK => ?_) AllReadyH.nil))
    · go_simp
      go_at_call 42; refine (HC2.out _ _ hA1).mono ?_; rintro e wq2 ⟨x2, y2, z2, rfl, hA2, hb2⟩
      have hs2 := hA2.bel.size
      refine hK.out _ _ ?_ (fun hHeld => ?_)
      · exact HS7.out _ hA2.bel
      clear hK K
      try simp only [Act.put, List.setIfInBounds_toArray, List.set_cons_zero, List.set_cons_succ]
      refine wpAnyH_ready (rs := [8, 9]) (by kernel_rfl) (by simp) ?_
      refine (AllReadyH.cons (o := { dst := some 26, op := Op.call { callee := Callee.value (Operand.func 41), args := #[Operand.tmp 21, Operand.tmp 25], argTypes := #[31, 31] }, type := 31, pos := "gcd.go:14", after := #[{ on := 3, ground := Ground.data }, { on := 7, ground := Ground.data }, { on := 7, ground := Ground.chain }], guard := none }) rfl (fun K hK => ?_) (AllReadyH.cons (o := { dst := some 7, op := Op.alloc 31, type := 0, pos := "gcd.go:14", after := #[], guard := none }) rfl (fun K hK => ?_) AllReadyH.nil))
      · go_simp
        go_at_call 41; refine (HC3.out _ _ _ hA2).mono ?_; rintro e wq3 ⟨x3, y3, z3, rfl, hN3, hbb3, hb3⟩
        refine hK.out _ _ ?_ (fun hHeld => ?_)
        · exact HS7.out _ hbb3
        clear hK K
        try simp only [Act.put, List.setIfInBounds_toArray, List.set_cons_zero, List.set_cons_succ]
        refine wpAnyH_ready (rs := [9]) (by kernel_rfl) (by simp) ?_
        refine (AllReadyH.cons (o := { dst := some 7, op := Op.alloc 31, type := 0, pos := "gcd.go:14", after := #[], guard := none }) rfl (fun K hK => ?_) AllReadyH.nil)
        go_wp2_with fail
        refine hK.out _ _ ?_ (fun hHeld => ?_)
        · exact HS7.out _ (hbb3.alloc hbb3.size _)
        clear hK K
        try simp only [Act.put, List.setIfInBounds_toArray, List.set_cons_zero, List.set_cons_succ]
        refine wpAnyH_ready (rs := [10]) (by kernel_rfl) (by simp) ?_
        refine (AllReadyH.cons (o := { dst := none, op := Op.store 31 (Operand.tmp 7) (Operand.tmp 26), type := 0, pos := "gcd.go:14", after := #[{ on := 9, ground := Ground.data }, { on := 8, ground := Ground.data }, { on := 8, ground := Ground.chain }, { on := 0, ground := Ground.phase }, { on := 1, ground := Ground.phase }, { on := 2, ground := Ground.phase }, { on := 3, ground := Ground.phase }, { on := 4, ground := Ground.phase }, { on := 5, ground := Ground.phase }, { on := 6, ground := Ground.phase }, { on := 7, ground := Ground.phase }, { on := 8, ground := Ground.phase }, { on := 9, ground := Ground.phase }], guard := none }) rfl (fun K hK => ?_) AllReadyH.nil)
        go_wp2_with fail
        refine hK.out _ _ ?_ (fun hHeld => ?_)
        · first | exact HS7.out _ (hbb3.alloc hbb3.size _) | exact HS7.out _ ((hbb3.alloc hbb3.size _).setCell (p := ⟨wq3.heap.size, 0, none⟩) hbb3.size _)
        clear hK K
        try simp only [Act.put, List.setIfInBounds_toArray, List.set_cons_zero, List.set_cons_succ]
        refine wpAnyH_done (by kernel_rfl) ?_ _
        have hB8 : Below w7.heap.size w7 (wq3.alloc (.cells #[.slice x3 y3 z3] 31)) := hbb3.alloc hbb3.size _
        have hk8 : Blk (wq3.alloc (.cells #[.slice x3 y3 z3] 31)) wq3.heap.size 31 #[.slice x3 y3 z3] := Blk.new wq3 _ _
        have hn8 : IsN (wq3.alloc (.cells #[.slice x3 y3 z3] 31)) (.agg #[.slice x3 y3 z3]) (Nat.gcd m1 m2) := hN3.below ((Below.refl _ wq3).alloc (Nat.le_refl _) _) (Nat.le_refl _)
        have HG8 := Lib.hid (HG7.out.below hB8 HG7.out.size)
        have q8 : World.cell? (wq3.alloc (.cells #[.slice x3 y3 z3] 31)) ⟨wq3.heap.size, 0, none⟩ = some (.slice x3 y3 z3) := hk8.cell 0
        have HSu := Lib.hid (shup_any (Nat.gcd m1 m2) (min T1 T2) _ TT (wq3.alloc (.cells #[.slice x3 y3 z3] 31)) hn8 Hgl.out HTT.out.2 HTT.out.1)
        clear hB8 hk8 hn8 hA1 hA2 hb1 hb2 hb3 hN3 hbb3 q1 q2 hd7 hd7a HC1 HC2 HC3 HS7
        go_wp2_with fail
        refine HSu.out.mono ?_
        rintro e w9 ⟨x9, y9, z9, rfl, hN9, hb9⟩
        have hg9 := HG8.out.below hb9 HG8.out.size
        have q9 : w9.cell? ⟨w.heap.size + 1 + 1, 0, none⟩ = some (.slice none 0 0) := hg9.b3.cell 0
        have q9f : w9.frozen? ⟨w.heap.size + 1 + 1, 0, none⟩ = false := hg9.b3.frozen 0
        have HJ := Lib.hid (hg9.b3.set_ 0 (.slice x9 y9 z9))
        have HR : Hid (GaveV (Nat.gcd M N) w (.returned (.agg #[.slice x9 y9 z9])) (w9.setCell ⟨w.heap.size + 1 + 1, 0, none⟩ (.slice x9 y9 z9))) := Lib.hid ⟨x9, y9, z9, rfl, by rw [← Hgt.out]; exact isN_set1 hN9 (isN_box hN9 hg9.b3), hg9.bel.setCell (p := ⟨w.heap.size + 1 + 1, 0, none⟩) (by show w.heap.size ≤ w.heap.size + 1 + 1; omega) _⟩
        clear hN9 hb9 hg9 HSu
        go_wp2_with fail
        refine bodyPost_ret (res_nat rfl _ _ (w.heap.size + 1 + 1) (.slice x9 y9 z9) rfl HJ.out) rfl ?_
        exact HR.out
      · go_wp2_with fail
        refine hK.out _ _ ?_ (fun hHeld => ?_)
        · exact HS7.out _ (hA2.alloc _).bel
        clear hK K
        try simp only [Act.put, List.setIfInBounds_toArray, List.set_cons_zero, List.set_cons_succ]
        refine wpAnyH_ready (rs := [8]) (by kernel_rfl) (by simp) ?_
        refine (AllReadyH.cons (o := { dst := some 26, op := Op.call { callee := Callee.value (Operand.func 41), args := #[Operand.tmp 21, Operand.tmp 25], argTypes := #[31, 31] }, type := 31, pos := "gcd.go:14", after := #[{ on := 3, ground := Ground.data }, { on := 7, ground := Ground.data }, { on := 7, ground := Ground.chain }], guard := none }) rfl (fun K hK => ?_) AllReadyH.nil)
        go_simp
        go_at_call 41; refine (HC3.out _ _ _ (hA2.alloc _)).mono ?_; rintro e wq3 ⟨x3, y3, z3, rfl, hN3, hbb3, hb3⟩
        have hkB3 : Blk wq3 wq2.heap.size 31 #[.slice none 0 0] := (Blk.new wq2 _ _).below hb3 (by simp)
        have hkc := hkB3.cell 0; have hkf := hkB3.frozen 0
        simp only [List.getElem?_toArray, List.getElem?_cons_zero] at hkc
        refine hK.out _ _ ?_ (fun hHeld => ?_)
        · exact HS7.out _ hbb3
        clear hK K
        try simp only [Act.put, List.setIfInBounds_toArray, List.set_cons_zero, List.set_cons_succ]
        refine wpAnyH_ready (rs := [10]) (by kernel_rfl) (by simp) ?_
        refine (AllReadyH.cons (o := { dst := none, op := Op.store 31 (Operand.tmp 7) (Operand.tmp 26), type := 0, pos := "gcd.go:14", after := #[{ on := 9, ground := Ground.data }, { on := 8, ground := Ground.data }, { on := 8, ground := Ground.chain }, { on := 0, ground := Ground.phase }, { on := 1, ground := Ground.phase }, { on := 2, ground := Ground.phase }, { on := 3, ground := Ground.phase }, { on := 4, ground := Ground.phase }, { on := 5, ground := Ground.phase }, { on := 6, ground := Ground.phase }, { on := 7, ground := Ground.phase }, { on := 8, ground := Ground.phase }, { on := 9, ground := Ground.phase }], guard := none }) rfl (fun K hK => ?_) AllReadyH.nil)
        go_wp2_with fail
        refine hK.out _ _ ?_ (fun hHeld => ?_)
        · exact HS7.out _ (hbb3.setCell (p := ⟨wq2.heap.size, 0, none⟩) hs2 _)
        clear hK K
        try simp only [Act.put, List.setIfInBounds_toArray, List.set_cons_zero, List.set_cons_succ]
        refine wpAnyH_done (by kernel_rfl) ?_ _
        have hB8 : Below w7.heap.size w7 (wq3.setCell ⟨wq2.heap.size, 0, none⟩ (.slice x3 y3 z3)) := hbb3.setCell (p := ⟨wq2.heap.size, 0, none⟩) hs2 _
        have hk8 : Blk (wq3.setCell ⟨wq2.heap.size, 0, none⟩ (.slice x3 y3 z3)) wq2.heap.size 31 #[.slice x3 y3 z3] := hkB3.set_ 0 _
        have hn8 : IsN (wq3.setCell ⟨wq2.heap.size, 0, none⟩ (.slice x3 y3 z3)) (.agg #[.slice x3 y3 z3]) (Nat.gcd m1 m2) := isN_set1 hN3 (isN_box hN3 hkB3)
        have HG8 := Lib.hid (HG7.out.below hB8 HG7.out.size)
        have q8 : World.cell? (wq3.setCell ⟨wq2.heap.size, 0, none⟩ (.slice x3 y3 z3)) ⟨wq2.heap.size, 0, none⟩ = some (.slice x3 y3 z3) := hk8.cell 0
        have HSu := Lib.hid (shup_any (Nat.gcd m1 m2) (min T1 T2) _ TT (wq3.setCell ⟨wq2.heap.size, 0, none⟩ (.slice x3 y3 z3)) hn8 Hgl.out HTT.out.2 HTT.out.1)
        clear hB8 hk8 hn8 hA1 hA2 hb1 hb2 hb3 hN3 hbb3 hkB3 hkc hkf q1 q2 hd7 hd7a HC1 HC2 HC3 HS7
        go_wp2_with fail
        refine HSu.out.mono ?_
        rintro e w9 ⟨x9, y9, z9, rfl, hN9, hb9⟩
        have hg9 := HG8.out.below hb9 HG8.out.size
        have q9 : w9.cell? ⟨w.heap.size + 1 + 1, 0, none⟩ = some (.slice none 0 0) := hg9.b3.cell 0
        have q9f : w9.frozen? ⟨w.heap.size + 1 + 1, 0, none⟩ = false := hg9.b3.frozen 0
        have HJ := Lib.hid (hg9.b3.set_ 0 (.slice x9 y9 z9))
        have HR : Hid (GaveV (Nat.gcd M N) w (.returned (.agg #[.slice x9 y9 z9])) (w9.setCell ⟨w.heap.size + 1 + 1, 0, none⟩ (.slice x9 y9 z9))) := Lib.hid ⟨x9, y9, z9, rfl, by rw [← Hgt.out]; exact isN_set1 hN9 (isN_box hN9 hg9.b3), hg9.bel.setCell (p := ⟨w.heap.size + 1 + 1, 0, none⟩) (by show w.heap.size ≤ w.heap.size + 1 + 1; omega) _⟩
        clear hN9 hb9 hg9 HSu
        go_wp2_with fail
        refine bodyPost_ret (res_nat rfl _ _ (w.heap.size + 1 + 1) (.slice x9 y9 z9) rfl HJ.out) rfl ?_
        exact HR.out
    · go_wp2_with fail
      refine hK.out _ _ ?_ (fun hHeld => ?_)
      · exact HS7.out _ (hA1.alloc _).bel
      clear hK K
      try simp only [Act.put, List.setIfInBounds_toArray, List.set_cons_zero, List.set_cons_succ]
      refine wpAnyH_ready (rs := [7]) (by kernel_rfl) (by simp) ?_
      refine (AllReadyH.cons (o := { dst := some 25, op := Op.call { callee := Callee.value (Operand.func 42), args := #[Operand.tmp 22, Operand.tmp 24], argTypes := #[31, 3] }, type := 31, pos := "gcd.go:14", after := #[{ on := 4, ground := Ground.data }, { on := 6, ground := Ground.data }, { on := 3, ground := Ground.chain }], guard := none }) rfl (fun K hK => ?_) AllReadyH.nil)
      go_simp
      go_at_call 42; refine (HC2.out _ _ (hA1.alloc _)).mono ?_; rintro e wq2 ⟨x2, y2, z2, rfl, hA2, hb2⟩
      have hkB2 : Blk wq2 wq1.heap.size 31 #[.slice none 0 0] := (Blk.new wq1 _ _).below hb2 (by simp)
      have hs2 := hA2.bel.size
      refine hK.out _ _ ?_ (fun hHeld => ?_)
      · exact HS7.out _ hA2.bel
      clear hK K
      try simp only [Act.put, List.setIfInBounds_toArray, List.set_cons_zero, List.set_cons_succ]
      refine wpAnyH_ready (rs := [8]) (by kernel_rfl) (by simp) ?_
      refine (AllReadyH.cons (o := { dst := some 26, op := Op.call { callee := Callee.value (Operand.func 41), args := #[Operand.tmp 21, Operand.tmp 25], argTypes := #[31, 31] }, type := 31, pos := "gcd.go:14", after := #[{ on := 3, ground := Ground.data }, { on := 7, ground := Ground.data }, { on := 7, ground := Ground.chain }], guard := none }) rfl (fun K hK => ?_) AllReadyH.nil)
      go_simp
      go_at_call 41; refine (HC3.out _ _ _ hA2).mono ?_; rintro e wq3 ⟨x3, y3, z3, rfl, hN3, hbb3, hb3⟩
      have hkB3 : Blk wq3 wq1.heap.size 31 #[.slice none 0 0] := hkB2.below hb3 hkB2.lt
      have hkc := hkB3.cell 0; have hkf := hkB3.frozen 0
      simp only [List.getElem?_toArray, List.getElem?_cons_zero] at hkc
      refine hK.out _ _ ?_ (fun hHeld => ?_)
      · exact HS7.out _ hbb3
      clear hK K
      try simp only [Act.put, List.setIfInBounds_toArray, List.set_cons_zero, List.set_cons_succ]
      refine wpAnyH_ready (rs := [10]) (by kernel_rfl) (by simp) ?_
      refine (AllReadyH.cons (o := { dst := none, op := Op.store 31 (Operand.tmp 7) (Operand.tmp 26), type := 0, pos := "gcd.go:14", after := #[{ on := 9, ground := Ground.data }, { on := 8, ground := Ground.data }, { on := 8, ground := Ground.chain }, { on := 0, ground := Ground.phase }, { on := 1, ground := Ground.phase }, { on := 2, ground := Ground.phase }, { on := 3, ground := Ground.phase }, { on := 4, ground := Ground.phase }, { on := 5, ground := Ground.phase }, { on := 6, ground := Ground.phase }, { on := 7, ground := Ground.phase }, { on := 8, ground := Ground.phase }, { on := 9, ground := Ground.phase }], guard := none }) rfl (fun K hK => ?_) AllReadyH.nil)
      go_wp2_with fail
      refine hK.out _ _ ?_ (fun hHeld => ?_)
      · exact HS7.out _ (hbb3.setCell (p := ⟨wq1.heap.size, 0, none⟩) hs1 _)
      clear hK K
      try simp only [Act.put, List.setIfInBounds_toArray, List.set_cons_zero, List.set_cons_succ]
      refine wpAnyH_done (by kernel_rfl) ?_ _
      have hB8 : Below w7.heap.size w7 (wq3.setCell ⟨wq1.heap.size, 0, none⟩ (.slice x3 y3 z3)) := hbb3.setCell (p := ⟨wq1.heap.size, 0, none⟩) hs1 _
      have hk8 : Blk (wq3.setCell ⟨wq1.heap.size, 0, none⟩ (.slice x3 y3 z3)) wq1.heap.size 31 #[.slice x3 y3 z3] := hkB3.set_ 0 _
      have hn8 : IsN (wq3.setCell ⟨wq1.heap.size, 0, none⟩ (.slice x3 y3 z3)) (.agg #[.slice x3 y3 z3]) (Nat.gcd m1 m2) := isN_set1 hN3 (isN_box hN3 hkB3)
      have HG8 := Lib.hid (HG7.out.below hB8 HG7.out.size)
      have q8 : World.cell? (wq3.setCell ⟨wq1.heap.size, 0, none⟩ (.slice x3 y3 z3)) ⟨wq1.heap.size, 0, none⟩ = some (.slice x3 y3 z3) := hk8.cell 0
      have HSu := Lib.hid (shup_any (Nat.gcd m1 m2) (min T1 T2) _ TT (wq3.setCell ⟨wq1.heap.size, 0, none⟩ (.slice x3 y3 z3)) hn8 Hgl.out HTT.out.2 HTT.out.1)
      clear hB8 hk8 hn8 hA1 hA2 hb1 hb2 hb3 hN3 hbb3 hkB2 hkB3 hkc hkf q1 q2 hd7 hd7a HC1 HC2 HC3 HS7
      go_wp2_with fail
      refine HSu.out.mono ?_
      rintro e w9 ⟨x9, y9, z9, rfl, hN9, hb9⟩
      have hg9 := HG8.out.below hb9 HG8.out.size
      have q9 : w9.cell? ⟨w.heap.size + 1 + 1, 0, none⟩ = some (.slice none 0 0) := hg9.b3.cell 0
      have q9f : w9.frozen? ⟨w.heap.size + 1 + 1, 0, none⟩ = false := hg9.b3.frozen 0
      have HJ := Lib.hid (hg9.b3.set_ 0 (.slice x9 y9 z9))
      have HR : Hid (GaveV (Nat.gcd M N) w (.returned (.agg #[.slice x9 y9 z9])) (w9.setCell ⟨w.heap.size + 1 + 1, 0, none⟩ (.slice x9 y9 z9))) := Lib.hid ⟨x9, y9, z9, rfl, by rw [← Hgt.out]; exact isN_set1 hN9 (isN_box hN9 hg9.b3), hg9.bel.setCell (p := ⟨w.heap.size + 1 + 1, 0, none⟩) (by show w.heap.size ≤ w.heap.size + 1 + 1; omega) _⟩
      clear hN9 hb9 hg9 HSu
      go_wp2_with fail
      refine bodyPost_ret (res_nat rfl _ _ (w.heap.size + 1 + 1) (.slice x9 y9 z9) rfl HJ.out) rfl ?_
      exact HR.out
  · go_wp2_with fail
    refine hK.out _ _ ?_ (fun hHeld => ?_)
    · exact HS7.out _ (hd7a _)
    clear hK K
    try simp only [Act.put, List.setIfInBounds_toArray, List.set_cons_zero, List.set_cons_succ]
    refine wpAnyH_ready (rs := [3]) (by kernel_rfl) (by simp) ?_
    refine (AllReadyH.cons (o := { dst := some 21, op := Op.call { callee := Callee.value (Operand.func 42), args := #[Operand.tmp 18, Operand.tmp 20], argTypes := #[31, 3] }, type := 31, pos := "gcd.go:14", after := #[{ on := 0, ground := Ground.data }, { on := 2, ground := Ground.data }], guard := none }) rfl (fun K hK => ?_) AllReadyH.nil)
    go_simp
    go_at_call 42; refine (HC1.out _ (hd7a _)).mono ?_; rintro e wq1 ⟨x1, y1, z1, rfl, hA1, hb1⟩
    have hkB1 : Blk wq1 w7.heap.size 31 #[.slice none 0 0] := (Blk.new w7.drew _ _).below hb1 (by simp)
    have hs1 := hA1.bel.size
    refine hK.out _ _ ?_ (fun hHeld => ?_)
    · exact HS7.out _ hA1.bel
    clear hK K
    try simp only [Act.put, List.setIfInBounds_toArray, List.set_cons_zero, List.set_cons_succ]
    refine wpAnyH_ready (rs := [7]) (by kernel_rfl) (by simp) ?_
    refine (AllReadyH.cons (o := { dst := some 25, op := Op.call { callee := Callee.value (Operand.func 42), args := #[Operand.tmp 22, Operand.tmp 24], argTypes := #[31, 3] }, type := 31, pos := "gcd.go:14", after := #[{ on := 4, ground := Ground.data }, { on := 6, ground := Ground.data }, { on := 3, ground := Ground.chain }], guard := none }) rfl (fun K hK => ?_) AllReadyH.nil)
    go_simp
    go_at_call 42; refine (HC2.out _ _ hA1).mono ?_; rintro e wq2 ⟨x2, y2, z2, rfl, hA2, hb2⟩
    have hkB2 : Blk wq2 w7.heap.size 31 #[.slice none 0 0] := hkB1.below hb2 hkB1.lt
    have hs2 := hA2.bel.size
    refine hK.out _ _ ?_ (fun hHeld => ?_)
    · exact HS7.out _ hA2.bel
    clear hK K
    try simp only [Act.put, List.setIfInBounds_toArray, List.set_cons_zero, List.set_cons_succ]
    refine wpAnyH_ready (rs := [8]) (by kernel_rfl) (by simp) ?_
    refine (AllReadyH.cons (o := { dst := some 26, op := Op.call { callee := Callee.value (Operand.func 41), args := #[Operand.tmp 21, Operand.tmp 25], argTypes := #[31, 31] }, type := 31, pos := "gcd.go:14", after := #[{ on := 3, ground := Ground.data }, { on := 7, ground := Ground.data }, { on := 7, ground := Ground.chain }], guard := none }) rfl (fun K hK => ?_) AllReadyH.nil)
    go_simp
    go_at_call 41; refine (HC3.out _ _ _ hA2).mono ?_; rintro e wq3 ⟨x3, y3, z3, rfl, hN3, hbb3, hb3⟩
    have hkB3 : Blk wq3 w7.heap.size 31 #[.slice none 0 0] := hkB2.below hb3 hkB2.lt
    have hkc := hkB3.cell 0; have hkf := hkB3.frozen 0
    simp only [List.getElem?_toArray, List.getElem?_cons_zero] at hkc
    refine hK.out _ _ ?_ (fun hHeld => ?_)
    · exact HS7.out _ hbb3
    clear hK K
    try simp only [Act.put, List.setIfInBounds_toArray, List.set_cons_zero, List.set_cons_succ]
    refine wpAnyH_ready (rs := [10]) (by kernel_rfl) (by simp) ?_
    refine (AllReadyH.cons (o := { dst := none, op := Op.store 31 (Operand.tmp 7) (Operand.tmp 26), type := 0, pos := "gcd.go:14", after := #[{ on := 9, ground := Ground.data }, { on := 8, ground := Ground.data }, { on := 8, ground := Ground.chain }, { on := 0, ground := Ground.phase }, { on := 1, ground := Ground.phase }, { on := 2, ground := Ground.phase }, { on := 3, ground := Ground.phase }, { on := 4, ground := Ground.phase }, { on := 5, ground := Ground.phase }, { on := 6, ground := Ground.phase }, { on := 7, ground := Ground.phase }, { on := 8, ground := Ground.phase }, { on := 9, ground := Ground.phase }], guard := none }) rfl (fun K hK => ?_) AllReadyH.nil)
    go_wp2_with fail
    refine hK.out _ _ ?_ (fun hHeld => ?_)
    · exact HS7.out _ (hbb3.setCell (p := ⟨w7.heap.size, 0, none⟩) (Nat.le_refl w7.heap.size) _)
    clear hK K
    try simp only [Act.put, List.setIfInBounds_toArray, List.set_cons_zero, List.set_cons_succ]
    refine wpAnyH_done (by kernel_rfl) ?_ _
    have hB8 : Below w7.heap.size w7 (wq3.setCell ⟨w7.heap.size, 0, none⟩ (.slice x3 y3 z3)) := hbb3.setCell (p := ⟨w7.heap.size, 0, none⟩) (Nat.le_refl w7.heap.size) _
    have hk8 : Blk (wq3.setCell ⟨w7.heap.size, 0, none⟩ (.slice x3 y3 z3)) w7.heap.size 31 #[.slice x3 y3 z3] := hkB3.set_ 0 _
    have hn8 : IsN (wq3.setCell ⟨w7.heap.size, 0, none⟩ (.slice x3 y3 z3)) (.agg #[.slice x3 y3 z3]) (Nat.gcd m1 m2) := isN_set1 hN3 (isN_box hN3 hkB3)
    have HG8 := Lib.hid (HG7.out.below hB8 HG7.out.size)
    have q8 : World.cell? (wq3.setCell ⟨w7.heap.size, 0, none⟩ (.slice x3 y3 z3)) ⟨w7.heap.size, 0, none⟩ = some (.slice x3 y3 z3) := hk8.cell 0
    have HSu := Lib.hid (shup_any (Nat.gcd m1 m2) (min T1 T2) _ TT (wq3.setCell ⟨w7.heap.size, 0, none⟩ (.slice x3 y3 z3)) hn8 Hgl.out HTT.out.2 HTT.out.1)
    clear hB8 hk8 hn8 hA1 hA2 hb1 hb2 hb3 hN3 hbb3 hkB1 hkB2 hkB3 hkc hkf q1 q2 hd7 hd7a HC1 HC2 HC3 HS7
    go_wp2_with fail
    refine HSu.out.mono ?_
    rintro e w9 ⟨x9, y9, z9, rfl, hN9, hb9⟩
    have hg9 := HG8.out.below hb9 HG8.out.size
    have q9 : w9.cell? ⟨w.heap.size + 1 + 1, 0, none⟩ = some (.slice none 0 0) := hg9.b3.cell 0
    have q9f : w9.frozen? ⟨w.heap.size + 1 + 1, 0, none⟩ = false := hg9.b3.frozen 0
    have HJ := Lib.hid (hg9.b3.set_ 0 (.slice x9 y9 z9))
    have HR : Hid (GaveV (Nat.gcd M N) w (.returned (.agg #[.slice x9 y9 z9])) (w9.setCell ⟨w.heap.size + 1 + 1, 0, none⟩ (.slice x9 y9 z9))) := Lib.hid ⟨x9, y9, z9, rfl, by rw [← Hgt.out]; exact isN_set1 hN9 (isN_box hN9 hg9.b3), hg9.bel.setCell (p := ⟨w.heap.size + 1 + 1, 0, none⟩) (by show w.heap.size ≤ w.heap.size + 1 + 1; omega) _⟩
    clear hN9 hb9 hg9 HSu
    go_wp2_with fail
    refine bodyPost_ret (res_nat rfl _ _ (w.heap.size + 1 + 1) (.slice x9 y9 z9) rfl HJ.out) rfl ?_
    exact HR.out
end Go.Proofs.YtckglpkafhmehaaGreatDoor
namespace Go.Proofs.YtckglpkafhmehaaGreatDoor
open Go.RowKit
set_option linter.unusedVariables false
set_option maxRecDepth 100000 in
set_option maxHeartbeats 4000000 in
theorem gcd_zl (N : Nat) (va vb : Value) (w : World) (ha : IsN w va 0) (hb : IsN w vb N) : Calls Tryz.prog 20 #[va, vb] w (GaveV (Nat.gcd 0 N) w) := by
  rw [Nat.gcd_zero_left]
  obtain ⟨a1, n1, c1, rfl⟩ := isN_form ha
  obtain ⟨a2, n2, c2, rfl⟩ := isN_form hb
  have hg0 := G3.new w (.slice a1 n1 c1) (.slice a2 n2 c2)
  obtain ⟨W3, hW3⟩ : ∃ W3, (((w.alloc (.cells #[.slice a1 n1 c1] 31)).alloc (.cells #[.slice a2 n2 c2] 31)).alloc (.cells #[.slice none 0 0] 31)) = W3 := ⟨_, rfl⟩
  rw [hW3] at hg0
  have HG0 := Lib.hid hg0
  have HY0 := Lib.hid (hb.below hg0.bel (Nat.le_refl _))
  have r1 : W3.cell? ⟨w.heap.size, 0, none⟩ = some (.slice a1 n1 c1) := hg0.b1.cell 0
  have HZ1 := Lib.hid (zero_yes (ha.below hg0.bel (Nat.le_refl _)))
  clear ha hb hg0
  go_enter Tryz.func20, Tryz.ntmps20
  go_wp2_with fail
  refine HZ1.out.mono ?_
  rintro e w4 ⟨rfl, hb4⟩
  have hg4 := HG0.out.below hb4 HG0.out.size
  have hY4 := HY0.out.below hb4 (Nat.le_refl _)
  have r2 : w4.cell? ⟨w.heap.size + 1, 0, none⟩ = some (.slice a2 n2 c2) := hg4.b2.cell 0
  have r3 : w4.cell? ⟨w.heap.size + 1 + 1, 0, none⟩ = some (.slice none 0 0) := hg4.b3.cell 0
  have r4 : w4.frozen? ⟨w.heap.size + 1 + 1, 0, none⟩ = false := hg4.b3.frozen 0
  have HJ := Lib.hid (hg4.b3.set_ 0 (.slice a2 n2 c2))
  have HN := Lib.hid (isN_set1 (x := .slice a2 n2 c2) hY4 (isN_box hY4 hg4.b3))
  have HB := Lib.hid (hg4.bel.setCell (p := ⟨w.heap.size + 1 + 1, 0, none⟩) (by show w.heap.size ≤ w.heap.size + 1 + 1; omega) (.slice a2 n2 c2))
  clear hb4 hg4 hY4 HZ1 r1 HG0 HY0
  go_wp2_with fail
  refine bodyPost_ret (res_nat rfl _ _ (w.heap.size + 1 + 1) (.slice a2 n2 c2) rfl HJ.out) rfl ?_
  exact ⟨_, _, _, rfl, HN.out, HB.out⟩
set_option maxRecDepth 100000 in
set_option maxHeartbeats 4000000 in
theorem gcd_zr (M : Nat) (va vb : Value) (w : World) (ha : IsN w va M) (hb : IsN w vb 0) (hM : M ≠ 0) : Calls Tryz.prog 20 #[va, vb] w (GaveV (Nat.gcd M 0) w) := by
  rw [Nat.gcd_zero_right]
  obtain ⟨a1, n1, c1, rfl⟩ := isN_form ha
  obtain ⟨a2, n2, c2, rfl⟩ := isN_form hb
  have hg0 := G3.new w (.slice a1 n1 c1) (.slice a2 n2 c2)
  obtain ⟨W3, hW3⟩ : ∃ W3, (((w.alloc (.cells #[.slice a1 n1 c1] 31)).alloc (.cells #[.slice a2 n2 c2] 31)).alloc (.cells #[.slice none 0 0] 31)) = W3 := ⟨_, rfl⟩
  rw [hW3] at hg0
  have HG0 := Lib.hid hg0
  have HX0 := Lib.hid (ha.below hg0.bel (Nat.le_refl _))
  have HY0 := Lib.hid (hb.below hg0.bel (Nat.le_refl _))
  have r1 : W3.cell? ⟨w.heap.size, 0, none⟩ = some (.slice a1 n1 c1) := hg0.b1.cell 0
  have HZ1 := Lib.hid (zero_no HX0.out hM)
  clear ha hb hg0 hM
  go_enter Tryz.func20, Tryz.ntmps20
  go_wp2_with fail
  refine HZ1.out.mono ?_
  rintro e w4 ⟨rfl, hb4⟩
  have HG4 := Lib.hid (HG0.out.below hb4 HG0.out.size)
  have HX4 := Lib.hid (HX0.out.below hb4 (Nat.le_refl _))
  have HZ2 := Lib.hid (zero_yes (HY0.out.below hb4 (Nat.le_refl _)))
  have r2 : w4.cell? ⟨w.heap.size + 1, 0, none⟩ = some (.slice a2 n2 c2) := HG4.out.b2.cell 0
  clear hb4 HG0 HX0 HY0 HZ1 r1
  go_wp2_with fail
  refine HZ2.out.mono ?_
  rintro e w5 ⟨rfl, hb5⟩
  have hg4 := HG4.out.below hb5 HG4.out.size
  have hX5 := HX4.out.below hb5 (Nat.le_refl _)
  have r1 : w5.cell? ⟨w.heap.size, 0, none⟩ = some (.slice a1 n1 c1) := hg4.b1.cell 0
  have r3 : w5.cell? ⟨w.heap.size + 1 + 1, 0, none⟩ = some (.slice none 0 0) := hg4.b3.cell 0
  have r4 : w5.frozen? ⟨w.heap.size + 1 + 1, 0, none⟩ = false := hg4.b3.frozen 0
  have HJ := Lib.hid (hg4.b3.set_ 0 (.slice a1 n1 c1))
  have HN := Lib.hid (isN_set1 (x := .slice a1 n1 c1) hX5 (isN_box hX5 hg4.b3))
  have HB := Lib.hid (hg4.bel.setCell (p := ⟨w.heap.size + 1 + 1, 0, none⟩) (by show w.heap.size ≤ w.heap.size + 1 + 1; omega) (.slice a1 n1 c1))
  clear hb5 hg4 hX5 HZ2 r2 HG4 HX4
  go_wp2_with fail
  refine bodyPost_ret (res_nat rfl _ _ (w.heap.size + 1 + 1) (.slice a1 n1 c1) rfl HJ.out) rfl ?_
  exact ⟨_, _, _, rfl, HN.out, HB.out⟩
/-- Of any two. -/
theorem gcd_all (M N : Nat) (va vb : Value) (w : World) (ha : IsN w va M) (hb : IsN w vb N) (hM : M < 18446744073709551616 ^ 40) (hN : N < 18446744073709551616 ^ 40) (htab : TabB w) :
    Calls Tryz.prog 20 #[va, vb] w (GaveV (Nat.gcd M N) w) := by
  by_cases h1 : M = 0
  · subst h1; exact gcd_zl N va vb w ha hb
  · by_cases h2 : N = 0
    · subst h2; exact gcd_zr M va vb w ha hb h1
    · exact gcd_any M N va vb w ha hb h1 h2 hM hN htab
end Go.Proofs.YtckglpkafhmehaaGreatDoor
