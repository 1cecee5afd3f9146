/-
  Law 1: how often 2 divides a number.
-/
import Derived.Test.YtckllmlkhlaboaaDoorNDvM
import Derived.Test.YtckllmlkhlaboaaDoorNNines
import Derived.Shelf.Spec.TrailingZeros
namespace Go.Proofs.YtckllmlkhlaboaaDoor
open Go.RowKit
set_option linter.unusedVariables false
def brTab : List Int := [0, 1, 56, 2, 57, 49, 28, 3, 61, 58, 42, 50, 38, 29, 17, 4, 62, 47, 59, 36, 45, 43, 51, 22, 53, 39, 33, 30, 24, 18, 12, 5, 63, 55, 48, 27, 60, 41, 37, 16, 46, 35, 44, 21, 52, 32, 23, 11, 54, 26, 40, 15, 34, 20, 31, 10, 25, 14, 19, 9, 13, 8, 7, 6]
def TabB (w : World) : Prop := Lib.TabIs Tryd.prog w "math/bits.deBruijn64tab" .u8 brTab
theorem TabB.below {w w' : World} {B : Nat} (h : TabB w) (hb : Below B w w') (hB : w.heap.size ≤ B) : TabB w' := by
  have hs : (Tryd.prog.globalNamed "math/bits.deBruijn64tab").isSome = true := by kernel_rfl
  obtain ⟨g, hg⟩ := Option.isSome_iff_exists.1 hs
  exact Go.Joins.tab_stays hg h hb hB
theorem brTab_at : ∀ j, j < 64 → brTab.getD j 0 = ((Lib.deBruijn64tab.getD j 0 : Nat) : Int) := by decide +kernel
theorem brTab_len : brTab.length = 64 := by decide
theorem tabB_cell {w : World} (h : TabB w) (j : Nat) (hj : j < 64) : w.cell? ⟨2, j, none⟩ = some (.int .u8 ((Lib.deBruijn64tab.getD j 0 : Nat) : Int)) := by
  have := Lib.TabIs.cell h (g := 2) (by kernel_rfl) j (by rw [brTab_len]; exact hj)
  rw [brTab_at j hj] at this
  exact this
set_option maxRecDepth 100000 in
set_option maxHeartbeats 2000000 in
theorem tz64_core (x k idx : Nat) (w : World) (hx0 : ((x : Int) == 0) = false)
    (key : IntKind.u64.wrap (bits BinOp.and IntKind.u64 (x : Int) (IntKind.u64.wrap (-(x : Int))) * 285870213051353865) / 288230376151711744 = (idx : Int))
    (hi : idx < 64) (hk : k < 64) (hcell : w.cell? ⟨2, idx, none⟩ = some (.int .u8 k)) :
    Calls Tryd.prog 56 #[.int .u64 x] w fun e w' => e = .returned (.int .i64 k) ∧ w' = w := by
  go_enter Tryd.func56, Tryd.ntmps56
  go_wp2_with (simp only [key])
  go_ret
  exact ⟨rfl, rfl⟩
theorem tz64_any (x : Nat) (hx : x < 18446744073709551616) (h0 : x ≠ 0) (w : World) (hT : TabB w) :
    Calls Tryd.prog 56 #[.int .u64 (x : Int)] w fun e w' => e = .returned (.int .i64 ((Lib.ctzFrom 64 x : Nat) : Int)) ∧ w' = w := by
  obtain ⟨hlow, hk⟩ := Lib.lowest_bit 64 x h0 hx
  have e : Lib.ctz 64 x = Lib.ctzFrom 64 x := by simp [Lib.ctz, h0]
  rw [e] at hlow hk
  obtain ⟨hi, htab⟩ := Lib.deBruijn64_at _ hk
  have hcell := tabB_cell hT _ hi
  rw [htab] at hcell
  exact tz64_core x _ _ w (by simp; omega) (tz64_key x _ hx h0 hlow) hi hk hcell
/-- T is how often 2 divides N. -/
def IsTwos (N T : Nat) : Prop := ∃ m, N = 2 ^ T * (2 * m + 1)
theorem twos_words {us : List Nat} {k : Nat} (hk : k < us.length) (hz : ∀ j, j < k → us.getD j 0 = 0) (h0 : us.getD k 0 ≠ 0) (hx : us.getD k 0 < 18446744073709551616) :
    IsTwos (wv us) (k * 64 + Lib.ctzFrom 64 (us.getD k 0)) ∧ Lib.ctzFrom 64 (us.getD k 0) < 64 := by
  have h2 : (18446744073709551616 : Nat) = 2 ^ 64 := by decide
  obtain ⟨m, hm, hc⟩ := Lib.ctzFrom_spec 64 (us.getD k 0) (by omega) (by rw [← h2]; exact hx)
  refine ⟨?_, hc⟩
  generalize Lib.ctzFrom 64 (us.getD k 0) = c at *
  have e1 : wv us = wv (us.take k) + 18446744073709551616 ^ k * (us.getD k 0 + 18446744073709551616 * wv (us.drop (k + 1))) := by
    conv => lhs; rw [← List.take_append_drop k us]
    rw [wv_append, List.length_take, Nat.min_eq_left (by omega), drop_get us k hk]
    rfl
  have e2 : wv (us.take k) = 0 := by
    have : us.take k = List.replicate k 0 := by
      refine List.eq_replicate_iff.2 ⟨by rw [List.length_take, Nat.min_eq_left (by omega)], fun b hb => ?_⟩
      obtain ⟨j, hj, rfl⟩ := List.mem_iff_getElem.1 hb
      rw [List.length_take] at hj
      have := hz j (by omega)
      rw [List.getElem_take]
      rw [List.getD_eq_getElem?_getD, List.getElem?_eq_getElem (by omega)] at this
      exact this
    rw [this, wv_zeros]
  have e3 : 18446744073709551616 = 2 ^ c * (2 * 2 ^ (63 - c)) := by
    rw [h2, ← Nat.pow_succ', ← Nat.pow_add]
    congr 1
    omega
  refine ⟨m + 2 ^ (63 - c) * wv (us.drop (k + 1)), ?_⟩
  rw [e1, e2, Nat.zero_add, hm, Nat.pow_add, show k * 64 = 64 * k by omega, Nat.pow_mul, ← h2, Nat.mul_assoc]
  congr 1
  have e4 : 18446744073709551616 * wv (us.drop (k + 1)) = 2 ^ c * (2 * (2 ^ (63 - c) * wv (us.drop (k + 1)))) := by
    conv => lhs; rw [e3]
    rw [Nat.mul_assoc, Nat.mul_assoc]
  rw [e4, ← Nat.mul_add]
  congr 1
  omega
def TwosIs (N : Nat) (w : World) (e : Ending) (w' : World) : Prop := ∃ T : Nat, e = .returned (.int .i64 (T : Int)) ∧ IsTwos N T ∧ T ≤ 1000000 ∧ Below w.heap.size w w'
set_option maxRecDepth 100000 in
set_option maxHeartbeats 2000000 in
theorem twos_any (N : Nat) (v : Value) (w : World) (h : IsN w v N) (hN : N ≠ 0) (htab : TabB w) : Calls Tryd.prog 41 #[v] w (TwosIs N w) := by
  obtain ⟨a, c, us, rfl, hc, hu, hw, rfl, hl, hlast, hnil⟩ := h
  obtain ⟨W1, hW1⟩ : ∃ W1, w.alloc (.cells #[.slice a us.length c] 25) = W1 := ⟨_, rfl⟩
  have hk : Blk W1 w.heap.size 25 #[.slice a us.length c] := by rw [← hW1]; exact Blk.new w _ _
  have hb : Below w.heap.size w W1 := by rw [← hW1]; exact (Below.refl _ _).alloc (Nat.le_refl _) _
  have HT := Lib.hid (htab.below hb (Nat.le_refl _))
  have hne : us ≠ [] := fun e => hN (by rw [e]; rfl)
  have hlast' := hlast hne
  have hl0 : 0 < us.length := List.length_pos_iff.2 hne
  have hW0 := getW hw
  obtain ⟨ad, rfl, _, _⟩ := hu 0 hl0
  have HU : Hid (∀ k, k < us.length → W1.cell? (ad.add k) = some (.int .u64 ((us.getD k 0 : Nat) : Int))) := Lib.hid (fun k hk => by
    obtain ⟨ad', h1, h2, h3⟩ := hu k hk
    cases h1
    exact (hb.cell (by rw [add_block]; exact h2)).trans h3)
  have q1 : W1.cell? ⟨w.heap.size, 0, none⟩ = some (.slice (some ad) us.length c) := hk.cell 0
  obtain ⟨n, hn⟩ : ∃ n, us.length = n := ⟨_, rfl⟩
  have Hn := Lib.hid hn
  have HW0 := Lib.hid hW0
  have HLst := Lib.hid hlast'
  have HB := Lib.hid hb
  have hz0 : Hid (∀ j, j < 0 → us.getD j 0 = 0) := Lib.hid (fun j hj => by omega)
  rw [hn] at q1 hW1 hl hl0 ⊢
  clear hc hu hw hlast hnil hne hlast' hW0 hk hb hN htab hn
  go_enter Tryd.func41, Tryd.ntmps41
  go_wp2_with fail
  go_loopw [3] (fun iv wr => ∃ (k : Nat), k < n ∧ iv = .int .i64 (k : Int) ∧ Hid (∀ j, j < k → us.getD j 0 = 0) ∧ wr = W1) (fun iv _ => n - (intOf iv).toNat)
  case atStart => exact ⟨0, hl0, rfl, hz0, rfl⟩
  case round =>
    clear hz0
    obtain ⟨k, hk, rfl, hz, rfl⟩ := hrel
    have hcu := HU.out k (by rw [Hn.out]; exact hk)
    obtain ⟨x, hx⟩ : ∃ x, us.getD k 0 = x := ⟨_, rfl⟩
    have Hx := Lib.hid hx
    rw [hx] at hcu
    have hi0 : (0 : Int) ≤ (k : Int) := by omega
    have hi1 : (k : Int) < (n : Int) := by omega
    by_cases h0 : x = 0
    · have hx0 : ((x : Int) == 0) = true := by simp [h0]
      have hk1 : k + 1 < n := by
        rcases Nat.lt_or_ge (k + 1) n with h | h
        · exact h
        · exfalso
          have e : us.length - 1 = k := by rw [Hn.out]; omega
          exact HLst.out (by rw [e, Hx.out, h0])
      have hz2 : Hid (∀ j, j < k + 1 → us.getD j 0 = 0) := Lib.hid (fun j hj => by
        rcases Nat.lt_or_ge j k with h | h
        · exact hz.out j h
        · obtain rfl : j = k := by omega
          rw [Hx.out, h0])
      clear hx h0 hz
      go_wp2_with fail
      go_roundw
      case rel => exact ⟨k + 1, hk1, by go_num, hz2, trivial⟩
      case measure => simp [intOf]; omega
    · have hx0 : ((x : Int) == 0) = false := by simp; omega
      have h2 := twos_words (us := us) (k := k) (by rw [Hn.out]; exact hk) hz.out (by rw [hx]; exact h0) (HW0.out k)
      rw [hx] at h2
      have hTz := Lib.hid (tz64_any x (by rw [← hx]; exact HW0.out k) h0 wr HT.out)
      obtain ⟨t, ht⟩ : ∃ t, Lib.ctzFrom 64 x = t := ⟨_, rfl⟩
      rw [ht] at h2 hTz
      have ht64 := h2.2
      have hs2 : (k : Int) * 64 + (t : Int) = ((k * 64 + t : Nat) : Int) := by omega
      have HR : Hid (TwosIs (wv us) w (.returned (.int .i64 ((k * 64 + t : Nat) : Int))) wr) := Lib.hid ⟨_, rfl, h2.1, by omega, HB.out⟩
      rw [← hs2] at HR
      clear hx h0 hz h2 ht hs2
      go_wp2_with fail
      refine hTz.out.mono ?_
      rintro e w2 ⟨rfl, rfl⟩
      clear hTz
      go_wp2_with fail
      go_ret
      exact HR.out
end Go.Proofs.YtckllmlkhlaboaaDoor
