/-
  Law 1: which of two numbers is greater.
-/
import Derived.Test.YtllmacokhjmdgaaGreatDoorNHlv
namespace Go.Proofs.YtllmacokhjmdgaaGreatDoor
open Go.RowKit
set_option linter.unusedVariables false
def cmpI (M N : Nat) : Int := if M < N then -1 else if N < M then 1 else 0
theorem cmpI_lt {M N : Nat} (h : M < N) : cmpI M N = -1 := by unfold cmpI; rw [if_pos h]
theorem cmpI_gt {M N : Nat} (h : N < M) : cmpI M N = 1 := by unfold cmpI; rw [if_neg (by omega), if_pos h]
theorem cmpI_eq (M : Nat) : cmpI M M = 0 := by unfold cmpI; rw [if_neg (by omega), if_neg (by omega)]
theorem wv_ge {us : List Nat} (hne : us ≠ []) (hl : us.getD (us.length - 1) 0 ≠ 0) : 18446744073709551616 ^ (us.length - 1) ≤ wv us := by
  rw [wv_last hne]
  have : 18446744073709551616 ^ (us.length - 1) * 1 ≤ 18446744073709551616 ^ (us.length - 1) * us.getD (us.length - 1) 0 := Nat.mul_le_mul_left _ (by omega)
  omega
theorem wv_len_lt {us vs : List Nat} (hu : Wrd us) (h : us.length < vs.length) (hl : vs.getD (vs.length - 1) 0 ≠ 0) : wv us < wv vs := by
  have hne : vs ≠ [] := fun e => by rw [e] at h; simp at h
  have h1 := wv_lt us hu
  have h2 := wv_ge hne hl
  have h3 : 18446744073709551616 ^ us.length ≤ 18446744073709551616 ^ (vs.length - 1) := Nat.pow_le_pow_right (by decide) (by omega)
  omega
theorem wv_top {us vs : List Nat} (hu : Wrd us) {k : Nat} (hk : k < us.length) (hk2 : k < vs.length) (he : us.drop (k + 1) = vs.drop (k + 1)) (hlt : us.getD k 0 < vs.getD k 0) : wv us < wv vs := by
  have e1 : ∀ l : List Nat, k < l.length → wv l = wv (l.take k) + 18446744073709551616 ^ k * (l.getD k 0 + 18446744073709551616 * wv (l.drop (k + 1))) := fun l hl => by
    conv => lhs; rw [← List.take_append_drop k l]
    rw [wv_append, List.length_take, Nat.min_eq_left (by omega), drop_get l k hl]
    rfl
  rw [e1 us hk, e1 vs hk2, he]
  have h1 : wv (us.take k) < 18446744073709551616 ^ k := by
    have h3 := wv_lt (us.take k) (fun u hu' => hu u (List.mem_of_mem_take hu'))
    rwa [List.length_take, Nat.min_eq_left (by omega)] at h3
  generalize 18446744073709551616 * wv (vs.drop (k + 1)) = t at *
  generalize us.getD k 0 = x at *
  generalize vs.getD k 0 = y at *
  generalize 18446744073709551616 ^ k = P at *
  have h2 : P * (x + t + 1) ≤ P * (y + t) := Nat.mul_le_mul_left _ (by omega)
  rw [Nat.mul_add, Nat.mul_one] at h2
  omega
set_option maxRecDepth 100000 in
theorem order_t (w : World) : Calls Tryz.prog 101 #[.bool true] w fun e w' => e = .returned (.int .i64 (-1)) ∧ w = w' := by
  go_enter Tryz.func101, Tryz.ntmps101
  go_wp2
  go_ret
  exact ⟨rfl, rfl⟩
set_option maxRecDepth 100000 in
theorem order_f (w : World) : Calls Tryz.prog 101 #[.bool false] w fun e w' => e = .returned (.int .i64 1) ∧ w = w' := by
  go_enter Tryz.func101, Tryz.ntmps101
  go_wp2
  go_ret
  exact ⟨rfl, rfl⟩
/-- Two boxes of numbers. -/
structure C2 (w W : World) (va vb : Value) : Prop where
  b1 : Blk W w.heap.size 26 #[va]
  b2 : Blk W (w.heap.size + 1) 26 #[vb]
  bel : Below w.heap.size w W
theorem C2.below {w W W' : World} {va vb : Value} {B : Nat} (h : C2 w W va vb) (hb : Below B W W') (hB : w.heap.size + 2 ≤ B) : C2 w W' va vb :=
  ⟨h.b1.below hb (by omega), h.b2.below hb (by omega), h.bel.trans (hb.mono (by omega))⟩
theorem C2.new (w : World) (va vb : Value) : C2 w ((w.alloc (.cells #[va] 26)).alloc (.cells #[vb] 26)) va vb := by
  have k1 := (Blk.new w 26 #[va]).alloc (.cells #[vb] 26)
  have k2 := Blk.new (w.alloc (.cells #[va] 26)) 26 #[vb]
  simp only [World.size_alloc] at k2
  exact ⟨k1, k2, ((Below.refl _ w).alloc (Nat.le_refl _) _).alloc (by simp) _⟩
def CmpIs (M N : Nat) (w : World) (e : Ending) (w' : World) : Prop := e = .returned (.int .i64 (cmpI M N)) ∧ Below w.heap.size w w'
set_option maxRecDepth 100000 in
set_option maxHeartbeats 2000000 in
theorem cmp_any (M N : Nat) (va vb : Value) (w : World) (ha : IsN w va M) (hb : IsN w vb N) : Calls Tryz.prog 65 #[va, vb] w (CmpIs M N w) := by
  obtain ⟨a1, c1, us, rfl, hc1, hu, hwu, rfl, hl1, hlast1, hnil1⟩ := ha
  obtain ⟨a2, c2, vs, rfl, hc2, hv, hwv, rfl, hl2, hlast2, hnil2⟩ := hb
  obtain ⟨n, hn⟩ : ∃ n, us.length = n := ⟨_, rfl⟩
  obtain ⟨m, hm⟩ : ∃ m, vs.length = m := ⟨_, rfl⟩
  have hc := C2.new w (.slice a1 us.length c1) (.slice a2 vs.length c2)
  obtain ⟨W2, hW2⟩ : ∃ W2, (w.alloc (.cells #[.slice a1 us.length c1] 26)).alloc (.cells #[.slice a2 vs.length c2] 26) = W2 := ⟨_, rfl⟩
  have hsz2 : W2.heap.size = w.heap.size + 2 := by rw [← hW2]; simp
  rw [hW2] at hc
  have Hn := Lib.hid hn; have Hm := Lib.hid hm
  have q1 : W2.cell? ⟨w.heap.size, 0, none⟩ = some (.slice a1 us.length c1) := hc.b1.cell 0
  have q2 : W2.cell? ⟨w.heap.size + 1, 0, none⟩ = some (.slice a2 vs.length c2) := hc.b2.cell 0
  have Hc := Lib.hid hc
  rw [hn, hm] at hW2
  rw [hn] at q1 Hc hl1
  rw [hm] at q2 Hc hl2
  have HB : Hid (Below w.heap.size w W2) := Lib.hid hc.bel
  rcases Nat.lt_trichotomy n m with hlt | heq | hgt
  · have HR : Hid (CmpIs (wv us) (wv vs) w (.returned (.int .i64 (-1))) W2) := Lib.hid ⟨by rw [cmpI_lt (wv_len_lt hwu (by omega) (hlast2 (fun e => by rw [e] at hm; simp at hm; omega)))], HB.out⟩
    have h1 : ((n : Int) == (m : Int)) = false := by simp; omega
    have h2 : (n : Int) < (m : Int) := by omega
    rw [hn, hm]
    clear hc hu hwu hlast1 hnil1 hv hwv hlast2 hnil2 hc1 hc2 hn hm Hc HB
    go_enter Tryz.func65, Tryz.ntmps65
    go_wp2_with fail
    refine (order_t _).mono ?_
    rintro e w3 ⟨rfl, rfl⟩
    go_wp2_with fail
    go_ret
    exact HR.out
  · subst heq
    have Hu := Lib.hid hu; have Hv := Lib.hid hv; have Hwu := Lib.hid hwu; have Hwv := Lib.hid hwv
    have hi0 : ((n : Int) == (n : Int)) = true := by simp
    have hdr0 : Hid (us.drop n = vs.drop n) := Lib.hid (by rw [List.drop_of_length_le (by omega), List.drop_of_length_le (by omega)])
    have hB0 : Hid (Below (w.heap.size + 2) W2 W2) := Lib.hid (Below.refl _ _)
    have hwn : IntKind.i64.wrap ((n : Int) - 1) = (n : Int) - 1 := IntWalk.i64_in _ ⟨by omega, by omega⟩
    rw [hn, hm]
    clear hc hu hwu hlast1 hnil1 hv hwv hlast2 hnil2 hc1 hc2 hn hm
    go_enter Tryz.func65, Tryz.ntmps65
    go_wp2_with fail
    go_loopw [5] (fun iv wr => ∃ (k : Nat) (z : Int), k ≤ n ∧ z = (k : Int) - 1 ∧ iv = .int .i64 z ∧ Hid (us.drop k = vs.drop k) ∧ Hid (Below (w.heap.size + 2) W2 wr)) (fun iv _ => (intOf iv + 1).toNat)
    case atStart => exact ⟨n, _, Nat.le_refl _, rfl, rfl, hdr0, hB0⟩
    case round =>
      clear hdr0 hB0 q1 q2
      obtain ⟨k, z, hk, hz, rfl, hdr, hbel⟩ := hrel
      have hcr := Hc.out.below hbel.out (Nat.le_refl _)
      cases k with
      | zero =>
        have hzn : ¬ (0 : Int) ≤ z := by omega
        clear hz
        have HR : Hid (CmpIs (wv us) (wv vs) w (.returned (.int .i64 0)) wr) := Lib.hid ⟨by rw [show us = vs from hdr.out, cmpI_eq], hcr.bel⟩
        clear hcr hdr hbel
        go_wp2_with fail
        go_ret
        exact HR.out
      | succ k =>
        obtain rfl : z = (k : Int) := by omega
        clear hz
        have hku : k < us.length := by rw [Hn.out]; omega
        have hkv : k < vs.length := by rw [Hm.out]; omega
        obtain ⟨ad1, rfl, hadl1, hcu⟩ := Hu.out.at hku (B := w.heap.size) (Nat.le_refl _)
        obtain ⟨ad2, rfl, hadl2, hcv⟩ := Hv.out.at hkv (B := w.heap.size) (Nat.le_refl _)
        have r1 : wr.drew.cell? ⟨w.heap.size, 0, none⟩ = some (.slice (some ad1) n c1) := hcr.b1.cell 0
        have r2 : wr.drew.cell? ⟨w.heap.size + 1, 0, none⟩ = some (.slice (some ad2) n c2) := hcr.b2.cell 0
        have r1' : wr.cell? ⟨w.heap.size, 0, none⟩ = some (.slice (some ad1) n c1) := r1
        have r2' : wr.cell? ⟨w.heap.size + 1, 0, none⟩ = some (.slice (some ad2) n c2) := r2
        have r3 : wr.drew.cell? (ad1.add k) = some (.int .u64 ((us.getD k 0 : Nat) : Int)) := (hcr.bel.cell (by rw [add_block]; exact hadl1)).trans hcu
        have r4 : wr.drew.cell? (ad2.add k) = some (.int .u64 ((vs.getD k 0 : Nat) : Int)) := (hcr.bel.cell (by rw [add_block]; exact hadl2)).trans hcv
        have r3' : wr.cell? (ad1.add k) = some (.int .u64 ((us.getD k 0 : Nat) : Int)) := r3
        have r4' : wr.cell? (ad2.add k) = some (.int .u64 ((vs.getD k 0 : Nat) : Int)) := r4
        have eu := drop_get us k hku
        have ev := drop_get vs k hkv
        have hwr : Hid (Below (w.heap.size + 2) W2 wr.drew) := Lib.hid hbel.out.drew
        have hwr2 : Hid (Below w.heap.size w wr.drew.drew) := Lib.hid hcr.bel.drew.drew
        obtain ⟨x, hx⟩ : ∃ x, us.getD k 0 = x := ⟨_, rfl⟩
        obtain ⟨y, hy⟩ : ∃ y, vs.getD k 0 = y := ⟨_, rfl⟩
        have Hx := Lib.hid hx; have Hy := Lib.hid hy
        rw [hx] at r3 r3' eu
        rw [hy] at r4 r4' ev
        have hi1 : (0 : Int) ≤ (k : Int) := by omega
        have hi2 : (k : Int) < (n : Int) := by omega
        rcases Nat.lt_trichotomy x y with hxy | hxy | hxy
        · have HR : Hid (CmpIs (wv us) (wv vs) w (.returned (.int .i64 (-1))) wr.drew.drew) := Lib.hid ⟨by rw [cmpI_lt (wv_top Hwu.out hku hkv hdr.out (by rw [Hx.out, Hy.out]; exact hxy))], hwr2.out⟩
          have h1 : ((x : Int) == (y : Int)) = false := by simp; omega
          have h2 : (x : Int) < (y : Int) := by omega
          clear hcr hdr hbel hcu hcv eu ev hx hy hadl1 hadl2 hwr hwr2 hku hkv
          go_wp2_with fail
          go_region_held3 (fun w' => w'.cell? ⟨w.heap.size, 0, none⟩ = some (.slice (some ad1) n c1) ∧ w'.cell? ⟨w.heap.size + 1, 0, none⟩ = some (.slice (some ad2) n c2) ∧ w'.cell? (ad1.add k) = some (.int .u64 (x : Int)) ∧ w'.cell? (ad2.add k) = some (.int .u64 (y : Int)))
            (first | exact ⟨r1, r2, r3, r4⟩ | go_keep)
            (fail)
          go_wp2_with fail
          go_region_held3 (fun w' => w'.cell? ⟨w.heap.size, 0, none⟩ = some (.slice (some ad1) n c1) ∧ w'.cell? ⟨w.heap.size + 1, 0, none⟩ = some (.slice (some ad2) n c2) ∧ w'.cell? (ad1.add k) = some (.int .u64 (x : Int)) ∧ w'.cell? (ad2.add k) = some (.int .u64 (y : Int)))
            (first | exact ⟨r1', r2', r3', r4'⟩ | go_keep)
            (first
              | (go_at_call 101; refine (order_t _).mono ?_; rintro e w3 ⟨rfl, rfl⟩))
          go_wp2_with fail
          go_ret
          exact HR.out
        · subst hxy
          have h1 : ((x : Int) == (x : Int)) = true := by simp
          have hdr2 : Hid (us.drop k = vs.drop k) := Lib.hid (by rw [eu, ev, hdr.out])
          clear hcr hdr hbel hcu hcv eu ev hx hy hadl1 hadl2 hku hkv hwr2
          go_wp2_with fail
          go_region_held3 (fun w' => w'.cell? ⟨w.heap.size, 0, none⟩ = some (.slice (some ad1) n c1) ∧ w'.cell? ⟨w.heap.size + 1, 0, none⟩ = some (.slice (some ad2) n c2) ∧ w'.cell? (ad1.add k) = some (.int .u64 (x : Int)) ∧ w'.cell? (ad2.add k) = some (.int .u64 (x : Int)))
            (first | exact ⟨r1, r2, r3, r4⟩ | go_keep)
            (fail)
          go_wp2_with fail
          go_roundw
          case rel => exact ⟨k, _, by omega, rfl, by go_num, hdr2, hwr⟩
          case measure => simp [intOf] <;> omega
        · have HR : Hid (CmpIs (wv us) (wv vs) w (.returned (.int .i64 1)) wr.drew.drew) := Lib.hid ⟨by rw [cmpI_gt (wv_top Hwv.out hkv hku hdr.out.symm (by rw [Hx.out, Hy.out]; exact hxy))], hwr2.out⟩
          have h1 : ((x : Int) == (y : Int)) = false := by simp; omega
          have h2 : ¬ (x : Int) < (y : Int) := by omega
          have h3 : decide (x < y) = false := by simp; omega
          clear hcr hdr hbel hcu hcv eu ev hx hy hadl1 hadl2 hwr hwr2 hku hkv
          go_wp2_with fail
          go_region_held3 (fun w' => w'.cell? ⟨w.heap.size, 0, none⟩ = some (.slice (some ad1) n c1) ∧ w'.cell? ⟨w.heap.size + 1, 0, none⟩ = some (.slice (some ad2) n c2) ∧ w'.cell? (ad1.add k) = some (.int .u64 (x : Int)) ∧ w'.cell? (ad2.add k) = some (.int .u64 (y : Int)))
            (first | exact ⟨r1, r2, r3, r4⟩ | go_keep)
            (fail)
          go_wp2_with fail
          go_region_held3 (fun w' => w'.cell? ⟨w.heap.size, 0, none⟩ = some (.slice (some ad1) n c1) ∧ w'.cell? ⟨w.heap.size + 1, 0, none⟩ = some (.slice (some ad2) n c2) ∧ w'.cell? (ad1.add k) = some (.int .u64 (x : Int)) ∧ w'.cell? (ad2.add k) = some (.int .u64 (y : Int)))
            (first | exact ⟨r1', r2', r3', r4'⟩ | go_keep)
            (first
              | (go_at_call 101; refine (order_f _).mono ?_; rintro e w3 ⟨rfl, rfl⟩))
          go_wp2_with fail
          go_ret
          exact HR.out
  · have HR : Hid (CmpIs (wv us) (wv vs) w (.returned (.int .i64 1)) W2) := Lib.hid ⟨by rw [cmpI_gt (wv_len_lt hwv (by omega) (hlast1 (fun e => by rw [e] at hn; simp at hn; omega)))], HB.out⟩
    have h1 : ((n : Int) == (m : Int)) = false := by simp; omega
    have h2 : ¬ (n : Int) < (m : Int) := by omega
    rw [hn, hm]
    clear hc hu hwu hlast1 hnil1 hv hwv hlast2 hnil2 hc1 hc2 hn hm Hc HB
    go_enter Tryz.func65, Tryz.ntmps65
    go_wp2_with fail
    refine (order_f _).mono ?_
    rintro e w3 ⟨rfl, rfl⟩
    go_wp2_with fail
    go_ret
    exact HR.out
end Go.Proofs.YtllmacokhjmdgaaGreatDoor
