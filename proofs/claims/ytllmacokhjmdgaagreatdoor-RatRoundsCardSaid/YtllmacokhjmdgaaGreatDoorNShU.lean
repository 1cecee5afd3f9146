/-
  Law 1: a shift up.
-/
import Derived.Test.YtllmacokhjmdgaaGreatDoorNCmp
namespace Go.Proofs.YtllmacokhjmdgaaGreatDoor
open Go.RowKit
set_option linter.unusedVariables false
/-- The row at round k: A, c, noughts. -/
def suRow (A : List Nat) (c m : Nat) : List Nat := A ++ c :: List.replicate m 0
theorem suRow_len {A : List Nat} {c m : Nat} : (suRow A c m).length = A.length + m + 1 := by unfold suRow; simp; omega
theorem suRow_get {A : List Nat} {c m q : Nat} (h : A.length = q) : (suRow A c m).getD q 0 = c := by
  unfold suRow
  rw [List.getD_eq_getElem?_getD, List.getElem?_append_right (by omega), h, Nat.sub_self]; rfl
theorem suRow_set {A : List Nat} {c m q v : Nat} (h : A.length = q) : (suRow A c m).set q v = suRow A v m := by
  unfold suRow
  rw [List.set_append_right _ _ (by omega), h, Nat.sub_self]; rfl
theorem suRow_set2 {A : List Nat} {c m q v : Nat} (h : A.length = q) : (suRow A c (m + 1)).set (q + 1) v = suRow (A ++ [c]) v m := by
  unfold suRow
  rw [List.set_append_right _ _ (by omega), h, Nat.add_sub_cancel_left, List.replicate_succ]; simp
theorem shu_int {p x c t : Nat} (hp : p ≤ 63) (ht : t = 64 - p) (hx : x < 18446744073709551616) (hc : c < 2 ^ p) :
    IntKind.u64.wrap ((x : Int) * 2 ^ p) = (((x * 2 ^ p) % 18446744073709551616 : Nat) : Int) ∧ ((x : Int) / 2 ^ t = ((x / 2 ^ (64 - p) : Nat) : Int)) ∧
    ((x * 2 ^ p) % 18446744073709551616 = (x % 2 ^ (64 - p)) * 2 ^ p → bits .or .u64 (c : Int) (((x * 2 ^ p) % 18446744073709551616 : Nat) : Int) = (((x * 2 ^ p) % 18446744073709551616 + c : Nat) : Int)) := by
  subst ht
  have e2 : ∀ q : Nat, ((2 : Int) ^ q) = ((2 ^ q : Nat) : Int) := fun q => by rw [Int.natCast_pow]; rfl
  have h4 : (x * 2 ^ p) % 18446744073709551616 < 18446744073709551616 := Nat.mod_lt _ (by omega)
  have h5 : c < 18446744073709551616 := Nat.lt_of_lt_of_le hc (by have : 2 ^ p ≤ 2 ^ 63 := Nat.pow_le_pow_right (by omega) hp; omega)
  refine ⟨by rw [e2, ← Int.natCast_mul, wrapu64_mod], by rw [e2, ← Int.natCast_ediv], fun h => ?_⟩
  rw [u64_or_nat _ _ h5 h4]
  congr 1
  rw [Nat.or_comm, h, nat_join p _ _ (Nat.mul_mod_left _ _) hc]
set_option maxRecDepth 100000 in
set_option maxHeartbeats 4000000 in
theorem shu_core (a : Option Addr) (c : Nat) (us : List Nat) (d : Nat) (BY : Int) (w : World) (hu : UR w a us) (hw : Wrd us) (hl : us.length ≤ 9000) (hne : us ≠ []) (hd : d ≤ 20000) (hBY : BY = (d : Int))
    (hz : ∀ W, Below w.heap.size w W → Calls Tryz.prog 50 #[.agg #[.slice a us.length c]] W fun e w' => e = .returned (.bool false) ∧ Below W.heap.size W w') :
    Calls Tryz.prog 68 #[.agg #[.slice a us.length c], .int .i64 BY] w (GaveF (wv us * 2 ^ d) w) := by
  obtain ⟨n, hn⟩ : ∃ n, us.length = n := ⟨_, rfl⟩
  have hn0 : 0 < n := by rw [← hn]; exact List.length_pos_iff.2 hne
  obtain ⟨W2, hW2⟩ : ∃ W2, ((w.alloc (.cells #[.slice a us.length c] 26)).alloc (.cells #[.slice none 0 0] 26)) = W2 := ⟨_, rfl⟩
  have hb2 := B2.new w (.slice a us.length c) (.slice none 0 0)
  have hsz2 : W2.heap.size = w.heap.size + 2 := by rw [← hW2]; simp
  rw [hW2] at hb2
  have HZ := Lib.hid (hz W2 hb2.bel)
  have Hn := Lib.hid hn
  have Hw := Lib.hid hw
  have Hu := Lib.hid hu
  have Hb2 := Lib.hid hb2
  have q1 : W2.cell? ⟨w.heap.size, 0, none⟩ = some (.slice a us.length c) := hb2.b1.cell 0
  rw [hn] at q1 HZ Hb2 hW2 hl ⊢
  have hneg : ¬ BY < 0 := by omega
  have hmin : min BY 20000 = BY := by omega
  have hBY0 : (0 : Int) ≤ BY := by omega
  obtain ⟨wh, hwh⟩ : ∃ wh, d / 64 = wh := ⟨_, rfl⟩
  obtain ⟨p, hp⟩ : ∃ p, d % 64 = p := ⟨_, rfl⟩
  obtain ⟨L, hL⟩ : ∃ L, n + wh + 1 = L := ⟨_, rfl⟩
  obtain ⟨t, ht⟩ : ∃ t, t = 64 - p := ⟨_, rfl⟩
  have hp63 : p ≤ 63 := by omega
  have Hdd : Hid (d = wh * 64 + p) := Lib.hid (by omega)
  have hdw : BY / 64 = (wh : Int) := by omega
  have hdp : BY % 64 = (p : Int) := by omega
  have hnL : (n : Int) + (wh : Int) + 1 = (L : Int) := by omega
  have hp63' : (p : Int) ≤ 63 := by omega
  have hpt : (64 : Int) - (p : Int) = (t : Int) := by omega
  have hpt' : IntKind.u64.wrap ((64 : Int) - (p : Int)) = (t : Int) := by rw [hpt]; exact IntWalk.u64_in _ ⟨by omega, by omega⟩
  have ht0 : (0 : Int) ≤ (t : Int) := by omega
  have ht64 : (t : Int) ≤ 64 := by omega
  have Ht := Lib.hid ht
  have hwL : wh ≤ 312 := by omega
  clear hb2 hu hw hne hz hn hwh hp hBY ht
  go_enter Tryz.func68, Tryz.ntmps68
  go_wp2_with fail
  refine HZ.out.mono ?_
  rintro e W3 ⟨rfl, hb3⟩
  rw [hsz2] at hb3
  have hbx3 := Hb2.out.below hb3 (Nat.le_refl _)
  have HB3 := Lib.hid hb3
  have q3 : W3.cell? ⟨w.heap.size, 0, none⟩ = some (.slice a n c) := hbx3.b1.cell 0
  have hsz3 : w.heap.size + 2 ≤ W3.heap.size := by have := hb3.size; omega
  clear HZ hbx3 hb3 q1
  go_wp2_with (at_make; refine make_u rfl (.tmp 32) rfl (w.heap.size + 2) _ _ L rfl rfl (by omega) hsz3 _ rfl ?_)
  intro W6 hr6 hb6 _
  obtain ⟨g, hg⟩ : ∃ g, W3.heap.size = g := ⟨_, rfl⟩
  rw [hg] at hr6
  try rw [hg]
  rw [← List.map_replicate] at hr6
  have HB6 : Hid (Below (w.heap.size + 2) W2 W6) := Lib.hid (HB3.out.trans hb6)
  have q6 : W6.cell? ⟨w.heap.size, 0, none⟩ = some (.slice a n c) := (Hb2.out.below HB6.out (Nat.le_refl _)).b1.cell 0
  have hM0 : Hid (Su us p wh 0 (List.replicate wh 0) 0) := Lib.hid ⟨by simp, wrd_zeros _, Nat.two_pow_pos _, by rw [wv_zeros]; simp [wv]⟩
  have Hr6 : Hid (W6.ownsRow (w.heap.size + 2) 22 1 (.slice (some ⟨g, 0, none⟩) L L) L ((suRow (List.replicate wh 0) 0 n).map uv)) := Lib.hid (by
    have e : List.replicate L 0 = suRow (List.replicate wh 0) 0 n := by
      unfold suRow
      rw [← List.replicate_succ, List.replicate_append_replicate]
      congr 1
      omega
    rw [← e]
    exact hr6)
  clear hr6 hb6 q3 HB3 hg hsz3
  go_wp2_with fail
  go_loopw [37] (fun iv wr => ∃ (k : Nat) (A : List Nat) (cc : Nat), k ≤ n ∧ iv = .int .i64 (k : Int) ∧ Hid (Su us p wh k A cc) ∧ Hid (wr.ownsRow (w.heap.size + 2) 22 1 (.slice (some ⟨g, 0, none⟩) L L) L ((suRow A cc (n - k)).map uv)) ∧ Hid (Below (w.heap.size + 2) W2 wr)) (fun iv _ => n - (intOf iv).toNat)
  case atStart => exact ⟨0, _, 0, by omega, rfl, hM0, Hr6, HB6⟩
  case round =>
    clear hM0 Hr6 HB6 q6
    obtain ⟨k, A, cc, hk, rfl, hS, hrow, hbel⟩ := hrel
    have hbxr := Hb2.out.below hbel.out (Nat.le_refl _)
    have hAl := hS.out.len
    by_cases hlt : k < n
    · obtain ⟨q, hq⟩ : ∃ q, wh + k = q := ⟨_, rfl⟩
      have hkq : (k : Int) + (wh : Int) = (q : Int) := by omega
      have hq0 : (0 : Int) ≤ (q : Int) := by omega
      have hqL : (q : Int) < (L : Int) := by omega
      obtain ⟨r, hr⟩ : ∃ r, q + 1 = r := ⟨_, rfl⟩
      have hqr : (q : Int) + 1 = (r : Int) := by omega
      have hr0 : (0 : Int) ≤ (r : Int) := by omega
      have hrL : (r : Int) < (L : Int) := by omega
      have hk0 : (0 : Int) ≤ (k : Int) := by omega
      have hkn : (k : Int) < (n : Int) := by omega
      have hwq : IntKind.i64.wrap (q : Int) = (q : Int) := IntWalk.i64_in _ ⟨by omega, by omega⟩
      have hwr : IntKind.i64.wrap (r : Int) = (r : Int) := IntWalk.i64_in _ ⟨by omega, by omega⟩
      rw [hq] at hAl
      obtain ⟨ad, rfl, hadl, hcu⟩ := Hu.out.at (by rw [Hn.out]; exact hlt) (B := w.heap.size) (Nat.le_refl _)
      obtain ⟨x, hx⟩ : ∃ x, us.getD k 0 = x := ⟨_, rfl⟩
      have hxw : x < 18446744073709551616 := by rw [← hx]; exact getW Hw.out k
      obtain ⟨h1, h2, h3⟩ := su_step hp63 Hw.out hS.out
      rw [hx] at h2 h3 hcu
      obtain ⟨i1, i2, i3⟩ := shu_int hp63 Ht.out hxw h1
      replace i3 := i3 h2
      obtain ⟨X, hX⟩ : ∃ X : Int, (x : Int) = X := ⟨_, rfl⟩
      obtain ⟨XS, hXS⟩ : ∃ XS : Int, (((x * 2 ^ p) % 18446744073709551616 : Nat) : Int) = XS := ⟨_, rfl⟩
      obtain ⟨V, hV⟩ : ∃ V : Int, (((x * 2 ^ p) % 18446744073709551616 + cc : Nat) : Int) = V := ⟨_, rfl⟩
      obtain ⟨CC, hCC⟩ : ∃ CC : Int, (cc : Int) = CC := ⟨_, rfl⟩
      obtain ⟨NC, hNC⟩ : ∃ NC : Int, ((x / 2 ^ (64 - p) : Nat) : Int) = NC := ⟨_, rfl⟩
      rw [hX, hXS] at i1
      rw [hX, hNC] at i2
      rw [hCC, hXS, hV] at i3
      rw [hX] at hcu
      have hcx : wr.cell? (ad.add k) = some (.int .u64 X) := (hbel.out.cell (by rw [add_block]; omega)).trans ((Hb2.out.bel.cell (by rw [add_block]; exact hadl)).trans hcu)
      obtain ⟨m, hm⟩ : ∃ m, n - k = m + 1 := ⟨n - k - 1, by omega⟩
      have hrow' := hrow.out
      rw [hm] at hrow'
      have hcc := ou_cell hrow' q (by rw [suRow_len]; omega)
      rw [suRow_get hAl, add_zero_off, hCC] at hcc
      obtain ⟨hbg, _, hfr⟩ := ou_block hrow'
      have hf1 := hfr q (by omega)
      have hrw1 := ou_set hrow' q ((x * 2 ^ p) % 18446744073709551616 + cc) (by omega)
      rw [suRow_set hAl, hV] at hrw1
      have hbw1 := hbel.out.setCell (p := ⟨g, q, none⟩) hbg (.int .u64 V)
      obtain ⟨cv2, hc2, hf2⟩ := row_at hrw1 (q + 1) (by omega)
      have hrw2 := ou_set hrw1 (q + 1) (x / 2 ^ (64 - p)) (by omega)
      rw [suRow_set2 hAl, hNC, show m = n - (k + 1) by omega, hr] at hrw2
      rw [hr] at hc2 hf2
      have HSt := Lib.hid h3
      have Hrw := Lib.hid hrw2
      have Hbw := Lib.hid (hbw1.setCell (p := ⟨g, r, none⟩) hbg (.int .u64 NC))
      clear h1 h2 h3 hx hxw hcu hadl hX hXS hV hCC hNC hrow' hrow hS hbel hbxr hrw1 hrw2 hbw1 hAl hq hm hfr hr
      go_wp2_with fail
      go_roundw
      case rel => exact ⟨k + 1, _, _, by omega, by go_num, HSt, Hrw, Hbw⟩
      case measure => simp [intOf]; omega
    · obtain rfl : k = n := by omega
      have hS' := hS.out
      rw [← Hn.out] at hS'
      obtain ⟨hwd, hval⟩ := su_done hp63 hS'
      rw [← Hdd.out] at hval
      have hou : OU (w.heap.size + 2) wr (.slice (some ⟨g, 0, none⟩) L L) (A ++ [cc]) := by
        have h1 := hrow.out
        rw [Nat.sub_self] at h1
        unfold OU
        have e : (A ++ [cc]).length = L := by rw [List.length_append, hAl]; simp; omega
        rw [e]
        exact h1
      have HT := Lib.hid (trim_fresh (w.heap.size + 2) (w.heap.size + 1) w wr _ _ _ hou hbxr.bel (by omega) (by omega) hbxr.b2 hwd hval (by rw [List.length_append, hAl]; simp; omega))
      clear hval hou hwd hS' hbxr hbel hrow hS
      go_wp2_with fail
      refine HT.out.mono ?_
      rintro e w5 ⟨x, y, z, rfl, hk5, hN5, hB5, hF5⟩
      have hk50 := hk5.out.cell 0; have hk5f := hk5.out.frozen 0
      simp only [List.getElem?_toArray, List.getElem?_cons_zero] at hk50
      clear HT
      go_wp2_with fail
      refine bodyPost_ret (res_nat rfl _ _ (w.heap.size + 1) (.slice x y z) rfl (hk5.out.set_ 0 _)) rfl ?_
      exact ⟨_, rfl, hN5.out, hF5.out.mono (by omega), hB5.out⟩
set_option maxRecDepth 100000 in
set_option maxHeartbeats 1000000 in
theorem shu_any (N d : Nat) (v : Value) (BY : Int) (w : World) (h : IsN w v N) (hN : N < 18446744073709551616 ^ 9000) (hd : d ≤ 20000) (hBY : BY = (d : Int)) :
    Calls Tryz.prog 68 #[v, .int .i64 BY] w (GaveF (N * 2 ^ d) w) := by
  obtain ⟨a, c, us, rfl, hc, hu, hw, rfl, hl, _, _, hnil⟩ := isN_open 9000 h hN
  by_cases h0 : wv us = 0
  · have e0 : wv us * 2 ^ d = 0 := by rw [h0, Nat.zero_mul]
    rw [e0]
    rw [h0] at h
    obtain ⟨n, hn⟩ : ∃ n, us.length = n := ⟨_, rfl⟩
    rw [hn] at h ⊢
    have hneg : ¬ BY < 0 := by omega
    have hb2 := B2.new w (.slice a n c) (.slice none 0 0)
    obtain ⟨W2, hW2⟩ : ∃ W2, ((w.alloc (.cells #[.slice a n c] 26)).alloc (.cells #[.slice none 0 0] 26)) = W2 := ⟨_, rfl⟩
    have hsz2 : W2.heap.size = w.heap.size + 2 := by rw [← hW2]; simp
    rw [hW2] at hb2
    have HZ := Lib.hid (zero_yes (h.below hb2.bel (Nat.le_refl _)))
    have Hb2 := Lib.hid hb2
    have q1 : W2.cell? ⟨w.heap.size, 0, none⟩ = some (.slice a n c) := hb2.b1.cell 0
    clear h hb2 hu hw hnil h0 e0 hc hn hl
    go_enter Tryz.func68, Tryz.ntmps68
    go_wp2_with fail
    refine HZ.out.mono ?_
    rintro e w5 ⟨rfl, hb5⟩
    rw [hsz2] at hb5
    have hbx := Hb2.out.below hb5 (Nat.le_refl _)
    have hk5 := hbx.b2
    have hk50 := hk5.cell 0; have hk5f := hk5.frozen 0
    simp only [List.getElem?_toArray, List.getElem?_cons_zero] at hk50
    have HK5 := Lib.hid hk5
    have HB5 := Lib.hid hbx.bel
    clear hbx hk5 hb5 HZ q1
    go_wp2_with fail
    refine bodyPost_ret (res_nat rfl _ _ (w.heap.size + 1) (.slice none 0 0) rfl (HK5.out.set_ 0 _)) rfl ?_
    exact ⟨_, rfl, isN_zero _, fresh_zero _, HB5.out.setCell (p := ⟨w.heap.size + 1, 0, none⟩) (by show w.heap.size ≤ w.heap.size + 1; omega) _⟩
  · exact shu_core a c us d BY w hu hw hl (fun e => h0 (by rw [e]; rfl)) hd hBY (fun W hW => zero_no (h.below hW (Nat.le_refl _)) h0)
end Go.Proofs.YtllmacokhjmdgaaGreatDoor
