/-
  Law 1: a shift up.
  Law 1: a number divided by a word.
  Law 1: a divisor's product taken from a part of a row; a divisor given back.
  Law 1: a divisor given back to a part of a row.
  Law 1: a digit of a long division is guessed, never too small.
  Law 1: what a long division keeps, round for round.
  Law 1: division by hand: its beginning.
  Law 1: quotient and rest of any two numbers.
-/
import Derived.Test.YtckglpkafhmehaaGreatDoorNCmp
import Derived.Shelf.Spec.BitsCarry
import Derived.Laws.CopyOwn
import Derived.StillTailTactics
namespace Go.Proofs.YtckglpkafhmehaaGreatDoor
open Go.RowKit
set_option linter.unusedVariables false
/-- The row at round k: A, c, noughts. -/
def suRow (A : List Nat) (c m : Nat) : List Nat := A ++ c :: List.replicate m 0
theorem suRow_len {A : List Nat} {c m : Nat} : (suRow A c m).length = A.length + m + 1 := by unfold suRow; simp; omega
theorem suRow_get {A : List Nat} {c m q : Nat} (h : A.length = q) : (suRow A c m).getD q 0 = c := by
  unfold suRow
  rw [List.getD_eq_getElem?_getD, List.getElem?_append_right (by omega), h, Nat.sub_self]; rfl
theorem suRow_set {A : List Nat} {c m q v : Nat} (h : A.length = q) : (suRow A c m).set q v = suRow A v m := by
  unfold suRow
  rw [List.set_append_right _ _ (by omega), h, Nat.sub_self]; rfl
theorem suRow_set2 {A : List Nat} {c m q v : Nat} (h : A.length = q) : (suRow A c (m + 1)).set (q + 1) v = suRow (A ++ [c]) v m := by
  unfold suRow
  rw [List.set_append_right _ _ (by omega), h, Nat.add_sub_cancel_left, List.replicate_succ]; simp
theorem shu_int {p x c t : Nat} (hp : p ≤ 63) (ht : t = 64 - p) (hx : x < 18446744073709551616) (hc : c < 2 ^ p) :
    IntKind.u64.wrap ((x : Int) * 2 ^ p) = (((x * 2 ^ p) % 18446744073709551616 : Nat) : Int) ∧ ((x : Int) / 2 ^ t = ((x / 2 ^ (64 - p) : Nat) : Int)) ∧
    ((x * 2 ^ p) % 18446744073709551616 = (x % 2 ^ (64 - p)) * 2 ^ p → bits .or .u64 (c : Int) (((x * 2 ^ p) % 18446744073709551616 : Nat) : Int) = (((x * 2 ^ p) % 18446744073709551616 + c : Nat) : Int)) := by
  subst ht
  have e2 : ∀ q : Nat, ((2 : Int) ^ q) = ((2 ^ q : Nat) : Int) := fun q => by rw [Int.natCast_pow]; rfl
  have h4 : (x * 2 ^ p) % 18446744073709551616 < 18446744073709551616 := Nat.mod_lt _ (by omega)
  have h5 : c < 18446744073709551616 := Nat.lt_of_lt_of_le hc (by have : 2 ^ p ≤ 2 ^ 63 := Nat.pow_le_pow_right (by omega) hp; omega)
  refine ⟨by rw [e2, ← Int.natCast_mul, wrapu64_mod], by rw [e2, ← Int.natCast_ediv], fun h => ?_⟩
  rw [u64_or_nat _ _ h5 h4]
  congr 1
  rw [Nat.or_comm, h, nat_join p _ _ (Nat.mul_mod_left _ _) hc]
set_option maxRecDepth 100000 in
set_option maxHeartbeats 4000000 in
theorem shu_core (a : Option Addr) (c : Nat) (us : List Nat) (d : Nat) (BY : Int) (w : World) (hu : UR w a us) (hw : Wrd us) (hl : us.length ≤ 9000) (hne : us ≠ []) (hd : d ≤ 20000) (hBY : BY = (d : Int))
    (hz : ∀ W, Below w.heap.size w W → Calls Tryz.prog 18 #[.agg #[.slice a us.length c]] W fun e w' => e = .returned (.bool false) ∧ Below W.heap.size W w') :
    Calls Tryz.prog 42 #[.agg #[.slice a us.length c], .int .i64 BY] w (GaveF (wv us * 2 ^ d) w) := by
  obtain ⟨n, hn⟩ : ∃ n, us.length = n := ⟨_, rfl⟩
  have hn0 : 0 < n := by rw [← hn]; exact List.length_pos_iff.2 hne
  obtain ⟨W2, hW2⟩ : ∃ W2, ((w.alloc (.cells #[.slice a us.length c] 31)).alloc (.cells #[.slice none 0 0] 31)) = W2 := ⟨_, rfl⟩
  have hb2 := B2.new w (.slice a us.length c) (.slice none 0 0)
  have hsz2 : W2.heap.size = w.heap.size + 2 := by rw [← hW2]; simp
  rw [hW2] at hb2
  have HZ := Lib.hid (hz W2 hb2.bel)
  have Hn := Lib.hid hn
  have Hw := Lib.hid hw
  have Hu := Lib.hid hu
  have Hb2 := Lib.hid hb2
  have q1 : W2.cell? ⟨w.heap.size, 0, none⟩ = some (.slice a us.length c) := hb2.b1.cell 0
  rw [hn] at q1 HZ Hb2 hW2 hl ⊢
  have hneg : ¬ BY < 0 := by omega
  have hmin : min BY 20000 = BY := by omega
  have hBY0 : (0 : Int) ≤ BY := by omega
  obtain ⟨wh, hwh⟩ : ∃ wh, d / 64 = wh := ⟨_, rfl⟩
  obtain ⟨p, hp⟩ : ∃ p, d % 64 = p := ⟨_, rfl⟩
  obtain ⟨L, hL⟩ : ∃ L, n + wh + 1 = L := ⟨_, rfl⟩
  obtain ⟨t, ht⟩ : ∃ t, t = 64 - p := ⟨_, rfl⟩
  have hp63 : p ≤ 63 := by omega
  have Hdd : Hid (d = wh * 64 + p) := Lib.hid (by omega)
  have hdw : BY / 64 = (wh : Int) := by omega
  have hdp : BY % 64 = (p : Int) := by omega
  have hnL : (n : Int) + (wh : Int) + 1 = (L : Int) := by omega
  have hp63' : (p : Int) ≤ 63 := by omega
  have hpt : (64 : Int) - (p : Int) = (t : Int) := by omega
  have hpt' : IntKind.u64.wrap ((64 : Int) - (p : Int)) = (t : Int) := by rw [hpt]; exact IntWalk.u64_in _ ⟨by omega, by omega⟩
  have ht0 : (0 : Int) ≤ (t : Int) := by omega
  have ht64 : (t : Int) ≤ 64 := by omega
  have Ht := Lib.hid ht
  have hwL : wh ≤ 312 := by omega
  clear hb2 hu hw hne hz hn hwh hp hBY ht
  go_enter Tryz.func42, Tryz.ntmps42
  go_wp2_with fail
  refine HZ.out.mono ?_
  rintro e W3 ⟨rfl, hb3⟩
  rw [hsz2] at hb3
  have hbx3 := Hb2.out.below hb3 (Nat.le_refl _)
  have HB3 := Lib.hid hb3
  have q3 : W3.cell? ⟨w.heap.size, 0, none⟩ = some (.slice a n c) := hbx3.b1.cell 0
  have hsz3 : w.heap.size + 2 ≤ W3.heap.size := by have := hb3.size; omega
  clear HZ hbx3 hb3 q1
  go_wp2_with (at_make; refine make_u rfl (.tmp 32) rfl (w.heap.size + 2) _ _ L rfl rfl (by omega) hsz3 _ rfl ?_)
  intro W6 hr6 hb6 _
  obtain ⟨g, hg⟩ : ∃ g, W3.heap.size = g := ⟨_, rfl⟩
  rw [hg] at hr6
  try rw [hg]
  rw [← List.map_replicate] at hr6
  have HB6 : Hid (Below (w.heap.size + 2) W2 W6) := Lib.hid (HB3.out.trans hb6)
  have q6 : W6.cell? ⟨w.heap.size, 0, none⟩ = some (.slice a n c) := (Hb2.out.below HB6.out (Nat.le_refl _)).b1.cell 0
  have hM0 : Hid (Su us p wh 0 (List.replicate wh 0) 0) := Lib.hid ⟨by simp, wrd_zeros _, Nat.two_pow_pos _, by rw [wv_zeros]; simp [wv]⟩
  have Hr6 : Hid (W6.ownsRow (w.heap.size + 2) 60 1 (.slice (some ⟨g, 0, none⟩) L L) L ((suRow (List.replicate wh 0) 0 n).map uv)) := Lib.hid (by
    have e : List.replicate L 0 = suRow (List.replicate wh 0) 0 n := by
      unfold suRow
      rw [← List.replicate_succ, List.replicate_append_replicate]
      congr 1
      omega
    rw [← e]
    exact hr6)
  clear hr6 hb6 q3 HB3 hg hsz3
  go_wp2_with fail
  go_loopw [37] (fun iv wr => ∃ (k : Nat) (A : List Nat) (cc : Nat), k ≤ n ∧ iv = .int .i64 (k : Int) ∧ Hid (Su us p wh k A cc) ∧ Hid (wr.ownsRow (w.heap.size + 2) 60 1 (.slice (some ⟨g, 0, none⟩) L L) L ((suRow A cc (n - k)).map uv)) ∧ Hid (Below (w.heap.size + 2) W2 wr)) (fun iv _ => n - (intOf iv).toNat)
  case atStart => exact ⟨0, _, 0, by omega, rfl, hM0, Hr6, HB6⟩
  case round =>
    clear hM0 Hr6 HB6 q6
    obtain ⟨k, A, cc, hk, rfl, hS, hrow, hbel⟩ := hrel
    have hbxr := Hb2.out.below hbel.out (Nat.le_refl _)
    have hAl := hS.out.len
    by_cases hlt : k < n
    · obtain ⟨q, hq⟩ : ∃ q, wh + k = q := ⟨_, rfl⟩
      have hkq : (k : Int) + (wh : Int) = (q : Int) := by omega
      have hq0 : (0 : Int) ≤ (q : Int) := by omega
      have hqL : (q : Int) < (L : Int) := by omega
      obtain ⟨r, hr⟩ : ∃ r, q + 1 = r := ⟨_, rfl⟩
      have hqr : (q : Int) + 1 = (r : Int) := by omega
      have hr0 : (0 : Int) ≤ (r : Int) := by omega
      have hrL : (r : Int) < (L : Int) := by omega
      have hk0 : (0 : Int) ≤ (k : Int) := by omega
      have hkn : (k : Int) < (n : Int) := by omega
      have hwq : IntKind.i64.wrap (q : Int) = (q : Int) := IntWalk.i64_in _ ⟨by omega, by omega⟩
      have hwr : IntKind.i64.wrap (r : Int) = (r : Int) := IntWalk.i64_in _ ⟨by omega, by omega⟩
      rw [hq] at hAl
      obtain ⟨ad, rfl, hadl, hcu⟩ := Hu.out.at (by rw [Hn.out]; exact hlt) (B := w.heap.size) (Nat.le_refl _)
      obtain ⟨x, hx⟩ : ∃ x, us.getD k 0 = x := ⟨_, rfl⟩
      have hxw : x < 18446744073709551616 := by rw [← hx]; exact getW Hw.out k
      obtain ⟨h1, h2, h3⟩ := su_step hp63 Hw.out hS.out
      rw [hx] at h2 h3 hcu
      obtain ⟨i1, i2, i3⟩ := shu_int hp63 Ht.out hxw h1
      replace i3 := i3 h2
      obtain ⟨X, hX⟩ : ∃ X : Int, (x : Int) = X := ⟨_, rfl⟩
      obtain ⟨XS, hXS⟩ : ∃ XS : Int, (((x * 2 ^ p) % 18446744073709551616 : Nat) : Int) = XS := ⟨_, rfl⟩
      obtain ⟨V, hV⟩ : ∃ V : Int, (((x * 2 ^ p) % 18446744073709551616 + cc : Nat) : Int) = V := ⟨_, rfl⟩
      obtain ⟨CC, hCC⟩ : ∃ CC : Int, (cc : Int) = CC := ⟨_, rfl⟩
      obtain ⟨NC, hNC⟩ : ∃ NC : Int, ((x / 2 ^ (64 - p) : Nat) : Int) = NC := ⟨_, rfl⟩
      rw [hX, hXS] at i1
      rw [hX, hNC] at i2
      rw [hCC, hXS, hV] at i3
      rw [hX] at hcu
      have hcx : wr.cell? (ad.add k) = some (.int .u64 X) := (hbel.out.cell (by rw [add_block]; omega)).trans ((Hb2.out.bel.cell (by rw [add_block]; exact hadl)).trans hcu)
      obtain ⟨m, hm⟩ : ∃ m, n - k = m + 1 := ⟨n - k - 1, by omega⟩
      have hrow' := hrow.out
      rw [hm] at hrow'
      have hcc := ou_cell hrow' q (by rw [suRow_len]; omega)
      rw [suRow_get hAl, add_zero_off, hCC] at hcc
      obtain ⟨hbg, _, hfr⟩ := ou_block hrow'
      have hf1 := hfr q (by omega)
      have hrw1 := ou_set hrow' q ((x * 2 ^ p) % 18446744073709551616 + cc) (by omega)
      rw [suRow_set hAl, hV] at hrw1
      have hbw1 := hbel.out.setCell (p := ⟨g, q, none⟩) hbg (.int .u64 V)
      obtain ⟨cv2, hc2, hf2⟩ := row_at hrw1 (q + 1) (by omega)
      have hrw2 := ou_set hrw1 (q + 1) (x / 2 ^ (64 - p)) (by omega)
      rw [suRow_set2 hAl, hNC, show m = n - (k + 1) by omega, hr] at hrw2
      rw [hr] at hc2 hf2
      have HSt := Lib.hid h3
      have Hrw := Lib.hid hrw2
      have Hbw := Lib.hid (hbw1.setCell (p := ⟨g, r, none⟩) hbg (.int .u64 NC))
      clear h1 h2 h3 hx hxw hcu hadl hX hXS hV hCC hNC hrow' hrow hS hbel hbxr hrw1 hrw2 hbw1 hAl hq hm hfr hr
      go_wp2_with fail
      go_roundw
      case rel => exact ⟨k + 1, _, _, by omega, by go_num, HSt, Hrw, Hbw⟩
      case measure => simp [intOf]; omega
    · obtain rfl : k = n := by omega
      have hS' := hS.out
      rw [← Hn.out] at hS'
      obtain ⟨hwd, hval⟩ := su_done hp63 hS'
      rw [← Hdd.out] at hval
      have hou : OU (w.heap.size + 2) wr (.slice (some ⟨g, 0, none⟩) L L) (A ++ [cc]) := by
        have h1 := hrow.out
        rw [Nat.sub_self] at h1
        unfold OU
        have e : (A ++ [cc]).length = L := by rw [List.length_append, hAl]; simp; omega
        rw [e]
        exact h1
      have HT := Lib.hid (trim_fresh (w.heap.size + 2) (w.heap.size + 1) w wr _ _ _ hou hbxr.bel (by omega) (by omega) hbxr.b2 hwd hval (by rw [List.length_append, hAl]; simp; omega))
      clear hval hou hwd hS' hbxr hbel hrow hS
      go_wp2_with fail
      refine HT.out.mono ?_
      rintro e w5 ⟨x, y, z, rfl, hk5, hN5, hB5, hF5⟩
      have hk50 := hk5.out.cell 0; have hk5f := hk5.out.frozen 0
      simp only [List.getElem?_toArray, List.getElem?_cons_zero] at hk50
      clear HT
      go_wp2_with fail
      refine bodyPost_ret (res_nat rfl _ _ (w.heap.size + 1) (.slice x y z) rfl (hk5.out.set_ 0 _)) rfl ?_
      exact ⟨_, rfl, hN5.out, hF5.out.mono (by omega), hB5.out⟩
set_option maxRecDepth 100000 in
set_option maxHeartbeats 1000000 in
theorem shu_any (N d : Nat) (v : Value) (BY : Int) (w : World) (h : IsN w v N) (hN : N < 18446744073709551616 ^ 9000) (hd : d ≤ 20000) (hBY : BY = (d : Int)) :
    Calls Tryz.prog 42 #[v, .int .i64 BY] w (GaveF (N * 2 ^ d) w) := by
  obtain ⟨a, c, us, rfl, hc, hu, hw, rfl, hl, _, _, hnil⟩ := isN_open 9000 h hN
  by_cases h0 : wv us = 0
  · have e0 : wv us * 2 ^ d = 0 := by rw [h0, Nat.zero_mul]
    rw [e0]
    rw [h0] at h
    obtain ⟨n, hn⟩ : ∃ n, us.length = n := ⟨_, rfl⟩
    rw [hn] at h ⊢
    have hneg : ¬ BY < 0 := by omega
    have hb2 := B2.new w (.slice a n c) (.slice none 0 0)
    obtain ⟨W2, hW2⟩ : ∃ W2, ((w.alloc (.cells #[.slice a n c] 31)).alloc (.cells #[.slice none 0 0] 31)) = W2 := ⟨_, rfl⟩
    have hsz2 : W2.heap.size = w.heap.size + 2 := by rw [← hW2]; simp
    rw [hW2] at hb2
    have HZ := Lib.hid (zero_yes (h.below hb2.bel (Nat.le_refl _)))
    have Hb2 := Lib.hid hb2
    have q1 : W2.cell? ⟨w.heap.size, 0, none⟩ = some (.slice a n c) := hb2.b1.cell 0
    clear h hb2 hu hw hnil h0 e0 hc hn hl
    go_enter Tryz.func42, Tryz.ntmps42
    go_wp2_with fail
    refine HZ.out.mono ?_
    rintro e w5 ⟨rfl, hb5⟩
    rw [hsz2] at hb5
    have hbx := Hb2.out.below hb5 (Nat.le_refl _)
    have hk5 := hbx.b2
    have hk50 := hk5.cell 0; have hk5f := hk5.frozen 0
    simp only [List.getElem?_toArray, List.getElem?_cons_zero] at hk50
    have HK5 := Lib.hid hk5
    have HB5 := Lib.hid hbx.bel
    clear hbx hk5 hb5 HZ q1
    go_wp2_with fail
    refine bodyPost_ret (res_nat rfl _ _ (w.heap.size + 1) (.slice none 0 0) rfl (HK5.out.set_ 0 _)) rfl ?_
    exact ⟨_, rfl, isN_zero _, fresh_zero _, HB5.out.setCell (p := ⟨w.heap.size + 1, 0, none⟩) (by show w.heap.size ≤ w.heap.size + 1; omega) _⟩
  · exact shu_core a c us d BY w hu hw hl (fun e => h0 (by rw [e]; rfl)) hd hBY (fun W hW => zero_no (h.below hW (Nat.le_refl _)) h0)
end Go.Proofs.YtckglpkafhmehaaGreatDoor
namespace Go.Proofs.YtckglpkafhmehaaGreatDoor
open Go.RowKit
set_option linter.unusedVariables false
/-- What the loop keeps: qs are the quotient's words from j on, r the rest. -/
structure Dw (us : List Nat) (b j : Nat) (qs : List Nat) (r : Nat) : Prop where
  len : qs.length + j = us.length
  wrd : Wrd qs
  val : wv (us.drop j) = wv qs * b + r
  lt : r < b
theorem dw_step {us qs : List Nat} {b i r : Nat} (h : Dw us b (i + 1) qs r) (hi : i < us.length) (hx : us.getD i 0 < 18446744073709551616) :
    Dw us b i (((r * 18446744073709551616 + us.getD i 0) / b) :: qs) ((r * 18446744073709551616 + us.getD i 0) % b) := by
  have h1 := h.val
  have h2 := h.lt
  have hb : 0 < b := by omega
  have e := drop_get us i hi
  generalize us.getD i 0 = x at *
  have hd := Nat.div_add_mod (r * 18446744073709551616 + x) b
  have hm := Nat.mod_lt (r * 18446744073709551616 + x) hb
  have hq : (r * 18446744073709551616 + x) / b < 18446744073709551616 := by
    rw [Nat.div_lt_iff_lt_mul hb]
    have : (r + 1) * 18446744073709551616 ≤ b * 18446744073709551616 := Nat.mul_le_mul_right _ h2
    rw [Nat.mul_comm 18446744073709551616]
    omega
  refine ⟨by have := h.len; simp; omega, fun u hu => ?_, ?_, hm⟩
  · rcases List.mem_cons.1 hu with rfl | hu
    · exact hq
    · exact h.wrd u hu
  · rw [e]
    simp only [wv]
    rw [h1, Nat.add_mul, Nat.mul_add, Nat.mul_assoc]
    generalize (r * 18446744073709551616 + x) / b = q at *
    generalize (r * 18446744073709551616 + x) % b = m at *
    have e2 : q * b = b * q := Nat.mul_comm _ _
    omega
def DvWIs (N b : Nat) (w : World) (e : Ending) (w' : World) : Prop := ∃ x y z, e = .returned (.tuple #[.agg #[.slice x y z], .int .u64 ((N % b : Nat) : Int)]) ∧ IsN w' (.agg #[.slice x y z]) (N / b) ∧ Below w.heap.size w w'
set_option maxRecDepth 100000 in
set_option maxHeartbeats 4000000 in
theorem dvw_any (N b : Nat) (v : Value) (w : World) (h : IsN w v N) (hb0 : 0 < b) (hbw : b < 18446744073709551616) :
    Calls Tryz.prog 72 #[v, .int .u64 (b : Int)] w (DvWIs N b w) := by
  obtain ⟨a, c, us, rfl, hc, hu, hw, rfl, hl, _, _⟩ := h
  obtain ⟨n, hn⟩ : ∃ n, us.length = n := ⟨_, rfl⟩
  obtain ⟨W2, hW2⟩ : ∃ W2, ((w.alloc (.cells #[.slice a us.length c] 31)).alloc (.cells #[.slice none 0 0] 31)) = W2 := ⟨_, rfl⟩
  have hb2 := B2.new w (.slice a us.length c) (.slice none 0 0)
  have hsz2 : W2.heap.size = w.heap.size + 2 := by rw [← hW2]; simp
  rw [hW2] at hb2
  have Hn := Lib.hid hn
  have Hw := Lib.hid hw
  have Hu := Lib.hid hu
  have Hb2 := Lib.hid hb2
  have Hb0 := Lib.hid hb0
  have Hbw := Lib.hid hbw
  have q1 : W2.cell? ⟨w.heap.size, 0, none⟩ = some (.slice a us.length c) := hb2.b1.cell 0
  rw [hn] at q1 Hb2 hW2 hl ⊢
  obtain ⟨BY, hBY⟩ : ∃ BY : Int, (b : Int) = BY := ⟨_, rfl⟩
  have HBY := Lib.hid hBY
  have hwn : IntKind.i64.wrap ((n : Int) - 1) = (n : Int) - 1 := IntWalk.i64_in _ ⟨by omega, by omega⟩
  rw [hBY]
  clear hb2 hu hw hn hc hb0 hbw hBY
  go_enter Tryz.func72, Tryz.ntmps72
  go_wp2_with (at_make; refine make_u rfl (.tmp 11) rfl (w.heap.size + 2) _ _ n rfl rfl (by omega) (by omega) _ rfl ?_)
  intro W6 hr6 hb6 _
  obtain ⟨g, hg⟩ : ∃ g, w.heap.size + 2 = g := ⟨_, rfl⟩
  try rw [hsz2] at hr6
  have hr6' : W6.ownsRow (w.heap.size + 2) 60 1 (.slice (some ⟨g, 0, none⟩) n n) n (List.map uv (List.replicate n 0)) := by rw [← hg, List.map_replicate]; exact hr6
  replace hr6 := hr6'
  clear hr6'
  try rw [hsz2]
  rw [hg]
  have HB6 : Hid (Below (w.heap.size + 2) W2 W6) := Lib.hid hb6
  have hM0 : Hid (Dw us b n [] 0) := Lib.hid ⟨by rw [Hn.out]; simp, fun u hu => by simp at hu, by rw [List.drop_of_length_le (by rw [Hn.out]; exact Nat.le_refl _)]; simp [wv], Hb0.out⟩
  have Hr6 : Hid (W6.ownsRow (w.heap.size + 2) 60 1 (.slice (some ⟨g, 0, none⟩) n n) n ((List.replicate n 0 ++ []).map uv)) := Lib.hid (by rw [List.append_nil]; exact hr6)
  clear hr6 hb6 q1 hg
  go_wp2_with fail
  go_loopw [7, 8] (fun rv iv wr => ∃ (k : Nat) (z : Int) (qs : List Nat) (r : Nat) (R : Int), k ≤ n ∧ z = (k : Int) - 1 ∧ iv = .int .i64 z ∧ rv = .int .u64 R ∧ Hid (R = (r : Int)) ∧ Hid (Dw us b k qs r) ∧ Hid (wr.ownsRow (w.heap.size + 2) 60 1 (.slice (some ⟨g, 0, none⟩) n n) n ((List.replicate k 0 ++ qs).map uv)) ∧ Hid (Below (w.heap.size + 2) W2 wr)) (fun _ iv _ => (intOf iv + 1).toNat)
  case atStart => exact ⟨n, _, [], 0, 0, Nat.le_refl _, rfl, rfl, rfl, Lib.hid rfl, hM0, Hr6, HB6⟩
  case round =>
    clear hM0 Hr6 HB6
    obtain ⟨k, z, qs, r, R, hk, hz, rfl, rfl, hR, hD, hrow, hbel⟩ := hrel
    have hbxr := Hb2.out.below hbel.out (Nat.le_refl _)
    have q7 : wr.cell? ⟨w.heap.size, 0, none⟩ = some (.slice a n c) := hbxr.b1.cell 0
    cases k with
    | zero =>
      have hzn : ¬ (0 : Int) ≤ z := by omega
      have hval := hD.out.val
      rw [List.drop_zero] at hval
      have hql := hD.out.len
      rw [Hn.out] at hql
      have hou : OU (w.heap.size + 2) wr (.slice (some ⟨g, 0, none⟩) n n) qs := by
        unfold OU
        have h1 := hrow.out
        rw [List.replicate_zero, List.nil_append] at h1
        rw [show qs.length = n by omega]
        exact h1
      have HQ : Hid (wv us / b = wv qs ∧ wv us % b = r) := Lib.hid (div_of_eq hval hD.out.lt)
      have HT := Lib.hid (trim_res (w.heap.size + 2) (w.heap.size + 1) w wr _ _ _ hou hbxr.bel (by omega) (by omega) hbxr.b2 hD.out.wrd rfl (by omega))
      clear hval hou hbxr hbel hrow hD hz hql q7
      go_wp2_with fail
      refine HT.out.mono ?_
      rintro e w5 ⟨x, y, z, rfl, hk5, hN5, hB5, _⟩
      have hk50 := hk5.out.cell 0; have hk5f := hk5.out.frozen 0
      simp only [List.getElem?_toArray, List.getElem?_cons_zero] at hk50
      clear HT
      go_wp2_with fail
      refine bodyPost_ret (res_nat2 rfl _ _ (w.heap.size + 1) (.slice x y z) (.int .u64 R) rfl rfl (hk5.out.set_ 0 _)) rfl ?_
      refine ⟨x, y, z, by rw [HQ.out.2, ← hR.out], ?_, hB5.out⟩
      rw [HQ.out.1]
      exact hN5.out
    | succ i =>
      obtain rfl : z = (i : Int) := by omega
      clear hz
      have hiu : i < us.length := by rw [Hn.out]; omega
      obtain ⟨ad, rfl, hadl, hcu⟩ := Hu.out.at hiu (B := w.heap.size) (Nat.le_refl _)
      obtain ⟨x, hx⟩ : ∃ x, us.getD i 0 = x := ⟨_, rfl⟩
      have hxw : x < 18446744073709551616 := by rw [← hx]; exact getW Hw.out i
      have hstep := dw_step hD.out hiu (by rw [hx]; exact hxw)
      rw [hx] at hstep hcu
      have hdv := div64_any r x b hxw Hbw.out hD.out.lt wr
      obtain ⟨q, hq⟩ : ∃ q, (r * 18446744073709551616 + x) / b = q := ⟨_, rfl⟩
      obtain ⟨m, hm⟩ : ∃ m, (r * 18446744073709551616 + x) % b = m := ⟨_, rfl⟩
      rw [hq, hm] at hstep
      obtain ⟨X, hX⟩ : ∃ X : Int, (x : Int) = X := ⟨_, rfl⟩
      obtain ⟨Q, hQ⟩ : ∃ Q : Int, (q : Int) = Q := ⟨_, rfl⟩
      obtain ⟨M, hM⟩ : ∃ M : Int, (m : Int) = M := ⟨_, rfl⟩
      have HDv : Hid (Calls Tryz.prog 50 #[.int .u64 R, .int .u64 X, .int .u64 BY] wr fun e w' => e = .returned (.tuple #[.int .u64 Q, .int .u64 M]) ∧ Below wr.heap.size wr w') := Lib.hid (by
        rw [hR.out, ← hX, ← HBY.out]
        refine hdv.mono ?_
        rintro e w' ⟨q', m', hq', hm', he, hb⟩
        rw [hq] at hq'
        rw [hm] at hm'
        subst hq' hm'
        exact ⟨by rw [he, hQ, hM], hb⟩)
      have HSt := Lib.hid hstep
      have HM := Lib.hid hM.symm
      obtain ⟨cv, hcv, hf⟩ := row_at hrow.out i (by omega)
      obtain ⟨hbg, hgl, _⟩ := ou_block hrow.out
      have hset : (List.replicate (i + 1) 0 ++ qs).set i q = List.replicate i 0 ++ (q :: qs) := by
        rw [List.replicate_succ', List.append_assoc, List.set_append_right _ _ (by rw [List.length_replicate]; exact Nat.le_refl _), List.length_replicate, Nat.sub_self]; rfl
      have HTs : Hid (∀ w', Below wr.heap.size wr w' → w'.cell? ⟨g, i, none⟩ = some cv ∧ w'.frozen? ⟨g, i, none⟩ = false ∧ (w'.setCell ⟨g, i, none⟩ (.int .u64 Q)).ownsRow (w.heap.size + 2) 60 1 (.slice (some ⟨g, 0, none⟩) n n) n ((List.replicate i 0 ++ (q :: qs)).map uv) ∧ Below (w.heap.size + 2) W2 (w'.setCell ⟨g, i, none⟩ (.int .u64 Q))) := Lib.hid (fun w' hb => by
        have h1 : w'.ownsRow (w.heap.size + 2) 60 1 (.slice (some ⟨g, 0, none⟩) n n) n ((List.replicate (i + 1) 0 ++ qs).map uv) := hrow.out.kept (grown_below hb (Nat.le_refl _)) (.inr (by simp [Value.ownBlock]))
        have h2 := ou_set h1 i q (by omega)
        rw [hset, hQ] at h2
        refine ⟨(hb.cell (p := ⟨g, i, none⟩) hgl).trans hcv, ?_, h2, (hbel.out.trans (hb.mono (by have := hbel.out.size; omega))).setCell (p := ⟨g, i, none⟩) hbg _⟩
        have := hf
        unfold World.frozen? at this ⊢
        rw [hb.block g hgl]
        exact this)
      have hi0 : (0 : Int) ≤ (i : Int) := by omega
      have hi1 : (i : Int) < (n : Int) := by omega
      have hcx : wr.cell? (ad.add i) = some (.int .u64 X) := by
        rw [← hX]
        exact (hbel.out.cell (by rw [add_block]; omega)).trans ((Hb2.out.bel.cell (by rw [add_block]; exact hadl)).trans hcu)
      clear hdv hstep hQ hM hq hm hX hset hrow hbel hbxr hD hR hx hxw hcu hadl hcv hf hbg hgl hiu
      go_wp2_with fail
      refine HDv.out.mono ?_
      rintro e w5 ⟨rfl, hb5⟩
      obtain ⟨hc5, hf5, hr5, hbl5⟩ := HTs.out w5 hb5
      have Hr5 := Lib.hid hr5
      have Hbl5 := Lib.hid hbl5
      clear HDv HTs hb5 hr5 hbl5 hcx q7
      go_wp2_with fail
      go_roundw
      case rel => exact ⟨i, _, q :: qs, m, M, by omega, rfl, by go_num, rfl, HM, HSt, Hr5, Hbl5⟩
      case measure => simp [intOf] <;> omega
end Go.Proofs.YtckglpkafhmehaaGreatDoor
namespace Go.Proofs.YtckglpkafhmehaaGreatDoor
open Go.RowKit
set_option linter.unusedVariables false
theorem run_sub64c (x y b : Nat) (hb : b ≤ 1) (w : World) :
    (callFunc 92 #[.int .u64 (x : Int), .int .u64 (y : Int), .int .u64 (b : Int)]).run Tryz.prog w =
      .ok (.value (.tuple #[.int .u64 (((x + 18446744073709551616 - y - b) % 18446744073709551616 : Nat) : Int), .int .u64 ((if x < y + b then 1 else 0 : Nat) : Int)])) w := by
  rw [run_callFunc_extern Tryz.func92 (by kernel_rfl) (by kernel_rfl) (by kernel_rfl) (e := sub64Entry) (by kernel_rfl), run_sub64 x y b hb]
  rfl
/-- The block g alone is turned. -/
structure Bg (B g : Nat) (w w' : World) : Prop where
  bel : Below B w w'
  gro : w.grownBy w' (some g)
theorem Bg.refl (B g : Nat) (w : World) : Bg B g w w := ⟨Below.refl _ _, rfl, rfl, rfl, Nat.le_refl _, fun _ _ _ => rfl⟩
theorem Bg.set {B g : Nat} {w w' : World} (h : Bg B g w w') (hbg : B ≤ g) (i : Nat) (v : Value) : Bg B g w (w'.setCell ⟨g, i, none⟩ v) :=
  ⟨h.bel.setCell (p := ⟨g, i, none⟩) hbg v, h.gro.trans ⟨rfl, rfl, rfl, by simp, fun k _ hk => Below.heap_setCell _ _ _ k (fun e => hk (by rw [e]))⟩⟩
/-- What the loop keeps: ps are the words that are done, c the carry, bb the borrow. -/
structure Tp (zs vs : List Nat) (d k : Nat) (ps : List Nat) (c bb : Nat) : Prop where
  len : ps.length = k
  wrd : Wrd ps
  clt : c < 18446744073709551616
  ble : bb ≤ 1
  eq : wv ps + wv (vs.take k) * d = wv (zs.take k) + 18446744073709551616 ^ k * (c + bb)
theorem sub_word {x low bb : Nat} (hx : x < 18446744073709551616) (hl : low < 18446744073709551616) (hb : bb ≤ 1) :
    (x + 18446744073709551616 - low - bb) % 18446744073709551616 + (low + bb) = x + 18446744073709551616 * (if x < low + bb then 1 else 0) := by
  by_cases h : x < low + bb
  · rw [if_pos h, Nat.mod_eq_of_lt (by omega)]; omega
  · rw [if_neg h, show x + 18446744073709551616 - low - bb = (x - low - bb) + 18446744073709551616 by omega, Nat.add_mod_right, Nat.mod_eq_of_lt (by omega)]; omega
theorem hi_word {y d c : Nat} (hy : y < 18446744073709551616) (hd : d < 18446744073709551616) (hc : c < 18446744073709551616) : (y * d + c) / 18446744073709551616 < 18446744073709551616 := by
  rw [Nat.div_lt_iff_lt_mul (by decide)]
  have h1 : y * d ≤ y * 18446744073709551615 := Nat.mul_le_mul_left _ (by omega)
  omega
theorem tp_fin {B P df y d c bb x c' b' low A V Z wps wvs wzs Q : Nat} (h1 : wps = A + P * df) (h2 : wvs = V + P * y) (h3 : wzs = Z + P * x) (h4 : Q = P * B) (he : A + V * d = Z + P * (c + bb))
    (e3 : df + (low + bb) = x + B * b') (ht : B * c' + low = y * d + c) : wps + wvs * d = wzs + Q * (c' + b') := by
  subst h1 h2 h3 h4
  have e4 : P * df + P * (y * d) + P * (c + bb) = P * x + P * (B * c' + B * b') := by
    rw [← Nat.mul_add, ← Nat.mul_add, ← Nat.mul_add]
    congr 1
    omega
  rw [Nat.add_mul, Nat.mul_assoc P y d, Nat.mul_assoc P B, Nat.mul_add B]
  generalize P * (B * c' + B * b') = R at *
  generalize P * (y * d) = S at *
  generalize P * (c + bb) = T at *
  generalize V * d = U at *
  generalize P * df = M at *
  generalize P * x = N at *
  omega
theorem wv_snoc (ps : List Nat) (x k : Nat) (h : ps.length = k) : wv (ps ++ [x]) = wv ps + 18446744073709551616 ^ k * x := by
  rw [wv_append, h]; simp [wv]
theorem tp_step {zs vs ps : List Nat} {d k c bb : Nat} (h : Tp zs vs d k ps c bb) (hd : d < 18446744073709551616) (hx : zs.getD k 0 < 18446744073709551616) (hy : vs.getD k 0 < 18446744073709551616) :
    Tp zs vs d (k + 1) (ps ++ [(zs.getD k 0 + 18446744073709551616 - (vs.getD k 0 * d + c) % 18446744073709551616 - bb) % 18446744073709551616]) ((vs.getD k 0 * d + c) / 18446744073709551616) (if zs.getD k 0 < (vs.getD k 0 * d + c) % 18446744073709551616 + bb then 1 else 0) := by
  refine ⟨by rw [List.length_append, h.len]; rfl, fun u hu => ?_, hi_word hy hd h.clt, by split <;> omega, ?_⟩
  · rcases List.mem_append.1 hu with hu | hu
    · exact h.wrd u hu
    · rw [List.mem_singleton] at hu
      rw [hu]; exact Nat.mod_lt _ (by decide)
  · exact tp_fin (wv_snoc ps _ k h.len) (wv_take vs k) (wv_take zs k) (Nat.pow_succ _ k) h.eq (sub_word hx (Nat.mod_lt _ (by decide)) h.ble) (Nat.div_add_mod _ _)
def TakeIs (B : Nat) (g n cap : Nat) (xs vs : List Nat) (i d : Nat) (w : World) (e : Ending) (w' : World) : Prop :=
  ∃ (bb : Nat) (ys : List Nat), e = .returned (.int .u64 (bb : Int)) ∧ Tp (xs.drop i) vs d (vs.length + 1) ys 0 bb ∧ w'.ownsRow B 60 1 (.slice (some ⟨g, 0, none⟩) n cap) n ((xs.take i ++ ys ++ xs.drop (i + (vs.length + 1))).map uv) ∧ Bg B g w w'
set_option maxRecDepth 100000 in
set_option maxHeartbeats 4000000 in
theorem take_any (B g n cap cc : Nat) (xs vs : List Nat) (a2 : Option Addr) (c2 i d : Nat) (w : World) (hr : w.ownsRow B 60 1 (.slice (some ⟨g, 0, none⟩) n cap) n (xs.map uv)) (hwx : Wrd xs) (hwv : Wrd vs) (hd : d < 18446744073709551616)
    (hv : ∀ k, k < vs.length → ∃ ad, a2 = some ad ∧ ad.block < B ∧ w.cell? (ad.add k) = some (.int .u64 ((vs.getD k 0 : Nat) : Int))) (hi : i + (vs.length + 1) ≤ n) (hl : vs.length ≤ 10000) :
    Calls Tryz.prog 94 #[.slice (some ⟨g, i, none⟩) (vs.length + 1) cc, .slice a2 vs.length c2, .int .u64 (d : Int)] w (TakeIs B g n cap xs vs i d w) := by
  obtain ⟨m, hm⟩ : ∃ m, vs.length = m := ⟨_, rfl⟩
  have hxl : xs.length = n := by have := hr.1; rw [List.length_map] at this; omega
  have Hm := Lib.hid hm; have HWx := Lib.hid hwx; have HWv := Lib.hid hwv; have Hd := Lib.hid hd; have Hxl := Lib.hid hxl
  have Hv := Lib.hid hv
  have HF : Hid (∀ w' bb ys, Tp (xs.drop i) vs d (vs.length + 1) ys 0 bb → w'.ownsRow B 60 1 (.slice (some ⟨g, 0, none⟩) n cap) n ((xs.take i ++ ys ++ xs.drop (i + (vs.length + 1))).map uv) → Bg B g w w' → TakeIs B g n cap xs vs i d w (.returned (.int .u64 (bb : Int))) w') := Lib.hid (fun w' c ys h1 h2 h3 => ⟨c, ys, rfl, h1, h2, h3⟩)
  have HAt : Hid ((xs.take i).length = i) := Lib.hid (by rw [List.length_take]; omega)
  have H0 : Hid (Tp (xs.drop i) vs d 0 [] 0 0) := Lib.hid ⟨rfl, fun u hu => by simp at hu, by omega, by omega, by simp [wv]⟩
  have Hr : Hid (w.ownsRow B 60 1 (.slice (some ⟨g, 0, none⟩) n cap) n ((xs.take i ++ [] ++ xs.drop (i + 0)).map uv)) := Lib.hid (by rw [List.append_nil, Nat.add_zero, List.take_append_drop]; exact hr)
  have HB0 : Hid (Bg B g w w) := Lib.hid (Bg.refl _ _ _)
  obtain ⟨ad, had⟩ : ∃ ad : Addr, (⟨g, i, none⟩ : Addr) = ad := ⟨_, rfl⟩
  have Had := Lib.hid had
  obtain ⟨DY, hDY⟩ : ∃ DY : Int, (d : Int) = DY := ⟨_, rfl⟩
  have HDY := Lib.hid hDY
  rw [hm] at hl hi ⊢
  obtain ⟨pl, hpl⟩ : ∃ pl, m + 1 = pl := ⟨_, rfl⟩
  have hpli : (pl : Int) = (m : Int) + 1 := by omega
  have Hpl := Lib.hid hpl
  rw [had, hDY]
  rw [hpl] at hi ⊢
  have hmp : (m : Int) < (pl : Int) := by omega
  have hm0 : (0 : Int) ≤ (m : Int) := by omega
  clear hr hwx hwv hd hv hm had hDY hxl hpl hpli
  go_enter Tryz.func94, Tryz.ntmps94
  go_wp2_with fail
  go_loopw [7, 8, 17] (fun cv bv iv wr => ∃ (k c bb : Nat) (ps : List Nat) (C BB : Int), k ≤ m ∧ iv = .int .i64 (k : Int) ∧ cv = .int .u64 C ∧ bv = .int .u64 BB ∧ Hid (C = (c : Int)) ∧ Hid (BB = (bb : Int)) ∧ Hid (Tp (xs.drop i) vs d k ps c bb) ∧ Hid (wr.ownsRow B 60 1 (.slice (some ⟨g, 0, none⟩) n cap) n ((xs.take i ++ ps ++ xs.drop (i + k)).map uv)) ∧ Hid (Bg B g w wr)) (fun _ _ iv _ => m - (intOf iv).toNat)
  case atStart => exact ⟨0, 0, 0, [], 0, 0, by omega, rfl, rfl, rfl, Lib.hid rfl, Lib.hid rfl, H0, Hr, HB0⟩
  case round =>
    obtain ⟨k, c, bb, ps, C, BB, hk, rfl, rfl, rfl, hC, hBB, hA, hrow, hbel⟩ := hrel
    clear H0 Hr HB0
    have hkn : i + k < n := by have := Hpl.out; omega
    have hkx : i + k < xs.length := by rw [Hxl.out]; exact hkn
    obtain ⟨x, hx⟩ : ∃ x, (xs.drop i).getD k 0 = x := ⟨_, rfl⟩
    have hx' : xs.getD (i + k) 0 = x := by rw [← hx, List.getD_eq_getElem?_getD, List.getD_eq_getElem?_getD, List.getElem?_drop]
    have hxw : x < 18446744073709551616 := by rw [← hx']; exact getW HWx.out _
    have hyw := getW HWv.out k
    have hstep := tp_step hA.out Hd.out (by rw [hx]; exact hxw) hyw
    rw [hx] at hstep
    have hcell := ou_cell hrow.out (i + k) (by rw [List.length_append, List.length_append, HAt.out, hA.out.len, List.length_drop]; omega)
    rw [mid_get HAt.out hA.out.len, hx', add_zero_off] at hcell
    have hsp : (⟨g, i + k, none⟩ : Addr) = ad.add k := by rw [← Had.out, add_off]
    obtain ⟨hbg, hgl, hfr⟩ := ou_block hrow.out
    have hfrk := hfr (i + k) hkn
    have hble := hA.out.ble
    have hclt := hA.out.clt
    by_cases hlt : k < m
    · have hkv : k < vs.length := by rw [Hm.out]; exact hlt
      obtain ⟨ad2, rfl, hadl, hcv⟩ := Hv.out k hkv
      have hcv' : wr.cell? (ad2.add k) = some (.int .u64 ((vs.getD k 0 : Nat) : Int)) := (hbel.out.bel.cell (by rw [add_block]; exact hadl)).trans hcv
      obtain ⟨y, hy⟩ : ∃ y, vs.getD k 0 = y := ⟨_, rfl⟩
      rw [hy] at hstep hyw
      obtain ⟨low, hlow⟩ : ∃ low, (y * d + c) % 18446744073709551616 = low := ⟨_, rfl⟩
      rw [hlow] at hstep
      obtain ⟨df, hdf⟩ : ∃ df, (x + 18446744073709551616 - low - bb) % 18446744073709551616 = df := ⟨_, rfl⟩
      obtain ⟨b1, hb1⟩ : ∃ b1, (if x < low + bb then 1 else 0) = b1 := ⟨_, rfl⟩
      rw [hdf, hb1] at hstep
      have hset := ou_set hrow.out (i + k) df hkn
      rw [mid_set HAt.out hA.out.len hkx] at hset
      have hbel2 := hbel.out.set hbg (i + k) (.int .u64 (df : Int))
      rw [hsp] at hcell hfrk hset hbel2
      have hydm : y * d ≤ 18446744073709551615 * 18446744073709551615 := Nat.mul_le_mul (by omega) (by have := Hd.out; omega)
      have hdiv := Nat.div_add_mod (y * d) 18446744073709551616
      obtain ⟨X, hX⟩ : ∃ X : Int, (x : Int) = X := ⟨_, rfl⟩
      obtain ⟨Y, hY⟩ : ∃ Y : Int, (y : Int) = Y := ⟨_, rfl⟩
      obtain ⟨HI, hHI⟩ : ∃ HI : Int, ((y * d / 18446744073709551616 : Nat) : Int) = HI := ⟨_, rfl⟩
      obtain ⟨LO, hLO⟩ : ∃ LO : Int, ((y * d % 18446744073709551616 : Nat) : Int) = LO := ⟨_, rfl⟩
      obtain ⟨L2, hL2⟩ : ∃ L2 : Int, (low : Int) = L2 := ⟨_, rfl⟩
      obtain ⟨O1, hO1⟩ : ∃ O1 : Int, (((y * d % 18446744073709551616 + c) / 18446744073709551616 : Nat) : Int) = O1 := ⟨_, rfl⟩
      obtain ⟨C1, hC1⟩ : ∃ C1 : Int, (((y * d + c) / 18446744073709551616 : Nat) : Int) = C1 := ⟨_, rfl⟩
      obtain ⟨DF, hDF⟩ : ∃ DF : Int, (df : Int) = DF := ⟨_, rfl⟩
      obtain ⟨B1, hB1⟩ : ∃ B1 : Int, (b1 : Int) = B1 := ⟨_, rfl⟩
      have hMul : Hid (Calls Tryz.prog 85 #[.int .u64 Y, .int .u64 DY] wr fun e w' => e = .returned (.tuple #[.int .u64 HI, .int .u64 LO]) ∧ w' = wr) := Lib.hid (by
        have := Tryz.bits_Mul64 y d hyw Hd.out wr
        rw [hHI, hLO, hY, HDY.out] at this
        exact this)
      have hadd : ∀ wx, (callFunc 66 #[.int .u64 LO, .int .u64 C, .int .u64 0]).run Tryz.prog wx = .ok (.value (.tuple #[.int .u64 L2, .int .u64 O1])) wx := fun wx => by
        have := run_add64c (y * d % 18446744073709551616) c 0 (by omega) wx
        rw [Nat.add_zero, hO1, hLO, ← hC.out] at this
        have e : (y * d % 18446744073709551616 + c) % 18446744073709551616 = low := by rw [Nat.mod_add_mod, hlow]
        rw [e, hL2] at this
        exact this
      have hsub : ∀ wx, (callFunc 92 #[.int .u64 X, .int .u64 L2, .int .u64 BB]).run Tryz.prog wx = .ok (.value (.tuple #[.int .u64 DF, .int .u64 B1])) wx := fun wx => by
        have := run_sub64c x low bb hble wx
        rw [hdf, hb1, hDF, hB1, hX, hL2, ← hBB.out] at this
        exact this
      have eC1 : IntKind.u64.wrap (HI + O1) = C1 := by
        have e : y * d / 18446744073709551616 + (y * d % 18446744073709551616 + c) / 18446744073709551616 = (y * d + c) / 18446744073709551616 := by omega
        rw [← hHI, ← hO1, ← hC1, ← Int.natCast_add, e, wrapu64 _ (by omega)]
      rw [hDF] at hset hbel2
      have Hset := Lib.hid hset
      have Hbel2 := Lib.hid hbel2
      have HSt := Lib.hid hstep
      have HC1 := Lib.hid hC1.symm
      have HB1 := Lib.hid hB1.symm
      have hi0 : (0 : Int) ≤ (k : Int) := by omega
      have hi1 : (k : Int) < (m : Int) := by omega
      have hi2 : (k : Int) < (pl : Int) := by omega
      rw [hX] at hcell
      rw [hy, hY] at hcv'
      clear hstep hset hbel2 hydm hdiv hclt hbg hgl hfr hsp hX hY hHI hLO hL2 hO1 hC1 hDF hB1 hdf hb1 hlow hx hx' hy hxw hyw hrow hbel hA hC hBB hcv hadl hble hkx hkv
      go_wp2_with fail
      refine hMul.out.mono ?_
      rintro e w1 ⟨rfl, rfl⟩
      clear hMul
      go_wp2_with fail
      go_roundw
      case rel => exact ⟨k + 1, _, b1, _, C1, B1, by omega, by go_num, rfl, rfl, HC1, HB1, HSt, Hset, Hbel2⟩
      case measure => simp [intOf]; omega
    · obtain rfl : k = m := by omega
      have hy0 : vs.getD k 0 = 0 := by rw [List.getD_eq_getElem?_getD, List.getElem?_eq_none (by rw [Hm.out]; exact Nat.le_refl _)]; rfl
      rw [hy0, Nat.zero_mul, Nat.zero_add, Nat.mod_eq_of_lt hclt, Nat.div_eq_of_lt hclt] at hstep
      obtain ⟨df, hdf⟩ : ∃ df, (x + 18446744073709551616 - c - bb) % 18446744073709551616 = df := ⟨_, rfl⟩
      obtain ⟨b1, hb1⟩ : ∃ b1, (if x < c + bb then 1 else 0) = b1 := ⟨_, rfl⟩
      rw [hdf, hb1] at hstep
      have hset := ou_set hrow.out (i + k) df hkn
      rw [mid_set HAt.out hA.out.len hkx] at hset
      have hbel2 := hbel.out.set hbg (i + k) (.int .u64 (df : Int))
      have HR0 := HF.out _ b1 _ (by rw [Hm.out]; exact hstep) (by rw [Hm.out]; exact hset) hbel2
      rw [hsp] at hcell hfrk HR0
      obtain ⟨X, hX⟩ : ∃ X : Int, (x : Int) = X := ⟨_, rfl⟩
      obtain ⟨DF, hDF⟩ : ∃ DF : Int, (df : Int) = DF := ⟨_, rfl⟩
      obtain ⟨B1, hB1⟩ : ∃ B1 : Int, (b1 : Int) = B1 := ⟨_, rfl⟩
      have hsub : ∀ wx, (callFunc 92 #[.int .u64 X, .int .u64 C, .int .u64 BB]).run Tryz.prog wx = .ok (.value (.tuple #[.int .u64 DF, .int .u64 B1])) wx := fun wx => by
        have := run_sub64c x c bb hble wx
        rw [hdf, hb1, hDF, hB1, hX, ← hC.out, ← hBB.out] at this
        exact this
      rw [hDF, hB1] at HR0
      rw [hX] at hcell
      have HR := Lib.hid HR0
      clear HR0 HF hstep hset hbel2 hbg hgl hfr hsp hX hDF hB1 hdf hb1 hx hx' hxw hyw hrow hbel hA hC hBB hble hclt hkx hy0
      go_wp2_with fail
      go_ret
      exact HR.out
end Go.Proofs.YtckglpkafhmehaaGreatDoor
namespace Go.Proofs.YtckglpkafhmehaaGreatDoor
open Go.RowKit
set_option linter.unusedVariables false
def GiveIs (B : Nat) (g n cap : Nat) (xs vs : List Nat) (i : Nat) (w : World) (e : Ending) (w' : World) : Prop :=
  ∃ (c : Nat) (ys : List Nat), e = .returned (.int .u64 (c : Int)) ∧ Ad (xs.drop i) vs (vs.length + 1) ys c ∧ w'.ownsRow B 60 1 (.slice (some ⟨g, 0, none⟩) n cap) n ((xs.take i ++ ys ++ xs.drop (i + (vs.length + 1))).map uv) ∧ Bg B g w w'
set_option maxRecDepth 100000 in
set_option maxHeartbeats 4000000 in
theorem give_any (B g n cap cc : Nat) (xs vs : List Nat) (a2 : Option Addr) (c2 i : Nat) (w : World) (hr : w.ownsRow B 60 1 (.slice (some ⟨g, 0, none⟩) n cap) n (xs.map uv)) (hwx : Wrd xs) (hwv : Wrd vs)
    (hv : ∀ k, k < vs.length → ∃ ad, a2 = some ad ∧ ad.block < B ∧ w.cell? (ad.add k) = some (.int .u64 ((vs.getD k 0 : Nat) : Int))) (hi : i + (vs.length + 1) ≤ n) (hl : vs.length ≤ 10000) :
    Calls Tryz.prog 95 #[.slice (some ⟨g, i, none⟩) (vs.length + 1) cc, .slice a2 vs.length c2] w (GiveIs B g n cap xs vs i w) := by
  obtain ⟨m, hm⟩ : ∃ m, vs.length = m := ⟨_, rfl⟩
  have hxl : xs.length = n := by have := hr.1; rw [List.length_map] at this; omega
  have Hm := Lib.hid hm; have HWx := Lib.hid hwx; have HWv := Lib.hid hwv; have Hxl := Lib.hid hxl
  have Hv := Lib.hid hv
  have HF : Hid (∀ w' bb ys, Ad (xs.drop i) vs (vs.length + 1) ys bb → w'.ownsRow B 60 1 (.slice (some ⟨g, 0, none⟩) n cap) n ((xs.take i ++ ys ++ xs.drop (i + (vs.length + 1))).map uv) → Bg B g w w' → GiveIs B g n cap xs vs i w (.returned (.int .u64 (bb : Int))) w') := Lib.hid (fun w' c ys h1 h2 h3 => ⟨c, ys, rfl, h1, h2, h3⟩)
  have HAt : Hid ((xs.take i).length = i) := Lib.hid (by rw [List.length_take]; omega)
  have H0 : Hid (Ad (xs.drop i) vs 0 [] 0) := Lib.hid ⟨rfl, fun u hu => by simp at hu, by omega, by simp [wv]⟩
  have Hr : Hid (w.ownsRow B 60 1 (.slice (some ⟨g, 0, none⟩) n cap) n ((xs.take i ++ [] ++ xs.drop (i + 0)).map uv)) := Lib.hid (by rw [List.append_nil, Nat.add_zero, List.take_append_drop]; exact hr)
  have HB0 : Hid (Bg B g w w) := Lib.hid (Bg.refl _ _ _)
  obtain ⟨ad, had⟩ : ∃ ad : Addr, (⟨g, i, none⟩ : Addr) = ad := ⟨_, rfl⟩
  have Had := Lib.hid had
  rw [hm] at hl hi ⊢
  obtain ⟨pl, hpl⟩ : ∃ pl, m + 1 = pl := ⟨_, rfl⟩
  have Hpl := Lib.hid hpl
  rw [had]
  rw [hpl] at hi ⊢
  have hmp : (m : Int) < (pl : Int) := by omega
  have hm0 : (0 : Int) ≤ (m : Int) := by omega
  clear hr hwx hwv hv hm had hxl hpl
  go_enter Tryz.func95, Tryz.ntmps95
  go_wp2_with fail
  go_loopw [5, 11] (fun cv iv wr => ∃ (k c : Nat) (ps : List Nat) (C : Int), k ≤ m ∧ iv = .int .i64 (k : Int) ∧ cv = .int .u64 C ∧ Hid (C = (c : Int)) ∧ Hid (Ad (xs.drop i) vs k ps c) ∧ Hid (wr.ownsRow B 60 1 (.slice (some ⟨g, 0, none⟩) n cap) n ((xs.take i ++ ps ++ xs.drop (i + k)).map uv)) ∧ Hid (Bg B g w wr)) (fun _ iv _ => m - (intOf iv).toNat)
  case atStart => exact ⟨0, 0, [], 0, by omega, rfl, rfl, Lib.hid rfl, H0, Hr, HB0⟩
  case round =>
    obtain ⟨k, c, ps, C, hk, rfl, rfl, hC, hA, hrow, hbel⟩ := hrel
    clear H0 Hr HB0
    have hkn : i + k < n := by have := Hpl.out; omega
    have hkx : i + k < xs.length := by rw [Hxl.out]; exact hkn
    obtain ⟨x, hx⟩ : ∃ x, (xs.drop i).getD k 0 = x := ⟨_, rfl⟩
    have hx' : xs.getD (i + k) 0 = x := by rw [← hx, List.getD_eq_getElem?_getD, List.getD_eq_getElem?_getD, List.getElem?_drop]
    have hxw : x < 18446744073709551616 := by rw [← hx']; exact getW HWx.out _
    have hyw := getW HWv.out k
    have hstep := ad_step hA.out (by rw [hx]; exact hxw) hyw
    rw [hx] at hstep
    have hcell := ou_cell hrow.out (i + k) (by rw [List.length_append, List.length_append, HAt.out, hA.out.len, List.length_drop]; omega)
    rw [mid_get HAt.out hA.out.len, hx', add_zero_off] at hcell
    have hsp : (⟨g, i + k, none⟩ : Addr) = ad.add k := by rw [← Had.out, add_off]
    obtain ⟨hbg, hgl, hfr⟩ := ou_block hrow.out
    have hfrk := hfr (i + k) hkn
    have hcle := hA.out.cle
    obtain ⟨y, hy⟩ : ∃ y, vs.getD k 0 = y := ⟨_, rfl⟩
    rw [hy] at hstep hyw
    obtain ⟨sm, hsm⟩ : ∃ sm, (x + y + c) % 18446744073709551616 = sm := ⟨_, rfl⟩
    obtain ⟨c1, hc1⟩ : ∃ c1, (x + y + c) / 18446744073709551616 = c1 := ⟨_, rfl⟩
    rw [hsm, hc1] at hstep
    have hset := ou_set hrow.out (i + k) sm hkn
    rw [mid_set HAt.out hA.out.len hkx] at hset
    have hbel2 := hbel.out.set hbg (i + k) (.int .u64 (sm : Int))
    obtain ⟨X, hX⟩ : ∃ X : Int, (x : Int) = X := ⟨_, rfl⟩
    obtain ⟨Y, hY⟩ : ∃ Y : Int, (y : Int) = Y := ⟨_, rfl⟩
    obtain ⟨SM, hSM⟩ : ∃ SM : Int, (sm : Int) = SM := ⟨_, rfl⟩
    obtain ⟨C1, hC1⟩ : ∃ C1 : Int, (c1 : Int) = C1 := ⟨_, rfl⟩
    have hadd : ∀ wx, (callFunc 66 #[.int .u64 X, .int .u64 Y, .int .u64 C]).run Tryz.prog wx = .ok (.value (.tuple #[.int .u64 SM, .int .u64 C1])) wx := fun wx => by
      have := run_add64c x y c hcle wx
      rw [hsm, hc1, hSM, hC1, hX, hY, ← hC.out] at this
      exact this
    by_cases hlt : k < m
    · have hkv : k < vs.length := by rw [Hm.out]; exact hlt
      obtain ⟨ad2, rfl, hadl, hcv⟩ := Hv.out k hkv
      have hcv' : wr.cell? (ad2.add k) = some (.int .u64 ((vs.getD k 0 : Nat) : Int)) := (hbel.out.bel.cell (by rw [add_block]; exact hadl)).trans hcv
      rw [hsp] at hcell hfrk hset hbel2
      rw [hSM] at hset hbel2
      have Hset := Lib.hid hset
      have Hbel2 := Lib.hid hbel2
      have HSt := Lib.hid hstep
      have HC1 := Lib.hid hC1.symm
      have hi0 : (0 : Int) ≤ (k : Int) := by omega
      have hi1 : (k : Int) < (m : Int) := by omega
      have hi2 : (k : Int) < (pl : Int) := by omega
      rw [hX] at hcell
      rw [hy, hY] at hcv'
      clear hstep hset hbel2 hbg hgl hfr hsp hX hY hC1 hSM hsm hc1 hx hx' hy hxw hyw hrow hbel hA hC hcv hadl hcle hkx hkv
      go_wp2_with fail
      go_roundw
      case rel => exact ⟨k + 1, _, _, C1, by omega, by go_num, rfl, HC1, HSt, Hset, Hbel2⟩
      case measure => simp [intOf]; omega
    · obtain rfl : k = m := by omega
      have hy0 : vs.getD k 0 = 0 := by rw [List.getD_eq_getElem?_getD, List.getElem?_eq_none (by rw [Hm.out]; exact Nat.le_refl _)]; rfl
      obtain rfl : y = 0 := by rw [← hy, hy0]
      obtain rfl : Y = 0 := by rw [← hY]; rfl
      have HR0 := HF.out _ c1 _ (by rw [Hm.out]; exact hstep) (by rw [Hm.out]; exact hset) hbel2
      rw [hsp] at hcell hfrk HR0
      rw [hSM, hC1] at HR0
      rw [hX] at hcell
      have HR := Lib.hid HR0
      clear HR0 HF hstep hset hbel2 hbg hgl hfr hsp hX hY hSM hC1 hsm hc1 hx hx' hy hxw hyw hrow hbel hA hC hcle hkx hy0
      go_wp2_with fail
      go_ret
      exact HR.out
end Go.Proofs.YtckglpkafhmehaaGreatDoor
namespace Go.Proofs.YtckglpkafhmehaaGreatDoor
open Go.RowKit
set_option linter.unusedVariables false
/-- The last three words. -/
theorem wv_top3 {zs : List Nat} {j : Nat} (h : zs.length = j + 3) : wv zs = wv (zs.take j) + 18446744073709551616 ^ j * (zs.getD j 0 + 18446744073709551616 * (zs.getD (j + 1) 0 + 18446744073709551616 * zs.getD (j + 2) 0)) := by
  conv => lhs; rw [← List.take_append_drop j zs]
  rw [wv_append, List.length_take, Nat.min_eq_left (by omega), drop_get zs j (by omega), drop_get zs (j + 1) (by omega), drop_get zs (j + 2) (by omega), List.drop_of_length_le (by omega)]
  simp [wv]
theorem wv_top2 {vs : List Nat} {j : Nat} (h : vs.length = j + 2) : wv vs = wv (vs.take j) + 18446744073709551616 ^ j * (vs.getD j 0 + 18446744073709551616 * vs.getD (j + 1) 0) := by
  conv => lhs; rw [← List.take_append_drop j vs]
  rw [wv_append, List.length_take, Nat.min_eq_left (by omega), drop_get vs j (by omega), drop_get vs (j + 1) (by omega), List.drop_of_length_le (by omega)]
  simp [wv]
/-- q times the two upper words is no more than the three upper words. -/
theorem gs_top {q P V B X v1 v2 u u0 u2 tp tv : Nat} (hq : q * V ≤ P) (hV : V = tv + X * (v2 + B * v1)) (hP : P = tp + X * (u2 + B * (u0 + B * u))) (ht : tp < X) : q * (v2 + B * v1) ≤ u2 + B * (u0 + B * u) := by
  have h1 : X * (q * (v2 + B * v1)) ≤ q * V := by
    rw [hV, Nat.mul_add q tv, Nat.mul_left_comm q X]; omega
  have h2 : X * (q * (v2 + B * v1)) < X * (u2 + B * (u0 + B * u) + 1) := by rw [Nat.mul_add X, Nat.mul_one]; omega
  have := Nat.lt_of_mul_lt_mul_left h2
  omega
/-- What a loop over a guess keeps. -/
structure Gs (q v1 W k r : Nat) : Prop where
  le : q ≤ k
  eq : k * v1 + r = W
  lt : r < 18446744073709551616
theorem gs_init {q v1 v2 u u0 u2 : Nat} (h : q * (v2 + 18446744073709551616 * v1) ≤ u2 + 18446744073709551616 * (u0 + 18446744073709551616 * u)) (hu2 : u2 < 18446744073709551616) (h1 : 0 < v1) (hv1 : v1 < 18446744073709551616) :
    Gs q v1 (u * 18446744073709551616 + u0) ((u * 18446744073709551616 + u0) / v1) ((u * 18446744073709551616 + u0) % v1) := by
  have h2 := Nat.div_add_mod (u * 18446744073709551616 + u0) v1
  have h3 := Nat.mod_lt (u * 18446744073709551616 + u0) h1
  refine ⟨?_, by rw [Nat.mul_comm]; exact h2, by omega⟩
  rw [Nat.le_div_iff_mul_le h1]
  have e : q * (v2 + 18446744073709551616 * v1) = q * v2 + 18446744073709551616 * (q * v1) := by rw [Nat.mul_add, Nat.mul_left_comm]
  omega
theorem gs_less {q v1 v2 u u0 u2 k r : Nat} (h : q * (v2 + 18446744073709551616 * v1) ≤ u2 + 18446744073709551616 * (u0 + 18446744073709551616 * u)) (hg : Gs q v1 (u * 18446744073709551616 + u0) k r) (ht : r * 18446744073709551616 + u2 < k * v2) :
    0 < k ∧ q ≤ k - 1 ∧ (k - 1) * v1 + (r + v1) = u * 18446744073709551616 + u0 := by
  have h1 := hg.eq
  have hlt : q < k := by
    rcases Nat.lt_or_ge q k with h2 | h2
    · exact h2
    · exfalso
      obtain rfl : q = k := Nat.le_antisymm hg.le h2
      have e : q * (v2 + 18446744073709551616 * v1) = q * v2 + 18446744073709551616 * (q * v1) := by rw [Nat.mul_add, Nat.mul_left_comm]
      omega
  obtain ⟨j, rfl⟩ : ∃ j, k = j + 1 := ⟨k - 1, by omega⟩
  rw [Nat.add_mul, Nat.one_mul] at h1
  simp only [Nat.add_sub_cancel]
  omega
/-- The test of the loop. -/
theorem gs_test {k v2 r u2 : Nat} (hu2 : u2 < 18446744073709551616) : (¬ (k * v2 / 18446744073709551616 < r ∨ k * v2 / 18446744073709551616 = r ∧ k * v2 % 18446744073709551616 ≤ u2)) → r * 18446744073709551616 + u2 < k * v2 := by
  intro h
  have := Nat.div_add_mod (k * v2) 18446744073709551616
  omega
def GuessIs (q : Nat) (w : World) (e : Ending) (w' : World) : Prop := ∃ D : Nat, e = .returned (.int .u64 (D : Int)) ∧ q ≤ D ∧ D < 18446744073709551616 ∧ Below w.heap.size w w'
set_option maxRecDepth 100000 in
set_option maxHeartbeats 4000000 in
theorem guess_any (ad ad2 : Addr) (c1 c2 j : Nat) (zs vs : List Nat) (w : World) (hzl : zs.length = j + 3) (hvl : vs.length = j + 2) (hwz : Wrd zs) (hwv : Wrd vs) (hj : j ≤ 9000)
    (hz : ∀ k, k < j + 3 → ad.block < w.heap.size ∧ w.cell? (ad.add k) = some (.int .u64 ((zs.getD k 0 : Nat) : Int))) (hv : ∀ k, k < j + 2 → ad2.block < w.heap.size ∧ w.cell? (ad2.add k) = some (.int .u64 ((vs.getD k 0 : Nat) : Int)))
    (hV : 0 < wv vs) (hPV : wv zs < wv vs * 18446744073709551616) :
    Calls Tryz.prog 93 #[.slice (some ad) (j + 3) c1, .slice (some ad2) (j + 2) c2] w (GuessIs (wv zs / wv vs) w) := by
  obtain ⟨u, hu⟩ : ∃ u, zs.getD (j + 2) 0 = u := ⟨_, rfl⟩
  obtain ⟨u0, hu0⟩ : ∃ u0, zs.getD (j + 1) 0 = u0 := ⟨_, rfl⟩
  obtain ⟨u2, hu2⟩ : ∃ u2, zs.getD j 0 = u2 := ⟨_, rfl⟩
  obtain ⟨v1, hv1⟩ : ∃ v1, vs.getD (j + 1) 0 = v1 := ⟨_, rfl⟩
  obtain ⟨v2, hv2⟩ : ∃ v2, vs.getD j 0 = v2 := ⟨_, rfl⟩
  have huw : u < 18446744073709551616 := by rw [← hu]; exact getW hwz _
  have hu0w : u0 < 18446744073709551616 := by rw [← hu0]; exact getW hwz _
  have hu2w : u2 < 18446744073709551616 := by rw [← hu2]; exact getW hwz _
  have hv1w : v1 < 18446744073709551616 := by rw [← hv1]; exact getW hwv _
  have hv2w : v2 < 18446744073709551616 := by rw [← hv2]; exact getW hwv _
  obtain ⟨q, hq⟩ : ∃ q, wv zs / wv vs = q := ⟨_, rfl⟩
  have hqB : q < 18446744073709551616 := by rw [← hq, Nat.div_lt_iff_lt_mul hV, Nat.mul_comm]; exact hPV
  have htop : q * (v2 + 18446744073709551616 * v1) ≤ u2 + 18446744073709551616 * (u0 + 18446744073709551616 * u) := by
    have h1 := wv_top3 hzl
    have h2 := wv_top2 hvl
    rw [hu, hu0, hu2] at h1
    rw [hv1, hv2] at h2
    refine gs_top (by rw [← hq]; exact Nat.div_mul_le_self _ _) h2 h1 ?_
    have h3 := wv_lt (zs.take j) (fun x hx => hwz x (List.mem_of_mem_take hx))
    rwa [List.length_take, Nat.min_eq_left (by omega)] at h3
  have HTop := Lib.hid htop
  obtain ⟨hadl, z2⟩ := hz (j + 2) (by omega)
  obtain ⟨_, z1⟩ := hz (j + 1) (by omega)
  obtain ⟨_, z0⟩ := hz j (by omega)
  obtain ⟨had2l, y1⟩ := hv (j + 1) (by omega)
  obtain ⟨_, y0⟩ := hv j (by omega)
  rw [hu] at z2; rw [hu0] at z1; rw [hu2] at z0; rw [hv1] at y1; rw [hv2] at y0
  obtain ⟨m, hm⟩ : ∃ m, j + 2 = m := ⟨_, rfl⟩
  obtain ⟨l, hl⟩ : ∃ l, j + 1 = l := ⟨_, rfl⟩
  obtain ⟨pl, hpl⟩ : ∃ pl, j + 3 = pl := ⟨_, rfl⟩
  have hml : (m : Int) - 1 = (l : Int) := by omega
  have hmj : (m : Int) - 2 = (j : Int) := by omega
  have h0m : (0 : Int) ≤ (m : Int) := by omega
  have h0l : (0 : Int) ≤ (l : Int) := by omega
  have h0j : (0 : Int) ≤ (j : Int) := by omega
  have hmp : (m : Int) < (pl : Int) := by omega
  have hlp : (l : Int) < (pl : Int) := by omega
  have hjp : (j : Int) < (pl : Int) := by omega
  have hlm : (l : Int) < (m : Int) := by omega
  have hjm : (j : Int) < (m : Int) := by omega
  have hwml : IntKind.i64.wrap (l : Int) = (l : Int) := IntWalk.i64_in _ ⟨by omega, by omega⟩
  have hwmj : IntKind.i64.wrap (j : Int) = (j : Int) := IntWalk.i64_in _ ⟨by omega, by omega⟩
  rw [hm] at z2; rw [hl] at z1 y1
  rw [hm, hpl, hq]
  have HG : Hid (∀ w' D, Below w.heap.size w w' → q ≤ D → D < 18446744073709551616 → GuessIs q w (.returned (.int .u64 (D : Int))) w') := Lib.hid (fun w' D h1 h2 h3 => ⟨D, rfl, h2, h3, h1⟩)
  obtain ⟨U, hU⟩ : ∃ U : Int, (u : Int) = U := ⟨_, rfl⟩
  obtain ⟨U0, hU0⟩ : ∃ U0 : Int, (u0 : Int) = U0 := ⟨_, rfl⟩
  obtain ⟨U2, hU2⟩ : ∃ U2 : Int, (u2 : Int) = U2 := ⟨_, rfl⟩
  obtain ⟨V1, hV1⟩ : ∃ V1 : Int, (v1 : Int) = V1 := ⟨_, rfl⟩
  obtain ⟨V2, hV2⟩ : ∃ V2 : Int, (v2 : Int) = V2 := ⟨_, rfl⟩
  rw [hU] at z2; rw [hU0] at z1; rw [hU2] at z0; rw [hV1] at y1; rw [hV2] at y0
  have Hlow := Lib.hid (And.intro huw (And.intro hu0w (And.intro hu2w (And.intro hv1w (And.intro hv2w hqB)))))
  have HUs := Lib.hid (And.intro hU (And.intro hU0 (And.intro hU2 (And.intro hV1 hV2))))
  have HK : Hid (∀ w', Below w.heap.size w w' → w'.cell? (ad.add m) = some (.int .u64 U) ∧ w'.cell? (ad.add l) = some (.int .u64 U0) ∧ w'.cell? (ad.add j) = some (.int .u64 U2) ∧ w'.cell? (ad2.add l) = some (.int .u64 V1) ∧ w'.cell? (ad2.add j) = some (.int .u64 V2)) := Lib.hid (fun w' hb =>
    ⟨(hb.cell (by rw [add_block]; exact hadl)).trans z2, (hb.cell (by rw [add_block]; exact hadl)).trans z1, (hb.cell (by rw [add_block]; exact hadl)).trans z0, (hb.cell (by rw [add_block]; exact had2l)).trans y1, (hb.cell (by rw [add_block]; exact had2l)).trans y0⟩)
  have HB1 : Hid (Below w.heap.size w w.drew) := Lib.hid (Below.refl _ _).drew
  have HB2 : Hid (Below w.heap.size w w.drew.drew) := Lib.hid (Below.refl _ _).drew.drew
  obtain ⟨d2, _, _, d1, _⟩ := HK.out _ HB1.out
  clear hz hv hzl hvl hwz hwv hV hPV hu hu0 hu2 hv1 hv2 huw hu0w hu2w hv1w hv2w hq hqB htop z1 z0 y0 hadl had2l hm hl hpl hU hU0 hU2 hV1 hV2
  by_cases hge : V1 ≤ U
  · have HR := Lib.hid (HG.out w.drew 18446744073709551615 HB1.out (by have := Hlow.out.2.2.2.2.2; omega) (by decide))
    clear HG HK HTop
    go_enter Tryz.func93, Tryz.ntmps93
    go_wp2_with fail
    go_region_held3 (fun w' => w'.cell? (ad.add m) = some (.int .u64 U) ∧ w'.cell? (ad2.add l) = some (.int .u64 V1))
      (first | exact ⟨d2, d1⟩ | go_keep)
      (fail)
    go_wp2_with fail
    go_ret
    exact HR.out
  · obtain ⟨e2, e1, _, f1, _⟩ := HK.out _ HB2.out
    have hlt : u < v1 := by have := HUs.out; omega
    have hdv := div64_any u u0 v1 Hlow.out.2.1 Hlow.out.2.2.2.1 hlt w.drew.drew
    have hg0 := gs_init HTop.out Hlow.out.2.2.1 (by omega) Hlow.out.2.2.2.1
    obtain ⟨k0, hk0⟩ : ∃ k0, (u * 18446744073709551616 + u0) / v1 = k0 := ⟨_, rfl⟩
    obtain ⟨r0, hr0⟩ : ∃ r0, (u * 18446744073709551616 + u0) % v1 = r0 := ⟨_, rfl⟩
    rw [hk0, hr0] at hg0
    have hk0B : k0 < 18446744073709551616 := by
      rw [← hk0, Nat.div_lt_iff_lt_mul (by omega)]
      have h1 : (u + 1) * 18446744073709551616 ≤ v1 * 18446744073709551616 := Nat.mul_le_mul_right _ hlt
      have := Hlow.out.2.1
      rw [Nat.mul_comm 18446744073709551616]
      omega
    obtain ⟨K0, hK0⟩ : ∃ K0 : Int, (k0 : Int) = K0 := ⟨_, rfl⟩
    obtain ⟨R0, hR0⟩ : ∃ R0 : Int, (r0 : Int) = R0 := ⟨_, rfl⟩
    have HDv : Hid (Calls Tryz.prog 50 #[.int .u64 U, .int .u64 U0, .int .u64 V1] w.drew.drew fun e w' => e = .returned (.tuple #[.int .u64 K0, .int .u64 R0]) ∧ Below w.heap.size w w') := Lib.hid (by
      rw [← HUs.out.1, ← HUs.out.2.1, ← HUs.out.2.2.2.1]
      refine hdv.mono ?_
      rintro e w' ⟨q', m', hq', hm', he, hb⟩
      rw [hk0] at hq'
      rw [hr0] at hm'
      subst hq' hm'
      exact ⟨by rw [he, hK0, hR0], HB2.out.trans hb⟩)
    have Hg0 := Lib.hid hg0
    have HKR := Lib.hid (And.intro hK0.symm (And.intro hR0.symm hk0B))
    clear hdv hg0 hk0 hr0 hK0 hR0 hlt hk0B
    go_enter Tryz.func93, Tryz.ntmps93
    go_wp2_with fail
    go_region_held3 (fun w' => w'.cell? (ad.add m) = some (.int .u64 U) ∧ w'.cell? (ad2.add l) = some (.int .u64 V1))
      (first | exact ⟨d2, d1⟩ | go_keep)
      (fail)
    go_wp2_with fail
    go_region_held3 (fun w' => w'.cell? (ad.add m) = some (.int .u64 U) ∧ w'.cell? (ad.add l) = some (.int .u64 U0) ∧ w'.cell? (ad2.add l) = some (.int .u64 V1))
      (first | exact ⟨e2, e1, f1⟩ | exact ⟨(HK.out _ ‹_›).1, (HK.out _ ‹_›).2.1, (HK.out _ ‹_›).2.2.2.1⟩ | go_keep)
      (first
        | (go_at_call 50; refine HDv.out.mono ?_; rintro e w5 ⟨rfl, hb5⟩))
    have HB5 := Lib.hid hb5
    clear HDv hb5 HB1 HB2 e2 e1 f1 d1 d2 z2 y1
    go_wp2_with fail
    go_loopw [6, 7] (fun kv rv wr => ∃ (k r : Nat) (K R : Int), kv = .int .u64 K ∧ rv = .int .u64 R ∧ Hid (K = (k : Int) ∧ R = (r : Int) ∧ k < 18446744073709551616) ∧ Hid (Gs q v1 (u * 18446744073709551616 + u0) k r) ∧ Hid (Below w.heap.size w wr)) (fun kv _ _ => (intOf kv).toNat)
    case atStart => exact ⟨k0, r0, K0, R0, rfl, rfl, HKR, Hg0, HB5⟩
    case round =>
      obtain ⟨k, r, K, R, rfl, rfl, hKR, hG, hbel⟩ := hrel
      clear Hg0 HKR HB5
      obtain ⟨_, _, t0, t1, t2⟩ := HK.out _ hbel.out
      obtain ⟨hK, hR, hkB⟩ := hKR.out
      obtain ⟨hu2w, hv1w, hv2w⟩ : u2 < 18446744073709551616 ∧ v1 < 18446744073709551616 ∧ v2 < 18446744073709551616 := ⟨Hlow.out.2.2.1, Hlow.out.2.2.2.1, Hlow.out.2.2.2.2.1⟩
      obtain ⟨hi, hhi⟩ : ∃ hi, k * v2 / 18446744073709551616 = hi := ⟨_, rfl⟩
      obtain ⟨lo, hlo⟩ : ∃ lo, k * v2 % 18446744073709551616 = lo := ⟨_, rfl⟩
      obtain ⟨HI, hHI⟩ : ∃ HI : Int, (hi : Int) = HI := ⟨_, rfl⟩
      obtain ⟨LO, hLO⟩ : ∃ LO : Int, (lo : Int) = LO := ⟨_, rfl⟩
      have hMul : Hid (Calls Tryz.prog 85 #[.int .u64 K, .int .u64 V2] wr fun e w' => e = .returned (.tuple #[.int .u64 HI, .int .u64 LO]) ∧ w' = wr) := Lib.hid (by
        have := Tryz.bits_Mul64 k v2 hkB hv2w wr
        rw [hhi, hlo, hHI, hLO, ← hK, HUs.out.2.2.2.2] at this
        exact this)
      have HRet := Lib.hid (HG.out wr k hbel.out hG.out.le hkB)
      rw [← hK] at HRet
      have hU2 := HUs.out.2.2.1
      by_cases hA : HI < R
      · clear hK hR hkB hu2w hv1w hv2w hhi hlo hHI hLO hKR hG hbel HG HK hU2
        go_wp2_with fail
        refine hMul.out.mono ?_
        rintro e w1 ⟨rfl, rfl⟩
        clear hMul
        go_wp2_with fail
        go_ret
        exact HRet.out
      · by_cases hB : HI = R ∧ LO ≤ U2
        · obtain ⟨hB1, hB2⟩ := hB
          have hBq : (HI == R) = true := by simp [hB1]
          subst hB1
          clear hK hR hkB hu2w hv1w hv2w hhi hlo hHI hLO hKR hG hbel HG HK hU2
          go_wp2_with fail
          refine hMul.out.mono ?_
          rintro e w1 ⟨rfl, rfl⟩
          clear hMul
          go_wp2_with fail
          go_ret
          exact HRet.out
        · obtain ⟨hk0, hqk, heq⟩ := gs_less HTop.out hG.out (gs_test hu2w (by
            rw [hhi, hlo]
            intro h
            rcases h with h | ⟨h1, h2⟩
            · exact hA (by omega)
            · exact hB ⟨by omega, by omega⟩))
          obtain ⟨k1, hk1⟩ : ∃ k1, k - 1 = k1 := ⟨_, rfl⟩
          rw [hk1] at hqk heq
          obtain ⟨K1, hK1⟩ : ∃ K1 : Int, (k1 : Int) = K1 := ⟨_, rfl⟩
          have hwK : IntKind.u64.wrap (K - 1) = K1 := by rw [hK, ← hK1, show (k : Int) - 1 = (k1 : Int) by omega]; exact wrapu64 _ (by omega)
          obtain ⟨mo, hmo⟩ : ∃ mo, (r + v1) % 18446744073709551616 = mo := ⟨_, rfl⟩
          obtain ⟨ov, hov⟩ : ∃ ov, (r + v1) / 18446744073709551616 = ov := ⟨_, rfl⟩
          obtain ⟨MO, hMO⟩ : ∃ MO : Int, (mo : Int) = MO := ⟨_, rfl⟩
          obtain ⟨OV, hOV⟩ : ∃ OV : Int, (ov : Int) = OV := ⟨_, rfl⟩
          have hV1 := HUs.out.2.2.2.1
          have hadd : ∀ wx, (callFunc 66 #[.int .u64 R, .int .u64 V1, .int .u64 0]).run Tryz.prog wx = .ok (.value (.tuple #[.int .u64 MO, .int .u64 OV])) wx := fun wx => by
            have := run_add64c r v1 0 (by omega) wx
            rw [Nat.add_zero, hmo, hov, hMO, hOV, ← hR, hV1] at this
            exact this
          have HRet1 := Lib.hid (HG.out wr k1 hbel.out hqk (by omega))
          rw [hK1] at HRet1
          have hrl := hG.out.lt
          have hCt : (HI < R) = False := by simp; omega
          by_cases hov0 : 0 < OV
          · by_cases hC : HI = R
            · have hC2 : ¬ LO ≤ U2 := fun h => hB ⟨hC, h⟩
              subst hC
              clear hK hR hkB hu2w hv1w hv2w hhi hlo hHI hLO hKR hG hbel HG HK hU2 hk0 hqk heq hk1 hK1 hmo hov hMO hOV hV1 hrl hB hCt HRet
              go_wp2_with fail
              refine hMul.out.mono ?_
              rintro e w1 ⟨rfl, rfl⟩
              clear hMul
              go_wp2_with fail
              go_ret
              exact HRet1.out
            · have hC1 : (HI == R) = false := by simp [hC]
              clear hK hR hkB hu2w hv1w hv2w hhi hlo hHI hLO hKR hG hbel HG HK hU2 hk0 hqk heq hk1 hK1 hmo hov hMO hOV hV1 hrl hB hCt HRet
              go_wp2_with fail
              refine hMul.out.mono ?_
              rintro e w1 ⟨rfl, rfl⟩
              clear hMul
              go_wp2_with fail
              go_ret
              exact HRet1.out
          · have hov1 : ov = 0 := by omega
            have hmo2 : mo = r + v1 := by have := Nat.div_add_mod (r + v1) 18446744073709551616; omega
            have HG2 : Hid (Gs q v1 (u * 18446744073709551616 + u0) k1 mo) := Lib.hid ⟨hqk, by rw [hmo2]; exact heq, by rw [← hmo]; exact Nat.mod_lt _ (by decide)⟩
            have HKR2 : Hid (K1 = (k1 : Int) ∧ MO = (mo : Int) ∧ k1 < 18446744073709551616) := Lib.hid ⟨hK1.symm, hMO.symm, by omega⟩
            have hms : K1.toNat < K.toNat := by omega
            by_cases hC : HI = R
            · have hC2 : ¬ LO ≤ U2 := fun h => hB ⟨hC, h⟩
              subst hC
              clear hK hR hkB hu2w hv1w hv2w hhi hlo hHI hLO hKR hG HG HK hU2 hk0 hqk heq hk1 hK1 hmo hov hMO hOV hV1 hrl hB hCt HRet HRet1 hov1 hmo2
              go_wp2_with fail
              refine hMul.out.mono ?_
              rintro e w1 ⟨rfl, rfl⟩
              clear hMul
              go_wp2_with fail
              go_roundw
              case rel => exact ⟨k1, mo, K1, MO, rfl, rfl, HKR2, HG2, hbel⟩
              case measure => simpa [intOf] using hms
            · have hC1 : (HI == R) = false := by simp [hC]
              clear hK hR hkB hu2w hv1w hv2w hhi hlo hHI hLO hKR hG HG HK hU2 hk0 hqk heq hk1 hK1 hmo hov hMO hOV hV1 hrl hB hCt HRet HRet1 hov1 hmo2
              go_wp2_with fail
              refine hMul.out.mono ?_
              rintro e w1 ⟨rfl, rfl⟩
              clear hMul
              go_wp2_with fail
              go_roundw
              case rel => exact ⟨k1, mo, K1, MO, rfl, rfl, HKR2, HG2, hbel⟩
              case measure => simpa [intOf] using hms
end Go.Proofs.YtckglpkafhmehaaGreatDoor
namespace Go.Proofs.YtckglpkafhmehaaGreatDoor
open Go.RowKit
set_option linter.unusedVariables false
theorem w64_le {j k : Nat} (h : j ≤ k) : 18446744073709551616 ^ j ≤ 18446744073709551616 ^ k := Nat.pow_le_pow_right (by decide) h
/-- The words xs with ys in place of k of them, from i on. -/
def midl (xs : List Nat) (i : Nat) (ys : List Nat) (k : Nat) : List Nat := xs.take i ++ ys ++ xs.drop (i + k)
section
variable {xs ys zs : List Nat} {i k : Nat}
theorem midl_len (hi : i + k ≤ xs.length) (hy : ys.length = k) : (midl xs i ys k).length = xs.length := by unfold midl; simp; omega
theorem midl_take (hi : i + k ≤ xs.length) : (midl xs i ys k).take i = xs.take i := by
  unfold midl
  rw [List.append_assoc, List.take_append_of_le_length (by rw [List.length_take]; omega), List.take_take, Nat.min_self]
theorem midl_drop (hi : i + k ≤ xs.length) : (midl xs i ys k).drop i = ys ++ xs.drop (i + k) := by
  unfold midl
  rw [List.append_assoc, List.drop_append_of_le_length (by rw [List.length_take]; omega), List.drop_of_length_le (by rw [List.length_take]; omega), List.nil_append]
theorem midl_part (hi : i + k ≤ xs.length) (hy : ys.length = k) : ((midl xs i ys k).drop i).take k = ys := by
  rw [midl_drop hi, List.take_append_of_le_length (by omega), List.take_of_length_le (by omega)]
theorem midl_rest (hi : i + k ≤ xs.length) (hy : ys.length = k) : (midl xs i ys k).drop (i + k) = xs.drop (i + k) := by
  rw [← List.drop_drop, midl_drop hi, List.drop_append_of_le_length (by omega), List.drop_of_length_le (by omega), List.nil_append]
theorem midl_midl (hi : i + k ≤ xs.length) (hy : ys.length = k) : midl (midl xs i ys k) i zs k = midl xs i zs k := by
  have h1 := midl_take (ys := ys) hi
  have h2 := midl_rest hi hy
  generalize hq : midl xs i ys k = q at *
  unfold midl
  rw [h1, h2]
theorem midl_wrd (hx : Wrd xs) (hy : Wrd ys) : Wrd (midl xs i ys k) := fun u hu => by
  unfold midl at hu
  rcases List.mem_append.1 hu with hu | hu
  · rcases List.mem_append.1 hu with hu | hu
    · exact hx u (List.mem_of_mem_take hu)
    · exact hy u hu
  · exact hx u (List.mem_of_mem_drop hu)
theorem midl_self (hi : i + k ≤ xs.length) : midl xs i ((xs.drop i).take k) k = xs := by
  unfold midl
  rw [List.append_assoc]
  have e : xs.drop (i + k) = (xs.drop i).drop k := by rw [List.drop_drop]
  rw [e, List.take_append_drop, List.take_append_drop]
end
theorem wv_split (xs : List Nat) (k : Nat) (hk : k ≤ xs.length) : wv xs = wv (xs.take k) + 18446744073709551616 ^ k * wv (xs.drop k) := by
  conv => lhs; rw [← List.take_append_drop k xs]
  rw [wv_append, List.length_take, Nat.min_eq_left hk]
/-- What the loop of digits keeps: k digits are still to come; os are those that are done. -/
structure Dl (X V m L k : Nat) (xs os : List Nat) : Prop where
  len : xs.length = L
  wx : Wrd xs
  wo : Wrd os
  eq : X = wv os * 18446744073709551616 ^ k * V + wv xs
  lt : wv (xs.drop k) < V
/-- What stands in the part of a round. -/
theorem dl_part {X V m L i : Nat} {xs os : List Nat} (h : Dl X V m L (i + 1) xs os) (hL : i + (m + 1) ≤ L) (hVm : V ≤ 18446744073709551616 ^ m) :
    wv (xs.drop (i + (m + 1))) = 0 ∧ wv ((xs.drop i).take (m + 1)) = wv (xs.drop i) ∧ wv (xs.drop i) < V * 18446744073709551616 ∧ wv xs = wv (xs.take i) + 18446744073709551616 ^ i * wv (xs.drop i) := by
  have hlen := h.len
  have h1 := wv_split (xs.drop (i + 1)) m (by rw [List.length_drop]; omega)
  rw [List.drop_drop, show i + 1 + m = i + (m + 1) by omega] at h1
  have h2 := h.lt
  have h0 : wv (xs.drop (i + (m + 1))) = 0 := by
    rcases Nat.eq_zero_or_pos (wv (xs.drop (i + (m + 1)))) with h3 | h3
    · exact h3
    · exfalso
      have h4 : 18446744073709551616 ^ m * 1 ≤ 18446744073709551616 ^ m * wv (xs.drop (i + (m + 1))) := Nat.mul_le_mul_left _ h3
      rw [Nat.mul_one] at h4
      omega
  refine ⟨h0, ?_, ?_, wv_split xs i (by omega)⟩
  · have h3 := wv_split (xs.drop i) (m + 1) (by rw [List.length_drop]; omega)
    rw [List.drop_drop, h0, Nat.mul_zero, Nat.add_zero] at h3
    exact h3.symm
  · rw [drop_get xs i (by omega)]
    simp only [wv]
    have h5 := getW h.wx i
    have h6 : (wv (xs.drop (i + 1)) + 1) * 18446744073709551616 ≤ V * 18446744073709551616 := Nat.mul_le_mul_right _ h2
    rw [Nat.add_mul, Nat.one_mul] at h6
    rw [Nat.mul_comm 18446744073709551616]
    omega
/-- A round: a digit d, and what it leaves, ys. -/
theorem dl_step {X V m L i d : Nat} {xs os ys : List Nat} (h : Dl X V m L (i + 1) xs os) (hL : i + (m + 1) ≤ L) (hVm : V ≤ 18446744073709551616 ^ m) (hyl : ys.length = m + 1) (hy : Wrd ys) (hd : d < 18446744073709551616)
    (he : wv ys + V * d = wv (xs.drop i)) (hlt : wv ys < V) : Dl X V m L i (midl xs i ys (m + 1)) (d :: os) := by
  obtain ⟨h1, h2, h3, h4⟩ := dl_part h hL hVm
  have hlen := h.len
  have hmd := midl_drop (ys := ys) (show i + (m + 1) ≤ xs.length by omega)
  have hmt := midl_take (ys := ys) (show i + (m + 1) ≤ xs.length by omega)
  have hml := midl_len (show i + (m + 1) ≤ xs.length by omega) hyl
  have hwd : wv ((midl xs i ys (m + 1)).drop i) = wv ys := by rw [hmd, wv_append, h1, Nat.mul_zero, Nat.add_zero]
  refine ⟨by rw [hml, hlen], midl_wrd h.wx hy, fun u hu => ?_, ?_, by rw [hwd]; exact hlt⟩
  · rcases List.mem_cons.1 hu with rfl | hu
    · exact hd
    · exact h.wo u hu
  · have h5 := wv_split (midl xs i ys (m + 1)) i (by omega)
    rw [hmt, hwd] at h5
    rw [h5, h.eq, h4, ← he]
    simp only [wv]
    rw [Nat.pow_succ]
    generalize 18446744073709551616 ^ i = P
    generalize wv (xs.take i) = T
    generalize wv ys = Y
    generalize wv os = O
    have e1 : O * (P * 18446744073709551616) * V = P * (18446744073709551616 * O * V) := by
      rw [Nat.mul_assoc, Nat.mul_assoc P, Nat.mul_left_comm O, ← Nat.mul_assoc O, Nat.mul_comm O]
    have e2 : (d + 18446744073709551616 * O) * P * V = P * (d * V) + P * (18446744073709551616 * O * V) := by
      rw [Nat.mul_comm _ P, Nat.mul_assoc, Nat.add_mul, Nat.mul_add]
    have e3 : P * (Y + V * d) = P * Y + P * (d * V) := by rw [Nat.mul_add, Nat.mul_comm V]
    rw [e1, e2, e3]
    omega
/-- What the loop of corrections keeps. -/
structure Cr (P V m d bb : Nat) (ys : List Nat) : Prop where
  len : ys.length = m + 1
  wrd : Wrd ys
  ble : bb ≤ 1
  qle : P / V ≤ d
  dlt : d < 18446744073709551616
  eq : wv ys + V * d = P + 18446744073709551616 ^ (m + 1) * bb
theorem cr_done {P V m d : Nat} {ys : List Nat} (h : Cr P V m d 0 ys) (hV : 0 < V) : wv ys + V * d = P ∧ wv ys < V := by
  have h1 := h.eq
  rw [Nat.mul_zero, Nat.add_zero] at h1
  refine ⟨h1, ?_⟩
  rcases Nat.lt_or_ge (wv ys) V with h2 | h2
  · exact h2
  · exfalso
    have h3 : d + 1 ≤ P / V := by
      rw [Nat.le_div_iff_mul_le hV, Nat.add_mul, Nat.one_mul, Nat.mul_comm d]
      omega
    have := h.qle
    omega
theorem cr_step {P V m d c : Nat} {ys zs xs vs : List Nat} (h : Cr P V m d 1 ys) (hV : 0 < V) (hvs : wv vs = V) (hvl : vs.length = m) (hA : Ad xs vs (m + 1) zs c) (hxs : xs.take (m + 1) = ys) :
    0 < d ∧ Cr P V m (d - 1) (1 - c) zs := by
  have h1 := h.eq
  have h2 := hA.eq
  rw [hxs, List.take_of_length_le (show vs.length ≤ m + 1 by omega), hvs] at h2
  have h3 := wv_lt ys h.wrd
  rw [h.len] at h3
  have hlt : P < V * d := by omega
  have hq : P / V < d := by rw [Nat.div_lt_iff_lt_mul hV, Nat.mul_comm]; exact hlt
  have hc := hA.cle
  have hdl := h.dlt
  refine ⟨Nat.lt_of_le_of_lt (Nat.zero_le _) hq, hA.len, hA.wrd, by omega, Nat.le_sub_one_of_lt hq, by omega, ?_⟩
  obtain ⟨e, rfl⟩ : ∃ e, d = e + 1 := ⟨d - 1, by have := Nat.lt_of_le_of_lt (Nat.zero_le _) hq; omega⟩
  rw [Nat.add_sub_cancel]
  rw [Nat.mul_add V, Nat.mul_one] at h1
  generalize 18446744073709551616 ^ (m + 1) = Q at *
  have : c = 0 ∨ c = 1 := by omega
  rcases this with rfl | rfl
  · omega
  · simp only [Nat.sub_self, Nat.mul_zero, Nat.mul_one, Nat.add_zero] at *
    omega
/-- How many words a number has. -/
theorem words_len {us : List Nat} {N k : Nat} (hw : Wrd us) (hl : us ≠ [] → us.getD (us.length - 1) 0 ≠ 0) (hv : wv us = N) (h1 : 18446744073709551616 ^ k ≤ N) (h2 : N < 18446744073709551616 ^ (k + 1)) : us.length = k + 1 := by
  have h3 := wv_lt us hw
  have hne : us ≠ [] := fun e => by
    rw [e] at hv
    have := Nat.pow_pos (n := k) (show 0 < 18446744073709551616 by decide)
    simp [wv] at hv
    omega
  have h4 := wv_ge hne (hl hne)
  have h5 : k < us.length := by
    rcases Nat.lt_or_ge k us.length with h | h
    · exact h
    · have := Nat.pow_le_pow_right (show 0 < 18446744073709551616 by decide) h
      omega
  have h6 : us.length - 1 < k + 1 := by
    rcases Nat.lt_or_ge (us.length - 1) (k + 1) with h | h
    · exact h
    · have := Nat.pow_le_pow_right (show 0 < 18446744073709551616 by decide) h
      omega
  omega
/-- The divisor, shifted up: as many words. -/
theorem norm_bounds {vs : List Nat} {k up : Nat} (hw : Wrd vs) (hl : vs.length = k + 1) (ht : vs.getD k 0 ≠ 0) (hup : 64 - (Lib.bitLen (vs.getD k 0) : Int) = (up : Int)) (hup63 : up ≤ 63) :
    18446744073709551616 ^ k ≤ wv vs * 2 ^ up ∧ wv vs * 2 ^ up < 18446744073709551616 ^ (k + 1) := by
  have hne : vs ≠ [] := fun e => by rw [e] at hl; simp at hl
  have h1 := wv_last hne
  rw [hl, Nat.add_sub_cancel] at h1
  have h2 := wv_lt (vs.take k) (fun u hu => hw u (List.mem_of_mem_take hu))
  rw [List.length_take, hl, Nat.min_eq_left (by omega)] at h2
  have htw := getW hw k
  have hB := isLen_bitLen _ _ (Nat.le_refl _) htw
  generalize vs.getD k 0 = t at *
  generalize Lib.bitLen t = b at *
  have hp := Nat.two_pow_pos up
  have hb := hB.lt
  have e64 : 2 ^ b * 2 ^ up = 18446744073709551616 := by rw [← Nat.pow_add, show b + up = 64 by omega]
  rw [Nat.pow_succ]
  generalize 18446744073709551616 ^ k = P at *
  constructor
  · have h3 : P * 1 ≤ P * t := Nat.mul_le_mul_left _ (by omega)
    have h4 : wv vs * 1 ≤ wv vs * 2 ^ up := Nat.mul_le_mul_left _ hp
    omega
  · have h5 : (wv vs + 1) * 2 ^ up ≤ (P * (t + 1)) * 2 ^ up := Nat.mul_le_mul_right _ (by rw [h1, Nat.mul_add, Nat.mul_one]; omega)
    have h6 : P * (t + 1) * 2 ^ up ≤ P * 2 ^ b * 2 ^ up := Nat.mul_le_mul_right _ (Nat.mul_le_mul_left _ hb)
    rw [Nat.mul_assoc P (2 ^ b), e64] at h6
    rw [Nat.add_mul, Nat.one_mul] at h5
    omega
/-- At the beginning. -/
theorem dl_init {M N up n m no : Nat} {xs : List Nat} (hx : Wrd xs) (hl : xs.length = n + 1) (hv : wv xs = M * 2 ^ up) (hM : M < 18446744073709551616 ^ n) (hN : 18446744073709551616 ^ (m - 1) ≤ N) (hm : 0 < m) (hno : no + m = n + 1) :
    Dl (M * 2 ^ up) (N * 2 ^ up) m (n + 1) no xs [] := by
  refine ⟨hl, hx, fun u hu => by simp at hu, by simp [wv, hv], ?_⟩
  have h1 := wv_split xs no (by omega)
  rw [hv] at h1
  rcases Nat.lt_or_ge (wv (xs.drop no)) (N * 2 ^ up) with h | h
  · exact h
  · exfalso
    have h2 : 18446744073709551616 ^ no * (18446744073709551616 ^ (m - 1) * 2 ^ up) ≤ 18446744073709551616 ^ no * wv (xs.drop no) := Nat.mul_le_mul_left _ (Nat.le_trans (Nat.mul_le_mul_right _ hN) h)
    rw [← Nat.mul_assoc, ← Nat.pow_add, show no + (m - 1) = n by omega] at h2
    have h3 : (M + 1) * 2 ^ up ≤ 18446744073709551616 ^ n * 2 ^ up := Nat.mul_le_mul_right _ hM
    rw [Nat.add_mul, Nat.one_mul] at h3
    have := Nat.two_pow_pos up
    omega
theorem own_whole {B : Nat} {e : TypeId} {w : World} {g n : Nat} {xs : List Value} (h : w.ownsRow B e 1 (.slice (some ⟨g, 0, none⟩) n n) n xs) : w.heap[g]? = some (.cells xs.toArray e (0, 0)) := by
  rcases h.2 with ⟨hv, _⟩ | ⟨g', cap', cur, hv, hbg, hg, hnc, hm, hsz, htk⟩
  · cases hv
  · cases hv
    rw [hg, ← htk, List.take_of_length_le (by rw [Array.length_toList, hsz]; exact Nat.le_refl _)]
theorem own_swap {B : Nat} {e : TypeId} {w w' : World} {g n : Nat} {xs ys : List Value} (h : w.ownsRow B e 1 (.slice (some ⟨g, 0, none⟩) n n) n xs) (hl : ys.length = n) (hg' : w'.heap[g]? = some (.cells ys.toArray e (0, 0))) :
    w'.ownsRow B e 1 (.slice (some ⟨g, 0, none⟩) n n) n ys := by
  rcases h.2 with ⟨hv, _⟩ | ⟨g', cap', cur, hv, hbg, hg, hnc, hm, hsz, htk⟩
  · cases hv
  · cases hv
    refine ⟨by rw [hl]; simp, .inr ⟨g, n, ys.toArray, rfl, hbg, hg', hnc, hm, by simp [hl], ?_⟩⟩
    rw [List.toList_toArray, List.take_of_length_le (by omega)]
end Go.Proofs.YtckglpkafhmehaaGreatDoor
namespace Go.Proofs.YtckglpkafhmehaaGreatDoor
open Go.RowKit
set_option linter.unusedVariables false
theorem res_cc {fn : Func} {p q : Tmp} (h : fn.results = #[.cell p 31, .cell q 31]) (tmps : Array Value) (w : World) (g1 g2 : Nat) (v1 v2 : Value) (hp : tmps.getD p undef = .pointer (some ⟨g1, 0, none⟩)) (hq : tmps.getD q undef = .pointer (some ⟨g2, 0, none⟩)) (hg1 : Blk w g1 31 #[v1]) (hg2 : Blk w g2 31 #[v2]) :
    (results fn tmps).run Tryz.prog w = .ok (.tuple #[.agg #[v1], .agg #[v2]]) w := by
  have e1 : (loadVar 31 ⟨g1, 0, none⟩).run Tryz.prog w = .ok (.agg #[v1]) w := run_loadVar_row w g1 31 31 #[v1] (0, 0) _ hg1 Tryz.underlying31 (by kernel_rfl) (by kernel_rfl)
  have e2 : (loadVar 31 ⟨g2, 0, none⟩).run Tryz.prog w = .ok (.agg #[v2]) w := run_loadVar_row w g2 31 31 #[v2] (0, 0) _ hg2 Tryz.underlying31 (by kernel_rfl) (by kernel_rfl)
  have hp' : tmps[p]?.getD undef = .pointer (some ⟨g1, 0, none⟩) := by simpa using hp
  have hq' : tmps[q]?.getD undef = .pointer (some ⟨g2, 0, none⟩) := by simpa using hq
  simp only [results, h]
  simp [Sem.run_bind, Result.andThen, hp', hq', asAddr, e1, e2]
theorem res_cct {fn : Func} {p q u : Tmp} (h : fn.results = #[.cell p 31, .cell q 31, .tmp u]) (tmps : Array Value) (w : World) (g1 g2 : Nat) (v1 v2 x : Value) (hp : tmps.getD p undef = .pointer (some ⟨g1, 0, none⟩)) (hq : tmps.getD q undef = .pointer (some ⟨g2, 0, none⟩)) (hu : tmps.getD u undef = x) (hg1 : Blk w g1 31 #[v1]) (hg2 : Blk w g2 31 #[v2]) :
    (results fn tmps).run Tryz.prog w = .ok (.tuple #[.agg #[v1], .agg #[v2], x]) w := by
  have e1 : (loadVar 31 ⟨g1, 0, none⟩).run Tryz.prog w = .ok (.agg #[v1]) w := run_loadVar_row w g1 31 31 #[v1] (0, 0) _ hg1 Tryz.underlying31 (by kernel_rfl) (by kernel_rfl)
  have e2 : (loadVar 31 ⟨g2, 0, none⟩).run Tryz.prog w = .ok (.agg #[v2]) w := run_loadVar_row w g2 31 31 #[v2] (0, 0) _ hg2 Tryz.underlying31 (by kernel_rfl) (by kernel_rfl)
  subst hu
  have hp' : tmps[p]?.getD undef = .pointer (some ⟨g1, 0, none⟩) := by simpa using hp
  have hq' : tmps[q]?.getD undef = .pointer (some ⟨g2, 0, none⟩) := by simpa using hq
  simp only [results, h]
  simp [Sem.run_bind, Result.andThen, hp', hq', asAddr, e1, e2]
/-- Four boxes. -/
structure Q4 (w W : World) (va vb vq vr : Value) : Prop where
  b1 : Blk W w.heap.size 31 #[va]
  b2 : Blk W (w.heap.size + 1) 31 #[vb]
  b3 : Blk W (w.heap.size + 1 + 1) 31 #[vq]
  b4 : Blk W (w.heap.size + 1 + 1 + 1) 31 #[vr]
  bel : Below w.heap.size w W
theorem Q4.below {w W W' : World} {va vb vq vr : Value} {B : Nat} (h : Q4 w W va vb vq vr) (hb : Below B W W') (hB : w.heap.size + 4 ≤ B) : Q4 w W' va vb vq vr :=
  ⟨h.b1.below hb (by omega), h.b2.below hb (by omega), h.b3.below hb (by omega), h.b4.below hb (by omega), h.bel.trans (hb.mono (by omega))⟩
theorem Q4.new (w : World) (va vb vq vr : Value) : Q4 w ((((w.alloc (.cells #[va] 31)).alloc (.cells #[vb] 31)).alloc (.cells #[vq] 31)).alloc (.cells #[vr] 31)) va vb vq vr := by
  have k1 := (((Blk.new w 31 #[va]).alloc (.cells #[vb] 31)).alloc (.cells #[vq] 31)).alloc (.cells #[vr] 31)
  have k2 := ((Blk.new (w.alloc (.cells #[va] 31)) 31 #[vb]).alloc (.cells #[vq] 31)).alloc (.cells #[vr] 31)
  have k3 := (Blk.new ((w.alloc (.cells #[va] 31)).alloc (.cells #[vb] 31)) 31 #[vq]).alloc (.cells #[vr] 31)
  have k4 := Blk.new (((w.alloc (.cells #[va] 31)).alloc (.cells #[vb] 31)).alloc (.cells #[vq] 31)) 31 #[vr]
  simp only [World.size_alloc] at k2 k3 k4
  exact ⟨k1, k2, k3, k4, ((((Below.refl _ w).alloc (Nat.le_refl _) _).alloc (by simp) _).alloc (by simp; omega) _).alloc (by simp; omega) _⟩
theorem trim_n (Bd : Nat) (W : World) (v : Value) (us : List Nat) (S : Nat) (ho : OU Bd W v us) (hw : Wrd us) (hv : wv us = S) (hl : us.length ≤ 10000) :
    Calls Tryz.prog 51 #[v] W fun e w' => ∃ x y z, e = .returned (.agg #[.slice x y z]) ∧ IsN w' (.agg #[.slice x y z]) S ∧ Fresh Bd (.agg #[.slice x y z]) ∧ Below W.heap.size W w' := by
  obtain ⟨a, cap, rfl, hcap, ha⟩ := ou_form ho
  have hur : UR W a us := by
    obtain ⟨a', c', he, _, h⟩ := ou_ur ho
    cases he
    exact h
  have hf : us = [] ∨ ∃ g, a = some ⟨g, 0, none⟩ ∧ Bd ≤ g := by
    rcases ha with h | ⟨g, h⟩
    · exact .inl h
    · subst h
      exact .inr ⟨g, rfl, (ou_block ho).1⟩
  refine (trim_any a cap us W hur (by omega) hcap).mono ?_
  rintro e w' ⟨rfl, hb'⟩
  have h1 := isN_trim (hur.below hb' (Nat.le_refl _)) hw hcap hl
  rw [hv] at h1
  have hfr : Fresh Bd (.agg #[trimV a cap (tlen us us.length)]) := by
    unfold trimV
    split
    · exact fresh_zero _
    · rename_i hne
      rcases hf with h | ⟨g, h, hg⟩
      · subst h; exact absurd rfl hne
      · subst h
        intro ad n c he
        have h1 := congrArg (fun v => match v with | Value.agg xs => xs[0]? | _ => none) he
        simp at h1
        rw [← h1.1]
        exact hg
  obtain ⟨x, y, z, hx⟩ : ∃ x y z, trimV a cap (tlen us us.length) = .slice x y z := by
    unfold trimV; split
    · exact ⟨_, _, _, rfl⟩
    · exact ⟨_, _, _, rfl⟩
  rw [hx] at h1 hfr ⊢
  exact ⟨x, y, z, rfl, h1, hfr, hb'⟩
theorem shift_back (R up : Nat) (v : Value) (BY : Int) (w : World) (h : IsN w v R) (hR : R < 18446744073709551616 ^ 9000) (hup : up ≤ 63) (hBY : BY = -(up : Int)) :
    Calls Tryz.prog 42 #[v, .int .i64 BY] w (GaveF (R / 2 ^ up) w) := by
  by_cases h0 : up = 0
  · subst h0
    have h1 := shu_any R 0 v BY w h hR (by omega) (by omega)
    rw [Nat.pow_zero, Nat.mul_one] at h1
    rw [Nat.pow_zero, Nat.div_one]
    exact h1
  · exact shn_any R up v BY w h (by omega) (by omega) hBY
def DivLIs (M N : Nat) (w : World) (e : Ending) (w' : World) : Prop :=
  ∃ x y z x' y' z', e = .returned (.tuple #[.agg #[.slice x y z], .agg #[.slice x' y' z']]) ∧ IsN w' (.agg #[.slice x y z]) (M / N) ∧ IsN w' (.agg #[.slice x' y' z']) (M % N) ∧ Below w.heap.size w w'
set_option maxRecDepth 100000 in
set_option maxHeartbeats 4000000 in
theorem divl_any (M N : Nat) (va vb : Value) (w : World) (ha : IsN w va M) (hb : IsN w vb N) (hM : M < 18446744073709551616 ^ 8000) (hN : 18446744073709551616 ≤ N) (hle : N ≤ M) :
    Calls Tryz.prog 73 #[va, vb] w (DivLIs M N w) := by
  obtain ⟨a1, c1, us, rfl, hc1, hu, hwu, hvu, hl1, _, hlast1, hnil1⟩ := isN_open 8000 ha hM
  have hb' := hb
  obtain ⟨a2, c2, vs, rfl, hc2, hv, hwv, hvv, hl2, hlast2, hnil2⟩ := hb'
  obtain ⟨n, hn⟩ : ∃ n, us.length = n := ⟨_, rfl⟩
  obtain ⟨j, hj⟩ : ∃ j, vs.length = j + 2 := ⟨vs.length - 2, by
    rcases Nat.lt_or_ge vs.length 2 with h | h
    · exfalso
      have h1 := wv_lt vs hwv
      have h2 := Nat.pow_le_pow_right (show 0 < 18446744073709551616 by decide) (show vs.length ≤ 1 by omega)
      rw [Nat.pow_one] at h2
      omega
    · omega⟩
  have hmn : j + 2 ≤ n := by
    rcases Nat.lt_or_ge n (j + 2) with h | h
    · exfalso
      have := wv_len_lt hwu (show us.length < vs.length by omega) (hlast2 (fun e => by rw [e] at hj; simp at hj))
      omega
    · exact h
  have hvne : vs ≠ [] := fun e => by rw [e] at hj; simp at hj
  obtain ⟨t, ht⟩ : ∃ t, vs.getD (j + 1) 0 = t := ⟨_, rfl⟩
  have ht0 : t ≠ 0 := by
    have := hlast2 hvne
    rw [hj, show j + 2 - 1 = j + 1 by omega, ht] at this
    exact this
  have htw : t < 18446744073709551616 := by rw [← ht]; exact getW hwv _
  have hbl := isLen_bitLen t t (Nat.le_refl _) htw
  obtain ⟨up, hup⟩ : ∃ up : Nat, 64 - (Lib.bitLen t : Int) = (up : Int) := ⟨64 - Lib.bitLen t, by
    have : Lib.bitLen t ≤ 64 := by
      rcases Nat.lt_or_ge 64 (Lib.bitLen t) with h | h
      · exfalso
        have h1 := hbl.le (by omega)
        have h2 : 2 ^ 64 ≤ 2 ^ (Lib.bitLen t - 1) := Nat.pow_le_pow_right (by omega) (by omega)
        omega
      · exact h
    omega⟩
  have hup63 : up ≤ 63 := by
    have : 0 < Lib.bitLen t := by
      rcases Nat.eq_zero_or_pos (Lib.bitLen t) with h | h
      · exfalso; have := hbl.lt; rw [h] at this; simp at this; omega
      · exact h
    omega
  have hnb := norm_bounds (k := j + 1) (up := up) hwv (by omega) (by rw [ht]; exact ht0) (by rw [ht]; exact hup) hup63
  rw [hvv] at hnb
  obtain ⟨adb, rfl, hadbl, hct⟩ := hv.at (k := j + 1) (by omega) (Nat.le_refl _)
  rw [ht] at hct
  obtain ⟨W4, hW4⟩ : ∃ W4, ((((w.alloc (.cells #[.slice a1 us.length c1] 31)).alloc (.cells #[.slice (some adb) vs.length c2] 31)).alloc (.cells #[.slice none 0 0] 31)).alloc (.cells #[.slice none 0 0] 31)) = W4 := ⟨_, rfl⟩
  have hq := Q4.new w (.slice a1 us.length c1) (.slice (some adb) vs.length c2) (.slice none 0 0) (.slice none 0 0)
  have hsz4 : W4.heap.size = w.heap.size + 4 := by rw [← hW4]; simp
  rw [hW4] at hq
  obtain ⟨m, hm⟩ : ∃ m, j + 2 = m := ⟨_, rfl⟩
  obtain ⟨l, hl⟩ : ∃ l, j + 1 = l := ⟨_, rfl⟩
  have hNb : IsN W4 (.agg #[.slice (some adb) m c2]) N := by
    have := hb.below hq.bel (Nat.le_refl _)
    rw [hj, hm] at this
    exact this
  have hMa : IsN W4 (.agg #[.slice a1 n c1]) M := by
    have := ha.below hq.bel (Nat.le_refl _)
    rw [hn] at this
    exact this
  have q1 : W4.cell? ⟨w.heap.size + 1, 0, none⟩ = some (.slice (some adb) m c2) := by
    have := hq.b2.cell 0
    rw [hj, hm] at this
    exact this
  have hct4 : W4.cell? (adb.add l) = some (.int .u64 (t : Int)) := by rw [← hl]; exact (hq.bel.cell (by rw [add_block]; exact hadbl)).trans hct
  obtain ⟨T, hT⟩ : ∃ T : Int, (t : Int) = T := ⟨_, rfl⟩
  have HLz : Hid (Calls Tryz.prog 74 #[.int .u64 T] W4 fun e w' => e = .returned (.int .i64 (up : Int)) ∧ w' = W4) := Lib.hid (by
    have := Tryz.bits_LeadingZeros64 (t : Int) W4 (by omega) (by omega)
    rw [Int.toNat_natCast, hup, hT] at this
    exact this)
  rw [hT] at hct4
  rw [hn] at hq
  rw [hj, hm] at hq
  rw [hn, hj, hm] at hW4
  rw [hn, hj, hm]
  have Hq := Lib.hid hq
  have HMa := Lib.hid hMa
  have hup0 : (0 : Int) ≤ (up : Int) := by omega
  have hml : (m : Int) - 1 = (l : Int) := by omega
  have hwl : IntKind.i64.wrap (l : Int) = (l : Int) := IntWalk.i64_in _ ⟨by omega, by omega⟩
  have hl0 : (0 : Int) ≤ (l : Int) := by omega
  have hlm : (l : Int) < (m : Int) := by omega
  have hNw : N < 18446744073709551616 ^ 9000 := Nat.lt_of_le_of_lt hle (Nat.lt_of_lt_of_le hM (w64_le (j := 8000) (k := 9000) (by omega)))
  have hMw : M < 18446744073709551616 ^ 9000 := Nat.lt_of_lt_of_le hM (w64_le (j := 8000) (k := 9000) (by omega))
  have HS1 := Lib.hid (shu_any N up (.agg #[.slice (some adb) m c2]) (up : Int) W4 hNb hNw (by omega) rfl)
  have HMn : Hid (M < 18446744073709551616 ^ n) := Lib.hid (by rw [← hvu, ← hn]; exact wv_lt us hwu)
  have HNm : Hid (18446744073709551616 ^ (m - 1) ≤ N) := Lib.hid (by
    have h1 := wv_ge hvne (hlast2 hvne)
    rw [hvv, hj, hm] at h1
    exact h1)
  have Hnb : Hid (18446744073709551616 ^ l ≤ N * 2 ^ up ∧ N * 2 ^ up < 18446744073709551616 ^ m) := Lib.hid (by rw [← hl, ← hm]; exact hnb)
  have HMw := Lib.hid hMw
  have Hjm := Lib.hid (And.intro hm (And.intro hl hmn))
  have hnl : n ≤ 8000 := by omega
  have HM0 : Hid (0 < M) := Lib.hid (by omega)
  clear ha hb hu hwu hvu hlast1 hnil1 hv hwv hvv hlast2 hnil2 hl1 hl2 hc1 hc2 hnb hct hadbl ht ht0 htw hbl hup hT hn hj hvne hNb hMa hq hNw hMw hM hN hle
  go_enter Tryz.func73, Tryz.ntmps73
  go_wp2_with fail
  refine HLz.out.mono ?_
  rintro e w5 ⟨rfl, rfl⟩
  clear HLz hct4
  go_wp2_with fail
  refine HS1.out.mono ?_
  rintro e W5 ⟨v5, rfl, hN5, hF5, hb5⟩
  obtain ⟨bx, bz, ws, rfl, hcz, hws, hww, hwv, hwl2, hwlast, hwnil⟩ := hN5
  have hwsl : ws.length = m := by
    have := words_len (k := l) hww hwlast hwv Hnb.out.1 (by rw [show l + 1 = m by have := Hjm.out; omega]; exact Hnb.out.2)
    have := Hjm.out
    omega
  rw [hwsl] at hcz ⊢
  rw [hsz4] at hb5 hF5
  have hq5 := Hq.out.below hb5 (by omega)
  have q5 : W5.cell? ⟨w.heap.size, 0, none⟩ = some (.slice a1 n c1) := hq5.b1.cell 0
  have HM5 := Lib.hid (HMa.out.below hb5 (by omega))
  have Hq5 := Lib.hid hq5
  have Hws := Lib.hid (And.intro hws (And.intro hww (And.intro hwv hwsl)))
  obtain ⟨B, hB⟩ : ∃ B, W5.heap.size = B := ⟨_, rfl⟩
  have hBw : w.heap.size + 4 ≤ B := by have := hb5.size; omega
  have hfld := field_words bx m bz
  obtain ⟨L, hL⟩ : ∃ L, n + 1 = L := ⟨_, rfl⟩
  have hnL : (n : Int) + 1 = (L : Int) := by omega
  have hL9 : L ≤ 8001 := by omega
  clear HS1 hb5 hq5 hws hww hwv hwsl hwl2 hwlast hwnil hF5 q1 HMa Hq hcz
  go_wp2_with (at_make; refine make_u rfl (.tmp 30) rfl B _ _ L rfl rfl (by omega) (by omega) B hB ?_)
  intro W6 hr6 hb6 _
  rw [← List.map_replicate] at hr6
  have HR6 := Lib.hid hr6
  have HB6 := Lib.hid hb6
  have q6 : W6.cell? ⟨w.heap.size, 0, none⟩ = some (.slice a1 n c1) := (Hq5.out.below hb6 hBw).b1.cell 0
  have HS2 := Lib.hid (shu_any M up (.agg #[.slice a1 n c1]) (up : Int) W6 (HM5.out.below hb6 (by omega)) HMw.out (by omega) rfl)
  clear hr6 hb6 q5 hfld
  go_wp2_with fail
  refine HS2.out.mono ?_
  rintro e W7 ⟨v7, rfl, hN7, _, hb7⟩
  obtain ⟨ax, az, xs0, rfl, haz, hxs, hxw, hxv, hxl, hxlast, hxnil⟩ := hN7
  obtain ⟨ay, hay⟩ : ∃ ay, xs0.length = ay := ⟨_, rfl⟩
  have hayL : ay ≤ L := by
    rcases Nat.lt_or_ge L ay with h | h
    · exfalso
      have h1 := wv_ge (us := xs0) (fun e => by rw [e] at hay; simp at hay; omega) (hxlast (fun e => by rw [e] at hay; simp at hay; omega))
      have h2 := w64_le (j := n + 1) (k := xs0.length - 1) (by omega)
      have h3 : M * 2 ^ up < 18446744073709551616 ^ n * 2 ^ up := Nat.mul_lt_mul_of_pos_right HMn.out (Nat.two_pow_pos _)
      have h4 : 18446744073709551616 ^ n * 2 ^ up ≤ 18446744073709551616 ^ n * 18446744073709551616 := Nat.mul_le_mul_left _ (by
        have h5 : 2 ^ up ≤ 2 ^ 63 := Nat.pow_le_pow_right (by decide) hup63
        have h6 : (2 : Nat) ^ 63 ≤ 18446744073709551616 := by decide
        exact Nat.le_trans h5 h6)
      rw [← Nat.pow_succ] at h4
      rw [hxv] at h1
      omega
    · exact h
  have hr7 := HR6.out.kept (grown_below hb7 (Nat.le_refl _)) (.inr (by simp [Value.ownBlock]))
  have HR7 := Lib.hid hr7
  have HG7 := Lib.hid (own_whole hr7)
  have HB7 : Hid (Below B W5 W7) := Lib.hid (HB6.out.trans (hb7.mono (by have := HB6.out.size; omega)))
  have HX0 := Lib.hid (And.intro hxw (And.intro hxv hay))
  have Hxs := Lib.hid hxs
  rw [hay] at haz ⊢
  have hfld2 := field_words ax ay az
  have hxne : xs0 ≠ [] := fun e => by
    rw [e] at hxv
    have h1 := HM0.out
    have h2 := Nat.mul_pos h1 (Nat.two_pow_pos up)
    rw [← hxv] at h2
    simp [wv] at h2
  obtain ⟨adx, rfl, hadx, _⟩ := hxs 0 (List.length_pos_iff.2 hxne)
  obtain ⟨W8, hcopy, hg8, hb8⟩ : ∃ W8, (Builtin.copy_ #[29, 29] 3 #[.slice (some ⟨B, 0, none⟩) L L, .slice (some adx) ay az]).run Tryz.prog W7 = .ok (.int .i64 (ay : Int)) W8 ∧ W8.heap[B]? = some (.cells (splice ((List.replicate L 0).map uv) 0 (xs0.map uv)).toArray 60 (0, 0)) ∧ Below B W5 W8 := by
    have hl0 : (xs0.map uv).length = ay := by rw [List.length_map, HX0.out.2.2]
    have h1 := run_copy_row (P := Tryz.prog) W7 29 29 3 60 B 0 L L adx ay az _ 60 (xs0.map uv) Tryz.underlying29 (by kernel_rfl) HG7.out (by rw [hl0]; exact (Nat.min_eq_left hayL).symm) (fun k v hv => by
      rw [List.getElem?_map, Option.map_eq_some_iff] at hv
      obtain ⟨u, hu', rfl⟩ := hv
      obtain ⟨ad', hade, _, hcl⟩ := Hxs.out k (List.getElem?_eq_some_iff.1 hu').1
      cases hade
      rw [hcl, List.getD_eq_getElem?_getD, hu']
      rfl) (by rw [hl0]; simp; omega) (uv_one xs0)
    obtain ⟨cs', hcs'⟩ : ∃ cs', (((List.replicate L 0).map uv).toArray.toList.take 0 ++ xs0.map uv ++ ((List.replicate L 0).map uv).toArray.toList.drop (0 + (xs0.map uv).length)).toArray = cs' := ⟨_, rfl⟩
    rw [hcs', hl0] at h1
    refine ⟨W7.setRow B cs', h1, (setRow_heap W7 B _ cs' _ _ HG7.out).trans ?_, below_setRow HB7.out (Nat.le_refl _) _⟩
    rw [← hcs']
    simp [splice]
  clear HS2 hb7 hr7 hxs hxw hxv hxl hxlast hxnil hay HR6 HB6 q6 hxne hadx
  obtain ⟨xs, hxsd⟩ : ∃ xs, xs0 ++ List.replicate (L - ay) 0 = xs := ⟨_, rfl⟩
  have hxsl : xs.length = L := by rw [← hxsd, List.length_append, List.length_replicate, HX0.out.2.2]; omega
  have HR8 : Hid (W8.ownsRow B 60 1 (.slice (some ⟨B, 0, none⟩) L L) L (xs.map uv)) := Lib.hid (by
    refine own_swap HR7.out (by rw [List.length_map, hxsl]) ?_
    have h1 := hg8
    have e : splice ((List.replicate L 0).map uv) 0 (xs0.map uv) = xs.map uv := by
      unfold splice
      rw [← hxsd, List.take_zero, List.nil_append, List.map_append, Nat.zero_add, List.length_map, HX0.out.2.2, ← List.map_drop, List.drop_replicate]
    rw [e] at h1
    exact h1)
  have HX : Hid (wv xs = M * 2 ^ up ∧ Wrd xs ∧ xs.length = L) := Lib.hid ⟨by rw [← hxsd, wv_append, wv_zeros, Nat.mul_zero, Nat.add_zero, HX0.out.2.1], by
    intro u hu
    rw [← hxsd] at hu
    rcases List.mem_append.1 hu with hu | hu
    · exact HX0.out.1 u hu
    · exact wrd_zeros _ u hu, hxsl⟩
  obtain ⟨no, hno⟩ : ∃ no, L - m = no := ⟨_, rfl⟩
  have hnm : no + m = L := by have := Hjm.out; omega
  have hno' : (L : Int) - (m : Int) = (no : Int) := by omega
  obtain ⟨B2, hB2⟩ : ∃ B2, W8.heap.size = B2 := ⟨_, rfl⟩
  have hBB : B < B2 := by rw [← hB2]; exact (Array.getElem?_eq_some_iff.1 hg8).1
  have HB8 := Lib.hid hb8
  have hno0 : 0 < no := by have := Hjm.out; omega
  have hwno : IntKind.i64.wrap ((no : Int) - 1) = (no : Int) - 1 := IntWalk.i64_in _ ⟨by omega, by omega⟩
  clear hg8 hb8 hxsd hxsl HR7 HG7 HB7 HX0 Hxs hno haz hayL
  go_wp2_with (at_make; refine make_u rfl (.tmp 42) rfl B2 _ _ no rfl rfl (by omega) (by omega) B2 hB2 ?_)
  intro W9 hr9 hb9 _
  rw [← List.map_replicate] at hr9
  have hg9 := grown_below hb9 (by omega)
  have HA0 : Hid (W9.ownsRow B 60 1 (.slice (some ⟨B, 0, none⟩) L L) L (xs.map uv)) := Lib.hid (HR8.out.kept hg9 (.inr (by simp [Value.ownBlock])))
  have HO0 : Hid (W9.ownsRow B2 60 1 (.slice (some ⟨B2, 0, none⟩) no no) no ((List.replicate no 0 ++ []).map uv)) := Lib.hid (by rw [List.append_nil]; exact hr9)
  have HB9 : Hid (Below B W5 W9) := Lib.hid (HB8.out.trans (hb9.mono (by omega)))
  obtain ⟨X, hX⟩ : ∃ X, M * 2 ^ up = X := ⟨_, rfl⟩
  obtain ⟨V, hV⟩ : ∃ V, N * 2 ^ up = V := ⟨_, rfl⟩
  have HD0 : Hid (Dl X V m L no xs []) := Lib.hid (by
    have h1 := dl_init (M := M) (N := N) (up := up) (n := n) (m := m) (no := no) (xs := xs) HX.out.2.1 (by rw [HX.out.2.2]; omega) HX.out.1 HMn.out HNm.out (by omega) (by omega)
    rw [hX, hV, hL] at h1
    exact h1)
  have HXV := Lib.hid (And.intro hX hV)
  have HVb : Hid (0 < V ∧ V ≤ 18446744073709551616 ^ m) := Lib.hid (by
    rw [← hV]
    have h1 := Hnb.out
    have h2 := Nat.pow_pos (n := l) (show 0 < 18446744073709551616 by decide)
    exact ⟨by omega, by omega⟩)
  clear hr9 hb9 hg9 HR8 HB8 hX hV HX hno'
  go_wp2_with fail
  go_loopw [10] (fun iv wr => ∃ (k : Nat) (z : Int) (xs os : List Nat), k ≤ no ∧ z = (k : Int) - 1 ∧ iv = .int .i64 z ∧ Hid (Dl X V m L k xs os) ∧ Hid (wr.ownsRow B 60 1 (.slice (some ⟨B, 0, none⟩) L L) L (xs.map uv)) ∧ Hid (wr.ownsRow B2 60 1 (.slice (some ⟨B2, 0, none⟩) no no) no ((List.replicate k 0 ++ os).map uv)) ∧ Hid (Below B W5 wr)) (fun iv _ => (intOf iv + 1).toNat)
  case atStart => exact ⟨no, _, xs, [], Nat.le_refl _, rfl, rfl, HD0, HA0, HO0, HB9⟩
  case round =>
    clear HD0 HA0 HO0 HB9
    obtain ⟨k, z, xs, os, hk, hz, rfl, hD, hA, hO, hbel⟩ := hrel
    cases k with
    | zero =>
      have hzn : ¬ (0 : Int) ≤ z := by omega
      clear hz
      obtain ⟨hqv, hrv⟩ : M / N = wv os ∧ M % N = wv xs / 2 ^ up := by
        have h1 := hD.out.eq
        have h2 := hD.out.lt
        rw [List.drop_zero, ← HXV.out.2] at h2
        rw [Nat.pow_zero, Nat.mul_one, ← HXV.out.1, ← HXV.out.2] at h1
        refine div_shift (Nat.two_pow_pos up) ?_ h1 h2
        rcases Nat.eq_zero_or_pos N with h | h
        · rw [h, Nat.zero_mul] at h2; omega
        · exact h
      have hosl : os.length = no := by
        have h1 := hO.out.1
        rw [List.length_map, List.replicate_zero, List.nil_append] at h1
        omega
      have hOU1 : OU B2 wr (.slice (some ⟨B2, 0, none⟩) no no) os := by
        have h1 := hO.out
        rw [List.replicate_zero, List.nil_append] at h1
        unfold OU
        rw [hosl]
        exact h1
      have HT1 := Lib.hid (trim_n B2 wr _ os (M / N) hOU1 hD.out.wo hqv.symm (by omega))
      have HT2 : Hid (∀ wx, Below wr.heap.size wr wx → Calls Tryz.prog 51 #[.slice (some ⟨B, 0, none⟩) L L] wx fun e w' => ∃ x y z, e = .returned (.agg #[.slice x y z]) ∧ IsN w' (.agg #[.slice x y z]) (wv xs) ∧ Fresh B (.agg #[.slice x y z]) ∧ Below wx.heap.size wx w') := Lib.hid (fun wx hb => by
        have h1 := hA.out.kept (grown_below hb (Nat.le_refl _)) (.inr (by simp [Value.ownBlock]))
        have h2 : OU B wx (.slice (some ⟨B, 0, none⟩) L L) xs := by unfold OU; rw [hD.out.len]; exact h1
        exact trim_n B wx _ xs (wv xs) h2 hD.out.wx rfl (by rw [hD.out.len]; omega))
      have Hrv := Lib.hid (And.intro hrv (show wv xs < 18446744073709551616 ^ 9000 by
        have h1 := wv_lt xs hD.out.wx
        rw [hD.out.len] at h1
        exact Nat.lt_of_lt_of_le h1 (w64_le (k := 9000) (by omega))))
      have HBz := Lib.hid hbel.out
      have hneg : IntKind.i64.wrap (-(up : Int)) = -(up : Int) := IntWalk.i64_in _ ⟨by omega, by omega⟩
      clear hqv hrv hosl hOU1 hD hA hO hbel
      go_wp2_with fail
      refine HT1.out.mono ?_
      rintro e w1 ⟨x1, y1, z1, rfl, hN1, hF1, hb1⟩
      have HT2' := Lib.hid (HT2.out w1 hb1)
      have HN1 := Lib.hid hN1
      have HF1 := Lib.hid (hF1.mono (show B ≤ B2 by omega))
      have HB1 := Lib.hid (HBz.out.trans (hb1.mono (by have := HBz.out.size; omega)))
      clear HT1 HT2 hN1 hF1 hb1 HBz
      go_wp2_with fail
      refine HT2'.out.mono ?_
      rintro e w2 ⟨x2, y2, z2, rfl, hN2, _, hb2⟩
      have HSb := Lib.hid (shift_back (wv xs) up (.agg #[.slice x2 y2 z2]) (-(up : Int)) w2 hN2 Hrv.out.2 (by omega) rfl)
      have HN2 := Lib.hid (HN1.out.below hb2 (Nat.le_refl _))
      have HB2 := Lib.hid (HB1.out.trans (hb2.mono (by have := HB1.out.size; omega)))
      clear HT2' hN2 hb2 HN1 HB1
      go_wp2_with fail
      refine HSb.out.mono ?_
      rintro e w3 ⟨v3, rfl, hN3, hF3, hb3⟩
      obtain ⟨x3, y3, z3, rfl⟩ := isN_form hN3
      rw [← Hrv.out.1] at hN3
      have hB3 := HB2.out.trans (hb3.mono (by have := HB2.out.size; omega))
      have hq3 := Hq5.out.below hB3 hBw
      have hN2' := HN2.out.below hb3 (Nat.le_refl _)
      have hw2 : B ≤ w2.heap.size := by have := HB2.out.size; omega
      have s1 := hN2'.set (b := w.heap.size + 1 + 1) (x := .slice x1 y1 z1) HF1.out (by omega)
      have s2 := s1.set (b := w.heap.size + 1 + 1 + 1) (x := .slice x3 y3 z3) HF1.out (by omega)
      have s3 := hN3.set (b := w.heap.size + 1 + 1) (x := .slice x1 y1 z1) (hF3.mono hw2) (by omega)
      have s4 := s3.set (b := w.heap.size + 1 + 1 + 1) (x := .slice x3 y3 z3) (hF3.mono hw2) (by omega)
      have k3 := hq3.b3
      have k4 := hq3.b4
      have k3c := k3.cell 0; have k3f := k3.frozen 0; have k4c := k4.cell 0; have k4f := k4.frozen 0
      simp only [List.getElem?_toArray, List.getElem?_cons_zero] at k3c k4c
      have j3 : Blk ((w3.setCell ⟨w.heap.size + 1 + 1, 0, none⟩ (.slice x1 y1 z1)).setCell ⟨w.heap.size + 1 + 1 + 1, 0, none⟩ (.slice x3 y3 z3)) (w.heap.size + 1 + 1) 31 #[.slice x1 y1 z1] := (k3.set_ 0 (.slice x1 y1 z1)).far (p := ⟨w.heap.size + 1 + 1 + 1, 0, none⟩) (by show w.heap.size + 1 + 1 ≠ w.heap.size + 1 + 1 + 1; omega) _
      have k4' : Blk (w3.setCell ⟨w.heap.size + 1 + 1, 0, none⟩ (.slice x1 y1 z1)) (w.heap.size + 1 + 1 + 1) 31 #[.slice none 0 0] := k4.far (p := ⟨w.heap.size + 1 + 1, 0, none⟩) (by show w.heap.size + 1 + 1 + 1 ≠ w.heap.size + 1 + 1; omega) _
      have k4c' := k4'.cell 0; have k4f' := k4'.frozen 0
      simp only [List.getElem?_toArray, List.getElem?_cons_zero] at k4c'
      have j4 := k4'.set_ 0 (.slice x3 y3 z3)
      have HJ := Lib.hid (And.intro j3 j4)
      have HR : Hid (DivLIs M N w (.returned (.tuple #[.agg #[.slice x1 y1 z1], .agg #[.slice x3 y3 z3]])) ((w3.setCell ⟨w.heap.size + 1 + 1, 0, none⟩ (.slice x1 y1 z1)).setCell ⟨w.heap.size + 1 + 1 + 1, 0, none⟩ (.slice x3 y3 z3))) := Lib.hid ⟨x1, y1, z1, x3, y3, z3, rfl, s2, s4, (hq3.bel.setCell (p := ⟨w.heap.size + 1 + 1, 0, none⟩) (by show w.heap.size ≤ w.heap.size + 1 + 1; omega) _).setCell (p := ⟨w.heap.size + 1 + 1 + 1, 0, none⟩) (by show w.heap.size ≤ w.heap.size + 1 + 1 + 1; omega) _⟩
      clear HSb hN3 hF3 hb3 hB3 hq3 hN2' s1 s2 s3 s4 k3 k4 j3 j4 k4' HN2 HB2 HF1 Hrv
      go_wp2_with fail
      refine bodyPost_ret (res_cc rfl _ _ (w.heap.size + 1 + 1) (w.heap.size + 1 + 1 + 1) (.slice x1 y1 z1) (.slice x3 y3 z3) rfl rfl HJ.out.1 HJ.out.2) rfl ?_
      exact HR.out
    | succ i =>
      obtain rfl : z = (i : Int) := by omega
      clear hz
      obtain ⟨hjm, _, _⟩ := Hjm.out
      have hiL : i + (m + 1) ≤ L := by omega
      obtain ⟨hx0, hxp, hxlt, _⟩ := dl_part hD.out hiL HVb.out.2
      obtain ⟨hwsu, hwsw, hwsv, hwsl⟩ := Hws.out
      obtain ⟨adw, rfl, hadwl, _⟩ := hwsu.at (k := 0) (by omega) (Nat.le_refl _)
      rw [hB] at hadwl
      obtain ⟨P, hP⟩ : ∃ P, wv (xs.drop i) = P := ⟨_, rfl⟩
      obtain ⟨pl, hpl⟩ : ∃ pl, m + 1 = pl := ⟨_, rfl⟩
      obtain ⟨e1, he1⟩ : ∃ e1, i + pl = e1 := ⟨_, rfl⟩
      have him : (i : Int) + (m : Int) + 1 = (e1 : Int) := by omega
      have hwim : IntKind.i64.wrap ((i : Int) + (m : Int)) = (i : Int) + (m : Int) := IntWalk.i64_in _ ⟨by omega, by omega⟩
      have hwe1 : IntKind.i64.wrap (e1 : Int) = (e1 : Int) := IntWalk.i64_in _ ⟨by omega, by omega⟩
      have hcut : ∀ wx, (Instr.slice 29 (.slice (some ⟨B, 0, none⟩) L L) (some (.int .i64 (i : Int))) (some (.int .i64 (e1 : Int))) none).run Tryz.prog wx = .ok (.slice (some ⟨B, i, none⟩) pl (L - i)) wx := fun wx => cut_wh B i pl L L (by omega) (Nat.le_refl _) (i : Int) (e1 : Int) rfl (by rw [he1]) (by omega) wx
      have hcellA : ∀ q, q < pl → B < wr.heap.size ∧ wr.cell? ((⟨B, i, none⟩ : Addr).add q) = some (.int .u64 ((((xs.drop i).take pl).getD q 0 : Nat) : Int)) := fun q hq => by
        have h1 := ou_cell hA.out (i + q) (by rw [hD.out.len]; omega)
        refine ⟨(ou_block hA.out).2.1, ?_⟩
        rw [add_off]
        rw [add_zero_off] at h1
        have e : ((xs.drop i).take pl).getD q 0 = xs.getD (i + q) 0 := by rw [List.getD_eq_getElem?_getD, List.getD_eq_getElem?_getD, List.getElem?_take, if_pos hq, List.getElem?_drop]
        rw [h1, e]
      have hcellW : ∀ wx : World, Below B W5 wx → ∀ q, q < ws.length → ∃ ad, (some adw : Option Addr) = some ad ∧ ad.block < B ∧ wx.cell? (ad.add q) = some (.int .u64 ((ws.getD q 0 : Nat) : Int)) := fun wx hbx q hq => by
        obtain ⟨ad', h1, h2, h3⟩ := hwsu q hq
        cases h1
        rw [hB] at h2
        exact ⟨adw, rfl, h2, (hbx.cell (by rw [add_block]; exact h2)).trans h3⟩
      have hBwr : B ≤ wr.heap.size := by have := hbel.out.size; omega
      have hgs := guess_any ⟨B, i, none⟩ adw (L - i) bz j ((xs.drop i).take pl) ws wr (by rw [List.length_take, List.length_drop, hD.out.len]; omega) (by omega) (fun u hu => hD.out.wx u (List.mem_of_mem_drop (List.mem_of_mem_take hu))) hwsw (by omega)
        (fun q hq => by have := hcellA q (by omega); exact this) (fun q hq => by
          obtain ⟨ad', h1, h2, h3⟩ := hcellW wr hbel.out q (by omega)
          cases h1
          exact ⟨by omega, h3⟩) (by rw [hwsv, HXV.out.2]; exact HVb.out.1) (by rw [← hpl, hxp, hwsv, HXV.out.2, hP]; rw [hP] at hxlt; exact hxlt)
      rw [← hpl, hxp, hwsv, HXV.out.2, hP, show j + 3 = m + 1 by omega, hpl, hjm] at hgs
      have HGs := Lib.hid hgs
      have HTk : Hid (∀ (wx : World) (d : Nat), Below wr.heap.size wr wx → d < 18446744073709551616 → Calls Tryz.prog 94 #[.slice (some ⟨B, i, none⟩) pl (L - i), .slice (some adw) m bz, .int .u64 (d : Int)] wx (TakeIs B B L L xs ws i d wx)) := Lib.hid (fun wx d hbx hd => by
        have h1 := take_any B B L L (L - i) xs ws (some adw) bz i d wx (hA.out.kept (grown_below hbx (Nat.le_refl _)) (.inr (by simp [Value.ownBlock]))) hD.out.wx hwsw hd (hcellW wx (hbel.out.trans (hbx.mono hBwr))) (by omega) (by omega)
        rw [hwsl, hpl] at h1
        exact h1)
      have HGv : Hid (∀ (wx : World) (ys : List Nat) (cc : Nat), Below B W5 wx → ys.length = pl → Wrd ys → wx.ownsRow B 60 1 (.slice (some ⟨B, 0, none⟩) L L) L ((midl xs i ys pl).map uv) → Calls Tryz.prog 95 #[.slice (some ⟨B, i, none⟩) pl cc, .slice (some adw) m bz] wx (GiveIs B B L L (midl xs i ys pl) ws i wx)) := Lib.hid (fun wx ys cc hbx hyl hyw hr => by
        have h1 := give_any B B L L cc (midl xs i ys pl) ws (some adw) bz i wx hr (midl_wrd hD.out.wx hyw) hwsw (hcellW wx hbx) (by omega) (by omega)
        rw [hwsl, hpl] at h1
        exact h1)
      have hi0 : (0 : Int) ≤ (i : Int) := by omega
      have HP := Lib.hid (And.intro hP (And.intro hpl (And.intro hwsv (And.intro hwsl (And.intro hxp hiL)))))
      have hino : (i : Int) < (no : Int) := by omega
      clear hgs hcellA hcellW hx0 hxp hxlt hwsu hwsw hwsv hwsl hadwl hP hpl he1 hiL hjm
      go_wp2_with fail
      refine HGs.out.mono ?_
      rintro e w1 ⟨d, rfl, hqd, hd, hb1⟩
      obtain ⟨DY, hDY⟩ : ∃ DY : Int, (d : Int) = DY := ⟨_, rfl⟩
      have HTk1 := Lib.hid (HTk.out w1 d hb1 hd)
      rw [hDY] at HTk1 ⊢
      have HO1 := Lib.hid (hO.out.kept (grown_below hb1 (Nat.le_refl _)) (.inr (by simp [Value.ownBlock])))
      have HB1 := Lib.hid (hbel.out.trans (hb1.mono hBwr))
      have HDY := Lib.hid (And.intro hDY (And.intro hqd hd))
      clear HGs HTk hb1 hqd hd hDY hA hO hbel hBwr
      go_wp2_with fail
      refine HTk1.out.mono ?_
      rintro e w2 ⟨bb, ys, rfl, hT, hr2, hg2⟩
      obtain ⟨BB, hBB'⟩ : ∃ BB : Int, (bb : Int) = BB := ⟨_, rfl⟩
      rw [hBB']
      have HC2 : Hid (Cr P V m d bb ys) := Lib.hid (by
        obtain ⟨hP, hpl, hwsv, hwsl, hxp, hiL⟩ := HP.out
        have h1 := hT.eq
        rw [hwsl, hxp, hP, List.take_of_length_le (by omega), hwsv, HXV.out.2, Nat.zero_add] at h1
        exact ⟨by rw [hT.len, hwsl], hT.wrd, hT.ble, HDY.out.2.1, HDY.out.2.2, h1⟩)
      have HR2 : Hid (w2.ownsRow B 60 1 (.slice (some ⟨B, 0, none⟩) L L) L ((midl xs i ys pl).map uv)) := Lib.hid (by
        obtain ⟨hP, hpl, hwsv, hwsl, hxp, hiL⟩ := HP.out
        rw [hwsl, hpl] at hr2
        exact hr2)
      have HO2 := Lib.hid (HO1.out.kept hg2.gro (.inr (by simp [Value.ownBlock]; omega)))
      have HB2 := Lib.hid (HB1.out.trans hg2.bel)
      have HDB : Hid (DY = (d : Int) ∧ BB = (bb : Int)) := Lib.hid ⟨HDY.out.1.symm, hBB'.symm⟩
      clear HTk1 hT hr2 hg2 hBB' HO1 HB1 HDY
      go_wp2_with fail
      go_loopw [12, 13] (fun dv bv wq => ∃ (d bb : Nat) (ys : List Nat) (DD BB : Int), dv = .int .u64 DD ∧ bv = .int .u64 BB ∧ Hid (DD = (d : Int) ∧ BB = (bb : Int)) ∧ Hid (Cr P V m d bb ys) ∧ Hid (wq.ownsRow B 60 1 (.slice (some ⟨B, 0, none⟩) L L) L ((midl xs i ys pl).map uv)) ∧ Hid (wq.ownsRow B2 60 1 (.slice (some ⟨B2, 0, none⟩) no no) no ((List.replicate (i + 1) 0 ++ os).map uv)) ∧ Hid (Below B W5 wq)) (fun dv _ _ => (intOf dv).toNat)
      case atStart => exact ⟨d, bb, ys, DY, BB, rfl, rfl, HDB, HC2, HR2, HO2, HB2⟩
      case round =>
        clear HDB HC2 HR2 HO2 HB2
        obtain ⟨d, bb, ys, DD, BB, rfl, rfl, hDB, hC, hR, hO, hbel⟩ := hrel
        obtain ⟨hDD, hBBe⟩ := hDB.out
        by_cases hb0 : bb = 0
        · subst hb0
          obtain rfl : BB = 0 := by rw [hBBe]; rfl
          obtain ⟨hP, hpl, hwsv, hwsl, hxp, hiL⟩ := HP.out
          obtain ⟨hce, hcl⟩ := cr_done hC.out HVb.out.1
          have hstep := dl_step hD.out hiL HVb.out.2 hC.out.len hC.out.wrd hC.out.dlt (by rw [hP]; exact hce) hcl
          rw [hpl] at hstep
          have HSt := Lib.hid hstep
          obtain ⟨cv, hcv, hf⟩ := row_at hO.out i (by omega)
          obtain ⟨hbg, _, _⟩ := ou_block hO.out
          have hset : (List.replicate (i + 1) 0 ++ os).set i d = List.replicate i 0 ++ (d :: os) := by
            rw [List.replicate_succ', List.append_assoc, List.set_append_right _ _ (by rw [List.length_replicate]; exact Nat.le_refl _), List.length_replicate, Nat.sub_self]; rfl
          have hO3 := ou_set hO.out i d (by omega)
          rw [hset, ← hDD] at hO3
          have HO3 := Lib.hid hO3
          have HR3 : Hid ((wr.setCell ⟨B2, i, none⟩ (.int .u64 DD)).ownsRow B 60 1 (.slice (some ⟨B, 0, none⟩) L L) L ((midl xs i ys pl).map uv)) := Lib.hid (hR.out.kept (row := some B2) ⟨rfl, rfl, rfl, by simp, fun k _ hk => Below.heap_setCell _ _ _ k (fun e => hk (by rw [e]))⟩ (.inr (by simp [Value.ownBlock]; omega)))
          have HB3 := Lib.hid (hbel.out.setCell (p := ⟨B2, i, none⟩) (by show B ≤ B2; omega) (.int .u64 DD))
          clear hstep hset hO3 hce hcl hP hpl hwsv hwsl hxp hiL hC hR hO hbel hDB hDD hBBe hbg HGv
          go_wp2_with fail
          go_roundw
          case rel => exact ⟨i, _, _, _, by omega, rfl, by go_num, HSt, HR3, HO3, HB3⟩
          case measure => simp [intOf] <;> omega
        · have hb1 : bb = 1 := by have := hC.out.ble; omega
          subst hb1
          obtain rfl : BB = 1 := by rw [hBBe]; rfl
          have hGv := HGv.out wr ys (L - i) hbel.out (by have := hC.out.len; have := HP.out.2.1; omega) hC.out.wrd hR.out
          have HGv1 := Lib.hid hGv
          clear hGv hBBe
          go_wp2_with fail
          refine HGv1.out.mono ?_
          rintro e w3 ⟨c, zs, rfl, hAd, hr3, hg3⟩
          obtain ⟨hP, hpl, hwsv, hwsl, hxp, hiL⟩ := HP.out
          have hxL : i + (m + 1) ≤ xs.length := by rw [hD.out.len]; exact hiL
          rw [hwsl] at hAd hr3
          have hpt := midl_part (ys := ys) hxL hC.out.len
          rw [hpl] at hpt
          obtain ⟨hd0, hC3⟩ := cr_step (xs := (midl xs i ys pl).drop i) (vs := ws) (c := c) hC.out HVb.out.1 (by rw [hwsv, HXV.out.2]) hwsl hAd (by rw [hpl]; exact hpt)
          have hmm := midl_midl (zs := zs) hxL hC.out.len
          rw [hpl] at hmm
          have hr4 : w3.ownsRow B 60 1 (.slice (some ⟨B, 0, none⟩) L L) L ((midl xs i zs pl).map uv) := by
            rw [← hmm]
            rw [hpl] at hr3
            exact hr3
          have HC3 := Lib.hid hC3
          have HR4 := Lib.hid hr4
          have HO4 := Lib.hid (hO.out.kept hg3.gro (.inr (by simp [Value.ownBlock]; omega)))
          have HB4 := Lib.hid (hbel.out.trans hg3.bel)
          have hcle := hAd.cle
          obtain ⟨CC, hCC⟩ : ∃ CC : Int, (c : Int) = CC := ⟨_, rfl⟩
          obtain ⟨B1, hB1⟩ : ∃ B1 : Int, ((1 - c : Nat) : Int) = B1 := ⟨_, rfl⟩
          obtain ⟨D1, hD1⟩ : ∃ D1 : Int, ((d - 1 : Nat) : Int) = D1 := ⟨_, rfl⟩
          have hw1 : IntKind.u64.wrap (1 - CC) = B1 := by rw [← hCC, ← hB1, show (1 : Int) - (c : Int) = ((1 - c : Nat) : Int) by omega]; exact wrapu64 _ (by omega)
          have hw2 : IntKind.u64.wrap (DD - 1) = D1 := by rw [hDD, ← hD1, show (d : Int) - 1 = ((d - 1 : Nat) : Int) by omega]; exact wrapu64 _ (by have := hC.out.dlt; omega)
          have HDB1 : Hid (D1 = ((d - 1 : Nat) : Int) ∧ B1 = ((1 - c : Nat) : Int)) := Lib.hid ⟨hD1.symm, hB1.symm⟩
          have hms : D1.toNat < DD.toNat := by omega
          rw [hCC]
          clear HGv1 hAd hr3 hg3 hP hpl hwsv hwsl hxp hiL hxL hpt hmm hr4 hC3 hcle hCC hB1 hD1 hDD hd0 hC hR hO hbel hDB
          go_wp2_with fail
          go_roundw
          case rel => exact ⟨d - 1, 1 - c, zs, D1, B1, rfl, rfl, HDB1, HC3, HR4, HO4, HB4⟩
          case measure => simpa [intOf] using hms
end Go.Proofs.YtckglpkafhmehaaGreatDoor
namespace Go.Proofs.YtckglpkafhmehaaGreatDoor
open Go.RowKit
set_option linter.unusedVariables false
def DvMIs (M N : Nat) (w : World) (e : Ending) (w' : World) : Prop :=
  (N = 0 ∧ e = .returned (.tuple #[.agg #[.slice none 0 0], .agg #[.slice none 0 0], .bool false]) ∨
    0 < N ∧ ∃ x y z x' y' z', e = .returned (.tuple #[.agg #[.slice x y z], .agg #[.slice x' y' z'], .bool true]) ∧ IsN w' (.agg #[.slice x y z]) (M / N) ∧ IsN w' (.agg #[.slice x' y' z']) (M % N)) ∧ Below w.heap.size w w'
theorem IsN.drew2 {w : World} {v : Value} {N : Nat} (h : IsN w v N) : IsN w.drew v N := h
/-- Two results, stored. -/
theorem two_stores {w W : World} {va vb : Value} {x1 : Option Addr} {y1 z1 : Nat} {x3 : Option Addr} {y3 z3 : Nat} (hq : Q4 w W va vb (.slice none 0 0) (.slice none 0 0)) :
    Blk ((W.setCell ⟨w.heap.size + 1 + 1, 0, none⟩ (.slice x1 y1 z1)).setCell ⟨w.heap.size + 1 + 1 + 1, 0, none⟩ (.slice x3 y3 z3)) (w.heap.size + 1 + 1) 31 #[.slice x1 y1 z1] ∧
    Blk ((W.setCell ⟨w.heap.size + 1 + 1, 0, none⟩ (.slice x1 y1 z1)).setCell ⟨w.heap.size + 1 + 1 + 1, 0, none⟩ (.slice x3 y3 z3)) (w.heap.size + 1 + 1 + 1) 31 #[.slice x3 y3 z3] ∧
    Below w.heap.size w ((W.setCell ⟨w.heap.size + 1 + 1, 0, none⟩ (.slice x1 y1 z1)).setCell ⟨w.heap.size + 1 + 1 + 1, 0, none⟩ (.slice x3 y3 z3)) ∧
    W.cell? ⟨w.heap.size + 1 + 1, 0, none⟩ = some (.slice none 0 0) ∧ W.frozen? ⟨w.heap.size + 1 + 1, 0, none⟩ = false ∧
    (W.setCell ⟨w.heap.size + 1 + 1, 0, none⟩ (.slice x1 y1 z1)).cell? ⟨w.heap.size + 1 + 1 + 1, 0, none⟩ = some (.slice none 0 0) ∧ (W.setCell ⟨w.heap.size + 1 + 1, 0, none⟩ (.slice x1 y1 z1)).frozen? ⟨w.heap.size + 1 + 1 + 1, 0, none⟩ = false := by
  have k3 := hq.b3
  have k4 := hq.b4
  have k4' : Blk (W.setCell ⟨w.heap.size + 1 + 1, 0, none⟩ (.slice x1 y1 z1)) (w.heap.size + 1 + 1 + 1) 31 #[.slice none 0 0] := k4.far (p := ⟨w.heap.size + 1 + 1, 0, none⟩) (by show w.heap.size + 1 + 1 + 1 ≠ w.heap.size + 1 + 1; omega) _
  exact ⟨(k3.set_ 0 (.slice x1 y1 z1)).far (p := ⟨w.heap.size + 1 + 1 + 1, 0, none⟩) (by show w.heap.size + 1 + 1 ≠ w.heap.size + 1 + 1 + 1; omega) _, k4'.set_ 0 (.slice x3 y3 z3),
    (hq.bel.setCell (p := ⟨w.heap.size + 1 + 1, 0, none⟩) (by show w.heap.size ≤ w.heap.size + 1 + 1; omega) _).setCell (p := ⟨w.heap.size + 1 + 1 + 1, 0, none⟩) (by show w.heap.size ≤ w.heap.size + 1 + 1 + 1; omega) _,
    k3.cell 0, k3.frozen 0, k4'.cell 0, k4'.frozen 0⟩
/-- A number whose words lie below the boxes, or above them, is the same behind the stores. -/
theorem isN_stores {W : World} {v : Value} {S b : Nat} {x y : Value} (h : IsN W v S) (hf : ∀ ad n c, v = .agg #[.slice (some ad) n c] → ad.block < b ∨ b + 2 ≤ ad.block) : IsN ((W.setCell ⟨b, 0, none⟩ x).setCell ⟨b + 1, 0, none⟩ y) v S := by
  obtain ⟨a, c, us, rfl, h2, h3, h4⟩ := h
  refine ⟨a, c, us, rfl, h2, fun k hk => ?_, h4⟩
  obtain ⟨ad, rfl, hlt, hc⟩ := h3 k hk
  have := hf ad _ _ rfl
  refine ⟨ad, rfl, by rw [World.size_setCell, World.size_setCell]; exact hlt, ?_⟩
  rw [World.cell?_setCell_other _ _ _ _ (fun e => by have h9 := congrArg Addr.block e; rw [add_block] at h9; simp at h9; omega), World.cell?_setCell_other _ _ _ _ (fun e => by have h9 := congrArg Addr.block e; rw [add_block] at h9; simp at h9; omega)]
  exact hc
/-- A number's words lie in no box. -/
theorem isN_box {W : World} {v : Value} {S b : Nat} {x : Option Addr} {y z : Nat} (h : IsN W v S) (hk : Blk W b 31 #[.slice x y z]) : ∀ ad n c, v = .agg #[.slice (some ad) n c] → ad.block ≠ b := by
  intro ad n c e hb
  obtain ⟨a', c'', us, he, _, hu', _, _, _, _, hnil⟩ := h
  rw [e] at he
  have h1 := congrArg (fun v => match v with | Value.agg xs => xs[0]? | _ => none) he
  simp at h1
  obtain ⟨rfl, hn', rfl⟩ := h1
  obtain ⟨ad', hade, hl, hc⟩ := hu' 0 (List.length_pos_iff.2 (fun e => by have := (hnil e).1; cases this))
  cases hade
  unfold World.cell? at hc
  rw [add_block, hb, show W.heap[b]? = _ from hk] at hc
  simp only at hc
  split at hc
  · cases hc
  · have : ∀ k : Nat, (#[Value.slice x y z] : Array Value)[k]? ≠ some (.int .u64 ((us.getD 0 0 : Nat) : Int)) := fun k => by
      cases k with
      | zero => simp
      | succ k => simp
    exact this _ hc
theorem isN_set1 {W : World} {v : Value} {S b : Nat} {x : Value} (h : IsN W v S) (hf : ∀ ad n c, v = .agg #[.slice (some ad) n c] → ad.block ≠ b) : IsN (W.setCell ⟨b, 0, none⟩ x) v S := by
  obtain ⟨a, c, us, rfl, h2, h3, h4⟩ := h
  refine ⟨a, c, us, rfl, h2, fun k hk => ?_, h4⟩
  obtain ⟨ad, rfl, hlt, hc⟩ := h3 k hk
  have := hf ad _ _ rfl
  refine ⟨ad, rfl, by rw [World.size_setCell]; exact hlt, ?_⟩
  rw [World.cell?_setCell_other _ _ _ _ (fun e => by have h9 := congrArg Addr.block e; rw [add_block] at h9; simp at h9; omega)]
  exact hc
theorem fin_two {w W : World} {va vb : Value} {x1 : Option Addr} {y1 z1 : Nat} {x3 : Option Addr} {y3 z3 S : Nat} {v : Value} (hq : Q4 w W va vb (.slice none 0 0) (.slice none 0 0)) (h : IsN W v S) :
    IsN ((W.setCell ⟨w.heap.size + 1 + 1, 0, none⟩ (.slice x1 y1 z1)).setCell ⟨w.heap.size + 1 + 1 + 1, 0, none⟩ (.slice x3 y3 z3)) v S :=
  isN_stores (b := w.heap.size + 1 + 1) h (fun ad n c e => by
    have h1 := isN_box h hq.b3 ad n c e
    have h2 := isN_box h hq.b4 ad n c e
    omega)
theorem drawn_two {w W : World} {va vb : Value} {x1 : Option Addr} {y1 z1 : Nat} {x3 : Option Addr} {y3 z3 : Nat} (hq : Q4 w W va vb (.slice none 0 0) (.slice none 0 0)) :
    W.drew.cell? ⟨w.heap.size + 1 + 1, 0, none⟩ = some (.slice none 0 0) ∧ W.drew.frozen? ⟨w.heap.size + 1 + 1, 0, none⟩ = false ∧
    (W.setCell ⟨w.heap.size + 1 + 1, 0, none⟩ (.slice x1 y1 z1)).drew.cell? ⟨w.heap.size + 1 + 1 + 1, 0, none⟩ = some (.slice none 0 0) ∧ (W.setCell ⟨w.heap.size + 1 + 1, 0, none⟩ (.slice x1 y1 z1)).drew.frozen? ⟨w.heap.size + 1 + 1 + 1, 0, none⟩ = false ∧
    Blk ((W.setCell ⟨w.heap.size + 1 + 1, 0, none⟩ (.slice x1 y1 z1)).setCell ⟨w.heap.size + 1 + 1 + 1, 0, none⟩ (.slice x3 y3 z3)).drew (w.heap.size + 1 + 1) 31 #[.slice x1 y1 z1] ∧
    Blk ((W.setCell ⟨w.heap.size + 1 + 1, 0, none⟩ (.slice x1 y1 z1)).setCell ⟨w.heap.size + 1 + 1 + 1, 0, none⟩ (.slice x3 y3 z3)).drew (w.heap.size + 1 + 1 + 1) 31 #[.slice x3 y3 z3] ∧
    Below w.heap.size w ((W.setCell ⟨w.heap.size + 1 + 1, 0, none⟩ (.slice x1 y1 z1)).setCell ⟨w.heap.size + 1 + 1 + 1, 0, none⟩ (.slice x3 y3 z3)).drew := by
  obtain ⟨j1, j2, j3, j4, j5, j6, j7⟩ := two_stores (x1 := x1) (y1 := y1) (z1 := z1) (x3 := x3) (y3 := y3) (z3 := z3) hq
  exact ⟨j4, j5, j6, j7, j1, j2, j3.drew⟩
theorem drawn_keep {w W : World} {x1 : Option Addr} {y1 z1 : Nat} {x3 : Option Addr} {y3 z3 : Nat} {p : Addr} {v : Value} (h : W.cell? p = some v) (h1 : p.block ≠ w.heap.size + 1 + 1) (h2 : p.block ≠ w.heap.size + 1 + 1 + 1) :
    W.drew.cell? p = some v ∧ (W.setCell ⟨w.heap.size + 1 + 1, 0, none⟩ (.slice x1 y1 z1)).drew.cell? p = some v ∧ ((W.setCell ⟨w.heap.size + 1 + 1, 0, none⟩ (.slice x1 y1 z1)).setCell ⟨w.heap.size + 1 + 1 + 1, 0, none⟩ (.slice x3 y3 z3)).drew.cell? p = some v := by
  have e1 : (W.setCell ⟨w.heap.size + 1 + 1, 0, none⟩ (.slice x1 y1 z1)).cell? p = some v := (World.cell?_setCell_other _ _ _ _ (fun e => h1 (by rw [← e]))).trans h
  exact ⟨h, e1, (World.cell?_setCell_other _ _ _ _ (fun e => h2 (by rw [← e]))).trans e1⟩
set_option maxRecDepth 100000 in
set_option maxHeartbeats 4000000 in
theorem dvm_any (M N : Nat) (va vb : Value) (w : World) (ha : IsN w va M) (hb : IsN w vb N) (hM : M < 18446744073709551616 ^ 8000) :
    Calls Tryz.prog 49 #[va, vb] w (DvMIs M N w) := by
  obtain ⟨a1, n, c1, rfl⟩ := isN_form ha
  obtain ⟨a2, m, c2, rfl⟩ := isN_form hb
  obtain ⟨W4, hW4⟩ : ∃ W4, ((((w.alloc (.cells #[.slice a1 n c1] 31)).alloc (.cells #[.slice a2 m c2] 31)).alloc (.cells #[.slice none 0 0] 31)).alloc (.cells #[.slice none 0 0] 31)) = W4 := ⟨_, rfl⟩
  have hq := Q4.new w (.slice a1 n c1) (.slice a2 m c2) (.slice none 0 0) (.slice none 0 0)
  have hsz4 : W4.heap.size = w.heap.size + 4 := by rw [← hW4]; simp
  rw [hW4] at hq
  have q1 : W4.cell? ⟨w.heap.size + 1, 0, none⟩ = some (.slice a2 m c2) := hq.b2.cell 0
  have Hq := Lib.hid hq
  have HA := Lib.hid (ha.below hq.bel (Nat.le_refl _))
  have HBn := Lib.hid (hb.below hq.bel (Nat.le_refl _))
  have Ha := Lib.hid ha
  have HM := Lib.hid hM
  by_cases hN : N = 0
  · have HZ := Lib.hid (zero_yes (v := .agg #[.slice a2 m c2]) (w := W4) (by have := HBn.out; rw [hN] at this; exact this))
    clear ha hb hM hq HA HBn
    go_enter Tryz.func49, Tryz.ntmps49
    go_wp2_with fail
    refine HZ.out.mono ?_
    rintro e w5 ⟨rfl, hb5⟩
    have hq5 := Hq.out.below hb5 (by omega)
    obtain ⟨j1, j2, j3, j4, j5, j6, j7⟩ := two_stores (x1 := none) (y1 := 0) (z1 := 0) (x3 := none) (y3 := 0) (z3 := 0) hq5
    have HJ := Lib.hid (And.intro j1 (And.intro j2 j3))
    clear hq5 hb5 HZ j1 j2 j3 q1
    go_wp2_with fail
    refine bodyPost_ret (res_cct rfl _ _ (w.heap.size + 1 + 1) (w.heap.size + 1 + 1 + 1) (.slice none 0 0) (.slice none 0 0) (.bool false) rfl rfl rfl HJ.out.1 HJ.out.2.1) rfl ?_
    exact ⟨.inl ⟨hN, rfl⟩, HJ.out.2.2⟩
  · have HZ := Lib.hid (zero_no HBn.out hN)
    have hN0 : 0 < N := by omega
    clear ha hb hM hq
    by_cases hlt : M < N
    · go_enter Tryz.func49, Tryz.ntmps49
      go_wp2_with fail
      refine HZ.out.mono ?_
      rintro e w5 ⟨rfl, hb5⟩
      have hq5 := Hq.out.below hb5 (by omega)
      have HCm := Lib.hid (cmp_any M N _ _ w5 (HA.out.below hb5 (Nat.le_refl _)) (HBn.out.below hb5 (Nat.le_refl _)))
      have q2 : w5.cell? ⟨w.heap.size, 0, none⟩ = some (.slice a1 n c1) := hq5.b1.cell 0
      have q3 : w5.cell? ⟨w.heap.size + 1, 0, none⟩ = some (.slice a2 m c2) := hq5.b2.cell 0
      have Hq5 := Lib.hid hq5
      have hs5 := hb5.size
      clear hq5 hb5 HZ q1
      go_wp2_with fail
      refine HCm.out.mono ?_
      rintro e w6 ⟨rfl, hb6⟩
      have hq6 := Hq5.out.below hb6 (by omega)
      have hcm : cmpI M N = -1 := cmpI_lt hlt
      rw [hcm]
      have q4 : w6.drew.cell? ⟨w.heap.size, 0, none⟩ = some (.slice a1 n c1) := hq6.b1.cell 0
      obtain ⟨j1, j2, j3, j4, j5, j6, j7⟩ := two_stores (x1 := none) (y1 := 0) (z1 := 0) (x3 := a1) (y3 := n) (z3 := c1) hq6
      have HR : Hid (DvMIs M N w (.returned (.tuple #[.agg #[.slice none 0 0], .agg #[.slice a1 n c1], .bool true])) ((w6.setCell ⟨w.heap.size + 1 + 1, 0, none⟩ (.slice none 0 0)).setCell ⟨w.heap.size + 1 + 1 + 1, 0, none⟩ (.slice a1 n c1)).drew) := Lib.hid ⟨.inr ⟨hN0, none, 0, 0, a1, n, c1, rfl, by rw [Nat.div_eq_of_lt hlt]; exact isN_zero _, by
        rw [Nat.mod_eq_of_lt hlt]
        exact (isN_stores (W := w6) (b := w.heap.size + 1 + 1) (Ha.out.below hq6.bel (Nat.le_refl _)) (fun ad n' c' e => .inl (by
          obtain ⟨a', c'', us, he, _, hu', _, _, _, _, hnil⟩ := Ha.out
          rw [e] at he
          have h1 := congrArg (fun v => match v with | Value.agg xs => xs[0]? | _ => none) he
          simp at h1
          obtain ⟨rfl, hn', rfl⟩ := h1
          obtain ⟨ad', hade, hl, _⟩ := hu' 0 (List.length_pos_iff.2 (fun e => by have := (hnil e).1; cases this))
          cases hade
          omega))).drew2⟩, j3.drew⟩
      have i1 : (w6.setCell ⟨w.heap.size + 1 + 1, 0, none⟩ (.slice none 0 0)).drew.cell? ⟨w.heap.size + 1 + 1 + 1, 0, none⟩ = some (.slice none 0 0) := j6
      have i2 : (w6.setCell ⟨w.heap.size + 1 + 1, 0, none⟩ (.slice none 0 0)).drew.frozen? ⟨w.heap.size + 1 + 1 + 1, 0, none⟩ = false := j7
      have i3 : w6.drew.cell? ⟨w.heap.size + 1 + 1, 0, none⟩ = some (.slice none 0 0) := j4
      have i4 : w6.drew.frozen? ⟨w.heap.size + 1 + 1, 0, none⟩ = false := j5
      have HJ : Hid (Blk ((w6.setCell ⟨w.heap.size + 1 + 1, 0, none⟩ (.slice none 0 0)).setCell ⟨w.heap.size + 1 + 1 + 1, 0, none⟩ (.slice a1 n c1)).drew (w.heap.size + 1 + 1) 31 #[.slice none 0 0] ∧ Blk ((w6.setCell ⟨w.heap.size + 1 + 1, 0, none⟩ (.slice none 0 0)).setCell ⟨w.heap.size + 1 + 1 + 1, 0, none⟩ (.slice a1 n c1)).drew (w.heap.size + 1 + 1 + 1) 31 #[.slice a1 n c1]) := Lib.hid ⟨j1, j2⟩
      have k1 : (w6.setCell ⟨w.heap.size + 1 + 1, 0, none⟩ (.slice none 0 0)).drew.cell? ⟨w.heap.size, 0, none⟩ = some (.slice a1 n c1) := (World.cell?_setCell_other _ _ _ _ (fun e => by have := congrArg Addr.block e; simp at this; omega)).trans q4
      have k2 : ((w6.setCell ⟨w.heap.size + 1 + 1, 0, none⟩ (.slice none 0 0)).setCell ⟨w.heap.size + 1 + 1 + 1, 0, none⟩ (.slice a1 n c1)).drew.cell? ⟨w.heap.size, 0, none⟩ = some (.slice a1 n c1) := (World.cell?_setCell_other _ _ _ _ (fun e => by have := congrArg Addr.block e; simp at this; omega)).trans k1
      clear hq6 hb6 HCm hcm j1 j2 j3 j4 j5 j6 j7 q2 q3
      go_wp2_with fail
      go_region_held3 (fun w' => w'.cell? ⟨w.heap.size, 0, none⟩ = some (.slice a1 n c1))
        (first | exact q4 | exact k1 | exact k2 | go_keep)
        (fail)
      clear k1 k2 q4
      go_wp2_with fail
      refine bodyPost_ret (res_cct rfl _ _ (w.heap.size + 1 + 1) (w.heap.size + 1 + 1 + 1) (.slice none 0 0) (.slice a1 n c1) (.bool true) rfl rfl rfl HJ.out.1 HJ.out.2) rfl ?_
      exact HR.out
    · have hge : N ≤ M := by omega
      obtain ⟨cz, hcz⟩ : ∃ cz, cmpI M N = cz := ⟨_, rfl⟩
      have hcz0 : ¬ cz < 0 := by
        rw [← hcz]
        rcases Nat.lt_or_ge N M with h | h
        · rw [cmpI_gt h]; decide
        · obtain rfl : M = N := by omega
          rw [cmpI_eq]; decide
      have Hcz := Lib.hid hcz
      clear hcz
      by_cases hm1 : m = 1
      · subst hm1
        have hNw : N < 18446744073709551616 ∧ ∃ ad, a2 = some ad ∧ ad.block < W4.heap.size ∧ W4.cell? (ad.add 0) = some (.int .u64 (N : Int)) := by
          obtain ⟨a', c'', us, he, _, hu', hw', hv, _, hlast, hnil⟩ := HBn.out
          have h1 := congrArg (fun v => match v with | Value.agg xs => xs[0]? | _ => none) he
          simp at h1
          obtain ⟨rfl, hn', rfl⟩ := h1
          obtain ⟨ad, h2, h3, h4⟩ := hu' 0 (by omega)
          have e : N = us.getD 0 0 := by
            obtain ⟨u, rfl⟩ : ∃ u, us = [u] := by
              cases us with
              | nil => simp at hn'
              | cons u r =>
                cases r with
                | nil => exact ⟨u, rfl⟩
                | cons _ _ => simp at hn'
            rw [← hv]; simp [wv]
          exact ⟨by rw [e]; exact getW hw' 0, ad, h2, h3, by rw [e]; exact h4⟩
        obtain ⟨hNB, ad2, rfl, hadl, hcN⟩ := hNw
        obtain ⟨NY, hNY⟩ : ∃ NY : Int, (N : Int) = NY := ⟨_, rfl⟩
        rw [hNY] at hcN
        have hHN := Lib.hid (And.intro hNY hNB)
        have hcN' : W4.cell? ad2 = some (.int .u64 NY) := hcN
        have h11 : ((1 : Nat) : Int) = 1 := rfl
        clear hNY hNB hcN
        go_enter Tryz.func49, Tryz.ntmps49
        go_wp2_with fail
        refine HZ.out.mono ?_
        rintro e w5 ⟨rfl, hb5⟩
        have hq5 := Hq.out.below hb5 (by omega)
        have HCm := Lib.hid (cmp_any M N _ _ w5 (HA.out.below hb5 (Nat.le_refl _)) (HBn.out.below hb5 (Nat.le_refl _)))
        have q2 : w5.cell? ⟨w.heap.size, 0, none⟩ = some (.slice a1 n c1) := hq5.b1.cell 0
        have q3 : w5.cell? ⟨w.heap.size + 1, 0, none⟩ = some (.slice (some ad2) 1 c2) := hq5.b2.cell 0
        have Hq5 := Lib.hid hq5
        have hs5 := hb5.size
        have HB5 := Lib.hid hb5
        clear hq5 hb5 HZ q1
        go_wp2_with fail
        refine HCm.out.mono ?_
        rintro e w6 ⟨rfl, hb6⟩
        rw [Hcz.out]
        have hq6 := Hq5.out.below hb6 (by omega)
        have hb46 := HB5.out.trans (hb6.mono hs5)
        have q4 : w6.cell? ⟨w.heap.size, 0, none⟩ = some (.slice a1 n c1) := hq6.b1.cell 0
        have q5 : w6.cell? ⟨w.heap.size + 1, 0, none⟩ = some (.slice (some ad2) 1 c2) := hq6.b2.cell 0
        have q6 : w6.cell? ad2 = some (.int .u64 NY) := (hb46.cell hadl).trans hcN'
        have Hq6 := Lib.hid hq6
        have hs6 := hb6.size
        have HDw : Hid (∀ wx, Below w6.heap.size w6 wx → Calls Tryz.prog 72 #[.agg #[.slice a1 n c1], .int .u64 NY] wx fun e w' => ∃ x y z, e = .returned (.tuple #[.agg #[.slice x y z], .int .u64 ((M % N : Nat) : Int)]) ∧ IsN w' (.agg #[.slice x y z]) (M / N) ∧ Below wx.heap.size wx w' ∧ Below w6.heap.size w6 w') := Lib.hid (fun wx hb => by
          have := dvw_any M N _ wx (HA.out.below (hb46.trans (hb.mono hb46.size)) (Nat.le_refl _)) hN0 hHN.out.2
          rw [hHN.out.1] at this
          refine this.mono ?_
          rintro e w' ⟨x, y, z, h1, h2, h3⟩
          exact ⟨x, y, z, h1, h2, h3, hb.trans (h3.mono hb.size)⟩)
        have HS : Hid (∀ wx, Below w6.heap.size w6 wx → wx.cell? ⟨w.heap.size, 0, none⟩ = some (.slice a1 n c1) ∧ wx.cell? ⟨w.heap.size + 1, 0, none⟩ = some (.slice (some ad2) 1 c2) ∧ wx.cell? ad2 = some (.int .u64 NY)) := Lib.hid (fun wx hb =>
          ⟨(hb.cell (p := ⟨w.heap.size, 0, none⟩) hq6.b1.lt).trans q4, (hb.cell (p := ⟨w.heap.size + 1, 0, none⟩) hq6.b2.lt).trans q5, (hb.cell (p := ad2) (by have := hb46.size; omega)).trans q6⟩)
        have hd6 : Below w6.heap.size w6 w6.drew := (Below.refl _ _).drew
        have hd6a : Below w6.heap.size w6 (w6.drew.alloc (.cells #[.slice none 0 0] 31)) := hd6.alloc (show w6.heap.size ≤ w6.drew.heap.size from Nat.le_refl _) _
        clear hq6 hb6 hb46 HCm q2 q3
        go_wp2_with fail
        go_region_held3 (fun w' => w'.cell? ⟨w.heap.size, 0, none⟩ = some (.slice a1 n c1) ∧ w'.cell? ⟨w.heap.size + 1, 0, none⟩ = some (.slice (some ad2) 1 c2) ∧ w'.cell? ad2 = some (.int .u64 NY))
          (first | exact ⟨q4, q5, q6⟩ | exact HS.out _ ‹_› | exact HS.out _ hd6a | exact HS.out _ (hb67a.1 _) | exact HS.out _ (hb67a.2 _) | go_keep)
          (first
            | (go_at_call 72; refine (HDw.out _ (by assumption)).mono ?_; rintro e w7 ⟨x1, y1, z1, rfl, hN1, hb7, hb67⟩; have hb67a := And.intro (fun o : Obj => hb67.alloc hb67.size o) (fun v : Value => hb67.setCell (p := ⟨w6.heap.size, 0, none⟩) (Nat.le_refl w6.heap.size) v); try (have hkB : Blk w7 w6.heap.size 31 #[.slice none 0 0] := (Blk.new w6.drew _ _).below hb7 (by simp); have hkBc := hkB.cell 0; have hkBf := hkB.frozen 0; simp only [List.getElem?_toArray, List.getElem?_cons_zero] at hkBc)))
        · have hk8 : Blk (w7.alloc (.cells #[.slice x1 y1 z1] 31)) w7.heap.size 31 #[.slice x1 y1 z1] := Blk.new w7 _ _
          have hb8 : Below w6.heap.size w6 (w7.alloc (.cells #[.slice x1 y1 z1] 31)) := hb67.alloc hb67.size _
          have hn8 : IsN (w7.alloc (.cells #[.slice x1 y1 z1] 31)) (.agg #[.slice x1 y1 z1]) (M / N) := hN1.below ((Below.refl _ _).alloc (Nat.le_refl _) _) (Nat.le_refl _)
          obtain ⟨W8, hW8⟩ : ∃ W8, w7.alloc (.cells #[.slice x1 y1 z1] 31) = W8 := ⟨_, rfl⟩
          obtain ⟨g, hg⟩ : ∃ g, w7.heap.size = g := ⟨_, rfl⟩
          rw [hW8] at hk8 hb8 hn8
          rw [hg] at hk8
          have hg4 : w.heap.size + 4 ≤ g := by have := hb67.size; omega
          have HN8 := Lib.hid hn8
          have Hk8 := Lib.hid hk8
          have Hq8 := Lib.hid (Hq6.out.below hb8 (by omega))
          have HW8 := Lib.hid hW8
          have Hg := Lib.hid hg
          have hs8 := hb8.size
          obtain ⟨RY, hRY⟩ : ∃ RY : Int, (M : Int) % (N : Int) = RY := ⟨_, rfl⟩
          have hRYc : ((M % N : Nat) : Int) = RY := (Int.natCast_emod M N).trans hRY
          have HOf : Hid (Calls Tryz.prog 35 #[.int .u64 RY] W8.drew fun e w' => ∃ x y z, e = .returned (.agg #[.slice x y z]) ∧ IsN w' (.agg #[.slice x y z]) (M % N) ∧ Below W8.heap.size W8 w' ∧ w'.cell? ⟨g, 0, none⟩ = some (.slice x1 y1 z1)) := Lib.hid (by
            have := of_any (M % N) (Nat.lt_trans (Nat.mod_lt _ hN0) hHN.out.2) W8.drew
            rw [hRYc] at this
            refine this.mono fun e w' h => ?_
            obtain ⟨v, h1, h2, h3⟩ := h
            obtain ⟨x, y, z, rfl⟩ := isN_form h2
            have h4 : Below W8.heap.size W8 w' := ((Below.refl _ W8).drew).trans h3
            exact ⟨x, y, z, h1, h2, h4, (Hk8.out.below h4 Hk8.out.lt).cell 0⟩)
          have l0 : W8.drew.cell? ⟨g, 0, none⟩ = some (.slice x1 y1 z1) := hk8.cell 0
          first | rw [hRY] | rw [hRYc]
          clear hk8 hb8 hn8 hW8 hg hRY hRYc q4 q5 q6 HS HDw hN1 hb7 hb67 hb67a hd6 hd6a
          go_wp2_with fail
          rw [HW8.out]
          try rw [Hg.out]
          go_region_held3 (fun w' => w'.cell? ⟨g, 0, none⟩ = some (.slice x1 y1 z1))
            (first | exact l0 | assumption | (simp; done) | go_keep)
            (first
              | (go_at_call 35; refine HOf.out.mono ?_; rintro e w9 ⟨x3, y3, z3, rfl, hN9, hb9, hc9⟩; have hq9 := Hq8.out.below hb9 (by omega); have h9 := two_stores (x1 := x1) (y1 := y1) (z1 := z1) (x3 := x3) (y3 := y3) (z3 := z3) hq9; have i1 := h9.2.2.2.1; have i2 := h9.2.2.2.2.1; have i3 := h9.2.2.2.2.2.1; have i4 := h9.2.2.2.2.2.2; have l2 := (drawn_keep (w := w) (W := w9) (x1 := x1) (y1 := y1) (z1 := z1) (x3 := x3) (y3 := y3) (z3 := z3) (p := ⟨g, 0, none⟩) hc9 (by show g ≠ _; omega) (by show g ≠ _; omega)).2.1; have l3 := (drawn_keep (w := w) (W := w9) (x1 := x1) (y1 := y1) (z1 := z1) (x3 := x3) (y3 := y3) (z3 := z3) (p := ⟨g, 0, none⟩) hc9 (by show g ≠ _; omega) (by show g ≠ _; omega)).2.2))
          have HR : Hid (DvMIs M N w (.returned (.tuple #[.agg #[.slice x1 y1 z1], .agg #[.slice x3 y3 z3], .bool true])) ((w9.setCell ⟨w.heap.size + 1 + 1, 0, none⟩ (.slice x1 y1 z1)).setCell ⟨w.heap.size + 1 + 1 + 1, 0, none⟩ (.slice x3 y3 z3))) := Lib.hid ⟨.inr ⟨hN0, x1, y1, z1, x3, y3, z3, rfl, fin_two hq9 (HN8.out.below hb9 (Nat.le_refl _)), fin_two hq9 hN9⟩, h9.2.2.1⟩
          have HJ := Lib.hid (And.intro h9.1 h9.2.1)
          clear h9 l2 l3 i1 i2 i3 i4 hq9 hN9 hb9 hc9
          go_wp2_with fail
          refine bodyPost_ret (res_cct rfl _ _ (w.heap.size + 1 + 1) (w.heap.size + 1 + 1 + 1) (.slice x1 y1 z1) (.slice x3 y3 z3) (.bool true) rfl rfl rfl HJ.out.1 HJ.out.2) rfl ?_
          exact HR.out
        · have hk8 : Blk (w7.setCell ⟨w6.heap.size, 0, none⟩ (.slice x1 y1 z1)) w6.heap.size 31 #[.slice x1 y1 z1] := by have h1 : Blk w7 w6.heap.size 31 #[.slice none 0 0] := (Blk.new w6.drew _ _).below hb7 (by simp); exact h1.set_ 0 _
          have hb8 : Below w6.heap.size w6 (w7.setCell ⟨w6.heap.size, 0, none⟩ (.slice x1 y1 z1)) := hb67.setCell (p := ⟨w6.heap.size, 0, none⟩) (Nat.le_refl w6.heap.size) _
          have hn8 : IsN (w7.setCell ⟨w6.heap.size, 0, none⟩ (.slice x1 y1 z1)) (.agg #[.slice x1 y1 z1]) (M / N) := isN_set1 hN1 (isN_box hN1 ((Blk.new w6.drew 31 #[.slice none 0 0]).below hb7 (by simp)))
          obtain ⟨W8, hW8⟩ : ∃ W8, w7.setCell ⟨w6.heap.size, 0, none⟩ (.slice x1 y1 z1) = W8 := ⟨_, rfl⟩
          obtain ⟨g, hg⟩ : ∃ g, w6.heap.size = g := ⟨_, rfl⟩
          rw [hW8] at hk8 hb8 hn8
          rw [hg] at hk8
          have hg4 : w.heap.size + 4 ≤ g := by omega
          have HN8 := Lib.hid hn8
          have Hk8 := Lib.hid hk8
          have Hq8 := Lib.hid (Hq6.out.below hb8 (by omega))
          have HW8 := Lib.hid hW8
          have Hg := Lib.hid hg
          have hs8 := hb8.size
          obtain ⟨RY, hRY⟩ : ∃ RY : Int, (M : Int) % (N : Int) = RY := ⟨_, rfl⟩
          have hRYc : ((M % N : Nat) : Int) = RY := (Int.natCast_emod M N).trans hRY
          have HOf : Hid (Calls Tryz.prog 35 #[.int .u64 RY] W8.drew fun e w' => ∃ x y z, e = .returned (.agg #[.slice x y z]) ∧ IsN w' (.agg #[.slice x y z]) (M % N) ∧ Below W8.heap.size W8 w' ∧ w'.cell? ⟨g, 0, none⟩ = some (.slice x1 y1 z1)) := Lib.hid (by
            have := of_any (M % N) (Nat.lt_trans (Nat.mod_lt _ hN0) hHN.out.2) W8.drew
            rw [hRYc] at this
            refine this.mono fun e w' h => ?_
            obtain ⟨v, h1, h2, h3⟩ := h
            obtain ⟨x, y, z, rfl⟩ := isN_form h2
            have h4 : Below W8.heap.size W8 w' := ((Below.refl _ W8).drew).trans h3
            exact ⟨x, y, z, h1, h2, h4, (Hk8.out.below h4 Hk8.out.lt).cell 0⟩)
          have l0 : W8.drew.cell? ⟨g, 0, none⟩ = some (.slice x1 y1 z1) := hk8.cell 0
          first | rw [hRY] | rw [hRYc]
          clear hk8 hb8 hn8 hW8 hg hRY hRYc q4 q5 q6 HS HDw hN1 hb7 hb67 hb67a hd6 hd6a
          go_wp2_with fail
          rw [HW8.out]
          try rw [Hg.out]
          go_region_held3 (fun w' => w'.cell? ⟨g, 0, none⟩ = some (.slice x1 y1 z1))
            (first | exact l0 | assumption | (simp; done) | go_keep)
            (first
              | (go_at_call 35; refine HOf.out.mono ?_; rintro e w9 ⟨x3, y3, z3, rfl, hN9, hb9, hc9⟩; have hq9 := Hq8.out.below hb9 (by omega); have h9 := two_stores (x1 := x1) (y1 := y1) (z1 := z1) (x3 := x3) (y3 := y3) (z3 := z3) hq9; have i1 := h9.2.2.2.1; have i2 := h9.2.2.2.2.1; have i3 := h9.2.2.2.2.2.1; have i4 := h9.2.2.2.2.2.2; have l2 := (drawn_keep (w := w) (W := w9) (x1 := x1) (y1 := y1) (z1 := z1) (x3 := x3) (y3 := y3) (z3 := z3) (p := ⟨g, 0, none⟩) hc9 (by show g ≠ _; omega) (by show g ≠ _; omega)).2.1; have l3 := (drawn_keep (w := w) (W := w9) (x1 := x1) (y1 := y1) (z1 := z1) (x3 := x3) (y3 := y3) (z3 := z3) (p := ⟨g, 0, none⟩) hc9 (by show g ≠ _; omega) (by show g ≠ _; omega)).2.2))
          have HR : Hid (DvMIs M N w (.returned (.tuple #[.agg #[.slice x1 y1 z1], .agg #[.slice x3 y3 z3], .bool true])) ((w9.setCell ⟨w.heap.size + 1 + 1, 0, none⟩ (.slice x1 y1 z1)).setCell ⟨w.heap.size + 1 + 1 + 1, 0, none⟩ (.slice x3 y3 z3))) := Lib.hid ⟨.inr ⟨hN0, x1, y1, z1, x3, y3, z3, rfl, fin_two hq9 (HN8.out.below hb9 (Nat.le_refl _)), fin_two hq9 hN9⟩, h9.2.2.1⟩
          have HJ := Lib.hid (And.intro h9.1 h9.2.1)
          clear h9 l2 l3 i1 i2 i3 i4 hq9 hN9 hb9 hc9
          go_wp2_with fail
          refine bodyPost_ret (res_cct rfl _ _ (w.heap.size + 1 + 1) (w.heap.size + 1 + 1 + 1) (.slice x1 y1 z1) (.slice x3 y3 z3) (.bool true) rfl rfl rfl HJ.out.1 HJ.out.2) rfl ?_
          exact HR.out
      · have hm1i : ((m : Int) == 1) = false := by simp; omega
        have HN2 : Hid (18446744073709551616 ≤ N) := Lib.hid (by
          obtain ⟨a', c'', us, he, _, _, _, hv, _, hlast, hnil⟩ := HBn.out
          have h1 := congrArg (fun v => match v with | Value.agg xs => xs[0]? | _ => none) he
          simp at h1
          have hne : us ≠ [] := fun e => hN (by rw [← hv, e]; rfl)
          have h2 := wv_ge hne (hlast hne)
          have h3 := List.length_pos_iff.2 hne
          have h4 := w64_le (j := 1) (k := us.length - 1) (by omega)
          rw [Nat.pow_one] at h4
          omega)
        go_enter Tryz.func49, Tryz.ntmps49
        go_wp2_with fail
        refine HZ.out.mono ?_
        rintro e w5 ⟨rfl, hb5⟩
        have hq5 := Hq.out.below hb5 (by omega)
        have HCm := Lib.hid (cmp_any M N _ _ w5 (HA.out.below hb5 (Nat.le_refl _)) (HBn.out.below hb5 (Nat.le_refl _)))
        have q2 : w5.cell? ⟨w.heap.size, 0, none⟩ = some (.slice a1 n c1) := hq5.b1.cell 0
        have q3 : w5.cell? ⟨w.heap.size + 1, 0, none⟩ = some (.slice a2 m c2) := hq5.b2.cell 0
        have Hq5 := Lib.hid hq5
        have hs5 := hb5.size
        have HB5 := Lib.hid hb5
        clear hq5 hb5 HZ q1
        go_wp2_with fail
        refine HCm.out.mono ?_
        rintro e w6 ⟨rfl, hb6⟩
        rw [Hcz.out]
        have hq6 := Hq5.out.below hb6 (by omega)
        have hb46 := HB5.out.trans (hb6.mono hs5)
        have HDl := Lib.hid (divl_any M N _ _ w6 (HA.out.below hb46 (Nat.le_refl _)) (HBn.out.below hb46 (Nat.le_refl _)) HM.out HN2.out hge)
        have q4 : w6.cell? ⟨w.heap.size, 0, none⟩ = some (.slice a1 n c1) := hq6.b1.cell 0
        have q5 : w6.cell? ⟨w.heap.size + 1, 0, none⟩ = some (.slice a2 m c2) := hq6.b2.cell 0
        have Hq6 := Lib.hid hq6
        have hs6 := hb6.size
        clear hq6 hb6 hb46 HCm q2 q3
        go_wp2_with fail
        refine HDl.out.mono ?_
        rintro e w7 ⟨x1, y1, z1, x3, y3, z3, rfl, hN1, hN3, hb7⟩
        have Hq7 := Lib.hid (Hq6.out.below hb7 (by omega))
        have HN1 := Lib.hid hN1
        have HN3 := Lib.hid hN3
        have hs7 := hb7.size
        clear HDl hb7 hN1 hN3 q4 q5
        obtain ⟨g, hg⟩ : ∃ g, w7.heap.size = g := ⟨_, rfl⟩
        obtain ⟨W8, hW8⟩ : ∃ W8, (w7.alloc (.cells #[.slice x1 y1 z1] 31)).alloc (.cells #[.slice x3 y3 z3] 31) = W8 := ⟨_, rfl⟩
        have hb8 : Below g w7 W8 := by rw [← hW8]; exact ((Below.refl _ w7).alloc (by omega) _).alloc (by simp; omega) _
        have hk1 : Blk W8 g 31 #[.slice x1 y1 z1] := by rw [← hW8, ← hg]; exact (Blk.new w7 _ _).alloc _
        have hk2 : Blk W8 (g + 1) 31 #[.slice x3 y3 z3] := by
          have := Blk.new (w7.alloc (.cells #[.slice x1 y1 z1] 31)) 31 #[.slice x3 y3 z3]
          rw [World.size_alloc, hW8, hg] at this
          exact this
        have hq8 := Hq7.out.below hb8 (by omega)
        obtain ⟨i1, i2, i3, i4, i5, i6, i7⟩ := drawn_two (x1 := x1) (y1 := y1) (z1 := z1) (x3 := x3) (y3 := y3) (z3 := z3) hq8
        obtain ⟨l1, l2, l3⟩ := drawn_keep (w := w) (x1 := x1) (y1 := y1) (z1 := z1) (x3 := x3) (y3 := y3) (z3 := z3) (p := ⟨g, 0, none⟩) (hk1.cell 0) (by show g ≠ _; omega) (by show g ≠ _; omega)
        obtain ⟨m1, m2, m3⟩ := drawn_keep (w := w) (x1 := x1) (y1 := y1) (z1 := z1) (x3 := x3) (y3 := y3) (z3 := z3) (p := ⟨g + 1, 0, none⟩) (hk2.cell 0) (by show g + 1 ≠ _; omega) (by show g + 1 ≠ _; omega)
        have hn1 := fin_two (x1 := x1) (y1 := y1) (z1 := z1) (x3 := x3) (y3 := y3) (z3 := z3) hq8 (HN1.out.below hb8 (by omega))
        have hn3 := fin_two (x1 := x1) (y1 := y1) (z1 := z1) (x3 := x3) (y3 := y3) (z3 := z3) hq8 (HN3.out.below hb8 (by omega))
        have HR : Hid (DvMIs M N w (.returned (.tuple #[.agg #[.slice x1 y1 z1], .agg #[.slice x3 y3 z3], .bool true])) ((W8.setCell ⟨w.heap.size + 1 + 1, 0, none⟩ (.slice x1 y1 z1)).setCell ⟨w.heap.size + 1 + 1 + 1, 0, none⟩ (.slice x3 y3 z3)).drew) := Lib.hid ⟨.inr ⟨hN0, x1, y1, z1, x3, y3, z3, rfl, hn1.drew2, hn3.drew2⟩, i7⟩
        have HJ := Lib.hid (And.intro i5 i6)
        have HW8 := Lib.hid hW8
        clear hq8 hb8 hk1 hk2 i5 i6 i7 hn1 hn3 HN1 HN3 hW8
        go_wp2_with fail
        rw [HW8.out]
        try rw [hg]
        go_region_held3 (fun w' => w'.cell? ⟨g, 0, none⟩ = some (.slice x1 y1 z1) ∧ w'.cell? ⟨g + 1, 0, none⟩ = some (.slice x3 y3 z3))
          (first | exact ⟨l1, m1⟩ | exact ⟨l2, m2⟩ | exact ⟨l3, m3⟩ | go_keep)
          (fail)
        clear l1 l2 l3 m1 m2 m3
        go_wp2_with fail
        refine bodyPost_ret (res_cct rfl _ _ (w.heap.size + 1 + 1) (w.heap.size + 1 + 1 + 1) (.slice x1 y1 z1) (.slice x3 y3 z3) (.bool true) rfl rfl rfl HJ.out.1 HJ.out.2) rfl ?_
        exact HR.out
end Go.Proofs.YtckglpkafhmehaaGreatDoor
