/-
  Law 1: a number shifted down.
-/
import Derived.Test.YtllmacokhjmdgaaGreatDoorNShM
namespace Go.Proofs.YtllmacokhjmdgaaGreatDoor
open Go.RowKit
set_option linter.unusedVariables false
/-- Two boxes: a number and a result. -/
structure B2 (w W : World) (va vr : Value) : Prop where
  b1 : Blk W w.heap.size 26 #[va]
  b2 : Blk W (w.heap.size + 1) 26 #[vr]
  bel : Below w.heap.size w W
theorem B2.below {w W W' : World} {va vr : Value} {B : Nat} (h : B2 w W va vr) (hb : Below B W W') (hB : w.heap.size + 2 ≤ B) : B2 w W' va vr :=
  ⟨h.b1.below hb (by omega), h.b2.below hb (by omega), h.bel.trans (hb.mono (by omega))⟩
theorem B2.new (w : World) (va vr : Value) : B2 w ((w.alloc (.cells #[va] 26)).alloc (.cells #[vr] 26)) va vr := by
  have k1 := (Blk.new w 26 #[va]).alloc (.cells #[vr] 26)
  have k2 := Blk.new (w.alloc (.cells #[va] 26)) 26 #[vr]
  simp only [World.size_alloc] at k2
  exact ⟨k1, k2, ((Below.refl _ w).alloc (Nat.le_refl _) _).alloc (by simp) _⟩
theorem row_set {ps Z : List Nat} {k : Nat} (hp : ps.length = k) (hk : k < Z.length) (v : Nat) : (ps ++ Z.drop k).set k v = (ps ++ [v]) ++ Z.drop (k + 1) := by
  rw [List.set_append_right _ _ (by omega), hp, Nat.sub_self, List.drop_eq_getElem_cons hk]
  simp only [List.set_cons_zero, List.append_assoc, List.cons_append, List.nil_append]
theorem row_set2 {ps Z : List Nat} {k : Nat} (hp : ps.length = k) (hk : k < Z.length) (u v : Nat) : ((ps ++ [u]) ++ Z.drop (k + 1)).set k v = (ps ++ [v]) ++ Z.drop (k + 1) := by
  rw [← row_set hp hk u, List.set_set, row_set hp hk]
theorem row_get {ps Z : List Nat} {k : Nat} (hp : ps.length = k) (u : Nat) : ((ps ++ [u]) ++ Z.drop (k + 1)).getD k 0 = u := by
  rw [List.append_assoc, List.getD_eq_getElem?_getD, List.getElem?_append_right (by omega), hp, Nat.sub_self]; rfl
/-- The words of v lie in blocks from B on. -/
def Fresh (B : Nat) (v : Value) : Prop := ∀ ad n c, v = .agg #[.slice (some ad) n c] → B ≤ ad.block
theorem fresh_zero (B : Nat) : Fresh B (.agg #[.slice none 0 0]) := fun ad n c h => by cases h
theorem Fresh.mono {B B' : Nat} {v : Value} (h : Fresh B v) (hb : B' ≤ B) : Fresh B' v := fun ad n c e => Nat.le_trans hb (h ad n c e)
def GaveF (N : Nat) (w : World) (e : Ending) (w' : World) : Prop := ∃ v, e = .returned v ∧ IsN w' v N ∧ Fresh w.heap.size v ∧ Below w.heap.size w w'
theorem gaveF_n {N : Nat} {w : World} {e : Ending} {w' : World} (h : GaveF N w e w') : GaveN N w e w' := by
  obtain ⟨v, h1, h2, _, h3⟩ := h
  exact ⟨v, h1, h2, h3⟩
theorem trim_fresh (Bd b : Nat) (w0 W : World) (v : Value) (us : List Nat) (S : Nat) (ho : OU Bd W v us) (hb : Below w0.heap.size w0 W) (hbd : b < Bd) (hwb : w0.heap.size ≤ b) (hk : Blk W b 26 #[.slice none 0 0]) (hw : Wrd us) (hv : wv us = S) (hl : us.length ≤ 10000) :
    Calls Tryz.prog 53 #[v] W fun e w' => ∃ x y z, e = .returned (.agg #[.slice x y z]) ∧ Hid (Blk w' b 26 #[.slice none 0 0]) ∧ Hid (IsN (w'.setCell ⟨b, 0, none⟩ (.slice x y z)) (.agg #[.slice x y z]) S) ∧ Hid (Below w0.heap.size w0 (w'.setCell ⟨b, 0, none⟩ (.slice x y z))) ∧ Hid (Fresh Bd (.agg #[.slice x y z])) := by
  obtain ⟨a, cap, rfl, hcap, ha⟩ := ou_form ho
  have hur : UR W a us := by
    obtain ⟨a', c', he, _, h⟩ := ou_ur ho
    cases he
    exact h
  have hf : us = [] ∨ ∃ g, a = some ⟨g, 0, none⟩ ∧ Bd ≤ g := by
    rcases ha with h | ⟨g, h⟩
    · exact .inl h
    · subst h
      exact .inr ⟨g, rfl, (ou_block ho).1⟩
  refine (trim_any a cap us W hur (by omega) hcap).mono ?_
  rintro e w' ⟨rfl, hb'⟩
  have hfr : Fresh Bd (.agg #[trimV a cap (tlen us us.length)]) := by
    unfold trimV
    split
    · exact fresh_zero _
    · rename_i hne
      rcases hf with h | ⟨g, h, hg⟩
      · subst h; exact absurd rfl hne
      · subst h
        intro ad n c he
        have h1 := congrArg (fun v => match v with | Value.agg xs => xs[0]? | _ => none) he
        simp at h1
        rw [← h1.1]
        exact hg
  obtain ⟨m, hm⟩ : ∃ m, tlen us us.length = m := ⟨_, rfl⟩
  have h1 := fun x => isN_trim ((hur.below hb' (Nat.le_refl _)).far (i := 0) hbd hf x) hw hcap hl
  rw [hv, hm] at h1
  rw [hm] at hfr ⊢
  have htvs : ∃ x y z, trimV a cap m = .slice x y z := by
    unfold trimV; split
    · exact ⟨_, _, _, rfl⟩
    · exact ⟨_, _, _, rfl⟩
  obtain ⟨x, y, z, hx⟩ := htvs
  rw [hx] at h1 hfr ⊢
  have hlt := hk.lt
  have h0 : w0.heap.size ≤ W.heap.size := hb.size
  exact ⟨x, y, z, rfl, Lib.hid (hk.below hb' hlt), Lib.hid (h1 _), Lib.hid ((hb.trans (hb'.mono h0)).setCell (p := ⟨b, 0, none⟩) hwb _), Lib.hid hfr⟩
/-- The words a shift writes, as the walk reckons them. -/
theorem shw_int {p x y : Nat} (hp : p ≤ 63) (hx : x < 18446744073709551616) :
    ((x : Int) / 2 ^ p = ((x / 2 ^ p : Nat) : Int)) ∧ IntKind.u64.wrap ((y : Int) * 2 ^ (64 - p)) = (((y * 2 ^ (64 - p)) % 18446744073709551616 : Nat) : Int) ∧
    bits .or .u64 ((x / 2 ^ p : Nat) : Int) (((y * 2 ^ (64 - p)) % 18446744073709551616 : Nat) : Int) = ((shw p x y : Nat) : Int) := by
  have e2 : ∀ q : Nat, ((2 : Int) ^ q) = ((2 ^ q : Nat) : Int) := fun q => by rw [Int.natCast_pow]; rfl
  obtain ⟨h1, h2, h3⟩ := shw_parts (y := y) hp hx
  refine ⟨by rw [e2, ← Int.natCast_ediv], by rw [e2, ← Int.natCast_mul, wrapu64_mod], ?_⟩
  have h4 : (y * 2 ^ (64 - p)) % 18446744073709551616 < 18446744073709551616 := Nat.mod_lt _ (by omega)
  have h5 : x / 2 ^ p < 18446744073709551616 := Nat.lt_of_le_of_lt (Nat.div_le_self _ _) hx
  rw [u64_or_nat _ _ h5 h4]
  congr 1
  rw [Nat.or_comm, h2, nat_join (64 - p) _ _ (Nat.mul_mod_left _ _) h1]
  unfold shw
  rw [h2, Nat.add_comm]
set_option maxRecDepth 100000 in
set_option maxHeartbeats 4000000 in
theorem shdf_any (N d : Nat) (v : Value) (BY : Int) (w : World) (h : IsN w v N) (hd0 : 0 < d) (hd1 : d ≤ 1000000) (hBY : BY = -(d : Int)) :
    Calls Tryz.prog 103 #[v, .int .i64 BY] w (GaveF (N / 2 ^ d) w) := by
  obtain ⟨a, c, us, rfl, hc, hu, hw, rfl, hl, hlast, hnil⟩ := h
  obtain ⟨n, hn⟩ : ∃ n, us.length = n := ⟨_, rfl⟩
  obtain ⟨W2, hW2⟩ : ∃ W2, ((w.alloc (.cells #[.slice a us.length c] 26)).alloc (.cells #[.slice none 0 0] 26)) = W2 := ⟨_, rfl⟩
  have hb2 := B2.new w (.slice a us.length c) (.slice none 0 0)
  have hsz2 : W2.heap.size = w.heap.size + 2 := by rw [← hW2]; simp
  rw [hW2] at hb2
  have hN2 : IsN W2 (.agg #[.slice a us.length c]) (wv us) := ⟨a, c, us, rfl, hc, hu.below hb2.bel (Nat.le_refl _), hw, rfl, hl, hlast, hnil⟩
  have HBits := Lib.hid (bits_any _ _ _ hN2)
  have Hn := Lib.hid hn
  have Hw := Lib.hid hw
  have Hu := Lib.hid hu
  have Hb2 := Lib.hid hb2
  have q1 : W2.cell? ⟨w.heap.size, 0, none⟩ = some (.slice a us.length c) := hb2.b1.cell 0
  rw [hn] at q1 HBits Hb2 hW2 hl ⊢
  clear hb2 hN2 hc hu hw hlast hnil hn
  go_enter Tryz.func103, Tryz.ntmps103
  go_wp2_with fail
  refine HBits.out.mono ?_
  rintro e W3 ⟨L, rfl, hL, hLb, hb3⟩
  rw [hsz2] at hb3
  have hbx3 := Hb2.out.below hb3 (Nat.le_refl _)
  have HL := Lib.hid hL
  have HB3 := Lib.hid hb3
  have hwl : IntKind.i64.wrap (-(L : Int)) = -(L : Int) := IntWalk.i64_in _ ⟨by omega, by omega⟩
  by_cases hdl : L ≤ d
  · have hz := Lib.hid (Nat.div_eq_of_lt (Nat.lt_of_lt_of_le hL.lt (Nat.pow_le_pow_right (by omega) hdl)) : wv us / 2 ^ d = 0)
    have hle : BY ≤ -(L : Int) := by omega
    have hk5 := hbx3.b2
    have hk50 := hk5.cell 0; have hk5f := hk5.frozen 0
    simp only [List.getElem?_toArray, List.getElem?_cons_zero] at hk50
    have HK5 := Lib.hid hk5
    have HB5 := Lib.hid hbx3.bel
    clear HBits hL hbx3 hb3 hk5 q1
    go_wp2_with fail
    refine bodyPost_ret (res_nat rfl _ _ (w.heap.size + 1) (.slice none 0 0) rfl (HK5.out.set_ 0 _)) rfl ?_
    exact ⟨_, rfl, by rw [hz.out]; exact isN_zero _, fresh_zero _, HB5.out.setCell (p := ⟨w.heap.size + 1, 0, none⟩) (by show w.heap.size ≤ w.heap.size + 1; omega) _⟩
  · have hle : ¬ BY ≤ -(L : Int) := by omega
    have q3 : W3.cell? ⟨w.heap.size, 0, none⟩ = some (.slice a n c) := hbx3.b1.cell 0
    have hnb : IntKind.i64.wrap (-BY) = (d : Int) := by rw [hBY, Int.neg_neg]; exact IntWalk.i64_in _ ⟨by omega, by omega⟩
    have hLn : L ≤ 64 * n := by
      rcases Nat.lt_or_ge (64 * n) L with hgt | hle2
      · exfalso
        have h1 := hL.le (by omega)
        have h2 : 2 ^ (64 * n) ≤ 2 ^ (L - 1) := Nat.pow_le_pow_right (by omega) (by omega)
        have h3 := wv_lt us Hw.out
        have e : 18446744073709551616 ^ us.length = 2 ^ (64 * n) := by rw [Hn.out, Nat.pow_mul]
        omega
      · exact hle2
    have hd0' : (0 : Int) ≤ (d : Int) := by omega
    obtain ⟨wh, hwh⟩ : ∃ wh, d / 64 = wh := ⟨_, rfl⟩
    obtain ⟨p, hp⟩ : ∃ p, d % 64 = p := ⟨_, rfl⟩
    obtain ⟨m, hm⟩ : ∃ m, n - wh = m := ⟨_, rfl⟩
    have hwn : wh < n := by omega
    have hp63 : p ≤ 63 := by omega
    have Hdd : Hid (d = wh * 64 + p) := Lib.hid (by omega)
    have hdw : (d : Int) / 64 = (wh : Int) := by omega
    have hdp : (d : Int) % 64 = (p : Int) := by omega
    have hnm : (n : Int) - (wh : Int) = (m : Int) := by omega
    have hp63' : (p : Int) ≤ 63 := by omega
    have hsz3 : w.heap.size + 2 ≤ W3.heap.size := by have := hb3.size; omega
    clear HBits hL hbx3 hb3 q1 hwh hp HL hLn hBY hd0 hd1
    go_wp2_with (at_make; refine make_u rfl (.tmp 26) rfl (w.heap.size + 2) _ _ m rfl rfl (by omega) hsz3 _ rfl ?_)
    intro W6 hr6 hb6 _
    obtain ⟨g, hg⟩ : ∃ g, W3.heap.size = g := ⟨_, rfl⟩
    rw [hg] at hr6
    try rw [hg]
    rw [← List.map_replicate] at hr6
    have HB6 : Hid (Below (w.heap.size + 2) W2 W6) := Lib.hid (HB3.out.trans hb6)
    obtain ⟨zs, hzs⟩ : ∃ zs, List.replicate m 0 = zs := ⟨_, rfl⟩
    have Hzl : Hid (zs.length = m) := Lib.hid (by rw [← hzs, List.length_replicate])
    rw [hzs] at hr6
    obtain ⟨ts, hts⟩ : ∃ ts, us.drop wh = ts := ⟨_, rfl⟩
    have Htl : Hid (ts.length = m) := Lib.hid (by rw [← hts, List.length_drop, Hn.out]; exact hm)
    have Hwt : Hid (Wrd ts) := Lib.hid (fun u hu => Hw.out u (by rw [← hts] at hu; exact List.mem_of_mem_drop hu))
    have Hts := Lib.hid hts
    have hM0 : Hid (Sd ts p 0 []) := Lib.hid ⟨rfl, fun u hu => by simp at hu, by simp [wv]⟩
    have Hr6 : Hid (W6.ownsRow (w.heap.size + 2) 22 1 (.slice (some ⟨g, 0, none⟩) m m) m (([] ++ zs.drop 0).map uv)) := Lib.hid (by simpa using hr6)
    have hm0 : 0 < m := by omega
    clear hr6 hb6 q3 hzs HB3 hg hsz3 hts hm
    go_wp2_with fail
    go_loopw [30] (fun iv wr => ∃ (k : Nat) (ps : List Nat), k ≤ m ∧ iv = .int .i64 (k : Int) ∧ Hid (Sd ts p k ps) ∧ Hid (wr.ownsRow (w.heap.size + 2) 22 1 (.slice (some ⟨g, 0, none⟩) m m) m ((ps ++ zs.drop k).map uv)) ∧ Hid (Below (w.heap.size + 2) W2 wr)) (fun iv _ => m - (intOf iv).toNat)
    case atStart => exact ⟨0, [], by omega, rfl, hM0, Hr6, HB6⟩
    case round =>
      clear hM0 Hr6 HB6
      obtain ⟨k, ps, hk, rfl, hS, hrow, hbel⟩ := hrel
      have hbxr := Hb2.out.below hbel.out (Nat.le_refl _)
      have q7 : wr.cell? ⟨w.heap.size, 0, none⟩ = some (.slice a n c) := hbxr.b1.cell 0
      by_cases hlt : k < m
      · obtain ⟨q, hq⟩ : ∃ q, k + wh = q := ⟨_, rfl⟩
        have hkq : (k : Int) + (wh : Int) = (q : Int) := by omega
        have hq0 : (0 : Int) ≤ (q : Int) := by omega
        have hqn : (q : Int) < (n : Int) := by omega
        have hk0 : (0 : Int) ≤ (k : Int) := by omega
        have hkm : (k : Int) < (m : Int) := by omega
        obtain ⟨ad, rfl, hadl, hcu⟩ := Hu.out q (by rw [Hn.out]; omega)
        obtain ⟨x, hx⟩ : ∃ x, ts.getD k 0 = x := ⟨_, rfl⟩
        have hxw : x < 18446744073709551616 := by rw [← hx]; exact getW Hwt.out k
        have hxu : us.getD q 0 = x := by rw [← hx, ← Hts.out, List.getD_eq_getElem?_getD, List.getD_eq_getElem?_getD, List.getElem?_drop, Nat.add_comm, hq]
        obtain ⟨X, hX⟩ : ∃ X : Int, (x : Int) = X := ⟨_, rfl⟩
        rw [hxu, hX] at hcu
        have hcx : wr.cell? (ad.add q) = some (.int .u64 X) := (hbel.out.cell (by rw [add_block]; omega)).trans ((Hb2.out.bel.cell (by rw [add_block]; exact hadl)).trans hcu)
        obtain ⟨cv, hck, hfk⟩ := row_at hrow.out k hlt
        obtain ⟨hbg, _, _⟩ := ou_block hrow.out
        obtain ⟨y, hy⟩ : ∃ y, ts.getD (k + 1) 0 = y := ⟨_, rfl⟩
        obtain ⟨hi1, hi2, hi3⟩ := shw_int (y := y) hp63 hxw
        obtain ⟨X1, hX1⟩ : ∃ X1 : Int, ((x / 2 ^ p : Nat) : Int) = X1 := ⟨_, rfl⟩
        rw [hX, hX1] at hi1
        have hrw1 := ou_set hrow.out k (x / 2 ^ p) hlt
        rw [row_set hS.out.len (by rw [Hzl.out]; exact hlt), hX1] at hrw1
        have hstep := sd_step hp63 (by rw [Htl.out]; exact hlt) Hwt.out hS.out
        rw [hx, hy] at hstep
        have hbw1 := hbel.out.setCell (p := ⟨g, k, none⟩) hbg (.int .u64 X1)
        by_cases hr : q + 1 < n
        · have hr' : (q : Int) + 1 < (n : Int) := by omega
          obtain ⟨r, hrr⟩ : ∃ r, q + 1 = r := ⟨_, rfl⟩
          obtain ⟨t, ht⟩ : ∃ t, 64 - p = t := ⟨_, rfl⟩
          have hq1 : (q : Int) + 1 = (r : Int) := by omega
          have hr0 : (0 : Int) ≤ (r : Int) := by omega
          have hrn : (r : Int) < (n : Int) := by omega
          have hpt : (64 : Int) - (p : Int) = (t : Int) := by omega
          have hpt' : IntKind.u64.wrap ((64 : Int) - (p : Int)) = (t : Int) := by rw [hpt]; exact IntWalk.u64_in _ ⟨by omega, by omega⟩
          have ht0 : (0 : Int) ≤ (t : Int) := by omega
          have hwq : IntKind.i64.wrap (q : Int) = (q : Int) := IntWalk.i64_in _ ⟨by omega, by omega⟩
          have hwr : IntKind.i64.wrap (r : Int) = (r : Int) := IntWalk.i64_in _ ⟨by omega, by omega⟩
          have hwt : IntKind.u64.wrap (t : Int) = (t : Int) := IntWalk.u64_in _ ⟨by omega, by omega⟩
          have ht64 : (t : Int) ≤ 64 := by omega
          have hyu : us.getD r 0 = y := by rw [← hy, ← Hts.out, List.getD_eq_getElem?_getD, List.getD_eq_getElem?_getD, List.getElem?_drop, ← hrr, ← hq, Nat.add_comm wh, Nat.add_right_comm]
          obtain ⟨ad', hade, hadl', hcu2⟩ := Hu.out r (by rw [Hn.out]; omega)
          cases hade
          obtain ⟨Y, hY⟩ : ∃ Y : Int, (y : Int) = Y := ⟨_, rfl⟩
          obtain ⟨Y1, hY1⟩ : ∃ Y1 : Int, (((y * 2 ^ (64 - p)) % 18446744073709551616 : Nat) : Int) = Y1 := ⟨_, rfl⟩
          obtain ⟨Z, hZ⟩ : ∃ Z : Int, ((shw p x y : Nat) : Int) = Z := ⟨_, rfl⟩
          rw [hyu, hY] at hcu2
          rw [hY, ht] at hi2
          rw [ht] at hY1
          rw [hY1] at hi2
          rw [hX1, ht, hY1, hZ] at hi3
          have hcy : (wr.setCell ⟨g, k, none⟩ (.int .u64 X1)).cell? (ad.add r) = some (.int .u64 Y) := (hbw1.cell (by rw [add_block]; omega)).trans ((Hb2.out.bel.cell (by rw [add_block]; exact hadl')).trans hcu2)
          have hS1 : (wr.setCell ⟨g, k, none⟩ (.int .u64 X1)).cell? ⟨w.heap.size, 0, none⟩ = some (.slice (some ad) n c) := (Hb2.out.below hbw1 (Nat.le_refl _)).b1.cell 0
          have hS2 := ou_cell hrw1 k (by have := hrw1.1; rw [List.length_map] at this; omega)
          rw [row_get hS.out.len, add_zero_off, hX1] at hS2
          have hfk2 : (wr.setCell ⟨g, k, none⟩ (.int .u64 X1)).frozen? ⟨g, k, none⟩ = false := (ou_block hrw1).2.2 k hlt
          have hrw2 := ou_set hrw1 k (shw p x y) hlt
          rw [row_set2 hS.out.len (by rw [Hzl.out]; exact hlt), hZ] at hrw2
          have HSt := Lib.hid hstep
          have Hrw := Lib.hid hrw2
          have Hbw := Lib.hid (hbw1.setCell (p := ⟨g, k, none⟩) hbg (.int .u64 Z))
          clear hstep hrw1 hrw2 hX1 hX hx hy hxu hxw hcu hadl hadl' hbxr hrow hS hbel hr hq hrr ht hyu hcu2 hY hY1 hZ hbw1
          go_wp2_with fail
          go_region
          have Hrw' := Lib.hid (World.ownsRow.drew Hrw.out)
          have Hbw' := Lib.hid Hbw.out.drew
          clear Hrw Hbw hcy hS1 hS2
          go_wp2_with fail
          go_roundw
          case rel => exact ⟨k + 1, _, by omega, by go_num, HSt, Hrw', Hbw'⟩
          case measure => simp [intOf]; omega
        · have hr' : ¬ (q : Int) + 1 < (n : Int) := by omega
          have hy0 : y = 0 := by rw [← hy, List.getD_eq_getElem?_getD, List.getElem?_eq_none (by rw [Htl.out]; omega)]; rfl
          have esh : shw p x y = x / 2 ^ p := by unfold shw; rw [hy0, Nat.zero_mul]; rfl
          rw [esh] at hstep
          have HSt := Lib.hid hstep
          have Hrw := Lib.hid hrw1
          have Hbw := Lib.hid hbw1
          have q8 : (wr.setCell ⟨g, k, none⟩ (.int .u64 X1)).cell? ⟨w.heap.size, 0, none⟩ = some (.slice (some ad) n c) := (Hb2.out.below hbw1 (Nat.le_refl _)).b1.cell 0
          clear hstep hrw1 hbw1 esh hy0 hi2 hi3 hX1 hX hx hy hxu hxw hcu hadl hbxr hrow hS hbel hr hq
          go_wp2_with fail
          go_roundw
          case rel => exact ⟨k + 1, _, by omega, by go_num, HSt, Hrw, Hbw⟩
          case measure => simp [intOf]; omega
      · obtain rfl : k = m := by omega
        have hps : ps ++ zs.drop k = ps := by rw [List.drop_of_length_le (by rw [Hzl.out]; exact Nat.le_refl _), List.append_nil]
        have hval : wv ps = wv us / 2 ^ d := shd_whole Hw.out Hdd.out (by
          rw [Hts.out]
          exact sd_done (by rw [Htl.out]; exact hS.out))
        have hou : OU (w.heap.size + 2) wr (.slice (some ⟨g, 0, none⟩) k k) ps := by
          have h1 := hrow.out
          rw [hps] at h1
          unfold OU
          rw [hS.out.len]
          exact h1
        have HT := Lib.hid (trim_fresh (w.heap.size + 2) (w.heap.size + 1) w wr _ _ _ hou hbxr.bel (by omega) (by omega) hbxr.b2 hS.out.wrd hval (by rw [hS.out.len]; omega))
        clear hval hou hps hbxr hbel hrow hS
        go_wp2_with fail
        refine HT.out.mono ?_
        rintro e w5 ⟨x, y, z, rfl, hk5, hN5, hB5, hF5⟩
        have hk50 := hk5.out.cell 0; have hk5f := hk5.out.frozen 0
        simp only [List.getElem?_toArray, List.getElem?_cons_zero] at hk50
        clear HT
        go_wp2_with fail
        refine bodyPost_ret (res_nat rfl _ _ (w.heap.size + 1) (.slice x y z) rfl (hk5.out.set_ 0 _)) rfl ?_
        exact ⟨_, rfl, hN5.out, hF5.out.mono (by omega), hB5.out⟩
theorem shd_any (N d : Nat) (v : Value) (BY : Int) (w : World) (h : IsN w v N) (hd0 : 0 < d) (hd1 : d ≤ 1000000) (hBY : BY = -(d : Int)) :
    Calls Tryz.prog 103 #[v, .int .i64 BY] w (GaveN (N / 2 ^ d) w) :=
  (shdf_any N d v BY w h hd0 hd1 hBY).mono fun _ _ h => gaveF_n h
end Go.Proofs.YtllmacokhjmdgaaGreatDoor
