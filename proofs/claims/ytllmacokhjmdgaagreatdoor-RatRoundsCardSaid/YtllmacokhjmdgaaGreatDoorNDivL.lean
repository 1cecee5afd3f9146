/-
  Law 1: division by hand: its beginning.
-/
import Derived.Test.YtllmacokhjmdgaaGreatDoorNDlM
namespace Go.Proofs.YtllmacokhjmdgaaGreatDoor
open Go.RowKit
set_option linter.unusedVariables false
theorem res_cc {fn : Func} {p q : Tmp} (h : fn.results = #[.cell p 26, .cell q 26]) (tmps : Array Value) (w : World) (g1 g2 : Nat) (v1 v2 : Value) (hp : tmps.getD p undef = .pointer (some ⟨g1, 0, none⟩)) (hq : tmps.getD q undef = .pointer (some ⟨g2, 0, none⟩)) (hg1 : Blk w g1 26 #[v1]) (hg2 : Blk w g2 26 #[v2]) :
    (results fn tmps).run Tryz.prog w = .ok (.tuple #[.agg #[v1], .agg #[v2]]) w := by
  have e1 : (loadVar 26 ⟨g1, 0, none⟩).run Tryz.prog w = .ok (.agg #[v1]) w := run_loadVar_row w g1 26 26 #[v1] (0, 0) _ hg1 Tryz.underlying26 (by kernel_rfl) (by kernel_rfl)
  have e2 : (loadVar 26 ⟨g2, 0, none⟩).run Tryz.prog w = .ok (.agg #[v2]) w := run_loadVar_row w g2 26 26 #[v2] (0, 0) _ hg2 Tryz.underlying26 (by kernel_rfl) (by kernel_rfl)
  have hp' : tmps[p]?.getD undef = .pointer (some ⟨g1, 0, none⟩) := by simpa using hp
  have hq' : tmps[q]?.getD undef = .pointer (some ⟨g2, 0, none⟩) := by simpa using hq
  simp only [results, h]
  simp [Sem.run_bind, Result.andThen, hp', hq', asAddr, e1, e2]
theorem res_cct {fn : Func} {p q u : Tmp} (h : fn.results = #[.cell p 26, .cell q 26, .tmp u]) (tmps : Array Value) (w : World) (g1 g2 : Nat) (v1 v2 x : Value) (hp : tmps.getD p undef = .pointer (some ⟨g1, 0, none⟩)) (hq : tmps.getD q undef = .pointer (some ⟨g2, 0, none⟩)) (hu : tmps.getD u undef = x) (hg1 : Blk w g1 26 #[v1]) (hg2 : Blk w g2 26 #[v2]) :
    (results fn tmps).run Tryz.prog w = .ok (.tuple #[.agg #[v1], .agg #[v2], x]) w := by
  have e1 : (loadVar 26 ⟨g1, 0, none⟩).run Tryz.prog w = .ok (.agg #[v1]) w := run_loadVar_row w g1 26 26 #[v1] (0, 0) _ hg1 Tryz.underlying26 (by kernel_rfl) (by kernel_rfl)
  have e2 : (loadVar 26 ⟨g2, 0, none⟩).run Tryz.prog w = .ok (.agg #[v2]) w := run_loadVar_row w g2 26 26 #[v2] (0, 0) _ hg2 Tryz.underlying26 (by kernel_rfl) (by kernel_rfl)
  subst hu
  have hp' : tmps[p]?.getD undef = .pointer (some ⟨g1, 0, none⟩) := by simpa using hp
  have hq' : tmps[q]?.getD undef = .pointer (some ⟨g2, 0, none⟩) := by simpa using hq
  simp only [results, h]
  simp [Sem.run_bind, Result.andThen, hp', hq', asAddr, e1, e2]
/-- Four boxes. -/
structure Q4 (w W : World) (va vb vq vr : Value) : Prop where
  b1 : Blk W w.heap.size 26 #[va]
  b2 : Blk W (w.heap.size + 1) 26 #[vb]
  b3 : Blk W (w.heap.size + 1 + 1) 26 #[vq]
  b4 : Blk W (w.heap.size + 1 + 1 + 1) 26 #[vr]
  bel : Below w.heap.size w W
theorem Q4.below {w W W' : World} {va vb vq vr : Value} {B : Nat} (h : Q4 w W va vb vq vr) (hb : Below B W W') (hB : w.heap.size + 4 ≤ B) : Q4 w W' va vb vq vr :=
  ⟨h.b1.below hb (by omega), h.b2.below hb (by omega), h.b3.below hb (by omega), h.b4.below hb (by omega), h.bel.trans (hb.mono (by omega))⟩
theorem Q4.new (w : World) (va vb vq vr : Value) : Q4 w ((((w.alloc (.cells #[va] 26)).alloc (.cells #[vb] 26)).alloc (.cells #[vq] 26)).alloc (.cells #[vr] 26)) va vb vq vr := by
  have k1 := (((Blk.new w 26 #[va]).alloc (.cells #[vb] 26)).alloc (.cells #[vq] 26)).alloc (.cells #[vr] 26)
  have k2 := ((Blk.new (w.alloc (.cells #[va] 26)) 26 #[vb]).alloc (.cells #[vq] 26)).alloc (.cells #[vr] 26)
  have k3 := (Blk.new ((w.alloc (.cells #[va] 26)).alloc (.cells #[vb] 26)) 26 #[vq]).alloc (.cells #[vr] 26)
  have k4 := Blk.new (((w.alloc (.cells #[va] 26)).alloc (.cells #[vb] 26)).alloc (.cells #[vq] 26)) 26 #[vr]
  simp only [World.size_alloc] at k2 k3 k4
  exact ⟨k1, k2, k3, k4, ((((Below.refl _ w).alloc (Nat.le_refl _) _).alloc (by simp) _).alloc (by simp; omega) _).alloc (by simp; omega) _⟩
theorem trim_n (Bd : Nat) (W : World) (v : Value) (us : List Nat) (S : Nat) (ho : OU Bd W v us) (hw : Wrd us) (hv : wv us = S) (hl : us.length ≤ 10000) :
    Calls Tryz.prog 53 #[v] W fun e w' => ∃ x y z, e = .returned (.agg #[.slice x y z]) ∧ IsN w' (.agg #[.slice x y z]) S ∧ Fresh Bd (.agg #[.slice x y z]) ∧ Below W.heap.size W w' := by
  obtain ⟨a, cap, rfl, hcap, ha⟩ := ou_form ho
  have hur : UR W a us := by
    obtain ⟨a', c', he, _, h⟩ := ou_ur ho
    cases he
    exact h
  have hf : us = [] ∨ ∃ g, a = some ⟨g, 0, none⟩ ∧ Bd ≤ g := by
    rcases ha with h | ⟨g, h⟩
    · exact .inl h
    · subst h
      exact .inr ⟨g, rfl, (ou_block ho).1⟩
  refine (trim_any a cap us W hur (by omega) hcap).mono ?_
  rintro e w' ⟨rfl, hb'⟩
  have h1 := isN_trim (hur.below hb' (Nat.le_refl _)) hw hcap hl
  rw [hv] at h1
  have hfr : Fresh Bd (.agg #[trimV a cap (tlen us us.length)]) := by
    unfold trimV
    split
    · exact fresh_zero _
    · rename_i hne
      rcases hf with h | ⟨g, h, hg⟩
      · subst h; exact absurd rfl hne
      · subst h
        intro ad n c he
        have h1 := congrArg (fun v => match v with | Value.agg xs => xs[0]? | _ => none) he
        simp at h1
        rw [← h1.1]
        exact hg
  obtain ⟨x, y, z, hx⟩ : ∃ x y z, trimV a cap (tlen us us.length) = .slice x y z := by
    unfold trimV; split
    · exact ⟨_, _, _, rfl⟩
    · exact ⟨_, _, _, rfl⟩
  rw [hx] at h1 hfr ⊢
  exact ⟨x, y, z, rfl, h1, hfr, hb'⟩
theorem shift_back (R up : Nat) (v : Value) (BY : Int) (w : World) (h : IsN w v R) (hR : R < 18446744073709551616 ^ 9000) (hup : up ≤ 63) (hBY : BY = -(up : Int)) :
    Calls Tryz.prog 68 #[v, .int .i64 BY] w (GaveF (R / 2 ^ up) w) := by
  by_cases h0 : up = 0
  · subst h0
    have h1 := shu_any R 0 v BY w h hR (by omega) (by omega)
    rw [Nat.pow_zero, Nat.mul_one] at h1
    rw [Nat.pow_zero, Nat.div_one]
    exact h1
  · exact shn_any R up v BY w h (by omega) (by omega) hBY
def DivLIs (M N : Nat) (w : World) (e : Ending) (w' : World) : Prop :=
  ∃ x y z x' y' z', e = .returned (.tuple #[.agg #[.slice x y z], .agg #[.slice x' y' z']]) ∧ IsN w' (.agg #[.slice x y z]) (M / N) ∧ IsN w' (.agg #[.slice x' y' z']) (M % N) ∧ Below w.heap.size w w'
set_option maxRecDepth 100000 in
set_option maxHeartbeats 4000000 in
theorem divl_any (M N : Nat) (va vb : Value) (w : World) (ha : IsN w va M) (hb : IsN w vb N) (hM : M < 18446744073709551616 ^ 8000) (hN : 18446744073709551616 ≤ N) (hle : N ≤ M) :
    Calls Tryz.prog 106 #[va, vb] w (DivLIs M N w) := by
  obtain ⟨a1, c1, us, rfl, hc1, hu, hwu, hvu, hl1, _, hlast1, hnil1⟩ := isN_open 8000 ha hM
  have hb' := hb
  obtain ⟨a2, c2, vs, rfl, hc2, hv, hwv, hvv, hl2, hlast2, hnil2⟩ := hb'
  obtain ⟨n, hn⟩ : ∃ n, us.length = n := ⟨_, rfl⟩
  obtain ⟨j, hj⟩ : ∃ j, vs.length = j + 2 := ⟨vs.length - 2, by
    rcases Nat.lt_or_ge vs.length 2 with h | h
    · exfalso
      have h1 := wv_lt vs hwv
      have h2 := Nat.pow_le_pow_right (show 0 < 18446744073709551616 by decide) (show vs.length ≤ 1 by omega)
      rw [Nat.pow_one] at h2
      omega
    · omega⟩
  have hmn : j + 2 ≤ n := by
    rcases Nat.lt_or_ge n (j + 2) with h | h
    · exfalso
      have := wv_len_lt hwu (show us.length < vs.length by omega) (hlast2 (fun e => by rw [e] at hj; simp at hj))
      omega
    · exact h
  have hvne : vs ≠ [] := fun e => by rw [e] at hj; simp at hj
  obtain ⟨t, ht⟩ : ∃ t, vs.getD (j + 1) 0 = t := ⟨_, rfl⟩
  have ht0 : t ≠ 0 := by
    have := hlast2 hvne
    rw [hj, show j + 2 - 1 = j + 1 by omega, ht] at this
    exact this
  have htw : t < 18446744073709551616 := by rw [← ht]; exact getW hwv _
  have hbl := isLen_bitLen t t (Nat.le_refl _) htw
  obtain ⟨up, hup⟩ : ∃ up : Nat, 64 - (Lib.bitLen t : Int) = (up : Int) := ⟨64 - Lib.bitLen t, by
    have : Lib.bitLen t ≤ 64 := by
      rcases Nat.lt_or_ge 64 (Lib.bitLen t) with h | h
      · exfalso
        have h1 := hbl.le (by omega)
        have h2 : 2 ^ 64 ≤ 2 ^ (Lib.bitLen t - 1) := Nat.pow_le_pow_right (by omega) (by omega)
        omega
      · exact h
    omega⟩
  have hup63 : up ≤ 63 := by
    have : 0 < Lib.bitLen t := by
      rcases Nat.eq_zero_or_pos (Lib.bitLen t) with h | h
      · exfalso; have := hbl.lt; rw [h] at this; simp at this; omega
      · exact h
    omega
  have hnb := norm_bounds (k := j + 1) (up := up) hwv (by omega) (by rw [ht]; exact ht0) (by rw [ht]; exact hup) hup63
  rw [hvv] at hnb
  obtain ⟨adb, rfl, hadbl, hct⟩ := hv.at (k := j + 1) (by omega) (Nat.le_refl _)
  rw [ht] at hct
  obtain ⟨W4, hW4⟩ : ∃ W4, ((((w.alloc (.cells #[.slice a1 us.length c1] 26)).alloc (.cells #[.slice (some adb) vs.length c2] 26)).alloc (.cells #[.slice none 0 0] 26)).alloc (.cells #[.slice none 0 0] 26)) = W4 := ⟨_, rfl⟩
  have hq := Q4.new w (.slice a1 us.length c1) (.slice (some adb) vs.length c2) (.slice none 0 0) (.slice none 0 0)
  have hsz4 : W4.heap.size = w.heap.size + 4 := by rw [← hW4]; simp
  rw [hW4] at hq
  obtain ⟨m, hm⟩ : ∃ m, j + 2 = m := ⟨_, rfl⟩
  obtain ⟨l, hl⟩ : ∃ l, j + 1 = l := ⟨_, rfl⟩
  have hNb : IsN W4 (.agg #[.slice (some adb) m c2]) N := by
    have := hb.below hq.bel (Nat.le_refl _)
    rw [hj, hm] at this
    exact this
  have hMa : IsN W4 (.agg #[.slice a1 n c1]) M := by
    have := ha.below hq.bel (Nat.le_refl _)
    rw [hn] at this
    exact this
  have q1 : W4.cell? ⟨w.heap.size + 1, 0, none⟩ = some (.slice (some adb) m c2) := by
    have := hq.b2.cell 0
    rw [hj, hm] at this
    exact this
  have hct4 : W4.cell? (adb.add l) = some (.int .u64 (t : Int)) := by rw [← hl]; exact (hq.bel.cell (by rw [add_block]; exact hadbl)).trans hct
  obtain ⟨T, hT⟩ : ∃ T : Int, (t : Int) = T := ⟨_, rfl⟩
  have HLz : Hid (Calls Tryz.prog 95 #[.int .u64 T] W4 fun e w' => e = .returned (.int .i64 (up : Int)) ∧ w' = W4) := Lib.hid (by
    have := Tryz.bits_LeadingZeros64 (t : Int) W4 (by omega) (by omega)
    rw [Int.toNat_natCast, hup, hT] at this
    exact this)
  rw [hT] at hct4
  rw [hn] at hq
  rw [hj, hm] at hq
  rw [hn, hj, hm] at hW4
  rw [hn, hj, hm]
  have Hq := Lib.hid hq
  have HMa := Lib.hid hMa
  have hup0 : (0 : Int) ≤ (up : Int) := by omega
  have hml : (m : Int) - 1 = (l : Int) := by omega
  have hwl : IntKind.i64.wrap (l : Int) = (l : Int) := IntWalk.i64_in _ ⟨by omega, by omega⟩
  have hl0 : (0 : Int) ≤ (l : Int) := by omega
  have hlm : (l : Int) < (m : Int) := by omega
  have hNw : N < 18446744073709551616 ^ 9000 := Nat.lt_of_le_of_lt hle (Nat.lt_of_lt_of_le hM (w64_le (j := 8000) (k := 9000) (by omega)))
  have hMw : M < 18446744073709551616 ^ 9000 := Nat.lt_of_lt_of_le hM (w64_le (j := 8000) (k := 9000) (by omega))
  have HS1 := Lib.hid (shu_any N up (.agg #[.slice (some adb) m c2]) (up : Int) W4 hNb hNw (by omega) rfl)
  have HMn : Hid (M < 18446744073709551616 ^ n) := Lib.hid (by rw [← hvu, ← hn]; exact wv_lt us hwu)
  have HNm : Hid (18446744073709551616 ^ (m - 1) ≤ N) := Lib.hid (by
    have h1 := wv_ge hvne (hlast2 hvne)
    rw [hvv, hj, hm] at h1
    exact h1)
  have Hnb : Hid (18446744073709551616 ^ l ≤ N * 2 ^ up ∧ N * 2 ^ up < 18446744073709551616 ^ m) := Lib.hid (by rw [← hl, ← hm]; exact hnb)
  have HMw := Lib.hid hMw
  have Hjm := Lib.hid (And.intro hm (And.intro hl hmn))
  have hnl : n ≤ 8000 := by omega
  have HM0 : Hid (0 < M) := Lib.hid (by omega)
  clear ha hb hu hwu hvu hlast1 hnil1 hv hwv hvv hlast2 hnil2 hl1 hl2 hc1 hc2 hnb hct hadbl ht ht0 htw hbl hup hT hn hj hvne hNb hMa hq hNw hMw hM hN hle
  go_enter Tryz.func106, Tryz.ntmps106
  go_wp2_with fail
  refine HLz.out.mono ?_
  rintro e w5 ⟨rfl, rfl⟩
  clear HLz hct4
  go_wp2_with fail
  refine HS1.out.mono ?_
  rintro e W5 ⟨v5, rfl, hN5, hF5, hb5⟩
  obtain ⟨bx, bz, ws, rfl, hcz, hws, hww, hwv, hwl2, hwlast, hwnil⟩ := hN5
  have hwsl : ws.length = m := by
    have := words_len (k := l) hww hwlast hwv Hnb.out.1 (by rw [show l + 1 = m by have := Hjm.out; omega]; exact Hnb.out.2)
    have := Hjm.out
    omega
  rw [hwsl] at hcz ⊢
  rw [hsz4] at hb5 hF5
  have hq5 := Hq.out.below hb5 (by omega)
  have q5 : W5.cell? ⟨w.heap.size, 0, none⟩ = some (.slice a1 n c1) := hq5.b1.cell 0
  have HM5 := Lib.hid (HMa.out.below hb5 (by omega))
  have Hq5 := Lib.hid hq5
  have Hws := Lib.hid (And.intro hws (And.intro hww (And.intro hwv hwsl)))
  obtain ⟨B, hB⟩ : ∃ B, W5.heap.size = B := ⟨_, rfl⟩
  have hBw : w.heap.size + 4 ≤ B := by have := hb5.size; omega
  have hfld := field_words bx m bz
  obtain ⟨L, hL⟩ : ∃ L, n + 1 = L := ⟨_, rfl⟩
  have hnL : (n : Int) + 1 = (L : Int) := by omega
  have hL9 : L ≤ 8001 := by omega
  clear HS1 hb5 hq5 hws hww hwv hwsl hwl2 hwlast hwnil hF5 q1 HMa Hq hcz
  go_wp2_with (at_make; refine make_u rfl (.tmp 30) rfl B _ _ L rfl rfl (by omega) (by omega) B hB ?_)
  intro W6 hr6 hb6 _
  rw [← List.map_replicate] at hr6
  have HR6 := Lib.hid hr6
  have HB6 := Lib.hid hb6
  have q6 : W6.cell? ⟨w.heap.size, 0, none⟩ = some (.slice a1 n c1) := (Hq5.out.below hb6 hBw).b1.cell 0
  have HS2 := Lib.hid (shu_any M up (.agg #[.slice a1 n c1]) (up : Int) W6 (HM5.out.below hb6 (by omega)) HMw.out (by omega) rfl)
  clear hr6 hb6 q5 hfld
  go_wp2_with fail
  refine HS2.out.mono ?_
  rintro e W7 ⟨v7, rfl, hN7, _, hb7⟩
  obtain ⟨ax, az, xs0, rfl, haz, hxs, hxw, hxv, hxl, hxlast, hxnil⟩ := hN7
  obtain ⟨ay, hay⟩ : ∃ ay, xs0.length = ay := ⟨_, rfl⟩
  have hayL : ay ≤ L := by
    rcases Nat.lt_or_ge L ay with h | h
    · exfalso
      have h1 := wv_ge (us := xs0) (fun e => by rw [e] at hay; simp at hay; omega) (hxlast (fun e => by rw [e] at hay; simp at hay; omega))
      have h2 := w64_le (j := n + 1) (k := xs0.length - 1) (by omega)
      have h3 : M * 2 ^ up < 18446744073709551616 ^ n * 2 ^ up := Nat.mul_lt_mul_of_pos_right HMn.out (Nat.two_pow_pos _)
      have h4 : 18446744073709551616 ^ n * 2 ^ up ≤ 18446744073709551616 ^ n * 18446744073709551616 := Nat.mul_le_mul_left _ (by
        have h5 : 2 ^ up ≤ 2 ^ 63 := Nat.pow_le_pow_right (by decide) hup63
        have h6 : (2 : Nat) ^ 63 ≤ 18446744073709551616 := by decide
        exact Nat.le_trans h5 h6)
      rw [← Nat.pow_succ] at h4
      rw [hxv] at h1
      omega
    · exact h
  have hr7 := HR6.out.kept (grown_below hb7 (Nat.le_refl _)) (.inr (by simp [Value.ownBlock]))
  have HR7 := Lib.hid hr7
  have HG7 := Lib.hid (own_whole hr7)
  have HB7 : Hid (Below B W5 W7) := Lib.hid (HB6.out.trans (hb7.mono (by have := HB6.out.size; omega)))
  have HX0 := Lib.hid (And.intro hxw (And.intro hxv hay))
  have Hxs := Lib.hid hxs
  rw [hay] at haz ⊢
  have hfld2 := field_words ax ay az
  have hxne : xs0 ≠ [] := fun e => by
    rw [e] at hxv
    have h1 := HM0.out
    have h2 := Nat.mul_pos h1 (Nat.two_pow_pos up)
    rw [← hxv] at h2
    simp [wv] at h2
  obtain ⟨adx, rfl, hadx, _⟩ := hxs 0 (List.length_pos_iff.2 hxne)
  obtain ⟨W8, hcopy, hg8, hb8⟩ : ∃ W8, (Builtin.copy_ #[24, 24] 3 #[.slice (some ⟨B, 0, none⟩) L L, .slice (some adx) ay az]).run Tryz.prog W7 = .ok (.int .i64 (ay : Int)) W8 ∧ W8.heap[B]? = some (.cells (splice ((List.replicate L 0).map uv) 0 (xs0.map uv)).toArray 22 (0, 0)) ∧ Below B W5 W8 := by
    have hl0 : (xs0.map uv).length = ay := by rw [List.length_map, HX0.out.2.2]
    have h1 := run_copy_row (P := Tryz.prog) W7 24 24 3 22 B 0 L L adx ay az _ 22 (xs0.map uv) Tryz.underlying24 (by kernel_rfl) HG7.out (by rw [hl0]; exact (Nat.min_eq_left hayL).symm) (fun k v hv => by
      rw [List.getElem?_map, Option.map_eq_some_iff] at hv
      obtain ⟨u, hu', rfl⟩ := hv
      obtain ⟨ad', hade, _, hcl⟩ := Hxs.out k (List.getElem?_eq_some_iff.1 hu').1
      cases hade
      rw [hcl, List.getD_eq_getElem?_getD, hu']
      rfl) (by rw [hl0]; simp; omega) (uv_one xs0)
    obtain ⟨cs', hcs'⟩ : ∃ cs', (((List.replicate L 0).map uv).toArray.toList.take 0 ++ xs0.map uv ++ ((List.replicate L 0).map uv).toArray.toList.drop (0 + (xs0.map uv).length)).toArray = cs' := ⟨_, rfl⟩
    rw [hcs', hl0] at h1
    refine ⟨W7.setRow B cs', h1, (setRow_heap W7 B _ cs' _ _ HG7.out).trans ?_, below_setRow HB7.out (Nat.le_refl _) _⟩
    rw [← hcs']
    simp [splice]
  clear HS2 hb7 hr7 hxs hxw hxv hxl hxlast hxnil hay HR6 HB6 q6 hxne hadx
  obtain ⟨xs, hxsd⟩ : ∃ xs, xs0 ++ List.replicate (L - ay) 0 = xs := ⟨_, rfl⟩
  have hxsl : xs.length = L := by rw [← hxsd, List.length_append, List.length_replicate, HX0.out.2.2]; omega
  have HR8 : Hid (W8.ownsRow B 22 1 (.slice (some ⟨B, 0, none⟩) L L) L (xs.map uv)) := Lib.hid (by
    refine own_swap HR7.out (by rw [List.length_map, hxsl]) ?_
    have h1 := hg8
    have e : splice ((List.replicate L 0).map uv) 0 (xs0.map uv) = xs.map uv := by
      unfold splice
      rw [← hxsd, List.take_zero, List.nil_append, List.map_append, Nat.zero_add, List.length_map, HX0.out.2.2, ← List.map_drop, List.drop_replicate]
    rw [e] at h1
    exact h1)
  have HX : Hid (wv xs = M * 2 ^ up ∧ Wrd xs ∧ xs.length = L) := Lib.hid ⟨by rw [← hxsd, wv_append, wv_zeros, Nat.mul_zero, Nat.add_zero, HX0.out.2.1], by
    intro u hu
    rw [← hxsd] at hu
    rcases List.mem_append.1 hu with hu | hu
    · exact HX0.out.1 u hu
    · exact wrd_zeros _ u hu, hxsl⟩
  obtain ⟨no, hno⟩ : ∃ no, L - m = no := ⟨_, rfl⟩
  have hnm : no + m = L := by have := Hjm.out; omega
  have hno' : (L : Int) - (m : Int) = (no : Int) := by omega
  obtain ⟨B2, hB2⟩ : ∃ B2, W8.heap.size = B2 := ⟨_, rfl⟩
  have hBB : B < B2 := by rw [← hB2]; exact (Array.getElem?_eq_some_iff.1 hg8).1
  have HB8 := Lib.hid hb8
  have hno0 : 0 < no := by have := Hjm.out; omega
  have hwno : IntKind.i64.wrap ((no : Int) - 1) = (no : Int) - 1 := IntWalk.i64_in _ ⟨by omega, by omega⟩
  clear hg8 hb8 hxsd hxsl HR7 HG7 HB7 HX0 Hxs hno haz hayL
  go_wp2_with (at_make; refine make_u rfl (.tmp 42) rfl B2 _ _ no rfl rfl (by omega) (by omega) B2 hB2 ?_)
  intro W9 hr9 hb9 _
  rw [← List.map_replicate] at hr9
  have hg9 := grown_below hb9 (by omega)
  have HA0 : Hid (W9.ownsRow B 22 1 (.slice (some ⟨B, 0, none⟩) L L) L (xs.map uv)) := Lib.hid (HR8.out.kept hg9 (.inr (by simp [Value.ownBlock])))
  have HO0 : Hid (W9.ownsRow B2 22 1 (.slice (some ⟨B2, 0, none⟩) no no) no ((List.replicate no 0 ++ []).map uv)) := Lib.hid (by rw [List.append_nil]; exact hr9)
  have HB9 : Hid (Below B W5 W9) := Lib.hid (HB8.out.trans (hb9.mono (by omega)))
  obtain ⟨X, hX⟩ : ∃ X, M * 2 ^ up = X := ⟨_, rfl⟩
  obtain ⟨V, hV⟩ : ∃ V, N * 2 ^ up = V := ⟨_, rfl⟩
  have HD0 : Hid (Dl X V m L no xs []) := Lib.hid (by
    have h1 := dl_init (M := M) (N := N) (up := up) (n := n) (m := m) (no := no) (xs := xs) HX.out.2.1 (by rw [HX.out.2.2]; omega) HX.out.1 HMn.out HNm.out (by omega) (by omega)
    rw [hX, hV, hL] at h1
    exact h1)
  have HXV := Lib.hid (And.intro hX hV)
  have HVb : Hid (0 < V ∧ V ≤ 18446744073709551616 ^ m) := Lib.hid (by
    rw [← hV]
    have h1 := Hnb.out
    have h2 := Nat.pow_pos (n := l) (show 0 < 18446744073709551616 by decide)
    exact ⟨by omega, by omega⟩)
  clear hr9 hb9 hg9 HR8 HB8 hX hV HX hno'
  go_wp2_with fail
  go_loopw [10] (fun iv wr => ∃ (k : Nat) (z : Int) (xs os : List Nat), k ≤ no ∧ z = (k : Int) - 1 ∧ iv = .int .i64 z ∧ Hid (Dl X V m L k xs os) ∧ Hid (wr.ownsRow B 22 1 (.slice (some ⟨B, 0, none⟩) L L) L (xs.map uv)) ∧ Hid (wr.ownsRow B2 22 1 (.slice (some ⟨B2, 0, none⟩) no no) no ((List.replicate k 0 ++ os).map uv)) ∧ Hid (Below B W5 wr)) (fun iv _ => (intOf iv + 1).toNat)
  case atStart => exact ⟨no, _, xs, [], Nat.le_refl _, rfl, rfl, HD0, HA0, HO0, HB9⟩
  case round =>
    clear HD0 HA0 HO0 HB9
    obtain ⟨k, z, xs, os, hk, hz, rfl, hD, hA, hO, hbel⟩ := hrel
    cases k with
    | zero =>
      have hzn : ¬ (0 : Int) ≤ z := by omega
      clear hz
      obtain ⟨hqv, hrv⟩ : M / N = wv os ∧ M % N = wv xs / 2 ^ up := by
        have h1 := hD.out.eq
        have h2 := hD.out.lt
        rw [List.drop_zero, ← HXV.out.2] at h2
        rw [Nat.pow_zero, Nat.mul_one, ← HXV.out.1, ← HXV.out.2] at h1
        refine div_shift (Nat.two_pow_pos up) ?_ h1 h2
        rcases Nat.eq_zero_or_pos N with h | h
        · rw [h, Nat.zero_mul] at h2; omega
        · exact h
      have hosl : os.length = no := by
        have h1 := hO.out.1
        rw [List.length_map, List.replicate_zero, List.nil_append] at h1
        omega
      have hOU1 : OU B2 wr (.slice (some ⟨B2, 0, none⟩) no no) os := by
        have h1 := hO.out
        rw [List.replicate_zero, List.nil_append] at h1
        unfold OU
        rw [hosl]
        exact h1
      have HT1 := Lib.hid (trim_n B2 wr _ os (M / N) hOU1 hD.out.wo hqv.symm (by omega))
      have HT2 : Hid (∀ wx, Below wr.heap.size wr wx → Calls Tryz.prog 53 #[.slice (some ⟨B, 0, none⟩) L L] wx fun e w' => ∃ x y z, e = .returned (.agg #[.slice x y z]) ∧ IsN w' (.agg #[.slice x y z]) (wv xs) ∧ Fresh B (.agg #[.slice x y z]) ∧ Below wx.heap.size wx w') := Lib.hid (fun wx hb => by
        have h1 := hA.out.kept (grown_below hb (Nat.le_refl _)) (.inr (by simp [Value.ownBlock]))
        have h2 : OU B wx (.slice (some ⟨B, 0, none⟩) L L) xs := by unfold OU; rw [hD.out.len]; exact h1
        exact trim_n B wx _ xs (wv xs) h2 hD.out.wx rfl (by rw [hD.out.len]; omega))
      have Hrv := Lib.hid (And.intro hrv (show wv xs < 18446744073709551616 ^ 9000 by
        have h1 := wv_lt xs hD.out.wx
        rw [hD.out.len] at h1
        exact Nat.lt_of_lt_of_le h1 (w64_le (k := 9000) (by omega))))
      have HBz := Lib.hid hbel.out
      have hneg : IntKind.i64.wrap (-(up : Int)) = -(up : Int) := IntWalk.i64_in _ ⟨by omega, by omega⟩
      clear hqv hrv hosl hOU1 hD hA hO hbel
      go_wp2_with fail
      refine HT1.out.mono ?_
      rintro e w1 ⟨x1, y1, z1, rfl, hN1, hF1, hb1⟩
      have HT2' := Lib.hid (HT2.out w1 hb1)
      have HN1 := Lib.hid hN1
      have HF1 := Lib.hid (hF1.mono (show B ≤ B2 by omega))
      have HB1 := Lib.hid (HBz.out.trans (hb1.mono (by have := HBz.out.size; omega)))
      clear HT1 HT2 hN1 hF1 hb1 HBz
      go_wp2_with fail
      refine HT2'.out.mono ?_
      rintro e w2 ⟨x2, y2, z2, rfl, hN2, _, hb2⟩
      have HSb := Lib.hid (shift_back (wv xs) up (.agg #[.slice x2 y2 z2]) (-(up : Int)) w2 hN2 Hrv.out.2 (by omega) rfl)
      have HN2 := Lib.hid (HN1.out.below hb2 (Nat.le_refl _))
      have HB2 := Lib.hid (HB1.out.trans (hb2.mono (by have := HB1.out.size; omega)))
      clear HT2' hN2 hb2 HN1 HB1
      go_wp2_with fail
      refine HSb.out.mono ?_
      rintro e w3 ⟨v3, rfl, hN3, hF3, hb3⟩
      obtain ⟨x3, y3, z3, rfl⟩ := isN_form hN3
      rw [← Hrv.out.1] at hN3
      have hB3 := HB2.out.trans (hb3.mono (by have := HB2.out.size; omega))
      have hq3 := Hq5.out.below hB3 hBw
      have hN2' := HN2.out.below hb3 (Nat.le_refl _)
      have hw2 : B ≤ w2.heap.size := by have := HB2.out.size; omega
      have s1 := hN2'.set (b := w.heap.size + 1 + 1) (x := .slice x1 y1 z1) HF1.out (by omega)
      have s2 := s1.set (b := w.heap.size + 1 + 1 + 1) (x := .slice x3 y3 z3) HF1.out (by omega)
      have s3 := hN3.set (b := w.heap.size + 1 + 1) (x := .slice x1 y1 z1) (hF3.mono hw2) (by omega)
      have s4 := s3.set (b := w.heap.size + 1 + 1 + 1) (x := .slice x3 y3 z3) (hF3.mono hw2) (by omega)
      have k3 := hq3.b3
      have k4 := hq3.b4
      have k3c := k3.cell 0; have k3f := k3.frozen 0; have k4c := k4.cell 0; have k4f := k4.frozen 0
      simp only [List.getElem?_toArray, List.getElem?_cons_zero] at k3c k4c
      have j3 : Blk ((w3.setCell ⟨w.heap.size + 1 + 1, 0, none⟩ (.slice x1 y1 z1)).setCell ⟨w.heap.size + 1 + 1 + 1, 0, none⟩ (.slice x3 y3 z3)) (w.heap.size + 1 + 1) 26 #[.slice x1 y1 z1] := (k3.set_ 0 (.slice x1 y1 z1)).far (p := ⟨w.heap.size + 1 + 1 + 1, 0, none⟩) (by show w.heap.size + 1 + 1 ≠ w.heap.size + 1 + 1 + 1; omega) _
      have k4' : Blk (w3.setCell ⟨w.heap.size + 1 + 1, 0, none⟩ (.slice x1 y1 z1)) (w.heap.size + 1 + 1 + 1) 26 #[.slice none 0 0] := k4.far (p := ⟨w.heap.size + 1 + 1, 0, none⟩) (by show w.heap.size + 1 + 1 + 1 ≠ w.heap.size + 1 + 1; omega) _
      have k4c' := k4'.cell 0; have k4f' := k4'.frozen 0
      simp only [List.getElem?_toArray, List.getElem?_cons_zero] at k4c'
      have j4 := k4'.set_ 0 (.slice x3 y3 z3)
      have HJ := Lib.hid (And.intro j3 j4)
      have HR : Hid (DivLIs M N w (.returned (.tuple #[.agg #[.slice x1 y1 z1], .agg #[.slice x3 y3 z3]])) ((w3.setCell ⟨w.heap.size + 1 + 1, 0, none⟩ (.slice x1 y1 z1)).setCell ⟨w.heap.size + 1 + 1 + 1, 0, none⟩ (.slice x3 y3 z3))) := Lib.hid ⟨x1, y1, z1, x3, y3, z3, rfl, s2, s4, (hq3.bel.setCell (p := ⟨w.heap.size + 1 + 1, 0, none⟩) (by show w.heap.size ≤ w.heap.size + 1 + 1; omega) _).setCell (p := ⟨w.heap.size + 1 + 1 + 1, 0, none⟩) (by show w.heap.size ≤ w.heap.size + 1 + 1 + 1; omega) _⟩
      clear HSb hN3 hF3 hb3 hB3 hq3 hN2' s1 s2 s3 s4 k3 k4 j3 j4 k4' HN2 HB2 HF1 Hrv
      go_wp2_with fail
      refine bodyPost_ret (res_cc rfl _ _ (w.heap.size + 1 + 1) (w.heap.size + 1 + 1 + 1) (.slice x1 y1 z1) (.slice x3 y3 z3) rfl rfl HJ.out.1 HJ.out.2) rfl ?_
      exact HR.out
    | succ i =>
      obtain rfl : z = (i : Int) := by omega
      clear hz
      obtain ⟨hjm, _, _⟩ := Hjm.out
      have hiL : i + (m + 1) ≤ L := by omega
      obtain ⟨hx0, hxp, hxlt, _⟩ := dl_part hD.out hiL HVb.out.2
      obtain ⟨hwsu, hwsw, hwsv, hwsl⟩ := Hws.out
      obtain ⟨adw, rfl, hadwl, _⟩ := hwsu.at (k := 0) (by omega) (Nat.le_refl _)
      rw [hB] at hadwl
      obtain ⟨P, hP⟩ : ∃ P, wv (xs.drop i) = P := ⟨_, rfl⟩
      obtain ⟨pl, hpl⟩ : ∃ pl, m + 1 = pl := ⟨_, rfl⟩
      obtain ⟨e1, he1⟩ : ∃ e1, i + pl = e1 := ⟨_, rfl⟩
      have him : (i : Int) + (m : Int) + 1 = (e1 : Int) := by omega
      have hwim : IntKind.i64.wrap ((i : Int) + (m : Int)) = (i : Int) + (m : Int) := IntWalk.i64_in _ ⟨by omega, by omega⟩
      have hwe1 : IntKind.i64.wrap (e1 : Int) = (e1 : Int) := IntWalk.i64_in _ ⟨by omega, by omega⟩
      have hcut : ∀ wx, (Instr.slice 24 (.slice (some ⟨B, 0, none⟩) L L) (some (.int .i64 (i : Int))) (some (.int .i64 (e1 : Int))) none).run Tryz.prog wx = .ok (.slice (some ⟨B, i, none⟩) pl (L - i)) wx := fun wx => cut_wh B i pl L L (by omega) (Nat.le_refl _) (i : Int) (e1 : Int) rfl (by rw [he1]) (by omega) wx
      have hcellA : ∀ q, q < pl → B < wr.heap.size ∧ wr.cell? ((⟨B, i, none⟩ : Addr).add q) = some (.int .u64 ((((xs.drop i).take pl).getD q 0 : Nat) : Int)) := fun q hq => by
        have h1 := ou_cell hA.out (i + q) (by rw [hD.out.len]; omega)
        refine ⟨(ou_block hA.out).2.1, ?_⟩
        rw [add_off]
        rw [add_zero_off] at h1
        have e : ((xs.drop i).take pl).getD q 0 = xs.getD (i + q) 0 := by rw [List.getD_eq_getElem?_getD, List.getD_eq_getElem?_getD, List.getElem?_take, if_pos hq, List.getElem?_drop]
        rw [h1, e]
      have hcellW : ∀ wx : World, Below B W5 wx → ∀ q, q < ws.length → ∃ ad, (some adw : Option Addr) = some ad ∧ ad.block < B ∧ wx.cell? (ad.add q) = some (.int .u64 ((ws.getD q 0 : Nat) : Int)) := fun wx hbx q hq => by
        obtain ⟨ad', h1, h2, h3⟩ := hwsu q hq
        cases h1
        rw [hB] at h2
        exact ⟨adw, rfl, h2, (hbx.cell (by rw [add_block]; exact h2)).trans h3⟩
      have hBwr : B ≤ wr.heap.size := by have := hbel.out.size; omega
      have hgs := guess_any ⟨B, i, none⟩ adw (L - i) bz j ((xs.drop i).take pl) ws wr (by rw [List.length_take, List.length_drop, hD.out.len]; omega) (by omega) (fun u hu => hD.out.wx u (List.mem_of_mem_drop (List.mem_of_mem_take hu))) hwsw (by omega)
        (fun q hq => by have := hcellA q (by omega); exact this) (fun q hq => by
          obtain ⟨ad', h1, h2, h3⟩ := hcellW wr hbel.out q (by omega)
          cases h1
          exact ⟨by omega, h3⟩) (by rw [hwsv, HXV.out.2]; exact HVb.out.1) (by rw [← hpl, hxp, hwsv, HXV.out.2, hP]; rw [hP] at hxlt; exact hxlt)
      rw [← hpl, hxp, hwsv, HXV.out.2, hP, show j + 3 = m + 1 by omega, hpl, hjm] at hgs
      have HGs := Lib.hid hgs
      have HTk : Hid (∀ (wx : World) (d : Nat), Below wr.heap.size wr wx → d < 18446744073709551616 → Calls Tryz.prog 129 #[.slice (some ⟨B, i, none⟩) pl (L - i), .slice (some adw) m bz, .int .u64 (d : Int)] wx (TakeIs B B L L xs ws i d wx)) := Lib.hid (fun wx d hbx hd => by
        have h1 := take_any B B L L (L - i) xs ws (some adw) bz i d wx (hA.out.kept (grown_below hbx (Nat.le_refl _)) (.inr (by simp [Value.ownBlock]))) hD.out.wx hwsw hd (hcellW wx (hbel.out.trans (hbx.mono hBwr))) (by omega) (by omega)
        rw [hwsl, hpl] at h1
        exact h1)
      have HGv : Hid (∀ (wx : World) (ys : List Nat) (cc : Nat), Below B W5 wx → ys.length = pl → Wrd ys → wx.ownsRow B 22 1 (.slice (some ⟨B, 0, none⟩) L L) L ((midl xs i ys pl).map uv) → Calls Tryz.prog 130 #[.slice (some ⟨B, i, none⟩) pl cc, .slice (some adw) m bz] wx (GiveIs B B L L (midl xs i ys pl) ws i wx)) := Lib.hid (fun wx ys cc hbx hyl hyw hr => by
        have h1 := give_any B B L L cc (midl xs i ys pl) ws (some adw) bz i wx hr (midl_wrd hD.out.wx hyw) hwsw (hcellW wx hbx) (by omega) (by omega)
        rw [hwsl, hpl] at h1
        exact h1)
      have hi0 : (0 : Int) ≤ (i : Int) := by omega
      have HP := Lib.hid (And.intro hP (And.intro hpl (And.intro hwsv (And.intro hwsl (And.intro hxp hiL)))))
      have hino : (i : Int) < (no : Int) := by omega
      clear hgs hcellA hcellW hx0 hxp hxlt hwsu hwsw hwsv hwsl hadwl hP hpl he1 hiL hjm
      go_wp2_with fail
      refine HGs.out.mono ?_
      rintro e w1 ⟨d, rfl, hqd, hd, hb1⟩
      obtain ⟨DY, hDY⟩ : ∃ DY : Int, (d : Int) = DY := ⟨_, rfl⟩
      have HTk1 := Lib.hid (HTk.out w1 d hb1 hd)
      rw [hDY] at HTk1 ⊢
      have HO1 := Lib.hid (hO.out.kept (grown_below hb1 (Nat.le_refl _)) (.inr (by simp [Value.ownBlock])))
      have HB1 := Lib.hid (hbel.out.trans (hb1.mono hBwr))
      have HDY := Lib.hid (And.intro hDY (And.intro hqd hd))
      clear HGs HTk hb1 hqd hd hDY hA hO hbel hBwr
      go_wp2_with fail
      refine HTk1.out.mono ?_
      rintro e w2 ⟨bb, ys, rfl, hT, hr2, hg2⟩
      obtain ⟨BB, hBB'⟩ : ∃ BB : Int, (bb : Int) = BB := ⟨_, rfl⟩
      rw [hBB']
      have HC2 : Hid (Cr P V m d bb ys) := Lib.hid (by
        obtain ⟨hP, hpl, hwsv, hwsl, hxp, hiL⟩ := HP.out
        have h1 := hT.eq
        rw [hwsl, hxp, hP, List.take_of_length_le (by omega), hwsv, HXV.out.2, Nat.zero_add] at h1
        exact ⟨by rw [hT.len, hwsl], hT.wrd, hT.ble, HDY.out.2.1, HDY.out.2.2, h1⟩)
      have HR2 : Hid (w2.ownsRow B 22 1 (.slice (some ⟨B, 0, none⟩) L L) L ((midl xs i ys pl).map uv)) := Lib.hid (by
        obtain ⟨hP, hpl, hwsv, hwsl, hxp, hiL⟩ := HP.out
        rw [hwsl, hpl] at hr2
        exact hr2)
      have HO2 := Lib.hid (HO1.out.kept hg2.gro (.inr (by simp [Value.ownBlock]; omega)))
      have HB2 := Lib.hid (HB1.out.trans hg2.bel)
      have HDB : Hid (DY = (d : Int) ∧ BB = (bb : Int)) := Lib.hid ⟨HDY.out.1.symm, hBB'.symm⟩
      clear HTk1 hT hr2 hg2 hBB' HO1 HB1 HDY
      go_wp2_with fail
      go_loopw [12, 13] (fun dv bv wq => ∃ (d bb : Nat) (ys : List Nat) (DD BB : Int), dv = .int .u64 DD ∧ bv = .int .u64 BB ∧ Hid (DD = (d : Int) ∧ BB = (bb : Int)) ∧ Hid (Cr P V m d bb ys) ∧ Hid (wq.ownsRow B 22 1 (.slice (some ⟨B, 0, none⟩) L L) L ((midl xs i ys pl).map uv)) ∧ Hid (wq.ownsRow B2 22 1 (.slice (some ⟨B2, 0, none⟩) no no) no ((List.replicate (i + 1) 0 ++ os).map uv)) ∧ Hid (Below B W5 wq)) (fun dv _ _ => (intOf dv).toNat)
      case atStart => exact ⟨d, bb, ys, DY, BB, rfl, rfl, HDB, HC2, HR2, HO2, HB2⟩
      case round =>
        clear HDB HC2 HR2 HO2 HB2
        obtain ⟨d, bb, ys, DD, BB, rfl, rfl, hDB, hC, hR, hO, hbel⟩ := hrel
        obtain ⟨hDD, hBBe⟩ := hDB.out
        by_cases hb0 : bb = 0
        · subst hb0
          obtain rfl : BB = 0 := by rw [hBBe]; rfl
          obtain ⟨hP, hpl, hwsv, hwsl, hxp, hiL⟩ := HP.out
          obtain ⟨hce, hcl⟩ := cr_done hC.out HVb.out.1
          have hstep := dl_step hD.out hiL HVb.out.2 hC.out.len hC.out.wrd hC.out.dlt (by rw [hP]; exact hce) hcl
          rw [hpl] at hstep
          have HSt := Lib.hid hstep
          obtain ⟨cv, hcv, hf⟩ := row_at hO.out i (by omega)
          obtain ⟨hbg, _, _⟩ := ou_block hO.out
          have hset : (List.replicate (i + 1) 0 ++ os).set i d = List.replicate i 0 ++ (d :: os) := by
            rw [List.replicate_succ', List.append_assoc, List.set_append_right _ _ (by rw [List.length_replicate]; exact Nat.le_refl _), List.length_replicate, Nat.sub_self]; rfl
          have hO3 := ou_set hO.out i d (by omega)
          rw [hset, ← hDD] at hO3
          have HO3 := Lib.hid hO3
          have HR3 : Hid ((wr.setCell ⟨B2, i, none⟩ (.int .u64 DD)).ownsRow B 22 1 (.slice (some ⟨B, 0, none⟩) L L) L ((midl xs i ys pl).map uv)) := Lib.hid (hR.out.kept (row := some B2) ⟨rfl, rfl, rfl, by simp, fun k _ hk => Below.heap_setCell _ _ _ k (fun e => hk (by rw [e]))⟩ (.inr (by simp [Value.ownBlock]; omega)))
          have HB3 := Lib.hid (hbel.out.setCell (p := ⟨B2, i, none⟩) (by show B ≤ B2; omega) (.int .u64 DD))
          clear hstep hset hO3 hce hcl hP hpl hwsv hwsl hxp hiL hC hR hO hbel hDB hDD hBBe hbg HGv
          go_wp2_with fail
          go_roundw
          case rel => exact ⟨i, _, _, _, by omega, rfl, by go_num, HSt, HR3, HO3, HB3⟩
          case measure => simp [intOf] <;> omega
        · have hb1 : bb = 1 := by have := hC.out.ble; omega
          subst hb1
          obtain rfl : BB = 1 := by rw [hBBe]; rfl
          have hGv := HGv.out wr ys (L - i) hbel.out (by have := hC.out.len; have := HP.out.2.1; omega) hC.out.wrd hR.out
          have HGv1 := Lib.hid hGv
          clear hGv hBBe
          go_wp2_with fail
          refine HGv1.out.mono ?_
          rintro e w3 ⟨c, zs, rfl, hAd, hr3, hg3⟩
          obtain ⟨hP, hpl, hwsv, hwsl, hxp, hiL⟩ := HP.out
          have hxL : i + (m + 1) ≤ xs.length := by rw [hD.out.len]; exact hiL
          rw [hwsl] at hAd hr3
          have hpt := midl_part (ys := ys) hxL hC.out.len
          rw [hpl] at hpt
          obtain ⟨hd0, hC3⟩ := cr_step (xs := (midl xs i ys pl).drop i) (vs := ws) (c := c) hC.out HVb.out.1 (by rw [hwsv, HXV.out.2]) hwsl hAd (by rw [hpl]; exact hpt)
          have hmm := midl_midl (zs := zs) hxL hC.out.len
          rw [hpl] at hmm
          have hr4 : w3.ownsRow B 22 1 (.slice (some ⟨B, 0, none⟩) L L) L ((midl xs i zs pl).map uv) := by
            rw [← hmm]
            rw [hpl] at hr3
            exact hr3
          have HC3 := Lib.hid hC3
          have HR4 := Lib.hid hr4
          have HO4 := Lib.hid (hO.out.kept hg3.gro (.inr (by simp [Value.ownBlock]; omega)))
          have HB4 := Lib.hid (hbel.out.trans hg3.bel)
          have hcle := hAd.cle
          obtain ⟨CC, hCC⟩ : ∃ CC : Int, (c : Int) = CC := ⟨_, rfl⟩
          obtain ⟨B1, hB1⟩ : ∃ B1 : Int, ((1 - c : Nat) : Int) = B1 := ⟨_, rfl⟩
          obtain ⟨D1, hD1⟩ : ∃ D1 : Int, ((d - 1 : Nat) : Int) = D1 := ⟨_, rfl⟩
          have hw1 : IntKind.u64.wrap (1 - CC) = B1 := by rw [← hCC, ← hB1, show (1 : Int) - (c : Int) = ((1 - c : Nat) : Int) by omega]; exact wrapu64 _ (by omega)
          have hw2 : IntKind.u64.wrap (DD - 1) = D1 := by rw [hDD, ← hD1, show (d : Int) - 1 = ((d - 1 : Nat) : Int) by omega]; exact wrapu64 _ (by have := hC.out.dlt; omega)
          have HDB1 : Hid (D1 = ((d - 1 : Nat) : Int) ∧ B1 = ((1 - c : Nat) : Int)) := Lib.hid ⟨hD1.symm, hB1.symm⟩
          have hms : D1.toNat < DD.toNat := by omega
          rw [hCC]
          clear HGv1 hAd hr3 hg3 hP hpl hwsv hwsl hxp hiL hxL hpt hmm hr4 hC3 hcle hCC hB1 hD1 hDD hd0 hC hR hO hbel hDB
          go_wp2_with fail
          go_roundw
          case rel => exact ⟨d - 1, 1 - c, zs, D1, B1, rfl, rfl, HDB1, HC3, HR4, HO4, HB4⟩
          case measure => simpa [intOf] using hms
end Go.Proofs.YtllmacokhjmdgaaGreatDoor
