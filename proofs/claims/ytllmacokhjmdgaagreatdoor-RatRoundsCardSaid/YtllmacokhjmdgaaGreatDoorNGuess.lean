/-
  Law 1: a digit of a long division is guessed, never too small.
-/
import Derived.Test.YtllmacokhjmdgaaGreatDoorNGive
namespace Go.Proofs.YtllmacokhjmdgaaGreatDoor
open Go.RowKit
set_option linter.unusedVariables false
/-- The last three words. -/
theorem wv_top3 {zs : List Nat} {j : Nat} (h : zs.length = j + 3) : wv zs = wv (zs.take j) + 18446744073709551616 ^ j * (zs.getD j 0 + 18446744073709551616 * (zs.getD (j + 1) 0 + 18446744073709551616 * zs.getD (j + 2) 0)) := by
  conv => lhs; rw [← List.take_append_drop j zs]
  rw [wv_append, List.length_take, Nat.min_eq_left (by omega), drop_get zs j (by omega), drop_get zs (j + 1) (by omega), drop_get zs (j + 2) (by omega), List.drop_of_length_le (by omega)]
  simp [wv]
theorem wv_top2 {vs : List Nat} {j : Nat} (h : vs.length = j + 2) : wv vs = wv (vs.take j) + 18446744073709551616 ^ j * (vs.getD j 0 + 18446744073709551616 * vs.getD (j + 1) 0) := by
  conv => lhs; rw [← List.take_append_drop j vs]
  rw [wv_append, List.length_take, Nat.min_eq_left (by omega), drop_get vs j (by omega), drop_get vs (j + 1) (by omega), List.drop_of_length_le (by omega)]
  simp [wv]
/-- q times the two upper words is no more than the three upper words. -/
theorem gs_top {q P V B X v1 v2 u u0 u2 tp tv : Nat} (hq : q * V ≤ P) (hV : V = tv + X * (v2 + B * v1)) (hP : P = tp + X * (u2 + B * (u0 + B * u))) (ht : tp < X) : q * (v2 + B * v1) ≤ u2 + B * (u0 + B * u) := by
  have h1 : X * (q * (v2 + B * v1)) ≤ q * V := by
    rw [hV, Nat.mul_add q tv, Nat.mul_left_comm q X]; omega
  have h2 : X * (q * (v2 + B * v1)) < X * (u2 + B * (u0 + B * u) + 1) := by rw [Nat.mul_add X, Nat.mul_one]; omega
  have := Nat.lt_of_mul_lt_mul_left h2
  omega
/-- What a loop over a guess keeps. -/
structure Gs (q v1 W k r : Nat) : Prop where
  le : q ≤ k
  eq : k * v1 + r = W
  lt : r < 18446744073709551616
theorem gs_init {q v1 v2 u u0 u2 : Nat} (h : q * (v2 + 18446744073709551616 * v1) ≤ u2 + 18446744073709551616 * (u0 + 18446744073709551616 * u)) (hu2 : u2 < 18446744073709551616) (h1 : 0 < v1) (hv1 : v1 < 18446744073709551616) :
    Gs q v1 (u * 18446744073709551616 + u0) ((u * 18446744073709551616 + u0) / v1) ((u * 18446744073709551616 + u0) % v1) := by
  have h2 := Nat.div_add_mod (u * 18446744073709551616 + u0) v1
  have h3 := Nat.mod_lt (u * 18446744073709551616 + u0) h1
  refine ⟨?_, by rw [Nat.mul_comm]; exact h2, by omega⟩
  rw [Nat.le_div_iff_mul_le h1]
  have e : q * (v2 + 18446744073709551616 * v1) = q * v2 + 18446744073709551616 * (q * v1) := by rw [Nat.mul_add, Nat.mul_left_comm]
  omega
theorem gs_less {q v1 v2 u u0 u2 k r : Nat} (h : q * (v2 + 18446744073709551616 * v1) ≤ u2 + 18446744073709551616 * (u0 + 18446744073709551616 * u)) (hg : Gs q v1 (u * 18446744073709551616 + u0) k r) (ht : r * 18446744073709551616 + u2 < k * v2) :
    0 < k ∧ q ≤ k - 1 ∧ (k - 1) * v1 + (r + v1) = u * 18446744073709551616 + u0 := by
  have h1 := hg.eq
  have hlt : q < k := by
    rcases Nat.lt_or_ge q k with h2 | h2
    · exact h2
    · exfalso
      obtain rfl : q = k := Nat.le_antisymm hg.le h2
      have e : q * (v2 + 18446744073709551616 * v1) = q * v2 + 18446744073709551616 * (q * v1) := by rw [Nat.mul_add, Nat.mul_left_comm]
      omega
  obtain ⟨j, rfl⟩ : ∃ j, k = j + 1 := ⟨k - 1, by omega⟩
  rw [Nat.add_mul, Nat.one_mul] at h1
  simp only [Nat.add_sub_cancel]
  omega
/-- The test of the loop. -/
theorem gs_test {k v2 r u2 : Nat} (hu2 : u2 < 18446744073709551616) : (¬ (k * v2 / 18446744073709551616 < r ∨ k * v2 / 18446744073709551616 = r ∧ k * v2 % 18446744073709551616 ≤ u2)) → r * 18446744073709551616 + u2 < k * v2 := by
  intro h
  have := Nat.div_add_mod (k * v2) 18446744073709551616
  omega
def GuessIs (q : Nat) (w : World) (e : Ending) (w' : World) : Prop := ∃ D : Nat, e = .returned (.int .u64 (D : Int)) ∧ q ≤ D ∧ D < 18446744073709551616 ∧ Below w.heap.size w w'
set_option maxRecDepth 100000 in
set_option maxHeartbeats 4000000 in
theorem guess_any (ad ad2 : Addr) (c1 c2 j : Nat) (zs vs : List Nat) (w : World) (hzl : zs.length = j + 3) (hvl : vs.length = j + 2) (hwz : Wrd zs) (hwv : Wrd vs) (hj : j ≤ 9000)
    (hz : ∀ k, k < j + 3 → ad.block < w.heap.size ∧ w.cell? (ad.add k) = some (.int .u64 ((zs.getD k 0 : Nat) : Int))) (hv : ∀ k, k < j + 2 → ad2.block < w.heap.size ∧ w.cell? (ad2.add k) = some (.int .u64 ((vs.getD k 0 : Nat) : Int)))
    (hV : 0 < wv vs) (hPV : wv zs < wv vs * 18446744073709551616) :
    Calls Tryz.prog 128 #[.slice (some ad) (j + 3) c1, .slice (some ad2) (j + 2) c2] w (GuessIs (wv zs / wv vs) w) := by
  obtain ⟨u, hu⟩ : ∃ u, zs.getD (j + 2) 0 = u := ⟨_, rfl⟩
  obtain ⟨u0, hu0⟩ : ∃ u0, zs.getD (j + 1) 0 = u0 := ⟨_, rfl⟩
  obtain ⟨u2, hu2⟩ : ∃ u2, zs.getD j 0 = u2 := ⟨_, rfl⟩
  obtain ⟨v1, hv1⟩ : ∃ v1, vs.getD (j + 1) 0 = v1 := ⟨_, rfl⟩
  obtain ⟨v2, hv2⟩ : ∃ v2, vs.getD j 0 = v2 := ⟨_, rfl⟩
  have huw : u < 18446744073709551616 := by rw [← hu]; exact getW hwz _
  have hu0w : u0 < 18446744073709551616 := by rw [← hu0]; exact getW hwz _
  have hu2w : u2 < 18446744073709551616 := by rw [← hu2]; exact getW hwz _
  have hv1w : v1 < 18446744073709551616 := by rw [← hv1]; exact getW hwv _
  have hv2w : v2 < 18446744073709551616 := by rw [← hv2]; exact getW hwv _
  obtain ⟨q, hq⟩ : ∃ q, wv zs / wv vs = q := ⟨_, rfl⟩
  have hqB : q < 18446744073709551616 := by rw [← hq, Nat.div_lt_iff_lt_mul hV, Nat.mul_comm]; exact hPV
  have htop : q * (v2 + 18446744073709551616 * v1) ≤ u2 + 18446744073709551616 * (u0 + 18446744073709551616 * u) := by
    have h1 := wv_top3 hzl
    have h2 := wv_top2 hvl
    rw [hu, hu0, hu2] at h1
    rw [hv1, hv2] at h2
    refine gs_top (by rw [← hq]; exact Nat.div_mul_le_self _ _) h2 h1 ?_
    have h3 := wv_lt (zs.take j) (fun x hx => hwz x (List.mem_of_mem_take hx))
    rwa [List.length_take, Nat.min_eq_left (by omega)] at h3
  have HTop := Lib.hid htop
  obtain ⟨hadl, z2⟩ := hz (j + 2) (by omega)
  obtain ⟨_, z1⟩ := hz (j + 1) (by omega)
  obtain ⟨_, z0⟩ := hz j (by omega)
  obtain ⟨had2l, y1⟩ := hv (j + 1) (by omega)
  obtain ⟨_, y0⟩ := hv j (by omega)
  rw [hu] at z2; rw [hu0] at z1; rw [hu2] at z0; rw [hv1] at y1; rw [hv2] at y0
  obtain ⟨m, hm⟩ : ∃ m, j + 2 = m := ⟨_, rfl⟩
  obtain ⟨l, hl⟩ : ∃ l, j + 1 = l := ⟨_, rfl⟩
  obtain ⟨pl, hpl⟩ : ∃ pl, j + 3 = pl := ⟨_, rfl⟩
  have hml : (m : Int) - 1 = (l : Int) := by omega
  have hmj : (m : Int) - 2 = (j : Int) := by omega
  have h0m : (0 : Int) ≤ (m : Int) := by omega
  have h0l : (0 : Int) ≤ (l : Int) := by omega
  have h0j : (0 : Int) ≤ (j : Int) := by omega
  have hmp : (m : Int) < (pl : Int) := by omega
  have hlp : (l : Int) < (pl : Int) := by omega
  have hjp : (j : Int) < (pl : Int) := by omega
  have hlm : (l : Int) < (m : Int) := by omega
  have hjm : (j : Int) < (m : Int) := by omega
  have hwml : IntKind.i64.wrap (l : Int) = (l : Int) := IntWalk.i64_in _ ⟨by omega, by omega⟩
  have hwmj : IntKind.i64.wrap (j : Int) = (j : Int) := IntWalk.i64_in _ ⟨by omega, by omega⟩
  rw [hm] at z2; rw [hl] at z1 y1
  rw [hm, hpl, hq]
  have HG : Hid (∀ w' D, Below w.heap.size w w' → q ≤ D → D < 18446744073709551616 → GuessIs q w (.returned (.int .u64 (D : Int))) w') := Lib.hid (fun w' D h1 h2 h3 => ⟨D, rfl, h2, h3, h1⟩)
  obtain ⟨U, hU⟩ : ∃ U : Int, (u : Int) = U := ⟨_, rfl⟩
  obtain ⟨U0, hU0⟩ : ∃ U0 : Int, (u0 : Int) = U0 := ⟨_, rfl⟩
  obtain ⟨U2, hU2⟩ : ∃ U2 : Int, (u2 : Int) = U2 := ⟨_, rfl⟩
  obtain ⟨V1, hV1⟩ : ∃ V1 : Int, (v1 : Int) = V1 := ⟨_, rfl⟩
  obtain ⟨V2, hV2⟩ : ∃ V2 : Int, (v2 : Int) = V2 := ⟨_, rfl⟩
  rw [hU] at z2; rw [hU0] at z1; rw [hU2] at z0; rw [hV1] at y1; rw [hV2] at y0
  have Hlow := Lib.hid (And.intro huw (And.intro hu0w (And.intro hu2w (And.intro hv1w (And.intro hv2w hqB)))))
  have HUs := Lib.hid (And.intro hU (And.intro hU0 (And.intro hU2 (And.intro hV1 hV2))))
  have HK : Hid (∀ w', Below w.heap.size w w' → w'.cell? (ad.add m) = some (.int .u64 U) ∧ w'.cell? (ad.add l) = some (.int .u64 U0) ∧ w'.cell? (ad.add j) = some (.int .u64 U2) ∧ w'.cell? (ad2.add l) = some (.int .u64 V1) ∧ w'.cell? (ad2.add j) = some (.int .u64 V2)) := Lib.hid (fun w' hb =>
    ⟨(hb.cell (by rw [add_block]; exact hadl)).trans z2, (hb.cell (by rw [add_block]; exact hadl)).trans z1, (hb.cell (by rw [add_block]; exact hadl)).trans z0, (hb.cell (by rw [add_block]; exact had2l)).trans y1, (hb.cell (by rw [add_block]; exact had2l)).trans y0⟩)
  have HB1 : Hid (Below w.heap.size w w.drew) := Lib.hid (Below.refl _ _).drew
  have HB2 : Hid (Below w.heap.size w w.drew.drew) := Lib.hid (Below.refl _ _).drew.drew
  obtain ⟨d2, _, _, d1, _⟩ := HK.out _ HB1.out
  clear hz hv hzl hvl hwz hwv hV hPV hu hu0 hu2 hv1 hv2 huw hu0w hu2w hv1w hv2w hq hqB htop z1 z0 y0 hadl had2l hm hl hpl hU hU0 hU2 hV1 hV2
  by_cases hge : V1 ≤ U
  · have HR := Lib.hid (HG.out w.drew 18446744073709551615 HB1.out (by have := Hlow.out.2.2.2.2.2; omega) (by decide))
    clear HG HK HTop
    go_enter Tryz.func128, Tryz.ntmps128
    go_wp2_with fail
    go_region_held3 (fun w' => w'.cell? (ad.add m) = some (.int .u64 U) ∧ w'.cell? (ad2.add l) = some (.int .u64 V1))
      (first | exact ⟨d2, d1⟩ | go_keep)
      (fail)
    go_wp2_with fail
    go_ret
    exact HR.out
  · obtain ⟨e2, e1, _, f1, _⟩ := HK.out _ HB2.out
    have hlt : u < v1 := by have := HUs.out; omega
    have hdv := div64_any u u0 v1 Hlow.out.2.1 Hlow.out.2.2.2.1 hlt w.drew.drew
    have hg0 := gs_init HTop.out Hlow.out.2.2.1 (by omega) Hlow.out.2.2.2.1
    obtain ⟨k0, hk0⟩ : ∃ k0, (u * 18446744073709551616 + u0) / v1 = k0 := ⟨_, rfl⟩
    obtain ⟨r0, hr0⟩ : ∃ r0, (u * 18446744073709551616 + u0) % v1 = r0 := ⟨_, rfl⟩
    rw [hk0, hr0] at hg0
    have hk0B : k0 < 18446744073709551616 := by
      rw [← hk0, Nat.div_lt_iff_lt_mul (by omega)]
      have h1 : (u + 1) * 18446744073709551616 ≤ v1 * 18446744073709551616 := Nat.mul_le_mul_right _ hlt
      have := Hlow.out.2.1
      rw [Nat.mul_comm 18446744073709551616]
      omega
    obtain ⟨K0, hK0⟩ : ∃ K0 : Int, (k0 : Int) = K0 := ⟨_, rfl⟩
    obtain ⟨R0, hR0⟩ : ∃ R0 : Int, (r0 : Int) = R0 := ⟨_, rfl⟩
    have HDv : Hid (Calls Tryz.prog 59 #[.int .u64 U, .int .u64 U0, .int .u64 V1] w.drew.drew fun e w' => e = .returned (.tuple #[.int .u64 K0, .int .u64 R0]) ∧ Below w.heap.size w w') := Lib.hid (by
      rw [← HUs.out.1, ← HUs.out.2.1, ← HUs.out.2.2.2.1]
      refine hdv.mono ?_
      rintro e w' ⟨q', m', hq', hm', he, hb⟩
      rw [hk0] at hq'
      rw [hr0] at hm'
      subst hq' hm'
      exact ⟨by rw [he, hK0, hR0], HB2.out.trans hb⟩)
    have Hg0 := Lib.hid hg0
    have HKR := Lib.hid (And.intro hK0.symm (And.intro hR0.symm hk0B))
    clear hdv hg0 hk0 hr0 hK0 hR0 hlt hk0B
    go_enter Tryz.func128, Tryz.ntmps128
    go_wp2_with fail
    go_region_held3 (fun w' => w'.cell? (ad.add m) = some (.int .u64 U) ∧ w'.cell? (ad2.add l) = some (.int .u64 V1))
      (first | exact ⟨d2, d1⟩ | go_keep)
      (fail)
    go_wp2_with fail
    go_region_held3 (fun w' => w'.cell? (ad.add m) = some (.int .u64 U) ∧ w'.cell? (ad.add l) = some (.int .u64 U0) ∧ w'.cell? (ad2.add l) = some (.int .u64 V1))
      (first | exact ⟨e2, e1, f1⟩ | exact ⟨(HK.out _ ‹_›).1, (HK.out _ ‹_›).2.1, (HK.out _ ‹_›).2.2.2.1⟩ | go_keep)
      (first
        | (go_at_call 59; refine HDv.out.mono ?_; rintro e w5 ⟨rfl, hb5⟩))
    have HB5 := Lib.hid hb5
    clear HDv hb5 HB1 HB2 e2 e1 f1 d1 d2 z2 y1
    go_wp2_with fail
    go_loopw [6, 7] (fun kv rv wr => ∃ (k r : Nat) (K R : Int), kv = .int .u64 K ∧ rv = .int .u64 R ∧ Hid (K = (k : Int) ∧ R = (r : Int) ∧ k < 18446744073709551616) ∧ Hid (Gs q v1 (u * 18446744073709551616 + u0) k r) ∧ Hid (Below w.heap.size w wr)) (fun kv _ _ => (intOf kv).toNat)
    case atStart => exact ⟨k0, r0, K0, R0, rfl, rfl, HKR, Hg0, HB5⟩
    case round =>
      obtain ⟨k, r, K, R, rfl, rfl, hKR, hG, hbel⟩ := hrel
      clear Hg0 HKR HB5
      obtain ⟨_, _, t0, t1, t2⟩ := HK.out _ hbel.out
      obtain ⟨hK, hR, hkB⟩ := hKR.out
      obtain ⟨hu2w, hv1w, hv2w⟩ : u2 < 18446744073709551616 ∧ v1 < 18446744073709551616 ∧ v2 < 18446744073709551616 := ⟨Hlow.out.2.2.1, Hlow.out.2.2.2.1, Hlow.out.2.2.2.2.1⟩
      obtain ⟨hi, hhi⟩ : ∃ hi, k * v2 / 18446744073709551616 = hi := ⟨_, rfl⟩
      obtain ⟨lo, hlo⟩ : ∃ lo, k * v2 % 18446744073709551616 = lo := ⟨_, rfl⟩
      obtain ⟨HI, hHI⟩ : ∃ HI : Int, (hi : Int) = HI := ⟨_, rfl⟩
      obtain ⟨LO, hLO⟩ : ∃ LO : Int, (lo : Int) = LO := ⟨_, rfl⟩
      have hMul : Hid (Calls Tryz.prog 126 #[.int .u64 K, .int .u64 V2] wr fun e w' => e = .returned (.tuple #[.int .u64 HI, .int .u64 LO]) ∧ w' = wr) := Lib.hid (by
        have := Tryz.bits_Mul64 k v2 hkB hv2w wr
        rw [hhi, hlo, hHI, hLO, ← hK, HUs.out.2.2.2.2] at this
        exact this)
      have HRet := Lib.hid (HG.out wr k hbel.out hG.out.le hkB)
      rw [← hK] at HRet
      have hU2 := HUs.out.2.2.1
      by_cases hA : HI < R
      · clear hK hR hkB hu2w hv1w hv2w hhi hlo hHI hLO hKR hG hbel HG HK hU2
        go_wp2_with fail
        refine hMul.out.mono ?_
        rintro e w1 ⟨rfl, rfl⟩
        clear hMul
        go_wp2_with fail
        go_ret
        exact HRet.out
      · by_cases hB : HI = R ∧ LO ≤ U2
        · obtain ⟨hB1, hB2⟩ := hB
          have hBq : (HI == R) = true := by simp [hB1]
          subst hB1
          clear hK hR hkB hu2w hv1w hv2w hhi hlo hHI hLO hKR hG hbel HG HK hU2
          go_wp2_with fail
          refine hMul.out.mono ?_
          rintro e w1 ⟨rfl, rfl⟩
          clear hMul
          go_wp2_with fail
          go_ret
          exact HRet.out
        · obtain ⟨hk0, hqk, heq⟩ := gs_less HTop.out hG.out (gs_test hu2w (by
            rw [hhi, hlo]
            intro h
            rcases h with h | ⟨h1, h2⟩
            · exact hA (by omega)
            · exact hB ⟨by omega, by omega⟩))
          obtain ⟨k1, hk1⟩ : ∃ k1, k - 1 = k1 := ⟨_, rfl⟩
          rw [hk1] at hqk heq
          obtain ⟨K1, hK1⟩ : ∃ K1 : Int, (k1 : Int) = K1 := ⟨_, rfl⟩
          have hwK : IntKind.u64.wrap (K - 1) = K1 := by rw [hK, ← hK1, show (k : Int) - 1 = (k1 : Int) by omega]; exact wrapu64 _ (by omega)
          obtain ⟨mo, hmo⟩ : ∃ mo, (r + v1) % 18446744073709551616 = mo := ⟨_, rfl⟩
          obtain ⟨ov, hov⟩ : ∃ ov, (r + v1) / 18446744073709551616 = ov := ⟨_, rfl⟩
          obtain ⟨MO, hMO⟩ : ∃ MO : Int, (mo : Int) = MO := ⟨_, rfl⟩
          obtain ⟨OV, hOV⟩ : ∃ OV : Int, (ov : Int) = OV := ⟨_, rfl⟩
          have hV1 := HUs.out.2.2.2.1
          have hadd : ∀ wx, (callFunc 104 #[.int .u64 R, .int .u64 V1, .int .u64 0]).run Tryz.prog wx = .ok (.value (.tuple #[.int .u64 MO, .int .u64 OV])) wx := fun wx => by
            have := run_add64c r v1 0 (by omega) wx
            rw [Nat.add_zero, hmo, hov, hMO, hOV, ← hR, hV1] at this
            exact this
          have HRet1 := Lib.hid (HG.out wr k1 hbel.out hqk (by omega))
          rw [hK1] at HRet1
          have hrl := hG.out.lt
          have hCt : (HI < R) = False := by simp; omega
          by_cases hov0 : 0 < OV
          · by_cases hC : HI = R
            · have hC2 : ¬ LO ≤ U2 := fun h => hB ⟨hC, h⟩
              subst hC
              clear hK hR hkB hu2w hv1w hv2w hhi hlo hHI hLO hKR hG hbel HG HK hU2 hk0 hqk heq hk1 hK1 hmo hov hMO hOV hV1 hrl hB hCt HRet
              go_wp2_with fail
              refine hMul.out.mono ?_
              rintro e w1 ⟨rfl, rfl⟩
              clear hMul
              go_wp2_with fail
              go_ret
              exact HRet1.out
            · have hC1 : (HI == R) = false := by simp [hC]
              clear hK hR hkB hu2w hv1w hv2w hhi hlo hHI hLO hKR hG hbel HG HK hU2 hk0 hqk heq hk1 hK1 hmo hov hMO hOV hV1 hrl hB hCt HRet
              go_wp2_with fail
              refine hMul.out.mono ?_
              rintro e w1 ⟨rfl, rfl⟩
              clear hMul
              go_wp2_with fail
              go_ret
              exact HRet1.out
          · have hov1 : ov = 0 := by omega
            have hmo2 : mo = r + v1 := by have := Nat.div_add_mod (r + v1) 18446744073709551616; omega
            have HG2 : Hid (Gs q v1 (u * 18446744073709551616 + u0) k1 mo) := Lib.hid ⟨hqk, by rw [hmo2]; exact heq, by rw [← hmo]; exact Nat.mod_lt _ (by decide)⟩
            have HKR2 : Hid (K1 = (k1 : Int) ∧ MO = (mo : Int) ∧ k1 < 18446744073709551616) := Lib.hid ⟨hK1.symm, hMO.symm, by omega⟩
            have hms : K1.toNat < K.toNat := by omega
            by_cases hC : HI = R
            · have hC2 : ¬ LO ≤ U2 := fun h => hB ⟨hC, h⟩
              subst hC
              clear hK hR hkB hu2w hv1w hv2w hhi hlo hHI hLO hKR hG HG HK hU2 hk0 hqk heq hk1 hK1 hmo hov hMO hOV hV1 hrl hB hCt HRet HRet1 hov1 hmo2
              go_wp2_with fail
              refine hMul.out.mono ?_
              rintro e w1 ⟨rfl, rfl⟩
              clear hMul
              go_wp2_with fail
              go_roundw
              case rel => exact ⟨k1, mo, K1, MO, rfl, rfl, HKR2, HG2, hbel⟩
              case measure => simpa [intOf] using hms
            · have hC1 : (HI == R) = false := by simp [hC]
              clear hK hR hkB hu2w hv1w hv2w hhi hlo hHI hLO hKR hG HG HK hU2 hk0 hqk heq hk1 hK1 hmo hov hMO hOV hV1 hrl hB hCt HRet HRet1 hov1 hmo2
              go_wp2_with fail
              refine hMul.out.mono ?_
              rintro e w1 ⟨rfl, rfl⟩
              clear hMul
              go_wp2_with fail
              go_roundw
              case rel => exact ⟨k1, mo, K1, MO, rfl, rfl, HKR2, HG2, hbel⟩
              case measure => simpa [intOf] using hms
end Go.Proofs.YtllmacokhjmdgaaGreatDoor
