/-
  The walk of IeeeBack: for every input it returns true, and leaves what lay in memory as it was.
-/
import Derived.Test.YtnhobagjpjcigaaDoorIeeeBackM
namespace Go.Proofs.YtnhobagjpjcigaaDoor
open Go.RowKit
set_option linter.unusedVariables false
set_option maxRecDepth 100000 in
set_option maxHeartbeats 8000000 in
theorem ieeeBack.no (H : Int) (b : Nat) (hb : b < 18446744073709551616) (w : World) (htab : Tab w) (htb : TabB w) (e m : Nat) (he : 2 ≤ e) (he2 : e ≤ 8) (hm : 1 ≤ m) (hm2 : m ≤ 23) (hF : ∀ W, Calls Tryd.prog 7 #[.int .i64 (bits .and .i64 H 2), .int .i64 0, .int .i64 0] W fun E w' => E = .returned (.agg #[.int .i64 (e : Int), .int .i64 (m : Int)]) ∧ Below W.heap.size W w') (B : Nat) (hB : b % 2 ^ (e + m + 1) = B) (hc : inf e m ≤ psz e m B) :
    Calls Tryd.prog 4 #[.int .i64 H, .int .u64 (b : Int)] w fun e w' => e = .returned (.bool true) ∧ Below w.heap.size w w' := by
  have HAl := Lib.hid (alive_e w htab htb)
  have HF := Lib.hid hF
  have h32 : 2 ^ (e + m + 1) ≤ 2 ^ 32 := Nat.pow_le_pow_right (by decide) (by omega)
  have hP0 : 0 < 2 ^ (e + m + 1) := Nat.pow_pos (by decide)
  have hBlt : B < 2 ^ (e + m + 1) := by rw [← hB]; exact Nat.mod_lt _ hP0
  have eb := and_low (b := b) (p := e + m + 1) hb (by omega)
  rw [hB] at eb
  have s1 := sh_one (p := e + m + 1) (by omega)
  rw [Int.one_mul] at s1
  have HDx0 : Hid (∀ W, Below w.heap.size w W → Calls Tryd.prog 8 #[.agg #[.int .i64 (e : Int), .int .i64 (m : Int)], .int .u64 (B : Int)] W (DcIs (pkd e m B) (pnm e m B) W)) := Lib.hid (fun W hb => decode_any e m B he (by omega) hm (by omega) (by omega) W (htb.below hb (Nat.le_refl _)))
  have hk : pkd e m B ≠ 1 := by
    unfold pkd
    by_cases h1 : inf e m < psz e m B
    · rw [if_pos h1]; decide
    · rw [if_neg h1, if_pos (by omega)]; split <;> decide
  have hx : pnm e m B = 0 := by unfold pnm; rw [if_neg (by omega)]
  rw [hx] at HDx0
  obtain ⟨K, hK⟩ : ∃ x, pkd e m B = x := ⟨_, rfl⟩
  rw [hK] at HDx0 hk
  obtain ⟨X, hX⟩ : ∃ x : Rat, 0 = x := ⟨_, rfl⟩
  have HEx : Hid (∀ W v, IsR W v X → Calls Tryd.prog 14 #[.agg #[.int .i64 (e : Int), .int .i64 (m : Int)], v] W fun E w' => ∃ (u : Int) (y : Bool), E = .returned (.tuple #[.int .u64 u, .bool y]) ∧ Below W.heap.size W w') := Lib.hid (fun W v h => by
    rw [← hX] at h
    exact (exact_any e m 0 v he (by omega) hm (by omega) W h (sz_zero 40 (by omega))).mono fun E w' hb => by
      obtain ⟨t, ht, h3, h4⟩ := hb
      exact ⟨_, _, h3, h4⟩)
  rw [hX] at HDx0
  have HDx := HDx0
  have hkb : (K != 1) = true := by simpa using hk
  obtain ⟨BI, hBI⟩ : ∃ x : Int, (B : Int) = x := ⟨_, rfl⟩
  obtain ⟨QI, hQI⟩ : ∃ x : Int, ((2 ^ (e + m + 1) : Nat) : Int) = x := ⟨_, rfl⟩
  obtain ⟨QM, hQM⟩ : ∃ x : Int, QI - 1 = x := ⟨_, rfl⟩
  obtain ⟨bI, hbI⟩ : ∃ x : Int, (b : Int) = x := ⟨_, rfl⟩
  rw [hQI, hQM, hBI, hbI] at eb
  rw [hQI] at s1
  rw [hbI]
  rw [hBI] at HDx
  have t1 : ((e : Int) + (m : Int) + 1).toNat = e + m + 1 := by omega
  have hQ0 : 1 ≤ QI := by omega
  have hQ1 : QI ≤ 4294967296 := by omega
  clear hc hx hK hX HDx0
  clear hF h32 hP0 hBlt hB hBI hQI hbI htab htb hb
  go_enter Tryd.func4, Tryd.ntmps4
  go_wp2_with fail
  refine HAl.out.mono ?_
  rintro E w0 ⟨rfl, hb⟩
  have V0 := (Mq.refl w).below hb
  clear hb HAl
  go_wp2_with fail
  refine (HF.out _).mono ?_
  rintro E w1 ⟨rfl, hb⟩
  have V1 := (V0.below hb).alloc 25 #[.int .i64 (e : Int), .int .i64 (m : Int)]
  clear V0 hb HF
  have q0 := V1.f0 0 rfl; have q1 := V1.f1 0 rfl
  go_wp2_with fail
  refine (HDx.out _ V1.bel).mono ?_
  rintro E w2 ⟨v, rfl, hr, hb⟩
  have V2' := (V1.below hb).rcons hr
  obtain ⟨px, nx, cx, px', nx', cx', rfl, -, -⟩ := hr
  obtain ⟨zx, hz⟩ : ∃ z, decide (X.num < 0) = z := ⟨_, rfl⟩
  rw [hz] at V2' ⊢
  have V2 := V2'.alloc 31 #[.bool zx, .slice px nx cx, .slice px' nx' cx']
  clear V1 V2' hb hz HDx q0 q1
  have q0 := V2.f0 1 rfl; have q1 := V2.f1 1 rfl
  have a0 := V2.c0 0 rfl; have a1 := V2.c1 0 rfl; have a2 := V2.c2 0 rfl
  go_wp2_with fail
  refine (HEx.out _ _ (V2.rat 0 _ _ rfl)).mono ?_
  rintro E w3 ⟨u, y, rfl, hb⟩
  have V3 := V2.below hb
  clear V2 hb q0 q1 a0 a1 a2
  have q0 := V3.f0 1 rfl; have q1 := V3.f1 1 rfl
  have a0 := V3.c0 0 rfl; have a1 := V3.c1 0 rfl; have a2 := V3.c2 0 rfl
  have HB := Lib.hid V3.bel
  clear V3 q0 q1 a0 a1 a2
  go_wp2_with fail
  go_ret
  exact ⟨rfl, HB.out⟩
set_option maxRecDepth 100000 in
set_option maxHeartbeats 8000000 in
theorem ieeeBack.zero (H : Int) (b : Nat) (hb : b < 18446744073709551616) (w : World) (htab : Tab w) (htb : TabB w) (e m : Nat) (he : 2 ≤ e) (he2 : e ≤ 8) (hm : 1 ≤ m) (hm2 : m ≤ 23) (hF : ∀ W, Calls Tryd.prog 7 #[.int .i64 (bits .and .i64 H 2), .int .i64 0, .int .i64 0] W fun E w' => E = .returned (.agg #[.int .i64 (e : Int), .int .i64 (m : Int)]) ∧ Below W.heap.size W w') (B : Nat) (hB : b % 2 ^ (e + m + 1) = B) (hc : psz e m B < inf e m) (h0 : psz e m B = 0) :
    Calls Tryd.prog 4 #[.int .i64 H, .int .u64 (b : Int)] w fun e w' => e = .returned (.bool true) ∧ Below w.heap.size w w' := by
  have HAl := Lib.hid (alive_e w htab htb)
  have HF := Lib.hid hF
  have h32 : 2 ^ (e + m + 1) ≤ 2 ^ 32 := Nat.pow_le_pow_right (by decide) (by omega)
  have hP0 : 0 < 2 ^ (e + m + 1) := Nat.pow_pos (by decide)
  have hBlt : B < 2 ^ (e + m + 1) := by rw [← hB]; exact Nat.mod_lt _ hP0
  have eb := and_low (b := b) (p := e + m + 1) hb (by omega)
  rw [hB] at eb
  have s1 := sh_one (p := e + m + 1) (by omega)
  rw [Int.one_mul] at s1
  have HDx0 : Hid (∀ W, Below w.heap.size w W → Calls Tryd.prog 8 #[.agg #[.int .i64 (e : Int), .int .i64 (m : Int)], .int .u64 (B : Int)] W (DcIs (pkd e m B) (pnm e m B) W)) := Lib.hid (fun W hb => decode_any e m B he (by omega) hm (by omega) (by omega) W (htb.below hb (Nat.le_refl _)))
  have hs2 : psz e m B < 2 ^ (e + m) := Nat.mod_lt _ (Nat.pow_pos (by decide))
  have hk : pkd e m B = 1 := by unfold pkd; rw [if_neg (by omega), if_neg (by omega)]
  have hx : pnm e m B = vQ e m (png e m B) (psz e m B) := by unfold pnm; rw [if_pos hc]
  rw [hk, hx] at HDx0
  have hsz := bq_sz e m (psz e m B) (png e m B) he2 hm2 hs2
  have HOw := Lib.hid (own_of e m (psz e m B) (png e m B) he he2 hm hm2 hc hs2 0 (by rw [vq_sign, h0]; unfold ptn; simp))
  have HTx : Hid (∀ W v, Below w.heap.size w W → IsR W v (vQ e m (png e m B) (psz e m B)) → Calls Tryd.prog 11 #[v] W fun E w' => E = .returned (.string (tx (vQ e m (png e m B) (psz e m B)))) ∧ Below W.heap.size W w') := Lib.hid (fun W v hB h => text_r _ v W h (hsz.mono (by omega)) (htab.below hB (Nat.le_refl _)))
  rw [(tx_nought _).2 ((vq_zero e m _ _).2 h0)] at HTx
  obtain ⟨X, hX⟩ : ∃ x, vQ e m (png e m B) (psz e m B) = x := ⟨_, rfl⟩
  rw [hX] at HDx0 HOw HTx
  have HDx := HDx0
  obtain ⟨BI, hBI⟩ : ∃ x : Int, (B : Int) = x := ⟨_, rfl⟩
  obtain ⟨QI, hQI⟩ : ∃ x : Int, ((2 ^ (e + m + 1) : Nat) : Int) = x := ⟨_, rfl⟩
  obtain ⟨QM, hQM⟩ : ∃ x : Int, QI - 1 = x := ⟨_, rfl⟩
  obtain ⟨bI, hbI⟩ : ∃ x : Int, (b : Int) = x := ⟨_, rfl⟩
  rw [hQI, hQM, hBI, hbI] at eb
  rw [hQI] at s1
  rw [hbI]
  rw [hBI] at HDx
  have t1 : ((e : Int) + (m : Int) + 1).toNat = e + m + 1 := by omega
  have hQ0 : 1 ≤ QI := by omega
  have hQ1 : QI ≤ 4294967296 := by omega
  clear hc h0 hs2 hk hx hsz hX HDx0
  clear hF h32 hP0 hBlt hB hBI hQI hbI htab htb hb
  go_enter Tryd.func4, Tryd.ntmps4
  go_wp2_with fail
  refine HAl.out.mono ?_
  rintro E w0 ⟨rfl, hb⟩
  have V0 := (Mq.refl w).below hb
  clear hb HAl
  go_wp2_with fail
  refine (HF.out _).mono ?_
  rintro E w1 ⟨rfl, hb⟩
  have V1 := (V0.below hb).alloc 25 #[.int .i64 (e : Int), .int .i64 (m : Int)]
  clear V0 hb HF
  have q0 := V1.f0 0 rfl; have q1 := V1.f1 0 rfl
  go_wp2_with fail
  refine (HDx.out _ V1.bel).mono ?_
  rintro E w2 ⟨v, rfl, hr, hb⟩
  have V2' := (V1.below hb).rcons hr
  obtain ⟨px, nx, cx, px', nx', cx', rfl, -, -⟩ := hr
  obtain ⟨zx, hz⟩ : ∃ z, decide (X.num < 0) = z := ⟨_, rfl⟩
  rw [hz] at V2' ⊢
  have V2 := V2'.alloc 31 #[.bool zx, .slice px nx cx, .slice px' nx' cx']
  clear V1 V2' hb hz HDx q0 q1
  have q0 := V2.f0 1 rfl; have q1 := V2.f1 1 rfl
  have a0 := V2.c0 0 rfl; have a1 := V2.c1 0 rfl; have a2 := V2.c2 0 rfl
  go_wp2_with fail
  refine (HOw.out.ex _ _ (V2.rat 0 _ _ rfl)).mono ?_
  rintro E w3 ⟨rfl, hb⟩
  have V3 := V2.below hb
  clear V2 hb q0 q1 a0 a1 a2
  have q0 := V3.f0 1 rfl; have q1 := V3.f1 1 rfl
  have a0 := V3.c0 0 rfl; have a1 := V3.c1 0 rfl; have a2 := V3.c2 0 rfl
  go_wp2_with fail
  refine (HTx.out _ _ V3.bel (V3.rat 0 _ _ rfl)).mono ?_
  rintro E w4 ⟨rfl, hb⟩
  have V4 := V3.below hb
  clear V3 hb q0 q1 a0 a1 a2
  have q0 := V4.f0 1 rfl; have q1 := V4.f1 1 rfl
  have a0 := V4.c0 0 rfl; have a1 := V4.c1 0 rfl; have a2 := V4.c2 0 rfl
  have HB := Lib.hid V4.bel
  clear V4 q0 q1 a0 a1 a2
  go_wp2_with fail
  go_ret
  exact ⟨rfl, HB.out⟩
set_option maxRecDepth 100000 in
set_option maxHeartbeats 8000000 in
theorem ieeeBack.pos (H : Int) (b : Nat) (hb : b < 18446744073709551616) (w : World) (htab : Tab w) (htb : TabB w) (e m : Nat) (he : 2 ≤ e) (he2 : e ≤ 8) (hm : 1 ≤ m) (hm2 : m ≤ 23) (hF : ∀ W, Calls Tryd.prog 7 #[.int .i64 (bits .and .i64 H 2), .int .i64 0, .int .i64 0] W fun E w' => E = .returned (.agg #[.int .i64 (e : Int), .int .i64 (m : Int)]) ∧ Below W.heap.size W w') (B : Nat) (hB : b % 2 ^ (e + m + 1) = B) (hc : psz e m B < inf e m) (h0 : 0 < psz e m B) :
    Calls Tryd.prog 4 #[.int .i64 H, .int .u64 (b : Int)] w fun e w' => e = .returned (.bool true) ∧ Below w.heap.size w w' := by
  have HAl := Lib.hid (alive_e w htab htb)
  have HF := Lib.hid hF
  have h32 : 2 ^ (e + m + 1) ≤ 2 ^ 32 := Nat.pow_le_pow_right (by decide) (by omega)
  have hP0 : 0 < 2 ^ (e + m + 1) := Nat.pow_pos (by decide)
  have hBlt : B < 2 ^ (e + m + 1) := by rw [← hB]; exact Nat.mod_lt _ hP0
  have eb := and_low (b := b) (p := e + m + 1) hb (by omega)
  rw [hB] at eb
  have s1 := sh_one (p := e + m + 1) (by omega)
  rw [Int.one_mul] at s1
  have HDx0 : Hid (∀ W, Below w.heap.size w W → Calls Tryd.prog 8 #[.agg #[.int .i64 (e : Int), .int .i64 (m : Int)], .int .u64 (B : Int)] W (DcIs (pkd e m B) (pnm e m B) W)) := Lib.hid (fun W hb => decode_any e m B he (by omega) hm (by omega) (by omega) W (htb.below hb (Nat.le_refl _)))
  have hs2 : psz e m B < 2 ^ (e + m) := Nat.mod_lt _ (Nat.pow_pos (by decide))
  have hk : pkd e m B = 1 := by unfold pkd; rw [if_neg (by omega), if_neg (by omega)]
  have hx : pnm e m B = vQ e m (png e m B) (psz e m B) := by unfold pnm; rw [if_pos hc]
  rw [hk, hx] at HDx0
  have hsz := bq_sz e m (psz e m B) (png e m B) he2 hm2 hs2
  have HOw := Lib.hid (own_of e m (psz e m B) (png e m B) he he2 hm hm2 hc hs2 B (vq_ptn e m B hBlt h0))
  have HTx : Hid (∀ W v, Below w.heap.size w W → IsR W v (vQ e m (png e m B) (psz e m B)) → Calls Tryd.prog 11 #[v] W fun E w' => E = .returned (.string (tx (vQ e m (png e m B) (psz e m B)))) ∧ Below W.heap.size W w') := Lib.hid (fun W v hB h => text_r _ v W h (hsz.mono (by omega)) (htab.below hB (Nat.le_refl _)))
  have hne : tx (vQ e m (png e m B) (psz e m B)) ≠ ⟨#[48]⟩ := fun h => by
    have := (vq_zero e m _ _).1 ((tx_nought _).1 h)
    omega
  obtain ⟨TX, hTX⟩ : ∃ x, tx (vQ e m (png e m B) (psz e m B)) = x := ⟨_, rfl⟩
  rw [hTX] at HTx hne
  obtain ⟨X, hX⟩ : ∃ x, vQ e m (png e m B) (psz e m B) = x := ⟨_, rfl⟩
  rw [hX] at HDx0 HOw HTx
  have HDx := HDx0
  have hn2 : (TX.toList == [48]) = false := by
    cases h : (TX.toList == [48]) with
    | false => rfl
    | true =>
      have h2 : TX.toList = [48] := by simpa using h
      rw [ByteArray.toList_eq] at h2
      have h3 : TX.data = #[48] := by
        have h4 := congrArg List.toArray h2
        simpa using h4
      exact absurd (by cases TX; simp only at h3; rw [h3]) hne
  obtain ⟨BI, hBI⟩ : ∃ x : Int, (B : Int) = x := ⟨_, rfl⟩
  obtain ⟨QI, hQI⟩ : ∃ x : Int, ((2 ^ (e + m + 1) : Nat) : Int) = x := ⟨_, rfl⟩
  obtain ⟨QM, hQM⟩ : ∃ x : Int, QI - 1 = x := ⟨_, rfl⟩
  obtain ⟨bI, hbI⟩ : ∃ x : Int, (b : Int) = x := ⟨_, rfl⟩
  rw [hQI, hQM, hBI, hbI] at eb
  rw [hQI] at s1
  rw [hbI]
  rw [hBI] at HDx
  have t1 : ((e : Int) + (m : Int) + 1).toNat = e + m + 1 := by omega
  have hQ0 : 1 ≤ QI := by omega
  have hQ1 : QI ≤ 4294967296 := by omega
  rw [hBI] at HOw
  clear hc h0 hs2 hk hx hsz hX hTX HDx0
  clear hF h32 hP0 hBlt hB hBI hQI hbI htab htb hb
  go_enter Tryd.func4, Tryd.ntmps4
  go_wp2_with fail
  refine HAl.out.mono ?_
  rintro E w0 ⟨rfl, hb⟩
  have V0 := (Mq.refl w).below hb
  clear hb HAl
  go_wp2_with fail
  refine (HF.out _).mono ?_
  rintro E w1 ⟨rfl, hb⟩
  have V1 := (V0.below hb).alloc 25 #[.int .i64 (e : Int), .int .i64 (m : Int)]
  clear V0 hb HF
  have q0 := V1.f0 0 rfl; have q1 := V1.f1 0 rfl
  go_wp2_with fail
  refine (HDx.out _ V1.bel).mono ?_
  rintro E w2 ⟨v, rfl, hr, hb⟩
  have V2' := (V1.below hb).rcons hr
  obtain ⟨px, nx, cx, px', nx', cx', rfl, -, -⟩ := hr
  obtain ⟨zx, hz⟩ : ∃ z, decide (X.num < 0) = z := ⟨_, rfl⟩
  rw [hz] at V2' ⊢
  have V2 := V2'.alloc 31 #[.bool zx, .slice px nx cx, .slice px' nx' cx']
  clear V1 V2' hb hz HDx q0 q1
  have q0 := V2.f0 1 rfl; have q1 := V2.f1 1 rfl
  have a0 := V2.c0 0 rfl; have a1 := V2.c1 0 rfl; have a2 := V2.c2 0 rfl
  go_wp2_with fail
  refine (HOw.out.ex _ _ (V2.rat 0 _ _ rfl)).mono ?_
  rintro E w3 ⟨rfl, hb⟩
  have V3 := V2.below hb
  clear V2 hb q0 q1 a0 a1 a2
  have q0 := V3.f0 1 rfl; have q1 := V3.f1 1 rfl
  have a0 := V3.c0 0 rfl; have a1 := V3.c1 0 rfl; have a2 := V3.c2 0 rfl
  go_wp2_with fail
  refine (HTx.out _ _ V3.bel (V3.rat 0 _ _ rfl)).mono ?_
  rintro E w4 ⟨rfl, hb⟩
  have V4 := V3.below hb
  clear V3 hb q0 q1 a0 a1 a2
  have q0 := V4.f0 1 rfl; have q1 := V4.f1 1 rfl
  have a0 := V4.c0 0 rfl; have a1 := V4.c1 0 rfl; have a2 := V4.c2 0 rfl
  go_wp2_with fail
  refine (HOw.out.be _ _ (V4.rat 0 _ _ rfl)).mono ?_
  rintro E w5 ⟨rfl, hb⟩
  have V5 := V4.below hb
  clear V4 hb q0 q1 a0 a1 a2
  have q0 := V5.f0 1 rfl; have q1 := V5.f1 1 rfl
  have a0 := V5.c0 0 rfl; have a1 := V5.c1 0 rfl; have a2 := V5.c2 0 rfl
  go_wp2_with fail
  refine (HOw.out.ab _ _ (V5.rat 0 _ _ rfl)).mono ?_
  rintro E w6 ⟨rfl, hb⟩
  have V6 := V5.below hb
  clear V5 hb q0 q1 a0 a1 a2
  have q0 := V6.f0 1 rfl; have q1 := V6.f1 1 rfl
  have a0 := V6.c0 0 rfl; have a1 := V6.c1 0 rfl; have a2 := V6.c2 0 rfl
  go_wp2_with fail
  refine (HOw.out.ne _ _ (V6.rat 0 _ _ rfl)).mono ?_
  rintro E w7 ⟨rfl, hb⟩
  have V7 := V6.below hb
  clear V6 hb q0 q1 a0 a1 a2
  have q0 := V7.f0 1 rfl; have q1 := V7.f1 1 rfl
  have a0 := V7.c0 0 rfl; have a1 := V7.c1 0 rfl; have a2 := V7.c2 0 rfl
  have HB := Lib.hid V7.bel
  clear V7 q0 q1 a0 a1 a2
  go_wp2_with fail
  go_ret
  exact ⟨rfl, HB.out⟩
theorem wf_u5 {a : Int} (h : (Lit.int .u64 a).wf = true) : 0 ≤ a ∧ a < 18446744073709551616 := by
  simp [Lit.wf, IntKind.min, IntKind.max, IntKind.bits, IntKind.signed] at h; omega
/-- The walk of IeeeBack. -/
theorem ieeeBack.walk (H b : Int) (_ : (Lit.int .i64 H).wf = true) (wb : (Lit.int .u64 b).wf = true) (w : World) (htab : Tab w) (htb : TabB w) :
    Calls Tryd.prog 4 #[.int .i64 H, .int .u64 b] w fun e w' => e = .returned (.bool true) ∧ Below w.heap.size w w' := by
  have b2 := wf_u5 wb
  obtain ⟨B, rfl⟩ : ∃ N : Nat, b = N := ⟨b.toNat, by omega⟩
  have hf : ∃ e m : Nat, 2 ≤ e ∧ e ≤ 8 ∧ 1 ≤ m ∧ m ≤ 23 ∧ ∀ W, Calls Tryd.prog 7 #[.int .i64 (bits .and .i64 H 2), .int .i64 0, .int .i64 0] W fun E w' => E = .returned (.agg #[.int .i64 (e : Int), .int .i64 (m : Int)]) ∧ Below W.heap.size W w' := by
    rcases and_two H with h | h
    · rw [h]; exact ⟨8, 23, by omega, by omega, by omega, by omega, form_0⟩
    · rw [h]; exact ⟨4, 3, by omega, by omega, by omega, by omega, form_2⟩
  obtain ⟨e, m, h1, h2, h3, h4, hF⟩ := hf
  by_cases hc : inf e m ≤ psz e m (B % 2 ^ (e + m + 1))
  · exact ieeeBack.no H B (by omega) w htab htb e m h1 h2 h3 h4 hF _ rfl hc
  · by_cases h0 : psz e m (B % 2 ^ (e + m + 1)) = 0
    · exact ieeeBack.zero H B (by omega) w htab htb e m h1 h2 h3 h4 hF _ rfl (by omega) h0
    · exact ieeeBack.pos H B (by omega) w htab htb e m h1 h2 h3 h4 hF _ rfl (by omega) (by omega)
end Go.Proofs.YtnhobagjpjcigaaDoor
