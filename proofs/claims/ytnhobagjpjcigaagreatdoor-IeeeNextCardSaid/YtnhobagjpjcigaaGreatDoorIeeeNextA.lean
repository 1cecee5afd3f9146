/-
  IeeeNext: long texts, patterns that are no number.
-/
import Derived.Test.YtnhobagjpjcigaaGreatDoorESpt
import Derived.Test.YtnhobagjpjcigaaGreatDoorEAlive
import Derived.Test.YtnhobagjpjcigaaGreatDoorQPp
import Derived.Test.YtnhobagjpjcigaaGreatDoorQJ
namespace Go.Proofs.YtnhobagjpjcigaaGreatDoor
open Go.RowKit
set_option linter.unusedVariables false
set_option maxRecDepth 100000 in
set_option maxHeartbeats 16000000 in
theorem ieeeNext.long (H : Int) (b : Nat) (hb : b < 18446744073709551616) (s : ByteArray) (w : World) (htab : Tab w) (htb : TabB w) (e m : Nat) (he : 2 ≤ e) (he2 : e ≤ 8) (hm : 1 ≤ m) (hm2 : m ≤ 23) (hF : ∀ W, Calls Tryz.prog 33 #[.int .i64 (bits .and .i64 H 2), .int .i64 0, .int .i64 0] W fun E w' => E = .returned (.agg #[.int .i64 (e : Int), .int .i64 (m : Int)]) ∧ Below W.heap.size W w') (hs : (60 : Int) < (s.size : Int)) :
    Calls Tryz.prog 8 #[.int .i64 H, .int .u64 (b : Int), .string s] w fun e w' => e = .returned (.bool true) ∧ Below w.heap.size w w' := by
  have HAl := Lib.hid (fun W hb => alive_e W (htab.below hb (Nat.le_refl _)) (htb.below hb (Nat.le_refl _)))
  have HF := Lib.hid hF
  clear htab htb hF he he2 hm hm2 hb
  go_enter Tryz.func8, Tryz.ntmps8
  go_wp2_with fail
  refine (HF.out _).mono ?_
  rintro E w0 ⟨rfl, hb⟩
  have V0 := ((Mq.refl w).below hb).alloc 63 #[.int .i64 (e : Int), .int .i64 (m : Int)]
  clear hb HF
  go_wp2_with fail
  refine (HAl.out _ V0.bel).mono ?_
  rintro E w1 ⟨rfl, hb⟩
  have HB := Lib.hid (V0.below hb).bel
  clear V0 hb HAl
  go_wp2_with fail
  go_ret
  exact ⟨rfl, HB.out⟩
set_option maxRecDepth 100000 in
set_option maxHeartbeats 16000000 in
theorem ieeeNext.no (H : Int) (b : Nat) (hb : b < 18446744073709551616) (s : ByteArray) (w : World) (htab : Tab w) (htb : TabB w) (e m : Nat) (he : 2 ≤ e) (he2 : e ≤ 8) (hm : 1 ≤ m) (hm2 : m ≤ 23) (hF : ∀ W, Calls Tryz.prog 33 #[.int .i64 (bits .and .i64 H 2), .int .i64 0, .int .i64 0] W fun E w' => E = .returned (.agg #[.int .i64 (e : Int), .int .i64 (m : Int)]) ∧ Below W.heap.size W w') (hs : ¬ (60 : Int) < (s.size : Int)) (hc : inf e m ≤ psz e m b) :
    Calls Tryz.prog 8 #[.int .i64 H, .int .u64 (b : Int), .string s] w fun e w' => e = .returned (.bool true) ∧ Below w.heap.size w w' := by
  have HAl : Hid (∀ W, Below w.heap.size w W → Calls Tryz.prog 35 #[] W fun e w' => e = .returned (.bool true) ∧ Below W.heap.size W w') := Lib.hid (fun W hb => alive_e W (htab.below hb (Nat.le_refl _)) (htb.below hb (Nat.le_refl _)))
  have HF := Lib.hid hF
  have HTB : Hid (∀ W, Below w.heap.size w W → TabB W) := Lib.hid (fun W hb => htb.below hb (Nat.le_refl _))
  have hsz2 : inf e m < 2 ^ (e + m) := inf_lt e m
  have hinf0 := inf_pos e m (by omega)
  have h31 : 2 ^ (e + m) ≤ 2 ^ 31 := Nat.pow_le_pow_right (by decide) (by omega)
  have hptn : ∀ t z, t < inf e m → ptn e m z t < 18446744073709551616 := fun t z ht => by
    unfold ptn
    split <;> omega
  have HDec : ∀ (P : Nat) (k : Int) (x : Rat), P < 18446744073709551616 → pkd e m P = k → pnm e m P = x → Hid (∀ W, Below w.heap.size w W → Calls Tryz.prog 44 #[.agg #[.int .i64 (e : Int), .int .i64 (m : Int)], .int .u64 (P : Int)] W (DcIs k x W)) := fun P k x h1 h2 h3 => Lib.hid (fun W hb => by
    have := decode_any e m P he (by omega) hm (by omega) h1 W (htb.below hb (Nat.le_refl _))
    rwa [h2, h3] at this)
  have HNxt : ∀ (P Q : Nat) (z : Bool), P < 18446744073709551616 → nxT e m P = (Q, z) → Hid (∀ W, Calls Tryz.prog 45 #[.agg #[.int .i64 (e : Int), .int .i64 (m : Int)], .int .u64 (P : Int)] W fun E w' => E = .returned (.tuple #[.int .u64 (Q : Int), .bool z]) ∧ Below W.heap.size W w') := fun P Q z h1 h2 => Lib.hid (fun W => (next_any e m P he (by omega) hm (by omega) h1 W).mono fun E w' h => by
    unfold NxIs at h
    rw [h2] at h
    exact h)
  have HCmp : ∀ (x y : Rat) (c : Int), Sz 50 x → Sz 50 y → cmpQ x y = c → Hid (∀ W va vb, IsR W va x → IsR W vb y → Calls Tryz.prog 47 #[va, vb] W fun e w' => e = .returned (.int .i64 c) ∧ Below W.heap.size W w') := fun x y c h1 h2 h3 => Lib.hid (fun W va vb ha hb => by
    have := cmpr_any x y va vb W ha hb h1 h2
    rwa [h3] at this)
  have HSam : ∀ (x y : Rat) (c : Bool), Sz 50 x → Sz 50 y → decide (x = y) = c → Hid (∀ W va vb, IsR W va x → IsR W vb y → Calls Tryz.prog 22 #[va, vb] W fun e w' => e = .returned (.bool c) ∧ Below W.heap.size W w') := fun x y c h1 h2 h3 => Lib.hid (fun W va vb ha hb => by
    have := same_any x y va vb W ha hb (h1.mono (by omega)) (h2.mono (by omega))
    rwa [h3] at this)
  have s2 := sh_one (p := e) (by omega)
  rw [Int.one_mul] at s2
  have hTOPn : ((2 ^ e : Nat) : Int) - 1 = ((2 ^ e - 1 : Nat) : Int) := by
    have h0 : 0 < 2 ^ e := Nat.pow_pos (by decide)
    omega
  have htop : IntKind.u64.wrap ((((2 ^ e : Nat) : Int) - 1) * 2 ^ m) = ((inf e m : Nat) : Int) := by
    have e2 : ((2 : Int) ^ m) = ((2 ^ m : Nat) : Int) := by rw [Int.natCast_pow]; rfl
    have e4 : (2 ^ e - 1) * 2 ^ m = inf e m := by unfold inf; rw [Nat.sub_mul, Nat.one_mul, Nat.pow_add]
    rw [e2, hTOPn, ← Int.natCast_mul, e4, wrapu64 _ (by omega)]
  have hq : ∀ t z, t < inf e m → Sz 6 (vQ e m z t) := fun t z ht => bq_sz e m t z he2 hm2 (by omega)
  have hk : pkd e m b ≠ 1 := by
    unfold pkd
    by_cases h1 : inf e m < psz e m b
    · rw [if_pos h1]; decide
    · rw [if_neg h1, if_pos (by omega)]; split <;> decide
  have hx : pnm e m b = 0 := by unfold pnm; rw [if_neg (by omega)]
  obtain ⟨K, hK⟩ : ∃ x, pkd e m b = x := ⟨_, rfl⟩
  obtain ⟨X, hX⟩ : ∃ x : Rat, 0 = x := ⟨_, rfl⟩
  have HDx := HDec b K X hb hK (hx.trans hX)
  have HNx := HNxt b 0 false hb (by unfold nxT; rw [if_pos hc])
  rw [hK] at hk
  have hkb : (K != 1) = true := by simpa using hk
  obtain ⟨BI, hBI⟩ : ∃ x : Int, (b : Int) = x := ⟨_, rfl⟩
  rw [hBI] at HDx HNx ⊢
  obtain ⟨QE, hQE⟩ : ∃ x : Int, ((2 ^ e : Nat) : Int) = x := ⟨_, rfl⟩
  obtain ⟨QM, hQM⟩ : ∃ x : Int, QE - 1 = x := ⟨_, rfl⟩
  obtain ⟨TOP, hTOP⟩ : ∃ x : Int, ((inf e m : Nat) : Int) = x := ⟨_, rfl⟩
  have t2 : ((e : Int)).toNat = e := by omega
  have t3 : ((m : Int)).toNat = m := by omega
  have hQE0 : 1 ≤ QE := by have : 0 < 2 ^ e := Nat.pow_pos (by decide); omega
  have hQE1 : QE ≤ 256 := by have : 2 ^ e ≤ 2 ^ 8 := Nat.pow_le_pow_right (by decide) he2; omega
  have hT0 : 1 ≤ TOP := by omega
  have hT1 : TOP ≤ 2147483648 := by omega
  rw [hQE, hQM, hTOP] at htop
  rw [hQE] at s2
  clear hc hx hK hX HDec HNxt HCmp HSam hTOPn hsz2 hinf0 h31 hptn hq
  clear hF hb hBI hQE hTOP htab htb HTB
  go_enter Tryz.func8, Tryz.ntmps8
  go_wp2_with fail
  refine (HF.out _).mono ?_
  rintro E w0 ⟨rfl, hb⟩
  have V0 := ((Mq.refl w).below hb).alloc 63 #[.int .i64 (e : Int), .int .i64 (m : Int)]
  clear hb HF
  go_wp2_with fail
  refine (HAl.out _ V0.bel).mono ?_
  rintro E w1 ⟨rfl, hb⟩
  have V1 := V0.below hb
  clear V0 hb HAl
  have q0 := V1.f0 0 rfl; have q1 := V1.f1 0 rfl
  go_wp2_with fail
  refine (HDx.out _ V1.bel).mono ?_
  rintro E wx ⟨v, rfl, hr, hb⟩
  have V2' := (V1.below hb).rcons hr
  obtain ⟨px, nx, cx, px', nx', cx', rfl, -, -⟩ := hr
  obtain ⟨zx, hz⟩ : ∃ z, decide (X.num < 0) = z := ⟨_, rfl⟩
  rw [hz] at V2' ⊢
  have V2 := V2'.alloc 27 #[.bool zx, .slice px nx cx, .slice px' nx' cx']
  clear V1 V2' hb hz HDx q0 q1
  have q0 := V2.f0 1 rfl; have q1 := V2.f1 1 rfl
  go_wp2_with fail
  refine (HNx.out _).mono ?_
  rintro E w3 ⟨rfl, hb⟩
  have V3 := V2.below hb
  clear V2 hb HNx q0 q1
  have q0 := V3.f0 1 rfl; have q1 := V3.f1 1 rfl
  go_wp2_with fail
  go_quiet (fail)
  have V4 := V3.dn nq
  clear V3 q0 q1
  have HB := Lib.hid V4.bel
  clear V4
  go_wp2_with fail
  go_ret
  exact ⟨rfl, HB.out⟩
end Go.Proofs.YtnhobagjpjcigaaGreatDoor
