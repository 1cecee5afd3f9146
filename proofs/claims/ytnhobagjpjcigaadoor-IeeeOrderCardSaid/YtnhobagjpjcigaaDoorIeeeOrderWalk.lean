/-
  The walk of IeeeOrder: for every input it returns true, and leaves what lay in memory as it was.
-/
import Derived.Test.YtnhobagjpjcigaaDoorEAlive
namespace Go.Proofs.YtnhobagjpjcigaaDoor
open Go.RowKit
set_option linter.unusedVariables false
theorem vq_den (e m : Nat) : (0 : Rat) < (((2 ^ upl e m : Nat) : Rat))⁻¹ := Rat.inv_pos.2 (by
  have h : 0 < 2 ^ upl e m := Nat.pow_pos (by decide)
  exact_mod_cast h)
theorem vq_mul (e m : Nat) (z : Bool) (s : Nat) : vQ e m z s = ((sgn z (un m s) : Int) : Rat) * (((2 ^ upl e m : Nat) : Rat))⁻¹ := by
  unfold vQ
  rw [Rat.mkRat_eq_div, Rat.div_def]
theorem vq_lt (e m a b : Nat) : vQ e m false a < vQ e m false b ↔ a < b := by
  rw [vq_mul, vq_mul, Rat.mul_lt_mul_right (vq_den e m)]
  have h : ∀ x : Nat, sgn false x = (x : Int) := fun x => rfl
  rw [h, h, Rat.intCast_lt_intCast]
  constructor
  · intro h; exact (un_lt_iff (m := m)).1 (by omega)
  · intro h; have := un_lt (m := m) h; omega
theorem vq_neg (e m s : Nat) : vQ e m true s = 0 - vQ e m false s := by
  unfold vQ
  rw [Rat.sub_eq_add_neg, Rat.zero_add, Rat.neg_mkRat]
  rfl
theorem vq_sz (e m s : Nat) (z : Bool) (he : e ≤ 8) (hm : m ≤ 23) (hs : s < 2 ^ (e + m)) : Sz 6 (vQ e m z s) := by
  have h1 := un_big (m := m) (s := s) (k := e) (by rw [Nat.add_comm]; exact hs)
  have h2 : 2 ^ e ≤ 2 ^ 8 := Nat.pow_le_pow_right (by decide) he
  have h3 : 2 ^ (e - 1) ≤ 2 ^ 7 := Nat.pow_le_pow_right (by decide) (by omega)
  obtain ⟨p1, p2, -⟩ := norm_parts (sgn z (un m s)) (2 ^ upl e m) (Nat.ne_of_gt (Nat.pow_pos (by decide)))
  rw [sgn_ab] at p1
  unfold vQ
  refine ⟨?_, ?_⟩
  · rw [p1]
    exact Nat.lt_of_le_of_lt (Nat.div_le_self _ _) (Nat.lt_trans h1 (two_lt_w (by omega)))
  · rw [p2]
    refine Nat.lt_of_le_of_lt (Nat.div_le_self _ _) (two_lt_w ?_)
    unfold upl
    omega
theorem cmp_neg (x y : Rat) : decide (cmpQ x y < 0) = decide (x < y) := by
  unfold cmpQ
  by_cases h : x < y
  · rw [if_pos h, decide_eq_true h]; rfl
  · rw [if_neg h, decide_eq_false h]
    split <;> rfl
set_option maxRecDepth 100000 in
set_option maxHeartbeats 16000000 in
theorem ieeeOrder.caseA (H : Int) (a b : Nat) (ha : a < 18446744073709551616) (hb : b < 18446744073709551616) (w : World) (htab : Tab w) (htb : TabB w) (e m : Nat) (he : 2 ≤ e) (he2 : e ≤ 8) (hm : 1 ≤ m) (hm2 : m ≤ 23) (hF : ∀ W, Calls Tryd.prog 7 #[.int .i64 (bits .and .i64 H 2), .int .i64 0, .int .i64 0] W fun E w' => E = .returned (.agg #[.int .i64 (e : Int), .int .i64 (m : Int)]) ∧ Below W.heap.size W w') (hcase : a % 2 ^ (e + m) < inf e m) :
    Calls Tryd.prog 5 #[.int .i64 H, .int .u64 (a : Int), .int .u64 (b : Int)] w fun e w' => e = .returned (.bool true) ∧ Below w.heap.size w w' := by
  have HAl := Lib.hid (alive_e w htab htb)
  have HF := Lib.hid hF
  have hp : e + m ≤ 63 := by omega
  have h31 : 2 ^ (e + m) ≤ 2 ^ 31 := Nat.pow_le_pow_right (by decide) (by omega)
  have hP0 : 0 < 2 ^ (e + m) := Nat.pow_pos (by decide)
  have hA := Nat.mod_lt a hP0
  have hB := Nat.mod_lt b hP0
  have ea := and_low (b := a) (p := e + m) ha hp
  have eb := and_low (b := b) (p := e + m) hb hp
  obtain ⟨A, hAe⟩ : ∃ x, a % 2 ^ (e + m) = x := ⟨_, rfl⟩
  obtain ⟨B, hBe⟩ : ∃ x, b % 2 ^ (e + m) = x := ⟨_, rfl⟩
  rw [hAe] at hA ea hcase
  rw [hBe] at hB eb
  have eo := or_add (x := A) (y := 2 ^ (e + m)) (k := e + m) hA (Nat.mod_self _) (by omega) (by omega)
  have eo' := or_add' (x := A) (y := 2 ^ (e + m)) (k := e + m) hA (Nat.mod_self _) (by omega) (by omega)
  have s1 := sh_one (p := e + m) hp
  have s2 := sh_one (p := e) (by omega)
  rw [Int.one_mul] at s1 s2
  have hinf : inf e m < 2 ^ (e + m) := by
    have h0 : 0 < 2 ^ m := Nat.pow_pos (by decide)
    unfold inf
    omega
  have htop : IntKind.u64.wrap ((((2 ^ e : Nat) : Int) - 1) * 2 ^ m) = ((inf e m : Nat) : Int) := by
    have h0 : 0 < 2 ^ e := Nat.pow_pos (by decide)
    have e2 : ((2 : Int) ^ m) = ((2 ^ m : Nat) : Int) := by rw [Int.natCast_pow]; rfl
    have e3 : ((2 ^ e : Nat) : Int) - 1 = ((2 ^ e - 1 : Nat) : Int) := by omega
    have e4 : (2 ^ e - 1) * 2 ^ m = inf e m := by unfold inf; rw [Nat.sub_mul, Nat.one_mul, Nat.pow_add]
    rw [e2, e3, ← Int.natCast_mul, e4, wrapu64 _ (by omega)]
  have zA : psz e m A = A ∧ png e m A = false := ⟨Nat.mod_eq_of_lt hA, decide_eq_false (by rw [Nat.div_eq_of_lt hA]; decide)⟩
  have zB : psz e m B = B ∧ png e m B = false := ⟨Nat.mod_eq_of_lt hB, decide_eq_false (by rw [Nat.div_eq_of_lt hB]; decide)⟩
  have zZ : psz e m (2 ^ (e + m) + A) = A ∧ png e m (2 ^ (e + m) + A) = true := ⟨by unfold psz; rw [Nat.add_mod_left, Nat.mod_eq_of_lt hA], decide_eq_true (by rw [Nat.add_div_left _ hP0, Nat.div_eq_of_lt hA])⟩
  have HDx : Hid (∀ W, Below w.heap.size w W → Calls Tryd.prog 8 #[.agg #[.int .i64 (e : Int), .int .i64 (m : Int)], .int .u64 (A : Int)] W (DcIs 1 (pnm e m A) W)) := Lib.hid (fun W hb => by
    have h := decode_any e m A he (by omega) hm (by omega) (by omega) W (htb.below hb (Nat.le_refl _))
    have hk : pkd e m A = 1 := by unfold pkd; rw [zA.1, if_neg (by omega), if_neg (by omega)]
    rw [hk] at h
    exact h)
  have HDz : Hid (∀ W, Below w.heap.size w W → Calls Tryd.prog 8 #[.agg #[.int .i64 (e : Int), .int .i64 (m : Int)], .int .u64 ((2 ^ (e + m) + A : Nat) : Int)] W (DcIs 1 (pnm e m (2 ^ (e + m) + A)) W)) := Lib.hid (fun W hb => by
    have h := decode_any e m (2 ^ (e + m) + A) he (by omega) hm (by omega) (by omega) W (htb.below hb (Nat.le_refl _))
    have hk : pkd e m (2 ^ (e + m) + A) = 1 := by unfold pkd; rw [zZ.1, if_neg (by omega), if_neg (by omega)]
    rw [hk] at h
    exact h)
  have HDy0 : Hid (∀ W, Below w.heap.size w W → Calls Tryd.prog 8 #[.agg #[.int .i64 (e : Int), .int .i64 (m : Int)], .int .u64 (B : Int)] W (DcIs (pkd e m B) (pnm e m B) W)) := Lib.hid (fun W hb => decode_any e m B he (by omega) hm (by omega) (by omega) W (htb.below hb (Nat.le_refl _)))
  have hk2 : (pkd e m B == 1) = decide (B < inf e m) := by
    unfold pkd
    rw [zB.1, zB.2]
    by_cases h1 : inf e m < B
    · rw [if_pos h1, decide_eq_false (by omega)]; rfl
    · by_cases h2 : B = inf e m
      · rw [if_neg h1, if_pos h2, decide_eq_false (by omega)]; rfl
      · rw [if_neg h1, if_neg h2, decide_eq_true (by omega)]; rfl
  have hYn : B < inf e m → pnm e m B = vQ e m false B := fun h => by unfold pnm; rw [zB.1, zB.2, if_pos h]
  obtain ⟨K2, hK2⟩ : ∃ x, pkd e m B = x := ⟨_, rfl⟩
  rw [hK2] at HDy0 hk2
  have hXv : pnm e m A = vQ e m false A := by unfold pnm; rw [zA.1, zA.2, if_pos hcase]
  have hZv : pnm e m (2 ^ (e + m) + A) = 0 - pnm e m A := by rw [hXv, ← vq_neg]; unfold pnm; rw [zZ.1, zZ.2, if_pos hcase]
  have hsx : Sz 6 (pnm e m A) := by rw [hXv]; exact vq_sz e m A false he2 hm2 hA
  have hsz : Sz 6 (pnm e m (2 ^ (e + m) + A)) := by rw [hZv, hXv, ← vq_neg]; exact vq_sz e m A true he2 hm2 hA
  obtain ⟨MX, hMX⟩ : ∃ x, 0 - pnm e m A = x := ⟨_, rfl⟩
  have HSb : Hid (∀ W va vb, Below w.heap.size w W → IsR W va 0 → IsR W vb (pnm e m A) → Calls Tryd.prog 19 #[va, vb] W (GaveR MX W)) := Lib.hid (fun W va vb hb h1 h2 => by
    have h := subr_any 0 (pnm e m A) 1 6 va vb W h1 h2 (sz_zero 1 (by omega)) hsx (by omega) (htb.below hb (Nat.le_refl _))
    rw [hMX] at h
    exact h)
  have HSm : Hid (∀ W va vb, IsR W va (pnm e m (2 ^ (e + m) + A)) → IsR W vb MX → Calls Tryd.prog 18 #[va, vb] W fun e w' => e = .returned (.bool true) ∧ Below W.heap.size W w') := Lib.hid (fun W va vb h1 h2 => by
    rw [← hMX, ← hZv] at h2
    have h := same_any _ _ va vb W h1 h2 (hsz.mono (by omega)) (hsz.mono (by omega))
    rw [decide_eq_true rfl] at h
    exact h)
  have HCm : Hid (B < inf e m → ∀ W va vb, IsR W va (pnm e m A) → IsR W vb (pnm e m B) → Calls Tryd.prog 20 #[va, vb] W fun E w' => E = .returned (.int .i64 (cmpQ (pnm e m A) (pnm e m B))) ∧ Below W.heap.size W w') := Lib.hid (fun hlt W va vb h1 h2 => cmpr_any _ _ va vb W h1 h2 (hsx.mono (by omega)) (by rw [hYn hlt]; exact (vq_sz e m B false he2 hm2 hB).mono (by omega)))
  have HLt : Hid (B < inf e m → decide (cmpQ (pnm e m A) (pnm e m B) < 0) = decide (A < B)) := Lib.hid (fun hlt => by rw [cmp_neg, hXv, hYn hlt]; exact decide_eq_decide.2 (vq_lt e m A B))
  obtain ⟨X, hX⟩ : ∃ x, pnm e m A = x := ⟨_, rfl⟩
  obtain ⟨Y, hY⟩ : ∃ x, pnm e m B = x := ⟨_, rfl⟩
  obtain ⟨Z, hZ⟩ : ∃ x, pnm e m (2 ^ (e + m) + A) = x := ⟨_, rfl⟩
  rw [hX] at HDx
  rw [hY] at HDy0 hYn
  rw [hZ] at HDz
  obtain ⟨AI, hAI⟩ : ∃ x : Int, (A : Int) = x := ⟨_, rfl⟩
  obtain ⟨BI, hBI⟩ : ∃ x : Int, (B : Int) = x := ⟨_, rfl⟩
  obtain ⟨ZI, hZI⟩ : ∃ x : Int, ((2 ^ (e + m) + A : Nat) : Int) = x := ⟨_, rfl⟩
  obtain ⟨PI, hPI⟩ : ∃ x : Int, ((2 ^ (e + m) : Nat) : Int) = x := ⟨_, rfl⟩
  obtain ⟨PM, hPM⟩ : ∃ x : Int, PI - 1 = x := ⟨_, rfl⟩
  obtain ⟨QE, hQE⟩ : ∃ x : Int, ((2 ^ e : Nat) : Int) = x := ⟨_, rfl⟩
  obtain ⟨QM, hQM⟩ : ∃ x : Int, QE - 1 = x := ⟨_, rfl⟩
  obtain ⟨TOP, hTOP⟩ : ∃ x : Int, ((inf e m : Nat) : Int) = x := ⟨_, rfl⟩
  rw [hAI] at HDx ea
  rw [hBI] at HDy0 eb
  rw [hZI] at HDz
  rw [hPI, hPM] at ea eb
  rw [hAI, hPI, hZI] at eo eo'
  rw [hPI] at s1
  rw [hQE] at s2
  rw [hQE, hQM, hTOP] at htop
  obtain ⟨aI, haI⟩ : ∃ x : Int, (a : Int) = x := ⟨_, rfl⟩
  obtain ⟨bI, hbI⟩ : ∃ x : Int, (b : Int) = x := ⟨_, rfl⟩
  rw [haI] at ea ⊢
  rw [hbI] at eb ⊢
  have t1 : ((e : Int) + (m : Int)).toNat = e + m := by omega
  have t2 : ((e : Int)).toNat = e := by omega
  have t3 : ((m : Int)).toNat = m := by omega
  have hPI0 : 1 ≤ PI := by omega
  have hPI1 : PI ≤ 2147483648 := by omega
  have hQE0 : 1 ≤ QE := by have : 0 < 2 ^ e := Nat.pow_pos (by decide); omega
  have hQE1 : QE ≤ 256 := by have : 2 ^ e ≤ 2 ^ 8 := Nat.pow_le_pow_right (by decide) he2; omega
  rw [hZ] at HSm
  rw [hX] at HSb HCm HLt
  rw [hY] at HCm HLt
  have d1 : decide (AI < TOP) = true := decide_eq_true (by omega)
  have d2 : (AI == TOP) = false := by simp; omega
  have d3 : decide (TOP < AI) = false := decide_eq_false (by omega)
  clear hXv hZv hsx hsz hMX
  have HfinY := Lib.hid (And.intro hk2 (And.intro hYn (And.intro hBI hTOP)))
  have Hcase := Lib.hid (And.intro hcase hAI)
  have HXY := Lib.hid (And.intro hX hY)
  have HhB := Lib.hid hB
  clear hF hp h31 hP0 hA hB hAe hBe hinf zA zB zZ hk2 hYn hK2 hX hY hZ hAI hBI hZI hPI hQE hTOP haI hbI htab htb hcase ha hb
  go_enter Tryd.func5, Tryd.ntmps5
  go_wp2_with fail
  refine HAl.out.mono ?_
  rintro E w0 ⟨rfl, hb⟩
  have V0 := (Mq.refl w).below hb
  clear hb HAl
  go_wp2_with fail
  refine (HF.out _).mono ?_
  rintro E w1 ⟨rfl, hb⟩
  have V1 := (V0.below hb).alloc 25 #[.int .i64 (e : Int), .int .i64 (m : Int)]
  clear V0 hb HF
  have q0 := V1.f0 0 rfl; have q1 := V1.f1 0 rfl
  go_wp2_with fail
  refine (HDx.out _ V1.bel).mono ?_
  rintro E w2 ⟨v, rfl, hr, hb⟩
  have V2' := (V1.below hb).rcons hr
  obtain ⟨px, nx, cx, px', nx', cx', rfl, -, -⟩ := hr
  obtain ⟨zx, hz⟩ : ∃ z, decide (X.num < 0) = z := ⟨_, rfl⟩
  rw [hz] at V2' ⊢
  have V2 := V2'.alloc 31 #[.bool zx, .slice px nx cx, .slice px' nx' cx']
  clear V1 V2' hb hz HDx q0 q1
  have q0 := V2.f0 1 rfl; have q1 := V2.f1 1 rfl
  go_wp2_with fail
  refine (HDy0.out _ V2.bel).mono ?_
  rintro E w3 ⟨v, rfl, hr, hb⟩
  have V3' := (V2.below hb).rcons hr
  obtain ⟨py, ny, cy, py', ny', cy', rfl, -, -⟩ := hr
  obtain ⟨zy, hz⟩ : ∃ z, decide (Y.num < 0) = z := ⟨_, rfl⟩
  rw [hz] at V3' ⊢
  have V3 := V3'.alloc 31 #[.bool zy, .slice py ny cy, .slice py' ny' cy']
  clear V2 V3' hb hz HDy0 q0 q1
  have q0 := V3.f0 2 rfl; have q1 := V3.f1 2 rfl
  go_wp2_with fail
  refine (HDz.out _ V3.bel).mono ?_
  rintro E w4 ⟨v, rfl, hr, hb⟩
  have V4' := (V3.below hb).rcons hr
  obtain ⟨pz, nz, cz, pz', nz', cz', rfl, -, -⟩ := hr
  obtain ⟨zz, hz⟩ : ∃ z, decide (Z.num < 0) = z := ⟨_, rfl⟩
  rw [hz] at V4' ⊢
  have V4 := V4'.alloc 31 #[.bool zz, .slice pz nz cz, .slice pz' nz' cz']
  clear V3 V4' hb hz HDz q0 q1
  have q0 := V4.f0 3 rfl; have q1 := V4.f1 3 rfl
  go_wp2_with fail
  go_quiet (fail)
  have V5 := V4.dn nq
  clear V4 q0 q1
  go_wp2_with fail
  obtain ⟨W6, hW6⟩ : ∃ W6, (w4.alloc (.cells #[.bool zz, .slice pz nz cz, .slice pz' nz' cz'] 31)).drewN nq = W6 := ⟨_, rfl⟩
  rw [hW6] at V5 ⊢
  have V6 := V5
  clear V5
  have V6d := V6.drew
  clear V6
  refine wp_region_held_drew (S := (fun W => (W.cell? ⟨w4.heap.size, 0, none⟩ = some (.bool zz) ∧ W.cell? ⟨w4.heap.size, 1, none⟩ = some (.slice pz nz cz) ∧ W.cell? ⟨w4.heap.size, 2, none⟩ = some (.slice pz' nz' cz')) ∧ (W.cell? ⟨w2.heap.size, 0, none⟩ = some (.bool zx) ∧ W.cell? ⟨w2.heap.size, 1, none⟩ = some (.slice px nx cx) ∧ W.cell? ⟨w2.heap.size, 2, none⟩ = some (.slice px' nx' cx')))) (by kernel_rfl) ?_ (fun hHeld => ?_)
  · exact ⟨⟨V6d.c0 0 rfl, V6d.c1 0 rfl, V6d.c2 0 rfl⟩, V6d.c0 2 rfl, V6d.c1 2 rfl, V6d.c2 2 rfl⟩
  refine wpAnyH_take (i := 0) (oi := { dst := some 84, op := Op.move (Operand.tmp 10), type := 3, pos := "more.go:25", after := #[], guard := none }) (v := ?_) rfl (by kernel_rfl) (by kernel_rfl) (by kernel_rfl) (fun _ _ _ h => h) (Or.inl ⟨by rfl, ?_⟩) (by assumption) ?_
  rotate_left
  · intro w hSw; (try dsimp only at hSw); go_simp; (try with_reducible rfl)
  try simp only [Act.put, List.setIfInBounds_toArray, List.set_cons_zero, List.set_cons_succ]
  refine wpAnyH_take (i := 1) (oi := { dst := some 85, op := Op.binOp BinOp.eql 3 (Operand.tmp 84) (Operand.const (Value.int IntKind.i64 1)) 3, type := 4, pos := "more.go:25", after := #[{ on := 0, ground := Ground.data }], guard := none }) (v := ?_) rfl (by kernel_rfl) (by kernel_rfl) (by kernel_rfl) (fun _ _ _ h => h) (Or.inl ⟨by rfl, ?_⟩) (by assumption) ?_
  rotate_left
  · intro w hSw; (try dsimp only at hSw); go_simp; (try with_reducible rfl)
  try simp only [Act.put, List.setIfInBounds_toArray, List.set_cons_zero, List.set_cons_succ]
  refine wpAnyH_take (i := 2) (oi := { dst := some 86, op := Op.move (Operand.tmp 85), type := 4, pos := "more.go:25", after := #[{ on := 1, ground := Ground.data }], guard := none }) (v := ?_) rfl (by kernel_rfl) (by kernel_rfl) (by kernel_rfl) (fun _ _ _ h => h) (Or.inl ⟨by rfl, ?_⟩) (by assumption) ?_
  rotate_left
  · intro w hSw; (try dsimp only at hSw); go_simp; (try with_reducible rfl)
  try simp only [Act.put, List.setIfInBounds_toArray, List.set_cons_zero, List.set_cons_succ]
  refine wpAnyH_take (i := 3) (oi := { dst := some 87, op := Op.move (Operand.tmp 14), type := 3, pos := "more.go:25", after := #[{ on := 2, ground := Ground.guard }], guard := some (2, true) }) (v := ?_) rfl (by kernel_rfl) (by kernel_rfl) (by kernel_rfl) (fun _ _ _ h => h) (Or.inl ⟨by rfl, ?_⟩) (by assumption) ?_
  rotate_left
  · intro w hSw; (try dsimp only at hSw); go_simp; (try with_reducible rfl)
  try simp only [Act.put, List.setIfInBounds_toArray, List.set_cons_zero, List.set_cons_succ]
  refine wpAnyH_take (i := 4) (oi := { dst := some 88, op := Op.binOp BinOp.neq 3 (Operand.tmp 87) (Operand.const (Value.int IntKind.i64 1)) 3, type := 4, pos := "more.go:25", after := #[{ on := 3, ground := Ground.data }, { on := 2, ground := Ground.guard }], guard := some (2, true) }) (v := ?_) rfl (by kernel_rfl) (by kernel_rfl) (by kernel_rfl) (fun _ _ _ h => h) (Or.inl ⟨by rfl, ?_⟩) (by assumption) ?_
  rotate_left
  · intro w hSw; (try dsimp only at hSw); go_simp; (try with_reducible rfl)
  try simp only [Act.put, List.setIfInBounds_toArray, List.set_cons_zero, List.set_cons_succ]
  refine wpAnyH_take (i := 5) (oi := { dst := some 89, op := Op.move (Operand.tmp 88), type := 4, pos := "more.go:25", after := #[{ on := 4, ground := Ground.data }, { on := 2, ground := Ground.chain }, { on := 2, ground := Ground.guard }], guard := some (2, true) }) (v := ?_) rfl (by kernel_rfl) (by kernel_rfl) (by kernel_rfl) (fun _ _ _ h => h) (Or.inl ⟨by rfl, ?_⟩) (by assumption) ?_
  rotate_left
  · intro w hSw; (try dsimp only at hSw); go_simp; (try with_reducible rfl)
  try simp only [Act.put, List.setIfInBounds_toArray, List.set_cons_zero, List.set_cons_succ]
  refine wpAnyH_take (i := 6) (oi := { dst := some 90, op := Op.load 31 (Operand.tmp 13), type := 31, pos := "more.go:25", after := #[{ on := 5, ground := Ground.guard }], guard := some (5, false) }) (v := ?_) rfl (by kernel_rfl) (by kernel_rfl) (by kernel_rfl) (fun _ _ _ h => h) (Or.inl ⟨by rfl, ?_⟩) (by assumption) ?_
  rotate_left
  · intro w hSw; (try dsimp only at hSw); go_simp; (try with_reducible rfl)
  try simp only [Act.put, List.setIfInBounds_toArray, List.set_cons_zero, List.set_cons_succ]
  refine wpAnyH_take (i := 7) (oi := { dst := some 91, op := Op.build 31 #[], type := 31, pos := "more.go:25", after := #[{ on := 5, ground := Ground.guard }], guard := some (5, false) }) (v := ?_) rfl (by kernel_rfl) (by kernel_rfl) (by kernel_rfl) (fun _ _ _ h => h) (Or.inl ⟨by rfl, ?_⟩) (by assumption) ?_
  rotate_left
  · intro w hSw; (try dsimp only at hSw); go_simp; (try with_reducible rfl)
  try simp only [Act.put, List.setIfInBounds_toArray, List.set_cons_zero, List.set_cons_succ]
  refine wpAnyH_take (i := 8) (oi := { dst := some 92, op := Op.load 31 (Operand.tmp 9), type := 31, pos := "more.go:25", after := #[{ on := 5, ground := Ground.guard }], guard := some (5, false) }) (v := ?_) rfl (by kernel_rfl) (by kernel_rfl) (by kernel_rfl) (fun _ _ _ h => h) (Or.inl ⟨by rfl, ?_⟩) (by assumption) ?_
  rotate_left
  · intro w hSw; (try dsimp only at hSw); go_simp; (try with_reducible rfl)
  try simp only [Act.put, List.setIfInBounds_toArray, List.set_cons_zero, List.set_cons_succ]
  refine wpAnyH_ready (rs := [9]) (by kernel_rfl) (by simp) ?_
  refine AllReadyH.cons (o := { dst := some 93, op := Op.call { callee := Callee.value (Operand.func 19), args := #[Operand.tmp 91, Operand.tmp 92], argTypes := #[31, 31] }, type := 31, pos := "more.go:25", after := #[{ on := 7, ground := Ground.data }, { on := 8, ground := Ground.data }, { on := 5, ground := Ground.chain }, { on := 5, ground := Ground.guard }], guard := some (5, false) }) rfl (fun K hK => ?_) AllReadyH.nil
  go_simp
  go_at_call 19; refine (HSb.out _ _ _ V6d.bel (isR_zero _) (V6d.rat 2 _ _ rfl)).mono ?_; rintro e w9 ⟨v9, rfl, hr9, hb9⟩; have V9 := (V6d.below hb9).rcons hr9; clear hr9 hb9
  refine hK.out _ _ ?_ (fun hHeld => ?_)
  · first | exact ⟨⟨V10.c0 0 rfl, V10.c1 0 rfl, V10.c2 0 rfl⟩, V10.c0 2 rfl, V10.c1 2 rfl, V10.c2 2 rfl⟩ | exact ⟨⟨V9.c0 0 rfl, V9.c1 0 rfl, V9.c2 0 rfl⟩, V9.c0 2 rfl, V9.c1 2 rfl, V9.c2 2 rfl⟩
  clear hK K
  try simp only [Act.put, List.setIfInBounds_toArray, List.set_cons_zero, List.set_cons_succ]
  refine wpAnyH_ready (rs := [10]) (by kernel_rfl) (by simp) ?_
  refine AllReadyH.cons (o := { dst := some 94, op := Op.call { callee := Callee.value (Operand.func 18), args := #[Operand.tmp 90, Operand.tmp 93], argTypes := #[31, 31] }, type := 4, pos := "more.go:25", after := #[{ on := 6, ground := Ground.data }, { on := 9, ground := Ground.data }, { on := 9, ground := Ground.chain }, { on := 5, ground := Ground.guard }], guard := some (5, false) }) rfl (fun K hK => ?_) AllReadyH.nil
  go_simp
  go_at_call 18; refine (HSm.out _ _ _ (V9.rat 1 _ _ rfl) (V9.rat 0 _ _ rfl)).mono ?_; rintro e w10 ⟨rfl, hb10⟩; have V10 := V9.below hb10; clear V9 hb10
  refine hK.out _ _ ?_ (fun hHeld => ?_)
  · first | exact ⟨⟨V10.c0 0 rfl, V10.c1 0 rfl, V10.c2 0 rfl⟩, V10.c0 2 rfl, V10.c1 2 rfl, V10.c2 2 rfl⟩ | exact ⟨⟨V9.c0 0 rfl, V9.c1 0 rfl, V9.c2 0 rfl⟩, V9.c0 2 rfl, V9.c1 2 rfl, V9.c2 2 rfl⟩
  clear hK K
  try simp only [Act.put, List.setIfInBounds_toArray, List.set_cons_zero, List.set_cons_succ]
  refine wpAnyH_take (i := 11) (oi := { dst := some 95, op := Op.unOp UnOp.not 4 (Operand.tmp 94), type := 4, pos := "more.go:25", after := #[{ on := 10, ground := Ground.data }, { on := 5, ground := Ground.guard }], guard := some (5, false) }) (v := ?_) rfl (by kernel_rfl) (by kernel_rfl) (by kernel_rfl) (fun _ _ _ h => h) (Or.inl ⟨by rfl, ?_⟩) (by assumption) ?_
  rotate_left
  · intro w hSw; (try dsimp only at hSw); go_simp; (try with_reducible rfl)
  try simp only [Act.put, List.setIfInBounds_toArray, List.set_cons_zero, List.set_cons_succ]
  refine wpAnyH_take (i := 12) (oi := { dst := some 96, op := Op.pick (Operand.tmp 89) (Operand.const (Value.bool true)) (Operand.tmp 95), type := 4, pos := "more.go:25", after := #[{ on := 5, ground := Ground.data }, { on := 11, ground := Ground.data }, { on := 2, ground := Ground.guard }], guard := some (2, true) }) (v := ?_) rfl (by kernel_rfl) (by kernel_rfl) (by kernel_rfl) (fun _ _ _ h => h) (Or.inl ⟨by rfl, ?_⟩) (by assumption) ?_
  rotate_left
  · intro w hSw; (try dsimp only at hSw); go_simp; (try with_reducible rfl)
  try simp only [Act.put, List.setIfInBounds_toArray, List.set_cons_zero, List.set_cons_succ]
  refine wpAnyH_take (i := 13) (oi := { dst := some 97, op := Op.pick (Operand.tmp 86) (Operand.tmp 96) (Operand.const (Value.bool false)), type := 4, pos := "more.go:25", after := #[{ on := 2, ground := Ground.data }, { on := 12, ground := Ground.data }], guard := none }) (v := ?_) rfl (by kernel_rfl) (by kernel_rfl) (by kernel_rfl) (fun _ _ _ h => h) (Or.inl ⟨by rfl, ?_⟩) (by assumption) ?_
  rotate_left
  · intro w hSw; (try dsimp only at hSw); go_simp; (try with_reducible rfl)
  try simp only [Act.put, List.setIfInBounds_toArray, List.set_cons_zero, List.set_cons_succ]
  refine wpAnyH_take (i := 14) (oi := { dst := some 98, op := Op.move (Operand.tmp 97), type := 4, pos := "more.go:25", after := #[{ on := 13, ground := Ground.data }, { on := 10, ground := Ground.chain }], guard := none }) (v := ?_) rfl (by kernel_rfl) (by kernel_rfl) (by kernel_rfl) (fun _ _ _ h => h) (Or.inl ⟨by rfl, ?_⟩) (by assumption) ?_
  rotate_left
  · intro w hSw; (try dsimp only at hSw); go_simp; (try with_reducible rfl)
  try simp only [Act.put, List.setIfInBounds_toArray, List.set_cons_zero, List.set_cons_succ]
  refine wpAnyH_take (i := 15) (oi := { dst := some 99, op := Op.move (Operand.tmp 10), type := 3, pos := "more.go:25", after := #[{ on := 14, ground := Ground.guard }], guard := some (14, false) }) (v := ?_) rfl (by kernel_rfl) (by kernel_rfl) (by kernel_rfl) (fun _ _ _ h => h) (Or.inl ⟨by rfl, ?_⟩) (by assumption) ?_
  rotate_left
  · intro w hSw; (try dsimp only at hSw); go_simp; (try with_reducible rfl)
  try simp only [Act.put, List.setIfInBounds_toArray, List.set_cons_zero, List.set_cons_succ]
  refine wpAnyH_take (i := 16) (oi := { dst := some 100, op := Op.binOp BinOp.eql 3 (Operand.tmp 99) (Operand.const (Value.int IntKind.i64 2)) 3, type := 4, pos := "more.go:25", after := #[{ on := 15, ground := Ground.data }, { on := 14, ground := Ground.guard }], guard := some (14, false) }) (v := ?_) rfl (by kernel_rfl) (by kernel_rfl) (by kernel_rfl) (fun _ _ _ h => h) (Or.inl ⟨by rfl, ?_⟩) (by assumption) ?_
  rotate_left
  · intro w hSw; (try dsimp only at hSw); go_simp; (try with_reducible rfl)
  try simp only [Act.put, List.setIfInBounds_toArray, List.set_cons_zero, List.set_cons_succ]
  refine wpAnyH_take (i := 17) (oi := { dst := some 101, op := Op.move (Operand.tmp 100), type := 4, pos := "more.go:25", after := #[{ on := 16, ground := Ground.data }, { on := 14, ground := Ground.chain }, { on := 14, ground := Ground.guard }], guard := some (14, false) }) (v := ?_) rfl (by kernel_rfl) (by kernel_rfl) (by kernel_rfl) (fun _ _ _ h => h) (Or.inl ⟨by rfl, ?_⟩) (by assumption) ?_
  rotate_left
  · intro w hSw; (try dsimp only at hSw); go_simp; (try with_reducible rfl)
  try simp only [Act.put, List.setIfInBounds_toArray, List.set_cons_zero, List.set_cons_succ]
  refine wpAnyH_take (i := 18) (oi := { dst := some 102, op := Op.move (Operand.tmp 14), type := 3, pos := "more.go:25", after := #[{ on := 17, ground := Ground.guard }], guard := some (17, true) }) (v := undef) rfl (by kernel_rfl) (by kernel_rfl) (by kernel_rfl) (fun _ _ _ h => h) (Or.inr ⟨by rfl, rfl⟩) (by assumption) ?_
  try simp only [Act.put, List.setIfInBounds_toArray, List.set_cons_zero, List.set_cons_succ]
  refine wpAnyH_take (i := 19) (oi := { dst := some 103, op := Op.binOp BinOp.neq 3 (Operand.tmp 102) (Operand.const (Value.int IntKind.i64 3)) 3, type := 4, pos := "more.go:25", after := #[{ on := 18, ground := Ground.data }, { on := 17, ground := Ground.guard }], guard := some (17, true) }) (v := undef) rfl (by kernel_rfl) (by kernel_rfl) (by kernel_rfl) (fun _ _ _ h => h) (Or.inr ⟨by rfl, rfl⟩) (by assumption) ?_
  try simp only [Act.put, List.setIfInBounds_toArray, List.set_cons_zero, List.set_cons_succ]
  refine wpAnyH_take (i := 20) (oi := { dst := some 104, op := Op.pick (Operand.tmp 101) (Operand.tmp 103) (Operand.const (Value.bool false)), type := 4, pos := "more.go:25", after := #[{ on := 17, ground := Ground.data }, { on := 19, ground := Ground.data }, { on := 14, ground := Ground.guard }], guard := some (14, false) }) (v := ?_) rfl (by kernel_rfl) (by kernel_rfl) (by kernel_rfl) (fun _ _ _ h => h) (Or.inl ⟨by rfl, ?_⟩) (by assumption) ?_
  rotate_left
  · intro w hSw; (try dsimp only at hSw); go_simp; (try with_reducible rfl)
  try simp only [Act.put, List.setIfInBounds_toArray, List.set_cons_zero, List.set_cons_succ]
  refine wpAnyH_take (i := 21) (oi := { dst := some 105, op := Op.pick (Operand.tmp 98) (Operand.const (Value.bool true)) (Operand.tmp 104), type := 4, pos := "more.go:25", after := #[{ on := 14, ground := Ground.data }, { on := 20, ground := Ground.data }], guard := none }) (v := ?_) rfl (by kernel_rfl) (by kernel_rfl) (by kernel_rfl) (fun _ _ _ h => h) (Or.inl ⟨by rfl, ?_⟩) (by assumption) ?_
  rotate_left
  · intro w hSw; (try dsimp only at hSw); go_simp; (try with_reducible rfl)
  try simp only [Act.put, List.setIfInBounds_toArray, List.set_cons_zero, List.set_cons_succ]
  refine wpAnyH_take (i := 22) (oi := { dst := some 106, op := Op.move (Operand.tmp 105), type := 4, pos := "more.go:25", after := #[{ on := 21, ground := Ground.data }, { on := 17, ground := Ground.chain }], guard := none }) (v := ?_) rfl (by kernel_rfl) (by kernel_rfl) (by kernel_rfl) (fun _ _ _ h => h) (Or.inl ⟨by rfl, ?_⟩) (by assumption) ?_
  rotate_left
  · intro w hSw; (try dsimp only at hSw); go_simp; (try with_reducible rfl)
  try simp only [Act.put, List.setIfInBounds_toArray, List.set_cons_zero, List.set_cons_succ]
  refine wpAnyH_take (i := 23) (oi := { dst := some 107, op := Op.move (Operand.tmp 10), type := 3, pos := "more.go:25", after := #[{ on := 22, ground := Ground.guard }], guard := some (22, false) }) (v := ?_) rfl (by kernel_rfl) (by kernel_rfl) (by kernel_rfl) (fun _ _ _ h => h) (Or.inl ⟨by rfl, ?_⟩) (by assumption) ?_
  rotate_left
  · intro w hSw; (try dsimp only at hSw); go_simp; (try with_reducible rfl)
  try simp only [Act.put, List.setIfInBounds_toArray, List.set_cons_zero, List.set_cons_succ]
  refine wpAnyH_take (i := 24) (oi := { dst := some 108, op := Op.binOp BinOp.eql 3 (Operand.tmp 107) (Operand.const (Value.int IntKind.i64 4)) 3, type := 4, pos := "more.go:25", after := #[{ on := 23, ground := Ground.data }, { on := 22, ground := Ground.guard }], guard := some (22, false) }) (v := ?_) rfl (by kernel_rfl) (by kernel_rfl) (by kernel_rfl) (fun _ _ _ h => h) (Or.inl ⟨by rfl, ?_⟩) (by assumption) ?_
  rotate_left
  · intro w hSw; (try dsimp only at hSw); go_simp; (try with_reducible rfl)
  try simp only [Act.put, List.setIfInBounds_toArray, List.set_cons_zero, List.set_cons_succ]
  refine wpAnyH_take (i := 25) (oi := { dst := some 109, op := Op.move (Operand.tmp 108), type := 4, pos := "more.go:25", after := #[{ on := 24, ground := Ground.data }, { on := 22, ground := Ground.chain }, { on := 22, ground := Ground.guard }], guard := some (22, false) }) (v := ?_) rfl (by kernel_rfl) (by kernel_rfl) (by kernel_rfl) (fun _ _ _ h => h) (Or.inl ⟨by rfl, ?_⟩) (by assumption) ?_
  rotate_left
  · intro w hSw; (try dsimp only at hSw); go_simp; (try with_reducible rfl)
  try simp only [Act.put, List.setIfInBounds_toArray, List.set_cons_zero, List.set_cons_succ]
  refine wpAnyH_take (i := 26) (oi := { dst := some 110, op := Op.move (Operand.tmp 14), type := 3, pos := "more.go:25", after := #[{ on := 25, ground := Ground.guard }], guard := some (25, true) }) (v := undef) rfl (by kernel_rfl) (by kernel_rfl) (by kernel_rfl) (fun _ _ _ h => h) (Or.inr ⟨by rfl, rfl⟩) (by assumption) ?_
  try simp only [Act.put, List.setIfInBounds_toArray, List.set_cons_zero, List.set_cons_succ]
  refine wpAnyH_take (i := 27) (oi := { dst := some 111, op := Op.binOp BinOp.neq 3 (Operand.tmp 110) (Operand.const (Value.int IntKind.i64 4)) 3, type := 4, pos := "more.go:25", after := #[{ on := 26, ground := Ground.data }, { on := 25, ground := Ground.guard }], guard := some (25, true) }) (v := undef) rfl (by kernel_rfl) (by kernel_rfl) (by kernel_rfl) (fun _ _ _ h => h) (Or.inr ⟨by rfl, rfl⟩) (by assumption) ?_
  try simp only [Act.put, List.setIfInBounds_toArray, List.set_cons_zero, List.set_cons_succ]
  refine wpAnyH_take (i := 28) (oi := { dst := some 112, op := Op.pick (Operand.tmp 109) (Operand.tmp 111) (Operand.const (Value.bool false)), type := 4, pos := "more.go:25", after := #[{ on := 25, ground := Ground.data }, { on := 27, ground := Ground.data }, { on := 22, ground := Ground.guard }], guard := some (22, false) }) (v := ?_) rfl (by kernel_rfl) (by kernel_rfl) (by kernel_rfl) (fun _ _ _ h => h) (Or.inl ⟨by rfl, ?_⟩) (by assumption) ?_
  rotate_left
  · intro w hSw; (try dsimp only at hSw); go_simp; (try with_reducible rfl)
  try simp only [Act.put, List.setIfInBounds_toArray, List.set_cons_zero, List.set_cons_succ]
  refine wpAnyH_take (i := 29) (oi := { dst := some 113, op := Op.pick (Operand.tmp 106) (Operand.const (Value.bool true)) (Operand.tmp 112), type := 4, pos := "more.go:25", after := #[{ on := 22, ground := Ground.data }, { on := 28, ground := Ground.data }], guard := none }) (v := ?_) rfl (by kernel_rfl) (by kernel_rfl) (by kernel_rfl) (fun _ _ _ h => h) (Or.inl ⟨by rfl, ?_⟩) (by assumption) ?_
  rotate_left
  · intro w hSw; (try dsimp only at hSw); go_simp; (try with_reducible rfl)
  try simp only [Act.put, List.setIfInBounds_toArray, List.set_cons_zero, List.set_cons_succ]
  refine wpAnyH_done (by kernel_rfl) ?_ _
  have V7 := V10
  clear V10 V6d
  obtain ⟨hk2, hYn, hBI, hTOP⟩ := HfinY.out
  by_cases hlt : B < inf e m
  · have hk : (K2 == 1) = true := by rw [hk2, decide_eq_true hlt]
    have hk1 : K2 = 1 := by simpa using hk
    have HCf := Lib.hid (HCm.out hlt)
    have hd := HLt.out hlt
    obtain ⟨C, hC⟩ : ∃ x, cmpQ X Y = x := ⟨_, rfl⟩
    rw [hC] at HCf hd
    have hAB : decide (AI < BI) = decide (A < B) := decide_eq_decide.2 (by have := Hcase.out.2; omega)
    obtain ⟨g, hg⟩ : ∃ x, decide (A < B) = x := ⟨_, rfl⟩
    rw [hg] at hAB hd
    have a0 := V7.c0 2 rfl; have a1 := V7.c1 2 rfl; have a2 := V7.c2 2 rfl
    have b0 := V7.c0 1 rfl; have b1 := V7.c1 1 rfl; have b2 := V7.c2 1 rfl
    clear hk2 hYn hBI hTOP hlt hC hg HCm HLt hk HfinY
    subst hk1
    go_wp2_with fail
    refine (HCf.out _ _ _ (V7.rat 3 _ _ rfl) (V7.rat 2 _ _ rfl)).mono ?_
    rintro E w8 ⟨rfl, hb⟩
    have HB := Lib.hid (V7.below hb).bel
    clear V7 hb a0 a1 a2 b0 b1 b2
    cases g with
    | true =>
      go_wp2_with fail
      go_ret
      exact ⟨rfl, HB.out⟩
    | false =>
      go_wp2_with fail
      go_ret
      exact ⟨rfl, HB.out⟩
  · have hk : (K2 == 1) = false := by rw [hk2, decide_eq_false hlt]
    have hk1 : ¬ K2 = 1 := by simpa using hk
    have hk3 : (K2 != 1) = true := by simpa using hk1
    have HB := Lib.hid V7.bel
    clear V7 hk2 hYn hBI hTOP hlt
    go_wp2_with fail
    go_ret
    exact ⟨rfl, HB.out⟩
set_option maxRecDepth 100000 in
set_option maxHeartbeats 16000000 in
theorem ieeeOrder.caseB (H : Int) (a b : Nat) (ha : a < 18446744073709551616) (hb : b < 18446744073709551616) (w : World) (htab : Tab w) (htb : TabB w) (e m : Nat) (he : 2 ≤ e) (he2 : e ≤ 8) (hm : 1 ≤ m) (hm2 : m ≤ 23) (hF : ∀ W, Calls Tryd.prog 7 #[.int .i64 (bits .and .i64 H 2), .int .i64 0, .int .i64 0] W fun E w' => E = .returned (.agg #[.int .i64 (e : Int), .int .i64 (m : Int)]) ∧ Below W.heap.size W w') (hcase : a % 2 ^ (e + m) = inf e m) :
    Calls Tryd.prog 5 #[.int .i64 H, .int .u64 (a : Int), .int .u64 (b : Int)] w fun e w' => e = .returned (.bool true) ∧ Below w.heap.size w w' := by
  have HAl := Lib.hid (alive_e w htab htb)
  have HF := Lib.hid hF
  have hp : e + m ≤ 63 := by omega
  have h31 : 2 ^ (e + m) ≤ 2 ^ 31 := Nat.pow_le_pow_right (by decide) (by omega)
  have hP0 : 0 < 2 ^ (e + m) := Nat.pow_pos (by decide)
  have hA := Nat.mod_lt a hP0
  have hB := Nat.mod_lt b hP0
  have ea := and_low (b := a) (p := e + m) ha hp
  have eb := and_low (b := b) (p := e + m) hb hp
  obtain ⟨A, hAe⟩ : ∃ x, a % 2 ^ (e + m) = x := ⟨_, rfl⟩
  obtain ⟨B, hBe⟩ : ∃ x, b % 2 ^ (e + m) = x := ⟨_, rfl⟩
  rw [hAe] at hA ea hcase
  rw [hBe] at hB eb
  have eo := or_add (x := A) (y := 2 ^ (e + m)) (k := e + m) hA (Nat.mod_self _) (by omega) (by omega)
  have eo' := or_add' (x := A) (y := 2 ^ (e + m)) (k := e + m) hA (Nat.mod_self _) (by omega) (by omega)
  have s1 := sh_one (p := e + m) hp
  have s2 := sh_one (p := e) (by omega)
  rw [Int.one_mul] at s1 s2
  have hinf : inf e m < 2 ^ (e + m) := by
    have h0 : 0 < 2 ^ m := Nat.pow_pos (by decide)
    unfold inf
    omega
  have htop : IntKind.u64.wrap ((((2 ^ e : Nat) : Int) - 1) * 2 ^ m) = ((inf e m : Nat) : Int) := by
    have h0 : 0 < 2 ^ e := Nat.pow_pos (by decide)
    have e2 : ((2 : Int) ^ m) = ((2 ^ m : Nat) : Int) := by rw [Int.natCast_pow]; rfl
    have e3 : ((2 ^ e : Nat) : Int) - 1 = ((2 ^ e - 1 : Nat) : Int) := by omega
    have e4 : (2 ^ e - 1) * 2 ^ m = inf e m := by unfold inf; rw [Nat.sub_mul, Nat.one_mul, Nat.pow_add]
    rw [e2, e3, ← Int.natCast_mul, e4, wrapu64 _ (by omega)]
  have zA : psz e m A = A ∧ png e m A = false := ⟨Nat.mod_eq_of_lt hA, decide_eq_false (by rw [Nat.div_eq_of_lt hA]; decide)⟩
  have zB : psz e m B = B ∧ png e m B = false := ⟨Nat.mod_eq_of_lt hB, decide_eq_false (by rw [Nat.div_eq_of_lt hB]; decide)⟩
  have zZ : psz e m (2 ^ (e + m) + A) = A ∧ png e m (2 ^ (e + m) + A) = true := ⟨by unfold psz; rw [Nat.add_mod_left, Nat.mod_eq_of_lt hA], decide_eq_true (by rw [Nat.add_div_left _ hP0, Nat.div_eq_of_lt hA])⟩
  have HDx : Hid (∀ W, Below w.heap.size w W → Calls Tryd.prog 8 #[.agg #[.int .i64 (e : Int), .int .i64 (m : Int)], .int .u64 (A : Int)] W (DcIs 2 (pnm e m A) W)) := Lib.hid (fun W hb => by
    have h := decode_any e m A he (by omega) hm (by omega) (by omega) W (htb.below hb (Nat.le_refl _))
    have hk : pkd e m A = 2 := by unfold pkd; rw [zA.1, zA.2, if_neg (by omega), if_pos hcase]; rfl
    rw [hk] at h
    exact h)
  have HDz : Hid (∀ W, Below w.heap.size w W → Calls Tryd.prog 8 #[.agg #[.int .i64 (e : Int), .int .i64 (m : Int)], .int .u64 ((2 ^ (e + m) + A : Nat) : Int)] W (DcIs 3 (pnm e m (2 ^ (e + m) + A)) W)) := Lib.hid (fun W hb => by
    have h := decode_any e m (2 ^ (e + m) + A) he (by omega) hm (by omega) (by omega) W (htb.below hb (Nat.le_refl _))
    have hk : pkd e m (2 ^ (e + m) + A) = 3 := by unfold pkd; rw [zZ.1, zZ.2, if_neg (by omega), if_pos hcase]; rfl
    rw [hk] at h
    exact h)
  have HDy0 : Hid (∀ W, Below w.heap.size w W → Calls Tryd.prog 8 #[.agg #[.int .i64 (e : Int), .int .i64 (m : Int)], .int .u64 (B : Int)] W (DcIs (pkd e m B) (pnm e m B) W)) := Lib.hid (fun W hb => decode_any e m B he (by omega) hm (by omega) (by omega) W (htb.below hb (Nat.le_refl _)))
  have hk2 : (pkd e m B == 1) = decide (B < inf e m) := by
    unfold pkd
    rw [zB.1, zB.2]
    by_cases h1 : inf e m < B
    · rw [if_pos h1, decide_eq_false (by omega)]; rfl
    · by_cases h2 : B = inf e m
      · rw [if_neg h1, if_pos h2, decide_eq_false (by omega)]; rfl
      · rw [if_neg h1, if_neg h2, decide_eq_true (by omega)]; rfl
  have hYn : B < inf e m → pnm e m B = vQ e m false B := fun h => by unfold pnm; rw [zB.1, zB.2, if_pos h]
  obtain ⟨K2, hK2⟩ : ∃ x, pkd e m B = x := ⟨_, rfl⟩
  rw [hK2] at HDy0 hk2
  obtain ⟨X, hX⟩ : ∃ x, pnm e m A = x := ⟨_, rfl⟩
  obtain ⟨Y, hY⟩ : ∃ x, pnm e m B = x := ⟨_, rfl⟩
  obtain ⟨Z, hZ⟩ : ∃ x, pnm e m (2 ^ (e + m) + A) = x := ⟨_, rfl⟩
  rw [hX] at HDx
  rw [hY] at HDy0 hYn
  rw [hZ] at HDz
  obtain ⟨AI, hAI⟩ : ∃ x : Int, (A : Int) = x := ⟨_, rfl⟩
  obtain ⟨BI, hBI⟩ : ∃ x : Int, (B : Int) = x := ⟨_, rfl⟩
  obtain ⟨ZI, hZI⟩ : ∃ x : Int, ((2 ^ (e + m) + A : Nat) : Int) = x := ⟨_, rfl⟩
  obtain ⟨PI, hPI⟩ : ∃ x : Int, ((2 ^ (e + m) : Nat) : Int) = x := ⟨_, rfl⟩
  obtain ⟨PM, hPM⟩ : ∃ x : Int, PI - 1 = x := ⟨_, rfl⟩
  obtain ⟨QE, hQE⟩ : ∃ x : Int, ((2 ^ e : Nat) : Int) = x := ⟨_, rfl⟩
  obtain ⟨QM, hQM⟩ : ∃ x : Int, QE - 1 = x := ⟨_, rfl⟩
  obtain ⟨TOP, hTOP⟩ : ∃ x : Int, ((inf e m : Nat) : Int) = x := ⟨_, rfl⟩
  rw [hAI] at HDx ea
  rw [hBI] at HDy0 eb
  rw [hZI] at HDz
  rw [hPI, hPM] at ea eb
  rw [hAI, hPI, hZI] at eo eo'
  rw [hPI] at s1
  rw [hQE] at s2
  rw [hQE, hQM, hTOP] at htop
  obtain ⟨aI, haI⟩ : ∃ x : Int, (a : Int) = x := ⟨_, rfl⟩
  obtain ⟨bI, hbI⟩ : ∃ x : Int, (b : Int) = x := ⟨_, rfl⟩
  rw [haI] at ea ⊢
  rw [hbI] at eb ⊢
  have t1 : ((e : Int) + (m : Int)).toNat = e + m := by omega
  have t2 : ((e : Int)).toNat = e := by omega
  have t3 : ((m : Int)).toNat = m := by omega
  have hPI0 : 1 ≤ PI := by omega
  have hPI1 : PI ≤ 2147483648 := by omega
  have hQE0 : 1 ≤ QE := by have : 0 < 2 ^ e := Nat.pow_pos (by decide); omega
  have hQE1 : QE ≤ 256 := by have : 2 ^ e ≤ 2 ^ 8 := Nat.pow_le_pow_right (by decide) he2; omega
  have d1 : decide (AI < TOP) = false := decide_eq_false (by omega)
  have d2 : (AI == TOP) = true := by simp; omega
  have d3 : decide (TOP < AI) = false := decide_eq_false (by omega)
  have HfinY := Lib.hid (And.intro hk2 (And.intro hYn (And.intro hBI hTOP)))
  have Hcase := Lib.hid (And.intro hcase hAI)
  have HXY := Lib.hid (And.intro hX hY)
  have HhB := Lib.hid hB
  clear hF hp h31 hP0 hA hB hAe hBe hinf zA zB zZ hk2 hYn hK2 hX hY hZ hAI hBI hZI hPI hQE hTOP haI hbI htab htb hcase ha hb
  go_enter Tryd.func5, Tryd.ntmps5
  go_wp2_with fail
  refine HAl.out.mono ?_
  rintro E w0 ⟨rfl, hb⟩
  have V0 := (Mq.refl w).below hb
  clear hb HAl
  go_wp2_with fail
  refine (HF.out _).mono ?_
  rintro E w1 ⟨rfl, hb⟩
  have V1 := (V0.below hb).alloc 25 #[.int .i64 (e : Int), .int .i64 (m : Int)]
  clear V0 hb HF
  have q0 := V1.f0 0 rfl; have q1 := V1.f1 0 rfl
  go_wp2_with fail
  refine (HDx.out _ V1.bel).mono ?_
  rintro E w2 ⟨v, rfl, hr, hb⟩
  have V2' := (V1.below hb).rcons hr
  obtain ⟨px, nx, cx, px', nx', cx', rfl, -, -⟩ := hr
  obtain ⟨zx, hz⟩ : ∃ z, decide (X.num < 0) = z := ⟨_, rfl⟩
  rw [hz] at V2' ⊢
  have V2 := V2'.alloc 31 #[.bool zx, .slice px nx cx, .slice px' nx' cx']
  clear V1 V2' hb hz HDx q0 q1
  have q0 := V2.f0 1 rfl; have q1 := V2.f1 1 rfl
  go_wp2_with fail
  refine (HDy0.out _ V2.bel).mono ?_
  rintro E w3 ⟨v, rfl, hr, hb⟩
  have V3' := (V2.below hb).rcons hr
  obtain ⟨py, ny, cy, py', ny', cy', rfl, -, -⟩ := hr
  obtain ⟨zy, hz⟩ : ∃ z, decide (Y.num < 0) = z := ⟨_, rfl⟩
  rw [hz] at V3' ⊢
  have V3 := V3'.alloc 31 #[.bool zy, .slice py ny cy, .slice py' ny' cy']
  clear V2 V3' hb hz HDy0 q0 q1
  have q0 := V3.f0 2 rfl; have q1 := V3.f1 2 rfl
  go_wp2_with fail
  refine (HDz.out _ V3.bel).mono ?_
  rintro E w4 ⟨v, rfl, hr, hb⟩
  have V4' := (V3.below hb).rcons hr
  obtain ⟨pz, nz, cz, pz', nz', cz', rfl, -, -⟩ := hr
  obtain ⟨zz, hz⟩ : ∃ z, decide (Z.num < 0) = z := ⟨_, rfl⟩
  rw [hz] at V4' ⊢
  have V4 := V4'.alloc 31 #[.bool zz, .slice pz nz cz, .slice pz' nz' cz']
  clear V3 V4' hb hz HDz q0 q1
  have q0 := V4.f0 3 rfl; have q1 := V4.f1 3 rfl
  go_wp2_with fail
  go_quiet (fail)
  have V5 := V4.dn nq
  clear V4 q0 q1
  go_wp2_with fail
  obtain ⟨W6, hW6⟩ : ∃ W6, (w4.alloc (.cells #[.bool zz, .slice pz nz cz, .slice pz' nz' cz'] 31)).drewN nq = W6 := ⟨_, rfl⟩
  rw [hW6] at V5 ⊢
  have V6 := V5
  clear V5
  go_quiet (fail)
  have HV6 := Lib.hid (V6.dn nq)
  clear V6
  have HB := Lib.hid HV6.out.bel
  go_wp2_with fail
  go_ret
  exact ⟨rfl, HB.out⟩
set_option maxRecDepth 100000 in
set_option maxHeartbeats 16000000 in
theorem ieeeOrder.caseC (H : Int) (a b : Nat) (ha : a < 18446744073709551616) (hb : b < 18446744073709551616) (w : World) (htab : Tab w) (htb : TabB w) (e m : Nat) (he : 2 ≤ e) (he2 : e ≤ 8) (hm : 1 ≤ m) (hm2 : m ≤ 23) (hF : ∀ W, Calls Tryd.prog 7 #[.int .i64 (bits .and .i64 H 2), .int .i64 0, .int .i64 0] W fun E w' => E = .returned (.agg #[.int .i64 (e : Int), .int .i64 (m : Int)]) ∧ Below W.heap.size W w') (hcase : inf e m < a % 2 ^ (e + m)) :
    Calls Tryd.prog 5 #[.int .i64 H, .int .u64 (a : Int), .int .u64 (b : Int)] w fun e w' => e = .returned (.bool true) ∧ Below w.heap.size w w' := by
  have HAl := Lib.hid (alive_e w htab htb)
  have HF := Lib.hid hF
  have hp : e + m ≤ 63 := by omega
  have h31 : 2 ^ (e + m) ≤ 2 ^ 31 := Nat.pow_le_pow_right (by decide) (by omega)
  have hP0 : 0 < 2 ^ (e + m) := Nat.pow_pos (by decide)
  have hA := Nat.mod_lt a hP0
  have hB := Nat.mod_lt b hP0
  have ea := and_low (b := a) (p := e + m) ha hp
  have eb := and_low (b := b) (p := e + m) hb hp
  obtain ⟨A, hAe⟩ : ∃ x, a % 2 ^ (e + m) = x := ⟨_, rfl⟩
  obtain ⟨B, hBe⟩ : ∃ x, b % 2 ^ (e + m) = x := ⟨_, rfl⟩
  rw [hAe] at hA ea hcase
  rw [hBe] at hB eb
  have eo := or_add (x := A) (y := 2 ^ (e + m)) (k := e + m) hA (Nat.mod_self _) (by omega) (by omega)
  have eo' := or_add' (x := A) (y := 2 ^ (e + m)) (k := e + m) hA (Nat.mod_self _) (by omega) (by omega)
  have s1 := sh_one (p := e + m) hp
  have s2 := sh_one (p := e) (by omega)
  rw [Int.one_mul] at s1 s2
  have hinf : inf e m < 2 ^ (e + m) := by
    have h0 : 0 < 2 ^ m := Nat.pow_pos (by decide)
    unfold inf
    omega
  have htop : IntKind.u64.wrap ((((2 ^ e : Nat) : Int) - 1) * 2 ^ m) = ((inf e m : Nat) : Int) := by
    have h0 : 0 < 2 ^ e := Nat.pow_pos (by decide)
    have e2 : ((2 : Int) ^ m) = ((2 ^ m : Nat) : Int) := by rw [Int.natCast_pow]; rfl
    have e3 : ((2 ^ e : Nat) : Int) - 1 = ((2 ^ e - 1 : Nat) : Int) := by omega
    have e4 : (2 ^ e - 1) * 2 ^ m = inf e m := by unfold inf; rw [Nat.sub_mul, Nat.one_mul, Nat.pow_add]
    rw [e2, e3, ← Int.natCast_mul, e4, wrapu64 _ (by omega)]
  have zA : psz e m A = A ∧ png e m A = false := ⟨Nat.mod_eq_of_lt hA, decide_eq_false (by rw [Nat.div_eq_of_lt hA]; decide)⟩
  have zB : psz e m B = B ∧ png e m B = false := ⟨Nat.mod_eq_of_lt hB, decide_eq_false (by rw [Nat.div_eq_of_lt hB]; decide)⟩
  have zZ : psz e m (2 ^ (e + m) + A) = A ∧ png e m (2 ^ (e + m) + A) = true := ⟨by unfold psz; rw [Nat.add_mod_left, Nat.mod_eq_of_lt hA], decide_eq_true (by rw [Nat.add_div_left _ hP0, Nat.div_eq_of_lt hA])⟩
  have HDx : Hid (∀ W, Below w.heap.size w W → Calls Tryd.prog 8 #[.agg #[.int .i64 (e : Int), .int .i64 (m : Int)], .int .u64 (A : Int)] W (DcIs 4 (pnm e m A) W)) := Lib.hid (fun W hb => by
    have h := decode_any e m A he (by omega) hm (by omega) (by omega) W (htb.below hb (Nat.le_refl _))
    have hk : pkd e m A = 4 := by unfold pkd; rw [zA.1, if_pos hcase]
    rw [hk] at h
    exact h)
  have HDz : Hid (∀ W, Below w.heap.size w W → Calls Tryd.prog 8 #[.agg #[.int .i64 (e : Int), .int .i64 (m : Int)], .int .u64 ((2 ^ (e + m) + A : Nat) : Int)] W (DcIs 4 (pnm e m (2 ^ (e + m) + A)) W)) := Lib.hid (fun W hb => by
    have h := decode_any e m (2 ^ (e + m) + A) he (by omega) hm (by omega) (by omega) W (htb.below hb (Nat.le_refl _))
    have hk : pkd e m (2 ^ (e + m) + A) = 4 := by unfold pkd; rw [zZ.1, if_pos hcase]
    rw [hk] at h
    exact h)
  have HDy0 : Hid (∀ W, Below w.heap.size w W → Calls Tryd.prog 8 #[.agg #[.int .i64 (e : Int), .int .i64 (m : Int)], .int .u64 (B : Int)] W (DcIs (pkd e m B) (pnm e m B) W)) := Lib.hid (fun W hb => decode_any e m B he (by omega) hm (by omega) (by omega) W (htb.below hb (Nat.le_refl _)))
  have hk2 : (pkd e m B == 1) = decide (B < inf e m) := by
    unfold pkd
    rw [zB.1, zB.2]
    by_cases h1 : inf e m < B
    · rw [if_pos h1, decide_eq_false (by omega)]; rfl
    · by_cases h2 : B = inf e m
      · rw [if_neg h1, if_pos h2, decide_eq_false (by omega)]; rfl
      · rw [if_neg h1, if_neg h2, decide_eq_true (by omega)]; rfl
  have hYn : B < inf e m → pnm e m B = vQ e m false B := fun h => by unfold pnm; rw [zB.1, zB.2, if_pos h]
  obtain ⟨K2, hK2⟩ : ∃ x, pkd e m B = x := ⟨_, rfl⟩
  rw [hK2] at HDy0 hk2
  obtain ⟨X, hX⟩ : ∃ x, pnm e m A = x := ⟨_, rfl⟩
  obtain ⟨Y, hY⟩ : ∃ x, pnm e m B = x := ⟨_, rfl⟩
  obtain ⟨Z, hZ⟩ : ∃ x, pnm e m (2 ^ (e + m) + A) = x := ⟨_, rfl⟩
  rw [hX] at HDx
  rw [hY] at HDy0 hYn
  rw [hZ] at HDz
  obtain ⟨AI, hAI⟩ : ∃ x : Int, (A : Int) = x := ⟨_, rfl⟩
  obtain ⟨BI, hBI⟩ : ∃ x : Int, (B : Int) = x := ⟨_, rfl⟩
  obtain ⟨ZI, hZI⟩ : ∃ x : Int, ((2 ^ (e + m) + A : Nat) : Int) = x := ⟨_, rfl⟩
  obtain ⟨PI, hPI⟩ : ∃ x : Int, ((2 ^ (e + m) : Nat) : Int) = x := ⟨_, rfl⟩
  obtain ⟨PM, hPM⟩ : ∃ x : Int, PI - 1 = x := ⟨_, rfl⟩
  obtain ⟨QE, hQE⟩ : ∃ x : Int, ((2 ^ e : Nat) : Int) = x := ⟨_, rfl⟩
  obtain ⟨QM, hQM⟩ : ∃ x : Int, QE - 1 = x := ⟨_, rfl⟩
  obtain ⟨TOP, hTOP⟩ : ∃ x : Int, ((inf e m : Nat) : Int) = x := ⟨_, rfl⟩
  rw [hAI] at HDx ea
  rw [hBI] at HDy0 eb
  rw [hZI] at HDz
  rw [hPI, hPM] at ea eb
  rw [hAI, hPI, hZI] at eo eo'
  rw [hPI] at s1
  rw [hQE] at s2
  rw [hQE, hQM, hTOP] at htop
  obtain ⟨aI, haI⟩ : ∃ x : Int, (a : Int) = x := ⟨_, rfl⟩
  obtain ⟨bI, hbI⟩ : ∃ x : Int, (b : Int) = x := ⟨_, rfl⟩
  rw [haI] at ea ⊢
  rw [hbI] at eb ⊢
  have t1 : ((e : Int) + (m : Int)).toNat = e + m := by omega
  have t2 : ((e : Int)).toNat = e := by omega
  have t3 : ((m : Int)).toNat = m := by omega
  have hPI0 : 1 ≤ PI := by omega
  have hPI1 : PI ≤ 2147483648 := by omega
  have hQE0 : 1 ≤ QE := by have : 0 < 2 ^ e := Nat.pow_pos (by decide); omega
  have hQE1 : QE ≤ 256 := by have : 2 ^ e ≤ 2 ^ 8 := Nat.pow_le_pow_right (by decide) he2; omega
  have d1 : decide (AI < TOP) = false := decide_eq_false (by omega)
  have d2 : (AI == TOP) = false := by simp; omega
  have d3 : decide (TOP < AI) = true := decide_eq_true (by omega)
  have HfinY := Lib.hid (And.intro hk2 (And.intro hYn (And.intro hBI hTOP)))
  have Hcase := Lib.hid (And.intro hcase hAI)
  have HXY := Lib.hid (And.intro hX hY)
  have HhB := Lib.hid hB
  clear hF hp h31 hP0 hA hB hAe hBe hinf zA zB zZ hk2 hYn hK2 hX hY hZ hAI hBI hZI hPI hQE hTOP haI hbI htab htb hcase ha hb
  go_enter Tryd.func5, Tryd.ntmps5
  go_wp2_with fail
  refine HAl.out.mono ?_
  rintro E w0 ⟨rfl, hb⟩
  have V0 := (Mq.refl w).below hb
  clear hb HAl
  go_wp2_with fail
  refine (HF.out _).mono ?_
  rintro E w1 ⟨rfl, hb⟩
  have V1 := (V0.below hb).alloc 25 #[.int .i64 (e : Int), .int .i64 (m : Int)]
  clear V0 hb HF
  have q0 := V1.f0 0 rfl; have q1 := V1.f1 0 rfl
  go_wp2_with fail
  refine (HDx.out _ V1.bel).mono ?_
  rintro E w2 ⟨v, rfl, hr, hb⟩
  have V2' := (V1.below hb).rcons hr
  obtain ⟨px, nx, cx, px', nx', cx', rfl, -, -⟩ := hr
  obtain ⟨zx, hz⟩ : ∃ z, decide (X.num < 0) = z := ⟨_, rfl⟩
  rw [hz] at V2' ⊢
  have V2 := V2'.alloc 31 #[.bool zx, .slice px nx cx, .slice px' nx' cx']
  clear V1 V2' hb hz HDx q0 q1
  have q0 := V2.f0 1 rfl; have q1 := V2.f1 1 rfl
  go_wp2_with fail
  refine (HDy0.out _ V2.bel).mono ?_
  rintro E w3 ⟨v, rfl, hr, hb⟩
  have V3' := (V2.below hb).rcons hr
  obtain ⟨py, ny, cy, py', ny', cy', rfl, -, -⟩ := hr
  obtain ⟨zy, hz⟩ : ∃ z, decide (Y.num < 0) = z := ⟨_, rfl⟩
  rw [hz] at V3' ⊢
  have V3 := V3'.alloc 31 #[.bool zy, .slice py ny cy, .slice py' ny' cy']
  clear V2 V3' hb hz HDy0 q0 q1
  have q0 := V3.f0 2 rfl; have q1 := V3.f1 2 rfl
  go_wp2_with fail
  refine (HDz.out _ V3.bel).mono ?_
  rintro E w4 ⟨v, rfl, hr, hb⟩
  have V4' := (V3.below hb).rcons hr
  obtain ⟨pz, nz, cz, pz', nz', cz', rfl, -, -⟩ := hr
  obtain ⟨zz, hz⟩ : ∃ z, decide (Z.num < 0) = z := ⟨_, rfl⟩
  rw [hz] at V4' ⊢
  have V4 := V4'.alloc 31 #[.bool zz, .slice pz nz cz, .slice pz' nz' cz']
  clear V3 V4' hb hz HDz q0 q1
  have q0 := V4.f0 3 rfl; have q1 := V4.f1 3 rfl
  go_wp2_with fail
  go_quiet (fail)
  have V5 := V4.dn nq
  clear V4 q0 q1
  go_wp2_with fail
  obtain ⟨W6, hW6⟩ : ∃ W6, (w4.alloc (.cells #[.bool zz, .slice pz nz cz, .slice pz' nz' cz'] 31)).drewN nq = W6 := ⟨_, rfl⟩
  rw [hW6] at V5 ⊢
  have V6 := V5
  clear V5
  go_quiet (fail)
  have HV6 := Lib.hid (V6.dn nq)
  clear V6
  have HB := Lib.hid HV6.out.bel
  go_wp2_with fail
  go_ret
  exact ⟨rfl, HB.out⟩
theorem wf_u4 {a : Int} (h : (Lit.int .u64 a).wf = true) : 0 ≤ a ∧ a < 18446744073709551616 := by
  simp [Lit.wf, IntKind.min, IntKind.max, IntKind.bits, IntKind.signed] at h; omega
/-- The walk of IeeeOrder. -/
theorem ieeeOrder.walk (H a b : Int) (_ : (Lit.int .i64 H).wf = true) (wa : (Lit.int .u64 a).wf = true) (wb : (Lit.int .u64 b).wf = true) (w : World) (htab : Tab w) (htb : TabB w) :
    Calls Tryd.prog 5 #[.int .i64 H, .int .u64 a, .int .u64 b] w fun e w' => e = .returned (.bool true) ∧ Below w.heap.size w w' := by
  have b1 := wf_u4 wa
  have b2 := wf_u4 wb
  obtain ⟨A, rfl⟩ : ∃ N : Nat, a = N := ⟨a.toNat, by omega⟩
  obtain ⟨B, rfl⟩ : ∃ N : Nat, b = N := ⟨b.toNat, by omega⟩
  have hf : ∃ e m : Nat, 2 ≤ e ∧ e ≤ 8 ∧ 1 ≤ m ∧ m ≤ 23 ∧ ∀ W, Calls Tryd.prog 7 #[.int .i64 (bits .and .i64 H 2), .int .i64 0, .int .i64 0] W fun E w' => E = .returned (.agg #[.int .i64 (e : Int), .int .i64 (m : Int)]) ∧ Below W.heap.size W w' := by
    rcases and_two H with h | h
    · rw [h]; exact ⟨8, 23, by omega, by omega, by omega, by omega, form_0⟩
    · rw [h]; exact ⟨4, 3, by omega, by omega, by omega, by omega, form_2⟩
  obtain ⟨e, m, h1, h2, h3, h4, hF⟩ := hf
  rcases Nat.lt_trichotomy (A % 2 ^ (e + m)) (inf e m) with h | h | h
  · exact ieeeOrder.caseA H A B (by omega) (by omega) w htab htb e m h1 h2 h3 h4 hF h
  · exact ieeeOrder.caseB H A B (by omega) (by omega) w htab htb e m h1 h2 h3 h4 hF h
  · exact ieeeOrder.caseC H A B (by omega) (by omega) w htab htb e m h1 h2 h3 h4 hF h
end Go.Proofs.YtnhobagjpjcigaaDoor
