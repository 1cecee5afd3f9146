/-
  The walk of NatPowers: for every input it returns true, and leaves what lay in memory as it was.
-/
import Derived.Test.YtikbhcndgmanmaaDoorNatsA
import Derived.Test.YtikbhcndgmanmaaDoorNPowE
import Derived.Test.YtikbhcndgmanmaaDoorNShU
namespace Go.Proofs.YtikbhcndgmanmaaDoor
open Go.RowKit
set_option linter.unusedVariables false
theorem nn_40 {s : ByteArray} (hs : s.size ≤ 12) : nn s < 2 ^ 40 := by
  have h1 : nn s < 10 ^ 12 := by
    unfold nn
    split
    · rename_i h
      exact Nat.lt_of_lt_of_le (dv_lt s.size s.data.toList (by simp) h.dig) (Nat.pow_le_pow_right (by decide) hs)
    · decide
  exact Nat.lt_trans h1 (by decide)
theorem num_up {N m : Nat} (k : Nat) (hN : N < 2 ^ 40) (hk : 40 * m < k) : N ^ m < 10000 ^ k := Nat.lt_of_le_of_lt (num_pow hN) (two_up (40 * m) k hk)
theorem num_1 {N : Nat} (k : Nat) (hN : N < 2 ^ 40) (hk : 40 < k) : N < 10000 ^ k := Nat.lt_trans hN (two_up 40 k hk)
/-- What lies in memory: the number, twice; the power in its box. -/
structure Pb (w W : World) (ga gb : Nat) (x y : Value) (N bp : Nat) (p : Value) (PN : Nat) : Prop where
  one : One w W ga gb x y N
  bx : Blk W bp 30 #[p]
  np : IsN W (.agg #[p]) PN
theorem Pb.below {w W W' : World} {ga gb : Nat} {x y : Value} {N bp : Nat} {p : Value} {PN : Nat} (h : Pb w W ga gb x y N bp p PN) (hb : Below W.heap.size W W') : Pb w W' ga gb x y N bp p PN := ⟨h.one.below hb, h.bx.below hb h.bx.lt, h.np.below hb (Nat.le_refl _)⟩
theorem rtwo_0 (w : World) : Calls Tryd.prog 29 #[.int .i64 0] w (GotR (2 ^ 0) w) := rtwo_any 0 (by omega) w
theorem zero_lt9 (k : Nat) : 0 < 10000 ^ k := Nat.pow_pos (by decide)
theorem below_drew1 (w : World) : Below w.heap.size w w.drew := (Below.refl _ _).drew
theorem num_w {N : Nat} (hN : N < 2 ^ 40) : N < 18446744073709551616 ^ 9000 := by have := num_big (m := 1) 9000 hN (by omega) (by omega); rwa [Nat.pow_one] at this
theorem num_sh {N d : Nat} (hN : N < 2 ^ 40) (hd : d ≤ 200) : N * 2 ^ d < 10000 ^ 9000 := by
  have h1 : N * 2 ^ d ≤ 2 ^ 40 * 2 ^ d := Nat.mul_le_mul_right _ (Nat.le_of_lt hN)
  rw [← Nat.pow_add] at h1
  exact Nat.lt_of_le_of_lt h1 (two_up _ 9000 (by omega))
set_option maxRecDepth 100000 in
set_option maxHeartbeats 4000000 in
theorem natPowers.neg_up (s : ByteArray) (E BY : Int) (hs : s.size ≤ 12) (hE : E < 0) (d : Nat) (hB : BY = (d : Int)) (hd : d ≤ 200) (w : World) (htab : Tab w) :
    Calls Tryd.prog 4 #[.string s, .int .i64 E, .int .i64 BY] w fun e w' => e = .returned (.bool true) ∧ Below w.heap.size w w' := by
  have HAl := Lib.hid (alive_any w htab)
  have HTab := Lib.hid htab
  have HN40 := Lib.hid (nn_40 hs)
  have HNats : Hid (∀ w1, Below w.heap.size w w1 → Calls Tryd.prog 7 #[.slice (some ⟨w1.heap.size, 0, none⟩) 1 1] (w1.alloc (.cells #[.string s] 9)) fun e w' => ∃ ga ca gb cb x y z x' y' z', e = .returned (.tuple #[.slice (some ⟨ga, 0, none⟩) 1 ca, .slice (some ⟨gb, 0, none⟩) 1 cb, .bool true]) ∧ One w1 w' ga gb (.slice x y z) (.slice x' y' z') (nn s)) := Lib.hid (fun w1 h => nats_one s w1 (by omega) (htab.below h (Nat.le_refl _)))
  obtain ⟨N, hN⟩ : ∃ N, nn s = N := ⟨_, rfl⟩
  rw [hN] at HN40 HNats
  obtain ⟨sz, hsz⟩ : ∃ sz, s.size = sz := ⟨_, rfl⟩
  have c1 : ¬ (12 : Int) < (sz : Int) := by omega
  have e1 : ¬ 40 < E := by omega
  have e3 : ¬ 5000 < E := by omega
  have e4 : ¬ 0 < E := by omega
  have b1 : ¬ 200 < BY := by omega
  have b2 : ¬ BY < -200 := by omega
  have HBY := Lib.hid hB
  have b3 : ¬ BY < 0 := by omega
  have b4 : max BY 0 = (d : Int) := by omega
  clear hs htab hN hB
  go_enter Tryd.func4, Tryd.ntmps4
  go_wp2_with fail
  refine HAl.out.mono ?_
  rintro e w1 ⟨rfl, hb1⟩
  have HB1 := Lib.hid hb1
  have HNats1 := Lib.hid (HNats.out w1 hb1)
  clear hb1 HAl HNats
  go_wp2_with fail
  refine HNats1.out.mono ?_
  rintro ε w2 ⟨ga, ca, gb, cb, x, y, z, x', y', z', rfl, hO⟩
  have HO2 := Lib.hid hO
  have q2 : w2.cell? ⟨ga, 0, none⟩ = some (.slice x y z) := hO.ca
  have HP := Lib.hid (pow_neg _ w2 E N hO.na hE)
  clear hO HNats1
  go_wp2_with fail
  refine HP.out.mono ?_
  rintro ε w3 ⟨rfl, hb3⟩
  have hp : IsN w3 (.agg #[.slice none 0 0]) 0 := isN_zero w3
  have hl3 := below_lit w3 (.cells #[.slice none 0 0] 30)
  have hpb : Pb w1 (w3.alloc (.cells #[.slice none 0 0] 30)) ga gb (.slice x y z) (.slice x' y' z') N w3.heap.size (.slice none 0 0) (0) := ⟨(HO2.out.below hb3).below hl3, Blk.new w3 _ _, hp.below hl3 (Nat.le_refl _)⟩
  obtain ⟨bp, hbp⟩ : ∃ bp, w3.heap.size = bp := ⟨_, rfl⟩
  obtain ⟨W4, hW4⟩ : ∃ W4, w3.alloc (.cells #[.slice none 0 0] 30) = W4 := ⟨_, rfl⟩
  rw [hW4, hbp] at hpb
  have hl4 := below_lit W4 (.cells #[.int .i64 1] 3)
  obtain ⟨W5, hW5⟩ : ∃ W5, W4.alloc (.cells #[.int .i64 1] 3) = W5 := ⟨_, rfl⟩
  rw [hW5] at hl4
  have HPb := Lib.hid (hpb.below hl4)
  have HW4 := Lib.hid hW4
  have Hbp := Lib.hid hbp
  have HW5 := Lib.hid hW5
  clear hp hb3 hl3 hl4 hpb hbp hW4 hW5 HP HO2 q2
  go_wp2_with fail
  rw [Hbp.out, HW4.out, HW5.out]
  go_loop [13, 14] (fun xv kv => xv = .slice none 0 0 ∧ kv = .int .i64 0) (fun _ _ => 0)
  case atStart => exact ⟨rfl, rfl⟩
  case round =>
    obtain ⟨rfl, rfl⟩ := hrel
    have HX6 := Lib.hid (rn_nil W5)
    have HP6 := Lib.hid HPb.out
    have q3 : W5.drew.cell? ⟨gb, 0, none⟩ = some (.slice x' y' z') := HPb.out.one.cb
    clear HPb
    have hd6 := below_drew1 W5
    have HT2 := Lib.hid (rtwo_any d (by omega) W5.drew)
    have HMl : Hid (∀ v W, RN W v (2 ^ d) → Below W5.heap.size W5 W → Calls Tryd.prog 16 #[.slice x' y' z', v] W (GotR (N * 2 ^ d) W)) := Lib.hid (fun v W h1 h2 => rmul_num N (2 ^ d) _ v W (HP6.out.one.nb.below h2 (Nat.le_refl _)) h1 (num_1 9000 HN40.out (by omega)) (two_up _ 9000 (by omega)))
    have HS : Hid (∀ W, Below W5.heap.size W5 W → W.cell? ⟨gb, 0, none⟩ = some (.slice x' y' z')) := Lib.hid (fun W h => (HP6.out.one.below h).cb)
    go_wp2_with fail
    refine wp_region_held_drew (S := (fun w' => w'.cell? ⟨gb, 0, none⟩ = some (.slice x' y' z'))) (by kernel_rfl) ?_ (fun hHeld => ?_)
    · exact q3
    refine wpAnyH_take (i := 0) (oi := { dst := some 78, op := Op.move (Operand.tmp 8), type := 24, pos := "law.go:103", after := #[], guard := none }) (v := ?_) rfl (by kernel_rfl) (by kernel_rfl) (by kernel_rfl) (fun _ _ _ h => h) (Or.inl ⟨by rfl, ?_⟩) (by assumption) ?_
    rotate_left
    · intro w hSw; (try dsimp only at hSw); go_simp; (try with_reducible rfl)
    try simp only [Act.put, List.setIfInBounds_toArray, List.set_cons_zero, List.set_cons_succ]
    refine wpAnyH_take (i := 1) (oi := { dst := some 79, op := Op.indexAddr 24 (Operand.tmp 78) (Operand.const (Value.int IntKind.i64 0)), type := 0, pos := "law.go:103", after := #[{ on := 0, ground := Ground.data }], guard := none }) (v := ?_) rfl (by kernel_rfl) (by kernel_rfl) (by kernel_rfl) (fun _ _ _ h => h) (Or.inl ⟨by rfl, ?_⟩) (by assumption) ?_
    rotate_left
    · intro w hSw; (try dsimp only at hSw); go_simp; (try with_reducible rfl)
    try simp only [Act.put, List.setIfInBounds_toArray, List.set_cons_zero, List.set_cons_succ]
    refine wpAnyH_take (i := 2) (oi := { dst := some 80, op := Op.load 32 (Operand.tmp 79), type := 32, pos := "law.go:103", after := #[{ on := 1, ground := Ground.data }], guard := none }) (v := ?_) rfl (by kernel_rfl) (by kernel_rfl) (by kernel_rfl) (fun _ _ _ h => h) (Or.inl ⟨by rfl, ?_⟩) (by assumption) ?_
    rotate_left
    · intro w hSw; (try dsimp only at hSw); go_simp; (try with_reducible rfl)
    try simp only [Act.put, List.setIfInBounds_toArray, List.set_cons_zero, List.set_cons_succ]
    refine wpAnyH_take (i := 3) (oi := { dst := some 81, op := Op.move (Operand.tmp 2), type := 3, pos := "law.go:103", after := #[], guard := none }) (v := ?_) rfl (by kernel_rfl) (by kernel_rfl) (by kernel_rfl) (fun _ _ _ h => h) (Or.inl ⟨by rfl, ?_⟩) (by assumption) ?_
    rotate_left
    · intro w hSw; (try dsimp only at hSw); go_simp; (try with_reducible rfl)
    try simp only [Act.put, List.setIfInBounds_toArray, List.set_cons_zero, List.set_cons_succ]
    refine wpAnyH_take (i := 4) (oi := { dst := some 82, op := Op.call { callee := Callee.builtin Builtin.max, args := #[Operand.tmp 81, Operand.const (Value.int IntKind.i64 0)], argTypes := #[3, 3] }, type := 3, pos := "law.go:103", after := #[{ on := 3, ground := Ground.data }], guard := none }) (v := ?_) rfl (by kernel_rfl) (by kernel_rfl) (by kernel_rfl) (fun _ _ _ h => h) (Or.inl ⟨by rfl, ?_⟩) (by assumption) ?_
    rotate_left
    · intro w hSw; (try dsimp only at hSw); go_simp; (try with_reducible rfl)
    try simp only [Act.put, List.setIfInBounds_toArray, List.set_cons_zero, List.set_cons_succ]
    refine wpAnyH_ready (rs := [5]) (by kernel_rfl) (by simp) ?_
    refine AllReadyH.cons (o := { dst := some 83, op := Op.call { callee := Callee.value (Operand.func 29), args := #[Operand.tmp 82], argTypes := #[3] }, type := 32, pos := "law.go:103", after := #[{ on := 4, ground := Ground.data }], guard := none }) rfl (fun K hK => ?_) AllReadyH.nil
    go_simp
    go_at_call 29; refine HT2.out.mono ?_; rintro ε w7 ⟨v7, rfl, hN7, hb7⟩; have hb67 := hd6.trans (hb7.mono hd6.size)
    refine hK.out _ _ ?_ (fun hHeld => ?_)
    · first | exact HS.out _ hb68 | exact HS.out _ hb67
    clear hK K
    try simp only [Act.put, List.setIfInBounds_toArray, List.set_cons_zero, List.set_cons_succ]
    refine wpAnyH_ready (rs := [6]) (by kernel_rfl) (by simp) ?_
    refine AllReadyH.cons (o := { dst := some 84, op := Op.call { callee := Callee.value (Operand.func 16), args := #[Operand.tmp 80, Operand.tmp 83], argTypes := #[32, 32] }, type := 32, pos := "law.go:103", after := #[{ on := 2, ground := Ground.data }, { on := 5, ground := Ground.data }, { on := 5, ground := Ground.chain }], guard := none }) rfl (fun K hK => ?_) AllReadyH.nil
    go_simp
    go_at_call 16; refine (HMl.out v7 w7 hN7 hb67).mono ?_; rintro ε w8 ⟨v8, rfl, hN8, hb8⟩; have hb68 := hb67.trans (hb8.mono hb67.size)
    refine hK.out _ _ ?_ (fun hHeld => ?_)
    · first | exact HS.out _ hb68 | exact HS.out _ hb67
    clear hK K
    try simp only [Act.put, List.setIfInBounds_toArray, List.set_cons_zero, List.set_cons_succ]
    refine wpAnyH_take (i := 7) (oi := { dst := some 15, op := Op.assign (Operand.tmp 84), type := 32, pos := "law.go:103", after := #[{ on := 6, ground := Ground.data }, { on := 6, ground := Ground.chain }, { on := 0, ground := Ground.phase }, { on := 1, ground := Ground.phase }, { on := 2, ground := Ground.phase }, { on := 3, ground := Ground.phase }, { on := 4, ground := Ground.phase }, { on := 5, ground := Ground.phase }, { on := 6, ground := Ground.phase }], guard := none }) (v := ?_) rfl (by kernel_rfl) (by kernel_rfl) (by kernel_rfl) (fun _ _ _ h => h) (Or.inl ⟨by rfl, ?_⟩) (by assumption) ?_
    rotate_left
    · intro w hSw; (try dsimp only at hSw); go_simp; (try with_reducible rfl)
    try simp only [Act.put, List.setIfInBounds_toArray, List.set_cons_zero, List.set_cons_succ]
    refine wpAnyH_done (by kernel_rfl) ?_ _
    have HP8 := Lib.hid (HP6.out.below hb68)
    have HX8 := Lib.hid (HX6.out.below hb68 (Nat.le_refl _))
    have HY8 := Lib.hid hN8
    obtain ⟨W8, hW8⟩ : ∃ W8, w8 = W8 := ⟨_, rfl⟩
    subst hW8
    have HB8 := Lib.hid hb68
    clear hN7 hb7 hb67 hN8 hb8 hb68 hd6 q3 HMl HT2 HS HP6 HX6
    have q5 : w8.cell? ⟨bp, 0, none⟩ = some (.slice none 0 0) := HP8.out.bx.cell 0
    have HSm := Lib.hid (same_num (0) _ _ w8 HP8.out.np HX8.out (zero_lt9 9000) (HTab.out.below (HB1.out.trans (HP8.out.one.bel.mono HB1.out.size)) (Nat.le_refl _)))
    go_wp2_with fail
    refine HSm.out.mono ?_
    rintro ε wC ⟨rfl, hbC⟩
    have HPC := Lib.hid (HP8.out.below hbC)
    have HYC := Lib.hid (HY8.out.below hbC (Nat.le_refl _))
    have q6 : wC.cell? ⟨ga, 0, none⟩ = some (.slice x y z) := HPC.out.one.ca
    have HSh := Lib.hid (shu_any N d _ BY wC HPC.out.one.na (num_w HN40.out) (by omega) HBY.out)
    clear hbC HSm q5 HP8 HY8
    go_wp2_with fail
    refine HSh.out.mono ?_
    rintro ε wD ⟨vD, rfl, hND, _, hbD⟩
    have HPD := Lib.hid (HPC.out.below hbD)
    have HSn := Lib.hid (same_num (N * 2 ^ d) _ _ wD hND (HYC.out.below hbD (Nat.le_refl _)) (num_sh HN40.out hd) (HTab.out.below (HB1.out.trans (HPD.out.one.bel.mono HB1.out.size)) (Nat.le_refl _)))
    clear hND hbD HSh q6 HPC
    go_wp2_with fail
    refine HSn.out.mono ?_
    rintro ε wE ⟨rfl, hbE⟩
    have HPE := Lib.hid (HPD.out.below hbE)
    clear hbE HSn HPD
    go_wp2_with fail
    go_ret
    exact ⟨rfl, HB1.out.trans (HPE.out.one.bel.mono HB1.out.size)⟩
set_option maxRecDepth 100000 in
set_option maxHeartbeats 4000000 in
theorem natPowers.neg_down (s : ByteArray) (E BY : Int) (hs : s.size ≤ 12) (hE : E < 0) (d : Nat) (hB : BY = -(d : Int)) (hd0 : 0 < d) (hd : d ≤ 200) (w : World) (htab : Tab w) :
    Calls Tryd.prog 4 #[.string s, .int .i64 E, .int .i64 BY] w fun e w' => e = .returned (.bool true) ∧ Below w.heap.size w w' := by
  have HAl := Lib.hid (alive_any w htab)
  have HTab := Lib.hid htab
  have HN40 := Lib.hid (nn_40 hs)
  have HNats : Hid (∀ w1, Below w.heap.size w w1 → Calls Tryd.prog 7 #[.slice (some ⟨w1.heap.size, 0, none⟩) 1 1] (w1.alloc (.cells #[.string s] 9)) fun e w' => ∃ ga ca gb cb x y z x' y' z', e = .returned (.tuple #[.slice (some ⟨ga, 0, none⟩) 1 ca, .slice (some ⟨gb, 0, none⟩) 1 cb, .bool true]) ∧ One w1 w' ga gb (.slice x y z) (.slice x' y' z') (nn s)) := Lib.hid (fun w1 h => nats_one s w1 (by omega) (htab.below h (Nat.le_refl _)))
  obtain ⟨N, hN⟩ : ∃ N, nn s = N := ⟨_, rfl⟩
  rw [hN] at HN40 HNats
  obtain ⟨sz, hsz⟩ : ∃ sz, s.size = sz := ⟨_, rfl⟩
  have c1 : ¬ (12 : Int) < (sz : Int) := by omega
  have e1 : ¬ 40 < E := by omega
  have e3 : ¬ 5000 < E := by omega
  have e4 : ¬ 0 < E := by omega
  have b1 : ¬ 200 < BY := by omega
  have b2 : ¬ BY < -200 := by omega
  have HBY := Lib.hid hB
  have b3 : BY < 0 := by omega
  have b4 : max BY 0 = (0 : Int) := by omega
  have b5 : -BY = (d : Int) := by omega
  have b6 : IntKind.i64.wrap (d : Int) = (d : Int) := IntWalk.i64_in _ ⟨by omega, by omega⟩
  clear hs htab hN hB
  go_enter Tryd.func4, Tryd.ntmps4
  go_wp2_with fail
  refine HAl.out.mono ?_
  rintro e w1 ⟨rfl, hb1⟩
  have HB1 := Lib.hid hb1
  have HNats1 := Lib.hid (HNats.out w1 hb1)
  clear hb1 HAl HNats
  go_wp2_with fail
  refine HNats1.out.mono ?_
  rintro ε w2 ⟨ga, ca, gb, cb, x, y, z, x', y', z', rfl, hO⟩
  have HO2 := Lib.hid hO
  have q2 : w2.cell? ⟨ga, 0, none⟩ = some (.slice x y z) := hO.ca
  have HP := Lib.hid (pow_neg _ w2 E N hO.na hE)
  clear hO HNats1
  go_wp2_with fail
  refine HP.out.mono ?_
  rintro ε w3 ⟨rfl, hb3⟩
  have hp : IsN w3 (.agg #[.slice none 0 0]) 0 := isN_zero w3
  have hl3 := below_lit w3 (.cells #[.slice none 0 0] 30)
  have hpb : Pb w1 (w3.alloc (.cells #[.slice none 0 0] 30)) ga gb (.slice x y z) (.slice x' y' z') N w3.heap.size (.slice none 0 0) (0) := ⟨(HO2.out.below hb3).below hl3, Blk.new w3 _ _, hp.below hl3 (Nat.le_refl _)⟩
  obtain ⟨bp, hbp⟩ : ∃ bp, w3.heap.size = bp := ⟨_, rfl⟩
  obtain ⟨W4, hW4⟩ : ∃ W4, w3.alloc (.cells #[.slice none 0 0] 30) = W4 := ⟨_, rfl⟩
  rw [hW4, hbp] at hpb
  have hl4 := below_lit W4 (.cells #[.int .i64 1] 3)
  obtain ⟨W5, hW5⟩ : ∃ W5, W4.alloc (.cells #[.int .i64 1] 3) = W5 := ⟨_, rfl⟩
  rw [hW5] at hl4
  have HPb := Lib.hid (hpb.below hl4)
  have HW4 := Lib.hid hW4
  have Hbp := Lib.hid hbp
  have HW5 := Lib.hid hW5
  clear hp hb3 hl3 hl4 hpb hbp hW4 hW5 HP HO2 q2
  go_wp2_with fail
  rw [Hbp.out, HW4.out, HW5.out]
  go_loop [13, 14] (fun xv kv => xv = .slice none 0 0 ∧ kv = .int .i64 0) (fun _ _ => 0)
  case atStart => exact ⟨rfl, rfl⟩
  case round =>
    obtain ⟨rfl, rfl⟩ := hrel
    have HX6 := Lib.hid (rn_nil W5)
    have HP6 := Lib.hid HPb.out
    have q3 : W5.drew.cell? ⟨gb, 0, none⟩ = some (.slice x' y' z') := HPb.out.one.cb
    clear HPb
    have hd6 := below_drew1 W5
    have HT2 := Lib.hid (rtwo_0 W5.drew)
    have HMl : Hid (∀ v W, RN W v (2 ^ 0) → Below W5.heap.size W5 W → Calls Tryd.prog 16 #[.slice x' y' z', v] W (GotR (N * 2 ^ 0) W)) := Lib.hid (fun v W h1 h2 => rmul_num N (2 ^ 0) _ v W (HP6.out.one.nb.below h2 (Nat.le_refl _)) h1 (num_1 9000 HN40.out (by omega)) (two_up _ 9000 (by omega)))
    have HS : Hid (∀ W, Below W5.heap.size W5 W → W.cell? ⟨gb, 0, none⟩ = some (.slice x' y' z')) := Lib.hid (fun W h => (HP6.out.one.below h).cb)
    go_wp2_with fail
    refine wp_region_held_drew (S := (fun w' => w'.cell? ⟨gb, 0, none⟩ = some (.slice x' y' z'))) (by kernel_rfl) ?_ (fun hHeld => ?_)
    · exact q3
    refine wpAnyH_take (i := 0) (oi := { dst := some 78, op := Op.move (Operand.tmp 8), type := 24, pos := "law.go:103", after := #[], guard := none }) (v := ?_) rfl (by kernel_rfl) (by kernel_rfl) (by kernel_rfl) (fun _ _ _ h => h) (Or.inl ⟨by rfl, ?_⟩) (by assumption) ?_
    rotate_left
    · intro w hSw; (try dsimp only at hSw); go_simp; (try with_reducible rfl)
    try simp only [Act.put, List.setIfInBounds_toArray, List.set_cons_zero, List.set_cons_succ]
    refine wpAnyH_take (i := 1) (oi := { dst := some 79, op := Op.indexAddr 24 (Operand.tmp 78) (Operand.const (Value.int IntKind.i64 0)), type := 0, pos := "law.go:103", after := #[{ on := 0, ground := Ground.data }], guard := none }) (v := ?_) rfl (by kernel_rfl) (by kernel_rfl) (by kernel_rfl) (fun _ _ _ h => h) (Or.inl ⟨by rfl, ?_⟩) (by assumption) ?_
    rotate_left
    · intro w hSw; (try dsimp only at hSw); go_simp; (try with_reducible rfl)
    try simp only [Act.put, List.setIfInBounds_toArray, List.set_cons_zero, List.set_cons_succ]
    refine wpAnyH_take (i := 2) (oi := { dst := some 80, op := Op.load 32 (Operand.tmp 79), type := 32, pos := "law.go:103", after := #[{ on := 1, ground := Ground.data }], guard := none }) (v := ?_) rfl (by kernel_rfl) (by kernel_rfl) (by kernel_rfl) (fun _ _ _ h => h) (Or.inl ⟨by rfl, ?_⟩) (by assumption) ?_
    rotate_left
    · intro w hSw; (try dsimp only at hSw); go_simp; (try with_reducible rfl)
    try simp only [Act.put, List.setIfInBounds_toArray, List.set_cons_zero, List.set_cons_succ]
    refine wpAnyH_take (i := 3) (oi := { dst := some 81, op := Op.move (Operand.tmp 2), type := 3, pos := "law.go:103", after := #[], guard := none }) (v := ?_) rfl (by kernel_rfl) (by kernel_rfl) (by kernel_rfl) (fun _ _ _ h => h) (Or.inl ⟨by rfl, ?_⟩) (by assumption) ?_
    rotate_left
    · intro w hSw; (try dsimp only at hSw); go_simp; (try with_reducible rfl)
    try simp only [Act.put, List.setIfInBounds_toArray, List.set_cons_zero, List.set_cons_succ]
    refine wpAnyH_take (i := 4) (oi := { dst := some 82, op := Op.call { callee := Callee.builtin Builtin.max, args := #[Operand.tmp 81, Operand.const (Value.int IntKind.i64 0)], argTypes := #[3, 3] }, type := 3, pos := "law.go:103", after := #[{ on := 3, ground := Ground.data }], guard := none }) (v := ?_) rfl (by kernel_rfl) (by kernel_rfl) (by kernel_rfl) (fun _ _ _ h => h) (Or.inl ⟨by rfl, ?_⟩) (by assumption) ?_
    rotate_left
    · intro w hSw; (try dsimp only at hSw); go_simp; (try with_reducible rfl)
    try simp only [Act.put, List.setIfInBounds_toArray, List.set_cons_zero, List.set_cons_succ]
    refine wpAnyH_ready (rs := [5]) (by kernel_rfl) (by simp) ?_
    refine AllReadyH.cons (o := { dst := some 83, op := Op.call { callee := Callee.value (Operand.func 29), args := #[Operand.tmp 82], argTypes := #[3] }, type := 32, pos := "law.go:103", after := #[{ on := 4, ground := Ground.data }], guard := none }) rfl (fun K hK => ?_) AllReadyH.nil
    go_simp
    go_at_call 29; refine HT2.out.mono ?_; rintro ε w7 ⟨v7, rfl, hN7, hb7⟩; have hb67 := hd6.trans (hb7.mono hd6.size)
    refine hK.out _ _ ?_ (fun hHeld => ?_)
    · first | exact HS.out _ hb68 | exact HS.out _ hb67
    clear hK K
    try simp only [Act.put, List.setIfInBounds_toArray, List.set_cons_zero, List.set_cons_succ]
    refine wpAnyH_ready (rs := [6]) (by kernel_rfl) (by simp) ?_
    refine AllReadyH.cons (o := { dst := some 84, op := Op.call { callee := Callee.value (Operand.func 16), args := #[Operand.tmp 80, Operand.tmp 83], argTypes := #[32, 32] }, type := 32, pos := "law.go:103", after := #[{ on := 2, ground := Ground.data }, { on := 5, ground := Ground.data }, { on := 5, ground := Ground.chain }], guard := none }) rfl (fun K hK => ?_) AllReadyH.nil
    go_simp
    go_at_call 16; refine (HMl.out v7 w7 hN7 hb67).mono ?_; rintro ε w8 ⟨v8, rfl, hN8, hb8⟩; have hb68 := hb67.trans (hb8.mono hb67.size)
    refine hK.out _ _ ?_ (fun hHeld => ?_)
    · first | exact HS.out _ hb68 | exact HS.out _ hb67
    clear hK K
    try simp only [Act.put, List.setIfInBounds_toArray, List.set_cons_zero, List.set_cons_succ]
    refine wpAnyH_take (i := 7) (oi := { dst := some 15, op := Op.assign (Operand.tmp 84), type := 32, pos := "law.go:103", after := #[{ on := 6, ground := Ground.data }, { on := 6, ground := Ground.chain }, { on := 0, ground := Ground.phase }, { on := 1, ground := Ground.phase }, { on := 2, ground := Ground.phase }, { on := 3, ground := Ground.phase }, { on := 4, ground := Ground.phase }, { on := 5, ground := Ground.phase }, { on := 6, ground := Ground.phase }], guard := none }) (v := ?_) rfl (by kernel_rfl) (by kernel_rfl) (by kernel_rfl) (fun _ _ _ h => h) (Or.inl ⟨by rfl, ?_⟩) (by assumption) ?_
    rotate_left
    · intro w hSw; (try dsimp only at hSw); go_simp; (try with_reducible rfl)
    try simp only [Act.put, List.setIfInBounds_toArray, List.set_cons_zero, List.set_cons_succ]
    refine wpAnyH_done (by kernel_rfl) ?_ _
    have HP8 := Lib.hid (HP6.out.below hb68)
    have HX8 := Lib.hid (HX6.out.below hb68 (Nat.le_refl _))
    have q4 : w8.drew.cell? ⟨gb, 0, none⟩ = some (.slice x' y' z') := HP8.out.one.cb
    have hd8 := below_drew1 w8
    have HT3 := Lib.hid (rtwo_any d (by omega) w8.drew)
    have HDl : Hid (∀ v W, RN W v (2 ^ d) → Below w8.heap.size w8 W → Calls Tryd.prog 21 #[.slice x' y' z', v] W (RDivIs N (2 ^ d) W)) := Lib.hid (fun v W h1 h2 => rdiv_num N (2 ^ d) _ v W (HP8.out.one.nb.below h2 (Nat.le_refl _)) (num_1 9000 HN40.out (by omega)) h1 (Nat.pow_pos (by omega)) (two_up _ 2000 (by omega)))
    have HS2 : Hid (∀ W, Below w8.heap.size w8 W → W.cell? ⟨gb, 0, none⟩ = some (.slice x' y' z')) := Lib.hid (fun W h => (HP8.out.one.below h).cb)
    clear hN7 hb7 hb67 hN8 hb8 hb68 hd6 q3 HMl HT2 HS HP6 HX6
    go_wp2_with fail
    refine wp_region_held_drew (S := (fun w' => w'.cell? ⟨gb, 0, none⟩ = some (.slice x' y' z'))) (by kernel_rfl) ?_ (fun hHeld => ?_)
    · exact q4
    refine wpAnyH_take (i := 0) (oi := { dst := some 88, op := Op.move (Operand.tmp 8), type := 24, pos := "law.go:105", after := #[], guard := none }) (v := ?_) rfl (by kernel_rfl) (by kernel_rfl) (by kernel_rfl) (fun _ _ _ h => h) (Or.inl ⟨by rfl, ?_⟩) (by assumption) ?_
    rotate_left
    · intro w hSw; (try dsimp only at hSw); go_simp; (try with_reducible rfl)
    try simp only [Act.put, List.setIfInBounds_toArray, List.set_cons_zero, List.set_cons_succ]
    refine wpAnyH_take (i := 1) (oi := { dst := some 89, op := Op.indexAddr 24 (Operand.tmp 88) (Operand.const (Value.int IntKind.i64 0)), type := 0, pos := "law.go:105", after := #[{ on := 0, ground := Ground.data }], guard := none }) (v := ?_) rfl (by kernel_rfl) (by kernel_rfl) (by kernel_rfl) (fun _ _ _ h => h) (Or.inl ⟨by rfl, ?_⟩) (by assumption) ?_
    rotate_left
    · intro w hSw; (try dsimp only at hSw); go_simp; (try with_reducible rfl)
    try simp only [Act.put, List.setIfInBounds_toArray, List.set_cons_zero, List.set_cons_succ]
    refine wpAnyH_take (i := 2) (oi := { dst := some 90, op := Op.load 32 (Operand.tmp 89), type := 32, pos := "law.go:105", after := #[{ on := 1, ground := Ground.data }], guard := none }) (v := ?_) rfl (by kernel_rfl) (by kernel_rfl) (by kernel_rfl) (fun _ _ _ h => h) (Or.inl ⟨by rfl, ?_⟩) (by assumption) ?_
    rotate_left
    · intro w hSw; (try dsimp only at hSw); go_simp; (try with_reducible rfl)
    try simp only [Act.put, List.setIfInBounds_toArray, List.set_cons_zero, List.set_cons_succ]
    refine wpAnyH_take (i := 3) (oi := { dst := some 91, op := Op.move (Operand.tmp 2), type := 3, pos := "law.go:105", after := #[], guard := none }) (v := ?_) rfl (by kernel_rfl) (by kernel_rfl) (by kernel_rfl) (fun _ _ _ h => h) (Or.inl ⟨by rfl, ?_⟩) (by assumption) ?_
    rotate_left
    · intro w hSw; (try dsimp only at hSw); go_simp; (try with_reducible rfl)
    try simp only [Act.put, List.setIfInBounds_toArray, List.set_cons_zero, List.set_cons_succ]
    refine wpAnyH_take (i := 4) (oi := { dst := some 92, op := Op.unOp UnOp.neg 3 (Operand.tmp 91), type := 3, pos := "law.go:105", after := #[{ on := 3, ground := Ground.data }], guard := none }) (v := ?_) rfl (by kernel_rfl) (by kernel_rfl) (by kernel_rfl) (fun _ _ _ h => h) (Or.inl ⟨by rfl, ?_⟩) (by assumption) ?_
    rotate_left
    · intro w hSw; (try dsimp only at hSw); go_simp; (try with_reducible rfl)
    try simp only [Act.put, List.setIfInBounds_toArray, List.set_cons_zero, List.set_cons_succ]
    refine wpAnyH_ready (rs := [5]) (by kernel_rfl) (by simp) ?_
    refine AllReadyH.cons (o := { dst := some 93, op := Op.call { callee := Callee.value (Operand.func 29), args := #[Operand.tmp 92], argTypes := #[3] }, type := 32, pos := "law.go:105", after := #[{ on := 4, ground := Ground.data }], guard := none }) rfl (fun K hK => ?_) AllReadyH.nil
    go_simp
    go_at_call 29; refine HT3.out.mono ?_; rintro ε w9 ⟨v9, rfl, hN9, hb9⟩; have hb89 := hd8.trans (hb9.mono hd8.size)
    refine hK.out _ _ ?_ (fun hHeld => ?_)
    · first | exact HS2.out _ hb8A | exact HS2.out _ hb89
    clear hK K
    try simp only [Act.put, List.setIfInBounds_toArray, List.set_cons_zero, List.set_cons_succ]
    refine wpAnyH_ready (rs := [6]) (by kernel_rfl) (by simp) ?_
    refine AllReadyH.cons (o := { dst := some 94, op := Op.call { callee := Callee.value (Operand.func 21), args := #[Operand.tmp 90, Operand.tmp 93], argTypes := #[32, 32] }, type := 42, pos := "law.go:105", after := #[{ on := 2, ground := Ground.data }, { on := 5, ground := Ground.data }, { on := 5, ground := Ground.chain }], guard := none }) rfl (fun K hK => ?_) AllReadyH.nil
    go_simp
    go_at_call 21; refine (HDl.out v9 w9 hN9 hb89).mono ?_; rintro ε wA ⟨vA, vB, rfl, hNA, hNB, hbA⟩; have hb8A := hb89.trans (hbA.mono hb89.size)
    refine hK.out _ _ ?_ (fun hHeld => ?_)
    · first | exact HS2.out _ hb8A | exact HS2.out _ hb89
    clear hK K
    try simp only [Act.put, List.setIfInBounds_toArray, List.set_cons_zero, List.set_cons_succ]
    refine wpAnyH_take (i := 7) (oi := { dst := some 87, op := Op.move (Operand.tmp 94), type := 42, pos := "law.go:105", after := #[{ on := 6, ground := Ground.data }], guard := none }) (v := ?_) rfl (by kernel_rfl) (by kernel_rfl) (by kernel_rfl) (fun _ _ _ h => h) (Or.inl ⟨by rfl, ?_⟩) (by assumption) ?_
    rotate_left
    · intro w hSw; (try dsimp only at hSw); go_simp; (try with_reducible rfl)
    try simp only [Act.put, List.setIfInBounds_toArray, List.set_cons_zero, List.set_cons_succ]
    refine wpAnyH_take (i := 8) (oi := { dst := some 95, op := Op.extract (Operand.tmp 87) 0, type := 32, pos := "law.go:105", after := #[{ on := 7, ground := Ground.data }], guard := none }) (v := ?_) rfl (by kernel_rfl) (by kernel_rfl) (by kernel_rfl) (fun _ _ _ h => h) (Or.inl ⟨by rfl, ?_⟩) (by assumption) ?_
    rotate_left
    · intro w hSw; (try dsimp only at hSw); go_simp; (try with_reducible rfl)
    try simp only [Act.put, List.setIfInBounds_toArray, List.set_cons_zero, List.set_cons_succ]
    refine wpAnyH_take (i := 9) (oi := { dst := some 96, op := Op.extract (Operand.tmp 87) 1, type := 32, pos := "law.go:105", after := #[{ on := 7, ground := Ground.data }, { on := 10, ground := Ground.gcOnly Departure.lateStores }], guard := none }) (v := ?_) rfl (by kernel_rfl) (by kernel_rfl) (by kernel_rfl) (fun _ _ _ h => h) (Or.inl ⟨by rfl, ?_⟩) (by assumption) ?_
    rotate_left
    · intro w hSw; (try dsimp only at hSw); go_simp; (try with_reducible rfl)
    try simp only [Act.put, List.setIfInBounds_toArray, List.set_cons_zero, List.set_cons_succ]
    refine wpAnyH_take (i := 10) (oi := { dst := some 15, op := Op.assign (Operand.tmp 95), type := 32, pos := "law.go:105", after := #[{ on := 8, ground := Ground.data }, { on := 6, ground := Ground.chain }, { on := 0, ground := Ground.phase }, { on := 1, ground := Ground.phase }, { on := 2, ground := Ground.phase }, { on := 3, ground := Ground.phase }, { on := 4, ground := Ground.phase }, { on := 5, ground := Ground.phase }, { on := 6, ground := Ground.phase }, { on := 7, ground := Ground.phase }, { on := 8, ground := Ground.phase }, { on := 9, ground := Ground.textOnly Departure.lateStores }], guard := none }) (v := ?_) rfl (by kernel_rfl) (by kernel_rfl) (by kernel_rfl) (fun _ _ _ h => h) (Or.inl ⟨by rfl, ?_⟩) (by assumption) ?_
    rotate_left
    · intro w hSw; (try dsimp only at hSw); go_simp; (try with_reducible rfl)
    try simp only [Act.put, List.setIfInBounds_toArray, List.set_cons_zero, List.set_cons_succ]
    refine wpAnyH_done (by kernel_rfl) ?_ _
    have HPA := Lib.hid (HP8.out.below hb8A)
    have HXA := Lib.hid (HX8.out.below hb8A (Nat.le_refl _))
    have HY8 := Lib.hid hNA
    clear hN9 hb9 hb89 hNA hNB hbA hb8A hd8 q4 HDl HT3 HS2 HP8 HX8
    have q5 : wA.cell? ⟨bp, 0, none⟩ = some (.slice none 0 0) := HPA.out.bx.cell 0
    have HSm := Lib.hid (same_num (0) _ _ wA HPA.out.np HXA.out (zero_lt9 9000) (HTab.out.below (HB1.out.trans (HPA.out.one.bel.mono HB1.out.size)) (Nat.le_refl _)))
    go_wp2_with fail
    refine HSm.out.mono ?_
    rintro ε wC ⟨rfl, hbC⟩
    have HPC := Lib.hid (HPA.out.below hbC)
    have HYC := Lib.hid (HY8.out.below hbC (Nat.le_refl _))
    have q6 : wC.cell? ⟨ga, 0, none⟩ = some (.slice x y z) := HPC.out.one.ca
    have HSh := Lib.hid (shn_any N d _ BY wC HPC.out.one.na hd0 (by omega) HBY.out)
    clear hbC HSm q5 HPA HY8
    go_wp2_with fail
    refine HSh.out.mono ?_
    rintro ε wD ⟨vD, rfl, hND, _, hbD⟩
    have HPD := Lib.hid (HPC.out.below hbD)
    have HSn := Lib.hid (same_num (N / 2 ^ d) _ _ wD hND (HYC.out.below hbD (Nat.le_refl _)) (Nat.lt_of_le_of_lt (Nat.div_le_self _ _) (num_1 9000 HN40.out (by omega))) (HTab.out.below (HB1.out.trans (HPD.out.one.bel.mono HB1.out.size)) (Nat.le_refl _)))
    clear hND hbD HSh q6 HPC
    go_wp2_with fail
    refine HSn.out.mono ?_
    rintro ε wE ⟨rfl, hbE⟩
    have HPE := Lib.hid (HPD.out.below hbE)
    clear hbE HSn HPD
    go_wp2_with fail
    go_ret
    exact ⟨rfl, HB1.out.trans (HPE.out.one.bel.mono HB1.out.size)⟩
set_option maxRecDepth 100000 in
set_option maxHeartbeats 4000000 in
theorem natPowers.mid_up (s : ByteArray) (E BY : Int) (hs : s.size ≤ 12) (e : Nat) (hE : E = (e : Int)) (he : e ≤ 40) (d : Nat) (hB : BY = (d : Int)) (hd : d ≤ 200) (w : World) (htab : Tab w) :
    Calls Tryd.prog 4 #[.string s, .int .i64 E, .int .i64 BY] w fun e w' => e = .returned (.bool true) ∧ Below w.heap.size w w' := by
  have HAl := Lib.hid (alive_any w htab)
  have HTab := Lib.hid htab
  have HN40 := Lib.hid (nn_40 hs)
  have HNats : Hid (∀ w1, Below w.heap.size w w1 → Calls Tryd.prog 7 #[.slice (some ⟨w1.heap.size, 0, none⟩) 1 1] (w1.alloc (.cells #[.string s] 9)) fun e w' => ∃ ga ca gb cb x y z x' y' z', e = .returned (.tuple #[.slice (some ⟨ga, 0, none⟩) 1 ca, .slice (some ⟨gb, 0, none⟩) 1 cb, .bool true]) ∧ One w1 w' ga gb (.slice x y z) (.slice x' y' z') (nn s)) := Lib.hid (fun w1 h => nats_one s w1 (by omega) (htab.below h (Nat.le_refl _)))
  obtain ⟨N, hN⟩ : ∃ N, nn s = N := ⟨_, rfl⟩
  rw [hN] at HN40 HNats
  obtain ⟨sz, hsz⟩ : ∃ sz, s.size = sz := ⟨_, rfl⟩
  have c1 : ¬ (12 : Int) < (sz : Int) := by omega
  have e1 : ¬ 40 < E := by omega
  have e2 : ¬ E < 0 := by omega
  have e3 : ¬ 5000 < E := by omega
  have HE := Lib.hid hE
  have b1 : ¬ 200 < BY := by omega
  have b2 : ¬ BY < -200 := by omega
  have HBY := Lib.hid hB
  have b3 : ¬ BY < 0 := by omega
  have b4 : max BY 0 = (d : Int) := by omega
  clear hs htab hN hB hE
  go_enter Tryd.func4, Tryd.ntmps4
  go_wp2_with fail
  refine HAl.out.mono ?_
  rintro e w1 ⟨rfl, hb1⟩
  have HB1 := Lib.hid hb1
  have HNats1 := Lib.hid (HNats.out w1 hb1)
  clear hb1 HAl HNats
  go_wp2_with fail
  refine HNats1.out.mono ?_
  rintro ε w2 ⟨ga, ca, gb, cb, x, y, z, x', y', z', rfl, hO⟩
  have HO2 := Lib.hid hO
  have q2 : w2.cell? ⟨ga, 0, none⟩ = some (.slice x y z) := hO.ca
  have HP := Lib.hid (pow_num N e _ w2 E hO.na HN40.out he HE.out)
  clear hO HNats1
  go_wp2_with fail
  refine HP.out.mono ?_
  rintro ε w3 ⟨px, py, pz, rfl, hp, hb3⟩
  have hl3 := below_lit w3 (.cells #[.slice px py pz] 30)
  have hpb : Pb w1 (w3.alloc (.cells #[.slice px py pz] 30)) ga gb (.slice x y z) (.slice x' y' z') N w3.heap.size (.slice px py pz) (N ^ e) := ⟨(HO2.out.below hb3).below hl3, Blk.new w3 _ _, hp.below hl3 (Nat.le_refl _)⟩
  obtain ⟨bp, hbp⟩ : ∃ bp, w3.heap.size = bp := ⟨_, rfl⟩
  obtain ⟨W4, hW4⟩ : ∃ W4, w3.alloc (.cells #[.slice px py pz] 30) = W4 := ⟨_, rfl⟩
  rw [hW4, hbp] at hpb
  have hl4 := below_lit W4 (.cells #[.int .i64 1] 3)
  obtain ⟨W5, hW5⟩ : ∃ W5, W4.alloc (.cells #[.int .i64 1] 3) = W5 := ⟨_, rfl⟩
  have hx1 : RN W5 (.slice (some ⟨bp + 1, 0, none⟩) 1 1) 1 := by
    have e1 : W4.heap.size = bp + 1 := by rw [← hW4, ← hbp]; simp
    rw [← hW5, ← e1]
    exact rn_lit W4 (d := 1) (by omega) (by omega)
  have HX1 := Lib.hid hx1
  rw [hW5] at hl4
  have HPb := Lib.hid (hpb.below hl4)
  have HW4 := Lib.hid hW4
  have Hbp := Lib.hid hbp
  have HW5 := Lib.hid hW5
  clear hp hb3 hl3 hl4 hpb hbp hW4 hW5 HP HO2 q2 hx1
  go_wp2_with fail
  rw [Hbp.out, HW4.out, HW5.out]
  go_loopw [13, 14] (fun xv kv wr => ∃ k : Nat, k ≤ e ∧ kv = .int .i64 (k : Int) ∧ Hid (RN wr xv (N ^ k)) ∧ Hid (Pb w1 wr ga gb (.slice x y z) (.slice x' y' z') N bp (.slice px py pz) (N ^ e))) (fun _ kv _ => e - (intOf kv).toNat)
  case atStart => exact ⟨0, by omega, rfl, Lib.hid (by rw [Nat.pow_zero]; exact HX1.out), HPb⟩
  case round =>
    clear HPb HX1
    obtain ⟨k, hk, rfl, hx, hpb⟩ := hrel
    by_cases hlt : k < e
    · have ck : (k : Int) < E := by have := HE.out; omega
      have q3 : wr.cell? ⟨gb, 0, none⟩ = some (.slice x' y' z') := hpb.out.one.cb
      have HM := Lib.hid (rmul_num (N ^ k) N _ _ wr hx.out hpb.out.one.nb (num_up 9000 HN40.out (by omega)) (num_1 9000 HN40.out (by omega)))
      clear hx
      go_wp2_with fail
      refine HM.out.mono ?_
      rintro ε w6 ⟨v6, rfl, hN6, hb6⟩
      rw [← Nat.pow_succ] at hN6
      have HN6 := Lib.hid hN6
      have Hpb6 := Lib.hid (hpb.out.below hb6)
      clear hN6 hb6 HM hpb q3
      go_wp2_with fail
      go_roundw
      case rel => exact ⟨k + 1, by omega, by go_num, HN6, Hpb6⟩
      case measure => simp [intOf]; omega
    · obtain rfl : e = k := by omega
      have ck : ¬ (e : Int) < E := by have := HE.out; omega
      have HX6 := Lib.hid hx.out
      have HP6 := Lib.hid hpb.out
      have q3 : wr.drew.cell? ⟨gb, 0, none⟩ = some (.slice x' y' z') := hpb.out.one.cb
      clear hx hpb
      have hd6 := below_drew1 wr
      have HT2 := Lib.hid (rtwo_any d (by omega) wr.drew)
      have HMl : Hid (∀ v W, RN W v (2 ^ d) → Below wr.heap.size wr W → Calls Tryd.prog 16 #[.slice x' y' z', v] W (GotR (N * 2 ^ d) W)) := Lib.hid (fun v W h1 h2 => rmul_num N (2 ^ d) _ v W (HP6.out.one.nb.below h2 (Nat.le_refl _)) h1 (num_1 9000 HN40.out (by omega)) (two_up _ 9000 (by omega)))
      have HS : Hid (∀ W, Below wr.heap.size wr W → W.cell? ⟨gb, 0, none⟩ = some (.slice x' y' z')) := Lib.hid (fun W h => (HP6.out.one.below h).cb)
      go_wp2_with fail
      refine wp_region_held_drew (S := (fun w' => w'.cell? ⟨gb, 0, none⟩ = some (.slice x' y' z'))) (by kernel_rfl) ?_ (fun hHeld => ?_)
      · exact q3
      refine wpAnyH_take (i := 0) (oi := { dst := some 78, op := Op.move (Operand.tmp 8), type := 24, pos := "law.go:103", after := #[], guard := none }) (v := ?_) rfl (by kernel_rfl) (by kernel_rfl) (by kernel_rfl) (fun _ _ _ h => h) (Or.inl ⟨by rfl, ?_⟩) (by assumption) ?_
      rotate_left
      · intro w hSw; (try dsimp only at hSw); go_simp; (try with_reducible rfl)
      try simp only [Act.put, List.setIfInBounds_toArray, List.set_cons_zero, List.set_cons_succ]
      refine wpAnyH_take (i := 1) (oi := { dst := some 79, op := Op.indexAddr 24 (Operand.tmp 78) (Operand.const (Value.int IntKind.i64 0)), type := 0, pos := "law.go:103", after := #[{ on := 0, ground := Ground.data }], guard := none }) (v := ?_) rfl (by kernel_rfl) (by kernel_rfl) (by kernel_rfl) (fun _ _ _ h => h) (Or.inl ⟨by rfl, ?_⟩) (by assumption) ?_
      rotate_left
      · intro w hSw; (try dsimp only at hSw); go_simp; (try with_reducible rfl)
      try simp only [Act.put, List.setIfInBounds_toArray, List.set_cons_zero, List.set_cons_succ]
      refine wpAnyH_take (i := 2) (oi := { dst := some 80, op := Op.load 32 (Operand.tmp 79), type := 32, pos := "law.go:103", after := #[{ on := 1, ground := Ground.data }], guard := none }) (v := ?_) rfl (by kernel_rfl) (by kernel_rfl) (by kernel_rfl) (fun _ _ _ h => h) (Or.inl ⟨by rfl, ?_⟩) (by assumption) ?_
      rotate_left
      · intro w hSw; (try dsimp only at hSw); go_simp; (try with_reducible rfl)
      try simp only [Act.put, List.setIfInBounds_toArray, List.set_cons_zero, List.set_cons_succ]
      refine wpAnyH_take (i := 3) (oi := { dst := some 81, op := Op.move (Operand.tmp 2), type := 3, pos := "law.go:103", after := #[], guard := none }) (v := ?_) rfl (by kernel_rfl) (by kernel_rfl) (by kernel_rfl) (fun _ _ _ h => h) (Or.inl ⟨by rfl, ?_⟩) (by assumption) ?_
      rotate_left
      · intro w hSw; (try dsimp only at hSw); go_simp; (try with_reducible rfl)
      try simp only [Act.put, List.setIfInBounds_toArray, List.set_cons_zero, List.set_cons_succ]
      refine wpAnyH_take (i := 4) (oi := { dst := some 82, op := Op.call { callee := Callee.builtin Builtin.max, args := #[Operand.tmp 81, Operand.const (Value.int IntKind.i64 0)], argTypes := #[3, 3] }, type := 3, pos := "law.go:103", after := #[{ on := 3, ground := Ground.data }], guard := none }) (v := ?_) rfl (by kernel_rfl) (by kernel_rfl) (by kernel_rfl) (fun _ _ _ h => h) (Or.inl ⟨by rfl, ?_⟩) (by assumption) ?_
      rotate_left
      · intro w hSw; (try dsimp only at hSw); go_simp; (try with_reducible rfl)
      try simp only [Act.put, List.setIfInBounds_toArray, List.set_cons_zero, List.set_cons_succ]
      refine wpAnyH_ready (rs := [5]) (by kernel_rfl) (by simp) ?_
      refine AllReadyH.cons (o := { dst := some 83, op := Op.call { callee := Callee.value (Operand.func 29), args := #[Operand.tmp 82], argTypes := #[3] }, type := 32, pos := "law.go:103", after := #[{ on := 4, ground := Ground.data }], guard := none }) rfl (fun K hK => ?_) AllReadyH.nil
      go_simp
      go_at_call 29; refine HT2.out.mono ?_; rintro ε w7 ⟨v7, rfl, hN7, hb7⟩; have hb67 := hd6.trans (hb7.mono hd6.size)
      refine hK.out _ _ ?_ (fun hHeld => ?_)
      · first | exact HS.out _ hb68 | exact HS.out _ hb67
      clear hK K
      try simp only [Act.put, List.setIfInBounds_toArray, List.set_cons_zero, List.set_cons_succ]
      refine wpAnyH_ready (rs := [6]) (by kernel_rfl) (by simp) ?_
      refine AllReadyH.cons (o := { dst := some 84, op := Op.call { callee := Callee.value (Operand.func 16), args := #[Operand.tmp 80, Operand.tmp 83], argTypes := #[32, 32] }, type := 32, pos := "law.go:103", after := #[{ on := 2, ground := Ground.data }, { on := 5, ground := Ground.data }, { on := 5, ground := Ground.chain }], guard := none }) rfl (fun K hK => ?_) AllReadyH.nil
      go_simp
      go_at_call 16; refine (HMl.out v7 w7 hN7 hb67).mono ?_; rintro ε w8 ⟨v8, rfl, hN8, hb8⟩; have hb68 := hb67.trans (hb8.mono hb67.size)
      refine hK.out _ _ ?_ (fun hHeld => ?_)
      · first | exact HS.out _ hb68 | exact HS.out _ hb67
      clear hK K
      try simp only [Act.put, List.setIfInBounds_toArray, List.set_cons_zero, List.set_cons_succ]
      refine wpAnyH_take (i := 7) (oi := { dst := some 15, op := Op.assign (Operand.tmp 84), type := 32, pos := "law.go:103", after := #[{ on := 6, ground := Ground.data }, { on := 6, ground := Ground.chain }, { on := 0, ground := Ground.phase }, { on := 1, ground := Ground.phase }, { on := 2, ground := Ground.phase }, { on := 3, ground := Ground.phase }, { on := 4, ground := Ground.phase }, { on := 5, ground := Ground.phase }, { on := 6, ground := Ground.phase }], guard := none }) (v := ?_) rfl (by kernel_rfl) (by kernel_rfl) (by kernel_rfl) (fun _ _ _ h => h) (Or.inl ⟨by rfl, ?_⟩) (by assumption) ?_
      rotate_left
      · intro w hSw; (try dsimp only at hSw); go_simp; (try with_reducible rfl)
      try simp only [Act.put, List.setIfInBounds_toArray, List.set_cons_zero, List.set_cons_succ]
      refine wpAnyH_done (by kernel_rfl) ?_ _
      have HP8 := Lib.hid (HP6.out.below hb68)
      have HX8 := Lib.hid (HX6.out.below hb68 (Nat.le_refl _))
      have HY8 := Lib.hid hN8
      obtain ⟨W8, hW8⟩ : ∃ W8, w8 = W8 := ⟨_, rfl⟩
      subst hW8
      have HB8 := Lib.hid hb68
      clear hN7 hb7 hb67 hN8 hb8 hb68 hd6 q3 HMl HT2 HS HP6 HX6
      have q5 : w8.cell? ⟨bp, 0, none⟩ = some (.slice px py pz) := HP8.out.bx.cell 0
      have HSm := Lib.hid (same_num (N ^ e) _ _ w8 HP8.out.np HX8.out (num_up 9000 HN40.out (by omega)) (HTab.out.below (HB1.out.trans (HP8.out.one.bel.mono HB1.out.size)) (Nat.le_refl _)))
      go_wp2_with fail
      refine HSm.out.mono ?_
      rintro ε wC ⟨rfl, hbC⟩
      have HPC := Lib.hid (HP8.out.below hbC)
      have HYC := Lib.hid (HY8.out.below hbC (Nat.le_refl _))
      have q6 : wC.cell? ⟨ga, 0, none⟩ = some (.slice x y z) := HPC.out.one.ca
      have HSh := Lib.hid (shu_any N d _ BY wC HPC.out.one.na (num_w HN40.out) (by omega) HBY.out)
      clear hbC HSm q5 HP8 HY8
      go_wp2_with fail
      refine HSh.out.mono ?_
      rintro ε wD ⟨vD, rfl, hND, _, hbD⟩
      have HPD := Lib.hid (HPC.out.below hbD)
      have HSn := Lib.hid (same_num (N * 2 ^ d) _ _ wD hND (HYC.out.below hbD (Nat.le_refl _)) (num_sh HN40.out hd) (HTab.out.below (HB1.out.trans (HPD.out.one.bel.mono HB1.out.size)) (Nat.le_refl _)))
      clear hND hbD HSh q6 HPC
      go_wp2_with fail
      refine HSn.out.mono ?_
      rintro ε wE ⟨rfl, hbE⟩
      have HPE := Lib.hid (HPD.out.below hbE)
      clear hbE HSn HPD
      go_wp2_with fail
      go_ret
      exact ⟨rfl, HB1.out.trans (HPE.out.one.bel.mono HB1.out.size)⟩
set_option maxRecDepth 100000 in
set_option maxHeartbeats 4000000 in
theorem natPowers.mid_down (s : ByteArray) (E BY : Int) (hs : s.size ≤ 12) (e : Nat) (hE : E = (e : Int)) (he : e ≤ 40) (d : Nat) (hB : BY = -(d : Int)) (hd0 : 0 < d) (hd : d ≤ 200) (w : World) (htab : Tab w) :
    Calls Tryd.prog 4 #[.string s, .int .i64 E, .int .i64 BY] w fun e w' => e = .returned (.bool true) ∧ Below w.heap.size w w' := by
  have HAl := Lib.hid (alive_any w htab)
  have HTab := Lib.hid htab
  have HN40 := Lib.hid (nn_40 hs)
  have HNats : Hid (∀ w1, Below w.heap.size w w1 → Calls Tryd.prog 7 #[.slice (some ⟨w1.heap.size, 0, none⟩) 1 1] (w1.alloc (.cells #[.string s] 9)) fun e w' => ∃ ga ca gb cb x y z x' y' z', e = .returned (.tuple #[.slice (some ⟨ga, 0, none⟩) 1 ca, .slice (some ⟨gb, 0, none⟩) 1 cb, .bool true]) ∧ One w1 w' ga gb (.slice x y z) (.slice x' y' z') (nn s)) := Lib.hid (fun w1 h => nats_one s w1 (by omega) (htab.below h (Nat.le_refl _)))
  obtain ⟨N, hN⟩ : ∃ N, nn s = N := ⟨_, rfl⟩
  rw [hN] at HN40 HNats
  obtain ⟨sz, hsz⟩ : ∃ sz, s.size = sz := ⟨_, rfl⟩
  have c1 : ¬ (12 : Int) < (sz : Int) := by omega
  have e1 : ¬ 40 < E := by omega
  have e2 : ¬ E < 0 := by omega
  have e3 : ¬ 5000 < E := by omega
  have HE := Lib.hid hE
  have b1 : ¬ 200 < BY := by omega
  have b2 : ¬ BY < -200 := by omega
  have HBY := Lib.hid hB
  have b3 : BY < 0 := by omega
  have b4 : max BY 0 = (0 : Int) := by omega
  have b5 : -BY = (d : Int) := by omega
  have b6 : IntKind.i64.wrap (d : Int) = (d : Int) := IntWalk.i64_in _ ⟨by omega, by omega⟩
  clear hs htab hN hB hE
  go_enter Tryd.func4, Tryd.ntmps4
  go_wp2_with fail
  refine HAl.out.mono ?_
  rintro e w1 ⟨rfl, hb1⟩
  have HB1 := Lib.hid hb1
  have HNats1 := Lib.hid (HNats.out w1 hb1)
  clear hb1 HAl HNats
  go_wp2_with fail
  refine HNats1.out.mono ?_
  rintro ε w2 ⟨ga, ca, gb, cb, x, y, z, x', y', z', rfl, hO⟩
  have HO2 := Lib.hid hO
  have q2 : w2.cell? ⟨ga, 0, none⟩ = some (.slice x y z) := hO.ca
  have HP := Lib.hid (pow_num N e _ w2 E hO.na HN40.out he HE.out)
  clear hO HNats1
  go_wp2_with fail
  refine HP.out.mono ?_
  rintro ε w3 ⟨px, py, pz, rfl, hp, hb3⟩
  have hl3 := below_lit w3 (.cells #[.slice px py pz] 30)
  have hpb : Pb w1 (w3.alloc (.cells #[.slice px py pz] 30)) ga gb (.slice x y z) (.slice x' y' z') N w3.heap.size (.slice px py pz) (N ^ e) := ⟨(HO2.out.below hb3).below hl3, Blk.new w3 _ _, hp.below hl3 (Nat.le_refl _)⟩
  obtain ⟨bp, hbp⟩ : ∃ bp, w3.heap.size = bp := ⟨_, rfl⟩
  obtain ⟨W4, hW4⟩ : ∃ W4, w3.alloc (.cells #[.slice px py pz] 30) = W4 := ⟨_, rfl⟩
  rw [hW4, hbp] at hpb
  have hl4 := below_lit W4 (.cells #[.int .i64 1] 3)
  obtain ⟨W5, hW5⟩ : ∃ W5, W4.alloc (.cells #[.int .i64 1] 3) = W5 := ⟨_, rfl⟩
  have hx1 : RN W5 (.slice (some ⟨bp + 1, 0, none⟩) 1 1) 1 := by
    have e1 : W4.heap.size = bp + 1 := by rw [← hW4, ← hbp]; simp
    rw [← hW5, ← e1]
    exact rn_lit W4 (d := 1) (by omega) (by omega)
  have HX1 := Lib.hid hx1
  rw [hW5] at hl4
  have HPb := Lib.hid (hpb.below hl4)
  have HW4 := Lib.hid hW4
  have Hbp := Lib.hid hbp
  have HW5 := Lib.hid hW5
  clear hp hb3 hl3 hl4 hpb hbp hW4 hW5 HP HO2 q2 hx1
  go_wp2_with fail
  rw [Hbp.out, HW4.out, HW5.out]
  go_loopw [13, 14] (fun xv kv wr => ∃ k : Nat, k ≤ e ∧ kv = .int .i64 (k : Int) ∧ Hid (RN wr xv (N ^ k)) ∧ Hid (Pb w1 wr ga gb (.slice x y z) (.slice x' y' z') N bp (.slice px py pz) (N ^ e))) (fun _ kv _ => e - (intOf kv).toNat)
  case atStart => exact ⟨0, by omega, rfl, Lib.hid (by rw [Nat.pow_zero]; exact HX1.out), HPb⟩
  case round =>
    clear HPb HX1
    obtain ⟨k, hk, rfl, hx, hpb⟩ := hrel
    by_cases hlt : k < e
    · have ck : (k : Int) < E := by have := HE.out; omega
      have q3 : wr.cell? ⟨gb, 0, none⟩ = some (.slice x' y' z') := hpb.out.one.cb
      have HM := Lib.hid (rmul_num (N ^ k) N _ _ wr hx.out hpb.out.one.nb (num_up 9000 HN40.out (by omega)) (num_1 9000 HN40.out (by omega)))
      clear hx
      go_wp2_with fail
      refine HM.out.mono ?_
      rintro ε w6 ⟨v6, rfl, hN6, hb6⟩
      rw [← Nat.pow_succ] at hN6
      have HN6 := Lib.hid hN6
      have Hpb6 := Lib.hid (hpb.out.below hb6)
      clear hN6 hb6 HM hpb q3
      go_wp2_with fail
      go_roundw
      case rel => exact ⟨k + 1, by omega, by go_num, HN6, Hpb6⟩
      case measure => simp [intOf]; omega
    · obtain rfl : e = k := by omega
      have ck : ¬ (e : Int) < E := by have := HE.out; omega
      have HX6 := Lib.hid hx.out
      have HP6 := Lib.hid hpb.out
      have q3 : wr.drew.cell? ⟨gb, 0, none⟩ = some (.slice x' y' z') := hpb.out.one.cb
      clear hx hpb
      have hd6 := below_drew1 wr
      have HT2 := Lib.hid (rtwo_0 wr.drew)
      have HMl : Hid (∀ v W, RN W v (2 ^ 0) → Below wr.heap.size wr W → Calls Tryd.prog 16 #[.slice x' y' z', v] W (GotR (N * 2 ^ 0) W)) := Lib.hid (fun v W h1 h2 => rmul_num N (2 ^ 0) _ v W (HP6.out.one.nb.below h2 (Nat.le_refl _)) h1 (num_1 9000 HN40.out (by omega)) (two_up _ 9000 (by omega)))
      have HS : Hid (∀ W, Below wr.heap.size wr W → W.cell? ⟨gb, 0, none⟩ = some (.slice x' y' z')) := Lib.hid (fun W h => (HP6.out.one.below h).cb)
      go_wp2_with fail
      refine wp_region_held_drew (S := (fun w' => w'.cell? ⟨gb, 0, none⟩ = some (.slice x' y' z'))) (by kernel_rfl) ?_ (fun hHeld => ?_)
      · exact q3
      refine wpAnyH_take (i := 0) (oi := { dst := some 78, op := Op.move (Operand.tmp 8), type := 24, pos := "law.go:103", after := #[], guard := none }) (v := ?_) rfl (by kernel_rfl) (by kernel_rfl) (by kernel_rfl) (fun _ _ _ h => h) (Or.inl ⟨by rfl, ?_⟩) (by assumption) ?_
      rotate_left
      · intro w hSw; (try dsimp only at hSw); go_simp; (try with_reducible rfl)
      try simp only [Act.put, List.setIfInBounds_toArray, List.set_cons_zero, List.set_cons_succ]
      refine wpAnyH_take (i := 1) (oi := { dst := some 79, op := Op.indexAddr 24 (Operand.tmp 78) (Operand.const (Value.int IntKind.i64 0)), type := 0, pos := "law.go:103", after := #[{ on := 0, ground := Ground.data }], guard := none }) (v := ?_) rfl (by kernel_rfl) (by kernel_rfl) (by kernel_rfl) (fun _ _ _ h => h) (Or.inl ⟨by rfl, ?_⟩) (by assumption) ?_
      rotate_left
      · intro w hSw; (try dsimp only at hSw); go_simp; (try with_reducible rfl)
      try simp only [Act.put, List.setIfInBounds_toArray, List.set_cons_zero, List.set_cons_succ]
      refine wpAnyH_take (i := 2) (oi := { dst := some 80, op := Op.load 32 (Operand.tmp 79), type := 32, pos := "law.go:103", after := #[{ on := 1, ground := Ground.data }], guard := none }) (v := ?_) rfl (by kernel_rfl) (by kernel_rfl) (by kernel_rfl) (fun _ _ _ h => h) (Or.inl ⟨by rfl, ?_⟩) (by assumption) ?_
      rotate_left
      · intro w hSw; (try dsimp only at hSw); go_simp; (try with_reducible rfl)
      try simp only [Act.put, List.setIfInBounds_toArray, List.set_cons_zero, List.set_cons_succ]
      refine wpAnyH_take (i := 3) (oi := { dst := some 81, op := Op.move (Operand.tmp 2), type := 3, pos := "law.go:103", after := #[], guard := none }) (v := ?_) rfl (by kernel_rfl) (by kernel_rfl) (by kernel_rfl) (fun _ _ _ h => h) (Or.inl ⟨by rfl, ?_⟩) (by assumption) ?_
      rotate_left
      · intro w hSw; (try dsimp only at hSw); go_simp; (try with_reducible rfl)
      try simp only [Act.put, List.setIfInBounds_toArray, List.set_cons_zero, List.set_cons_succ]
      refine wpAnyH_take (i := 4) (oi := { dst := some 82, op := Op.call { callee := Callee.builtin Builtin.max, args := #[Operand.tmp 81, Operand.const (Value.int IntKind.i64 0)], argTypes := #[3, 3] }, type := 3, pos := "law.go:103", after := #[{ on := 3, ground := Ground.data }], guard := none }) (v := ?_) rfl (by kernel_rfl) (by kernel_rfl) (by kernel_rfl) (fun _ _ _ h => h) (Or.inl ⟨by rfl, ?_⟩) (by assumption) ?_
      rotate_left
      · intro w hSw; (try dsimp only at hSw); go_simp; (try with_reducible rfl)
      try simp only [Act.put, List.setIfInBounds_toArray, List.set_cons_zero, List.set_cons_succ]
      refine wpAnyH_ready (rs := [5]) (by kernel_rfl) (by simp) ?_
      refine AllReadyH.cons (o := { dst := some 83, op := Op.call { callee := Callee.value (Operand.func 29), args := #[Operand.tmp 82], argTypes := #[3] }, type := 32, pos := "law.go:103", after := #[{ on := 4, ground := Ground.data }], guard := none }) rfl (fun K hK => ?_) AllReadyH.nil
      go_simp
      go_at_call 29; refine HT2.out.mono ?_; rintro ε w7 ⟨v7, rfl, hN7, hb7⟩; have hb67 := hd6.trans (hb7.mono hd6.size)
      refine hK.out _ _ ?_ (fun hHeld => ?_)
      · first | exact HS.out _ hb68 | exact HS.out _ hb67
      clear hK K
      try simp only [Act.put, List.setIfInBounds_toArray, List.set_cons_zero, List.set_cons_succ]
      refine wpAnyH_ready (rs := [6]) (by kernel_rfl) (by simp) ?_
      refine AllReadyH.cons (o := { dst := some 84, op := Op.call { callee := Callee.value (Operand.func 16), args := #[Operand.tmp 80, Operand.tmp 83], argTypes := #[32, 32] }, type := 32, pos := "law.go:103", after := #[{ on := 2, ground := Ground.data }, { on := 5, ground := Ground.data }, { on := 5, ground := Ground.chain }], guard := none }) rfl (fun K hK => ?_) AllReadyH.nil
      go_simp
      go_at_call 16; refine (HMl.out v7 w7 hN7 hb67).mono ?_; rintro ε w8 ⟨v8, rfl, hN8, hb8⟩; have hb68 := hb67.trans (hb8.mono hb67.size)
      refine hK.out _ _ ?_ (fun hHeld => ?_)
      · first | exact HS.out _ hb68 | exact HS.out _ hb67
      clear hK K
      try simp only [Act.put, List.setIfInBounds_toArray, List.set_cons_zero, List.set_cons_succ]
      refine wpAnyH_take (i := 7) (oi := { dst := some 15, op := Op.assign (Operand.tmp 84), type := 32, pos := "law.go:103", after := #[{ on := 6, ground := Ground.data }, { on := 6, ground := Ground.chain }, { on := 0, ground := Ground.phase }, { on := 1, ground := Ground.phase }, { on := 2, ground := Ground.phase }, { on := 3, ground := Ground.phase }, { on := 4, ground := Ground.phase }, { on := 5, ground := Ground.phase }, { on := 6, ground := Ground.phase }], guard := none }) (v := ?_) rfl (by kernel_rfl) (by kernel_rfl) (by kernel_rfl) (fun _ _ _ h => h) (Or.inl ⟨by rfl, ?_⟩) (by assumption) ?_
      rotate_left
      · intro w hSw; (try dsimp only at hSw); go_simp; (try with_reducible rfl)
      try simp only [Act.put, List.setIfInBounds_toArray, List.set_cons_zero, List.set_cons_succ]
      refine wpAnyH_done (by kernel_rfl) ?_ _
      have HP8 := Lib.hid (HP6.out.below hb68)
      have HX8 := Lib.hid (HX6.out.below hb68 (Nat.le_refl _))
      have q4 : w8.drew.cell? ⟨gb, 0, none⟩ = some (.slice x' y' z') := HP8.out.one.cb
      have hd8 := below_drew1 w8
      have HT3 := Lib.hid (rtwo_any d (by omega) w8.drew)
      have HDl : Hid (∀ v W, RN W v (2 ^ d) → Below w8.heap.size w8 W → Calls Tryd.prog 21 #[.slice x' y' z', v] W (RDivIs N (2 ^ d) W)) := Lib.hid (fun v W h1 h2 => rdiv_num N (2 ^ d) _ v W (HP8.out.one.nb.below h2 (Nat.le_refl _)) (num_1 9000 HN40.out (by omega)) h1 (Nat.pow_pos (by omega)) (two_up _ 2000 (by omega)))
      have HS2 : Hid (∀ W, Below w8.heap.size w8 W → W.cell? ⟨gb, 0, none⟩ = some (.slice x' y' z')) := Lib.hid (fun W h => (HP8.out.one.below h).cb)
      clear hN7 hb7 hb67 hN8 hb8 hb68 hd6 q3 HMl HT2 HS HP6 HX6
      go_wp2_with fail
      refine wp_region_held_drew (S := (fun w' => w'.cell? ⟨gb, 0, none⟩ = some (.slice x' y' z'))) (by kernel_rfl) ?_ (fun hHeld => ?_)
      · exact q4
      refine wpAnyH_take (i := 0) (oi := { dst := some 88, op := Op.move (Operand.tmp 8), type := 24, pos := "law.go:105", after := #[], guard := none }) (v := ?_) rfl (by kernel_rfl) (by kernel_rfl) (by kernel_rfl) (fun _ _ _ h => h) (Or.inl ⟨by rfl, ?_⟩) (by assumption) ?_
      rotate_left
      · intro w hSw; (try dsimp only at hSw); go_simp; (try with_reducible rfl)
      try simp only [Act.put, List.setIfInBounds_toArray, List.set_cons_zero, List.set_cons_succ]
      refine wpAnyH_take (i := 1) (oi := { dst := some 89, op := Op.indexAddr 24 (Operand.tmp 88) (Operand.const (Value.int IntKind.i64 0)), type := 0, pos := "law.go:105", after := #[{ on := 0, ground := Ground.data }], guard := none }) (v := ?_) rfl (by kernel_rfl) (by kernel_rfl) (by kernel_rfl) (fun _ _ _ h => h) (Or.inl ⟨by rfl, ?_⟩) (by assumption) ?_
      rotate_left
      · intro w hSw; (try dsimp only at hSw); go_simp; (try with_reducible rfl)
      try simp only [Act.put, List.setIfInBounds_toArray, List.set_cons_zero, List.set_cons_succ]
      refine wpAnyH_take (i := 2) (oi := { dst := some 90, op := Op.load 32 (Operand.tmp 89), type := 32, pos := "law.go:105", after := #[{ on := 1, ground := Ground.data }], guard := none }) (v := ?_) rfl (by kernel_rfl) (by kernel_rfl) (by kernel_rfl) (fun _ _ _ h => h) (Or.inl ⟨by rfl, ?_⟩) (by assumption) ?_
      rotate_left
      · intro w hSw; (try dsimp only at hSw); go_simp; (try with_reducible rfl)
      try simp only [Act.put, List.setIfInBounds_toArray, List.set_cons_zero, List.set_cons_succ]
      refine wpAnyH_take (i := 3) (oi := { dst := some 91, op := Op.move (Operand.tmp 2), type := 3, pos := "law.go:105", after := #[], guard := none }) (v := ?_) rfl (by kernel_rfl) (by kernel_rfl) (by kernel_rfl) (fun _ _ _ h => h) (Or.inl ⟨by rfl, ?_⟩) (by assumption) ?_
      rotate_left
      · intro w hSw; (try dsimp only at hSw); go_simp; (try with_reducible rfl)
      try simp only [Act.put, List.setIfInBounds_toArray, List.set_cons_zero, List.set_cons_succ]
      refine wpAnyH_take (i := 4) (oi := { dst := some 92, op := Op.unOp UnOp.neg 3 (Operand.tmp 91), type := 3, pos := "law.go:105", after := #[{ on := 3, ground := Ground.data }], guard := none }) (v := ?_) rfl (by kernel_rfl) (by kernel_rfl) (by kernel_rfl) (fun _ _ _ h => h) (Or.inl ⟨by rfl, ?_⟩) (by assumption) ?_
      rotate_left
      · intro w hSw; (try dsimp only at hSw); go_simp; (try with_reducible rfl)
      try simp only [Act.put, List.setIfInBounds_toArray, List.set_cons_zero, List.set_cons_succ]
      refine wpAnyH_ready (rs := [5]) (by kernel_rfl) (by simp) ?_
      refine AllReadyH.cons (o := { dst := some 93, op := Op.call { callee := Callee.value (Operand.func 29), args := #[Operand.tmp 92], argTypes := #[3] }, type := 32, pos := "law.go:105", after := #[{ on := 4, ground := Ground.data }], guard := none }) rfl (fun K hK => ?_) AllReadyH.nil
      go_simp
      go_at_call 29; refine HT3.out.mono ?_; rintro ε w9 ⟨v9, rfl, hN9, hb9⟩; have hb89 := hd8.trans (hb9.mono hd8.size)
      refine hK.out _ _ ?_ (fun hHeld => ?_)
      · first | exact HS2.out _ hb8A | exact HS2.out _ hb89
      clear hK K
      try simp only [Act.put, List.setIfInBounds_toArray, List.set_cons_zero, List.set_cons_succ]
      refine wpAnyH_ready (rs := [6]) (by kernel_rfl) (by simp) ?_
      refine AllReadyH.cons (o := { dst := some 94, op := Op.call { callee := Callee.value (Operand.func 21), args := #[Operand.tmp 90, Operand.tmp 93], argTypes := #[32, 32] }, type := 42, pos := "law.go:105", after := #[{ on := 2, ground := Ground.data }, { on := 5, ground := Ground.data }, { on := 5, ground := Ground.chain }], guard := none }) rfl (fun K hK => ?_) AllReadyH.nil
      go_simp
      go_at_call 21; refine (HDl.out v9 w9 hN9 hb89).mono ?_; rintro ε wA ⟨vA, vB, rfl, hNA, hNB, hbA⟩; have hb8A := hb89.trans (hbA.mono hb89.size)
      refine hK.out _ _ ?_ (fun hHeld => ?_)
      · first | exact HS2.out _ hb8A | exact HS2.out _ hb89
      clear hK K
      try simp only [Act.put, List.setIfInBounds_toArray, List.set_cons_zero, List.set_cons_succ]
      refine wpAnyH_take (i := 7) (oi := { dst := some 87, op := Op.move (Operand.tmp 94), type := 42, pos := "law.go:105", after := #[{ on := 6, ground := Ground.data }], guard := none }) (v := ?_) rfl (by kernel_rfl) (by kernel_rfl) (by kernel_rfl) (fun _ _ _ h => h) (Or.inl ⟨by rfl, ?_⟩) (by assumption) ?_
      rotate_left
      · intro w hSw; (try dsimp only at hSw); go_simp; (try with_reducible rfl)
      try simp only [Act.put, List.setIfInBounds_toArray, List.set_cons_zero, List.set_cons_succ]
      refine wpAnyH_take (i := 8) (oi := { dst := some 95, op := Op.extract (Operand.tmp 87) 0, type := 32, pos := "law.go:105", after := #[{ on := 7, ground := Ground.data }], guard := none }) (v := ?_) rfl (by kernel_rfl) (by kernel_rfl) (by kernel_rfl) (fun _ _ _ h => h) (Or.inl ⟨by rfl, ?_⟩) (by assumption) ?_
      rotate_left
      · intro w hSw; (try dsimp only at hSw); go_simp; (try with_reducible rfl)
      try simp only [Act.put, List.setIfInBounds_toArray, List.set_cons_zero, List.set_cons_succ]
      refine wpAnyH_take (i := 9) (oi := { dst := some 96, op := Op.extract (Operand.tmp 87) 1, type := 32, pos := "law.go:105", after := #[{ on := 7, ground := Ground.data }, { on := 10, ground := Ground.gcOnly Departure.lateStores }], guard := none }) (v := ?_) rfl (by kernel_rfl) (by kernel_rfl) (by kernel_rfl) (fun _ _ _ h => h) (Or.inl ⟨by rfl, ?_⟩) (by assumption) ?_
      rotate_left
      · intro w hSw; (try dsimp only at hSw); go_simp; (try with_reducible rfl)
      try simp only [Act.put, List.setIfInBounds_toArray, List.set_cons_zero, List.set_cons_succ]
      refine wpAnyH_take (i := 10) (oi := { dst := some 15, op := Op.assign (Operand.tmp 95), type := 32, pos := "law.go:105", after := #[{ on := 8, ground := Ground.data }, { on := 6, ground := Ground.chain }, { on := 0, ground := Ground.phase }, { on := 1, ground := Ground.phase }, { on := 2, ground := Ground.phase }, { on := 3, ground := Ground.phase }, { on := 4, ground := Ground.phase }, { on := 5, ground := Ground.phase }, { on := 6, ground := Ground.phase }, { on := 7, ground := Ground.phase }, { on := 8, ground := Ground.phase }, { on := 9, ground := Ground.textOnly Departure.lateStores }], guard := none }) (v := ?_) rfl (by kernel_rfl) (by kernel_rfl) (by kernel_rfl) (fun _ _ _ h => h) (Or.inl ⟨by rfl, ?_⟩) (by assumption) ?_
      rotate_left
      · intro w hSw; (try dsimp only at hSw); go_simp; (try with_reducible rfl)
      try simp only [Act.put, List.setIfInBounds_toArray, List.set_cons_zero, List.set_cons_succ]
      refine wpAnyH_done (by kernel_rfl) ?_ _
      have HPA := Lib.hid (HP8.out.below hb8A)
      have HXA := Lib.hid (HX8.out.below hb8A (Nat.le_refl _))
      have HY8 := Lib.hid hNA
      clear hN9 hb9 hb89 hNA hNB hbA hb8A hd8 q4 HDl HT3 HS2 HP8 HX8
      have q5 : wA.cell? ⟨bp, 0, none⟩ = some (.slice px py pz) := HPA.out.bx.cell 0
      have HSm := Lib.hid (same_num (N ^ e) _ _ wA HPA.out.np HXA.out (num_up 9000 HN40.out (by omega)) (HTab.out.below (HB1.out.trans (HPA.out.one.bel.mono HB1.out.size)) (Nat.le_refl _)))
      go_wp2_with fail
      refine HSm.out.mono ?_
      rintro ε wC ⟨rfl, hbC⟩
      have HPC := Lib.hid (HPA.out.below hbC)
      have HYC := Lib.hid (HY8.out.below hbC (Nat.le_refl _))
      have q6 : wC.cell? ⟨ga, 0, none⟩ = some (.slice x y z) := HPC.out.one.ca
      have HSh := Lib.hid (shn_any N d _ BY wC HPC.out.one.na hd0 (by omega) HBY.out)
      clear hbC HSm q5 HPA HY8
      go_wp2_with fail
      refine HSh.out.mono ?_
      rintro ε wD ⟨vD, rfl, hND, _, hbD⟩
      have HPD := Lib.hid (HPC.out.below hbD)
      have HSn := Lib.hid (same_num (N / 2 ^ d) _ _ wD hND (HYC.out.below hbD (Nat.le_refl _)) (Nat.lt_of_le_of_lt (Nat.div_le_self _ _) (num_1 9000 HN40.out (by omega))) (HTab.out.below (HB1.out.trans (HPD.out.one.bel.mono HB1.out.size)) (Nat.le_refl _)))
      clear hND hbD HSh q6 HPC
      go_wp2_with fail
      refine HSn.out.mono ?_
      rintro ε wE ⟨rfl, hbE⟩
      have HPE := Lib.hid (HPD.out.below hbE)
      clear hbE HSn HPD
      go_wp2_with fail
      go_ret
      exact ⟨rfl, HB1.out.trans (HPE.out.one.bel.mono HB1.out.size)⟩
set_option maxRecDepth 100000 in
set_option maxHeartbeats 4000000 in
theorem natPowers.great_up (s : ByteArray) (E BY : Int) (hs : s.size ≤ 12) (hE : 5000 < E) (d : Nat) (hB : BY = (d : Int)) (hd : d ≤ 200) (w : World) (htab : Tab w) :
    Calls Tryd.prog 4 #[.string s, .int .i64 E, .int .i64 BY] w fun e w' => e = .returned (.bool true) ∧ Below w.heap.size w w' := by
  have HAl := Lib.hid (alive_any w htab)
  have HTab := Lib.hid htab
  have HN40 := Lib.hid (nn_40 hs)
  have HNats : Hid (∀ w1, Below w.heap.size w w1 → Calls Tryd.prog 7 #[.slice (some ⟨w1.heap.size, 0, none⟩) 1 1] (w1.alloc (.cells #[.string s] 9)) fun e w' => ∃ ga ca gb cb x y z x' y' z', e = .returned (.tuple #[.slice (some ⟨ga, 0, none⟩) 1 ca, .slice (some ⟨gb, 0, none⟩) 1 cb, .bool true]) ∧ One w1 w' ga gb (.slice x y z) (.slice x' y' z') (nn s)) := Lib.hid (fun w1 h => nats_one s w1 (by omega) (htab.below h (Nat.le_refl _)))
  obtain ⟨N, hN⟩ : ∃ N, nn s = N := ⟨_, rfl⟩
  rw [hN] at HN40 HNats
  obtain ⟨sz, hsz⟩ : ∃ sz, s.size = sz := ⟨_, rfl⟩
  have c1 : ¬ (12 : Int) < (sz : Int) := by omega
  have e1 : 40 < E := by omega
  have e1b : ¬ E ≤ 5000 := by omega
  have e2 : ¬ E < 0 := by omega
  have b1 : ¬ 200 < BY := by omega
  have b2 : ¬ BY < -200 := by omega
  have HBY := Lib.hid hB
  have b3 : ¬ BY < 0 := by omega
  have b4 : max BY 0 = (d : Int) := by omega
  clear hs htab hN hB
  go_enter Tryd.func4, Tryd.ntmps4
  go_wp2_with fail
  refine HAl.out.mono ?_
  rintro e w1 ⟨rfl, hb1⟩
  have HB1 := Lib.hid hb1
  have HNats1 := Lib.hid (HNats.out w1 hb1)
  clear hb1 HAl HNats
  go_wp2_with fail
  refine HNats1.out.mono ?_
  rintro ε w2 ⟨ga, ca, gb, cb, x, y, z, x', y', z', rfl, hO⟩
  have HO2 := Lib.hid hO
  have q2 : w2.cell? ⟨ga, 0, none⟩ = some (.slice x y z) := hO.ca
  have HP := Lib.hid (pow_great _ w2 E N hO.na hE)
  clear hO HNats1
  go_wp2_with fail
  refine HP.out.mono ?_
  rintro ε w3 ⟨rfl, hb3⟩
  have hp : IsN w3 (.agg #[.slice none 0 0]) 0 := isN_zero w3
  have hl3 := below_lit w3 (.cells #[.slice none 0 0] 30)
  have hpb : Pb w1 (w3.alloc (.cells #[.slice none 0 0] 30)) ga gb (.slice x y z) (.slice x' y' z') N w3.heap.size (.slice none 0 0) (0) := ⟨(HO2.out.below hb3).below hl3, Blk.new w3 _ _, hp.below hl3 (Nat.le_refl _)⟩
  obtain ⟨bp, hbp⟩ : ∃ bp, w3.heap.size = bp := ⟨_, rfl⟩
  obtain ⟨W4, hW4⟩ : ∃ W4, w3.alloc (.cells #[.slice none 0 0] 30) = W4 := ⟨_, rfl⟩
  rw [hW4, hbp] at hpb
  have hl4 := below_lit W4 (.cells #[.int .i64 1] 3)
  obtain ⟨W5, hW5⟩ : ∃ W5, W4.alloc (.cells #[.int .i64 1] 3) = W5 := ⟨_, rfl⟩
  rw [hW5] at hl4
  have HPb := Lib.hid (hpb.below hl4)
  have HW4 := Lib.hid hW4
  have Hbp := Lib.hid hbp
  have HW5 := Lib.hid hW5
  clear hp hb3 hl3 hl4 hpb hbp hW4 hW5 HP HO2 q2
  go_wp2_with fail
  rw [Hbp.out, HW4.out, HW5.out]
  go_loop [13, 14] (fun xv kv => xv = .slice none 0 0 ∧ kv = .int .i64 0) (fun _ _ => 0)
  case atStart => exact ⟨rfl, rfl⟩
  case round =>
    obtain ⟨rfl, rfl⟩ := hrel
    have HX6 := Lib.hid (rn_nil W5)
    have HP6 := Lib.hid HPb.out
    have q3 : W5.drew.cell? ⟨gb, 0, none⟩ = some (.slice x' y' z') := HPb.out.one.cb
    clear HPb
    have hd6 := below_drew1 W5
    have HT2 := Lib.hid (rtwo_any d (by omega) W5.drew)
    have HMl : Hid (∀ v W, RN W v (2 ^ d) → Below W5.heap.size W5 W → Calls Tryd.prog 16 #[.slice x' y' z', v] W (GotR (N * 2 ^ d) W)) := Lib.hid (fun v W h1 h2 => rmul_num N (2 ^ d) _ v W (HP6.out.one.nb.below h2 (Nat.le_refl _)) h1 (num_1 9000 HN40.out (by omega)) (two_up _ 9000 (by omega)))
    have HS : Hid (∀ W, Below W5.heap.size W5 W → W.cell? ⟨gb, 0, none⟩ = some (.slice x' y' z')) := Lib.hid (fun W h => (HP6.out.one.below h).cb)
    go_wp2_with fail
    refine wp_region_held_drew (S := (fun w' => w'.cell? ⟨gb, 0, none⟩ = some (.slice x' y' z'))) (by kernel_rfl) ?_ (fun hHeld => ?_)
    · exact q3
    refine wpAnyH_take (i := 0) (oi := { dst := some 78, op := Op.move (Operand.tmp 8), type := 24, pos := "law.go:103", after := #[], guard := none }) (v := ?_) rfl (by kernel_rfl) (by kernel_rfl) (by kernel_rfl) (fun _ _ _ h => h) (Or.inl ⟨by rfl, ?_⟩) (by assumption) ?_
    rotate_left
    · intro w hSw; (try dsimp only at hSw); go_simp; (try with_reducible rfl)
    try simp only [Act.put, List.setIfInBounds_toArray, List.set_cons_zero, List.set_cons_succ]
    refine wpAnyH_take (i := 1) (oi := { dst := some 79, op := Op.indexAddr 24 (Operand.tmp 78) (Operand.const (Value.int IntKind.i64 0)), type := 0, pos := "law.go:103", after := #[{ on := 0, ground := Ground.data }], guard := none }) (v := ?_) rfl (by kernel_rfl) (by kernel_rfl) (by kernel_rfl) (fun _ _ _ h => h) (Or.inl ⟨by rfl, ?_⟩) (by assumption) ?_
    rotate_left
    · intro w hSw; (try dsimp only at hSw); go_simp; (try with_reducible rfl)
    try simp only [Act.put, List.setIfInBounds_toArray, List.set_cons_zero, List.set_cons_succ]
    refine wpAnyH_take (i := 2) (oi := { dst := some 80, op := Op.load 32 (Operand.tmp 79), type := 32, pos := "law.go:103", after := #[{ on := 1, ground := Ground.data }], guard := none }) (v := ?_) rfl (by kernel_rfl) (by kernel_rfl) (by kernel_rfl) (fun _ _ _ h => h) (Or.inl ⟨by rfl, ?_⟩) (by assumption) ?_
    rotate_left
    · intro w hSw; (try dsimp only at hSw); go_simp; (try with_reducible rfl)
    try simp only [Act.put, List.setIfInBounds_toArray, List.set_cons_zero, List.set_cons_succ]
    refine wpAnyH_take (i := 3) (oi := { dst := some 81, op := Op.move (Operand.tmp 2), type := 3, pos := "law.go:103", after := #[], guard := none }) (v := ?_) rfl (by kernel_rfl) (by kernel_rfl) (by kernel_rfl) (fun _ _ _ h => h) (Or.inl ⟨by rfl, ?_⟩) (by assumption) ?_
    rotate_left
    · intro w hSw; (try dsimp only at hSw); go_simp; (try with_reducible rfl)
    try simp only [Act.put, List.setIfInBounds_toArray, List.set_cons_zero, List.set_cons_succ]
    refine wpAnyH_take (i := 4) (oi := { dst := some 82, op := Op.call { callee := Callee.builtin Builtin.max, args := #[Operand.tmp 81, Operand.const (Value.int IntKind.i64 0)], argTypes := #[3, 3] }, type := 3, pos := "law.go:103", after := #[{ on := 3, ground := Ground.data }], guard := none }) (v := ?_) rfl (by kernel_rfl) (by kernel_rfl) (by kernel_rfl) (fun _ _ _ h => h) (Or.inl ⟨by rfl, ?_⟩) (by assumption) ?_
    rotate_left
    · intro w hSw; (try dsimp only at hSw); go_simp; (try with_reducible rfl)
    try simp only [Act.put, List.setIfInBounds_toArray, List.set_cons_zero, List.set_cons_succ]
    refine wpAnyH_ready (rs := [5]) (by kernel_rfl) (by simp) ?_
    refine AllReadyH.cons (o := { dst := some 83, op := Op.call { callee := Callee.value (Operand.func 29), args := #[Operand.tmp 82], argTypes := #[3] }, type := 32, pos := "law.go:103", after := #[{ on := 4, ground := Ground.data }], guard := none }) rfl (fun K hK => ?_) AllReadyH.nil
    go_simp
    go_at_call 29; refine HT2.out.mono ?_; rintro ε w7 ⟨v7, rfl, hN7, hb7⟩; have hb67 := hd6.trans (hb7.mono hd6.size)
    refine hK.out _ _ ?_ (fun hHeld => ?_)
    · first | exact HS.out _ hb68 | exact HS.out _ hb67
    clear hK K
    try simp only [Act.put, List.setIfInBounds_toArray, List.set_cons_zero, List.set_cons_succ]
    refine wpAnyH_ready (rs := [6]) (by kernel_rfl) (by simp) ?_
    refine AllReadyH.cons (o := { dst := some 84, op := Op.call { callee := Callee.value (Operand.func 16), args := #[Operand.tmp 80, Operand.tmp 83], argTypes := #[32, 32] }, type := 32, pos := "law.go:103", after := #[{ on := 2, ground := Ground.data }, { on := 5, ground := Ground.data }, { on := 5, ground := Ground.chain }], guard := none }) rfl (fun K hK => ?_) AllReadyH.nil
    go_simp
    go_at_call 16; refine (HMl.out v7 w7 hN7 hb67).mono ?_; rintro ε w8 ⟨v8, rfl, hN8, hb8⟩; have hb68 := hb67.trans (hb8.mono hb67.size)
    refine hK.out _ _ ?_ (fun hHeld => ?_)
    · first | exact HS.out _ hb68 | exact HS.out _ hb67
    clear hK K
    try simp only [Act.put, List.setIfInBounds_toArray, List.set_cons_zero, List.set_cons_succ]
    refine wpAnyH_take (i := 7) (oi := { dst := some 15, op := Op.assign (Operand.tmp 84), type := 32, pos := "law.go:103", after := #[{ on := 6, ground := Ground.data }, { on := 6, ground := Ground.chain }, { on := 0, ground := Ground.phase }, { on := 1, ground := Ground.phase }, { on := 2, ground := Ground.phase }, { on := 3, ground := Ground.phase }, { on := 4, ground := Ground.phase }, { on := 5, ground := Ground.phase }, { on := 6, ground := Ground.phase }], guard := none }) (v := ?_) rfl (by kernel_rfl) (by kernel_rfl) (by kernel_rfl) (fun _ _ _ h => h) (Or.inl ⟨by rfl, ?_⟩) (by assumption) ?_
    rotate_left
    · intro w hSw; (try dsimp only at hSw); go_simp; (try with_reducible rfl)
    try simp only [Act.put, List.setIfInBounds_toArray, List.set_cons_zero, List.set_cons_succ]
    refine wpAnyH_done (by kernel_rfl) ?_ _
    have HP8 := Lib.hid (HP6.out.below hb68)
    have HX8 := Lib.hid (HX6.out.below hb68 (Nat.le_refl _))
    have HY8 := Lib.hid hN8
    obtain ⟨W8, hW8⟩ : ∃ W8, w8 = W8 := ⟨_, rfl⟩
    subst hW8
    have HB8 := Lib.hid hb68
    clear hN7 hb7 hb67 hN8 hb8 hb68 hd6 q3 HMl HT2 HS HP6 HX6
    have q5 : w8.cell? ⟨bp, 0, none⟩ = some (.slice none 0 0) := HP8.out.bx.cell 0
    have HSm := Lib.hid (same_num (0) _ _ w8 HP8.out.np HX8.out (zero_lt9 9000) (HTab.out.below (HB1.out.trans (HP8.out.one.bel.mono HB1.out.size)) (Nat.le_refl _)))
    go_wp2_with fail
    refine HSm.out.mono ?_
    rintro ε wC ⟨rfl, hbC⟩
    have HPC := Lib.hid (HP8.out.below hbC)
    have HYC := Lib.hid (HY8.out.below hbC (Nat.le_refl _))
    have q6 : wC.cell? ⟨ga, 0, none⟩ = some (.slice x y z) := HPC.out.one.ca
    have HSh := Lib.hid (shu_any N d _ BY wC HPC.out.one.na (num_w HN40.out) (by omega) HBY.out)
    clear hbC HSm q5 HP8 HY8
    go_wp2_with fail
    refine HSh.out.mono ?_
    rintro ε wD ⟨vD, rfl, hND, _, hbD⟩
    have HPD := Lib.hid (HPC.out.below hbD)
    have HSn := Lib.hid (same_num (N * 2 ^ d) _ _ wD hND (HYC.out.below hbD (Nat.le_refl _)) (num_sh HN40.out hd) (HTab.out.below (HB1.out.trans (HPD.out.one.bel.mono HB1.out.size)) (Nat.le_refl _)))
    clear hND hbD HSh q6 HPC
    go_wp2_with fail
    refine HSn.out.mono ?_
    rintro ε wE ⟨rfl, hbE⟩
    have HPE := Lib.hid (HPD.out.below hbE)
    clear hbE HSn HPD
    go_wp2_with fail
    go_ret
    exact ⟨rfl, HB1.out.trans (HPE.out.one.bel.mono HB1.out.size)⟩
set_option maxRecDepth 100000 in
set_option maxHeartbeats 4000000 in
theorem natPowers.great_down (s : ByteArray) (E BY : Int) (hs : s.size ≤ 12) (hE : 5000 < E) (d : Nat) (hB : BY = -(d : Int)) (hd0 : 0 < d) (hd : d ≤ 200) (w : World) (htab : Tab w) :
    Calls Tryd.prog 4 #[.string s, .int .i64 E, .int .i64 BY] w fun e w' => e = .returned (.bool true) ∧ Below w.heap.size w w' := by
  have HAl := Lib.hid (alive_any w htab)
  have HTab := Lib.hid htab
  have HN40 := Lib.hid (nn_40 hs)
  have HNats : Hid (∀ w1, Below w.heap.size w w1 → Calls Tryd.prog 7 #[.slice (some ⟨w1.heap.size, 0, none⟩) 1 1] (w1.alloc (.cells #[.string s] 9)) fun e w' => ∃ ga ca gb cb x y z x' y' z', e = .returned (.tuple #[.slice (some ⟨ga, 0, none⟩) 1 ca, .slice (some ⟨gb, 0, none⟩) 1 cb, .bool true]) ∧ One w1 w' ga gb (.slice x y z) (.slice x' y' z') (nn s)) := Lib.hid (fun w1 h => nats_one s w1 (by omega) (htab.below h (Nat.le_refl _)))
  obtain ⟨N, hN⟩ : ∃ N, nn s = N := ⟨_, rfl⟩
  rw [hN] at HN40 HNats
  obtain ⟨sz, hsz⟩ : ∃ sz, s.size = sz := ⟨_, rfl⟩
  have c1 : ¬ (12 : Int) < (sz : Int) := by omega
  have e1 : 40 < E := by omega
  have e1b : ¬ E ≤ 5000 := by omega
  have e2 : ¬ E < 0 := by omega
  have b1 : ¬ 200 < BY := by omega
  have b2 : ¬ BY < -200 := by omega
  have HBY := Lib.hid hB
  have b3 : BY < 0 := by omega
  have b4 : max BY 0 = (0 : Int) := by omega
  have b5 : -BY = (d : Int) := by omega
  have b6 : IntKind.i64.wrap (d : Int) = (d : Int) := IntWalk.i64_in _ ⟨by omega, by omega⟩
  clear hs htab hN hB
  go_enter Tryd.func4, Tryd.ntmps4
  go_wp2_with fail
  refine HAl.out.mono ?_
  rintro e w1 ⟨rfl, hb1⟩
  have HB1 := Lib.hid hb1
  have HNats1 := Lib.hid (HNats.out w1 hb1)
  clear hb1 HAl HNats
  go_wp2_with fail
  refine HNats1.out.mono ?_
  rintro ε w2 ⟨ga, ca, gb, cb, x, y, z, x', y', z', rfl, hO⟩
  have HO2 := Lib.hid hO
  have q2 : w2.cell? ⟨ga, 0, none⟩ = some (.slice x y z) := hO.ca
  have HP := Lib.hid (pow_great _ w2 E N hO.na hE)
  clear hO HNats1
  go_wp2_with fail
  refine HP.out.mono ?_
  rintro ε w3 ⟨rfl, hb3⟩
  have hp : IsN w3 (.agg #[.slice none 0 0]) 0 := isN_zero w3
  have hl3 := below_lit w3 (.cells #[.slice none 0 0] 30)
  have hpb : Pb w1 (w3.alloc (.cells #[.slice none 0 0] 30)) ga gb (.slice x y z) (.slice x' y' z') N w3.heap.size (.slice none 0 0) (0) := ⟨(HO2.out.below hb3).below hl3, Blk.new w3 _ _, hp.below hl3 (Nat.le_refl _)⟩
  obtain ⟨bp, hbp⟩ : ∃ bp, w3.heap.size = bp := ⟨_, rfl⟩
  obtain ⟨W4, hW4⟩ : ∃ W4, w3.alloc (.cells #[.slice none 0 0] 30) = W4 := ⟨_, rfl⟩
  rw [hW4, hbp] at hpb
  have hl4 := below_lit W4 (.cells #[.int .i64 1] 3)
  obtain ⟨W5, hW5⟩ : ∃ W5, W4.alloc (.cells #[.int .i64 1] 3) = W5 := ⟨_, rfl⟩
  rw [hW5] at hl4
  have HPb := Lib.hid (hpb.below hl4)
  have HW4 := Lib.hid hW4
  have Hbp := Lib.hid hbp
  have HW5 := Lib.hid hW5
  clear hp hb3 hl3 hl4 hpb hbp hW4 hW5 HP HO2 q2
  go_wp2_with fail
  rw [Hbp.out, HW4.out, HW5.out]
  go_loop [13, 14] (fun xv kv => xv = .slice none 0 0 ∧ kv = .int .i64 0) (fun _ _ => 0)
  case atStart => exact ⟨rfl, rfl⟩
  case round =>
    obtain ⟨rfl, rfl⟩ := hrel
    have HX6 := Lib.hid (rn_nil W5)
    have HP6 := Lib.hid HPb.out
    have q3 : W5.drew.cell? ⟨gb, 0, none⟩ = some (.slice x' y' z') := HPb.out.one.cb
    clear HPb
    have hd6 := below_drew1 W5
    have HT2 := Lib.hid (rtwo_0 W5.drew)
    have HMl : Hid (∀ v W, RN W v (2 ^ 0) → Below W5.heap.size W5 W → Calls Tryd.prog 16 #[.slice x' y' z', v] W (GotR (N * 2 ^ 0) W)) := Lib.hid (fun v W h1 h2 => rmul_num N (2 ^ 0) _ v W (HP6.out.one.nb.below h2 (Nat.le_refl _)) h1 (num_1 9000 HN40.out (by omega)) (two_up _ 9000 (by omega)))
    have HS : Hid (∀ W, Below W5.heap.size W5 W → W.cell? ⟨gb, 0, none⟩ = some (.slice x' y' z')) := Lib.hid (fun W h => (HP6.out.one.below h).cb)
    go_wp2_with fail
    refine wp_region_held_drew (S := (fun w' => w'.cell? ⟨gb, 0, none⟩ = some (.slice x' y' z'))) (by kernel_rfl) ?_ (fun hHeld => ?_)
    · exact q3
    refine wpAnyH_take (i := 0) (oi := { dst := some 78, op := Op.move (Operand.tmp 8), type := 24, pos := "law.go:103", after := #[], guard := none }) (v := ?_) rfl (by kernel_rfl) (by kernel_rfl) (by kernel_rfl) (fun _ _ _ h => h) (Or.inl ⟨by rfl, ?_⟩) (by assumption) ?_
    rotate_left
    · intro w hSw; (try dsimp only at hSw); go_simp; (try with_reducible rfl)
    try simp only [Act.put, List.setIfInBounds_toArray, List.set_cons_zero, List.set_cons_succ]
    refine wpAnyH_take (i := 1) (oi := { dst := some 79, op := Op.indexAddr 24 (Operand.tmp 78) (Operand.const (Value.int IntKind.i64 0)), type := 0, pos := "law.go:103", after := #[{ on := 0, ground := Ground.data }], guard := none }) (v := ?_) rfl (by kernel_rfl) (by kernel_rfl) (by kernel_rfl) (fun _ _ _ h => h) (Or.inl ⟨by rfl, ?_⟩) (by assumption) ?_
    rotate_left
    · intro w hSw; (try dsimp only at hSw); go_simp; (try with_reducible rfl)
    try simp only [Act.put, List.setIfInBounds_toArray, List.set_cons_zero, List.set_cons_succ]
    refine wpAnyH_take (i := 2) (oi := { dst := some 80, op := Op.load 32 (Operand.tmp 79), type := 32, pos := "law.go:103", after := #[{ on := 1, ground := Ground.data }], guard := none }) (v := ?_) rfl (by kernel_rfl) (by kernel_rfl) (by kernel_rfl) (fun _ _ _ h => h) (Or.inl ⟨by rfl, ?_⟩) (by assumption) ?_
    rotate_left
    · intro w hSw; (try dsimp only at hSw); go_simp; (try with_reducible rfl)
    try simp only [Act.put, List.setIfInBounds_toArray, List.set_cons_zero, List.set_cons_succ]
    refine wpAnyH_take (i := 3) (oi := { dst := some 81, op := Op.move (Operand.tmp 2), type := 3, pos := "law.go:103", after := #[], guard := none }) (v := ?_) rfl (by kernel_rfl) (by kernel_rfl) (by kernel_rfl) (fun _ _ _ h => h) (Or.inl ⟨by rfl, ?_⟩) (by assumption) ?_
    rotate_left
    · intro w hSw; (try dsimp only at hSw); go_simp; (try with_reducible rfl)
    try simp only [Act.put, List.setIfInBounds_toArray, List.set_cons_zero, List.set_cons_succ]
    refine wpAnyH_take (i := 4) (oi := { dst := some 82, op := Op.call { callee := Callee.builtin Builtin.max, args := #[Operand.tmp 81, Operand.const (Value.int IntKind.i64 0)], argTypes := #[3, 3] }, type := 3, pos := "law.go:103", after := #[{ on := 3, ground := Ground.data }], guard := none }) (v := ?_) rfl (by kernel_rfl) (by kernel_rfl) (by kernel_rfl) (fun _ _ _ h => h) (Or.inl ⟨by rfl, ?_⟩) (by assumption) ?_
    rotate_left
    · intro w hSw; (try dsimp only at hSw); go_simp; (try with_reducible rfl)
    try simp only [Act.put, List.setIfInBounds_toArray, List.set_cons_zero, List.set_cons_succ]
    refine wpAnyH_ready (rs := [5]) (by kernel_rfl) (by simp) ?_
    refine AllReadyH.cons (o := { dst := some 83, op := Op.call { callee := Callee.value (Operand.func 29), args := #[Operand.tmp 82], argTypes := #[3] }, type := 32, pos := "law.go:103", after := #[{ on := 4, ground := Ground.data }], guard := none }) rfl (fun K hK => ?_) AllReadyH.nil
    go_simp
    go_at_call 29; refine HT2.out.mono ?_; rintro ε w7 ⟨v7, rfl, hN7, hb7⟩; have hb67 := hd6.trans (hb7.mono hd6.size)
    refine hK.out _ _ ?_ (fun hHeld => ?_)
    · first | exact HS.out _ hb68 | exact HS.out _ hb67
    clear hK K
    try simp only [Act.put, List.setIfInBounds_toArray, List.set_cons_zero, List.set_cons_succ]
    refine wpAnyH_ready (rs := [6]) (by kernel_rfl) (by simp) ?_
    refine AllReadyH.cons (o := { dst := some 84, op := Op.call { callee := Callee.value (Operand.func 16), args := #[Operand.tmp 80, Operand.tmp 83], argTypes := #[32, 32] }, type := 32, pos := "law.go:103", after := #[{ on := 2, ground := Ground.data }, { on := 5, ground := Ground.data }, { on := 5, ground := Ground.chain }], guard := none }) rfl (fun K hK => ?_) AllReadyH.nil
    go_simp
    go_at_call 16; refine (HMl.out v7 w7 hN7 hb67).mono ?_; rintro ε w8 ⟨v8, rfl, hN8, hb8⟩; have hb68 := hb67.trans (hb8.mono hb67.size)
    refine hK.out _ _ ?_ (fun hHeld => ?_)
    · first | exact HS.out _ hb68 | exact HS.out _ hb67
    clear hK K
    try simp only [Act.put, List.setIfInBounds_toArray, List.set_cons_zero, List.set_cons_succ]
    refine wpAnyH_take (i := 7) (oi := { dst := some 15, op := Op.assign (Operand.tmp 84), type := 32, pos := "law.go:103", after := #[{ on := 6, ground := Ground.data }, { on := 6, ground := Ground.chain }, { on := 0, ground := Ground.phase }, { on := 1, ground := Ground.phase }, { on := 2, ground := Ground.phase }, { on := 3, ground := Ground.phase }, { on := 4, ground := Ground.phase }, { on := 5, ground := Ground.phase }, { on := 6, ground := Ground.phase }], guard := none }) (v := ?_) rfl (by kernel_rfl) (by kernel_rfl) (by kernel_rfl) (fun _ _ _ h => h) (Or.inl ⟨by rfl, ?_⟩) (by assumption) ?_
    rotate_left
    · intro w hSw; (try dsimp only at hSw); go_simp; (try with_reducible rfl)
    try simp only [Act.put, List.setIfInBounds_toArray, List.set_cons_zero, List.set_cons_succ]
    refine wpAnyH_done (by kernel_rfl) ?_ _
    have HP8 := Lib.hid (HP6.out.below hb68)
    have HX8 := Lib.hid (HX6.out.below hb68 (Nat.le_refl _))
    have q4 : w8.drew.cell? ⟨gb, 0, none⟩ = some (.slice x' y' z') := HP8.out.one.cb
    have hd8 := below_drew1 w8
    have HT3 := Lib.hid (rtwo_any d (by omega) w8.drew)
    have HDl : Hid (∀ v W, RN W v (2 ^ d) → Below w8.heap.size w8 W → Calls Tryd.prog 21 #[.slice x' y' z', v] W (RDivIs N (2 ^ d) W)) := Lib.hid (fun v W h1 h2 => rdiv_num N (2 ^ d) _ v W (HP8.out.one.nb.below h2 (Nat.le_refl _)) (num_1 9000 HN40.out (by omega)) h1 (Nat.pow_pos (by omega)) (two_up _ 2000 (by omega)))
    have HS2 : Hid (∀ W, Below w8.heap.size w8 W → W.cell? ⟨gb, 0, none⟩ = some (.slice x' y' z')) := Lib.hid (fun W h => (HP8.out.one.below h).cb)
    clear hN7 hb7 hb67 hN8 hb8 hb68 hd6 q3 HMl HT2 HS HP6 HX6
    go_wp2_with fail
    refine wp_region_held_drew (S := (fun w' => w'.cell? ⟨gb, 0, none⟩ = some (.slice x' y' z'))) (by kernel_rfl) ?_ (fun hHeld => ?_)
    · exact q4
    refine wpAnyH_take (i := 0) (oi := { dst := some 88, op := Op.move (Operand.tmp 8), type := 24, pos := "law.go:105", after := #[], guard := none }) (v := ?_) rfl (by kernel_rfl) (by kernel_rfl) (by kernel_rfl) (fun _ _ _ h => h) (Or.inl ⟨by rfl, ?_⟩) (by assumption) ?_
    rotate_left
    · intro w hSw; (try dsimp only at hSw); go_simp; (try with_reducible rfl)
    try simp only [Act.put, List.setIfInBounds_toArray, List.set_cons_zero, List.set_cons_succ]
    refine wpAnyH_take (i := 1) (oi := { dst := some 89, op := Op.indexAddr 24 (Operand.tmp 88) (Operand.const (Value.int IntKind.i64 0)), type := 0, pos := "law.go:105", after := #[{ on := 0, ground := Ground.data }], guard := none }) (v := ?_) rfl (by kernel_rfl) (by kernel_rfl) (by kernel_rfl) (fun _ _ _ h => h) (Or.inl ⟨by rfl, ?_⟩) (by assumption) ?_
    rotate_left
    · intro w hSw; (try dsimp only at hSw); go_simp; (try with_reducible rfl)
    try simp only [Act.put, List.setIfInBounds_toArray, List.set_cons_zero, List.set_cons_succ]
    refine wpAnyH_take (i := 2) (oi := { dst := some 90, op := Op.load 32 (Operand.tmp 89), type := 32, pos := "law.go:105", after := #[{ on := 1, ground := Ground.data }], guard := none }) (v := ?_) rfl (by kernel_rfl) (by kernel_rfl) (by kernel_rfl) (fun _ _ _ h => h) (Or.inl ⟨by rfl, ?_⟩) (by assumption) ?_
    rotate_left
    · intro w hSw; (try dsimp only at hSw); go_simp; (try with_reducible rfl)
    try simp only [Act.put, List.setIfInBounds_toArray, List.set_cons_zero, List.set_cons_succ]
    refine wpAnyH_take (i := 3) (oi := { dst := some 91, op := Op.move (Operand.tmp 2), type := 3, pos := "law.go:105", after := #[], guard := none }) (v := ?_) rfl (by kernel_rfl) (by kernel_rfl) (by kernel_rfl) (fun _ _ _ h => h) (Or.inl ⟨by rfl, ?_⟩) (by assumption) ?_
    rotate_left
    · intro w hSw; (try dsimp only at hSw); go_simp; (try with_reducible rfl)
    try simp only [Act.put, List.setIfInBounds_toArray, List.set_cons_zero, List.set_cons_succ]
    refine wpAnyH_take (i := 4) (oi := { dst := some 92, op := Op.unOp UnOp.neg 3 (Operand.tmp 91), type := 3, pos := "law.go:105", after := #[{ on := 3, ground := Ground.data }], guard := none }) (v := ?_) rfl (by kernel_rfl) (by kernel_rfl) (by kernel_rfl) (fun _ _ _ h => h) (Or.inl ⟨by rfl, ?_⟩) (by assumption) ?_
    rotate_left
    · intro w hSw; (try dsimp only at hSw); go_simp; (try with_reducible rfl)
    try simp only [Act.put, List.setIfInBounds_toArray, List.set_cons_zero, List.set_cons_succ]
    refine wpAnyH_ready (rs := [5]) (by kernel_rfl) (by simp) ?_
    refine AllReadyH.cons (o := { dst := some 93, op := Op.call { callee := Callee.value (Operand.func 29), args := #[Operand.tmp 92], argTypes := #[3] }, type := 32, pos := "law.go:105", after := #[{ on := 4, ground := Ground.data }], guard := none }) rfl (fun K hK => ?_) AllReadyH.nil
    go_simp
    go_at_call 29; refine HT3.out.mono ?_; rintro ε w9 ⟨v9, rfl, hN9, hb9⟩; have hb89 := hd8.trans (hb9.mono hd8.size)
    refine hK.out _ _ ?_ (fun hHeld => ?_)
    · first | exact HS2.out _ hb8A | exact HS2.out _ hb89
    clear hK K
    try simp only [Act.put, List.setIfInBounds_toArray, List.set_cons_zero, List.set_cons_succ]
    refine wpAnyH_ready (rs := [6]) (by kernel_rfl) (by simp) ?_
    refine AllReadyH.cons (o := { dst := some 94, op := Op.call { callee := Callee.value (Operand.func 21), args := #[Operand.tmp 90, Operand.tmp 93], argTypes := #[32, 32] }, type := 42, pos := "law.go:105", after := #[{ on := 2, ground := Ground.data }, { on := 5, ground := Ground.data }, { on := 5, ground := Ground.chain }], guard := none }) rfl (fun K hK => ?_) AllReadyH.nil
    go_simp
    go_at_call 21; refine (HDl.out v9 w9 hN9 hb89).mono ?_; rintro ε wA ⟨vA, vB, rfl, hNA, hNB, hbA⟩; have hb8A := hb89.trans (hbA.mono hb89.size)
    refine hK.out _ _ ?_ (fun hHeld => ?_)
    · first | exact HS2.out _ hb8A | exact HS2.out _ hb89
    clear hK K
    try simp only [Act.put, List.setIfInBounds_toArray, List.set_cons_zero, List.set_cons_succ]
    refine wpAnyH_take (i := 7) (oi := { dst := some 87, op := Op.move (Operand.tmp 94), type := 42, pos := "law.go:105", after := #[{ on := 6, ground := Ground.data }], guard := none }) (v := ?_) rfl (by kernel_rfl) (by kernel_rfl) (by kernel_rfl) (fun _ _ _ h => h) (Or.inl ⟨by rfl, ?_⟩) (by assumption) ?_
    rotate_left
    · intro w hSw; (try dsimp only at hSw); go_simp; (try with_reducible rfl)
    try simp only [Act.put, List.setIfInBounds_toArray, List.set_cons_zero, List.set_cons_succ]
    refine wpAnyH_take (i := 8) (oi := { dst := some 95, op := Op.extract (Operand.tmp 87) 0, type := 32, pos := "law.go:105", after := #[{ on := 7, ground := Ground.data }], guard := none }) (v := ?_) rfl (by kernel_rfl) (by kernel_rfl) (by kernel_rfl) (fun _ _ _ h => h) (Or.inl ⟨by rfl, ?_⟩) (by assumption) ?_
    rotate_left
    · intro w hSw; (try dsimp only at hSw); go_simp; (try with_reducible rfl)
    try simp only [Act.put, List.setIfInBounds_toArray, List.set_cons_zero, List.set_cons_succ]
    refine wpAnyH_take (i := 9) (oi := { dst := some 96, op := Op.extract (Operand.tmp 87) 1, type := 32, pos := "law.go:105", after := #[{ on := 7, ground := Ground.data }, { on := 10, ground := Ground.gcOnly Departure.lateStores }], guard := none }) (v := ?_) rfl (by kernel_rfl) (by kernel_rfl) (by kernel_rfl) (fun _ _ _ h => h) (Or.inl ⟨by rfl, ?_⟩) (by assumption) ?_
    rotate_left
    · intro w hSw; (try dsimp only at hSw); go_simp; (try with_reducible rfl)
    try simp only [Act.put, List.setIfInBounds_toArray, List.set_cons_zero, List.set_cons_succ]
    refine wpAnyH_take (i := 10) (oi := { dst := some 15, op := Op.assign (Operand.tmp 95), type := 32, pos := "law.go:105", after := #[{ on := 8, ground := Ground.data }, { on := 6, ground := Ground.chain }, { on := 0, ground := Ground.phase }, { on := 1, ground := Ground.phase }, { on := 2, ground := Ground.phase }, { on := 3, ground := Ground.phase }, { on := 4, ground := Ground.phase }, { on := 5, ground := Ground.phase }, { on := 6, ground := Ground.phase }, { on := 7, ground := Ground.phase }, { on := 8, ground := Ground.phase }, { on := 9, ground := Ground.textOnly Departure.lateStores }], guard := none }) (v := ?_) rfl (by kernel_rfl) (by kernel_rfl) (by kernel_rfl) (fun _ _ _ h => h) (Or.inl ⟨by rfl, ?_⟩) (by assumption) ?_
    rotate_left
    · intro w hSw; (try dsimp only at hSw); go_simp; (try with_reducible rfl)
    try simp only [Act.put, List.setIfInBounds_toArray, List.set_cons_zero, List.set_cons_succ]
    refine wpAnyH_done (by kernel_rfl) ?_ _
    have HPA := Lib.hid (HP8.out.below hb8A)
    have HXA := Lib.hid (HX8.out.below hb8A (Nat.le_refl _))
    have HY8 := Lib.hid hNA
    clear hN9 hb9 hb89 hNA hNB hbA hb8A hd8 q4 HDl HT3 HS2 HP8 HX8
    have q5 : wA.cell? ⟨bp, 0, none⟩ = some (.slice none 0 0) := HPA.out.bx.cell 0
    have HSm := Lib.hid (same_num (0) _ _ wA HPA.out.np HXA.out (zero_lt9 9000) (HTab.out.below (HB1.out.trans (HPA.out.one.bel.mono HB1.out.size)) (Nat.le_refl _)))
    go_wp2_with fail
    refine HSm.out.mono ?_
    rintro ε wC ⟨rfl, hbC⟩
    have HPC := Lib.hid (HPA.out.below hbC)
    have HYC := Lib.hid (HY8.out.below hbC (Nat.le_refl _))
    have q6 : wC.cell? ⟨ga, 0, none⟩ = some (.slice x y z) := HPC.out.one.ca
    have HSh := Lib.hid (shn_any N d _ BY wC HPC.out.one.na hd0 (by omega) HBY.out)
    clear hbC HSm q5 HPA HY8
    go_wp2_with fail
    refine HSh.out.mono ?_
    rintro ε wD ⟨vD, rfl, hND, _, hbD⟩
    have HPD := Lib.hid (HPC.out.below hbD)
    have HSn := Lib.hid (same_num (N / 2 ^ d) _ _ wD hND (HYC.out.below hbD (Nat.le_refl _)) (Nat.lt_of_le_of_lt (Nat.div_le_self _ _) (num_1 9000 HN40.out (by omega))) (HTab.out.below (HB1.out.trans (HPD.out.one.bel.mono HB1.out.size)) (Nat.le_refl _)))
    clear hND hbD HSh q6 HPC
    go_wp2_with fail
    refine HSn.out.mono ?_
    rintro ε wE ⟨rfl, hbE⟩
    have HPE := Lib.hid (HPD.out.below hbE)
    clear hbE HSn HPD
    go_wp2_with fail
    go_ret
    exact ⟨rfl, HB1.out.trans (HPE.out.one.bel.mono HB1.out.size)⟩
set_option maxRecDepth 100000 in
set_option maxHeartbeats 4000000 in
theorem natPowers.walk (s : ByteArray) (E BY : Int) (hs : s.size ≤ maxLen) (_hE : (Lit.int .i64 E).wf = true) (_hB : (Lit.int .i64 BY).wf = true) (w : World) (htab : Tab w) :
    Calls Tryd.prog 4 #[.string s, .int .i64 E, .int .i64 BY] w fun e w' => e = .returned (.bool true) ∧ Below w.heap.size w w' := by
  have HAl := Lib.hid (alive_any w htab)
  by_cases c1 : (12 : Int) < (s.size : Int)
  · go_enter Tryd.func4, Tryd.ntmps4
    go_wp2_with fail
    refine HAl.out.mono ?_
    rintro e w1 ⟨rfl, hb1⟩
    go_wp2_with fail
    go_ret
    exact ⟨rfl, hb1⟩
  by_cases c2 : 40 < E ∧ E ≤ 5000
  · obtain ⟨c2, c3⟩ := c2
    go_enter Tryd.func4, Tryd.ntmps4
    go_wp2_with fail
    refine HAl.out.mono ?_
    rintro e w1 ⟨rfl, hb1⟩
    go_wp2_with fail
    go_ret
    exact ⟨rfl, hb1⟩
  by_cases c4 : 200 < BY
  · by_cases c2a : 40 < E
    · have c3a : ¬ E ≤ 5000 := fun h => c2 ⟨c2a, h⟩
      clear c2
      go_enter Tryd.func4, Tryd.ntmps4
      go_wp2_with fail
      refine HAl.out.mono ?_
      rintro e w1 ⟨rfl, hb1⟩
      go_wp2_with fail
      go_ret
      exact ⟨rfl, hb1⟩
    · clear c2
      go_enter Tryd.func4, Tryd.ntmps4
      go_wp2_with fail
      refine HAl.out.mono ?_
      rintro e w1 ⟨rfl, hb1⟩
      go_wp2_with fail
      go_ret
      exact ⟨rfl, hb1⟩
  by_cases c5 : BY < -200
  · by_cases c2a : 40 < E
    · have c3a : ¬ E ≤ 5000 := fun h => c2 ⟨c2a, h⟩
      clear c2
      go_enter Tryd.func4, Tryd.ntmps4
      go_wp2_with fail
      refine HAl.out.mono ?_
      rintro e w1 ⟨rfl, hb1⟩
      go_wp2_with fail
      go_ret
      exact ⟨rfl, hb1⟩
    · clear c2
      go_enter Tryd.func4, Tryd.ntmps4
      go_wp2_with fail
      refine HAl.out.mono ?_
      rintro e w1 ⟨rfl, hb1⟩
      go_wp2_with fail
      go_ret
      exact ⟨rfl, hb1⟩
  have hs1 : s.size ≤ 12 := by omega
  have hE : E < 0 ∨ (0 ≤ E ∧ E ≤ 40) ∨ 5000 < E := by omega
  have hB : (0 ≤ BY ∧ BY ≤ 200) ∨ (BY < 0 ∧ -200 ≤ BY) := by omega
  rcases hB with hB | hB
  · rcases hE with hE | hE | hE
    · exact natPowers.neg_up s E BY hs1 hE BY.toNat (by omega) (by omega) w htab
    · exact natPowers.mid_up s E BY hs1 E.toNat (by omega) (by omega) BY.toNat (by omega) (by omega) w htab
    · exact natPowers.great_up s E BY hs1 hE BY.toNat (by omega) (by omega) w htab
  · rcases hE with hE | hE | hE
    · exact natPowers.neg_down s E BY hs1 hE (-BY).toNat (by omega) (by omega) (by omega) w htab
    · exact natPowers.mid_down s E BY hs1 E.toNat (by omega) (by omega) (-BY).toNat (by omega) (by omega) (by omega) w htab
    · exact natPowers.great_down s E BY hs1 hE (-BY).toNat (by omega) (by omega) (by omega) w htab
end Go.Proofs.YtikbhcndgmanmaaDoor
