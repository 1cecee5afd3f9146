/-
  The walk of IeeeDecodes: for every input it returns true, and leaves what lay in memory as it was.
-/
import Derived.Test.YtnhobagjpjcigaaDoorEAlive
import Derived.Test.YtnhobagjpjcigaaDoorERd
namespace Go.Proofs.YtnhobagjpjcigaaDoor
open Go.RowKit
set_option linter.unusedVariables false
section
variable {w W : World} {bx : List (Nat × TypeId × Array Value)} {l : List (Value × Nat)} {q r : List (Value × Rat)}
theorem Dq.f0 (h : Dq w bx l q r W) (k : Nat) {b : Nat} {t : TypeId} {x y : Value} (e : bx[k]? = some (b, t, #[x, y])) : W.cell? ⟨b, 0, none⟩ = some x := h.cell k 0 e rfl
theorem Dq.f1 (h : Dq w bx l q r W) (k : Nat) {b : Nat} {t : TypeId} {x y : Value} (e : bx[k]? = some (b, t, #[x, y])) : W.cell? ⟨b, 1, none⟩ = some y := h.cell k 1 e rfl
end
theorem and_sml (O : Int) (k n : Nat) (hn : k < n) (h8 : n ≤ 9) : ∃ j : Nat, j < n ∧ bits .and .i64 O (k : Int) = (j : Int) := by
  have h : (BitVec.ofInt 64 O &&& BitVec.ofInt 64 k).toNat < n := by
    rw [BitVec.toNat_and]
    refine Nat.lt_of_le_of_lt Nat.and_le_right ?_
    rw [BitVec.ofInt_natCast, BitVec.toNat_ofNat, Nat.mod_eq_of_lt (by omega)]
    exact hn
  refine ⟨(BitVec.ofInt 64 O &&& BitVec.ofInt 64 k).toNat, h, ?_⟩
  have e : bits .and .i64 O (k : Int) = IntKind.i64.wrap ((BitVec.ofInt 64 O &&& BitVec.ofInt 64 k).toNat : Int) := rfl
  rw [e]
  generalize (BitVec.ofInt 64 O &&& BitVec.ofInt 64 k).toNat = m at h
  have h2 : m = 0 ∨ m = 1 ∨ m = 2 ∨ m = 3 ∨ m = 4 ∨ m = 5 ∨ m = 6 ∨ m = 7 ∨ m = 8 := by omega
  rcases h2 with rfl | rfl | rfl | rfl | rfl | rfl | rfl | rfl | rfl <;> rfl
set_option maxRecDepth 100000 in
set_option maxHeartbeats 4000000 in
theorem form_gen (H x y : Int) (hx1 : -9223372036854775808 ≤ x) (hx2 : x ≤ 9223372036854775807) (hy1 : -9223372036854775808 ≤ y) (hy2 : y ≤ 9223372036854775807) : ∃ E M : Int, (-9223372036854775808 ≤ E ∧ E ≤ 9223372036854775807 ∧ -9223372036854775808 ≤ M ∧ M ≤ 9223372036854775807) ∧ ∀ w, Calls Tryd.prog 7 #[.int .i64 H, .int .i64 x, .int .i64 y] w fun e w' => e = .returned (.agg #[.int .i64 E, .int .i64 M]) ∧ Below w.heap.size w w' := by
  obtain ⟨j, hj, e0⟩ := and_sml H 3 4 (by omega) (by omega)
  obtain ⟨jx, hjx, ex⟩ := and_sml x 3 4 (by omega) (by omega)
  obtain ⟨jy, hjy, ey⟩ := and_sml y 7 8 (by omega) (by omega)
  have e3 : ((3 : Nat) : Int) = 3 := rfl
  have e7 : ((7 : Nat) : Int) = 7 := rfl
  rw [e3] at e0 ex
  rw [e7] at ey
  clear e3 e7
  have h4 : j = 0 ∨ j = 1 ∨ j = 2 ∨ j = 3 := by omega
  rcases h4 with rfl | rfl | rfl | rfl
  · refine ⟨8, 23, by omega, fun w => ?_⟩
    have V := (Mq.refl w).alloc 25 #[.int .i64 0, .int .i64 0]
    have HSi : Hid (∀ W, Calls Tryd.prog 21 #[] W fun E w' => E = .returned (.agg #[.int .i64 8, .int .i64 23]) ∧ Below W.heap.size W w') := Lib.hid single_any
    go_enter Tryd.func7, Tryd.ntmps7
    go_wp2_with fail
    refine (HSi.out _).mono ?_
    rintro E w1 ⟨rfl, hb⟩
    have V1 := V.below hb
    have r0 := V1.f0 0 rfl; have r1 := V1.f1 0 rfl; have f0 := V1.frozen 0 0 rfl; have f1 := V1.frozen 0 1 rfl
    have hk := V1.box 0 _ _ _ rfl
    have HK := Lib.hid ((hk.1.set_ 0 (.int .i64 8)).set_ 1 (.int .i64 23))
    have HB := Lib.hid ((V1.bel.setCell (p := ⟨w.heap.size, 0, none⟩) hk.2 (.int .i64 8)).setCell (p := ⟨w.heap.size, 1, none⟩) hk.2 (.int .i64 23))
    clear V V1 hb hk
    go_wp2_with fail
    exact bodyPost_ret (res_form rfl _ _ _ _ _ rfl HK.out) rfl ⟨rfl, HB.out⟩
  · refine ⟨x, y, by omega, fun w => ?_⟩
    have V := (Mq.refl w).alloc 25 #[.int .i64 x, .int .i64 y]
    have HB := Lib.hid V.bel
    have HK := Lib.hid (V.box 0 _ _ _ rfl).1
    clear V ex ey
    go_enter Tryd.func7, Tryd.ntmps7
    go_wp2_with fail
    exact bodyPost_ret (res_form rfl _ _ _ _ _ rfl HK.out) rfl ⟨rfl, HB.out⟩
  · refine ⟨4, 3, by omega, fun w => ?_⟩
    have V := (Mq.refl w).alloc 25 #[.int .i64 4, .int .i64 3]
    have HB := Lib.hid V.bel
    have HK := Lib.hid (V.box 0 _ _ _ rfl).1
    clear V ex ey
    go_enter Tryd.func7, Tryd.ntmps7
    go_wp2_with fail
    exact bodyPost_ret (res_form rfl _ _ _ _ _ rfl HK.out) rfl ⟨rfl, HB.out⟩
  · refine ⟨2 + (jx : Int), 1 + (jy : Int), by omega, fun w => ?_⟩
    have V := (Mq.refl w).alloc 25 #[.int .i64 (2 + (jx : Int)), .int .i64 (1 + (jy : Int))]
    have HB := Lib.hid V.bel
    have HK := Lib.hid (V.box 0 _ _ _ rfl).1
    clear V
    go_enter Tryd.func7, Tryd.ntmps7
    go_wp2_with fail
    exact bodyPost_ret (res_form rfl _ _ _ _ _ rfl HK.out) rfl ⟨rfl, HB.out⟩
set_option maxRecDepth 100000 in
theorem rvalid_any (e m : Int) (h1 : -9223372036854775808 ≤ e) (h2 : e ≤ 9223372036854775807) (h3 : -9223372036854775808 ≤ m) (h4 : m ≤ 9223372036854775807) (w : World) : Calls Tryd.prog 10 #[.int .i64 e, .int .i64 m] w fun E w' => E = .returned (.bool (decide (2 ≤ e ∧ e ≤ 11 ∧ 1 ≤ m ∧ m ≤ 52))) ∧ Below w.heap.size w w' := by
  have HB := Lib.hid (Below.refl w.heap.size w)
  by_cases k1 : 2 ≤ e
  · by_cases k2 : e ≤ 11
    · by_cases k3 : 1 ≤ m
      · have d1 : decide (2 ≤ e) = true := decide_eq_true k1
        have d2 : decide (e ≤ 11) = true := decide_eq_true k2
        have d3 : decide (1 ≤ m) = true := decide_eq_true k3
        have d4 : decide (2 ≤ e ∧ e ≤ 11 ∧ 1 ≤ m ∧ m ≤ 52) = decide (m ≤ 52) := decide_eq_decide.2 ⟨fun h => h.2.2.2, fun h => ⟨k1, k2, k3, h⟩⟩
        rw [d4]
        go_enter Tryd.func10, Tryd.ntmps10
        go_wp2_with fail
        go_ret
        exact ⟨rfl, HB.out⟩
      · have d1 : decide (2 ≤ e) = true := decide_eq_true k1
        have d2 : decide (e ≤ 11) = true := decide_eq_true k2
        have d3 : decide (1 ≤ m) = false := decide_eq_false k3
        have d4 : decide (2 ≤ e ∧ e ≤ 11 ∧ 1 ≤ m ∧ m ≤ 52) = false := decide_eq_false (fun h => k3 h.2.2.1)
        rw [d4]
        go_enter Tryd.func10, Tryd.ntmps10
        go_wp2_with fail
        go_ret
        exact ⟨rfl, HB.out⟩
    · have d1 : decide (2 ≤ e) = true := decide_eq_true k1
      have d2 : decide (e ≤ 11) = false := decide_eq_false k2
      have d4 : decide (2 ≤ e ∧ e ≤ 11 ∧ 1 ≤ m ∧ m ≤ 52) = false := decide_eq_false (fun h => k2 h.2.1)
      rw [d4]
      go_enter Tryd.func10, Tryd.ntmps10
      go_wp2_with fail
      go_ret
      exact ⟨rfl, HB.out⟩
  · have d1 : decide (2 ≤ e) = false := decide_eq_false k1
    have d4 : decide (2 ≤ e ∧ e ≤ 11 ∧ 1 ≤ m ∧ m ≤ 52) = false := decide_eq_false (fun h => k1 h.1)
    rw [d4]
    go_enter Tryd.func10, Tryd.ntmps10
    go_wp2_with fail
    go_ret
    exact ⟨rfl, HB.out⟩
set_option maxRecDepth 100000 in
set_option maxHeartbeats 8000000 in
theorem ieeeDecodes.bad (H x y : Int) (b : Nat) (hb : b < 18446744073709551616) (w : World) (htab : Tab w) (htb : TabB w) (E1 M1 : Int) (hf : -9223372036854775808 ≤ E1 ∧ E1 ≤ 9223372036854775807 ∧ -9223372036854775808 ≤ M1 ∧ M1 ≤ 9223372036854775807) (hF : ∀ w, Calls Tryd.prog 7 #[.int .i64 H, .int .i64 x, .int .i64 y] w fun e w' => e = .returned (.agg #[.int .i64 E1, .int .i64 M1]) ∧ Below w.heap.size w w') (hv : ¬ (2 ≤ E1 ∧ E1 ≤ 11 ∧ 1 ≤ M1 ∧ M1 ≤ 52)) :
    Calls Tryd.prog 3 #[.int .i64 H, .int .i64 x, .int .i64 y, .int .u64 (b : Int)] w fun e w' => e = .returned (.bool true) ∧ Below w.heap.size w w' := by
  have HAl := Lib.hid (alive_e w htab htb)
  have HF := Lib.hid hF
  have HVa : Hid (∀ W, Calls Tryd.prog 9 #[.agg #[.int .i64 E1, .int .i64 M1]] W fun E w' => E = .returned (.bool false) ∧ Below W.heap.size W w') := Lib.hid (fun W => by
    have h := valid_any E1 M1 hf.1 hf.2.1 hf.2.2.1 hf.2.2.2 W
    rw [decide_eq_false hv] at h
    exact h)
  have HRv : Hid (∀ W, Calls Tryd.prog 10 #[.int .i64 E1, .int .i64 M1] W fun E w' => E = .returned (.bool false) ∧ Below W.heap.size W w') := Lib.hid (fun W => by
    have h := rvalid_any E1 M1 hf.1 hf.2.1 hf.2.2.1 hf.2.2.2 W
    rw [decide_eq_false hv] at h
    exact h)
  have HDx0 : Hid (∀ W, Below w.heap.size w W → Calls Tryd.prog 8 #[.agg #[.int .i64 E1, .int .i64 M1], .int .u64 (b : Int)] W (DcIs 4 0 W)) := Lib.hid (fun W _ => decode_no E1 M1 b hf.1 hf.2.1 hf.2.2.1 hf.2.2.2 hv W)
  have HTx0 : Hid (∀ W v, Below w.heap.size w W → IsR W v 0 → Calls Tryd.prog 11 #[v] W fun E w' => E = .returned (.string ⟨#[48]⟩) ∧ Below W.heap.size W w') := Lib.hid (fun W v hB h => by
    have := text_r 0 v W h (sz_zero 100 (by omega)) (htab.below hB (Nat.le_refl _))
    rwa [(show tx 0 = ⟨#[48]⟩ by decide +kernel)] at this)
  obtain ⟨X, hX⟩ : ∃ x : Rat, 0 = x := ⟨_, rfl⟩
  rw [hX] at HDx0 HTx0
  have HDx := HDx0
  have HTx := HTx0
  obtain ⟨BI, hBI⟩ : ∃ x : Int, (b : Int) = x := ⟨_, rfl⟩
  rw [hBI] at HDx ⊢
  clear HDx0 HTx0 hX hBI hv hf hF htab htb hb
  go_enter Tryd.func3, Tryd.ntmps3
  go_wp2_with fail
  refine HAl.out.mono ?_
  rintro E w0 ⟨rfl, hb⟩
  have V0 := (Dq.refl w).below hb
  clear hb HAl
  go_wp2_with fail
  refine (HF.out _).mono ?_
  rintro E w1 ⟨rfl, hb⟩
  have V1 := (V0.below hb).alloc 25 #[.int .i64 E1, .int .i64 M1]
  clear V0 hb HF
  have q0 := V1.f0 0 rfl; have q1 := V1.f1 0 rfl
  go_wp2_with fail
  refine (HDx.out _ V1.bel).mono ?_
  rintro E w2 ⟨v, rfl, hr, hb⟩
  have V2' := (V1.below hb).rcons hr
  obtain ⟨px, nx, cx, px', nx', cx', rfl, -, -⟩ := hr
  obtain ⟨zx, hz⟩ : ∃ z, decide (X.num < 0) = z := ⟨_, rfl⟩
  rw [hz] at V2' ⊢
  have V2 := V2'.alloc 31 #[.bool zx, .slice px nx cx, .slice px' nx' cx']
  clear V1 V2' hb hz HDx q0 q1
  go_wp2_with fail
  obtain ⟨W3, hW3⟩ : ∃ W3, w2.alloc (.cells #[.bool zx, .slice px nx cx, .slice px' nx' cx'] 31) = W3 := ⟨_, rfl⟩
  rw [hW3] at V2 ⊢
  have V3 := V2
  clear V2
  refine wp_region_inv 8 (fun a0 dj a W => ∃ vq0 vq1 vq2 vq3 vq4 vq5 vq6 vq7 : Value, a = puts a0 [(26, vq0), (27, vq1), (28, vq2), (29, vq3), (30, vq4), (31, vq5), (32, vq6), (33, vq7)] ∧ Below W3.heap.size W3 W ∧ (dj 0 = true → vq0 = .agg #[.int .i64 E1, .int .i64 M1]) ∧ (dj 1 = true → vq1 = .bool false) ∧ (dj 2 = true → vq2 = .pointer (some ⟨w1.heap.size, 0, none⟩)) ∧ (dj 3 = true → vq3 = .int .i64 E1) ∧ (dj 4 = true → vq4 = .pointer (some ⟨w1.heap.size, 1, none⟩)) ∧ (dj 5 = true → vq5 = .int .i64 M1) ∧ (dj 6 = true → vq6 = .bool false) ∧ (dj 7 = true → vq7 = .bool false)) (by kernel_rfl) (by kernel_rfl) (by kernel_rfl) ?_ ?_ ?_ ?_
  · intro dj hcl i hi1 hi2 hd j hj
    exact absurd (Nat.lt_of_lt_of_le hi2 (of_decide_eq_true (by kernel_rfl))) (Nat.not_lt.2 hi1)
  · refine ⟨undef, undef, undef, undef, undef, undef, undef, undef, (by simp only [puts, List.foldl_cons, List.foldl_nil, List.setIfInBounds_toArray, List.set_cons_zero, List.set_cons_succ]), (Below.refl _ _).drew, (fun h => by cases h), (fun h => by cases h), (fun h => by cases h), (fun h => by cases h), (fun h => by cases h), (fun h => by cases h), (fun h => by cases h), (fun h => by cases h)⟩
  · intro dj a W i hi hdi hcl hdep hI K hK
    obtain ⟨vq0, vq1, vq2, vq3, vq4, vq5, vq6, vq7, rfl, hB, p0, p1, p2, p3, p4, p5, p6, p7⟩ := hI
    have V := V3.below hB
    obtain rfl | rfl | rfl | rfl | rfl | rfl | rfl | rfl : i = 0 ∨ i = 1 ∨ i = 2 ∨ i = 3 ∨ i = 4 ∨ i = 5 ∨ i = 6 ∨ i = 7 := by omega
    · simp only [puts, List.foldl_cons, List.foldl_nil, List.setIfInBounds_toArray, List.set_cons_zero, List.set_cons_succ]
      have c0 := V.f0 1 rfl
      have c1 := V.f1 1 rfl
      refine any_op (o := { dst := some 26, op := Op.load 25 (Operand.tmp 9), type := 25, pos := "law.go:38", after := #[], guard := none }) rfl rfl ?_
      go_wp2_with fail
      refine hK.out _ _ ?_
      exact ⟨.agg #[.int .i64 E1, .int .i64 M1], vq1, vq2, vq3, vq4, vq5, vq6, vq7, (by simp only [puts, List.foldl_cons, List.foldl_nil, List.setIfInBounds_toArray, List.set_cons_zero, List.set_cons_succ]), hB, (fun _ => rfl), p1, p2, p3, p4, p5, p6, p7⟩
    · obtain rfl := p0 (hdep 0 (by kernel_rfl))
      simp only [puts, List.foldl_cons, List.foldl_nil, List.setIfInBounds_toArray, List.set_cons_zero, List.set_cons_succ]
      refine any_op (o := { dst := some 27, op := Op.call { callee := Callee.value (Operand.func 9), args := #[Operand.tmp 26], argTypes := #[25] }, type := 4, pos := "law.go:38", after := #[{ on := 0, ground := Ground.data }], guard := none }) rfl rfl ?_
      have hC := Lib.hid (HVa.out W)
      go_simp
      refine hC.out.mono ?_
      rintro e W2 ⟨rfl, hb⟩
      refine hK.out _ _ ?_
      exact ⟨.agg #[.int .i64 E1, .int .i64 M1], .bool false, vq2, vq3, vq4, vq5, vq6, vq7, (by simp only [puts, List.foldl_cons, List.foldl_nil, List.setIfInBounds_toArray, List.set_cons_zero, List.set_cons_succ]), hB.trans (hb.mono hB.size), (fun _ => rfl), (fun _ => rfl), p2, p3, p4, p5, p6, p7⟩
    · simp only [puts, List.foldl_cons, List.foldl_nil, List.setIfInBounds_toArray, List.set_cons_zero, List.set_cons_succ]
      refine any_op (o := { dst := some 28, op := Op.fieldAddr 25 (Operand.tmp 9) 0, type := 0, pos := "law.go:38", after := #[], guard := none }) rfl rfl ?_
      go_wp2_with fail
      refine hK.out _ _ ?_
      exact ⟨vq0, vq1, .pointer (some ⟨w1.heap.size, 0, none⟩), vq3, vq4, vq5, vq6, vq7, (by simp only [puts, List.foldl_cons, List.foldl_nil, List.setIfInBounds_toArray, List.set_cons_zero, List.set_cons_succ]), hB, p0, p1, (fun _ => rfl), p3, p4, p5, p6, p7⟩
    · obtain rfl := p2 (hdep 2 (by kernel_rfl))
      simp only [puts, List.foldl_cons, List.foldl_nil, List.setIfInBounds_toArray, List.set_cons_zero, List.set_cons_succ]
      have c0 := V.f0 1 rfl
      refine any_op (o := { dst := some 29, op := Op.load 3 (Operand.tmp 28), type := 3, pos := "law.go:38", after := #[{ on := 2, ground := Ground.data }], guard := none }) rfl rfl ?_
      go_wp2_with fail
      refine hK.out _ _ ?_
      exact ⟨vq0, vq1, .pointer (some ⟨w1.heap.size, 0, none⟩), .int .i64 E1, vq4, vq5, vq6, vq7, (by simp only [puts, List.foldl_cons, List.foldl_nil, List.setIfInBounds_toArray, List.set_cons_zero, List.set_cons_succ]), hB, p0, p1, (fun _ => rfl), (fun _ => rfl), p4, p5, p6, p7⟩
    · simp only [puts, List.foldl_cons, List.foldl_nil, List.setIfInBounds_toArray, List.set_cons_zero, List.set_cons_succ]
      refine any_op (o := { dst := some 30, op := Op.fieldAddr 25 (Operand.tmp 9) 1, type := 0, pos := "law.go:38", after := #[], guard := none }) rfl rfl ?_
      go_wp2_with fail
      refine hK.out _ _ ?_
      exact ⟨vq0, vq1, vq2, vq3, .pointer (some ⟨w1.heap.size, 1, none⟩), vq5, vq6, vq7, (by simp only [puts, List.foldl_cons, List.foldl_nil, List.setIfInBounds_toArray, List.set_cons_zero, List.set_cons_succ]), hB, p0, p1, p2, p3, (fun _ => rfl), p5, p6, p7⟩
    · obtain rfl := p4 (hdep 4 (by kernel_rfl))
      simp only [puts, List.foldl_cons, List.foldl_nil, List.setIfInBounds_toArray, List.set_cons_zero, List.set_cons_succ]
      have c0 := V.f1 1 rfl
      refine any_op (o := { dst := some 31, op := Op.load 3 (Operand.tmp 30), type := 3, pos := "law.go:38", after := #[{ on := 4, ground := Ground.data }], guard := none }) rfl rfl ?_
      go_wp2_with fail
      refine hK.out _ _ ?_
      exact ⟨vq0, vq1, vq2, vq3, .pointer (some ⟨w1.heap.size, 1, none⟩), .int .i64 M1, vq6, vq7, (by simp only [puts, List.foldl_cons, List.foldl_nil, List.setIfInBounds_toArray, List.set_cons_zero, List.set_cons_succ]), hB, p0, p1, p2, p3, (fun _ => rfl), (fun _ => rfl), p6, p7⟩
    · obtain rfl := p1 (hdep 1 (by kernel_rfl))
      obtain rfl := p3 (hdep 3 (by kernel_rfl))
      obtain rfl := p5 (hdep 5 (by kernel_rfl))
      simp only [puts, List.foldl_cons, List.foldl_nil, List.setIfInBounds_toArray, List.set_cons_zero, List.set_cons_succ]
      refine any_op (o := { dst := some 32, op := Op.call { callee := Callee.value (Operand.func 10), args := #[Operand.tmp 29, Operand.tmp 31], argTypes := #[3, 3] }, type := 4, pos := "law.go:38", after := #[{ on := 3, ground := Ground.data }, { on := 5, ground := Ground.data }, { on := 1, ground := Ground.chain }], guard := none }) rfl rfl ?_
      have hC := Lib.hid (HRv.out W)
      go_simp
      refine hC.out.mono ?_
      rintro e W2 ⟨rfl, hb⟩
      refine hK.out _ _ ?_
      exact ⟨vq0, .bool false, vq2, .int .i64 E1, vq4, .int .i64 M1, .bool false, vq7, (by simp only [puts, List.foldl_cons, List.foldl_nil, List.setIfInBounds_toArray, List.set_cons_zero, List.set_cons_succ]), hB.trans (hb.mono hB.size), p0, (fun _ => rfl), p2, (fun _ => rfl), p4, (fun _ => rfl), (fun _ => rfl), p7⟩
    · obtain rfl := p1 (hdep 1 (by kernel_rfl))
      obtain rfl := p6 (hdep 6 (by kernel_rfl))
      simp only [puts, List.foldl_cons, List.foldl_nil, List.setIfInBounds_toArray, List.set_cons_zero, List.set_cons_succ]
      refine any_op (o := { dst := some 33, op := Op.binOp BinOp.neq 4 (Operand.tmp 27) (Operand.tmp 32) 4, type := 4, pos := "law.go:38", after := #[{ on := 1, ground := Ground.data }, { on := 6, ground := Ground.data }], guard := none }) rfl rfl ?_
      go_wp2_with fail
      refine hK.out _ _ ?_
      exact ⟨vq0, .bool false, vq2, vq3, vq4, vq5, .bool false, .bool false, (by simp only [puts, List.foldl_cons, List.foldl_nil, List.setIfInBounds_toArray, List.set_cons_zero, List.set_cons_succ]), hB, p0, (fun _ => rfl), p2, p3, p4, p5, (fun _ => rfl), (fun _ => rfl)⟩
  · intro dj a W hd hI
    obtain ⟨vq0, vq1, vq2, vq3, vq4, vq5, vq6, vq7, rfl, hB, p0, p1, p2, p3, p4, p5, p6, p7⟩ := hI
    have V := V3.below hB
    obtain rfl := p0 (hd 0 (by omega))
    obtain rfl := p1 (hd 1 (by omega))
    obtain rfl := p2 (hd 2 (by omega))
    obtain rfl := p3 (hd 3 (by omega))
    obtain rfl := p4 (hd 4 (by omega))
    obtain rfl := p5 (hd 5 (by omega))
    obtain rfl := p6 (hd 6 (by omega))
    obtain rfl := p7 (hd 7 (by omega))
    clear hd p0 p1 p2 p3 p4 p5 p6 p7 dj
    simp only [puts, List.foldl_cons, List.foldl_nil, List.setIfInBounds_toArray, List.set_cons_zero, List.set_cons_succ]
    show wpAny Tryd.prog .any _ _ 0 #[true, true, true, true, true, true, true, true] _ _
    have V4 := V
    clear V V3 HRv
    refine ⟨by kernel_rfl, ?_⟩
    have q0 := V4.f0 1 rfl; have q1 := V4.f1 1 rfl
    go_wp2_with fail
    refine (HVa.out _).mono ?_
    rintro E w5 ⟨rfl, hb⟩
    have V5 := V4.below hb
    clear V4 hb HVa q0 q1
    have a0 := V5.c0 0 rfl; have a1 := V5.c1 0 rfl; have a2 := V5.c2 0 rfl
    go_wp2_with fail
    refine (HTx.out _ _ V5.bel (V5.rat 0 _ _ rfl)).mono ?_
    rintro E w6 ⟨rfl, hb⟩
    have HB := Lib.hid (V5.below hb).bel
    clear V5 hb HTx a0 a1 a2
    go_wp2_with fail
    go_ret
    exact ⟨rfl, HB.out⟩
set_option maxRecDepth 100000 in
set_option maxHeartbeats 8000000 in
theorem ieeeDecodes.great (H x y : Int) (b : Nat) (hb : b < 18446744073709551616) (w : World) (htab : Tab w) (htb : TabB w) (E1 M1 : Int) (hf : -9223372036854775808 ≤ E1 ∧ E1 ≤ 9223372036854775807 ∧ -9223372036854775808 ≤ M1 ∧ M1 ≤ 9223372036854775807) (hF : ∀ w, Calls Tryd.prog 7 #[.int .i64 H, .int .i64 x, .int .i64 y] w fun e w' => e = .returned (.agg #[.int .i64 E1, .int .i64 M1]) ∧ Below w.heap.size w w') (hv : 2 ≤ E1 ∧ E1 ≤ 11 ∧ 1 ≤ M1 ∧ M1 ≤ 52) (h9 : ¬ E1 ≤ 9) :
    Calls Tryd.prog 3 #[.int .i64 H, .int .i64 x, .int .i64 y, .int .u64 (b : Int)] w fun e w' => e = .returned (.bool true) ∧ Below w.heap.size w w' := by
  have HAl := Lib.hid (alive_e w htab htb)
  have HF := Lib.hid hF
  have HVa : Hid (∀ W, Calls Tryd.prog 9 #[.agg #[.int .i64 E1, .int .i64 M1]] W fun E w' => E = .returned (.bool true) ∧ Below W.heap.size W w') := Lib.hid (fun W => by
    have h := valid_any E1 M1 hf.1 hf.2.1 hf.2.2.1 hf.2.2.2 W
    rw [decide_eq_true hv] at h
    exact h)
  have HRv : Hid (∀ W, Calls Tryd.prog 10 #[.int .i64 E1, .int .i64 M1] W fun E w' => E = .returned (.bool true) ∧ Below W.heap.size W w') := Lib.hid (fun W => by
    have h := rvalid_any E1 M1 hf.1 hf.2.1 hf.2.2.1 hf.2.2.2 W
    rw [decide_eq_true hv] at h
    exact h)
  obtain ⟨e, he⟩ : ∃ e : Nat, E1 = e := ⟨E1.toNat, by omega⟩
  obtain ⟨m, hm⟩ : ∃ m : Nat, M1 = m := ⟨M1.toNat, by omega⟩
  have HDx0 : Hid (∀ W, Below w.heap.size w W → Calls Tryd.prog 8 #[.agg #[.int .i64 E1, .int .i64 M1], .int .u64 (b : Int)] W (DcIs (pkd e m b) (pnm e m b) W)) := Lib.hid (fun W hB => by
    have := decode_any e m b (by omega) (by omega) (by omega) (by omega) hb W (htb.below hB (Nat.le_refl _))
    rwa [← he, ← hm] at this)
  obtain ⟨KK, hKK⟩ : ∃ x, pkd e m b = x := ⟨_, rfl⟩
  obtain ⟨X, hX⟩ : ∃ x, pnm e m b = x := ⟨_, rfl⟩
  rw [hKK, hX] at HDx0
  obtain ⟨BI, hBI⟩ : ∃ x : Int, (b : Int) = x := ⟨_, rfl⟩
  rw [hBI] at HDx0 ⊢
  have HDx := HDx0
  have g9 : decide (9 < E1) = true := decide_eq_true (by omega)
  clear HDx0 hX hBI hKK hv hf hF htab htb hb he hm h9
  go_enter Tryd.func3, Tryd.ntmps3
  go_wp2_with fail
  refine HAl.out.mono ?_
  rintro E w0 ⟨rfl, hb⟩
  have V0 := (Dq.refl w).below hb
  clear hb HAl
  go_wp2_with fail
  refine (HF.out _).mono ?_
  rintro E w1 ⟨rfl, hb⟩
  have V1 := (V0.below hb).alloc 25 #[.int .i64 E1, .int .i64 M1]
  clear V0 hb HF
  have q0 := V1.f0 0 rfl; have q1 := V1.f1 0 rfl
  go_wp2_with fail
  refine (HDx.out _ V1.bel).mono ?_
  rintro E w2 ⟨v, rfl, hr, hb⟩
  have V2' := (V1.below hb).rcons hr
  obtain ⟨px, nx, cx, px', nx', cx', rfl, -, -⟩ := hr
  obtain ⟨zx, hz⟩ : ∃ z, decide (X.num < 0) = z := ⟨_, rfl⟩
  rw [hz] at V2' ⊢
  have V2 := V2'.alloc 31 #[.bool zx, .slice px nx cx, .slice px' nx' cx']
  clear V1 V2' hb hz HDx q0 q1
  go_wp2_with fail
  obtain ⟨W3, hW3⟩ : ∃ W3, w2.alloc (.cells #[.bool zx, .slice px nx cx, .slice px' nx' cx'] 31) = W3 := ⟨_, rfl⟩
  rw [hW3] at V2 ⊢
  have V3 := V2
  clear V2
  refine wp_region_inv 8 (fun a0 dj a W => ∃ vq0 vq1 vq2 vq3 vq4 vq5 vq6 vq7 : Value, a = puts a0 [(26, vq0), (27, vq1), (28, vq2), (29, vq3), (30, vq4), (31, vq5), (32, vq6), (33, vq7)] ∧ Below W3.heap.size W3 W ∧ (dj 0 = true → vq0 = .agg #[.int .i64 E1, .int .i64 M1]) ∧ (dj 1 = true → vq1 = .bool true) ∧ (dj 2 = true → vq2 = .pointer (some ⟨w1.heap.size, 0, none⟩)) ∧ (dj 3 = true → vq3 = .int .i64 E1) ∧ (dj 4 = true → vq4 = .pointer (some ⟨w1.heap.size, 1, none⟩)) ∧ (dj 5 = true → vq5 = .int .i64 M1) ∧ (dj 6 = true → vq6 = .bool true) ∧ (dj 7 = true → vq7 = .bool false)) (by kernel_rfl) (by kernel_rfl) (by kernel_rfl) ?_ ?_ ?_ ?_
  · intro dj hcl i hi1 hi2 hd j hj
    exact absurd (Nat.lt_of_lt_of_le hi2 (of_decide_eq_true (by kernel_rfl))) (Nat.not_lt.2 hi1)
  · refine ⟨undef, undef, undef, undef, undef, undef, undef, undef, (by simp only [puts, List.foldl_cons, List.foldl_nil, List.setIfInBounds_toArray, List.set_cons_zero, List.set_cons_succ]), (Below.refl _ _).drew, (fun h => by cases h), (fun h => by cases h), (fun h => by cases h), (fun h => by cases h), (fun h => by cases h), (fun h => by cases h), (fun h => by cases h), (fun h => by cases h)⟩
  · intro dj a W i hi hdi hcl hdep hI K hK
    obtain ⟨vq0, vq1, vq2, vq3, vq4, vq5, vq6, vq7, rfl, hB, p0, p1, p2, p3, p4, p5, p6, p7⟩ := hI
    have V := V3.below hB
    obtain rfl | rfl | rfl | rfl | rfl | rfl | rfl | rfl : i = 0 ∨ i = 1 ∨ i = 2 ∨ i = 3 ∨ i = 4 ∨ i = 5 ∨ i = 6 ∨ i = 7 := by omega
    · simp only [puts, List.foldl_cons, List.foldl_nil, List.setIfInBounds_toArray, List.set_cons_zero, List.set_cons_succ]
      have c0 := V.f0 1 rfl
      have c1 := V.f1 1 rfl
      refine any_op (o := { dst := some 26, op := Op.load 25 (Operand.tmp 9), type := 25, pos := "law.go:38", after := #[], guard := none }) rfl rfl ?_
      go_wp2_with fail
      refine hK.out _ _ ?_
      exact ⟨.agg #[.int .i64 E1, .int .i64 M1], vq1, vq2, vq3, vq4, vq5, vq6, vq7, (by simp only [puts, List.foldl_cons, List.foldl_nil, List.setIfInBounds_toArray, List.set_cons_zero, List.set_cons_succ]), hB, (fun _ => rfl), p1, p2, p3, p4, p5, p6, p7⟩
    · obtain rfl := p0 (hdep 0 (by kernel_rfl))
      simp only [puts, List.foldl_cons, List.foldl_nil, List.setIfInBounds_toArray, List.set_cons_zero, List.set_cons_succ]
      refine any_op (o := { dst := some 27, op := Op.call { callee := Callee.value (Operand.func 9), args := #[Operand.tmp 26], argTypes := #[25] }, type := 4, pos := "law.go:38", after := #[{ on := 0, ground := Ground.data }], guard := none }) rfl rfl ?_
      have hC := Lib.hid (HVa.out W)
      go_simp
      refine hC.out.mono ?_
      rintro e W2 ⟨rfl, hb⟩
      refine hK.out _ _ ?_
      exact ⟨.agg #[.int .i64 E1, .int .i64 M1], .bool true, vq2, vq3, vq4, vq5, vq6, vq7, (by simp only [puts, List.foldl_cons, List.foldl_nil, List.setIfInBounds_toArray, List.set_cons_zero, List.set_cons_succ]), hB.trans (hb.mono hB.size), (fun _ => rfl), (fun _ => rfl), p2, p3, p4, p5, p6, p7⟩
    · simp only [puts, List.foldl_cons, List.foldl_nil, List.setIfInBounds_toArray, List.set_cons_zero, List.set_cons_succ]
      refine any_op (o := { dst := some 28, op := Op.fieldAddr 25 (Operand.tmp 9) 0, type := 0, pos := "law.go:38", after := #[], guard := none }) rfl rfl ?_
      go_wp2_with fail
      refine hK.out _ _ ?_
      exact ⟨vq0, vq1, .pointer (some ⟨w1.heap.size, 0, none⟩), vq3, vq4, vq5, vq6, vq7, (by simp only [puts, List.foldl_cons, List.foldl_nil, List.setIfInBounds_toArray, List.set_cons_zero, List.set_cons_succ]), hB, p0, p1, (fun _ => rfl), p3, p4, p5, p6, p7⟩
    · obtain rfl := p2 (hdep 2 (by kernel_rfl))
      simp only [puts, List.foldl_cons, List.foldl_nil, List.setIfInBounds_toArray, List.set_cons_zero, List.set_cons_succ]
      have c0 := V.f0 1 rfl
      refine any_op (o := { dst := some 29, op := Op.load 3 (Operand.tmp 28), type := 3, pos := "law.go:38", after := #[{ on := 2, ground := Ground.data }], guard := none }) rfl rfl ?_
      go_wp2_with fail
      refine hK.out _ _ ?_
      exact ⟨vq0, vq1, .pointer (some ⟨w1.heap.size, 0, none⟩), .int .i64 E1, vq4, vq5, vq6, vq7, (by simp only [puts, List.foldl_cons, List.foldl_nil, List.setIfInBounds_toArray, List.set_cons_zero, List.set_cons_succ]), hB, p0, p1, (fun _ => rfl), (fun _ => rfl), p4, p5, p6, p7⟩
    · simp only [puts, List.foldl_cons, List.foldl_nil, List.setIfInBounds_toArray, List.set_cons_zero, List.set_cons_succ]
      refine any_op (o := { dst := some 30, op := Op.fieldAddr 25 (Operand.tmp 9) 1, type := 0, pos := "law.go:38", after := #[], guard := none }) rfl rfl ?_
      go_wp2_with fail
      refine hK.out _ _ ?_
      exact ⟨vq0, vq1, vq2, vq3, .pointer (some ⟨w1.heap.size, 1, none⟩), vq5, vq6, vq7, (by simp only [puts, List.foldl_cons, List.foldl_nil, List.setIfInBounds_toArray, List.set_cons_zero, List.set_cons_succ]), hB, p0, p1, p2, p3, (fun _ => rfl), p5, p6, p7⟩
    · obtain rfl := p4 (hdep 4 (by kernel_rfl))
      simp only [puts, List.foldl_cons, List.foldl_nil, List.setIfInBounds_toArray, List.set_cons_zero, List.set_cons_succ]
      have c0 := V.f1 1 rfl
      refine any_op (o := { dst := some 31, op := Op.load 3 (Operand.tmp 30), type := 3, pos := "law.go:38", after := #[{ on := 4, ground := Ground.data }], guard := none }) rfl rfl ?_
      go_wp2_with fail
      refine hK.out _ _ ?_
      exact ⟨vq0, vq1, vq2, vq3, .pointer (some ⟨w1.heap.size, 1, none⟩), .int .i64 M1, vq6, vq7, (by simp only [puts, List.foldl_cons, List.foldl_nil, List.setIfInBounds_toArray, List.set_cons_zero, List.set_cons_succ]), hB, p0, p1, p2, p3, (fun _ => rfl), (fun _ => rfl), p6, p7⟩
    · obtain rfl := p1 (hdep 1 (by kernel_rfl))
      obtain rfl := p3 (hdep 3 (by kernel_rfl))
      obtain rfl := p5 (hdep 5 (by kernel_rfl))
      simp only [puts, List.foldl_cons, List.foldl_nil, List.setIfInBounds_toArray, List.set_cons_zero, List.set_cons_succ]
      refine any_op (o := { dst := some 32, op := Op.call { callee := Callee.value (Operand.func 10), args := #[Operand.tmp 29, Operand.tmp 31], argTypes := #[3, 3] }, type := 4, pos := "law.go:38", after := #[{ on := 3, ground := Ground.data }, { on := 5, ground := Ground.data }, { on := 1, ground := Ground.chain }], guard := none }) rfl rfl ?_
      have hC := Lib.hid (HRv.out W)
      go_simp
      refine hC.out.mono ?_
      rintro e W2 ⟨rfl, hb⟩
      refine hK.out _ _ ?_
      exact ⟨vq0, .bool true, vq2, .int .i64 E1, vq4, .int .i64 M1, .bool true, vq7, (by simp only [puts, List.foldl_cons, List.foldl_nil, List.setIfInBounds_toArray, List.set_cons_zero, List.set_cons_succ]), hB.trans (hb.mono hB.size), p0, (fun _ => rfl), p2, (fun _ => rfl), p4, (fun _ => rfl), (fun _ => rfl), p7⟩
    · obtain rfl := p1 (hdep 1 (by kernel_rfl))
      obtain rfl := p6 (hdep 6 (by kernel_rfl))
      simp only [puts, List.foldl_cons, List.foldl_nil, List.setIfInBounds_toArray, List.set_cons_zero, List.set_cons_succ]
      refine any_op (o := { dst := some 33, op := Op.binOp BinOp.neq 4 (Operand.tmp 27) (Operand.tmp 32) 4, type := 4, pos := "law.go:38", after := #[{ on := 1, ground := Ground.data }, { on := 6, ground := Ground.data }], guard := none }) rfl rfl ?_
      go_wp2_with fail
      refine hK.out _ _ ?_
      exact ⟨vq0, .bool true, vq2, vq3, vq4, vq5, .bool true, .bool false, (by simp only [puts, List.foldl_cons, List.foldl_nil, List.setIfInBounds_toArray, List.set_cons_zero, List.set_cons_succ]), hB, p0, (fun _ => rfl), p2, p3, p4, p5, (fun _ => rfl), (fun _ => rfl)⟩
  · intro dj a W hd hI
    obtain ⟨vq0, vq1, vq2, vq3, vq4, vq5, vq6, vq7, rfl, hB, p0, p1, p2, p3, p4, p5, p6, p7⟩ := hI
    have V := V3.below hB
    obtain rfl := p0 (hd 0 (by omega))
    obtain rfl := p1 (hd 1 (by omega))
    obtain rfl := p2 (hd 2 (by omega))
    obtain rfl := p3 (hd 3 (by omega))
    obtain rfl := p4 (hd 4 (by omega))
    obtain rfl := p5 (hd 5 (by omega))
    obtain rfl := p6 (hd 6 (by omega))
    obtain rfl := p7 (hd 7 (by omega))
    clear hd p0 p1 p2 p3 p4 p5 p6 p7 dj
    simp only [puts, List.foldl_cons, List.foldl_nil, List.setIfInBounds_toArray, List.set_cons_zero, List.set_cons_succ]
    show wpAny Tryd.prog .any _ _ 0 #[true, true, true, true, true, true, true, true] _ _
    have V4 := V
    clear V V3 HRv
    refine ⟨by kernel_rfl, ?_⟩
    have q0 := V4.f0 1 rfl; have q1 := V4.f1 1 rfl
    go_wp2_with fail
    refine (HVa.out _).mono ?_
    rintro E w5 ⟨rfl, hb⟩
    have V5 := V4.below hb
    clear V4 hb HVa q0 q1
    have q0 := V5.f0 1 rfl; have q1 := V5.f1 1 rfl
    have HB := Lib.hid V5.bel
    clear V5
    go_wp2_with fail
    go_ret
    exact ⟨rfl, HB.out⟩
set_option maxRecDepth 100000 in
set_option maxHeartbeats 8000000 in
theorem ieeeDecodes.good (H x y : Int) (b : Nat) (hb : b < 18446744073709551616) (w : World) (htab : Tab w) (htb : TabB w) (E1 M1 : Int) (hf : -9223372036854775808 ≤ E1 ∧ E1 ≤ 9223372036854775807 ∧ -9223372036854775808 ≤ M1 ∧ M1 ≤ 9223372036854775807) (hF : ∀ w, Calls Tryd.prog 7 #[.int .i64 H, .int .i64 x, .int .i64 y] w fun e w' => e = .returned (.agg #[.int .i64 E1, .int .i64 M1]) ∧ Below w.heap.size w w') (hv : 2 ≤ E1 ∧ E1 ≤ 11 ∧ 1 ≤ M1 ∧ M1 ≤ 52) (h9 : E1 ≤ 9) :
    Calls Tryd.prog 3 #[.int .i64 H, .int .i64 x, .int .i64 y, .int .u64 (b : Int)] w fun e w' => e = .returned (.bool true) ∧ Below w.heap.size w w' := by
  have HAl := Lib.hid (alive_e w htab htb)
  have HF := Lib.hid hF
  have HVa : Hid (∀ W, Calls Tryd.prog 9 #[.agg #[.int .i64 E1, .int .i64 M1]] W fun E w' => E = .returned (.bool true) ∧ Below W.heap.size W w') := Lib.hid (fun W => by
    have h := valid_any E1 M1 hf.1 hf.2.1 hf.2.2.1 hf.2.2.2 W
    rw [decide_eq_true hv] at h
    exact h)
  have HRv : Hid (∀ W, Calls Tryd.prog 10 #[.int .i64 E1, .int .i64 M1] W fun E w' => E = .returned (.bool true) ∧ Below W.heap.size W w') := Lib.hid (fun W => by
    have h := rvalid_any E1 M1 hf.1 hf.2.1 hf.2.2.1 hf.2.2.2 W
    rw [decide_eq_true hv] at h
    exact h)
  obtain ⟨e, he⟩ : ∃ e : Nat, E1 = e := ⟨E1.toNat, by omega⟩
  obtain ⟨m, hm⟩ : ∃ m : Nat, M1 = m := ⟨M1.toNat, by omega⟩
  have HDx0 : Hid (∀ W, Below w.heap.size w W → Calls Tryd.prog 8 #[.agg #[.int .i64 E1, .int .i64 M1], .int .u64 (b : Int)] W (DcIs (pkd e m b) (pnm e m b) W)) := Lib.hid (fun W hB => by
    have := decode_any e m b (by omega) (by omega) (by omega) (by omega) hb W (htb.below hB (Nat.le_refl _))
    rwa [← he, ← hm] at this)
  have hsz : Sz 10 (pnm e m b) ∧ SzD 900 (pnm e m b) := by
    unfold pnm
    split
    · rename_i h
      have hs : psz e m b < 2 ^ (e + m) := Nat.mod_lt _ (Nat.pow_pos (by decide))
      have h1 := un_big (m := m) (s := psz e m b) (k := e) (by rw [Nat.add_comm]; exact hs)
      have h2 : 2 ^ e ≤ 2 ^ 9 := Nat.pow_le_pow_right (by decide) (by omega)
      have h3 : 2 ^ (e - 1) ≤ 2 ^ 8 := Nat.pow_le_pow_right (by decide) (by omega)
      have hu : upl e m ≤ 320 := by unfold upl; omega
      obtain ⟨p1, p2, -⟩ := norm_parts (sgn (png e m b) (un m (psz e m b))) (2 ^ upl e m) (Nat.ne_of_gt (Nat.pow_pos (by decide)))
      rw [sgn_ab] at p1
      have q1 : (vQ e m (png e m b) (psz e m b)).num.natAbs < 2 ^ (m + 2 ^ e) := by
        unfold vQ
        rw [p1]
        exact Nat.lt_of_le_of_lt (Nat.div_le_self _ _) h1
      have q2 : (vQ e m (png e m b) (psz e m b)).den ≤ 2 ^ upl e m := by
        unfold vQ
        rw [p2]
        exact Nat.div_le_self _ _
      exact ⟨⟨Nat.lt_trans q1 (two_lt_w (by omega)), Nat.lt_of_le_of_lt q2 (two_lt_w (by omega))⟩, ⟨Nat.lt_trans q1 (two_up _ 900 (by omega)), Nat.lt_of_le_of_lt q2 (two_up _ 900 (by omega))⟩⟩
    · exact ⟨sz_zero 10 (by omega), ⟨d_pos 900 (by omega) (by decide), d_pos 900 (by omega) (by decide)⟩⟩
  have HTx : Hid (∀ W v, Below w.heap.size w W → IsR W v (pnm e m b) → Calls Tryd.prog 11 #[v] W fun E w' => E = .returned (.string (tx (pnm e m b))) ∧ Below W.heap.size W w') := Lib.hid (fun W v hB h => text_r _ v W h (hsz.1.mono (by omega)) (htab.below hB (Nat.le_refl _)))
  have HRt : Hid (∀ W v, RQ W v (pnm e m b) → Calls Tryd.prog 13 #[v] W fun E w' => E = .returned (.string (tx (pnm e m b))) ∧ Below W.heap.size W w') := Lib.hid (fun W v h => rattext_any _ v W h hsz.2)
  have HRd : Hid (∀ W, Calls Tryd.prog 12 #[.int .i64 E1, .int .i64 M1, .int .u64 (b : Int)] W (RdIs (pkd e m b) (pnm e m b) W)) := Lib.hid (fun W => by
    have := rdec_any e m b (by omega) (by omega) (by omega) (by omega) hb W
    rwa [← he, ← hm] at this)
  obtain ⟨TX, hTX⟩ : ∃ x, tx (pnm e m b) = x := ⟨_, rfl⟩
  rw [hTX] at HTx HRt
  obtain ⟨KK, hKK⟩ : ∃ x, pkd e m b = x := ⟨_, rfl⟩
  obtain ⟨X, hX⟩ : ∃ x, pnm e m b = x := ⟨_, rfl⟩
  rw [hKK, hX] at HDx0 HRd
  rw [hX] at HTx HRt
  obtain ⟨BI, hBI⟩ : ∃ x : Int, (b : Int) = x := ⟨_, rfl⟩
  rw [hBI] at HDx0 HRd ⊢
  have HDx := HDx0
  have g9 : decide (9 < E1) = false := decide_eq_false (by omega)
  clear HDx0 hX hBI hKK hTX hv hf hF htab htb hb hsz he hm h9
  go_enter Tryd.func3, Tryd.ntmps3
  go_wp2_with fail
  refine HAl.out.mono ?_
  rintro E w0 ⟨rfl, hb⟩
  have V0 := (Dq.refl w).below hb
  clear hb HAl
  go_wp2_with fail
  refine (HF.out _).mono ?_
  rintro E w1 ⟨rfl, hb⟩
  have V1 := (V0.below hb).alloc 25 #[.int .i64 E1, .int .i64 M1]
  clear V0 hb HF
  have q0 := V1.f0 0 rfl; have q1 := V1.f1 0 rfl
  go_wp2_with fail
  refine (HDx.out _ V1.bel).mono ?_
  rintro E w2 ⟨v, rfl, hr, hb⟩
  have V2' := (V1.below hb).rcons hr
  obtain ⟨px, nx, cx, px', nx', cx', rfl, -, -⟩ := hr
  obtain ⟨zx, hz⟩ : ∃ z, decide (X.num < 0) = z := ⟨_, rfl⟩
  rw [hz] at V2' ⊢
  have V2 := V2'.alloc 31 #[.bool zx, .slice px nx cx, .slice px' nx' cx']
  clear V1 V2' hb hz HDx q0 q1
  go_wp2_with fail
  obtain ⟨W3, hW3⟩ : ∃ W3, w2.alloc (.cells #[.bool zx, .slice px nx cx, .slice px' nx' cx'] 31) = W3 := ⟨_, rfl⟩
  rw [hW3] at V2 ⊢
  have V3 := V2
  clear V2
  refine wp_region_inv 8 (fun a0 dj a W => ∃ vq0 vq1 vq2 vq3 vq4 vq5 vq6 vq7 : Value, a = puts a0 [(26, vq0), (27, vq1), (28, vq2), (29, vq3), (30, vq4), (31, vq5), (32, vq6), (33, vq7)] ∧ Below W3.heap.size W3 W ∧ (dj 0 = true → vq0 = .agg #[.int .i64 E1, .int .i64 M1]) ∧ (dj 1 = true → vq1 = .bool true) ∧ (dj 2 = true → vq2 = .pointer (some ⟨w1.heap.size, 0, none⟩)) ∧ (dj 3 = true → vq3 = .int .i64 E1) ∧ (dj 4 = true → vq4 = .pointer (some ⟨w1.heap.size, 1, none⟩)) ∧ (dj 5 = true → vq5 = .int .i64 M1) ∧ (dj 6 = true → vq6 = .bool true) ∧ (dj 7 = true → vq7 = .bool false)) (by kernel_rfl) (by kernel_rfl) (by kernel_rfl) ?_ ?_ ?_ ?_
  · intro dj hcl i hi1 hi2 hd j hj
    exact absurd (Nat.lt_of_lt_of_le hi2 (of_decide_eq_true (by kernel_rfl))) (Nat.not_lt.2 hi1)
  · refine ⟨undef, undef, undef, undef, undef, undef, undef, undef, (by simp only [puts, List.foldl_cons, List.foldl_nil, List.setIfInBounds_toArray, List.set_cons_zero, List.set_cons_succ]), (Below.refl _ _).drew, (fun h => by cases h), (fun h => by cases h), (fun h => by cases h), (fun h => by cases h), (fun h => by cases h), (fun h => by cases h), (fun h => by cases h), (fun h => by cases h)⟩
  · intro dj a W i hi hdi hcl hdep hI K hK
    obtain ⟨vq0, vq1, vq2, vq3, vq4, vq5, vq6, vq7, rfl, hB, p0, p1, p2, p3, p4, p5, p6, p7⟩ := hI
    have V := V3.below hB
    obtain rfl | rfl | rfl | rfl | rfl | rfl | rfl | rfl : i = 0 ∨ i = 1 ∨ i = 2 ∨ i = 3 ∨ i = 4 ∨ i = 5 ∨ i = 6 ∨ i = 7 := by omega
    · simp only [puts, List.foldl_cons, List.foldl_nil, List.setIfInBounds_toArray, List.set_cons_zero, List.set_cons_succ]
      have c0 := V.f0 1 rfl
      have c1 := V.f1 1 rfl
      refine any_op (o := { dst := some 26, op := Op.load 25 (Operand.tmp 9), type := 25, pos := "law.go:38", after := #[], guard := none }) rfl rfl ?_
      go_wp2_with fail
      refine hK.out _ _ ?_
      exact ⟨.agg #[.int .i64 E1, .int .i64 M1], vq1, vq2, vq3, vq4, vq5, vq6, vq7, (by simp only [puts, List.foldl_cons, List.foldl_nil, List.setIfInBounds_toArray, List.set_cons_zero, List.set_cons_succ]), hB, (fun _ => rfl), p1, p2, p3, p4, p5, p6, p7⟩
    · obtain rfl := p0 (hdep 0 (by kernel_rfl))
      simp only [puts, List.foldl_cons, List.foldl_nil, List.setIfInBounds_toArray, List.set_cons_zero, List.set_cons_succ]
      refine any_op (o := { dst := some 27, op := Op.call { callee := Callee.value (Operand.func 9), args := #[Operand.tmp 26], argTypes := #[25] }, type := 4, pos := "law.go:38", after := #[{ on := 0, ground := Ground.data }], guard := none }) rfl rfl ?_
      have hC := Lib.hid (HVa.out W)
      go_simp
      refine hC.out.mono ?_
      rintro e W2 ⟨rfl, hb⟩
      refine hK.out _ _ ?_
      exact ⟨.agg #[.int .i64 E1, .int .i64 M1], .bool true, vq2, vq3, vq4, vq5, vq6, vq7, (by simp only [puts, List.foldl_cons, List.foldl_nil, List.setIfInBounds_toArray, List.set_cons_zero, List.set_cons_succ]), hB.trans (hb.mono hB.size), (fun _ => rfl), (fun _ => rfl), p2, p3, p4, p5, p6, p7⟩
    · simp only [puts, List.foldl_cons, List.foldl_nil, List.setIfInBounds_toArray, List.set_cons_zero, List.set_cons_succ]
      refine any_op (o := { dst := some 28, op := Op.fieldAddr 25 (Operand.tmp 9) 0, type := 0, pos := "law.go:38", after := #[], guard := none }) rfl rfl ?_
      go_wp2_with fail
      refine hK.out _ _ ?_
      exact ⟨vq0, vq1, .pointer (some ⟨w1.heap.size, 0, none⟩), vq3, vq4, vq5, vq6, vq7, (by simp only [puts, List.foldl_cons, List.foldl_nil, List.setIfInBounds_toArray, List.set_cons_zero, List.set_cons_succ]), hB, p0, p1, (fun _ => rfl), p3, p4, p5, p6, p7⟩
    · obtain rfl := p2 (hdep 2 (by kernel_rfl))
      simp only [puts, List.foldl_cons, List.foldl_nil, List.setIfInBounds_toArray, List.set_cons_zero, List.set_cons_succ]
      have c0 := V.f0 1 rfl
      refine any_op (o := { dst := some 29, op := Op.load 3 (Operand.tmp 28), type := 3, pos := "law.go:38", after := #[{ on := 2, ground := Ground.data }], guard := none }) rfl rfl ?_
      go_wp2_with fail
      refine hK.out _ _ ?_
      exact ⟨vq0, vq1, .pointer (some ⟨w1.heap.size, 0, none⟩), .int .i64 E1, vq4, vq5, vq6, vq7, (by simp only [puts, List.foldl_cons, List.foldl_nil, List.setIfInBounds_toArray, List.set_cons_zero, List.set_cons_succ]), hB, p0, p1, (fun _ => rfl), (fun _ => rfl), p4, p5, p6, p7⟩
    · simp only [puts, List.foldl_cons, List.foldl_nil, List.setIfInBounds_toArray, List.set_cons_zero, List.set_cons_succ]
      refine any_op (o := { dst := some 30, op := Op.fieldAddr 25 (Operand.tmp 9) 1, type := 0, pos := "law.go:38", after := #[], guard := none }) rfl rfl ?_
      go_wp2_with fail
      refine hK.out _ _ ?_
      exact ⟨vq0, vq1, vq2, vq3, .pointer (some ⟨w1.heap.size, 1, none⟩), vq5, vq6, vq7, (by simp only [puts, List.foldl_cons, List.foldl_nil, List.setIfInBounds_toArray, List.set_cons_zero, List.set_cons_succ]), hB, p0, p1, p2, p3, (fun _ => rfl), p5, p6, p7⟩
    · obtain rfl := p4 (hdep 4 (by kernel_rfl))
      simp only [puts, List.foldl_cons, List.foldl_nil, List.setIfInBounds_toArray, List.set_cons_zero, List.set_cons_succ]
      have c0 := V.f1 1 rfl
      refine any_op (o := { dst := some 31, op := Op.load 3 (Operand.tmp 30), type := 3, pos := "law.go:38", after := #[{ on := 4, ground := Ground.data }], guard := none }) rfl rfl ?_
      go_wp2_with fail
      refine hK.out _ _ ?_
      exact ⟨vq0, vq1, vq2, vq3, .pointer (some ⟨w1.heap.size, 1, none⟩), .int .i64 M1, vq6, vq7, (by simp only [puts, List.foldl_cons, List.foldl_nil, List.setIfInBounds_toArray, List.set_cons_zero, List.set_cons_succ]), hB, p0, p1, p2, p3, (fun _ => rfl), (fun _ => rfl), p6, p7⟩
    · obtain rfl := p1 (hdep 1 (by kernel_rfl))
      obtain rfl := p3 (hdep 3 (by kernel_rfl))
      obtain rfl := p5 (hdep 5 (by kernel_rfl))
      simp only [puts, List.foldl_cons, List.foldl_nil, List.setIfInBounds_toArray, List.set_cons_zero, List.set_cons_succ]
      refine any_op (o := { dst := some 32, op := Op.call { callee := Callee.value (Operand.func 10), args := #[Operand.tmp 29, Operand.tmp 31], argTypes := #[3, 3] }, type := 4, pos := "law.go:38", after := #[{ on := 3, ground := Ground.data }, { on := 5, ground := Ground.data }, { on := 1, ground := Ground.chain }], guard := none }) rfl rfl ?_
      have hC := Lib.hid (HRv.out W)
      go_simp
      refine hC.out.mono ?_
      rintro e W2 ⟨rfl, hb⟩
      refine hK.out _ _ ?_
      exact ⟨vq0, .bool true, vq2, .int .i64 E1, vq4, .int .i64 M1, .bool true, vq7, (by simp only [puts, List.foldl_cons, List.foldl_nil, List.setIfInBounds_toArray, List.set_cons_zero, List.set_cons_succ]), hB.trans (hb.mono hB.size), p0, (fun _ => rfl), p2, (fun _ => rfl), p4, (fun _ => rfl), (fun _ => rfl), p7⟩
    · obtain rfl := p1 (hdep 1 (by kernel_rfl))
      obtain rfl := p6 (hdep 6 (by kernel_rfl))
      simp only [puts, List.foldl_cons, List.foldl_nil, List.setIfInBounds_toArray, List.set_cons_zero, List.set_cons_succ]
      refine any_op (o := { dst := some 33, op := Op.binOp BinOp.neq 4 (Operand.tmp 27) (Operand.tmp 32) 4, type := 4, pos := "law.go:38", after := #[{ on := 1, ground := Ground.data }, { on := 6, ground := Ground.data }], guard := none }) rfl rfl ?_
      go_wp2_with fail
      refine hK.out _ _ ?_
      exact ⟨vq0, .bool true, vq2, vq3, vq4, vq5, .bool true, .bool false, (by simp only [puts, List.foldl_cons, List.foldl_nil, List.setIfInBounds_toArray, List.set_cons_zero, List.set_cons_succ]), hB, p0, (fun _ => rfl), p2, p3, p4, p5, (fun _ => rfl), (fun _ => rfl)⟩
  · intro dj a W hd hI
    obtain ⟨vq0, vq1, vq2, vq3, vq4, vq5, vq6, vq7, rfl, hB, p0, p1, p2, p3, p4, p5, p6, p7⟩ := hI
    have V := V3.below hB
    obtain rfl := p0 (hd 0 (by omega))
    obtain rfl := p1 (hd 1 (by omega))
    obtain rfl := p2 (hd 2 (by omega))
    obtain rfl := p3 (hd 3 (by omega))
    obtain rfl := p4 (hd 4 (by omega))
    obtain rfl := p5 (hd 5 (by omega))
    obtain rfl := p6 (hd 6 (by omega))
    obtain rfl := p7 (hd 7 (by omega))
    clear hd p0 p1 p2 p3 p4 p5 p6 p7 dj
    simp only [puts, List.foldl_cons, List.foldl_nil, List.setIfInBounds_toArray, List.set_cons_zero, List.set_cons_succ]
    show wpAny Tryd.prog .any _ _ 0 #[true, true, true, true, true, true, true, true] _ _
    have V4 := V
    clear V V3 HRv
    refine ⟨by kernel_rfl, ?_⟩
    have q0 := V4.f0 1 rfl; have q1 := V4.f1 1 rfl
    go_wp2_with fail
    refine (HVa.out _).mono ?_
    rintro E w5 ⟨rfl, hb⟩
    have V5 := V4.below hb
    clear V4 hb HVa q0 q1
    have q0 := V5.f0 1 rfl; have q1 := V5.f1 1 rfl
    go_wp2_with fail
    refine (HRd.out _).mono ?_
    rintro E w8 ⟨v, rfl, hr, hb⟩
    have V6' := (V5.below hb).qcons hr
    obtain ⟨py, ny, cy, py', ny', cy', rfl, -, -⟩ := hr
    obtain ⟨zy, hz⟩ : ∃ z, decide (X.num < 0) = z := ⟨_, rfl⟩
    rw [hz] at V6' ⊢
    have V6 := V6'.alloc 39 #[.bool zy, .slice py ny cy, .slice py' ny' cy']
    clear V5 V6' hb hz HRd q0 q1
    go_wp2_with fail
    obtain ⟨W9, hW9⟩ : ∃ W9, w8.alloc (.cells #[.bool zy, .slice py ny cy, .slice py' ny' cy'] 39) = W9 := ⟨_, rfl⟩
    rw [hW9] at V6 ⊢
    have V9 := V6
    clear V6
    refine wp_region_inv 11 (fun a0 dj a W => ∃ vy0 vy1 vy2 vy3 vy4 vy5 vy6 vy7 vy8 vy9 vy10 : Value, a = puts a0 [(56, vy0), (57, vy1), (58, vy2), (59, vy3), (60, vy4), (61, vy5), (62, vy6), (63, vy7), (64, vy8), (65, vy9), (8, vy10)] ∧ Below W9.heap.size W9 W ∧ (dj 0 = true → vy0 = .int .i64 KK) ∧ (dj 1 = true → vy1 = .int .i64 KK) ∧ (dj 2 = true → vy2 = .bool true) ∧ (dj 3 = true → vy3 = .bool true) ∧ (dj 4 = true → vy4 = .agg #[.bool zx, .slice px nx cx, .slice px' nx' cx']) ∧ (dj 5 = true → vy5 = .string TX) ∧ (dj 6 = true → vy6 = .agg #[.bool zy, .slice py ny cy, .slice py' ny' cy']) ∧ (dj 7 = true → vy7 = .string TX) ∧ (dj 8 = true → vy8 = .bool true) ∧ (dj 9 = true → vy9 = .bool true) ∧ (dj 10 = true → vy10 = .bool true)) (by kernel_rfl) (by kernel_rfl) (by kernel_rfl) ?_ ?_ ?_ ?_
    · intro dj hcl i hi1 hi2 hd j hj
      exact absurd (Nat.lt_of_lt_of_le hi2 (of_decide_eq_true (by kernel_rfl))) (Nat.not_lt.2 hi1)
    · refine ⟨undef, undef, undef, undef, undef, undef, undef, undef, undef, undef, .bool false, (by simp only [puts, List.foldl_cons, List.foldl_nil, List.setIfInBounds_toArray, List.set_cons_zero, List.set_cons_succ]), (Below.refl _ _).drew, (fun h => by cases h), (fun h => by cases h), (fun h => by cases h), (fun h => by cases h), (fun h => by cases h), (fun h => by cases h), (fun h => by cases h), (fun h => by cases h), (fun h => by cases h), (fun h => by cases h), (fun h => by cases h)⟩
    · intro dj a W i hi hdi hcl hdep hI K hK
      obtain ⟨vy0, vy1, vy2, vy3, vy4, vy5, vy6, vy7, vy8, vy9, vy10, rfl, hB, p0, p1, p2, p3, p4, p5, p6, p7, p8, p9, p10⟩ := hI
      have V := V9.below hB
      obtain rfl | rfl | rfl | rfl | rfl | rfl | rfl | rfl | rfl | rfl | rfl : i = 0 ∨ i = 1 ∨ i = 2 ∨ i = 3 ∨ i = 4 ∨ i = 5 ∨ i = 6 ∨ i = 7 ∨ i = 8 ∨ i = 9 ∨ i = 10 := by omega
      · simp only [puts, List.foldl_cons, List.foldl_nil, List.setIfInBounds_toArray, List.set_cons_zero, List.set_cons_succ]
        refine any_op (o := { dst := some 56, op := Op.move (Operand.tmp 11), type := 3, pos := "law.go:48", after := #[], guard := none }) rfl rfl ?_
        go_wp2_with fail
        refine hK.out _ _ ?_
        exact ⟨.int .i64 KK, vy1, vy2, vy3, vy4, vy5, vy6, vy7, vy8, vy9, vy10, (by simp only [puts, List.foldl_cons, List.foldl_nil, List.setIfInBounds_toArray, List.set_cons_zero, List.set_cons_succ]), hB, (fun _ => rfl), p1, p2, p3, p4, p5, p6, p7, p8, p9, p10⟩
      · simp only [puts, List.foldl_cons, List.foldl_nil, List.setIfInBounds_toArray, List.set_cons_zero, List.set_cons_succ]
        refine any_op (o := { dst := some 57, op := Op.move (Operand.tmp 13), type := 3, pos := "law.go:48", after := #[], guard := none }) rfl rfl ?_
        go_wp2_with fail
        refine hK.out _ _ ?_
        exact ⟨vy0, .int .i64 KK, vy2, vy3, vy4, vy5, vy6, vy7, vy8, vy9, vy10, (by simp only [puts, List.foldl_cons, List.foldl_nil, List.setIfInBounds_toArray, List.set_cons_zero, List.set_cons_succ]), hB, p0, (fun _ => rfl), p2, p3, p4, p5, p6, p7, p8, p9, p10⟩
      · obtain rfl := p0 (hdep 0 (by kernel_rfl))
        obtain rfl := p1 (hdep 1 (by kernel_rfl))
        simp only [puts, List.foldl_cons, List.foldl_nil, List.setIfInBounds_toArray, List.set_cons_zero, List.set_cons_succ]
        refine any_op (o := { dst := some 58, op := Op.binOp BinOp.eql 3 (Operand.tmp 56) (Operand.tmp 57) 3, type := 4, pos := "law.go:48", after := #[{ on := 0, ground := Ground.data }, { on := 1, ground := Ground.data }], guard := none }) rfl rfl ?_
        go_wp2_with fail
        refine hK.out _ _ ?_
        exact ⟨.int .i64 KK, .int .i64 KK, .bool true, vy3, vy4, vy5, vy6, vy7, vy8, vy9, vy10, (by simp only [puts, List.foldl_cons, List.foldl_nil, List.setIfInBounds_toArray, List.set_cons_zero, List.set_cons_succ]), hB, (fun _ => rfl), (fun _ => rfl), (fun _ => rfl), p3, p4, p5, p6, p7, p8, p9, p10⟩
      · obtain rfl := p2 (hdep 2 (by kernel_rfl))
        simp only [puts, List.foldl_cons, List.foldl_nil, List.setIfInBounds_toArray, List.set_cons_zero, List.set_cons_succ]
        refine any_op (o := { dst := some 59, op := Op.move (Operand.tmp 58), type := 4, pos := "law.go:48", after := #[{ on := 2, ground := Ground.data }], guard := none }) rfl rfl ?_
        go_wp2_with fail
        refine hK.out _ _ ?_
        exact ⟨vy0, vy1, .bool true, .bool true, vy4, vy5, vy6, vy7, vy8, vy9, vy10, (by simp only [puts, List.foldl_cons, List.foldl_nil, List.setIfInBounds_toArray, List.set_cons_zero, List.set_cons_succ]), hB, p0, p1, (fun _ => rfl), (fun _ => rfl), p4, p5, p6, p7, p8, p9, p10⟩
      · obtain rfl := p3 (hdep 3 (by kernel_rfl))
        simp only [puts, List.foldl_cons, List.foldl_nil, List.setIfInBounds_toArray, List.set_cons_zero, List.set_cons_succ]
        have c0 := V.c0 1 rfl
        have c1 := V.c1 1 rfl
        have c2 := V.c2 1 rfl
        refine any_opg (o := { dst := some 60, op := Op.load 31 (Operand.tmp 10), type := 31, pos := "law.go:48", after := #[{ on := 3, ground := Ground.guard }], guard := some (3, true) }) rfl (by kernel_rfl) ?_
        go_wp2_with fail
        refine hK.out _ _ ?_
        exact ⟨vy0, vy1, vy2, .bool true, .agg #[.bool zx, .slice px nx cx, .slice px' nx' cx'], vy5, vy6, vy7, vy8, vy9, vy10, (by simp only [puts, List.foldl_cons, List.foldl_nil, List.setIfInBounds_toArray, List.set_cons_zero, List.set_cons_succ]), hB, p0, p1, p2, (fun _ => rfl), (fun _ => rfl), p5, p6, p7, p8, p9, p10⟩
      · obtain rfl := p3 (hdep 3 (by kernel_rfl))
        obtain rfl := p4 (hdep 4 (by kernel_rfl))
        simp only [puts, List.foldl_cons, List.foldl_nil, List.setIfInBounds_toArray, List.set_cons_zero, List.set_cons_succ]
        refine any_opg (o := { dst := some 61, op := Op.call { callee := Callee.value (Operand.func 11), args := #[Operand.tmp 60], argTypes := #[31] }, type := 9, pos := "law.go:48", after := #[{ on := 4, ground := Ground.data }, { on := 3, ground := Ground.chain }, { on := 3, ground := Ground.guard }], guard := some (3, true) }) rfl (by kernel_rfl) ?_
        have hC := Lib.hid (HTx.out W _ V.bel (V.rat 0 _ _ rfl))
        go_simp
        refine hC.out.mono ?_
        rintro e W2 ⟨rfl, hb⟩
        refine hK.out _ _ ?_
        exact ⟨vy0, vy1, vy2, .bool true, .agg #[.bool zx, .slice px nx cx, .slice px' nx' cx'], .string TX, vy6, vy7, vy8, vy9, vy10, (by simp only [puts, List.foldl_cons, List.foldl_nil, List.setIfInBounds_toArray, List.set_cons_zero, List.set_cons_succ]), hB.trans (hb.mono hB.size), p0, p1, p2, (fun _ => rfl), (fun _ => rfl), (fun _ => rfl), p6, p7, p8, p9, p10⟩
      · obtain rfl := p3 (hdep 3 (by kernel_rfl))
        simp only [puts, List.foldl_cons, List.foldl_nil, List.setIfInBounds_toArray, List.set_cons_zero, List.set_cons_succ]
        have c0 := V.c0 0 rfl
        have c1 := V.c1 0 rfl
        have c2 := V.c2 0 rfl
        refine any_opg (o := { dst := some 62, op := Op.load 39 (Operand.tmp 12), type := 39, pos := "law.go:48", after := #[{ on := 3, ground := Ground.guard }], guard := some (3, true) }) rfl (by kernel_rfl) ?_
        go_wp2_with fail
        refine hK.out _ _ ?_
        exact ⟨vy0, vy1, vy2, .bool true, vy4, vy5, .agg #[.bool zy, .slice py ny cy, .slice py' ny' cy'], vy7, vy8, vy9, vy10, (by simp only [puts, List.foldl_cons, List.foldl_nil, List.setIfInBounds_toArray, List.set_cons_zero, List.set_cons_succ]), hB, p0, p1, p2, (fun _ => rfl), p4, p5, (fun _ => rfl), p7, p8, p9, p10⟩
      · obtain rfl := p3 (hdep 3 (by kernel_rfl))
        obtain rfl := p5 (hdep 5 (by kernel_rfl))
        obtain rfl := p6 (hdep 6 (by kernel_rfl))
        simp only [puts, List.foldl_cons, List.foldl_nil, List.setIfInBounds_toArray, List.set_cons_zero, List.set_cons_succ]
        refine any_opg (o := { dst := some 63, op := Op.call { callee := Callee.value (Operand.func 13), args := #[Operand.tmp 62], argTypes := #[39] }, type := 9, pos := "law.go:48", after := #[{ on := 6, ground := Ground.data }, { on := 5, ground := Ground.chain }, { on := 3, ground := Ground.guard }], guard := some (3, true) }) rfl (by kernel_rfl) ?_
        have hC := Lib.hid (HRt.out W _ (V.ref 0 _ _ rfl))
        go_simp
        refine hC.out.mono ?_
        rintro e W2 ⟨rfl, hb⟩
        refine hK.out _ _ ?_
        exact ⟨vy0, vy1, vy2, .bool true, vy4, .string TX, .agg #[.bool zy, .slice py ny cy, .slice py' ny' cy'], .string TX, vy8, vy9, vy10, (by simp only [puts, List.foldl_cons, List.foldl_nil, List.setIfInBounds_toArray, List.set_cons_zero, List.set_cons_succ]), hB.trans (hb.mono hB.size), p0, p1, p2, (fun _ => rfl), p4, (fun _ => rfl), (fun _ => rfl), (fun _ => rfl), p8, p9, p10⟩
      · obtain rfl := p3 (hdep 3 (by kernel_rfl))
        obtain rfl := p5 (hdep 5 (by kernel_rfl))
        obtain rfl := p7 (hdep 7 (by kernel_rfl))
        simp only [puts, List.foldl_cons, List.foldl_nil, List.setIfInBounds_toArray, List.set_cons_zero, List.set_cons_succ]
        refine any_opg (o := { dst := some 64, op := Op.binOp BinOp.eql 9 (Operand.tmp 61) (Operand.tmp 63) 9, type := 4, pos := "law.go:48", after := #[{ on := 5, ground := Ground.data }, { on := 7, ground := Ground.data }, { on := 3, ground := Ground.guard }], guard := some (3, true) }) rfl (by kernel_rfl) ?_
        go_wp2_with fail
        refine hK.out _ _ ?_
        exact ⟨vy0, vy1, vy2, .bool true, vy4, .string TX, vy6, .string TX, .bool true, vy9, vy10, (by simp only [puts, List.foldl_cons, List.foldl_nil, List.setIfInBounds_toArray, List.set_cons_zero, List.set_cons_succ]), hB, p0, p1, p2, (fun _ => rfl), p4, (fun _ => rfl), p6, (fun _ => rfl), (fun _ => rfl), p9, p10⟩
      · obtain rfl := p3 (hdep 3 (by kernel_rfl))
        obtain rfl := p8 (hdep 8 (by kernel_rfl))
        simp only [puts, List.foldl_cons, List.foldl_nil, List.setIfInBounds_toArray, List.set_cons_zero, List.set_cons_succ]
        refine any_op (o := { dst := some 65, op := Op.pick (Operand.tmp 59) (Operand.tmp 64) (Operand.const (Value.bool false)), type := 4, pos := "law.go:48", after := #[{ on := 3, ground := Ground.data }, { on := 8, ground := Ground.data }], guard := none }) rfl rfl ?_
        go_wp2_with fail
        refine hK.out _ _ ?_
        exact ⟨vy0, vy1, vy2, .bool true, vy4, vy5, vy6, vy7, .bool true, .bool true, vy10, (by simp only [puts, List.foldl_cons, List.foldl_nil, List.setIfInBounds_toArray, List.set_cons_zero, List.set_cons_succ]), hB, p0, p1, p2, (fun _ => rfl), p4, p5, p6, p7, (fun _ => rfl), (fun _ => rfl), p10⟩
      · obtain rfl := p0 (hdep 0 (by kernel_rfl))
        obtain rfl := p1 (hdep 1 (by kernel_rfl))
        obtain rfl := p2 (hdep 2 (by kernel_rfl))
        obtain rfl := p3 (hdep 3 (by kernel_rfl))
        obtain rfl := p4 (hdep 4 (by kernel_rfl))
        obtain rfl := p5 (hdep 5 (by kernel_rfl))
        obtain rfl := p6 (hdep 6 (by kernel_rfl))
        obtain rfl := p7 (hdep 7 (by kernel_rfl))
        obtain rfl := p8 (hdep 8 (by kernel_rfl))
        obtain rfl := p9 (hdep 9 (by kernel_rfl))
        simp only [puts, List.foldl_cons, List.foldl_nil, List.setIfInBounds_toArray, List.set_cons_zero, List.set_cons_succ]
        refine any_op (o := { dst := some 8, op := Op.assign (Operand.tmp 65), type := 4, pos := "law.go:48", after := #[{ on := 9, ground := Ground.data }, { on := 7, ground := Ground.chain }, { on := 0, ground := Ground.phase }, { on := 1, ground := Ground.phase }, { on := 2, ground := Ground.phase }, { on := 3, ground := Ground.phase }, { on := 4, ground := Ground.phase }, { on := 5, ground := Ground.phase }, { on := 6, ground := Ground.phase }, { on := 7, ground := Ground.phase }, { on := 8, ground := Ground.phase }, { on := 9, ground := Ground.phase }], guard := none }) rfl rfl ?_
        go_wp2_with fail
        refine hK.out _ _ ?_
        exact ⟨.int .i64 KK, .int .i64 KK, .bool true, .bool true, .agg #[.bool zx, .slice px nx cx, .slice px' nx' cx'], .string TX, .agg #[.bool zy, .slice py ny cy, .slice py' ny' cy'], .string TX, .bool true, .bool true, .bool true, (by simp only [puts, List.foldl_cons, List.foldl_nil, List.setIfInBounds_toArray, List.set_cons_zero, List.set_cons_succ]), hB, (fun _ => rfl), (fun _ => rfl), (fun _ => rfl), (fun _ => rfl), (fun _ => rfl), (fun _ => rfl), (fun _ => rfl), (fun _ => rfl), (fun _ => rfl), (fun _ => rfl), (fun _ => rfl)⟩
    · intro dj a W hd hI
      obtain ⟨vy0, vy1, vy2, vy3, vy4, vy5, vy6, vy7, vy8, vy9, vy10, rfl, hB, p0, p1, p2, p3, p4, p5, p6, p7, p8, p9, p10⟩ := hI
      have V := V9.below hB
      obtain rfl := p0 (hd 0 (by omega))
      obtain rfl := p1 (hd 1 (by omega))
      obtain rfl := p2 (hd 2 (by omega))
      obtain rfl := p3 (hd 3 (by omega))
      obtain rfl := p4 (hd 4 (by omega))
      obtain rfl := p5 (hd 5 (by omega))
      obtain rfl := p6 (hd 6 (by omega))
      obtain rfl := p7 (hd 7 (by omega))
      obtain rfl := p8 (hd 8 (by omega))
      obtain rfl := p9 (hd 9 (by omega))
      obtain rfl := p10 (hd 10 (by omega))
      clear hd p0 p1 p2 p3 p4 p5 p6 p7 p8 p9 p10 dj
      simp only [puts, List.foldl_cons, List.foldl_nil, List.setIfInBounds_toArray, List.set_cons_zero, List.set_cons_succ]
      show wpAny Tryd.prog .any _ _ 0 #[true, true, true, true, true, true, true, true, true, true, true] _ _
      have HB := Lib.hid V.bel
      clear V V9 HTx HRt
      refine ⟨by kernel_rfl, ?_⟩
      go_wp2_with fail
      go_ret
      exact ⟨rfl, HB.out⟩
theorem wf_u7 {a : Int} (h : (Lit.int .u64 a).wf = true) : 0 ≤ a ∧ a < 18446744073709551616 := by
  simp [Lit.wf, IntKind.min, IntKind.max, IntKind.bits, IntKind.signed] at h; omega
theorem wf_i7 {a : Int} (h : (Lit.int .i64 a).wf = true) : -9223372036854775808 ≤ a ∧ a ≤ 9223372036854775807 := by
  simp [Lit.wf, IntKind.min, IntKind.max, IntKind.bits, IntKind.signed] at h; omega
/-- The walk of IeeeDecodes. -/
theorem ieeeDecodes.walk (H x y b : Int) (_ : (Lit.int .i64 H).wf = true) (wx : (Lit.int .i64 x).wf = true) (wy : (Lit.int .i64 y).wf = true) (wb : (Lit.int .u64 b).wf = true) (w : World) (htab : Tab w) (htb : TabB w) :
    Calls Tryd.prog 3 #[.int .i64 H, .int .i64 x, .int .i64 y, .int .u64 b] w fun e w' => e = .returned (.bool true) ∧ Below w.heap.size w w' := by
  have b2 := wf_u7 wb
  have x2 := wf_i7 wx
  have y2 := wf_i7 wy
  obtain ⟨B, rfl⟩ : ∃ N : Nat, b = N := ⟨b.toNat, by omega⟩
  obtain ⟨E1, M1, hf, hF⟩ := form_gen H x y x2.1 x2.2 y2.1 y2.2
  by_cases hv : 2 ≤ E1 ∧ E1 ≤ 11 ∧ 1 ≤ M1 ∧ M1 ≤ 52
  · by_cases h9 : E1 ≤ 9
    · exact ieeeDecodes.good H x y B (by omega) w htab htb E1 M1 hf hF hv h9
    · exact ieeeDecodes.great H x y B (by omega) w htab htb E1 M1 hf hF hv h9
  · exact ieeeDecodes.bad H x y B (by omega) w htab htb E1 M1 hf hF hv
end Go.Proofs.YtnhobagjpjcigaaDoor
