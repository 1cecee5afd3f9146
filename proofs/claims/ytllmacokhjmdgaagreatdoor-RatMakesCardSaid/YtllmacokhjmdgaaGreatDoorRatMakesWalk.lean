/-
  The walk of RatMakes: for every input it returns true, and leaves what lay in memory as it was.
-/
import Derived.Test.YtllmacokhjmdgaaGreatDoorRQs
namespace Go.Proofs.YtllmacokhjmdgaaGreatDoor
open Go.RowKit
set_option linter.unusedVariables false
set_option maxRecDepth 100000 in
set_option maxHeartbeats 8000000 in
theorem ratMakes.over0 (neg : Bool) (num : Nat) (v : Int) (w : World) (htab : Tab w) (htb : TabB w) (hnum : num < 18446744073709551616) :
    Calls Tryz.prog 6 #[.bool neg, .int .u64 (num : Int), .int .u64 0, .int .i64 v] w fun e w' => e = .returned (.bool true) ∧ Below w.heap.size w w' := by
  have HAl : Hid (∀ W, Below w.heap.size w W → Calls Tryz.prog 9 #[] W fun e w' => e = .returned (.bool true) ∧ Below W.heap.size W w') := Lib.hid (fun W hb => alive_r W (htab.below hb (Nat.le_refl _)) (htb.below hb (Nat.le_refl _)))
  have HTB : Hid (∀ W, Below w.heap.size w W → TabB W) := Lib.hid (fun W hb => htb.below hb (Nat.le_refl _))
  have HTA : Hid (∀ W, Below w.heap.size w W → Tab W) := Lib.hid (fun W hb => htab.below hb (Nat.le_refl _))
  have HOn : Hid (∀ W, Calls Tryz.prog 11 #[.int .u64 (num : Int)] W (GaveV num W)) := Lib.hid (fun W => (of_any num hnum W).mono fun e w' h' => by
    obtain ⟨v, h1, h2, h3⟩ := h'
    obtain ⟨x, y, z, rfl⟩ := isN_form h2
    exact ⟨x, y, z, h1, h2, h3⟩)
  have HOd : Hid (∀ W, Calls Tryz.prog 11 #[.int .u64 0] W (GaveV 0 W)) := Lib.hid (fun W => (of_any 0 (by decide) W).mono fun e w' h' => by
    obtain ⟨v, h1, h2, h3⟩ := h'
    obtain ⟨x, y, z, rfl⟩ := isN_form h2
    exact ⟨x, y, z, h1, h2, h3⟩)
  have HMk : Hid (∀ W va vb, IsN W va num → IsN W vb 0 → Calls Tryz.prog 10 #[.bool neg, va, vb] W fun e w' => e = .returned (.tuple #[.agg #[.bool false, .slice none 0 0, .slice none 0 0], .int .i64 4]) ∧ Below W.heap.size W w') := Lib.hid (fun W va vb h1 h2 => make_zero neg num va vb W h1 h2 (w_pos 26 (by omega) hnum))
  have ht0 : tx 0 = ⟨#[48]⟩ := by decide +kernel
  have HTx : Hid (∀ W v, Below w.heap.size w W → IsR W v 0 → Calls Tryz.prog 13 #[v] W fun e w' => e = .returned (.string ⟨#[48]⟩) ∧ Below W.heap.size W w') := Lib.hid (fun W v hB h => by
    have := text_r 0 v W h (show Sz 100 0 from ⟨w_pos 100 (by omega) (by decide), w_pos 100 (by omega) (by decide)⟩) (htab.below hB (Nat.le_refl _))
    rwa [ht0] at this)
  have hnum9 : num < 18446744073709551616 ^ 100 := w_pos 100 (by omega) hnum
  have HN9 := Lib.hid hnum9
  clear hnum hnum9 ht0
  go_enter Tryz.func6, Tryz.ntmps6
  go_wp2_with fail
  refine (HOn.out _).mono ?_
  rintro e w1 ⟨x1, y1, z1, rfl, i1, hb⟩
  have V1 := ((Mq.refl w).below hb).cons i1 HN9.out
  clear i1 hb
  go_wp2_with fail
  refine (HOd.out _).mono ?_
  rintro e w2 ⟨x2, y2, z2, rfl, i2, hb⟩
  have V2 := (V1.below hb).cons i2 (Nat.pow_pos (by decide))
  clear i2 hb V1
  go_wp2_with fail
  refine (HMk.out _ _ _ (V2.num 1 _ _ rfl).1 (V2.num 0 _ _ rfl).1).mono ?_
  rintro e w3 ⟨rfl, hb⟩
  have V3 := (V2.below hb).alloc 28 #[.bool false, .slice none 0 0, .slice none 0 0]
  clear V2 hb
  go_wp2_with fail
  refine (HAl.out _ V3.bel).mono ?_
  rintro e w4 ⟨rfl, hb⟩
  have V4 := V3.below hb
  clear V3 hb
  have a0 := V4.c0 0 rfl; have a1 := V4.c1 0 rfl; have a2 := V4.c2 0 rfl
  go_wp2_with fail
  refine (HTx.out _ _ V4.bel (isR_zero _)).mono ?_
  rintro e w5 ⟨rfl, hb⟩
  have HB := Lib.hid (V4.below hb).bel
  clear V4 hb a0 a1 a2
  go_wp2_with fail
  go_ret
  exact ⟨rfl, HB.out⟩
set_option maxRecDepth 100000 in
set_option maxHeartbeats 8000000 in
theorem ratMakes.overN (neg : Bool) (num den : Nat) (v : Int) (w : World) (htab : Tab w) (htb : TabB w) (hnum : num < 18446744073709551616) (hden : den < 18446744073709551616) (hd0 : den ≠ 0) (hv1 : -9223372036854775808 ≤ v) (hv2 : v < 9223372036854775808) :
    Calls Tryz.prog 6 #[.bool neg, .int .u64 (num : Int), .int .u64 (den : Int), .int .i64 v] w fun e w' => e = .returned (.bool true) ∧ Below w.heap.size w w' := by
  have HAl : Hid (∀ W, Below w.heap.size w W → Calls Tryz.prog 9 #[] W fun e w' => e = .returned (.bool true) ∧ Below W.heap.size W w') := Lib.hid (fun W hb => alive_r W (htab.below hb (Nat.le_refl _)) (htb.below hb (Nat.le_refl _)))
  have HTB : Hid (∀ W, Below w.heap.size w W → TabB W) := Lib.hid (fun W hb => htb.below hb (Nat.le_refl _))
  have HTA : Hid (∀ W, Below w.heap.size w W → Tab W) := Lib.hid (fun W hb => htab.below hb (Nat.le_refl _))
  have HOn : Hid (∀ W, Calls Tryz.prog 11 #[.int .u64 (num : Int)] W (GaveV num W)) := Lib.hid (fun W => (of_any num hnum W).mono fun e w' h' => by
    obtain ⟨v, h1, h2, h3⟩ := h'
    obtain ⟨x, y, z, rfl⟩ := isN_form h2
    exact ⟨x, y, z, h1, h2, h3⟩)
  have HOd : Hid (∀ W, Calls Tryz.prog 11 #[.int .u64 (den : Int)] W (GaveV den W)) := Lib.hid (fun W => (of_any den hden W).mono fun e w' h' => by
    obtain ⟨v, h1, h2, h3⟩ := h'
    obtain ⟨x, y, z, rfl⟩ := isN_form h2
    exact ⟨x, y, z, h1, h2, h3⟩)
  obtain ⟨X, hX⟩ : ∃ X, X = mkRat (sgn neg num) den := ⟨_, rfl⟩
  obtain ⟨p1, p2, p3⟩ := norm_parts (sgn neg num) den hd0
  rw [← hX, sgn_abs] at p1 p2 p3
  have hXs : Sz 1 X := ⟨by rw [p1, Nat.pow_one]; exact Nat.lt_of_le_of_lt (Nat.div_le_self _ _) hnum, by rw [p2, Nat.pow_one]; exact Nat.lt_of_le_of_lt (Nat.div_le_self _ _) hden⟩
  have h64 : 18446744073709551616 < 10000 ^ 5 := by decide
  have hXd : SzD 5 X := ⟨by rw [p1]; exact Nat.lt_trans (Nat.lt_of_le_of_lt (Nat.div_le_self _ _) hnum) h64, by rw [p2]; exact Nat.lt_trans (Nat.lt_of_le_of_lt (Nat.div_le_self _ _) hden) h64⟩
  have HMk : Hid (∀ W va vb, IsN W va num → IsN W vb den → TabB W → Calls Tryz.prog 10 #[.bool neg, va, vb] W fun e w' => ∃ v, e = .returned (.tuple #[v, .int .i64 0]) ∧ IsR w' v X ∧ Below W.heap.size W w') := Lib.hid (fun W va vb h1 h2 ht => make_any X neg num den va vb W h1 h2 (w_pos 26 (by omega) hnum) (w_pos 26 (by omega) hden) (by omega) ht ⟨p1, p2, fun h => by
    have hn0 : num ≠ 0 := fun e => h (by rw [e, Nat.zero_div])
    rw [p3 hn0]
    exact sgn_neg (fun e => absurd e hn0)⟩)
  have HRn : Hid (∀ W, Calls Tryz.prog 32 #[.int .u64 (num : Int)] W (GotR num W)) := Lib.hid (fun W => rof_any num hnum W)
  have HRd : Hid (∀ W, Calls Tryz.prog 32 #[.int .u64 (den : Int)] W (GotR den W)) := Lib.hid (fun W => rof_any den hden W)
  have HRm : Hid (∀ W va vb, RN W va num → RN W vb den → Calls Tryz.prog 31 #[.bool neg, va, vb] W (GaveQ X W)) := Lib.hid (fun W va vb h1 h2 => rmake_any X neg num den va vb W h1 h2 (pow_up 5 900 (Nat.lt_trans hnum h64) (by omega)) (pow_up 5 900 (Nat.lt_trans hden h64) (by omega)) (by omega) hX)
  have HSm : Hid (∀ W va vb, Below w.heap.size w W → IsR W va X → RQ W vb X → Calls Tryz.prog 30 #[va, vb] W fun e w' => e = .returned (.bool true) ∧ Below W.heap.size W w') := Lib.hid (fun W va vb hB h1 h2 => same_yes X va vb W h1 h2 (hXs.mono (by omega)) (hXd.mono (by omega)) (htab.below hB (Nat.le_refl _)))
  have hVs : Sz 1 (v : Rat) := sz_int 1 (by omega) v (by omega)
  have hVd : SzD 5 (v : Rat) := ⟨by rw [Rat.num_intCast]; omega, by rw [Rat.den_intCast]; decide⟩
  have HVo : Hid (∀ W, Calls Tryz.prog 29 #[.int .i64 v] W (GaveR (v : Rat) W)) := Lib.hid (fun W => of_r v W hv1 hv2)
  have HVi : Hid (∀ W, Calls Tryz.prog 33 #[.int .i64 v] W (GaveQ (v : Rat) W)) := Lib.hid (fun W => rint_any v W hv1 hv2)
  have HSv : Hid (∀ W va vb, Below w.heap.size w W → IsR W va (v : Rat) → RQ W vb (v : Rat) → Calls Tryz.prog 30 #[va, vb] W fun e w' => e = .returned (.bool true) ∧ Below W.heap.size W w') := Lib.hid (fun W va vb hB h1 h2 => same_yes (v : Rat) va vb W h1 h2 (hVs.mono (by omega)) (hVd.mono (by omega)) (htab.below hB (Nat.le_refl _)))
  have NB1 := Lib.hid (pow_up 5 900 (Nat.lt_trans hnum h64) (by omega)); have NB2 := Lib.hid (pow_up 5 900 (Nat.lt_trans hden h64) (by omega))
  have HN9 := Lib.hid (w_pos 100 (by omega) hnum); have HD9 := Lib.hid (w_pos 100 (by omega) hden)
  have hdi : ¬ ((den : Int) = 0) := by omega
  have hde : ((den : Int) == 0) = false := by simpa using hd0
  obtain ⟨VR, hVR⟩ : ∃ R, (v : Rat) = R := ⟨_, rfl⟩
  simp only [hVR] at HVo HVi HSv
  clear hnum hden hX p1 p2 p3 hXs hXd hVs hVd hv1 hv2 h64 hd0 hVR
  go_enter Tryz.func6, Tryz.ntmps6
  go_wp2_with fail
  refine (HOn.out _).mono ?_
  rintro e w1 ⟨x1, y1, z1, rfl, i1, hb⟩
  have V1 := ((Mq.refl w).below hb).cons i1 HN9.out
  clear i1 hb
  go_wp2_with fail
  refine (HOd.out _).mono ?_
  rintro e w2 ⟨x2, y2, z2, rfl, i2, hb⟩
  have V2 := (V1.below hb).cons i2 HD9.out
  clear i2 hb V1
  go_wp2_with fail
  refine (HMk.out _ _ _ (V2.num 1 _ _ rfl).1 (V2.num 0 _ _ rfl).1 (HTB.out _ V2.bel)).mono ?_
  rintro e w3 ⟨vM, rfl, rM, hb⟩
  have V3' := ((Dq.refl w).below (V2.below hb).bel).rcons rM
  obtain ⟨pM, nM, cM, qM, mM, dM, rfl, -, -⟩ := rM
  obtain ⟨xM, hxM⟩ : ∃ z, decide (X.num < 0) = z := ⟨_, rfl⟩
  rw [hxM] at V3' ⊢
  have V3 := V3'.alloc 28 #[.bool xM, .slice pM nM cM, .slice qM mM dM]
  obtain ⟨bM, hbM⟩ : ∃ b, w3.heap.size = b := ⟨_, rfl⟩
  obtain ⟨W0, hW0⟩ : ∃ W0, w3.alloc (.cells #[.bool xM, .slice pM nM cM, .slice qM mM dM] 28) = W0 := ⟨_, rfl⟩
  rw [hW0, hbM] at V3
  have HW0 := Lib.hid hW0; have HbM := Lib.hid hbM
  have HS : Hid (∀ l q r W, Dq w [(bM, 28, #[.bool xM, .slice pM nM cM, .slice qM mM dM])] l q r W → W.cell? ⟨bM, 0, none⟩ = some (.bool xM) ∧ W.cell? ⟨bM, 1, none⟩ = some (.slice pM nM cM) ∧ W.cell? ⟨bM, 2, none⟩ = some (.slice qM mM dM)) := Lib.hid (fun l q r W h => ⟨h.c0 0 rfl, h.c1 0 rfl, h.c2 0 rfl⟩)
  clear V2 hb V3' hxM hW0 hbM
  go_wp2_with fail
  simp only [HbM.out, HW0.out]
  have V0 := V3.drew
  clear V3
  refine wp_region_held_drew (S := (fun w' => w'.cell? ⟨bM, 0, none⟩ = some (.bool xM) ∧ w'.cell? ⟨bM, 1, none⟩ = some (.slice pM nM cM) ∧ w'.cell? ⟨bM, 2, none⟩ = some (.slice qM mM dM))) (by kernel_rfl) ?_ (fun hHeld => ?_)
  · exact HS.out _ _ _ _ V0
  refine wpAnyH_ready (rs := [0]) (by kernel_rfl) (by simp) ?_
  refine AllReadyH.cons (o := { dst := some 32, op := Op.call { callee := Callee.value (Operand.func 9), args := #[], argTypes := #[] }, type := 4, pos := "law.go:48", after := #[], guard := none }) rfl (fun K hK => ?_) AllReadyH.nil
  go_simp
  go_at_call 9; refine (HAl.out _ V0.bel).mono ?_; rintro e wa0 ⟨rfl, hb⟩; have V_0 := V0.below hb; clear V0 hb
  refine hK.out _ _ ?_ (fun hHeld => ?_)
  · exact HS.out _ _ _ _ ‹_›
  clear hK K
  try simp only [Act.put, List.setIfInBounds_toArray, List.set_cons_zero, List.set_cons_succ]
  refine wpAnyH_take (i := 1) (oi := { dst := some 33, op := Op.move (Operand.tmp 32), type := 4, pos := "law.go:48", after := #[{ on := 0, ground := Ground.data }, { on := 0, ground := Ground.chain }], guard := none }) (v := ?_) rfl (by kernel_rfl) (by kernel_rfl) (by kernel_rfl) (fun _ _ _ h => h) (Or.inl ⟨by rfl, ?_⟩) (by assumption) ?_
  rotate_left
  · intro w hSw; (try dsimp only at hSw); go_simp; (try with_reducible rfl)
  try simp only [Act.put, List.setIfInBounds_toArray, List.set_cons_zero, List.set_cons_succ]
  refine wpAnyH_take (i := 2) (oi := { dst := some 34, op := Op.move (Operand.tmp 10), type := 29, pos := "law.go:48", after := #[{ on := 1, ground := Ground.guard }], guard := some (1, true) }) (v := ?_) rfl (by kernel_rfl) (by kernel_rfl) (by kernel_rfl) (fun _ _ _ h => h) (Or.inl ⟨by rfl, ?_⟩) (by assumption) ?_
  rotate_left
  · intro w hSw; (try dsimp only at hSw); go_simp; (try with_reducible rfl)
  try simp only [Act.put, List.setIfInBounds_toArray, List.set_cons_zero, List.set_cons_succ]
  refine wpAnyH_take (i := 3) (oi := { dst := some 35, op := Op.binOp BinOp.eql 29 (Operand.tmp 34) (Operand.const (Value.int IntKind.i64 0)) 29, type := 4, pos := "law.go:48", after := #[{ on := 2, ground := Ground.data }, { on := 1, ground := Ground.guard }], guard := some (1, true) }) (v := ?_) rfl (by kernel_rfl) (by kernel_rfl) (by kernel_rfl) (fun _ _ _ h => h) (Or.inl ⟨by rfl, ?_⟩) (by assumption) ?_
  rotate_left
  · intro w hSw; (try dsimp only at hSw); go_simp; (try with_reducible rfl)
  try simp only [Act.put, List.setIfInBounds_toArray, List.set_cons_zero, List.set_cons_succ]
  refine wpAnyH_take (i := 4) (oi := { dst := some 36, op := Op.pick (Operand.tmp 33) (Operand.tmp 35) (Operand.const (Value.bool false)), type := 4, pos := "law.go:48", after := #[{ on := 1, ground := Ground.data }, { on := 3, ground := Ground.data }], guard := none }) (v := ?_) rfl (by kernel_rfl) (by kernel_rfl) (by kernel_rfl) (fun _ _ _ h => h) (Or.inl ⟨by rfl, ?_⟩) (by assumption) ?_
  rotate_left
  · intro w hSw; (try dsimp only at hSw); go_simp; (try with_reducible rfl)
  try simp only [Act.put, List.setIfInBounds_toArray, List.set_cons_zero, List.set_cons_succ]
  refine wpAnyH_take (i := 5) (oi := { dst := some 37, op := Op.move (Operand.tmp 36), type := 4, pos := "law.go:48", after := #[{ on := 4, ground := Ground.data }, { on := 1, ground := Ground.chain }], guard := none }) (v := ?_) rfl (by kernel_rfl) (by kernel_rfl) (by kernel_rfl) (fun _ _ _ h => h) (Or.inl ⟨by rfl, ?_⟩) (by assumption) ?_
  rotate_left
  · intro w hSw; (try dsimp only at hSw); go_simp; (try with_reducible rfl)
  try simp only [Act.put, List.setIfInBounds_toArray, List.set_cons_zero, List.set_cons_succ]
  refine wpAnyH_take (i := 6) (oi := { dst := some 38, op := Op.load 28 (Operand.tmp 9), type := 28, pos := "law.go:48", after := #[{ on := 5, ground := Ground.guard }], guard := some (5, true) }) (v := ?_) rfl (by kernel_rfl) (by kernel_rfl) (by kernel_rfl) (fun _ _ _ h => h) (Or.inl ⟨by rfl, ?_⟩) (by assumption) ?_
  rotate_left
  · intro w hSw; (try dsimp only at hSw); go_simp; (try with_reducible rfl)
  try simp only [Act.put, List.setIfInBounds_toArray, List.set_cons_zero, List.set_cons_succ]
  refine wpAnyH_take (i := 7) (oi := { dst := some 39, op := Op.move (Operand.tmp 0), type := 4, pos := "law.go:48", after := #[{ on := 5, ground := Ground.guard }], guard := some (5, true) }) (v := ?_) rfl (by kernel_rfl) (by kernel_rfl) (by kernel_rfl) (fun _ _ _ h => h) (Or.inl ⟨by rfl, ?_⟩) (by assumption) ?_
  rotate_left
  · intro w hSw; (try dsimp only at hSw); go_simp; (try with_reducible rfl)
  try simp only [Act.put, List.setIfInBounds_toArray, List.set_cons_zero, List.set_cons_succ]
  refine wpAnyH_take (i := 8) (oi := { dst := some 40, op := Op.move (Operand.tmp 1), type := 22, pos := "law.go:48", after := #[{ on := 5, ground := Ground.guard }], guard := some (5, true) }) (v := ?_) rfl (by kernel_rfl) (by kernel_rfl) (by kernel_rfl) (fun _ _ _ h => h) (Or.inl ⟨by rfl, ?_⟩) (by assumption) ?_
  rotate_left
  · intro w hSw; (try dsimp only at hSw); go_simp; (try with_reducible rfl)
  try simp only [Act.put, List.setIfInBounds_toArray, List.set_cons_zero, List.set_cons_succ]
  refine wpAnyH_take (i := 10) (oi := { dst := some 42, op := Op.move (Operand.tmp 2), type := 22, pos := "law.go:48", after := #[{ on := 5, ground := Ground.guard }], guard := some (5, true) }) (v := ?_) rfl (by kernel_rfl) (by kernel_rfl) (by kernel_rfl) (fun _ _ _ h => h) (Or.inl ⟨by rfl, ?_⟩) (by assumption) ?_
  rotate_left
  · intro w hSw; (try dsimp only at hSw); go_simp; (try with_reducible rfl)
  try simp only [Act.put, List.setIfInBounds_toArray, List.set_cons_zero, List.set_cons_succ]
  refine wpAnyH_ready (rs := [9]) (by kernel_rfl) (by simp) ?_
  refine AllReadyH.cons (o := { dst := some 41, op := Op.call { callee := Callee.value (Operand.func 32), args := #[Operand.tmp 40], argTypes := #[22] }, type := 48, pos := "law.go:48", after := #[{ on := 8, ground := Ground.data }, { on := 5, ground := Ground.chain }, { on := 5, ground := Ground.guard }], guard := some (5, true) }) rfl (fun K hK => ?_) AllReadyH.nil
  go_simp
  go_at_call 32; refine (HRn.out _).mono ?_; rintro e wa9 ⟨v9, rfl, i9, hb⟩; have V9 := (V_0.below hb).cons i9 NB1.out; clear V_0 i9 hb
  refine hK.out _ _ ?_ (fun hHeld => ?_)
  · exact HS.out _ _ _ _ ‹_›
  clear hK K
  try simp only [Act.put, List.setIfInBounds_toArray, List.set_cons_zero, List.set_cons_succ]
  refine wpAnyH_ready (rs := [11]) (by kernel_rfl) (by simp) ?_
  refine AllReadyH.cons (o := { dst := some 43, op := Op.call { callee := Callee.value (Operand.func 32), args := #[Operand.tmp 42], argTypes := #[22] }, type := 48, pos := "law.go:48", after := #[{ on := 10, ground := Ground.data }, { on := 9, ground := Ground.chain }, { on := 5, ground := Ground.guard }], guard := some (5, true) }) rfl (fun K hK => ?_) AllReadyH.nil
  go_simp
  go_at_call 32; refine (HRd.out _).mono ?_; rintro e wa11 ⟨v11, rfl, i11, hb⟩; have V11 := (V9.below hb).cons i11 NB2.out; clear V9 i11 hb
  refine hK.out _ _ ?_ (fun hHeld => ?_)
  · exact HS.out _ _ _ _ ‹_›
  clear hK K
  try simp only [Act.put, List.setIfInBounds_toArray, List.set_cons_zero, List.set_cons_succ]
  refine wpAnyH_ready (rs := [12]) (by kernel_rfl) (by simp) ?_
  refine AllReadyH.cons (o := { dst := some 44, op := Op.call { callee := Callee.value (Operand.func 31), args := #[Operand.tmp 39, Operand.tmp 41, Operand.tmp 43], argTypes := #[4, 48, 48] }, type := 50, pos := "law.go:48", after := #[{ on := 7, ground := Ground.data }, { on := 9, ground := Ground.data }, { on := 11, ground := Ground.data }, { on := 11, ground := Ground.chain }, { on := 5, ground := Ground.guard }], guard := some (5, true) }) rfl (fun K hK => ?_) AllReadyH.nil
  go_simp
  go_at_call 31; refine (HRm.out _ _ _ (V11.num 1 _ _ rfl).1 (V11.num 0 _ _ rfl).1).mono ?_; rintro e wa12 ⟨v12, rfl, i12, hb⟩; have V12 := (V11.below hb).qcons i12; clear V11 i12 hb
  refine hK.out _ _ ?_ (fun hHeld => ?_)
  · exact HS.out _ _ _ _ ‹_›
  clear hK K
  try simp only [Act.put, List.setIfInBounds_toArray, List.set_cons_zero, List.set_cons_succ]
  refine wpAnyH_ready (rs := [13]) (by kernel_rfl) (by simp) ?_
  refine AllReadyH.cons (o := { dst := some 45, op := Op.call { callee := Callee.value (Operand.func 30), args := #[Operand.tmp 38, Operand.tmp 44], argTypes := #[28, 50] }, type := 4, pos := "law.go:48", after := #[{ on := 6, ground := Ground.data }, { on := 12, ground := Ground.data }, { on := 12, ground := Ground.chain }, { on := 5, ground := Ground.guard }], guard := some (5, true) }) rfl (fun K hK => ?_) AllReadyH.nil
  go_simp
  go_at_call 30; refine (HSm.out _ _ _ V12.bel (V12.rat 0 _ _ rfl) (V12.ref 0 _ _ rfl)).mono ?_; rintro e wa13 ⟨rfl, hb⟩; have V13 := V12.below hb; clear V12 hb
  refine hK.out _ _ ?_ (fun hHeld => ?_)
  · exact HS.out _ _ _ _ ‹_›
  clear hK K
  try simp only [Act.put, List.setIfInBounds_toArray, List.set_cons_zero, List.set_cons_succ]
  refine wpAnyH_take (i := 14) (oi := { dst := some 46, op := Op.pick (Operand.tmp 37) (Operand.tmp 45) (Operand.const (Value.bool false)), type := 4, pos := "law.go:48", after := #[{ on := 5, ground := Ground.data }, { on := 13, ground := Ground.data }], guard := none }) (v := ?_) rfl (by kernel_rfl) (by kernel_rfl) (by kernel_rfl) (fun _ _ _ h => h) (Or.inl ⟨by rfl, ?_⟩) (by assumption) ?_
  rotate_left
  · intro w hSw; (try dsimp only at hSw); go_simp; (try with_reducible rfl)
  try simp only [Act.put, List.setIfInBounds_toArray, List.set_cons_zero, List.set_cons_succ]
  refine wpAnyH_take (i := 15) (oi := { dst := some 47, op := Op.move (Operand.tmp 46), type := 4, pos := "law.go:48", after := #[{ on := 14, ground := Ground.data }, { on := 13, ground := Ground.chain }], guard := none }) (v := ?_) rfl (by kernel_rfl) (by kernel_rfl) (by kernel_rfl) (fun _ _ _ h => h) (Or.inl ⟨by rfl, ?_⟩) (by assumption) ?_
  rotate_left
  · intro w hSw; (try dsimp only at hSw); go_simp; (try with_reducible rfl)
  try simp only [Act.put, List.setIfInBounds_toArray, List.set_cons_zero, List.set_cons_succ]
  refine wpAnyH_take (i := 16) (oi := { dst := some 48, op := Op.move (Operand.tmp 3), type := 3, pos := "law.go:48", after := #[{ on := 15, ground := Ground.guard }], guard := some (15, true) }) (v := ?_) rfl (by kernel_rfl) (by kernel_rfl) (by kernel_rfl) (fun _ _ _ h => h) (Or.inl ⟨by rfl, ?_⟩) (by assumption) ?_
  rotate_left
  · intro w hSw; (try dsimp only at hSw); go_simp; (try with_reducible rfl)
  try simp only [Act.put, List.setIfInBounds_toArray, List.set_cons_zero, List.set_cons_succ]
  refine wpAnyH_take (i := 18) (oi := { dst := some 50, op := Op.move (Operand.tmp 3), type := 3, pos := "law.go:48", after := #[{ on := 15, ground := Ground.guard }], guard := some (15, true) }) (v := ?_) rfl (by kernel_rfl) (by kernel_rfl) (by kernel_rfl) (fun _ _ _ h => h) (Or.inl ⟨by rfl, ?_⟩) (by assumption) ?_
  rotate_left
  · intro w hSw; (try dsimp only at hSw); go_simp; (try with_reducible rfl)
  try simp only [Act.put, List.setIfInBounds_toArray, List.set_cons_zero, List.set_cons_succ]
  refine wpAnyH_ready (rs := [17]) (by kernel_rfl) (by simp) ?_
  refine AllReadyH.cons (o := { dst := some 49, op := Op.call { callee := Callee.value (Operand.func 29), args := #[Operand.tmp 48], argTypes := #[3] }, type := 28, pos := "law.go:48", after := #[{ on := 16, ground := Ground.data }, { on := 15, ground := Ground.chain }, { on := 15, ground := Ground.guard }], guard := some (15, true) }) rfl (fun K hK => ?_) AllReadyH.nil
  go_simp
  go_at_call 29; refine (HVo.out _).mono ?_; rintro e wa17 ⟨v17, rfl, i17, hb⟩; have V17 := (V13.below hb).rcons i17; clear V13 i17 hb
  refine hK.out _ _ ?_ (fun hHeld => ?_)
  · exact HS.out _ _ _ _ ‹_›
  clear hK K
  try simp only [Act.put, List.setIfInBounds_toArray, List.set_cons_zero, List.set_cons_succ]
  refine wpAnyH_ready (rs := [19]) (by kernel_rfl) (by simp) ?_
  refine AllReadyH.cons (o := { dst := some 51, op := Op.call { callee := Callee.value (Operand.func 33), args := #[Operand.tmp 50], argTypes := #[3] }, type := 50, pos := "law.go:48", after := #[{ on := 18, ground := Ground.data }, { on := 17, ground := Ground.chain }, { on := 15, ground := Ground.guard }], guard := some (15, true) }) rfl (fun K hK => ?_) AllReadyH.nil
  go_simp
  go_at_call 33; refine (HVi.out _).mono ?_; rintro e wa19 ⟨v19, rfl, i19, hb⟩; have V19 := (V17.below hb).qcons i19; clear V17 i19 hb
  refine hK.out _ _ ?_ (fun hHeld => ?_)
  · exact HS.out _ _ _ _ ‹_›
  clear hK K
  try simp only [Act.put, List.setIfInBounds_toArray, List.set_cons_zero, List.set_cons_succ]
  refine wpAnyH_ready (rs := [20]) (by kernel_rfl) (by simp) ?_
  refine AllReadyH.cons (o := { dst := some 52, op := Op.call { callee := Callee.value (Operand.func 30), args := #[Operand.tmp 49, Operand.tmp 51], argTypes := #[28, 50] }, type := 4, pos := "law.go:48", after := #[{ on := 17, ground := Ground.data }, { on := 19, ground := Ground.data }, { on := 19, ground := Ground.chain }, { on := 15, ground := Ground.guard }], guard := some (15, true) }) rfl (fun K hK => ?_) AllReadyH.nil
  go_simp
  go_at_call 30; refine (HSv.out _ _ _ V19.bel (V19.rat 0 _ _ rfl) (V19.ref 0 _ _ rfl)).mono ?_; rintro e wa20 ⟨rfl, hb⟩; have V20 := V19.below hb; clear V19 hb
  refine hK.out _ _ ?_ (fun hHeld => ?_)
  · exact HS.out _ _ _ _ ‹_›
  clear hK K
  try simp only [Act.put, List.setIfInBounds_toArray, List.set_cons_zero, List.set_cons_succ]
  refine wpAnyH_take (i := 21) (oi := { dst := some 53, op := Op.pick (Operand.tmp 47) (Operand.tmp 52) (Operand.const (Value.bool false)), type := 4, pos := "law.go:48", after := #[{ on := 15, ground := Ground.data }, { on := 20, ground := Ground.data }], guard := none }) (v := ?_) rfl (by kernel_rfl) (by kernel_rfl) (by kernel_rfl) (fun _ _ _ h => h) (Or.inl ⟨by rfl, ?_⟩) (by assumption) ?_
  rotate_left
  · intro w hSw; (try dsimp only at hSw); go_simp; (try with_reducible rfl)
  try simp only [Act.put, List.setIfInBounds_toArray, List.set_cons_zero, List.set_cons_succ]
  refine wpAnyH_take (i := 22) (oi := { dst := some 8, op := Op.assign (Operand.tmp 53), type := 4, pos := "law.go:48", after := #[{ on := 21, ground := Ground.data }, { on := 20, ground := Ground.chain }, { on := 0, ground := Ground.phase }, { on := 1, ground := Ground.phase }, { on := 2, ground := Ground.phase }, { on := 3, ground := Ground.phase }, { on := 4, ground := Ground.phase }, { on := 5, ground := Ground.phase }, { on := 6, ground := Ground.phase }, { on := 7, ground := Ground.phase }, { on := 8, ground := Ground.phase }, { on := 9, ground := Ground.phase }, { on := 10, ground := Ground.phase }, { on := 11, ground := Ground.phase }, { on := 12, ground := Ground.phase }, { on := 13, ground := Ground.phase }, { on := 14, ground := Ground.phase }, { on := 15, ground := Ground.phase }, { on := 16, ground := Ground.phase }, { on := 17, ground := Ground.phase }, { on := 18, ground := Ground.phase }, { on := 19, ground := Ground.phase }, { on := 20, ground := Ground.phase }, { on := 21, ground := Ground.phase }], guard := none }) (v := ?_) rfl (by kernel_rfl) (by kernel_rfl) (by kernel_rfl) (fun _ _ _ h => h) (Or.inl ⟨by rfl, ?_⟩) (by assumption) ?_
  rotate_left
  · intro w hSw; (try dsimp only at hSw); go_simp; (try with_reducible rfl)
  try simp only [Act.put, List.setIfInBounds_toArray, List.set_cons_zero, List.set_cons_succ]
  refine wpAnyH_done (by kernel_rfl) ?_ _
  have HB := Lib.hid V20.bel
  clear V20
  go_wp2_with fail
  go_ret
  exact ⟨rfl, HB.out⟩
theorem wf_um {a : Int} (h : (Lit.int .u64 a).wf = true) : 0 ≤ a ∧ a < 18446744073709551616 := by
  simp [Lit.wf, IntKind.min, IntKind.max, IntKind.bits, IntKind.signed] at h; omega
theorem wf_im {a : Int} (h : (Lit.int .i64 a).wf = true) : -9223372036854775808 ≤ a ∧ a ≤ 9223372036854775807 := by
  simp [Lit.wf, IntKind.min, IntKind.max, IntKind.bits, IntKind.signed] at h; omega
theorem ratMakes.walk (a0 : Bool) (a1 a2 a3 : Int) (w1 : (Lit.int .u64 a1).wf = true) (w2 : (Lit.int .u64 a2).wf = true) (w3 : (Lit.int .i64 a3).wf = true) (w : World) (htab : Tab w) (htb : TabB w) :
    Calls Tryz.prog 6 #[.bool a0, .int .u64 a1, .int .u64 a2, .int .i64 a3] w fun e w' => e = .returned (.bool true) ∧ Below w.heap.size w w' := by
  have b1 := wf_um w1
  have b2 := wf_um w2
  have b3 := wf_im w3
  obtain ⟨N, rfl⟩ : ∃ N : Nat, a1 = N := ⟨a1.toNat, by omega⟩
  obtain ⟨D, rfl⟩ : ∃ D : Nat, a2 = D := ⟨a2.toNat, by omega⟩
  by_cases h : D = 0
  · subst h
    exact ratMakes.over0 a0 N a3 w htab htb (by omega)
  · exact ratMakes.overN a0 N D a3 w htab htb (by omega) (by omega) h b3.1 (by omega)
end Go.Proofs.YtllmacokhjmdgaaGreatDoor
