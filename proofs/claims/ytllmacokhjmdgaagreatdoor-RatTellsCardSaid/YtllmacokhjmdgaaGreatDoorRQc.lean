/-
 Law 2: the document's own fractions: RatMul, RatDiv.
-/
import Derived.Test.YtllmacokhjmdgaaGreatDoorRQb
import Derived.Test.YtllmacokhjmdgaaGreatDoorRQn
namespace Go.Proofs.YtllmacokhjmdgaaGreatDoor
open Go.RowKit
set_option linter.unusedVariables false
theorem cell_set3 {W : World} {b b' i : Nat} (hne : b' ≠ b) {y0 y1 y2 : Value} : World.cell? (set3 W b y0 y1 y2) ⟨b', i, none⟩ = W.cell? ⟨b', i, none⟩ := by
 have h : ∀ j : Nat, (⟨b', i, none⟩ : Addr) ≠ ⟨b, j, none⟩ := fun j e => by injection e with e1; exact hne e1
 show (((W.setCell ⟨b, 0, none⟩ y0).setCell ⟨b, 1, none⟩ y1).setCell ⟨b, 2, none⟩ y2).cell? _ = _
 rw [World.cell?_setCell_other _ _ _ _ (h 2).symm, World.cell?_setCell_other _ _ _ _ (h 1).symm, World.cell?_setCell_other _ _ _ _ (h 0).symm]
set_option maxRecDepth 100000 in
set_option maxHeartbeats 8000000 in
theorem rratmul_any (x y : Rat) (va vb : Value) (w : World) (ha : RQ w va x) (hb : RQ w vb y) (hx : SzD 100 x) (hy : SzD 100 y) :
 Calls Tryz.prog 40 #[va, vb] w (GaveQ (x * y) w) := by
 obtain ⟨p, n, c, p', n', c', rfl, h1, h2⟩ := ha
 obtain ⟨q, m, d, q', m', d', rfl, k1, k2⟩ := hb
 have hmk : x * y = mkRat (sgn (!(decide (x.num < 0) == decide (y.num < 0))) (x.num.natAbs * y.num.natAbs)) (x.den * y.den) := mul_mk x y
 obtain ⟨xd, hxd⟩ : ∃ D, x.den = D := ⟨_, rfl⟩
 obtain ⟨yd, hyd⟩ : ∃ D, y.den = D := ⟨_, rfl⟩
 obtain ⟨xn, hxn⟩ : ∃ D, x.num.natAbs = D := ⟨_, rfl⟩
 obtain ⟨yn, hyn⟩ : ∃ D, y.num.natAbs = D := ⟨_, rfl⟩
 obtain ⟨zs, hz⟩ : ∃ z, decide (x.num < 0) = z := ⟨_, rfl⟩
 obtain ⟨us, hu⟩ : ∃ u, decide (y.num < 0) = u := ⟨_, rfl⟩
 have hxd0 := x.den_pos; have hyd0 := y.den_pos
 have hx1 := hx.1; have hx2 := hx.2; have hy1 := hy.1; have hy2 := hy.2
 simp only [hxd, hyd, hxn, hyn, hz, hu] at h1 h2 k1 k2 hxd0 hyd0 hx1 hx2 hy1 hy2 hmk ⊢
 obtain ⟨X, hX⟩ : ∃ X, x * y = X := ⟨_, rfl⟩
 rw [hX] at hmk ⊢
 obtain ⟨NN, hNN⟩ : ∃ N, xn * yn = N := ⟨_, rfl⟩
 obtain ⟨DD, hDD⟩ : ∃ N, xd * yd = N := ⟨_, rfl⟩
 have hN9 : NN < 10000 ^ 900 := by rw [← hNN]; exact pow_up (100 + 100) 900 (d_mul hx1 hy1) (by omega)
 have hD9 : DD < 10000 ^ 900 := by rw [← hDD]; exact pow_up (100 + 100) 900 (d_mul hx2 hy2) (by omega)
 have hD0 : 0 < DD := by rw [← hDD]; exact Nat.mul_pos hxd0 hyd0
 rw [hNN, hDD] at hmk
 have HM : Hid (∀ W va vb, RN W va NN → RN W vb DD → Calls Tryz.prog 31 #[.bool (!(zs == us)), va, vb] W (GaveQ X W)) := Lib.hid (fun W va vb h1 h2 => rmake_any X _ NN DD va vb W h1 h2 hN9 hD9 hD0 hmk)
 have HN9 := Lib.hid (And.intro hNN hN9); have HD9 := Lib.hid (And.intro hDD hD9)
 have V0 := (((((Dq.refl w).cons k2 (pow_up 100 900 hy2 (by omega))).cons k1 (pow_up 100 900 hy1 (by omega))).cons h2 (pow_up 100 900 hx2 (by omega))).cons h1 (pow_up 100 900 hx1 (by omega))).three 50 50 50 #[.bool zs, .slice p n c, .slice p' n' c'] #[.bool us, .slice q m d, .slice q' m' d'] #[.bool false, .slice none 0 0, .slice none 0 0]
 obtain ⟨bX, hbX⟩ : ∃ b, w.heap.size = b := ⟨_, rfl⟩
 obtain ⟨bY, hbY⟩ : ∃ b, bX + 1 = b := ⟨_, rfl⟩
 obtain ⟨bR, hbR⟩ : ∃ b, bY + 1 = b := ⟨_, rfl⟩
 obtain ⟨W0, hW0⟩ : ∃ W0, ((w.alloc (.cells #[.bool zs, .slice p n c, .slice p' n' c'] 50)).alloc (.cells #[.bool us, .slice q m d, .slice q' m' d'] 50)).alloc (.cells #[.bool false, .slice none 0 0, .slice none 0 0] 50) = W0 := ⟨_, rfl⟩
 have hXR : bX ≠ bR := by omega
 have hYR : bY ≠ bR := by omega
 rw [hW0] at V0
 simp only [hbX, hbY, hbR] at V0
 have HW0 := Lib.hid hW0; have HbX := Lib.hid hbX; have HbY := Lib.hid hbY; have HbR := Lib.hid hbR
 have HS : Hid (∀ z l q_ r_ W, Dq w [(bR, 50, z), (bY, 50, #[.bool us, .slice q m d, .slice q' m' d']), (bX, 50, #[.bool zs, .slice p n c, .slice p' n' c'])] l q_ r_ W → W.cell? ⟨bX, 0, none⟩ = some (.bool zs) ∧ W.cell? ⟨bX, 1, none⟩ = some (.slice p n c) ∧ W.cell? ⟨bX, 2, none⟩ = some (.slice p' n' c') ∧ W.cell? ⟨bY, 0, none⟩ = some (.bool us) ∧ W.cell? ⟨bY, 1, none⟩ = some (.slice q m d) ∧ W.cell? ⟨bY, 2, none⟩ = some (.slice q' m' d')) := Lib.hid (fun z l q_ r_ W h => ⟨h.c0 2 rfl, h.c1 2 rfl, h.c2 2 rfl, h.c0 1 rfl, h.c1 1 rfl, h.c2 1 rfl⟩)
 have HSet : Hid (∀ W y0 y1 y2, (W.cell? ⟨bX, 0, none⟩ = some (.bool zs) ∧ W.cell? ⟨bX, 1, none⟩ = some (.slice p n c) ∧ W.cell? ⟨bX, 2, none⟩ = some (.slice p' n' c') ∧ W.cell? ⟨bY, 0, none⟩ = some (.bool us) ∧ W.cell? ⟨bY, 1, none⟩ = some (.slice q m d) ∧ W.cell? ⟨bY, 2, none⟩ = some (.slice q' m' d')) → (World.cell? (set3 W bR y0 y1 y2) ⟨bX, 0, none⟩ = some (.bool zs) ∧ World.cell? (set3 W bR y0 y1 y2) ⟨bX, 1, none⟩ = some (.slice p n c) ∧ World.cell? (set3 W bR y0 y1 y2) ⟨bX, 2, none⟩ = some (.slice p' n' c') ∧ World.cell? (set3 W bR y0 y1 y2) ⟨bY, 0, none⟩ = some (.bool us) ∧ World.cell? (set3 W bR y0 y1 y2) ⟨bY, 1, none⟩ = some (.slice q m d) ∧ World.cell? (set3 W bR y0 y1 y2) ⟨bY, 2, none⟩ = some (.slice q' m' d'))) := Lib.hid (fun W y0 y1 y2 h => by rw [cell_set3 hXR, cell_set3 hXR, cell_set3 hXR, cell_set3 hYR, cell_set3 hYR, cell_set3 hYR]; exact h)
 clear h1 h2 k1 k2 hx hy hx1 hx2 hy1 hy2 hxd hyd hxn hyn hz hu hX hmk hNN hDD hN9 hD9 hD0 hxd0 hyd0 hW0 hbX hbY hbR hXR hYR
 go_enter Tryz.func40, Tryz.ntmps40
 go_wp2_with fail
 simp only [HbX.out, HbY.out, HbR.out, HW0.out]
 have V0d := V0.drew
 clear V0
 refine wp_region_held_drew (S := (fun w' => w'.cell? ⟨bX, 0, none⟩ = some (.bool zs) ∧ w'.cell? ⟨bX, 1, none⟩ = some (.slice p n c) ∧ w'.cell? ⟨bX, 2, none⟩ = some (.slice p' n' c') ∧ w'.cell? ⟨bY, 0, none⟩ = some (.bool us) ∧ w'.cell? ⟨bY, 1, none⟩ = some (.slice q m d) ∧ w'.cell? ⟨bY, 2, none⟩ = some (.slice q' m' d'))) (by kernel_rfl) ?_ (fun hHeld => ?_)
 · exact HS.out _ _ _ _ _ V0d
 refine tkH (i := 0) (v := ?_) rfl (by kernel_rfl) (fun _ _ _ h => h) (Or.inl ⟨by rfl, ?_⟩) (by assumption) ?_
 rotate_left
 · intro w hSw; (try dsimp only at hSw); go_simp; (try with_reducible rfl)
 try simp only [las]
 refine tkH (i := 1) (v := ?_) rfl (by kernel_rfl) (fun _ _ _ h => h) (Or.inl ⟨by rfl, ?_⟩) (by assumption) ?_
 rotate_left
 · intro w hSw; (try dsimp only at hSw); go_simp; (try with_reducible rfl)
 try simp only [las]
 refine tkH (i := 2) (v := ?_) rfl (by kernel_rfl) (fun _ _ _ h => h) (Or.inl ⟨by rfl, ?_⟩) (by assumption) ?_
 rotate_left
 · intro w hSw; (try dsimp only at hSw); go_simp; (try with_reducible rfl)
 try simp only [las]
 refine tkH (i := 3) (v := ?_) rfl (by kernel_rfl) (fun _ _ _ h => h) (Or.inl ⟨by rfl, ?_⟩) (by assumption) ?_
 rotate_left
 · intro w hSw; (try dsimp only at hSw); go_simp; (try with_reducible rfl)
 try simp only [las]
 refine tkH (i := 4) (v := ?_) rfl (by kernel_rfl) (fun _ _ _ h => h) (Or.inl ⟨by rfl, ?_⟩) (by assumption) ?_
 rotate_left
 · intro w hSw; (try dsimp only at hSw); go_simp; (try with_reducible rfl)
 try simp only [las]
 refine tkH (i := 5) (v := ?_) rfl (by kernel_rfl) (fun _ _ _ h => h) (Or.inl ⟨by rfl, ?_⟩) (by assumption) ?_
 rotate_left
 · intro w hSw; (try dsimp only at hSw); go_simp; (try with_reducible rfl)
 try simp only [las]
 refine tkH (i := 6) (v := ?_) rfl (by kernel_rfl) (fun _ _ _ h => h) (Or.inl ⟨by rfl, ?_⟩) (by assumption) ?_
 rotate_left
 · intro w hSw; (try dsimp only at hSw); go_simp; (try with_reducible rfl)
 try simp only [las]
 refine tkH (i := 7) (v := ?_) rfl (by kernel_rfl) (fun _ _ _ h => h) (Or.inl ⟨by rfl, ?_⟩) (by assumption) ?_
 rotate_left
 · intro w hSw; (try dsimp only at hSw); go_simp; (try with_reducible rfl)
 try simp only [las]
 refine tkH (i := 8) (v := ?_) rfl (by kernel_rfl) (fun _ _ _ h => h) (Or.inl ⟨by rfl, ?_⟩) (by assumption) ?_
 rotate_left
 · intro w hSw; (try dsimp only at hSw); go_simp; (try with_reducible rfl)
 try simp only [las]
 refine tkH (i := 10) (v := ?_) rfl (by kernel_rfl) (fun _ _ _ h => h) (Or.inl ⟨by rfl, ?_⟩) (by assumption) ?_
 rotate_left
 · intro w hSw; (try dsimp only at hSw); go_simp; (try with_reducible rfl)
 try simp only [las]
 refine tkH (i := 11) (v := ?_) rfl (by kernel_rfl) (fun _ _ _ h => h) (Or.inl ⟨by rfl, ?_⟩) (by assumption) ?_
 rotate_left
 · intro w hSw; (try dsimp only at hSw); go_simp; (try with_reducible rfl)
 try simp only [las]
 refine tkH (i := 12) (v := ?_) rfl (by kernel_rfl) (fun _ _ _ h => h) (Or.inl ⟨by rfl, ?_⟩) (by assumption) ?_
 rotate_left
 · intro w hSw; (try dsimp only at hSw); go_simp; (try with_reducible rfl)
 try simp only [las]
 refine tkH (i := 13) (v := ?_) rfl (by kernel_rfl) (fun _ _ _ h => h) (Or.inl ⟨by rfl, ?_⟩) (by assumption) ?_
 rotate_left
 · intro w hSw; (try dsimp only at hSw); go_simp; (try with_reducible rfl)
 try simp only [las]
 refine wpAnyH_ready (rs := [9]) (by kernel_rfl) (by simp) ?_
 refine AllReadyH.cons (o := _) rfl (fun K hK => ?_) AllReadyH.nil
 go_simp
 go_at_call 81; refine (V0d.mul 0 2 rfl rfl HN9.out).mono ?_; rintro e wa9 ⟨a9, n9, c9, rfl, V9⟩; clear V0d
 refine hK.out _ _ ?_ (fun hHeld => ?_)
 · exact HS.out _ _ _ _ _ ‹_›
 clear hK K
 try simp only [las]
 refine wpAnyH_ready (rs := [14]) (by kernel_rfl) (by simp) ?_
 refine AllReadyH.cons (o := _) rfl (fun K hK => ?_) AllReadyH.nil
 go_simp
 go_at_call 81; refine (V9.mul 2 4 rfl rfl HD9.out).mono ?_; rintro e wa14 ⟨a14, n14, c14, rfl, V14⟩; clear V9
 refine hK.out _ _ ?_ (fun hHeld => ?_)
 · exact HS.out _ _ _ _ _ ‹_›
 clear hK K
 try simp only [las]
 refine wpAnyH_ready (rs := [15]) (by kernel_rfl) (by simp) ?_
 refine AllReadyH.cons (o := _) rfl (fun K hK => ?_) AllReadyH.nil
 go_simp
 go_at_call 31; refine (HM.out _ _ _ (V14.num 1 _ _ rfl).1 (V14.num 0 _ _ rfl).1).mono ?_; rintro e wa15 ⟨v15, rfl, hq, hb⟩; have V15 := (V14.below hb).qcons hq; obtain ⟨a5, n5, c5, a6, n6, c6, rfl, -, -⟩ := hq; obtain ⟨ys, hys⟩ : ∃ y, decide (X.num < 0) = y := ⟨_, rfl⟩; rw [hys] at V15 ⊢; clear V14 hys hb
 refine hK.out _ _ ?_ (fun hHeld => ?_)
 · exact HS.out _ _ _ _ _ ‹_›
 clear hK K
 try simp only [las]
 refine wpAnyH_ready (rs := [16]) (by kernel_rfl) (by simp) ?_
 refine AllReadyH.cons (o := _) rfl (fun K hK => ?_) AllReadyH.nil
 have HF := Lib.hid (V15.finq 0 0 rfl rfl)
 have r0 := V15.c0 0 rfl; have r1 := V15.c1 0 rfl; have r2 := V15.c2 0 rfl
 have f0 := V15.frozen 0 0 rfl; have f1 := V15.frozen 0 1 rfl; have f2 := V15.frozen 0 2 rfl
 have HS15 := Lib.hid (HS.out _ _ _ _ _ V15)
 clear V15
 go_wp2_with fail
 refine hK.out _ _ ?_ (fun hHeld => ?_)
 · exact HSet.out _ _ _ _ HS15.out
 clear hK K
 try simp only [las]
 refine wpAnyH_done (by kernel_rfl) ?_ _
 go_wp2_with fail
 exact bodyPost_ret (res_ref rfl _ _ _ _ _ _ _ _ _ _ rfl HF.out.1) rfl HF.out.2
set_option maxRecDepth 100000 in
set_option maxHeartbeats 8000000 in
theorem rratdiv_any (x y : Rat) (va vb : Value) (w : World) (ha : RQ w va x) (hb : RQ w vb y) (hx : SzD 100 x) (hy : SzD 100 y) (hy0 : y.num.natAbs ≠ 0) :
 Calls Tryz.prog 35 #[va, vb] w (GaveQ (x * y⁻¹) w) := by
 obtain ⟨p, n, c, p', n', c', rfl, h1, h2⟩ := ha
 obtain ⟨q, m, d, q', m', d', rfl, k1, k2⟩ := hb
 have hmk : x * y⁻¹ = mkRat (sgn (!(decide (x.num < 0) == decide (y.num < 0))) (x.num.natAbs * y.den)) (x.den * y.num.natAbs) := div_mk x y hy0
 obtain ⟨xd, hxd⟩ : ∃ D, x.den = D := ⟨_, rfl⟩
 obtain ⟨yd, hyd⟩ : ∃ D, y.den = D := ⟨_, rfl⟩
 obtain ⟨xn, hxn⟩ : ∃ D, x.num.natAbs = D := ⟨_, rfl⟩
 obtain ⟨yn, hyn⟩ : ∃ D, y.num.natAbs = D := ⟨_, rfl⟩
 obtain ⟨zs, hz⟩ : ∃ z, decide (x.num < 0) = z := ⟨_, rfl⟩
 obtain ⟨us, hu⟩ : ∃ u, decide (y.num < 0) = u := ⟨_, rfl⟩
 have hxd0 := x.den_pos; have hyd0 := y.den_pos
 have hx1 := hx.1; have hx2 := hx.2; have hy1 := hy.1; have hy2 := hy.2
 simp only [hxd, hyd, hxn, hyn, hz, hu] at h1 h2 k1 k2 hxd0 hyd0 hx1 hx2 hy1 hy2 hmk hy0 ⊢
 obtain ⟨X, hX⟩ : ∃ X, x * y⁻¹ = X := ⟨_, rfl⟩
 rw [hX] at hmk ⊢
 obtain ⟨NN, hNN⟩ : ∃ N, xn * yd = N := ⟨_, rfl⟩
 obtain ⟨DD, hDD⟩ : ∃ N, xd * yn = N := ⟨_, rfl⟩
 have hN9 : NN < 10000 ^ 900 := by rw [← hNN]; exact pow_up (100 + 100) 900 (d_mul hx1 hy2) (by omega)
 have hD9 : DD < 10000 ^ 900 := by rw [← hDD]; exact pow_up (100 + 100) 900 (d_mul hx2 hy1) (by omega)
 have hD0 : 0 < DD := by rw [← hDD]; exact Nat.mul_pos hxd0 (by omega)
 rw [hNN, hDD] at hmk
 have HM : Hid (∀ W va vb, RN W va NN → RN W vb DD → Calls Tryz.prog 31 #[.bool (!(zs == us)), va, vb] W (GaveQ X W)) := Lib.hid (fun W va vb h1 h2 => rmake_any X _ NN DD va vb W h1 h2 hN9 hD9 hD0 hmk)
 have HN9 := Lib.hid (And.intro hNN hN9); have HD9 := Lib.hid (And.intro hDD hD9)
 have V0 := (((((Dq.refl w).cons k2 (pow_up 100 900 hy2 (by omega))).cons k1 (pow_up 100 900 hy1 (by omega))).cons h2 (pow_up 100 900 hx2 (by omega))).cons h1 (pow_up 100 900 hx1 (by omega))).three 50 50 50 #[.bool zs, .slice p n c, .slice p' n' c'] #[.bool us, .slice q m d, .slice q' m' d'] #[.bool false, .slice none 0 0, .slice none 0 0]
 obtain ⟨bX, hbX⟩ : ∃ b, w.heap.size = b := ⟨_, rfl⟩
 obtain ⟨bY, hbY⟩ : ∃ b, bX + 1 = b := ⟨_, rfl⟩
 obtain ⟨bR, hbR⟩ : ∃ b, bY + 1 = b := ⟨_, rfl⟩
 obtain ⟨W0, hW0⟩ : ∃ W0, ((w.alloc (.cells #[.bool zs, .slice p n c, .slice p' n' c'] 50)).alloc (.cells #[.bool us, .slice q m d, .slice q' m' d'] 50)).alloc (.cells #[.bool false, .slice none 0 0, .slice none 0 0] 50) = W0 := ⟨_, rfl⟩
 have hXR : bX ≠ bR := by omega
 have hYR : bY ≠ bR := by omega
 rw [hW0] at V0
 simp only [hbX, hbY, hbR] at V0
 have HW0 := Lib.hid hW0; have HbX := Lib.hid hbX; have HbY := Lib.hid hbY; have HbR := Lib.hid hbR
 have HS : Hid (∀ z l q_ r_ W, Dq w [(bR, 50, z), (bY, 50, #[.bool us, .slice q m d, .slice q' m' d']), (bX, 50, #[.bool zs, .slice p n c, .slice p' n' c'])] l q_ r_ W → W.cell? ⟨bX, 0, none⟩ = some (.bool zs) ∧ W.cell? ⟨bX, 1, none⟩ = some (.slice p n c) ∧ W.cell? ⟨bX, 2, none⟩ = some (.slice p' n' c') ∧ W.cell? ⟨bY, 0, none⟩ = some (.bool us) ∧ W.cell? ⟨bY, 1, none⟩ = some (.slice q m d) ∧ W.cell? ⟨bY, 2, none⟩ = some (.slice q' m' d')) := Lib.hid (fun z l q_ r_ W h => ⟨h.c0 2 rfl, h.c1 2 rfl, h.c2 2 rfl, h.c0 1 rfl, h.c1 1 rfl, h.c2 1 rfl⟩)
 have HSet : Hid (∀ W y0 y1 y2, (W.cell? ⟨bX, 0, none⟩ = some (.bool zs) ∧ W.cell? ⟨bX, 1, none⟩ = some (.slice p n c) ∧ W.cell? ⟨bX, 2, none⟩ = some (.slice p' n' c') ∧ W.cell? ⟨bY, 0, none⟩ = some (.bool us) ∧ W.cell? ⟨bY, 1, none⟩ = some (.slice q m d) ∧ W.cell? ⟨bY, 2, none⟩ = some (.slice q' m' d')) → (World.cell? (set3 W bR y0 y1 y2) ⟨bX, 0, none⟩ = some (.bool zs) ∧ World.cell? (set3 W bR y0 y1 y2) ⟨bX, 1, none⟩ = some (.slice p n c) ∧ World.cell? (set3 W bR y0 y1 y2) ⟨bX, 2, none⟩ = some (.slice p' n' c') ∧ World.cell? (set3 W bR y0 y1 y2) ⟨bY, 0, none⟩ = some (.bool us) ∧ World.cell? (set3 W bR y0 y1 y2) ⟨bY, 1, none⟩ = some (.slice q m d) ∧ World.cell? (set3 W bR y0 y1 y2) ⟨bY, 2, none⟩ = some (.slice q' m' d'))) := Lib.hid (fun W y0 y1 y2 h => by rw [cell_set3 hXR, cell_set3 hXR, cell_set3 hXR, cell_set3 hYR, cell_set3 hYR, cell_set3 hYR]; exact h)
 clear h1 h2 k1 k2 hx hy hx1 hx2 hy1 hy2 hxd hyd hxn hyn hz hu hX hmk hNN hDD hN9 hD9 hD0 hxd0 hyd0 hW0 hbX hbY hbR hXR hYR hy0
 go_enter Tryz.func35, Tryz.ntmps35
 go_wp2_with fail
 simp only [HbX.out, HbY.out, HbR.out, HW0.out]
 have V0d := V0.drew
 clear V0
 refine wp_region_held_drew (S := (fun w' => w'.cell? ⟨bX, 0, none⟩ = some (.bool zs) ∧ w'.cell? ⟨bX, 1, none⟩ = some (.slice p n c) ∧ w'.cell? ⟨bX, 2, none⟩ = some (.slice p' n' c') ∧ w'.cell? ⟨bY, 0, none⟩ = some (.bool us) ∧ w'.cell? ⟨bY, 1, none⟩ = some (.slice q m d) ∧ w'.cell? ⟨bY, 2, none⟩ = some (.slice q' m' d'))) (by kernel_rfl) ?_ (fun hHeld => ?_)
 · exact HS.out _ _ _ _ _ V0d
 refine tkH (i := 0) (v := ?_) rfl (by kernel_rfl) (fun _ _ _ h => h) (Or.inl ⟨by rfl, ?_⟩) (by assumption) ?_
 rotate_left
 · intro w hSw; (try dsimp only at hSw); go_simp; (try with_reducible rfl)
 try simp only [las]
 refine tkH (i := 1) (v := ?_) rfl (by kernel_rfl) (fun _ _ _ h => h) (Or.inl ⟨by rfl, ?_⟩) (by assumption) ?_
 rotate_left
 · intro w hSw; (try dsimp only at hSw); go_simp; (try with_reducible rfl)
 try simp only [las]
 refine tkH (i := 2) (v := ?_) rfl (by kernel_rfl) (fun _ _ _ h => h) (Or.inl ⟨by rfl, ?_⟩) (by assumption) ?_
 rotate_left
 · intro w hSw; (try dsimp only at hSw); go_simp; (try with_reducible rfl)
 try simp only [las]
 refine tkH (i := 3) (v := ?_) rfl (by kernel_rfl) (fun _ _ _ h => h) (Or.inl ⟨by rfl, ?_⟩) (by assumption) ?_
 rotate_left
 · intro w hSw; (try dsimp only at hSw); go_simp; (try with_reducible rfl)
 try simp only [las]
 refine tkH (i := 4) (v := ?_) rfl (by kernel_rfl) (fun _ _ _ h => h) (Or.inl ⟨by rfl, ?_⟩) (by assumption) ?_
 rotate_left
 · intro w hSw; (try dsimp only at hSw); go_simp; (try with_reducible rfl)
 try simp only [las]
 refine tkH (i := 5) (v := ?_) rfl (by kernel_rfl) (fun _ _ _ h => h) (Or.inl ⟨by rfl, ?_⟩) (by assumption) ?_
 rotate_left
 · intro w hSw; (try dsimp only at hSw); go_simp; (try with_reducible rfl)
 try simp only [las]
 refine tkH (i := 6) (v := ?_) rfl (by kernel_rfl) (fun _ _ _ h => h) (Or.inl ⟨by rfl, ?_⟩) (by assumption) ?_
 rotate_left
 · intro w hSw; (try dsimp only at hSw); go_simp; (try with_reducible rfl)
 try simp only [las]
 refine tkH (i := 7) (v := ?_) rfl (by kernel_rfl) (fun _ _ _ h => h) (Or.inl ⟨by rfl, ?_⟩) (by assumption) ?_
 rotate_left
 · intro w hSw; (try dsimp only at hSw); go_simp; (try with_reducible rfl)
 try simp only [las]
 refine tkH (i := 8) (v := ?_) rfl (by kernel_rfl) (fun _ _ _ h => h) (Or.inl ⟨by rfl, ?_⟩) (by assumption) ?_
 rotate_left
 · intro w hSw; (try dsimp only at hSw); go_simp; (try with_reducible rfl)
 try simp only [las]
 refine tkH (i := 10) (v := ?_) rfl (by kernel_rfl) (fun _ _ _ h => h) (Or.inl ⟨by rfl, ?_⟩) (by assumption) ?_
 rotate_left
 · intro w hSw; (try dsimp only at hSw); go_simp; (try with_reducible rfl)
 try simp only [las]
 refine tkH (i := 11) (v := ?_) rfl (by kernel_rfl) (fun _ _ _ h => h) (Or.inl ⟨by rfl, ?_⟩) (by assumption) ?_
 rotate_left
 · intro w hSw; (try dsimp only at hSw); go_simp; (try with_reducible rfl)
 try simp only [las]
 refine tkH (i := 12) (v := ?_) rfl (by kernel_rfl) (fun _ _ _ h => h) (Or.inl ⟨by rfl, ?_⟩) (by assumption) ?_
 rotate_left
 · intro w hSw; (try dsimp only at hSw); go_simp; (try with_reducible rfl)
 try simp only [las]
 refine tkH (i := 13) (v := ?_) rfl (by kernel_rfl) (fun _ _ _ h => h) (Or.inl ⟨by rfl, ?_⟩) (by assumption) ?_
 rotate_left
 · intro w hSw; (try dsimp only at hSw); go_simp; (try with_reducible rfl)
 try simp only [las]
 refine wpAnyH_ready (rs := [9]) (by kernel_rfl) (by simp) ?_
 refine AllReadyH.cons (o := _) rfl (fun K hK => ?_) AllReadyH.nil
 go_simp
 go_at_call 81; refine (V0d.mul 0 3 rfl rfl HN9.out).mono ?_; rintro e wa9 ⟨a9, n9, c9, rfl, V9⟩; clear V0d
 refine hK.out _ _ ?_ (fun hHeld => ?_)
 · exact HS.out _ _ _ _ _ ‹_›
 clear hK K
 try simp only [las]
 refine wpAnyH_ready (rs := [14]) (by kernel_rfl) (by simp) ?_
 refine AllReadyH.cons (o := _) rfl (fun K hK => ?_) AllReadyH.nil
 go_simp
 go_at_call 81; refine (V9.mul 2 3 rfl rfl HD9.out).mono ?_; rintro e wa14 ⟨a14, n14, c14, rfl, V14⟩; clear V9
 refine hK.out _ _ ?_ (fun hHeld => ?_)
 · exact HS.out _ _ _ _ _ ‹_›
 clear hK K
 try simp only [las]
 refine wpAnyH_ready (rs := [15]) (by kernel_rfl) (by simp) ?_
 refine AllReadyH.cons (o := _) rfl (fun K hK => ?_) AllReadyH.nil
 go_simp
 go_at_call 31; refine (HM.out _ _ _ (V14.num 1 _ _ rfl).1 (V14.num 0 _ _ rfl).1).mono ?_; rintro e wa15 ⟨v15, rfl, hq, hb⟩; have V15 := (V14.below hb).qcons hq; obtain ⟨a5, n5, c5, a6, n6, c6, rfl, -, -⟩ := hq; obtain ⟨ys, hys⟩ : ∃ y, decide (X.num < 0) = y := ⟨_, rfl⟩; rw [hys] at V15 ⊢; clear V14 hys hb
 refine hK.out _ _ ?_ (fun hHeld => ?_)
 · exact HS.out _ _ _ _ _ ‹_›
 clear hK K
 try simp only [las]
 refine wpAnyH_ready (rs := [16]) (by kernel_rfl) (by simp) ?_
 refine AllReadyH.cons (o := _) rfl (fun K hK => ?_) AllReadyH.nil
 have HF := Lib.hid (V15.finq 0 0 rfl rfl)
 have r0 := V15.c0 0 rfl; have r1 := V15.c1 0 rfl; have r2 := V15.c2 0 rfl
 have f0 := V15.frozen 0 0 rfl; have f1 := V15.frozen 0 1 rfl; have f2 := V15.frozen 0 2 rfl
 have HS15 := Lib.hid (HS.out _ _ _ _ _ V15)
 clear V15
 go_wp2_with fail
 refine hK.out _ _ ?_ (fun hHeld => ?_)
 · exact HSet.out _ _ _ _ HS15.out
 clear hK K
 try simp only [las]
 refine wpAnyH_done (by kernel_rfl) ?_ _
 go_wp2_with fail
 exact bodyPost_ret (res_ref rfl _ _ _ _ _ _ _ _ _ _ rfl HF.out.1) rfl HF.out.2
end Go.Proofs.YtllmacokhjmdgaaGreatDoor
