/-
 Law 2: a fraction's text held against the document's.
-/
import Derived.Test.YtllmacokhjmdgaaGreatDoorRQb
namespace Go.Proofs.YtllmacokhjmdgaaGreatDoor
open Go.RowKit
set_option linter.unusedVariables false
theorem list_eqb (a b : ByteArray) : (a.toList == b.toList) = decide (a = b) := by
 by_cases h : a = b
 · subst h; simp
 · rw [decide_eq_false h]
   simp only [beq_eq_false_iff_ne, ne_eq]
   rw [ByteArray.toList_eq, ByteArray.toList_eq]
   exact fun e => h (bytes_ext e)
set_option maxRecDepth 100000 in
set_option maxHeartbeats 8000000 in
theorem same_law (x y : Rat) (va vb : Value) (w : World) (ha : IsR w va x) (hb : RQ w vb y) (hx : Sz 100 x) (hy : SzD 900 y) (htab : Tab w) : Calls Tryz.prog 30 #[va, vb] w fun e w' => e = .returned (.bool (decide (tx x = tx y))) ∧ Below w.heap.size w w' := by
 have HT1 : Hid (∀ W v, Below w.heap.size w W → IsR W v x → Calls Tryz.prog 13 #[v] W fun e w' => e = .returned (.string (tx x)) ∧ Below W.heap.size W w') := Lib.hid (fun W v hB h => text_r x v W h hx (htab.below hB (Nat.le_refl _)))
 have HT2 : Hid (∀ W v, RQ W v y → Calls Tryz.prog 76 #[v] W fun e w' => e = .returned (.string (tx y)) ∧ Below W.heap.size W w') := Lib.hid (fun W v h => rattext_any y v W h hy)
 have hRa := ha; have hRb := hb
 obtain ⟨p, n, c, p', n', c', rfl, _, _⟩ := ha
 obtain ⟨q, m, d, q', m', d', rfl, _, _⟩ := hb
 obtain ⟨zs, hz⟩ : ∃ z, decide (x.num < 0) = z := ⟨_, rfl⟩
 obtain ⟨us, hu⟩ : ∃ z, decide (y.num < 0) = z := ⟨_, rfl⟩
 rw [hz] at hRa ⊢
 rw [hu] at hRb ⊢
 obtain ⟨T1, hT1⟩ : ∃ T, tx x = T := ⟨_, rfl⟩
 obtain ⟨T2, hT2⟩ : ∃ T, tx y = T := ⟨_, rfl⟩
 rw [hT1] at HT1 ⊢
 rw [hT2] at HT2 ⊢
 have V0 := (((Dq.refl w).qcons hRb).rcons hRa).two 28 50 #[.bool zs, .slice p n c, .slice p' n' c'] #[.bool us, .slice q m d, .slice q' m' d']
 obtain ⟨bX, hbX⟩ : ∃ b, w.heap.size = b := ⟨_, rfl⟩
 obtain ⟨bY, hbY⟩ : ∃ b, bX + 1 = b := ⟨_, rfl⟩
 obtain ⟨W0, hW0⟩ : ∃ W0, (w.alloc (.cells #[.bool zs, .slice p n c, .slice p' n' c'] 28)).alloc (.cells #[.bool us, .slice q m d, .slice q' m' d'] 50) = W0 := ⟨_, rfl⟩
 rw [hW0] at V0
 simp only [hbX, hbY] at V0
 have HW0 := Lib.hid hW0; have HbX := Lib.hid hbX; have HbY := Lib.hid hbY
 have HS : Hid (∀ l q_ r W, Dq w [(bY, 50, #[.bool us, .slice q m d, .slice q' m' d']), (bX, 28, #[.bool zs, .slice p n c, .slice p' n' c'])] l q_ r W → W.cell? ⟨bX, 0, none⟩ = some (.bool zs) ∧ W.cell? ⟨bX, 1, none⟩ = some (.slice p n c) ∧ W.cell? ⟨bX, 2, none⟩ = some (.slice p' n' c') ∧ W.cell? ⟨bY, 0, none⟩ = some (.bool us) ∧ W.cell? ⟨bY, 1, none⟩ = some (.slice q m d) ∧ W.cell? ⟨bY, 2, none⟩ = some (.slice q' m' d')) := Lib.hid (fun l q_ r W h => ⟨h.c0 1 rfl, h.c1 1 rfl, h.c2 1 rfl, h.c0 0 rfl, h.c1 0 rfl, h.c2 0 rfl⟩)
 clear hRa hRb hx hy hz hu hT1 hT2 hW0 hbX hbY
 go_enter Tryz.func30, Tryz.ntmps30
 go_wp2_with fail
 simp only [HbX.out, HbY.out, HW0.out]
 have V0d := V0.drew
 clear V0
 refine wp_region_held_drew (S := (fun w' => w'.cell? ⟨bX, 0, none⟩ = some (.bool zs) ∧ w'.cell? ⟨bX, 1, none⟩ = some (.slice p n c) ∧ w'.cell? ⟨bX, 2, none⟩ = some (.slice p' n' c') ∧ w'.cell? ⟨bY, 0, none⟩ = some (.bool us) ∧ w'.cell? ⟨bY, 1, none⟩ = some (.slice q m d) ∧ w'.cell? ⟨bY, 2, none⟩ = some (.slice q' m' d'))) (by kernel_rfl) ?_ (fun hHeld => ?_)
 · exact HS.out _ _ _ _ V0d
 refine tkH (i := 0) (v := ?_) rfl (by kernel_rfl) (fun _ _ _ h => h) (Or.inl ⟨by rfl, ?_⟩) (by assumption) ?_
 rotate_left
 · intro w hSw; (try dsimp only at hSw); go_simp; (try with_reducible rfl)
 try simp only [las]
 refine tkH (i := 2) (v := ?_) rfl (by kernel_rfl) (fun _ _ _ h => h) (Or.inl ⟨by rfl, ?_⟩) (by assumption) ?_
 rotate_left
 · intro w hSw; (try dsimp only at hSw); go_simp; (try with_reducible rfl)
 try simp only [las]
 refine wpAnyH_ready (rs := [1]) (by kernel_rfl) (by simp) ?_
 refine AllReadyH.cons (o := _) rfl (fun K hK => ?_) AllReadyH.nil
 go_simp
 go_at_call 13; refine (HT1.out _ _ V0d.bel (V0d.rat 0 _ _ rfl)).mono ?_; rintro e wa1 ⟨rfl, hb⟩; have V1 := V0d.below hb; clear V0d hb
 refine hK.out _ _ ?_ (fun hHeld => ?_)
 · exact HS.out _ _ _ _ ‹_›
 clear hK K
 try simp only [las]
 refine wpAnyH_ready (rs := [3]) (by kernel_rfl) (by simp) ?_
 refine AllReadyH.cons (o := _) rfl (fun K hK => ?_) AllReadyH.nil
 go_simp
 go_at_call 76; refine (HT2.out _ _ (V1.ref 0 _ _ rfl)).mono ?_; rintro e wa3 ⟨rfl, hb⟩; have V3 := V1.below hb; clear V1 hb
 refine hK.out _ _ ?_ (fun hHeld => ?_)
 · exact HS.out _ _ _ _ ‹_›
 clear hK K
 try simp only [las]
 refine tkH (i := 4) (v := ?_) rfl (by kernel_rfl) (fun _ _ _ h => h) (Or.inl ⟨by rfl, ?_⟩) (by assumption) ?_
 rotate_left
 · intro w hSw; (try dsimp only at hSw); go_simp; (try with_reducible rfl)
 try simp only [las]
 refine tkH (i := 5) (v := ?_) rfl (by kernel_rfl) (fun _ _ _ h => h) (Or.inl ⟨by rfl, ?_⟩) (by assumption) ?_
 rotate_left
 · intro w hSw; (try dsimp only at hSw); go_simp; (try with_reducible rfl)
 try simp only [las]
 refine wpAnyH_done (by kernel_rfl) ?_ _
 have HB := Lib.hid V3.bel
 clear V3
 go_wp2_with fail
 go_ret
 exact ⟨congrArg (fun b => Ending.returned (Value.bool b)) (list_eqb T1 T2), HB.out⟩
theorem same_yes (x : Rat) (va vb : Value) (w : World) (ha : IsR w va x) (hb : RQ w vb x) (hx : Sz 100 x) (hy : SzD 900 x) (htab : Tab w) : Calls Tryz.prog 30 #[va, vb] w fun e w' => e = .returned (.bool true) ∧ Below w.heap.size w w' :=
 (same_law x x va vb w ha hb hx hy htab).mono fun e w' h => ⟨by rw [h.1, decide_eq_true rfl], h.2⟩
end Go.Proofs.YtllmacokhjmdgaaGreatDoor
