/-
  Law 1: a shift down.
-/
import Derived.Test.YtllmacokhjmdgaaGreatDoorNShD
namespace Go.Proofs.YtllmacokhjmdgaaGreatDoor
open Go.RowKit
set_option linter.unusedVariables false
theorem IsN.set {w : World} {v : Value} {N B b : Nat} {x : Value} (h : IsN w v N) (hf : Fresh B v) (hb : b < B) : IsN (w.setCell ⟨b, 0, none⟩ x) v N := by
  obtain ⟨a, c, us, rfl, h2, h3, h4⟩ := h
  refine ⟨a, c, us, rfl, h2, fun j hj => ?_, h4⟩
  obtain ⟨ad, rfl, hlt, hc⟩ := h3 j hj
  have := hf ad _ _ rfl
  refine ⟨ad, rfl, by rw [World.size_setCell]; exact hlt, ?_⟩
  rw [World.cell?_setCell_other _ _ _ _ (fun e => by have := congrArg Addr.block e; rw [add_block] at this; simp at this; omega)]
  exact hc
set_option maxRecDepth 100000 in
set_option maxHeartbeats 2000000 in
theorem shn_any (N d : Nat) (v : Value) (BY : Int) (w : World) (h : IsN w v N) (hd0 : 0 < d) (hd1 : d ≤ 1000000) (hBY : BY = -(d : Int)) :
    Calls Tryz.prog 68 #[v, .int .i64 BY] w (GaveF (N / 2 ^ d) w) := by
  obtain ⟨a, n, c, rfl⟩ := isN_form h
  obtain ⟨W2, hW2⟩ : ∃ W2, ((w.alloc (.cells #[.slice a n c] 26)).alloc (.cells #[.slice none 0 0] 26)) = W2 := ⟨_, rfl⟩
  have hb2 := B2.new w (.slice a n c) (.slice none 0 0)
  have hsz2 : W2.heap.size = w.heap.size + 2 := by rw [← hW2]; simp
  rw [hW2] at hb2
  have HS := Lib.hid (shdf_any N d _ BY W2 (h.below hb2.bel (Nat.le_refl _)) hd0 hd1 hBY)
  have Hb2 := Lib.hid hb2
  have q1 : W2.cell? ⟨w.heap.size, 0, none⟩ = some (.slice a n c) := hb2.b1.cell 0
  have hneg : BY < 0 := by omega
  clear h hb2 hBY
  go_enter Tryz.func68, Tryz.ntmps68
  go_wp2_with fail
  refine HS.out.mono ?_
  rintro e w5 ⟨v, rfl, hN5, hF5, hb5⟩
  rw [hsz2] at hF5 hb5
  obtain ⟨x, y, z, rfl⟩ := isN_form hN5
  have hbx := Hb2.out.below hb5 (Nat.le_refl _)
  have hk5 := hbx.b2
  have hk50 := hk5.cell 0; have hk5f := hk5.frozen 0
  simp only [List.getElem?_toArray, List.getElem?_cons_zero] at hk50
  have HK5 := Lib.hid hk5
  have HN6 := Lib.hid (hN5.set (b := w.heap.size + 1) (x := .slice x y z) hF5 (by omega))
  have HF6 := Lib.hid (hF5.mono (show w.heap.size ≤ _ by omega))
  have HB6 := Lib.hid (hbx.bel.setCell (p := ⟨w.heap.size + 1, 0, none⟩) (by show w.heap.size ≤ w.heap.size + 1; omega) (.slice x y z))
  clear hbx hk5 hN5 hF5 hb5 HS q1
  go_wp2_with fail
  refine bodyPost_ret (res_nat rfl _ _ (w.heap.size + 1) (.slice x y z) rfl (HK5.out.set_ 0 _)) rfl ?_
  exact ⟨_, rfl, HN6.out, HF6.out, HB6.out⟩
end Go.Proofs.YtllmacokhjmdgaaGreatDoor
