/-
  Law 1: the product of any two numbers.
-/
import Derived.Test.YtllmacokhjmdgaaGreatDoorNMul
namespace Go.Proofs.YtllmacokhjmdgaaGreatDoor
open Go.RowKit
set_option linter.unusedVariables false
theorem zero_yes {v : Value} {w : World} (h : IsN w v 0) : Calls Tryz.prog 50 #[v] w fun e w' => e = .returned (.bool true) ∧ Below w.heap.size w w' :=
  (zero_any 0 v w h).mono fun e w' h => ⟨by rcases h.1 with h | h; exact h.2; exact absurd rfl h.1, h.2⟩
theorem zero_no {v : Value} {w : World} {N : Nat} (h : IsN w v N) (hN : N ≠ 0) : Calls Tryz.prog 50 #[v] w fun e w' => e = .returned (.bool false) ∧ Below w.heap.size w w' :=
  (zero_any N v w h).mono fun e w' h => ⟨by rcases h.1 with h | h; exact absurd h.1 hN; exact h.2, h.2⟩
set_option maxRecDepth 100000 in
set_option maxHeartbeats 2000000 in
theorem mul_any (M N : Nat) (va vb : Value) (w : World) (ha : IsN w va M) (hb : IsN w vb N) (hM : M < 18446744073709551616 ^ 5000) (hN : N < 18446744073709551616 ^ 5000) :
    Calls Tryz.prog 74 #[va, vb] w (GaveN (M * N) w) := by
  obtain ⟨a1, c1, us, rfl, hc1, hu, hwu, rfl, hl1, _, _, hz1⟩ := isN_open 5000 ha hM
  obtain ⟨a2, c2, vs, rfl, hc2, hv, hwv, rfl, hl2, _, _, hz2⟩ := isN_open 5000 hb hN
  by_cases h1 : wv us = 0
  · have e0 : wv us * wv vs = 0 := by rw [h1, Nat.zero_mul]
    rw [e0]
    rw [h1] at ha
    obtain ⟨W3, hW3⟩ : ∃ W3, ((w.alloc (.cells #[.slice a1 us.length c1] 26)).alloc (.cells #[.slice a2 vs.length c2] 26)).alloc (.cells #[.slice none 0 0] 26) = W3 := ⟨_, rfl⟩
    have hb3 : Below w.heap.size w W3 := by rw [← hW3]; exact (((Below.refl _ w).alloc (Nat.le_refl _) _).alloc (by simp) _).alloc (by simp; omega) _
    have hk3 : Blk W3 (w.heap.size + 1 + 1) 26 #[.slice none 0 0] := by
      rw [← hW3]
      have k3 := Blk.new ((w.alloc (.cells #[.slice a1 us.length c1] 26)).alloc (.cells #[.slice a2 vs.length c2] 26)) 26 #[.slice none 0 0]
      simp only [World.size_alloc] at k3
      exact k3
    have q1 : W3.cell? ⟨w.heap.size, 0, none⟩ = some (.slice a1 us.length c1) := by
      rw [← hW3]
      exact (((Blk.new w 26 #[.slice a1 us.length c1]).alloc _).alloc _).cell 0
    have HZ := Lib.hid (zero_yes (ha.below hb3 (Nat.le_refl _)))
    have HR : Hid (∀ w5, Below W3.heap.size W3 w5 → Blk w5 (w.heap.size + 1 + 1) 26 #[.slice none 0 0] ∧ Below w.heap.size w w5) := Lib.hid (fun w5 h => ⟨hk3.below h hk3.lt, hb3.trans (h.mono hb3.size)⟩)
    obtain ⟨n, hn⟩ : ∃ n, us.length = n := ⟨_, rfl⟩
    obtain ⟨m, hm⟩ : ∃ m, vs.length = m := ⟨_, rfl⟩
    rw [hn] at HZ q1 hW3 ⊢
    rw [hm] at hW3 ⊢
    clear ha hb hM hN hu hwu hl1 hz1 hv hwv hl2 hz2 h1 e0 hb3 hk3 hc1 hc2 hn hm
    go_enter Tryz.func74, Tryz.ntmps74
    go_wp2_with fail
    refine HZ.out.mono ?_
    rintro e w5 ⟨rfl, hb5⟩
    obtain ⟨hk5, hB5⟩ := HR.out w5 hb5
    have hk50 := hk5.cell 0; have hk5f := hk5.frozen 0
    simp only [List.getElem?_toArray, List.getElem?_cons_zero] at hk50
    have HK5 := Lib.hid hk5
    have HB5 := Lib.hid hB5
    clear hb5 hk5 hB5 HZ HR q1
    go_wp2_with fail
    refine bodyPost_ret (res_nat rfl _ _ (w.heap.size + 1 + 1) (.slice none 0 0) rfl (HK5.out.set_ 0 _)) rfl ?_
    exact ⟨_, rfl, isN_zero _, HB5.out.setCell (p := ⟨w.heap.size + 1 + 1, 0, none⟩) (by show w.heap.size ≤ w.heap.size + 1 + 1; omega) _⟩
  · by_cases h2 : wv vs = 0
    · have e0 : wv us * wv vs = 0 := by rw [h2, Nat.mul_zero]
      rw [e0]
      rw [h2] at hb
      obtain ⟨W3, hW3⟩ : ∃ W3, ((w.alloc (.cells #[.slice a1 us.length c1] 26)).alloc (.cells #[.slice a2 vs.length c2] 26)).alloc (.cells #[.slice none 0 0] 26) = W3 := ⟨_, rfl⟩
      have hb3 : Below w.heap.size w W3 := by rw [← hW3]; exact (((Below.refl _ w).alloc (Nat.le_refl _) _).alloc (by simp) _).alloc (by simp; omega) _
      have hk3 : Blk W3 (w.heap.size + 1 + 1) 26 #[.slice none 0 0] := by
        rw [← hW3]
        have k3 := Blk.new ((w.alloc (.cells #[.slice a1 us.length c1] 26)).alloc (.cells #[.slice a2 vs.length c2] 26)) 26 #[.slice none 0 0]
        simp only [World.size_alloc] at k3
        exact k3
      have q1 : W3.cell? ⟨w.heap.size, 0, none⟩ = some (.slice a1 us.length c1) := by
        rw [← hW3]
        exact (((Blk.new w 26 #[.slice a1 us.length c1]).alloc _).alloc _).cell 0
      have k2 : Blk W3 (w.heap.size + 1) 26 #[.slice a2 vs.length c2] := by
        rw [← hW3]
        have k3 := (Blk.new (w.alloc (.cells #[.slice a1 us.length c1] 26)) 26 #[.slice a2 vs.length c2]).alloc (.cells #[.slice none 0 0] 26)
        simp only [World.size_alloc] at k3
        exact k3
      have HZ := Lib.hid (zero_no (ha.below hb3 (Nat.le_refl _)) h1)
      have HR : Hid (∀ w5, Below W3.heap.size W3 w5 → Blk w5 (w.heap.size + 1 + 1) 26 #[.slice none 0 0] ∧ Below w.heap.size w w5) := Lib.hid (fun w5 h => ⟨hk3.below h hk3.lt, hb3.trans (h.mono hb3.size)⟩)
      have HZ2 : Hid (∀ w5, Below W3.heap.size W3 w5 → w5.cell? ⟨w.heap.size + 1, 0, none⟩ = some (.slice a2 vs.length c2) ∧ Calls Tryz.prog 50 #[.agg #[.slice a2 vs.length c2]] w5 fun e w' => e = .returned (.bool true) ∧ Below W3.heap.size W3 w') := Lib.hid (fun w5 h =>
        ⟨(k2.below h k2.lt).cell 0, (zero_yes ((hb.below hb3 (Nat.le_refl _)).below h (Nat.le_refl _))).mono fun e w' h2 => ⟨h2.1, h.trans (h2.2.mono h.size)⟩⟩)
      obtain ⟨n, hn⟩ : ∃ n, us.length = n := ⟨_, rfl⟩
      obtain ⟨m, hm⟩ : ∃ m, vs.length = m := ⟨_, rfl⟩
      rw [hn] at HZ q1 hW3 ⊢
      rw [hm] at hW3 HZ2 ⊢
      clear ha hb hM hN hu hwu hl1 hz1 hv hwv hl2 hz2 h1 h2 e0 hb3 hk3 k2 hc1 hc2 hn hm
      go_enter Tryz.func74, Tryz.ntmps74
      go_wp2_with fail
      refine HZ.out.mono ?_
      rintro e w4 ⟨rfl, hb4⟩
      obtain ⟨q2, hz⟩ := HZ2.out w4 hb4
      have HZ3 := Lib.hid hz
      clear hz HZ2 HZ q1 hb4
      go_wp2_with fail
      refine HZ3.out.mono ?_
      rintro e w5 ⟨rfl, hb5⟩
      obtain ⟨hk5, hB5⟩ := HR.out w5 hb5
      have hk50 := hk5.cell 0; have hk5f := hk5.frozen 0
      simp only [List.getElem?_toArray, List.getElem?_cons_zero] at hk50
      have HK5 := Lib.hid hk5
      have HB5 := Lib.hid hB5
      clear hb5 hk5 hB5 HZ3 HR q2
      go_wp2_with fail
      refine bodyPost_ret (res_nat rfl _ _ (w.heap.size + 1 + 1) (.slice none 0 0) rfl (HK5.out.set_ 0 _)) rfl ?_
      exact ⟨_, rfl, isN_zero _, HB5.out.setCell (p := ⟨w.heap.size + 1 + 1, 0, none⟩) (by show w.heap.size ≤ w.heap.size + 1 + 1; omega) _⟩
    · exact mul_core a1 a2 c1 c2 us vs w hu hv hwu hwv hl1 hl2 (fun h => h1 (by rw [h]; rfl)) (fun h => h2 (by rw [h]; rfl)) (fun W hW => zero_no (ha.below hW (Nat.le_refl _)) h1) (fun W hW => zero_no (hb.below hW (Nat.le_refl _)) h2)
end Go.Proofs.YtllmacokhjmdgaaGreatDoor
