/-
  Law 1: quotient and rest of any two numbers.
-/
import Derived.Test.YtllmacokhjmdgaaGreatDoorNDivL
import Derived.StillTailTactics
namespace Go.Proofs.YtllmacokhjmdgaaGreatDoor
open Go.RowKit
set_option linter.unusedVariables false
def DvMIs (M N : Nat) (w : World) (e : Ending) (w' : World) : Prop :=
  (N = 0 ∧ e = .returned (.tuple #[.agg #[.slice none 0 0], .agg #[.slice none 0 0], .bool false]) ∨
    0 < N ∧ ∃ x y z x' y' z', e = .returned (.tuple #[.agg #[.slice x y z], .agg #[.slice x' y' z'], .bool true]) ∧ IsN w' (.agg #[.slice x y z]) (M / N) ∧ IsN w' (.agg #[.slice x' y' z']) (M % N)) ∧ Below w.heap.size w w'
theorem IsN.drew2 {w : World} {v : Value} {N : Nat} (h : IsN w v N) : IsN w.drew v N := h
/-- Two results, stored. -/
theorem two_stores {w W : World} {va vb : Value} {x1 : Option Addr} {y1 z1 : Nat} {x3 : Option Addr} {y3 z3 : Nat} (hq : Q4 w W va vb (.slice none 0 0) (.slice none 0 0)) :
    Blk ((W.setCell ⟨w.heap.size + 1 + 1, 0, none⟩ (.slice x1 y1 z1)).setCell ⟨w.heap.size + 1 + 1 + 1, 0, none⟩ (.slice x3 y3 z3)) (w.heap.size + 1 + 1) 26 #[.slice x1 y1 z1] ∧
    Blk ((W.setCell ⟨w.heap.size + 1 + 1, 0, none⟩ (.slice x1 y1 z1)).setCell ⟨w.heap.size + 1 + 1 + 1, 0, none⟩ (.slice x3 y3 z3)) (w.heap.size + 1 + 1 + 1) 26 #[.slice x3 y3 z3] ∧
    Below w.heap.size w ((W.setCell ⟨w.heap.size + 1 + 1, 0, none⟩ (.slice x1 y1 z1)).setCell ⟨w.heap.size + 1 + 1 + 1, 0, none⟩ (.slice x3 y3 z3)) ∧
    W.cell? ⟨w.heap.size + 1 + 1, 0, none⟩ = some (.slice none 0 0) ∧ W.frozen? ⟨w.heap.size + 1 + 1, 0, none⟩ = false ∧
    (W.setCell ⟨w.heap.size + 1 + 1, 0, none⟩ (.slice x1 y1 z1)).cell? ⟨w.heap.size + 1 + 1 + 1, 0, none⟩ = some (.slice none 0 0) ∧ (W.setCell ⟨w.heap.size + 1 + 1, 0, none⟩ (.slice x1 y1 z1)).frozen? ⟨w.heap.size + 1 + 1 + 1, 0, none⟩ = false := by
  have k3 := hq.b3
  have k4 := hq.b4
  have k4' : Blk (W.setCell ⟨w.heap.size + 1 + 1, 0, none⟩ (.slice x1 y1 z1)) (w.heap.size + 1 + 1 + 1) 26 #[.slice none 0 0] := k4.far (p := ⟨w.heap.size + 1 + 1, 0, none⟩) (by show w.heap.size + 1 + 1 + 1 ≠ w.heap.size + 1 + 1; omega) _
  exact ⟨(k3.set_ 0 (.slice x1 y1 z1)).far (p := ⟨w.heap.size + 1 + 1 + 1, 0, none⟩) (by show w.heap.size + 1 + 1 ≠ w.heap.size + 1 + 1 + 1; omega) _, k4'.set_ 0 (.slice x3 y3 z3),
    (hq.bel.setCell (p := ⟨w.heap.size + 1 + 1, 0, none⟩) (by show w.heap.size ≤ w.heap.size + 1 + 1; omega) _).setCell (p := ⟨w.heap.size + 1 + 1 + 1, 0, none⟩) (by show w.heap.size ≤ w.heap.size + 1 + 1 + 1; omega) _,
    k3.cell 0, k3.frozen 0, k4'.cell 0, k4'.frozen 0⟩
/-- A number whose words lie below the boxes, or above them, is the same behind the stores. -/
theorem isN_stores {W : World} {v : Value} {S b : Nat} {x y : Value} (h : IsN W v S) (hf : ∀ ad n c, v = .agg #[.slice (some ad) n c] → ad.block < b ∨ b + 2 ≤ ad.block) : IsN ((W.setCell ⟨b, 0, none⟩ x).setCell ⟨b + 1, 0, none⟩ y) v S := by
  obtain ⟨a, c, us, rfl, h2, h3, h4⟩ := h
  refine ⟨a, c, us, rfl, h2, fun k hk => ?_, h4⟩
  obtain ⟨ad, rfl, hlt, hc⟩ := h3 k hk
  have := hf ad _ _ rfl
  refine ⟨ad, rfl, by rw [World.size_setCell, World.size_setCell]; exact hlt, ?_⟩
  rw [World.cell?_setCell_other _ _ _ _ (fun e => by have h9 := congrArg Addr.block e; rw [add_block] at h9; simp at h9; omega), World.cell?_setCell_other _ _ _ _ (fun e => by have h9 := congrArg Addr.block e; rw [add_block] at h9; simp at h9; omega)]
  exact hc
/-- A number's words lie in no box. -/
theorem isN_box {W : World} {v : Value} {S b : Nat} {x : Option Addr} {y z : Nat} (h : IsN W v S) (hk : Blk W b 26 #[.slice x y z]) : ∀ ad n c, v = .agg #[.slice (some ad) n c] → ad.block ≠ b := by
  intro ad n c e hb
  obtain ⟨a', c'', us, he, _, hu', _, _, _, _, hnil⟩ := h
  rw [e] at he
  have h1 := congrArg (fun v => match v with | Value.agg xs => xs[0]? | _ => none) he
  simp at h1
  obtain ⟨rfl, hn', rfl⟩ := h1
  obtain ⟨ad', hade, hl, hc⟩ := hu' 0 (List.length_pos_iff.2 (fun e => by have := (hnil e).1; cases this))
  cases hade
  unfold World.cell? at hc
  rw [add_block, hb, show W.heap[b]? = _ from hk] at hc
  simp only at hc
  split at hc
  · cases hc
  · have : ∀ k : Nat, (#[Value.slice x y z] : Array Value)[k]? ≠ some (.int .u64 ((us.getD 0 0 : Nat) : Int)) := fun k => by
      cases k with
      | zero => simp
      | succ k => simp
    exact this _ hc
theorem isN_set1 {W : World} {v : Value} {S b : Nat} {x : Value} (h : IsN W v S) (hf : ∀ ad n c, v = .agg #[.slice (some ad) n c] → ad.block ≠ b) : IsN (W.setCell ⟨b, 0, none⟩ x) v S := by
  obtain ⟨a, c, us, rfl, h2, h3, h4⟩ := h
  refine ⟨a, c, us, rfl, h2, fun k hk => ?_, h4⟩
  obtain ⟨ad, rfl, hlt, hc⟩ := h3 k hk
  have := hf ad _ _ rfl
  refine ⟨ad, rfl, by rw [World.size_setCell]; exact hlt, ?_⟩
  rw [World.cell?_setCell_other _ _ _ _ (fun e => by have h9 := congrArg Addr.block e; rw [add_block] at h9; simp at h9; omega)]
  exact hc
theorem fin_two {w W : World} {va vb : Value} {x1 : Option Addr} {y1 z1 : Nat} {x3 : Option Addr} {y3 z3 S : Nat} {v : Value} (hq : Q4 w W va vb (.slice none 0 0) (.slice none 0 0)) (h : IsN W v S) :
    IsN ((W.setCell ⟨w.heap.size + 1 + 1, 0, none⟩ (.slice x1 y1 z1)).setCell ⟨w.heap.size + 1 + 1 + 1, 0, none⟩ (.slice x3 y3 z3)) v S :=
  isN_stores (b := w.heap.size + 1 + 1) h (fun ad n c e => by
    have h1 := isN_box h hq.b3 ad n c e
    have h2 := isN_box h hq.b4 ad n c e
    omega)
theorem drawn_two {w W : World} {va vb : Value} {x1 : Option Addr} {y1 z1 : Nat} {x3 : Option Addr} {y3 z3 : Nat} (hq : Q4 w W va vb (.slice none 0 0) (.slice none 0 0)) :
    W.drew.cell? ⟨w.heap.size + 1 + 1, 0, none⟩ = some (.slice none 0 0) ∧ W.drew.frozen? ⟨w.heap.size + 1 + 1, 0, none⟩ = false ∧
    (W.setCell ⟨w.heap.size + 1 + 1, 0, none⟩ (.slice x1 y1 z1)).drew.cell? ⟨w.heap.size + 1 + 1 + 1, 0, none⟩ = some (.slice none 0 0) ∧ (W.setCell ⟨w.heap.size + 1 + 1, 0, none⟩ (.slice x1 y1 z1)).drew.frozen? ⟨w.heap.size + 1 + 1 + 1, 0, none⟩ = false ∧
    Blk ((W.setCell ⟨w.heap.size + 1 + 1, 0, none⟩ (.slice x1 y1 z1)).setCell ⟨w.heap.size + 1 + 1 + 1, 0, none⟩ (.slice x3 y3 z3)).drew (w.heap.size + 1 + 1) 26 #[.slice x1 y1 z1] ∧
    Blk ((W.setCell ⟨w.heap.size + 1 + 1, 0, none⟩ (.slice x1 y1 z1)).setCell ⟨w.heap.size + 1 + 1 + 1, 0, none⟩ (.slice x3 y3 z3)).drew (w.heap.size + 1 + 1 + 1) 26 #[.slice x3 y3 z3] ∧
    Below w.heap.size w ((W.setCell ⟨w.heap.size + 1 + 1, 0, none⟩ (.slice x1 y1 z1)).setCell ⟨w.heap.size + 1 + 1 + 1, 0, none⟩ (.slice x3 y3 z3)).drew := by
  obtain ⟨j1, j2, j3, j4, j5, j6, j7⟩ := two_stores (x1 := x1) (y1 := y1) (z1 := z1) (x3 := x3) (y3 := y3) (z3 := z3) hq
  exact ⟨j4, j5, j6, j7, j1, j2, j3.drew⟩
theorem drawn_keep {w W : World} {x1 : Option Addr} {y1 z1 : Nat} {x3 : Option Addr} {y3 z3 : Nat} {p : Addr} {v : Value} (h : W.cell? p = some v) (h1 : p.block ≠ w.heap.size + 1 + 1) (h2 : p.block ≠ w.heap.size + 1 + 1 + 1) :
    W.drew.cell? p = some v ∧ (W.setCell ⟨w.heap.size + 1 + 1, 0, none⟩ (.slice x1 y1 z1)).drew.cell? p = some v ∧ ((W.setCell ⟨w.heap.size + 1 + 1, 0, none⟩ (.slice x1 y1 z1)).setCell ⟨w.heap.size + 1 + 1 + 1, 0, none⟩ (.slice x3 y3 z3)).drew.cell? p = some v := by
  have e1 : (W.setCell ⟨w.heap.size + 1 + 1, 0, none⟩ (.slice x1 y1 z1)).cell? p = some v := (World.cell?_setCell_other _ _ _ _ (fun e => h1 (by rw [← e]))).trans h
  exact ⟨h, e1, (World.cell?_setCell_other _ _ _ _ (fun e => h2 (by rw [← e]))).trans e1⟩
set_option maxRecDepth 100000 in
set_option maxHeartbeats 4000000 in
theorem dvm_any (M N : Nat) (va vb : Value) (w : World) (ha : IsN w va M) (hb : IsN w vb N) (hM : M < 18446744073709551616 ^ 8000) :
    Calls Tryz.prog 72 #[va, vb] w (DvMIs M N w) := by
  obtain ⟨a1, n, c1, rfl⟩ := isN_form ha
  obtain ⟨a2, m, c2, rfl⟩ := isN_form hb
  obtain ⟨W4, hW4⟩ : ∃ W4, ((((w.alloc (.cells #[.slice a1 n c1] 26)).alloc (.cells #[.slice a2 m c2] 26)).alloc (.cells #[.slice none 0 0] 26)).alloc (.cells #[.slice none 0 0] 26)) = W4 := ⟨_, rfl⟩
  have hq := Q4.new w (.slice a1 n c1) (.slice a2 m c2) (.slice none 0 0) (.slice none 0 0)
  have hsz4 : W4.heap.size = w.heap.size + 4 := by rw [← hW4]; simp
  rw [hW4] at hq
  have q1 : W4.cell? ⟨w.heap.size + 1, 0, none⟩ = some (.slice a2 m c2) := hq.b2.cell 0
  have Hq := Lib.hid hq
  have HA := Lib.hid (ha.below hq.bel (Nat.le_refl _))
  have HBn := Lib.hid (hb.below hq.bel (Nat.le_refl _))
  have Ha := Lib.hid ha
  have HM := Lib.hid hM
  by_cases hN : N = 0
  · have HZ := Lib.hid (zero_yes (v := .agg #[.slice a2 m c2]) (w := W4) (by have := HBn.out; rw [hN] at this; exact this))
    clear ha hb hM hq HA HBn
    go_enter Tryz.func72, Tryz.ntmps72
    go_wp2_with fail
    refine HZ.out.mono ?_
    rintro e w5 ⟨rfl, hb5⟩
    have hq5 := Hq.out.below hb5 (by omega)
    obtain ⟨j1, j2, j3, j4, j5, j6, j7⟩ := two_stores (x1 := none) (y1 := 0) (z1 := 0) (x3 := none) (y3 := 0) (z3 := 0) hq5
    have HJ := Lib.hid (And.intro j1 (And.intro j2 j3))
    clear hq5 hb5 HZ j1 j2 j3 q1
    go_wp2_with fail
    refine bodyPost_ret (res_cct rfl _ _ (w.heap.size + 1 + 1) (w.heap.size + 1 + 1 + 1) (.slice none 0 0) (.slice none 0 0) (.bool false) rfl rfl rfl HJ.out.1 HJ.out.2.1) rfl ?_
    exact ⟨.inl ⟨hN, rfl⟩, HJ.out.2.2⟩
  · have HZ := Lib.hid (zero_no HBn.out hN)
    have hN0 : 0 < N := by omega
    clear ha hb hM hq
    by_cases hlt : M < N
    · go_enter Tryz.func72, Tryz.ntmps72
      go_wp2_with fail
      refine HZ.out.mono ?_
      rintro e w5 ⟨rfl, hb5⟩
      have hq5 := Hq.out.below hb5 (by omega)
      have HCm := Lib.hid (cmp_any M N _ _ w5 (HA.out.below hb5 (Nat.le_refl _)) (HBn.out.below hb5 (Nat.le_refl _)))
      have q2 : w5.cell? ⟨w.heap.size, 0, none⟩ = some (.slice a1 n c1) := hq5.b1.cell 0
      have q3 : w5.cell? ⟨w.heap.size + 1, 0, none⟩ = some (.slice a2 m c2) := hq5.b2.cell 0
      have Hq5 := Lib.hid hq5
      have hs5 := hb5.size
      clear hq5 hb5 HZ q1
      go_wp2_with fail
      refine HCm.out.mono ?_
      rintro e w6 ⟨rfl, hb6⟩
      have hq6 := Hq5.out.below hb6 (by omega)
      have hcm : cmpI M N = -1 := cmpI_lt hlt
      rw [hcm]
      have q4 : w6.drew.cell? ⟨w.heap.size, 0, none⟩ = some (.slice a1 n c1) := hq6.b1.cell 0
      obtain ⟨j1, j2, j3, j4, j5, j6, j7⟩ := two_stores (x1 := none) (y1 := 0) (z1 := 0) (x3 := a1) (y3 := n) (z3 := c1) hq6
      have HR : Hid (DvMIs M N w (.returned (.tuple #[.agg #[.slice none 0 0], .agg #[.slice a1 n c1], .bool true])) ((w6.setCell ⟨w.heap.size + 1 + 1, 0, none⟩ (.slice none 0 0)).setCell ⟨w.heap.size + 1 + 1 + 1, 0, none⟩ (.slice a1 n c1)).drew) := Lib.hid ⟨.inr ⟨hN0, none, 0, 0, a1, n, c1, rfl, by rw [Nat.div_eq_of_lt hlt]; exact isN_zero _, by
        rw [Nat.mod_eq_of_lt hlt]
        exact (isN_stores (W := w6) (b := w.heap.size + 1 + 1) (Ha.out.below hq6.bel (Nat.le_refl _)) (fun ad n' c' e => .inl (by
          obtain ⟨a', c'', us, he, _, hu', _, _, _, _, hnil⟩ := Ha.out
          rw [e] at he
          have h1 := congrArg (fun v => match v with | Value.agg xs => xs[0]? | _ => none) he
          simp at h1
          obtain ⟨rfl, hn', rfl⟩ := h1
          obtain ⟨ad', hade, hl, _⟩ := hu' 0 (List.length_pos_iff.2 (fun e => by have := (hnil e).1; cases this))
          cases hade
          omega))).drew2⟩, j3.drew⟩
      have i1 : (w6.setCell ⟨w.heap.size + 1 + 1, 0, none⟩ (.slice none 0 0)).drew.cell? ⟨w.heap.size + 1 + 1 + 1, 0, none⟩ = some (.slice none 0 0) := j6
      have i2 : (w6.setCell ⟨w.heap.size + 1 + 1, 0, none⟩ (.slice none 0 0)).drew.frozen? ⟨w.heap.size + 1 + 1 + 1, 0, none⟩ = false := j7
      have i3 : w6.drew.cell? ⟨w.heap.size + 1 + 1, 0, none⟩ = some (.slice none 0 0) := j4
      have i4 : w6.drew.frozen? ⟨w.heap.size + 1 + 1, 0, none⟩ = false := j5
      have HJ : Hid (Blk ((w6.setCell ⟨w.heap.size + 1 + 1, 0, none⟩ (.slice none 0 0)).setCell ⟨w.heap.size + 1 + 1 + 1, 0, none⟩ (.slice a1 n c1)).drew (w.heap.size + 1 + 1) 26 #[.slice none 0 0] ∧ Blk ((w6.setCell ⟨w.heap.size + 1 + 1, 0, none⟩ (.slice none 0 0)).setCell ⟨w.heap.size + 1 + 1 + 1, 0, none⟩ (.slice a1 n c1)).drew (w.heap.size + 1 + 1 + 1) 26 #[.slice a1 n c1]) := Lib.hid ⟨j1, j2⟩
      have k1 : (w6.setCell ⟨w.heap.size + 1 + 1, 0, none⟩ (.slice none 0 0)).drew.cell? ⟨w.heap.size, 0, none⟩ = some (.slice a1 n c1) := (World.cell?_setCell_other _ _ _ _ (fun e => by have := congrArg Addr.block e; simp at this; omega)).trans q4
      have k2 : ((w6.setCell ⟨w.heap.size + 1 + 1, 0, none⟩ (.slice none 0 0)).setCell ⟨w.heap.size + 1 + 1 + 1, 0, none⟩ (.slice a1 n c1)).drew.cell? ⟨w.heap.size, 0, none⟩ = some (.slice a1 n c1) := (World.cell?_setCell_other _ _ _ _ (fun e => by have := congrArg Addr.block e; simp at this; omega)).trans k1
      clear hq6 hb6 HCm hcm j1 j2 j3 j4 j5 j6 j7 q2 q3
      go_wp2_with fail
      go_region_held3 (fun w' => w'.cell? ⟨w.heap.size, 0, none⟩ = some (.slice a1 n c1))
        (first | exact q4 | exact k1 | exact k2 | go_keep)
        (fail)
      clear k1 k2 q4
      go_wp2_with fail
      refine bodyPost_ret (res_cct rfl _ _ (w.heap.size + 1 + 1) (w.heap.size + 1 + 1 + 1) (.slice none 0 0) (.slice a1 n c1) (.bool true) rfl rfl rfl HJ.out.1 HJ.out.2) rfl ?_
      exact HR.out
    · have hge : N ≤ M := by omega
      obtain ⟨cz, hcz⟩ : ∃ cz, cmpI M N = cz := ⟨_, rfl⟩
      have hcz0 : ¬ cz < 0 := by
        rw [← hcz]
        rcases Nat.lt_or_ge N M with h | h
        · rw [cmpI_gt h]; decide
        · obtain rfl : M = N := by omega
          rw [cmpI_eq]; decide
      have Hcz := Lib.hid hcz
      clear hcz
      by_cases hm1 : m = 1
      · subst hm1
        have hNw : N < 18446744073709551616 ∧ ∃ ad, a2 = some ad ∧ ad.block < W4.heap.size ∧ W4.cell? (ad.add 0) = some (.int .u64 (N : Int)) := by
          obtain ⟨a', c'', us, he, _, hu', hw', hv, _, hlast, hnil⟩ := HBn.out
          have h1 := congrArg (fun v => match v with | Value.agg xs => xs[0]? | _ => none) he
          simp at h1
          obtain ⟨rfl, hn', rfl⟩ := h1
          obtain ⟨ad, h2, h3, h4⟩ := hu' 0 (by omega)
          have e : N = us.getD 0 0 := by
            obtain ⟨u, rfl⟩ : ∃ u, us = [u] := by
              cases us with
              | nil => simp at hn'
              | cons u r =>
                cases r with
                | nil => exact ⟨u, rfl⟩
                | cons _ _ => simp at hn'
            rw [← hv]; simp [wv]
          exact ⟨by rw [e]; exact getW hw' 0, ad, h2, h3, by rw [e]; exact h4⟩
        obtain ⟨hNB, ad2, rfl, hadl, hcN⟩ := hNw
        obtain ⟨NY, hNY⟩ : ∃ NY : Int, (N : Int) = NY := ⟨_, rfl⟩
        rw [hNY] at hcN
        have hHN := Lib.hid (And.intro hNY hNB)
        have hcN' : W4.cell? ad2 = some (.int .u64 NY) := hcN
        have h11 : ((1 : Nat) : Int) = 1 := rfl
        clear hNY hNB hcN
        go_enter Tryz.func72, Tryz.ntmps72
        go_wp2_with fail
        refine HZ.out.mono ?_
        rintro e w5 ⟨rfl, hb5⟩
        have hq5 := Hq.out.below hb5 (by omega)
        have HCm := Lib.hid (cmp_any M N _ _ w5 (HA.out.below hb5 (Nat.le_refl _)) (HBn.out.below hb5 (Nat.le_refl _)))
        have q2 : w5.cell? ⟨w.heap.size, 0, none⟩ = some (.slice a1 n c1) := hq5.b1.cell 0
        have q3 : w5.cell? ⟨w.heap.size + 1, 0, none⟩ = some (.slice (some ad2) 1 c2) := hq5.b2.cell 0
        have Hq5 := Lib.hid hq5
        have hs5 := hb5.size
        have HB5 := Lib.hid hb5
        clear hq5 hb5 HZ q1
        go_wp2_with fail
        refine HCm.out.mono ?_
        rintro e w6 ⟨rfl, hb6⟩
        rw [Hcz.out]
        have hq6 := Hq5.out.below hb6 (by omega)
        have hb46 := HB5.out.trans (hb6.mono hs5)
        have q4 : w6.cell? ⟨w.heap.size, 0, none⟩ = some (.slice a1 n c1) := hq6.b1.cell 0
        have q5 : w6.cell? ⟨w.heap.size + 1, 0, none⟩ = some (.slice (some ad2) 1 c2) := hq6.b2.cell 0
        have q6 : w6.cell? ad2 = some (.int .u64 NY) := (hb46.cell hadl).trans hcN'
        have Hq6 := Lib.hid hq6
        have hs6 := hb6.size
        have HDw : Hid (∀ wx, Below w6.heap.size w6 wx → Calls Tryz.prog 105 #[.agg #[.slice a1 n c1], .int .u64 NY] wx fun e w' => ∃ x y z, e = .returned (.tuple #[.agg #[.slice x y z], .int .u64 ((M % N : Nat) : Int)]) ∧ IsN w' (.agg #[.slice x y z]) (M / N) ∧ Below wx.heap.size wx w' ∧ Below w6.heap.size w6 w') := Lib.hid (fun wx hb => by
          have := dvw_any M N _ wx (HA.out.below (hb46.trans (hb.mono hb46.size)) (Nat.le_refl _)) hN0 hHN.out.2
          rw [hHN.out.1] at this
          refine this.mono ?_
          rintro e w' ⟨x, y, z, h1, h2, h3⟩
          exact ⟨x, y, z, h1, h2, h3, hb.trans (h3.mono hb.size)⟩)
        have HS : Hid (∀ wx, Below w6.heap.size w6 wx → wx.cell? ⟨w.heap.size, 0, none⟩ = some (.slice a1 n c1) ∧ wx.cell? ⟨w.heap.size + 1, 0, none⟩ = some (.slice (some ad2) 1 c2) ∧ wx.cell? ad2 = some (.int .u64 NY)) := Lib.hid (fun wx hb =>
          ⟨(hb.cell (p := ⟨w.heap.size, 0, none⟩) hq6.b1.lt).trans q4, (hb.cell (p := ⟨w.heap.size + 1, 0, none⟩) hq6.b2.lt).trans q5, (hb.cell (p := ad2) (by have := hb46.size; omega)).trans q6⟩)
        have hd6 : Below w6.heap.size w6 w6.drew := (Below.refl _ _).drew
        have hd6a : Below w6.heap.size w6 (w6.drew.alloc (.cells #[.slice none 0 0] 26)) := hd6.alloc (show w6.heap.size ≤ w6.drew.heap.size from Nat.le_refl _) _
        clear hq6 hb6 hb46 HCm q2 q3
        go_wp2_with fail
        go_region_held3 (fun w' => w'.cell? ⟨w.heap.size, 0, none⟩ = some (.slice a1 n c1) ∧ w'.cell? ⟨w.heap.size + 1, 0, none⟩ = some (.slice (some ad2) 1 c2) ∧ w'.cell? ad2 = some (.int .u64 NY))
          (first | exact ⟨q4, q5, q6⟩ | exact HS.out _ ‹_› | exact HS.out _ hd6a | exact HS.out _ (hb67a.1 _) | exact HS.out _ (hb67a.2 _) | go_keep)
          (first
            | (go_at_call 105; refine (HDw.out _ (by assumption)).mono ?_; rintro e w7 ⟨x1, y1, z1, rfl, hN1, hb7, hb67⟩; have hb67a := And.intro (fun o : Obj => hb67.alloc hb67.size o) (fun v : Value => hb67.setCell (p := ⟨w6.heap.size, 0, none⟩) (Nat.le_refl w6.heap.size) v); try (have hkB : Blk w7 w6.heap.size 26 #[.slice none 0 0] := (Blk.new w6.drew _ _).below hb7 (by simp); have hkBc := hkB.cell 0; have hkBf := hkB.frozen 0; simp only [List.getElem?_toArray, List.getElem?_cons_zero] at hkBc)))
        · have hk8 : Blk (w7.alloc (.cells #[.slice x1 y1 z1] 26)) w7.heap.size 26 #[.slice x1 y1 z1] := Blk.new w7 _ _
          have hb8 : Below w6.heap.size w6 (w7.alloc (.cells #[.slice x1 y1 z1] 26)) := hb67.alloc hb67.size _
          have hn8 : IsN (w7.alloc (.cells #[.slice x1 y1 z1] 26)) (.agg #[.slice x1 y1 z1]) (M / N) := hN1.below ((Below.refl _ _).alloc (Nat.le_refl _) _) (Nat.le_refl _)
          obtain ⟨W8, hW8⟩ : ∃ W8, w7.alloc (.cells #[.slice x1 y1 z1] 26) = W8 := ⟨_, rfl⟩
          obtain ⟨g, hg⟩ : ∃ g, w7.heap.size = g := ⟨_, rfl⟩
          rw [hW8] at hk8 hb8 hn8
          rw [hg] at hk8
          have hg4 : w.heap.size + 4 ≤ g := by have := hb67.size; omega
          have HN8 := Lib.hid hn8
          have Hk8 := Lib.hid hk8
          have Hq8 := Lib.hid (Hq6.out.below hb8 (by omega))
          have HW8 := Lib.hid hW8
          have Hg := Lib.hid hg
          have hs8 := hb8.size
          obtain ⟨RY, hRY⟩ : ∃ RY : Int, (M : Int) % (N : Int) = RY := ⟨_, rfl⟩
          have hRYc : ((M % N : Nat) : Int) = RY := (Int.natCast_emod M N).trans hRY
          have HOf : Hid (Calls Tryz.prog 11 #[.int .u64 RY] W8.drew fun e w' => ∃ x y z, e = .returned (.agg #[.slice x y z]) ∧ IsN w' (.agg #[.slice x y z]) (M % N) ∧ Below W8.heap.size W8 w' ∧ w'.cell? ⟨g, 0, none⟩ = some (.slice x1 y1 z1)) := Lib.hid (by
            have := of_any (M % N) (Nat.lt_trans (Nat.mod_lt _ hN0) hHN.out.2) W8.drew
            rw [hRYc] at this
            refine this.mono fun e w' h => ?_
            obtain ⟨v, h1, h2, h3⟩ := h
            obtain ⟨x, y, z, rfl⟩ := isN_form h2
            have h4 : Below W8.heap.size W8 w' := ((Below.refl _ W8).drew).trans h3
            exact ⟨x, y, z, h1, h2, h4, (Hk8.out.below h4 Hk8.out.lt).cell 0⟩)
          have l0 : W8.drew.cell? ⟨g, 0, none⟩ = some (.slice x1 y1 z1) := hk8.cell 0
          first | rw [hRY] | rw [hRYc]
          clear hk8 hb8 hn8 hW8 hg hRY hRYc q4 q5 q6 HS HDw hN1 hb7 hb67 hb67a hd6 hd6a
          go_wp2_with fail
          rw [HW8.out]
          try rw [Hg.out]
          go_region_held3 (fun w' => w'.cell? ⟨g, 0, none⟩ = some (.slice x1 y1 z1))
            (first | exact l0 | assumption | (simp; done) | go_keep)
            (first
              | (go_at_call 11; refine HOf.out.mono ?_; rintro e w9 ⟨x3, y3, z3, rfl, hN9, hb9, hc9⟩; have hq9 := Hq8.out.below hb9 (by omega); have h9 := two_stores (x1 := x1) (y1 := y1) (z1 := z1) (x3 := x3) (y3 := y3) (z3 := z3) hq9; have i1 := h9.2.2.2.1; have i2 := h9.2.2.2.2.1; have i3 := h9.2.2.2.2.2.1; have i4 := h9.2.2.2.2.2.2; have l2 := (drawn_keep (w := w) (W := w9) (x1 := x1) (y1 := y1) (z1 := z1) (x3 := x3) (y3 := y3) (z3 := z3) (p := ⟨g, 0, none⟩) hc9 (by show g ≠ _; omega) (by show g ≠ _; omega)).2.1; have l3 := (drawn_keep (w := w) (W := w9) (x1 := x1) (y1 := y1) (z1 := z1) (x3 := x3) (y3 := y3) (z3 := z3) (p := ⟨g, 0, none⟩) hc9 (by show g ≠ _; omega) (by show g ≠ _; omega)).2.2))
          have HR : Hid (DvMIs M N w (.returned (.tuple #[.agg #[.slice x1 y1 z1], .agg #[.slice x3 y3 z3], .bool true])) ((w9.setCell ⟨w.heap.size + 1 + 1, 0, none⟩ (.slice x1 y1 z1)).setCell ⟨w.heap.size + 1 + 1 + 1, 0, none⟩ (.slice x3 y3 z3))) := Lib.hid ⟨.inr ⟨hN0, x1, y1, z1, x3, y3, z3, rfl, fin_two hq9 (HN8.out.below hb9 (Nat.le_refl _)), fin_two hq9 hN9⟩, h9.2.2.1⟩
          have HJ := Lib.hid (And.intro h9.1 h9.2.1)
          clear h9 l2 l3 i1 i2 i3 i4 hq9 hN9 hb9 hc9
          go_wp2_with fail
          refine bodyPost_ret (res_cct rfl _ _ (w.heap.size + 1 + 1) (w.heap.size + 1 + 1 + 1) (.slice x1 y1 z1) (.slice x3 y3 z3) (.bool true) rfl rfl rfl HJ.out.1 HJ.out.2) rfl ?_
          exact HR.out
        · have hk8 : Blk (w7.setCell ⟨w6.heap.size, 0, none⟩ (.slice x1 y1 z1)) w6.heap.size 26 #[.slice x1 y1 z1] := by have h1 : Blk w7 w6.heap.size 26 #[.slice none 0 0] := (Blk.new w6.drew _ _).below hb7 (by simp); exact h1.set_ 0 _
          have hb8 : Below w6.heap.size w6 (w7.setCell ⟨w6.heap.size, 0, none⟩ (.slice x1 y1 z1)) := hb67.setCell (p := ⟨w6.heap.size, 0, none⟩) (Nat.le_refl w6.heap.size) _
          have hn8 : IsN (w7.setCell ⟨w6.heap.size, 0, none⟩ (.slice x1 y1 z1)) (.agg #[.slice x1 y1 z1]) (M / N) := isN_set1 hN1 (isN_box hN1 ((Blk.new w6.drew 26 #[.slice none 0 0]).below hb7 (by simp)))
          obtain ⟨W8, hW8⟩ : ∃ W8, w7.setCell ⟨w6.heap.size, 0, none⟩ (.slice x1 y1 z1) = W8 := ⟨_, rfl⟩
          obtain ⟨g, hg⟩ : ∃ g, w6.heap.size = g := ⟨_, rfl⟩
          rw [hW8] at hk8 hb8 hn8
          rw [hg] at hk8
          have hg4 : w.heap.size + 4 ≤ g := by omega
          have HN8 := Lib.hid hn8
          have Hk8 := Lib.hid hk8
          have Hq8 := Lib.hid (Hq6.out.below hb8 (by omega))
          have HW8 := Lib.hid hW8
          have Hg := Lib.hid hg
          have hs8 := hb8.size
          obtain ⟨RY, hRY⟩ : ∃ RY : Int, (M : Int) % (N : Int) = RY := ⟨_, rfl⟩
          have hRYc : ((M % N : Nat) : Int) = RY := (Int.natCast_emod M N).trans hRY
          have HOf : Hid (Calls Tryz.prog 11 #[.int .u64 RY] W8.drew fun e w' => ∃ x y z, e = .returned (.agg #[.slice x y z]) ∧ IsN w' (.agg #[.slice x y z]) (M % N) ∧ Below W8.heap.size W8 w' ∧ w'.cell? ⟨g, 0, none⟩ = some (.slice x1 y1 z1)) := Lib.hid (by
            have := of_any (M % N) (Nat.lt_trans (Nat.mod_lt _ hN0) hHN.out.2) W8.drew
            rw [hRYc] at this
            refine this.mono fun e w' h => ?_
            obtain ⟨v, h1, h2, h3⟩ := h
            obtain ⟨x, y, z, rfl⟩ := isN_form h2
            have h4 : Below W8.heap.size W8 w' := ((Below.refl _ W8).drew).trans h3
            exact ⟨x, y, z, h1, h2, h4, (Hk8.out.below h4 Hk8.out.lt).cell 0⟩)
          have l0 : W8.drew.cell? ⟨g, 0, none⟩ = some (.slice x1 y1 z1) := hk8.cell 0
          first | rw [hRY] | rw [hRYc]
          clear hk8 hb8 hn8 hW8 hg hRY hRYc q4 q5 q6 HS HDw hN1 hb7 hb67 hb67a hd6 hd6a
          go_wp2_with fail
          rw [HW8.out]
          try rw [Hg.out]
          go_region_held3 (fun w' => w'.cell? ⟨g, 0, none⟩ = some (.slice x1 y1 z1))
            (first | exact l0 | assumption | (simp; done) | go_keep)
            (first
              | (go_at_call 11; refine HOf.out.mono ?_; rintro e w9 ⟨x3, y3, z3, rfl, hN9, hb9, hc9⟩; have hq9 := Hq8.out.below hb9 (by omega); have h9 := two_stores (x1 := x1) (y1 := y1) (z1 := z1) (x3 := x3) (y3 := y3) (z3 := z3) hq9; have i1 := h9.2.2.2.1; have i2 := h9.2.2.2.2.1; have i3 := h9.2.2.2.2.2.1; have i4 := h9.2.2.2.2.2.2; have l2 := (drawn_keep (w := w) (W := w9) (x1 := x1) (y1 := y1) (z1 := z1) (x3 := x3) (y3 := y3) (z3 := z3) (p := ⟨g, 0, none⟩) hc9 (by show g ≠ _; omega) (by show g ≠ _; omega)).2.1; have l3 := (drawn_keep (w := w) (W := w9) (x1 := x1) (y1 := y1) (z1 := z1) (x3 := x3) (y3 := y3) (z3 := z3) (p := ⟨g, 0, none⟩) hc9 (by show g ≠ _; omega) (by show g ≠ _; omega)).2.2))
          have HR : Hid (DvMIs M N w (.returned (.tuple #[.agg #[.slice x1 y1 z1], .agg #[.slice x3 y3 z3], .bool true])) ((w9.setCell ⟨w.heap.size + 1 + 1, 0, none⟩ (.slice x1 y1 z1)).setCell ⟨w.heap.size + 1 + 1 + 1, 0, none⟩ (.slice x3 y3 z3))) := Lib.hid ⟨.inr ⟨hN0, x1, y1, z1, x3, y3, z3, rfl, fin_two hq9 (HN8.out.below hb9 (Nat.le_refl _)), fin_two hq9 hN9⟩, h9.2.2.1⟩
          have HJ := Lib.hid (And.intro h9.1 h9.2.1)
          clear h9 l2 l3 i1 i2 i3 i4 hq9 hN9 hb9 hc9
          go_wp2_with fail
          refine bodyPost_ret (res_cct rfl _ _ (w.heap.size + 1 + 1) (w.heap.size + 1 + 1 + 1) (.slice x1 y1 z1) (.slice x3 y3 z3) (.bool true) rfl rfl rfl HJ.out.1 HJ.out.2) rfl ?_
          exact HR.out
      · have hm1i : ((m : Int) == 1) = false := by simp; omega
        have HN2 : Hid (18446744073709551616 ≤ N) := Lib.hid (by
          obtain ⟨a', c'', us, he, _, _, _, hv, _, hlast, hnil⟩ := HBn.out
          have h1 := congrArg (fun v => match v with | Value.agg xs => xs[0]? | _ => none) he
          simp at h1
          have hne : us ≠ [] := fun e => hN (by rw [← hv, e]; rfl)
          have h2 := wv_ge hne (hlast hne)
          have h3 := List.length_pos_iff.2 hne
          have h4 := w64_le (j := 1) (k := us.length - 1) (by omega)
          rw [Nat.pow_one] at h4
          omega)
        go_enter Tryz.func72, Tryz.ntmps72
        go_wp2_with fail
        refine HZ.out.mono ?_
        rintro e w5 ⟨rfl, hb5⟩
        have hq5 := Hq.out.below hb5 (by omega)
        have HCm := Lib.hid (cmp_any M N _ _ w5 (HA.out.below hb5 (Nat.le_refl _)) (HBn.out.below hb5 (Nat.le_refl _)))
        have q2 : w5.cell? ⟨w.heap.size, 0, none⟩ = some (.slice a1 n c1) := hq5.b1.cell 0
        have q3 : w5.cell? ⟨w.heap.size + 1, 0, none⟩ = some (.slice a2 m c2) := hq5.b2.cell 0
        have Hq5 := Lib.hid hq5
        have hs5 := hb5.size
        have HB5 := Lib.hid hb5
        clear hq5 hb5 HZ q1
        go_wp2_with fail
        refine HCm.out.mono ?_
        rintro e w6 ⟨rfl, hb6⟩
        rw [Hcz.out]
        have hq6 := Hq5.out.below hb6 (by omega)
        have hb46 := HB5.out.trans (hb6.mono hs5)
        have HDl := Lib.hid (divl_any M N _ _ w6 (HA.out.below hb46 (Nat.le_refl _)) (HBn.out.below hb46 (Nat.le_refl _)) HM.out HN2.out hge)
        have q4 : w6.cell? ⟨w.heap.size, 0, none⟩ = some (.slice a1 n c1) := hq6.b1.cell 0
        have q5 : w6.cell? ⟨w.heap.size + 1, 0, none⟩ = some (.slice a2 m c2) := hq6.b2.cell 0
        have Hq6 := Lib.hid hq6
        have hs6 := hb6.size
        clear hq6 hb6 hb46 HCm q2 q3
        go_wp2_with fail
        refine HDl.out.mono ?_
        rintro e w7 ⟨x1, y1, z1, x3, y3, z3, rfl, hN1, hN3, hb7⟩
        have Hq7 := Lib.hid (Hq6.out.below hb7 (by omega))
        have HN1 := Lib.hid hN1
        have HN3 := Lib.hid hN3
        have hs7 := hb7.size
        clear HDl hb7 hN1 hN3 q4 q5
        obtain ⟨g, hg⟩ : ∃ g, w7.heap.size = g := ⟨_, rfl⟩
        obtain ⟨W8, hW8⟩ : ∃ W8, (w7.alloc (.cells #[.slice x1 y1 z1] 26)).alloc (.cells #[.slice x3 y3 z3] 26) = W8 := ⟨_, rfl⟩
        have hb8 : Below g w7 W8 := by rw [← hW8]; exact ((Below.refl _ w7).alloc (by omega) _).alloc (by simp; omega) _
        have hk1 : Blk W8 g 26 #[.slice x1 y1 z1] := by rw [← hW8, ← hg]; exact (Blk.new w7 _ _).alloc _
        have hk2 : Blk W8 (g + 1) 26 #[.slice x3 y3 z3] := by
          have := Blk.new (w7.alloc (.cells #[.slice x1 y1 z1] 26)) 26 #[.slice x3 y3 z3]
          rw [World.size_alloc, hW8, hg] at this
          exact this
        have hq8 := Hq7.out.below hb8 (by omega)
        obtain ⟨i1, i2, i3, i4, i5, i6, i7⟩ := drawn_two (x1 := x1) (y1 := y1) (z1 := z1) (x3 := x3) (y3 := y3) (z3 := z3) hq8
        obtain ⟨l1, l2, l3⟩ := drawn_keep (w := w) (x1 := x1) (y1 := y1) (z1 := z1) (x3 := x3) (y3 := y3) (z3 := z3) (p := ⟨g, 0, none⟩) (hk1.cell 0) (by show g ≠ _; omega) (by show g ≠ _; omega)
        obtain ⟨m1, m2, m3⟩ := drawn_keep (w := w) (x1 := x1) (y1 := y1) (z1 := z1) (x3 := x3) (y3 := y3) (z3 := z3) (p := ⟨g + 1, 0, none⟩) (hk2.cell 0) (by show g + 1 ≠ _; omega) (by show g + 1 ≠ _; omega)
        have hn1 := fin_two (x1 := x1) (y1 := y1) (z1 := z1) (x3 := x3) (y3 := y3) (z3 := z3) hq8 (HN1.out.below hb8 (by omega))
        have hn3 := fin_two (x1 := x1) (y1 := y1) (z1 := z1) (x3 := x3) (y3 := y3) (z3 := z3) hq8 (HN3.out.below hb8 (by omega))
        have HR : Hid (DvMIs M N w (.returned (.tuple #[.agg #[.slice x1 y1 z1], .agg #[.slice x3 y3 z3], .bool true])) ((W8.setCell ⟨w.heap.size + 1 + 1, 0, none⟩ (.slice x1 y1 z1)).setCell ⟨w.heap.size + 1 + 1 + 1, 0, none⟩ (.slice x3 y3 z3)).drew) := Lib.hid ⟨.inr ⟨hN0, x1, y1, z1, x3, y3, z3, rfl, hn1.drew2, hn3.drew2⟩, i7⟩
        have HJ := Lib.hid (And.intro i5 i6)
        have HW8 := Lib.hid hW8
        clear hq8 hb8 hk1 hk2 i5 i6 i7 hn1 hn3 HN1 HN3 hW8
        go_wp2_with fail
        rw [HW8.out]
        try rw [hg]
        go_region_held3 (fun w' => w'.cell? ⟨g, 0, none⟩ = some (.slice x1 y1 z1) ∧ w'.cell? ⟨g + 1, 0, none⟩ = some (.slice x3 y3 z3))
          (first | exact ⟨l1, m1⟩ | exact ⟨l2, m2⟩ | exact ⟨l3, m3⟩ | go_keep)
          (fail)
        clear l1 l2 l3 m1 m2 m3
        go_wp2_with fail
        refine bodyPost_ret (res_cct rfl _ _ (w.heap.size + 1 + 1) (w.heap.size + 1 + 1 + 1) (.slice x1 y1 z1) (.slice x3 y3 z3) (.bool true) rfl rfl rfl HJ.out.1 HJ.out.2) rfl ?_
        exact HR.out
end Go.Proofs.YtllmacokhjmdgaaGreatDoor
