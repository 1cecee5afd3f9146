/-
  Law 1: a divisor given back to a part of a row.
-/
import Derived.Test.YtllmacokhjmdgaaGreatDoorNTake
namespace Go.Proofs.YtllmacokhjmdgaaGreatDoor
open Go.RowKit
set_option linter.unusedVariables false
def GiveIs (B : Nat) (g n cap : Nat) (xs vs : List Nat) (i : Nat) (w : World) (e : Ending) (w' : World) : Prop :=
  ∃ (c : Nat) (ys : List Nat), e = .returned (.int .u64 (c : Int)) ∧ Ad (xs.drop i) vs (vs.length + 1) ys c ∧ w'.ownsRow B 22 1 (.slice (some ⟨g, 0, none⟩) n cap) n ((xs.take i ++ ys ++ xs.drop (i + (vs.length + 1))).map uv) ∧ Bg B g w w'
set_option maxRecDepth 100000 in
set_option maxHeartbeats 4000000 in
theorem give_any (B g n cap cc : Nat) (xs vs : List Nat) (a2 : Option Addr) (c2 i : Nat) (w : World) (hr : w.ownsRow B 22 1 (.slice (some ⟨g, 0, none⟩) n cap) n (xs.map uv)) (hwx : Wrd xs) (hwv : Wrd vs)
    (hv : ∀ k, k < vs.length → ∃ ad, a2 = some ad ∧ ad.block < B ∧ w.cell? (ad.add k) = some (.int .u64 ((vs.getD k 0 : Nat) : Int))) (hi : i + (vs.length + 1) ≤ n) (hl : vs.length ≤ 10000) :
    Calls Tryz.prog 130 #[.slice (some ⟨g, i, none⟩) (vs.length + 1) cc, .slice a2 vs.length c2] w (GiveIs B g n cap xs vs i w) := by
  obtain ⟨m, hm⟩ : ∃ m, vs.length = m := ⟨_, rfl⟩
  have hxl : xs.length = n := by have := hr.1; rw [List.length_map] at this; omega
  have Hm := Lib.hid hm; have HWx := Lib.hid hwx; have HWv := Lib.hid hwv; have Hxl := Lib.hid hxl
  have Hv := Lib.hid hv
  have HF : Hid (∀ w' bb ys, Ad (xs.drop i) vs (vs.length + 1) ys bb → w'.ownsRow B 22 1 (.slice (some ⟨g, 0, none⟩) n cap) n ((xs.take i ++ ys ++ xs.drop (i + (vs.length + 1))).map uv) → Bg B g w w' → GiveIs B g n cap xs vs i w (.returned (.int .u64 (bb : Int))) w') := Lib.hid (fun w' c ys h1 h2 h3 => ⟨c, ys, rfl, h1, h2, h3⟩)
  have HAt : Hid ((xs.take i).length = i) := Lib.hid (by rw [List.length_take]; omega)
  have H0 : Hid (Ad (xs.drop i) vs 0 [] 0) := Lib.hid ⟨rfl, fun u hu => by simp at hu, by omega, by simp [wv]⟩
  have Hr : Hid (w.ownsRow B 22 1 (.slice (some ⟨g, 0, none⟩) n cap) n ((xs.take i ++ [] ++ xs.drop (i + 0)).map uv)) := Lib.hid (by rw [List.append_nil, Nat.add_zero, List.take_append_drop]; exact hr)
  have HB0 : Hid (Bg B g w w) := Lib.hid (Bg.refl _ _ _)
  obtain ⟨ad, had⟩ : ∃ ad : Addr, (⟨g, i, none⟩ : Addr) = ad := ⟨_, rfl⟩
  have Had := Lib.hid had
  rw [hm] at hl hi ⊢
  obtain ⟨pl, hpl⟩ : ∃ pl, m + 1 = pl := ⟨_, rfl⟩
  have Hpl := Lib.hid hpl
  rw [had]
  rw [hpl] at hi ⊢
  have hmp : (m : Int) < (pl : Int) := by omega
  have hm0 : (0 : Int) ≤ (m : Int) := by omega
  clear hr hwx hwv hv hm had hxl hpl
  go_enter Tryz.func130, Tryz.ntmps130
  go_wp2_with fail
  go_loopw [5, 11] (fun cv iv wr => ∃ (k c : Nat) (ps : List Nat) (C : Int), k ≤ m ∧ iv = .int .i64 (k : Int) ∧ cv = .int .u64 C ∧ Hid (C = (c : Int)) ∧ Hid (Ad (xs.drop i) vs k ps c) ∧ Hid (wr.ownsRow B 22 1 (.slice (some ⟨g, 0, none⟩) n cap) n ((xs.take i ++ ps ++ xs.drop (i + k)).map uv)) ∧ Hid (Bg B g w wr)) (fun _ iv _ => m - (intOf iv).toNat)
  case atStart => exact ⟨0, 0, [], 0, by omega, rfl, rfl, Lib.hid rfl, H0, Hr, HB0⟩
  case round =>
    obtain ⟨k, c, ps, C, hk, rfl, rfl, hC, hA, hrow, hbel⟩ := hrel
    clear H0 Hr HB0
    have hkn : i + k < n := by have := Hpl.out; omega
    have hkx : i + k < xs.length := by rw [Hxl.out]; exact hkn
    obtain ⟨x, hx⟩ : ∃ x, (xs.drop i).getD k 0 = x := ⟨_, rfl⟩
    have hx' : xs.getD (i + k) 0 = x := by rw [← hx, List.getD_eq_getElem?_getD, List.getD_eq_getElem?_getD, List.getElem?_drop]
    have hxw : x < 18446744073709551616 := by rw [← hx']; exact getW HWx.out _
    have hyw := getW HWv.out k
    have hstep := ad_step hA.out (by rw [hx]; exact hxw) hyw
    rw [hx] at hstep
    have hcell := ou_cell hrow.out (i + k) (by rw [List.length_append, List.length_append, HAt.out, hA.out.len, List.length_drop]; omega)
    rw [mid_get HAt.out hA.out.len, hx', add_zero_off] at hcell
    have hsp : (⟨g, i + k, none⟩ : Addr) = ad.add k := by rw [← Had.out, add_off]
    obtain ⟨hbg, hgl, hfr⟩ := ou_block hrow.out
    have hfrk := hfr (i + k) hkn
    have hcle := hA.out.cle
    obtain ⟨y, hy⟩ : ∃ y, vs.getD k 0 = y := ⟨_, rfl⟩
    rw [hy] at hstep hyw
    obtain ⟨sm, hsm⟩ : ∃ sm, (x + y + c) % 18446744073709551616 = sm := ⟨_, rfl⟩
    obtain ⟨c1, hc1⟩ : ∃ c1, (x + y + c) / 18446744073709551616 = c1 := ⟨_, rfl⟩
    rw [hsm, hc1] at hstep
    have hset := ou_set hrow.out (i + k) sm hkn
    rw [mid_set HAt.out hA.out.len hkx] at hset
    have hbel2 := hbel.out.set hbg (i + k) (.int .u64 (sm : Int))
    obtain ⟨X, hX⟩ : ∃ X : Int, (x : Int) = X := ⟨_, rfl⟩
    obtain ⟨Y, hY⟩ : ∃ Y : Int, (y : Int) = Y := ⟨_, rfl⟩
    obtain ⟨SM, hSM⟩ : ∃ SM : Int, (sm : Int) = SM := ⟨_, rfl⟩
    obtain ⟨C1, hC1⟩ : ∃ C1 : Int, (c1 : Int) = C1 := ⟨_, rfl⟩
    have hadd : ∀ wx, (callFunc 104 #[.int .u64 X, .int .u64 Y, .int .u64 C]).run Tryz.prog wx = .ok (.value (.tuple #[.int .u64 SM, .int .u64 C1])) wx := fun wx => by
      have := run_add64c x y c hcle wx
      rw [hsm, hc1, hSM, hC1, hX, hY, ← hC.out] at this
      exact this
    by_cases hlt : k < m
    · have hkv : k < vs.length := by rw [Hm.out]; exact hlt
      obtain ⟨ad2, rfl, hadl, hcv⟩ := Hv.out k hkv
      have hcv' : wr.cell? (ad2.add k) = some (.int .u64 ((vs.getD k 0 : Nat) : Int)) := (hbel.out.bel.cell (by rw [add_block]; exact hadl)).trans hcv
      rw [hsp] at hcell hfrk hset hbel2
      rw [hSM] at hset hbel2
      have Hset := Lib.hid hset
      have Hbel2 := Lib.hid hbel2
      have HSt := Lib.hid hstep
      have HC1 := Lib.hid hC1.symm
      have hi0 : (0 : Int) ≤ (k : Int) := by omega
      have hi1 : (k : Int) < (m : Int) := by omega
      have hi2 : (k : Int) < (pl : Int) := by omega
      rw [hX] at hcell
      rw [hy, hY] at hcv'
      clear hstep hset hbel2 hbg hgl hfr hsp hX hY hC1 hSM hsm hc1 hx hx' hy hxw hyw hrow hbel hA hC hcv hadl hcle hkx hkv
      go_wp2_with fail
      go_roundw
      case rel => exact ⟨k + 1, _, _, C1, by omega, by go_num, rfl, HC1, HSt, Hset, Hbel2⟩
      case measure => simp [intOf]; omega
    · obtain rfl : k = m := by omega
      have hy0 : vs.getD k 0 = 0 := by rw [List.getD_eq_getElem?_getD, List.getElem?_eq_none (by rw [Hm.out]; exact Nat.le_refl _)]; rfl
      obtain rfl : y = 0 := by rw [← hy, hy0]
      obtain rfl : Y = 0 := by rw [← hY]; rfl
      have HR0 := HF.out _ c1 _ (by rw [Hm.out]; exact hstep) (by rw [Hm.out]; exact hset) hbel2
      rw [hsp] at hcell hfrk HR0
      rw [hSM, hC1] at HR0
      rw [hX] at hcell
      have HR := Lib.hid HR0
      clear HR0 HF hstep hset hbel2 hbg hgl hfr hsp hX hY hSM hC1 hsm hc1 hx hx' hy hxw hyw hrow hbel hA hC hcle hkx hy0
      go_wp2_with fail
      go_ret
      exact HR.out
end Go.Proofs.YtllmacokhjmdgaaGreatDoor
