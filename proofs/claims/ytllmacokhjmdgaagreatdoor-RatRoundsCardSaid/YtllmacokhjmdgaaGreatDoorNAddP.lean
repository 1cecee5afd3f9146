/-
  Law 1: words times a word, added to a part of a row.
-/
import Derived.Test.YtllmacokhjmdgaaGreatDoorNAdd
namespace Go.Proofs.YtllmacokhjmdgaaGreatDoor
open Go.RowKit
set_option linter.unusedVariables false
/-- What the loop keeps: ps are the words that are done, c the carry. -/
structure Ap (zs vs : List Nat) (b k : Nat) (ps : List Nat) (c : Nat) : Prop where
  len : ps.length = k
  wrd : Wrd ps
  clt : c < 18446744073709551616
  eq : wv ps + 18446744073709551616 ^ k * c = wv (zs.take k) + wv (vs.take k) * b
theorem mul_top {y b c x : Nat} (hy : y < 18446744073709551616) (hb : b < 18446744073709551616) (hc : c < 18446744073709551616) (hx : x < 18446744073709551616) : y * b + c + x ≤ 340282366920938463463374607431768211455 := by
  have h1 : y * b ≤ 18446744073709551615 * 18446744073709551615 := Nat.mul_le_mul (by omega) (by omega)
  omega
theorem ap_step {zs vs ps : List Nat} {b k c : Nat} (h : Ap zs vs b k ps c) (hb : b < 18446744073709551616) (hx : zs.getD k 0 < 18446744073709551616) (hy : vs.getD k 0 < 18446744073709551616) :
    Ap zs vs b (k + 1) (ps ++ [(vs.getD k 0 * b + c + zs.getD k 0) % 18446744073709551616]) ((vs.getD k 0 * b + c + zs.getD k 0) / 18446744073709551616) := by
  have hc := h.clt
  have he := h.eq
  have e1 := wv_take zs k
  have e2 := wv_take vs k
  generalize zs.getD k 0 = x at *
  generalize vs.getD k 0 = y at *
  have hm := mul_top hy hb hc hx
  refine ⟨by rw [List.length_append, h.len]; rfl, ?_, by omega, ?_⟩
  · intro u hu
    rcases List.mem_append.1 hu with hu | hu
    · exact h.wrd u hu
    · simp at hu; omega
  · rw [wv_append, h.len, e1, e2]
    have hd := Nat.div_add_mod (y * b + c + x) 18446744073709551616
    simp only [wv, Nat.mul_zero, Nat.add_zero]
    generalize (y * b + c + x) % 18446744073709551616 = lo at *
    generalize (y * b + c + x) / 18446744073709551616 = hi at *
    generalize hp : 18446744073709551616 ^ k = p at *
    have e3 : 18446744073709551616 ^ (k + 1) * hi = p * (18446744073709551616 * hi) := by rw [Nat.pow_succ, hp, Nat.mul_assoc]
    have e4 : p * (18446744073709551616 * hi) + p * lo = p * (y * b) + p * c + p * x := by rw [← Nat.mul_add, hd, Nat.mul_add, Nat.mul_add]
    have e5 : (wv (vs.take k) + p * y) * b = wv (vs.take k) * b + p * (y * b) := by rw [Nat.add_mul, Nat.mul_assoc]
    rw [e3, e5]
    omega
theorem mid_get {A ps xs : List Nat} {i k : Nat} (hA : A.length = i) (hp : ps.length = k) : (A ++ ps ++ xs.drop (i + k)).getD (i + k) 0 = xs.getD (i + k) 0 := by
  have hl : (A ++ ps).length = i + k := by rw [List.length_append]; omega
  rw [List.getD_eq_getElem?_getD, List.getElem?_append_right (by omega), hl, Nat.sub_self, List.getElem?_drop, List.getD_eq_getElem?_getD]
  rfl
theorem mid_set {A ps xs : List Nat} {i k : Nat} (hA : A.length = i) (hp : ps.length = k) (hk : i + k < xs.length) (v : Nat) : (A ++ ps ++ xs.drop (i + k)).set (i + k) v = A ++ (ps ++ [v]) ++ xs.drop (i + (k + 1)) := by
  have hl : (A ++ ps).length = i + k := by rw [List.length_append]; omega
  rw [List.set_append_right _ _ (by omega), hl, Nat.sub_self, List.drop_eq_getElem_cons hk]
  simp only [List.set_cons_zero, List.append_assoc, List.cons_append, List.nil_append, Nat.add_assoc]
theorem add_off (g i k : Nat) : (⟨g, i, none⟩ : Addr).add k = ⟨g, i + k, none⟩ := by
  cases k with
  | zero => rfl
  | succ k => simp [Addr.add]
def AddPIs (B : Nat) (g n cap : Nat) (xs vs : List Nat) (i b : Nat) (w : World) (e : Ending) (w' : World) : Prop :=
  ∃ (c : Nat) (ys : List Nat), e = .returned (.int .u64 (c : Int)) ∧ Ap (xs.drop i) vs b vs.length ys c ∧ w'.ownsRow B 22 1 (.slice (some ⟨g, 0, none⟩) n cap) n ((xs.take i ++ ys ++ xs.drop (i + vs.length)).map uv) ∧ Below B w w'
set_option maxRecDepth 100000 in
set_option maxHeartbeats 2000000 in
theorem addp_any (B g n cap cc : Nat) (xs vs : List Nat) (a2 : Option Addr) (c2 i b : Nat) (w : World) (hr : w.ownsRow B 22 1 (.slice (some ⟨g, 0, none⟩) n cap) n (xs.map uv)) (hwx : Wrd xs) (hwv : Wrd vs) (hb : b < 18446744073709551616)
    (hv : ∀ k, k < vs.length → ∃ ad, a2 = some ad ∧ ad.block < B ∧ w.cell? (ad.add k) = some (.int .u64 ((vs.getD k 0 : Nat) : Int))) (hi : i + vs.length ≤ n) (hl : vs.length ≤ 10000) :
    Calls Tryz.prog 108 #[.slice (some ⟨g, i, none⟩) vs.length cc, .slice a2 vs.length c2, .int .u64 (b : Int)] w (AddPIs B g n cap xs vs i b w) := by
  obtain ⟨m, hm⟩ : ∃ m, vs.length = m := ⟨_, rfl⟩
  have hxl : xs.length = n := by have := hr.1; rw [List.length_map] at this; omega
  have Hm := Lib.hid hm; have HWx := Lib.hid hwx; have HWv := Lib.hid hwv; have Hb := Lib.hid hb; have Hxl := Lib.hid hxl
  have Hv := Lib.hid hv
  have HF : Hid (∀ w' c ys, Ap (xs.drop i) vs b vs.length ys c → w'.ownsRow B 22 1 (.slice (some ⟨g, 0, none⟩) n cap) n ((xs.take i ++ ys ++ xs.drop (i + vs.length)).map uv) → Below B w w' → AddPIs B g n cap xs vs i b w (.returned (.int .u64 (c : Int))) w') := Lib.hid (fun w' c ys h1 h2 h3 => ⟨c, ys, rfl, h1, h2, h3⟩)
  have HAt : Hid ((xs.take i).length = i) := Lib.hid (by rw [List.length_take]; omega)
  have H0 : Hid (Ap (xs.drop i) vs b 0 [] 0) := Lib.hid ⟨rfl, fun u hu => by simp at hu, by omega, by simp [wv]⟩
  have Hr : Hid (w.ownsRow B 22 1 (.slice (some ⟨g, 0, none⟩) n cap) n ((xs.take i ++ [] ++ xs.drop (i + 0)).map uv)) := Lib.hid (by rw [List.append_nil, Nat.add_zero, List.take_append_drop]; exact hr)
  have HB0 : Hid (Below B w w) := Lib.hid (Below.refl _ _)
  obtain ⟨ad, had⟩ : ∃ ad : Addr, (⟨g, i, none⟩ : Addr) = ad := ⟨_, rfl⟩
  have Had := Lib.hid had
  obtain ⟨BY, hBY⟩ : ∃ BY : Int, (b : Int) = BY := ⟨_, rfl⟩
  have HBY := Lib.hid hBY
  rw [hm] at hl hi ⊢
  rw [had, hBY]
  clear hr hwx hwv hb hv hm had hBY hxl
  go_enter Tryz.func108, Tryz.ntmps108
  go_wp2_with fail
  go_loopw [7, 15] (fun cv iv wr => ∃ (k c : Nat) (ps : List Nat) (C : Int), k ≤ m ∧ iv = .int .i64 (k : Int) ∧ cv = .int .u64 C ∧ Hid (C = (c : Int)) ∧ Hid (Ap (xs.drop i) vs b k ps c) ∧ Hid (wr.ownsRow B 22 1 (.slice (some ⟨g, 0, none⟩) n cap) n ((xs.take i ++ ps ++ xs.drop (i + k)).map uv)) ∧ Hid (Below B w wr)) (fun _ iv _ => m - (intOf iv).toNat)
  case atStart => exact ⟨0, 0, [], 0, by omega, rfl, rfl, Lib.hid rfl, H0, Hr, HB0⟩
  case round =>
    obtain ⟨k, c, ps, C, hk, rfl, rfl, hC, hA, hrow, hbel⟩ := hrel
    clear H0 Hr HB0
    by_cases hlt : k < m
    · have hkn : i + k < n := by omega
      have hkx : i + k < xs.length := by rw [Hxl.out]; exact hkn
      have hkv : k < vs.length := by rw [Hm.out]; exact hlt
      obtain ⟨ad2, rfl, hadl, hcv⟩ := Hv.out k hkv
      have hcv' : wr.cell? (ad2.add k) = some (.int .u64 ((vs.getD k 0 : Nat) : Int)) := (hbel.out.cell (by rw [add_block]; exact hadl)).trans hcv
      obtain ⟨x, hx⟩ : ∃ x, (xs.drop i).getD k 0 = x := ⟨_, rfl⟩
      obtain ⟨y, hy⟩ : ∃ y, vs.getD k 0 = y := ⟨_, rfl⟩
      have hx' : xs.getD (i + k) 0 = x := by rw [← hx, List.getD_eq_getElem?_getD, List.getD_eq_getElem?_getD, List.getElem?_drop]
      have hxw : x < 18446744073709551616 := by rw [← hx', List.getD_eq_getElem?_getD, List.getElem?_eq_getElem hkx]; exact HWx.out _ (List.getElem_mem _)
      have hyw : y < 18446744073709551616 := by rw [← hy, List.getD_eq_getElem?_getD, List.getElem?_eq_getElem hkv]; exact HWv.out _ (List.getElem_mem _)
      have hstep := ap_step hA.out Hb.out (by rw [hx]; exact hxw) (by rw [hy]; exact hyw)
      rw [hx, hy] at hstep
      have hcell := ou_cell hrow.out (i + k) (by rw [List.length_append, List.length_append, HAt.out, hA.out.len, List.length_drop]; omega)
      rw [mid_get HAt.out hA.out.len, hx', add_zero_off] at hcell
      have hsp : (⟨g, i + k, none⟩ : Addr) = ad.add k := by rw [← Had.out, add_off]
      obtain ⟨hbg, hgl, hfr⟩ := ou_block hrow.out
      have hfrk := hfr (i + k) hkn
      have hset := ou_set hrow.out (i + k) ((y * b + c + x) % 18446744073709551616) hkn
      rw [mid_set HAt.out hA.out.len hkx] at hset
      have hbel2 := hbel.out.setCell (p := ⟨g, i + k, none⟩) hbg (.int .u64 (((y * b + c + x) % 18446744073709551616 : Nat) : Int))
      rw [hsp] at hcell hfrk hset hbel2
      have hclt := hA.out.clt
      have htop := mul_top hyw Hb.out hclt hxw
      have hdiv := Nat.div_add_mod (y * b) 18446744073709551616
      obtain ⟨X, hX⟩ : ∃ X : Int, (x : Int) = X := ⟨_, rfl⟩
      obtain ⟨Y, hY⟩ : ∃ Y : Int, (y : Int) = Y := ⟨_, rfl⟩
      obtain ⟨HI, hHI⟩ : ∃ HI : Int, ((y * b / 18446744073709551616 : Nat) : Int) = HI := ⟨_, rfl⟩
      obtain ⟨LO, hLO⟩ : ∃ LO : Int, ((y * b % 18446744073709551616 : Nat) : Int) = LO := ⟨_, rfl⟩
      obtain ⟨L2, hL2⟩ : ∃ L2 : Int, (((y * b + c) % 18446744073709551616 : Nat) : Int) = L2 := ⟨_, rfl⟩
      obtain ⟨O1, hO1⟩ : ∃ O1 : Int, (((y * b % 18446744073709551616 + c) / 18446744073709551616 : Nat) : Int) = O1 := ⟨_, rfl⟩
      obtain ⟨SM, hSM⟩ : ∃ SM : Int, (((y * b + c + x) % 18446744073709551616 : Nat) : Int) = SM := ⟨_, rfl⟩
      obtain ⟨O2, hO2⟩ : ∃ O2 : Int, (((x + (y * b + c) % 18446744073709551616) / 18446744073709551616 : Nat) : Int) = O2 := ⟨_, rfl⟩
      obtain ⟨H2, hH2⟩ : ∃ H2 : Int, (((y * b + c) / 18446744073709551616 : Nat) : Int) = H2 := ⟨_, rfl⟩
      obtain ⟨C1, hC1⟩ : ∃ C1 : Int, (((y * b + c + x) / 18446744073709551616 : Nat) : Int) = C1 := ⟨_, rfl⟩
      have hMul : Hid (Calls Tryz.prog 126 #[.int .u64 Y, .int .u64 BY] wr fun e w' => e = .returned (.tuple #[.int .u64 HI, .int .u64 LO]) ∧ w' = wr) := Lib.hid (by
        have := Tryz.bits_Mul64 y b hyw Hb.out wr
        rw [hHI, hLO, hY, HBY.out] at this
        exact this)
      have hadd1 : ∀ wx, (callFunc 104 #[.int .u64 LO, .int .u64 C, .int .u64 0]).run Tryz.prog wx = .ok (.value (.tuple #[.int .u64 L2, .int .u64 O1])) wx := fun wx => by
        have := run_add64c (y * b % 18446744073709551616) c 0 (by omega) wx
        rw [Nat.add_zero, hO1, hLO, ← hC.out] at this
        have e : (y * b % 18446744073709551616 + c) % 18446744073709551616 = (y * b + c) % 18446744073709551616 := by rw [Nat.mod_add_mod]
        rw [e, hL2] at this
        exact this
      have hadd2 : ∀ wx, (callFunc 104 #[.int .u64 X, .int .u64 L2, .int .u64 0]).run Tryz.prog wx = .ok (.value (.tuple #[.int .u64 SM, .int .u64 O2])) wx := fun wx => by
        have := run_add64c x ((y * b + c) % 18446744073709551616) 0 (by omega) wx
        rw [Nat.add_zero, hO2, hL2, hX] at this
        have e : (x + (y * b + c) % 18446744073709551616) % 18446744073709551616 = (y * b + c + x) % 18446744073709551616 := by rw [Nat.add_mod_mod, Nat.add_comm x]
        rw [e, hSM] at this
        exact this
      have eH2 : IntKind.u64.wrap (HI + O1) = H2 := by
        have e : y * b / 18446744073709551616 + (y * b % 18446744073709551616 + c) / 18446744073709551616 = (y * b + c) / 18446744073709551616 := by omega
        rw [← hHI, ← hO1, ← hH2, ← Int.natCast_add, e, wrapu64 _ (by omega)]
      have eC1 : IntKind.u64.wrap (H2 + O2) = C1 := by
        have e : (y * b + c) / 18446744073709551616 + (x + (y * b + c) % 18446744073709551616) / 18446744073709551616 = (y * b + c + x) / 18446744073709551616 := by omega
        rw [← hH2, ← hO2, ← hC1, ← Int.natCast_add, e, wrapu64 _ (by omega)]
      rw [hSM] at hset hbel2
      have Hset := Lib.hid hset
      have Hbel2 := Lib.hid hbel2
      have HSt := Lib.hid hstep
      have HC1 := Lib.hid hC1.symm
      have hi0 : (0 : Int) ≤ (k : Int) := by omega
      have hi1 : (k : Int) < (m : Int) := by omega
      rw [hX] at hcell
      rw [hy, hY] at hcv'
      clear hstep hset hbel2 htop hdiv hclt hbg hgl hfr hsp hX hY hHI hLO hL2 hO1 hSM hO2 hH2 hC1 hx hx' hy hxw hyw hrow hbel hA hC hcv hadl
      go_wp2_with fail
      refine hMul.out.mono ?_
      rintro e w1 ⟨rfl, rfl⟩
      clear hMul
      go_wp2_with fail
      go_roundw
      case rel => exact ⟨k + 1, _, _, C1, by omega, by go_num, rfl, HC1, HSt, Hset, Hbel2⟩
      case measure => simp [intOf]; omega
    · obtain rfl : k = m := by omega
      have HR := Lib.hid (HF.out wr c ps (by rw [Hm.out]; exact hA.out) (by rw [Hm.out]; exact hrow.out) hbel.out)
      rw [← hC.out] at HR
      clear HF hA hrow hbel hC
      go_wp2_with fail
      go_ret
      exact HR.out
end Go.Proofs.YtllmacokhjmdgaaGreatDoor
