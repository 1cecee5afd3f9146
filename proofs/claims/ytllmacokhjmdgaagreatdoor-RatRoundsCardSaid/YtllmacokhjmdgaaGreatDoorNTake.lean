/-
  Law 1: a divisor's product taken from a part of a row; a divisor given back.
-/
import Derived.Test.YtllmacokhjmdgaaGreatDoorNDvW
import Derived.Shelf.Spec.BitsCarry
namespace Go.Proofs.YtllmacokhjmdgaaGreatDoor
open Go.RowKit
set_option linter.unusedVariables false
theorem run_sub64c (x y b : Nat) (hb : b ≤ 1) (w : World) :
    (callFunc 131 #[.int .u64 (x : Int), .int .u64 (y : Int), .int .u64 (b : Int)]).run Tryz.prog w =
      .ok (.value (.tuple #[.int .u64 (((x + 18446744073709551616 - y - b) % 18446744073709551616 : Nat) : Int), .int .u64 ((if x < y + b then 1 else 0 : Nat) : Int)])) w := by
  rw [run_callFunc_extern Tryz.func131 (by kernel_rfl) (by kernel_rfl) (by kernel_rfl) (e := sub64Entry) (by kernel_rfl), run_sub64 x y b hb]
  rfl
/-- The block g alone is turned. -/
structure Bg (B g : Nat) (w w' : World) : Prop where
  bel : Below B w w'
  gro : w.grownBy w' (some g)
theorem Bg.refl (B g : Nat) (w : World) : Bg B g w w := ⟨Below.refl _ _, rfl, rfl, rfl, Nat.le_refl _, fun _ _ _ => rfl⟩
theorem Bg.set {B g : Nat} {w w' : World} (h : Bg B g w w') (hbg : B ≤ g) (i : Nat) (v : Value) : Bg B g w (w'.setCell ⟨g, i, none⟩ v) :=
  ⟨h.bel.setCell (p := ⟨g, i, none⟩) hbg v, h.gro.trans ⟨rfl, rfl, rfl, by simp, fun k _ hk => Below.heap_setCell _ _ _ k (fun e => hk (by rw [e]))⟩⟩
/-- What the loop keeps: ps are the words that are done, c the carry, bb the borrow. -/
structure Tp (zs vs : List Nat) (d k : Nat) (ps : List Nat) (c bb : Nat) : Prop where
  len : ps.length = k
  wrd : Wrd ps
  clt : c < 18446744073709551616
  ble : bb ≤ 1
  eq : wv ps + wv (vs.take k) * d = wv (zs.take k) + 18446744073709551616 ^ k * (c + bb)
theorem sub_word {x low bb : Nat} (hx : x < 18446744073709551616) (hl : low < 18446744073709551616) (hb : bb ≤ 1) :
    (x + 18446744073709551616 - low - bb) % 18446744073709551616 + (low + bb) = x + 18446744073709551616 * (if x < low + bb then 1 else 0) := by
  by_cases h : x < low + bb
  · rw [if_pos h, Nat.mod_eq_of_lt (by omega)]; omega
  · rw [if_neg h, show x + 18446744073709551616 - low - bb = (x - low - bb) + 18446744073709551616 by omega, Nat.add_mod_right, Nat.mod_eq_of_lt (by omega)]; omega
theorem hi_word {y d c : Nat} (hy : y < 18446744073709551616) (hd : d < 18446744073709551616) (hc : c < 18446744073709551616) : (y * d + c) / 18446744073709551616 < 18446744073709551616 := by
  rw [Nat.div_lt_iff_lt_mul (by decide)]
  have h1 : y * d ≤ y * 18446744073709551615 := Nat.mul_le_mul_left _ (by omega)
  omega
theorem tp_fin {B P df y d c bb x c' b' low A V Z wps wvs wzs Q : Nat} (h1 : wps = A + P * df) (h2 : wvs = V + P * y) (h3 : wzs = Z + P * x) (h4 : Q = P * B) (he : A + V * d = Z + P * (c + bb))
    (e3 : df + (low + bb) = x + B * b') (ht : B * c' + low = y * d + c) : wps + wvs * d = wzs + Q * (c' + b') := by
  subst h1 h2 h3 h4
  have e4 : P * df + P * (y * d) + P * (c + bb) = P * x + P * (B * c' + B * b') := by
    rw [← Nat.mul_add, ← Nat.mul_add, ← Nat.mul_add]
    congr 1
    omega
  rw [Nat.add_mul, Nat.mul_assoc P y d, Nat.mul_assoc P B, Nat.mul_add B]
  generalize P * (B * c' + B * b') = R at *
  generalize P * (y * d) = S at *
  generalize P * (c + bb) = T at *
  generalize V * d = U at *
  generalize P * df = M at *
  generalize P * x = N at *
  omega
theorem wv_snoc (ps : List Nat) (x k : Nat) (h : ps.length = k) : wv (ps ++ [x]) = wv ps + 18446744073709551616 ^ k * x := by
  rw [wv_append, h]; simp [wv]
theorem tp_step {zs vs ps : List Nat} {d k c bb : Nat} (h : Tp zs vs d k ps c bb) (hd : d < 18446744073709551616) (hx : zs.getD k 0 < 18446744073709551616) (hy : vs.getD k 0 < 18446744073709551616) :
    Tp zs vs d (k + 1) (ps ++ [(zs.getD k 0 + 18446744073709551616 - (vs.getD k 0 * d + c) % 18446744073709551616 - bb) % 18446744073709551616]) ((vs.getD k 0 * d + c) / 18446744073709551616) (if zs.getD k 0 < (vs.getD k 0 * d + c) % 18446744073709551616 + bb then 1 else 0) := by
  refine ⟨by rw [List.length_append, h.len]; rfl, fun u hu => ?_, hi_word hy hd h.clt, by split <;> omega, ?_⟩
  · rcases List.mem_append.1 hu with hu | hu
    · exact h.wrd u hu
    · rw [List.mem_singleton] at hu
      rw [hu]; exact Nat.mod_lt _ (by decide)
  · exact tp_fin (wv_snoc ps _ k h.len) (wv_take vs k) (wv_take zs k) (Nat.pow_succ _ k) h.eq (sub_word hx (Nat.mod_lt _ (by decide)) h.ble) (Nat.div_add_mod _ _)
def TakeIs (B : Nat) (g n cap : Nat) (xs vs : List Nat) (i d : Nat) (w : World) (e : Ending) (w' : World) : Prop :=
  ∃ (bb : Nat) (ys : List Nat), e = .returned (.int .u64 (bb : Int)) ∧ Tp (xs.drop i) vs d (vs.length + 1) ys 0 bb ∧ w'.ownsRow B 22 1 (.slice (some ⟨g, 0, none⟩) n cap) n ((xs.take i ++ ys ++ xs.drop (i + (vs.length + 1))).map uv) ∧ Bg B g w w'
set_option maxRecDepth 100000 in
set_option maxHeartbeats 4000000 in
theorem take_any (B g n cap cc : Nat) (xs vs : List Nat) (a2 : Option Addr) (c2 i d : Nat) (w : World) (hr : w.ownsRow B 22 1 (.slice (some ⟨g, 0, none⟩) n cap) n (xs.map uv)) (hwx : Wrd xs) (hwv : Wrd vs) (hd : d < 18446744073709551616)
    (hv : ∀ k, k < vs.length → ∃ ad, a2 = some ad ∧ ad.block < B ∧ w.cell? (ad.add k) = some (.int .u64 ((vs.getD k 0 : Nat) : Int))) (hi : i + (vs.length + 1) ≤ n) (hl : vs.length ≤ 10000) :
    Calls Tryz.prog 129 #[.slice (some ⟨g, i, none⟩) (vs.length + 1) cc, .slice a2 vs.length c2, .int .u64 (d : Int)] w (TakeIs B g n cap xs vs i d w) := by
  obtain ⟨m, hm⟩ : ∃ m, vs.length = m := ⟨_, rfl⟩
  have hxl : xs.length = n := by have := hr.1; rw [List.length_map] at this; omega
  have Hm := Lib.hid hm; have HWx := Lib.hid hwx; have HWv := Lib.hid hwv; have Hd := Lib.hid hd; have Hxl := Lib.hid hxl
  have Hv := Lib.hid hv
  have HF : Hid (∀ w' bb ys, Tp (xs.drop i) vs d (vs.length + 1) ys 0 bb → w'.ownsRow B 22 1 (.slice (some ⟨g, 0, none⟩) n cap) n ((xs.take i ++ ys ++ xs.drop (i + (vs.length + 1))).map uv) → Bg B g w w' → TakeIs B g n cap xs vs i d w (.returned (.int .u64 (bb : Int))) w') := Lib.hid (fun w' c ys h1 h2 h3 => ⟨c, ys, rfl, h1, h2, h3⟩)
  have HAt : Hid ((xs.take i).length = i) := Lib.hid (by rw [List.length_take]; omega)
  have H0 : Hid (Tp (xs.drop i) vs d 0 [] 0 0) := Lib.hid ⟨rfl, fun u hu => by simp at hu, by omega, by omega, by simp [wv]⟩
  have Hr : Hid (w.ownsRow B 22 1 (.slice (some ⟨g, 0, none⟩) n cap) n ((xs.take i ++ [] ++ xs.drop (i + 0)).map uv)) := Lib.hid (by rw [List.append_nil, Nat.add_zero, List.take_append_drop]; exact hr)
  have HB0 : Hid (Bg B g w w) := Lib.hid (Bg.refl _ _ _)
  obtain ⟨ad, had⟩ : ∃ ad : Addr, (⟨g, i, none⟩ : Addr) = ad := ⟨_, rfl⟩
  have Had := Lib.hid had
  obtain ⟨DY, hDY⟩ : ∃ DY : Int, (d : Int) = DY := ⟨_, rfl⟩
  have HDY := Lib.hid hDY
  rw [hm] at hl hi ⊢
  obtain ⟨pl, hpl⟩ : ∃ pl, m + 1 = pl := ⟨_, rfl⟩
  have hpli : (pl : Int) = (m : Int) + 1 := by omega
  have Hpl := Lib.hid hpl
  rw [had, hDY]
  rw [hpl] at hi ⊢
  have hmp : (m : Int) < (pl : Int) := by omega
  have hm0 : (0 : Int) ≤ (m : Int) := by omega
  clear hr hwx hwv hd hv hm had hDY hxl hpl hpli
  go_enter Tryz.func129, Tryz.ntmps129
  go_wp2_with fail
  go_loopw [7, 8, 17] (fun cv bv iv wr => ∃ (k c bb : Nat) (ps : List Nat) (C BB : Int), k ≤ m ∧ iv = .int .i64 (k : Int) ∧ cv = .int .u64 C ∧ bv = .int .u64 BB ∧ Hid (C = (c : Int)) ∧ Hid (BB = (bb : Int)) ∧ Hid (Tp (xs.drop i) vs d k ps c bb) ∧ Hid (wr.ownsRow B 22 1 (.slice (some ⟨g, 0, none⟩) n cap) n ((xs.take i ++ ps ++ xs.drop (i + k)).map uv)) ∧ Hid (Bg B g w wr)) (fun _ _ iv _ => m - (intOf iv).toNat)
  case atStart => exact ⟨0, 0, 0, [], 0, 0, by omega, rfl, rfl, rfl, Lib.hid rfl, Lib.hid rfl, H0, Hr, HB0⟩
  case round =>
    obtain ⟨k, c, bb, ps, C, BB, hk, rfl, rfl, rfl, hC, hBB, hA, hrow, hbel⟩ := hrel
    clear H0 Hr HB0
    have hkn : i + k < n := by have := Hpl.out; omega
    have hkx : i + k < xs.length := by rw [Hxl.out]; exact hkn
    obtain ⟨x, hx⟩ : ∃ x, (xs.drop i).getD k 0 = x := ⟨_, rfl⟩
    have hx' : xs.getD (i + k) 0 = x := by rw [← hx, List.getD_eq_getElem?_getD, List.getD_eq_getElem?_getD, List.getElem?_drop]
    have hxw : x < 18446744073709551616 := by rw [← hx']; exact getW HWx.out _
    have hyw := getW HWv.out k
    have hstep := tp_step hA.out Hd.out (by rw [hx]; exact hxw) hyw
    rw [hx] at hstep
    have hcell := ou_cell hrow.out (i + k) (by rw [List.length_append, List.length_append, HAt.out, hA.out.len, List.length_drop]; omega)
    rw [mid_get HAt.out hA.out.len, hx', add_zero_off] at hcell
    have hsp : (⟨g, i + k, none⟩ : Addr) = ad.add k := by rw [← Had.out, add_off]
    obtain ⟨hbg, hgl, hfr⟩ := ou_block hrow.out
    have hfrk := hfr (i + k) hkn
    have hble := hA.out.ble
    have hclt := hA.out.clt
    by_cases hlt : k < m
    · have hkv : k < vs.length := by rw [Hm.out]; exact hlt
      obtain ⟨ad2, rfl, hadl, hcv⟩ := Hv.out k hkv
      have hcv' : wr.cell? (ad2.add k) = some (.int .u64 ((vs.getD k 0 : Nat) : Int)) := (hbel.out.bel.cell (by rw [add_block]; exact hadl)).trans hcv
      obtain ⟨y, hy⟩ : ∃ y, vs.getD k 0 = y := ⟨_, rfl⟩
      rw [hy] at hstep hyw
      obtain ⟨low, hlow⟩ : ∃ low, (y * d + c) % 18446744073709551616 = low := ⟨_, rfl⟩
      rw [hlow] at hstep
      obtain ⟨df, hdf⟩ : ∃ df, (x + 18446744073709551616 - low - bb) % 18446744073709551616 = df := ⟨_, rfl⟩
      obtain ⟨b1, hb1⟩ : ∃ b1, (if x < low + bb then 1 else 0) = b1 := ⟨_, rfl⟩
      rw [hdf, hb1] at hstep
      have hset := ou_set hrow.out (i + k) df hkn
      rw [mid_set HAt.out hA.out.len hkx] at hset
      have hbel2 := hbel.out.set hbg (i + k) (.int .u64 (df : Int))
      rw [hsp] at hcell hfrk hset hbel2
      have hydm : y * d ≤ 18446744073709551615 * 18446744073709551615 := Nat.mul_le_mul (by omega) (by have := Hd.out; omega)
      have hdiv := Nat.div_add_mod (y * d) 18446744073709551616
      obtain ⟨X, hX⟩ : ∃ X : Int, (x : Int) = X := ⟨_, rfl⟩
      obtain ⟨Y, hY⟩ : ∃ Y : Int, (y : Int) = Y := ⟨_, rfl⟩
      obtain ⟨HI, hHI⟩ : ∃ HI : Int, ((y * d / 18446744073709551616 : Nat) : Int) = HI := ⟨_, rfl⟩
      obtain ⟨LO, hLO⟩ : ∃ LO : Int, ((y * d % 18446744073709551616 : Nat) : Int) = LO := ⟨_, rfl⟩
      obtain ⟨L2, hL2⟩ : ∃ L2 : Int, (low : Int) = L2 := ⟨_, rfl⟩
      obtain ⟨O1, hO1⟩ : ∃ O1 : Int, (((y * d % 18446744073709551616 + c) / 18446744073709551616 : Nat) : Int) = O1 := ⟨_, rfl⟩
      obtain ⟨C1, hC1⟩ : ∃ C1 : Int, (((y * d + c) / 18446744073709551616 : Nat) : Int) = C1 := ⟨_, rfl⟩
      obtain ⟨DF, hDF⟩ : ∃ DF : Int, (df : Int) = DF := ⟨_, rfl⟩
      obtain ⟨B1, hB1⟩ : ∃ B1 : Int, (b1 : Int) = B1 := ⟨_, rfl⟩
      have hMul : Hid (Calls Tryz.prog 126 #[.int .u64 Y, .int .u64 DY] wr fun e w' => e = .returned (.tuple #[.int .u64 HI, .int .u64 LO]) ∧ w' = wr) := Lib.hid (by
        have := Tryz.bits_Mul64 y d hyw Hd.out wr
        rw [hHI, hLO, hY, HDY.out] at this
        exact this)
      have hadd : ∀ wx, (callFunc 104 #[.int .u64 LO, .int .u64 C, .int .u64 0]).run Tryz.prog wx = .ok (.value (.tuple #[.int .u64 L2, .int .u64 O1])) wx := fun wx => by
        have := run_add64c (y * d % 18446744073709551616) c 0 (by omega) wx
        rw [Nat.add_zero, hO1, hLO, ← hC.out] at this
        have e : (y * d % 18446744073709551616 + c) % 18446744073709551616 = low := by rw [Nat.mod_add_mod, hlow]
        rw [e, hL2] at this
        exact this
      have hsub : ∀ wx, (callFunc 131 #[.int .u64 X, .int .u64 L2, .int .u64 BB]).run Tryz.prog wx = .ok (.value (.tuple #[.int .u64 DF, .int .u64 B1])) wx := fun wx => by
        have := run_sub64c x low bb hble wx
        rw [hdf, hb1, hDF, hB1, hX, hL2, ← hBB.out] at this
        exact this
      have eC1 : IntKind.u64.wrap (HI + O1) = C1 := by
        have e : y * d / 18446744073709551616 + (y * d % 18446744073709551616 + c) / 18446744073709551616 = (y * d + c) / 18446744073709551616 := by omega
        rw [← hHI, ← hO1, ← hC1, ← Int.natCast_add, e, wrapu64 _ (by omega)]
      rw [hDF] at hset hbel2
      have Hset := Lib.hid hset
      have Hbel2 := Lib.hid hbel2
      have HSt := Lib.hid hstep
      have HC1 := Lib.hid hC1.symm
      have HB1 := Lib.hid hB1.symm
      have hi0 : (0 : Int) ≤ (k : Int) := by omega
      have hi1 : (k : Int) < (m : Int) := by omega
      have hi2 : (k : Int) < (pl : Int) := by omega
      rw [hX] at hcell
      rw [hy, hY] at hcv'
      clear hstep hset hbel2 hydm hdiv hclt hbg hgl hfr hsp hX hY hHI hLO hL2 hO1 hC1 hDF hB1 hdf hb1 hlow hx hx' hy hxw hyw hrow hbel hA hC hBB hcv hadl hble hkx hkv
      go_wp2_with fail
      refine hMul.out.mono ?_
      rintro e w1 ⟨rfl, rfl⟩
      clear hMul
      go_wp2_with fail
      go_roundw
      case rel => exact ⟨k + 1, _, b1, _, C1, B1, by omega, by go_num, rfl, rfl, HC1, HB1, HSt, Hset, Hbel2⟩
      case measure => simp [intOf]; omega
    · obtain rfl : k = m := by omega
      have hy0 : vs.getD k 0 = 0 := by rw [List.getD_eq_getElem?_getD, List.getElem?_eq_none (by rw [Hm.out]; exact Nat.le_refl _)]; rfl
      rw [hy0, Nat.zero_mul, Nat.zero_add, Nat.mod_eq_of_lt hclt, Nat.div_eq_of_lt hclt] at hstep
      obtain ⟨df, hdf⟩ : ∃ df, (x + 18446744073709551616 - c - bb) % 18446744073709551616 = df := ⟨_, rfl⟩
      obtain ⟨b1, hb1⟩ : ∃ b1, (if x < c + bb then 1 else 0) = b1 := ⟨_, rfl⟩
      rw [hdf, hb1] at hstep
      have hset := ou_set hrow.out (i + k) df hkn
      rw [mid_set HAt.out hA.out.len hkx] at hset
      have hbel2 := hbel.out.set hbg (i + k) (.int .u64 (df : Int))
      have HR0 := HF.out _ b1 _ (by rw [Hm.out]; exact hstep) (by rw [Hm.out]; exact hset) hbel2
      rw [hsp] at hcell hfrk HR0
      obtain ⟨X, hX⟩ : ∃ X : Int, (x : Int) = X := ⟨_, rfl⟩
      obtain ⟨DF, hDF⟩ : ∃ DF : Int, (df : Int) = DF := ⟨_, rfl⟩
      obtain ⟨B1, hB1⟩ : ∃ B1 : Int, (b1 : Int) = B1 := ⟨_, rfl⟩
      have hsub : ∀ wx, (callFunc 131 #[.int .u64 X, .int .u64 C, .int .u64 BB]).run Tryz.prog wx = .ok (.value (.tuple #[.int .u64 DF, .int .u64 B1])) wx := fun wx => by
        have := run_sub64c x c bb hble wx
        rw [hdf, hb1, hDF, hB1, hX, ← hC.out, ← hBB.out] at this
        exact this
      rw [hDF, hB1] at HR0
      rw [hX] at hcell
      have HR := Lib.hid HR0
      clear HR0 HF hstep hset hbel2 hbg hgl hfr hsp hX hDF hB1 hdf hb1 hx hx' hxw hyw hrow hbel hA hC hBB hble hclt hkx hy0
      go_wp2_with fail
      go_ret
      exact HR.out
end Go.Proofs.YtllmacokhjmdgaaGreatDoor
