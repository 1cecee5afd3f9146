/-
 Law 3: how many places the document says that a fraction needs.
-/
import Derived.Test.YtggmnmmjmihnfaaGreatDoorDPlc
import Derived.Test.YtggmnmmjmihnfaaGreatDoorRQb
namespace Go.Proofs.YtggmnmmjmihnfaaGreatDoor
open Go.RowKit
set_option linter.unusedVariables false
theorem rplc_of {D M M2 k j : Nat} (h1 : tk 2 D = (M, k)) (h2 : tk 5 M = (M2, j)) : rst D = M2 ∧ plc D = max k j := by
 unfold rst plc
 rw [h1]
 show (tk 5 M).1 = M2 ∧ max k (tk 5 M).2 = max k j
 rw [h2]
 exact ⟨rfl, rfl⟩
theorem tk_lim {p N : Nat} (K : Nat) (hp : 2 ≤ p) (h0 : N ≠ 0) (hN : N < 10000 ^ K) : (tk p N).2 < 14 * K := by
 have h1 := tk_pow_le hp h0
 have h2 : 2 ^ (tk p N).2 ≤ p ^ (tk p N).2 := Nat.pow_le_pow_left hp _
 have h3 : 10000 ^ K ≤ (2 ^ 14) ^ K := Nat.pow_le_pow_left (by decide) K
 rw [← Nat.pow_mul] at h3
 exact (Nat.pow_lt_pow_iff_right (by decide)).1 (Nat.lt_of_le_of_lt h2 (Nat.lt_of_le_of_lt h1 (Nat.lt_of_lt_of_le hN h3)))
/-- What the document's Places tells. -/
def RpIs (d : Nat) (w : World) (e : Ending) (w' : World) : Prop := e = .returned (.tuple #[.int .i64 ((plc d : Nat) : Int), .bool (decide (rst d = 1))]) ∧ Below w.heap.size w w'
set_option maxRecDepth 100000 in
set_option maxHeartbeats 8000000 in
theorem rplaces_any (x : Rat) (va : Value) (w : World) (ha : RQ w va x) (hx : x.den < 10000 ^ 100) : Calls Tryz.prog 11 #[va] w (RpIs x.den w) := by
 have hR := ha
 obtain ⟨p, n, c, p', n', c', rfl, h1, h2⟩ := ha
 have hD0 : x.den ≠ 0 := x.den_nz
 obtain ⟨D, hD⟩ : ∃ D, x.den = D := ⟨_, rfl⟩
 obtain ⟨zs, hz⟩ : ∃ z, decide (x.num < 0) = z := ⟨_, rfl⟩
 rw [hD] at h2 hD0 hx
 have V0 := (Dq.refl w).alloc 34 #[.bool zs, .slice p n c, .slice p' n' c']
 rw [hz, hD]
 obtain ⟨K, hK⟩ : ∃ K, (tk 2 D).2 = K := ⟨_, rfl⟩
 have hK4 : K ≤ 1400 := by rw [← hK]; have := tk_lim 100 (p := 2) (by omega) hD0 hx; omega
 have hDr : Hid (RN (w.alloc (.cells #[.bool zs, .slice p n c, .slice p' n' c'] 34)) (.slice p' n' c') D) := Lib.hid (h2.below (below_lit w _) (Nat.le_refl _))
 have HD := Lib.hid (And.intro hD0 hx)
 have HK := Lib.hid hK
 have r0 := V0.c0 0 rfl; have r1 := V0.c1 0 rfl; have r2 := V0.c2 0 rfl
 have HB0 := Lib.hid V0.bel
 clear V0 h1 h2 hR hD hz hK hD0 hx
 go_enter Tryz.func11, Tryz.ntmps11
 go_wp2_with fail
 clear r0 r1 r2
 go_loopw [4, 5, 7, 8] (fun av kv _ _ wr => ∃ (M k n : Nat) (a : Option Addr) (c : Nat), k ≤ K ∧ av = .slice a n c ∧ kv = .int .i64 (k : Int) ∧ Hid (RN wr (.slice a n c) M) ∧ Hid (tk 2 D = ((tk 2 M).1, (tk 2 M).2 + k)) ∧ Hid (M ≠ 0 ∧ M ≤ D) ∧ Hid (Below w.heap.size w wr)) (fun _ kv _ _ _ => K - (intOf kv).toNat)
 case atStart => exact ⟨D, 0, n', p', c', by omega, rfl, rfl, hDr, Lib.hid rfl, Lib.hid ⟨HD.out.1, Nat.le_refl _⟩, HB0⟩
 case round =>
  clear hDr HB0
  obtain ⟨M, k, n, a, c, hk, rfl, rfl, hv, htk, hM, hbel⟩ := hrel
  have HDv := Lib.hid (div_lit M 2 _ wr hv.out (pow_up 100 9000 (Nat.lt_of_le_of_lt hM.out.2 HD.out.2) (by omega)) (by omega) (by omega))
  by_cases h0 : M % 2 = 0
  · have hgo := tk_go hM.out.1 (show 2 ≤ 2 by omega) h0
    have Htk : Hid (tk 2 D = ((tk 2 (M / 2)).1, (tk 2 (M / 2)).2 + (k + 1))) := Lib.hid (by rw [htk.out, hgo]; show ((tk 2 (M / 2)).1, (tk 2 (M / 2)).2 + 1 + k) = _; congr 1; omega)
    have HM : Hid (M / 2 ≠ 0 ∧ M / 2 ≤ D) := Lib.hid (by have := hM.out; omega)
    have hk1 : k + 1 ≤ K := by have h5 := Htk.out; have h6 := HK.out; rw [h5] at h6; show k + 1 ≤ K; have h7 : (tk 2 (M / 2)).2 + (k + 1) = K := h6; omega
    clear htk hM hv hgo
    go_wp2_with fail
    refine HDv.out.mono ?_
    rintro e w3 ⟨v1, v2, rfl, hq, hr, hb⟩
    have Hq := Lib.hid hq
    have Hb := Lib.hid (hbel.out.trans (hb.mono hbel.out.size))
    obtain ⟨a3, n3, c3, rfl, _, _⟩ := rn_form hq
    obtain ⟨a4, n4, c4, rfl, _, hz4⟩ := rn_form hr
    obtain rfl : n4 = 0 := hz4.2 h0
    clear hq hr hb HDv hbel hz4 h0
    go_wp2_with fail
    go_roundw
    case rel => first | exact ⟨M / 2, k + 1, n3, a3, c3, hk1, rfl, by go_num, Hq, Htk, HM, Hb⟩ | ((repeat apply Exists.intro); exact ⟨⟨M / 2, k + 1, n3, a3, c3, hk1, rfl, by go_num, Hq, Htk, HM, Hb⟩, rfl⟩)
    case measure => simp [intOf]; omega
  · have Htk : Hid (tk 2 D = (M, k)) := Lib.hid (by rw [htk.out, tk_stop h0]; show (M, 0 + k) = (M, k); rw [Nat.zero_add])
    obtain ⟨J, hJ⟩ : ∃ J, (tk 5 M).2 = J := ⟨_, rfl⟩
    have hJ4 : J ≤ 1400 := by rw [← hJ]; have := tk_lim 100 (p := 5) (by omega) hM.out.1 (Nat.lt_of_le_of_lt hM.out.2 HD.out.2); omega
    have HJ := Lib.hid hJ
    have Hn0 : Hid (M % 2 ≠ 0) := Lib.hid h0
    clear htk hJ h0
    go_wp2_with fail
    refine HDv.out.mono ?_
    rintro e w3 ⟨v1, v2, rfl, hq, hr, hb⟩
    have HV : Hid (RN w3 (.slice a n c) M) := Lib.hid (hv.out.below hb (Nat.le_refl _))
    have Hb := Lib.hid (hbel.out.trans (hb.mono hbel.out.size))
    obtain ⟨a3, n3, c3, rfl, _, _⟩ := rn_form hq
    obtain ⟨a4, n4, c4, rfl, _, hz4⟩ := rn_form hr
    have hn4 : (0 : Int) < (n4 : Int) := by
     have : n4 ≠ 0 := fun h => Hn0.out (hz4.1 h)
     omega
    clear hq hr hb HDv hbel hz4 hv
    go_wp2_with fail
    have hd4 : decide (0 < n4) = true := decide_eq_true (by omega)
    simp only [hd4]
    clear hn4 hd4
    go_loopw [4, 6, 9, 10] (fun av jv _ _ ws => ∃ (M2 j n : Nat) (a : Option Addr) (c : Nat), j ≤ J ∧ av = .slice a n c ∧ jv = .int .i64 (j : Int) ∧ Hid (RN ws (.slice a n c) M2) ∧ Hid (tk 5 M = ((tk 5 M2).1, (tk 5 M2).2 + j)) ∧ Hid (M2 ≠ 0 ∧ M2 ≤ D) ∧ Hid (Below w.heap.size w ws)) (fun _ jv _ _ _ => J - (intOf jv).toNat)
    case atStart => exact ⟨M, 0, n, a, c, by omega, rfl, rfl, HV, Lib.hid rfl, hM, Hb⟩
    case round =>
     clear HV Hb
     obtain ⟨M2, j, n2, a2, c2, hj, rfl, rfl, hv, htk, hM2, hbel⟩ := hrel
     have HDv := Lib.hid (div_lit M2 5 _ wr hv.out (pow_up 100 9000 (Nat.lt_of_le_of_lt hM2.out.2 HD.out.2) (by omega)) (by omega) (by omega))
     by_cases h0 : M2 % 5 = 0
     · have hgo := tk_go hM2.out.1 (show 2 ≤ 5 by omega) h0
       have Htk5 : Hid (tk 5 M = ((tk 5 (M2 / 5)).1, (tk 5 (M2 / 5)).2 + (j + 1))) := Lib.hid (by rw [htk.out, hgo]; show ((tk 5 (M2 / 5)).1, (tk 5 (M2 / 5)).2 + 1 + j) = _; congr 1; omega)
       have HM : Hid (M2 / 5 ≠ 0 ∧ M2 / 5 ≤ D) := Lib.hid (by have := hM2.out; omega)
       have hk1 : j + 1 ≤ J := by have h5 := Htk5.out; have h6 := HJ.out; rw [h5] at h6; have h7 : (tk 5 (M2 / 5)).2 + (j + 1) = J := h6; omega
       clear htk hM2 hv hgo
       go_wp2_with fail
       refine HDv.out.mono ?_
       rintro e w5 ⟨v1, v2, rfl, hq, hr, hb⟩
       have Hq := Lib.hid hq
       have Hb := Lib.hid (hbel.out.trans (hb.mono hbel.out.size))
       obtain ⟨a3, n3, c3, rfl, _, _⟩ := rn_form hq
       obtain ⟨a4, n4, c4, rfl, _, hz4⟩ := rn_form hr
       obtain rfl : n4 = 0 := hz4.2 h0
       clear hq hr hb HDv hbel hz4 h0
       go_wp2_with fail
       go_roundw
       case rel => first | exact ⟨M2 / 5, j + 1, n3, a3, c3, hk1, rfl, by go_num, Hq, Htk5, HM, Hb⟩ | ((repeat apply Exists.intro); exact ⟨⟨M2 / 5, j + 1, n3, a3, c3, hk1, rfl, by go_num, Hq, Htk5, HM, Hb⟩, rfl⟩)
       case measure => simp [intOf]; omega
     · have Htk5 : Hid (tk 5 M = (M2, j)) := Lib.hid (by rw [htk.out, tk_stop h0]; show (M2, 0 + j) = (M2, j); rw [Nat.zero_add])
       have Hn5 : Hid (M2 % 5 ≠ 0) := Lib.hid h0
       clear htk h0
       go_wp2_with fail
       refine HDv.out.mono ?_
       rintro e w5 ⟨v1, v2, rfl, hq, hr, hb⟩
       have hV5 := hv.out.below hb (Nat.le_refl _)
       have hb5 := hbel.out.trans (hb.mono hbel.out.size)
       obtain ⟨a3, n3, c3, rfl, _, _⟩ := rn_form hq
       obtain ⟨a4, n4, c4, rfl, _, hz4⟩ := rn_form hr
       have hn4 : (0 : Int) < (n4 : Int) := by
        have : n4 ≠ 0 := fun h => Hn5.out (hz4.1 h)
        omega
       obtain ⟨MX, hMX⟩ : ∃ x : Int, max (k : Int) (j : Int) = x := ⟨_, rfl⟩
       have hof := rplc_of Htk.out Htk5.out
       have HRes : Hid (MX = ((plc D : Nat) : Int) ∧ (cmpI M2 1 == 0) = decide (rst D = 1)) := Lib.hid ⟨by rw [hof.2, ← hMX]; omega, by rw [hof.1, cmpI_zero]⟩
       have HCm := Lib.hid (rcmp_any M2 1 (.slice a2 n2 c2) (.slice (some ⟨w5.heap.size, 0, none⟩) 1 1) (w5.alloc (.cells #[.int .i64 1] 3)) (hV5.below (below_lit w5 _) (Nat.le_refl _)) (rn_lit w5 (d := 1) (by omega) (by omega)) (pow_up 100 9000 (Nat.lt_of_le_of_lt hM2.out.2 HD.out.2) (by omega)) (d_pos 9000 (by omega) (by omega)))
       have Hb5 := Lib.hid hb5
       obtain ⟨CB, hCB⟩ : ∃ x, cmpI M2 1 = x := ⟨_, rfl⟩
       unfold CmpIs at HCm
       rw [hCB] at HCm HRes
       clear hq hr hb HDv hbel hz4 hv hV5 hb5 hof hM2 hCB
       go_wp2_with fail
       refine HCm.out.mono ?_
       rintro e w6 ⟨rfl, hb⟩
       have HE := Lib.hid (Hb5.out.trans (((below_lit w5 _).trans (hb.mono (by rw [World.size_alloc]; omega))).mono Hb5.out.size))
       clear hb HCm Hb5
       go_wp2_with fail
       go_ret2
       exact ⟨by rw [HRes.out.1, HRes.out.2]; rfl, HE.out⟩
end Go.Proofs.YtggmnmmjmihnfaaGreatDoor
