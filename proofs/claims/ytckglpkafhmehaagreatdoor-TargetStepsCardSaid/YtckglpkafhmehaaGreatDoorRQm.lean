/-
 Law 2: the numbers of the document's own fractions.
-/
import Derived.Test.YtckglpkafhmehaaGreatDoorQTxA
namespace Go.Proofs.YtckglpkafhmehaaGreatDoor
open Go.RowKit
set_option linter.unusedVariables false
theorem sgn_num (x : Rat) : sgn (decide (x.num < 0)) x.num.natAbs = x.num := by
 unfold sgn
 by_cases h : x.num < 0 <;> simp [h] <;> omega
theorem norm_parts (n : Int) (d : Nat) (hd : d ≠ 0) : (mkRat n d).num.natAbs = n.natAbs / Nat.gcd n.natAbs d ∧ (mkRat n d).den = d / Nat.gcd n.natAbs d ∧ (n.natAbs ≠ 0 → decide ((mkRat n d).num < 0) = decide (n < 0)) := by
 rw [Rat.num_mkRat, Rat.den_mkRat, if_neg hd, if_neg hd, Nat.gcd_comm]
 have hg : 0 < Nat.gcd n.natAbs d := Nat.gcd_pos_of_pos_right _ (by omega)
 refine ⟨?_, rfl, fun hn => ?_⟩
 · rw [Int.natAbs_ediv_of_dvd (Int.ofNat_dvd_left.2 (Nat.gcd_dvd_left _ _))]
   simp
 · have hgi : (0 : Int) < ((Nat.gcd n.natAbs d : Nat) : Int) := by omega
   by_cases h : n < 0
   · rw [decide_eq_true h, decide_eq_true (Int.ediv_neg_of_neg_of_pos h hgi)]
   · rw [decide_eq_false h, decide_eq_false]
     have := Int.ediv_nonneg (a := n) (by omega) (by omega : (0:Int) ≤ ((Nat.gcd n.natAbs d : Nat) : Int))
     omega
theorem mul_mk (x y : Rat) : x * y = mkRat (sgn (decide (x.num < 0) != decide (y.num < 0)) (x.num.natAbs * y.num.natAbs)) (x.den * y.den) := by
 rw [Rat.mul_def']
 congr 1
 have h : x.num * y.num = sgn (decide (x.num < 0)) x.num.natAbs * sgn (decide (y.num < 0)) y.num.natAbs := by rw [sgn_num, sgn_num]
 rw [h]
 by_cases hx : x.num < 0 <;> by_cases hy : y.num < 0 <;> simp [hx, hy, sgn, Int.neg_mul, Int.mul_neg]
theorem neg_mk (x : Rat) : -x = mkRat (sgn (!decide (x.num < 0)) x.num.natAbs) x.den := by
 have h : sgn (!decide (x.num < 0)) x.num.natAbs = -x.num := by
  by_cases hx : x.num < 0 <;> simp [hx, sgn] <;> omega
 rw [h, ← Rat.neg_mkRat, Rat.mkRat_self]
theorem int_mk (v : Int) : ((v : Int) : Rat) = mkRat v 1 := (Rat.mkRat_one v).symm
theorem add_same (x y : Rat) (h : decide (x.num < 0) = decide (y.num < 0)) : x + y = mkRat (sgn (decide (x.num < 0)) (x.num.natAbs * y.den + y.num.natAbs * x.den)) (x.den * y.den) := by
 rw [Rat.add_def']
 congr 1
 have hx := sgn_num x; have hy := sgn_num y
 rw [← h] at hy
 generalize decide (x.num < 0) = z at *
 generalize x.num.natAbs = N at *; generalize y.num.natAbs = M at *
 rw [← hx, ← hy]
 cases z <;> simp [sgn]
 grind
theorem add_ge (x y : Rat) (h : decide (x.num < 0) ≠ decide (y.num < 0)) (hge : y.num.natAbs * x.den ≤ x.num.natAbs * y.den) : x + y = mkRat (sgn (decide (x.num < 0)) (x.num.natAbs * y.den - y.num.natAbs * x.den)) (x.den * y.den) := by
 rw [Rat.add_def']
 congr 1
 have hx := sgn_num x; have hy := sgn_num y
 have h2 : decide (y.num < 0) = !decide (x.num < 0) := by
  revert h; cases decide (x.num < 0) <;> cases decide (y.num < 0) <;> simp
 rw [h2] at hy
 generalize decide (x.num < 0) = z at *
 generalize x.num.natAbs = N at *; generalize y.num.natAbs = M at *
 rw [← hx, ← hy]
 cases z <;> simp [sgn, Int.ofNat_sub hge] <;> grind

theorem add_lt (x y : Rat) (h : decide (x.num < 0) ≠ decide (y.num < 0)) (hlt : x.num.natAbs * y.den ≤ y.num.natAbs * x.den) : x + y = mkRat (sgn (decide (y.num < 0)) (y.num.natAbs * x.den - x.num.natAbs * y.den)) (x.den * y.den) := by
 rw [Rat.add_comm, Nat.mul_comm x.den y.den]
 exact add_ge y x (fun e => h e.symm) hlt
theorem floor_mkp (x : Rat) (h : decide (x.num < 0) = false) : ((x.floor : Int) : Rat) = mkRat (sgn false (x.num.natAbs / x.den)) 1 := by
 have h' := of_decide_eq_false h
 rw [Rat.mkRat_one, Rat.floor_def, show sgn false (x.num.natAbs / x.den) = ((x.num.natAbs / x.den : Nat) : Int) from rfl, Int.natCast_ediv, Int.natAbs_of_nonneg (by omega)]
theorem floor_mkn (x : Rat) (h : decide (x.num < 0) = true) : ((x.floor : Int) : Rat) = mkRat (sgn true (x.num.natAbs / x.den + if x.num.natAbs % x.den = 0 then 0 else 1)) 1 := by
 have h' := of_decide_eq_true h
 rw [Rat.mkRat_one, Rat.floor_def]
 congr 1
 obtain ⟨N, hN⟩ : ∃ N, x.num.natAbs = N := ⟨_, rfl⟩
 have hn : x.num = -(N : Int) := by omega
 rw [hN, hn]
 have hd := x.den_pos
 have he := Nat.div_add_mod N x.den
 have hl := Nat.mod_lt N hd
 show -(N : Int) / (x.den : Int) = -((N / x.den + (if N % x.den = 0 then 0 else 1) : Nat) : Int)
 split
 · rename_i h0
   rw [Int.neg_ediv_of_dvd (Int.natCast_dvd_natCast.2 (Nat.dvd_of_mod_eq_zero h0))]
   simp
 · rename_i h0
   have hu := (Int.ediv_emod_unique (a := -(N : Int)) (b := (x.den : Int)) (q := -((N / x.den + 1 : Nat) : Int)) (r := ((x.den - N % x.den : Nat) : Int)) (by omega)).2 ⟨?_, by omega, by omega⟩
   · exact hu.1
   · have e1 : (x.den : Int) * -((N / x.den + 1 : Nat) : Int) = -(((x.den * (N / x.den) + x.den : Nat)) : Int) := by
      rw [Int.mul_neg, ← Int.natCast_mul, Nat.mul_add, Nat.mul_one]
     rw [e1]
     omega
theorem ceil_mk (x : Rat) : ((x.ceil : Int) : Rat) = -((((-x).floor : Int)) : Rat) := by rw [Rat.ceil_eq_neg_floor_neg, Rat.intCast_neg]
theorem mk_floor (n : Int) (d : Nat) (hd : d ≠ 0) : (mkRat n d).floor = n / (d : Int) := by
 rw [Rat.floor_def, Rat.num_mkRat, Rat.den_mkRat, if_neg hd, if_neg hd]
 have hg : 0 < Nat.gcd d n.natAbs := Nat.gcd_pos_of_pos_left _ (by omega)
 generalize hG : Nat.gcd d n.natAbs = G at hg ⊢
 obtain ⟨a, ha⟩ : (G : Int) ∣ n := Int.ofNat_dvd_left.2 (hG ▸ Nat.gcd_dvd_right _ _)
 obtain ⟨b, hb⟩ : G ∣ d := hG ▸ Nat.gcd_dvd_left _ _
 rw [ha, hb, Int.mul_ediv_cancel_left _ (by omega), Nat.mul_div_cancel_left _ hg, Int.natCast_mul, Int.mul_ediv_mul_of_pos _ _ (by omega)]
theorem tx_pq {s : ByteArray} {x : Rat} (h : pq s = some x) : tx x = s := by
 classical
 have hs : (if ng s then ⟨#[45]⟩ ++ bd s else bd s) = s := by
  unfold bd
  by_cases hn : ng s = true
  · rw [if_pos hn, if_pos hn]
    have hz := ng_size hn
    unfold ng at hn
    refine bytes_ext ?_
    rw [app_list]
    show [45] ++ (ByteArray.extract _ 1 _).data.toList = _
    rw [ext_list]
    have hsz : s.data.toList.length = s.size := by simp
    rw [List.take_of_length_le (by rw [List.length_drop]; omega)]
    cases hl : s.data.toList with
    | nil => rw [hl] at hn; simp [Lib.hasPrefix] at hn
    | cons b r =>
     rw [hl] at hn
     simp only [Lib.hasPrefix, List.isPrefixOf, Bool.and_true, beq_iff_eq] at hn
     rw [← hn]
     rfl
  · rw [if_neg hn, if_neg hn]
 unfold pq at h
 split at h
 · unfold pqw at h
   split at h
   · rename_i hc
     cases h
     have hw := hc.1.text
     have e : nn (bd s) = dv (bd s).data.toList := by unfold nn; rw [if_pos hc.1]
     unfold tx
     rw [if_pos (Rat.den_intCast _), Rat.num_intCast, sgn_abs]
     have hd : dg (nn (bd s)) = bd s := by rw [e]; exact hw
     rw [hd]
     have hz : (sgn (ng s) (nn (bd s)) < 0) ↔ ng s = true := by
      have := sgn_neg (z := ng s) (N := nn (bd s)) (fun h0 => by
       cases hng : ng s with
       | false => rfl
       | true => exact absurd ⟨hng, h0⟩ hc.2)
      exact ⟨fun h => by rw [← this]; exact decide_eq_true h, fun h => of_decide_eq_true (by rw [this]; exact h)⟩
     by_cases hn : ng s = true
     · rw [if_pos (hz.2 hn)]; rw [if_pos hn] at hs; exact hs
     · rw [if_neg (fun h => hn (hz.1 h))]; rw [if_neg hn] at hs; exact hs
   · cases h
 · rename_i hsl
   split at h
   · rename_i hc
     cases h
     obtain ⟨⟨w1, w2⟩, hd0, hd1, hg⟩ := hc
     obtain ⟨p1, p2⟩ := mk_parts (n := sgn (ng s) (nn (above (bd s)))) (q := nn (under (bd s))) hd0 (by rw [sgn_abs]; exact hg)
     have e1 : dg (nn (above (bd s))) = above (bd s) := by
      have e : nn (above (bd s)) = dv (above (bd s)).data.toList := by unfold nn; rw [if_pos w1]
      rw [e]; exact w1.text
     have e2 : dg (nn (under (bd s))) = under (bd s) := by
      have e : nn (under (bd s)) = dv (under (bd s)).data.toList := by unfold nn; rw [if_pos w2]
      rw [e]; exact w2.text
     have hz : (sgn (ng s) (nn (above (bd s))) < 0) ↔ ng s = true := by
      have := sgn_neg (z := ng s) (N := nn (above (bd s))) (fun h0 => by
       exfalso
       rw [h0, Nat.gcd_zero_left] at hg
       exact hd1 hg)
      exact ⟨fun h => by rw [← this]; exact decide_eq_true h, fun h => of_decide_eq_true (by rw [this]; exact h)⟩
     have hb : above (bd s) ++ (⟨#[47]⟩ ++ under (bd s)) = bd s := by
      rcases sl_cases (bd s) with h | ⟨i, h1, h2, h3, h4, h5⟩
      · exact absurd h.2.1 hsl
      · rw [h4, h5]
        have hat := Lib.indexByte_some h1
        refine bytes_ext ?_
        rw [app_list, app_list]
        show (ByteArray.extract _ 0 i).data.toList ++ ([47] ++ (ByteArray.extract _ (i + 1) _).data.toList) = _
        rw [ext_list, ext_list]
        have hsz : (bd s).data.toList.length = (bd s).size := by simp
        have ha := hat.1
        generalize (bd s).data.toList = L at *
        rw [List.drop_zero, Nat.sub_zero, List.take_of_length_le (l := L.drop (i + 1)) (by rw [List.length_drop]; omega)]
        obtain ⟨hi, hv⟩ := List.getElem?_eq_some_iff.1 ha
        have e := List.drop_eq_getElem_cons hi
        rw [hv] at e
        rw [show ([47] ++ L.drop (i + 1) : List UInt8) = L.drop i from e.symm, List.take_append_drop]
     unfold tx
     rw [p1, p2, if_neg hd1, sgn_abs, e1, e2]
     by_cases hn : ng s = true
     · rw [if_pos (hz.2 hn), ByteArray.append_assoc, hb]; rw [if_pos hn] at hs; exact hs
     · rw [if_neg (fun h => hn (hz.1 h)), hb]; rw [if_neg hn] at hs; exact hs
   · cases h
end Go.Proofs.YtckglpkafhmehaaGreatDoor
