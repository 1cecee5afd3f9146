/-
 Law 3: the exponent of a literal.
-/
import Derived.Test.YtggmnmmjmihnfaaGreatDoorDVal
import Derived.Test.YtggmnmmjmihnfaaGreatDoorShelf2
import Derived.Test.YtggmnmmjmihnfaaGreatDoorNSmall
namespace Go.Proofs.YtggmnmmjmihnfaaGreatDoor
open Go.RowKit
set_option linter.unusedVariables false
theorem below_grow (w : World) (k : Nat) (os : Array Obj) : Below w.heap.size w (Sort.grow (w.drewN k) os) :=
 ⟨rfl, rfl, rfl, by show w.heap.size ≤ (w.heap ++ os).size; simp, fun i hi => by
  show (w.heap ++ os)[i]? = w.heap[i]?
  exact Array.getElem?_append_left hi⟩
set_option maxRecDepth 100000 in
set_option maxHeartbeats 2000000 in
theorem expv_any (a : Bool) (D : ByteArray) (p : Int) (low : Bool) (es : List UInt8) (w : World) (hd : ∀ b ∈ es, isDig b) (hl : es.length ≤ 400) (htab : Tab w) :
 Calls Tryz.prog 19 #[.agg #[.bool a, .string D, .int .i64 p, .bool low, .string (bz es)]] w fun e w' => ∃ X, e = .returned (.tuple #[.int .i64 X, .bool (decide (dv es ≤ 400))]) ∧ (dv es ≤ 400 → X = sgn low (dv es)) ∧ Below w.heap.size w w' := by
 obtain ⟨t1, t2, t3, t4⟩ := tz_facts es hd
 have HTr : Hid (∀ W, Calls Tryz.prog 21 #[.string (bz es), .string ⟨#[48]⟩] W fun e w' => e = .returned (.string (bz (tz es))) ∧ w' = W) := Lib.hid (fun W => by
  have h := Tryz.strings_TrimLeft_one (bz es) 48 (by decide) W
  have hb : (bz es).data.toList = es := by unfold bz; simp
  rw [hb] at h
  exact h)
 have HIt : Hid (∀ W, Below w.heap.size w W → Calls Tryz.prog 52 #[.int .i64 400] W fun e w' => e = .returned (.string ⟨#[52, 48, 48]⟩) ∧ Below W.heap.size W w') := Lib.hid (fun W hb => (Tryz.strconv_Itoa 400 (by decide) (by decide) W (htab.below hb (Nat.le_refl _))).mono fun e w' h => by
  obtain ⟨h1, k, os, h2⟩ := h
  have e1 : (Lib.itoa 400).toArray = #[52, 48, 48] := by decide +kernel
  rw [e1] at h1
  exact ⟨h1, by rw [h2]; exact below_grow W k os⟩)
 obtain ⟨W0, hW0⟩ : ∃ W0, w.alloc (.cells #[.bool a, .string D, .int .i64 p, .bool low, .string (bz es)] 51) = W0 := ⟨_, rfl⟩
 have k0 : Blk W0 w.heap.size 51 #[.bool a, .string D, .int .i64 p, .bool low, .string (bz es)] := by rw [← hW0]; exact Blk.new w _ _
 have hb0 : Below w.heap.size w W0 := by rw [← hW0]; exact below_lit w _
 have q4 := k0.cell 4
 simp only [List.getElem?_toArray, List.getElem?_cons_zero, List.getElem?_cons_succ] at q4
 obtain ⟨V, hV⟩ : ∃ V, dv es = V := ⟨_, rfl⟩
 rw [hV] at t1 ⊢
 have hbs := bz_size (tz es)
 obtain ⟨T, hT⟩ : ∃ T, bz (tz es) = T := ⟨_, rfl⟩
 rw [hT] at HTr hbs
 have hTl : T.data.toList = tz es := by rw [← hT]; unfold bz; simp
 rw [← hTl] at t1 t2 hbs t4
 have hlt := dv_lt T.size T.data.toList (by simp) t2
 rw [t1] at hlt
 obtain ⟨n, hn⟩ : ∃ n, T.size = n := ⟨_, rfl⟩
 have Hn := Lib.hid hn; have HD := Lib.hid t2; have Ht1 := Lib.hid t1
 have HK := Lib.hid (And.intro k0 hb0)
 have HW0 := Lib.hid hW0
 have hs3 : (⟨#[52, 48, 48]⟩ : ByteArray).size = 3 := rfl
 by_cases h3 : n ≤ 3
 · have hV1000 : V < 1000 := by
    rw [hn] at hlt
    exact Nat.lt_of_lt_of_le hlt (Nat.le_trans (Nat.pow_le_pow_right (by decide) h3) (by decide))
   have hni : ¬ (3 : Int) < (n : Int) := by omega
   have hl3 : Hid (T.data.toList.length = n) := Lib.hid (by rw [← hn]; simp)
   clear hd hl htab t1 t2 t3 t4 k0 hb0 hV hbs hT hTl hlt
   go_enter Tryz.func19, Tryz.ntmps19
   go_wp2_with fail
   refine (HTr.out _).mono ?_
   rintro e w1 ⟨rfl, rfl⟩
   go_wp2_with fail
   refine (HIt.out _ HK.out.2).mono ?_
   rintro e w2 ⟨rfl, hb⟩
   have HB := Lib.hid (HK.out.2.trans (hb.mono HK.out.2.size))
   have hk2 := HK.out.1.below hb HK.out.1.lt
   have q3 := hk2.cell 3
   simp only [List.getElem?_toArray, List.getElem?_cons_zero, List.getElem?_cons_succ] at q3
   clear hb hW0 q4 hk2
   go_wp2_with fail
   go_loop [5, 17] (fun v i => ∃ (k : Nat) (Z : Int), k ≤ n ∧ i = .int .i64 (k : Int) ∧ v = .int .i64 Z ∧ Hid (Z = (dv (T.data.toList.take k) : Nat))) (fun _ i => n - (intOf i).toNat)
   case atStart => exact ⟨0, 0, by omega, rfl, rfl, Lib.hid (by simp [dv])⟩
   case round =>
    obtain ⟨k, Z, hk, rfl, rfl, hZ⟩ := hrel
    by_cases hlt : k < n
    · have hks : k < T.size := by omega
      have hat := toList_at T k hks
      obtain ⟨b, hb⟩ : ∃ b, T[k] = b := ⟨_, rfl⟩
      rw [hb] at hat
      have hdb := HD.out b (List.mem_of_getElem? hat)
      have hl : (T.data.toList.take k).length = k := by rw [List.length_take, hl3.out]; omega
      have hlt10 := dv_lt k (T.data.toList.take k) hl (fun x hx => HD.out x (List.mem_of_mem_take hx))
      have h18 : 10 ^ k ≤ 10 ^ 2 := Nat.pow_le_pow_right (by decide) (by omega)
      have e18 : (10 : Nat) ^ 2 = 100 := by decide
      have htk : T.data.toList.take (k + 1) = T.data.toList.take k ++ [b] := by rw [List.take_add_one, hat]; rfl
      obtain ⟨C, hC⟩ : ∃ C : Int, (b.toNat : Int) = C := ⟨_, rfl⟩
      obtain ⟨E, hE⟩ : ∃ E : Int, ((b.toNat - 48 : Nat) : Int) = E := ⟨_, rfl⟩
      unfold isDig at hdb
      have e1 : IntKind.u8.wrap (C - 48) = E := by
       rw [← hC, ← hE]
       simp [IntKind.wrap, IntKind.bits, IntKind.signed]; omega
      obtain ⟨V1, hV1⟩ : ∃ V1 : Int, ((dv (T.data.toList.take (k + 1)) : Nat) : Int) = V1 := ⟨_, rfl⟩
      have e2 : Z * 10 + E = V1 := by
       rw [← hV1, htk, dv_snoc, hZ.out, ← hE]
       simp
      have hi0 : (0 : Int) ≤ (k : Int) := by omega
      have hi1 : (k : Int) < (n : Int) := by omega
      have HV1 := Lib.hid hV1.symm
      have hE0 : 0 ≤ E ∧ E ≤ 9 := by omega
      obtain ⟨hE0, hE9⟩ := hE0
      have hz0 : 0 ≤ Z := by rw [hZ.out]; omega
      have hz1 : Z ≤ 100 := by rw [hZ.out]; omega
      clear hdb hlt10 h18 e18 htk hE hV1 hl hZ
      go_wp2_with fail
      go_round
      case rel => exact ⟨k + 1, V1, by omega, by go_num, rfl, HV1⟩
      case measure => simp [intOf]; omega
    · obtain rfl : k = n := by omega
      have hfin : Z = (V : Int) := by
       rw [hZ.out, ← Ht1.out, List.take_of_length_le (by rw [hl3.out]; exact Nat.le_refl _)]
      subst hfin
      clear hZ hlt
      by_cases h4 : V ≤ 400
      · have h4i : (V : Int) ≤ 400 := by omega
        have H4 := Lib.hid h4
        clear h4
        cases low with
        | false =>
         go_wp2_with fail
         go_ret2
         exact ⟨V, by rw [decide_eq_true H4.out]; first | done | rfl, fun _ => rfl, HB.out⟩
        | true =>
         go_wp2_with fail
         go_ret2
         exact ⟨-(V : Int), by rw [decide_eq_true H4.out]; first | done | rfl, fun _ => rfl, HB.out⟩
      · have h4i : ¬ (V : Int) ≤ 400 := by omega
        have H4 := Lib.hid h4
        clear h4
        cases low with
        | false =>
         go_wp2_with fail
         go_ret2
         exact ⟨V, by rw [decide_eq_false H4.out]; first | done | rfl, fun h => absurd h H4.out, HB.out⟩
        | true =>
         go_wp2_with fail
         go_ret2
         exact ⟨-(V : Int), by rw [decide_eq_false H4.out]; first | done | rfl, fun h => absurd h H4.out, HB.out⟩
 · have hge : 1000 ≤ V := by
    have h9 := dv_ge (T.size - 1) T.data.toList (by simp; omega) HD.out t4
    rw [Ht1.out] at h9
    exact Nat.le_trans (show 1000 ≤ 10 ^ (T.size - 1) from Nat.le_trans (show 1000 ≤ 10 ^ 3 by decide) (Nat.pow_le_pow_right (by decide) (by omega))) h9
   have hni : (3 : Int) < (n : Int) := by omega
   have hdec : decide (V ≤ 400) = false := decide_eq_false (by omega)
   rw [hdec]
   have hfn : Hid (¬ V ≤ 400) := Lib.hid (by omega)
   clear hd hl htab t1 t2 t3 t4 k0 hb0 hV hbs hT hTl hlt hge hdec
   go_enter Tryz.func19, Tryz.ntmps19
   go_wp2_with fail
   refine (HTr.out _).mono ?_
   rintro e w1 ⟨rfl, rfl⟩
   go_wp2_with fail
   refine (HIt.out _ HK.out.2).mono ?_
   rintro e w2 ⟨rfl, hb⟩
   have HB := Lib.hid (HK.out.2.trans (hb.mono HK.out.2.size))
   clear hb hW0 q4
   go_wp2_with fail
   go_ret2
   exact ⟨0, rfl, fun h => absurd h hfn.out, HB.out⟩
end Go.Proofs.YtggmnmmjmihnfaaGreatDoor
