/-
 Law 2: the document's own fractions: what it reads of a text.
-/
import Derived.Test.YtggmnmmjmihnfaaGreatDoorRQe
import Derived.Test.YtggmnmmjmihnfaaGreatDoorRQs
namespace Go.Proofs.YtggmnmmjmihnfaaGreatDoor
open Go.RowKit
set_option linter.unusedVariables false
theorem ten_4 {n k : Nat} (h : n ≤ 4 * k) : 10 ^ n ≤ 10000 ^ k := by
 refine Nat.le_trans (Nat.pow_le_pow_right (by decide) h) ?_
 rw [Nat.pow_mul]
 exact Nat.le_refl _
theorem nn_ltd {s : ByteArray} {k : Nat} (hs : s.size ≤ 4 * k) : nn s < 10000 ^ k := by
 unfold nn
 split
 · rename_i h
   exact Nat.lt_of_lt_of_le (dv_lt s.size s.data.toList (by simp) h.dig) (ten_4 hs)
 · exact Nat.pow_pos (by decide)
/-- The texts above and below the line, where one is missing it is 1. -/
def under1 (s : ByteArray) : ByteArray := if sl s = none then ⟨#[49]⟩ else under s
theorem dg_1 : dg 1 = ⟨#[49]⟩ := by rw [dg_one (by omega)]; rfl
theorem wf_one : WF ⟨#[49]⟩ := by
 have := dg_wf 1
 rwa [dg_1] at this
theorem nn_one : nn ⟨#[49]⟩ = 1 := by
 have := dg_nn 1
 rwa [dg_1] at this
theorem under1_size {s : ByteArray} {n : Nat} (h : s.size ≤ n) (h1 : 1 ≤ n) : (under1 s).size ≤ n := by
 unfold under1
 split
 · exact h1
 · exact Nat.le_trans (under_size s) h
/-- What is read is so made. -/
theorem pq_ok {s : ByteArray} {x : Rat} (h : pq s = some x) : WF (above (bd s)) ∧ WF (under1 (bd s)) ∧ nn (under1 (bd s)) ≠ 0 ∧ x = mkRat (sgn (ng s) (nn (above (bd s)))) (nn (under1 (bd s))) := by
 classical
 unfold pq at h
 unfold under1
 split at h
 · rename_i hs
   rw [if_pos hs, nn_one]
   have ha : above (bd s) = bd s := by unfold above; rw [hs]
   rw [ha]
   unfold pqw at h
   split at h
   · rename_i hc
     cases h
     exact ⟨hc.1, wf_one, by omega, (Rat.mkRat_one _).symm⟩
   · cases h
 · rename_i hs
   rw [if_neg hs]
   split at h
   · rename_i hc
     cases h
     exact ⟨hc.1.1, hc.1.2, hc.2.1, rfl⟩
   · cases h
theorem pqd_sz19 {s : ByteArray} {k : Nat} (hs : s.size ≤ 19 * k) (hk : 1 ≤ k) : Sz k ((pq s).getD 0) := by
 cases h : pq s with
 | none => exact sz_zero k hk
 | some x => exact pq_sz19 h hs hk
theorem pq_szd {s : ByteArray} {x : Rat} {k : Nat} (h : pq s = some x) (hs : s.size ≤ 4 * k) (hk : 1 ≤ k) : SzD k x := by
 obtain ⟨_, _, h0, rfl⟩ := pq_ok h
 have hb := bd_size s
 have ha := above_size (bd s)
 exact szd_mk h0 (by rw [sgn_abs]; exact nn_ltd (by omega)) (nn_ltd (under1_size (by omega) (by omega)))
theorem pqd_szd {s : ByteArray} {k : Nat} (hs : s.size ≤ 4 * k) (hk : 1 ≤ k) : SzD k ((pq s).getD 0) := by
 cases h : pq s with
 | none => exact ⟨Nat.pow_pos (by decide), Nat.one_lt_pow (by omega) (by decide)⟩
 | some x => exact pq_szd h hs hk
theorem cmpQ_zero {x y : Rat} : cmpQ x y = 0 ↔ x = y := by
 refine ⟨fun h => ?_, fun h => by rw [h, cmpQ_eq]⟩
 by_cases h1 : x < y
 · rw [cmpQ_lt h1] at h; cases h
 · by_cases h2 : y < x
   · rw [cmpQ_gt h2] at h; cases h
   · exact Rat.le_antisymm (Rat.not_lt.1 h2) (Rat.not_lt.1 h1)
theorem dg_onez {N : Nat} : dg N = ⟨#[49]⟩ ↔ N = 1 := by
 have h1 : dg 1 = ⟨#[49]⟩ := by rw [dg_one (by omega)]; rfl
 refine ⟨fun h => ?_, fun h => by rw [h]; exact h1⟩
 have := dg_nn N
 rw [h, nn_one] at this
 exact this.symm
theorem isLen_le2 {N L m : Nat} (h : IsLen N L) (hN : N < 2 ^ m) : L ≤ m := by
 rcases Nat.lt_or_ge m L with hlt | hge
 · exfalso
   have h1 := h.le (by omega)
   have h2 : 2 ^ m ≤ 2 ^ (L - 1) := Nat.pow_le_pow_right (by omega) (by omega)
   omega
 · exact hge
theorem isLen_w {N L k : Nat} (h : IsLen N L) (hN : N < 18446744073709551616 ^ k) : L ≤ 64 * k := isLen_le2 h (by rw [Nat.pow_mul]; exact hN)
set_option maxRecDepth 100000 in
set_option maxHeartbeats 8000000 in
theorem long_any (N : Nat) (va : Value) (w : World) (ha : IsN w va N) (hN : N < 18446744073709551616 ^ 50) : Calls Tryz.prog 77 #[va] w fun e w' => e = .returned (.bool false) ∧ Below w.heap.size w w' := by
 have HB : Hid (∀ W v, IsN W v N → Calls Tryz.prog 91 #[v] W fun e w' => ∃ L : Nat, e = .returned (.int .i64 (L : Int)) ∧ L ≤ 3200 ∧ Below W.heap.size W w') := Lib.hid (fun W v h => (bits_any N v W h).mono fun e w' h' => by
  obtain ⟨L, h3, h4, _, h5⟩ := h'
  exact ⟨L, h3, by have := isLen_w h4 hN; omega, h5⟩)
 obtain ⟨a, n, c, rfl⟩ := isN_form ha
 have V := ((Mq.refl w).cons ha (Nat.lt_of_lt_of_le hN (w64_mono (by omega)))).alloc 25 #[.slice a n c]
 have q0 := V.n0 0 rfl
 clear ha hN
 go_enter Tryz.func77, Tryz.ntmps77
 go_wp2_with fail
 refine (HB.out _ _ (V.num 0 _ _ rfl).1).mono ?_
 rintro e w2 ⟨L, rfl, hL, hb⟩
 have HBel := Lib.hid (V.below hb).bel
 clear V hb q0
 go_wp2_with fail
 go_ret
 exact ⟨rfl, HBel.out⟩
set_option maxRecDepth 100000 in
set_option maxHeartbeats 8000000 in
theorem big_any (x : Rat) (va : Value) (w : World) (ha : IsR w va x) (hx : Sz 50 x) : Calls Tryz.prog 42 #[va] w fun e w' => e = .returned (.bool false) ∧ Below w.heap.size w w' := by
 have HL1 : Hid (∀ W v, IsN W v x.num.natAbs → Calls Tryz.prog 77 #[v] W fun e w' => e = .returned (.bool false) ∧ Below W.heap.size W w') := Lib.hid (fun W v h => long_any _ v W h hx.1)
 have HL2 : Hid (∀ W v, IsN W v (dn x) → Calls Tryz.prog 77 #[v] W fun e w' => e = .returned (.bool false) ∧ Below W.heap.size W w') := Lib.hid (fun W v h => long_any _ v W h hx.dn)
 obtain ⟨p, n, c, p', n', c', rfl, h1, h2⟩ := ha
 obtain ⟨zs, hz⟩ : ∃ z, decide (x.num < 0) = z := ⟨_, rfl⟩
 rw [hz]
 have V := (((Mq.refl w).cons h2 (hx.mono (by omega) (k := 100)).dn).cons h1 (hx.mono (by omega) (k := 100)).1).alloc 27 #[.bool zs, .slice p n c, .slice p' n' c']
 have x1 := V.c1 0 rfl; have x2 := V.c2 0 rfl
 clear h1 h2 hx hz
 go_enter Tryz.func42, Tryz.ntmps42
 go_wp2_with fail
 refine (HL1.out _ _ (V.num 0 _ _ rfl).1).mono ?_
 rintro e w2 ⟨rfl, hb⟩
 have V2 := V.below hb
 have x1 := V2.c1 0 rfl; have x2 := V2.c2 0 rfl
 clear V hb
 go_wp2_with fail
 refine (HL2.out _ _ (V2.num 1 _ _ rfl).1).mono ?_
 rintro e w3 ⟨rfl, hb⟩
 have HBel := Lib.hid (V2.below hb).bel
 clear V2 hb x1 x2
 go_wp2_with fail
 go_ret
 exact ⟨rfl, HBel.out⟩
/-- What the document's own reading tells. -/
def GotP (o : Option Rat) (w : World) (e : Ending) (w' : World) : Prop := ∃ v, e = .returned (.tuple #[v, .int .i64 (oc o)]) ∧ RQ w' v (o.getD 0) ∧ Below w.heap.size w w'
theorem gotP_none {o : Option Rat} {w W : World} {v : Value} (ho : o = none) (h : GaveQ 0 w (.returned v) W) : GotP o w (.returned (.tuple #[v, .int .i64 3])) W := by
 obtain ⟨v', h1, h2, h3⟩ := h
 injection h1 with h1
 subst h1
 subst ho
 exact ⟨_, rfl, h2, h3⟩
theorem gotP_some {o : Option Rat} {x : Rat} {w W : World} {v : Value} (ho : o = some x) (h : GaveQ x w (.returned v) W) : GotP o w (.returned (.tuple #[v, .int .i64 0])) W := by
 obtain ⟨v', h1, h2, h3⟩ := h
 injection h1 with h1
 subst h1
 subst ho
 exact ⟨_, rfl, h2, h3⟩
theorem rn_zero (W : World) : RN W (.slice none 0 0) 0 := ⟨[], rd_nil W, fun d h => by simp at h, trm_nil, rfl⟩
theorem par_yes (A : ByteArray) (W : World) (hA : A.size ≤ 640) (hw : WF A) : Calls Tryz.prog 24 #[.string A] W fun e w' => ∃ a n c, e = .returned (.tuple #[.slice a n c, .int .i64 0]) ∧ RN w' (.slice a n c) (nn A) ∧ Below W.heap.size W w' :=
 (rparse_any A W (by omega)).mono fun e w' h => by
  obtain ⟨⟨_, v, h1, h2, _⟩ | ⟨h1, _⟩, hb⟩ := h
  · obtain ⟨a, n, c, rfl, _, _⟩ := rn_form h2
    refine ⟨a, n, c, h1, ?_, hb⟩
    unfold nn
    rw [if_pos hw]
    exact h2
  · exact absurd hw h1
theorem par_no (A : ByteArray) (W : World) (hA : A.size ≤ 640) (hw : ¬ WF A) : Calls Tryz.prog 24 #[.string A] W fun e w' => e = .returned (.tuple #[.slice none 0 0, .int .i64 3]) ∧ Below W.heap.size W w' :=
 (rparse_any A W (by omega)).mono fun e w' h => by
  obtain ⟨⟨h1, _⟩ | ⟨_, h1⟩, hb⟩ := h
  · exact absurd h1 hw
  · exact ⟨h1, hb⟩
theorem par_any (A : ByteArray) (W : World) (hA : A.size ≤ 640) : Calls Tryz.prog 24 #[.string A] W fun e w' => ∃ a n c k, e = .returned (.tuple #[.slice a n c, .int .i64 k]) ∧ Below W.heap.size W w' := by
 by_cases hw : WF A
 · exact (par_yes A W hA hw).mono fun e w' ⟨a, n, c, h1, _, h2⟩ => ⟨a, n, c, 0, h1, h2⟩
 · exact (par_no A W hA hw).mono fun e w' ⟨h1, h2⟩ => ⟨none, 0, 0, 3, h1, h2⟩
theorem idx_first {L : List UInt8} {i : Nat} (h : L[i]? = some 47) (hno : ∀ j, j < i → L[j]? ≠ some 47) : Lib.indexByte L 47 = (i : Int) := by
 obtain ⟨hi, hv⟩ := List.getElem?_eq_some_iff.1 h
 have e : L = L.take i ++ 47 :: L.drop (i + 1) := by
  have := List.drop_eq_getElem_cons hi
  rw [hv] at this
  rw [← this, List.take_append_drop]
 have hn : (47 : UInt8) ∉ L.take i := fun hm => by
  obtain ⟨j, hj, hjv⟩ := List.getElem_of_mem hm
  rw [List.length_take] at hj
  refine hno j (by omega) ?_
  rw [List.getElem_take] at hjv
  exact List.getElem?_eq_some_iff.2 ⟨by omega, hjv⟩
 rw [e, idx_app _ _ _ hn, List.length_take]
 congr 1
 omega
theorem idx_last {L : List UInt8} (hno : ∀ j, j < L.length → L[j]? ≠ some 47) : Lib.indexByte L 47 = -1 := by
 refine idx_none _ _ (fun hm => ?_)
 obtain ⟨j, hj, hjv⟩ := List.getElem_of_mem hm
 exact hno j hj (List.getElem?_eq_some_iff.2 ⟨hj, hjv⟩)
set_option maxRecDepth 100000 in
set_option maxHeartbeats 8000000 in
theorem rratparse_neg (s : ByteArray) (w : World) (hs : s.size ≤ 640) (hp : 0 < s.size) (he0 : (((s[0]'hp).toNat : Int) == 45) = true) (hng : ng s = true) : Calls Tryz.prog 10 #[.string s] w (GotP (pq s) w) := by
 have hpi : (0 : Int) < (s.size : Int) := by omega
 have V := ((Dq.refl w).cons (rn_zero w) (d_pos 900 (by omega) (by omega))).alloc 34 #[.bool false, .slice none 0 0, .slice none 0 0]
 have c1 : (1 : Int) ≤ (s.size : Int) := by omega
 obtain ⟨TT, hTT⟩ : ∃ t, s.extract 1 s.size = t := ⟨_, rfl⟩
 have hbd : bd s = TT := by unfold bd; rw [hng, if_pos rfl, hTT]
 have Hbd := Lib.hid hbd
 have HTT := Lib.hid hTT
 have hts : TT.size ≤ 640 := by rw [← hTT, ByteArray.size_extract]; omega
 clear hbd hTT
 have HV := Lib.hid V
 clear V
 go_enter Tryz.func10, Tryz.ntmps10
 go_wp2_with fail
 rw [HTT.out]
 go_loop [7, 8] (fun cv iv => ∃ (c : Int) (i : Nat), cv = .int .i64 c ∧ iv = .int .i64 (i : Int) ∧ i ≤ TT.size ∧ (c = -1 ∧ Hid (∀ j, j < i → TT.data.toList[j]? ≠ some 47) ∨ ∃ k : Nat, c = (k : Int) ∧ k < TT.size ∧ Hid (Lib.indexByte TT.data.toList 47 = (k : Int)))) (fun _ iv => TT.size - (intOf iv).toNat)
 case atStart => exact ⟨-1, 0, rfl, rfl, by omega, .inl ⟨rfl, Lib.hid (fun j hj => by omega)⟩⟩
 case round =>
  obtain ⟨c, i, rfl, rfl, hi, hd⟩ := hrel
  have hi0 : (0 : Int) ≤ (i : Int) := by omega
  rcases hd with ⟨rfl, hno⟩ | ⟨k, rfl, hk, hix⟩
  · by_cases hlt : i < TT.size
    · have hlti : (i : Int) < (TT.size : Int) := by omega
      have hgat : TT.data.toList[i]? = some (TT[i]'hlt) := toList_at TT i hlt
      cases heb : (((TT[i]'hlt).toNat : Int) == 47) with
      | true =>
       have hE : Hid (Lib.indexByte TT.data.toList 47 = (i : Int)) := Lib.hid (idx_first (by rw [hgat]; congr 1; exact UInt8.toNat_inj.1 (by have := eq_of_beq heb; show (TT[i]'hlt).toNat = 47; omega)) hno.out)
       clear hgat hno
       go_wp2_with fail
       go_round
       case rel => exact ⟨(i : Int), i + 1, rfl, by go_num, by omega, .inr ⟨i, rfl, hlt, hE⟩⟩
       case measure => simp [intOf]; omega
      | false =>
       have hE : Hid (∀ j, j < i + 1 → TT.data.toList[j]? ≠ some 47) := Lib.hid (fun j hj h => by
        by_cases hji : j < i
        · exact hno.out j hji h
        · obtain rfl : j = i := by omega
          rw [hgat] at h
          injection h with h
          rw [h] at heb
          revert heb
          decide)
       clear hgat hno
       go_wp2_with fail
       go_round
       case rel => exact ⟨-1, i + 1, rfl, by go_num, by omega, .inl ⟨rfl, hE⟩⟩
       case measure => simp [intOf]; omega
    · obtain rfl : i = TT.size := by omega
      have hnlt : ¬ (TT.size : Int) < (TT.size : Int) := by omega
      have V := HV.out
      have hsl : sl TT = none := by
       unfold sl
       rw [idx_last (fun j hj => hno.out j (by simpa using hj))]
       rfl
      have hAB : above (bd s) = TT := by rw [Hbd.out]; unfold above; rw [hsl]
      have hBB : under1 (bd s) = ⟨#[49]⟩ := by rw [Hbd.out]; unfold under1; rw [if_pos hsl]
      have hAs : TT.size ≤ 640 := hts
      have hBs : (⟨#[49]⟩ : ByteArray).size ≤ 640 := by decide
      clear hsl hno
      have HK : Hid (∀ x, pq s = some x → WF TT ∧ WF ⟨#[49]⟩ ∧ nn ⟨#[49]⟩ ≠ 0 ∧ x = mkRat (sgn true (nn TT)) (nn ⟨#[49]⟩)) := Lib.hid (fun x h => by
       have h1 := pq_ok h
       rw [hAB, hBB, hng] at h1
       exact h1)
      clear hAB hBB
      by_cases hwA : WF TT
      · by_cases hwB : WF ⟨#[49]⟩
        · have HPA := Lib.hid (fun W => par_yes TT W hAs hwA)
          have HPB := Lib.hid (fun W => par_yes ⟨#[49]⟩ W hBs hwB)
          have hA9 : nn TT < 10000 ^ 160 := nn_ltd (by omega)
          have hB9 : nn ⟨#[49]⟩ < 10000 ^ 160 := nn_ltd (by omega)
          obtain ⟨NA, hNA⟩ : ∃ N, nn TT = N := ⟨_, rfl⟩
          obtain ⟨NB, hNB⟩ : ∃ N, nn ⟨#[49]⟩ = N := ⟨_, rfl⟩
          simp only [hNA] at HPA HK hA9
          simp only [hNB] at HPB HK hB9
          have HA9 := Lib.hid (pow_up 160 900 hA9 (by omega)); have HB9 := Lib.hid (pow_up 160 900 hB9 (by omega))
          clear hNA hNB hwA hwB hAs hBs
          by_cases hb0 : NB = 0
          · have HNo : Hid (pq s = none) := Lib.hid (by
             cases h : pq s with
             | none => rfl
             | some x => exact absurd hb0 (HK.out x h).2.2.1)
            clear HK hA9 hB9
            go_wp2_with fail
            refine (HPA.out _).mono ?_
            rintro e w2 ⟨a2, n2, c2, rfl, i2, hb⟩
            have V2 := (V.below hb).cons i2 HA9.out
            clear i2 hb V
            go_wp2_with fail
            refine (HPB.out _).mono ?_
            rintro e w3 ⟨a3, n3, c3, rfl, i3, hb⟩
            obtain rfl : n3 = 0 := (rn_len i3).2 hb0
            have V3 := (V2.below hb).cons i3 HB9.out
            clear i3 hb V2 hb0
            have VL := V3.lit1
            have HF := Lib.hid (VL.fin3 (x := 0) (y := false) (a := none) (m := 0) (d := 0) 0 3 0 rfl rfl rfl rfl)
            have r0 := VL.c0 0 rfl; have r1 := VL.c1 0 rfl; have r2 := VL.c2 0 rfl
            have f0 := VL.frozen 0 0 rfl; have f1 := VL.frozen 0 1 rfl; have f2 := VL.frozen 0 2 rfl
            clear VL V3
            go_wp2_with fail
            exact bodyPost_ret (res_ref2 rfl _ _ _ _ _ _ _ _ _ _ (.int .i64 3) rfl rfl HF.out.1) rfl (gotP_none HNo.out HF.out.2)
          · obtain ⟨X, hX⟩ : ∃ x, mkRat (sgn true NA) NB = x := ⟨_, rfl⟩
            have hXs : SzD 900 X := by
             rw [← hX]
             exact (szd_mk hb0 (by rw [sgn_abs]; exact hA9) hB9).mono (by omega)
            have HM : Hid (∀ W va vb, RN W va NA → RN W vb NB → Calls Tryz.prog 26 #[.bool true, va, vb] W (GaveQ X W)) := Lib.hid (fun W va vb h1 h2 => rmake_any X true NA NB va vb W h1 h2 HA9.out HB9.out (by omega) hX.symm)
            have HT : Hid (∀ W v, RQ W v X → Calls Tryz.prog 8 #[v] W fun e w' => e = .returned (.string (tx X)) ∧ Below W.heap.size W w') := Lib.hid (fun W v h => rattext_any X v W h hXs)
            have hyes : tx X = s → pq s = some X := fun h => by rw [← h]; exact pq_tx X
            have hnot : tx X ≠ s → pq s = none := fun h => by
             cases hp : pq s with
             | none => rfl
             | some x =>
              have h1 := (HK.out x hp).2.2.2
              rw [hX] at h1
              subst h1
              exact absurd (tx_pq hp) h
            have HYes := Lib.hid hyes; have HNot := Lib.hid hnot
            obtain ⟨TX, hTX⟩ : ∃ t, tx X = t := ⟨_, rfl⟩
            rw [hTX] at HT HYes HNot
            have hn3 : ∀ n : Nat, (n = 0 ↔ NB = 0) → 0 < n := fun n h => by
             have : n ≠ 0 := fun e => hb0 (h.1 e)
             omega
            have HN3 := Lib.hid hn3
            clear HK hX hXs hyes hnot hTX hA9 hB9 hb0 hn3
            have hcmp := list_eqb TX s
            by_cases hts : TX = s
            · have he : (TX.toList == s.toList) = true := by rw [hcmp, decide_eq_true hts]
              have he2 : (TX.toList != s.toList) = false := by rw [bne, he]; rfl
              have HY := Lib.hid (HYes.out hts)
              clear hcmp hts HYes HNot
              go_wp2_with fail
              refine (HPA.out _).mono ?_
              rintro e w2 ⟨a2, n2, c2, rfl, i2, hb⟩
              have V2 := (V.below hb).cons i2 HA9.out
              clear i2 hb V
              go_wp2_with fail
              refine (HPB.out _).mono ?_
              rintro e w3 ⟨a3, n3, c3, rfl, i3, hb⟩
              have h3 : 0 < n3 := HN3.out n3 (rn_len i3)
              have V3 := (V2.below hb).cons i3 HB9.out
              clear i3 hb V2
              go_wp2_with fail
              refine (HM.out _ _ _ (V3.num 1 _ _ rfl).1 (V3.num 0 _ _ rfl).1).mono ?_
              rintro e w4 ⟨v4, rfl, hq, hb⟩
              have V4 := (V3.below hb).qcons hq
              obtain ⟨a5, n5, c5, a6, n6, c6, rfl, -, -⟩ := hq
              obtain ⟨ys, hys⟩ : ∃ y, decide (X.num < 0) = y := ⟨_, rfl⟩
              rw [hys] at V4 ⊢
              have V5 := V4.alloc 34 #[.bool ys, .slice a5 n5 c5, .slice a6 n6 c6]
              have g0 := V5.c0 0 rfl; have g1 := V5.c1 0 rfl; have g2 := V5.c2 0 rfl
              clear V3 V4 hb hys
              go_wp2_with fail
              refine (HT.out _ _ (V5.ref 0 _ _ rfl)).mono ?_
              rintro e w7 ⟨rfl, hb⟩
              have V7 := V5.below hb
              clear V5 hb g0 g1 g2
              have HF := Lib.hid (V7.finq 1 0 rfl rfl)
              have r0 := V7.c0 1 rfl; have r1 := V7.c1 1 rfl; have r2 := V7.c2 1 rfl
              have f0 := V7.frozen 1 0 rfl; have f1 := V7.frozen 1 1 rfl; have f2 := V7.frozen 1 2 rfl
              have g0 := V7.c0 0 rfl; have g1 := V7.c1 0 rfl; have g2 := V7.c2 0 rfl
              clear V7
              go_wp2_with fail
              exact bodyPost_ret (res_ref2 rfl _ _ _ _ _ _ _ _ _ _ (.int .i64 0) rfl rfl HF.out.1) rfl (gotP_some HY.out HF.out.2)
            · have he : (TX.toList == s.toList) = false := by rw [hcmp, decide_eq_false hts]
              have he2 : (TX.toList != s.toList) = true := by rw [bne, he]; rfl
              have HNo := Lib.hid (HNot.out hts)
              clear hcmp hts HYes HNot
              go_wp2_with fail
              refine (HPA.out _).mono ?_
              rintro e w2 ⟨a2, n2, c2, rfl, i2, hb⟩
              have V2 := (V.below hb).cons i2 HA9.out
              clear i2 hb V
              go_wp2_with fail
              refine (HPB.out _).mono ?_
              rintro e w3 ⟨a3, n3, c3, rfl, i3, hb⟩
              have h3 : 0 < n3 := HN3.out n3 (rn_len i3)
              have V3 := (V2.below hb).cons i3 HB9.out
              clear i3 hb V2
              go_wp2_with fail
              refine (HM.out _ _ _ (V3.num 1 _ _ rfl).1 (V3.num 0 _ _ rfl).1).mono ?_
              rintro e w4 ⟨v4, rfl, hq, hb⟩
              have V4 := (V3.below hb).qcons hq
              obtain ⟨a5, n5, c5, a6, n6, c6, rfl, -, -⟩ := hq
              obtain ⟨ys, hys⟩ : ∃ y, decide (X.num < 0) = y := ⟨_, rfl⟩
              rw [hys] at V4 ⊢
              have V5 := V4.alloc 34 #[.bool ys, .slice a5 n5 c5, .slice a6 n6 c6]
              have g0 := V5.c0 0 rfl; have g1 := V5.c1 0 rfl; have g2 := V5.c2 0 rfl
              clear V3 V4 hb hys
              go_wp2_with fail
              refine (HT.out _ _ (V5.ref 0 _ _ rfl)).mono ?_
              rintro e w7 ⟨rfl, hb⟩
              have V7 := V5.below hb
              clear V5 hb g0 g1 g2
              have VL := V7.lit1
              have HF := Lib.hid (VL.fin3 (x := 0) (y := false) (a := none) (m := 0) (d := 0) 1 3 0 rfl rfl rfl rfl)
              have r0 := VL.c0 1 rfl; have r1 := VL.c1 1 rfl; have r2 := VL.c2 1 rfl
              have f0 := VL.frozen 1 0 rfl; have f1 := VL.frozen 1 1 rfl; have f2 := VL.frozen 1 2 rfl
              clear VL V7
              go_wp2_with fail
              exact bodyPost_ret (res_ref2 rfl _ _ _ _ _ _ _ _ _ _ (.int .i64 3) rfl rfl HF.out.1) rfl (gotP_none HNo.out HF.out.2)
        · have HPA := Lib.hid (fun W => par_any TT W hAs)
          have HPB := Lib.hid (fun W => par_no ⟨#[49]⟩ W hBs hwB)
          have HNo : Hid (pq s = none) := Lib.hid (by
           cases h : pq s with
           | none => rfl
           | some x => exact absurd (HK.out x h).2.1 hwB)
          have HPA2 := Lib.hid (fun W => par_yes TT W hAs hwA)
          clear HK hAs hBs hwA hwB HPA
          go_wp2_with fail
          refine (HPA2.out _).mono ?_
          rintro e w2 ⟨a2, n2, c2, rfl, -, hb⟩
          have V2 := V.below hb
          clear hb V
          go_wp2_with fail
          refine (HPB.out _).mono ?_
          rintro e w3 ⟨rfl, hb⟩
          have V3 := V2.below hb
          clear hb V2
          have VL := V3.lit1
          have HF := Lib.hid (VL.fin3 (x := 0) (y := false) (a := none) (m := 0) (d := 0) 0 1 0 rfl rfl rfl rfl)
          have r0 := VL.c0 0 rfl; have r1 := VL.c1 0 rfl; have r2 := VL.c2 0 rfl
          have f0 := VL.frozen 0 0 rfl; have f1 := VL.frozen 0 1 rfl; have f2 := VL.frozen 0 2 rfl
          clear VL V3
          go_wp2_with fail
          exact bodyPost_ret (res_ref2 rfl _ _ _ _ _ _ _ _ _ _ (.int .i64 3) rfl rfl HF.out.1) rfl (gotP_none HNo.out HF.out.2)
      · have HPA := Lib.hid (fun W => par_no TT W hAs hwA)
        have HPB := Lib.hid (fun W => par_any ⟨#[49]⟩ W hBs)
        have HNo : Hid (pq s = none) := Lib.hid (by
         cases h : pq s with
         | none => rfl
         | some x => exact absurd (HK.out x h).1 hwA)
        clear HK hAs hBs hwA
        go_wp2_with fail
        refine (HPA.out _).mono ?_
        rintro e w2 ⟨rfl, hb⟩
        have V2 := V.below hb
        clear hb V
        go_wp2_with fail
        refine (HPB.out _).mono ?_
        rintro e w3 ⟨a3, n3, c3, k3, rfl, hb⟩
        have V3 := V2.below hb
        clear hb V2
        have VL := V3.lit1
        have HF := Lib.hid (VL.fin3 (x := 0) (y := false) (a := none) (m := 0) (d := 0) 0 1 0 rfl rfl rfl rfl)
        have r0 := VL.c0 0 rfl; have r1 := VL.c1 0 rfl; have r2 := VL.c2 0 rfl
        have f0 := VL.frozen 0 0 rfl; have f1 := VL.frozen 0 1 rfl; have f2 := VL.frozen 0 2 rfl
        clear VL V3
        go_wp2_with fail
        exact bodyPost_ret (res_ref2 rfl _ _ _ _ _ _ _ _ _ _ (.int .i64 3) rfl rfl HF.out.1) rfl (gotP_none HNo.out HF.out.2)
  · have hk0 : (0 : Int) ≤ (k : Int) := by omega
    have hkn : ¬ (k : Int) < 0 := by omega
    have hk1 : (k : Int) < (TT.size : Int) := by omega
    have hk2 : (k : Int) + 1 ≤ (TT.size : Int) := by omega
    have hk3 : k ≤ TT.size := by omega
    have hwr : IntKind.i64.wrap ((k : Int) + 1) = ((k + 1 : Nat) : Int) := by simp [IntKind.wrap, IntKind.signed, IntKind.bits]; omega
    have hk4 : 0 ≤ ((k + 1 : Nat) : Int) ∧ ((k + 1 : Nat) : Int) ≤ (TT.size : Int) := by omega
    by_cases hlt : (i : Int) < (TT.size : Int)
    · have V := HV.out
      go_wp2_with fail
      replace V := V.drew
      refine wp_region_held_drew (S := (fun _ => True)) (by kernel_rfl) ?_ (fun hHeld => ?_)
      · exact trivial
      refine tkH (i := 0) (v := ?_) rfl (by kernel_rfl) (fun _ _ _ h => h) (Or.inl ⟨by rfl, ?_⟩) (by assumption) ?_
      rotate_left
      · intro w hSw; (try dsimp only at hSw); go_simp; (try with_reducible rfl)
      try simp only [las]
      refine tkH (i := 1) (v := ?_) rfl (by kernel_rfl) (fun _ _ _ h => h) (Or.inl ⟨by rfl, ?_⟩) (by assumption) ?_
      rotate_left
      · intro w hSw; (try dsimp only at hSw); go_simp; (try with_reducible rfl)
      try simp only [las]
      refine tkH (i := 2) (v := .string (TT.extract 0 k)) rfl (by kernel_rfl) (fun _ _ _ h => h) (Or.inl ⟨by rfl, ?_⟩) (by assumption) ?_
      · intro w hSw; (try dsimp only at hSw); go_simp; skip
      try simp only [las]
      refine tkH (i := 3) (v := ?_) rfl (by kernel_rfl) (fun _ _ _ h => h) (Or.inl ⟨by rfl, ?_⟩) (by assumption) ?_
      rotate_left
      · intro w hSw; (try dsimp only at hSw); go_simp; (try with_reducible rfl)
      try simp only [las]
      refine tkH (i := 4) (v := ?_) rfl (by kernel_rfl) (fun _ _ _ h => h) (Or.inl ⟨by rfl, ?_⟩) (by assumption) ?_
      rotate_left
      · intro w hSw; (try dsimp only at hSw); go_simp; (try with_reducible rfl)
      try simp only [las]
      refine tkH (i := 5) (v := ?_) rfl (by kernel_rfl) (fun _ _ _ h => h) (Or.inl ⟨by rfl, ?_⟩) (by assumption) ?_
      rotate_left
      · intro w hSw; (try dsimp only at hSw); go_simp; (try with_reducible rfl)
      try simp only [las]
      refine tkH (i := 6) (v := .string (TT.extract (k + 1) TT.size)) rfl (by kernel_rfl) (fun _ _ _ h => h) (Or.inl ⟨by rfl, ?_⟩) (by assumption) ?_
      · intro w hSw; (try dsimp only at hSw); go_simp; exact fun hneg => absurd hneg (by omega)
      try simp only [las]
      refine tkH (i := 7) (v := ?_) rfl (by kernel_rfl) (fun _ _ _ h => h) (Or.inl ⟨by rfl, ?_⟩) (by assumption) ?_
      rotate_left
      · intro w hSw; (try dsimp only at hSw); go_simp; (try with_reducible rfl)
      try simp only [las]
      refine tkH (i := 8) (v := ?_) rfl (by kernel_rfl) (fun _ _ _ h => h) (Or.inl ⟨by rfl, ?_⟩) (by assumption) ?_
      rotate_left
      · intro w hSw; (try dsimp only at hSw); go_simp; (try with_reducible rfl)
      try simp only [las]
      refine wpAnyH_done (by kernel_rfl) ?_ _
      have hsl : sl TT = some k := by
       unfold sl
       rw [hix.out, if_pos (by omega)]
       rfl
      have hAB : above (bd s) = TT.extract 0 k := by rw [Hbd.out]; unfold above; rw [hsl]
      have hBB : under1 (bd s) = TT.extract (k + 1) TT.size := by rw [Hbd.out]; unfold under1 under; rw [hsl]; rfl
      have hAs : (TT.extract 0 k).size ≤ 640 := by rw [ByteArray.size_extract]; omega
      have hBs : (TT.extract (k + 1) TT.size).size ≤ 640 := by rw [ByteArray.size_extract]; omega
      clear hsl hix
      have HK : Hid (∀ x, pq s = some x → WF (TT.extract 0 k) ∧ WF (TT.extract (k + 1) TT.size) ∧ nn (TT.extract (k + 1) TT.size) ≠ 0 ∧ x = mkRat (sgn true (nn (TT.extract 0 k))) (nn (TT.extract (k + 1) TT.size))) := Lib.hid (fun x h => by
       have h1 := pq_ok h
       rw [hAB, hBB, hng] at h1
       exact h1)
      clear hAB hBB
      by_cases hwA : WF (TT.extract 0 k)
      · by_cases hwB : WF (TT.extract (k + 1) TT.size)
        · have HPA := Lib.hid (fun W => par_yes (TT.extract 0 k) W hAs hwA)
          have HPB := Lib.hid (fun W => par_yes (TT.extract (k + 1) TT.size) W hBs hwB)
          have hA9 : nn (TT.extract 0 k) < 10000 ^ 160 := nn_ltd (by omega)
          have hB9 : nn (TT.extract (k + 1) TT.size) < 10000 ^ 160 := nn_ltd (by omega)
          obtain ⟨NA, hNA⟩ : ∃ N, nn (TT.extract 0 k) = N := ⟨_, rfl⟩
          obtain ⟨NB, hNB⟩ : ∃ N, nn (TT.extract (k + 1) TT.size) = N := ⟨_, rfl⟩
          simp only [hNA] at HPA HK hA9
          simp only [hNB] at HPB HK hB9
          have HA9 := Lib.hid (pow_up 160 900 hA9 (by omega)); have HB9 := Lib.hid (pow_up 160 900 hB9 (by omega))
          clear hNA hNB hwA hwB hAs hBs
          by_cases hb0 : NB = 0
          · have HNo : Hid (pq s = none) := Lib.hid (by
             cases h : pq s with
             | none => rfl
             | some x => exact absurd hb0 (HK.out x h).2.2.1)
            clear HK hA9 hB9
            go_wp2_with fail
            refine (HPA.out _).mono ?_
            rintro e w2 ⟨a2, n2, c2, rfl, i2, hb⟩
            have V2 := (V.below hb).cons i2 HA9.out
            clear i2 hb V
            go_wp2_with fail
            refine (HPB.out _).mono ?_
            rintro e w3 ⟨a3, n3, c3, rfl, i3, hb⟩
            obtain rfl : n3 = 0 := (rn_len i3).2 hb0
            have V3 := (V2.below hb).cons i3 HB9.out
            clear i3 hb V2 hb0
            have VL := V3.lit1
            have HF := Lib.hid (VL.fin3 (x := 0) (y := false) (a := none) (m := 0) (d := 0) 0 3 0 rfl rfl rfl rfl)
            have r0 := VL.c0 0 rfl; have r1 := VL.c1 0 rfl; have r2 := VL.c2 0 rfl
            have f0 := VL.frozen 0 0 rfl; have f1 := VL.frozen 0 1 rfl; have f2 := VL.frozen 0 2 rfl
            clear VL V3
            go_wp2_with fail
            exact bodyPost_ret (res_ref2 rfl _ _ _ _ _ _ _ _ _ _ (.int .i64 3) rfl rfl HF.out.1) rfl (gotP_none HNo.out HF.out.2)
          · obtain ⟨X, hX⟩ : ∃ x, mkRat (sgn true NA) NB = x := ⟨_, rfl⟩
            have hXs : SzD 900 X := by
             rw [← hX]
             exact (szd_mk hb0 (by rw [sgn_abs]; exact hA9) hB9).mono (by omega)
            have HM : Hid (∀ W va vb, RN W va NA → RN W vb NB → Calls Tryz.prog 26 #[.bool true, va, vb] W (GaveQ X W)) := Lib.hid (fun W va vb h1 h2 => rmake_any X true NA NB va vb W h1 h2 HA9.out HB9.out (by omega) hX.symm)
            have HT : Hid (∀ W v, RQ W v X → Calls Tryz.prog 8 #[v] W fun e w' => e = .returned (.string (tx X)) ∧ Below W.heap.size W w') := Lib.hid (fun W v h => rattext_any X v W h hXs)
            have hyes : tx X = s → pq s = some X := fun h => by rw [← h]; exact pq_tx X
            have hnot : tx X ≠ s → pq s = none := fun h => by
             cases hp : pq s with
             | none => rfl
             | some x =>
              have h1 := (HK.out x hp).2.2.2
              rw [hX] at h1
              subst h1
              exact absurd (tx_pq hp) h
            have HYes := Lib.hid hyes; have HNot := Lib.hid hnot
            obtain ⟨TX, hTX⟩ : ∃ t, tx X = t := ⟨_, rfl⟩
            rw [hTX] at HT HYes HNot
            have hn3 : ∀ n : Nat, (n = 0 ↔ NB = 0) → 0 < n := fun n h => by
             have : n ≠ 0 := fun e => hb0 (h.1 e)
             omega
            have HN3 := Lib.hid hn3
            clear HK hX hXs hyes hnot hTX hA9 hB9 hb0 hn3
            have hcmp := list_eqb TX s
            by_cases hts : TX = s
            · have he : (TX.toList == s.toList) = true := by rw [hcmp, decide_eq_true hts]
              have he2 : (TX.toList != s.toList) = false := by rw [bne, he]; rfl
              have HY := Lib.hid (HYes.out hts)
              clear hcmp hts HYes HNot
              go_wp2_with fail
              refine (HPA.out _).mono ?_
              rintro e w2 ⟨a2, n2, c2, rfl, i2, hb⟩
              have V2 := (V.below hb).cons i2 HA9.out
              clear i2 hb V
              go_wp2_with fail
              refine (HPB.out _).mono ?_
              rintro e w3 ⟨a3, n3, c3, rfl, i3, hb⟩
              have h3 : 0 < n3 := HN3.out n3 (rn_len i3)
              have V3 := (V2.below hb).cons i3 HB9.out
              clear i3 hb V2
              go_wp2_with fail
              refine (HM.out _ _ _ (V3.num 1 _ _ rfl).1 (V3.num 0 _ _ rfl).1).mono ?_
              rintro e w4 ⟨v4, rfl, hq, hb⟩
              have V4 := (V3.below hb).qcons hq
              obtain ⟨a5, n5, c5, a6, n6, c6, rfl, -, -⟩ := hq
              obtain ⟨ys, hys⟩ : ∃ y, decide (X.num < 0) = y := ⟨_, rfl⟩
              rw [hys] at V4 ⊢
              have V5 := V4.alloc 34 #[.bool ys, .slice a5 n5 c5, .slice a6 n6 c6]
              have g0 := V5.c0 0 rfl; have g1 := V5.c1 0 rfl; have g2 := V5.c2 0 rfl
              clear V3 V4 hb hys
              go_wp2_with fail
              refine (HT.out _ _ (V5.ref 0 _ _ rfl)).mono ?_
              rintro e w7 ⟨rfl, hb⟩
              have V7 := V5.below hb
              clear V5 hb g0 g1 g2
              have HF := Lib.hid (V7.finq 1 0 rfl rfl)
              have r0 := V7.c0 1 rfl; have r1 := V7.c1 1 rfl; have r2 := V7.c2 1 rfl
              have f0 := V7.frozen 1 0 rfl; have f1 := V7.frozen 1 1 rfl; have f2 := V7.frozen 1 2 rfl
              have g0 := V7.c0 0 rfl; have g1 := V7.c1 0 rfl; have g2 := V7.c2 0 rfl
              clear V7
              go_wp2_with fail
              exact bodyPost_ret (res_ref2 rfl _ _ _ _ _ _ _ _ _ _ (.int .i64 0) rfl rfl HF.out.1) rfl (gotP_some HY.out HF.out.2)
            · have he : (TX.toList == s.toList) = false := by rw [hcmp, decide_eq_false hts]
              have he2 : (TX.toList != s.toList) = true := by rw [bne, he]; rfl
              have HNo := Lib.hid (HNot.out hts)
              clear hcmp hts HYes HNot
              go_wp2_with fail
              refine (HPA.out _).mono ?_
              rintro e w2 ⟨a2, n2, c2, rfl, i2, hb⟩
              have V2 := (V.below hb).cons i2 HA9.out
              clear i2 hb V
              go_wp2_with fail
              refine (HPB.out _).mono ?_
              rintro e w3 ⟨a3, n3, c3, rfl, i3, hb⟩
              have h3 : 0 < n3 := HN3.out n3 (rn_len i3)
              have V3 := (V2.below hb).cons i3 HB9.out
              clear i3 hb V2
              go_wp2_with fail
              refine (HM.out _ _ _ (V3.num 1 _ _ rfl).1 (V3.num 0 _ _ rfl).1).mono ?_
              rintro e w4 ⟨v4, rfl, hq, hb⟩
              have V4 := (V3.below hb).qcons hq
              obtain ⟨a5, n5, c5, a6, n6, c6, rfl, -, -⟩ := hq
              obtain ⟨ys, hys⟩ : ∃ y, decide (X.num < 0) = y := ⟨_, rfl⟩
              rw [hys] at V4 ⊢
              have V5 := V4.alloc 34 #[.bool ys, .slice a5 n5 c5, .slice a6 n6 c6]
              have g0 := V5.c0 0 rfl; have g1 := V5.c1 0 rfl; have g2 := V5.c2 0 rfl
              clear V3 V4 hb hys
              go_wp2_with fail
              refine (HT.out _ _ (V5.ref 0 _ _ rfl)).mono ?_
              rintro e w7 ⟨rfl, hb⟩
              have V7 := V5.below hb
              clear V5 hb g0 g1 g2
              have VL := V7.lit1
              have HF := Lib.hid (VL.fin3 (x := 0) (y := false) (a := none) (m := 0) (d := 0) 1 3 0 rfl rfl rfl rfl)
              have r0 := VL.c0 1 rfl; have r1 := VL.c1 1 rfl; have r2 := VL.c2 1 rfl
              have f0 := VL.frozen 1 0 rfl; have f1 := VL.frozen 1 1 rfl; have f2 := VL.frozen 1 2 rfl
              clear VL V7
              go_wp2_with fail
              exact bodyPost_ret (res_ref2 rfl _ _ _ _ _ _ _ _ _ _ (.int .i64 3) rfl rfl HF.out.1) rfl (gotP_none HNo.out HF.out.2)
        · have HPA := Lib.hid (fun W => par_any (TT.extract 0 k) W hAs)
          have HPB := Lib.hid (fun W => par_no (TT.extract (k + 1) TT.size) W hBs hwB)
          have HNo : Hid (pq s = none) := Lib.hid (by
           cases h : pq s with
           | none => rfl
           | some x => exact absurd (HK.out x h).2.1 hwB)
          have HPA2 := Lib.hid (fun W => par_yes (TT.extract 0 k) W hAs hwA)
          clear HK hAs hBs hwA hwB HPA
          go_wp2_with fail
          refine (HPA2.out _).mono ?_
          rintro e w2 ⟨a2, n2, c2, rfl, -, hb⟩
          have V2 := V.below hb
          clear hb V
          go_wp2_with fail
          refine (HPB.out _).mono ?_
          rintro e w3 ⟨rfl, hb⟩
          have V3 := V2.below hb
          clear hb V2
          have VL := V3.lit1
          have HF := Lib.hid (VL.fin3 (x := 0) (y := false) (a := none) (m := 0) (d := 0) 0 1 0 rfl rfl rfl rfl)
          have r0 := VL.c0 0 rfl; have r1 := VL.c1 0 rfl; have r2 := VL.c2 0 rfl
          have f0 := VL.frozen 0 0 rfl; have f1 := VL.frozen 0 1 rfl; have f2 := VL.frozen 0 2 rfl
          clear VL V3
          go_wp2_with fail
          exact bodyPost_ret (res_ref2 rfl _ _ _ _ _ _ _ _ _ _ (.int .i64 3) rfl rfl HF.out.1) rfl (gotP_none HNo.out HF.out.2)
      · have HPA := Lib.hid (fun W => par_no (TT.extract 0 k) W hAs hwA)
        have HPB := Lib.hid (fun W => par_any (TT.extract (k + 1) TT.size) W hBs)
        have HNo : Hid (pq s = none) := Lib.hid (by
         cases h : pq s with
         | none => rfl
         | some x => exact absurd (HK.out x h).1 hwA)
        clear HK hAs hBs hwA
        go_wp2_with fail
        refine (HPA.out _).mono ?_
        rintro e w2 ⟨rfl, hb⟩
        have V2 := V.below hb
        clear hb V
        go_wp2_with fail
        refine (HPB.out _).mono ?_
        rintro e w3 ⟨a3, n3, c3, k3, rfl, hb⟩
        have V3 := V2.below hb
        clear hb V2
        have VL := V3.lit1
        have HF := Lib.hid (VL.fin3 (x := 0) (y := false) (a := none) (m := 0) (d := 0) 0 1 0 rfl rfl rfl rfl)
        have r0 := VL.c0 0 rfl; have r1 := VL.c1 0 rfl; have r2 := VL.c2 0 rfl
        have f0 := VL.frozen 0 0 rfl; have f1 := VL.frozen 0 1 rfl; have f2 := VL.frozen 0 2 rfl
        clear VL V3
        go_wp2_with fail
        exact bodyPost_ret (res_ref2 rfl _ _ _ _ _ _ _ _ _ _ (.int .i64 3) rfl rfl HF.out.1) rfl (gotP_none HNo.out HF.out.2)
    · have V := HV.out
      go_wp2_with fail
      replace V := V.drew
      refine wp_region_held_drew (S := (fun _ => True)) (by kernel_rfl) ?_ (fun hHeld => ?_)
      · exact trivial
      refine tkH (i := 0) (v := ?_) rfl (by kernel_rfl) (fun _ _ _ h => h) (Or.inl ⟨by rfl, ?_⟩) (by assumption) ?_
      rotate_left
      · intro w hSw; (try dsimp only at hSw); go_simp; (try with_reducible rfl)
      try simp only [las]
      refine tkH (i := 1) (v := ?_) rfl (by kernel_rfl) (fun _ _ _ h => h) (Or.inl ⟨by rfl, ?_⟩) (by assumption) ?_
      rotate_left
      · intro w hSw; (try dsimp only at hSw); go_simp; (try with_reducible rfl)
      try simp only [las]
      refine tkH (i := 2) (v := .string (TT.extract 0 k)) rfl (by kernel_rfl) (fun _ _ _ h => h) (Or.inl ⟨by rfl, ?_⟩) (by assumption) ?_
      · intro w hSw; (try dsimp only at hSw); go_simp; skip
      try simp only [las]
      refine tkH (i := 3) (v := ?_) rfl (by kernel_rfl) (fun _ _ _ h => h) (Or.inl ⟨by rfl, ?_⟩) (by assumption) ?_
      rotate_left
      · intro w hSw; (try dsimp only at hSw); go_simp; (try with_reducible rfl)
      try simp only [las]
      refine tkH (i := 4) (v := ?_) rfl (by kernel_rfl) (fun _ _ _ h => h) (Or.inl ⟨by rfl, ?_⟩) (by assumption) ?_
      rotate_left
      · intro w hSw; (try dsimp only at hSw); go_simp; (try with_reducible rfl)
      try simp only [las]
      refine tkH (i := 5) (v := ?_) rfl (by kernel_rfl) (fun _ _ _ h => h) (Or.inl ⟨by rfl, ?_⟩) (by assumption) ?_
      rotate_left
      · intro w hSw; (try dsimp only at hSw); go_simp; (try with_reducible rfl)
      try simp only [las]
      refine tkH (i := 6) (v := .string (TT.extract (k + 1) TT.size)) rfl (by kernel_rfl) (fun _ _ _ h => h) (Or.inl ⟨by rfl, ?_⟩) (by assumption) ?_
      · intro w hSw; (try dsimp only at hSw); go_simp; exact fun hneg => absurd hneg (by omega)
      try simp only [las]
      refine tkH (i := 7) (v := ?_) rfl (by kernel_rfl) (fun _ _ _ h => h) (Or.inl ⟨by rfl, ?_⟩) (by assumption) ?_
      rotate_left
      · intro w hSw; (try dsimp only at hSw); go_simp; (try with_reducible rfl)
      try simp only [las]
      refine tkH (i := 8) (v := ?_) rfl (by kernel_rfl) (fun _ _ _ h => h) (Or.inl ⟨by rfl, ?_⟩) (by assumption) ?_
      rotate_left
      · intro w hSw; (try dsimp only at hSw); go_simp; (try with_reducible rfl)
      try simp only [las]
      refine wpAnyH_done (by kernel_rfl) ?_ _
      have hsl : sl TT = some k := by
       unfold sl
       rw [hix.out, if_pos (by omega)]
       rfl
      have hAB : above (bd s) = TT.extract 0 k := by rw [Hbd.out]; unfold above; rw [hsl]
      have hBB : under1 (bd s) = TT.extract (k + 1) TT.size := by rw [Hbd.out]; unfold under1 under; rw [hsl]; rfl
      have hAs : (TT.extract 0 k).size ≤ 640 := by rw [ByteArray.size_extract]; omega
      have hBs : (TT.extract (k + 1) TT.size).size ≤ 640 := by rw [ByteArray.size_extract]; omega
      clear hsl hix
      have HK : Hid (∀ x, pq s = some x → WF (TT.extract 0 k) ∧ WF (TT.extract (k + 1) TT.size) ∧ nn (TT.extract (k + 1) TT.size) ≠ 0 ∧ x = mkRat (sgn true (nn (TT.extract 0 k))) (nn (TT.extract (k + 1) TT.size))) := Lib.hid (fun x h => by
       have h1 := pq_ok h
       rw [hAB, hBB, hng] at h1
       exact h1)
      clear hAB hBB
      by_cases hwA : WF (TT.extract 0 k)
      · by_cases hwB : WF (TT.extract (k + 1) TT.size)
        · have HPA := Lib.hid (fun W => par_yes (TT.extract 0 k) W hAs hwA)
          have HPB := Lib.hid (fun W => par_yes (TT.extract (k + 1) TT.size) W hBs hwB)
          have hA9 : nn (TT.extract 0 k) < 10000 ^ 160 := nn_ltd (by omega)
          have hB9 : nn (TT.extract (k + 1) TT.size) < 10000 ^ 160 := nn_ltd (by omega)
          obtain ⟨NA, hNA⟩ : ∃ N, nn (TT.extract 0 k) = N := ⟨_, rfl⟩
          obtain ⟨NB, hNB⟩ : ∃ N, nn (TT.extract (k + 1) TT.size) = N := ⟨_, rfl⟩
          simp only [hNA] at HPA HK hA9
          simp only [hNB] at HPB HK hB9
          have HA9 := Lib.hid (pow_up 160 900 hA9 (by omega)); have HB9 := Lib.hid (pow_up 160 900 hB9 (by omega))
          clear hNA hNB hwA hwB hAs hBs
          by_cases hb0 : NB = 0
          · have HNo : Hid (pq s = none) := Lib.hid (by
             cases h : pq s with
             | none => rfl
             | some x => exact absurd hb0 (HK.out x h).2.2.1)
            clear HK hA9 hB9
            go_wp2_with fail
            refine (HPA.out _).mono ?_
            rintro e w2 ⟨a2, n2, c2, rfl, i2, hb⟩
            have V2 := (V.below hb).cons i2 HA9.out
            clear i2 hb V
            go_wp2_with fail
            refine (HPB.out _).mono ?_
            rintro e w3 ⟨a3, n3, c3, rfl, i3, hb⟩
            obtain rfl : n3 = 0 := (rn_len i3).2 hb0
            have V3 := (V2.below hb).cons i3 HB9.out
            clear i3 hb V2 hb0
            have VL := V3.lit1
            have HF := Lib.hid (VL.fin3 (x := 0) (y := false) (a := none) (m := 0) (d := 0) 0 3 0 rfl rfl rfl rfl)
            have r0 := VL.c0 0 rfl; have r1 := VL.c1 0 rfl; have r2 := VL.c2 0 rfl
            have f0 := VL.frozen 0 0 rfl; have f1 := VL.frozen 0 1 rfl; have f2 := VL.frozen 0 2 rfl
            clear VL V3
            go_wp2_with fail
            exact bodyPost_ret (res_ref2 rfl _ _ _ _ _ _ _ _ _ _ (.int .i64 3) rfl rfl HF.out.1) rfl (gotP_none HNo.out HF.out.2)
          · obtain ⟨X, hX⟩ : ∃ x, mkRat (sgn true NA) NB = x := ⟨_, rfl⟩
            have hXs : SzD 900 X := by
             rw [← hX]
             exact (szd_mk hb0 (by rw [sgn_abs]; exact hA9) hB9).mono (by omega)
            have HM : Hid (∀ W va vb, RN W va NA → RN W vb NB → Calls Tryz.prog 26 #[.bool true, va, vb] W (GaveQ X W)) := Lib.hid (fun W va vb h1 h2 => rmake_any X true NA NB va vb W h1 h2 HA9.out HB9.out (by omega) hX.symm)
            have HT : Hid (∀ W v, RQ W v X → Calls Tryz.prog 8 #[v] W fun e w' => e = .returned (.string (tx X)) ∧ Below W.heap.size W w') := Lib.hid (fun W v h => rattext_any X v W h hXs)
            have hyes : tx X = s → pq s = some X := fun h => by rw [← h]; exact pq_tx X
            have hnot : tx X ≠ s → pq s = none := fun h => by
             cases hp : pq s with
             | none => rfl
             | some x =>
              have h1 := (HK.out x hp).2.2.2
              rw [hX] at h1
              subst h1
              exact absurd (tx_pq hp) h
            have HYes := Lib.hid hyes; have HNot := Lib.hid hnot
            obtain ⟨TX, hTX⟩ : ∃ t, tx X = t := ⟨_, rfl⟩
            rw [hTX] at HT HYes HNot
            have hn3 : ∀ n : Nat, (n = 0 ↔ NB = 0) → 0 < n := fun n h => by
             have : n ≠ 0 := fun e => hb0 (h.1 e)
             omega
            have HN3 := Lib.hid hn3
            clear HK hX hXs hyes hnot hTX hA9 hB9 hb0 hn3
            have hcmp := list_eqb TX s
            by_cases hts : TX = s
            · have he : (TX.toList == s.toList) = true := by rw [hcmp, decide_eq_true hts]
              have he2 : (TX.toList != s.toList) = false := by rw [bne, he]; rfl
              have HY := Lib.hid (HYes.out hts)
              clear hcmp hts HYes HNot
              go_wp2_with fail
              refine (HPA.out _).mono ?_
              rintro e w2 ⟨a2, n2, c2, rfl, i2, hb⟩
              have V2 := (V.below hb).cons i2 HA9.out
              clear i2 hb V
              go_wp2_with fail
              refine (HPB.out _).mono ?_
              rintro e w3 ⟨a3, n3, c3, rfl, i3, hb⟩
              have h3 : 0 < n3 := HN3.out n3 (rn_len i3)
              have V3 := (V2.below hb).cons i3 HB9.out
              clear i3 hb V2
              go_wp2_with fail
              refine (HM.out _ _ _ (V3.num 1 _ _ rfl).1 (V3.num 0 _ _ rfl).1).mono ?_
              rintro e w4 ⟨v4, rfl, hq, hb⟩
              have V4 := (V3.below hb).qcons hq
              obtain ⟨a5, n5, c5, a6, n6, c6, rfl, -, -⟩ := hq
              obtain ⟨ys, hys⟩ : ∃ y, decide (X.num < 0) = y := ⟨_, rfl⟩
              rw [hys] at V4 ⊢
              have V5 := V4.alloc 34 #[.bool ys, .slice a5 n5 c5, .slice a6 n6 c6]
              have g0 := V5.c0 0 rfl; have g1 := V5.c1 0 rfl; have g2 := V5.c2 0 rfl
              clear V3 V4 hb hys
              go_wp2_with fail
              refine (HT.out _ _ (V5.ref 0 _ _ rfl)).mono ?_
              rintro e w7 ⟨rfl, hb⟩
              have V7 := V5.below hb
              clear V5 hb g0 g1 g2
              have HF := Lib.hid (V7.finq 1 0 rfl rfl)
              have r0 := V7.c0 1 rfl; have r1 := V7.c1 1 rfl; have r2 := V7.c2 1 rfl
              have f0 := V7.frozen 1 0 rfl; have f1 := V7.frozen 1 1 rfl; have f2 := V7.frozen 1 2 rfl
              have g0 := V7.c0 0 rfl; have g1 := V7.c1 0 rfl; have g2 := V7.c2 0 rfl
              clear V7
              go_wp2_with fail
              exact bodyPost_ret (res_ref2 rfl _ _ _ _ _ _ _ _ _ _ (.int .i64 0) rfl rfl HF.out.1) rfl (gotP_some HY.out HF.out.2)
            · have he : (TX.toList == s.toList) = false := by rw [hcmp, decide_eq_false hts]
              have he2 : (TX.toList != s.toList) = true := by rw [bne, he]; rfl
              have HNo := Lib.hid (HNot.out hts)
              clear hcmp hts HYes HNot
              go_wp2_with fail
              refine (HPA.out _).mono ?_
              rintro e w2 ⟨a2, n2, c2, rfl, i2, hb⟩
              have V2 := (V.below hb).cons i2 HA9.out
              clear i2 hb V
              go_wp2_with fail
              refine (HPB.out _).mono ?_
              rintro e w3 ⟨a3, n3, c3, rfl, i3, hb⟩
              have h3 : 0 < n3 := HN3.out n3 (rn_len i3)
              have V3 := (V2.below hb).cons i3 HB9.out
              clear i3 hb V2
              go_wp2_with fail
              refine (HM.out _ _ _ (V3.num 1 _ _ rfl).1 (V3.num 0 _ _ rfl).1).mono ?_
              rintro e w4 ⟨v4, rfl, hq, hb⟩
              have V4 := (V3.below hb).qcons hq
              obtain ⟨a5, n5, c5, a6, n6, c6, rfl, -, -⟩ := hq
              obtain ⟨ys, hys⟩ : ∃ y, decide (X.num < 0) = y := ⟨_, rfl⟩
              rw [hys] at V4 ⊢
              have V5 := V4.alloc 34 #[.bool ys, .slice a5 n5 c5, .slice a6 n6 c6]
              have g0 := V5.c0 0 rfl; have g1 := V5.c1 0 rfl; have g2 := V5.c2 0 rfl
              clear V3 V4 hb hys
              go_wp2_with fail
              refine (HT.out _ _ (V5.ref 0 _ _ rfl)).mono ?_
              rintro e w7 ⟨rfl, hb⟩
              have V7 := V5.below hb
              clear V5 hb g0 g1 g2
              have VL := V7.lit1
              have HF := Lib.hid (VL.fin3 (x := 0) (y := false) (a := none) (m := 0) (d := 0) 1 3 0 rfl rfl rfl rfl)
              have r0 := VL.c0 1 rfl; have r1 := VL.c1 1 rfl; have r2 := VL.c2 1 rfl
              have f0 := VL.frozen 1 0 rfl; have f1 := VL.frozen 1 1 rfl; have f2 := VL.frozen 1 2 rfl
              clear VL V7
              go_wp2_with fail
              exact bodyPost_ret (res_ref2 rfl _ _ _ _ _ _ _ _ _ _ (.int .i64 3) rfl rfl HF.out.1) rfl (gotP_none HNo.out HF.out.2)
        · have HPA := Lib.hid (fun W => par_any (TT.extract 0 k) W hAs)
          have HPB := Lib.hid (fun W => par_no (TT.extract (k + 1) TT.size) W hBs hwB)
          have HNo : Hid (pq s = none) := Lib.hid (by
           cases h : pq s with
           | none => rfl
           | some x => exact absurd (HK.out x h).2.1 hwB)
          have HPA2 := Lib.hid (fun W => par_yes (TT.extract 0 k) W hAs hwA)
          clear HK hAs hBs hwA hwB HPA
          go_wp2_with fail
          refine (HPA2.out _).mono ?_
          rintro e w2 ⟨a2, n2, c2, rfl, -, hb⟩
          have V2 := V.below hb
          clear hb V
          go_wp2_with fail
          refine (HPB.out _).mono ?_
          rintro e w3 ⟨rfl, hb⟩
          have V3 := V2.below hb
          clear hb V2
          have VL := V3.lit1
          have HF := Lib.hid (VL.fin3 (x := 0) (y := false) (a := none) (m := 0) (d := 0) 0 1 0 rfl rfl rfl rfl)
          have r0 := VL.c0 0 rfl; have r1 := VL.c1 0 rfl; have r2 := VL.c2 0 rfl
          have f0 := VL.frozen 0 0 rfl; have f1 := VL.frozen 0 1 rfl; have f2 := VL.frozen 0 2 rfl
          clear VL V3
          go_wp2_with fail
          exact bodyPost_ret (res_ref2 rfl _ _ _ _ _ _ _ _ _ _ (.int .i64 3) rfl rfl HF.out.1) rfl (gotP_none HNo.out HF.out.2)
      · have HPA := Lib.hid (fun W => par_no (TT.extract 0 k) W hAs hwA)
        have HPB := Lib.hid (fun W => par_any (TT.extract (k + 1) TT.size) W hBs)
        have HNo : Hid (pq s = none) := Lib.hid (by
         cases h : pq s with
         | none => rfl
         | some x => exact absurd (HK.out x h).1 hwA)
        clear HK hAs hBs hwA
        go_wp2_with fail
        refine (HPA.out _).mono ?_
        rintro e w2 ⟨rfl, hb⟩
        have V2 := V.below hb
        clear hb V
        go_wp2_with fail
        refine (HPB.out _).mono ?_
        rintro e w3 ⟨a3, n3, c3, k3, rfl, hb⟩
        have V3 := V2.below hb
        clear hb V2
        have VL := V3.lit1
        have HF := Lib.hid (VL.fin3 (x := 0) (y := false) (a := none) (m := 0) (d := 0) 0 1 0 rfl rfl rfl rfl)
        have r0 := VL.c0 0 rfl; have r1 := VL.c1 0 rfl; have r2 := VL.c2 0 rfl
        have f0 := VL.frozen 0 0 rfl; have f1 := VL.frozen 0 1 rfl; have f2 := VL.frozen 0 2 rfl
        clear VL V3
        go_wp2_with fail
        exact bodyPost_ret (res_ref2 rfl _ _ _ _ _ _ _ _ _ _ (.int .i64 3) rfl rfl HF.out.1) rfl (gotP_none HNo.out HF.out.2)
set_option maxRecDepth 100000 in
set_option maxHeartbeats 8000000 in
theorem rratparse_pos (s : ByteArray) (w : World) (hs : s.size ≤ 640) (hp : 0 < s.size) (he0 : (((s[0]'hp).toNat : Int) == 45) = false) (hng : ng s = false) : Calls Tryz.prog 10 #[.string s] w (GotP (pq s) w) := by
 have hpi : (0 : Int) < (s.size : Int) := by omega
 have V := ((Dq.refl w).cons (rn_zero w) (d_pos 900 (by omega) (by omega))).alloc 34 #[.bool false, .slice none 0 0, .slice none 0 0]
 have hbd : bd s = s := by unfold bd; rw [hng]; rfl
 have Hbd := Lib.hid hbd
 have hts : s.size ≤ 640 := hs
 clear hbd
 have HV := Lib.hid V
 clear V
 go_enter Tryz.func10, Tryz.ntmps10
 go_wp2_with fail
 go_loop [7, 8] (fun cv iv => ∃ (c : Int) (i : Nat), cv = .int .i64 c ∧ iv = .int .i64 (i : Int) ∧ i ≤ s.size ∧ (c = -1 ∧ Hid (∀ j, j < i → s.data.toList[j]? ≠ some 47) ∨ ∃ k : Nat, c = (k : Int) ∧ k < s.size ∧ Hid (Lib.indexByte s.data.toList 47 = (k : Int)))) (fun _ iv => s.size - (intOf iv).toNat)
 case atStart => exact ⟨-1, 0, rfl, rfl, by omega, .inl ⟨rfl, Lib.hid (fun j hj => by omega)⟩⟩
 case round =>
  obtain ⟨c, i, rfl, rfl, hi, hd⟩ := hrel
  have hi0 : (0 : Int) ≤ (i : Int) := by omega
  rcases hd with ⟨rfl, hno⟩ | ⟨k, rfl, hk, hix⟩
  · by_cases hlt : i < s.size
    · have hlti : (i : Int) < (s.size : Int) := by omega
      have hgat : s.data.toList[i]? = some (s[i]'hlt) := toList_at s i hlt
      cases heb : (((s[i]'hlt).toNat : Int) == 47) with
      | true =>
       have hE : Hid (Lib.indexByte s.data.toList 47 = (i : Int)) := Lib.hid (idx_first (by rw [hgat]; congr 1; exact UInt8.toNat_inj.1 (by have := eq_of_beq heb; show (s[i]'hlt).toNat = 47; omega)) hno.out)
       clear hgat hno
       go_wp2_with fail
       go_round
       case rel => exact ⟨(i : Int), i + 1, rfl, by go_num, by omega, .inr ⟨i, rfl, hlt, hE⟩⟩
       case measure => simp [intOf]; omega
      | false =>
       have hE : Hid (∀ j, j < i + 1 → s.data.toList[j]? ≠ some 47) := Lib.hid (fun j hj h => by
        by_cases hji : j < i
        · exact hno.out j hji h
        · obtain rfl : j = i := by omega
          rw [hgat] at h
          injection h with h
          rw [h] at heb
          revert heb
          decide)
       clear hgat hno
       go_wp2_with fail
       go_round
       case rel => exact ⟨-1, i + 1, rfl, by go_num, by omega, .inl ⟨rfl, hE⟩⟩
       case measure => simp [intOf]; omega
    · obtain rfl : i = s.size := by omega
      have hnlt : ¬ (s.size : Int) < (s.size : Int) := by omega
      have V := HV.out
      have hsl : sl s = none := by
       unfold sl
       rw [idx_last (fun j hj => hno.out j (by simpa using hj))]
       rfl
      have hAB : above (bd s) = s := by rw [Hbd.out]; unfold above; rw [hsl]
      have hBB : under1 (bd s) = ⟨#[49]⟩ := by rw [Hbd.out]; unfold under1; rw [if_pos hsl]
      have hAs : s.size ≤ 640 := hts
      have hBs : (⟨#[49]⟩ : ByteArray).size ≤ 640 := by decide
      clear hsl hno
      have HK : Hid (∀ x, pq s = some x → WF s ∧ WF ⟨#[49]⟩ ∧ nn ⟨#[49]⟩ ≠ 0 ∧ x = mkRat (sgn false (nn s)) (nn ⟨#[49]⟩)) := Lib.hid (fun x h => by
       have h1 := pq_ok h
       rw [hAB, hBB, hng] at h1
       exact h1)
      clear hAB hBB
      by_cases hwA : WF s
      · by_cases hwB : WF ⟨#[49]⟩
        · have HPA := Lib.hid (fun W => par_yes s W hAs hwA)
          have HPB := Lib.hid (fun W => par_yes ⟨#[49]⟩ W hBs hwB)
          have hA9 : nn s < 10000 ^ 160 := nn_ltd (by omega)
          have hB9 : nn ⟨#[49]⟩ < 10000 ^ 160 := nn_ltd (by omega)
          obtain ⟨NA, hNA⟩ : ∃ N, nn s = N := ⟨_, rfl⟩
          obtain ⟨NB, hNB⟩ : ∃ N, nn ⟨#[49]⟩ = N := ⟨_, rfl⟩
          simp only [hNA] at HPA HK hA9
          simp only [hNB] at HPB HK hB9
          have HA9 := Lib.hid (pow_up 160 900 hA9 (by omega)); have HB9 := Lib.hid (pow_up 160 900 hB9 (by omega))
          clear hNA hNB hwA hwB hAs hBs
          by_cases hb0 : NB = 0
          · have HNo : Hid (pq s = none) := Lib.hid (by
             cases h : pq s with
             | none => rfl
             | some x => exact absurd hb0 (HK.out x h).2.2.1)
            clear HK hA9 hB9
            go_wp2_with fail
            refine (HPA.out _).mono ?_
            rintro e w2 ⟨a2, n2, c2, rfl, i2, hb⟩
            have V2 := (V.below hb).cons i2 HA9.out
            clear i2 hb V
            go_wp2_with fail
            refine (HPB.out _).mono ?_
            rintro e w3 ⟨a3, n3, c3, rfl, i3, hb⟩
            obtain rfl : n3 = 0 := (rn_len i3).2 hb0
            have V3 := (V2.below hb).cons i3 HB9.out
            clear i3 hb V2 hb0
            have VL := V3.lit1
            have HF := Lib.hid (VL.fin3 (x := 0) (y := false) (a := none) (m := 0) (d := 0) 0 3 0 rfl rfl rfl rfl)
            have r0 := VL.c0 0 rfl; have r1 := VL.c1 0 rfl; have r2 := VL.c2 0 rfl
            have f0 := VL.frozen 0 0 rfl; have f1 := VL.frozen 0 1 rfl; have f2 := VL.frozen 0 2 rfl
            clear VL V3
            go_wp2_with fail
            exact bodyPost_ret (res_ref2 rfl _ _ _ _ _ _ _ _ _ _ (.int .i64 3) rfl rfl HF.out.1) rfl (gotP_none HNo.out HF.out.2)
          · obtain ⟨X, hX⟩ : ∃ x, mkRat (sgn false NA) NB = x := ⟨_, rfl⟩
            have hXs : SzD 900 X := by
             rw [← hX]
             exact (szd_mk hb0 (by rw [sgn_abs]; exact hA9) hB9).mono (by omega)
            have HM : Hid (∀ W va vb, RN W va NA → RN W vb NB → Calls Tryz.prog 26 #[.bool false, va, vb] W (GaveQ X W)) := Lib.hid (fun W va vb h1 h2 => rmake_any X false NA NB va vb W h1 h2 HA9.out HB9.out (by omega) hX.symm)
            have HT : Hid (∀ W v, RQ W v X → Calls Tryz.prog 8 #[v] W fun e w' => e = .returned (.string (tx X)) ∧ Below W.heap.size W w') := Lib.hid (fun W v h => rattext_any X v W h hXs)
            have hyes : tx X = s → pq s = some X := fun h => by rw [← h]; exact pq_tx X
            have hnot : tx X ≠ s → pq s = none := fun h => by
             cases hp : pq s with
             | none => rfl
             | some x =>
              have h1 := (HK.out x hp).2.2.2
              rw [hX] at h1
              subst h1
              exact absurd (tx_pq hp) h
            have HYes := Lib.hid hyes; have HNot := Lib.hid hnot
            obtain ⟨TX, hTX⟩ : ∃ t, tx X = t := ⟨_, rfl⟩
            rw [hTX] at HT HYes HNot
            have hn3 : ∀ n : Nat, (n = 0 ↔ NB = 0) → 0 < n := fun n h => by
             have : n ≠ 0 := fun e => hb0 (h.1 e)
             omega
            have HN3 := Lib.hid hn3
            clear HK hX hXs hyes hnot hTX hA9 hB9 hb0 hn3
            have hcmp := list_eqb TX s
            by_cases hts : TX = s
            · have he : (TX.toList == s.toList) = true := by rw [hcmp, decide_eq_true hts]
              have he2 : (TX.toList != s.toList) = false := by rw [bne, he]; rfl
              have HY := Lib.hid (HYes.out hts)
              clear hcmp hts HYes HNot
              go_wp2_with fail
              refine (HPA.out _).mono ?_
              rintro e w2 ⟨a2, n2, c2, rfl, i2, hb⟩
              have V2 := (V.below hb).cons i2 HA9.out
              clear i2 hb V
              go_wp2_with fail
              refine (HPB.out _).mono ?_
              rintro e w3 ⟨a3, n3, c3, rfl, i3, hb⟩
              have h3 : 0 < n3 := HN3.out n3 (rn_len i3)
              have V3 := (V2.below hb).cons i3 HB9.out
              clear i3 hb V2
              go_wp2_with fail
              refine (HM.out _ _ _ (V3.num 1 _ _ rfl).1 (V3.num 0 _ _ rfl).1).mono ?_
              rintro e w4 ⟨v4, rfl, hq, hb⟩
              have V4 := (V3.below hb).qcons hq
              obtain ⟨a5, n5, c5, a6, n6, c6, rfl, -, -⟩ := hq
              obtain ⟨ys, hys⟩ : ∃ y, decide (X.num < 0) = y := ⟨_, rfl⟩
              rw [hys] at V4 ⊢
              have V5 := V4.alloc 34 #[.bool ys, .slice a5 n5 c5, .slice a6 n6 c6]
              have g0 := V5.c0 0 rfl; have g1 := V5.c1 0 rfl; have g2 := V5.c2 0 rfl
              clear V3 V4 hb hys
              go_wp2_with fail
              refine (HT.out _ _ (V5.ref 0 _ _ rfl)).mono ?_
              rintro e w7 ⟨rfl, hb⟩
              have V7 := V5.below hb
              clear V5 hb g0 g1 g2
              have HF := Lib.hid (V7.finq 1 0 rfl rfl)
              have r0 := V7.c0 1 rfl; have r1 := V7.c1 1 rfl; have r2 := V7.c2 1 rfl
              have f0 := V7.frozen 1 0 rfl; have f1 := V7.frozen 1 1 rfl; have f2 := V7.frozen 1 2 rfl
              have g0 := V7.c0 0 rfl; have g1 := V7.c1 0 rfl; have g2 := V7.c2 0 rfl
              clear V7
              go_wp2_with fail
              exact bodyPost_ret (res_ref2 rfl _ _ _ _ _ _ _ _ _ _ (.int .i64 0) rfl rfl HF.out.1) rfl (gotP_some HY.out HF.out.2)
            · have he : (TX.toList == s.toList) = false := by rw [hcmp, decide_eq_false hts]
              have he2 : (TX.toList != s.toList) = true := by rw [bne, he]; rfl
              have HNo := Lib.hid (HNot.out hts)
              clear hcmp hts HYes HNot
              go_wp2_with fail
              refine (HPA.out _).mono ?_
              rintro e w2 ⟨a2, n2, c2, rfl, i2, hb⟩
              have V2 := (V.below hb).cons i2 HA9.out
              clear i2 hb V
              go_wp2_with fail
              refine (HPB.out _).mono ?_
              rintro e w3 ⟨a3, n3, c3, rfl, i3, hb⟩
              have h3 : 0 < n3 := HN3.out n3 (rn_len i3)
              have V3 := (V2.below hb).cons i3 HB9.out
              clear i3 hb V2
              go_wp2_with fail
              refine (HM.out _ _ _ (V3.num 1 _ _ rfl).1 (V3.num 0 _ _ rfl).1).mono ?_
              rintro e w4 ⟨v4, rfl, hq, hb⟩
              have V4 := (V3.below hb).qcons hq
              obtain ⟨a5, n5, c5, a6, n6, c6, rfl, -, -⟩ := hq
              obtain ⟨ys, hys⟩ : ∃ y, decide (X.num < 0) = y := ⟨_, rfl⟩
              rw [hys] at V4 ⊢
              have V5 := V4.alloc 34 #[.bool ys, .slice a5 n5 c5, .slice a6 n6 c6]
              have g0 := V5.c0 0 rfl; have g1 := V5.c1 0 rfl; have g2 := V5.c2 0 rfl
              clear V3 V4 hb hys
              go_wp2_with fail
              refine (HT.out _ _ (V5.ref 0 _ _ rfl)).mono ?_
              rintro e w7 ⟨rfl, hb⟩
              have V7 := V5.below hb
              clear V5 hb g0 g1 g2
              have VL := V7.lit1
              have HF := Lib.hid (VL.fin3 (x := 0) (y := false) (a := none) (m := 0) (d := 0) 1 3 0 rfl rfl rfl rfl)
              have r0 := VL.c0 1 rfl; have r1 := VL.c1 1 rfl; have r2 := VL.c2 1 rfl
              have f0 := VL.frozen 1 0 rfl; have f1 := VL.frozen 1 1 rfl; have f2 := VL.frozen 1 2 rfl
              clear VL V7
              go_wp2_with fail
              exact bodyPost_ret (res_ref2 rfl _ _ _ _ _ _ _ _ _ _ (.int .i64 3) rfl rfl HF.out.1) rfl (gotP_none HNo.out HF.out.2)
        · have HPA := Lib.hid (fun W => par_any s W hAs)
          have HPB := Lib.hid (fun W => par_no ⟨#[49]⟩ W hBs hwB)
          have HNo : Hid (pq s = none) := Lib.hid (by
           cases h : pq s with
           | none => rfl
           | some x => exact absurd (HK.out x h).2.1 hwB)
          have HPA2 := Lib.hid (fun W => par_yes s W hAs hwA)
          clear HK hAs hBs hwA hwB HPA
          go_wp2_with fail
          refine (HPA2.out _).mono ?_
          rintro e w2 ⟨a2, n2, c2, rfl, -, hb⟩
          have V2 := V.below hb
          clear hb V
          go_wp2_with fail
          refine (HPB.out _).mono ?_
          rintro e w3 ⟨rfl, hb⟩
          have V3 := V2.below hb
          clear hb V2
          have VL := V3.lit1
          have HF := Lib.hid (VL.fin3 (x := 0) (y := false) (a := none) (m := 0) (d := 0) 0 1 0 rfl rfl rfl rfl)
          have r0 := VL.c0 0 rfl; have r1 := VL.c1 0 rfl; have r2 := VL.c2 0 rfl
          have f0 := VL.frozen 0 0 rfl; have f1 := VL.frozen 0 1 rfl; have f2 := VL.frozen 0 2 rfl
          clear VL V3
          go_wp2_with fail
          exact bodyPost_ret (res_ref2 rfl _ _ _ _ _ _ _ _ _ _ (.int .i64 3) rfl rfl HF.out.1) rfl (gotP_none HNo.out HF.out.2)
      · have HPA := Lib.hid (fun W => par_no s W hAs hwA)
        have HPB := Lib.hid (fun W => par_any ⟨#[49]⟩ W hBs)
        have HNo : Hid (pq s = none) := Lib.hid (by
         cases h : pq s with
         | none => rfl
         | some x => exact absurd (HK.out x h).1 hwA)
        clear HK hAs hBs hwA
        go_wp2_with fail
        refine (HPA.out _).mono ?_
        rintro e w2 ⟨rfl, hb⟩
        have V2 := V.below hb
        clear hb V
        go_wp2_with fail
        refine (HPB.out _).mono ?_
        rintro e w3 ⟨a3, n3, c3, k3, rfl, hb⟩
        have V3 := V2.below hb
        clear hb V2
        have VL := V3.lit1
        have HF := Lib.hid (VL.fin3 (x := 0) (y := false) (a := none) (m := 0) (d := 0) 0 1 0 rfl rfl rfl rfl)
        have r0 := VL.c0 0 rfl; have r1 := VL.c1 0 rfl; have r2 := VL.c2 0 rfl
        have f0 := VL.frozen 0 0 rfl; have f1 := VL.frozen 0 1 rfl; have f2 := VL.frozen 0 2 rfl
        clear VL V3
        go_wp2_with fail
        exact bodyPost_ret (res_ref2 rfl _ _ _ _ _ _ _ _ _ _ (.int .i64 3) rfl rfl HF.out.1) rfl (gotP_none HNo.out HF.out.2)
  · have hk0 : (0 : Int) ≤ (k : Int) := by omega
    have hkn : ¬ (k : Int) < 0 := by omega
    have hk1 : (k : Int) < (s.size : Int) := by omega
    have hk2 : (k : Int) + 1 ≤ (s.size : Int) := by omega
    have hk3 : k ≤ s.size := by omega
    have hwr : IntKind.i64.wrap ((k : Int) + 1) = ((k + 1 : Nat) : Int) := by simp [IntKind.wrap, IntKind.signed, IntKind.bits]; omega
    have hk4 : 0 ≤ ((k + 1 : Nat) : Int) ∧ ((k + 1 : Nat) : Int) ≤ (s.size : Int) := by omega
    by_cases hlt : (i : Int) < (s.size : Int)
    · have V := HV.out
      go_wp2_with fail
      replace V := V.drew
      refine wp_region_held_drew (S := (fun _ => True)) (by kernel_rfl) ?_ (fun hHeld => ?_)
      · exact trivial
      refine tkH (i := 0) (v := ?_) rfl (by kernel_rfl) (fun _ _ _ h => h) (Or.inl ⟨by rfl, ?_⟩) (by assumption) ?_
      rotate_left
      · intro w hSw; (try dsimp only at hSw); go_simp; (try with_reducible rfl)
      try simp only [las]
      refine tkH (i := 1) (v := ?_) rfl (by kernel_rfl) (fun _ _ _ h => h) (Or.inl ⟨by rfl, ?_⟩) (by assumption) ?_
      rotate_left
      · intro w hSw; (try dsimp only at hSw); go_simp; (try with_reducible rfl)
      try simp only [las]
      refine tkH (i := 2) (v := .string (s.extract 0 k)) rfl (by kernel_rfl) (fun _ _ _ h => h) (Or.inl ⟨by rfl, ?_⟩) (by assumption) ?_
      · intro w hSw; (try dsimp only at hSw); go_simp; skip
      try simp only [las]
      refine tkH (i := 3) (v := ?_) rfl (by kernel_rfl) (fun _ _ _ h => h) (Or.inl ⟨by rfl, ?_⟩) (by assumption) ?_
      rotate_left
      · intro w hSw; (try dsimp only at hSw); go_simp; (try with_reducible rfl)
      try simp only [las]
      refine tkH (i := 4) (v := ?_) rfl (by kernel_rfl) (fun _ _ _ h => h) (Or.inl ⟨by rfl, ?_⟩) (by assumption) ?_
      rotate_left
      · intro w hSw; (try dsimp only at hSw); go_simp; (try with_reducible rfl)
      try simp only [las]
      refine tkH (i := 5) (v := ?_) rfl (by kernel_rfl) (fun _ _ _ h => h) (Or.inl ⟨by rfl, ?_⟩) (by assumption) ?_
      rotate_left
      · intro w hSw; (try dsimp only at hSw); go_simp; (try with_reducible rfl)
      try simp only [las]
      refine tkH (i := 6) (v := .string (s.extract (k + 1) s.size)) rfl (by kernel_rfl) (fun _ _ _ h => h) (Or.inl ⟨by rfl, ?_⟩) (by assumption) ?_
      · intro w hSw; (try dsimp only at hSw); go_simp; exact fun hneg => absurd hneg (by omega)
      try simp only [las]
      refine tkH (i := 7) (v := ?_) rfl (by kernel_rfl) (fun _ _ _ h => h) (Or.inl ⟨by rfl, ?_⟩) (by assumption) ?_
      rotate_left
      · intro w hSw; (try dsimp only at hSw); go_simp; (try with_reducible rfl)
      try simp only [las]
      refine tkH (i := 8) (v := ?_) rfl (by kernel_rfl) (fun _ _ _ h => h) (Or.inl ⟨by rfl, ?_⟩) (by assumption) ?_
      rotate_left
      · intro w hSw; (try dsimp only at hSw); go_simp; (try with_reducible rfl)
      try simp only [las]
      refine wpAnyH_done (by kernel_rfl) ?_ _
      have hsl : sl s = some k := by
       unfold sl
       rw [hix.out, if_pos (by omega)]
       rfl
      have hAB : above (bd s) = s.extract 0 k := by rw [Hbd.out]; unfold above; rw [hsl]
      have hBB : under1 (bd s) = s.extract (k + 1) s.size := by rw [Hbd.out]; unfold under1 under; rw [hsl]; rfl
      have hAs : (s.extract 0 k).size ≤ 640 := by rw [ByteArray.size_extract]; omega
      have hBs : (s.extract (k + 1) s.size).size ≤ 640 := by rw [ByteArray.size_extract]; omega
      clear hsl hix
      have HK : Hid (∀ x, pq s = some x → WF (s.extract 0 k) ∧ WF (s.extract (k + 1) s.size) ∧ nn (s.extract (k + 1) s.size) ≠ 0 ∧ x = mkRat (sgn false (nn (s.extract 0 k))) (nn (s.extract (k + 1) s.size))) := Lib.hid (fun x h => by
       have h1 := pq_ok h
       rw [hAB, hBB, hng] at h1
       exact h1)
      clear hAB hBB
      by_cases hwA : WF (s.extract 0 k)
      · by_cases hwB : WF (s.extract (k + 1) s.size)
        · have HPA := Lib.hid (fun W => par_yes (s.extract 0 k) W hAs hwA)
          have HPB := Lib.hid (fun W => par_yes (s.extract (k + 1) s.size) W hBs hwB)
          have hA9 : nn (s.extract 0 k) < 10000 ^ 160 := nn_ltd (by omega)
          have hB9 : nn (s.extract (k + 1) s.size) < 10000 ^ 160 := nn_ltd (by omega)
          obtain ⟨NA, hNA⟩ : ∃ N, nn (s.extract 0 k) = N := ⟨_, rfl⟩
          obtain ⟨NB, hNB⟩ : ∃ N, nn (s.extract (k + 1) s.size) = N := ⟨_, rfl⟩
          simp only [hNA] at HPA HK hA9
          simp only [hNB] at HPB HK hB9
          have HA9 := Lib.hid (pow_up 160 900 hA9 (by omega)); have HB9 := Lib.hid (pow_up 160 900 hB9 (by omega))
          clear hNA hNB hwA hwB hAs hBs
          by_cases hb0 : NB = 0
          · have HNo : Hid (pq s = none) := Lib.hid (by
             cases h : pq s with
             | none => rfl
             | some x => exact absurd hb0 (HK.out x h).2.2.1)
            clear HK hA9 hB9
            go_wp2_with fail
            refine (HPA.out _).mono ?_
            rintro e w2 ⟨a2, n2, c2, rfl, i2, hb⟩
            have V2 := (V.below hb).cons i2 HA9.out
            clear i2 hb V
            go_wp2_with fail
            refine (HPB.out _).mono ?_
            rintro e w3 ⟨a3, n3, c3, rfl, i3, hb⟩
            obtain rfl : n3 = 0 := (rn_len i3).2 hb0
            have V3 := (V2.below hb).cons i3 HB9.out
            clear i3 hb V2 hb0
            have VL := V3.lit1
            have HF := Lib.hid (VL.fin3 (x := 0) (y := false) (a := none) (m := 0) (d := 0) 0 3 0 rfl rfl rfl rfl)
            have r0 := VL.c0 0 rfl; have r1 := VL.c1 0 rfl; have r2 := VL.c2 0 rfl
            have f0 := VL.frozen 0 0 rfl; have f1 := VL.frozen 0 1 rfl; have f2 := VL.frozen 0 2 rfl
            clear VL V3
            go_wp2_with fail
            exact bodyPost_ret (res_ref2 rfl _ _ _ _ _ _ _ _ _ _ (.int .i64 3) rfl rfl HF.out.1) rfl (gotP_none HNo.out HF.out.2)
          · obtain ⟨X, hX⟩ : ∃ x, mkRat (sgn false NA) NB = x := ⟨_, rfl⟩
            have hXs : SzD 900 X := by
             rw [← hX]
             exact (szd_mk hb0 (by rw [sgn_abs]; exact hA9) hB9).mono (by omega)
            have HM : Hid (∀ W va vb, RN W va NA → RN W vb NB → Calls Tryz.prog 26 #[.bool false, va, vb] W (GaveQ X W)) := Lib.hid (fun W va vb h1 h2 => rmake_any X false NA NB va vb W h1 h2 HA9.out HB9.out (by omega) hX.symm)
            have HT : Hid (∀ W v, RQ W v X → Calls Tryz.prog 8 #[v] W fun e w' => e = .returned (.string (tx X)) ∧ Below W.heap.size W w') := Lib.hid (fun W v h => rattext_any X v W h hXs)
            have hyes : tx X = s → pq s = some X := fun h => by rw [← h]; exact pq_tx X
            have hnot : tx X ≠ s → pq s = none := fun h => by
             cases hp : pq s with
             | none => rfl
             | some x =>
              have h1 := (HK.out x hp).2.2.2
              rw [hX] at h1
              subst h1
              exact absurd (tx_pq hp) h
            have HYes := Lib.hid hyes; have HNot := Lib.hid hnot
            obtain ⟨TX, hTX⟩ : ∃ t, tx X = t := ⟨_, rfl⟩
            rw [hTX] at HT HYes HNot
            have hn3 : ∀ n : Nat, (n = 0 ↔ NB = 0) → 0 < n := fun n h => by
             have : n ≠ 0 := fun e => hb0 (h.1 e)
             omega
            have HN3 := Lib.hid hn3
            clear HK hX hXs hyes hnot hTX hA9 hB9 hb0 hn3
            have hcmp := list_eqb TX s
            by_cases hts : TX = s
            · have he : (TX.toList == s.toList) = true := by rw [hcmp, decide_eq_true hts]
              have he2 : (TX.toList != s.toList) = false := by rw [bne, he]; rfl
              have HY := Lib.hid (HYes.out hts)
              clear hcmp hts HYes HNot
              go_wp2_with fail
              refine (HPA.out _).mono ?_
              rintro e w2 ⟨a2, n2, c2, rfl, i2, hb⟩
              have V2 := (V.below hb).cons i2 HA9.out
              clear i2 hb V
              go_wp2_with fail
              refine (HPB.out _).mono ?_
              rintro e w3 ⟨a3, n3, c3, rfl, i3, hb⟩
              have h3 : 0 < n3 := HN3.out n3 (rn_len i3)
              have V3 := (V2.below hb).cons i3 HB9.out
              clear i3 hb V2
              go_wp2_with fail
              refine (HM.out _ _ _ (V3.num 1 _ _ rfl).1 (V3.num 0 _ _ rfl).1).mono ?_
              rintro e w4 ⟨v4, rfl, hq, hb⟩
              have V4 := (V3.below hb).qcons hq
              obtain ⟨a5, n5, c5, a6, n6, c6, rfl, -, -⟩ := hq
              obtain ⟨ys, hys⟩ : ∃ y, decide (X.num < 0) = y := ⟨_, rfl⟩
              rw [hys] at V4 ⊢
              have V5 := V4.alloc 34 #[.bool ys, .slice a5 n5 c5, .slice a6 n6 c6]
              have g0 := V5.c0 0 rfl; have g1 := V5.c1 0 rfl; have g2 := V5.c2 0 rfl
              clear V3 V4 hb hys
              go_wp2_with fail
              refine (HT.out _ _ (V5.ref 0 _ _ rfl)).mono ?_
              rintro e w7 ⟨rfl, hb⟩
              have V7 := V5.below hb
              clear V5 hb g0 g1 g2
              have HF := Lib.hid (V7.finq 1 0 rfl rfl)
              have r0 := V7.c0 1 rfl; have r1 := V7.c1 1 rfl; have r2 := V7.c2 1 rfl
              have f0 := V7.frozen 1 0 rfl; have f1 := V7.frozen 1 1 rfl; have f2 := V7.frozen 1 2 rfl
              have g0 := V7.c0 0 rfl; have g1 := V7.c1 0 rfl; have g2 := V7.c2 0 rfl
              clear V7
              go_wp2_with fail
              exact bodyPost_ret (res_ref2 rfl _ _ _ _ _ _ _ _ _ _ (.int .i64 0) rfl rfl HF.out.1) rfl (gotP_some HY.out HF.out.2)
            · have he : (TX.toList == s.toList) = false := by rw [hcmp, decide_eq_false hts]
              have he2 : (TX.toList != s.toList) = true := by rw [bne, he]; rfl
              have HNo := Lib.hid (HNot.out hts)
              clear hcmp hts HYes HNot
              go_wp2_with fail
              refine (HPA.out _).mono ?_
              rintro e w2 ⟨a2, n2, c2, rfl, i2, hb⟩
              have V2 := (V.below hb).cons i2 HA9.out
              clear i2 hb V
              go_wp2_with fail
              refine (HPB.out _).mono ?_
              rintro e w3 ⟨a3, n3, c3, rfl, i3, hb⟩
              have h3 : 0 < n3 := HN3.out n3 (rn_len i3)
              have V3 := (V2.below hb).cons i3 HB9.out
              clear i3 hb V2
              go_wp2_with fail
              refine (HM.out _ _ _ (V3.num 1 _ _ rfl).1 (V3.num 0 _ _ rfl).1).mono ?_
              rintro e w4 ⟨v4, rfl, hq, hb⟩
              have V4 := (V3.below hb).qcons hq
              obtain ⟨a5, n5, c5, a6, n6, c6, rfl, -, -⟩ := hq
              obtain ⟨ys, hys⟩ : ∃ y, decide (X.num < 0) = y := ⟨_, rfl⟩
              rw [hys] at V4 ⊢
              have V5 := V4.alloc 34 #[.bool ys, .slice a5 n5 c5, .slice a6 n6 c6]
              have g0 := V5.c0 0 rfl; have g1 := V5.c1 0 rfl; have g2 := V5.c2 0 rfl
              clear V3 V4 hb hys
              go_wp2_with fail
              refine (HT.out _ _ (V5.ref 0 _ _ rfl)).mono ?_
              rintro e w7 ⟨rfl, hb⟩
              have V7 := V5.below hb
              clear V5 hb g0 g1 g2
              have VL := V7.lit1
              have HF := Lib.hid (VL.fin3 (x := 0) (y := false) (a := none) (m := 0) (d := 0) 1 3 0 rfl rfl rfl rfl)
              have r0 := VL.c0 1 rfl; have r1 := VL.c1 1 rfl; have r2 := VL.c2 1 rfl
              have f0 := VL.frozen 1 0 rfl; have f1 := VL.frozen 1 1 rfl; have f2 := VL.frozen 1 2 rfl
              clear VL V7
              go_wp2_with fail
              exact bodyPost_ret (res_ref2 rfl _ _ _ _ _ _ _ _ _ _ (.int .i64 3) rfl rfl HF.out.1) rfl (gotP_none HNo.out HF.out.2)
        · have HPA := Lib.hid (fun W => par_any (s.extract 0 k) W hAs)
          have HPB := Lib.hid (fun W => par_no (s.extract (k + 1) s.size) W hBs hwB)
          have HNo : Hid (pq s = none) := Lib.hid (by
           cases h : pq s with
           | none => rfl
           | some x => exact absurd (HK.out x h).2.1 hwB)
          have HPA2 := Lib.hid (fun W => par_yes (s.extract 0 k) W hAs hwA)
          clear HK hAs hBs hwA hwB HPA
          go_wp2_with fail
          refine (HPA2.out _).mono ?_
          rintro e w2 ⟨a2, n2, c2, rfl, -, hb⟩
          have V2 := V.below hb
          clear hb V
          go_wp2_with fail
          refine (HPB.out _).mono ?_
          rintro e w3 ⟨rfl, hb⟩
          have V3 := V2.below hb
          clear hb V2
          have VL := V3.lit1
          have HF := Lib.hid (VL.fin3 (x := 0) (y := false) (a := none) (m := 0) (d := 0) 0 1 0 rfl rfl rfl rfl)
          have r0 := VL.c0 0 rfl; have r1 := VL.c1 0 rfl; have r2 := VL.c2 0 rfl
          have f0 := VL.frozen 0 0 rfl; have f1 := VL.frozen 0 1 rfl; have f2 := VL.frozen 0 2 rfl
          clear VL V3
          go_wp2_with fail
          exact bodyPost_ret (res_ref2 rfl _ _ _ _ _ _ _ _ _ _ (.int .i64 3) rfl rfl HF.out.1) rfl (gotP_none HNo.out HF.out.2)
      · have HPA := Lib.hid (fun W => par_no (s.extract 0 k) W hAs hwA)
        have HPB := Lib.hid (fun W => par_any (s.extract (k + 1) s.size) W hBs)
        have HNo : Hid (pq s = none) := Lib.hid (by
         cases h : pq s with
         | none => rfl
         | some x => exact absurd (HK.out x h).1 hwA)
        clear HK hAs hBs hwA
        go_wp2_with fail
        refine (HPA.out _).mono ?_
        rintro e w2 ⟨rfl, hb⟩
        have V2 := V.below hb
        clear hb V
        go_wp2_with fail
        refine (HPB.out _).mono ?_
        rintro e w3 ⟨a3, n3, c3, k3, rfl, hb⟩
        have V3 := V2.below hb
        clear hb V2
        have VL := V3.lit1
        have HF := Lib.hid (VL.fin3 (x := 0) (y := false) (a := none) (m := 0) (d := 0) 0 1 0 rfl rfl rfl rfl)
        have r0 := VL.c0 0 rfl; have r1 := VL.c1 0 rfl; have r2 := VL.c2 0 rfl
        have f0 := VL.frozen 0 0 rfl; have f1 := VL.frozen 0 1 rfl; have f2 := VL.frozen 0 2 rfl
        clear VL V3
        go_wp2_with fail
        exact bodyPost_ret (res_ref2 rfl _ _ _ _ _ _ _ _ _ _ (.int .i64 3) rfl rfl HF.out.1) rfl (gotP_none HNo.out HF.out.2)
    · have V := HV.out
      go_wp2_with fail
      replace V := V.drew
      refine wp_region_held_drew (S := (fun _ => True)) (by kernel_rfl) ?_ (fun hHeld => ?_)
      · exact trivial
      refine tkH (i := 0) (v := ?_) rfl (by kernel_rfl) (fun _ _ _ h => h) (Or.inl ⟨by rfl, ?_⟩) (by assumption) ?_
      rotate_left
      · intro w hSw; (try dsimp only at hSw); go_simp; (try with_reducible rfl)
      try simp only [las]
      refine tkH (i := 1) (v := ?_) rfl (by kernel_rfl) (fun _ _ _ h => h) (Or.inl ⟨by rfl, ?_⟩) (by assumption) ?_
      rotate_left
      · intro w hSw; (try dsimp only at hSw); go_simp; (try with_reducible rfl)
      try simp only [las]
      refine tkH (i := 2) (v := .string (s.extract 0 k)) rfl (by kernel_rfl) (fun _ _ _ h => h) (Or.inl ⟨by rfl, ?_⟩) (by assumption) ?_
      · intro w hSw; (try dsimp only at hSw); go_simp; skip
      try simp only [las]
      refine tkH (i := 3) (v := ?_) rfl (by kernel_rfl) (fun _ _ _ h => h) (Or.inl ⟨by rfl, ?_⟩) (by assumption) ?_
      rotate_left
      · intro w hSw; (try dsimp only at hSw); go_simp; (try with_reducible rfl)
      try simp only [las]
      refine tkH (i := 4) (v := ?_) rfl (by kernel_rfl) (fun _ _ _ h => h) (Or.inl ⟨by rfl, ?_⟩) (by assumption) ?_
      rotate_left
      · intro w hSw; (try dsimp only at hSw); go_simp; (try with_reducible rfl)
      try simp only [las]
      refine tkH (i := 5) (v := ?_) rfl (by kernel_rfl) (fun _ _ _ h => h) (Or.inl ⟨by rfl, ?_⟩) (by assumption) ?_
      rotate_left
      · intro w hSw; (try dsimp only at hSw); go_simp; (try with_reducible rfl)
      try simp only [las]
      refine tkH (i := 6) (v := .string (s.extract (k + 1) s.size)) rfl (by kernel_rfl) (fun _ _ _ h => h) (Or.inl ⟨by rfl, ?_⟩) (by assumption) ?_
      · intro w hSw; (try dsimp only at hSw); go_simp; exact fun hneg => absurd hneg (by omega)
      try simp only [las]
      refine tkH (i := 7) (v := ?_) rfl (by kernel_rfl) (fun _ _ _ h => h) (Or.inl ⟨by rfl, ?_⟩) (by assumption) ?_
      rotate_left
      · intro w hSw; (try dsimp only at hSw); go_simp; (try with_reducible rfl)
      try simp only [las]
      refine tkH (i := 8) (v := ?_) rfl (by kernel_rfl) (fun _ _ _ h => h) (Or.inl ⟨by rfl, ?_⟩) (by assumption) ?_
      rotate_left
      · intro w hSw; (try dsimp only at hSw); go_simp; (try with_reducible rfl)
      try simp only [las]
      refine wpAnyH_done (by kernel_rfl) ?_ _
      have hsl : sl s = some k := by
       unfold sl
       rw [hix.out, if_pos (by omega)]
       rfl
      have hAB : above (bd s) = s.extract 0 k := by rw [Hbd.out]; unfold above; rw [hsl]
      have hBB : under1 (bd s) = s.extract (k + 1) s.size := by rw [Hbd.out]; unfold under1 under; rw [hsl]; rfl
      have hAs : (s.extract 0 k).size ≤ 640 := by rw [ByteArray.size_extract]; omega
      have hBs : (s.extract (k + 1) s.size).size ≤ 640 := by rw [ByteArray.size_extract]; omega
      clear hsl hix
      have HK : Hid (∀ x, pq s = some x → WF (s.extract 0 k) ∧ WF (s.extract (k + 1) s.size) ∧ nn (s.extract (k + 1) s.size) ≠ 0 ∧ x = mkRat (sgn false (nn (s.extract 0 k))) (nn (s.extract (k + 1) s.size))) := Lib.hid (fun x h => by
       have h1 := pq_ok h
       rw [hAB, hBB, hng] at h1
       exact h1)
      clear hAB hBB
      by_cases hwA : WF (s.extract 0 k)
      · by_cases hwB : WF (s.extract (k + 1) s.size)
        · have HPA := Lib.hid (fun W => par_yes (s.extract 0 k) W hAs hwA)
          have HPB := Lib.hid (fun W => par_yes (s.extract (k + 1) s.size) W hBs hwB)
          have hA9 : nn (s.extract 0 k) < 10000 ^ 160 := nn_ltd (by omega)
          have hB9 : nn (s.extract (k + 1) s.size) < 10000 ^ 160 := nn_ltd (by omega)
          obtain ⟨NA, hNA⟩ : ∃ N, nn (s.extract 0 k) = N := ⟨_, rfl⟩
          obtain ⟨NB, hNB⟩ : ∃ N, nn (s.extract (k + 1) s.size) = N := ⟨_, rfl⟩
          simp only [hNA] at HPA HK hA9
          simp only [hNB] at HPB HK hB9
          have HA9 := Lib.hid (pow_up 160 900 hA9 (by omega)); have HB9 := Lib.hid (pow_up 160 900 hB9 (by omega))
          clear hNA hNB hwA hwB hAs hBs
          by_cases hb0 : NB = 0
          · have HNo : Hid (pq s = none) := Lib.hid (by
             cases h : pq s with
             | none => rfl
             | some x => exact absurd hb0 (HK.out x h).2.2.1)
            clear HK hA9 hB9
            go_wp2_with fail
            refine (HPA.out _).mono ?_
            rintro e w2 ⟨a2, n2, c2, rfl, i2, hb⟩
            have V2 := (V.below hb).cons i2 HA9.out
            clear i2 hb V
            go_wp2_with fail
            refine (HPB.out _).mono ?_
            rintro e w3 ⟨a3, n3, c3, rfl, i3, hb⟩
            obtain rfl : n3 = 0 := (rn_len i3).2 hb0
            have V3 := (V2.below hb).cons i3 HB9.out
            clear i3 hb V2 hb0
            have VL := V3.lit1
            have HF := Lib.hid (VL.fin3 (x := 0) (y := false) (a := none) (m := 0) (d := 0) 0 3 0 rfl rfl rfl rfl)
            have r0 := VL.c0 0 rfl; have r1 := VL.c1 0 rfl; have r2 := VL.c2 0 rfl
            have f0 := VL.frozen 0 0 rfl; have f1 := VL.frozen 0 1 rfl; have f2 := VL.frozen 0 2 rfl
            clear VL V3
            go_wp2_with fail
            exact bodyPost_ret (res_ref2 rfl _ _ _ _ _ _ _ _ _ _ (.int .i64 3) rfl rfl HF.out.1) rfl (gotP_none HNo.out HF.out.2)
          · obtain ⟨X, hX⟩ : ∃ x, mkRat (sgn false NA) NB = x := ⟨_, rfl⟩
            have hXs : SzD 900 X := by
             rw [← hX]
             exact (szd_mk hb0 (by rw [sgn_abs]; exact hA9) hB9).mono (by omega)
            have HM : Hid (∀ W va vb, RN W va NA → RN W vb NB → Calls Tryz.prog 26 #[.bool false, va, vb] W (GaveQ X W)) := Lib.hid (fun W va vb h1 h2 => rmake_any X false NA NB va vb W h1 h2 HA9.out HB9.out (by omega) hX.symm)
            have HT : Hid (∀ W v, RQ W v X → Calls Tryz.prog 8 #[v] W fun e w' => e = .returned (.string (tx X)) ∧ Below W.heap.size W w') := Lib.hid (fun W v h => rattext_any X v W h hXs)
            have hyes : tx X = s → pq s = some X := fun h => by rw [← h]; exact pq_tx X
            have hnot : tx X ≠ s → pq s = none := fun h => by
             cases hp : pq s with
             | none => rfl
             | some x =>
              have h1 := (HK.out x hp).2.2.2
              rw [hX] at h1
              subst h1
              exact absurd (tx_pq hp) h
            have HYes := Lib.hid hyes; have HNot := Lib.hid hnot
            obtain ⟨TX, hTX⟩ : ∃ t, tx X = t := ⟨_, rfl⟩
            rw [hTX] at HT HYes HNot
            have hn3 : ∀ n : Nat, (n = 0 ↔ NB = 0) → 0 < n := fun n h => by
             have : n ≠ 0 := fun e => hb0 (h.1 e)
             omega
            have HN3 := Lib.hid hn3
            clear HK hX hXs hyes hnot hTX hA9 hB9 hb0 hn3
            have hcmp := list_eqb TX s
            by_cases hts : TX = s
            · have he : (TX.toList == s.toList) = true := by rw [hcmp, decide_eq_true hts]
              have he2 : (TX.toList != s.toList) = false := by rw [bne, he]; rfl
              have HY := Lib.hid (HYes.out hts)
              clear hcmp hts HYes HNot
              go_wp2_with fail
              refine (HPA.out _).mono ?_
              rintro e w2 ⟨a2, n2, c2, rfl, i2, hb⟩
              have V2 := (V.below hb).cons i2 HA9.out
              clear i2 hb V
              go_wp2_with fail
              refine (HPB.out _).mono ?_
              rintro e w3 ⟨a3, n3, c3, rfl, i3, hb⟩
              have h3 : 0 < n3 := HN3.out n3 (rn_len i3)
              have V3 := (V2.below hb).cons i3 HB9.out
              clear i3 hb V2
              go_wp2_with fail
              refine (HM.out _ _ _ (V3.num 1 _ _ rfl).1 (V3.num 0 _ _ rfl).1).mono ?_
              rintro e w4 ⟨v4, rfl, hq, hb⟩
              have V4 := (V3.below hb).qcons hq
              obtain ⟨a5, n5, c5, a6, n6, c6, rfl, -, -⟩ := hq
              obtain ⟨ys, hys⟩ : ∃ y, decide (X.num < 0) = y := ⟨_, rfl⟩
              rw [hys] at V4 ⊢
              have V5 := V4.alloc 34 #[.bool ys, .slice a5 n5 c5, .slice a6 n6 c6]
              have g0 := V5.c0 0 rfl; have g1 := V5.c1 0 rfl; have g2 := V5.c2 0 rfl
              clear V3 V4 hb hys
              go_wp2_with fail
              refine (HT.out _ _ (V5.ref 0 _ _ rfl)).mono ?_
              rintro e w7 ⟨rfl, hb⟩
              have V7 := V5.below hb
              clear V5 hb g0 g1 g2
              have HF := Lib.hid (V7.finq 1 0 rfl rfl)
              have r0 := V7.c0 1 rfl; have r1 := V7.c1 1 rfl; have r2 := V7.c2 1 rfl
              have f0 := V7.frozen 1 0 rfl; have f1 := V7.frozen 1 1 rfl; have f2 := V7.frozen 1 2 rfl
              have g0 := V7.c0 0 rfl; have g1 := V7.c1 0 rfl; have g2 := V7.c2 0 rfl
              clear V7
              go_wp2_with fail
              exact bodyPost_ret (res_ref2 rfl _ _ _ _ _ _ _ _ _ _ (.int .i64 0) rfl rfl HF.out.1) rfl (gotP_some HY.out HF.out.2)
            · have he : (TX.toList == s.toList) = false := by rw [hcmp, decide_eq_false hts]
              have he2 : (TX.toList != s.toList) = true := by rw [bne, he]; rfl
              have HNo := Lib.hid (HNot.out hts)
              clear hcmp hts HYes HNot
              go_wp2_with fail
              refine (HPA.out _).mono ?_
              rintro e w2 ⟨a2, n2, c2, rfl, i2, hb⟩
              have V2 := (V.below hb).cons i2 HA9.out
              clear i2 hb V
              go_wp2_with fail
              refine (HPB.out _).mono ?_
              rintro e w3 ⟨a3, n3, c3, rfl, i3, hb⟩
              have h3 : 0 < n3 := HN3.out n3 (rn_len i3)
              have V3 := (V2.below hb).cons i3 HB9.out
              clear i3 hb V2
              go_wp2_with fail
              refine (HM.out _ _ _ (V3.num 1 _ _ rfl).1 (V3.num 0 _ _ rfl).1).mono ?_
              rintro e w4 ⟨v4, rfl, hq, hb⟩
              have V4 := (V3.below hb).qcons hq
              obtain ⟨a5, n5, c5, a6, n6, c6, rfl, -, -⟩ := hq
              obtain ⟨ys, hys⟩ : ∃ y, decide (X.num < 0) = y := ⟨_, rfl⟩
              rw [hys] at V4 ⊢
              have V5 := V4.alloc 34 #[.bool ys, .slice a5 n5 c5, .slice a6 n6 c6]
              have g0 := V5.c0 0 rfl; have g1 := V5.c1 0 rfl; have g2 := V5.c2 0 rfl
              clear V3 V4 hb hys
              go_wp2_with fail
              refine (HT.out _ _ (V5.ref 0 _ _ rfl)).mono ?_
              rintro e w7 ⟨rfl, hb⟩
              have V7 := V5.below hb
              clear V5 hb g0 g1 g2
              have VL := V7.lit1
              have HF := Lib.hid (VL.fin3 (x := 0) (y := false) (a := none) (m := 0) (d := 0) 1 3 0 rfl rfl rfl rfl)
              have r0 := VL.c0 1 rfl; have r1 := VL.c1 1 rfl; have r2 := VL.c2 1 rfl
              have f0 := VL.frozen 1 0 rfl; have f1 := VL.frozen 1 1 rfl; have f2 := VL.frozen 1 2 rfl
              clear VL V7
              go_wp2_with fail
              exact bodyPost_ret (res_ref2 rfl _ _ _ _ _ _ _ _ _ _ (.int .i64 3) rfl rfl HF.out.1) rfl (gotP_none HNo.out HF.out.2)
        · have HPA := Lib.hid (fun W => par_any (s.extract 0 k) W hAs)
          have HPB := Lib.hid (fun W => par_no (s.extract (k + 1) s.size) W hBs hwB)
          have HNo : Hid (pq s = none) := Lib.hid (by
           cases h : pq s with
           | none => rfl
           | some x => exact absurd (HK.out x h).2.1 hwB)
          have HPA2 := Lib.hid (fun W => par_yes (s.extract 0 k) W hAs hwA)
          clear HK hAs hBs hwA hwB HPA
          go_wp2_with fail
          refine (HPA2.out _).mono ?_
          rintro e w2 ⟨a2, n2, c2, rfl, -, hb⟩
          have V2 := V.below hb
          clear hb V
          go_wp2_with fail
          refine (HPB.out _).mono ?_
          rintro e w3 ⟨rfl, hb⟩
          have V3 := V2.below hb
          clear hb V2
          have VL := V3.lit1
          have HF := Lib.hid (VL.fin3 (x := 0) (y := false) (a := none) (m := 0) (d := 0) 0 1 0 rfl rfl rfl rfl)
          have r0 := VL.c0 0 rfl; have r1 := VL.c1 0 rfl; have r2 := VL.c2 0 rfl
          have f0 := VL.frozen 0 0 rfl; have f1 := VL.frozen 0 1 rfl; have f2 := VL.frozen 0 2 rfl
          clear VL V3
          go_wp2_with fail
          exact bodyPost_ret (res_ref2 rfl _ _ _ _ _ _ _ _ _ _ (.int .i64 3) rfl rfl HF.out.1) rfl (gotP_none HNo.out HF.out.2)
      · have HPA := Lib.hid (fun W => par_no (s.extract 0 k) W hAs hwA)
        have HPB := Lib.hid (fun W => par_any (s.extract (k + 1) s.size) W hBs)
        have HNo : Hid (pq s = none) := Lib.hid (by
         cases h : pq s with
         | none => rfl
         | some x => exact absurd (HK.out x h).1 hwA)
        clear HK hAs hBs hwA
        go_wp2_with fail
        refine (HPA.out _).mono ?_
        rintro e w2 ⟨rfl, hb⟩
        have V2 := V.below hb
        clear hb V
        go_wp2_with fail
        refine (HPB.out _).mono ?_
        rintro e w3 ⟨a3, n3, c3, k3, rfl, hb⟩
        have V3 := V2.below hb
        clear hb V2
        have VL := V3.lit1
        have HF := Lib.hid (VL.fin3 (x := 0) (y := false) (a := none) (m := 0) (d := 0) 0 1 0 rfl rfl rfl rfl)
        have r0 := VL.c0 0 rfl; have r1 := VL.c1 0 rfl; have r2 := VL.c2 0 rfl
        have f0 := VL.frozen 0 0 rfl; have f1 := VL.frozen 0 1 rfl; have f2 := VL.frozen 0 2 rfl
        clear VL V3
        go_wp2_with fail
        exact bodyPost_ret (res_ref2 rfl _ _ _ _ _ _ _ _ _ _ (.int .i64 3) rfl rfl HF.out.1) rfl (gotP_none HNo.out HF.out.2)
set_option maxRecDepth 100000 in
set_option maxHeartbeats 8000000 in
theorem rratparse_nil (w : World) : Calls Tryz.prog 10 #[.string ⟨#[]⟩] w (GotP (pq ⟨#[]⟩) w) := by
 have V := ((Dq.refl w).cons (rn_zero w) (d_pos 900 (by omega) (by omega))).alloc 34 #[.bool false, .slice none 0 0, .slice none 0 0]
 have hnw : ¬ WF ⟨#[]⟩ := fun h => absurd h.ne (by decide)
 have HPA := Lib.hid (fun W => par_no ⟨#[]⟩ W (by decide) hnw)
 have HPB := Lib.hid (fun W => par_any ⟨#[49]⟩ W (by decide))
 have HNo : Hid (pq ⟨#[]⟩ = none) := Lib.hid (by
  cases h : pq ⟨#[]⟩ with
  | none => rfl
  | some x => exact absurd (show WF ⟨#[]⟩ from (pq_ok h).1) hnw)
 have HV := Lib.hid V
 clear V hnw
 go_enter Tryz.func10, Tryz.ntmps10
 go_wp2_with fail
 go_loop [7, 8] (fun cv iv => cv = .int .i64 (-1) ∧ iv = .int .i64 0) (fun _ _ => 0)
 case atStart => exact ⟨rfl, rfl⟩
 case round =>
  obtain ⟨rfl, rfl⟩ := hrel
  have V := HV.out
  go_wp2_with fail
  refine (HPA.out _).mono ?_
  rintro e w2 ⟨rfl, hb⟩
  have V2 := V.below hb
  clear hb V
  go_wp2_with fail
  refine (HPB.out _).mono ?_
  rintro e w3 ⟨a3, n3, c3, k3, rfl, hb⟩
  have V3 := V2.below hb
  clear hb V2
  have VL := V3.lit1
  have HF := Lib.hid (VL.fin3 (x := 0) (y := false) (a := none) (m := 0) (d := 0) 0 1 0 rfl rfl rfl rfl)
  have r0 := VL.c0 0 rfl; have r1 := VL.c1 0 rfl; have r2 := VL.c2 0 rfl
  have f0 := VL.frozen 0 0 rfl; have f1 := VL.frozen 0 1 rfl; have f2 := VL.frozen 0 2 rfl
  clear VL V3
  go_wp2_with fail
  exact bodyPost_ret (res_ref2 rfl _ _ _ _ _ _ _ _ _ _ (.int .i64 3) rfl rfl HF.out.1) rfl (gotP_none HNo.out HF.out.2)
theorem rratparse_any (s : ByteArray) (w : World) (hs : s.size ≤ 640) : Calls Tryz.prog 10 #[.string s] w (GotP (pq s) w) := by
 by_cases hp : 0 < s.size
 · have hat := toList_at s 0 hp
   cases he : (((s[0]'hp).toNat : Int) == 45) with
   | true =>
    refine rratparse_neg s w hs hp he ?_
    unfold ng Lib.hasPrefix
    cases hl : s.data.toList with
    | nil => rw [hl] at hat; simp at hat
    | cons b r =>
     rw [hl] at hat
     have h1 : b = s[0]'hp := by simpa using hat
     have h2 : b = 45 := UInt8.toNat_inj.1 (by rw [h1]; have := eq_of_beq he; show (s[0]'hp).toNat = 45; omega)
     rw [h2]
     rfl
   | false =>
    refine rratparse_pos s w hs hp he (ng_false (fun h => ?_)).1
    rw [List.head?_eq_getElem?, hat] at h
    injection h with h
    rw [h] at he
    revert he
    decide
 · have h0 : s = ⟨#[]⟩ := ByteArray.size_eq_zero_iff.1 (by omega)
   subst h0
   exact rratparse_nil w
end Go.Proofs.YtggmnmmjmihnfaaGreatDoor
