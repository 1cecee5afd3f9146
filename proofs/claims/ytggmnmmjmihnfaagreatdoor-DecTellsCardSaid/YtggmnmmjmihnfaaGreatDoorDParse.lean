/-
 Law 3: a literal's number (dec.Parse).
-/
import Derived.Test.YtggmnmmjmihnfaaGreatDoorDCutW
import Derived.Test.YtggmnmmjmihnfaaGreatDoorDExp
import Derived.Test.YtggmnmmjmihnfaaGreatDoorDPlc
import Derived.Test.YtggmnmmjmihnfaaGreatDoorERs
namespace Go.Proofs.YtggmnmmjmihnfaaGreatDoor
open Go.RowKit
set_option linter.unusedVariables false
section
variable {w W : World} {bx : List (Nat × TypeId × Array Value)} {l : List (Value × Nat)} {r : List (Value × Rat)}
theorem Mq.l0 (h : Mq w bx l r W) (k : Nat) {b : Nat} {t : TypeId} {x y z x' y' : Value} (e : bx[k]? = some (b, t, #[x, y, z, x', y'])) : W.cell? ⟨b, 0, none⟩ = some x := h.cell k 0 e rfl
theorem Mq.l1 (h : Mq w bx l r W) (k : Nat) {b : Nat} {t : TypeId} {x y z x' y' : Value} (e : bx[k]? = some (b, t, #[x, y, z, x', y'])) : W.cell? ⟨b, 1, none⟩ = some y := h.cell k 1 e rfl
theorem Mq.l2 (h : Mq w bx l r W) (k : Nat) {b : Nat} {t : TypeId} {x y z x' y' : Value} (e : bx[k]? = some (b, t, #[x, y, z, x', y'])) : W.cell? ⟨b, 2, none⟩ = some z := h.cell k 2 e rfl
theorem Mq.l3 (h : Mq w bx l r W) (k : Nat) {b : Nat} {t : TypeId} {x y z x' y' : Value} (e : bx[k]? = some (b, t, #[x, y, z, x', y'])) : W.cell? ⟨b, 3, none⟩ = some x' := h.cell k 3 e rfl
theorem Mq.l4 (h : Mq w bx l r W) (k : Nat) {b : Nat} {t : TypeId} {x y z x' y' : Value} (e : bx[k]? = some (b, t, #[x, y, z, x', y'])) : W.cell? ⟨b, 4, none⟩ = some y' := h.cell k 4 e rfl
end
/-- What Parse tells. -/
def LitIs (s : ByteArray) (w : World) (e : Ending) (w' : World) : Prop := ∃ v, e = .returned (.tuple #[v, .int .i64 (lcode s)]) ∧ IsR w' v (litv s) ∧ Below w.heap.size w w'
theorem lit_no {s : ByteArray} {w w' : World} {c : Int} (hc : lcode s = c) (hc0 : c ≠ 0) (hb : Below w.heap.size w w') : LitIs s w (.returned (.tuple #[.agg #[.bool false, .slice none 0 0, .slice none 0 0], .int .i64 c])) w' :=
 ⟨_, by rw [hc], by unfold litv; rw [hc, if_neg hc0]; exact isR_zero w', hb⟩
set_option maxRecDepth 100000 in
set_option maxHeartbeats 8000000 in
theorem dparse_any (s : ByteArray) (w : World) (hs : s.size ≤ 400) (hb : dv (lcut s).1.es ≤ 400 → (lcut s).1.ds.length + dv (lcut s).1.es ≤ 740) (htab : Tab w) (htb : TabB w) : Calls Tryz.prog 5 #[.string s] w (LitIs s w) := by
 have HC := Lib.hid (fun W => dcut_any s W hs)
 obtain ⟨k1, k2, k3, k4⟩ := lcut_k s
 have HNo3 : Hid (lok (lcut s) = false → lcode s = 3) := Lib.hid (fun h => by unfold lcode; rw [h]; rfl)
 have HNo2 : Hid (lok (lcut s) = true → ¬ dv (lcut s).1.es ≤ 400 → lcode s = 2) := Lib.hid (fun h h2 => by unfold lcode; rw [h, if_pos rfl, if_neg h2])
 have HYes : Hid (lok (lcut s) = true → dv (lcut s).1.es ≤ 400 → lcode s = 0 ∧ litv s = litQ (lcut s).1) := Lib.hid (fun h h2 => by
  have e1 : lcode s = 0 := by unfold lcode; rw [h, if_pos rfl, if_pos h2]
  exact ⟨e1, by unfold litv; rw [if_pos e1]⟩)
 unfold CutIs at HC
 obtain ⟨R, hR⟩ : ∃ R, lcut s = R := ⟨_, rfl⟩
 rw [hR] at k1 k2 k3 k4 hb
 simp only [hR] at HC HNo3 HNo2 HYes
 obtain ⟨st, ok⟩ := R
 simp only [] at k1 k2 k3 k4 hb HC HNo2 HYes
 have HX : Hid (∀ W, Below w.heap.size w W → Calls Tryz.prog 19 #[.agg #[.bool st.neg, .string (bz st.ds), .int .i64 (st.pl : Int), .bool st.low, .string (bz st.es)]] W fun e w' => ∃ X, e = .returned (.tuple #[.int .i64 X, .bool (decide (dv st.es ≤ 400))]) ∧ (dv st.es ≤ 400 → X = sgn st.low (dv st.es)) ∧ Below W.heap.size W w') := Lib.hid (fun W hB => expv_any st.neg (bz st.ds) _ st.low st.es W k4.es (by omega) (htab.below hB (Nat.le_refl _)))
 have HTr : Hid (∀ W, Calls Tryz.prog 21 #[.string (bz st.ds), .string ⟨#[48]⟩] W fun e w' => e = .returned (.string (bz (tz st.ds))) ∧ w' = W) := Lib.hid (fun W => by
  have h := Tryz.strings_TrimLeft_one (bz st.ds) 48 (by decide) W
  have hb : (bz st.ds).data.toList = st.ds := by unfold bz; simp
  rw [hb] at h
  exact h)
 have HNp : Hid (∀ W, Calls Tryz.prog 20 #[.string (bz (tz st.ds))] W fun e w' => ∃ x y z, e = .returned (.tuple #[.agg #[.slice x y z], .int .i64 (cc (bz (tz st.ds)))]) ∧ IsN w' (.agg #[.slice x y z]) (dv st.ds) ∧ Below W.heap.size W w') := Lib.hid (fun W => by
  have h := nparse (bz (tz st.ds)) W (by rw [bz_size]; have := (tz_facts st.ds k4.ds).2.2.1; omega)
  rw [nn_tz k4.ds] at h
  exact h)
 have hNd : dv st.ds < 10 ^ st.ds.length := dv_lt _ st.ds rfl k4.ds
 have hdsz := bz_size st.ds
 obtain ⟨V, hV⟩ : ∃ V, dv st.es = V := ⟨_, rfl⟩
 obtain ⟨N, hN⟩ : ∃ N, dv st.ds = N := ⟨_, rfl⟩
 obtain ⟨PL, hPL⟩ : ∃ P : Int, (st.pl : Int) = P := ⟨_, rfl⟩
 have hlq : litQ st = if 0 ≤ sgn st.low V - PL then mkRat (sgn st.neg (N * 10 ^ (sgn st.low V - PL).toNat)) 1 else mkRat (sgn st.neg N) (10 ^ (-(sgn st.low V - PL)).toNat) := by
  unfold litQ lexp
  rw [hV, hN, hPL]
 have hPL0 : 0 ≤ PL := by omega
 have hPL4 : PL ≤ (st.ds.length : Int) := by omega
 obtain ⟨LD, hLD⟩ : ∃ n, st.ds.length = n := ⟨_, rfl⟩
 rw [hV] at hb; rw [hLD] at hb k1 hPL4 hNd hdsz; rw [hN] at hNd
 simp only [hV, hN, hPL] at HC HNo2 HYes HX HNp
 obtain ⟨DS, hDS⟩ : ∃ D, bz st.ds = D := ⟨_, rfl⟩
 obtain ⟨ES, hES⟩ : ∃ D, bz st.es = D := ⟨_, rfl⟩
 obtain ⟨TZ, hTZ⟩ : ∃ D, bz (tz st.ds) = D := ⟨_, rfl⟩
 obtain ⟨neg, hneg⟩ : ∃ b, st.neg = b := ⟨_, rfl⟩
 obtain ⟨low, hlow⟩ : ∃ b, st.low = b := ⟨_, rfl⟩
 simp only [hDS, hES, hneg, hlow] at HC HX
 simp only [hDS, hTZ] at HTr
 rw [hTZ] at HNp
 rw [hDS] at hdsz
 rw [hneg, hlow] at hlq
 have HLq := Lib.hid hlq
 obtain ⟨CC, hCC⟩ : ∃ c, cc TZ = c := ⟨_, rfl⟩
 rw [hCC] at HNp
 obtain ⟨OK, hOK⟩ : ∃ b, lok (st, ok) = b := ⟨_, rfl⟩
 rw [hOK] at HC HNo2 HNo3 HYes
 have V0 := (Mq.refl w).alloc 27 #[.bool false, .slice none 0 0, .slice none 0 0]
 have HTB : Hid (∀ W, Below w.heap.size w W → TabB W) := Lib.hid (fun W hB => htb.below hB (Nat.le_refl _))
 have HNd := Lib.hid hNd; have Hb := Lib.hid hb
 have hds4 : DS.size ≤ 400 := by omega
 have hLD4 : LD ≤ 400 := by omega
 clear k1 k2 k3 k4 hb hNd hdsz hV hN hPL hLD hDS hES hTZ hneg hlow hlq hCC hOK htab htb hR hs
 go_enter Tryz.func5, Tryz.ntmps5
 go_wp2_with fail
 refine (HC.out _).mono ?_
 rintro e w1 ⟨rfl, hb⟩
 have V1 := (V0.below hb).alloc 51 #[.bool neg, .string DS, .int .i64 PL, .bool low, .string ES]
 clear V0 hb HC
 cases OK with
 | false =>
  have r0 := V1.c0 1 rfl; have r1 := V1.c1 1 rfl; have r2 := V1.c2 1 rfl
  have f0 := V1.frozen 1 0 rfl; have f1 := V1.frozen 1 1 rfl; have f2 := V1.frozen 1 2 rfl
  have HK := Lib.hid (V1.box 1 _ _ _ rfl)
  have HBl := Lib.hid V1.bel
  have HE := Lib.hid (HNo3.out (by first | rfl | trivial))
  clear V1
  go_wp2_with fail
  exact bodyPost_ret (res_rat2 rfl _ _ _ _ _ _ _ _ _ _ (Value.int .i64 3) rfl rfl (blk_set3 HK.out.1 _ _ _)) rfl (lit_no HE.out (by decide) (below_set3 HBl.out HK.out.2 _ _ _))
 | true =>
  have q0 := V1.l0 0 rfl; have q1 := V1.l1 0 rfl; have q2 := V1.l2 0 rfl; have q3 := V1.l3 0 rfl; have q4 := V1.l4 0 rfl
  go_wp2_with fail
  refine (HX.out _ V1.bel).mono ?_
  rintro e w2 ⟨EX, rfl, hEX, hb⟩
  have V2 := V1.below hb
  clear V1 hb HX q0 q1 q2 q3 q4
  have q1 := V2.l1 0 rfl
  by_cases hv4 : V ≤ 400
  · rw [decide_eq_true hv4]
    have HEXe := Lib.hid (hEX hv4)
    have HEs := Lib.hid (HYes.out (by first | rfl | trivial) hv4)
    have hb4 := Hb.out hv4
    have hN22 : N < 18446744073709551616 ^ 22 := Nat.lt_of_lt_of_le HNd.out (ten_w (by omega))
    clear hEX HNo2 HNo3 HYes Hb
    have hds4i : ¬ (400 : Int) < (DS.size : Int) := by omega
    go_wp2_with fail
    refine (HTr.out _).mono ?_
    rintro e w3 ⟨rfl, hw3⟩
    subst hw3
    go_wp2_with fail
    refine (HNp.out _).mono ?_
    rintro e w4 ⟨xn, yn, zn, rfl, hn, hb⟩
    have V8a := ((V2.below hb).cons hn (Nat.lt_of_lt_of_le hN22 (w64_mono (by omega)))).alloc 25 #[.slice xn yn zn]
    have q2 := V8a.l2 1 rfl
    obtain ⟨bl, hbl⟩ : ∃ b, w1.heap.size = b := ⟨_, rfl⟩
    obtain ⟨W8, hW8⟩ : ∃ W8, w4.alloc (.cells #[.slice xn yn zn] 25) = W8 := ⟨_, rfl⟩
    have V8 := V8a
    rw [hW8] at V8
    rw [hbl] at V8
    have HW8 := Lib.hid hW8; have Hbl := Lib.hid hbl
    have hEXe := HEXe.out
    have hsg : -(V : Int) ≤ sgn low V ∧ sgn low V ≤ V := by unfold sgn; split <;> omega
    have hEX0 : -400 ≤ EX := by omega
    have hEX1 : EX ≤ 400 := by omega
    have hPL5 : PL ≤ 400 := by omega
    have hEV : EX ≤ V ∧ -(V : Int) ≤ EX := by omega
    rw [← hEXe] at HLq
    have HEV := Lib.hid hEV
    have HN22 := Lib.hid hN22
    have Hb4 := Lib.hid hb4
    clear V2 V8a hb hn HTr HNp hW8 hbl hEXe HEXe hsg hEV hN22 hb4 q1
    by_cases hge : PL ≤ EX
    · obtain ⟨DE, hDE⟩ : ∃ D : Int, EX - PL = D := ⟨_, rfl⟩
      obtain ⟨K, hK⟩ : ∃ K : Nat, DE.toNat = K := ⟨_, rfl⟩
      have hKD : DE = (K : Int) := by omega
      have hK1 : K ≤ V := by have := HEV.out; omega
      have hKL : LD + K ≤ 740 := by have := Hb4.out; omega
      have HTen : Hid (∀ W, Calls Tryz.prog 23 #[.int .i64 DE] W (GaveV (10 ^ K) W)) := Lib.hid (fun W => tento_any K DE W (by omega) hKD)
      have hNT : N * 10 ^ K < 18446744073709551616 ^ 40 := by
       refine Nat.lt_of_lt_of_le (Nat.mul_lt_mul_of_pos_right HNd.out (Nat.pow_pos (by decide))) ?_
       rw [← Nat.pow_add]
       exact ten_w (by omega)
      have hT40 : 10 ^ K < 18446744073709551616 ^ 40 := ten_lt (by omega)
      have HMul : Hid (∀ W va vb, IsN W va N → IsN W vb (10 ^ K) → Calls Tryz.prog 22 #[va, vb] W (GaveV (N * 10 ^ K) W)) := Lib.hid (fun W va vb h1 h2 => (mul_any _ _ va vb W h1 h2 (dw_up (k := 5000) HN22.out (by omega)) (dw_up (k := 5000) hT40 (by omega))).mono fun e w' h' => gaveV h')
      have HOf : Hid (∀ W, Calls Tryz.prog 17 #[.int .u64 1] W (GaveV 1 W)) := Lib.hid (fun W => ofV 1 (by decide) W)
      have HEnd : Hid (∀ v w', IsR w' v (mkRat (sgn neg (N * 10 ^ K)) 1) → Below w.heap.size w w' → LitIs s w (.returned (.tuple #[v, .int .i64 0])) w') := Lib.hid (fun v w' h1 h2 => by
       have h3 := HLq.out
       rw [if_pos (by omega), hDE, hK] at h3
       exact ⟨v, by rw [HEs.out.1], by rw [HEs.out.2, h3]; exact h1, h2⟩)
      obtain ⟨T, hT⟩ : ∃ T, 10 ^ K = T := ⟨_, rfl⟩
      rw [hT] at HTen HMul hNT hT40 HEnd
      obtain ⟨NT, hNTe⟩ : ∃ M, N * T = M := ⟨_, rfl⟩
      rw [hNTe] at HMul hNT HEnd
      have HMk : Hid (∀ W va vb, Below w.heap.size w W → IsN W va NT → IsN W vb 1 → Calls Tryz.prog 16 #[.bool neg, va, vb] W fun e w' => ∃ v, e = .returned (.tuple #[v, .int .i64 0]) ∧ IsR w' v (mkRat (sgn neg NT) 1) ∧ Below W.heap.size W w') := Lib.hid (fun W va vb hB h1 h2 => make_mk neg NT 1 va vb W h1 h2 hNT (Nat.one_lt_pow (by decide) (by decide)) (by decide) (HTB.out W hB))
      have HXs : Hid ((mkRat (sgn neg NT) 1).num.natAbs < 18446744073709551616 ^ 100 ∧ dn (mkRat (sgn neg NT) 1) < 18446744073709551616 ^ 100) := Lib.hid (by
       obtain ⟨p1, p2, _⟩ := norm_parts (sgn neg NT) 1 (by decide)
       rw [sgn_abs] at p1 p2
       refine ⟨by rw [p1]; exact q26 (Nat.lt_of_le_of_lt (Nat.div_le_self _ _) hNT), ?_⟩
       unfold dn
       split
       · exact Nat.pow_pos (by decide)
       · rw [p2]; exact Nat.lt_of_le_of_lt (Nat.div_le_self _ _) (Nat.one_lt_pow (by decide) (by decide)))
      obtain ⟨X, hXq⟩ : ∃ X, mkRat (sgn neg NT) 1 = X := ⟨_, rfl⟩
      rw [hXq] at HMk HXs HEnd
      clear hK hKD hK1 hKL hNT hT40 hT hNTe hXq HLq HEs HEV Hb4 HNd
      go_wp2_with fail
      simp only [HW8.out, Hbl.out]
      refine wp_region_inv 13 (fun a0 dj a W => ∃ vq0 vq1 vq2 vq3 vq4 vq5 vq6 vq7 vq8 vq9 vq10 vq11 vq12 : Value, a = puts a0 [(42, vq0), (43, vq1), (44, vq2), (45, vq3), (46, vq4), (47, vq5), (48, vq6), (49, vq7), (50, vq8), (51, vq9), (52, vq10), (53, vq11), (54, vq12)] ∧ Below W8.heap.size W8 W ∧ (dj 0 = true → vq0 = .pointer (some ⟨bl, 0, none⟩)) ∧ (dj 1 = true → vq1 = .bool neg) ∧ (dj 2 = true → vq2 = .agg #[.slice xn yn zn]) ∧ (dj 3 = true → vq3 = .int .i64 EX) ∧ (dj 4 = true → vq4 = .pointer (some ⟨bl, 2, none⟩)) ∧ (dj 5 = true → vq5 = .int .i64 PL) ∧ (dj 6 = true → vq6 = .int .i64 DE) ∧ (dj 7 = true → Nm W vq7 (T)) ∧ (dj 8 = true → Nm W vq8 (NT)) ∧ (dj 9 = true → Nm W vq9 (1)) ∧ (dj 10 = true → Rp W vq10 (X)) ∧ (dj 11 = true → IsR W vq11 (X)) ∧ (dj 12 = true → vq12 = .int .i64 0)) (by kernel_rfl) (by kernel_rfl) (by kernel_rfl) ?_ ?_ ?_ ?_
      · intro dj hcl i hi1 hi2 hd j hj
        have hi2 := Nat.lt_of_lt_of_le hi2 (show _ ≤ 15 from of_decide_eq_true (by kernel_rfl))
        obtain rfl | rfl : i = 13 ∨ i = 14 := by omega
        · have e11 : dj 11 = true := hd 11 (by kernel_rfl)
          have e10 : dj 10 = true := hd 10 (by kernel_rfl)
          have e0 : dj 0 = true := hd 0 (by kernel_rfl)
          have e1 : dj 1 = true := hd 1 (by kernel_rfl)
          have e2 : dj 2 = true := hd 2 (by kernel_rfl)
          have e3 : dj 3 = true := hd 3 (by kernel_rfl)
          have e4 : dj 4 = true := hd 4 (by kernel_rfl)
          have e5 : dj 5 = true := hd 5 (by kernel_rfl)
          have e6 : dj 6 = true := hd 6 (by kernel_rfl)
          have e7 : dj 7 = true := hd 7 (by kernel_rfl)
          have e8 : dj 8 = true := hd 8 (by kernel_rfl)
          have e9 : dj 9 = true := hd 9 (by kernel_rfl)
          have e12 : dj 12 = true := hd 12 (by kernel_rfl)
          obtain rfl | rfl | rfl | rfl | rfl | rfl | rfl | rfl | rfl | rfl | rfl | rfl | rfl : j = 0 ∨ j = 1 ∨ j = 2 ∨ j = 3 ∨ j = 4 ∨ j = 5 ∨ j = 6 ∨ j = 7 ∨ j = 8 ∨ j = 9 ∨ j = 10 ∨ j = 11 ∨ j = 12 := by omega
          · exact e0
          · exact e1
          · exact e2
          · exact e3
          · exact e4
          · exact e5
          · exact e6
          · exact e7
          · exact e8
          · exact e9
          · exact e10
          · exact e11
          · exact e12
        · have e12 : dj 12 = true := hd 12 (by kernel_rfl)
          have e13 : dj 13 = true := hd 13 (by kernel_rfl)
          have e0 : dj 0 = true := hd 0 (by kernel_rfl)
          have e1 : dj 1 = true := hd 1 (by kernel_rfl)
          have e2 : dj 2 = true := hd 2 (by kernel_rfl)
          have e3 : dj 3 = true := hd 3 (by kernel_rfl)
          have e4 : dj 4 = true := hd 4 (by kernel_rfl)
          have e5 : dj 5 = true := hd 5 (by kernel_rfl)
          have e6 : dj 6 = true := hd 6 (by kernel_rfl)
          have e7 : dj 7 = true := hd 7 (by kernel_rfl)
          have e8 : dj 8 = true := hd 8 (by kernel_rfl)
          have e9 : dj 9 = true := hd 9 (by kernel_rfl)
          have e10 : dj 10 = true := hd 10 (by kernel_rfl)
          have e11 : dj 11 = true := hd 11 (by kernel_rfl)
          obtain rfl | rfl | rfl | rfl | rfl | rfl | rfl | rfl | rfl | rfl | rfl | rfl | rfl : j = 0 ∨ j = 1 ∨ j = 2 ∨ j = 3 ∨ j = 4 ∨ j = 5 ∨ j = 6 ∨ j = 7 ∨ j = 8 ∨ j = 9 ∨ j = 10 ∨ j = 11 ∨ j = 12 := by omega
          · exact e0
          · exact e1
          · exact e2
          · exact e3
          · exact e4
          · exact e5
          · exact e6
          · exact e7
          · exact e8
          · exact e9
          · exact e10
          · exact e11
          · exact e12
      · refine ⟨undef, undef, undef, undef, undef, undef, undef, undef, undef, undef, undef, undef, undef, (by simp only [pus]), (Below.refl _ _).drew, (fun h => by cases h), (fun h => by cases h), (fun h => by cases h), (fun h => by cases h), (fun h => by cases h), (fun h => by cases h), (fun h => by cases h), (fun h => by cases h), (fun h => by cases h), (fun h => by cases h), (fun h => by cases h), (fun h => by cases h), (fun h => by cases h)⟩
      · intro dj a W i hi hdi hcl hdep hI K hK
        obtain ⟨vq0, vq1, vq2, vq3, vq4, vq5, vq6, vq7, vq8, vq9, vq10, vq11, vq12, rfl, hB, p0, p1, p2, p3, p4, p5, p6, p7, p8, p9, p10, p11, p12⟩ := hI
        have V := V8.below hB
        obtain rfl | rfl | rfl | rfl | rfl | rfl | rfl | rfl | rfl | rfl | rfl | rfl | rfl : i = 0 ∨ i = 1 ∨ i = 2 ∨ i = 3 ∨ i = 4 ∨ i = 5 ∨ i = 6 ∨ i = 7 ∨ i = 8 ∨ i = 9 ∨ i = 10 ∨ i = 11 ∨ i = 12 := by omega
        · simp only [pus]
          refine any_op (o := _) rfl rfl ?_
          go_wp2_with fail
          refine hK.out _ _ ?_
          exact ⟨.pointer (some ⟨bl, 0, none⟩), vq1, vq2, vq3, vq4, vq5, vq6, vq7, vq8, vq9, vq10, vq11, vq12, (by simp only [pus]), hB, (fun _ => rfl), p1, p2, p3, p4, p5, p6, p7, p8, p9, p10, p11, p12⟩
        · obtain rfl := p0 (hdep 0 (by kernel_rfl))
          simp only [pus]
          have c0 := V.l0 1 rfl
          refine any_op (o := _) rfl rfl ?_
          go_wp2_with fail
          refine hK.out _ _ ?_
          exact ⟨.pointer (some ⟨bl, 0, none⟩), .bool neg, vq2, vq3, vq4, vq5, vq6, vq7, vq8, vq9, vq10, vq11, vq12, (by simp only [pus]), hB, (fun _ => rfl), (fun _ => rfl), p2, p3, p4, p5, p6, p7, p8, p9, p10, p11, p12⟩
        · simp only [pus]
          have c0 := V.n0 0 rfl
          refine any_op (o := _) rfl rfl ?_
          go_wp2_with fail
          refine hK.out _ _ ?_
          exact ⟨vq0, vq1, .agg #[.slice xn yn zn], vq3, vq4, vq5, vq6, vq7, vq8, vq9, vq10, vq11, vq12, (by simp only [pus]), hB, p0, p1, (fun _ => rfl), p3, p4, p5, p6, p7, p8, p9, p10, p11, p12⟩
        · simp only [pus]
          refine any_op (o := _) rfl rfl ?_
          go_wp2_with fail
          refine hK.out _ _ ?_
          exact ⟨vq0, vq1, vq2, .int .i64 EX, vq4, vq5, vq6, vq7, vq8, vq9, vq10, vq11, vq12, (by simp only [pus]), hB, p0, p1, p2, (fun _ => rfl), p4, p5, p6, p7, p8, p9, p10, p11, p12⟩
        · simp only [pus]
          refine any_op (o := _) rfl rfl ?_
          go_wp2_with fail
          refine hK.out _ _ ?_
          exact ⟨vq0, vq1, vq2, vq3, .pointer (some ⟨bl, 2, none⟩), vq5, vq6, vq7, vq8, vq9, vq10, vq11, vq12, (by simp only [pus]), hB, p0, p1, p2, p3, (fun _ => rfl), p5, p6, p7, p8, p9, p10, p11, p12⟩
        · obtain rfl := p4 (hdep 4 (by kernel_rfl))
          simp only [pus]
          have c0 := V.l2 1 rfl
          refine any_op (o := _) rfl rfl ?_
          go_wp2_with fail
          refine hK.out _ _ ?_
          exact ⟨vq0, vq1, vq2, vq3, .pointer (some ⟨bl, 2, none⟩), .int .i64 PL, vq6, vq7, vq8, vq9, vq10, vq11, vq12, (by simp only [pus]), hB, p0, p1, p2, p3, (fun _ => rfl), (fun _ => rfl), p6, p7, p8, p9, p10, p11, p12⟩
        · obtain rfl := p3 (hdep 3 (by kernel_rfl))
          obtain rfl := p5 (hdep 5 (by kernel_rfl))
          simp only [pus]
          refine any_op (o := _) rfl rfl ?_
          go_wp2_with fail
          refine hK.out _ _ ?_
          exact ⟨vq0, vq1, vq2, .int .i64 EX, vq4, .int .i64 PL, .int .i64 DE, vq7, vq8, vq9, vq10, vq11, vq12, (by simp only [pus]), hB, p0, p1, p2, (fun _ => rfl), p4, (fun _ => rfl), (fun _ => rfl), p7, p8, p9, p10, p11, p12⟩
        · obtain rfl := p6 (hdep 6 (by kernel_rfl))
          simp only [pus]
          refine any_op (o := _) rfl rfl ?_
          have hC := Lib.hid (HTen.out W)
          go_simp
          refine hC.out.mono ?_
          rintro e W2 ⟨x, y, z, rfl, hn, hb⟩
          refine hK.out _ _ ?_
          exact ⟨vq0, vq1, vq2, vq3, vq4, vq5, .int .i64 DE, .agg #[.slice x y z], vq8, vq9, vq10, vq11, vq12, (by simp only [pus]), hB.trans (hb.mono hB.size), p0, p1, p2, p3, p4, p5, (fun _ => rfl), (fun _ => ⟨⟨x, y, z, rfl⟩, hn⟩), (fun h => (p8 h).below hb), (fun h => (p9 h).below hb), (fun h => (p10 h).below hb), (fun h => (p11 h).below hb (Nat.le_refl _)), p12⟩
        · obtain rfl := p2 (hdep 2 (by kernel_rfl))
          have k7 := p7 (hdep 7 (by kernel_rfl))
          obtain ⟨⟨x7, y7, z7, rfl⟩, n7⟩ := k7
          simp only [pus]
          refine any_op (o := _) rfl rfl ?_
          have hC := Lib.hid (HMul.out W _ _ (V.num 0 _ _ rfl).1 n7)
          go_simp
          refine hC.out.mono ?_
          rintro e W2 ⟨x, y, z, rfl, hn, hb⟩
          refine hK.out _ _ ?_
          exact ⟨vq0, vq1, .agg #[.slice xn yn zn], vq3, vq4, vq5, vq6, .agg #[.slice x7 y7 z7], .agg #[.slice x y z], vq9, vq10, vq11, vq12, (by simp only [pus]), hB.trans (hb.mono hB.size), p0, p1, (fun _ => rfl), p3, p4, p5, p6, (fun _ => (show Nm _ _ _ from ⟨⟨x7, y7, z7, rfl⟩, n7⟩).below hb), (fun _ => ⟨⟨x, y, z, rfl⟩, hn⟩), (fun h => (p9 h).below hb), (fun h => (p10 h).below hb), (fun h => (p11 h).below hb (Nat.le_refl _)), p12⟩
        · have k8 := p8 (hdep 8 (by kernel_rfl))
          obtain ⟨⟨x8, y8, z8, rfl⟩, n8⟩ := k8
          simp only [pus]
          refine any_op (o := _) rfl rfl ?_
          have hC := Lib.hid (HOf.out W)
          go_simp
          refine hC.out.mono ?_
          rintro e W2 ⟨x, y, z, rfl, hn, hb⟩
          refine hK.out _ _ ?_
          exact ⟨vq0, vq1, vq2, vq3, vq4, vq5, vq6, vq7, .agg #[.slice x8 y8 z8], .agg #[.slice x y z], vq10, vq11, vq12, (by simp only [pus]), hB.trans (hb.mono hB.size), p0, p1, p2, p3, p4, p5, p6, (fun h => (p7 h).below hb), (fun _ => (show Nm _ _ _ from ⟨⟨x8, y8, z8, rfl⟩, n8⟩).below hb), (fun _ => ⟨⟨x, y, z, rfl⟩, hn⟩), (fun h => (p10 h).below hb), (fun h => (p11 h).below hb (Nat.le_refl _)), p12⟩
        · obtain rfl := p1 (hdep 1 (by kernel_rfl))
          have k8 := p8 (hdep 8 (by kernel_rfl))
          obtain ⟨⟨x8, y8, z8, rfl⟩, n8⟩ := k8
          have k9 := p9 (hdep 9 (by kernel_rfl))
          obtain ⟨⟨x9, y9, z9, rfl⟩, n9⟩ := k9
          simp only [pus]
          refine any_op (o := _) rfl rfl ?_
          have hC := Lib.hid (HMk.out W _ _ V.bel n8 n9)
          go_simp
          refine hC.out.mono ?_
          rintro e W2 ⟨u, rfl, hn, hb⟩
          refine hK.out _ _ ?_
          exact ⟨vq0, .bool neg, vq2, vq3, vq4, vq5, vq6, vq7, .agg #[.slice x8 y8 z8], .agg #[.slice x9 y9 z9], .tuple #[u, .int .i64 0], vq11, vq12, (by simp only [pus]), hB.trans (hb.mono hB.size), p0, (fun _ => rfl), p2, p3, p4, p5, p6, (fun h => (p7 h).below hb), (fun _ => (show Nm _ _ _ from ⟨⟨x8, y8, z8, rfl⟩, n8⟩).below hb), (fun _ => (show Nm _ _ _ from ⟨⟨x9, y9, z9, rfl⟩, n9⟩).below hb), (fun _ => ⟨u, rfl, hn⟩), (fun h => (p11 h).below hb (Nat.le_refl _)), p12⟩
        · have k10 := p10 (hdep 10 (by kernel_rfl))
          obtain ⟨u10, rfl, n10⟩ := k10
          simp only [pus]
          refine any_op (o := _) rfl rfl ?_
          go_wp2_with fail
          refine hK.out _ _ ?_
          exact ⟨vq0, vq1, vq2, vq3, vq4, vq5, vq6, vq7, vq8, vq9, .tuple #[u10, .int .i64 0], u10, vq12, (by simp only [pus]), hB, p0, p1, p2, p3, p4, p5, p6, p7, p8, p9, (fun _ => ⟨u10, rfl, n10⟩), (fun _ => n10), p12⟩
        · have k10 := p10 (hdep 10 (by kernel_rfl))
          obtain ⟨u10, rfl, n10⟩ := k10
          simp only [pus]
          refine any_op (o := _) rfl rfl ?_
          go_wp2_with fail
          refine hK.out _ _ ?_
          exact ⟨vq0, vq1, vq2, vq3, vq4, vq5, vq6, vq7, vq8, vq9, .tuple #[u10, .int .i64 0], vq11, .int .i64 0, (by simp only [pus]), hB, p0, p1, p2, p3, p4, p5, p6, p7, p8, p9, (fun _ => ⟨u10, rfl, n10⟩), p11, (fun _ => rfl)⟩
      · intro dj a W hd hI
        obtain ⟨vq0, vq1, vq2, vq3, vq4, vq5, vq6, vq7, vq8, vq9, vq10, vq11, vq12, rfl, hB, p0, p1, p2, p3, p4, p5, p6, p7, p8, p9, p10, p11, p12⟩ := hI
        have V := V8.below hB
        obtain rfl := p0 (hd 0 (by omega))
        obtain rfl := p1 (hd 1 (by omega))
        obtain rfl := p2 (hd 2 (by omega))
        obtain rfl := p3 (hd 3 (by omega))
        obtain rfl := p4 (hd 4 (by omega))
        obtain rfl := p5 (hd 5 (by omega))
        obtain rfl := p6 (hd 6 (by omega))
        obtain ⟨⟨xq7, yq7, zq7, rfl⟩, nq7⟩ := p7 (hd 7 (by omega))
        obtain ⟨⟨xq8, yq8, zq8, rfl⟩, nq8⟩ := p8 (hd 8 (by omega))
        obtain ⟨⟨xq9, yq9, zq9, rfl⟩, nq9⟩ := p9 (hd 9 (by omega))
        obtain ⟨uq10, rfl, nq10⟩ := p10 (hd 10 (by omega))
        have nq11 := p11 (hd 11 (by omega))
        obtain rfl := p12 (hd 12 (by omega))
        simp only [pus]
        show wpAny Tryz.prog .any _ _ 2 #[true, true, true, true, true, true, true, true, true, true, true, true, true, false, false] _ _
        obtain ⟨e1, e2, e3, e4, e5, e6, rfl, m1, m2⟩ := nq11
        obtain ⟨zx, hzx⟩ : ∃ zx, decide (X.num < 0) = zx := ⟨_, rfl⟩
        rw [hzx]
        have V9 := (V.cons m2 HXs.out.2).cons m1 HXs.out.1
        have r0 := V9.c0 2 rfl; have r1 := V9.c1 2 rfl; have r2 := V9.c2 2 rfl
        have f0 := V9.frozen 2 0 rfl; have f1 := V9.frozen 2 1 rfl; have f2 := V9.frozen 2 2 rfl
        have HF := Lib.hid (V9.fin3 (x := X) (y := zx) 2 0 1 rfl rfl rfl hzx)
        clear V V9 V8 m1 m2 hzx
        refine wpAny_of_held (S := fun _ => True) _ _ _ _ ?_
        refine wpAnyH_ready (rs := [13]) (by kernel_rfl) (by simp) ?_
        refine AllReadyH.cons (o := _) rfl (fun K hK => ?_) AllReadyH.nil
        go_wp2_with fail
        refine hK.out _ _ trivial (fun _ => ?_)
        clear hK K
        try simp only [las]
        refine wpAnyH_ready (rs := [14]) (by kernel_rfl) (by simp) ?_
        refine AllReadyH.cons (o := _) rfl (fun K hK => ?_) AllReadyH.nil
        go_wp2_with fail
        refine hK.out _ _ trivial (fun _ => ?_)
        clear hK K
        try simp only [las]
        refine wpAnyH_done (by kernel_rfl) ?_ _
        go_wp2_with fail
        refine bodyPost_ret (res_rat2 rfl _ _ _ _ _ _ _ _ _ _ _ rfl rfl HF.out.1) rfl ?_
        obtain ⟨v9, g1, g2, g3⟩ := HF.out.2
        injection g1 with g1
        subst g1
        exact HEnd.out _ _ g2 g3
    · obtain ⟨DE, hDE⟩ : ∃ D : Int, PL - EX = D := ⟨_, rfl⟩
      obtain ⟨K, hK⟩ : ∃ K : Nat, DE.toNat = K := ⟨_, rfl⟩
      have hKD : DE = (K : Int) := by omega
      have hKL : K ≤ 740 := by have := Hb4.out; have := HEV.out; omega
      have HTen : Hid (∀ W, Calls Tryz.prog 23 #[.int .i64 DE] W (GaveV (10 ^ K) W)) := Lib.hid (fun W => tento_any K DE W (by omega) hKD)
      have hT40 : 10 ^ K < 18446744073709551616 ^ 40 := ten_lt (by omega)
      have hT0 : 0 < 10 ^ K := Nat.pow_pos (by decide)
      have HEnd : Hid (∀ v w', IsR w' v (mkRat (sgn neg N) (10 ^ K)) → Below w.heap.size w w' → LitIs s w (.returned (.tuple #[v, .int .i64 0])) w') := Lib.hid (fun v w' h1 h2 => by
       have h3 := HLq.out
       rw [if_neg (by omega), show -(EX - PL) = DE by omega, hK] at h3
       exact ⟨v, by rw [HEs.out.1], by rw [HEs.out.2, h3]; exact h1, h2⟩)
      obtain ⟨T, hT⟩ : ∃ T, 10 ^ K = T := ⟨_, rfl⟩
      rw [hT] at HTen hT40 HEnd hT0
      have HMk : Hid (∀ W va vb, Below w.heap.size w W → IsN W va N → IsN W vb T → Calls Tryz.prog 16 #[.bool neg, va, vb] W fun e w' => ∃ v, e = .returned (.tuple #[v, .int .i64 0]) ∧ IsR w' v (mkRat (sgn neg N) T) ∧ Below W.heap.size W w') := Lib.hid (fun W va vb hB h1 h2 => make_mk neg N T va vb W h1 h2 (dw_up HN22.out (by omega)) hT40 hT0 (HTB.out W hB))
      have HXs : Hid ((mkRat (sgn neg N) T).num.natAbs < 18446744073709551616 ^ 100 ∧ dn (mkRat (sgn neg N) T) < 18446744073709551616 ^ 100) := Lib.hid (by
       obtain ⟨p1, p2, _⟩ := norm_parts (sgn neg N) T (by omega)
       rw [sgn_abs] at p1 p2
       refine ⟨by rw [p1]; exact Nat.lt_of_le_of_lt (Nat.div_le_self _ _) (dw_up HN22.out (by omega)), ?_⟩
       unfold dn
       split
       · exact Nat.pow_pos (by decide)
       · rw [p2]; exact Nat.lt_of_le_of_lt (Nat.div_le_self _ _) (q26 hT40))
      obtain ⟨X, hXq⟩ : ∃ X, mkRat (sgn neg N) T = X := ⟨_, rfl⟩
      rw [hXq] at HMk HXs HEnd
      clear hK hKD hKL hT40 hT0 hT hXq HLq HEs HEV Hb4 HNd
      go_wp2_with fail
      simp only [HW8.out, Hbl.out]
      refine wp_region_inv 11 (fun a0 dj a W => ∃ vq0 vq1 vq2 vq3 vq4 vq5 vq6 vq7 vq8 vq9 vq10 : Value, a = puts a0 [(55, vq0), (56, vq1), (57, vq2), (58, vq3), (59, vq4), (60, vq5), (61, vq6), (62, vq7), (63, vq8), (64, vq9), (65, vq10)] ∧ Below W8.heap.size W8 W ∧ (dj 0 = true → vq0 = .pointer (some ⟨bl, 0, none⟩)) ∧ (dj 1 = true → vq1 = .bool neg) ∧ (dj 2 = true → vq2 = .agg #[.slice xn yn zn]) ∧ (dj 3 = true → vq3 = .pointer (some ⟨bl, 2, none⟩)) ∧ (dj 4 = true → vq4 = .int .i64 PL) ∧ (dj 5 = true → vq5 = .int .i64 EX) ∧ (dj 6 = true → vq6 = .int .i64 DE) ∧ (dj 7 = true → Nm W vq7 (T)) ∧ (dj 8 = true → Rp W vq8 (X)) ∧ (dj 9 = true → IsR W vq9 (X)) ∧ (dj 10 = true → vq10 = .int .i64 0)) (by kernel_rfl) (by kernel_rfl) (by kernel_rfl) ?_ ?_ ?_ ?_
      · intro dj hcl i hi1 hi2 hd j hj
        have hi2 := Nat.lt_of_lt_of_le hi2 (show _ ≤ 13 from of_decide_eq_true (by kernel_rfl))
        obtain rfl | rfl : i = 11 ∨ i = 12 := by omega
        · have e9 : dj 9 = true := hd 9 (by kernel_rfl)
          have e8 : dj 8 = true := hd 8 (by kernel_rfl)
          have e0 : dj 0 = true := hd 0 (by kernel_rfl)
          have e1 : dj 1 = true := hd 1 (by kernel_rfl)
          have e2 : dj 2 = true := hd 2 (by kernel_rfl)
          have e3 : dj 3 = true := hd 3 (by kernel_rfl)
          have e4 : dj 4 = true := hd 4 (by kernel_rfl)
          have e5 : dj 5 = true := hd 5 (by kernel_rfl)
          have e6 : dj 6 = true := hd 6 (by kernel_rfl)
          have e7 : dj 7 = true := hd 7 (by kernel_rfl)
          have e10 : dj 10 = true := hd 10 (by kernel_rfl)
          obtain rfl | rfl | rfl | rfl | rfl | rfl | rfl | rfl | rfl | rfl | rfl : j = 0 ∨ j = 1 ∨ j = 2 ∨ j = 3 ∨ j = 4 ∨ j = 5 ∨ j = 6 ∨ j = 7 ∨ j = 8 ∨ j = 9 ∨ j = 10 := by omega
          · exact e0
          · exact e1
          · exact e2
          · exact e3
          · exact e4
          · exact e5
          · exact e6
          · exact e7
          · exact e8
          · exact e9
          · exact e10
        · have e10 : dj 10 = true := hd 10 (by kernel_rfl)
          have e11 : dj 11 = true := hd 11 (by kernel_rfl)
          have e0 : dj 0 = true := hd 0 (by kernel_rfl)
          have e1 : dj 1 = true := hd 1 (by kernel_rfl)
          have e2 : dj 2 = true := hd 2 (by kernel_rfl)
          have e3 : dj 3 = true := hd 3 (by kernel_rfl)
          have e4 : dj 4 = true := hd 4 (by kernel_rfl)
          have e5 : dj 5 = true := hd 5 (by kernel_rfl)
          have e6 : dj 6 = true := hd 6 (by kernel_rfl)
          have e7 : dj 7 = true := hd 7 (by kernel_rfl)
          have e8 : dj 8 = true := hd 8 (by kernel_rfl)
          have e9 : dj 9 = true := hd 9 (by kernel_rfl)
          obtain rfl | rfl | rfl | rfl | rfl | rfl | rfl | rfl | rfl | rfl | rfl : j = 0 ∨ j = 1 ∨ j = 2 ∨ j = 3 ∨ j = 4 ∨ j = 5 ∨ j = 6 ∨ j = 7 ∨ j = 8 ∨ j = 9 ∨ j = 10 := by omega
          · exact e0
          · exact e1
          · exact e2
          · exact e3
          · exact e4
          · exact e5
          · exact e6
          · exact e7
          · exact e8
          · exact e9
          · exact e10
      · refine ⟨undef, undef, undef, undef, undef, undef, undef, undef, undef, undef, undef, (by simp only [pus]), (Below.refl _ _).drew, (fun h => by cases h), (fun h => by cases h), (fun h => by cases h), (fun h => by cases h), (fun h => by cases h), (fun h => by cases h), (fun h => by cases h), (fun h => by cases h), (fun h => by cases h), (fun h => by cases h), (fun h => by cases h)⟩
      · intro dj a W i hi hdi hcl hdep hI K hK
        obtain ⟨vq0, vq1, vq2, vq3, vq4, vq5, vq6, vq7, vq8, vq9, vq10, rfl, hB, p0, p1, p2, p3, p4, p5, p6, p7, p8, p9, p10⟩ := hI
        have V := V8.below hB
        obtain rfl | rfl | rfl | rfl | rfl | rfl | rfl | rfl | rfl | rfl | rfl : i = 0 ∨ i = 1 ∨ i = 2 ∨ i = 3 ∨ i = 4 ∨ i = 5 ∨ i = 6 ∨ i = 7 ∨ i = 8 ∨ i = 9 ∨ i = 10 := by omega
        · simp only [pus]
          refine any_op (o := _) rfl rfl ?_
          go_wp2_with fail
          refine hK.out _ _ ?_
          exact ⟨.pointer (some ⟨bl, 0, none⟩), vq1, vq2, vq3, vq4, vq5, vq6, vq7, vq8, vq9, vq10, (by simp only [pus]), hB, (fun _ => rfl), p1, p2, p3, p4, p5, p6, p7, p8, p9, p10⟩
        · obtain rfl := p0 (hdep 0 (by kernel_rfl))
          simp only [pus]
          have c0 := V.l0 1 rfl
          refine any_op (o := _) rfl rfl ?_
          go_wp2_with fail
          refine hK.out _ _ ?_
          exact ⟨.pointer (some ⟨bl, 0, none⟩), .bool neg, vq2, vq3, vq4, vq5, vq6, vq7, vq8, vq9, vq10, (by simp only [pus]), hB, (fun _ => rfl), (fun _ => rfl), p2, p3, p4, p5, p6, p7, p8, p9, p10⟩
        · simp only [pus]
          have c0 := V.n0 0 rfl
          refine any_op (o := _) rfl rfl ?_
          go_wp2_with fail
          refine hK.out _ _ ?_
          exact ⟨vq0, vq1, .agg #[.slice xn yn zn], vq3, vq4, vq5, vq6, vq7, vq8, vq9, vq10, (by simp only [pus]), hB, p0, p1, (fun _ => rfl), p3, p4, p5, p6, p7, p8, p9, p10⟩
        · simp only [pus]
          refine any_op (o := _) rfl rfl ?_
          go_wp2_with fail
          refine hK.out _ _ ?_
          exact ⟨vq0, vq1, vq2, .pointer (some ⟨bl, 2, none⟩), vq4, vq5, vq6, vq7, vq8, vq9, vq10, (by simp only [pus]), hB, p0, p1, p2, (fun _ => rfl), p4, p5, p6, p7, p8, p9, p10⟩
        · obtain rfl := p3 (hdep 3 (by kernel_rfl))
          simp only [pus]
          have c0 := V.l2 1 rfl
          refine any_op (o := _) rfl rfl ?_
          go_wp2_with fail
          refine hK.out _ _ ?_
          exact ⟨vq0, vq1, vq2, .pointer (some ⟨bl, 2, none⟩), .int .i64 PL, vq5, vq6, vq7, vq8, vq9, vq10, (by simp only [pus]), hB, p0, p1, p2, (fun _ => rfl), (fun _ => rfl), p5, p6, p7, p8, p9, p10⟩
        · simp only [pus]
          refine any_op (o := _) rfl rfl ?_
          go_wp2_with fail
          refine hK.out _ _ ?_
          exact ⟨vq0, vq1, vq2, vq3, vq4, .int .i64 EX, vq6, vq7, vq8, vq9, vq10, (by simp only [pus]), hB, p0, p1, p2, p3, p4, (fun _ => rfl), p6, p7, p8, p9, p10⟩
        · obtain rfl := p4 (hdep 4 (by kernel_rfl))
          obtain rfl := p5 (hdep 5 (by kernel_rfl))
          simp only [pus]
          refine any_op (o := _) rfl rfl ?_
          go_wp2_with fail
          refine hK.out _ _ ?_
          exact ⟨vq0, vq1, vq2, vq3, .int .i64 PL, .int .i64 EX, .int .i64 DE, vq7, vq8, vq9, vq10, (by simp only [pus]), hB, p0, p1, p2, p3, (fun _ => rfl), (fun _ => rfl), (fun _ => rfl), p7, p8, p9, p10⟩
        · obtain rfl := p6 (hdep 6 (by kernel_rfl))
          simp only [pus]
          refine any_op (o := _) rfl rfl ?_
          have hC := Lib.hid (HTen.out W)
          go_simp
          refine hC.out.mono ?_
          rintro e W2 ⟨x, y, z, rfl, hn, hb⟩
          refine hK.out _ _ ?_
          exact ⟨vq0, vq1, vq2, vq3, vq4, vq5, .int .i64 DE, .agg #[.slice x y z], vq8, vq9, vq10, (by simp only [pus]), hB.trans (hb.mono hB.size), p0, p1, p2, p3, p4, p5, (fun _ => rfl), (fun _ => ⟨⟨x, y, z, rfl⟩, hn⟩), (fun h => (p8 h).below hb), (fun h => (p9 h).below hb (Nat.le_refl _)), p10⟩
        · obtain rfl := p1 (hdep 1 (by kernel_rfl))
          obtain rfl := p2 (hdep 2 (by kernel_rfl))
          have k7 := p7 (hdep 7 (by kernel_rfl))
          obtain ⟨⟨x7, y7, z7, rfl⟩, n7⟩ := k7
          simp only [pus]
          refine any_op (o := _) rfl rfl ?_
          have hC := Lib.hid (HMk.out W _ _ V.bel (V.num 0 _ _ rfl).1 n7)
          go_simp
          refine hC.out.mono ?_
          rintro e W2 ⟨u, rfl, hn, hb⟩
          refine hK.out _ _ ?_
          exact ⟨vq0, .bool neg, .agg #[.slice xn yn zn], vq3, vq4, vq5, vq6, .agg #[.slice x7 y7 z7], .tuple #[u, .int .i64 0], vq9, vq10, (by simp only [pus]), hB.trans (hb.mono hB.size), p0, (fun _ => rfl), (fun _ => rfl), p3, p4, p5, p6, (fun _ => (show Nm _ _ _ from ⟨⟨x7, y7, z7, rfl⟩, n7⟩).below hb), (fun _ => ⟨u, rfl, hn⟩), (fun h => (p9 h).below hb (Nat.le_refl _)), p10⟩
        · have k8 := p8 (hdep 8 (by kernel_rfl))
          obtain ⟨u8, rfl, n8⟩ := k8
          simp only [pus]
          refine any_op (o := _) rfl rfl ?_
          go_wp2_with fail
          refine hK.out _ _ ?_
          exact ⟨vq0, vq1, vq2, vq3, vq4, vq5, vq6, vq7, .tuple #[u8, .int .i64 0], u8, vq10, (by simp only [pus]), hB, p0, p1, p2, p3, p4, p5, p6, p7, (fun _ => ⟨u8, rfl, n8⟩), (fun _ => n8), p10⟩
        · have k8 := p8 (hdep 8 (by kernel_rfl))
          obtain ⟨u8, rfl, n8⟩ := k8
          simp only [pus]
          refine any_op (o := _) rfl rfl ?_
          go_wp2_with fail
          refine hK.out _ _ ?_
          exact ⟨vq0, vq1, vq2, vq3, vq4, vq5, vq6, vq7, .tuple #[u8, .int .i64 0], vq9, .int .i64 0, (by simp only [pus]), hB, p0, p1, p2, p3, p4, p5, p6, p7, (fun _ => ⟨u8, rfl, n8⟩), p9, (fun _ => rfl)⟩
      · intro dj a W hd hI
        obtain ⟨vq0, vq1, vq2, vq3, vq4, vq5, vq6, vq7, vq8, vq9, vq10, rfl, hB, p0, p1, p2, p3, p4, p5, p6, p7, p8, p9, p10⟩ := hI
        have V := V8.below hB
        obtain rfl := p0 (hd 0 (by omega))
        obtain rfl := p1 (hd 1 (by omega))
        obtain rfl := p2 (hd 2 (by omega))
        obtain rfl := p3 (hd 3 (by omega))
        obtain rfl := p4 (hd 4 (by omega))
        obtain rfl := p5 (hd 5 (by omega))
        obtain rfl := p6 (hd 6 (by omega))
        obtain ⟨⟨xq7, yq7, zq7, rfl⟩, nq7⟩ := p7 (hd 7 (by omega))
        obtain ⟨uq8, rfl, nq8⟩ := p8 (hd 8 (by omega))
        have nq9 := p9 (hd 9 (by omega))
        obtain rfl := p10 (hd 10 (by omega))
        simp only [pus]
        show wpAny Tryz.prog .any _ _ 2 #[true, true, true, true, true, true, true, true, true, true, true, false, false] _ _
        obtain ⟨e1, e2, e3, e4, e5, e6, rfl, m1, m2⟩ := nq9
        obtain ⟨zx, hzx⟩ : ∃ zx, decide (X.num < 0) = zx := ⟨_, rfl⟩
        rw [hzx]
        have V9 := (V.cons m2 HXs.out.2).cons m1 HXs.out.1
        have r0 := V9.c0 2 rfl; have r1 := V9.c1 2 rfl; have r2 := V9.c2 2 rfl
        have f0 := V9.frozen 2 0 rfl; have f1 := V9.frozen 2 1 rfl; have f2 := V9.frozen 2 2 rfl
        have HF := Lib.hid (V9.fin3 (x := X) (y := zx) 2 0 1 rfl rfl rfl hzx)
        clear V V9 V8 m1 m2 hzx
        refine wpAny_of_held (S := fun _ => True) _ _ _ _ ?_
        refine wpAnyH_ready (rs := [11]) (by kernel_rfl) (by simp) ?_
        refine AllReadyH.cons (o := _) rfl (fun K hK => ?_) AllReadyH.nil
        go_wp2_with fail
        refine hK.out _ _ trivial (fun _ => ?_)
        clear hK K
        try simp only [las]
        refine wpAnyH_ready (rs := [12]) (by kernel_rfl) (by simp) ?_
        refine AllReadyH.cons (o := _) rfl (fun K hK => ?_) AllReadyH.nil
        go_wp2_with fail
        refine hK.out _ _ trivial (fun _ => ?_)
        clear hK K
        try simp only [las]
        refine wpAnyH_done (by kernel_rfl) ?_ _
        go_wp2_with fail
        refine bodyPost_ret (res_rat2 rfl _ _ _ _ _ _ _ _ _ _ _ rfl rfl HF.out.1) rfl ?_
        obtain ⟨v9, g1, g2, g3⟩ := HF.out.2
        injection g1 with g1
        subst g1
        exact HEnd.out _ _ g2 g3
  · have r0 := V2.c0 1 rfl; have r1 := V2.c1 1 rfl; have r2 := V2.c2 1 rfl
    have f0 := V2.frozen 1 0 rfl; have f1 := V2.frozen 1 1 rfl; have f2 := V2.frozen 1 2 rfl
    have HK := Lib.hid (V2.box 1 _ _ _ rfl)
    have HBl := Lib.hid V2.bel
    have HE := Lib.hid (HNo2.out (by first | rfl | trivial) hv4)
    rw [decide_eq_false hv4]
    clear V2 hEX hv4
    go_wp2_with fail
    exact bodyPost_ret (res_rat2 rfl _ _ _ _ _ _ _ _ _ _ (Value.int .i64 2) rfl rfl (blk_set3 HK.out.1 _ _ _)) rfl (lit_no HE.out (by decide) (below_set3 HBl.out HK.out.2 _ _ _))
end Go.Proofs.YtggmnmmjmihnfaaGreatDoor
