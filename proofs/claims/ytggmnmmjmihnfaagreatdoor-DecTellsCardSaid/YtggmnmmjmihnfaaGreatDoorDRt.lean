/-
 Law 3: the document's own literal of a fraction.
-/
import Derived.Test.YtggmnmmjmihnfaaGreatDoorDRp
import Derived.Test.YtggmnmmjmihnfaaGreatDoorRQb
namespace Go.Proofs.YtggmnmmjmihnfaaGreatDoor
open Go.RowKit
set_option linter.unusedVariables false
def szOf (v : Value) : Nat := match v with | .string s => s.size | _ => 0
/-- So many noughts. -/
def zr (j : Nat) : ByteArray := ⟨(List.replicate j (48 : UInt8)).toArray⟩
theorem zr_size (j : Nat) : (zr j).size = j := by
 show (List.replicate j (48 : UInt8)).toArray.size = j
 simp
theorem ba_list (a b : ByteArray) (h : a.data.toList = b.data.toList) : a = b := by
 cases a; cases b; congr 1; exact Array.toList_inj.1 h
theorem zr_succ (j : Nat) (t : ByteArray) : (⟨#[48]⟩ : ByteArray) ++ (zr j ++ t) = zr (j + 1) ++ t := by
 refine ba_list _ _ ?_
 rw [app_list, app_list, app_list]
 unfold zr
 simp [List.replicate_succ]
theorem zr_zero (t : ByteArray) : zr 0 ++ t = t := by
 refine ba_list _ _ ?_
 rw [app_list]
 rfl
theorem ten4 (n k : Nat) (h : n ≤ 4 * k) : 10 ^ n < 10000 ^ (k + 1) := by
 have h1 : 10 ^ n ≤ 10 ^ (4 * k) := Nat.pow_le_pow_right (by decide) h
 rw [Nat.pow_mul] at h1
 exact Nat.lt_of_le_of_lt h1 (Nat.pow_lt_pow_right (by decide) (by omega))
theorem fin_ten {d : Nat} (h0 : d ≠ 0) (h : rst d = 1) : d ∣ 10 ^ plc d := by
 have h1 := rst_eq h0
 rw [h, Nat.one_mul] at h1
 generalize hk : plc d = k at *
 unfold plc at hk
 rw [h1, show 10 = 5 * 2 from rfl, Nat.mul_pow]
 exact Nat.mul_dvd_mul (Nat.pow_dvd_pow 5 (by omega)) (Nat.pow_dvd_pow 2 (by omega))
theorem Dq.tl {w W : World} {bx : List (Nat × TypeId × Array Value)} {a : Value × Nat} {l : List (Value × Nat)} {q r : List (Value × Rat)} (h : Dq w bx (a :: l) q r W) : Dq w bx l q r W :=
 ⟨h.bel, h.box, fun k v N e => h.num (k + 1) v N (by simpa using e), h.ref, h.rat⟩
set_option maxRecDepth 100000 in
set_option maxHeartbeats 4000000 in
theorem rlit_none (x : Rat) (va : Value) (w : World) (ha : RQ w va x) (hx : x.den < 10000 ^ 100) (hf : rst x.den ≠ 1) : Calls Tryz.prog 14 #[va] w fun e w' => e = .returned (.tuple #[.string ⟨#[]⟩, .int .i64 14]) ∧ Below w.heap.size w w' := by
 have HP : Hid (∀ W v, RQ W v x → Calls Tryz.prog 11 #[v] W fun e w' => e = .returned (.tuple #[.int .i64 (plc x.den : Nat), .bool false]) ∧ Below W.heap.size W w') := Lib.hid (fun W v h => (rplaces_any x v W h hx).mono fun e w' h' => by
  obtain ⟨h1, h2⟩ := h'
  rw [decide_eq_false hf] at h1
  exact ⟨h1, h2⟩)
 have hR := ha
 obtain ⟨p, n, c, p', n', c', rfl, h1, h2⟩ := ha
 obtain ⟨zs, hz⟩ : ∃ z, decide (x.num < 0) = z := ⟨_, rfl⟩
 rw [hz] at hR ⊢
 have V0 := ((Dq.refl w).qcons hR).alloc 34 #[.bool zs, .slice p n c, .slice p' n' c']
 have b0 := V0.c0 0 rfl; have b1 := V0.c1 0 rfl; have b2 := V0.c2 0 rfl
 clear h1 h2 hR hz hx hf
 go_enter Tryz.func14, Tryz.ntmps14
 go_wp2_with fail
 refine (HP.out _ _ (V0.ref 0 _ _ rfl)).mono ?_
 rintro e w1 ⟨rfl, hb⟩
 have HB := Lib.hid (V0.below hb).bel
 clear V0 hb b0 b1 b2
 go_wp2_with fail
 go_ret2
 exact ⟨rfl, HB.out⟩
set_option maxRecDepth 100000 in
set_option maxHeartbeats 8000000 in
theorem rlit_some (x : Rat) (va : Value) (w : World) (ha : RQ w va x) (hx : SzD 38 x) (hf : rst x.den = 1) : Calls Tryz.prog 14 #[va] w fun e w' => e = .returned (.tuple #[.string (ltx x), .int .i64 0]) ∧ Below w.heap.size w w' := by
 have hD0 := x.den_pos
 have hp5 : plc x.den ≤ 600 := by
  have h1 := tk_lim (p := 2) 38 (by omega) x.den_nz hx.2
  have h2 := plc_pow x.den_nz
  have h3 : 10000 ^ 38 ≤ (2 ^ 14) ^ 38 := Nat.pow_le_pow_left (by decide) 38
  rw [← Nat.pow_mul] at h3
  have h4 : plc x.den < 14 * 38 := (Nat.pow_lt_pow_iff_right (by decide)).1 (Nat.lt_of_le_of_lt h2 (Nat.lt_of_lt_of_le hx.2 h3))
  omega
 have HP : Hid (∀ W v, RQ W v x → Calls Tryz.prog 11 #[v] W fun e w' => e = .returned (.tuple #[.int .i64 (plc x.den : Nat), .bool true]) ∧ Below W.heap.size W w') := Lib.hid (fun W v h => (rplaces_any x v W h ((hx.mono (k := 100) (by omega)).2)).mono fun e w' h' => by
  obtain ⟨h1, h2⟩ := h'
  rw [decide_eq_true hf] at h1
  exact ⟨h1, h2⟩)
 have hltx : ltx x = if decide (x.num < 0) = true then ⟨#[45]⟩ ++ ubt x else ubt x := by unfold ltx; by_cases h : x.num < 0 <;> simp [h]
 have hsc : x.num.natAbs * 10 ^ plc x.den / x.den = sct x := rfl
 have hsd : sdg x = if (dg (sct x)).size ≤ plc x.den then zr (plc x.den + 1 - (dg (sct x)).size) ++ dg (sct x) else dg (sct x) := rfl
 have hub : ubt x = if 0 < plc x.den then (sdg x).extract 0 ((sdg x).size - plc x.den) ++ (⟨#[46]⟩ ++ (sdg x).extract ((sdg x).size - plc x.den) (sdg x).size) else (sdg x).extract 0 ((sdg x).size - plc x.den) := rfl
 have hten : ∀ k, k ≤ plc x.den → 10 ^ k < 10000 ^ 200 := fun k hk => by
  exact ten4 k 199 (by omega)
 have hpr : x.num.natAbs * 10 ^ plc x.den < 10000 ^ 900 := pow_up (38 + 200) 900 (d_mul hx.1 (hten _ (Nat.le_refl _))) (by omega)
 have hsz1 : (dg x.num.natAbs).size ≤ 152 := dgd_size hx.1 (by omega)
 have hsz2 : (dg x.den).size ≤ 152 := dgd_size hx.2 (by omega)
 have hscs : (dg (sct x)).size ≤ 4 * 238 := dgd_size (k := 238) (Nat.lt_of_le_of_lt (Nat.div_le_self _ _) (d_mul (j := 38) (k := 200) hx.1 (hten _ (Nat.le_refl _)))) (by omega)
 obtain ⟨p, n, c, p', n', c', rfl, h1, h2⟩ := ha
 obtain ⟨zs, hz⟩ : ∃ z, decide (x.num < 0) = z := ⟨_, rfl⟩
 have hR : RQ w (.agg #[.bool zs, .slice p n c, .slice p' n' c']) x := ⟨p, n, c, p', n', c', by rw [hz], h1, h2⟩
 rw [hz] at hltx ⊢
 obtain ⟨L, hL⟩ : ∃ L, ltx x = L := ⟨_, rfl⟩
 obtain ⟨U, hU⟩ : ∃ U, ubt x = U := ⟨_, rfl⟩
 obtain ⟨SD, hSD⟩ : ∃ S, sdg x = S := ⟨_, rfl⟩
 obtain ⟨SC, hSC⟩ : ∃ S, sct x = S := ⟨_, rfl⟩
 obtain ⟨P, hP⟩ : ∃ P, plc x.den = P := ⟨_, rfl⟩
 obtain ⟨NU, hNU⟩ : ∃ N, x.num.natAbs = N := ⟨_, rfl⟩
 obtain ⟨D, hD⟩ : ∃ D, x.den = D := ⟨_, rfl⟩
 have hx1 := hx.1; have hx2 := hx.2
 simp only [hL, hU, hSD, hSC, hP, hNU] at HP hltx hsc hsd hub hpr hp5 hten hsz1 hscs h1 hx1 ⊢
 simp only [hD] at hsc hD0 hsz2 h2 hx2
 have V0 := (((((Dq.refl w).cons h2 (pow_up 38 900 hx2 (by omega))).cons h1 (pow_up 38 900 hx1 (by omega)))).qcons hR).alloc 34 #[.bool zs, .slice p n c, .slice p' n' c']
 have b0 := V0.c0 0 rfl; have b1 := V0.c1 0 rfl; have b2 := V0.c2 0 rfl
 have HPr := Lib.hid (And.intro hpr hD0)
 have Hten := Lib.hid hten
 obtain ⟨DN, hDN⟩ : ∃ G, dg NU = G := ⟨_, rfl⟩
 obtain ⟨DD, hDD⟩ : ∃ G, dg D = G := ⟨_, rfl⟩
 obtain ⟨DG, hDG⟩ : ∃ G, dg SC = G := ⟨_, rfl⟩
 rw [hDN] at hsz1
 rw [hDD] at hsz2
 rw [hDG] at hscs hsd
 have HDN := Lib.hid hDN; have HDD := Lib.hid hDD; have HDG := Lib.hid hDG; have Hsc := Lib.hid hsc; have Hsd := Lib.hid hsd
 have hg1 : ¬ (1200 : Int) < (P : Int) := by omega
 have hg2 : ¬ (1200 : Int) < (DN.size : Int) := by omega
 have hg3 : ¬ (1200 : Int) < (DD.size : Int) := by omega
 rw [hub] at hltx
 have HFin := Lib.hid hltx
 have hDG0 : 0 < DG.size := by
  rw [← hDG]
  show 0 < (Lib.decDigits SC).toArray.size
  rw [List.size_toArray, Lib.decDigits_length]
  exact Lib.nDigits_pos _
 clear h1 h2 hR hz hx hf hL hU hSD hSC hP hNU hD hx1 hx2 hpr hD0 hten hDN hDD hDG hsc hsd hub hltx
 go_enter Tryz.func14, Tryz.ntmps14
 go_wp2_with fail
 refine (HP.out _ _ (V0.ref 0 _ _ rfl)).mono ?_
 rintro e w1 ⟨rfl, hb⟩
 have V1 := V0.below hb
 have b0 := V1.c0 0 rfl; have b1 := V1.c1 0 rfl; have b2 := V1.c2 0 rfl
 clear V0 hb HP
 go_wp2_with fail
 refine (V1.text 0 rfl HDN.out).mono ?_
 rintro e w2 ⟨rfl, V2⟩
 have b0 := V2.c0 0 rfl; have b1 := V2.c1 0 rfl; have b2 := V2.c2 0 rfl
 clear V1
 go_wp2_with fail
 refine (V2.text 1 rfl HDD.out).mono ?_
 rintro e w3 ⟨rfl, V3⟩
 have VL := V3.lit1
 have HVL := Lib.hid VL
 have HVn := Lib.hid (VL.num 0 _ _ rfl).1
 clear V2 V3 VL b0 b1 b2
 go_wp2_with fail
 go_loopw [6, 7] (fun av kv wr => ∃ (k nk : Nat) (a : Option Addr) (ck : Nat), k ≤ P ∧ av = .slice a nk ck ∧ kv = .int .i64 (k : Int) ∧ Hid (RN wr (.slice a nk ck) (10 ^ k)) ∧ Hid (Dq w [(w.heap.size, 34, #[.bool zs, .slice p n c, .slice p' n' c'])] [(.slice p n c, NU), (.slice p' n' c', D)] [(.agg #[.bool zs, .slice p n c, .slice p' n' c'], x)] [] wr)) (fun _ kv _ => P - (intOf kv).toNat)
 case atStart => exact ⟨0, _, _, _, by omega, rfl, rfl, HVn, Lib.hid HVL.out.tl⟩
 case round =>
  clear HVL HVn
  obtain ⟨k, nk, a, ck, hk, rfl, rfl, hv, hV⟩ := hrel
  by_cases h0 : k = P
  · subst h0
    have V4 := hV.out.cons hv.out (pow_up 200 900 (Hten.out _ (Nat.le_refl _)) (by omega))
    clear hv hV Hten hk hg1 hg2 hg3
    go_wp2_with fail
    have V4d := V4.drew
    clear V4
    refine wp_region_held_drew (S := (fun W => W.cell? ⟨w.heap.size, 0, none⟩ = some (.bool zs) ∧ W.cell? ⟨w.heap.size, 1, none⟩ = some (.slice p n c) ∧ W.cell? ⟨w.heap.size, 2, none⟩ = some (.slice p' n' c'))) (by kernel_rfl) ?_ (fun hHeld => ?_)
    · exact ⟨V4d.c0 0 rfl, V4d.c1 0 rfl, V4d.c2 0 rfl⟩
    refine tkH (i := 0) (v := ?_) rfl (by kernel_rfl) (fun _ _ _ h => h) (Or.inl ⟨by rfl, ?_⟩) (by assumption) ?_
    rotate_left
    · intro w hSw; (try dsimp only at hSw); go_simp; (try with_reducible rfl)
    try simp only [las]
    refine tkH (i := 1) (v := ?_) rfl (by kernel_rfl) (fun _ _ _ h => h) (Or.inl ⟨by rfl, ?_⟩) (by assumption) ?_
    rotate_left
    · intro w hSw; (try dsimp only at hSw); go_simp; (try with_reducible rfl)
    try simp only [las]
    refine tkH (i := 2) (v := ?_) rfl (by kernel_rfl) (fun _ _ _ h => h) (Or.inl ⟨by rfl, ?_⟩) (by assumption) ?_
    rotate_left
    · intro w hSw; (try dsimp only at hSw); go_simp; (try with_reducible rfl)
    try simp only [las]
    refine tkH (i := 4) (v := ?_) rfl (by kernel_rfl) (fun _ _ _ h => h) (Or.inl ⟨by rfl, ?_⟩) (by assumption) ?_
    rotate_left
    · intro w hSw; (try dsimp only at hSw); go_simp; (try with_reducible rfl)
    try simp only [las]
    refine tkH (i := 5) (v := ?_) rfl (by kernel_rfl) (fun _ _ _ h => h) (Or.inl ⟨by rfl, ?_⟩) (by assumption) ?_
    rotate_left
    · intro w hSw; (try dsimp only at hSw); go_simp; (try with_reducible rfl)
    try simp only [las]
    refine wpAnyH_ready (rs := [3]) (by kernel_rfl) (by simp) ?_
    refine AllReadyH.cons (o := _) rfl (fun K hK => ?_) AllReadyH.nil
    go_simp
    go_at_call 25; refine (V4d.mul 1 0 rfl rfl ⟨rfl, HPr.out.1⟩).mono ?_; rintro E wm ⟨am, nm, cm, rfl, V5⟩
    refine hK.out _ _ ?_ (fun hHeld => ?_)
    · first | exact ⟨V6.c0 0 rfl, V6.c1 0 rfl, V6.c2 0 rfl⟩ | exact ⟨V5.c0 0 rfl, V5.c1 0 rfl, V5.c2 0 rfl⟩
    clear hK K
    try simp only [las]
    refine wpAnyH_ready (rs := [6]) (by kernel_rfl) (by simp) ?_
    refine AllReadyH.cons (o := _) rfl (fun K hK => ?_) AllReadyH.nil
    go_simp
    go_at_call 38; refine (V5.dvm 0 3 rfl rfl HPr.out.2).mono ?_; rintro E wd ⟨aq, nq, cq, ar, nr, cr, rfl, -, V6⟩; clear V5
    refine hK.out _ _ ?_ (fun hHeld => ?_)
    · first | exact ⟨V6.c0 0 rfl, V6.c1 0 rfl, V6.c2 0 rfl⟩ | exact ⟨V5.c0 0 rfl, V5.c1 0 rfl, V5.c2 0 rfl⟩
    clear hK K
    try simp only [las]
    refine tkH (i := 7) (v := ?_) rfl (by kernel_rfl) (fun _ _ _ h => h) (Or.inl ⟨by rfl, ?_⟩) (by assumption) ?_
    rotate_left
    · intro w hSw; (try dsimp only at hSw); go_simp; (try with_reducible rfl)
    try simp only [las]
    refine tkH (i := 8) (v := ?_) rfl (by kernel_rfl) (fun _ _ _ h => h) (Or.inl ⟨by rfl, ?_⟩) (by assumption) ?_
    rotate_left
    · intro w hSw; (try dsimp only at hSw); go_simp; (try with_reducible rfl)
    try simp only [las]
    refine tkH (i := 9) (v := ?_) rfl (by kernel_rfl) (fun _ _ _ h => h) (Or.inl ⟨by rfl, ?_⟩) (by assumption) ?_
    rotate_left
    · intro w hSw; (try dsimp only at hSw); go_simp; (try with_reducible rfl)
    try simp only [las]
    refine tkH (i := 10) (v := ?_) rfl (by kernel_rfl) (fun _ _ _ h => h) (Or.inl ⟨by rfl, ?_⟩) (by assumption) ?_
    rotate_left
    · intro w hSw; (try dsimp only at hSw); go_simp; (try with_reducible rfl)
    try simp only [las]
    refine tkH (i := 11) (v := ?_) rfl (by kernel_rfl) (fun _ _ _ h => h) (Or.inl ⟨by rfl, ?_⟩) (by assumption) ?_
    rotate_left
    · intro w hSw; (try dsimp only at hSw); go_simp; (try with_reducible rfl)
    try simp only [las]
    refine wpAnyH_done (by kernel_rfl) ?_ _
    clear V4d
    go_wp2_with fail
    have HV6 : Hid (Dq w _ ((.slice aq nq cq, SC) :: _) _ _ wd) := Lib.hid (by
     have h := V6
     rw [Hsc.out] at h
     exact h)
    clear V6
    refine (HV6.out.text 0 rfl HDG.out).mono ?_
    rintro e w7 ⟨rfl, V7⟩
    clear HV6
    have b0 := V7.c0 0 rfl; have b1 := V7.c1 0 rfl; have b2 := V7.c2 0 rfl
    have HB := Lib.hid V7.bel
    clear V7
    go_wp2_with fail
    go_loop [10] (fun sv => ∃ (j : Nat) (sq : ByteArray), sv = .string sq ∧ Hid (sq = zr j ++ DG) ∧ sq.size = j + DG.size ∧ (j = 0 ∨ j + DG.size ≤ k + 1)) (fun sv => k + 1 - szOf sv)
    case atStart => exact ⟨0, DG, rfl, Lib.hid (zr_zero _).symm, by omega, Or.inl rfl⟩
    case round =>
     obtain ⟨j, sq, rfl, hsq, hsz, hj⟩ := hrel
     by_cases hle : sq.size ≤ k
     · have hlei : (sq.size : Int) ≤ (k : Int) := by omega
       have Hsq : Hid ((⟨#[48]⟩ : ByteArray) ++ sq = zr (j + 1) ++ DG) := Lib.hid (by rw [hsq.out, zr_succ])
       have hcat : ¬ 9223372036854775807 < 1 + sq.size := by omega
       have hs1 : ((⟨#[48]⟩ : ByteArray) ++ sq).size = 1 + sq.size := by rw [ByteArray.size_append]; rfl
       clear hsq
       go_wp2_with fail
       go_round
       case rel => exact ⟨j + 1, _, rfl, Hsq, by omega, Or.inr (by omega)⟩
       case measure => simp only [szOf, hs1]; omega
     · have hlei : ¬ (sq.size : Int) ≤ (k : Int) := by omega
       have HS : Hid (SD = sq) := Lib.hid (by
        rw [Hsd.out, hsq.out]
        by_cases h : DG.size ≤ k
        · rw [if_pos h]
          congr 2
          omega
        · rw [if_neg h]
          have : j = 0 := by omega
          rw [this, zr_zero])
       have HF := Lib.hid HFin.out
       obtain ⟨pt, hpt⟩ : ∃ pt : Nat, sq.size - k = pt := ⟨_, rfl⟩
       have hFin := HFin.out
       rw [HS.out, hpt] at hFin
       have hpti : (sq.size : Int) - (k : Int) = (pt : Int) := by omega
       have hptle : pt ≤ sq.size := by omega
       have hSl : sq.size ≤ 1700 := by omega
       clear HFin HF HS Hsd hsq hsz hj hle hpt Hsc HPr
       have hsz2 : (sq.extract 0 pt).size ≤ 4000 := by rw [ByteArray.size_extract]; omega
       by_cases hP : 0 < k
       · have hp0 : (0 : Int) < (k : Int) := by omega
         have hsz1 : (sq.extract pt sq.size).size ≤ 4000 := by rw [ByteArray.size_extract]; omega
         have hsz3 : (sq.extract 0 pt ++ ⟨#[46]⟩).size ≤ 9000 := by rw [ByteArray.size_append]; simp only [show (⟨#[46]⟩ : ByteArray).size = 1 from rfl]; omega
         have hsz4 : (sq.extract 0 pt ++ ⟨#[46]⟩ ++ sq.extract pt sq.size).size ≤ 14000 := by rw [ByteArray.size_append]; omega
         rw [if_pos hP] at hFin
         have hass : sq.extract 0 pt ++ (⟨#[46]⟩ ++ sq.extract pt sq.size) = sq.extract 0 pt ++ ⟨#[46]⟩ ++ sq.extract pt sq.size := by rw [ByteArray.append_assoc]
         rw [hass] at hFin
         have HFin := Lib.hid hFin
         clear hFin hass hP
         cases zs with
         | false =>
          rw [if_neg (by simp)] at HFin
          go_wp2_with fail
          go_quiet (fail)
          go_wp2_with fail
          go_ret2
          exact ⟨by rw [HFin.out]; first | done | rfl, HB.out.trans (below_drewN _ _ nq)⟩
         | true =>
          rw [if_pos rfl] at HFin
          go_wp2_with fail
          go_quiet (fail)
          go_wp2_with fail
          go_ret2
          exact ⟨by rw [HFin.out]; first | done | rfl, HB.out.trans (below_drewN _ _ nq)⟩
       · have hp0 : ¬ (0 : Int) < (k : Int) := by omega
         have hpd : decide (0 < k) = false := decide_eq_false hP
         have hpd2 : decide ((0 : Int) < (k : Int)) = false := decide_eq_false hp0
         rw [if_neg hP] at hFin
         have hall : sq.extract 0 pt = sq := by
          have : pt = sq.size := by omega
          rw [this]
          exact ByteArray.extract_zero_size
         rw [hall] at hFin
         have HFin := Lib.hid hFin
         clear hFin hall hP
         cases zs with
         | false =>
          rw [if_neg (by simp)] at HFin
          go_wp2_with fail
          go_ret2
          exact ⟨by rw [HFin.out]; first | done | rfl, HB.out⟩
         | true =>
          rw [if_pos rfl] at HFin
          go_wp2_with fail
          go_ret2
          exact ⟨by rw [HFin.out]; first | done | rfl, HB.out⟩
  · have hk1 : (k : Int) < (P : Int) := by omega
    have hkP : k + 1 ≤ P := by omega
    have HMl := Lib.hid (mul_lit (10 ^ k) 10 _ wr hv.out (pow_up 200 9000 (Hten.out k (by omega)) (by omega)) (by omega))
    clear hv h0
    go_wp2_with fail
    refine HMl.out.mono ?_
    rintro e w5 ⟨v5, rfl, hr5, hb⟩
    have HR5 : Hid (RN w5 v5 (10 ^ (k + 1))) := Lib.hid (by rw [Nat.pow_succ]; exact hr5)
    have HV5 := Lib.hid (hV.out.below hb)
    obtain ⟨a5, n5, c5, rfl, -, -⟩ := rn_form hr5
    clear hr5 hb HMl hV
    go_wp2_with fail
    go_roundw
    case rel => first | exact ⟨k + 1, n5, a5, c5, hkP, rfl, by go_num, HR5, HV5⟩ | ((repeat apply Exists.intro); exact ⟨⟨k + 1, n5, a5, c5, hkP, rfl, by go_num, HR5, HV5⟩, rfl⟩)
    case measure => simp [intOf]; omega
end Go.Proofs.YtggmnmmjmihnfaaGreatDoor
