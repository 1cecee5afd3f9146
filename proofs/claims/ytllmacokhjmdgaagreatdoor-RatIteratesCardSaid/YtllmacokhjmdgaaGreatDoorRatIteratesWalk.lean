/-
 The walk of RatIterates: for every input it returns true, and leaves what lay in memory as it was.
-/
import Derived.Test.YtllmacokhjmdgaaGreatDoorIMem
import Derived.Test.YtllmacokhjmdgaaGreatDoorIShort
import Derived.Test.YtllmacokhjmdgaaGreatDoorITail
namespace Go.Proofs.YtllmacokhjmdgaaGreatDoor
open Go.RowKit Go.Shelf
set_option linter.unusedVariables false
set_option maxRecDepth 100000 in
set_option maxHeartbeats 16000000 in
theorem ratIterates.walk (a : Option Addr) (c : Nat) (ts : List ByteArray) (w : World) (ha : TS w a ts) (hs : ∀ t ∈ ts, t.size ≤ maxLen) (hl : ts.length ≤ maxLen) (htab : Tab w) (htb : TabB w) :
 Calls Tryz.prog 8 #[.slice a ts.length c] w fun e w' => e = .returned (.bool true) ∧ Below w.heap.size w w' := by
 have HSh := Lib.hid (short_any 15 600 a c ts w (by omega) (by omega) (by omega) ha hl hs)
 have HAl : Hid (∀ W, Below w.heap.size w W → Calls Tryz.prog 9 #[] W fun e w' => e = .returned (.bool true) ∧ Below W.heap.size W w') := Lib.hid (fun W hb => alive_r W (htab.below hb (Nat.le_refl _)) (htb.below hb (Nat.le_refl _)))
 have HTab : Hid (∀ W, Below w.heap.size w W → Tab W) := Lib.hid (fun W hb => htab.below hb (Nat.le_refl _))
 have HTB : Hid (∀ W, Below w.heap.size w W → TabB W) := Lib.hid (fun W hb => htb.below hb (Nat.le_refl _))
 have HTS := Lib.hid ha
 clear ha hs hl htab htb
 go_enter Tryz.func8, Tryz.ntmps8
 go_wp2_with fail
 refine HSh.out.mono ?_
 rintro e w1 ⟨⟨b, rfl, hb⟩, hb1⟩
 have HB1 := Lib.hid hb1
 clear HSh hb1
 cases b with
 | false =>
  clear hb
  go_wp2_with fail
  refine (HAl.out w1 HB1.out).mono ?_
  rintro e w2 ⟨rfl, hb2⟩
  have HB2 := Lib.hid (HB1.out.trans (hb2.mono HB1.out.size))
  clear hb2
  go_wp2_with fail
  go_ret
  exact ⟨rfl, HB2.out⟩
 | true =>
  obtain ⟨hfew, hroom⟩ := hb rfl
  have HSz : Hid (∀ t ∈ ts, t.size ≤ 600) := Lib.hid (fun t ht => by have := szs_mem ht; omega)
  have HRm : Hid (szs ts ≤ 600) := Lib.hid (by omega)
  clear hb hroom
  go_wp2_with fail
  refine (HAl.out w1 HB1.out).mono ?_
  rintro e w2 ⟨rfl, hb2⟩
  have HB2 := Lib.hid (HB1.out.trans (hb2.mono HB1.out.size))
  have HTS2 := Lib.hid ((HTS.out.below HB1.out).below hb2)
  clear hb2 HAl HTS HB1
  obtain ⟨m, hm⟩ : ∃ m, ts.length = m := ⟨_, rfl⟩
  have Hm := Lib.hid hm
  rw [hm] at hfew ⊢
  clear hm
  go_wp2_with fail
  refine (rint_any 0 w2 (by omega) (by omega)).mono ?_
  rintro e w3 ⟨v, rfl, hv, hb3⟩
  obtain ⟨p0, n0, c0, p0', n0', c0', rfl, k1, k2⟩ := hv
  have hv : RQ w3 (.agg #[.bool (decide ((((0 : Int) : Rat)).num < 0)), .slice p0 n0 c0, .slice p0' n0' c0']) ((0 : Int) : Rat) := ⟨p0, n0, c0, p0', n0', c0', rfl, k1, k2⟩
  obtain ⟨z0, hz0⟩ : ∃ z, decide ((((0 : Int) : Rat)).num < 0) = z := ⟨_, rfl⟩
  rw [hz0] at hv ⊢
  clear k1 k2 hz0
  have q4 := Blk.new w3 50 #[.bool z0, .slice p0 n0 c0, .slice p0' n0' c0']
  have q5 := Blk.new (w3.alloc (.cells #[.bool z0, .slice p0 n0 c0, .slice p0' n0' c0'] 50)) 50 #[.bool false, .slice none 0 0, .slice none 0 0]
  have q6 := Blk.new ((w3.alloc (.cells #[.bool z0, .slice p0 n0 c0, .slice p0' n0' c0'] 50)).alloc (.cells #[.bool false, .slice none 0 0, .slice none 0 0] 50)) 50 #[.bool false, .slice none 0 0, .slice none 0 0]
  obtain ⟨W5, hW5⟩ : ∃ W5, ((w3.alloc (.cells #[.bool z0, .slice p0 n0 c0, .slice p0' n0' c0'] 50)).alloc (.cells #[.bool false, .slice none 0 0, .slice none 0 0] 50)).alloc (.cells #[.bool false, .slice none 0 0, .slice none 0 0] 50) = W5 := ⟨_, rfl⟩
  simp only [World.size_alloc] at q5 q6
  have e3 : Below w3.heap.size w3 W5 := by rw [← hW5]; exact (((Below.refl _ w3).alloc (Nat.le_refl _) _).alloc (by simp) _).alloc (by simp; omega) _
  have e2 : Below w2.heap.size w2 W5 := hb3.trans (e3.mono hb3.size)
  have hsz5 : W5.heap.size = w3.heap.size + 3 := by rw [← hW5]; simp
  have s2 := hb3.size
  have q4' : Blk W5 w3.heap.size 50 #[.bool z0, .slice p0 n0 c0, .slice p0' n0' c0'] := by
   rw [← hW5]
   exact q4.below (((Below.refl (w3.heap.size + 1) _).alloc (by simp) _).alloc (by simp) _) (by omega)
  have q5' : Blk W5 (w3.heap.size + 1) 50 #[.bool false, .slice none 0 0, .slice none 0 0] := by
   rw [← hW5]
   exact q5.below ((Below.refl (w3.heap.size + 2) _).alloc (by simp) _) (by omega)
  have q6' : Blk W5 (w3.heap.size + 1 + 1) 50 #[.bool false, .slice none 0 0, .slice none 0 0] := by rw [← hW5]; exact q6
  have I0 : It w2 w3.heap.size (w3.heap.size + 1) (w3.heap.size + 1 + 1) (w3.heap.size + 3) (.slice none 0 0) [] (sumQ ((pfvs ts).take 0)) ((bestO (-1) ((pfvs ts).take 0)).getD 0) ((bestO 1 ((pfvs ts).take 0)).getD 0) (0 < 0) (0 < 0) W5 :=
   ⟨e2, World.ownsRow_nil _ _ _ _, noI_nil _, fun e he => by simp at he, ⟨_, _, _, _, _, _, _, q4', fun _ => by rw [List.take_zero]; exact hv.below e3 (Nat.le_refl _)⟩, ⟨_, _, _, _, _, _, _, q5', fun h => absurd h (by omega)⟩, ⟨_, _, _, _, _, _, _, q6', fun h => absurd h (by omega)⟩, by omega⟩
  have HB5 := Lib.hid (And.intro HB2.out.size (And.intro s2 hsz5))
  obtain ⟨b4, hb4⟩ : ∃ b, w3.heap.size = b := ⟨_, rfl⟩
  obtain ⟨b5, hb5⟩ : ∃ b, b4 + 1 = b := ⟨_, rfl⟩
  obtain ⟨b6, hb6⟩ : ∃ b, b5 + 1 = b := ⟨_, rfl⟩
  obtain ⟨B, hB⟩ : ∃ B, b4 + 3 = B := ⟨_, rfl⟩
  rw [hb4] at I0
  rw [hb5, hB] at I0
  rw [hb6] at I0
  have HI0 := Lib.hid I0
  have HN : Hid (w2.heap.size ≤ b4 ∧ b4 < b5 ∧ b5 < b6 ∧ b6 < B) := Lib.hid ⟨by omega, by omega, by omega, by omega⟩
  have Hb4 := Lib.hid hb4; have Hb5 := Lib.hid hb5; have Hb6 := Lib.hid hb6
  have HW5 := Lib.hid hW5
  clear hv q4 q5 q6 hW5 e3 e2 hsz5 s2 q4' q5' q6' I0 hb4 hb5 hb6 hB hb3 HB5
  go_wp2_with fail
  simp only [HW5.out, Hb4.out, Hb5.out, Hb6.out]
  go_loopw [3, 7] (fun va iv wr => ∃ (k : Nat) (L : List Ev), k ≤ m ∧ iv = .int .i64 (k : Int) ∧ Hid (L.map (·.q) = (pfvs ts).take k) ∧ Hid (It w2 b4 b5 b6 B va L (sumQ ((pfvs ts).take k)) ((bestO (-1) ((pfvs ts).take k)).getD 0) ((bestO 1 ((pfvs ts).take k)).getD 0) (0 < k) (0 < k) wr)) (fun _ iv _ => m - (intOf iv).toNat)
  case atStart => exact ⟨0, [], by omega, rfl, Lib.hid rfl, HI0⟩
  case round =>
   clear HI0
   obtain ⟨k, L, hk, rfl, hq, hI⟩ := hrel
   by_cases hlt : k < m
   · obtain ⟨t, ht⟩ : ∃ t, ts[k]? = some t := ⟨_, List.getElem?_eq_getElem (by rw [Hm.out]; exact hlt)⟩
     obtain ⟨ad, rfl, hadl, hca⟩ := (HTS2.out.below hI.out.bel) k t ht
     have htm := List.mem_of_getElem? ht
     have hsz := HSz.out t htm
     have hi0 : (0 : Int) ≤ (k : Int) := by omega
     have hi1 : (k : Int) < (m : Int) := by omega
     have HLl : Hid (L.length = k) := Lib.hid (by have := congrArg List.length hq.out; rw [List.length_map, List.length_take] at this; unfold pfvs at this; rw [List.length_map, Hm.out] at this; omega)
     have HCa : Hid (∀ W, Below wr.heap.size wr W → W.cell? (ad.add k) = some (.string t)) := Lib.hid (fun W h => (h.cell (p := ad.add k) (by rw [add_block]; exact hadl)).trans hca)
     have HPa : Hid (∀ W, Below w2.heap.size w2 W → Calls Tryz.prog 12 #[.string t] W fun e w' => ∃ b x y z x' y' z', e = .returned (.tuple #[.agg #[.bool b, .slice x y z, .slice x' y' z'], .int .i64 (oc (pq t))]) ∧ IsR w' (.agg #[.bool b, .slice x y z, .slice x' y' z']) (pfv t) ∧ Below W.heap.size W w') := Lib.hid (fun W h => parse_r t W (by omega) (HTB.out W (HB2.out.trans (h.mono HB2.out.size))))
     have HPx : Hid (∀ W, Calls Tryz.prog 34 #[.string t] W fun e w' => ∃ v, e = .returned (.tuple #[v, .int .i64 (oc (pq t))]) ∧ RQ w' v (pfv t) ∧ Below W.heap.size W w') := Lib.hid (fun W => rratparse_any t W (by omega))
     obtain ⟨C, hC⟩ : ∃ C, oc (pq t) = C := ⟨_, rfl⟩
     rw [hC] at HPa HPx
     have hCC : (C != C) = false := by simp
     have sx := pfv_szx t
     have ss := sum_szx ts k (by rw [Hm.out]; omega)
     have hroom := szs_le ts (k + 1)
     rw [szs_take ht] at hroom
     have hrm := HRm.out
     have hadd := sum_succ (pfvs_at ht)
     have hlo := (bestO_snoc (-1) ((pfvs ts).take k) (pfv t)); have hhi := (bestO_snoc 1 ((pfvs ts).take k) (pfv t))
     rw [← take_succ_q (pfvs_at ht)] at hlo hhi
     have hnq : Hid ((pfvs ts).take (k + 1) = (pfvs ts).take k ++ [pfv t]) := Lib.hid (take_succ_q (pfvs_at ht))
     have HRA : Hid (∀ W va vb, RQ W va (sumQ ((pfvs ts).take k)) → RQ W vb (pfv t) → Calls Tryz.prog 38 #[va, vb] W (GaveQ (sumQ ((pfvs ts).take (k + 1))) W)) := Lib.hid (fun W va vb h1 h2 => by
      rw [hadd]
      exact rratadd_big _ _ va vb W h1 h2 (ss.digs (by omega)) (sx.digs (by omega)))
     have HRC : Hid (∀ side W va vb, 0 < k → RQ W va (pfv t) → RQ W vb ((bestO side ((pfvs ts).take k)).getD 0) → Calls Tryz.prog 37 #[va, vb] W fun e w' => e = .returned (.int .i64 (cmpQ (pfv t) ((bestO side ((pfvs ts).take k)).getD 0))) ∧ Below W.heap.size W w') := Lib.hid (fun side W va vb hk0 h1 h2 => by
      refine rratcmp_big _ _ va vb W h1 h2 (sx.digs (by omega)) ?_
      cases hb : bestO side ((pfvs ts).take k) with
      | none => exact ⟨Nat.pow_pos (by decide), Nat.one_lt_pow (by omega) (by decide)⟩
      | some y => exact (best_szx HSz.out hb).digs (by omega))
     have HSq : Hid (0 < k → (bestO (-1) ((pfvs ts).take k)).isSome = true ∧ (bestO 1 ((pfvs ts).take k)).isSome = true) := Lib.hid (fun hk0 => by
      obtain ⟨k', rfl⟩ : ∃ k', k = k' + 1 := ⟨k - 1, by omega⟩
      obtain ⟨t', ht'⟩ : ∃ t', ts[k']? = some t' := ⟨_, List.getElem?_eq_getElem (by rw [Hm.out]; omega)⟩
      rw [take_succ_q (pfvs_at ht')]
      exact ⟨best_some _ _ _, best_some _ _ _⟩)
     have Hlo := Lib.hid hlo; have Hhi := Lib.hid hhi
     obtain ⟨X, hX⟩ : ∃ X, pfv t = X := ⟨_, rfl⟩
     rw [hX] at HPa HPx HRA HRC Hlo Hhi hnq
     clear ht htm hsz hC sx ss hroom hrm hadd hlo hhi hX hadl
     go_wp2_with fail
     refine (HPa.out wr hI.out.bel).mono ?_
     rintro e w9 ⟨bA, pA, nA, cA, qA, mA, dA, rfl, rA, hb9⟩
     have hb9' : Below w9.heap.size w9 (w9.alloc (.cells #[.bool bA, .slice pA nA cA, .slice qA mA dA] 28)) := (Below.refl _ _).alloc (Nat.le_refl _) _
     have I9 := (hI.out.below hb9).below hb9'
     have rA9 := rA.below hb9' (Nat.le_refl _)
     have kA := Blk.new w9 28 #[.bool bA, .slice pA nA cA, .slice qA mA dA]
     have hca9 := HCa.out _ (hb9.trans (hb9'.mono hb9.size))
     have HI9 := Lib.hid I9; have HrA9 := Lib.hid rA9; have HkA := Lib.hid kA
     clear hI hb9 rA I9 rA9 kA hca hb9'
     go_wp2_with fail
     refine (HPx.out _).mono ?_
     rintro e wX ⟨v, rfl, rX, hbX⟩
     obtain ⟨pX, nX, cX, qX, mX, dX, rfl, nu, de⟩ := rX
     obtain ⟨zX, hzX⟩ : ∃ z, decide (X.num < 0) = z := ⟨_, rfl⟩
     have rX : RQ wX (.agg #[.bool zX, .slice pX nX cX, .slice qX mX dX]) X := ⟨pX, nX, cX, qX, mX, dX, by rw [hzX], nu, de⟩
     rw [hzX]
     have hbX' : Below wX.heap.size wX (wX.alloc (.cells #[.bool zX, .slice pX nX cX, .slice qX mX dX] 50)) := (Below.refl _ _).alloc (Nat.le_refl _) _
     have HIX := Lib.hid ((HI9.out.below hbX).below hbX')
     have HrA := Lib.hid ((HrA9.out.below hbX (Nat.le_refl _)).below hbX' (Nat.le_refl _))
     have kA := (HkA.out.below hbX HkA.out.lt).below hbX' (HkA.out.below hbX HkA.out.lt).lt
     have HbT : Hid (BoxP True (wX.alloc (.cells #[.bool zX, .slice pX nX cX, .slice qX mX dX] 50)) wX.heap.size X) := Lib.hid ⟨zX, pX, nX, cX, qX, mX, dX, Blk.new wX _ _, fun _ => rX.below hbX' (Nat.le_refl _)⟩
     have HkX := Lib.hid (Blk.new wX 50 #[.bool zX, .slice pX nX cX, .slice qX mX dX]); have HrX := Lib.hid (rX.below hbX' (Nat.le_refl _))
     have a0 := kA.cell 0; have a1 := kA.cell 1; have a2 := kA.cell 2
     simp only [List.getElem?_toArray, List.getElem?_cons_zero, List.getElem?_cons_succ] at a0 a1 a2
     have HlX := Lib.hid (Nat.le_trans HI9.out.big hbX.size)
     clear HI9 HrA9 HkA hbX hbX' rX nu de hzX kA hca9
     go_wp2_with (at_builtin; refine push_no rfl (.tmp 52) (.tmp 54) rfl B _ _ L ⟨bA, pA, nA, cA, qA, mA, dA, X⟩ _ rfl rfl HIX.out.row HIX.out.no HIX.out.big _ (by simp) rfl (by rw [HLl.out]; omega) ?_)
     intro vb W11 hown hno hg hb11
     have I11 := HIX.out.push (p := ⟨bA, pA, nA, cA, qA, mA, dA, X⟩) (Nat.le_trans HN.out.1 (by have := HN.out.2; omega)) HrA.out (by rw [List.length_append]; exact hown) hno hg hb11
     have T11 := (HbT.out.below ((Below.refl _ _).alloc (Nat.le_refl _) _)).app hg (HIX.out.no.below ((Below.refl _ _).alloc (Nat.le_refl _) _) (Nat.le_refl _))
     obtain ⟨bT, hbT⟩ : ∃ b, wX.heap.size = b := ⟨_, rfl⟩
     have hTB : B ≤ bT := by have := HlX.out; rw [hbT] at this; omega
     rw [hbT] at T11
     have HbTe := Lib.hid hbT
     clear hown hno hg hb11 HIX HrA HbT a0 a1 a2 HkX HrX hbT
     obtain ⟨zT, pT, nT, cT, qT, mT, dT, kT, rT⟩ := T11
     obtain ⟨z4, p4, n4, c4, q4, m4, d4, k4, r4⟩ := I11.sum
     have t0 := kT.cell 0; have t1 := kT.cell 1; have t2 := kT.cell 2
     have s0 := k4.cell 0; have s1 := k4.cell 1; have s2 := k4.cell 2
     simp only [List.getElem?_toArray, List.getElem?_cons_zero, List.getElem?_cons_succ] at t0 t1 t2 s0 s1 s2
     have rT := rT trivial; have r4 := r4 trivial
     have HI11 := Lib.hid I11; have HkT := Lib.hid kT; have Hk4 := Lib.hid k4; have HrT := Lib.hid rT; have Hr4 := Lib.hid r4
     clear I11 kT k4 rT r4
     simp only [HbTe.out]
     go_wp2_with fail
     refine (HRA.out W11 _ _ Hr4.out HrT.out).mono ?_
     rintro e w14 ⟨v, rfl, rS, hb14⟩
     obtain ⟨pS, nS, cS, qS, mS, dS, rfl, nu, de⟩ := rS
     obtain ⟨S', hS'⟩ : ∃ S, sumQ ((pfvs ts).take (k + 1)) = S := ⟨_, rfl⟩
     rw [hS'] at nu de ⊢
     obtain ⟨zS, hzS⟩ : ∃ z, decide (S'.num < 0) = z := ⟨_, rfl⟩
     have rS : RQ w14 (.agg #[.bool zS, .slice pS nS cS, .slice qS mS dS]) S' := ⟨pS, nS, cS, qS, mS, dS, by rw [hzS], nu, de⟩
     rw [hzS]
     have k4 := Hk4.out.below hb14 Hk4.out.lt
     have kT := HkT.out.below hb14 HkT.out.lt
     have rT := HrT.out.below hb14 (Nat.le_refl _)
     have I14 := HI11.out.below hb14
     have s0 := k4.cell 0; have s1 := k4.cell 1; have s2 := k4.cell 2
     have f0 := k4.frozen 0; have f1 := k4.frozen 1; have f2 := k4.frozen 2
     simp only [List.getElem?_toArray, List.getElem?_cons_zero, List.getElem?_cons_succ] at s0 s1 s2
     have I15 := I14.set4 HN.out.1 (by have := HN.out.2; omega) (by have := HN.out.2; omega) k4 rS
     have hT4 : bT ≠ b4 := by have := HN.out.2; omega
     have kT15 : Blk (set3 w14 b4 (.bool zS) (.slice pS nS cS) (.slice qS mS dS)) bT 50 #[.bool zT, .slice pT nT cT, .slice qT mT dT] := ((kT.far (p := ⟨b4, 0, none⟩) (by show bT ≠ b4; exact hT4) _).far (p := ⟨b4, 1, none⟩) (by show bT ≠ b4; exact hT4) _).far (p := ⟨b4, 2, none⟩) (by show bT ≠ b4; exact hT4) _
     have rT15 := rq_set3 rT k4 zS pS nS cS qS mS dS
     have HI15 := Lib.hid I15; have HkT15 := Lib.hid kT15; have HrT15 := Lib.hid rT15; have HS' := Lib.hid hS'
     have hT0 := (kT15.cell 0); have hT1 := (kT15.cell 1); have hT2 := (kT15.cell 2)
     simp only [List.getElem?_toArray, List.getElem?_cons_zero, List.getElem?_cons_succ] at hT0 hT1 hT2
     clear I14 I15 rS nu de hb14 k4 kT rT kT15 rT15 hzS hS' HI11 HkT Hk4 HrT Hr4 t0 t1 t2
     have hT5 : bT ≠ b5 := by have := HN.out.2; omega
     have hT6 : bT ≠ b6 := by have := HN.out.2; omega
     have Hnq : Hid ((L ++ [(⟨bA, pA, nA, cA, qA, mA, dA, X⟩ : Ev)]).map (·.q) = (pfvs ts).take (k + 1)) := Lib.hid (by rw [hnq.out, List.map_append, hq.out]; rfl)
     by_cases hk0 : 0 < k
     · have hkz : ((k : Int) == 0) = false := by simp; omega
       obtain ⟨z5, p5, n5, c5, q5, m5, d5, k5, r5⟩ := HI15.out.least
       have l0 := k5.cell 0; have l1 := k5.cell 1; have l2 := k5.cell 2
       simp only [List.getElem?_toArray, List.getElem?_cons_zero, List.getElem?_cons_succ] at l0 l1 l2
       go_wp2_with fail
       refine (HRC.out (-1) _ _ _ hk0 HrT15.out (r5 hk0)).mono ?_
       rintro e w16 ⟨rfl, hb16⟩
       have I16 := HI15.out.below hb16
       have kT16 := HkT15.out.below hb16 HkT15.out.lt
       have rT16 := HrT15.out.below hb16 (Nat.le_refl _)
       have k5 := k5.below hb16 k5.lt
       have y0 := kT16.cell 0; have y1 := kT16.cell 1; have y2 := kT16.cell 2
       have l0 := k5.cell 0; have l1 := k5.cell 1; have l2 := k5.cell 2
       have g0 := k5.frozen 0; have g1 := k5.frozen 1; have g2 := k5.frozen 2
       simp only [List.getElem?_toArray, List.getElem?_cons_zero, List.getElem?_cons_succ] at y0 y1 y2 l0 l1 l2
       obtain ⟨C1, hC1⟩ : ∃ C, cmpQ X ((bestO (-1) ((pfvs ts).take k)).getD 0) = C := ⟨_, rfl⟩
       rw [hC1]
       clear HI15 HkT15 HrT15 hT0 hT1 hT2 s0 s1 s2 f0 f1 f2
       by_cases hc1 : C1 = -1
       · subst hc1
         have e1 : (bestO (-1) ((pfvs ts).take (k + 1))).getD 0 = X := by rw [Hlo.out, fb_next _ _ (HSq.out hk0).1, if_pos hC1]
         have I17 := I16.set5 (by have := HN.out; omega) (by have := HN.out.2; omega) (by have := HN.out.2; omega) k5 rT16
         have kT17 : Blk (set3 w16 b5 (.bool zT) (.slice pT nT cT) (.slice qT mT dT)) bT 50 #[.bool zT, .slice pT nT cT, .slice qT mT dT] := ((kT16.far (p := ⟨b5, 0, none⟩) (by show bT ≠ b5; exact hT5) _).far (p := ⟨b5, 1, none⟩) (by show bT ≠ b5; exact hT5) _).far (p := ⟨b5, 2, none⟩) (by show bT ≠ b5; exact hT5) _
         have rT17 := rq_set3 rT16 k5 zT pT nT cT qT mT dT
         obtain ⟨z6, p6, n6, c6, q6, m6, d6, k6, r6⟩ := I17.most
         have u0 := k6.cell 0; have u1 := k6.cell 1; have u2 := k6.cell 2
         have t0 := kT17.cell 0; have t1 := kT17.cell 1; have t2 := kT17.cell 2
         simp only [List.getElem?_toArray, List.getElem?_cons_zero, List.getElem?_cons_succ] at u0 u1 u2 t0 t1 t2
         clear I16 rT16 hb16 hC1 k5 r5
         go_wp2_with fail
         refine (HRC.out 1 _ _ _ hk0 rT17 (r6 hk0)).mono ?_
         rintro e w18 ⟨rfl, hb18⟩
         have I18 := I17.below hb18
         have kT18 := kT17.below hb18 kT17.lt
         have rT18 := rT17.below hb18 (Nat.le_refl _)
         have k6 := k6.below hb18 k6.lt
         have v0 := kT18.cell 0; have v1 := kT18.cell 1; have v2 := kT18.cell 2
         have u0 := k6.cell 0; have u1 := k6.cell 1; have u2 := k6.cell 2
         have h0 := k6.frozen 0; have h1 := k6.frozen 1; have h2 := k6.frozen 2
         simp only [List.getElem?_toArray, List.getElem?_cons_zero, List.getElem?_cons_succ] at v0 v1 v2 u0 u1 u2
         obtain ⟨C2, hC2⟩ : ∃ C, cmpQ X ((bestO 1 ((pfvs ts).take k)).getD 0) = C := ⟨_, rfl⟩
         rw [hC2]
         by_cases hc2 : C2 = 1
         · subst hc2
           have e2 : (bestO 1 ((pfvs ts).take (k + 1))).getD 0 = X := by rw [Hhi.out, fb_next _ _ (HSq.out hk0).2, if_pos hC2]
           have I19 := I18.set6 (by have := HN.out; omega) (by have := HN.out.2; omega) (by have := HN.out.2; omega) k6 rT18
           have HIe : Hid (It w2 b4 b5 b6 B vb (L ++ [(⟨bA, pA, nA, cA, qA, mA, dA, X⟩ : Ev)]) (sumQ ((pfvs ts).take (k + 1))) ((bestO (-1) ((pfvs ts).take (k + 1))).getD 0) ((bestO 1 ((pfvs ts).take (k + 1))).getD 0) (0 < k + 1) (0 < k + 1) (set3 w18 b6 (.bool zT) (.slice pT nT cT) (.slice qT mT dT))) := Lib.hid (by
            rw [HS'.out, e1, e2]
            exact I19.weak (fun _ => trivial) (fun _ => trivial))
           clear I18 I19 kT18 rT18 k6 hb18 hC2 e2 r6
           go_wp2_with fail
           go_roundw
           case rel => exact ⟨k + 1, _, by omega, by go_num, Hnq.out, HIe⟩
           case measure => simp [intOf]; omega
         · have e2 : (bestO 1 ((pfvs ts).take (k + 1))).getD 0 = (bestO 1 ((pfvs ts).take k)).getD 0 := by rw [Hhi.out, fb_next _ _ (HSq.out hk0).2, if_neg (by rw [hC2]; exact hc2)]
           have hc3 : ¬ 0 < C2 := by have := cmpQ_cases X ((bestO 1 ((pfvs ts).take k)).getD 0); rw [hC2] at this; omega
           have HIe : Hid (It w2 b4 b5 b6 B vb (L ++ [(⟨bA, pA, nA, cA, qA, mA, dA, X⟩ : Ev)]) (sumQ ((pfvs ts).take (k + 1))) ((bestO (-1) ((pfvs ts).take (k + 1))).getD 0) ((bestO 1 ((pfvs ts).take (k + 1))).getD 0) (0 < k + 1) (0 < k + 1) w18) := Lib.hid (by
            rw [HS'.out, e1, e2]
            exact I18.weak (fun _ => trivial) (fun _ => hk0))
           clear I18 kT18 rT18 k6 hb18 hC2 e2 r6
           go_wp2_with fail
           go_roundw
           case rel => exact ⟨k + 1, _, by omega, by go_num, Hnq.out, HIe⟩
           case measure => simp [intOf]; omega
       · have e1 : (bestO (-1) ((pfvs ts).take (k + 1))).getD 0 = (bestO (-1) ((pfvs ts).take k)).getD 0 := by rw [Hlo.out, fb_next _ _ (HSq.out hk0).1, if_neg (by rw [hC1]; exact hc1)]
         have hc3 : ¬ C1 < 0 := by have := cmpQ_cases X ((bestO (-1) ((pfvs ts).take k)).getD 0); rw [hC1] at this; omega
         obtain ⟨z6, p6, n6, c6, q6, m6, d6, k6, r6⟩ := I16.most
         have u0 := k6.cell 0; have u1 := k6.cell 1; have u2 := k6.cell 2
         simp only [List.getElem?_toArray, List.getElem?_cons_zero, List.getElem?_cons_succ] at u0 u1 u2
         clear hb16 hC1 k5 r5
         go_wp2_with fail
         refine (HRC.out 1 _ _ _ hk0 rT16 (r6 hk0)).mono ?_
         rintro e w18 ⟨rfl, hb18⟩
         have I18 := I16.below hb18
         have kT18 := kT16.below hb18 kT16.lt
         have rT18 := rT16.below hb18 (Nat.le_refl _)
         have k6 := k6.below hb18 k6.lt
         have v0 := kT18.cell 0; have v1 := kT18.cell 1; have v2 := kT18.cell 2
         have u0 := k6.cell 0; have u1 := k6.cell 1; have u2 := k6.cell 2
         have h0 := k6.frozen 0; have h1 := k6.frozen 1; have h2 := k6.frozen 2
         simp only [List.getElem?_toArray, List.getElem?_cons_zero, List.getElem?_cons_succ] at v0 v1 v2 u0 u1 u2
         obtain ⟨C2, hC2⟩ : ∃ C, cmpQ X ((bestO 1 ((pfvs ts).take k)).getD 0) = C := ⟨_, rfl⟩
         rw [hC2]
         by_cases hc2 : C2 = 1
         · subst hc2
           have e2 : (bestO 1 ((pfvs ts).take (k + 1))).getD 0 = X := by rw [Hhi.out, fb_next _ _ (HSq.out hk0).2, if_pos hC2]
           have I19 := I18.set6 (by have := HN.out; omega) (by have := HN.out.2; omega) (by have := HN.out.2; omega) k6 rT18
           have HIe : Hid (It w2 b4 b5 b6 B vb (L ++ [(⟨bA, pA, nA, cA, qA, mA, dA, X⟩ : Ev)]) (sumQ ((pfvs ts).take (k + 1))) ((bestO (-1) ((pfvs ts).take (k + 1))).getD 0) ((bestO 1 ((pfvs ts).take (k + 1))).getD 0) (0 < k + 1) (0 < k + 1) (set3 w18 b6 (.bool zT) (.slice pT nT cT) (.slice qT mT dT))) := Lib.hid (by
            rw [HS'.out, e1, e2]
            exact I19.weak (fun _ => hk0) (fun _ => trivial))
           clear I18 I19 kT18 rT18 k6 hb18 hC2 e2 r6
           go_wp2_with fail
           go_roundw
           case rel => exact ⟨k + 1, _, by omega, by go_num, Hnq.out, HIe⟩
           case measure => simp [intOf]; omega
         · have e2 : (bestO 1 ((pfvs ts).take (k + 1))).getD 0 = (bestO 1 ((pfvs ts).take k)).getD 0 := by rw [Hhi.out, fb_next _ _ (HSq.out hk0).2, if_neg (by rw [hC2]; exact hc2)]
           have hc3 : ¬ 0 < C2 := by have := cmpQ_cases X ((bestO 1 ((pfvs ts).take k)).getD 0); rw [hC2] at this; omega
           have HIe : Hid (It w2 b4 b5 b6 B vb (L ++ [(⟨bA, pA, nA, cA, qA, mA, dA, X⟩ : Ev)]) (sumQ ((pfvs ts).take (k + 1))) ((bestO (-1) ((pfvs ts).take (k + 1))).getD 0) ((bestO 1 ((pfvs ts).take (k + 1))).getD 0) (0 < k + 1) (0 < k + 1) w18) := Lib.hid (by
            rw [HS'.out, e1, e2]
            exact I18.weak (fun _ => hk0) (fun _ => hk0))
           clear I18 kT18 rT18 k6 hb18 hC2 e2 r6
           go_wp2_with fail
           go_roundw
           case rel => exact ⟨k + 1, _, by omega, by go_num, Hnq.out, HIe⟩
           case measure => simp [intOf]; omega
     · obtain rfl : k = 0 := by omega
       obtain ⟨z5, p5, n5, c5, q5, m5, d5, k5, r5⟩ := HI15.out.least
       have I17 := HI15.out.set5 (by have := HN.out; omega) (by have := HN.out.2; omega) (by have := HN.out.2; omega) k5 HrT15.out
       have kT17 : Blk (set3 (set3 w14 b4 (.bool zS) (.slice pS nS cS) (.slice qS mS dS)) b5 (.bool zT) (.slice pT nT cT) (.slice qT mT dT)) bT 50 #[.bool zT, .slice pT nT cT, .slice qT mT dT] := ((HkT15.out.far (p := ⟨b5, 0, none⟩) (by show bT ≠ b5; exact hT5) _).far (p := ⟨b5, 1, none⟩) (by show bT ≠ b5; exact hT5) _).far (p := ⟨b5, 2, none⟩) (by show bT ≠ b5; exact hT5) _
       have rT17 := rq_set3 HrT15.out k5 zT pT nT cT qT mT dT
       obtain ⟨z6, p6, n6, c6, q6, m6, d6, k6, r6⟩ := I17.most
       have I19 := I17.set6 (by have := HN.out; omega) (by have := HN.out.2; omega) (by have := HN.out.2; omega) k6 rT17
       have l0 := k5.cell 0; have l1 := k5.cell 1; have l2 := k5.cell 2
       have g0 := k5.frozen 0; have g1 := k5.frozen 1; have g2 := k5.frozen 2
       have u0 := k6.cell 0; have u1 := k6.cell 1; have u2 := k6.cell 2
       have h0 := k6.frozen 0; have h1 := k6.frozen 1; have h2 := k6.frozen 2
       have v0 := kT17.cell 0; have v1 := kT17.cell 1; have v2 := kT17.cell 2
       simp only [List.getElem?_toArray, List.getElem?_cons_zero, List.getElem?_cons_succ] at l0 l1 l2 u0 u1 u2 v0 v1 v2
       have e1 : (bestO (-1) ((pfvs ts).take (0 + 1))).getD 0 = X := by rw [Hlo.out]; rfl
       have e2 : (bestO 1 ((pfvs ts).take (0 + 1))).getD 0 = X := by rw [Hhi.out]; rfl
       have HIe : Hid (It w2 b4 b5 b6 B vb (L ++ [(⟨bA, pA, nA, cA, qA, mA, dA, X⟩ : Ev)]) (sumQ ((pfvs ts).take (0 + 1))) ((bestO (-1) ((pfvs ts).take (0 + 1))).getD 0) ((bestO 1 ((pfvs ts).take (0 + 1))).getD 0) (0 < 0 + 1) (0 < 0 + 1) (set3 (set3 (set3 w14 b4 (.bool zS) (.slice pS nS cS) (.slice qS mS dS)) b5 (.bool zT) (.slice pT nT cT) (.slice qT mT dT)) b6 (.bool zT) (.slice pT nT cT) (.slice qT mT dT))) := Lib.hid (by
        rw [HS'.out, e1, e2]
        exact I19.weak (fun _ => trivial) (fun _ => trivial))
       clear I17 I19 kT17 rT17 k5 k6 r5 r6 e1 e2
       go_wp2_with fail
       go_roundw
       case rel => exact ⟨0 + 1, _, by omega, by go_num, Hnq.out, HIe⟩
       case measure => simp [intOf]; omega
   · obtain rfl : k = m := by omega
     have hi1 : ¬ (k : Int) < (k : Int) := by omega
     have hfull : (pfvs ts).take k = pfvs ts := List.take_of_length_le (by unfold pfvs; rw [List.length_map, Hm.out]; exact Nat.le_refl _)
     have hq' := hq.out
     have hI' := hI.out
     rw [hfull] at hq' hI'
     have hLk : L.length = k := by
      have := congrArg List.length hq'
      unfold pfvs at this
      rw [List.length_map, List.length_map, Hm.out] at this
      exact this
     obtain ⟨ra, rc, rfl, hER⟩ := er_row hI'.row
     have HLk := Lib.hid hLk
     have HER := Lib.hid hER
     have HNum := Lib.hid hI'.num
     have HI := Lib.hid hI'
     have HBe := Lib.hid (big_each hq' HSz.out)
     have HBs := Lib.hid (big_sum hq' HRm.out (by rw [Hm.out]; exact hfew))
     have HTBr : Hid (∀ W, Below wr.heap.size wr W → TabB W) := Lib.hid (fun W h => HTB.out W (HB2.out.trans ((hI'.bel.trans (h.mono hI'.bel.size)).mono HB2.out.size)))
     have HTbr : Hid (∀ W, Below wr.heap.size wr W → Tab W) := Lib.hid (fun W h => HTab.out W (HB2.out.trans ((hI'.bel.trans (h.mono hI'.bel.size)).mono HB2.out.size)))
     have HFin : Hid (∀ W, Below wr.heap.size wr W → Below w.heap.size w W) := Lib.hid (fun W h => HB2.out.trans ((hI'.bel.trans (h.mono hI'.bel.size)).mono HB2.out.size))
     have HE : Hid (∀ W, Calls Tryz.prog 47 #[.slice ra L.length rc, .pointer (some ⟨wr.heap.size, 0, none⟩)] W fun e w' => e = .returned (.func (.func 87) #[] #[.pointer (some ⟨W.heap.size, 0, none⟩), .pointer (some ⟨W.heap.size + 1, 0, none⟩)]) ∧
      (W.alloc (.cells #[.slice ra L.length rc] 65)).alloc (.cells #[.pointer (some ⟨wr.heap.size, 0, none⟩)] 69) = w') := Lib.hid (fun W => qeach_fn ra L.length rc wr.heap.size W)
     have hq9 := Lib.hid hq'
     have V0 := Tl.new wr
     obtain ⟨Wn, hWn⟩ : ∃ W, wr.alloc (.cells #[.int .i64 0] 3) = W := ⟨_, rfl⟩
     rw [hWn] at V0
     have HWn := Lib.hid hWn
     clear hWn
     clear hq hI hfull hq' hI' hER hLk
     go_wp2_with fail
     rw [HWn.out]
     refine (HE.out _).mono ?_
     rintro e wa ⟨rfl, rfl⟩
     go_wp2_with fail
     refine (tail_sum V0 (by omega) (by omega) (by rw [HLk.out]; omega) HER.out HNum.out HBs.out HTBr.out).mono ?_
     rintro e w20 ⟨v, rfl, vS, V20⟩
     obtain ⟨pS, nS, cS, qS, mS, dS, rfl, nu, de⟩ := vS
     obtain ⟨zS, hzS⟩ : ∃ z, decide ((sumQ (L.map (·.q))).num < 0) = z := ⟨_, rfl⟩
     have vS : IsR w20 (.agg #[.bool zS, .slice pS nS cS, .slice qS mS dS]) (sumQ (L.map (·.q))) := ⟨pS, nS, cS, qS, mS, dS, by rw [hzS], nu, de⟩
     rw [hzS]
     have V1 := V20.add vS
     obtain ⟨W1, hW1⟩ : ∃ W, w20.alloc (.cells #[.bool zS, .slice pS nS cS, .slice qS mS dS] 28) = W := ⟨_, rfl⟩
     obtain ⟨bS, hbS⟩ : ∃ b, w20.heap.size = b := ⟨_, rfl⟩
     rw [hW1, hbS] at V1
     have HW1 := Lib.hid hW1; have HbS := Lib.hid hbS
     clear V0 vS nu de hzS V20 hW1 hbS
     go_wp2_with fail
     rw [HW1.out, HbS.out]
     refine (HE.out _).mono ?_
     rintro e wb ⟨rfl, rfl⟩
     go_wp2_with fail
     refine (tail_least V1 (by omega) (by rw [HLk.out]; omega) (by rw [HLk.out]; omega) HER.out HNum.out HBe.out).mono ?_
     rintro e w21 ⟨v, rfl, vS, V21⟩
     obtain ⟨pP, nP, cP, qP, mP, dP, rfl, nu, de⟩ := vS
     obtain ⟨zP, hzP⟩ : ∃ z, decide (((bestO (-1) (L.map (·.q))).getD 0).num < 0) = z := ⟨_, rfl⟩
     have vS : IsR w21 (.agg #[.bool zP, .slice pP nP cP, .slice qP mP dP]) ((bestO (-1) (L.map (·.q))).getD 0) := ⟨pP, nP, cP, qP, mP, dP, by rw [hzP], nu, de⟩
     rw [hzP]
     have V2 := V21.add vS
     obtain ⟨W2, hW2⟩ : ∃ W, w21.alloc (.cells #[.bool zP, .slice pP nP cP, .slice qP mP dP] 28) = W := ⟨_, rfl⟩
     obtain ⟨bP, hbP⟩ : ∃ b, w21.heap.size = b := ⟨_, rfl⟩
     rw [hW2, hbP] at V2
     have HW2 := Lib.hid hW2; have HbP := Lib.hid hbP
     obtain ⟨ok, hok⟩ : ∃ z, (bestO (-1) (L.map (·.q))).isSome = z := ⟨_, rfl⟩
     rw [hok]
     have Hok := Lib.hid hok
     clear V1 vS nu de hzP V21 hW2 hbP hok
     go_wp2_with fail
     rw [HW2.out, HbP.out]
     refine (HE.out _).mono ?_
     rintro e wc ⟨rfl, rfl⟩
     go_wp2_with fail
     refine (tail_most V2 (by omega) (by rw [HLk.out]; omega) (by rw [HLk.out]; omega) HER.out HNum.out HBe.out).mono ?_
     rintro e w22 ⟨v, rfl, vS, V22⟩
     obtain ⟨pQ, nQ, cQ, qQ, mQ, dQ, rfl, nu, de⟩ := vS
     obtain ⟨zQ, hzQ⟩ : ∃ z, decide (((bestO 1 (L.map (·.q))).getD 0).num < 0) = z := ⟨_, rfl⟩
     have vS : IsR w22 (.agg #[.bool zQ, .slice pQ nQ cQ, .slice qQ mQ dQ]) ((bestO 1 (L.map (·.q))).getD 0) := ⟨pQ, nQ, cQ, qQ, mQ, dQ, by rw [hzQ], nu, de⟩
     rw [hzQ]
     have V3 := V22.add vS
     obtain ⟨W3, hW3⟩ : ∃ W, w22.alloc (.cells #[.bool zQ, .slice pQ nQ cQ, .slice qQ mQ dQ] 28) = W := ⟨_, rfl⟩
     obtain ⟨bQ, hbQ⟩ : ∃ b, w22.heap.size = b := ⟨_, rfl⟩
     rw [hW3, hbQ] at V3
     have HW3 := Lib.hid hW3; have HbQ := Lib.hid hbQ
     obtain ⟨is, his⟩ : ∃ z, (bestO 1 (L.map (·.q))).isSome = z := ⟨_, rfl⟩
     rw [his]
     have His := Lib.hid his
     obtain ⟨T, hT⟩ : ∃ T : Int, T = 3 * (k : Int) := ⟨_, rfl⟩
     have et : (0 : Int) + (L.length : Int) + (L.length : Int) + (L.length : Int) = 3 * (k : Int) := by rw [HLk.out]; omega
     rw [et, hq9.out] at V3
     have szl := fun side => best_all side HSz.out
     have szm := sum_all ts
     have hrm := HRm.out; have hmm := Hm.out
     have HS1 : Hid (∀ W va vb, Below wr.heap.size wr W → IsR W va (sumQ (pfvs ts)) → RQ W vb (sumQ (pfvs ts)) → Calls Tryz.prog 30 #[va, vb] W fun e w' => e = .returned (.bool true) ∧ Below W.heap.size W w') := Lib.hid (fun W va vb hW h1 h2 => same_yes _ va vb W h1 h2 (szm.words (by omega)) (szm.digs (by omega)) (HTbr.out W hW))
     have HS2 : Hid (∀ side W va vb, Below wr.heap.size wr W → IsR W va ((bestO side (pfvs ts)).getD 0) → RQ W vb ((bestO side (pfvs ts)).getD 0) → Calls Tryz.prog 30 #[va, vb] W fun e w' => e = .returned (.bool true) ∧ Below W.heap.size W w') := Lib.hid (fun side W va vb hW h1 h2 => same_yes _ va vb W h1 h2 ((szl side).words (by omega)) ((szl side).digs (by omega)) (HTbr.out W hW))
     have ht0 : tx 0 = ⟨#[48]⟩ := by decide +kernel
     have HT0 : Hid (∀ W, Below wr.heap.size wr W → Calls Tryz.prog 13 #[.agg #[.bool false, .slice none 0 0, .slice none 0 0]] W fun e w' => e = .returned (.string ⟨#[48]⟩) ∧ Below W.heap.size W w') := Lib.hid (fun W hB => by
      have := text_r 0 _ W (isR_zero W) (sz_zero 100 (by omega)) (HTbr.out W hB)
      rwa [ht0] at this)
     obtain ⟨yS, aS, bS1, cS1, aS', bS', cS', kS, iS⟩ := (V3.box bS (sumQ (pfvs ts)) (by simp)).1
     have I3 := HI.out.below V3.wr
     obtain ⟨z4, p4, n4, c4, q4, m4, d4, k4, r4⟩ := I3.sum
     have s0 := kS.cell 0; have s1 := kS.cell 1; have s2 := kS.cell 2
     have u0 := k4.cell 0; have u1 := k4.cell 1; have u2 := k4.cell 2
     simp only [List.getElem?_toArray, List.getElem?_cons_zero, List.getElem?_cons_succ] at s0 s1 s2 u0 u1 u2
     rw [← hW3] at s0 s1 s2 u0 u1 u2
     have hiS := Lib.hid iS; have hr4 := Lib.hid (r4 trivial); have HV3 := Lib.hid V3
     clear V2 vS nu de hzQ V22 hW3 hbQ his szl szm hrm hmm V3 iS r4 kS k4 I3 hT ht0
     go_wp2_with fail
     simp only [HW3.out, HbQ.out]
     refine (HS1.out W3 _ _ HV3.out.wr hiS.out hr4.out).mono ?_
     rintro e w24 ⟨rfl, hb24⟩
     have V4 := HV3.out.below hb24
     have n0 := V4.cnt.cell 0
     simp only [List.getElem?_toArray, List.getElem?_cons_zero] at n0
     have HV4 := Lib.hid V4
     clear hb24 V4 HV3 hiS hr4 s0 s1 s2 u0 u1 u2
     by_cases hk0 : 0 < k
     · have hkp : (0 : Int) < (k : Int) := by omega
       obtain rfl : ok = true := by rw [← Hok.out, hq9.out]; exact best_pos _ (by rw [Hm.out]; exact hk0)
       obtain rfl : is = true := by rw [← His.out, hq9.out]; exact best_pos _ (by rw [Hm.out]; exact hk0)
       go_wp2_with fail
       refine (qsum_nil w24).mono ?_
       rintro e w25 ⟨rfl, hb25⟩
       have HV5 := Lib.hid (HV4.out.below hb25)
       clear hb25 HV4 n0
       go_wp2_with fail
       refine (HT0.out w25 HV5.out.wr).mono ?_
       rintro e w26 ⟨rfl, hb26⟩
       have HV6 := Lib.hid (HV5.out.below hb26)
       obtain ⟨yP, aP, lP, gP, aP', lP', gP', kP, iP⟩ := (HV6.out.box bP ((bestO (-1) (pfvs ts)).getD 0) (by simp)).1
       obtain ⟨z5, p5, n5, c5, q5, m5, d5, k5, r5⟩ := (HI.out.below HV6.out.wr).least
       have s0 := kP.cell 0; have s1 := kP.cell 1; have s2 := kP.cell 2
       have u0 := k5.cell 0; have u1 := k5.cell 1; have u2 := k5.cell 2
       simp only [List.getElem?_toArray, List.getElem?_cons_zero, List.getElem?_cons_succ] at s0 s1 s2 u0 u1 u2
       have hiP := Lib.hid iP; have hr5 := Lib.hid (r5 hk0)
       clear hb26 HV5 kP iP k5 r5
       go_wp2_with fail
       refine (HS2.out (-1) w26 _ _ HV6.out.wr hiP.out hr5.out).mono ?_
       rintro e w27 ⟨rfl, hb27⟩
       have HV7 := Lib.hid (HV6.out.below hb27)
       obtain ⟨yQ, aQ, lQ, gQ, aQ', lQ', gQ', kQ, iQ⟩ := (HV7.out.box bQ ((bestO 1 (pfvs ts)).getD 0) (by simp)).1
       obtain ⟨z6, p6, n6, c6, q6, m6, d6, k6, r6⟩ := (HI.out.below HV7.out.wr).most
       clear s0 s1 s2 u0 u1 u2
       have s0 := kQ.cell 0; have s1 := kQ.cell 1; have s2 := kQ.cell 2
       have u0 := k6.cell 0; have u1 := k6.cell 1; have u2 := k6.cell 2
       simp only [List.getElem?_toArray, List.getElem?_cons_zero, List.getElem?_cons_succ] at s0 s1 s2 u0 u1 u2
       have hiQ := Lib.hid iQ; have hr6 := Lib.hid (r6 hk0)
       clear hb27 HV6 hiP hr5 kQ iQ k6 r6
       go_wp2_with fail
       refine (HS2.out 1 w27 _ _ HV7.out.wr hiQ.out hr6.out).mono ?_
       rintro e w28 ⟨rfl, hb28⟩
       have HF := Lib.hid (HFin.out _ (HV7.out.below hb28).wr)
       clear hb28 HV7 hiQ hr6 s0 s1 s2 u0 u1 u2
       go_wp2_with fail
       go_ret
       exact ⟨rfl, HF.out⟩
     · have hkp : ¬ (0 : Int) < (k : Int) := by omega
       obtain rfl : k = 0 := by omega
       obtain rfl : ok = false := by rw [← Hok.out, hq9.out]; exact best_nil _ Hm.out
       obtain rfl : is = false := by rw [← His.out, hq9.out]; exact best_nil _ Hm.out
       go_wp2_with fail
       refine (qsum_nil w24).mono ?_
       rintro e w25 ⟨rfl, hb25⟩
       have HV5 := Lib.hid (HV4.out.below hb25)
       clear hb25 HV4 n0
       go_wp2_with fail
       refine (HT0.out w25 HV5.out.wr).mono ?_
       rintro e w26 ⟨rfl, hb26⟩
       have HF := Lib.hid (HFin.out _ (HV5.out.below hb26).wr)
       clear hb26 HV5
       go_wp2_with fail
       go_ret
       exact ⟨rfl, HF.out⟩
end Go.Proofs.YtllmacokhjmdgaaGreatDoor
