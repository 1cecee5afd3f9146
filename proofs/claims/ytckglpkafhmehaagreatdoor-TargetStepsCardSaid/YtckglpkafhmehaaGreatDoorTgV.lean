/-
  Law 17: what a target makes of a text; whether it may be.
-/
import Derived.Test.YtckglpkafhmehaaGreatDoorTgA
namespace Go.Proofs.YtckglpkafhmehaaGreatDoor
open Go.RowKit
set_option linter.unusedVariables false
noncomputable def ok4 (mn mx fa co : ByteArray) : Bool := okt mn && (okt mx && (okt fa && okt co))
/-- What Apply tells. -/
noncomputable def apT (mn mx fa co : ByteArray) (ca : Int) (num : ByteArray) : ByteArray :=
  if oc (pq num) = 0 ∧ ok4 mn mx fa co = true then tx (apv ((pq num).getD 0) (qv mn 0) (qv mx 0) (qv fa 1) (qv co 0) (!mn.toList.isEmpty) (!mx.toList.isEmpty) ca) else ⟨#[]⟩
theorem oc_two (o : Option Rat) : oc o = 0 ∨ oc o = 3 := by cases o with | none => exact Or.inr rfl | some x => exact Or.inl rfl
set_option maxRecDepth 100000 in
set_option maxHeartbeats 16000000 in
theorem app_any2 (mn mx fa co num : ByteArray) (ca : Int) (w : World) (htab : Tab w) (htb : TabB w) (h1 : mn.size ≤ 640) (h2 : mx.size ≤ 640) (h3 : fa.size ≤ 640) (h4 : co.size ≤ 640) (h5 : ∀ W, TabB W → Calls Tryz.prog 9 #[.string num] W (GotQ (pq num) W)) (k k3 k4 : Nat) (hX : Sz k ((pq num).getD 0)) (hL : Sz k (qv mn 0)) (hM : Sz k (qv mx 0)) (hF : Sz k3 (qv fa 1)) (hC : Sz k4 (qv co 0)) (hk : k + k3 + k4 ≤ 39) (hk1 : 1 ≤ k) :
    Calls Tryz.prog 6 #[.agg #[.string mn, .string mx, .string fa, .string co, .int .i64 ca], .string num] w fun e w' => e = .returned (.string (apT mn mx fa co ca num)) ∧ Below w.heap.size w w' := by
  have HP : Hid (∀ W, Below w.heap.size w W → Calls Tryz.prog 9 #[.string num] W fun e w' => ∃ b x y z x' y' z', e = .returned (.tuple #[.agg #[.bool b, .slice x y z, .slice x' y' z'], .int .i64 (oc (pq num))]) ∧ IsR w' (.agg #[.bool b, .slice x y z, .slice x' y' z']) ((pq num).getD 0) ∧ Below W.heap.size W w') := Lib.hid (fun W hB => h5 W (htb.below hB (Nat.le_refl _)))
  have HRd : Hid (∀ W, Below w.heap.size w W → Calls Tryz.prog 10 #[.agg #[.string mn, .string mx, .string fa, .string co, .int .i64 ca]] W (ReadIs mn mx fa co W)) := Lib.hid (fun W hB => tread_any mn mx fa co ca W (htb.below hB (Nat.le_refl _)) h1 h2 h3 h4)
  obtain ⟨X, hXe⟩ : ∃ X, (pq num).getD 0 = X := ⟨_, rfl⟩
  obtain ⟨L, hLe⟩ : ∃ X, qv mn 0 = X := ⟨_, rfl⟩
  obtain ⟨M, hMe⟩ : ∃ X, qv mx 0 = X := ⟨_, rfl⟩
  obtain ⟨F, hFe⟩ : ∃ X, qv fa 1 = X := ⟨_, rfl⟩
  obtain ⟨C, hCe⟩ : ∃ X, qv co 0 = X := ⟨_, rfl⟩
  obtain ⟨KN, hKN⟩ : ∃ k, oc (pq num) = k := ⟨_, rfl⟩
  obtain ⟨OK, hOK⟩ : ∃ o, ok4 mn mx fa co = o := ⟨_, rfl⟩
  obtain ⟨il, hil⟩ : ∃ b, (!mn.toList.isEmpty) = b := ⟨_, rfl⟩
  obtain ⟨im, him⟩ : ∃ b, (!mx.toList.isEmpty) = b := ⟨_, rfl⟩
  have hKN2 : KN = 0 ∨ KN = 3 := by rw [← hKN]; exact oc_two _
  have hRs : Hid (apT mn mx fa co ca num = if KN = 0 ∧ OK = true then tx (apv X L M F C il im ca) else ⟨#[]⟩) := Lib.hid (by unfold apT; rw [hXe, hLe, hMe, hFe, hCe, hKN, hOK, hil, him])
  unfold ReadIs at HRd
  unfold ok4 at hOK
  rw [hXe] at hX
  rw [hLe] at hL
  rw [hMe] at hM
  rw [hFe] at hF
  rw [hCe] at hC
  simp only [hXe, hKN] at HP
  simp only [hOK, hil, him, hLe, hMe, hFe, hCe] at HRd
  obtain ⟨TT, hTT⟩ : ∃ T, apT mn mx fa co ca num = T := ⟨_, rfl⟩
  rw [hTT] at hRs ⊢
  have HAp : Hid (∀ W (za : Bool) (pa : Option Addr) (na ka : Nat) (qa : Option Addr) (ma da : Nat) (zb : Bool) (pb : Option Addr) (nb kb : Nat) (qb : Option Addr) (mb db : Nat) (zc : Bool) (pc : Option Addr) (nc kc : Nat) (qc : Option Addr) (mc dc : Nat) (ze : Bool) (pe : Option Addr) (ne ke : Nat) (qe : Option Addr) (me de : Nat) (zr : Bool) (pr : Option Addr) (nr kr : Nat) (qr : Option Addr) (mr dr : Nat), Below w.heap.size w W → IsR W (.agg #[.bool zr, .slice pr nr kr, .slice qr mr dr]) X → IsR W (.agg #[.bool za, .slice pa na ka, .slice qa ma da]) L → IsR W (.agg #[.bool zb, .slice pb nb kb, .slice qb mb db]) M → IsR W (.agg #[.bool zc, .slice pc nc kc, .slice qc mc dc]) F → IsR W (.agg #[.bool ze, .slice pe ne ke, .slice qe me de]) C → Calls Tryz.prog 11 #[.agg #[.bool za, .slice pa na ka, .slice qa ma da, .bool zb, .slice pb nb kb, .slice qb mb db, .bool zc, .slice pc nc kc, .slice qc mc dc, .bool ze, .slice pe ne ke, .slice qe me de, .bool il, .bool im], .agg #[.bool zr, .slice pr nr kr, .slice qr mr dr], .int .i64 ca] W (GaveR (apv X L M F C il im ca) W)) := Lib.hid (fun W za pa na ka qa ma da zb pb nb kb qb mb db zc pc nc kc qc mc dc ze pe ne ke qe me de zr pr nr kr qr mr dr hB r1 r2 r3 r4 r5 => apply_any X L M F C ca il im W (htb.below hB (Nat.le_refl _)) k k3 k4 hX hL hM hF hC hk hk1 r1 r2 r3 r4 r5)
  have hSz : Sz 100 (apv X L M F C il im ca) := by
    have s1 : Sz k (clm im M (cll il L X)) := by
      unfold clm
      split
      · exact hM
      · unfold cll
        split <;> assumption
    have s2 : Sz 40 (clm im M (cll il L X) * F + C) := (sz_add (sz_mul s1 hF) hC).mono (by omega)
    unfold apv cst
    generalize clm im M (cll il L X) * F + C = Y at *
    split
    · exact (sz_rnd s2 (by omega)).mono (by omega)
    · split
      · rw [Rat.ceil_eq_neg_floor_neg, Rat.intCast_neg]
        exact sz_neg ((sz_floor (sz_neg s2) (by omega)).mono (by omega))
      · split
        · exact (sz_floor s2 (by omega)).mono (by omega)
        · exact s2.mono (by omega)
  have HTx : Hid (∀ W v, Below w.heap.size w W → IsR W v (apv X L M F C il im ca) → Calls Tryz.prog 12 #[v] W fun e w' => e = .returned (.string (tx (apv X L M F C il im ca))) ∧ Below W.heap.size W w') := Lib.hid (fun W v hB h => text_r _ v W h hSz (htab.below hB (Nat.le_refl _)))
  obtain ⟨R, hR⟩ : ∃ R, apv X L M F C il im ca = R := ⟨_, rfl⟩
  rw [hR] at HAp HTx hRs
  have V0 := (Mq.refl w).alloc 25 #[.string mn, .string mx, .string fa, .string co, .int .i64 ca]
  clear htab htb h1 h2 h3 h4 h5 hX hL hM hF hC hk hk1 hXe hLe hMe hFe hCe hKN hOK hil him hTT hSz hR
  have c0 := V0.tg0 0 rfl; have c1 := V0.tg1 0 rfl; have c2 := V0.tg2 0 rfl; have c3 := V0.tg3 0 rfl; have c4 := V0.tg4 0 rfl
  go_enter Tryz.func6, Tryz.ntmps6
  go_wp2_with fail
  refine (HP.out _ V0.bel).mono ?_
  rintro e w1 ⟨zr, pr, nr, kr, qr, mr, dr, rfl, hr, hb⟩
  have V1 := ((V0.below hb).rcons hr).alloc 33 #[.bool zr, .slice pr nr kr, .slice qr mr dr]
  clear V0 hb hr HP c0 c1 c2 c3 c4
  have c0 := V1.tg0 1 rfl; have c1 := V1.tg1 1 rfl; have c2 := V1.tg2 1 rfl; have c3 := V1.tg3 1 rfl; have c4 := V1.tg4 1 rfl
  go_wp2_with fail
  refine (HRd.out _ V1.bel).mono ?_
  rintro e w2 ⟨za, pa, na, ka, qa, ma, da, zb, pb, nb, kb, qb, mb, db, zc, pc, nc, kc, qc, mc, dc, ze, pe, ne, ke, qe, me, de, rfl, hIs, hb⟩
  have V2 := (V1.below hb).alloc 38 #[.bool za, .slice pa na ka, .slice qa ma da, .bool zb, .slice pb nb kb, .slice qb mb db, .bool zc, .slice pc nc kc, .slice qc mc dc, .bool ze, .slice pe ne ke, .slice qe me de, .bool il, .bool im]
  clear V1 hb HRd c0 c1 c2 c3 c4
  have HIs : Hid (OK = true → IsR (w2.alloc (.cells #[.bool za, .slice pa na ka, .slice qa ma da, .bool zb, .slice pb nb kb, .slice qb mb db, .bool zc, .slice pc nc kc, .slice qc mc dc, .bool ze, .slice pe ne ke, .slice qe me de, .bool il, .bool im] 38)) (.agg #[.bool za, .slice pa na ka, .slice qa ma da]) L ∧ IsR (w2.alloc (.cells #[.bool za, .slice pa na ka, .slice qa ma da, .bool zb, .slice pb nb kb, .slice qb mb db, .bool zc, .slice pc nc kc, .slice qc mc dc, .bool ze, .slice pe ne ke, .slice qe me de, .bool il, .bool im] 38)) (.agg #[.bool zb, .slice pb nb kb, .slice qb mb db]) M ∧ IsR (w2.alloc (.cells #[.bool za, .slice pa na ka, .slice qa ma da, .bool zb, .slice pb nb kb, .slice qb mb db, .bool zc, .slice pc nc kc, .slice qc mc dc, .bool ze, .slice pe ne ke, .slice qe me de, .bool il, .bool im] 38)) (.agg #[.bool zc, .slice pc nc kc, .slice qc mc dc]) F ∧ IsR (w2.alloc (.cells #[.bool za, .slice pa na ka, .slice qa ma da, .bool zb, .slice pb nb kb, .slice qb mb db, .bool zc, .slice pc nc kc, .slice qc mc dc, .bool ze, .slice pe ne ke, .slice qe me de, .bool il, .bool im] 38)) (.agg #[.bool ze, .slice pe ne ke, .slice qe me de]) C) := Lib.hid (fun h => by
    obtain ⟨j1, j2, j3, j4⟩ := hIs h
    have hb := below_lit w2 (.cells #[.bool za, .slice pa na ka, .slice qa ma da, .bool zb, .slice pb nb kb, .slice qb mb db, .bool zc, .slice pc nc kc, .slice qc mc dc, .bool ze, .slice pe ne ke, .slice qe me de, .bool il, .bool im] 38)
    exact ⟨j1.below hb (Nat.le_refl _), j2.below hb (Nat.le_refl _), j3.below hb (Nat.le_refl _), j4.below hb (Nat.le_refl _)⟩)
  clear hIs
  rcases hKN2 with rfl | rfl
  · cases OK with
    | false =>
      have HB := Lib.hid V2.bel
      clear V2
      go_wp2_with fail
      go_ret
      exact ⟨by rw [hRs.out, if_neg (by simp)]; rfl, HB.out⟩
    | true =>
      obtain ⟨j1, j2, j3, j4⟩ := HIs.out rfl
      have HJ := Lib.hid (And.intro j1 (And.intro j2 (And.intro j3 j4)))
      clear j1 j2 j3 j4 HIs
      have a0 := V2.c0 1 rfl; have a1 := V2.c1 1 rfl; have a2 := V2.c2 1 rfl
      have t4 := V2.tg4 2 rfl
      have p0 := V2.p0 0 rfl; have p1 := V2.p1 0 rfl; have p2 := V2.p2 0 rfl; have p3 := V2.p3 0 rfl; have p4 := V2.p4 0 rfl; have p5 := V2.p5 0 rfl; have p6 := V2.p6 0 rfl; have p7 := V2.p7 0 rfl; have p8 := V2.p8 0 rfl; have p9 := V2.p9 0 rfl; have p10 := V2.p10 0 rfl; have p11 := V2.p11 0 rfl; have p12 := V2.p12 0 rfl; have p13 := V2.p13 0 rfl
      go_wp2_with fail
      refine (HAp.out _ _ _ _ _ _ _ _ _ _ _ _ _ _ _ _ _ _ _ _ _ _ _ _ _ _ _ _ _ _ _ _ _ _ _ _ V2.bel (V2.rat 0 _ _ rfl) HJ.out.1 HJ.out.2.1 HJ.out.2.2.1 HJ.out.2.2.2).mono ?_
      rintro e w3 ⟨v, rfl, hr, hb⟩
      have V3 := V2.below hb
      clear V2 hb HAp HJ a0 a1 a2 t4 p0 p1 p2 p3 p4 p5 p6 p7 p8 p9 p10 p11 p12 p13
      go_wp2_with fail
      refine (HTx.out _ _ V3.bel hr).mono ?_
      rintro e w4 ⟨rfl, hb⟩
      have HB := Lib.hid (V3.below hb).bel
      clear V3 hb hr HTx
      go_wp2_with fail
      go_ret
      exact ⟨by rw [hRs.out, if_pos (by simp)]; rfl, HB.out⟩
  · have HB := Lib.hid V2.bel
    clear V2
    go_wp2_with fail
    go_ret
    exact ⟨by rw [hRs.out, if_neg (by rintro ⟨h, -⟩; exact absurd h (by decide))]; rfl, HB.out⟩
theorem app_any (mn mx fa co num : ByteArray) (ca : Int) (w : World) (htab : Tab w) (htb : TabB w) (h1 : mn.size ≤ 640) (h2 : mx.size ≤ 640) (h3 : fa.size ≤ 640) (h4 : co.size ≤ 640) (h5 : num.size ≤ 640) (k k3 k4 : Nat) (hX : Sz k ((pq num).getD 0)) (hL : Sz k (qv mn 0)) (hM : Sz k (qv mx 0)) (hF : Sz k3 (qv fa 1)) (hC : Sz k4 (qv co 0)) (hk : k + k3 + k4 ≤ 39) (hk1 : 1 ≤ k) :
    Calls Tryz.prog 6 #[.agg #[.string mn, .string mx, .string fa, .string co, .int .i64 ca], .string num] w fun e w' => e = .returned (.string (apT mn mx fa co ca num)) ∧ Below w.heap.size w w' :=
  app_any2 mn mx fa co num ca w htab htb h1 h2 h3 h4 (fun W h => parse_r num W h5 h) k k3 k4 hX hL hM hF hC hk hk1
/-- May a target be? -/
noncomputable def vld (mn mx fa co : ByteArray) (ca : Int) : Bool := ok4 mn mx fa co && (decide (0 ≤ ca) && (decide (ca ≤ 3) && (mn.toList.isEmpty || (mx.toList.isEmpty || decide (¬ qv mx 0 < qv mn 0)))))
set_option maxRecDepth 100000 in
set_option maxHeartbeats 16000000 in
theorem valid_any (mn mx fa co : ByteArray) (ca : Int) (w : World) (htb : TabB w) (h1 : mn.size ≤ 640) (h2 : mx.size ≤ 640) (h3 : fa.size ≤ 640) (h4 : co.size ≤ 640) (hL : Sz 50 (qv mn 0)) (hM : Sz 50 (qv mx 0)) :
    Calls Tryz.prog 7 #[.agg #[.string mn, .string mx, .string fa, .string co, .int .i64 ca]] w fun e w' => e = .returned (.bool (vld mn mx fa co ca)) ∧ Below w.heap.size w w' := by
  have HRd : Hid (∀ W, Below w.heap.size w W → Calls Tryz.prog 10 #[.agg #[.string mn, .string mx, .string fa, .string co, .int .i64 ca]] W (ReadIs mn mx fa co W)) := Lib.hid (fun W hB => tread_any mn mx fa co ca W (htb.below hB (Nat.le_refl _)) h1 h2 h3 h4)
  obtain ⟨L, hLe⟩ : ∃ X, qv mn 0 = X := ⟨_, rfl⟩
  obtain ⟨M, hMe⟩ : ∃ X, qv mx 0 = X := ⟨_, rfl⟩
  obtain ⟨OK, hOK⟩ : ∃ o, ok4 mn mx fa co = o := ⟨_, rfl⟩
  obtain ⟨il, hil⟩ : ∃ b, (!mn.toList.isEmpty) = b := ⟨_, rfl⟩
  obtain ⟨im, him⟩ : ∃ b, (!mx.toList.isEmpty) = b := ⟨_, rfl⟩
  have hil2 : mn.toList.isEmpty = !il := by rw [← hil]; simp
  have him2 : mx.toList.isEmpty = !im := by rw [← him]; simp
  have hRs : Hid (vld mn mx fa co ca = (OK && (decide (0 ≤ ca) && (decide (ca ≤ 3) && (!il || (!im || decide (¬ M < L))))))) := Lib.hid (by unfold vld; rw [hOK, hil2, him2, hLe, hMe])
  unfold ReadIs at HRd
  unfold ok4 at hOK
  rw [hLe] at hL
  rw [hMe] at hM
  simp only [hOK, hil, him, hLe, hMe] at HRd
  obtain ⟨VV, hVV⟩ : ∃ T, vld mn mx fa co ca = T := ⟨_, rfl⟩
  rw [hVV] at hRs ⊢
  have HCm : Hid (∀ W va vb, IsR W va L → IsR W vb M → Calls Tryz.prog 13 #[va, vb] W fun e w' => e = .returned (.int .i64 (cmpQ L M)) ∧ Below W.heap.size W w') := Lib.hid (fun W va vb h1 h2 => cmpr_any L M va vb W h1 h2 hL hM)
  have V0 := (Mq.refl w).alloc 25 #[.string mn, .string mx, .string fa, .string co, .int .i64 ca]
  clear htb h1 h2 h3 h4 hL hM hLe hMe hOK hil him hil2 him2 hVV
  have c0 := V0.tg0 0 rfl; have c1 := V0.tg1 0 rfl; have c2 := V0.tg2 0 rfl; have c3 := V0.tg3 0 rfl; have c4 := V0.tg4 0 rfl
  go_enter Tryz.func7, Tryz.ntmps7
  go_wp2_with fail
  refine (HRd.out _ V0.bel).mono ?_
  rintro e w2 ⟨za, pa, na, ka, qa, ma, da, zb, pb, nb, kb, qb, mb, db, zc, pc, nc, kc, qc, mc, dc, ze, pe, ne, ke, qe, me, de, rfl, hIs, hb⟩
  have V2 := (V0.below hb).alloc 38 #[.bool za, .slice pa na ka, .slice qa ma da, .bool zb, .slice pb nb kb, .slice qb mb db, .bool zc, .slice pc nc kc, .slice qc mc dc, .bool ze, .slice pe ne ke, .slice qe me de, .bool il, .bool im]
  clear V0 hb HRd c0 c1 c2 c3 c4
  have HIs : Hid (OK = true → IsR (w2.alloc (.cells #[.bool za, .slice pa na ka, .slice qa ma da, .bool zb, .slice pb nb kb, .slice qb mb db, .bool zc, .slice pc nc kc, .slice qc mc dc, .bool ze, .slice pe ne ke, .slice qe me de, .bool il, .bool im] 38)) (.agg #[.bool za, .slice pa na ka, .slice qa ma da]) L ∧ IsR (w2.alloc (.cells #[.bool za, .slice pa na ka, .slice qa ma da, .bool zb, .slice pb nb kb, .slice qb mb db, .bool zc, .slice pc nc kc, .slice qc mc dc, .bool ze, .slice pe ne ke, .slice qe me de, .bool il, .bool im] 38)) (.agg #[.bool zb, .slice pb nb kb, .slice qb mb db]) M) := Lib.hid (fun h => by
    obtain ⟨j1, j2, j3, j4⟩ := hIs h
    have hb := below_lit w2 (.cells #[.bool za, .slice pa na ka, .slice qa ma da, .bool zb, .slice pb nb kb, .slice qb mb db, .bool zc, .slice pc nc kc, .slice qc mc dc, .bool ze, .slice pe ne ke, .slice qe me de, .bool il, .bool im] 38)
    exact ⟨j1.below hb (Nat.le_refl _), j2.below hb (Nat.le_refl _)⟩)
  clear hIs
  have t4 := V2.tg4 1 rfl
  have p12 := V2.p12 0 rfl; have p13 := V2.p13 0 rfl
  have a0 := V2.p0 0 rfl; have a1 := V2.p1 0 rfl; have a2 := V2.p2 0 rfl
  have b0 := V2.p3 0 rfl; have b1 := V2.p4 0 rfl; have b2 := V2.p5 0 rfl
  have HB := Lib.hid V2.bel
  cases OK with
  | false =>
    clear V2
    go_wp2_with fail
    go_ret
    exact ⟨by rw [hRs.out]; rfl, HB.out⟩
  | true =>
    by_cases g0 : ca < 0
    · have g1 : decide (0 ≤ ca) = false := decide_eq_false (by omega)
      clear V2
      go_wp2_with fail
      go_ret
      exact ⟨by rw [hRs.out, g1]; rfl, HB.out⟩
    · have g1 : decide (0 ≤ ca) = true := decide_eq_true (by omega)
      by_cases g3 : 3 < ca
      · have g4 : decide (ca ≤ 3) = false := decide_eq_false (by omega)
        clear V2
        go_wp2_with fail
        go_ret
        exact ⟨by rw [hRs.out, g1, g4]; rfl, HB.out⟩
      · have g4 : decide (ca ≤ 3) = true := decide_eq_true (by omega)
        cases il with
        | false =>
          clear V2
          go_wp2_with fail
          go_ret
          exact ⟨by rw [hRs.out, g1, g4]; rfl, HB.out⟩
        | true =>
          cases im with
          | false =>
            clear V2
            go_wp2_with fail
            go_ret
            exact ⟨by rw [hRs.out, g1, g4]; rfl, HB.out⟩
          | true =>
            obtain ⟨j1, j2⟩ := HIs.out rfl
            have HJ := Lib.hid (And.intro j1 j2)
            clear j1 j2 HIs
            go_wp2_with fail
            refine (HCm.out _ _ _ HJ.out.1 HJ.out.2).mono ?_
            rintro e w3 ⟨rfl, hb⟩
            have HB3 := Lib.hid (V2.below hb).bel
            clear V2 hb HCm HJ a0 a1 a2 b0 b1 b2 p12 p13 t4
            by_cases hlt : M < L
            · have hd : decide (¬ M < L) = false := decide_eq_false (fun h => h hlt)
              rw [cmpQ_gt hlt]
              go_wp2_with fail
              go_ret
              exact ⟨by rw [hRs.out, g1, g4, hd]; rfl, HB3.out⟩
            · have hd : decide (¬ M < L) = true := decide_eq_true hlt
              have hc : cmpQ L M ≤ 0 := by unfold cmpQ; rw [if_neg hlt]; split <;> omega
              have hc2 : decide (cmpQ L M ≤ 0) = true := decide_eq_true hc
              go_wp2_with fail
              go_ret
              exact ⟨by rw [hRs.out, g1, g4, hd]; first | rfl | (rw [hc2]; rfl) | simp [hc], HB3.out⟩
end Go.Proofs.YtckglpkafhmehaaGreatDoor
