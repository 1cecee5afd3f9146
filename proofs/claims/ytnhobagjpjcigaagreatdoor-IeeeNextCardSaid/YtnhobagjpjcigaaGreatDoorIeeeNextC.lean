/-
  IeeeNext: a number that has a next one.
-/
import Derived.Test.YtnhobagjpjcigaaGreatDoorESpt
import Derived.Test.YtnhobagjpjcigaaGreatDoorEAlive
import Derived.Test.YtnhobagjpjcigaaGreatDoorQPp
import Derived.Test.YtnhobagjpjcigaaGreatDoorQJ
namespace Go.Proofs.YtnhobagjpjcigaaGreatDoor
open Go.RowKit
set_option linter.unusedVariables false
set_option maxRecDepth 100000 in
set_option maxHeartbeats 16000000 in
theorem ieeeNext.on (H : Int) (b : Nat) (hb : b < 18446744073709551616) (s : ByteArray) (w : World) (htab : Tab w) (htb : TabB w) (e m : Nat) (he : 2 ≤ e) (he2 : e ≤ 8) (hm : 1 ≤ m) (hm2 : m ≤ 23) (hF : ∀ W, Calls Tryz.prog 33 #[.int .i64 (bits .and .i64 H 2), .int .i64 0, .int .i64 0] W fun E w' => E = .returned (.agg #[.int .i64 (e : Int), .int .i64 (m : Int)]) ∧ Below W.heap.size W w') (hs : ¬ (60 : Int) < (s.size : Int)) (hc : psz e m b < inf e m) (P0 UP : Nat) (N Y0 : Rat) (t : Nat) (hx : nxT e m b = (P0, true)) (hok : NxOk e m (pnm e m b) P0 UP N Y0 t) :
    Calls Tryz.prog 8 #[.int .i64 H, .int .u64 (b : Int), .string s] w fun e w' => e = .returned (.bool true) ∧ Below w.heap.size w w' := by
  have HAl : Hid (∀ W, Below w.heap.size w W → Calls Tryz.prog 35 #[] W fun e w' => e = .returned (.bool true) ∧ Below W.heap.size W w') := Lib.hid (fun W hb => alive_e W (htab.below hb (Nat.le_refl _)) (htb.below hb (Nat.le_refl _)))
  have HF := Lib.hid hF
  have HTB : Hid (∀ W, Below w.heap.size w W → TabB W) := Lib.hid (fun W hb => htb.below hb (Nat.le_refl _))
  have hsz2 : inf e m < 2 ^ (e + m) := inf_lt e m
  have hinf0 := inf_pos e m (by omega)
  have h31 : 2 ^ (e + m) ≤ 2 ^ 31 := Nat.pow_le_pow_right (by decide) (by omega)
  have hptn : ∀ t z, t < inf e m → ptn e m z t < 18446744073709551616 := fun t z ht => by
    unfold ptn
    split <;> omega
  have HDec : ∀ (P : Nat) (k : Int) (x : Rat), P < 18446744073709551616 → pkd e m P = k → pnm e m P = x → Hid (∀ W, Below w.heap.size w W → Calls Tryz.prog 44 #[.agg #[.int .i64 (e : Int), .int .i64 (m : Int)], .int .u64 (P : Int)] W (DcIs k x W)) := fun P k x h1 h2 h3 => Lib.hid (fun W hb => by
    have := decode_any e m P he (by omega) hm (by omega) h1 W (htb.below hb (Nat.le_refl _))
    rwa [h2, h3] at this)
  have HNxt : ∀ (P Q : Nat) (z : Bool), P < 18446744073709551616 → nxT e m P = (Q, z) → Hid (∀ W, Calls Tryz.prog 45 #[.agg #[.int .i64 (e : Int), .int .i64 (m : Int)], .int .u64 (P : Int)] W fun E w' => E = .returned (.tuple #[.int .u64 (Q : Int), .bool z]) ∧ Below W.heap.size W w') := fun P Q z h1 h2 => Lib.hid (fun W => (next_any e m P he (by omega) hm (by omega) h1 W).mono fun E w' h => by
    unfold NxIs at h
    rw [h2] at h
    exact h)
  have HCmp : ∀ (x y : Rat) (c : Int), Sz 50 x → Sz 50 y → cmpQ x y = c → Hid (∀ W va vb, IsR W va x → IsR W vb y → Calls Tryz.prog 47 #[va, vb] W fun e w' => e = .returned (.int .i64 c) ∧ Below W.heap.size W w') := fun x y c h1 h2 h3 => Lib.hid (fun W va vb ha hb => by
    have := cmpr_any x y va vb W ha hb h1 h2
    rwa [h3] at this)
  have HSam : ∀ (x y : Rat) (c : Bool), Sz 50 x → Sz 50 y → decide (x = y) = c → Hid (∀ W va vb, IsR W va x → IsR W vb y → Calls Tryz.prog 22 #[va, vb] W fun e w' => e = .returned (.bool c) ∧ Below W.heap.size W w') := fun x y c h1 h2 h3 => Lib.hid (fun W va vb ha hb => by
    have := same_any x y va vb W ha hb (h1.mono (by omega)) (h2.mono (by omega))
    rwa [h3] at this)
  have s2 := sh_one (p := e) (by omega)
  rw [Int.one_mul] at s2
  have hTOPn : ((2 ^ e : Nat) : Int) - 1 = ((2 ^ e - 1 : Nat) : Int) := by
    have h0 : 0 < 2 ^ e := Nat.pow_pos (by decide)
    omega
  have htop : IntKind.u64.wrap ((((2 ^ e : Nat) : Int) - 1) * 2 ^ m) = ((inf e m : Nat) : Int) := by
    have e2 : ((2 : Int) ^ m) = ((2 ^ m : Nat) : Int) := by rw [Int.natCast_pow]; rfl
    have e4 : (2 ^ e - 1) * 2 ^ m = inf e m := by unfold inf; rw [Nat.sub_mul, Nat.one_mul, Nat.pow_add]
    rw [e2, hTOPn, ← Int.natCast_mul, e4, wrapu64 _ (by omega)]
  have hq : ∀ t z, t < inf e m → Sz 6 (vQ e m z t) := fun t z ht => bq_sz e m t z he2 hm2 (by omega)
  have HT : Hid ((oc (pq s) = 3 ∧ Hid (∀ W, TabB W → Calls Tryz.prog 15 #[.string s] W fun e w' => ∃ b x y z x' y' z', e = .returned (.tuple #[.agg #[.bool b, .slice x y z, .slice x' y' z'], .int .i64 3]) ∧ IsR w' (.agg #[.bool b, .slice x y z, .slice x' y' z']) ((pq s).getD 0) ∧ Below W.heap.size W w')) ∨ ∃ Y : Rat, Hid (∀ W, TabB W → Calls Tryz.prog 15 #[.string s] W fun e w' => ∃ b x y z x' y' z', e = .returned (.tuple #[.agg #[.bool b, .slice x y z, .slice x' y' z'], .int .i64 0]) ∧ IsR w' (.agg #[.bool b, .slice x y z, .slice x' y' z']) Y ∧ Below W.heap.size W w') ∧ (Hid (∀ W v, IsR W v Y → Calls Tryz.prog 37 #[.agg #[.int .i64 (e : Int), .int .i64 (m : Int)], v] W fun E w' => E = .returned (.tuple #[.int .u64 0, .bool false]) ∧ Below W.heap.size W w') ∨ ∃ (BP : Int) (A : Rat), Hid (∀ W v, IsR W v Y → Calls Tryz.prog 37 #[.agg #[.int .i64 (e : Int), .int .i64 (m : Int)], v] W fun E w' => E = .returned (.tuple #[.int .u64 BP, .bool true]) ∧ Below W.heap.size W w') ∧ Hid (∀ W, Below w.heap.size w W → Calls Tryz.prog 44 #[.agg #[.int .i64 (e : Int), .int .i64 (m : Int)], .int .u64 BP] W (DcIs 1 A W)) ∧ ((Hid (∀ W, Calls Tryz.prog 45 #[.agg #[.int .i64 (e : Int), .int .i64 (m : Int)], .int .u64 BP] W fun E w' => E = .returned (.tuple #[.int .u64 0, .bool false]) ∧ Below W.heap.size W w') ∧ Hid (∀ W, Below w.heap.size w W → Calls Tryz.prog 44 #[.agg #[.int .i64 (e : Int), .int .i64 (m : Int)], .int .u64 0] W (DcIs 1 0 W)) ∧ ∃ c1 : Int, decide (c1 ≤ 0) = true ∧ Hid (∀ W va vb, IsR W va A → IsR W vb Y → Calls Tryz.prog 47 #[va, vb] W fun e w' => e = .returned (.int .i64 c1) ∧ Below W.heap.size W w')) ∨ ∃ (CP : Int) (Z : Rat), Hid (∀ W, Calls Tryz.prog 45 #[.agg #[.int .i64 (e : Int), .int .i64 (m : Int)], .int .u64 BP] W fun E w' => E = .returned (.tuple #[.int .u64 CP, .bool true]) ∧ Below W.heap.size W w') ∧ Hid (∀ W, Below w.heap.size w W → Calls Tryz.prog 44 #[.agg #[.int .i64 (e : Int), .int .i64 (m : Int)], .int .u64 CP] W (DcIs 1 Z W)) ∧ ∃ c1 : Int, decide (c1 ≤ 0) = true ∧ Hid (∀ W va vb, IsR W va A → IsR W vb Y → Calls Tryz.prog 47 #[va, vb] W fun e w' => e = .returned (.int .i64 c1) ∧ Below W.heap.size W w') ∧ Hid (∀ W va vb, IsR W va Z → IsR W vb Y → Calls Tryz.prog 47 #[va, vb] W fun e w' => e = .returned (.int .i64 1) ∧ Below W.heap.size W w')))) := Lib.hid (by
    cases hp : pq s with
    | none => exact Or.inl ⟨rfl, Lib.hid (fun W h => by
        have := parse_r s W (by omega) h
        rw [hp] at this
        exact this)⟩
    | some Y =>
      refine Or.inr ⟨Y, Lib.hid (fun W h => by
        have := parse_r s W (by omega) h
        rw [hp] at this
        exact this), ?_⟩
      have hsz : Sz 4 Y := pq_sz19 hp (by omega) (by omega)
      obtain ⟨t, ex, hA⟩ := at_spot_ex e m Y he (by omega) hm (by omega) (hsz.mono (by omega))
      cases hbs : bsT e m (decide (Y.num < 0)) (decide (Y.num < 0)) ex t with
      | mk BP BB =>
      have hBl := hA.blw
      rw [hbs] at hBl
      cases BB with
      | false =>
        have h0 : BP = 0 := bsd_false hbs
        rw [h0] at hBl
        exact Or.inl (Lib.hid hBl)
      | true =>
        have hok := bel_ok e m Y t hA.spot BP (by rw [hA.exq]; exact hbs)
        obtain ⟨u, z, hu, hP, hle⟩ := hok.fin
        have hBP : BP < 18446744073709551616 := by rw [hP]; exact hptn u z hu
        have hDv := HDec BP 1 (vQ e m z u) hBP (by rw [hP]; exact ptn_kd e m u z hu) (by rw [hP]; exact ptn_nm e m u z hu)
        have hc : decide (cmpQ (vQ e m z u) Y ≤ 0) = true := by
          rcases Rat.le_iff_lt_or_eq.1 hle with h | h
          · rw [cmpQ_lt h]; decide
          · rw [h, cmpQ_eq]; decide
        refine Or.inr ⟨(BP : Int), vQ e m z u, Lib.hid hBl, hDv, ?_⟩
        cases hnx : nxT e m BP with
        | mk CP on =>
        have hNx := HNxt BP CP on hBP hnx
        cases on with
        | false =>
          have h0 : CP = 0 := by
            unfold nxT at hnx
            split at hnx
            · exact (Prod.mk.inj hnx).1.symm
            · split at hnx
              · cases (Prod.mk.inj hnx).2
              · split at hnx
                · exact (Prod.mk.inj hnx).1.symm
                · cases (Prod.mk.inj hnx).2
          rw [h0] at hNx
          have hk0 := ptn_kd e m 0 false hinf0
          have hn0 := ptn_nm e m 0 false hinf0
          rw [ptn_pos] at hk0 hn0
          rw [(vq_zero e m 0 false).2 rfl] at hn0
          exact Or.inl ⟨hNx, HDec 0 1 0 (by decide) hk0 hn0, _, hc, HCmp _ _ _ ((hq u z hu).mono (by omega)) (hsz.mono (by omega)) rfl⟩
        | true =>
          obtain ⟨u2, z2, hu2, hP2', hlt2⟩ := hok.nxt (by rw [hnx])
          have hP2 : CP = ptn e m z2 u2 := by
            have h := hP2'
            rw [hnx] at h
            exact h
          have hCP : CP < 18446744073709551616 := by rw [hP2]; exact hptn u2 z2 hu2
          have hDw := HDec CP 1 (vQ e m z2 u2) hCP (by rw [hP2]; exact ptn_kd e m u2 z2 hu2) (by rw [hP2]; exact ptn_nm e m u2 z2 hu2)
          exact Or.inr ⟨(CP : Int), vQ e m z2 u2, hNx, hDw, _, hc, HCmp _ _ _ ((hq u z hu).mono (by omega)) (hsz.mono (by omega)) rfl, HCmp _ _ _ ((hq u2 z2 hu2).mono (by omega)) (hsz.mono (by omega)) (cmpQ_gt hlt2)⟩)
  have hk : pkd e m b = 1 := by unfold pkd; rw [if_neg (by omega), if_neg (by omega)]
  have hRz : ∃ z, pnm e m b = vQ e m z (psz e m b) := ⟨_, by unfold pnm; rw [if_pos hc]⟩
  obtain ⟨zr, hzr⟩ := hRz
  have hszR : Sz 6 (pnm e m b) := by rw [hzr]; exact hq _ _ hc
  have hg : inf e m - 1 < inf e m := by omega
  have hgk := ptn_kd e m _ false hg
  have hgn := ptn_nm e m _ false hg
  rw [ptn_pos] at hgk hgn
  have HDg := HDec (inf e m - 1) 1 _ (by omega) hgk hgn
  have hgi : ((inf e m - 1 : Nat) : Int) = ((inf e m : Nat) : Int) - 1 := by omega
  rw [hgi] at HDg
  have hszG : Sz 6 (vQ e m false (inf e m - 1)) := hq _ _ hg
  have HSg := HSam _ _ false (hszR.mono (by omega)) (hszG.mono (by omega)) (decide_eq_false hok.top)
  have HNx := HNxt b P0 true hb hx
  have HDx := HDec b 1 _ hb hk rfl
  obtain ⟨up, zp, hup, hPp, hNp⟩ := hok.ps
  obtain ⟨uu, zu, huu, hPu⟩ := hok.us
  have HDn := HDec P0 1 N (by rw [hPp]; exact hptn up zp hup) hok.kd hok.nm
  have HDu := HDec UP 1 _ (by rw [hPu]; exact hptn uu zu huu) hok.ukd hok.unm
  have hszN : Sz 6 N := by rw [hNp]; exact hq _ _ hup
  have hszS := sz_add hszR hszN
  have sz2 : Sz 1 (2 : Rat) := sz_int 1 (by omega) 2 (by decide)
  have h20 : ((2 : Rat)).num.natAbs ≠ 0 := by decide
  have hszY : Sz 14 ((pnm e m b + N) * 2⁻¹) := (sz_mul hszS (sz_inv sz2 h20)).mono (by omega)
  have hY : (pnm e m b + N) * 2⁻¹ = Y0 := by rw [← hok.mid, Rat.div_def]
  rw [hY] at hszY
  have hAt := at_spot e m Y0 he (by omega) hm (by omega) (hszY.mono (by omega)) t hok.spot
  rw [hok.exq] at hAt
  have hBl0 := hAt.blw
  rw [hok.bs] at hBl0
  have HBu : Hid (∀ W v, IsR W v Y0 → Calls Tryz.prog 37 #[.agg #[.int .i64 (e : Int), .int .i64 (m : Int)], v] W fun E w' => E = .returned (.tuple #[.int .u64 (UP : Int), .bool true]) ∧ Below W.heap.size W w') := Lib.hid hBl0
  have HCn := HCmp N (pnm e m b) 1 (hszN.mono (by omega)) (hszR.mono (by omega)) (cmpQ_gt hok.lt)
  have HSu := HSam (pnm e m b) (pnm e m b) true (hszR.mono (by omega)) (hszR.mono (by omega)) (decide_eq_true rfl)
  have HAd : Hid (∀ W va vb, Below w.heap.size w W → IsR W va (pnm e m b) → IsR W vb N → Calls Tryz.prog 46 #[va, vb] W (GaveR (pnm e m b + N) W)) := Lib.hid (fun W va vb hB h1 h2 => addr_any _ _ _ _ va vb W h1 h2 hszR hszN (by omega) (htb.below hB (Nat.le_refl _)))
  have HOf : Hid (∀ W, Calls Tryz.prog 25 #[.int .i64 2] W (GaveR 2 W)) := Lib.hid (fun W => of_r 2 W (by omega) (by omega))
  have HDi : Hid (∀ W va vb, Below w.heap.size w W → IsR W va (pnm e m b + N) → IsR W vb 2 → Calls Tryz.prog 26 #[va, vb] W fun e w' => ∃ v, e = .returned (.tuple #[v, .int .i64 0]) ∧ IsR w' v Y0 ∧ Below W.heap.size W w') := Lib.hid (fun W va vb hB h1 h2 => by
    have := divr_any _ _ _ _ va vb W h1 h2 hszS sz2 (by omega) (by omega) h20 (htb.below hB (Nat.le_refl _))
    rwa [hY] at this)
  obtain ⟨SM, hSM⟩ : ∃ x : Rat, pnm e m b + N = x := ⟨_, rfl⟩
  obtain ⟨TW, hTW⟩ : ∃ x : Rat, 2 = x := ⟨_, rfl⟩
  obtain ⟨Y, hYY⟩ : ∃ x : Rat, Y0 = x := ⟨_, rfl⟩
  rw [hSM] at HAd HDi
  rw [hTW] at HDi
  have HOf2 : Hid (∀ W, Calls Tryz.prog 25 #[.int .i64 2] W (GaveR TW W)) := by rw [← hTW]; exact HOf
  clear HOf
  have HOf := HOf2
  clear HOf2
  obtain ⟨X, hX⟩ : ∃ x : Rat, pnm e m b = x := ⟨_, rfl⟩
  obtain ⟨G, hG⟩ : ∃ x : Rat, vQ e m false (inf e m - 1) = x := ⟨_, rfl⟩
  rw [hX] at HDx HSg HDu HCn HSu HAd
  rw [hG] at HDg HSg
  rw [hYY] at HBu HDi
  obtain ⟨PI, hPI⟩ : ∃ x : Int, (P0 : Int) = x := ⟨_, rfl⟩
  rw [hPI] at HNx HDn
  obtain ⟨UI, hUI⟩ : ∃ x : Int, (UP : Int) = x := ⟨_, rfl⟩
  rw [hUI] at HBu HDu
  obtain ⟨BI, hBI⟩ : ∃ x : Int, (b : Int) = x := ⟨_, rfl⟩
  rw [hBI] at HDx HNx ⊢
  obtain ⟨QE, hQE⟩ : ∃ x : Int, ((2 ^ e : Nat) : Int) = x := ⟨_, rfl⟩
  obtain ⟨QM, hQM⟩ : ∃ x : Int, QE - 1 = x := ⟨_, rfl⟩
  obtain ⟨TOP, hTOP⟩ : ∃ x : Int, ((inf e m : Nat) : Int) = x := ⟨_, rfl⟩
  have t2 : ((e : Int)).toNat = e := by omega
  have t3 : ((m : Int)).toNat = m := by omega
  have hQE0 : 1 ≤ QE := by have : 0 < 2 ^ e := Nat.pow_pos (by decide); omega
  have hQE1 : QE ≤ 256 := by have : 2 ^ e ≤ 2 ^ 8 := Nat.pow_le_pow_right (by decide) he2; omega
  have hT0 : 1 ≤ TOP := by omega
  have hT1 : TOP ≤ 2147483648 := by omega
  rw [hQE, hQM, hTOP] at htop
  rw [hQE] at s2
  rw [hTOP] at HDg
  clear hc hx hX hG hk hzr zr hszR hg hgk hgn hgi hszG HDec HNxt HCmp HSam hTOPn hsz2 hinf0 h31 hptn hq hok up zp hup hPp hNp uu zu huu hPu hszN hszS sz2 h20 hszY hY hAt hBl0 hSM hTW hYY hPI hUI
  clear hF hb hBI hQE hTOP htab htb
  go_enter Tryz.func8, Tryz.ntmps8
  go_wp2_with fail
  refine (HF.out _).mono ?_
  rintro E w0 ⟨rfl, hb⟩
  have V0 := ((Mq.refl w).below hb).alloc 63 #[.int .i64 (e : Int), .int .i64 (m : Int)]
  clear hb HF
  go_wp2_with fail
  refine (HAl.out _ V0.bel).mono ?_
  rintro E w1 ⟨rfl, hb⟩
  have V1 := V0.below hb
  clear V0 hb HAl
  have q0 := V1.f0 0 rfl; have q1 := V1.f1 0 rfl
  go_wp2_with fail
  refine (HDx.out _ V1.bel).mono ?_
  rintro E wx ⟨v, rfl, hr, hb⟩
  have V2' := (V1.below hb).rcons hr
  obtain ⟨px, nx, cx, px', nx', cx', rfl, -, -⟩ := hr
  obtain ⟨zx, hz⟩ : ∃ z, decide (X.num < 0) = z := ⟨_, rfl⟩
  rw [hz] at V2' ⊢
  have V2 := V2'.alloc 27 #[.bool zx, .slice px nx cx, .slice px' nx' cx']
  clear V1 V2' hb hz HDx q0 q1
  have q0 := V2.f0 1 rfl; have q1 := V2.f1 1 rfl
  go_wp2_with fail
  refine (HNx.out _).mono ?_
  rintro E w3 ⟨rfl, hb⟩
  have V3 := V2.below hb
  clear V2 hb HNx q0 q1
  have q0 := V3.f0 1 rfl; have q1 := V3.f1 1 rfl
  go_wp2_with fail
  go_quiet (fail)
  have V4 := V3.dn nq
  clear V3 q0 q1
  have q0 := V4.f0 1 rfl; have q1 := V4.f1 1 rfl
  go_wp2_with fail
  refine (HDg.out _ V4.bel).mono ?_
  rintro E wg ⟨v, rfl, hr, hb⟩
  have V5' := (V4.below hb).rcons hr
  obtain ⟨pg, ng, cg, pg', ng', cg', rfl, -, -⟩ := hr
  obtain ⟨zg, hz⟩ : ∃ z, decide (G.num < 0) = z := ⟨_, rfl⟩
  rw [hz] at V5' ⊢
  have V5 := V5'.alloc 27 #[.bool zg, .slice pg ng cg, .slice pg' ng' cg']
  clear V4 V5' hb hz HDg q0 q1
  have a0 := V5.c0 1 rfl; have a1 := V5.c1 1 rfl; have a2 := V5.c2 1 rfl
  have a0g := V5.c0 0 rfl; have a1g := V5.c1 0 rfl; have a2g := V5.c2 0 rfl
  go_wp2_with fail
  refine (HSg.out _ _ _ (V5.rat 1 _ _ rfl) (V5.rat 0 _ _ rfl)).mono ?_
  rintro E w6 ⟨rfl, hb⟩
  have V6 := V5.below hb
  clear V5 hb HSg a0 a1 a2 a0g a1g a2g
  have q0 := V6.f0 2 rfl; have q1 := V6.f1 2 rfl
  go_wp2_with fail
  refine (HDn.out _ V6.bel).mono ?_
  rintro E wn ⟨v, rfl, hr, hb⟩
  have V7' := (V6.below hb).rcons hr
  obtain ⟨pn, nn, cn, pn', nn', cn', rfl, -, -⟩ := hr
  obtain ⟨zn, hz⟩ : ∃ z, decide (N.num < 0) = z := ⟨_, rfl⟩
  rw [hz] at V7' ⊢
  have V7 := V7'.alloc 27 #[.bool zn, .slice pn nn cn, .slice pn' nn' cn']
  clear V6 V7' hb hz HDn q0 q1
  have a0 := V7.c0 0 rfl; have a1 := V7.c1 0 rfl; have a2 := V7.c2 0 rfl
  have a0x := V7.c0 2 rfl; have a1x := V7.c1 2 rfl; have a2x := V7.c2 2 rfl
  go_wp2_with fail
  refine (HAd.out _ _ _ V7.bel (V7.rat 2 _ _ rfl) (V7.rat 0 _ _ rfl)).mono ?_
  rintro E w7 ⟨v, rfl, hr, hb⟩
  have V8 := (V7.below hb).rcons hr
  clear V7 hr hb HAd a0 a1 a2 a0x a1x a2x
  go_wp2_with fail
  refine (HOf.out _).mono ?_
  rintro E w8 ⟨v1, rfl, hr, hb⟩
  have V8b := (V8.below hb).rcons hr
  clear V8 hr hb HOf
  go_wp2_with fail
  refine (HDi.out _ _ _ V8b.bel (V8b.rat 1 _ _ rfl) (V8b.rat 0 _ _ rfl)).mono ?_
  rintro E wh ⟨v2, rfl, hr, hb⟩
  have V9' := (V8b.below hb).rcons hr
  obtain ⟨ph, nh, ch, ph', nh', ch', rfl, -, -⟩ := hr
  obtain ⟨zh, hz⟩ : ∃ z, decide (Y.num < 0) = z := ⟨_, rfl⟩
  rw [hz] at V9' ⊢
  have V9 := V9'.alloc 27 #[.bool zh, .slice ph nh ch, .slice ph' nh' ch']
  clear V8b V9' hb hz HDi
  have q0 := V9.f0 4 rfl; have q1 := V9.f1 4 rfl
  have a0 := V9.c0 0 rfl; have a1 := V9.c1 0 rfl; have a2 := V9.c2 0 rfl
  go_wp2_with fail
  refine (HBu.out _ _ (V9.rat 0 _ _ rfl)).mono ?_
  rintro E w10 ⟨rfl, hb⟩
  have V10 := V9.below hb
  clear V9 hb HBu q0 q1 a0 a1 a2
  have q0 := V10.f0 4 rfl; have q1 := V10.f1 4 rfl
  go_wp2_with fail
  refine (HDu.out _ V10.bel).mono ?_
  rintro E wu ⟨v, rfl, hr, hb⟩
  have V11' := (V10.below hb).rcons hr
  obtain ⟨pu, nu, cu, pu', nu', cu', rfl, -, -⟩ := hr
  obtain ⟨zu, hz⟩ : ∃ z, decide (X.num < 0) = z := ⟨_, rfl⟩
  rw [hz] at V11' ⊢
  have V11 := V11'.alloc 27 #[.bool zu, .slice pu nu cu, .slice pu' nu' cu']
  clear V10 V11' hb hz HDu q0 q1
  have a0u := V11.c0 0 rfl; have a1u := V11.c1 0 rfl; have a2u := V11.c2 0 rfl
  have a0n := V11.c0 2 rfl; have a1n := V11.c1 2 rfl; have a2n := V11.c2 2 rfl
  have a0x := V11.c0 4 rfl; have a1x := V11.c1 4 rfl; have a2x := V11.c2 4 rfl
  go_wp2_with fail
  refine (HCn.out _ _ _ (V11.rat 4 _ _ rfl) (V11.rat 6 _ _ rfl)).mono ?_
  rintro E w12 ⟨rfl, hb⟩
  have V12 := V11.below hb
  clear V11 hb HCn a0u a1u a2u a0n a1n a2n a0x a1x a2x
  have a0u := V12.c0 0 rfl; have a1u := V12.c1 0 rfl; have a2u := V12.c2 0 rfl
  have a0x := V12.c0 4 rfl; have a1x := V12.c1 4 rfl; have a2x := V12.c2 4 rfl
  go_wp2_with fail
  refine (HSu.out _ _ _ (V12.rat 0 _ _ rfl) (V12.rat 6 _ _ rfl)).mono ?_
  rintro E w13 ⟨rfl, hb⟩
  have V15 := V12.below hb
  clear V12 hb HSu a0u a1u a2u a0x a1x a2x
  rcases HT.out with ⟨hpz, HP0⟩ | ⟨Y, HP0, HT1⟩
  · clear HT
    go_wp2_with fail
    refine (HP0.out _ (HTB.out _ V15.bel)).mono ?_
    rintro E w20 ⟨bA, pA, nA, cA, qA, mA, dA, rfl, -, hb⟩
    have V20 := (V15.below hb).alloc 27 #[.bool bA, .slice pA nA cA, .slice qA mA dA]
    have HB := Lib.hid V20.bel
    clear V15 hb V20 HP0 HTB
    go_wp2_with fail
    go_ret
    exact ⟨rfl, HB.out⟩
  · clear HT
    go_wp2_with fail
    refine (HP0.out _ (HTB.out _ V15.bel)).mono ?_
    rintro E w20 ⟨bA, pA, nA, cA, qA, mA, dA, rfl, hr, hb⟩
    have V20 := ((V15.below hb).rcons hr).alloc 27 #[.bool bA, .slice pA nA cA, .slice qA mA dA]
    clear V15 hb HP0 HTB hr
    have q0 := V20.f0 6 rfl; have q1 := V20.f1 6 rfl
    have a0 := V20.c0 0 rfl; have a1 := V20.c1 0 rfl; have a2 := V20.c2 0 rfl
    rcases HT1 with HBl | ⟨BP, A, HBl, HDv, HT2⟩
    · go_wp2_with fail
      refine (HBl.out _ _ (V20.rat 0 _ _ rfl)).mono ?_
      rintro E w21 ⟨rfl, hb⟩
      have HB := Lib.hid (V20.below hb).bel
      clear V20 hb HBl q0 q1 a0 a1 a2
      go_wp2_with fail
      go_ret
      exact ⟨rfl, HB.out⟩
    · go_wp2_with fail
      refine (HBl.out _ _ (V20.rat 0 _ _ rfl)).mono ?_
      rintro E w21 ⟨rfl, hb⟩
      have V21 := V20.below hb
      clear V20 hb HBl q0 q1 a0 a1 a2
      have q0 := V21.f0 6 rfl; have q1 := V21.f1 6 rfl
      go_wp2_with fail
      refine (HDv.out _ V21.bel).mono ?_
      rintro E wa ⟨v, rfl, hr, hb⟩
      have V22' := (V21.below hb).rcons hr
      obtain ⟨pa, na, ca, pa', na', ca', rfl, -, -⟩ := hr
      obtain ⟨za, hz⟩ : ∃ z, decide (A.num < 0) = z := ⟨_, rfl⟩
      rw [hz] at V22' ⊢
      have V22 := V22'.alloc 27 #[.bool za, .slice pa na ca, .slice pa' na' ca']
      clear V21 V22' hb hz HDv q0 q1
      have q0 := V22.f0 7 rfl; have q1 := V22.f1 7 rfl
      rcases HT2 with ⟨HNx, HDw, c1, hc1, HC1⟩ | ⟨CP, Z, HNx, HDw, c1, hc1, HC1, HC2⟩
      · go_wp2_with fail
        refine (HNx.out _).mono ?_
        rintro E w23 ⟨rfl, hb⟩
        have V23 := V22.below hb
        clear V22 hb HNx q0 q1
        have q0 := V23.f0 7 rfl; have q1 := V23.f1 7 rfl
        go_wp2_with fail
        refine (HDw.out _ V23.bel).mono ?_
        rintro E wk ⟨v, rfl, hr, hb⟩
        have V24' := (V23.below hb).rcons hr
        obtain ⟨pk, nk, ck, pk', nk', ck', rfl, -, -⟩ := hr
        obtain ⟨zk, hz⟩ : ∃ z, decide ((0 : Rat).num < 0) = z := ⟨_, rfl⟩
        rw [hz] at V24' ⊢
        have V24 := V24'.alloc 27 #[.bool zk, .slice pk nk ck, .slice pk' nk' ck']
        clear V23 V24' hb hz HDw q0 q1
        have a0k := V24.c0 0 rfl; have a1k := V24.c1 0 rfl; have a2k := V24.c2 0 rfl
        have a0a := V24.c0 1 rfl; have a1a := V24.c1 1 rfl; have a2a := V24.c2 1 rfl
        have a0y := V24.c0 2 rfl; have a1y := V24.c1 2 rfl; have a2y := V24.c2 2 rfl
        go_wp2_with fail
        refine (HC1.out _ _ _ (V24.rat 1 _ _ rfl) (V24.rat 2 _ _ rfl)).mono ?_
        rintro E w28 ⟨rfl, hb⟩
        have V28 := V24.below hb
        clear V24 hb HC1 a0k a1k a2k a0a a1a a2a a0y a1y a2y
        have HB := Lib.hid V28.bel
        clear V28
        go_wp2_with fail
        go_ret
        exact ⟨rfl, HB.out⟩
      · go_wp2_with fail
        refine (HNx.out _).mono ?_
        rintro E w23 ⟨rfl, hb⟩
        have V23 := V22.below hb
        clear V22 hb HNx q0 q1
        have q0 := V23.f0 7 rfl; have q1 := V23.f1 7 rfl
        go_wp2_with fail
        refine (HDw.out _ V23.bel).mono ?_
        rintro E wk ⟨v, rfl, hr, hb⟩
        have V24' := (V23.below hb).rcons hr
        obtain ⟨pk, nk, ck, pk', nk', ck', rfl, -, -⟩ := hr
        obtain ⟨zk, hz⟩ : ∃ z, decide (Z.num < 0) = z := ⟨_, rfl⟩
        rw [hz] at V24' ⊢
        have V24 := V24'.alloc 27 #[.bool zk, .slice pk nk ck, .slice pk' nk' ck']
        clear V23 V24' hb hz HDw q0 q1
        have a0k := V24.c0 0 rfl; have a1k := V24.c1 0 rfl; have a2k := V24.c2 0 rfl
        have a0a := V24.c0 1 rfl; have a1a := V24.c1 1 rfl; have a2a := V24.c2 1 rfl
        have a0y := V24.c0 2 rfl; have a1y := V24.c1 2 rfl; have a2y := V24.c2 2 rfl
        go_wp2_with fail
        refine (HC1.out _ _ _ (V24.rat 1 _ _ rfl) (V24.rat 2 _ _ rfl)).mono ?_
        rintro E w28 ⟨rfl, hb⟩
        have V28 := V24.below hb
        clear V24 hb HC1 a0k a1k a2k a0a a1a a2a a0y a1y a2y
        have a0k := V28.c0 0 rfl; have a1k := V28.c1 0 rfl; have a2k := V28.c2 0 rfl
        have a0a := V28.c0 1 rfl; have a1a := V28.c1 1 rfl; have a2a := V28.c2 1 rfl
        have a0y := V28.c0 2 rfl; have a1y := V28.c1 2 rfl; have a2y := V28.c2 2 rfl
        go_wp2_with fail
        refine (HC2.out _ _ _ (V28.rat 0 _ _ rfl) (V28.rat 2 _ _ rfl)).mono ?_
        rintro E w29 ⟨rfl, hb⟩
        have V29 := V28.below hb
        clear V28 hb HC2 a0k a1k a2k a0a a1a a2a a0y a1y a2y
        have HB := Lib.hid V29.bel
        clear V29
        go_wp2_with fail
        go_ret
        exact ⟨rfl, HB.out⟩
end Go.Proofs.YtnhobagjpjcigaaGreatDoor
