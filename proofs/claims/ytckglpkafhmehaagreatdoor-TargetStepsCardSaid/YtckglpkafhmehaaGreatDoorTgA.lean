/-
  Law 17: what a target makes of a number.
-/
import Derived.Test.YtckglpkafhmehaaGreatDoorTg
import Derived.Test.YtckglpkafhmehaaGreatDoorQTxA
namespace Go.Proofs.YtckglpkafhmehaaGreatDoor
open Go.RowKit
set_option linter.unusedVariables false
def cll (il : Bool) (L X : Rat) : Rat := if (il && decide (X < L)) = true then L else X
def clm (im : Bool) (M X : Rat) : Rat := if (im && decide (M < X)) = true then M else X
def cst (ca : Int) (X : Rat) : Rat := if ca = 1 then ((rndQ X : Int) : Rat) else if ca = 2 then ((X.ceil : Int) : Rat) else if ca = 3 then ((X.floor : Int) : Rat) else X
/-- What a target's numbers make of one. -/
def apv (X L M F C : Rat) (il im : Bool) (ca : Int) : Rat := cst ca (clm im M (cll il L X) * F + C)
section
variable {w W : World} {bx : List (Nat × TypeId × Array Value)} {l : List (Value × Nat)} {r : List (Value × Rat)} {b : Nat} {t : TypeId} {x0 x1 x2 x3 x4 x5 x6 x7 x8 x9 x10 x11 x12 x13 : Value}
theorem Mq.p0 (h : Mq w bx l r W) (k : Nat) (e : bx[k]? = some (b, t, #[x0, x1, x2, x3, x4, x5, x6, x7, x8, x9, x10, x11, x12, x13])) : W.cell? ⟨b, 0, none⟩ = some x0 := h.cell k 0 e rfl
theorem Mq.p1 (h : Mq w bx l r W) (k : Nat) (e : bx[k]? = some (b, t, #[x0, x1, x2, x3, x4, x5, x6, x7, x8, x9, x10, x11, x12, x13])) : W.cell? ⟨b, 1, none⟩ = some x1 := h.cell k 1 e rfl
theorem Mq.p2 (h : Mq w bx l r W) (k : Nat) (e : bx[k]? = some (b, t, #[x0, x1, x2, x3, x4, x5, x6, x7, x8, x9, x10, x11, x12, x13])) : W.cell? ⟨b, 2, none⟩ = some x2 := h.cell k 2 e rfl
theorem Mq.p3 (h : Mq w bx l r W) (k : Nat) (e : bx[k]? = some (b, t, #[x0, x1, x2, x3, x4, x5, x6, x7, x8, x9, x10, x11, x12, x13])) : W.cell? ⟨b, 3, none⟩ = some x3 := h.cell k 3 e rfl
theorem Mq.p4 (h : Mq w bx l r W) (k : Nat) (e : bx[k]? = some (b, t, #[x0, x1, x2, x3, x4, x5, x6, x7, x8, x9, x10, x11, x12, x13])) : W.cell? ⟨b, 4, none⟩ = some x4 := h.cell k 4 e rfl
theorem Mq.p5 (h : Mq w bx l r W) (k : Nat) (e : bx[k]? = some (b, t, #[x0, x1, x2, x3, x4, x5, x6, x7, x8, x9, x10, x11, x12, x13])) : W.cell? ⟨b, 5, none⟩ = some x5 := h.cell k 5 e rfl
theorem Mq.p6 (h : Mq w bx l r W) (k : Nat) (e : bx[k]? = some (b, t, #[x0, x1, x2, x3, x4, x5, x6, x7, x8, x9, x10, x11, x12, x13])) : W.cell? ⟨b, 6, none⟩ = some x6 := h.cell k 6 e rfl
theorem Mq.p7 (h : Mq w bx l r W) (k : Nat) (e : bx[k]? = some (b, t, #[x0, x1, x2, x3, x4, x5, x6, x7, x8, x9, x10, x11, x12, x13])) : W.cell? ⟨b, 7, none⟩ = some x7 := h.cell k 7 e rfl
theorem Mq.p8 (h : Mq w bx l r W) (k : Nat) (e : bx[k]? = some (b, t, #[x0, x1, x2, x3, x4, x5, x6, x7, x8, x9, x10, x11, x12, x13])) : W.cell? ⟨b, 8, none⟩ = some x8 := h.cell k 8 e rfl
theorem Mq.p9 (h : Mq w bx l r W) (k : Nat) (e : bx[k]? = some (b, t, #[x0, x1, x2, x3, x4, x5, x6, x7, x8, x9, x10, x11, x12, x13])) : W.cell? ⟨b, 9, none⟩ = some x9 := h.cell k 9 e rfl
theorem Mq.p10 (h : Mq w bx l r W) (k : Nat) (e : bx[k]? = some (b, t, #[x0, x1, x2, x3, x4, x5, x6, x7, x8, x9, x10, x11, x12, x13])) : W.cell? ⟨b, 10, none⟩ = some x10 := h.cell k 10 e rfl
theorem Mq.p11 (h : Mq w bx l r W) (k : Nat) (e : bx[k]? = some (b, t, #[x0, x1, x2, x3, x4, x5, x6, x7, x8, x9, x10, x11, x12, x13])) : W.cell? ⟨b, 11, none⟩ = some x11 := h.cell k 11 e rfl
theorem Mq.p12 (h : Mq w bx l r W) (k : Nat) (e : bx[k]? = some (b, t, #[x0, x1, x2, x3, x4, x5, x6, x7, x8, x9, x10, x11, x12, x13])) : W.cell? ⟨b, 12, none⟩ = some x12 := h.cell k 12 e rfl
theorem Mq.p13 (h : Mq w bx l r W) (k : Nat) (e : bx[k]? = some (b, t, #[x0, x1, x2, x3, x4, x5, x6, x7, x8, x9, x10, x11, x12, x13])) : W.cell? ⟨b, 13, none⟩ = some x13 := h.cell k 13 e rfl
theorem Mq.put3p (h : Mq w ((b, 33, #[x0, x1, x2]) :: bx) l r W) {z : Bool} {p : Option Addr} {n c : Nat} {p' : Option Addr} {n' c' : Nat} (e : #[x0, x1, x2] = #[.bool z, .slice p n c, .slice p' n' c']) (hd : ∀ (k' b' : Nat) (t' : TypeId) (cs' : Array Value), bx[k']? = some (b', t', cs') → b' ≠ b) (y : Bool) (q : Option Addr) (m d : Nat) (q' : Option Addr) (m' d' : Nat) :
    Mq w ((b, 33, #[.bool y, .slice q m d, .slice q' m' d']) :: bx) l r (set3 W b (.bool y) (.slice q m d) (.slice q' m' d')) := by
  rw [e] at h
  have V1 := h.put0 (plain_rat _ _ _ _ _ _ _) hd 0 (.bool y)
  have V2 := Mq.put0 (cs := #[.bool y, .slice p n c, .slice p' n' c']) V1 (plain_rat _ _ _ _ _ _ _) hd 1 (.slice q m d)
  exact Mq.put0 (cs := #[.bool y, .slice q m d, .slice p' n' c']) V2 (plain_rat _ _ _ _ _ _ _) hd 2 (.slice q' m' d')
end
theorem Mq.drop1 {w W : World} {bx : List (Nat × TypeId × Array Value)} {l : List (Value × Nat)} {r : List (Value × Rat)} {a a' : Value × Rat} (h : Mq w bx l (a :: r) W) (h' : IsR W a'.1 a'.2) : Mq w bx l (a' :: r) W :=
  Mq.rcons (x := a'.2) (v := a'.1) ⟨h.bel, h.box, h.num, fun k v x e => h.rat (k + 1) v x (by simpa using e)⟩ h'
set_option maxRecDepth 100000 in
set_option maxHeartbeats 16000000 in
theorem apply_any (X L M F C : Rat) (ca : Int) (il im : Bool) {za : Bool} {pa : Option Addr} {na ka : Nat} {qa : Option Addr} {ma da : Nat} {zb : Bool} {pb : Option Addr} {nb kb : Nat} {qb : Option Addr} {mb db : Nat} {zc : Bool} {pc : Option Addr} {nc kc : Nat} {qc : Option Addr} {mc dc : Nat} {ze : Bool} {pe : Option Addr} {ne ke : Nat} {qe : Option Addr} {me de : Nat} {zr : Bool} {pr : Option Addr} {nr kr : Nat} {qr : Option Addr} {mr dr : Nat} (w : World) (htb : TabB w) (k k3 k4 : Nat) (hX : Sz k X) (hL : Sz k L) (hM : Sz k M) (hF : Sz k3 F) (hC : Sz k4 C) (hk : k + k3 + k4 ≤ 39) (hk1 : 1 ≤ k)
    (rX : IsR w (.agg #[.bool zr, .slice pr nr kr, .slice qr mr dr]) X) (rL : IsR w (.agg #[.bool za, .slice pa na ka, .slice qa ma da]) L) (rM : IsR w (.agg #[.bool zb, .slice pb nb kb, .slice qb mb db]) M) (rF : IsR w (.agg #[.bool zc, .slice pc nc kc, .slice qc mc dc]) F) (rC : IsR w (.agg #[.bool ze, .slice pe ne ke, .slice qe me de]) C) :
    Calls Tryz.prog 11 #[.agg #[.bool za, .slice pa na ka, .slice qa ma da, .bool zb, .slice pb nb kb, .slice qb mb db, .bool zc, .slice pc nc kc, .slice qc mc dc, .bool ze, .slice pe ne ke, .slice qe me de, .bool il, .bool im], .agg #[.bool zr, .slice pr nr kr, .slice qr mr dr], .int .i64 ca] w (GaveR (apv X L M F C il im ca) w) := by
  obtain ⟨Y1, hY1⟩ : ∃ Y, cll il L X = Y := ⟨_, rfl⟩
  obtain ⟨Y, hY⟩ : ∃ Y, clm im M Y1 = Y := ⟨_, rfl⟩
  have sY1 : Sz k Y1 := by rw [← hY1]; unfold cll; split <;> assumption
  have sY : Sz k Y := by rw [← hY]; unfold clm; split <;> assumption
  have sR := sz_add (sz_mul sY hF) hC
  have HCm1 : Hid (∀ W va vb, IsR W va X → IsR W vb L → Calls Tryz.prog 13 #[va, vb] W fun e w' => e = .returned (.int .i64 (cmpQ X L)) ∧ Below W.heap.size W w') := Lib.hid (fun W va vb h1 h2 => cmpr_any X L va vb W h1 h2 (hX.mono (by omega)) (hL.mono (by omega)))
  have HCm2 : Hid (∀ W va vb, IsR W va Y1 → IsR W vb M → Calls Tryz.prog 13 #[va, vb] W fun e w' => e = .returned (.int .i64 (cmpQ Y1 M)) ∧ Below W.heap.size W w') := Lib.hid (fun W va vb h1 h2 => cmpr_any Y1 M va vb W h1 h2 (sY1.mono (by omega)) (hM.mono (by omega)))
  have HMul : Hid (∀ W va vb, Below w.heap.size w W → IsR W va Y → IsR W vb F → Calls Tryz.prog 24 #[va, vb] W (GaveR (Y * F) W)) := Lib.hid (fun W va vb hB h1 h2 => mulr_any Y F k k3 va vb W h1 h2 sY hF (by omega) (by omega) (htb.below hB (Nat.le_refl _)))
  have HAdd : Hid (∀ W va vb, Below w.heap.size w W → IsR W va (Y * F) → IsR W vb C → Calls Tryz.prog 23 #[va, vb] W (GaveR (Y * F + C) W)) := Lib.hid (fun W va vb hB h1 h2 => addr_any (Y * F) C (k + k3) k4 va vb W h1 h2 (sz_mul sY hF) hC (by omega) (htb.below hB (Nat.le_refl _)))
  have HRn : Hid (∀ W va, IsR W va (Y * F + C) → Calls Tryz.prog 25 #[va] W (GaveR ((rndQ (Y * F + C) : Int) : Rat) W)) := Lib.hid (fun W va h => round_any _ va W h (sR.mono (by omega)))
  have HCe : Hid (∀ W va, IsR W va (Y * F + C) → Calls Tryz.prog 26 #[va] W (GaveR (((Y * F + C).ceil : Int) : Rat) W)) := Lib.hid (fun W va h => ceil_any _ va W h (sR.mono (by omega)))
  have HFl : Hid (∀ W va, IsR W va (Y * F + C) → Calls Tryz.prog 27 #[va] W (GaveR (((Y * F + C).floor : Int) : Rat) W)) := Lib.hid (fun W va h => floor_any _ va W h (sR.mono (by omega)))
  have hAp : apv X L M F C il im ca = cst ca (Y * F + C) := by unfold apv; rw [hY1, hY]
  rw [hAp]
  have HY1 : Hid ((il && decide (X < L)) = true ∧ Y1 = L ∨ (il && decide (X < L)) = false ∧ Y1 = X) := Lib.hid (by
    rw [← hY1]; unfold cll
    cases (il && decide (X < L)) with
    | true => exact Or.inl ⟨rfl, rfl⟩
    | false => exact Or.inr ⟨rfl, rfl⟩)
  have HY : Hid ((im && decide (M < Y1)) = true ∧ Y = M ∨ (im && decide (M < Y1)) = false ∧ Y = Y1) := Lib.hid (by
    rw [← hY]; unfold clm
    cases (im && decide (M < Y1)) with
    | true => exact Or.inl ⟨rfl, rfl⟩
    | false => exact Or.inr ⟨rfl, rfl⟩)
  have V := (((((Mq.refl w).rcons rC).rcons rF).rcons rM).rcons rL).rcons rX |>.three 38 33 33 #[.bool za, .slice pa na ka, .slice qa ma da, .bool zb, .slice pb nb kb, .slice qb mb db, .bool zc, .slice pc nc kc, .slice qc mc dc, .bool ze, .slice pe ne ke, .slice qe me de, .bool il, .bool im] #[.bool zr, .slice pr nr kr, .slice qr mr dr] #[.bool false, .slice none 0 0, .slice none 0 0]
  obtain ⟨W1, hW1⟩ : ∃ W1, ((w.alloc (.cells #[.bool za, .slice pa na ka, .slice qa ma da, .bool zb, .slice pb nb kb, .slice qb mb db, .bool zc, .slice pc nc kc, .slice qc mc dc, .bool ze, .slice pe ne ke, .slice qe me de, .bool il, .bool im] 38)).alloc (.cells #[.bool zr, .slice pr nr kr, .slice qr mr dr] 33)).alloc (.cells #[.bool false, .slice none 0 0, .slice none 0 0] 33) = W1 := ⟨_, rfl⟩
  rw [hW1] at V
  have HV1 : Hid (Mq w [(w.heap.size + 1, 33, #[.bool zr, .slice pr nr kr, .slice qr mr dr]), (w.heap.size + 1 + 1, 33, #[.bool false, .slice none 0 0, .slice none 0 0]), (w.heap.size, 38, #[.bool za, .slice pa na ka, .slice qa ma da, .bool zb, .slice pb nb kb, .slice qb mb db, .bool zc, .slice pc nc kc, .slice qc mc dc, .bool ze, .slice pe ne ke, .slice qe me de, .bool il, .bool im])] [] [(.agg #[.bool zr, .slice pr nr kr, .slice qr mr dr], X), (.agg #[.bool za, .slice pa na ka, .slice qa ma da], L), (.agg #[.bool zb, .slice pb nb kb, .slice qb mb db], M), (.agg #[.bool zc, .slice pc nc kc, .slice qc mc dc], F), (.agg #[.bool ze, .slice pe ne ke, .slice qe me de], C)] W1) := Lib.hid V.swap
  have Hd : Hid (∀ (k' b' : Nat) (t' : TypeId) (cs' : Array Value), [(w.heap.size + 1 + 1, 33, #[.bool false, .slice none 0 0, .slice none 0 0]), (w.heap.size, 38, #[.bool za, .slice pa na ka, .slice qa ma da, .bool zb, .slice pb nb kb, .slice qb mb db, .bool zc, .slice pc nc kc, .slice qc mc dc, .bool ze, .slice pe ne ke, .slice qe me de, .bool il, .bool im])][k']? = some (b', t', cs') → b' ≠ w.heap.size + 1) := Lib.hid (fun k' b' t' cs' e => by
    match k', e with
    | 0, e => simp at e; omega
    | 1, e => simp at e; omega
    | k + 2, e => simp at e)
  clear V htb hX hL hM hF hC hk hk1 rX rL rM rF rC hY1 hY sY1 sY sR hAp
  go_enter Tryz.func11, Tryz.ntmps11
  go_upto_region 1 with fail
  clear hW1
  go_cut [15] (fun tv wx => tv = .bool (il && decide (X < L)) ∧ Hid (Mq w [(w.heap.size + 1, 33, #[.bool zr, .slice pr nr kr, .slice qr mr dr]), (w.heap.size + 1 + 1, 33, #[.bool false, .slice none 0 0, .slice none 0 0]), (w.heap.size, 38, #[.bool za, .slice pa na ka, .slice qa ma da, .bool zb, .slice pb nb kb, .slice qb mb db, .bool zc, .slice pc nc kc, .slice qc mc dc, .bool ze, .slice pe ne ke, .slice qe me de, .bool il, .bool im])] [] [(.agg #[.bool zr, .slice pr nr kr, .slice qr mr dr], X), (.agg #[.bool za, .slice pa na ka, .slice qa ma da], L), (.agg #[.bool zb, .slice pb nb kb, .slice qb mb db], M), (.agg #[.bool zc, .slice pc nc kc, .slice qc mc dc], F), (.agg #[.bool ze, .slice pe ne ke, .slice qe me de], C)] wx))
  case first =>
    have V1 := HV1.out
    have c12 := V1.p12 2 rfl
    cases il with
    | false =>
      clear V1
      go_wp2_with fail
      go_meet
      case rel => exact ⟨rfl, HV1⟩
    | true =>
      have a0 := V1.c0 0 rfl; have a1 := V1.c1 0 rfl; have a2 := V1.c2 0 rfl
      have b0 := V1.p0 2 rfl; have b1 := V1.p1 2 rfl; have b2 := V1.p2 2 rfl
      go_wp2_with fail
      refine (HCm1.out _ _ _ (V1.rat 0 _ _ rfl) (V1.rat 1 _ _ rfl)).mono ?_
      rintro e w2 ⟨rfl, hb⟩
      have HV2 := Lib.hid (V1.below hb)
      clear V1 hb a0 a1 a2 b0 b1 b2 c12
      by_cases hlt : X < L
      · rw [cmpQ_lt hlt]
        have hd : decide (X < L) = true := decide_eq_true hlt
        go_wp2_with fail
        go_meet
        case rel => exact ⟨by rw [hd]; first | rfl | simp, HV2⟩
      · have hd : decide (X < L) = false := decide_eq_false hlt
        have hc : ¬ cmpQ X L < 0 := by unfold cmpQ; rw [if_neg hlt]; split <;> omega
        have hc2 : decide (cmpQ X L < 0) = false := decide_eq_false hc
        go_wp2_with fail
        go_meet
        case rel => exact ⟨by rw [hd]; first | rfl | simp, HV2⟩
  case rest =>
  obtain ⟨rfl, hV⟩ := hcut
  clear HV1
  go_upto_if 15 with fail
  go_cut [4] (fun pv wx => ∃ (zs : Bool) (ps : Option Addr) (ns ks : Nat) (qs : Option Addr) (ms ds : Nat), pv = .pointer (some ⟨w.heap.size + 1, 0, none⟩) ∧ Hid (Mq w [(w.heap.size + 1, 33, #[.bool zs, .slice ps ns ks, .slice qs ms ds]), (w.heap.size + 1 + 1, 33, #[.bool false, .slice none 0 0, .slice none 0 0]), (w.heap.size, 38, #[.bool za, .slice pa na ka, .slice qa ma da, .bool zb, .slice pb nb kb, .slice qb mb db, .bool zc, .slice pc nc kc, .slice qc mc dc, .bool ze, .slice pe ne ke, .slice qe me de, .bool il, .bool im])] [] [(.agg #[.bool zs, .slice ps ns ks, .slice qs ms ds], Y1), (.agg #[.bool za, .slice pa na ka, .slice qa ma da], L), (.agg #[.bool zb, .slice pb nb kb, .slice qb mb db], M), (.agg #[.bool zc, .slice pc nc kc, .slice qc mc dc], F), (.agg #[.bool ze, .slice pe ne ke, .slice qe me de], C)] wx))
  case first =>
    have V1 := hV.out
    rcases HY1.out with ⟨hb1, rfl⟩ | ⟨hb1, rfl⟩
    · rw [hb1]
      have a0 := V1.c0 0 rfl; have a1 := V1.c1 0 rfl; have a2 := V1.c2 0 rfl
      have b0 := V1.p0 2 rfl; have b1 := V1.p1 2 rfl; have b2 := V1.p2 2 rfl
      have f0 := V1.frozen 0 0 rfl; have f1 := V1.frozen 0 1 rfl; have f2 := V1.frozen 0 2 rfl
      have HV2 := Lib.hid (V1.put3p rfl Hd.out za pa na ka qa ma da)
      clear V1
      go_wp2_with fail
      go_meet
      case rel => exact ⟨_, _, _, _, _, _, _, rfl, Lib.hid (HV2.out.drop1 (HV2.out.rat 1 _ _ rfl))⟩
    · rw [hb1]
      clear V1
      go_wp2_with fail
      go_meet
      case rel => exact ⟨_, _, _, _, _, _, _, rfl, hV⟩
  case rest =>
  obtain ⟨zs, ps, ns, ks, qs, ms, ds, rfl, hV⟩ := hcut
  go_upto_region 3 with fail
  go_cut [26] (fun tv wx => tv = .bool (im && decide (M < Y1)) ∧ Hid (Mq w [(w.heap.size + 1, 33, #[.bool zs, .slice ps ns ks, .slice qs ms ds]), (w.heap.size + 1 + 1, 33, #[.bool false, .slice none 0 0, .slice none 0 0]), (w.heap.size, 38, #[.bool za, .slice pa na ka, .slice qa ma da, .bool zb, .slice pb nb kb, .slice qb mb db, .bool zc, .slice pc nc kc, .slice qc mc dc, .bool ze, .slice pe ne ke, .slice qe me de, .bool il, .bool im])] [] [(.agg #[.bool zs, .slice ps ns ks, .slice qs ms ds], Y1), (.agg #[.bool za, .slice pa na ka, .slice qa ma da], L), (.agg #[.bool zb, .slice pb nb kb, .slice qb mb db], M), (.agg #[.bool zc, .slice pc nc kc, .slice qc mc dc], F), (.agg #[.bool ze, .slice pe ne ke, .slice qe me de], C)] wx))
  case first =>
    have V1 := hV.out
    have c12 := V1.p13 2 rfl
    cases im with
    | false =>
      clear V1
      go_wp2_with fail
      go_meet
      case rel => exact ⟨rfl, hV⟩
    | true =>
      have a0 := V1.c0 0 rfl; have a1 := V1.c1 0 rfl; have a2 := V1.c2 0 rfl
      have b0 := V1.p3 2 rfl; have b1 := V1.p4 2 rfl; have b2 := V1.p5 2 rfl
      go_wp2_with fail
      refine (HCm2.out _ _ _ (V1.rat 0 _ _ rfl) (V1.rat 2 _ _ rfl)).mono ?_
      rintro e w2 ⟨rfl, hb⟩
      have HV2 := Lib.hid (V1.below hb)
      clear V1 hb a0 a1 a2 b0 b1 b2 c12
      by_cases hlt : M < Y1
      · rw [cmpQ_gt hlt]
        have hd : decide (M < Y1) = true := decide_eq_true hlt
        go_wp2_with fail
        go_meet
        case rel => exact ⟨by rw [hd]; first | rfl | simp, HV2⟩
      · have hd : decide (M < Y1) = false := decide_eq_false hlt
        have hc : ¬ 0 < cmpQ Y1 M := by unfold cmpQ; rw [if_neg hlt]; split <;> omega
        have hc2 : decide (0 < cmpQ Y1 M) = false := decide_eq_false hc
        go_wp2_with fail
        go_meet
        case rel => exact ⟨by rw [hd]; first | rfl | simp, HV2⟩
  case rest =>
  obtain ⟨rfl, hV⟩ := hcut
  go_upto_if 26 with fail
  go_cut [4] (fun pv wx => ∃ (zs : Bool) (ps : Option Addr) (ns ks : Nat) (qs : Option Addr) (ms ds : Nat), pv = .pointer (some ⟨w.heap.size + 1, 0, none⟩) ∧ Hid (Mq w [(w.heap.size + 1, 33, #[.bool zs, .slice ps ns ks, .slice qs ms ds]), (w.heap.size + 1 + 1, 33, #[.bool false, .slice none 0 0, .slice none 0 0]), (w.heap.size, 38, #[.bool za, .slice pa na ka, .slice qa ma da, .bool zb, .slice pb nb kb, .slice qb mb db, .bool zc, .slice pc nc kc, .slice qc mc dc, .bool ze, .slice pe ne ke, .slice qe me de, .bool il, .bool im])] [] [(.agg #[.bool zs, .slice ps ns ks, .slice qs ms ds], Y), (.agg #[.bool za, .slice pa na ka, .slice qa ma da], L), (.agg #[.bool zb, .slice pb nb kb, .slice qb mb db], M), (.agg #[.bool zc, .slice pc nc kc, .slice qc mc dc], F), (.agg #[.bool ze, .slice pe ne ke, .slice qe me de], C)] wx))
  case first =>
    have V1 := hV.out
    rcases HY.out with ⟨hb1, rfl⟩ | ⟨hb1, rfl⟩
    · rw [hb1]
      have a0 := V1.c0 0 rfl; have a1 := V1.c1 0 rfl; have a2 := V1.c2 0 rfl
      have b0 := V1.p3 2 rfl; have b1 := V1.p4 2 rfl; have b2 := V1.p5 2 rfl
      have f0 := V1.frozen 0 0 rfl; have f1 := V1.frozen 0 1 rfl; have f2 := V1.frozen 0 2 rfl
      have HV2 := Lib.hid (V1.put3p rfl Hd.out zb pb nb kb qb mb db)
      clear V1
      go_wp2_with fail
      go_meet
      case rel => exact ⟨_, _, _, _, _, _, _, rfl, Lib.hid (HV2.out.drop1 (HV2.out.rat 2 _ _ rfl))⟩
    · rw [hb1]
      clear V1
      go_wp2_with fail
      go_meet
      case rel => exact ⟨_, _, _, _, _, _, _, rfl, hV⟩
  case rest =>
  clear hV
  obtain ⟨zs, ps, ns, ks, qs, ms, ds, rfl, hV⟩ := hcut
  obtain ⟨W0, hW0⟩ : ∃ W0, W0 = wc := ⟨_, rfl⟩
  subst hW0
  have V0 := hV.out
  go_upto_region 5 with fail
  refine wp_region_inv 7 (fun a0 dj a W => ∃ vq0 vq1 vq2 vq3 vq4 vq5 vq6 : Value, a = puts a0 [(29, vq0), (30, vq1), (31, vq2), (32, vq3), (33, vq4), (34, vq5), (35, vq6)] ∧ Below W0.heap.size W0 W ∧ (dj 0 = true → vq0 = .agg #[.bool zs, .slice ps ns ks, .slice qs ms ds]) ∧ (dj 1 = true → vq1 = .pointer (some ⟨w.heap.size, 6, none⟩)) ∧ (dj 2 = true → vq2 = .agg #[.bool zc, .slice pc nc kc, .slice qc mc dc]) ∧ (dj 3 = true → IsR W vq3 (Y * F)) ∧ (dj 4 = true → vq4 = .pointer (some ⟨w.heap.size, 9, none⟩)) ∧ (dj 5 = true → vq5 = .agg #[.bool ze, .slice pe ne ke, .slice qe me de]) ∧ (dj 6 = true → IsR W vq6 (Y * F + C))) (by kernel_rfl) (by kernel_rfl) (by kernel_rfl) ?_ ?_ ?_ ?_
  · intro dj hcl i hi1 hi2 hd j hj
    have hi2 := Nat.lt_of_lt_of_le hi2 (show _ ≤ 8 from of_decide_eq_true (by kernel_rfl))
    obtain rfl : i = 7 := by omega
    · have e6 : dj 6 = true := hd 6 (by kernel_rfl)
      have e0 : dj 0 = true := hd 0 (by kernel_rfl)
      have e1 : dj 1 = true := hd 1 (by kernel_rfl)
      have e2 : dj 2 = true := hd 2 (by kernel_rfl)
      have e3 : dj 3 = true := hd 3 (by kernel_rfl)
      have e4 : dj 4 = true := hd 4 (by kernel_rfl)
      have e5 : dj 5 = true := hd 5 (by kernel_rfl)
      obtain rfl | rfl | rfl | rfl | rfl | rfl | rfl : j = 0 ∨ j = 1 ∨ j = 2 ∨ j = 3 ∨ j = 4 ∨ j = 5 ∨ j = 6 := by omega
      · exact e0
      · exact e1
      · exact e2
      · exact e3
      · exact e4
      · exact e5
      · exact e6
  · refine ⟨u29, u30, u31, u32, u33, u34, u35, (by simp only [puts, List.foldl_cons, List.foldl_nil, List.setIfInBounds_toArray, List.set_cons_zero, List.set_cons_succ]), (Below.refl _ _).drew, (fun h => by cases h), (fun h => by cases h), (fun h => by cases h), (fun h => by cases h), (fun h => by cases h), (fun h => by cases h), (fun h => by cases h)⟩
  · intro dj a W i hi hdi hcl hdep hI K hK
    obtain ⟨vq0, vq1, vq2, vq3, vq4, vq5, vq6, rfl, hB, p0, p1, p2, p3, p4, p5, p6⟩ := hI
    have V := V0.below hB
    obtain rfl | rfl | rfl | rfl | rfl | rfl | rfl : i = 0 ∨ i = 1 ∨ i = 2 ∨ i = 3 ∨ i = 4 ∨ i = 5 ∨ i = 6 := by omega
    · simp only [puts, List.foldl_cons, List.foldl_nil, List.setIfInBounds_toArray, List.set_cons_zero, List.set_cons_succ]
      have c0 := V.c0 0 rfl
      have c1 := V.c1 0 rfl
      have c2 := V.c2 0 rfl
      refine any_op (o := { dst := some 29, op := Op.load 33 (Operand.tmp 4), type := 33, pos := "target.go:62", after := #[], guard := none }) rfl rfl ?_
      go_wp2_with fail
      refine hK.out _ _ ?_
      exact ⟨.agg #[.bool zs, .slice ps ns ks, .slice qs ms ds], vq1, vq2, vq3, vq4, vq5, vq6, (by simp only [puts, List.foldl_cons, List.foldl_nil, List.setIfInBounds_toArray, List.set_cons_zero, List.set_cons_succ]), hB, (fun _ => rfl), p1, p2, p3, p4, p5, p6⟩
    · simp only [puts, List.foldl_cons, List.foldl_nil, List.setIfInBounds_toArray, List.set_cons_zero, List.set_cons_succ]
      refine any_op (o := { dst := some 30, op := Op.fieldAddr 38 (Operand.tmp 3) 2, type := 0, pos := "target.go:62", after := #[], guard := none }) rfl rfl ?_
      go_wp2_with fail
      refine hK.out _ _ ?_
      exact ⟨vq0, .pointer (some ⟨w.heap.size, 6, none⟩), vq2, vq3, vq4, vq5, vq6, (by simp only [puts, List.foldl_cons, List.foldl_nil, List.setIfInBounds_toArray, List.set_cons_zero, List.set_cons_succ]), hB, p0, (fun _ => rfl), p2, p3, p4, p5, p6⟩
    · obtain rfl := p1 (hdep 1 (by kernel_rfl))
      simp only [puts, List.foldl_cons, List.foldl_nil, List.setIfInBounds_toArray, List.set_cons_zero, List.set_cons_succ]
      have c0 := V.p6 2 rfl
      have c1 := V.p7 2 rfl
      have c2 := V.p8 2 rfl
      refine any_op (o := { dst := some 31, op := Op.load 33 (Operand.tmp 30), type := 33, pos := "target.go:62", after := #[{ on := 1, ground := Ground.data }], guard := none }) rfl rfl ?_
      go_wp2_with fail
      refine hK.out _ _ ?_
      exact ⟨vq0, .pointer (some ⟨w.heap.size, 6, none⟩), .agg #[.bool zc, .slice pc nc kc, .slice qc mc dc], vq3, vq4, vq5, vq6, (by simp only [puts, List.foldl_cons, List.foldl_nil, List.setIfInBounds_toArray, List.set_cons_zero, List.set_cons_succ]), hB, p0, (fun _ => rfl), (fun _ => rfl), p3, p4, p5, p6⟩
    · obtain rfl := p0 (hdep 0 (by kernel_rfl))
      obtain rfl := p2 (hdep 2 (by kernel_rfl))
      simp only [puts, List.foldl_cons, List.foldl_nil, List.setIfInBounds_toArray, List.set_cons_zero, List.set_cons_succ]
      refine any_op (o := { dst := some 32, op := Op.call { callee := Callee.value (Operand.func 24), args := #[Operand.tmp 29, Operand.tmp 31], argTypes := #[33, 33] }, type := 33, pos := "target.go:62", after := #[{ on := 0, ground := Ground.data }, { on := 2, ground := Ground.data }], guard := none }) rfl rfl ?_
      have hC := Lib.hid (HMul.out W _ _ (V0.bel.trans (hB.mono V0.bel.size)) (V.rat 0 _ _ rfl) (V.rat 3 _ _ rfl))
      go_simp
      refine hC.out.mono ?_
      rintro e W2 ⟨u, rfl, hn, hb⟩
      refine hK.out _ _ ?_
      exact ⟨.agg #[.bool zs, .slice ps ns ks, .slice qs ms ds], vq1, .agg #[.bool zc, .slice pc nc kc, .slice qc mc dc], u, vq4, vq5, vq6, (by simp only [puts, List.foldl_cons, List.foldl_nil, List.setIfInBounds_toArray, List.set_cons_zero, List.set_cons_succ]), hB.trans (hb.mono hB.size), (fun _ => rfl), p1, (fun _ => rfl), (fun _ => hn), p4, p5, (fun h => (p6 h).below hb (Nat.le_refl _))⟩
    · simp only [puts, List.foldl_cons, List.foldl_nil, List.setIfInBounds_toArray, List.set_cons_zero, List.set_cons_succ]
      refine any_op (o := { dst := some 33, op := Op.fieldAddr 38 (Operand.tmp 3) 3, type := 0, pos := "target.go:62", after := #[], guard := none }) rfl rfl ?_
      go_wp2_with fail
      refine hK.out _ _ ?_
      exact ⟨vq0, vq1, vq2, vq3, .pointer (some ⟨w.heap.size, 9, none⟩), vq5, vq6, (by simp only [puts, List.foldl_cons, List.foldl_nil, List.setIfInBounds_toArray, List.set_cons_zero, List.set_cons_succ]), hB, p0, p1, p2, p3, (fun _ => rfl), p5, p6⟩
    · obtain rfl := p4 (hdep 4 (by kernel_rfl))
      simp only [puts, List.foldl_cons, List.foldl_nil, List.setIfInBounds_toArray, List.set_cons_zero, List.set_cons_succ]
      have c0 := V.p9 2 rfl
      have c1 := V.p10 2 rfl
      have c2 := V.p11 2 rfl
      refine any_op (o := { dst := some 34, op := Op.load 33 (Operand.tmp 33), type := 33, pos := "target.go:62", after := #[{ on := 4, ground := Ground.data }], guard := none }) rfl rfl ?_
      go_wp2_with fail
      refine hK.out _ _ ?_
      exact ⟨vq0, vq1, vq2, vq3, .pointer (some ⟨w.heap.size, 9, none⟩), .agg #[.bool ze, .slice pe ne ke, .slice qe me de], vq6, (by simp only [puts, List.foldl_cons, List.foldl_nil, List.setIfInBounds_toArray, List.set_cons_zero, List.set_cons_succ]), hB, p0, p1, p2, p3, (fun _ => rfl), (fun _ => rfl), p6⟩
    · have n3 := p3 (hdep 3 (by kernel_rfl))
      obtain rfl := p5 (hdep 5 (by kernel_rfl))
      simp only [puts, List.foldl_cons, List.foldl_nil, List.setIfInBounds_toArray, List.set_cons_zero, List.set_cons_succ]
      refine any_op (o := { dst := some 35, op := Op.call { callee := Callee.value (Operand.func 23), args := #[Operand.tmp 32, Operand.tmp 34], argTypes := #[33, 33] }, type := 33, pos := "target.go:62", after := #[{ on := 3, ground := Ground.data }, { on := 5, ground := Ground.data }, { on := 3, ground := Ground.chain }], guard := none }) rfl rfl ?_
      have hC := Lib.hid (HAdd.out W _ _ (V0.bel.trans (hB.mono V0.bel.size)) n3 (V.rat 4 _ _ rfl))
      go_simp
      refine hC.out.mono ?_
      rintro e W2 ⟨u, rfl, hn, hb⟩
      refine hK.out _ _ ?_
      exact ⟨vq0, vq1, vq2, vq3, vq4, .agg #[.bool ze, .slice pe ne ke, .slice qe me de], u, (by simp only [puts, List.foldl_cons, List.foldl_nil, List.setIfInBounds_toArray, List.set_cons_zero, List.set_cons_succ]), hB.trans (hb.mono hB.size), p0, p1, p2, (fun _ => n3.below hb (Nat.le_refl _)), p4, (fun _ => rfl), (fun _ => hn)⟩
  · intro dj a W hd hI
    obtain ⟨vq0, vq1, vq2, vq3, vq4, vq5, vq6, rfl, hB, p0, p1, p2, p3, p4, p5, p6⟩ := hI
    have V := V0.below hB
    obtain rfl := p0 (hd 0 (by omega))
    obtain rfl := p1 (hd 1 (by omega))
    obtain rfl := p2 (hd 2 (by omega))
    have nq3 := p3 (hd 3 (by omega))
    obtain rfl := p4 (hd 4 (by omega))
    obtain rfl := p5 (hd 5 (by omega))
    have nq6 := p6 (hd 6 (by omega))
    clear hd p0 p1 p2 p3 p4 p5 p6 dj
    simp only [puts, List.foldl_cons, List.foldl_nil, List.setIfInBounds_toArray, List.set_cons_zero, List.set_cons_succ]
    show wpAny Tryz.prog .any _ _ 1 #[true, true, true, true, true, true, true, false] _ _
    obtain ⟨pt, nt, kt, qt, mt, dt, rfl, it1, it2⟩ := nq6
    have it : IsR W (.agg #[.bool (decide ((Y * F + C).num < 0)), .slice pt nt kt, .slice qt mt dt]) (Y * F + C) := ⟨pt, nt, kt, qt, mt, dt, rfl, it1, it2⟩
    obtain ⟨zt, hzt⟩ : ∃ z, decide ((Y * F + C).num < 0) = z := ⟨_, rfl⟩
    rw [hzt] at it ⊢
    have a0 := V.c0 0 rfl; have a1 := V.c1 0 rfl; have a2 := V.c2 0 rfl
    have f0 := V.frozen 0 0 rfl; have f1 := V.frozen 0 1 rfl; have f2 := V.frozen 0 2 rfl
    have HV2 := Lib.hid ((V.rcons it).put3p rfl Hd.out zt pt nt kt qt mt dt)
    clear V V0 hV nq3 it it1 it2 hB hzt
    refine wpAny_of_held (S := fun _ => True) _ _ _ _ ?_
    refine wpAnyH_ready (rs := [7]) (by kernel_rfl) (by simp) ?_
    refine AllReadyH.cons (o := { dst := none, op := Op.store 33 (Operand.tmp 4) (Operand.tmp 35), type := 0, pos := "target.go:62", after := #[{ on := 6, ground := Ground.data }, { on := 6, ground := Ground.chain }, { on := 0, ground := Ground.phase }, { on := 1, ground := Ground.phase }, { on := 2, ground := Ground.phase }, { on := 3, ground := Ground.phase }, { on := 4, ground := Ground.phase }, { on := 5, ground := Ground.phase }, { on := 6, ground := Ground.phase }], guard := none }) rfl (fun K hK => ?_) AllReadyH.nil
    go_simp
    refine hK.out _ _ trivial (fun _ => ?_)
    clear hK K
    try simp only [List.setIfInBounds_toArray, List.set_cons_zero, List.set_cons_succ]
    refine wpAnyH_done (by kernel_rfl) ?_ _
    clear a0 a1 a2 f0 f1 f2
    obtain ⟨W4, hW4⟩ : ∃ W4, ((W.setCell ⟨w.heap.size + 1, 0, none⟩ (.bool zt)).setCell ⟨w.heap.size + 1, 1, none⟩ (.slice pt nt kt)).setCell ⟨w.heap.size + 1, 2, none⟩ (.slice qt mt dt) = W4 := ⟨_, rfl⟩
    have V2 := HV2.out
    change Mq _ _ _ _ (((W.setCell ⟨w.heap.size + 1, 0, none⟩ (.bool zt)).setCell ⟨w.heap.size + 1, 1, none⟩ (.slice pt nt kt)).setCell ⟨w.heap.size + 1, 2, none⟩ (.slice qt mt dt)) at V2
    rw [hW4] at V2 ⊢
    have V3 := V2.swap
    have HR := Lib.hid (V2.rat 0 _ _ rfl)
    have Hd2 : Hid (∀ (k' b' : Nat) (t' : TypeId) (cs' : Array Value), [(w.heap.size + 1, 33, #[.bool zt, .slice pt nt kt, .slice qt mt dt]), (w.heap.size, 38, #[.bool za, .slice pa na ka, .slice qa ma da, .bool zb, .slice pb nb kb, .slice qb mb db, .bool zc, .slice pc nc kc, .slice qc mc dc, .bool ze, .slice pe ne ke, .slice qe me de, .bool il, .bool im])][k']? = some (b', t', cs') → b' ≠ w.heap.size + 1 + 1) := Lib.hid (fun k' b' t' cs' e => by
      match k', e with
      | 0, e => simp at e; omega
      | 1, e => simp at e; omega
      | k + 2, e => simp at e)
    have a0 := V3.c0 1 rfl; have a1 := V3.c1 1 rfl; have a2 := V3.c2 1 rfl
    have b0 := V3.c0 0 rfl; have b1 := V3.c1 0 rfl; have b2 := V3.c2 0 rfl
    have f0 := V3.frozen 0 0 rfl; have f1 := V3.frozen 0 1 rfl; have f2 := V3.frozen 0 2 rfl
    have HV3 := Lib.hid V3
    clear V3 V2 HV2 hW4
    by_cases h1 : ca = 1
    · subst h1
      go_wp2_with fail
      refine (HRn.out _ _ HR.out).mono ?_
      rintro e w5 ⟨v, rfl, hr, hb⟩
      obtain ⟨pu, nu, ku, qu, mu, du, rfl, it1, it2⟩ := hr
      obtain ⟨RQ, hRQ⟩ : ∃ x, ((rndQ (Y * F + C) : Int) : Rat) = x := ⟨_, rfl⟩
      rw [hRQ] at it1 it2 ⊢
      have it : IsR w5 (.agg #[.bool (decide (RQ.num < 0)), .slice pu nu ku, .slice qu mu du]) RQ := ⟨pu, nu, ku, qu, mu, du, rfl, it1, it2⟩
      obtain ⟨zu, hzu⟩ : ∃ z, decide (RQ.num < 0) = z := ⟨_, rfl⟩
      rw [hzu] at it ⊢
      have V5 := (HV3.out.below hb).rcons it
      have HFn := Lib.hid (V5.put3p rfl Hd2.out zu pu nu ku qu mu du)
      have b0 := V5.c0 0 rfl; have b1 := V5.c1 0 rfl; have b2 := V5.c2 0 rfl
      have f0 := V5.frozen 0 0 rfl; have f1 := V5.frozen 0 1 rfl; have f2 := V5.frozen 0 2 rfl
      have hcst : cst 1 (Y * F + C) = RQ := by rw [← hRQ]; rfl
      have Hcst := Lib.hid hcst
      clear V5 it it1 it2 hb hzu hcst hRQ
      go_wp2_with fail
      exact bodyPost_ret (res_rat rfl _ _ _ _ _ _ _ _ _ _ rfl (HFn.out.box 0 _ _ _ rfl).1) rfl ⟨_, rfl, (by rw [Hcst.out]; exact HFn.out.rat 0 _ _ rfl), HFn.out.bel⟩
    · have g1 : (ca == 1) = false := by simpa using h1
      by_cases h2 : ca = 2
      · subst h2
        go_wp2_with fail
        refine (HCe.out _ _ HR.out).mono ?_
        rintro e w5 ⟨v, rfl, hr, hb⟩
        obtain ⟨pu, nu, ku, qu, mu, du, rfl, it1, it2⟩ := hr
        obtain ⟨RQ, hRQ⟩ : ∃ x, (((Y * F + C).ceil : Int) : Rat) = x := ⟨_, rfl⟩
        rw [hRQ] at it1 it2 ⊢
        have it : IsR w5 (.agg #[.bool (decide (RQ.num < 0)), .slice pu nu ku, .slice qu mu du]) RQ := ⟨pu, nu, ku, qu, mu, du, rfl, it1, it2⟩
        obtain ⟨zu, hzu⟩ : ∃ z, decide (RQ.num < 0) = z := ⟨_, rfl⟩
        rw [hzu] at it ⊢
        have V5 := (HV3.out.below hb).rcons it
        have HFn := Lib.hid (V5.put3p rfl Hd2.out zu pu nu ku qu mu du)
        have b0 := V5.c0 0 rfl; have b1 := V5.c1 0 rfl; have b2 := V5.c2 0 rfl
        have f0 := V5.frozen 0 0 rfl; have f1 := V5.frozen 0 1 rfl; have f2 := V5.frozen 0 2 rfl
        have hcst : cst 2 (Y * F + C) = RQ := by rw [← hRQ]; rfl
        have Hcst := Lib.hid hcst
        clear V5 it it1 it2 hb hzu hcst hRQ
        go_wp2_with fail
        exact bodyPost_ret (res_rat rfl _ _ _ _ _ _ _ _ _ _ rfl (HFn.out.box 0 _ _ _ rfl).1) rfl ⟨_, rfl, (by rw [Hcst.out]; exact HFn.out.rat 0 _ _ rfl), HFn.out.bel⟩
      · have g2 : (ca == 2) = false := by simpa using h2
        by_cases h3 : ca = 3
        · subst h3
          go_wp2_with fail
          refine (HFl.out _ _ HR.out).mono ?_
          rintro e w5 ⟨v, rfl, hr, hb⟩
          obtain ⟨pu, nu, ku, qu, mu, du, rfl, it1, it2⟩ := hr
          obtain ⟨RQ, hRQ⟩ : ∃ x, (((Y * F + C).floor : Int) : Rat) = x := ⟨_, rfl⟩
          rw [hRQ] at it1 it2 ⊢
          have it : IsR w5 (.agg #[.bool (decide (RQ.num < 0)), .slice pu nu ku, .slice qu mu du]) RQ := ⟨pu, nu, ku, qu, mu, du, rfl, it1, it2⟩
          obtain ⟨zu, hzu⟩ : ∃ z, decide (RQ.num < 0) = z := ⟨_, rfl⟩
          rw [hzu] at it ⊢
          have V5 := (HV3.out.below hb).rcons it
          have HFn := Lib.hid (V5.put3p rfl Hd2.out zu pu nu ku qu mu du)
          have b0 := V5.c0 0 rfl; have b1 := V5.c1 0 rfl; have b2 := V5.c2 0 rfl
          have f0 := V5.frozen 0 0 rfl; have f1 := V5.frozen 0 1 rfl; have f2 := V5.frozen 0 2 rfl
          have hcst : cst 3 (Y * F + C) = RQ := by rw [← hRQ]; rfl
          have Hcst := Lib.hid hcst
          clear V5 it it1 it2 hb hzu hcst hRQ
          go_wp2_with fail
          exact bodyPost_ret (res_rat rfl _ _ _ _ _ _ _ _ _ _ rfl (HFn.out.box 0 _ _ _ rfl).1) rfl ⟨_, rfl, (by rw [Hcst.out]; exact HFn.out.rat 0 _ _ rfl), HFn.out.bel⟩
        · have g3 : (ca == 3) = false := by simpa using h3
          have hcst : cst ca (Y * F + C) = Y * F + C := by unfold cst; rw [if_neg h1, if_neg h2, if_neg h3]
          have Hcst := Lib.hid hcst
          have HFn := Lib.hid (HV3.out.put3p rfl Hd2.out zt pt nt kt qt mt dt)
          clear hcst h1 h2 h3
          go_wp2_with fail
          exact bodyPost_ret (res_rat rfl _ _ _ _ _ _ _ _ _ _ rfl (HFn.out.box 0 _ _ _ rfl).1) rfl ⟨_, rfl, (by rw [Hcst.out]; exact HFn.out.rat 0 _ _ rfl), HFn.out.bel⟩
end Go.Proofs.YtckglpkafhmehaaGreatDoor
