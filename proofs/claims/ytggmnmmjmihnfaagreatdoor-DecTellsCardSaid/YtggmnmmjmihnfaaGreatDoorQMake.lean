/-
 Law 2: the small functions of fractions: over, Den, Num, Whole, Neg, made.
 Law 2: Make.
-/
import Derived.Test.YtggmnmmjmihnfaaGreatDoorQBase
namespace Go.Proofs.YtggmnmmjmihnfaaGreatDoor
open Go.RowKit
set_option linter.unusedVariables false
section
variable {w W W' : World} {bx : List (Nat × TypeId × Array Value)} {l : List (Value × Nat)} {r : List (Value × Rat)}
theorem isR_put {W : World} {v : Value} {x : Rat} {b i : Nat} {t : TypeId} {cs : Array Value} (h : IsR W v x) (hk : Blk W b t cs) (hp : Plain cs) (y : Value) : IsR (W.setCell ⟨b, i, none⟩ y) v x := by
 obtain ⟨p, n, c, p', n', c', rfl, h1, h2⟩ := h
 exact ⟨p, n, c, p', n', c', rfl, isN_put h1 (isN_out h1 hk hp), isN_put h2 (isN_out h2 hk hp)⟩
theorem Mq.put (h : Mq w bx l r W) (k i : Nat) {b : Nat} {t : TypeId} {cs : Array Value} (e : bx[k]? = some (b, t, cs)) (hp : Plain cs) (hd : ∀ (k' b' : Nat) (t' : TypeId) (cs' : Array Value), bx[k']? = some (b', t', cs') → k' ≠ k → b' ≠ b) (y : Value) :
 Mq w (bx.set k (b, t, cs.setIfInBounds i y)) l r (W.setCell ⟨b, i, none⟩ y) := by
 have hk := h.box k b t cs e
 refine ⟨h.bel.setCell (p := ⟨b, i, none⟩) hk.2 _, fun k' b' t' cs' e' => ?_, fun j v N e' => ⟨isN_put (h.num j v N e').1 (isN_out (h.num j v N e').1 hk.1 hp), (h.num j v N e').2⟩, fun j v x e' => isR_put (h.rat j v x e') hk.1 hp y⟩
 by_cases ek : k' = k
 · subst ek
   have hlt : k' < bx.length := (List.getElem?_eq_some_iff.1 e).1
   rw [List.getElem?_set_self hlt] at e'
   simp only [Option.some.injEq, Prod.mk.injEq] at e'
   obtain ⟨rfl, rfl, rfl⟩ := e'
   exact ⟨hk.1.set_ i _, hk.2⟩
 · rw [List.getElem?_set_ne (Ne.symm ek)] at e'
   have h2 := h.box k' b' t' cs' e'
   exact ⟨h2.1.far (by exact hd k' b' t' cs' e' ek) _, h2.2⟩
theorem Mq.addbox (h : Mq w bx l r W) {b : Nat} {t : TypeId} {cs : Array Value} (hk : Blk W b t cs) (hb : w.heap.size ≤ b) : Mq w ((b, t, cs) :: bx) l r W := ⟨h.bel, fun k b' t' cs' e => by
 cases k with
 | zero =>
  simp only [List.getElem?_cons_zero, Option.some.injEq, Prod.mk.injEq] at e
  obtain ⟨rfl, rfl, rfl⟩ := e
  exact ⟨hk, hb⟩
 | succ k => exact h.box k b' t' cs' (by simpa using e), h.num, h.rat⟩
/-- A new box of a number, and the number that is stored into it. -/
theorem Mq.newbox (h : Mq w bx l r W) {b : Nat} {p : Option Addr} {n c : Nat} (hk : Blk W b 25 #[.slice p n c]) (hb : w.heap.size ≤ b) (hd : ∀ (k' b' : Nat) (t' : TypeId) (cs' : Array Value), bx[k']? = some (b', t', cs') → b' ≠ b) (x : Option Addr) (y z : Nat) :
 Mq w ((b, 25, #[.slice x y z]) :: bx) l r (W.setCell ⟨b, 0, none⟩ (.slice x y z)) := by
 have h1 : Mq w ((b, 25, #[.slice p n c]) :: bx) l r W := ⟨h.bel, fun k b' t' cs' e => by
  cases k with
  | zero =>
   simp only [List.getElem?_cons_zero, Option.some.injEq, Prod.mk.injEq] at e
   obtain ⟨rfl, rfl, rfl⟩ := e
   exact ⟨hk, hb⟩
  | succ k => exact h.box k b' t' cs' (by simpa using e), h.num, h.rat⟩
 exact h1.put 0 0 rfl (plain_nat _ _ _) (fun k' b' t' cs' e hne => by
  cases k' with
  | zero => exact absurd rfl hne
  | succ k => exact hd k b' t' cs' (by simpa using e)) (.slice x y z)
end
set_option maxRecDepth 100000 in
set_option maxHeartbeats 1000000 in
theorem over_any (N B : Nat) (va vb : Value) (w : World) (ha : IsN w va N) (hb : IsN w vb B) (hN : N < 18446744073709551616 ^ 100) (hB : B < 18446744073709551616 ^ 100) (hB0 : 0 < B) :
 Calls Tryz.prog 48 #[va, vb] w (GaveV (N / B) w) := by
 obtain ⟨a1, n1, c1, rfl⟩ := isN_form ha
 obtain ⟨a2, n2, c2, rfl⟩ := isN_form hb
 have V := (((Mq.refl w).cons hb hB).cons ha hN).three 25 25 25 #[.slice a1 n1 c1] #[.slice a2 n2 c2] #[.slice none 0 0]
 have qa := V.cell 2 0 rfl rfl
 have qb := V.cell 1 0 rfl rfl
 clear ha hb
 by_cases h1 : B = 1
 · have e : N / B = N := by rw [h1, Nat.div_one]
   rw [e]
   go_enter Tryz.func48, Tryz.ntmps48
   go_wp2_with fail
   refine (V.one 1 rfl (decide_eq_true h1)).mono ?_
   rintro e w2 ⟨rfl, V2⟩
   have q2 := V2.cell 2 0 rfl rfl
   have qr := V2.cell 0 0 rfl rfl
   have fr := V2.frozen 0 0 rfl
   have HF := Lib.hid (V2.fin1 0 0 rfl rfl)
   clear V V2 qa qb e
   go_wp2_with fail
   exact bodyPost_ret (res_nat rfl _ _ _ _ rfl HF.out.1) rfl HF.out.2
 · go_enter Tryz.func48, Tryz.ntmps48
   go_wp2_with fail
   refine (V.one 1 rfl (decide_eq_false h1)).mono ?_
   rintro e w2 ⟨rfl, V2⟩
   have qa2 := V2.cell 2 0 rfl rfl
   have qb2 := V2.cell 1 0 rfl rfl
   clear V qa qb
   go_wp2_with fail
   refine (V2.dvm 0 1 rfl rfl hB0).mono ?_
   rintro e w3 ⟨x, y, z, x', y', z', rfl, V3⟩
   replace V3 := V3.two 25 25 #[.slice x y z] #[.slice x' y' z']
   have q3 := V3.cell 1 0 rfl rfl
   have qr := V3.cell 2 0 rfl rfl
   have fr := V3.frozen 2 0 rfl
   have HF := Lib.hid (V3.fin1 2 0 rfl rfl)
   clear V2 V3 qa2 qb2
   go_wp2_with fail
   exact bodyPost_ret (res_nat rfl _ _ _ _ rfl HF.out.1) rfl HF.out.2
set_option maxRecDepth 100000 in
set_option maxHeartbeats 1000000 in
theorem den_any (x : Rat) (va : Value) (w : World) (ha : IsR w va x) (hx : x.den < 18446744073709551616 ^ 100) : Calls Tryz.prog 40 #[va] w (GaveV x.den w) := by
 obtain ⟨p, n, c, p', n', c', rfl, h1, h2⟩ := ha
 obtain ⟨z, hz⟩ : ∃ z, decide (x.num < 0) = z := ⟨_, rfl⟩
 rw [hz]
 have hdn : dn x < 18446744073709551616 ^ 100 := by unfold dn; split <;> omega
 have V := ((Mq.refl w).cons h2 hdn).two 27 25 #[.bool z, .slice p n c, .slice p' n' c'] #[.slice none 0 0]
 have q2 := V.cell 1 2 rfl rfl
 clear h1 h2 hz
 by_cases h1 : x.den = 1
 · go_enter Tryz.func40, Tryz.ntmps40
   go_wp2_with fail
   refine (V.zero 0 rfl (decide_eq_true (dn_one h1))).mono ?_
   rintro e w2 ⟨rfl, V2⟩
   clear V q2
   go_wp2_with fail
   refine (V2.of (N := 1) (by decide)).mono ?_
   rintro e w3 ⟨x3, y3, z3, rfl, V3⟩
   have qr := V3.cell 0 0 rfl rfl
   have fr := V3.frozen 0 0 rfl
   have HF := Lib.hid (V3.fin1 0 0 rfl rfl)
   clear V2 V3
   go_wp2_with fail
   exact bodyPost_ret (res_nat rfl _ _ _ _ rfl HF.out.1) rfl (by rw [h1]; exact HF.out.2)
 · go_enter Tryz.func40, Tryz.ntmps40
   go_wp2_with fail
   refine (V.zero 0 rfl (decide_eq_false (fun e => h1 (dn_zero.1 e)))).mono ?_
   rintro e w2 ⟨rfl, V2⟩
   have q3 := V2.cell 1 2 rfl rfl
   have qr := V2.cell 0 0 rfl rfl
   have fr := V2.frozen 0 0 rfl
   rw [dn_ne h1] at V2
   have HF := Lib.hid (V2.fin1 0 0 rfl rfl)
   clear V V2 q2
   go_wp2_with fail
   exact bodyPost_ret (res_nat rfl _ _ _ _ rfl HF.out.1) rfl HF.out.2
set_option maxRecDepth 100000 in
theorem num_any (x : Rat) (va : Value) (w : World) (ha : IsR w va x) (hx : x.num.natAbs < 18446744073709551616 ^ 100) : Calls Tryz.prog 44 #[va] w (GaveV x.num.natAbs w) := by
 obtain ⟨p, n, c, p', n', c', rfl, h1, h2⟩ := ha
 obtain ⟨z, hz⟩ : ∃ z, decide (x.num < 0) = z := ⟨_, rfl⟩
 rw [hz]
 have V0 := ((Mq.refl w).cons h1 hx).two 27 25 #[.bool z, .slice p n c, .slice p' n' c'] #[.slice none 0 0]
 have V := ((Mq.refl w).cons h1 hx).two 27 25 #[.bool z, .slice p n c, .slice p' n' c'] #[.slice p n c]
 have q2 := V0.cell 1 1 rfl rfl
 have q3 := V.cell 1 1 rfl rfl
 have HF := Lib.hid (V.fin0 0 0 rfl rfl)
 clear V0
 clear h1 h2 hz V
 go_enter Tryz.func44, Tryz.ntmps44
 go_wp2_with fail
 exact bodyPost_ret (res_nat rfl _ _ _ _ rfl HF.out.1) rfl HF.out.2
set_option maxRecDepth 100000 in
theorem neg_any (x : Rat) (va : Value) (w : World) (ha : IsR w va x) : Calls Tryz.prog 46 #[va] w fun e w' => e = .returned (.bool (decide (x.num < 0))) ∧ Below w.heap.size w w' := by
 obtain ⟨p, n, c, p', n', c', rfl, h1, h2⟩ := ha
 obtain ⟨z, hz⟩ : ∃ z, decide (x.num < 0) = z := ⟨_, rfl⟩
 rw [hz]
 have V := (Mq.refl w).alloc 27 #[.bool z, .slice p n c, .slice p' n' c']
 have q2 := V.cell 0 0 rfl rfl
 have HB := Lib.hid V.bel
 clear h1 h2 hz V
 go_enter Tryz.func46, Tryz.ntmps46
 go_wp2_with fail
 go_ret
 exact ⟨rfl, HB.out⟩
set_option maxRecDepth 100000 in
theorem whole_any (x : Rat) (va : Value) (w : World) (ha : IsR w va x) (hx : x.den < 18446744073709551616 ^ 100) : Calls Tryz.prog 28 #[va] w fun e w' => e = .returned (.bool (decide (x.den = 1))) ∧ Below w.heap.size w w' := by
 obtain ⟨p, n, c, p', n', c', rfl, h1, h2⟩ := ha
 obtain ⟨z, hz⟩ : ∃ z, decide (x.num < 0) = z := ⟨_, rfl⟩
 rw [hz]
 have hdn : dn x < 18446744073709551616 ^ 100 := by unfold dn; split <;> omega
 have V := ((Mq.refl w).cons h2 hdn).alloc 27 #[.bool z, .slice p n c, .slice p' n' c']
 have q2 := V.cell 0 2 rfl rfl
 have hd : decide (dn x = 0) = decide (x.den = 1) := decide_eq_decide.2 dn_zero
 obtain ⟨y, hy⟩ : ∃ y, decide (x.den = 1) = y := ⟨_, rfl⟩
 rw [hy] at hd ⊢
 clear h1 h2 hz hy
 go_enter Tryz.func28, Tryz.ntmps28
 go_wp2_with fail
 refine (V.zero 0 rfl hd).mono ?_
 rintro e w2 ⟨rfl, V2⟩
 have HB := Lib.hid V2.bel
 clear V V2 q2
 go_wp2_with fail
 go_ret
 exact ⟨rfl, HB.out⟩
set_option maxRecDepth 100000 in
set_option maxHeartbeats 1000000 in
theorem made_any (x : Rat) (z : Bool) (N D : Nat) (va vb : Value) (w : World) (ha : IsN w va N) (hb : IsN w vb D) (hN : N < 18446744073709551616 ^ 100) (hD : D < 18446744073709551616 ^ 100) (h1 : x.num.natAbs = N) (h2 : x.den = D) (h3 : N ≠ 0 → decide (x.num < 0) = z) :
 Calls Tryz.prog 47 #[.bool z, va, vb] w (GaveR x w) := by
 obtain ⟨a1, n1, c1, rfl⟩ := isN_form ha
 obtain ⟨a2, n2, c2, rfl⟩ := isN_form hb
 have V := ((((Mq.refl w).cons (isN_zero w) (Nat.pow_pos (by decide))).cons hb hD).cons ha hN).three 25 25 27 #[.slice a1 n1 c1] #[.slice a2 n2 c2] #[.bool false, .slice none 0 0, .slice none 0 0]
 have qa := V.cell 2 0 rfl rfl
 clear ha hb
 by_cases h0 : N = 0
 · have hx0 : x.num = 0 := Int.natAbs_eq_zero.1 (by rw [h1]; exact h0)
   have hd0 : dn x = 0 := by
    have := x.reduced
    rw [hx0] at this
    exact dn_one (by simpa using this)
   have hs : decide (x.num < 0) = false := by rw [hx0]; rfl
   go_enter Tryz.func47, Tryz.ntmps47
   go_wp2_with fail
   refine (V.zero 0 rfl (decide_eq_true h0)).mono ?_
   rintro e w2 ⟨rfl, V2⟩
   have r0 := V2.cell 0 0 rfl rfl; have r1 := V2.cell 0 1 rfl rfl; have r2 := V2.cell 0 2 rfl rfl
   have f0 := V2.frozen 0 0 rfl; have f1 := V2.frozen 0 1 rfl; have f2 := V2.frozen 0 2 rfl
   have HF := Lib.hid (V2.fin30 (x := x) (y := false) (q := none) (m := 0) (d := 0) (q' := none) (m' := 0) (d' := 0) 0 2 2 rfl (by rw [hx0]; rfl) (by rw [hd0]; rfl) hs)
   have HF3 := Lib.hid (V2.fin3 (x := x) (y := false) (q := none) (m := 0) (d := 0) (q' := none) (m' := 0) (d' := 0) 0 2 2 rfl (by rw [hx0]; rfl) (by rw [hd0]; rfl) hs)
   clear V V2 qa
   go_wp2_with fail
   first | exact bodyPost_ret (res_rat rfl _ _ _ _ _ _ _ _ _ _ rfl HF.out.1) rfl HF.out.2 | exact bodyPost_ret (res_rat rfl _ _ _ _ _ _ _ _ _ _ rfl HF3.out.1) rfl HF3.out.2
 · have hz := h3 h0
   have hn0 : x.num.natAbs = N := h1
   by_cases hD1 : D = 1
   · have hd0 : dn x = 0 := dn_one (by rw [h2]; exact hD1)
     go_enter Tryz.func47, Tryz.ntmps47
     go_wp2_with fail
     refine (V.zero 0 rfl (decide_eq_false h0)).mono ?_
     rintro e w2 ⟨rfl, V2⟩
     have qb2 := V2.cell 1 0 rfl rfl
     clear V qa
     go_wp2_with fail
     refine (V2.one 1 rfl (decide_eq_true hD1)).mono ?_
     rintro e w3 ⟨rfl, V3⟩
     have s0 := V3.cell 1 0 rfl rfl
     have g0 := V3.frozen 1 0 rfl
     have V4 := V3.put 1 0 rfl (plain_nat _ _ _) (fun k' b' t' cs' e hne => by
      match k' with
      | 0 => simp at e; omega
      | 1 => exact absurd rfl hne
      | 2 => simp at e; omega
      | k + 3 => simp at e) (.slice none 0 0)
     have qa4 := V4.cell 2 0 rfl rfl
     have qb4 := V4.cell 1 0 rfl rfl
     have r0 := V4.cell 0 0 rfl rfl; have r1 := V4.cell 0 1 rfl rfl; have r2 := V4.cell 0 2 rfl rfl
     have f0 := V4.frozen 0 0 rfl; have f1 := V4.frozen 0 1 rfl; have f2 := V4.frozen 0 2 rfl
     have HF := Lib.hid (V4.fin3 (x := x) (y := z) (q := a1) (m := n1) (d := c1) (q' := none) (m' := 0) (d' := 0) 0 0 2 rfl (by rw [hn0]; rfl) (by rw [hd0]; rfl) hz)
     clear V2 V3 V4 qb2
     go_wp2_with fail
     exact bodyPost_ret (res_rat rfl _ _ _ _ _ _ _ _ _ _ rfl HF.out.1) rfl HF.out.2
   · have hd0 : dn x = D := by rw [← h2]; exact dn_ne (by rw [h2]; exact hD1)
     go_enter Tryz.func47, Tryz.ntmps47
     go_wp2_with fail
     refine (V.zero 0 rfl (decide_eq_false h0)).mono ?_
     rintro e w2 ⟨rfl, V2⟩
     have qb2 := V2.cell 1 0 rfl rfl
     clear V qa
     go_wp2_with fail
     refine (V2.one 1 rfl (decide_eq_false hD1)).mono ?_
     rintro e w3 ⟨rfl, V3⟩
     have qa4 := V3.cell 2 0 rfl rfl
     have qb4 := V3.cell 1 0 rfl rfl
     have r0 := V3.cell 0 0 rfl rfl; have r1 := V3.cell 0 1 rfl rfl; have r2 := V3.cell 0 2 rfl rfl
     have f0 := V3.frozen 0 0 rfl; have f1 := V3.frozen 0 1 rfl; have f2 := V3.frozen 0 2 rfl
     have HF := Lib.hid (V3.fin3 (x := x) (y := z) (q := a1) (m := n1) (d := c1) (q' := a2) (m' := n2) (d' := c2) 0 0 1 rfl (by rw [hn0]; rfl) (by rw [hd0]; rfl) hz)
     clear V2 V3 qb2
     go_wp2_with fail
     exact bodyPost_ret (res_rat rfl _ _ _ _ _ _ _ _ _ _ rfl HF.out.1) rfl HF.out.2
end Go.Proofs.YtggmnmmjmihnfaaGreatDoor
namespace Go.Proofs.YtggmnmmjmihnfaaGreatDoor
open Go.RowKit
set_option linter.unusedVariables false
theorem div_lt100 {N G : Nat} (h : N < 18446744073709551616 ^ 100) : N / G < 18446744073709551616 ^ 100 := Nat.lt_of_le_of_lt (Nat.div_le_self _ _) h
theorem q26 {x : Nat} (h : x < 18446744073709551616 ^ 40) : x < 18446744073709551616 ^ 100 := Nat.lt_of_lt_of_le h (w64_mono (by omega))
set_option maxRecDepth 100000 in
set_option maxHeartbeats 4000000 in
theorem make_zero (z : Bool) (N : Nat) (va vb : Value) (w : World) (ha : IsN w va N) (hb : IsN w vb 0) (hN : N < 18446744073709551616 ^ 40) :
 Calls Tryz.prog 16 #[.bool z, va, vb] w fun e w' => e = .returned (.tuple #[.agg #[.bool false, .slice none 0 0, .slice none 0 0], .int .i64 4]) ∧ Below w.heap.size w w' := by
 obtain ⟨a1, n1, c1, rfl⟩ := isN_form ha
 obtain ⟨a2, n2, c2, rfl⟩ := isN_form hb
 have V := (((Mq.refl w).cons hb (Nat.pow_pos (by decide))).cons ha (q26 hN)).three 25 25 27 #[.slice a1 n1 c1] #[.slice a2 n2 c2] #[.bool false, .slice none 0 0, .slice none 0 0]
 have qb := V.cell 1 0 rfl rfl
 clear ha hb
 go_enter Tryz.func16, Tryz.ntmps16
 go_wp2_with fail
 refine (V.zero 1 rfl rfl).mono ?_
 rintro e w2 ⟨rfl, V2⟩
 have r0 := V2.cell 0 0 rfl rfl; have r1 := V2.cell 0 1 rfl rfl; have r2 := V2.cell 0 2 rfl rfl
 have f0 := V2.frozen 0 0 rfl; have f1 := V2.frozen 0 1 rfl; have f2 := V2.frozen 0 2 rfl
 have HK := Lib.hid (V2.box 0 _ _ _ rfl)
 have HB := Lib.hid V2.bel
 clear V V2 qb
 go_wp2_with fail
 exact bodyPost_ret (res_rat2 rfl _ _ _ _ _ _ _ _ _ _ _ rfl rfl (blk_set3 HK.out.1 _ _ _)) rfl ⟨rfl, below_set3 HB.out HK.out.2 _ _ _⟩
set_option maxRecDepth 100000 in
set_option maxHeartbeats 8000000 in
theorem make_any (X : Rat) (z : Bool) (N D : Nat) (va vb : Value) (w : World) (ha : IsN w va N) (hb : IsN w vb D) (hN26 : N < 18446744073709551616 ^ 40) (hD26 : D < 18446744073709551616 ^ 40) (hD0 : 0 < D) (htb : TabB w)
 (hX : X.num.natAbs = N / Nat.gcd N D ∧ X.den = D / Nat.gcd N D ∧ (N / Nat.gcd N D ≠ 0 → decide (X.num < 0) = z)) :
 Calls Tryz.prog 16 #[.bool z, va, vb] w fun e w' => ∃ v, e = .returned (.tuple #[v, .int .i64 0]) ∧ IsR w' v X ∧ Below w.heap.size w w' := by
 obtain ⟨a1, n1, c1, rfl⟩ := isN_form ha
 obtain ⟨a2, n2, c2, rfl⟩ := isN_form hb
 have hN := q26 hN26
 have hD := q26 hD26
 have V := (((Mq.refl w).cons hb hD).cons ha hN).three 25 25 27 #[.slice a1 n1 c1] #[.slice a2 n2 c2] #[.bool false, .slice none 0 0, .slice none 0 0]
 have qb := V.cell 1 0 rfl rfl
 have hG : Nat.gcd N D < 18446744073709551616 ^ 100 := Nat.lt_of_le_of_lt (Nat.gcd_le_right N hD0) hD
 have hG0 : 0 < Nat.gcd N D := Nat.gcd_pos_of_pos_right _ hD0
 obtain ⟨G, hGe⟩ : ∃ G, Nat.gcd N D = G := ⟨_, rfl⟩
 have HGe := Lib.hid hGe
 rw [hGe] at hG hG0 hX
 have hNg : N / G < 18446744073709551616 ^ 100 := div_lt100 hN
 have hDg : D / G < 18446744073709551616 ^ 100 := div_lt100 hD
 have HX := Lib.hid hX
 clear ha hb hGe hX
 go_enter Tryz.func16, Tryz.ntmps16
 go_wp2_with fail
 refine (V.zero 1 rfl (decide_eq_false (by omega))).mono ?_
 rintro e w2 ⟨rfl, V2⟩
 have qa2 := V2.cell 2 0 rfl rfl
 have qb2 := V2.cell 1 0 rfl rfl
 clear V qb
 go_wp2_with fail
 refine (V2.gcd 0 1 rfl rfl hN26 hD26 htb ⟨HGe.out, hG⟩).mono ?_
 rintro e w3 ⟨xg, yg, zg, rfl, V3⟩
 have V4 := V3.alloc 25 #[.slice xg yg zg]
 obtain ⟨W4, hW4⟩ : ∃ W4, w3.alloc (.cells #[.slice xg yg zg] 25) = W4 := ⟨_, rfl⟩
 rw [hW4] at V4
 have HW4 := Lib.hid hW4
 clear V2 V3 qa2 qb2 hW4
 go_wp2_with fail
 rw [HW4.out]
 refine wp_region_inv 8 (fun a0 dj a W => ∃ vr0 vr1 vr2 vr3 vr4 vr5 vr6 vr7 : Value, a = puts a0 [(15, vr0), (16, vr1), (17, vr2), (18, vr3), (19, vr4), (20, vr5), (21, vr6), (22, vr7)] ∧ Below W4.heap.size W4 W ∧ (dj 0 = true → vr0 = .bool z) ∧ (dj 1 = true → vr1 = .agg #[.slice a1 n1 c1]) ∧ (dj 2 = true → vr2 = .agg #[.slice xg yg zg]) ∧ (dj 3 = true → Nm W vr3 (N / G)) ∧ (dj 4 = true → vr4 = .agg #[.slice a2 n2 c2]) ∧ (dj 5 = true → vr5 = .agg #[.slice xg yg zg]) ∧ (dj 6 = true → Nm W vr6 (D / G)) ∧ (dj 7 = true → IsR W vr7 (X))) (by kernel_rfl) (by kernel_rfl) (by kernel_rfl) ?_ ?_ ?_ ?_
 · intro dj hcl i hi1 hi2 hd j hj
   have hi2 := Nat.lt_of_lt_of_le hi2 (show _ ≤ 10 from of_decide_eq_true (by kernel_rfl))
   obtain rfl | rfl : i = 8 ∨ i = 9 := by omega
   · have e7 : dj 7 = true := hd 7 (by kernel_rfl)
     have e0 : dj 0 = true := hd 0 (by kernel_rfl)
     have e1 : dj 1 = true := hd 1 (by kernel_rfl)
     have e2 : dj 2 = true := hd 2 (by kernel_rfl)
     have e3 : dj 3 = true := hd 3 (by kernel_rfl)
     have e4 : dj 4 = true := hd 4 (by kernel_rfl)
     have e5 : dj 5 = true := hd 5 (by kernel_rfl)
     have e6 : dj 6 = true := hd 6 (by kernel_rfl)
     obtain rfl | rfl | rfl | rfl | rfl | rfl | rfl | rfl : j = 0 ∨ j = 1 ∨ j = 2 ∨ j = 3 ∨ j = 4 ∨ j = 5 ∨ j = 6 ∨ j = 7 := by omega
     · exact e0
     · exact e1
     · exact e2
     · exact e3
     · exact e4
     · exact e5
     · exact e6
     · exact e7
   · have e8 : dj 8 = true := hd 8 (by kernel_rfl)
     have e0 : dj 0 = true := hd 0 (by kernel_rfl)
     have e1 : dj 1 = true := hd 1 (by kernel_rfl)
     have e2 : dj 2 = true := hd 2 (by kernel_rfl)
     have e3 : dj 3 = true := hd 3 (by kernel_rfl)
     have e4 : dj 4 = true := hd 4 (by kernel_rfl)
     have e5 : dj 5 = true := hd 5 (by kernel_rfl)
     have e6 : dj 6 = true := hd 6 (by kernel_rfl)
     have e7 : dj 7 = true := hd 7 (by kernel_rfl)
     obtain rfl | rfl | rfl | rfl | rfl | rfl | rfl | rfl : j = 0 ∨ j = 1 ∨ j = 2 ∨ j = 3 ∨ j = 4 ∨ j = 5 ∨ j = 6 ∨ j = 7 := by omega
     · exact e0
     · exact e1
     · exact e2
     · exact e3
     · exact e4
     · exact e5
     · exact e6
     · exact e7
 · refine ⟨undef, undef, undef, undef, undef, undef, undef, undef, (by simp only [pus]), (Below.refl _ _).drew, (fun h => by cases h), (fun h => by cases h), (fun h => by cases h), (fun h => by cases h), (fun h => by cases h), (fun h => by cases h), (fun h => by cases h), (fun h => by cases h)⟩
 · intro dj a W i hi hdi hcl hdep hI K hK
   obtain ⟨vr0, vr1, vr2, vr3, vr4, vr5, vr6, vr7, rfl, hB, p0, p1, p2, p3, p4, p5, p6, p7⟩ := hI
   have V := V4.below hB
   obtain rfl | rfl | rfl | rfl | rfl | rfl | rfl | rfl : i = 0 ∨ i = 1 ∨ i = 2 ∨ i = 3 ∨ i = 4 ∨ i = 5 ∨ i = 6 ∨ i = 7 := by omega
   · simp only [pus]
     refine any_op (o := _) rfl rfl ?_
     go_wp2_with fail
     refine hK.out _ _ ?_
     exact ⟨.bool z, vr1, vr2, vr3, vr4, vr5, vr6, vr7, (by simp only [pus]), hB, (fun _ => rfl), p1, p2, p3, p4, p5, p6, p7⟩
   · simp only [pus]
     have c0 := V.n0 3 rfl
     refine any_op (o := _) rfl rfl ?_
     go_wp2_with fail
     refine hK.out _ _ ?_
     exact ⟨vr0, .agg #[.slice a1 n1 c1], vr2, vr3, vr4, vr5, vr6, vr7, (by simp only [pus]), hB, p0, (fun _ => rfl), p2, p3, p4, p5, p6, p7⟩
   · simp only [pus]
     have c0 := V.n0 0 rfl
     refine any_op (o := _) rfl rfl ?_
     go_wp2_with fail
     refine hK.out _ _ ?_
     exact ⟨vr0, vr1, .agg #[.slice xg yg zg], vr3, vr4, vr5, vr6, vr7, (by simp only [pus]), hB, p0, p1, (fun _ => rfl), p3, p4, p5, p6, p7⟩
   · obtain rfl := p1 (hdep 1 (by kernel_rfl))
     obtain rfl := p2 (hdep 2 (by kernel_rfl))
     simp only [pus]
     refine any_op (o := _) rfl rfl ?_
     have hC := Lib.hid (over_any N G _ _ W (V.num 1 _ _ rfl).1 (V.num 0 _ _ rfl).1 hN hG hG0)
     go_simp
     refine hC.out.mono ?_
     rintro e W2 ⟨x, y, z, rfl, hn, hb⟩
     refine hK.out _ _ ?_
     exact ⟨vr0, .agg #[.slice a1 n1 c1], .agg #[.slice xg yg zg], .agg #[.slice x y z], vr4, vr5, vr6, vr7, (by simp only [pus]), hB.trans (hb.mono hB.size), p0, (fun _ => rfl), (fun _ => rfl), (fun _ => ⟨⟨x, y, z, rfl⟩, hn⟩), p4, p5, (fun h => (p6 h).below hb), (fun h => (p7 h).below hb (Nat.le_refl _))⟩
   · simp only [pus]
     have c0 := V.n0 2 rfl
     refine any_op (o := _) rfl rfl ?_
     go_wp2_with fail
     refine hK.out _ _ ?_
     exact ⟨vr0, vr1, vr2, vr3, .agg #[.slice a2 n2 c2], vr5, vr6, vr7, (by simp only [pus]), hB, p0, p1, p2, p3, (fun _ => rfl), p5, p6, p7⟩
   · simp only [pus]
     have c0 := V.n0 0 rfl
     refine any_op (o := _) rfl rfl ?_
     go_wp2_with fail
     refine hK.out _ _ ?_
     exact ⟨vr0, vr1, vr2, vr3, vr4, .agg #[.slice xg yg zg], vr6, vr7, (by simp only [pus]), hB, p0, p1, p2, p3, p4, (fun _ => rfl), p6, p7⟩
   · have k3 := p3 (hdep 3 (by kernel_rfl))
     obtain ⟨⟨x3, y3, z3, rfl⟩, n3⟩ := k3
     obtain rfl := p4 (hdep 4 (by kernel_rfl))
     obtain rfl := p5 (hdep 5 (by kernel_rfl))
     simp only [pus]
     refine any_op (o := _) rfl rfl ?_
     have hC := Lib.hid (over_any D G _ _ W (V.num 2 _ _ rfl).1 (V.num 0 _ _ rfl).1 hD hG hG0)
     go_simp
     refine hC.out.mono ?_
     rintro e W2 ⟨x, y, z, rfl, hn, hb⟩
     refine hK.out _ _ ?_
     exact ⟨vr0, vr1, vr2, .agg #[.slice x3 y3 z3], .agg #[.slice a2 n2 c2], .agg #[.slice xg yg zg], .agg #[.slice x y z], vr7, (by simp only [pus]), hB.trans (hb.mono hB.size), p0, p1, p2, (fun _ => (show Nm _ _ _ from ⟨⟨x3, y3, z3, rfl⟩, n3⟩).below hb), (fun _ => rfl), (fun _ => rfl), (fun _ => ⟨⟨x, y, z, rfl⟩, hn⟩), (fun h => (p7 h).below hb (Nat.le_refl _))⟩
   · obtain rfl := p0 (hdep 0 (by kernel_rfl))
     have k3 := p3 (hdep 3 (by kernel_rfl))
     obtain ⟨⟨x3, y3, z3, rfl⟩, n3⟩ := k3
     have k6 := p6 (hdep 6 (by kernel_rfl))
     obtain ⟨⟨x6, y6, z6, rfl⟩, n6⟩ := k6
     simp only [pus]
     refine any_op (o := _) rfl rfl ?_
     have hC := Lib.hid (made_any X z (N / G) (D / G) _ _ W n3 n6 hNg hDg HX.out.1 HX.out.2.1 HX.out.2.2)
     go_simp
     refine hC.out.mono ?_
     rintro e W2 ⟨u, rfl, hn, hb⟩
     refine hK.out _ _ ?_
     exact ⟨.bool z, vr1, vr2, .agg #[.slice x3 y3 z3], vr4, vr5, .agg #[.slice x6 y6 z6], u, (by simp only [pus]), hB.trans (hb.mono hB.size), (fun _ => rfl), p1, p2, (fun _ => (show Nm _ _ _ from ⟨⟨x3, y3, z3, rfl⟩, n3⟩).below hb), p4, p5, (fun _ => (show Nm _ _ _ from ⟨⟨x6, y6, z6, rfl⟩, n6⟩).below hb), (fun _ => hn)⟩
 · intro dj a W hd hI
   obtain ⟨vr0, vr1, vr2, vr3, vr4, vr5, vr6, vr7, rfl, hB, p0, p1, p2, p3, p4, p5, p6, p7⟩ := hI
   have V := V4.below hB
   obtain rfl := p0 (hd 0 (by omega))
   obtain rfl := p1 (hd 1 (by omega))
   obtain rfl := p2 (hd 2 (by omega))
   obtain ⟨⟨xr3, yr3, zr3, rfl⟩, nr3⟩ := p3 (hd 3 (by omega))
   obtain rfl := p4 (hd 4 (by omega))
   obtain rfl := p5 (hd 5 (by omega))
   obtain ⟨⟨xr6, yr6, zr6, rfl⟩, nr6⟩ := p6 (hd 6 (by omega))
   have nr7 := p7 (hd 7 (by omega))
   simp only [pus]
   show wpAny Tryz.prog .any _ _ 2 #[true, true, true, true, true, true, true, true, false, false] _ _
   obtain ⟨p, n, c, p', n', c', rfl, m1, m2⟩ := nr7
   obtain ⟨zx, hzx⟩ : ∃ zx, decide (X.num < 0) = zx := ⟨_, rfl⟩
   rw [hzx]
   have hx1 : X.num.natAbs < 18446744073709551616 ^ 100 := by rw [HX.out.1]; exact hNg
   have hx2 : dn X < 18446744073709551616 ^ 100 := by unfold dn; rw [HX.out.2.1]; split <;> omega
   have V5 := (V.cons m2 hx2).cons m1 hx1
   have r0 := V5.cell 1 0 rfl rfl; have r1 := V5.cell 1 1 rfl rfl; have r2 := V5.cell 1 2 rfl rfl
   have f0 := V5.frozen 1 0 rfl; have f1 := V5.frozen 1 1 rfl; have f2 := V5.frozen 1 2 rfl
   have HF := Lib.hid (V5.fin3 (x := X) (y := zx) 1 0 1 rfl rfl rfl hzx)
   clear V V4 V5 m1 m2 nr3 nr6
   refine wpAny_of_held (S := fun _ => True) _ _ _ _ ?_
   refine wpAnyH_ready (rs := [8]) (by kernel_rfl) (by simp) ?_
   refine AllReadyH.cons (o := _) rfl (fun K hK => ?_) AllReadyH.nil
   go_wp2_with fail
   refine hK.out _ _ trivial (fun _ => ?_)
   clear hK K
   try simp only [las]
   refine wpAnyH_ready (rs := [9]) (by kernel_rfl) (by simp) ?_
   refine AllReadyH.cons (o := _) rfl (fun K hK => ?_) AllReadyH.nil
   go_wp2_with fail
   refine hK.out _ _ trivial (fun _ => ?_)
   clear hK K
   try simp only [las]
   refine wpAnyH_done (by kernel_rfl) ?_ _
   go_wp2_with fail
   obtain ⟨hf1, v, hv, hf2, hf3⟩ := HF.out
   cases hv
   exact bodyPost_ret (res_rat2 rfl _ _ _ _ _ _ _ _ _ _ _ rfl rfl hf1) rfl ⟨_, rfl, hf2, hf3⟩
end Go.Proofs.YtggmnmmjmihnfaaGreatDoor
