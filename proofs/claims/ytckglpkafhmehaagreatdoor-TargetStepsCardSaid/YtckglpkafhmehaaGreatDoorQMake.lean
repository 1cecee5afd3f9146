/-
 Law 2: the small functions of fractions: over, Den, Num, Whole, Neg, made.
 Law 2: Make.
-/
import Derived.Test.YtckglpkafhmehaaGreatDoorQBase
namespace Go.Proofs.YtckglpkafhmehaaGreatDoor
open Go.RowKit
set_option linter.unusedVariables false
section
variable {w W W' : World} {bx : List (Nat × TypeId × Array Value)} {l : List (Value × Nat)} {r : List (Value × Rat)}
theorem isR_put {W : World} {v : Value} {x : Rat} {b i : Nat} {t : TypeId} {cs : Array Value} (h : IsR W v x) (hk : Blk W b t cs) (hp : Plain cs) (y : Value) : IsR (W.setCell ⟨b, i, none⟩ y) v x := by
 obtain ⟨p, n, c, p', n', c', rfl, h1, h2⟩ := h
 exact ⟨p, n, c, p', n', c', rfl, isN_put h1 (isN_out h1 hk hp), isN_put h2 (isN_out h2 hk hp)⟩
theorem Mq.put (h : Mq w bx l r W) (k i : Nat) {b : Nat} {t : TypeId} {cs : Array Value} (e : bx[k]? = some (b, t, cs)) (hp : Plain cs) (hd : ∀ (k' b' : Nat) (t' : TypeId) (cs' : Array Value), bx[k']? = some (b', t', cs') → k' ≠ k → b' ≠ b) (y : Value) :
 Mq w (bx.set k (b, t, cs.setIfInBounds i y)) l r (W.setCell ⟨b, i, none⟩ y) := by
 have hk := h.box k b t cs e
 refine ⟨h.bel.setCell (p := ⟨b, i, none⟩) hk.2 _, fun k' b' t' cs' e' => ?_, fun j v N e' => ⟨isN_put (h.num j v N e').1 (isN_out (h.num j v N e').1 hk.1 hp), (h.num j v N e').2⟩, fun j v x e' => isR_put (h.rat j v x e') hk.1 hp y⟩
 by_cases ek : k' = k
 · subst ek
   have hlt : k' < bx.length := (List.getElem?_eq_some_iff.1 e).1
   rw [List.getElem?_set_self hlt] at e'
   simp only [Option.some.injEq, Prod.mk.injEq] at e'
   obtain ⟨rfl, rfl, rfl⟩ := e'
   exact ⟨hk.1.set_ i _, hk.2⟩
 · rw [List.getElem?_set_ne (Ne.symm ek)] at e'
   have h2 := h.box k' b' t' cs' e'
   exact ⟨h2.1.far (by exact hd k' b' t' cs' e' ek) _, h2.2⟩
theorem Mq.addbox (h : Mq w bx l r W) {b : Nat} {t : TypeId} {cs : Array Value} (hk : Blk W b t cs) (hb : w.heap.size ≤ b) : Mq w ((b, t, cs) :: bx) l r W := ⟨h.bel, fun k b' t' cs' e => by
 cases k with
 | zero =>
  simp only [List.getElem?_cons_zero, Option.some.injEq, Prod.mk.injEq] at e
  obtain ⟨rfl, rfl, rfl⟩ := e
  exact ⟨hk, hb⟩
 | succ k => exact h.box k b' t' cs' (by simpa using e), h.num, h.rat⟩
/-- A new box of a number, and the number that is stored into it. -/
theorem Mq.newbox (h : Mq w bx l r W) {b : Nat} {p : Option Addr} {n c : Nat} (hk : Blk W b 31 #[.slice p n c]) (hb : w.heap.size ≤ b) (hd : ∀ (k' b' : Nat) (t' : TypeId) (cs' : Array Value), bx[k']? = some (b', t', cs') → b' ≠ b) (x : Option Addr) (y z : Nat) :
 Mq w ((b, 31, #[.slice x y z]) :: bx) l r (W.setCell ⟨b, 0, none⟩ (.slice x y z)) := by
 have h1 : Mq w ((b, 31, #[.slice p n c]) :: bx) l r W := ⟨h.bel, fun k b' t' cs' e => by
  cases k with
  | zero =>
   simp only [List.getElem?_cons_zero, Option.some.injEq, Prod.mk.injEq] at e
   obtain ⟨rfl, rfl, rfl⟩ := e
   exact ⟨hk, hb⟩
  | succ k => exact h.box k b' t' cs' (by simpa using e), h.num, h.rat⟩
 exact h1.put 0 0 rfl (plain_nat _ _ _) (fun k' b' t' cs' e hne => by
  cases k' with
  | zero => exact absurd rfl hne
  | succ k => exact hd k b' t' cs' (by simpa using e)) (.slice x y z)
end
set_option maxRecDepth 100000 in
set_option maxHeartbeats 1000000 in
theorem over_any (N B : Nat) (va vb : Value) (w : World) (ha : IsN w va N) (hb : IsN w vb B) (hN : N < 18446744073709551616 ^ 100) (hB : B < 18446744073709551616 ^ 100) (hB0 : 0 < B) :
 Calls Tryz.prog 45 #[va, vb] w (GaveV (N / B) w) := by
 obtain ⟨a1, n1, c1, rfl⟩ := isN_form ha
 obtain ⟨a2, n2, c2, rfl⟩ := isN_form hb
 have V := (((Mq.refl w).cons hb hB).cons ha hN).three 31 31 31 #[.slice a1 n1 c1] #[.slice a2 n2 c2] #[.slice none 0 0]
 have qa := V.cell 2 0 rfl rfl
 have qb := V.cell 1 0 rfl rfl
 clear ha hb
 by_cases h1 : B = 1
 · have e : N / B = N := by rw [h1, Nat.div_one]
   rw [e]
   go_enter Tryz.func45, Tryz.ntmps45
   go_wp2_with fail
   refine (V.one 1 rfl (decide_eq_true h1)).mono ?_
   rintro e w2 ⟨rfl, V2⟩
   have q2 := V2.cell 2 0 rfl rfl
   have qr := V2.cell 0 0 rfl rfl
   have fr := V2.frozen 0 0 rfl
   have HF := Lib.hid (V2.fin1 0 0 rfl rfl)
   clear V V2 qa qb e
   go_wp2_with fail
   exact bodyPost_ret (res_nat rfl _ _ _ _ rfl HF.out.1) rfl HF.out.2
 · go_enter Tryz.func45, Tryz.ntmps45
   go_wp2_with fail
   refine (V.one 1 rfl (decide_eq_false h1)).mono ?_
   rintro e w2 ⟨rfl, V2⟩
   have qa2 := V2.cell 2 0 rfl rfl
   have qb2 := V2.cell 1 0 rfl rfl
   clear V qa qb
   go_wp2_with fail
   refine (V2.dvm 0 1 rfl rfl hB0).mono ?_
   rintro e w3 ⟨x, y, z, x', y', z', rfl, V3⟩
   replace V3 := V3.two 31 31 #[.slice x y z] #[.slice x' y' z']
   have q3 := V3.cell 1 0 rfl rfl
   have qr := V3.cell 2 0 rfl rfl
   have fr := V3.frozen 2 0 rfl
   have HF := Lib.hid (V3.fin1 2 0 rfl rfl)
   clear V2 V3 qa2 qb2
   go_wp2_with fail
   exact bodyPost_ret (res_nat rfl _ _ _ _ rfl HF.out.1) rfl HF.out.2
set_option maxRecDepth 100000 in
set_option maxHeartbeats 1000000 in
theorem den_any (x : Rat) (va : Value) (w : World) (ha : IsR w va x) (hx : x.den < 18446744073709551616 ^ 100) : Calls Tryz.prog 44 #[va] w (GaveV x.den w) := by
 obtain ⟨p, n, c, p', n', c', rfl, h1, h2⟩ := ha
 obtain ⟨z, hz⟩ : ∃ z, decide (x.num < 0) = z := ⟨_, rfl⟩
 rw [hz]
 have hdn : dn x < 18446744073709551616 ^ 100 := by unfold dn; split <;> omega
 have V := ((Mq.refl w).cons h2 hdn).two 33 31 #[.bool z, .slice p n c, .slice p' n' c'] #[.slice none 0 0]
 have q2 := V.cell 1 2 rfl rfl
 clear h1 h2 hz
 by_cases h1 : x.den = 1
 · go_enter Tryz.func44, Tryz.ntmps44
   go_wp2_with fail
   refine (V.zero 0 rfl (decide_eq_true (dn_one h1))).mono ?_
   rintro e w2 ⟨rfl, V2⟩
   clear V q2
   go_wp2_with fail
   refine (V2.of (N := 1) (by decide)).mono ?_
   rintro e w3 ⟨x3, y3, z3, rfl, V3⟩
   have qr := V3.cell 0 0 rfl rfl
   have fr := V3.frozen 0 0 rfl
   have HF := Lib.hid (V3.fin1 0 0 rfl rfl)
   clear V2 V3
   go_wp2_with fail
   exact bodyPost_ret (res_nat rfl _ _ _ _ rfl HF.out.1) rfl (by rw [h1]; exact HF.out.2)
 · go_enter Tryz.func44, Tryz.ntmps44
   go_wp2_with fail
   refine (V.zero 0 rfl (decide_eq_false (fun e => h1 (dn_zero.1 e)))).mono ?_
   rintro e w2 ⟨rfl, V2⟩
   have q3 := V2.cell 1 2 rfl rfl
   have qr := V2.cell 0 0 rfl rfl
   have fr := V2.frozen 0 0 rfl
   rw [dn_ne h1] at V2
   have HF := Lib.hid (V2.fin1 0 0 rfl rfl)
   clear V V2 q2
   go_wp2_with fail
   exact bodyPost_ret (res_nat rfl _ _ _ _ rfl HF.out.1) rfl HF.out.2
set_option maxRecDepth 100000 in
theorem whole_any (x : Rat) (va : Value) (w : World) (ha : IsR w va x) (hx : x.den < 18446744073709551616 ^ 100) : Calls Tryz.prog 29 #[va] w fun e w' => e = .returned (.bool (decide (x.den = 1))) ∧ Below w.heap.size w w' := by
 obtain ⟨p, n, c, p', n', c', rfl, h1, h2⟩ := ha
 obtain ⟨z, hz⟩ : ∃ z, decide (x.num < 0) = z := ⟨_, rfl⟩
 rw [hz]
 have hdn : dn x < 18446744073709551616 ^ 100 := by unfold dn; split <;> omega
 have V := ((Mq.refl w).cons h2 hdn).alloc 33 #[.bool z, .slice p n c, .slice p' n' c']
 have q2 := V.cell 0 2 rfl rfl
 have hd : decide (dn x = 0) = decide (x.den = 1) := decide_eq_decide.2 dn_zero
 obtain ⟨y, hy⟩ : ∃ y, decide (x.den = 1) = y := ⟨_, rfl⟩
 rw [hy] at hd ⊢
 clear h1 h2 hz hy
 go_enter Tryz.func29, Tryz.ntmps29
 go_wp2_with fail
 refine (V.zero 0 rfl hd).mono ?_
 rintro e w2 ⟨rfl, V2⟩
 have HB := Lib.hid V2.bel
 clear V V2 q2
 go_wp2_with fail
 go_ret
 exact ⟨rfl, HB.out⟩
set_option maxRecDepth 100000 in
set_option maxHeartbeats 1000000 in
theorem made_any (x : Rat) (z : Bool) (N D : Nat) (va vb : Value) (w : World) (ha : IsN w va N) (hb : IsN w vb D) (hN : N < 18446744073709551616 ^ 100) (hD : D < 18446744073709551616 ^ 100) (h1 : x.num.natAbs = N) (h2 : x.den = D) (h3 : N ≠ 0 → decide (x.num < 0) = z) :
 Calls Tryz.prog 47 #[.bool z, va, vb] w (GaveR x w) := by
 obtain ⟨a1, n1, c1, rfl⟩ := isN_form ha
 obtain ⟨a2, n2, c2, rfl⟩ := isN_form hb
 have V := ((((Mq.refl w).cons (isN_zero w) (Nat.pow_pos (by decide))).cons hb hD).cons ha hN).three 31 31 33 #[.slice a1 n1 c1] #[.slice a2 n2 c2] #[.bool false, .slice none 0 0, .slice none 0 0]
 have qa := V.cell 2 0 rfl rfl
 clear ha hb
 by_cases h0 : N = 0
 · have hx0 : x.num = 0 := Int.natAbs_eq_zero.1 (by rw [h1]; exact h0)
   have hd0 : dn x = 0 := by
    have := x.reduced
    rw [hx0] at this
    exact dn_one (by simpa using this)
   have hs : decide (x.num < 0) = false := by rw [hx0]; rfl
   go_enter Tryz.func47, Tryz.ntmps47
   go_wp2_with fail
   refine (V.zero 0 rfl (decide_eq_true h0)).mono ?_
   rintro e w2 ⟨rfl, V2⟩
   have r0 := V2.cell 0 0 rfl rfl; have r1 := V2.cell 0 1 rfl rfl; have r2 := V2.cell 0 2 rfl rfl
   have f0 := V2.frozen 0 0 rfl; have f1 := V2.frozen 0 1 rfl; have f2 := V2.frozen 0 2 rfl
   have HF := Lib.hid (V2.fin30 (x := x) (y := false) (q := none) (m := 0) (d := 0) (q' := none) (m' := 0) (d' := 0) 0 2 2 rfl (by rw [hx0]; rfl) (by rw [hd0]; rfl) hs)
   have HF3 := Lib.hid (V2.fin3 (x := x) (y := false) (q := none) (m := 0) (d := 0) (q' := none) (m' := 0) (d' := 0) 0 2 2 rfl (by rw [hx0]; rfl) (by rw [hd0]; rfl) hs)
   clear V V2 qa
   go_wp2_with fail
   first | exact bodyPost_ret (res_rat rfl _ _ _ _ _ _ _ _ _ _ rfl HF.out.1) rfl HF.out.2 | exact bodyPost_ret (res_rat rfl _ _ _ _ _ _ _ _ _ _ rfl HF3.out.1) rfl HF3.out.2
 · have hz := h3 h0
   have hn0 : x.num.natAbs = N := h1
   by_cases hD1 : D = 1
   · have hd0 : dn x = 0 := dn_one (by rw [h2]; exact hD1)
     go_enter Tryz.func47, Tryz.ntmps47
     go_wp2_with fail
     refine (V.zero 0 rfl (decide_eq_false h0)).mono ?_
     rintro e w2 ⟨rfl, V2⟩
     have qb2 := V2.cell 1 0 rfl rfl
     clear V qa
     go_wp2_with fail
     refine (V2.one 1 rfl (decide_eq_true hD1)).mono ?_
     rintro e w3 ⟨rfl, V3⟩
     have s0 := V3.cell 1 0 rfl rfl
     have g0 := V3.frozen 1 0 rfl
     have V4 := V3.put 1 0 rfl (plain_nat _ _ _) (fun k' b' t' cs' e hne => by
      match k' with
      | 0 => simp at e; omega
      | 1 => exact absurd rfl hne
      | 2 => simp at e; omega
      | k + 3 => simp at e) (.slice none 0 0)
     have qa4 := V4.cell 2 0 rfl rfl
     have qb4 := V4.cell 1 0 rfl rfl
     have r0 := V4.cell 0 0 rfl rfl; have r1 := V4.cell 0 1 rfl rfl; have r2 := V4.cell 0 2 rfl rfl
     have f0 := V4.frozen 0 0 rfl; have f1 := V4.frozen 0 1 rfl; have f2 := V4.frozen 0 2 rfl
     have HF := Lib.hid (V4.fin3 (x := x) (y := z) (q := a1) (m := n1) (d := c1) (q' := none) (m' := 0) (d' := 0) 0 0 2 rfl (by rw [hn0]; rfl) (by rw [hd0]; rfl) hz)
     clear V2 V3 V4 qb2
     go_wp2_with fail
     exact bodyPost_ret (res_rat rfl _ _ _ _ _ _ _ _ _ _ rfl HF.out.1) rfl HF.out.2
   · have hd0 : dn x = D := by rw [← h2]; exact dn_ne (by rw [h2]; exact hD1)
     go_enter Tryz.func47, Tryz.ntmps47
     go_wp2_with fail
     refine (V.zero 0 rfl (decide_eq_false h0)).mono ?_
     rintro e w2 ⟨rfl, V2⟩
     have qb2 := V2.cell 1 0 rfl rfl
     clear V qa
     go_wp2_with fail
     refine (V2.one 1 rfl (decide_eq_false hD1)).mono ?_
     rintro e w3 ⟨rfl, V3⟩
     have qa4 := V3.cell 2 0 rfl rfl
     have qb4 := V3.cell 1 0 rfl rfl
     have r0 := V3.cell 0 0 rfl rfl; have r1 := V3.cell 0 1 rfl rfl; have r2 := V3.cell 0 2 rfl rfl
     have f0 := V3.frozen 0 0 rfl; have f1 := V3.frozen 0 1 rfl; have f2 := V3.frozen 0 2 rfl
     have HF := Lib.hid (V3.fin3 (x := x) (y := z) (q := a1) (m := n1) (d := c1) (q' := a2) (m' := n2) (d' := c2) 0 0 1 rfl (by rw [hn0]; rfl) (by rw [hd0]; rfl) hz)
     clear V2 V3 qb2
     go_wp2_with fail
     exact bodyPost_ret (res_rat rfl _ _ _ _ _ _ _ _ _ _ rfl HF.out.1) rfl HF.out.2
end Go.Proofs.YtckglpkafhmehaaGreatDoor
namespace Go.Proofs.YtckglpkafhmehaaGreatDoor
open Go.RowKit
set_option linter.unusedVariables false
theorem div_lt100 {N G : Nat} (h : N < 18446744073709551616 ^ 100) : N / G < 18446744073709551616 ^ 100 := Nat.lt_of_le_of_lt (Nat.div_le_self _ _) h
theorem q26 {x : Nat} (h : x < 18446744073709551616 ^ 40) : x < 18446744073709551616 ^ 100 := Nat.lt_of_lt_of_le h (w64_mono (by omega))
end Go.Proofs.YtckglpkafhmehaaGreatDoor
