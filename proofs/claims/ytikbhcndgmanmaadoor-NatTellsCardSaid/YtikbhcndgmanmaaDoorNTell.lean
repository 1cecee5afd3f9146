/-
  Lemmas for the walk of NatTells: boxes, the program's numbers and the document's that lie in memory together, and what each call adds to them.
-/
import Derived.Test.YtikbhcndgmanmaaDoorNatsA
import Derived.Test.YtikbhcndgmanmaaDoorNSubA
import Derived.Test.YtikbhcndgmanmaaDoorNGcdA
import Derived.Test.YtikbhcndgmanmaaDoorNAddZ
namespace Go.Proofs.YtikbhcndgmanmaaDoor
open Go.RowKit
set_option linter.unusedVariables false
/-- The boxes bx hold these values; l are the program's numbers, r the document's. -/
structure Ax (w : World) (bx : List (Nat × Value)) (l r : List (Value × Nat)) (W : World) : Prop where
  bel : Below w.heap.size w W
  box : ∀ (k b : Nat) (v : Value), bx[k]? = some (b, v) → Blk W b 30 #[v]
  num : ∀ (k : Nat) (v : Value) (N : Nat), l[k]? = some (v, N) → IsN W v N ∧ N < 18446744073709551616 ^ 100
  doc : ∀ (k : Nat) (v : Value) (N : Nat), r[k]? = some (v, N) → RN W v N ∧ N < 10000 ^ 200
section
variable {w W W' : World} {bx : List (Nat × Value)} {l r : List (Value × Nat)}
theorem Ax.below (h : Ax w bx l r W) (hb : Below W.heap.size W W') : Ax w bx l r W' :=
  ⟨h.bel.trans (hb.mono h.bel.size), fun k b v e => (h.box k b v e).below hb (h.box k b v e).lt, fun k v N e => ⟨(h.num k v N e).1.below hb (Nat.le_refl _), (h.num k v N e).2⟩, fun k v N e => ⟨(h.doc k v N e).1.below hb (Nat.le_refl _), (h.doc k v N e).2⟩⟩
theorem Ax.cons (h : Ax w bx l r W) {v : Value} {N : Nat} (hv : IsN W v N) (hN : N < 18446744073709551616 ^ 100) : Ax w bx ((v, N) :: l) r W :=
  ⟨h.bel, h.box, fun k v' N' e => by
    cases k with
    | zero =>
      simp only [List.getElem?_cons_zero, Option.some.injEq, Prod.mk.injEq] at e
      obtain ⟨rfl, rfl⟩ := e
      exact ⟨hv, hN⟩
    | succ k => exact h.num k v' N' (by simpa using e), h.doc⟩
theorem Ax.rcons (h : Ax w bx l r W) {v : Value} {N : Nat} (hv : RN W v N) (hN : N < 10000 ^ 200) : Ax w bx l ((v, N) :: r) W :=
  ⟨h.bel, h.box, h.num, fun k v' N' e => by
    cases k with
    | zero =>
      simp only [List.getElem?_cons_zero, Option.some.injEq, Prod.mk.injEq] at e
      obtain ⟨rfl, rfl⟩ := e
      exact ⟨hv, hN⟩
    | succ k => exact h.doc k v' N' (by simpa using e)⟩
theorem Ax.alloc (h : Ax w bx l r W) (v : Value) : Ax w ((W.heap.size, v) :: bx) l r (W.alloc (.cells #[v] 30)) := by
  have h2 := h.below (below_lit W (.cells #[v] 30))
  refine ⟨h2.bel, fun k b v' e => ?_, h2.num, h2.doc⟩
  cases k with
  | zero =>
    simp only [List.getElem?_cons_zero, Option.some.injEq, Prod.mk.injEq] at e
    obtain ⟨rfl, rfl⟩ := e
    exact Blk.new W _ _
  | succ k => exact h2.box k b v' (by simpa using e)
theorem Ax.cell (h : Ax w bx l r W) (k : Nat) {b : Nat} {v : Value} (e : bx[k]? = some (b, v)) : W.cell? ⟨b, 0, none⟩ = some v := (h.box k b v e).cell 0
theorem x100 {x : Nat} (k : Nat) (h : x < 18446744073709551616 ^ 100) (hk : 100 ≤ k) : x < 18446744073709551616 ^ k := Nat.lt_of_lt_of_le h (w64_mono hk)
/-- A call that gives one number more. -/
abbrev Gx (w : World) (bx : List (Nat × Value)) (l r : List (Value × Nat)) (S : Nat) (e : Ending) (w' : World) : Prop := ∃ x y z, e = .returned (.agg #[.slice x y z]) ∧ Ax w bx ((.agg #[.slice x y z], S) :: l) r w'
abbrev Gy (w : World) (bx : List (Nat × Value)) (l r : List (Value × Nat)) (S : Nat) (e : Ending) (w' : World) : Prop := ∃ x y z, e = .returned (.slice x y z) ∧ Ax w bx l ((.slice x y z, S) :: r) w'
variable {va vb : Value} {M N S : Nat}
theorem Ax.add (h : Ax w bx l r W) (i j : Nat) (hi : l[i]? = some (va, M)) (hj : l[j]? = some (vb, N)) (hS : M + N = S ∧ S < 18446744073709551616 ^ 100) : Calls Tryd.prog 13 #[va, vb] W (Gx w bx l r S) :=
  (add_any M N va vb W (h.num i va M hi).1 (h.num j vb N hj).1 (x100 9000 (h.num i va M hi).2 (by omega)) (x100 9000 (h.num j vb N hj).2 (by omega))).mono fun e w' h' => by
    obtain ⟨x, y, z, h1, h2, h3⟩ := h'
    exact ⟨x, y, z, h1, (h.below h3).cons (by rw [← hS.1]; exact h2) hS.2⟩
theorem Ax.mul (h : Ax w bx l r W) (i j : Nat) (hi : l[i]? = some (va, M)) (hj : l[j]? = some (vb, N)) (hS : M * N = S ∧ S < 18446744073709551616 ^ 100) : Calls Tryd.prog 15 #[va, vb] W (Gx w bx l r S) :=
  (mul_any M N va vb W (h.num i va M hi).1 (h.num j vb N hj).1 (x100 5000 (h.num i va M hi).2 (by omega)) (x100 5000 (h.num j vb N hj).2 (by omega))).mono fun e w' h' => by
    obtain ⟨v, h1, h2, h3⟩ := h'
    obtain ⟨x, y, z, rfl⟩ := isN_form h2
    exact ⟨x, y, z, h1, (h.below h3).cons (by rw [← hS.1]; exact h2) hS.2⟩
theorem Ax.gcd (h : Ax w bx l r W) (i j : Nat) (hi : l[i]? = some (va, M)) (hj : l[j]? = some (vb, N)) (hM : M < 18446744073709551616 ^ 26) (hN : N < 18446744073709551616 ^ 26) (ht : TabB w) (hS : Nat.gcd M N = S ∧ S < 18446744073709551616 ^ 100) : Calls Tryd.prog 17 #[va, vb] W (Gx w bx l r S) :=
  (gcd_all M N va vb W (h.num i va M hi).1 (h.num j vb N hj).1 hM hN (ht.below h.bel (Nat.le_refl _))).mono fun e w' h' => by
    obtain ⟨x, y, z, h1, h2, h3⟩ := h'
    exact ⟨x, y, z, h1, (h.below h3).cons (by rw [← hS.1]; exact h2) hS.2⟩
theorem Ax.cmp (h : Ax w bx l r W) (i j : Nat) (hi : l[i]? = some (va, M)) (hj : l[j]? = some (vb, N)) {C : Int} (hC : cmpI M N = C) : Calls Tryd.prog 10 #[va, vb] W fun e w' => e = .returned (.int .i64 C) ∧ Ax w bx l r w' :=
  (cmp_any M N va vb W (h.num i va M hi).1 (h.num j vb N hj).1).mono fun e w' h' => ⟨by rw [h'.1, hC], h.below h'.2⟩
theorem Ax.sub (h : Ax w bx l r W) (i j : Nat) (hi : l[i]? = some (va, M)) (hj : l[j]? = some (vb, N)) (hle : N ≤ M) (hS : M - N = S ∧ S < 18446744073709551616 ^ 100) :
    Calls Tryd.prog 8 #[va, vb] W fun e w' => ∃ x y z, e = .returned (.tuple #[.agg #[.slice x y z], .bool true]) ∧ Ax w bx ((.agg #[.slice x y z], S) :: l) r w' :=
  (sub_any M N va vb W (h.num i va M hi).1 (h.num j vb N hj).1 (x100 9000 (h.num i va M hi).2 (by omega)) hle).mono fun e w' h' => by
    obtain ⟨x, y, z, h1, h2, h3⟩ := h'
    exact ⟨x, y, z, h1, (h.below h3).cons (by rw [← hS.1]; exact h2) hS.2⟩
theorem Ax.subl (h : Ax w bx l r W) (i j : Nat) (hi : l[i]? = some (va, M)) (hj : l[j]? = some (vb, N)) (hlt : M < N) :
    Calls Tryd.prog 8 #[va, vb] W fun e w' => e = .returned (.tuple #[.agg #[.slice none 0 0], .bool false]) ∧ Ax w bx ((.agg #[.slice none 0 0], 0) :: l) r w' :=
  (sub_less M N va vb W (h.num i va M hi).1 (h.num j vb N hj).1 hlt).mono fun e w' h' => ⟨h'.1, (h.below h'.2).cons (isN_zero w') (Nat.pow_pos (by decide))⟩
theorem Ax.dvm0 (h : Ax w bx l r W) (i j : Nat) (hi : l[i]? = some (va, M)) (hj : l[j]? = some (vb, 0)) :
    Calls Tryd.prog 9 #[va, vb] W fun e w' => e = .returned (.tuple #[.agg #[.slice none 0 0], .agg #[.slice none 0 0], .bool false]) ∧ Ax w bx ((.agg #[.slice none 0 0], 0) :: (.agg #[.slice none 0 0], 0) :: l) r w' :=
  (dvm_any M 0 va vb W (h.num i va M hi).1 (h.num j vb 0 hj).1 (x100 8000 (h.num i va M hi).2 (by omega))).mono fun e w' h' => by
    obtain ⟨h1 | h1, h2⟩ := h'
    · exact ⟨h1.2, ((h.below h2).cons (isN_zero w') (Nat.pow_pos (by decide))).cons (isN_zero w') (Nat.pow_pos (by decide))⟩
    · exact absurd h1.1 (by omega)
theorem Ax.dvm (h : Ax w bx l r W) (i j : Nat) (hi : l[i]? = some (va, M)) (hj : l[j]? = some (vb, N)) (hN : 0 < N) :
    Calls Tryd.prog 9 #[va, vb] W fun e w' => ∃ x y z x' y' z', e = .returned (.tuple #[.agg #[.slice x y z], .agg #[.slice x' y' z'], .bool true]) ∧ Ax w bx ((.agg #[.slice x' y' z'], M % N) :: (.agg #[.slice x y z], M / N) :: l) r w' :=
  (dvm_any M N va vb W (h.num i va M hi).1 (h.num j vb N hj).1 (x100 8000 (h.num i va M hi).2 (by omega))).mono fun e w' h' => by
    obtain ⟨h1 | h1, h2⟩ := h'
    · exact absurd h1.1 (by omega)
    · obtain ⟨_, x, y, z, x', y', z', h3, h4, h5⟩ := h1
      exact ⟨x, y, z, x', y', z', h3, ((h.below h2).cons h4 (Nat.lt_of_le_of_lt (Nat.div_le_self _ _) (h.num i va M hi).2)).cons h5 (Nat.lt_of_le_of_lt (Nat.mod_le _ _) (h.num i va M hi).2)⟩
theorem Ax.zero (h : Ax w bx l r W) (i : Nat) (hi : l[i]? = some (va, 0)) : Calls Tryd.prog 20 #[va] W fun e w' => e = .returned (.bool true) ∧ Ax w bx l r w' :=
  (zero_yes (h.num i va 0 hi).1).mono fun e w' h' => ⟨h'.1, h.below h'.2⟩
theorem Ax.nz (h : Ax w bx l r W) (i : Nat) (hi : l[i]? = some (va, N)) {b : Bool} (hb : decide (N = 0) = b) : Calls Tryd.prog 20 #[va] W fun e w' => e = .returned (.bool b) ∧ Ax w bx l r w' := by
  by_cases h0 : N = 0
  · subst h0
    subst hb
    exact (zero_yes (h.num i va 0 hi).1).mono fun e w' h' => ⟨by rw [h'.1]; rfl, h.below h'.2⟩
  · rw [decide_eq_false h0] at hb
    subst hb
    exact (zero_no (h.num i va N hi).1 h0).mono fun e w' h' => ⟨h'.1, h.below h'.2⟩
theorem Ax.small (h : Ax w bx l r W) (i : Nat) (hi : l[i]? = some (va, N)) (hN : N < 18446744073709551616) : Calls Tryd.prog 22 #[va] W fun e w' => e = .returned (.tuple #[.int .u64 (N : Int), .bool true]) ∧ Ax w bx l r w' :=
  (small_any N va W (h.num i va N hi).1).mono fun e w' ⟨h1, h2⟩ => by
    rcases h1 with h1 | h1
    · exact ⟨h1.2, h.below h2⟩
    · exact absurd hN (by omega)
theorem Ax.large (h : Ax w bx l r W) (i : Nat) (hi : l[i]? = some (va, N)) (hN : 18446744073709551616 ≤ N) : Calls Tryd.prog 22 #[va] W fun e w' => e = .returned (.tuple #[.int .u64 0, .bool false]) ∧ Ax w bx l r w' :=
  (small_any N va W (h.num i va N hi).1).mono fun e w' ⟨h1, h2⟩ => by
    rcases h1 with h1 | h1
    · exact absurd hN (by omega)
    · exact ⟨h1.2, h.below h2⟩
theorem Ax.bits (h : Ax w bx l r W) (i : Nat) (hi : l[i]? = some (va, N)) {L : Int} (hL : ((hlv N).length : Int) = L) : Calls Tryd.prog 23 #[va] W fun e w' => e = .returned (.int .i64 L) ∧ Ax w bx l r w' :=
  (bits_any N va W (h.num i va N hi).1).mono fun e w' ⟨K, h1, h2, _, h3⟩ => ⟨by rw [h1, h2.inj (isLen_hlv N), hL], h.below h3⟩
theorem Ax.digits (h : Ax w bx l r W) (i : Nat) (hi : l[i]? = some (va, N)) (ht : Tab w) {L : Int} (hL : ((Lib.nDigits N : Nat) : Int) = L) : Calls Tryd.prog 25 #[va] W fun e w' => e = .returned (.int .i64 L) ∧ Ax w bx l r w' :=
  (digits_any N va W (h.num i va N hi).1 (ht.below h.bel (Nat.le_refl _))).mono fun e w' h' => ⟨by rw [h'.1, hL], h.below h'.2⟩
theorem Ax.of (h : Ax w bx l r W) (hN : N < 18446744073709551616) : Calls Tryd.prog 27 #[.int .u64 (N : Int)] W (Gx w bx l r N) :=
  (of_any N hN W).mono fun e w' h' => by
    obtain ⟨v, h1, h2, h3⟩ := h'
    obtain ⟨x, y, z, rfl⟩ := isN_form h2
    exact ⟨x, y, z, h1, (h.below h3).cons h2 (Nat.lt_of_lt_of_le (by rw [Nat.pow_one]; exact hN) (w64_mono (j := 1) (by omega)))⟩
theorem p200 {x : Nat} (k : Nat) (h : x < 10000 ^ 200) (hk : 200 ≤ k) : x < 10000 ^ k := pow_up 200 k h hk
theorem gotR_ax (h : Ax w bx l r W) {e : Ending} {w' : World} (h' : GotR N W e w') (hS : N = S ∧ S < 10000 ^ 200) : Gy w bx l r S e w' := by
  obtain ⟨v, h1, h2, h3⟩ := h'
  obtain ⟨x, y, z, rfl, _, _⟩ := rn_form h2
  exact ⟨x, y, z, h1, (h.below h3).rcons (by rw [← hS.1]; exact h2) hS.2⟩
theorem Ax.radd (h : Ax w bx l r W) (i j : Nat) (hi : r[i]? = some (va, M)) (hj : r[j]? = some (vb, N)) (hS : M + N = S ∧ S < 10000 ^ 200) : Calls Tryd.prog 14 #[va, vb] W (Gy w bx l r S) :=
  (radd_num M N va vb W (h.doc i va M hi).1 (h.doc j vb N hj).1 (p200 9000 (h.doc i va M hi).2 (by omega)) (p200 9000 (h.doc j vb N hj).2 (by omega))).mono fun e w' h' => gotR_ax h h' hS
theorem Ax.rmul (h : Ax w bx l r W) (i j : Nat) (hi : r[i]? = some (va, M)) (hj : r[j]? = some (vb, N)) (hS : M * N = S ∧ S < 10000 ^ 200) : Calls Tryd.prog 16 #[va, vb] W (Gy w bx l r S) :=
  (rmul_num M N va vb W (h.doc i va M hi).1 (h.doc j vb N hj).1 (p200 9000 (h.doc i va M hi).2 (by omega)) (p200 9000 (h.doc j vb N hj).2 (by omega))).mono fun e w' h' => gotR_ax h h' hS
theorem Ax.rsub (h : Ax w bx l r W) (i j : Nat) (hi : r[i]? = some (va, M)) (hj : r[j]? = some (vb, N)) (hle : N ≤ M) (hS : M - N = S ∧ S < 10000 ^ 200) : Calls Tryd.prog 19 #[va, vb] W (Gy w bx l r S) :=
  (rsub_num M N va vb W (h.doc i va M hi).1 (h.doc j vb N hj).1 (p200 9000 (h.doc i va M hi).2 (by omega)) hle).mono fun e w' h' => gotR_ax h h' hS
theorem Ax.rgcd (h : Ax w bx l r W) (i j : Nat) (hi : r[i]? = some (va, M)) (hj : r[j]? = some (vb, N)) (hS : Nat.gcd M N = S ∧ S < 10000 ^ 200) : Calls Tryd.prog 18 #[va, vb] W (Gy w bx l r S) :=
  (rgcd_any M N va vb W (h.doc i va M hi).1 (h.doc j vb N hj).1 (p200 2000 (h.doc i va M hi).2 (by omega)) (p200 2000 (h.doc j vb N hj).2 (by omega))).mono fun e w' h' => gotR_ax h h' hS
theorem Ax.rcmp (h : Ax w bx l r W) (i j : Nat) (hi : r[i]? = some (va, M)) (hj : r[j]? = some (vb, N)) {C : Int} (hC : cmpI M N = C) : Calls Tryd.prog 11 #[va, vb] W fun e w' => e = .returned (.int .i64 C) ∧ Ax w bx l r w' :=
  (rcmp_any M N va vb W (h.doc i va M hi).1 (h.doc j vb N hj).1 (p200 9000 (h.doc i va M hi).2 (by omega)) (p200 9000 (h.doc j vb N hj).2 (by omega))).mono fun e w' h' => ⟨by rw [h'.1, hC], h.below h'.2⟩
theorem Ax.rdvm (h : Ax w bx l r W) (i j : Nat) (hi : r[i]? = some (va, M)) (hj : r[j]? = some (vb, N)) (hN : 0 < N) :
    Calls Tryd.prog 21 #[va, vb] W fun e w' => ∃ x y z x' y' z', e = .returned (.tuple #[.slice x y z, .slice x' y' z']) ∧ Ax w bx l ((.slice x' y' z', M % N) :: (.slice x y z, M / N) :: r) w' :=
  (rdiv_num M N va vb W (h.doc i va M hi).1 (p200 9000 (h.doc i va M hi).2 (by omega)) (h.doc j vb N hj).1 hN (p200 2000 (h.doc j vb N hj).2 (by omega))).mono fun e w' h' => by
    obtain ⟨v1, v2, h1, h2, h3, h4⟩ := h'
    obtain ⟨x, y, z, rfl, _, _⟩ := rn_form h2
    obtain ⟨x', y', z', rfl, _, _⟩ := rn_form h3
    exact ⟨x, y, z, x', y', z', h1, ((h.below h4).rcons h2 (Nat.lt_of_le_of_lt (Nat.div_le_self _ _) (h.doc i va M hi).2)).rcons h3 (Nat.lt_of_le_of_lt (Nat.mod_le _ _) (h.doc i va M hi).2)⟩
theorem Ax.rbits (h : Ax w bx l r W) (i : Nat) (hi : r[i]? = some (va, N)) (hlen : (hlv N).length ≤ 100000) {L : Int} (hL : ((hlv N).length : Int) = L) : Calls Tryd.prog 24 #[va] W fun e w' => e = .returned (.int .i64 L) ∧ Ax w bx l r w' :=
  (rbits_any N va W (h.doc i va N hi).1 (p200 2000 (h.doc i va N hi).2 (by omega)) hlen).mono fun e w' ⟨K, h1, h2, h3⟩ => ⟨by rw [h1, h2.inj (isLen_hlv N), hL], h.below h3⟩
theorem Ax.rtext (h : Ax w bx l r W) (i : Nat) (hi : r[i]? = some (va, N)) {T : ByteArray} (hT : (⟨(Lib.decDigits N).toArray⟩ : ByteArray) = T) : Calls Tryd.prog 26 #[va] W fun e w' => e = .returned (.string T) ∧ Ax w bx l r w' :=
  (rtext_any N va W (h.doc i va N hi).1 (p200 9000 (h.doc i va N hi).2 (by omega))).mono fun e w' h' => ⟨by rw [h'.1, hT], h.below h'.2⟩
theorem Ax.same (h : Ax w bx l r W) (i j : Nat) (hi : l[i]? = some (va, N)) (hj : r[j]? = some (vb, N)) (ht : Tab w) : Calls Tryd.prog 12 #[va, vb] W fun e w' => e = .returned (.bool true) ∧ Ax w bx l r w' :=
  (same_num N va vb W (h.num i va N hi).1 (h.doc j vb N hj).1 (p200 9000 (h.doc j vb N hj).2 (by omega)) (ht.below h.bel (Nat.le_refl _))).mono fun e w' h' => ⟨h'.1, h.below h'.2⟩
end
theorem rn_box {W : World} {u : Value} {N b : Nat} {x : Option Addr} {y z : Nat} (h : RN W u N) (hk : Blk W b 30 #[.slice x y z]) (i : Nat) (o : Value) : RN (W.setCell ⟨b, i, none⟩ o) u N := by
  obtain ⟨ds, ⟨a, c, rfl, hc, hr, hz⟩, h2⟩ := h
  refine ⟨ds, ⟨a, c, rfl, hc, fun j hj => ?_, hz⟩, h2⟩
  obtain ⟨ad, rfl, hlt, hcl⟩ := hr j hj
  refine ⟨ad, rfl, by simpa using hlt, ?_⟩
  by_cases hb : ad.block = b
  · exfalso
    unfold World.cell? at hcl
    rw [add_block, hb, show W.heap[b]? = _ from hk] at hcl
    simp only at hcl
    split at hcl
    · cases hcl
    · have : ∀ k : Nat, (#[Value.slice x y z] : Array Value)[k]? ≠ some (.int .i64 ((ds.getD j 0 : Nat) : Int)) := fun k => by
        cases k with
        | zero => simp
        | succ k => simp
      exact this _ hcl
  · rw [World.cell?_setCell_other _ _ _ _ (fun e => hb (by have := congrArg Addr.block e; rw [add_block] at this; exact this.symm))]
    exact hcl
theorem Ax.set2 {w W : World} {b1 b2 : Nat} {x : Option Addr} {y z : Nat} {v2 : Value} {l r : List (Value × Nat)} (h : Ax w [(b1, .slice x y z), (b2, v2)] l r W) (hne : b2 ≠ b1) (hw : w.heap.size ≤ b1) (u : Value) : Ax w [(b1, u), (b2, v2)] l r (W.setCell ⟨b1, 0, none⟩ u) := by
  have h0 := h.box 0 b1 (.slice x y z) rfl
  have h1 := h.box 1 b2 v2 rfl
  refine ⟨h.bel.setCell (p := ⟨b1, 0, none⟩) hw _, fun k b v e => ?_, fun k v N e => ⟨isN_set1 (h.num k v N e).1 (isN_box (h.num k v N e).1 h0), (h.num k v N e).2⟩, fun k v N e => ⟨rn_box (h.doc k v N e).1 h0 0 u, (h.doc k v N e).2⟩⟩
  cases k with
  | zero =>
    simp only [List.getElem?_cons_zero, Option.some.injEq, Prod.mk.injEq] at e
    obtain ⟨rfl, rfl⟩ := e
    exact h0.set_ 0 _
  | succ k =>
    cases k with
    | zero =>
      simp only [List.getElem?_cons_succ, List.getElem?_cons_zero, Option.some.injEq, Prod.mk.injEq] at e
      obtain ⟨rfl, rfl⟩ := e
      exact h1.far (by show b2 ≠ b1; exact hne) _
    | succ k => simp at e
theorem Ax.swap {w W : World} {p1 p2 : Nat × Value} {l r : List (Value × Nat)} (h : Ax w [p1, p2] l r W) : Ax w [p2, p1] l r W :=
  ⟨h.bel, fun k b v e => by
    cases k with
    | zero => exact h.box 1 b v (by simpa using e)
    | succ k =>
      cases k with
      | zero => exact h.box 0 b v (by simpa using e)
      | succ k => simp at e, h.num, h.doc⟩
theorem wp_store_box {o : Oper} {a : Act} {W : World} {K : Act → World → Prop} {Q : Exit → Act → World → Prop} (s x : Operand) (ho : o.op = .store 30 s x) (hd : o.dst = none) (b : Nat) (old : Value) {p : Option Addr} {y z : Nat}
    (hs : a.eval s = .pointer (some ⟨b, 0, none⟩)) (hx : a.eval x = .agg #[.slice p y z]) (hb : Blk W b 30 #[old]) (h : K a (W.setCell ⟨b, 0, none⟩ (.slice p y z))) : Oper.wp Tryd.prog o a W K Q := by
  rw [setCell_eq_setRow W b 0 #[old] 30 (0, 0) (.slice p y z) hb] at h
  refine wp_store_row 30 s x ho b #[.slice p y z] hs hx 30 #[old] hb (by kernel_rfl) rfl (by simp [Value.oneCell']) ?_
  rw [hd]
  exact h
theorem if_wanted {b : Bool} {p q : Prop} (hb : b = true) (h : p) : if b = true then p else q := by rw [if_pos hb]; exact h
/-- All numbers that the law makes. -/
structure TB (U A B : Nat) : Prop where
  s : A + B = A + B ∧ A + B < U
  p : A * B = A * B ∧ A * B < U
  g : Nat.gcd A B = Nat.gcd A B ∧ Nat.gcd A B < U
  d : A - B = A - B ∧ A - B < U
theorem tb_all (W j m : Nat) (hW : 2 ≤ W) {A B : Nat} (hA : A < W ^ j) (hB : B < W ^ j) (hm : 2 * j ≤ m) (hj : j + 1 ≤ m) : TB (W ^ m) A B := by
  have up : ∀ k, k ≤ m → W ^ k ≤ W ^ m := fun k hk => Nat.pow_le_pow_right (by omega) hk
  have e1 : A + B < W ^ m := by
    have h1 := Nat.mul_le_mul_left (W ^ j) hW
    rw [← Nat.pow_succ] at h1
    have h2 := up (j + 1) hj
    have h3 : W ^ (j + 1) = W ^ j.succ := rfl
    omega
  have e2 : A * B < W ^ m := by
    have h1 : A * B < W ^ j * W ^ j := Nat.mul_lt_mul'' hA hB
    rw [← Nat.pow_add] at h1
    exact Nat.lt_of_lt_of_le h1 (up _ (by omega))
  have e3 : Nat.gcd A B ≤ A + B := by
    rcases Nat.eq_zero_or_pos A with h | h
    · subst h; rw [Nat.gcd_zero_left]; omega
    · have := Nat.gcd_le_left B h; omega
  exact ⟨⟨rfl, e1⟩, ⟨rfl, e2⟩, ⟨rfl, by omega⟩, ⟨rfl, by omega⟩⟩
theorem nn_w {s : ByteArray} {k : Nat} (hs : s.size ≤ 16 * k) : nn s < 18446744073709551616 ^ k := by
  unfold nn
  split
  · rename_i h
    exact Nat.lt_of_lt_of_le (dv_lt s.size s.data.toList (by simp) h.dig) (ten_pow hs)
  · exact Nat.pow_pos (by decide)
end Go.Proofs.YtikbhcndgmanmaaDoor
