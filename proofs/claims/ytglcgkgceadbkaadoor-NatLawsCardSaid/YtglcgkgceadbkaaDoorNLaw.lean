/-
  Lemmas for the walk of NatLaws: boxes and numbers that lie in memory together, and what each call adds to them.
-/
import Derived.Test.YtglcgkgceadbkaaDoorNLem
namespace Go.Proofs.YtglcgkgceadbkaaDoor
open Go.RowKit
set_option linter.unusedVariables false
/-- The boxes bx hold these values, the values l are these numbers; what lay in memory ahead of w lies there still. -/
structure At (w : World) (bx : List (Nat × Value)) (l : List (Value × Nat)) (W : World) : Prop where
  bel : Below w.heap.size w W
  box : ∀ (k b : Nat) (v : Value), bx[k]? = some (b, v) → Blk W b 25 #[v] ∧ w.heap.size ≤ b
  dec : bx.Pairwise (fun p q => q.1 < p.1)
  num : ∀ (k : Nat) (v : Value) (N : Nat), l[k]? = some (v, N) → IsN W v N ∧ N < 18446744073709551616 ^ 100
theorem At.refl (w : World) : At w [] [] w := ⟨Below.refl _ _, fun k b v e => by simp at e, List.Pairwise.nil, fun k v N e => by simp at e⟩
theorem At.below {w W W' : World} {bx : List (Nat × Value)} {l : List (Value × Nat)} (h : At w bx l W) (hb : Below W.heap.size W W') : At w bx l W' :=
  ⟨h.bel.trans (hb.mono h.bel.size), fun k b v e => ⟨(h.box k b v e).1.below hb (h.box k b v e).1.lt, (h.box k b v e).2⟩, h.dec, fun k v N e => ⟨(h.num k v N e).1.below hb (Nat.le_refl _), (h.num k v N e).2⟩⟩
theorem At.drew {w W : World} {bx : List (Nat × Value)} {l : List (Value × Nat)} (h : At w bx l W) : At w bx l W.drew := h.below (Below.refl _ _).drew
theorem At.cons {w W : World} {bx : List (Nat × Value)} {l : List (Value × Nat)} (h : At w bx l W) {v : Value} {N : Nat} (hv : IsN W v N) (hN : N < 18446744073709551616 ^ 100) : At w bx ((v, N) :: l) W :=
  ⟨h.bel, h.box, h.dec, fun k v' N' e => by
    cases k with
    | zero =>
      simp only [List.getElem?_cons_zero, Option.some.injEq, Prod.mk.injEq] at e
      obtain ⟨rfl, rfl⟩ := e
      exact ⟨hv, hN⟩
    | succ k => exact h.num k v' N' (by simpa using e)⟩
theorem At.alloc {w W : World} {bx : List (Nat × Value)} {l : List (Value × Nat)} (h : At w bx l W) (v : Value) : At w ((W.heap.size, v) :: bx) l (W.alloc (.cells #[v] 25)) := by
  have hb : Below W.heap.size W (W.alloc (.cells #[v] 25)) := (Below.refl _ _).alloc (Nat.le_refl _) _
  refine ⟨(h.below hb).bel, fun k b v' e => ?_, List.pairwise_cons.2 ⟨fun p hp => ?_, h.dec⟩, (h.below hb).num⟩
  · cases k with
    | zero =>
      simp only [List.getElem?_cons_zero, Option.some.injEq, Prod.mk.injEq] at e
      obtain ⟨rfl, rfl⟩ := e
      exact ⟨Blk.new W _ _, h.bel.size⟩
    | succ k => exact (h.below hb).box k b v' (by simpa using e)
  · obtain ⟨k, hk⟩ := List.getElem?_of_mem hp
    exact (h.box k p.1 p.2 hk).1.lt
theorem At.set {w W : World} {b : Nat} {x : Option Addr} {y z : Nat} {bx : List (Nat × Value)} {l : List (Value × Nat)} (h : At w ((b, .slice x y z) :: bx) l W) (u : Value) : At w ((b, u) :: bx) l (W.setCell ⟨b, 0, none⟩ u) := by
  have h0 := h.box 0 b (.slice x y z) rfl
  have hd := List.pairwise_cons.1 h.dec
  refine ⟨h.bel.setCell (p := ⟨b, 0, none⟩) h0.2 _, fun k b' v' e => ?_, List.pairwise_cons.2 ⟨hd.1, hd.2⟩, fun k v N e => ⟨isN_set1 (h.num k v N e).1 (isN_box (h.num k v N e).1 h0.1), (h.num k v N e).2⟩⟩
  cases k with
  | zero =>
    simp only [List.getElem?_cons_zero, Option.some.injEq, Prod.mk.injEq] at e
    obtain ⟨rfl, rfl⟩ := e
    exact ⟨h0.1.set_ 0 _, h0.2⟩
  | succ k =>
    have e' : bx[k]? = some (b', v') := by simpa using e
    have hlt := hd.1 (b', v') (List.mem_of_getElem? e')
    have := h.box (k + 1) b' v' e
    exact ⟨this.1.far (by show b' ≠ b; exact Nat.ne_of_lt hlt) _, this.2⟩
theorem At.cell {w W : World} {bx : List (Nat × Value)} {l : List (Value × Nat)} (h : At w bx l W) (k : Nat) {b : Nat} {v : Value} (e : bx[k]? = some (b, v)) : W.cell? ⟨b, 0, none⟩ = some v := (h.box k b v e).1.cell 0
theorem At.tail {w W : World} {p : Value × Nat} {bx : List (Nat × Value)} {l : List (Value × Nat)} (h : At w bx (p :: l) W) : At w bx l W := ⟨h.bel, h.box, h.dec, fun k v N e => h.num (k + 1) v N (by simpa using e)⟩
theorem w100 {x : Nat} (k : Nat) (h : x < 18446744073709551616 ^ 100) (hk : 100 ≤ k) : x < 18446744073709551616 ^ k := Nat.lt_of_lt_of_le h (w64_mono hk)
/-- A call that gives one number more. -/
abbrev Gv (w : World) (bx : List (Nat × Value)) (l : List (Value × Nat)) (S : Nat) (e : Ending) (w' : World) : Prop := ∃ x y z, e = .returned (.agg #[.slice x y z]) ∧ At w bx ((.agg #[.slice x y z], S) :: l) w'
theorem At.add {w W : World} {bx : List (Nat × Value)} {l : List (Value × Nat)} (h : At w bx l W) (i j : Nat) {va vb : Value} {M N : Nat} (hi : l[i]? = some (va, M)) (hj : l[j]? = some (vb, N)) {S : Nat} (hS : M + N = S ∧ S < 18446744073709551616 ^ 100) :
    Calls Tryd.prog 11 #[va, vb] W (Gv w bx l S) :=
  (add_any M N va vb W (h.num i va M hi).1 (h.num j vb N hj).1 (w100 9000 (h.num i va M hi).2 (by omega)) (w100 9000 (h.num j vb N hj).2 (by omega))).mono fun e w' h' => by
    obtain ⟨x, y, z, h1, h2, h3⟩ := h'
    exact ⟨x, y, z, h1, (h.below h3).cons (by rw [← hS.1]; exact h2) hS.2⟩
theorem At.mul {w W : World} {bx : List (Nat × Value)} {l : List (Value × Nat)} (h : At w bx l W) (i j : Nat) {va vb : Value} {M N : Nat} (hi : l[i]? = some (va, M)) (hj : l[j]? = some (vb, N)) {S : Nat} (hS : M * N = S ∧ S < 18446744073709551616 ^ 100) :
    Calls Tryd.prog 12 #[va, vb] W (Gv w bx l S) :=
  (mul_any M N va vb W (h.num i va M hi).1 (h.num j vb N hj).1 (w100 5000 (h.num i va M hi).2 (by omega)) (w100 5000 (h.num j vb N hj).2 (by omega))).mono fun e w' h' => by
    obtain ⟨v, h1, h2, h3⟩ := h'
    obtain ⟨x, y, z, rfl⟩ := isN_form h2
    exact ⟨x, y, z, h1, (h.below h3).cons (by rw [← hS.1]; exact h2) hS.2⟩
theorem At.sub {w W : World} {bx : List (Nat × Value)} {l : List (Value × Nat)} (h : At w bx l W) (i j : Nat) {va vb : Value} {M N : Nat} (hi : l[i]? = some (va, M)) (hj : l[j]? = some (vb, N)) {S : Nat} (hle : N ≤ M) (hS : M - N = S ∧ S < 18446744073709551616 ^ 100) :
    Calls Tryd.prog 10 #[va, vb] W fun e w' => ∃ x y z, e = .returned (.tuple #[.agg #[.slice x y z], .bool true]) ∧ At w bx ((.agg #[.slice x y z], S) :: l) w' :=
  (sub_any M N va vb W (h.num i va M hi).1 (h.num j vb N hj).1 (w100 9000 (h.num i va M hi).2 (by omega)) hle).mono fun e w' h' => by
    obtain ⟨x, y, z, h1, h2, h3⟩ := h'
    exact ⟨x, y, z, h1, (h.below h3).cons (by rw [← hS.1]; exact h2) hS.2⟩
theorem At.eq {w W : World} {bx : List (Nat × Value)} {l : List (Value × Nat)} (h : At w bx l W) (i j : Nat) {va vb : Value} {N : Nat} (hi : l[i]? = some (va, N)) (hj : l[j]? = some (vb, N)) (ht : Tab w) :
    Calls Tryd.prog 6 #[va, vb] W fun e w' => e = .returned (.bool true) ∧ At w bx l w' :=
  (eq_same N va vb W (h.num i va N hi).1 (h.num j vb N hj).1 (ht.below h.bel (Nat.le_refl _))).mono fun e w' h' => ⟨h'.1, h.below h'.2⟩
theorem At.zero {w W : World} {bx : List (Nat × Value)} {l : List (Value × Nat)} (h : At w bx l W) (i : Nat) {va : Value} (hi : l[i]? = some (va, 0)) :
    Calls Tryd.prog 13 #[va] W fun e w' => e = .returned (.bool true) ∧ At w bx l w' :=
  (zero_yes (h.num i va 0 hi).1).mono fun e w' h' => ⟨h'.1, h.below h'.2⟩
theorem At.nz {w W : World} {bx : List (Nat × Value)} {l : List (Value × Nat)} (h : At w bx l W) (i : Nat) {va : Value} {N : Nat} (hi : l[i]? = some (va, N)) (hN : N ≠ 0) :
    Calls Tryd.prog 13 #[va] W fun e w' => e = .returned (.bool false) ∧ At w bx l w' :=
  (zero_no (h.num i va N hi).1 hN).mono fun e w' h' => ⟨h'.1, h.below h'.2⟩
theorem At.less {w W : World} {bx : List (Nat × Value)} {l : List (Value × Nat)} (h : At w bx l W) (i j : Nat) {va vb : Value} {M N : Nat} (hi : l[i]? = some (va, M)) (hj : l[j]? = some (vb, N)) (hlt : M < N) :
    Calls Tryd.prog 7 #[va, vb] W fun e w' => e = .returned (.int .i64 (-1)) ∧ At w bx l w' :=
  (cmp_any M N va vb W (h.num i va M hi).1 (h.num j vb N hj).1).mono fun e w' h' => ⟨by rw [h'.1, cmpI_lt hlt], h.below h'.2⟩
theorem At.dvm0 {w W : World} {bx : List (Nat × Value)} {l : List (Value × Nat)} (h : At w bx l W) (i j : Nat) {va vb : Value} {M : Nat} (hi : l[i]? = some (va, M)) (hj : l[j]? = some (vb, 0)) :
    Calls Tryd.prog 9 #[va, vb] W fun e w' => e = .returned (.tuple #[.agg #[.slice none 0 0], .agg #[.slice none 0 0], .bool false]) ∧ At w bx l w' :=
  (dvm_any M 0 va vb W (h.num i va M hi).1 (h.num j vb 0 hj).1 (w100 8000 (h.num i va M hi).2 (by omega))).mono fun e w' h' => by
    obtain ⟨h1 | h1, h2⟩ := h'
    · exact ⟨h1.2, h.below h2⟩
    · exact absurd h1.1 (by omega)
theorem At.dvm {w W : World} {bx : List (Nat × Value)} {l : List (Value × Nat)} (h : At w bx l W) (i j : Nat) {va vb : Value} {M N : Nat} (hi : l[i]? = some (va, M)) (hj : l[j]? = some (vb, N)) (hN : N ≠ 0) :
    Calls Tryd.prog 9 #[va, vb] W fun e w' => ∃ x y z x' y' z', e = .returned (.tuple #[.agg #[.slice x y z], .agg #[.slice x' y' z'], .bool true]) ∧ At w bx ((.agg #[.slice x' y' z'], M % N) :: (.agg #[.slice x y z], M / N) :: l) w' :=
  (dvm_any M N va vb W (h.num i va M hi).1 (h.num j vb N hj).1 (w100 8000 (h.num i va M hi).2 (by omega))).mono fun e w' h' => by
    obtain ⟨h1 | h1, h2⟩ := h'
    · exact absurd h1.1 hN
    · obtain ⟨_, x, y, z, x', y', z', h3, h4, h5⟩ := h1
      exact ⟨x, y, z, x', y', z', h3, ((h.below h2).cons h4 (Nat.lt_of_le_of_lt (Nat.div_le_self _ _) (h.num i va M hi).2)).cons h5 (Nat.lt_of_le_of_lt (Nat.mod_le _ _) (h.num i va M hi).2)⟩
theorem At.parse {w W : World} {bx : List (Nat × Value)} {l : List (Value × Nat)} (h : At w bx l W) (s : ByteArray) (hw : WF s) (hs : s.size ≤ 200) :
    Calls Tryd.prog 5 #[.string s] W fun e w' => ∃ x y z, e = .returned (.tuple #[.agg #[.slice x y z], .int .i64 0]) ∧ At w bx ((.agg #[.slice x y z], dv s.data.toList) :: l) w' :=
  (parse_ok s W hw (by omega)).mono fun e w' h' => by
    obtain ⟨x, y, z, h1, h2, h3⟩ := h'
    have h4 := dv_lt s.size s.data.toList (by simp) hw.dig
    have h5 : 10 ^ s.size ≤ 18446744073709551616 ^ 100 := ten_pow (by omega)
    exact ⟨x, y, z, h1, (h.below h3).cons h2 (Nat.lt_of_lt_of_le h4 h5)⟩
theorem small200 {s : ByteArray} (hwf : WF s) (h : s.size ≤ 200) : dv s.data.toList < 18446744073709551616 ^ 13 := by
  have h1 := dv_lt s.size s.data.toList (by simp) hwf.dig
  have h2 : 10 ^ s.size ≤ 18446744073709551616 ^ 13 := ten_pow (by omega)
  exact Nat.lt_of_lt_of_le h1 h2
theorem lb_add {W x y k : Nat} (hW : 2 ≤ W) (hx : x < W ^ k) (hy : y < W ^ k) : x + y < W ^ (k + 1) := by
  rw [Nat.pow_succ]
  have := Nat.mul_le_mul_left (W ^ k) hW
  omega
theorem lb_mul {W x y j k : Nat} (hx : x < W ^ j) (hy : y < W ^ k) : x * y < W ^ (j + k) := by
  rw [Nat.pow_add]
  exact Nat.mul_lt_mul'' hx hy
/-- All numbers that the law makes. -/
structure LB (U A B C : Nat) : Prop where
  ab : A + B = A + B ∧ A + B < U
  ba : B + A = A + B ∧ A + B < U
  bc : B + C = B + C ∧ B + C < U
  abc : A * (B + C) = A * (B + C) ∧ A * (B + C) < U
  mab : A * B = A * B ∧ A * B < U
  mac : A * C = A * C ∧ A * C < U
  sum : A * B + A * C = A * (B + C) ∧ A * (B + C) < U
  m3 : A * B * C = A * B * C ∧ A * B * C < U
  mbc : B * C = B * C ∧ B * C < U
  m3' : A * (B * C) = A * B * C ∧ A * B * C < U
  le : B ≤ A + B
  sub : A + B - B = A ∧ A < U
  qb : A / B * B = A / B * B ∧ A / B * B < U
  qm : A / B * B + A % B = A ∧ A < U
theorem lb_all (W : Nat) (hW : 2 ≤ W) {A B C : Nat} (hA : A < W ^ 13) (hB : B < W ^ 13) (hC : C < W ^ 13) : LB (W ^ 100) A B C := by
  have up : ∀ k, k ≤ 100 → W ^ k ≤ W ^ 100 := fun k hk => Nat.pow_le_pow_right (by omega) hk
  have e1 := Nat.lt_of_lt_of_le (lb_add hW hA hB) (up _ (by omega))
  have e2 := Nat.lt_of_lt_of_le (lb_add hW hB hC) (up _ (by omega))
  have e3 := Nat.lt_of_lt_of_le (lb_mul hA (lb_add hW hB hC)) (up _ (by omega))
  have e4 := Nat.lt_of_lt_of_le (lb_mul hA hB) (up _ (by omega))
  have e5 := Nat.lt_of_lt_of_le (lb_mul hA hC) (up _ (by omega))
  have e6 := Nat.lt_of_lt_of_le (lb_mul (lb_mul hA hB) hC) (up _ (by omega))
  have e7 := Nat.lt_of_lt_of_le (lb_mul hB hC) (up _ (by omega))
  have e8 := Nat.lt_of_lt_of_le hA (up _ (by omega))
  have e9 : A / B * B ≤ A := Nat.div_mul_le_self A B
  have e10 : A / B * B + A % B = A := by rw [Nat.mul_comm]; exact Nat.div_add_mod A B
  exact ⟨⟨rfl, e1⟩, ⟨Nat.add_comm _ _, e1⟩, ⟨rfl, e2⟩, ⟨rfl, e3⟩, ⟨rfl, e4⟩, ⟨rfl, e5⟩, ⟨(Nat.mul_add _ _ _).symm, e3⟩, ⟨rfl, e6⟩, ⟨rfl, e7⟩, ⟨(Nat.mul_assoc _ _ _).symm, e6⟩, Nat.le_add_left _ _, ⟨Nat.add_sub_cancel _ _, e8⟩, ⟨rfl, Nat.lt_of_le_of_lt e9 e8⟩, ⟨e10, e8⟩⟩
/-- A store into a box, as a step of a region. -/
theorem wp_store_box {o : Oper} {a : Act} {W : World} {K : Act → World → Prop} {Q : Exit → Act → World → Prop} (s x : Operand) (ho : o.op = .store 25 s x) (hd : o.dst = none) (b : Nat) (old : Value) {p : Option Addr} {y z : Nat}
    (hs : a.eval s = .pointer (some ⟨b, 0, none⟩)) (hx : a.eval x = .agg #[.slice p y z]) (hb : Blk W b 25 #[old]) (h : K a (W.setCell ⟨b, 0, none⟩ (.slice p y z))) : Oper.wp Tryd.prog o a W K Q := by
  rw [setCell_eq_setRow W b 0 #[old] 25 (0, 0) (.slice p y z) hb] at h
  refine wp_store_row 25 s x ho b #[.slice p y z] hs hx 25 #[old] hb (by kernel_rfl) rfl (by simp [Value.oneCell']) ?_
  rw [hd]
  exact h
theorem if_wanted {b : Bool} {p q : Prop} (hb : b = true) (h : p) : if b = true then p else q := by rw [if_pos hb]; exact h
end Go.Proofs.YtglcgkgceadbkaaDoor
