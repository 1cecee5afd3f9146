/-
 Law 2: fractions: what a value is; numbers and boxes.
 Law 2: boxes, numbers and fractions that lie in memory together, and what each call adds to them.
-/
import Derived.Test.YtckglpkafhmehaaGreatDoorAnyI
import Derived.Test.YtckglpkafhmehaaGreatDoorNSubA
import Derived.Test.YtckglpkafhmehaaGreatDoorNGcdA
import Derived.Test.YtckglpkafhmehaaGreatDoorNSmall
import Derived.Test.YtckglpkafhmehaaGreatDoorNBits
namespace Go.Proofs.YtckglpkafhmehaaGreatDoor
open Go.RowKit
set_option linter.unusedVariables false
/-- The denominator as it is kept: 0 for 1. -/
def dn (x : Rat) : Nat := if x.den = 1 then 0 else x.den
theorem dn_one {x : Rat} (h : x.den = 1) : dn x = 0 := if_pos h
theorem dn_ne {x : Rat} (h : x.den ≠ 1) : dn x = x.den := if_neg h
theorem dn_zero {x : Rat} : dn x = 0 ↔ x.den = 1 := by
 unfold dn
 split
 · simp [*]
 · have := x.den_nz; simp [*]
/-- The value v is the fraction x. -/
def IsR (W : World) (v : Value) (x : Rat) : Prop := ∃ (p : Option Addr) (n c : Nat) (p' : Option Addr) (n' c' : Nat), v = .agg #[.bool (decide (x.num < 0)), .slice p n c, .slice p' n' c'] ∧
 IsN W (.agg #[.slice p n c]) x.num.natAbs ∧ IsN W (.agg #[.slice p' n' c']) (dn x)
theorem IsR.below {w w' : World} {v : Value} {x : Rat} {B : Nat} (h : IsR w v x) (hb : Below B w w') (hB : w.heap.size ≤ B) : IsR w' v x := by
 obtain ⟨p, n, c, p', n', c', rfl, h1, h2⟩ := h
 exact ⟨p, n, c, p', n', c', rfl, h1.below hb hB, h2.below hb hB⟩
theorem below_lit (w : World) (o : Obj) : Below w.heap.size w (w.alloc o) := (Below.refl _ _).alloc (Nat.le_refl _) _
/-- A number's words lie in no box of this kind. -/
def Plain (cs : Array Value) : Prop := ∀ (k : Nat) (z : Int), cs[k]? ≠ some (.int .u64 z)
theorem isN_out {W : World} {v : Value} {S b : Nat} {t : TypeId} {cs : Array Value} (h : IsN W v S) (hk : Blk W b t cs) (hp : Plain cs) : ∀ ad n c, v = .agg #[.slice (some ad) n c] → ad.block ≠ b := by
 intro ad n c e hb
 obtain ⟨a', c'', us, he, _, hu', _, _, _, _, hnil⟩ := h
 rw [e] at he
 have h1 := congrArg (fun v => match v with | Value.agg xs => xs[0]? | _ => none) he
 simp at h1
 obtain ⟨rfl, hn', rfl⟩ := h1
 obtain ⟨ad', hade, hl, hc⟩ := hu' 0 (List.length_pos_iff.2 (fun e => by have := (hnil e).1; cases this))
 cases hade
 unfold World.cell? at hc
 rw [add_block, hb, show W.heap[b]? = _ from hk] at hc
 simp only at hc
 split at hc
 · cases hc
 · exact hp _ _ hc
theorem plain_nat (p : Option Addr) (n c : Nat) : Plain #[.slice p n c] := fun k z => by
 cases k with
 | zero => simp
 | succ k => simp
theorem plain_rat (b : Bool) (p : Option Addr) (n c : Nat) (p' : Option Addr) (n' c' : Nat) : Plain #[.bool b, .slice p n c, .slice p' n' c'] := fun k z => by
 match k with
 | 0 => simp
 | 1 => simp
 | 2 => simp
 | k + 3 => simp
theorem isN_put {W : World} {v : Value} {S b i : Nat} {x : Value} (h : IsN W v S) (hf : ∀ ad n c, v = .agg #[.slice (some ad) n c] → ad.block ≠ b) : IsN (W.setCell ⟨b, i, none⟩ x) v S := by
 obtain ⟨a, c, us, rfl, h2, h3, h4⟩ := h
 refine ⟨a, c, us, rfl, h2, fun k hk => ?_, h4⟩
 obtain ⟨ad, rfl, hlt, hc⟩ := h3 k hk
 have := hf ad _ _ rfl
 refine ⟨ad, rfl, by rw [World.size_setCell]; exact hlt, ?_⟩
 rw [World.cell?_setCell_other _ _ _ _ (fun e => by have h9 := congrArg Addr.block e; rw [add_block] at h9; simp at h9; omega)]
 exact hc
/-- A store into a box of one cell. -/
theorem isN_box1 {W : World} {v : Value} {S b : Nat} {p : Option Addr} {n c : Nat} (h : IsN W v S) (hk : Blk W b 31 #[.slice p n c]) (y : Value) : IsN (W.setCell ⟨b, 0, none⟩ y) v S := isN_put h (isN_out h hk (plain_nat p n c))
/-- Three stores into a box of three cells. -/
abbrev set3 (W : World) (b : Nat) (y0 y1 y2 : Value) : World := ((W.setCell ⟨b, 0, none⟩ y0).setCell ⟨b, 1, none⟩ y1).setCell ⟨b, 2, none⟩ y2
theorem isN_box3 {W : World} {v : Value} {S b : Nat} {z : Bool} {p : Option Addr} {n c : Nat} {p' : Option Addr} {n' c' : Nat} (h : IsN W v S) (hk : Blk W b 33 #[.bool z, .slice p n c, .slice p' n' c']) (y0 y1 y2 : Value) : IsN (set3 W b y0 y1 y2) v S := by
 have hf := isN_out h hk (plain_rat z p n c p' n' c')
 exact isN_put (isN_put (isN_put h hf) hf) hf
theorem below_set3 {B : Nat} {w W : World} {b : Nat} (h : Below B w W) (hb : B ≤ b) (y0 y1 y2 : Value) : Below B w (set3 W b y0 y1 y2) := ((h.setCell (p := ⟨b, 0, none⟩) hb y0).setCell (p := ⟨b, 1, none⟩) hb y1).setCell (p := ⟨b, 2, none⟩) hb y2
theorem blk_set3 {W : World} {b : Nat} {z0 z1 z2 : Value} (hk : Blk W b 33 #[z0, z1, z2]) (y0 y1 y2 : Value) : Blk (set3 W b y0 y1 y2) b 33 #[y0, y1, y2] := ((hk.set_ 0 y0).set_ 1 y1).set_ 2 y2
theorem res_rat {fn : Func} {p : Tmp} (h : fn.results = #[.cell p 33]) (tmps : Array Value) (w : World) (g : Nat) (z : Bool) (q : Option Addr) (n c : Nat) (q' : Option Addr) (n' c' : Nat) (hp : tmps.getD p undef = .pointer (some ⟨g, 0, none⟩)) (hg : Blk w g 33 #[.bool z, .slice q n c, .slice q' n' c']) :
 (results fn tmps).run Tryz.prog w = .ok (.agg #[.bool z, .slice q n c, .slice q' n' c']) w := results_cell_row h tmps w g 33 #[.bool z, .slice q n c, .slice q' n' c'] (0, 0) _ hp hg Tryz.underlying33 (by kernel_rfl) (by kernel_rfl)
theorem res_rat2 {fn : Func} {p u : Tmp} (h : fn.results = #[.cell p 33, .tmp u]) (tmps : Array Value) (w : World) (g : Nat) (z : Bool) (q : Option Addr) (n c : Nat) (q' : Option Addr) (n' c' : Nat) (x : Value) (hp : tmps.getD p undef = .pointer (some ⟨g, 0, none⟩)) (hu : tmps.getD u undef = x) (hg : Blk w g 33 #[.bool z, .slice q n c, .slice q' n' c']) :
 (results fn tmps).run Tryz.prog w = .ok (.tuple #[.agg #[.bool z, .slice q n c, .slice q' n' c'], x]) w := by
 rw [results_cell_tmp h, hp, hu]
 have e : (loadVar 33 ⟨g, 0, none⟩).run Tryz.prog w = .ok (.agg #[.bool z, .slice q n c, .slice q' n' c']) w := run_loadVar_row w g 33 33 #[.bool z, .slice q n c, .slice q' n' c'] (0, 0) _ hg Tryz.underlying33 (by kernel_rfl) (by kernel_rfl)
 simp [asAddr, e, Result.andThen]
/-- What a call that hands back a fraction leaves. -/
def GaveR (x : Rat) (w : World) (e : Ending) (w' : World) : Prop := ∃ v, e = .returned v ∧ IsR w' v x ∧ Below w.heap.size w w'
set_option maxRecDepth 100000 in
set_option maxHeartbeats 1000000 in
theorem one_any (N : Nat) (v : Value) (w : World) (h : IsN w v N) : Calls Tryz.prog 19 #[v] w fun e w' => e = .returned (.bool (decide (N = 1))) ∧ Below w.heap.size w w' := by
 obtain ⟨a, n, c, rfl⟩ := isN_form h
 have hb1 := below_lit w (.cells #[.slice a n c] 31)
 have q1 : (w.alloc (.cells #[.slice a n c] 31)).cell? ⟨w.heap.size, 0, none⟩ = some (.slice a n c) := (Blk.new w 31 #[.slice a n c]).cell 0
 have HS := Lib.hid (small_any N _ _ (h.below hb1 (Nat.le_refl _)))
 have HB := Lib.hid hb1
 by_cases h1 : N = 1
 · subst h1
   clear h hb1
   go_enter Tryz.func19, Tryz.ntmps19
   go_wp2_with fail
   refine HS.out.mono ?_
   rintro e w2 ⟨⟨_, rfl⟩ | ⟨h3, _⟩, hb2⟩
   · have HB2 := Lib.hid (HB.out.trans (hb2.mono HB.out.size))
     clear hb2 HS
     go_wp2_with fail
     go_ret
     exact ⟨rfl, HB2.out⟩
   · exact absurd h3 (by decide)
 · have hd : decide (N = 1) = false := by simpa using h1
   have hn : ((N : Int) == 1) = false := by simp; omega
   rw [hd]
   clear h hb1 hd
   go_enter Tryz.func19, Tryz.ntmps19
   go_wp2_with fail
   refine HS.out.mono ?_
   rintro e w2 ⟨⟨_, rfl⟩ | ⟨_, rfl⟩, hb2⟩
   all_goals
    have HB2 := Lib.hid (HB.out.trans (hb2.mono HB.out.size))
    clear hb2 HS
    go_wp2_with fail
    go_ret
    exact ⟨rfl, HB2.out⟩
end Go.Proofs.YtckglpkafhmehaaGreatDoor
namespace Go.Proofs.YtckglpkafhmehaaGreatDoor
open Go.RowKit
set_option linter.unusedVariables false
/-- The boxes bx hold these cells, the values l are these numbers, the values r these fractions; what lay in memory ahead of w lies there still. -/
structure Mq (w : World) (bx : List (Nat × TypeId × Array Value)) (l : List (Value × Nat)) (r : List (Value × Rat)) (W : World) : Prop where
 bel : Below w.heap.size w W
 box : ∀ (k b : Nat) (t : TypeId) (cs : Array Value), bx[k]? = some (b, t, cs) → Blk W b t cs ∧ w.heap.size ≤ b
 num : ∀ (k : Nat) (v : Value) (N : Nat), l[k]? = some (v, N) → IsN W v N ∧ N < 18446744073709551616 ^ 100
 rat : ∀ (k : Nat) (v : Value) (x : Rat), r[k]? = some (v, x) → IsR W v x
section
variable {w W W' : World} {bx : List (Nat × TypeId × Array Value)} {l : List (Value × Nat)} {r : List (Value × Rat)} {va vb v : Value} {M N S : Nat}
theorem Mq.refl (w : World) : Mq w [] [] [] w := ⟨Below.refl _ _, fun k b t cs e => by simp at e, fun k v N e => by simp at e, fun k v N e => by simp at e⟩
theorem Mq.below (h : Mq w bx l r W) (hb : Below W.heap.size W W') : Mq w bx l r W' :=
 ⟨h.bel.trans (hb.mono h.bel.size), fun k b t cs e => ⟨(h.box k b t cs e).1.below hb (h.box k b t cs e).1.lt, (h.box k b t cs e).2⟩, fun k v N e => ⟨(h.num k v N e).1.below hb (Nat.le_refl _), (h.num k v N e).2⟩, fun k v x e => (h.rat k v x e).below hb (Nat.le_refl _)⟩
theorem Mq.drew (h : Mq w bx l r W) : Mq w bx l r W.drew := h.below (Below.refl _ _).drew
theorem Mq.cons (h : Mq w bx l r W) (hv : IsN W v N) (hN : N < 18446744073709551616 ^ 100) : Mq w bx ((v, N) :: l) r W :=
 ⟨h.bel, h.box, fun k v' N' e => by
  cases k with
  | zero =>
   simp only [List.getElem?_cons_zero, Option.some.injEq, Prod.mk.injEq] at e
   obtain ⟨rfl, rfl⟩ := e
   exact ⟨hv, hN⟩
  | succ k => exact h.num k v' N' (by simpa using e), h.rat⟩
theorem Mq.rcons (h : Mq w bx l r W) {x : Rat} (hv : IsR W v x) : Mq w bx l ((v, x) :: r) W :=
 ⟨h.bel, h.box, h.num, fun k v' x' e => by
  cases k with
  | zero =>
   simp only [List.getElem?_cons_zero, Option.some.injEq, Prod.mk.injEq] at e
   obtain ⟨rfl, rfl⟩ := e
   exact hv
  | succ k => exact h.rat k v' x' (by simpa using e)⟩
theorem Mq.alloc (h : Mq w bx l r W) (t : TypeId) (cs : Array Value) : Mq w ((W.heap.size, t, cs) :: bx) l r (W.alloc (.cells cs t)) := by
 have h2 := h.below (below_lit W (.cells cs t))
 refine ⟨h2.bel, fun k b t' cs' e => ?_, h2.num, h2.rat⟩
 cases k with
 | zero =>
  simp only [List.getElem?_cons_zero, Option.some.injEq, Prod.mk.injEq] at e
  obtain ⟨rfl, rfl, rfl⟩ := e
  exact ⟨Blk.new W _ _, h.bel.size⟩
 | succ k => exact h2.box k b t' cs' (by simpa using e)
theorem Mq.cell (h : Mq w bx l r W) (k i : Nat) {b : Nat} {t : TypeId} {cs : Array Value} {u : Value} (e : bx[k]? = some (b, t, cs)) (e2 : cs[i]? = some u) : W.cell? ⟨b, i, none⟩ = some u := by
 rw [(h.box k b t cs e).1.cell i]; exact e2
theorem Mq.n0 (h : Mq w bx l r W) (k : Nat) {b : Nat} {t : TypeId} {x : Value} (e : bx[k]? = some (b, t, #[x])) : W.cell? ⟨b, 0, none⟩ = some x := h.cell k 0 e rfl
theorem Mq.c0 (h : Mq w bx l r W) (k : Nat) {b : Nat} {t : TypeId} {x y z : Value} (e : bx[k]? = some (b, t, #[x, y, z])) : W.cell? ⟨b, 0, none⟩ = some x := h.cell k 0 e rfl
theorem Mq.c1 (h : Mq w bx l r W) (k : Nat) {b : Nat} {t : TypeId} {x y z : Value} (e : bx[k]? = some (b, t, #[x, y, z])) : W.cell? ⟨b, 1, none⟩ = some y := h.cell k 1 e rfl
theorem Mq.c2 (h : Mq w bx l r W) (k : Nat) {b : Nat} {t : TypeId} {x y z : Value} (e : bx[k]? = some (b, t, #[x, y, z])) : W.cell? ⟨b, 2, none⟩ = some z := h.cell k 2 e rfl
theorem Mq.frozen (h : Mq w bx l r W) (k i : Nat) {b : Nat} {t : TypeId} {cs : Array Value} (e : bx[k]? = some (b, t, cs)) : W.frozen? ⟨b, i, none⟩ = false := (h.box k b t cs e).1.frozen i
theorem Mq.two (h : Mq w bx l r W) (t1 t2 : TypeId) (k1 k2 : Array Value) : Mq w ((W.heap.size + 1, t2, k2) :: (W.heap.size, t1, k1) :: bx) l r ((W.alloc (.cells k1 t1)).alloc (.cells k2 t2)) := by
 have := (h.alloc t1 k1).alloc t2 k2
 rw [World.size_alloc] at this
 exact this
theorem Mq.three (h : Mq w bx l r W) (t1 t2 t3 : TypeId) (k1 k2 k3 : Array Value) : Mq w ((W.heap.size + 1 + 1, t3, k3) :: (W.heap.size + 1, t2, k2) :: (W.heap.size, t1, k1) :: bx) l r (((W.alloc (.cells k1 t1)).alloc (.cells k2 t2)).alloc (.cells k3 t3)) := by
 have := (h.two t1 t2 k1 k2).alloc t3 k3
 rw [World.size_alloc, World.size_alloc] at this
 exact this
theorem q100 {x : Nat} (k : Nat) (h : x < 18446744073709551616 ^ 100) (hk : 100 ≤ k) : x < 18446744073709551616 ^ k := Nat.lt_of_lt_of_le h (w64_mono hk)
/-- A call that gives one number more. -/
abbrev Gq (w : World) (bx : List (Nat × TypeId × Array Value)) (l : List (Value × Nat)) (r : List (Value × Rat)) (S : Nat) (e : Ending) (w' : World) : Prop := ∃ x y z, e = .returned (.agg #[.slice x y z]) ∧ Mq w bx ((.agg #[.slice x y z], S) :: l) r w'
theorem gaveV_mq (h : Mq w bx l r W) {e : Ending} {w' : World} (h' : GaveV N W e w') (hS : N = S ∧ S < 18446744073709551616 ^ 100) : Gq w bx l r S e w' := by
 obtain ⟨x, y, z, h1, h2, h3⟩ := h'
 exact ⟨x, y, z, h1, (h.below h3).cons (by rw [← hS.1]; exact h2) hS.2⟩
theorem Mq.add (h : Mq w bx l r W) (i j : Nat) (hi : l[i]? = some (va, M)) (hj : l[j]? = some (vb, N)) (hS : M + N = S ∧ S < 18446744073709551616 ^ 100) : Calls Tryz.prog 36 #[va, vb] W (Gq w bx l r S) :=
 (add_any M N va vb W (h.num i va M hi).1 (h.num j vb N hj).1 (q100 9000 (h.num i va M hi).2 (by omega)) (q100 9000 (h.num j vb N hj).2 (by omega))).mono fun e w' h' => gaveV_mq h h' hS
theorem Mq.mul (h : Mq w bx l r W) (i j : Nat) (hi : l[i]? = some (va, M)) (hj : l[j]? = some (vb, N)) (hS : M * N = S ∧ S < 18446744073709551616 ^ 100) : Calls Tryz.prog 37 #[va, vb] W (Gq w bx l r S) :=
 (mul_any M N va vb W (h.num i va M hi).1 (h.num j vb N hj).1 (q100 5000 (h.num i va M hi).2 (by omega)) (q100 5000 (h.num j vb N hj).2 (by omega))).mono fun e w' h' => gaveV_mq h (gaveV h') hS
theorem Mq.gcd (h : Mq w bx l r W) (i j : Nat) (hi : l[i]? = some (va, M)) (hj : l[j]? = some (vb, N)) (hM : M < 18446744073709551616 ^ 40) (hN : N < 18446744073709551616 ^ 40) (ht : TabB w) (hS : Nat.gcd M N = S ∧ S < 18446744073709551616 ^ 100) : Calls Tryz.prog 20 #[va, vb] W (Gq w bx l r S) :=
 (gcd_all M N va vb W (h.num i va M hi).1 (h.num j vb N hj).1 hM hN (ht.below h.bel (Nat.le_refl _))).mono fun e w' h' => gaveV_mq h h' hS
theorem Mq.cmp (h : Mq w bx l r W) (i j : Nat) (hi : l[i]? = some (va, M)) (hj : l[j]? = some (vb, N)) {C : Int} (hC : cmpI M N = C) : Calls Tryz.prog 57 #[va, vb] W fun e w' => e = .returned (.int .i64 C) ∧ Mq w bx l r w' :=
 (cmp_any M N va vb W (h.num i va M hi).1 (h.num j vb N hj).1).mono fun e w' h' => ⟨by rw [h'.1, hC], h.below h'.2⟩
theorem Mq.sub (h : Mq w bx l r W) (i j : Nat) (hi : l[i]? = some (va, M)) (hj : l[j]? = some (vb, N)) (hle : N ≤ M) (hS : M - N = S ∧ S < 18446744073709551616 ^ 100) :
 Calls Tryz.prog 71 #[va, vb] W fun e w' => ∃ x y z, e = .returned (.tuple #[.agg #[.slice x y z], .bool true]) ∧ Mq w bx ((.agg #[.slice x y z], S) :: l) r w' :=
 (sub_any M N va vb W (h.num i va M hi).1 (h.num j vb N hj).1 (q100 9000 (h.num i va M hi).2 (by omega)) hle).mono fun e w' h' => by
  obtain ⟨x, y, z, h1, h2, h3⟩ := h'
  exact ⟨x, y, z, h1, (h.below h3).cons (by rw [← hS.1]; exact h2) hS.2⟩
theorem Mq.subl (h : Mq w bx l r W) (i j : Nat) (hi : l[i]? = some (va, M)) (hj : l[j]? = some (vb, N)) (hlt : M < N) :
 Calls Tryz.prog 71 #[va, vb] W fun e w' => e = .returned (.tuple #[.agg #[.slice none 0 0], .bool false]) ∧ Mq w bx l r w' :=
 (sub_less M N va vb W (h.num i va M hi).1 (h.num j vb N hj).1 hlt).mono fun e w' h' => ⟨h'.1, h.below h'.2⟩
theorem Mq.dvm (h : Mq w bx l r W) (i j : Nat) (hi : l[i]? = some (va, M)) (hj : l[j]? = some (vb, N)) (hN : 0 < N) :
 Calls Tryz.prog 49 #[va, vb] W fun e w' => ∃ x y z x' y' z', e = .returned (.tuple #[.agg #[.slice x y z], .agg #[.slice x' y' z'], .bool true]) ∧ Mq w bx ((.agg #[.slice x y z], M / N) :: l) r w' :=
 (dvm_any M N va vb W (h.num i va M hi).1 (h.num j vb N hj).1 (q100 8000 (h.num i va M hi).2 (by omega))).mono fun e w' h' => by
  obtain ⟨h1 | h1, h2⟩ := h'
  · exact absurd h1.1 (by omega)
  · obtain ⟨_, x, y, z, x', y', z', h3, h4, h5⟩ := h1
    exact ⟨x, y, z, x', y', z', h3, (h.below h2).cons h4 (Nat.lt_of_le_of_lt (Nat.div_le_self _ _) (h.num i va M hi).2)⟩
theorem Mq.zero (h : Mq w bx l r W) (i : Nat) (hi : l[i]? = some (va, N)) {b : Bool} (hb : decide (N = 0) = b) : Calls Tryz.prog 18 #[va] W fun e w' => e = .returned (.bool b) ∧ Mq w bx l r w' := by
 by_cases h0 : N = 0
 · subst h0
   subst hb
   exact (zero_yes (h.num i va 0 hi).1).mono fun e w' h' => ⟨by rw [h'.1]; rfl, h.below h'.2⟩
 · rw [decide_eq_false h0] at hb
   subst hb
   exact (zero_no (h.num i va N hi).1 h0).mono fun e w' h' => ⟨h'.1, h.below h'.2⟩
theorem Mq.one (h : Mq w bx l r W) (i : Nat) (hi : l[i]? = some (va, N)) {b : Bool} (hb : decide (N = 1) = b) : Calls Tryz.prog 19 #[va] W fun e w' => e = .returned (.bool b) ∧ Mq w bx l r w' :=
 (one_any N va W (h.num i va N hi).1).mono fun e w' h' => ⟨by rw [h'.1, hb], h.below h'.2⟩
theorem Mq.of (h : Mq w bx l r W) (hN : N < 18446744073709551616) : Calls Tryz.prog 35 #[.int .u64 (N : Int)] W (Gq w bx l r N) :=
 (of_any N hN W).mono fun e w' h' => by
  obtain ⟨v, h1, h2, h3⟩ := h'
  obtain ⟨x, y, z, rfl⟩ := isN_form h2
  exact ⟨x, y, z, h1, (h.below h3).cons h2 (Nat.lt_of_lt_of_le (by rw [Nat.pow_one]; exact hN) (w64_mono (j := 1) (by omega)))⟩
theorem Mq.text (h : Mq w bx l r W) (i : Nat) (hi : l[i]? = some (va, N)) (ht : Tab w) {T : ByteArray} (hT : (⟨(Lib.decDigits N).toArray⟩ : ByteArray) = T) : Calls Tryz.prog 28 #[va] W fun e w' => e = .returned (.string T) ∧ Mq w bx l r w' :=
 (text_any N va W (h.num i va N hi).1 (ht.below h.bel (Nat.le_refl _))).mono fun e w' h' => ⟨by rw [h'.1, hT], h.below h'.2⟩
/-- A number is handed back out of a box of one cell. -/
theorem Mq.fin1 (h : Mq w bx l r W) (k i : Nat) {b : Nat} {p : Option Addr} {n c : Nat} {q : Option Addr} {m d : Nat} (e : bx[k]? = some (b, 31, #[.slice p n c])) (hi : l[i]? = some (.agg #[.slice q m d], N)) :
 Blk (W.setCell ⟨b, 0, none⟩ (.slice q m d)) b 31 #[.slice q m d] ∧ GaveV N w (.returned (.agg #[.slice q m d])) (W.setCell ⟨b, 0, none⟩ (.slice q m d)) := by
 have hk := h.box k b _ _ e
 have hn := h.num i _ N hi
 exact ⟨hk.1.set_ 0 _, q, m, d, rfl, isN_box1 hn.1 hk.1 _, h.bel.setCell (p := ⟨b, 0, none⟩) hk.2 _⟩
theorem Mq.fin0 (h : Mq w bx l r W) (k i : Nat) {b : Nat} {q : Option Addr} {m d : Nat} (e : bx[k]? = some (b, 31, #[.slice q m d])) (hi : l[i]? = some (.agg #[.slice q m d], N)) :
 Blk W b 31 #[.slice q m d] ∧ GaveV N w (.returned (.agg #[.slice q m d])) W := ⟨(h.box k b _ _ e).1, q, m, d, rfl, (h.num i _ N hi).1, h.bel⟩
theorem Mq.fin30 (h : Mq w bx l r W) (k i j : Nat) {b : Nat} {q : Option Addr} {m d : Nat} {q' : Option Addr} {m' d' : Nat} {y : Bool} {x : Rat}
 (e : bx[k]? = some (b, 33, #[.bool y, .slice q m d, .slice q' m' d'])) (hi : l[i]? = some (.agg #[.slice q m d], x.num.natAbs)) (hj : l[j]? = some (.agg #[.slice q' m' d'], dn x)) (hy : decide (x.num < 0) = y) :
 Blk W b 33 #[.bool y, .slice q m d, .slice q' m' d'] ∧ GaveR x w (.returned (.agg #[.bool y, .slice q m d, .slice q' m' d'])) W :=
 ⟨(h.box k b _ _ e).1, _, rfl, ⟨q, m, d, q', m', d', by rw [hy], (h.num i _ _ hi).1, (h.num j _ _ hj).1⟩, h.bel⟩
/-- A fraction is handed back out of a box of three cells. -/
theorem Mq.fin3 (h : Mq w bx l r W) (k i j : Nat) {b : Nat} {z : Bool} {p : Option Addr} {n c : Nat} {p' : Option Addr} {n' c' : Nat} {q : Option Addr} {m d : Nat} {q' : Option Addr} {m' d' : Nat} {y : Bool} {x : Rat}
 (e : bx[k]? = some (b, 33, #[.bool z, .slice p n c, .slice p' n' c'])) (hi : l[i]? = some (.agg #[.slice q m d], x.num.natAbs)) (hj : l[j]? = some (.agg #[.slice q' m' d'], dn x)) (hy : decide (x.num < 0) = y) :
 Blk (set3 W b (.bool y) (.slice q m d) (.slice q' m' d')) b 33 #[.bool y, .slice q m d, .slice q' m' d'] ∧ GaveR x w (.returned (.agg #[.bool y, .slice q m d, .slice q' m' d'])) (set3 W b (.bool y) (.slice q m d) (.slice q' m' d')) := by
 have hk := h.box k b _ _ e
 have h1 := h.num i _ _ hi
 have h2 := h.num j _ _ hj
 exact ⟨blk_set3 hk.1 _ _ _, _, rfl, ⟨q, m, d, q', m', d', by rw [hy], isN_box3 h1.1 hk.1 _ _ _, isN_box3 h2.1 hk.1 _ _ _⟩, below_set3 h.bel hk.2 _ _ _⟩
end
set_option maxRecDepth 100000 in
set_option maxHeartbeats 1000000 in
theorem times_any (M N : Nat) (va vb : Value) (w : World) (ha : IsN w va M) (hb : IsN w vb N) (hM : M < 18446744073709551616 ^ 100) (hN : N < 18446744073709551616 ^ 100) {S : Nat} (hS : (if N = 0 then M else M * N) = S ∧ S < 18446744073709551616 ^ 100) :
 Calls Tryz.prog 58 #[va, vb] w (GaveV S w) := by
 obtain ⟨a1, n1, c1, rfl⟩ := isN_form ha
 obtain ⟨a2, n2, c2, rfl⟩ := isN_form hb
 have V := (((Mq.refl w).cons hb hN).cons ha hM).three 31 31 31 #[.slice a1 n1 c1] #[.slice a2 n2 c2] #[.slice none 0 0]
 have qa := V.cell 2 0 rfl rfl
 have qb := V.cell 1 0 rfl rfl
 clear ha hb
 by_cases h0 : N = 0
 · obtain ⟨hS1, hS2⟩ := hS
   rw [if_pos h0] at hS1
   subst hS1
   go_enter Tryz.func58, Tryz.ntmps58
   go_wp2_with fail
   refine (V.zero 1 rfl (decide_eq_true h0)).mono ?_
   rintro e w2 ⟨rfl, V2⟩
   have q2 := V2.cell 2 0 rfl rfl
   have qr := V2.cell 0 0 rfl rfl
   have fr := V2.frozen 0 0 rfl
   have HF := Lib.hid (V2.fin1 0 0 rfl rfl)
   clear V V2 qa qb
   go_wp2_with fail
   exact bodyPost_ret (res_nat rfl _ _ _ _ rfl HF.out.1) rfl HF.out.2
 · obtain ⟨hS1, hS2⟩ := hS
   rw [if_neg h0] at hS1
   go_enter Tryz.func58, Tryz.ntmps58
   go_wp2_with fail
   refine (V.zero 1 rfl (decide_eq_false h0)).mono ?_
   rintro e w2 ⟨rfl, V2⟩
   have qa2 := V2.cell 2 0 rfl rfl
   have qb2 := V2.cell 1 0 rfl rfl
   clear V qa qb
   go_wp2_with fail
   refine (V2.mul 0 1 rfl rfl ⟨hS1, hS2⟩).mono ?_
   rintro e w3 ⟨x, y, z, rfl, V3⟩
   have qr := V3.cell 0 0 rfl rfl
   have fr := V3.frozen 0 0 rfl
   have HF := Lib.hid (V3.fin1 0 0 rfl rfl)
   clear V2 V3 qa2 qb2
   go_wp2_with fail
   exact bodyPost_ret (res_nat rfl _ _ _ _ rfl HF.out.1) rfl HF.out.2
end Go.Proofs.YtckglpkafhmehaaGreatDoor
