/-
 Law 2: the document's own fractions: boxes, numbers and fractions that lie in memory together.
-/
import Derived.Test.YtggmnmmjmihnfaaGreatDoorRefB
import Derived.Test.YtggmnmmjmihnfaaGreatDoorRQm
namespace Go.Proofs.YtggmnmmjmihnfaaGreatDoor
open Go.RowKit
set_option linter.unusedVariables false
/-- The rows of a number lie in no box of this kind. -/
def PlainD (cs : Array Value) : Prop := ∀ (k : Nat) (z : Int), cs[k]? ≠ some (.int .i64 z)
theorem plain_ref (b : Bool) (p : Option Addr) (n c : Nat) (p' : Option Addr) (n' c' : Nat) : PlainD #[.bool b, .slice p n c, .slice p' n' c'] := fun k z => by
 match k with
 | 0 => simp
 | 1 => simp
 | 2 => simp
 | k + 3 => simp
theorem rn_put {W : World} {v : Value} {N b i : Nat} {t : TypeId} {cs : Array Value} (h : RN W v N) (hk : Blk W b t cs) (hp : PlainD cs) (y : Value) : RN (W.setCell ⟨b, i, none⟩ y) v N := by
 obtain ⟨ds, ⟨a, c, rfl, hc, hr, hz⟩, hd, ht, hv⟩ := h
 refine ⟨ds, ⟨a, c, rfl, hc, fun k hi => ?_, hz⟩, hd, ht, hv⟩
 obtain ⟨ad, rfl, hl, hcell⟩ := hr k hi
 refine ⟨ad, rfl, by rw [World.size_setCell]; exact hl, ?_⟩
 have hne : ad.block ≠ b := by
  intro hb
  unfold World.cell? at hcell
  rw [add_block, hb, show W.heap[b]? = _ from hk] at hcell
  simp only at hcell
  split at hcell
  · cases hcell
  · exact hp _ _ hcell
 rw [World.cell?_setCell_other _ _ _ _ (fun e => by have h9 := congrArg Addr.block e; rw [add_block] at h9; simp at h9; omega)]
 exact hcell
/-- The value v is the fraction x, as the document writes it. -/
def RQ (W : World) (v : Value) (x : Rat) : Prop := ∃ (p : Option Addr) (n c : Nat) (p' : Option Addr) (n' c' : Nat), v = .agg #[.bool (decide (x.num < 0)), .slice p n c, .slice p' n' c'] ∧
 RN W (.slice p n c) x.num.natAbs ∧ RN W (.slice p' n' c') x.den
theorem RQ.below {w w' : World} {v : Value} {x : Rat} {B : Nat} (h : RQ w v x) (hb : Below B w w') (hB : w.heap.size ≤ B) : RQ w' v x := by
 obtain ⟨p, n, c, p', n', c', rfl, h1, h2⟩ := h
 exact ⟨p, n, c, p', n', c', rfl, h1.below hb hB, h2.below hb hB⟩
/-- What a call that hands back a fraction leaves. -/
def GaveQ (x : Rat) (w : World) (e : Ending) (w' : World) : Prop := ∃ v, e = .returned v ∧ RQ w' v x ∧ Below w.heap.size w w'
theorem res_ref {fn : Func} {p : Tmp} (h : fn.results = #[.cell p 34]) (tmps : Array Value) (w : World) (g : Nat) (z : Bool) (q : Option Addr) (n c : Nat) (q' : Option Addr) (n' c' : Nat) (hp : tmps.getD p undef = .pointer (some ⟨g, 0, none⟩)) (hg : Blk w g 34 #[.bool z, .slice q n c, .slice q' n' c']) :
 (results fn tmps).run Tryz.prog w = .ok (.agg #[.bool z, .slice q n c, .slice q' n' c']) w := results_cell_row h tmps w g 34 #[.bool z, .slice q n c, .slice q' n' c'] (0, 0) _ hp hg Tryz.underlying34 (by kernel_rfl) (by kernel_rfl)
theorem res_ref2 {fn : Func} {p u : Tmp} (h : fn.results = #[.cell p 34, .tmp u]) (tmps : Array Value) (w : World) (g : Nat) (z : Bool) (q : Option Addr) (n c : Nat) (q' : Option Addr) (n' c' : Nat) (x : Value) (hp : tmps.getD p undef = .pointer (some ⟨g, 0, none⟩)) (hu : tmps.getD u undef = x) (hg : Blk w g 34 #[.bool z, .slice q n c, .slice q' n' c']) :
 (results fn tmps).run Tryz.prog w = .ok (.tuple #[.agg #[.bool z, .slice q n c, .slice q' n' c'], x]) w := by
 rw [results_cell_tmp h, hp, hu]
 have e : (loadVar 34 ⟨g, 0, none⟩).run Tryz.prog w = .ok (.agg #[.bool z, .slice q n c, .slice q' n' c']) w := run_loadVar_row w g 34 34 #[.bool z, .slice q n c, .slice q' n' c'] (0, 0) _ hg Tryz.underlying34 (by kernel_rfl) (by kernel_rfl)
 simp [asAddr, e, Result.andThen]
theorem blk_setr {W : World} {b : Nat} {t : TypeId} {z0 z1 z2 : Value} (hk : Blk W b t #[z0, z1, z2]) (y0 y1 y2 : Value) : Blk (set3 W b y0 y1 y2) b t #[y0, y1, y2] := ((hk.set_ 0 y0).set_ 1 y1).set_ 2 y2
/-- How many digits of base 10,000 a fraction's numbers need. -/
def SzD (k : Nat) (x : Rat) : Prop := x.num.natAbs < 10000 ^ k ∧ x.den < 10000 ^ k
theorem SzD.mono {j k : Nat} {x : Rat} (h : SzD j x) (hk : j ≤ k) : SzD k x := ⟨pow_up _ _ h.1 hk, pow_up _ _ h.2 hk⟩
theorem d_mul {M N j k : Nat} (h1 : M < 10000 ^ j) (h2 : N < 10000 ^ k) : M * N < 10000 ^ (j + k) := by
 rw [Nat.pow_add]
 exact Nat.mul_lt_mul'' h1 h2
theorem d_add {M N j : Nat} (h1 : M < 10000 ^ j) (h2 : N < 10000 ^ j) : M + N < 10000 ^ (j + 1) := by
 rw [Nat.pow_succ]; omega
theorem d_pos {x : Nat} (k : Nat) (h : 1 ≤ k) (hx : x < 10000) : x < 10000 ^ k := pow_up 1 k (by simpa using hx) h
/-- The boxes bx hold these cells, the values l are these numbers, the values q these fractions, as the document writes them, the values r these fractions of the program; what lay in memory ahead of w lies there still. -/
structure Dq (w : World) (bx : List (Nat × TypeId × Array Value)) (l : List (Value × Nat)) (q r : List (Value × Rat)) (W : World) : Prop where
 bel : Below w.heap.size w W
 box : ∀ (k b : Nat) (t : TypeId) (cs : Array Value), bx[k]? = some (b, t, cs) → Blk W b t cs ∧ w.heap.size ≤ b
 num : ∀ (k : Nat) (v : Value) (N : Nat), l[k]? = some (v, N) → RN W v N ∧ N < 10000 ^ 900
 ref : ∀ (k : Nat) (v : Value) (x : Rat), q[k]? = some (v, x) → RQ W v x
 rat : ∀ (k : Nat) (v : Value) (x : Rat), r[k]? = some (v, x) → IsR W v x
section
variable {w W W' : World} {bx : List (Nat × TypeId × Array Value)} {l : List (Value × Nat)} {q r : List (Value × Rat)} {va vb v : Value} {M N S : Nat} {x y : Rat}
theorem Dq.refl (w : World) : Dq w [] [] [] [] w := ⟨Below.refl _ _, fun k b t cs e => by simp at e, fun k v N e => by simp at e, fun k v N e => by simp at e, fun k v N e => by simp at e⟩
theorem Dq.below (h : Dq w bx l q r W) (hb : Below W.heap.size W W') : Dq w bx l q r W' :=
 ⟨h.bel.trans (hb.mono h.bel.size), fun k b t cs e => ⟨(h.box k b t cs e).1.below hb (h.box k b t cs e).1.lt, (h.box k b t cs e).2⟩, fun k v N e => ⟨(h.num k v N e).1.below hb (Nat.le_refl _), (h.num k v N e).2⟩, fun k v x e => (h.ref k v x e).below hb (Nat.le_refl _), fun k v x e => (h.rat k v x e).below hb (Nat.le_refl _)⟩
theorem Dq.drew (h : Dq w bx l q r W) : Dq w bx l q r W.drew := h.below (Below.refl _ _).drew
theorem Dq.cons (h : Dq w bx l q r W) (hv : RN W v N) (hN : N < 10000 ^ 900) : Dq w bx ((v, N) :: l) q r W :=
 ⟨h.bel, h.box, fun k v' N' e => by
  cases k with
  | zero =>
   simp only [List.getElem?_cons_zero, Option.some.injEq, Prod.mk.injEq] at e
   obtain ⟨rfl, rfl⟩ := e
   exact ⟨hv, hN⟩
  | succ k => exact h.num k v' N' (by simpa using e), h.ref, h.rat⟩
theorem Dq.qcons (h : Dq w bx l q r W) (hv : RQ W v x) : Dq w bx l ((v, x) :: q) r W :=
 ⟨h.bel, h.box, h.num, fun k v' x' e => by
  cases k with
  | zero =>
   simp only [List.getElem?_cons_zero, Option.some.injEq, Prod.mk.injEq] at e
   obtain ⟨rfl, rfl⟩ := e
   exact hv
  | succ k => exact h.ref k v' x' (by simpa using e), h.rat⟩
theorem Dq.rcons (h : Dq w bx l q r W) (hv : IsR W v x) : Dq w bx l q ((v, x) :: r) W :=
 ⟨h.bel, h.box, h.num, h.ref, fun k v' x' e => by
  cases k with
  | zero =>
   simp only [List.getElem?_cons_zero, Option.some.injEq, Prod.mk.injEq] at e
   obtain ⟨rfl, rfl⟩ := e
   exact hv
  | succ k => exact h.rat k v' x' (by simpa using e)⟩
theorem Dq.alloc (h : Dq w bx l q r W) (t : TypeId) (cs : Array Value) : Dq w ((W.heap.size, t, cs) :: bx) l q r (W.alloc (.cells cs t)) := by
 have h2 := h.below (below_lit W (.cells cs t))
 refine ⟨h2.bel, fun k b t' cs' e => ?_, h2.num, h2.ref, h2.rat⟩
 cases k with
 | zero =>
  simp only [List.getElem?_cons_zero, Option.some.injEq, Prod.mk.injEq] at e
  obtain ⟨rfl, rfl, rfl⟩ := e
  exact ⟨Blk.new W _ _, h.bel.size⟩
 | succ k => exact h2.box k b t' cs' (by simpa using e)
theorem Dq.two (h : Dq w bx l q r W) (t1 t2 : TypeId) (k1 k2 : Array Value) : Dq w ((W.heap.size + 1, t2, k2) :: (W.heap.size, t1, k1) :: bx) l q r ((W.alloc (.cells k1 t1)).alloc (.cells k2 t2)) := by
 have := (h.alloc t1 k1).alloc t2 k2
 rw [World.size_alloc] at this
 exact this
theorem Dq.three (h : Dq w bx l q r W) (t1 t2 t3 : TypeId) (k1 k2 k3 : Array Value) : Dq w ((W.heap.size + 1 + 1, t3, k3) :: (W.heap.size + 1, t2, k2) :: (W.heap.size, t1, k1) :: bx) l q r (((W.alloc (.cells k1 t1)).alloc (.cells k2 t2)).alloc (.cells k3 t3)) := by
 have := (h.two t1 t2 k1 k2).alloc t3 k3
 rw [World.size_alloc, World.size_alloc] at this
 exact this
theorem Dq.cell (h : Dq w bx l q r W) (k i : Nat) {b : Nat} {t : TypeId} {cs : Array Value} {u : Value} (e : bx[k]? = some (b, t, cs)) (e2 : cs[i]? = some u) : W.cell? ⟨b, i, none⟩ = some u := by
 rw [(h.box k b t cs e).1.cell i]; exact e2
theorem Dq.c0 (h : Dq w bx l q r W) (k : Nat) {b : Nat} {t : TypeId} {x y z : Value} (e : bx[k]? = some (b, t, #[x, y, z])) : W.cell? ⟨b, 0, none⟩ = some x := h.cell k 0 e rfl
theorem Dq.c1 (h : Dq w bx l q r W) (k : Nat) {b : Nat} {t : TypeId} {x y z : Value} (e : bx[k]? = some (b, t, #[x, y, z])) : W.cell? ⟨b, 1, none⟩ = some y := h.cell k 1 e rfl
theorem Dq.c2 (h : Dq w bx l q r W) (k : Nat) {b : Nat} {t : TypeId} {x y z : Value} (e : bx[k]? = some (b, t, #[x, y, z])) : W.cell? ⟨b, 2, none⟩ = some z := h.cell k 2 e rfl
theorem Dq.frozen (h : Dq w bx l q r W) (k i : Nat) {b : Nat} {t : TypeId} {cs : Array Value} (e : bx[k]? = some (b, t, cs)) : W.frozen? ⟨b, i, none⟩ = false := (h.box k b t cs e).1.frozen i
/-- A call that gives one number more. -/
abbrev Gd (w : World) (bx : List (Nat × TypeId × Array Value)) (l : List (Value × Nat)) (q r : List (Value × Rat)) (S : Nat) (e : Ending) (w' : World) : Prop := ∃ a n c, e = .returned (.slice a n c) ∧ Dq w bx ((.slice a n c, S) :: l) q r w'
theorem gotR_dq (h : Dq w bx l q r W) {e : Ending} {w' : World} (h' : GotR N W e w') (hS : N = S ∧ S < 10000 ^ 900) : Gd w bx l q r S e w' := by
 obtain ⟨v, h1, h2, h3⟩ := h'
 obtain ⟨a, n, c, rfl, _, _⟩ := rn_form h2
 exact ⟨a, n, c, h1, (h.below h3).cons (by rw [← hS.1]; exact h2) hS.2⟩
theorem d9 {x : Nat} (k : Nat) (h : x < 10000 ^ 900) (hk : 900 ≤ k) : x < 10000 ^ k := pow_up _ _ h hk
theorem Dq.mul (h : Dq w bx l q r W) (i j : Nat) (hi : l[i]? = some (va, M)) (hj : l[j]? = some (vb, N)) (hS : M * N = S ∧ S < 10000 ^ 900) : Calls Tryz.prog 25 #[va, vb] W (Gd w bx l q r S) :=
 (rmul_num M N va vb W (h.num i va M hi).1 (h.num j vb N hj).1 (d9 9000 (h.num i va M hi).2 (by omega)) (d9 9000 (h.num j vb N hj).2 (by omega))).mono fun e w' h' => gotR_dq h h' hS
theorem Dq.sub (h : Dq w bx l q r W) (i j : Nat) (hi : l[i]? = some (va, M)) (hj : l[j]? = some (vb, N)) (hle : N ≤ M) (hS : M - N = S ∧ S < 10000 ^ 900) : Calls Tryz.prog 76 #[va, vb] W (Gd w bx l q r S) :=
 (rsub_num M N va vb W (h.num i va M hi).1 (h.num j vb N hj).1 (d9 9000 (h.num i va M hi).2 (by omega)) hle).mono fun e w' h' => gotR_dq h h' hS
theorem Dq.gcd (h : Dq w bx l q r W) (i j : Nat) (hi : l[i]? = some (va, M)) (hj : l[j]? = some (vb, N)) (hS : Nat.gcd M N = S ∧ S < 10000 ^ 900) : Calls Tryz.prog 63 #[va, vb] W (Gd w bx l q r S) :=
 (rgcd_any M N va vb W (h.num i va M hi).1 (h.num j vb N hj).1 (d9 2000 (h.num i va M hi).2 (by omega)) (d9 2000 (h.num j vb N hj).2 (by omega))).mono fun e w' h' => gotR_dq h h' hS
theorem Dq.cmp (h : Dq w bx l q r W) (i j : Nat) (hi : l[i]? = some (va, M)) (hj : l[j]? = some (vb, N)) {C : Int} (hC : cmpI M N = C) : Calls Tryz.prog 30 #[va, vb] W fun e w' => e = .returned (.int .i64 C) ∧ Dq w bx l q r w' :=
 (rcmp_any M N va vb W (h.num i va M hi).1 (h.num j vb N hj).1 (d9 9000 (h.num i va M hi).2 (by omega)) (d9 9000 (h.num j vb N hj).2 (by omega))).mono fun e w' h' => ⟨by rw [h'.1, hC], h.below h'.2⟩
theorem Dq.dvm (h : Dq w bx l q r W) (i j : Nat) (hi : l[i]? = some (va, M)) (hj : l[j]? = some (vb, N)) (hN : 0 < N) :
 Calls Tryz.prog 38 #[va, vb] W fun e w' => ∃ a n c a' n' c', e = .returned (.tuple #[.slice a n c, .slice a' n' c']) ∧ (n' = 0 ↔ M % N = 0) ∧ Dq w bx ((.slice a n c, M / N) :: (.slice a' n' c', M % N) :: l) q r w' :=
 (rdiv_num M N va vb W (h.num i va M hi).1 (d9 9000 (h.num i va M hi).2 (by omega)) (h.num j vb N hj).1 hN (d9 2000 (h.num j vb N hj).2 (by omega))).mono fun e w' h' => by
  obtain ⟨v1, v2, h1, h2, h3, h4⟩ := h'
  obtain ⟨a, n, c, rfl, _, _⟩ := rn_form h2
  obtain ⟨a', n', c', rfl, _, hz⟩ := rn_form h3
  exact ⟨a, n, c, a', n', c', h1, hz, ((h.below h4).cons h3 (Nat.lt_of_lt_of_le (Nat.mod_lt _ hN) (Nat.le_of_lt (h.num j vb N hj).2))).cons h2 (Nat.lt_of_le_of_lt (Nat.div_le_self _ _) (h.num i va M hi).2)⟩
theorem Dq.trim (h : Dq w bx l q r W) (i : Nat) (hi : l[i]? = some (va, N)) : Calls Tryz.prog 62 #[va] W fun e w' => e = .returned va ∧ W = w' :=
 rtrim_num N va W (h.num i va N hi).1 (d9 9000 (h.num i va N hi).2 (by omega))
theorem Dq.text (h : Dq w bx l q r W) (i : Nat) (hi : l[i]? = some (va, N)) {T : ByteArray} (hT : dg N = T) : Calls Tryz.prog 29 #[va] W fun e w' => e = .returned (.string T) ∧ Dq w bx l q r w' :=
 (rtext_any N va W (h.num i va N hi).1 (d9 9000 (h.num i va N hi).2 (by omega))).mono fun e w' h' => ⟨by rw [h'.1, ← hT]; rfl, h.below h'.2⟩
/-- A digit that is written as a row. -/
theorem Dq.lit (h : Dq w bx l q r W) {d : Nat} (hd : d < 10000) (hd0 : 0 < d) : Dq w bx ((.slice (some ⟨W.heap.size, 0, none⟩) 1 1, d) :: l) q r (W.alloc (.cells #[.int .i64 (d : Int)] 3)) :=
 (h.below (below_lit W _)).cons (rn_lit W hd hd0) (d_pos 900 (by omega) hd)
theorem Dq.lit1 (h : Dq w bx l q r W) : Dq w bx ((.slice (some ⟨W.heap.size, 0, none⟩) 1 1, 1) :: l) q r (W.alloc (.cells #[.int .i64 1] 3)) := h.lit (d := 1) (by omega) (by omega)
theorem Dq.lit2 (h : Dq w bx l q r W) : Dq w bx ((.slice (some ⟨W.heap.size, 0, none⟩) 1 1, 2) :: l) q r (W.alloc (.cells #[.int .i64 2] 3)) := h.lit (d := 2) (by omega) (by omega)
/-- A fraction is handed back out of a box of three cells. -/
theorem Dq.fin3 (h : Dq w bx l q r W) (k i j : Nat) {b : Nat} {z : Bool} {p : Option Addr} {n c : Nat} {p' : Option Addr} {n' c' : Nat} {a : Option Addr} {m d : Nat} {a' : Option Addr} {m' d' : Nat} {y : Bool} {x : Rat}
 (e : bx[k]? = some (b, 34, #[.bool z, .slice p n c, .slice p' n' c'])) (hi : l[i]? = some (.slice a m d, x.num.natAbs)) (hj : l[j]? = some (.slice a' m' d', x.den)) (hy : decide (x.num < 0) = y) :
 Blk (set3 W b (.bool y) (.slice a m d) (.slice a' m' d')) b 34 #[.bool y, .slice a m d, .slice a' m' d'] ∧ GaveQ x w (.returned (.agg #[.bool y, .slice a m d, .slice a' m' d'])) (set3 W b (.bool y) (.slice a m d) (.slice a' m' d')) := by
 have hk := h.box k b _ _ e
 have h1 := h.num i _ _ hi
 have h2 := h.num j _ _ hj
 have hs : ∀ {v : Value} {N : Nat}, RN W v N → RN (set3 W b (.bool y) (.slice a m d) (.slice a' m' d')) v N := fun hv =>
  rn_put (rn_put (rn_put hv hk.1 (plain_ref _ _ _ _ _ _ _) (i := 0) (.bool y)) (hk.1.set_ 0 (.bool y)) (plain_ref _ _ _ _ _ _ _) (i := 1) (.slice a m d)) ((hk.1.set_ 0 (.bool y)).set_ 1 (.slice a m d)) (plain_ref _ _ _ _ _ _ _) (i := 2) (.slice a' m' d')
 exact ⟨blk_setr hk.1 _ _ _, _, rfl, ⟨a, m, d, a', m', d', by rw [hy], hs h1.1, hs h2.1⟩, below_set3 h.bel hk.2 _ _ _⟩
/-- A fraction that a call gave is handed back out of a box. -/
theorem Dq.finq (h : Dq w bx l q r W) (k i : Nat) {b : Nat} {z : Bool} {p : Option Addr} {n c : Nat} {p' : Option Addr} {n' c' : Nat} {a : Option Addr} {m d : Nat} {a' : Option Addr} {m' d' : Nat} {y : Bool} {x : Rat}
 (e : bx[k]? = some (b, 34, #[.bool z, .slice p n c, .slice p' n' c'])) (hi : q[i]? = some (.agg #[.bool y, .slice a m d, .slice a' m' d'], x)) :
 Blk (set3 W b (.bool y) (.slice a m d) (.slice a' m' d')) b 34 #[.bool y, .slice a m d, .slice a' m' d'] ∧ GaveQ x w (.returned (.agg #[.bool y, .slice a m d, .slice a' m' d'])) (set3 W b (.bool y) (.slice a m d) (.slice a' m' d')) := by
 have hk := h.box k b _ _ e
 obtain ⟨a2, m2, d2, a3, m3, d3, he, h1, h2⟩ := h.ref i _ _ hi
 have hs : ∀ {v : Value} {N : Nat}, RN W v N → RN (set3 W b (.bool y) (.slice a m d) (.slice a' m' d')) v N := fun hv =>
  rn_put (rn_put (rn_put hv hk.1 (plain_ref _ _ _ _ _ _ _) (i := 0) (.bool y)) (hk.1.set_ 0 (.bool y)) (plain_ref _ _ _ _ _ _ _) (i := 1) (.slice a m d)) ((hk.1.set_ 0 (.bool y)).set_ 1 (.slice a m d)) (plain_ref _ _ _ _ _ _ _) (i := 2) (.slice a' m' d')
 exact ⟨blk_setr hk.1 _ _ _, _, rfl, ⟨a2, m2, d2, a3, m3, d3, he, hs h1, hs h2⟩, below_set3 h.bel hk.2 _ _ _⟩
end
end Go.Proofs.YtggmnmmjmihnfaaGreatDoor
