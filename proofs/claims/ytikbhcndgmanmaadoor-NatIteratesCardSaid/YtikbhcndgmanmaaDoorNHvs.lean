/-
  Law 1: halves: what the iterator tells, in a slice of the call's own: how many they are.
-/
import Derived.Test.YtikbhcndgmanmaaDoorNHalf
import Derived.WalkSmall
import Derived.Scope
import Derived.ControlIn
import Derived.WalkMore
namespace Go.Proofs.YtikbhcndgmanmaaDoor
open Go.RowKit Go.Shelf
set_option linter.unusedVariables false
attribute [local go_sem] Oper.semAt_some
theorem wpListIn_append_at {F : Fence} {n : Nat} {P : Program} (w : World) {ops : Array Oper} {rest : List Oper} {o : Oper} {a : Act} {Q : Exit → Act → World → Prop}
    (hg : o.guard = none) (s x : Operand) (t : TypeId) (hop : o.op = Op.call { callee := Callee.builtin Builtin.append, args := #[s, x], argTypes := #[t, t] })
    (base : Nat) (e : TypeId) (i : TypeInfo) (z : Value) (size bytes : Nat) (h1 : P.underlying t = some (.slice e)) (h2 : P.info? e = some i) (h3 : i.zero = some z) (h4 : i.size = size) (h5 : i.bytes = bytes) (h6 : z.cells.size = size) (h7 : 0 < size)
    (v : Value) (k : Nat) (xs : List Value) (hs : a.eval s = v) (hown : w.ownsRow base e size v k xs) (ad : Addr) (m c : Nat) (news : List Value) (hx : a.eval x = .slice (some ad) m c) (hn : news.length = m * size)
    (hc : ∀ j u, news[j]? = some u → w.cell? (ad.add j) = some u) (h1c : ∀ u ∈ news, u.oneCell' = true) (b1 : k + m ≤ maxLen) (b2 : (k + m) * bytes ≤ 140737488355328) (b3 : base ≤ w.heap.size)
    (hK : ∀ v' w', w'.ownsRow base e size v' (k + m) (xs ++ news) → w.grownBy w' v.ownBlock → (v'.ownBlock = v.ownBlock ∨ v'.ownBlock = some w.heap.size) → wpListIn F n P ops Q rest (a.put o.dst v') w') :
    wpListIn F n P ops Q (o :: rest) a w := by
  refine wpListIn_plain hg fun K hK' => ?_
  obtain ⟨v', w', hrun, r1, r2, _, r3⟩ := run_append_own_at (P := P) (w := w) base t o.type e i z size bytes h1 h2 h3 h4 h5 h6 h7 v k xs hown ad m c news hn hc h1c b1 b2 b3
  unfold Oper.wpIn
  refine ⟨by simp [Oper.about, hop, resolve, Target.leads, Sem.run_pure], ?_⟩
  rw [Oper.semAt_plain F _ _ (by rw [hop]; intro c hc'; cases hc')]
  simp [execOp, hop, resolve, invoke, builtin, hs, hx, hrun, Result.andThen]
  exact hK' _ _ (hK v' w' r1 r2 r3)
theorem own_lt {W : World} {b : Nat} {e : TypeId} {s : Nat} {v : Value} {n : Nat} {xs : List Value} (h : W.ownsRow b e s v n xs) (g : Nat) (hg : v.ownBlock = some g) : b ≤ g ∧ g < W.heap.size := h.lt g hg
theorem own_cells {W : World} {b : Nat} {e : TypeId} {s : Nat} {v : Value} {n : Nat} {xs : List Value} (h : W.ownsRow b e s v n xs) (j : Nat) (o : Obj) (hg : v.ownBlock = some j) (ho : W.heap[j]? = some o) : o.isCells = true := by
  rcases h.2 with ⟨rfl, _⟩ | ⟨g, cap, cur, rfl, _, hgb, _⟩
  · simp [Value.ownBlock] at hg
  · obtain rfl : g = j := by simpa [Value.ownBlock] using hg
    rw [hgb] at ho; cases ho; rfl
theorem own_far {W W' : World} {row : Option Nat} {b : Nat} {e : TypeId} {s : Nat} {v : Value} {n : Nat} {xs : List Value} (h : W.ownsRow b e s v n xs) (hg : W.grownBy W' row) (hne : ∀ g, row = some g → v.ownBlock ≠ some g) : W'.ownsRow b e s v n xs := by
  refine h.kept hg ?_
  cases hv : v.ownBlock with
  | none => exact .inl rfl
  | some g => exact .inr (fun e => hne g e.symm (by rw [hv]))
theorem box_uniq {W : World} {B : Nat} {t : TypeId} {v v' : Value} (h : Boxed W B t v) (h' : Boxed W B t v') : v = v' := by
  have := (show W.heap[B]? = _ from h).symm.trans h'
  simpa using this
theorem box_own {n : Nat} {t : TypeId} {v : Value} {B : Nat} {W W' : World} {row : Option Nat} (h : Boxed W n t v) (hg : W.grownBy W' row) (hr : ∀ r, row = some r → B ≤ r ∧ ∃ o, W.heap[r]? = some o ∧ o.isCells = false) : Boxed W' n t v := h.kept hg (fun e => by
  obtain ⟨_, o, ho, hc⟩ := hr n e.symm
  rw [show W.heap[n]? = _ from h] at ho; cases ho; cases hc)
/-- What halves' own variables are: a box at n + 1 that holds a slice of the call's own. -/
def LiveH (n : Nat) (W : World) : Prop := ∃ v k xs, Boxed W (n + 1) 23 v ∧ W.ownsRow (n + 1) 30 1 v k xs ∧ n + 2 ≤ W.heap.size
/-- A block of cells that lies apart from them. -/
def FarH (n : Nat) (W : World) (g : Nat) (o : Obj) : Prop := W.heap[g]? = some o ∧ o.isCells = true ∧ (g < n ∨ n + 2 ≤ g ∧ ∃ v, Boxed W (n + 1) 23 v ∧ v.ownBlock ≠ some g)
theorem farH_ok (n : Nat) : FarOk (LiveH n) (FarH n) where
  at_ h := h.1
  live := fun {W W'} ⟨v, k, xs, h1, h2, h3⟩ hb => by
    have hg := grown_below hb (Nat.le_refl _)
    exact ⟨v, k, xs, h1.kept hg (by simp), h2.kept hg (by
      cases hv : v.ownBlock with
      | none => exact .inl rfl
      | some g => exact .inr (by simp)), Nat.le_trans h3 hb.size⟩
  far := fun {W W' g o} ⟨h1, h2, h3⟩ hb => by
    have hg := grown_below hb (Nat.le_refl _)
    refine ⟨(hb.block g (Array.getElem?_eq_some_iff.1 h1).1).trans h1, h2, ?_⟩
    rcases h3 with h3 | ⟨h3, v, h4, h5⟩
    · exact .inl h3
    · exact .inr ⟨h3, v, h4.kept hg (by simp), h5⟩
  new := fun {W W' g o} ⟨v, k, xs, h1, h2, h3⟩ hb hg ho hc => by
    refine ⟨ho, hc, .inr ⟨by omega, v, h1.kept (grown_below hb (Nat.le_refl _)) (by simp), fun e => ?_⟩⟩
    have := (own_lt h2 g e).2
    omega
theorem kpH_put (n : Nat) (W : World) (l : Nat) (o o' : Obj) (h : W.heap[l]? = some o) (hc : o.isCells = false) : Kp (LiveH n) (FarH n) W (W.putObj l o') := by
  have hg := grownBy_putObj' W l o'
  have hbx : ∀ v, Boxed W (n + 1) 23 v → Boxed (W.putObj l o') (n + 1) 23 v := fun v hv => hv.kept hg (fun e => by
    cases e
    rw [show W.heap[n + 1]? = _ from hv] at h; cases h; cases hc)
  refine ⟨fun ⟨v, k, xs, h1, h2, h3⟩ => ⟨v, k, xs, hbx v h1, own_far h2 hg (fun g e ev => by
    cases e
    rw [own_cells h2 l o ev h] at hc; cases hc), by simpa using h3⟩, fun g o2 ⟨h1, h2, h3⟩ => ⟨?_, h2, ?_⟩⟩
  · have hne : l ≠ g := fun e => by subst e; rw [h] at h1; cases h1; rw [hc] at h2; cases h2
    exact (World.putObj_heap_other (by omega)).trans h1
  · rcases h3 with h3 | ⟨h3, v, h4, h5⟩
    · exact .inl h3
    · exact .inr ⟨h3, v, hbx v h4, h5⟩
end Go.Proofs.YtikbhcndgmanmaaDoor
