/-
  Law 5: what is asked of all reasons.
-/
import Derived.Test.YtinkdjplehaibaaDoorDAlive
import Derived.Deep.CutRange
import Derived.Deep.CutBlock
namespace Go.Proofs.YtinkdjplehaibaaDoor
open Go.RowKit
set_option linter.unusedVariables false
theorem run_equalIn_func_nil {P : Program} (d : Nat) (t : TypeId) (f : Fn) (xs ys : Array Value) (a b : Array TypeId) (c : Bool) (h : P.underlying t = some (.func a b c)) (w : World) : (Op.equalIn (d + 1) t (.func f xs ys) .nilFunc).run P w = .ok false w := by
  simp [Op.equalIn, run_underlying h]
def isFunc (x : Option TypeDesc) : Bool := match x with | some (.func ..) => true | _ => false
theorem run_eql_func_nil {P : Program} (t : TypeId) (f : Fn) (xs ys : Array Value) (h : isFunc (P.underlying t) = true) (w : World) : (binOp .eql t (.func f xs ys) .nilFunc).run P w = .ok (.bool false) w := by
  have ⟨a, b, c, h⟩ : ∃ a b c, P.underlying t = some (.func a b c) := by
    unfold isFunc at h
    split at h
    · exact ⟨_, _, _, by assumption⟩
    · cases h
  have e : (Op.equal t (.func f xs ys) .nilFunc).run P w = .ok false w := run_equalIn_func_nil 9999 t f xs ys a b c h w
  simp only [binOp]
  simp [e]
set_option maxRecDepth 100000 in
theorem cut_d (a : Option Addr) (n m cap : Nat) (h1 : m ≤ n) (h2 : n ≤ cap) (wx : World) : (Instr.slice 22 (.slice a n cap) none (some (.int .i64 (m : Int))) none).run Tryd.prog wx = .ok (.slice a m cap) wx := by
  refine (run_slice_h (P := Tryd.prog) (w := wx) 22 a n cap (by kernel_rfl) .i64 (m : Int) (by omega) (by omega)).trans ?_
  have hs : (sizeOf (Tryd.prog.elem 22)).run Tryd.prog wx = .ok 3 wx := by kernel_rfl
  rw [hs]
  simp only [Result.andThen, sliced, Nat.zero_mul, Nat.sub_zero, Int.toNat_natCast]
  congr 1
  split
  · rfl
  · cases a <;> rfl
/-- What a list has behind all reasons handed in. -/
def dall (l : List Dg) : List Dg := l.foldl (fun ds d => dadd ds d.code d.at_ d.what) []
theorem dall_take (l : List Dg) (k : Nat) (d : Dg) (h : l[k]? = some d) : dall (l.take (k + 1)) = dadd (dall (l.take k)) d.code d.at_ d.what := by
  have hk : k < l.length := (List.getElem?_eq_some_iff.1 h).1
  have e : l.take (k + 1) = l.take k ++ [d] := by
    rw [List.take_add_one, h]; rfl
  unfold dall
  rw [e, List.foldl_append]; rfl
theorem dr_cut {w : World} {a : Option Addr} {n c : Nat} {l : List Dg} (h : DR w (.slice a n c) l) (m : Nat) (hm : m ≤ l.length) : DR w (.slice a m c) (l.take m) := by
  obtain ⟨a', c', hv, h⟩ := h
  cases hv
  refine ⟨a, c, by rw [List.length_take, Nat.min_eq_left hm], fun i d hd => ?_⟩
  have hi : i < m := by have := (List.getElem?_eq_some_iff.1 hd).1; rw [List.length_take] at this; omega
  rw [List.getElem?_take, if_pos hi] at hd
  exact h i d hd
theorem en_get : ∀ (l : List Dg) (k i : Nat) (x : Nat × Dg), (en k l)[i]? = some x → x.1 = k + i ∧ l[i]? = some x.2 := by
  intro l
  induction l with
  | nil => intro k i x h; simp [en] at h
  | cons d r ih =>
    intro k i x h
    cases i with
    | zero => simp [en] at h; subst h; exact ⟨rfl, rfl⟩
    | succ i =>
      simp only [en, List.getElem?_cons_succ] at h ⊢
      obtain ⟨h1, h2⟩ := ih (k + 1) i x h
      exact ⟨by omega, h2⟩
theorem en_map (l : List Dg) : ∀ k, (en k l).map (·.2) = l := by
  induction l with
  | nil => intro k; rfl
  | cons d r ih => intro k; simp [en, ih]
theorem en_pre {l : List Dg} {xs : List (Nat × Dg)} (h : xs <+: en 0 l) : xs.map (·.2) = l.take xs.length := by
  have e := List.prefix_iff_eq_take.1 h
  have e2 : xs.map (·.2) = ((en 0 l).take xs.length).map (·.2) := congrArg _ e
  rw [e2, List.map_take, en_map]
theorem en_pre_at {l : List Dg} {xs : List (Nat × Dg)} (h : xs <+: en 0 l) (i : Nat) (x : Nat × Dg) (hx : xs[i]? = some x) : x.1 = i := by
  obtain ⟨t, ht⟩ := h
  have hi : i < xs.length := (List.getElem?_eq_some_iff.1 hx).1
  have : (en 0 l)[i]? = some x := by rw [← ht, List.getElem?_append_left hi]; exact hx
  have := (en_get l 0 i x this).1
  omega
theorem c3_below {w w' : World} {B : Nat} {x : Addr} {d : Dg} (h : C3 w x d) (hx : x.block < B) (hb : Below B w w') : C3 w' x d :=
  ⟨(hb.cell hx).trans h.1, (hb.cell (p := ⟨x.block, x.off + 1, none⟩) hx).trans h.2.1, (hb.cell (p := ⟨x.block, x.off + 2, none⟩) hx).trans h.2.2⟩
/-- How many are wanted. -/
def wantOf (stop : Int) (n : Nat) : Nat := if 0 < stop then min n stop.toNat else n
/-- What is asked of what told hands back. -/
structure Told (B : Nat) (D : List Dg) (k : Nat) (v1 v2 : Value) (w w' : World) : Prop where
  r1 : ∃ a c, v1 = .slice a k c ∧ ∀ i, i < k → ∃ ad, a = some ad ∧ ad.block < w'.heap.size ∧ w'.cell? (ad.add i) = some (.int .i64 (i : Int))
  r2 : DR w' v2 (D.take k)
  bel : Below w.heap.size w w'
theorem told_of {D : List Dg} {stop : Int} {w w' : World} {e : Ending} (hD : D.length ≤ 100) (h : Tells D stop w e w') : ∃ v1 v2, e = .returned (.tuple #[v1, v2]) ∧ Told w.heap.size D (wantOf stop D.length) v1 v2 w w' := by
  obtain ⟨v1, v2, xs, he, hx, h1, h2, hb⟩ := h
  have hp : xs <+: en 0 D ∧ xs.length = wantOf stop D.length := by
    unfold wantOf
    rcases hx with ⟨rfl, hs⟩ | ⟨hp, h0, hs⟩
    · refine ⟨List.prefix_refl _, ?_⟩
      rw [en_len]
      rw [en_len] at hs
      split
      · omega
      · rfl
    · refine ⟨hp, ?_⟩
      have hl := hp.length_le
      rw [en_len] at hl
      rw [if_pos h0]; omega
  obtain ⟨hp, hl⟩ := hp
  refine ⟨v1, v2, he, ?_, ?_, hb⟩
  · rcases h1.2 with ⟨rfl, h0⟩ | ⟨g, cap, cur, rfl, hg⟩
    · exact ⟨none, 0, by rw [← hl, h0], fun i hi => by omega⟩
    · refine ⟨_, _, by rw [← hl], fun i hi => ⟨_, rfl, (Array.getElem?_eq_some_iff.1 hg.2.1).1, ?_⟩⟩
      have hix : i < xs.length := by omega
      have hxi : xs[i]? = some xs[i] := List.getElem?_eq_getElem hix
      have hat := en_pre_at hp i _ hxi
      have := row_cells h1 i (.int .i64 (xs[i].1 : Int)) (by unfold iR; rw [List.getElem?_map, hxi]; rfl)
      rw [this, hat]
  · have e := en_pre hp
    have h2' : w'.ownsRow w.heap.size 40 3 v2 (xs.map (·.2)).length (dgs (xs.map (·.2))) := by rw [List.length_map]; exact h2
    have := dr_row h2'
    rw [e, hl] at this
    exact this
end Go.Proofs.YtinkdjplehaibaaDoor
