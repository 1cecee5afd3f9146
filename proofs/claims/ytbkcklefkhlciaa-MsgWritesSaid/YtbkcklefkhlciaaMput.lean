/-
  put: a field behind the others.
-/
import Derived.Test.YtbkcklefkhlciaaMsg
import Derived.Deep.RegionLaw
import Derived.Deep.AppendLies
import Derived.Deep.RegionHeld3
namespace Go.Proofs.Ytbkcklefkhlciaa
open Go.RowKit
set_option linter.unusedVariables false
theorem slice_of {W : World} {b : Nat} {e : TypeId} {s : Nat} {v : Value} {n : Nat} {xs : List Value} (h : W.ownsRow b e s v n xs) : ∃ a k c, v = .slice a k c := by
  obtain ⟨hl, ⟨rfl, hn⟩ | ⟨g, cap, cur, rfl, _⟩⟩ := h
  · exact ⟨none, 0, 0, rfl⟩
  · exact ⟨_, _, _, rfl⟩
/-- One field more behind the fields l, at a step of a region that draws its order; the block m stays. -/
theorem step_fd {ops : Array Oper} {o : Oper} {a : Act} {K : Act → World → Prop} {Q : Exit → Act → World → Prop} {E : Prop} (hgd : o.guard = none) (s x : Operand)
    (ho : o.op = .call { callee := .builtin .append, args := #[s, x], argTypes := #[73, 73] }) (B : Nat) (W : World) (v : Value) (l : List (Fd × Nat)) (p : Fd × Nat) (cs : Array Value) (hcs : cs.toList = fdC p)
    (hs : a.eval s = v) (hown : W.ownsRow B 77 5 v l.length (fdsC l)) (hB : B ≤ W.heap.size) (g : Nat) (hgW : W.heap.size = g) (hx : a.eval x = .slice (some ⟨g, 0, none⟩) 1 1) (hlen : l.length ≤ 1000000)
    (m : Nat) (t : TypeId) (ms : Array Value) (k : Nat) (u : Value) (hm : Blk W m t ms) (hk : ms[k]? = some u) (hne : v.ownBlock ≠ some m)
    (h : ∀ va vn vc W', W'.ownsRow B 77 5 (.slice va vn vc) (l ++ [p]).length (fdsC (l ++ [p])) → (W.alloc (.cells cs 77)).grownBy W' v.ownBlock → W'.cell? ⟨m, k, none⟩ = some u → W'.frozen? ⟨m, k, none⟩ = false → K (a.put o.dst (.slice va vn vc)) W') :
    if Region.wanted o (yielded ops a.tmps) = true then Oper.wp Try.prog o a (W.alloc (.cells cs 77)) K Q else E := by
  have hw : Region.wanted o (yielded ops a.tmps) = true := by simp [Region.wanted, hgd]
  rw [if_pos hw]
  obtain ⟨i0, hi, hz0, hz1, hz2⟩ := info_parts Try.infoF
  subst hgW
  have hc : ∀ j, (W.alloc (.cells cs 77)).cell? ⟨W.heap.size, j, none⟩ = cs[j]? := fun j => (Blk.new W 77 cs).cell j
  have hB' : B ≤ (W.alloc (.cells cs 77)).heap.size := by simp; omega
  refine wp_append_own _ s x 73 ho B 77 i0 (.agg #[.int .i64 0, .int .i64 0, .int .i64 0, .int .u64 0, .string ⟨#[]⟩]) 5 48 Try.underlying73 hi hz0 hz1 hz2 rfl (by decide) v l.length _ hs (hown.alloc _) ⟨W.heap.size, 0, none⟩ 1 1 (fdC p) hx rfl ?_ ?_ ?_ ?_ hB' ?_
  · intro j u hj
    have e : (⟨W.heap.size, 0, none⟩ : Addr).add j = ⟨W.heap.size, j, none⟩ := by unfold Addr.add; split <;> simp_all
    rw [e, hc, ← hj, ← hcs, Array.getElem?_toList]
  · intro u hu; unfold fdC at hu; simp at hu; rcases hu with rfl | rfl | rfl | rfl | rfl <;> rfl
  · unfold maxLen; omega
  · omega
  · intro v' W' hown' hg _
    have hm' : Blk W' m t ms := (hm.alloc _).kept hg (fun e => hne e.symm)
    obtain ⟨va, vn, vc, rfl⟩ := slice_of hown'
    refine h va vn vc W' ?_ hg ((hm'.cell k).trans hk) (hm'.frozen k)
    rw [fdsC_snoc, List.length_append]
    exact hown'
theorem step_iv {ops : Array Oper} {o : Oper} {a : Act} {K : Act → World → Prop} {Q : Exit → Act → World → Prop} {E : Prop} (hgd : o.guard = none) (s x : Operand)
    (ho : o.op = .call { callee := .builtin .append, args := #[s, x], argTypes := #[27, 27] }) (B : Nat) (W : World) (v : Value) (l : List Nat) (p : Nat) (z : Int) (hz : z = (p : Int))
    (hs : a.eval s = v) (hown : W.ownsRow B 3 1 v l.length (l.map iv)) (hB : B ≤ W.heap.size) (g : Nat) (hgW : W.heap.size = g) (hx : a.eval x = .slice (some ⟨g, 0, none⟩) 1 1) (hlen : l.length ≤ 1000000)
    (m : Nat) (t : TypeId) (ms : Array Value) (k : Nat) (u : Value) (hm : Blk W m t ms) (hk : ms[k]? = some u) (hne : v.ownBlock ≠ some m)
    (h : ∀ va vn vc W', W'.ownsRow B 3 1 (.slice va vn vc) (l ++ [p]).length ((l ++ [p]).map iv) → (W.alloc (.cells #[.int .i64 z] 3)).grownBy W' v.ownBlock → W'.cell? ⟨m, k, none⟩ = some u → W'.frozen? ⟨m, k, none⟩ = false → K (a.put o.dst (.slice va vn vc)) W') :
    if Region.wanted o (yielded ops a.tmps) = true then Oper.wp Try.prog o a (W.alloc (.cells #[.int .i64 z] 3)) K Q else E := by
  have hw : Region.wanted o (yielded ops a.tmps) = true := by simp [Region.wanted, hgd]
  rw [if_pos hw]
  obtain ⟨i0, hi, hz0, hz1, hz2⟩ := info_parts Try.infoI
  subst hgW
  have hc : ∀ j, (W.alloc (.cells #[.int .i64 z] 3)).cell? ⟨W.heap.size, j, none⟩ = (#[.int .i64 z] : Array Value)[j]? := fun j => (Blk.new W 3 _).cell j
  have hB' : B ≤ (W.alloc (.cells #[.int .i64 z] 3)).heap.size := by simp; omega
  refine wp_append_own _ s x 27 ho B 3 i0 (.int .i64 0) 1 8 Try.underlying27 hi hz0 hz1 hz2 rfl (by decide) v l.length _ hs (hown.alloc _) ⟨W.heap.size, 0, none⟩ 1 1 [.int .i64 z] hx rfl ?_ ?_ ?_ ?_ hB' ?_
  · intro j u hj
    have e : (⟨W.heap.size, 0, none⟩ : Addr).add j = ⟨W.heap.size, j, none⟩ := by unfold Addr.add; split <;> simp_all
    rw [e, hc, ← hj, ← Array.getElem?_toList]
  · intro u hu; simp at hu; subst hu; rfl
  · unfold maxLen; omega
  · omega
  · intro v' W' hown' hg _
    have hm' : Blk W' m t ms := (hm.alloc _).kept hg (fun e => hne e.symm)
    obtain ⟨va, vn, vc, rfl⟩ := slice_of hown'
    refine h va vn vc W' ?_ hg ((hm'.cell k).trans hk) (hm'.frozen k)
    have e : (l ++ [p]).map iv = l.map iv ++ [.int .i64 z] := by simp [iv, hz]
    rw [e, List.length_append]
    exact hown'
theorem own_ne {W : World} {B : Nat} {e t : TypeId} {size : Nat} {v : Value} {n : Nat} {xs : List Value} (h : W.ownsRow B e size v n xs) {g : Nat} {cs : Array Value} (hg : Blk W g t cs) (hte : t ≠ e) : v.ownBlock ≠ some g := by
  rcases h.2 with ⟨rfl, _⟩ | ⟨g', cap, cur, rfl, _, hgb, _⟩
  · simp [Value.ownBlock]
  · intro e'
    obtain rfl : g' = g := by simpa [Value.ownBlock] using e'
    have := (show W.heap[g']? = _ from hg).symm.trans hgb
    simp at this
    exact hte this.2
/-- Two rows of other sorts lie in blocks of their own, or one has none. -/
theorem own_ne2 {W : World} {B : Nat} {e e' : TypeId} {size size' : Nat} {v v' : Value} {n n' : Nat} {xs xs' : List Value} (h : W.ownsRow B e size v n xs) (h' : W.ownsRow B e' size' v' n' xs') (hee : e ≠ e') : v.ownBlock = none ∨ v.ownBlock ≠ v'.ownBlock := by
  rcases h.2 with ⟨rfl, _⟩ | ⟨g, cap, cur, rfl, _, hgb, _⟩
  · exact .inl rfl
  · refine .inr fun e0 => ?_
    rcases h'.2 with ⟨rfl, _⟩ | ⟨g', cap', cur', rfl, _, hgb', _⟩
    · simp [Value.ownBlock] at e0
    · obtain rfl : g = g' := by simpa [Value.ownBlock] using e0
      have := hgb.symm.trans hgb'
      simp at this
      exact hee this.2
end Go.Proofs.Ytbkcklefkhlciaa
