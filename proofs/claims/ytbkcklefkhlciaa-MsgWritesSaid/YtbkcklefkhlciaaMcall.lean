/-
  A call of a function, in a region within a round.
-/
import Derived.Test.YtbkcklefkhlciaaMround
import Derived.RangeFuncCalls
namespace Go.Proofs.Ytbkcklefkhlciaa
open Go.RowKit
attribute [local go_sem] Oper.semAt_some
set_option linter.unusedVariables false
theorem call_in {lp n : Nat} {P : Program} {o : Oper} {a : Act} {w : World} {K : Act → World → Prop} {Q : Exit → Act → World → Prop} (f : FuncId) (x : Nat) (xv v : Value) (t : TypeId) (hn : 1 ≤ n)
    (ho : o.op = .call { callee := .value (.func f), args := #[.tmp x], argTypes := #[t] }) (hc : ∀ w, (callFunc f #[xv]).run P w = .ok (.enter f #[xv]) w) (hx : a.tmps[x]?.getD undef = xv) (H : Calls P f #[xv] w fun e w' => e = .returned v ∧ w = w') (h : K (a.put o.dst v) w) : o.wpIn (Fence.wide.inRound lp) n P a w K Q := by
  obtain ⟨dst, op, type, pos, after, guard⟩ := o
  simp only at ho
  subst ho
  go_simp
  refine ⟨trivial, ?_⟩
  refine CallsIn.mono (CallsIn.inRound lp (callsIn_wide.2 H)) ?_
  rintro e w1 ⟨rfl, rfl⟩
  exact h
end Go.Proofs.Ytbkcklefkhlciaa
