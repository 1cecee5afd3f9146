/-
  A message that is none: nothing is told of it, nothing is put into it.
-/
import Derived.Test.YtbkcklefkhlciaaMparse
import Derived.Test.YtbkcklefkhlciaaMintsT
namespace Go.Proofs.Ytbkcklefkhlciaa
open Go.RowKit Go.Shelf
attribute [local go_sem] Oper.semAt_some
set_option linter.unusedVariables false
set_option maxRecDepth 100000 in
theorem seq_nil (n : Nat) (hn : 1 ≤ n) (lp B1 B2 B3 : Nat) (J : World → Prop) (W : World) (hc : W.cell? ⟨B1, 0, none⟩ = some (.pointer none)) (h0 : J W) :
    CallsIn Fence.wide n Try.prog 57 #[.func (.yield lp) #[] #[], .pointer (some ⟨B1, 0, none⟩), .pointer (some ⟨B2, 0, none⟩), .pointer (some ⟨B3, 0, none⟩)] W fun e W' => (∃ v, e = .returned v) ∧ J W' := by
  refine callsIn_of_wp Try.func57 rfl trivial ?_ rfl
  simp only [Try.ntmps57, List.size_toArray, List.length_cons, List.length_nil, Nat.reduceAdd, Nat.reduceSub, Array.replicate_succ, Array.replicate_zero, List.push_toArray, List.append_toArray, List.nil_append, List.cons_append]
  have H0 := Lib.hid h0
  clear h0
  refine wpIn_scope ?_
  gi_wp2_with fail
  refine ⟨trivial, (callsIn_wide.2 (none_nil _)).mono ?_⟩
  rintro e w1 ⟨rfl, rfl⟩
  gi_wp2
  rw [Exit.noGoto_ret]
  refine bodyPost_ret (results_none rfl _ _ _) rfl ?_
  exact ⟨⟨_, rfl⟩, H0.out⟩
theorem stops_nil (n : Nat) (hn : 1 ≤ n) (B1 B2 B3 : Nat) (encs : Empty → Array Value) (Kp : World → World → Prop) (w : World) (hB : B1 < w.heap.size) (hc : w.cell? ⟨B1, 0, none⟩ = some (.pointer none)) :
    SeqStopsK Fence.wide n Try.prog 57 #[.pointer (some ⟨B1, 0, none⟩), .pointer (some ⟨B2, 0, none⟩), .pointer (some ⟨B3, 0, none⟩)] encs Kp (fun ys => ys = []) (fun _ => False) 0 w := fun lp J Jx W hW hJ _ hY h0 => by
  refine CallsIn.mono (seq_nil n hn lp B1 B2 B3 (J []) W ((hW.cell (p := ⟨B1, 0, none⟩) (by simpa using hB)).trans hc) h0) ?_
  rintro e W' ⟨hv, hJ'⟩
  exact ⟨hv, .inl ⟨[], rfl, hJ'⟩⟩
/-- A loop over nothing. -/
theorem range_nil {g : Operand} {ps : Array Tmp} {assign body : Code} {Q : Exit → Act → World → Prop} {a : Act} {w : World} (n : Nat) (hn : 2 ≤ n) (B1 B2 B3 : Nat)
    (hg : a.eval g = .func (.func 57) #[] #[.pointer (some ⟨B1, 0, none⟩), .pointer (some ⟨B2, 0, none⟩), .pointer (some ⟨B3, 0, none⟩)]) (hB : B1 < w.heap.size) (hc : w.cell? ⟨B1, 0, none⟩ = some (.pointer none))
    (hdone : ∀ (D : Nat) (W : World), w.heap.size ≤ D → Below w.heap.size w W → W.heap[D]? = some (.deferred (some [])) → Q .normal { a with defers := { target := .collected D, args := #[] } :: a.defers } W) :
    (Code.rangeFunc g ps assign body).wpIn Fence.wide n Try.prog Q a w := by
  refine wpIn_rangeFunc_ownH (α := Empty) rfl (by omega) (gf := 57) (lb := #[.pointer (some ⟨B1, 0, none⟩), .pointer (some ⟨B2, 0, none⟩), .pointer (some ⟨B3, 0, none⟩)]) hg trivial (enters_of Try.func57 (by kernel_rfl) rfl)
    (stops_nil (n - 1) (by omega) B1 B2 B3 (fun x => x.elim) (fun _ _ => True) w hB hc) (fun _ _ => trivial) (fun _ _ _ _ _ _ _ _ => trivial) (Below.refl _ _) (fun x => x.elim)
    (fun pre W => Below w.heap.size w W) (fun c pre W => False) ?_ (fun c => fun _ _ _ _ h _ _ => h) (Below.refl _ _) (fun x _ _ => x.elim) (fun x _ => x.elim) (fun _ _ x => x.elim) (fun _ _ x => x.elim) ?_ ?_
  · intro pre X Y row h hgr hr
    exact h.grown hgr h.size (fun k e => (hr k e).1)
  · intro D ys W hD hys hI hK
    exact hdone D W hD hI hK
  · intro D c pre W hD hpre hf hK
    exact hf.elim
end Go.Proofs.Ytbkcklefkhlciaa
