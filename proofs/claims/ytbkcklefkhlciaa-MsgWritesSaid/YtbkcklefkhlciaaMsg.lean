/-
  A message in memory; what New, orNone, fail do.
-/
import Derived.Test.YtbkcklefkhlciaaMsB
import Derived.Test.YtbkcklefkhlciaaPut3
namespace Go.Proofs.Ytbkcklefkhlciaa
open Go.RowKit
set_option linter.unusedVariables false
def iv (n : Nat) : Value := .int .i64 (n : Int)
theorem Try.infoI : (Try.prog.info? 3).map (fun i => (i.zero, i.size, i.bytes)) = some (some (.int .i64 0), 1, 8) := by kernel_rfl
/-- The message m, of the call's own from block B on: its fields with their places, the places behind them, its first error. -/
def IsMsg (B m : Nat) (W : World) (l : List (Fd × Nat)) (es : List Nat) (c : Int) : Prop :=
  B ≤ m ∧ ∃ fv ev, Blk W m 75 #[.bool true, fv, ev, .int .i64 c] ∧ W.ownsRow B 77 5 fv l.length (fdsC l) ∧ W.ownsRow B 3 1 ev es.length (es.map iv)
theorem IsMsg.lt {B m : Nat} {W : World} {l : List (Fd × Nat)} {es : List Nat} {c : Int} (h : IsMsg B m W l es c) : m < W.heap.size := by
  obtain ⟨_, fv, ev, hb, _⟩ := h; exact hb.lt
theorem IsMsg.below {B m : Nat} {W W' : World} {l : List (Fd × Nat)} {es : List Nat} {c : Int} (h : IsMsg B m W l es c) (hb : Below W.heap.size W W') : IsMsg B m W' l es c := by
  obtain ⟨hB, fv, ev, h1, h2, h3⟩ := h
  have hg := grown_below hb (Nat.le_refl _)
  exact ⟨hB, fv, ev, h1.below hb h1.lt, h2.kept hg (by cases fv.ownBlock <;> simp), h3.kept hg (by cases ev.ownBlock <;> simp)⟩
theorem IsMsg.cells {B m : Nat} {W : World} {l : List (Fd × Nat)} {es : List Nat} {c : Int} (h : IsMsg B m W l es c) :
    ∃ af cf ae ce, W.cell? ⟨m, 0, none⟩ = some (.bool true) ∧ W.cell? ⟨m, 1, none⟩ = some (.slice af l.length cf) ∧ W.cell? ⟨m, 2, none⟩ = some (.slice ae es.length ce) ∧ W.cell? ⟨m, 3, none⟩ = some (.int .i64 c) ∧
      W.ownsRow B 77 5 (.slice af l.length cf) l.length (fdsC l) ∧ W.ownsRow B 3 1 (.slice ae es.length ce) es.length (es.map iv) := by
  obtain ⟨hB, fv, ev, h1, h2, h3⟩ := h
  have f1 : ∃ a c, fv = .slice a l.length c := by
    rcases h2.2 with ⟨rfl, hn⟩ | ⟨g, cap, cur, rfl, _⟩
    · exact ⟨none, 0, by rw [hn]⟩
    · exact ⟨_, _, rfl⟩
  have f2 : ∃ a c, ev = .slice a es.length c := by
    rcases h3.2 with ⟨rfl, hn⟩ | ⟨g, cap, cur, rfl, _⟩
    · exact ⟨none, 0, by rw [hn]⟩
    · exact ⟨_, _, rfl⟩
  obtain ⟨af, cf, rfl⟩ := f1
  obtain ⟨ae, ce, rfl⟩ := f2
  exact ⟨af, cf, ae, ce, h1.cell 0, h1.cell 1, h1.cell 2, h1.cell 3, h2, h3⟩
def PtrIs (m : Nat) (w : World) (e : Ending) (w' : World) : Prop := e = .returned (.pointer (some ⟨m, 0, none⟩)) ∧ w = w'
def NilIs (w : World) (e : Ending) (w' : World) : Prop := e = .returned (.pointer none) ∧ w = w'
set_option maxRecDepth 100000 in
theorem none_nil (w : World) : Calls Try.prog 38 #[.pointer none] w (NilIs w) := by
  go_enter Try.func38, Try.ntmps38
  go_wp2
  go_ret
  exact ⟨rfl, rfl⟩
set_option maxRecDepth 100000 in
theorem none_msg (m : Nat) (w : World) (h : w.cell? ⟨m, 0, none⟩ = some (.bool true)) : Calls Try.prog 38 #[.pointer (some ⟨m, 0, none⟩)] w (PtrIs m w) := by
  go_enter Try.func38, Try.ntmps38
  go_wp2
  go_ret
  exact ⟨rfl, rfl⟩
/-- A new message. -/
def NewIs (w : World) (e : Ending) (w' : World) : Prop := e = .returned (.pointer (some ⟨w.heap.size, 0, none⟩)) ∧ IsMsg w.heap.size w.heap.size w' [] [] 0 ∧ Below w.heap.size w w'
set_option maxRecDepth 100000 in
theorem new_any (w : World) : Calls Try.prog 9 #[] w (NewIs w) := by
  go_enter Try.func9, Try.ntmps9
  go_wp2
  go_ret
  exact ⟨rfl, ⟨Nat.le_refl _, _, _, Blk.new w _ _, World.ownsRow_nil _ _ _ _, World.ownsRow_nil _ _ _ _⟩, (Below.refl _ _).alloc (Nat.le_refl _) _⟩
end Go.Proofs.Ytbkcklefkhlciaa
