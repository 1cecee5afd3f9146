/-
  The walk of PbufBack: for every fields and every place to cut it returns true, and leaves what lay in memory as it was.
-/
import Derived.Test.YtkaoacoahlbcoaaPbufBackMain
namespace Go.Proofs.Ytkaoacoahlbcoaa
open Go.RowKit
set_option maxRecDepth 100000 in
set_option maxHeartbeats 1000000 in
theorem pbufBack.walk (a : Option Addr) (n c : Nat) (l : List FdI) (cut : Int) (w : World) (hl : IsFds w a n l) (hn : n ≤ maxLen) (h0 : (Lit.int .i64 cut).wf = true) :
    Calls Try.prog 5 #[.slice a n c, .int .i64 cut] w fun e w' => e = .returned (.bool true) ∧ Below w.heap.size w w' := by
  obtain ⟨hc0, hc1⟩ := wf_i64 h0
  unfold maxLen at hn
  by_cases h40 : 40 < n
  · clear hl h0
    go_enter Try.func5, Try.ntmps5
    go_wp2_with fail
    refine (alive_any _).mono ?_
    rintro e w1 ⟨rfl, hb⟩
    go_wp2
    go_ret
    exact ⟨rfl, hb⟩
  · by_cases hcut : cut < 0
    · clear hl h0
      go_enter Try.func5, Try.ntmps5
      go_wp2_with fail
      refine (alive_any _).mono ?_
      rintro e w1 ⟨rfl, hb⟩
      go_wp2
      go_ret
      exact ⟨rfl, hb⟩
    · exact pbufBack.main a n c l cut w (by omega) (by omega) (by omega) hl
end Go.Proofs.Ytkaoacoahlbcoaa
