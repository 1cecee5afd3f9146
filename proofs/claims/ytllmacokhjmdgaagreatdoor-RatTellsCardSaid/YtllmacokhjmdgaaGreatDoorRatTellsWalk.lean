/-
 The walk of RatTells: for every input it returns true, and leaves what lay in memory as it was.
-/
import Derived.Test.YtllmacokhjmdgaaGreatDoorRatTellsN
import Derived.Test.YtllmacokhjmdgaaGreatDoorRatTellsZ
namespace Go.Proofs.YtllmacokhjmdgaaGreatDoor
open Go.RowKit
set_option linter.unusedVariables false
set_option maxRecDepth 100000 in
set_option maxHeartbeats 4000000 in
theorem ratTells.long0 (s t : ByteArray) (w : World) (htab : Tab w) (htb : TabB w) (hs : (120 : Int) < (s.size : Int)) :
 Calls Tryz.prog 7 #[.string s, .string t] w fun e w' => e = .returned (.bool true) ∧ Below w.heap.size w w' := by
 have HAl := Lib.hid (alive_r w htab htb)
 go_enter Tryz.func7, Tryz.ntmps7
 go_wp2_with fail
 refine HAl.out.mono ?_
 rintro e w1 ⟨rfl, hb1⟩
 go_wp2_with fail
 go_ret
 exact ⟨rfl, hb1⟩
set_option maxRecDepth 100000 in
set_option maxHeartbeats 4000000 in
theorem ratTells.long1 (s t : ByteArray) (w : World) (htab : Tab w) (htb : TabB w) (hs : ¬ (120 : Int) < (s.size : Int)) (ht : (120 : Int) < (t.size : Int)) :
 Calls Tryz.prog 7 #[.string s, .string t] w fun e w' => e = .returned (.bool true) ∧ Below w.heap.size w w' := by
 have HAl := Lib.hid (alive_r w htab htb)
 go_enter Tryz.func7, Tryz.ntmps7
 go_wp2_with fail
 refine HAl.out.mono ?_
 rintro e w1 ⟨rfl, hb1⟩
 go_wp2_with fail
 go_ret
 exact ⟨rfl, hb1⟩
theorem ratTells.walk (s t : ByteArray) (hs : s.size ≤ maxLen) (ht : t.size ≤ maxLen) (w : World) (htab : Tab w) (htb : TabB w) :
 Calls Tryz.prog 7 #[.string s, .string t] w fun e w' => e = .returned (.bool true) ∧ Below w.heap.size w w' := by
 by_cases h1 : (120 : Int) < (s.size : Int)
 · exact ratTells.long0 s t w htab htb h1
 by_cases h2 : (120 : Int) < (t.size : Int)
 · exact ratTells.long1 s t w htab htb h1 h2
 by_cases h0 : ((pq t).getD 0).num.natAbs = 0
 · exact ratTells.goodZ s t w htab htb h1 h2 h0
 · exact ratTells.goodN s t w htab htb h1 h2 h0
end Go.Proofs.YtllmacokhjmdgaaGreatDoor
