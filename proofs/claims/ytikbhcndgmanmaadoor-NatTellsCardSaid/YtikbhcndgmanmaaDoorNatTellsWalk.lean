/-
  The walk of NatTells: for every input it returns true, and leaves what lay in memory as it was.
-/
import Derived.Test.YtikbhcndgmanmaaDoorNTellsA
namespace Go.Proofs.YtikbhcndgmanmaaDoor
open Go.RowKit
set_option linter.unusedVariables false
set_option maxRecDepth 100000 in
set_option maxHeartbeats 4000000 in
theorem natTells.walk (s t : ByteArray) (hs : s.size ≤ maxLen) (ht : t.size ≤ maxLen) (w : World) (htab : Tab w) (htb : TabB w) :
    Calls Tryd.prog 3 #[.string s, .string t] w fun e w' => e = .returned (.bool true) ∧ Below w.heap.size w w' := by
  have HAl := Lib.hid (alive_any w htab)
  by_cases c1 : (250 : Int) < (s.size : Int)
  · go_enter Tryd.func3, Tryd.ntmps3
    go_wp2_with fail
    refine HAl.out.mono ?_
    rintro e w1 ⟨rfl, hb1⟩
    go_wp2_with fail
    go_ret
    exact ⟨rfl, hb1⟩
  by_cases c2 : (250 : Int) < (t.size : Int)
  · go_enter Tryd.func3, Tryd.ntmps3
    go_wp2_with fail
    refine HAl.out.mono ?_
    rintro e w1 ⟨rfl, hb1⟩
    go_wp2_with fail
    go_ret
    exact ⟨rfl, hb1⟩
  have hs1 : s.size ≤ 250 := by omega
  have ht1 : t.size ≤ 250 := by omega
  rcases Nat.eq_zero_or_pos (nn t) with hz | hz
  · rcases Nat.lt_or_ge (nn s) 18446744073709551616 with hf | hf
    · exact natTells.zgf s t hs1 ht1 hz (by omega) hf w htab htb
    · exact natTells.zgb s t hs1 ht1 hz (by omega) hf w htab htb
  · rcases Nat.lt_or_ge (nn s) (nn t) with hg | hg
    · rcases Nat.lt_or_ge (nn s) 18446744073709551616 with hf | hf
      · exact natTells.plf s t hs1 ht1 hz hg hf w htab htb
      · exact natTells.plb s t hs1 ht1 hz hg hf w htab htb
    · rcases Nat.lt_or_ge (nn s) 18446744073709551616 with hf | hf
      · exact natTells.pgf s t hs1 ht1 hz hg hf w htab htb
      · exact natTells.pgb s t hs1 ht1 hz hg hf w htab htb
end Go.Proofs.YtikbhcndgmanmaaDoor
