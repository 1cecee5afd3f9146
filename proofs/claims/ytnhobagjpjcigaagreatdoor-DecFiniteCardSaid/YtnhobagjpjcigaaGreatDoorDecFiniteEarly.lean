/-
 The early returns of DecFinite: one call of alive, then true.
-/
import Derived.Test.YtnhobagjpjcigaaGreatDoorDAlive
namespace Go.Proofs.YtnhobagjpjcigaaGreatDoor
open Go.RowKit
set_option linter.unusedVariables false
set_option maxRecDepth 100000 in
set_option maxHeartbeats 8000000 in
theorem decFinite.early (N t f O : Int) (w : World) (htab : Tab w) (htb : TabB w) (hN0 : 0 ≤ N) (hN1 : N < 18446744073709551616) (ht0 : -9223372036854775808 ≤ t) (ht1 : t ≤ 9223372036854775807) (hf0 : -9223372036854775808 ≤ f) (hf1 : f ≤ 9223372036854775807) (hO0 : -9223372036854775808 ≤ O) (hO1 : O ≤ 9223372036854775807) (h : N = 0 ∨ t < 0 ∨ 60 < t ∨ f < 0 ∨ 60 < f) :
 Calls Tryz.prog 6 #[.int .u64 N, .int .i64 t, .int .i64 f, .int .i64 O] w fun e w' => e = .returned (.bool true) ∧ Below w.heap.size w w' := by
 have HAl := Lib.hid (alive_d w htab htb)
 clear htab htb
 by_cases hk : N = 0
 · have g0 : (N == 0) = true := by simp; omega
   go_enter Tryz.func6, Tryz.ntmps6
   go_wp2_with fail
   refine HAl.out.mono ?_
   rintro e w1 ⟨rfl, hb⟩
   have HB := Lib.hid hb
   clear hb HAl
   go_wp2_with fail
   go_ret
   exact ⟨rfl, HB.out⟩
 have g0 : (N == 0) = false := by simp; omega
 have k0 := hk
 clear hk
 by_cases hk : t < 0
 · have g1 : decide (t < 0) = true := decide_eq_true hk
   go_enter Tryz.func6, Tryz.ntmps6
   go_wp2_with fail
   refine HAl.out.mono ?_
   rintro e w1 ⟨rfl, hb⟩
   have HB := Lib.hid hb
   clear hb HAl
   go_wp2_with fail
   go_ret
   exact ⟨rfl, HB.out⟩
 have g1 : decide (t < 0) = false := decide_eq_false hk
 have k1 := hk
 clear hk
 by_cases hk : 60 < t
 · have g2 : decide (60 < t) = true := decide_eq_true hk
   go_enter Tryz.func6, Tryz.ntmps6
   go_wp2_with fail
   refine HAl.out.mono ?_
   rintro e w1 ⟨rfl, hb⟩
   have HB := Lib.hid hb
   clear hb HAl
   go_wp2_with fail
   go_ret
   exact ⟨rfl, HB.out⟩
 have g2 : decide (60 < t) = false := decide_eq_false hk
 have k2 := hk
 clear hk
 by_cases hk : f < 0
 · have g3 : decide (f < 0) = true := decide_eq_true hk
   go_enter Tryz.func6, Tryz.ntmps6
   go_wp2_with fail
   refine HAl.out.mono ?_
   rintro e w1 ⟨rfl, hb⟩
   have HB := Lib.hid hb
   clear hb HAl
   go_wp2_with fail
   go_ret
   exact ⟨rfl, HB.out⟩
 have g3 : decide (f < 0) = false := decide_eq_false hk
 have k3 := hk
 clear hk
 by_cases hk : 60 < f
 · have g4 : decide (60 < f) = true := decide_eq_true hk
   go_enter Tryz.func6, Tryz.ntmps6
   go_wp2_with fail
   refine HAl.out.mono ?_
   rintro e w1 ⟨rfl, hb⟩
   have HB := Lib.hid hb
   clear hb HAl
   go_wp2_with fail
   go_ret
   exact ⟨rfl, HB.out⟩
 have g4 : decide (60 < f) = false := decide_eq_false hk
 have k4 := hk
 clear hk
 omega
end Go.Proofs.YtnhobagjpjcigaaGreatDoor
