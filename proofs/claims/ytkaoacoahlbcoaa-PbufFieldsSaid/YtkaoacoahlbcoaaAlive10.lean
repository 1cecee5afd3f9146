/-
  The first call of chapter 10's statements, whose answer the document fixes: it answers true.
-/
import Derived.Test.YtkaoacoahlbcoaaGv
import Derived.Test.YtkaoacoahlbcoaaPv
import Derived.Test.YtkaoacoahlbcoaaZz
namespace Go.Proofs.Ytkaoacoahlbcoaa
open Go.RowKit
theorem gv_300 : gv [172, 2, 120] = (300, 2, true) := by decide +kernel
theorem pv_300 : pv 300 = [172, 2] := by rw [pv_great _ (by omega), pv_small _ (by omega)]
theorem txt_300 : txt (pv 300) = ⟨#[172, 2]⟩ := by rw [pv_300]; rfl
def True' (w : World) (e : Ending) (w' : World) : Prop := e = .returned (.bool true) ∧ Below w.heap.size w w'
set_option maxRecDepth 100000 in
set_option maxHeartbeats 400000 in
theorem alive_any (w : World) : Calls Try.prog 8 #[] w (True' w) := by
  go_enter Try.func8, Try.ntmps8
  go_wp2_with fail
  refine (getv_any _ _ (by unfold maxLen; decide)).mono ?_
  rintro e w1 ⟨rfl, rfl⟩
  have hg : gv (⟨#[172, 2, 120]⟩ : ByteArray).data.toList = (300, 2, true) := gv_300
  rw [hg]
  go_wp2_with fail
  refine (putv_any 300 _ (by omega)).mono ?_
  rintro e w1 ⟨rfl, hb⟩
  rw [txt_300]
  have e5 : ((zz (-3)) == (5 : Int)) = true := by decide
  have e3 : ((uz 5) == (-3 : Int)) = true := by decide
  go_wp2_with fail
  refine (zz_any (-3) _ (by omega) (by omega)).mono ?_
  rintro e w2 ⟨rfl, rfl⟩
  go_wp2_with fail
  refine (uz_any 5 _ (by omega)).mono ?_
  rintro e w2 ⟨rfl, rfl⟩
  go_wp2
  go_ret
  exact ⟨rfl, hb⟩
end Go.Proofs.Ytkaoacoahlbcoaa
