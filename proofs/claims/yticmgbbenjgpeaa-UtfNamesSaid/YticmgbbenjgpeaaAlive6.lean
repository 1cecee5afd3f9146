/-
  The first call of chapter 6's statements, whose answer the document fixes: it answers true.
-/
import Derived.Test.YticmgbbenjgpeaaUtPut
import Derived.Test.YticmgbbenjgpeaaUtClass
namespace Go.Proofs.Yticmgbbenjgpeaa
open Go.RowKit
theorem end_a : uEnd [97, 255] = 1 := by decide +kernel
theorem end_b : uEnd [97, 195, 169] = 3 := by decide +kernel
def True' (w : World) (e : Ending) (w' : World) : Prop := e = .returned (.bool true) ∧ Below w.heap.size w w'
set_option maxRecDepth 100000 in
set_option maxHeartbeats 1000000 in
theorem alive_any (w : World) : Calls Try.prog 7 #[] w (True' w) := by
  have t1 := Lib.hid (show uChar 9 = true from by decide)
  have t2 := Lib.hid (show uChar 0 = false from by decide)
  have t3 := Lib.hid (show uSpace 10 = true from by decide)
  have t4 := Lib.hid (show uStart 97 = true from by decide)
  have t5 := Lib.hid (show uStart 49 = false from by decide)
  have ha : Hid (uEnd (⟨#[97, 255]⟩ : ByteArray).data.toList = 1) := Lib.hid end_a
  have hb : Hid (uEnd (⟨#[97, 195, 169]⟩ : ByteArray).data.toList = 3) := Lib.hid end_b
  have hp : Hid (txt [192 + 233 / 64, 128 + 233 % 64] = ⟨#[195, 169]⟩) := Lib.hid rfl
  go_enter Try.func7, Try.ntmps7
  go_wp2_with fail
  refine (check_any _ (by decide) _).mono ?_
  rintro e w1 ⟨rfl, b1⟩
  rw [ha.out]
  go_wp2_with fail
  refine (check_any _ (by decide) _).mono ?_
  rintro e w2 ⟨rfl, b2⟩
  rw [hb.out]
  have c2 := b1.trans (b2.mono b1.size)
  clear b1 b2
  go_wp2_with fail
  refine (put_two 233 _ (by omega) (by omega)).mono ?_
  rintro e w3 ⟨rfl, b3⟩
  rw [hp.out]
  have c3 := c2.trans (b3.mono c2.size)
  clear c2 b3
  go_wp2_with fail
  refine (char_any 9 _).mono ?_
  rintro e w4 ⟨rfl, rfl⟩
  rw [t1.out]
  go_wp2_with fail
  refine (char_any 0 _).mono ?_
  rintro e w4 ⟨rfl, rfl⟩
  rw [t2.out]
  go_wp2_with fail
  refine (space_any 10 _).mono ?_
  rintro e w4 ⟨rfl, rfl⟩
  rw [t3.out]
  go_wp2_with fail
  refine (start_any 97 _).mono ?_
  rintro e w4 ⟨rfl, rfl⟩
  rw [t4.out]
  go_wp2_with fail
  refine (start_any 49 _).mono ?_
  rintro e w4 ⟨rfl, rfl⟩
  rw [t5.out]
  go_wp2
  go_ret
  exact ⟨rfl, c3⟩
end Go.Proofs.Yticmgbbenjgpeaa
