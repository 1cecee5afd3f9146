/-
  Ints turned into numbers without a sign, and back: pbuf's functions and the document's own answer what zz and uz say, and leave the world as it is.
-/
import Derived.Test.YtkaoacoahlbcoaaRows
import Derived.Test.YtkaoacoahlbcoaaPbMath
import Derived.WalkKit
import Derived.WalkSpells
import Derived.WalkLawsBesides
import Derived.Lib.Hide
namespace Go.Proofs.Ytkaoacoahlbcoaa
open Go.RowKit
theorem ret_int {k : IntKind} {a b : Int} (h : a = b) : Ending.returned (.int k a) = .returned (.int k b) := by rw [h]
set_option maxHeartbeats 400000 in
theorem zz_any (n : Int) (w : World) (h0 : -9223372036854775808 ≤ n) (h1 : n ≤ 9223372036854775807) :
    Calls Try.prog 13 #[.int .i64 n] w fun e w' => e = .returned (.int .u64 (zz n)) ∧ w = w' := by
  have hf := Lib.hid (zz_form n h0 h1)
  go_enter Try.func13, Try.ntmps13
  go_wp2
  go_ret
  exact ⟨ret_int hf.out, rfl⟩
set_option maxHeartbeats 400000 in
theorem uz_any (n : Nat) (w : World) (h1 : n < 18446744073709551616) :
    Calls Try.prog 15 #[.int .u64 n] w fun e w' => e = .returned (.int .i64 (uz n)) ∧ w = w' := by
  have hf := Lib.hid (uz_form n h1)
  go_enter Try.func15, Try.ntmps15
  go_wp2
  go_ret
  exact ⟨ret_int hf.out, rfl⟩
set_option maxHeartbeats 400000 in
theorem refzz_any (n : Int) (w : World) (h0 : -9223372036854775808 ≤ n) (h1 : n ≤ 9223372036854775807) :
    Calls Try.prog 14 #[.int .i64 n] w fun e w' => e = .returned (.int .u64 (zz n)) ∧ w = w' := by
  by_cases h : 0 ≤ n
  · have hf : Hid (2 * n = zz n) := Lib.hid (by unfold zz; rw [if_pos h])
    go_enter Try.func14, Try.ntmps14
    go_wp2
    go_ret
    exact ⟨ret_int hf.out, rfl⟩
  · have hf : Hid (2 * -(n + 1) + 1 = zz n) := Lib.hid (by unfold zz; rw [if_neg h]; omega)
    go_enter Try.func14, Try.ntmps14
    go_wp2
    go_ret
    exact ⟨ret_int hf.out, rfl⟩
set_option maxHeartbeats 400000 in
theorem refuz_any (n : Nat) (w : World) (h1 : n < 18446744073709551616) :
    Calls Try.prog 16 #[.int .u64 n] w fun e w' => e = .returned (.int .i64 (uz n)) ∧ w = w' := by
  by_cases h : n % 2 = 0
  · have hf : Hid ((n : Int) / 2 = uz n) := Lib.hid (by unfold uz; rw [if_pos h]; omega)
    have h' : ((n : Int) % 2 == 0) = true := by simp; omega
    clear h
    go_enter Try.func16, Try.ntmps16
    go_wp2
    go_ret
    exact ⟨ret_int hf.out, rfl⟩
  · have hf : Hid (-((n : Int) / 2) - 1 = uz n) := Lib.hid (by unfold uz; rw [if_neg h]; omega)
    have h' : ((n : Int) % 2 == 0) = false := by simp; omega
    clear h
    go_enter Try.func16, Try.ntmps16
    go_wp2
    go_ret
    exact ⟨ret_int hf.out, rfl⟩
end Go.Proofs.Ytkaoacoahlbcoaa
