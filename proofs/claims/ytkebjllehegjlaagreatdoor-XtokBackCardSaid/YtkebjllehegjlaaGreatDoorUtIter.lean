/-
  The iterator over a text's characters: its contract.
-/
import Derived.RangeFuncNested
import Derived.RangeFuncBound
import Derived.RangeFuncCalls
import Derived.RangeFuncLeaves
import Derived.RangeFuncBox
import Derived.Shelf.Abstract
import Derived.Shelf.RegionOpen
import Derived.WalkKit
import Derived.OwnWalkIn
import Derived.TacticsInMore
import Derived.LoopNIn
import Derived.LoopIn
import Derived.WalkSpells
import Derived.WalkLawsBesides
import Derived.Test.YtkebjllehegjlaaGreatDoorRows
import Derived.Test.YtkebjllehegjlaaGreatDoorUtMath
namespace Go.Proofs.YtkebjllehegjlaaGreatDoor
open Go.RowKit Go.Shelf
attribute [local go_sem] Oper.semAt_some

theorem ret_int {k : IntKind} {a b : Int} (h : a = b) : Ending.returned (.int k a) = .returned (.int k b) := by rw [h]
theorem ret_ints {k : IntKind} {a b c d : Int} (h : a = b) (g : c = d) : Ending.returned (.tuple #[.int k a, .int k c]) = .returned (.tuple #[.int k b, .int k d]) := by rw [h, g]
/-- How many bytes an int has as a character. -/
def uSizeI (r : Int) : Int := if r < 0 then 0 else uSize r.toNat
theorem uSizeI_nat (r : Nat) : uSizeI (r : Int) = uSize r := by unfold uSizeI; rw [if_neg (by omega), Int.toNat_natCast]
set_option maxRecDepth 100000 in
set_option maxHeartbeats 1000000 in
theorem size_any (r : Int) (w : World) :
    Calls Tryz.prog 28 #[.int .i64 r] w fun e w' => e = .returned (.int .i64 (uSizeI r)) ∧ w = w' := by
  rcases (show r < 0 ∨ 1114111 < r ∨ (55296 ≤ r ∧ r ≤ 57343) ∨ (0 ≤ r ∧ r < 128) ∨ (128 ≤ r ∧ r < 2048) ∨ (2048 ≤ r ∧ r < 55296) ∨ (57343 < r ∧ r < 65536) ∨ (65536 ≤ r ∧ r ≤ 1114111) from by omega) with g | g | ⟨g, g'⟩ | ⟨g, g'⟩ | ⟨g, g'⟩ | ⟨g, g'⟩ | ⟨g, g'⟩ | ⟨g, g'⟩
  · have hv : Hid ((0 : Int) = uSizeI r) := Lib.hid (by unfold uSizeI; rw [if_pos g])
    go_enter Tryz.func28, Tryz.ntmps28
    go_wp2
    go_ret
    exact ⟨ret_int hv.out, rfl⟩
  · have hv : Hid ((0 : Int) = uSizeI r) := Lib.hid (by unfold uSizeI; rw [if_neg (by omega)]; unfold uSize; rw [if_pos (by omega)]; rfl)
    go_enter Tryz.func28, Tryz.ntmps28
    go_wp2
    go_ret
    exact ⟨ret_int hv.out, rfl⟩
  · have hv : Hid ((0 : Int) = uSizeI r) := Lib.hid (by unfold uSizeI; rw [if_neg (by omega)]; unfold uSize; rw [if_pos (by omega)]; rfl)
    go_enter Tryz.func28, Tryz.ntmps28
    go_wp2
    go_ret
    exact ⟨ret_int hv.out, rfl⟩
  · have hv : Hid ((1 : Int) = uSizeI r) := Lib.hid (by unfold uSizeI; rw [if_neg (by omega)]; unfold uSize; rw [if_neg (by omega), if_pos (by omega)]; rfl)
    go_enter Tryz.func28, Tryz.ntmps28
    go_wp2
    go_ret
    exact ⟨ret_int hv.out, rfl⟩
  · have hv : Hid ((2 : Int) = uSizeI r) := Lib.hid (by unfold uSizeI; rw [if_neg (by omega)]; unfold uSize; rw [if_neg (by omega), if_neg (by omega), if_pos (by omega)]; rfl)
    go_enter Tryz.func28, Tryz.ntmps28
    go_wp2
    go_ret
    exact ⟨ret_int hv.out, rfl⟩
  · have hv : Hid ((3 : Int) = uSizeI r) := Lib.hid (by unfold uSizeI; rw [if_neg (by omega)]; unfold uSize; rw [if_neg (by omega), if_neg (by omega), if_neg (by omega), if_pos (by omega)]; rfl)
    go_enter Tryz.func28, Tryz.ntmps28
    go_wp2
    go_ret
    exact ⟨ret_int hv.out, rfl⟩
  · have hv : Hid ((3 : Int) = uSizeI r) := Lib.hid (by unfold uSizeI; rw [if_neg (by omega)]; unfold uSize; rw [if_neg (by omega), if_neg (by omega), if_neg (by omega), if_pos (by omega)]; rfl)
    go_enter Tryz.func28, Tryz.ntmps28
    go_wp2
    go_ret
    exact ⟨ret_int hv.out, rfl⟩
  · have hv : Hid ((4 : Int) = uSizeI r) := Lib.hid (by unfold uSizeI; rw [if_neg (by omega)]; unfold uSize; rw [if_neg (by omega), if_neg (by omega), if_neg (by omega), if_neg (by omega)]; rfl)
    go_enter Tryz.func28, Tryz.ntmps28
    go_wp2
    go_ret
    exact ⟨ret_int hv.out, rfl⟩
set_option maxRecDepth 100000 in
set_option maxHeartbeats 1000000 in
theorem head_any (c : Nat) (w : World) (h : c < 256) :
    Calls Tryz.prog 30 #[.int .u8 c] w fun e w' => e = .returned (.tuple #[.int .i64 (uHead c).1, .int .i64 (uHead c).2]) ∧ w = w' := by
  rcases (show c < 128 ∨ (128 ≤ c ∧ c < 192) ∨ (192 ≤ c ∧ c < 224) ∨ (224 ≤ c ∧ c < 240) ∨ (240 ≤ c ∧ c < 248) ∨ (248 ≤ c ∧ c < 256) from by omega) with g | ⟨g, g'⟩ | ⟨g, g'⟩ | ⟨g, g'⟩ | ⟨g, g'⟩ | ⟨g, g'⟩
  · have hv : Hid (uHead c = (c, 1)) := Lib.hid (by unfold uHead; rw [if_pos g])
    have t5 : ((c : Int) / 32 == 6) = false := by simp; omega
    have t4 : ((c : Int) / 16 == 14) = false := by simp; omega
    have t3 : ((c : Int) / 8 == 30) = false := by simp; omega
    go_enter Tryz.func30, Tryz.ntmps30
    go_wp2
    go_ret2
    exact ⟨by rw [hv.out]; rfl, rfl⟩
  · have hv : Hid (uHead c = (0, 0)) := Lib.hid (by unfold uHead; rw [if_neg (by omega), if_pos g'])
    have t5 : ((c : Int) / 32 == 6) = false := by simp; omega
    have t4 : ((c : Int) / 16 == 14) = false := by simp; omega
    have t3 : ((c : Int) / 8 == 30) = false := by simp; omega
    go_enter Tryz.func30, Tryz.ntmps30
    go_wp2
    go_ret2
    exact ⟨by rw [hv.out]; rfl, rfl⟩
  · have hv : Hid (uHead c = ((c - 192 : Nat), 2)) := Lib.hid (by unfold uHead; rw [if_neg (by omega), if_neg (by omega), if_pos g'])
    have t5 : ((c : Int) / 32 == 6) = true := by simp; omega
    have t4 : ((c : Int) / 16 == 14) = false := by simp; omega
    have t3 : ((c : Int) / 8 == 30) = false := by simp; omega
    go_enter Tryz.func30, Tryz.ntmps30
    go_wp2
    go_ret2
    exact ⟨by rw [hv.out]; exact ret_ints (by show (c : Int) % _ = _; omega) rfl, rfl⟩
  · have hv : Hid (uHead c = ((c - 224 : Nat), 3)) := Lib.hid (by unfold uHead; rw [if_neg (by omega), if_neg (by omega), if_neg (by omega), if_pos g'])
    have t5 : ((c : Int) / 32 == 6) = false := by simp; omega
    have t4 : ((c : Int) / 16 == 14) = true := by simp; omega
    have t3 : ((c : Int) / 8 == 30) = false := by simp; omega
    go_enter Tryz.func30, Tryz.ntmps30
    go_wp2
    go_ret2
    exact ⟨by rw [hv.out]; exact ret_ints (by show (c : Int) % _ = _; omega) rfl, rfl⟩
  · have hv : Hid (uHead c = ((c - 240 : Nat), 4)) := Lib.hid (by unfold uHead; rw [if_neg (by omega), if_neg (by omega), if_neg (by omega), if_neg (by omega), if_pos g'])
    have t5 : ((c : Int) / 32 == 6) = false := by simp; omega
    have t4 : ((c : Int) / 16 == 14) = false := by simp; omega
    have t3 : ((c : Int) / 8 == 30) = true := by simp; omega
    go_enter Tryz.func30, Tryz.ntmps30
    go_wp2
    go_ret2
    exact ⟨by rw [hv.out]; exact ret_ints (by show (c : Int) % _ = _; omega) rfl, rfl⟩
  · have hv : Hid (uHead c = (0, 0)) := Lib.hid (by unfold uHead; rw [if_neg (by omega), if_neg (by omega), if_neg (by omega), if_neg (by omega), if_neg (by omega)])
    have t5 : ((c : Int) / 32 == 6) = false := by simp; omega
    have t4 : ((c : Int) / 16 == 14) = false := by simp; omega
    have t3 : ((c : Int) / 8 == 30) = false := by simp; omega
    go_enter Tryz.func30, Tryz.ntmps30
    go_wp2
    go_ret2
    exact ⟨by rw [hv.out]; rfl, rfl⟩
end Go.Proofs.YtkebjllehegjlaaGreatDoor
