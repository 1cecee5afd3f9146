/-
  A character's bytes, where there are three or four; every number's bytes.
-/
import Derived.Test.YtkebjllehegjlaaGreatDoorUtPut
namespace Go.Proofs.YtkebjllehegjlaaGreatDoor
open Go.RowKit
theorem lead3 (x : Nat) (hx : x < 16) : bits .or .u8 224 (IntKind.u8.wrap (x : Int)) = ((224 + x : Nat) : Int) := by
  have h := u8_or_nat 224 x (by omega) (by omega)
  have hh : ∀ c : Fin 16, 224 ||| c.val = 224 + c.val := by decide +kernel
  have h2 := hh ⟨x, hx⟩
  simp only at h2
  rw [h2] at h
  rw [IntKind.wrap_u8', show (x : Int) % 256 = x from by omega]
  exact h
theorem lead4 (x : Nat) (hx : x < 8) : bits .or .u8 240 (IntKind.u8.wrap (x : Int)) = ((240 + x : Nat) : Int) := by
  have h := u8_or_nat 240 x (by omega) (by omega)
  have hh : ∀ c : Fin 8, 240 ||| c.val = 240 + c.val := by decide +kernel
  have h2 := hh ⟨x, hx⟩
  simp only at h2
  rw [h2] at h
  rw [IntKind.wrap_u8', show (x : Int) % 256 = x from by omega]
  exact h
def partI (r : Nat) (k : Int) : Int := if k = 0 then ((128 + r % 64 : Nat) : Int) else if k = 1 then ((128 + r / 64 % 64 : Nat) : Int) else ((128 + r / 4096 % 64 : Nat) : Int)
theorem partK_any (r : Nat) (b : Nat) (k : Int) (w : World) (hr : r ≤ 1114111) (hk : k = 0 ∨ k = 1 ∨ k = 2) (hc : w.cell? ⟨b, 0, none⟩ = some (.int .i64 (r : Int))) :
    Calls Tryz.prog 67 #[.int .i64 k, .pointer (some ⟨b, 0, none⟩)] w fun e w' => e = .returned (.int .u8 (partI r k)) ∧ w' = w := by
  rcases hk with rfl | rfl | rfl
  · exact part0 r b w hr hc
  · exact part1 r b w hr hc
  · exact part2 r b w hr hc
set_option maxRecDepth 100000 in
set_option maxHeartbeats 2000000 in
theorem put_three (r : Nat) (w : World) (h : 2048 ≤ r) (h' : r < 65536) (hz : uSize r = 3) :
    Calls Tryz.prog 54 #[.int .i64 r] w fun e w' => e = .returned (.tuple #[.string (txt [224 + r / 4096, 128 + r / 64 % 64, 128 + r % 64]), .bool true]) ∧ Below w.heap.size w w' := by
  have hcv : ∀ a b c : Int, (convert 47 9 (.slice (some ⟨w.heap.size + 1, 0, none⟩) 3 3)).run Tryz.prog (((w.alloc (.cells #[.int .i64 (r : Int)] 3)).alloc (.cells #[.int .u8 a, .int .u8 b, .int .u8 c] 5)).drew) = .ok (.string (strOfNums [a, b, c])) (((w.alloc (.cells #[.int .i64 (r : Int)] 3)).alloc (.cells #[.int .u8 a, .int .u8 b, .int .u8 c] 5)).drew) := fun a b c =>
    conv_lit _ _ 3 [a, b, c] rfl (by intro i hi; match i, hi with | 0, _ => simp | 1, _ => simp | 2, _ => simp)
  have hl := lead3 (r / 4096) (by omega)
  have Hl : Hid (strOfNums [bits .or .u8 224 (IntKind.u8.wrap ((r : Int) / 4096)), partI r 1, partI r 0] = txt [224 + r / 4096, 128 + r / 64 % 64, 128 + r % 64]) := Lib.hid (by
    have e1 : (r : Int) / 4096 = ((r / 4096 : Nat) : Int) := by omega
    rw [e1, hl]
    unfold strOfNums txt partI
    simp only [List.map_cons, List.map_nil, Int.toNat_natCast, if_true, if_false, Int.reduceEq])
  clear hl
  have Hz := Lib.hid hz
  clear hz
  go_enter Tryz.func54, Tryz.ntmps54
  go_wp2_with fail
  refine (size_any (r : Int) _).mono ?_
  rintro e w' ⟨rfl, rfl⟩
  rw [uSizeI_nat, Hz.out]
  go_wp2_with fail
  go_region_with (first | (go_at_call 67; refine (partK_any r _ _ _ (by omega) (by decide) (by simp)).mono ?_; rintro e w' ⟨rfl, rfl⟩))
  all_goals go_wp2
  all_goals go_ret2
  all_goals exact ⟨by rw [← Hl.out]; rfl, (((Below.refl _ w).alloc (Nat.le_refl _) _).alloc (by simp) _).drew⟩
set_option maxRecDepth 100000 in
set_option maxHeartbeats 2000000 in
theorem put_four (r : Nat) (w : World) (h : 65536 ≤ r) (h' : r < 1114112) (hz : uSize r = 4) :
    Calls Tryz.prog 54 #[.int .i64 r] w fun e w' => e = .returned (.tuple #[.string (txt [240 + r / 262144, 128 + r / 4096 % 64, 128 + r / 64 % 64, 128 + r % 64]), .bool true]) ∧ Below w.heap.size w w' := by
  have hcv : ∀ a b c d : Int, (convert 47 9 (.slice (some ⟨w.heap.size + 1, 0, none⟩) 4 4)).run Tryz.prog (((w.alloc (.cells #[.int .i64 (r : Int)] 3)).alloc (.cells #[.int .u8 a, .int .u8 b, .int .u8 c, .int .u8 d] 5)).drew) = .ok (.string (strOfNums [a, b, c, d])) (((w.alloc (.cells #[.int .i64 (r : Int)] 3)).alloc (.cells #[.int .u8 a, .int .u8 b, .int .u8 c, .int .u8 d] 5)).drew) := fun a b c d =>
    conv_lit _ _ 4 [a, b, c, d] rfl (by intro i hi; match i, hi with | 0, _ => simp | 1, _ => simp | 2, _ => simp | 3, _ => simp)
  have hl := lead4 (r / 262144) (by omega)
  have Hl : Hid (strOfNums [bits .or .u8 240 (IntKind.u8.wrap ((r : Int) / 262144)), partI r 2, partI r 1, partI r 0] = txt [240 + r / 262144, 128 + r / 4096 % 64, 128 + r / 64 % 64, 128 + r % 64]) := Lib.hid (by
    have e1 : (r : Int) / 262144 = ((r / 262144 : Nat) : Int) := by omega
    rw [e1, hl]
    unfold strOfNums txt partI
    simp only [List.map_cons, List.map_nil, Int.toNat_natCast, if_true, if_false, Int.reduceEq])
  clear hl
  have Hz := Lib.hid hz
  clear hz
  go_enter Tryz.func54, Tryz.ntmps54
  go_wp2_with fail
  refine (size_any (r : Int) _).mono ?_
  rintro e w' ⟨rfl, rfl⟩
  rw [uSizeI_nat, Hz.out]
  go_wp2_with fail
  go_region_with (first | (go_at_call 67; refine (partK_any r _ _ _ (by omega) (by decide) (by simp)).mono ?_; rintro e w' ⟨rfl, rfl⟩))
  all_goals go_wp2
  all_goals go_ret2
  all_goals exact ⟨by rw [← Hl.out]; rfl, (((Below.refl _ w).alloc (Nat.le_refl _) _).alloc (by simp) _).drew⟩
end Go.Proofs.YtkebjllehegjlaaGreatDoor
