/-
  A character's bytes.
-/
import Derived.Test.YtkebjllehegjlaaGreatDoorUtCalls
import Derived.StillTailTactics
import Derived.Deep.RegionWith
import Derived.Laws.BytesArg
namespace Go.Proofs.YtkebjllehegjlaaGreatDoor
open Go.RowKit
theorem and63 (x : Nat) (hx : x < 9223372036854775808) : bits .and .i64 (x : Int) 63 = ((x % 64 : Nat) : Int) := by
  show IntKind.i64.wrap ((BitVec.ofInt 64 (x : Int) &&& BitVec.ofInt 64 (63 : Int)).toNat : Int) = _
  have h1 : BitVec.ofInt 64 (63 : Int) = BitVec.ofInt 64 ((63 : Nat) : Int) := rfl
  rw [h1, BitVec.toNat_and, ofInt_u64 x (by omega), ofInt_u64 63 (by omega), nat_mask6, IntKind.wrap_i64]
  omega
theorem or128 (x : Nat) (hx : x < 64) : bits .or .u8 128 (x : Int) = ((128 + x : Nat) : Int) := by
  have h := u8_or_nat 128 x (by omega) (by omega)
  have hh : ∀ c : Fin 64, 128 ||| c.val = 128 + c.val := by decide +kernel
  have h2 := hh ⟨x, hx⟩
  simp only at h2
  rw [h2] at h
  exact h
theorem part_form (x : Nat) (hx : x < 9223372036854775808) : bits .or .u8 128 (bits .and .i64 (x : Int) 63 % 256) = ((128 + x % 64 : Nat) : Int) := by
  rw [and63 x hx, show ((x % 64 : Nat) : Int) % 256 = ((x % 64 : Nat) : Int) from by omega, or128 _ (by omega)]
set_option maxHeartbeats 400000 in
theorem part0 (r : Nat) (b : Nat) (w : World) (hr : r ≤ 1114111) (hc : w.cell? ⟨b, 0, none⟩ = some (.int .i64 (r : Int))) :
    Calls Tryz.prog 67 #[.int .i64 0, .pointer (some ⟨b, 0, none⟩)] w fun e w' => e = .returned (.int .u8 (128 + r % 64 : Nat)) ∧ w' = w := by
  have hf := Lib.hid (part_form r (by omega))
  go_enter Tryz.func67, Tryz.ntmps67
  go_wp2
  go_ret
  exact ⟨ret_int hf.out, rfl⟩
set_option maxHeartbeats 400000 in
theorem part1 (r : Nat) (b : Nat) (w : World) (hr : r ≤ 1114111) (hc : w.cell? ⟨b, 0, none⟩ = some (.int .i64 (r : Int))) :
    Calls Tryz.prog 67 #[.int .i64 1, .pointer (some ⟨b, 0, none⟩)] w fun e w' => e = .returned (.int .u8 (128 + r / 64 % 64 : Nat)) ∧ w' = w := by
  have hf := Lib.hid (part_form (r / 64) (by omega))
  go_enter Tryz.func67, Tryz.ntmps67
  go_wp2
  go_ret
  exact ⟨ret_int hf.out, rfl⟩
set_option maxHeartbeats 400000 in
theorem part2 (r : Nat) (b : Nat) (w : World) (hr : r ≤ 1114111) (hc : w.cell? ⟨b, 0, none⟩ = some (.int .i64 (r : Int))) :
    Calls Tryz.prog 67 #[.int .i64 2, .pointer (some ⟨b, 0, none⟩)] w fun e w' => e = .returned (.int .u8 (128 + r / 4096 % 64 : Nat)) ∧ w' = w := by
  have hf := Lib.hid (part_form (r / 4096) (by omega))
  go_enter Tryz.func67, Tryz.ntmps67
  go_wp2
  go_ret
  exact ⟨ret_int hf.out, rfl⟩
theorem conv_lit (W : World) (g n : Nat) (xs : List Int) (hn : xs.length = n) (h : ∀ i, i < n → W.cell? ⟨g, i, none⟩ = some (.int .u8 (xs.getD i 0))) :
    (convert 47 9 (.slice (some ⟨g, 0, none⟩) n n)).run Tryz.prog W = .ok (.string (strOfNums xs)) W :=
  run_convert_bytes_arg W 47 5 Tryz.underlying47 Tryz.underlying5 g 0 n n xs hn (by simpa using h) 9 Tryz.underlying9
theorem lead2 (x : Nat) (hx : x < 32) : bits .or .u8 192 (IntKind.u8.wrap (x : Int)) = ((192 + x : Nat) : Int) := by
  have h := u8_or_nat 192 x (by omega) (by omega)
  have hh : ∀ c : Fin 32, 192 ||| c.val = 192 + c.val := by decide +kernel
  have h2 := hh ⟨x, hx⟩
  simp only at h2
  rw [h2] at h
  rw [IntKind.wrap_u8', show (x : Int) % 256 = x from by omega]
  exact h
set_option maxRecDepth 100000 in
set_option maxHeartbeats 1000000 in
theorem put_two (r : Nat) (w : World) (h : 128 ≤ r) (h' : r < 2048) :
    Calls Tryz.prog 54 #[.int .i64 r] w fun e w' => e = .returned (.tuple #[.string (txt [192 + r / 64, 128 + r % 64]), .bool true]) ∧ Below w.heap.size w w' := by
  have hcv : ∀ a b : Int, (convert 47 9 (.slice (some ⟨w.heap.size + 1, 0, none⟩) 2 2)).run Tryz.prog (((w.alloc (.cells #[.int .i64 (r : Int)] 3)).alloc (.cells #[.int .u8 a, .int .u8 b] 5)).drew) = .ok (.string (strOfNums [a, b])) (((w.alloc (.cells #[.int .i64 (r : Int)] 3)).alloc (.cells #[.int .u8 a, .int .u8 b] 5)).drew) := fun a b =>
    conv_lit _ _ 2 [a, b] rfl (by intro i hi; match i, hi with | 0, _ => simp | 1, _ => simp)
  have hl := lead2 (r / 64) (by omega)
  have Hl : Hid (strOfNums [bits .or .u8 192 (IntKind.u8.wrap ((r : Int) / 64)), 128 + (r : Int) % 64] = txt [192 + r / 64, 128 + r % 64]) := Lib.hid (by
    have e1 : (r : Int) / 64 = ((r / 64 : Nat) : Int) := by omega
    have e2 : 128 + (r : Int) % 64 = ((128 + r % 64 : Nat) : Int) := by omega
    rw [e1, hl, e2]
    unfold strOfNums txt
    simp only [List.map_cons, List.map_nil, Int.toNat_natCast])
  clear hl
  go_enter Tryz.func54, Tryz.ntmps54
  go_wp2_with fail
  refine (size_any (r : Int) _).mono ?_
  rintro e w' ⟨rfl, rfl⟩
  rw [uSizeI_nat, show uSize r = 2 from by unfold uSize; rw [if_neg (by omega), if_neg (by omega), if_pos (by omega)]]
  go_wp2_with fail
  go_region_with (first | (go_at_call 67; refine (part0 r _ _ (by omega) (by simp)).mono ?_; rintro e w' ⟨rfl, rfl⟩))
  all_goals go_wp2
  all_goals go_ret2
  all_goals exact ⟨by rw [← Hl.out]; rfl, (((Below.refl _ w).alloc (Nat.le_refl _) _).alloc (by simp) _).drew⟩
set_option maxRecDepth 100000 in
set_option maxHeartbeats 1000000 in
theorem put_one (r : Nat) (w : World) (h' : r < 128) :
    Calls Tryz.prog 54 #[.int .i64 r] w fun e w' => e = .returned (.tuple #[.string (txt [r]), .bool true]) ∧ Below w.heap.size w w' := by
  have hcv : ∀ a : Int, (convert 47 9 (.slice (some ⟨w.heap.size + 1, 0, none⟩) 1 1)).run Tryz.prog ((w.alloc (.cells #[.int .i64 (r : Int)] 3)).alloc (.cells #[.int .u8 a] 5)) = .ok (.string (strOfNums [a])) ((w.alloc (.cells #[.int .i64 (r : Int)] 3)).alloc (.cells #[.int .u8 a] 5)) := fun a =>
    conv_lit _ _ 1 [a] rfl (by intro i hi; match i, hi with | 0, _ => simp)
  have Hl : Hid (strOfNums [(r : Int)] = txt [r]) := Lib.hid (by unfold strOfNums txt; simp only [List.map_cons, List.map_nil, Int.toNat_natCast])
  go_enter Tryz.func54, Tryz.ntmps54
  go_wp2_with fail
  refine (size_any (r : Int) _).mono ?_
  rintro e w' ⟨rfl, rfl⟩
  rw [uSizeI_nat, show uSize r = 1 from by unfold uSize; rw [if_neg (by omega), if_pos (by omega)]]
  go_wp2
  go_ret2
  exact ⟨by rw [← Hl.out]; rfl, ((Below.refl _ w).alloc (Nat.le_refl _) _).alloc (by simp) _⟩
set_option maxRecDepth 100000 in
set_option maxHeartbeats 1000000 in
theorem put_none (r : Int) (w : World) (h : uSizeI r = 0) :
    Calls Tryz.prog 54 #[.int .i64 r] w fun e w' => e = .returned (.tuple #[.string (txt []), .bool false]) ∧ Below w.heap.size w w' := by
  have H := Lib.hid h
  clear h
  go_enter Tryz.func54, Tryz.ntmps54
  go_wp2_with fail
  refine (size_any r _).mono ?_
  rintro e w' ⟨rfl, rfl⟩
  rw [H.out]
  go_wp2
  go_ret2
  exact ⟨rfl, (Below.refl _ w).alloc (Nat.le_refl _) _⟩
end Go.Proofs.YtkebjllehegjlaaGreatDoor
