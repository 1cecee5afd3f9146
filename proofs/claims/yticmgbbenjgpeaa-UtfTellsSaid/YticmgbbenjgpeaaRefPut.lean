/-
  The document's own bytes of a character.
-/
import Derived.Test.YticmgbbenjgpeaaUtPut3
import Derived.Outline
namespace Go.Proofs.Yticmgbbenjgpeaa
open Go.RowKit
def PutIs (r : Int) (w : World) (e : Ending) (w' : World) : Prop := e = .returned (.tuple #[.string (txt (uPutI r)), .bool (decide (uSizeI r ≠ 0))]) ∧ Below w.heap.size w w'
set_option maxRecDepth 100000 in
set_option maxHeartbeats 1000000 in
theorem refput_none (r : Int) (w : World) (h : uSizeI r = 0) (hr : r < 0 ∨ 1114111 < r ∨ (55296 ≤ r ∧ r ≤ 57343)) :
    Calls Try.prog 12 #[.int .i64 r] w (PutIs r w) := by
  have hv : Hid (txt (uPutI r) = ⟨#[]⟩) := Lib.hid (by
    have e1 : uPutI r = [] := by
      unfold uPutI
      by_cases h0 : r < 0
      · rw [if_pos h0]
      · rw [if_neg h0]
        unfold uSizeI at h
        rw [if_neg h0] at h
        unfold uPut
        rw [if_pos (by omega)]
    rw [e1]; rfl)
  have hb : Hid (decide (uSizeI r ≠ 0) = false) := Lib.hid (by simp [h])
  clear h
  rcases hr with h | h | ⟨h, h'⟩
  · go_enter Try.func12, Try.ntmps12
    go_wp2
    go_ret2
    exact ⟨by rw [hv.out, hb.out]; rfl, Below.refl _ _⟩
  · go_enter Try.func12, Try.ntmps12
    go_wp2
    go_ret2
    exact ⟨by rw [hv.out, hb.out]; rfl, Below.refl _ _⟩
  · go_enter Try.func12, Try.ntmps12
    go_wp2
    go_ret2
    exact ⟨by rw [hv.out, hb.out]; rfl, Below.refl _ _⟩
set_option maxRecDepth 100000 in
set_option maxHeartbeats 1000000 in
theorem refput_one (r : Int) (w : World) (h : 0 ≤ r) (h' : r < 128) (hz : uSizeI r = 1) :
    Calls Try.prog 12 #[.int .i64 r] w (PutIs r w) := by
  have hcv : ∀ a : Int, (convert 43 9 (.slice (some ⟨w.heap.size, 0, none⟩) 1 1)).run Try.prog (w.alloc (.cells #[.int .u8 a] 5)) = .ok (.string (strOfNums [a])) (w.alloc (.cells #[.int .u8 a] 5)) := fun a =>
    conv_lit _ _ 1 [a] rfl (by intro i hi; match i, hi with | 0, _ => simp)
  have hb : Hid (decide (uSizeI r ≠ 0) = true) := Lib.hid (by rw [hz]; rfl)
  have hl : Hid (strOfNums [r] = txt (uPutI r)) := Lib.hid (by
    obtain ⟨m, rfl⟩ : ∃ m : Nat, r = (m : Int) := ⟨r.toNat, by omega⟩
    rw [uSizeI_nat] at hz
    have hz' : uSize m = 1 := by omega
    have e : uPutI (m : Int) = [m] := by
      unfold uPutI; rw [if_neg (by omega), Int.toNat_natCast]; unfold uPut; rw [hz']; rfl
    rw [e]
    rfl)
  clear hz
  go_enter Try.func12, Try.ntmps12
  go_wp2
  go_ret2
  exact ⟨by rw [hb.out, ← hl.out]; rfl, (Below.refl _ w).alloc (Nat.le_refl _) _⟩
set_option maxRecDepth 100000 in
set_option maxHeartbeats 1000000 in
theorem refput_two (r : Int) (w : World) (h : 128 ≤ r) (h' : r < 2048) (hz : uSizeI r = 2) :
    Calls Try.prog 12 #[.int .i64 r] w (PutIs r w) := by
  have hcv : ∀ a b : Int, (convert 43 9 (.slice (some ⟨w.heap.size, 0, none⟩) 2 2)).run Try.prog (w.alloc (.cells #[.int .u8 a, .int .u8 b] 5)) = .ok (.string (strOfNums [a, b])) (w.alloc (.cells #[.int .u8 a, .int .u8 b] 5)) := fun a b =>
    conv_lit _ _ 2 [a, b] rfl (by intro i hi; match i, hi with | 0, _ => simp | 1, _ => simp)
  have hb : Hid (decide (uSizeI r ≠ 0) = true) := Lib.hid (by rw [hz]; rfl)
  have hl : Hid (strOfNums [192 + r / 64, 128 + r % 64] = txt (uPutI r)) := Lib.hid (by
    obtain ⟨m, rfl⟩ : ∃ m : Nat, r = (m : Int) := ⟨r.toNat, by omega⟩
    rw [uSizeI_nat] at hz
    have hz' : uSize m = 2 := by omega
    have e : uPutI (m : Int) = [192 + m / 64, 128 + m % 64] := by
      unfold uPutI; rw [if_neg (by omega), Int.toNat_natCast]; unfold uPut; rw [hz']; rfl
    rw [e]
    rfl)
  clear hz
  go_enter Try.func12, Try.ntmps12
  go_wp2
  go_ret2
  exact ⟨by rw [hb.out, ← hl.out]; rfl, (Below.refl _ w).alloc (Nat.le_refl _) _⟩
set_option maxRecDepth 100000 in
set_option maxHeartbeats 1000000 in
theorem refput_three (r : Int) (w : World) (h : 2048 ≤ r) (h' : r < 65536) (hs : r < 55296 ∨ 57343 < r) (hz : uSizeI r = 3) :
    Calls Try.prog 12 #[.int .i64 r] w (PutIs r w) := by
  have hcv : ∀ a b c : Int, (convert 43 9 (.slice (some ⟨w.heap.size, 0, none⟩) 3 3)).run Try.prog (w.alloc (.cells #[.int .u8 a, .int .u8 b, .int .u8 c] 5)) = .ok (.string (strOfNums [a, b, c])) (w.alloc (.cells #[.int .u8 a, .int .u8 b, .int .u8 c] 5)) := fun a b c =>
    conv_lit _ _ 3 [a, b, c] rfl (by intro i hi; match i, hi with | 0, _ => simp | 1, _ => simp | 2, _ => simp)
  have hb : Hid (decide (uSizeI r ≠ 0) = true) := Lib.hid (by rw [hz]; rfl)
  have hl : Hid (strOfNums [224 + r / 4096, 128 + r / 64 % 64, 128 + r % 64] = txt (uPutI r)) := Lib.hid (by
    obtain ⟨m, rfl⟩ : ∃ m : Nat, r = (m : Int) := ⟨r.toNat, by omega⟩
    rw [uSizeI_nat] at hz
    have hz' : uSize m = 3 := by omega
    have e : uPutI (m : Int) = [224 + m / 4096, 128 + m / 64 % 64, 128 + m % 64] := by
      unfold uPutI; rw [if_neg (by omega), Int.toNat_natCast]; unfold uPut; rw [hz']; rfl
    rw [e]
    rfl)
  clear hz
  rcases hs with hs | hs
  · go_enter Try.func12, Try.ntmps12
    go_wp2
    go_ret2
    exact ⟨by rw [hb.out, ← hl.out]; rfl, (Below.refl _ w).alloc (Nat.le_refl _) _⟩
  · go_enter Try.func12, Try.ntmps12
    go_wp2
    go_ret2
    exact ⟨by rw [hb.out, ← hl.out]; rfl, (Below.refl _ w).alloc (Nat.le_refl _) _⟩
set_option maxRecDepth 100000 in
set_option maxHeartbeats 1000000 in
theorem refput_four (r : Int) (w : World) (h : 65536 ≤ r) (h' : r < 1114112) (hz : uSizeI r = 4) :
    Calls Try.prog 12 #[.int .i64 r] w (PutIs r w) := by
  have hcv : ∀ a b c d : Int, (convert 43 9 (.slice (some ⟨w.heap.size, 0, none⟩) 4 4)).run Try.prog (w.alloc (.cells #[.int .u8 a, .int .u8 b, .int .u8 c, .int .u8 d] 5)) = .ok (.string (strOfNums [a, b, c, d])) (w.alloc (.cells #[.int .u8 a, .int .u8 b, .int .u8 c, .int .u8 d] 5)) := fun a b c d =>
    conv_lit _ _ 4 [a, b, c, d] rfl (by intro i hi; match i, hi with | 0, _ => simp | 1, _ => simp | 2, _ => simp | 3, _ => simp)
  have hb : Hid (decide (uSizeI r ≠ 0) = true) := Lib.hid (by rw [hz]; rfl)
  have hl : Hid (strOfNums [240 + r / 262144, 128 + r / 4096 % 64, 128 + r / 64 % 64, 128 + r % 64] = txt (uPutI r)) := Lib.hid (by
    obtain ⟨m, rfl⟩ : ∃ m : Nat, r = (m : Int) := ⟨r.toNat, by omega⟩
    rw [uSizeI_nat] at hz
    have hz' : uSize m = 4 := by omega
    have e : uPutI (m : Int) = [240 + m / 262144, 128 + m / 4096 % 64, 128 + m / 64 % 64, 128 + m % 64] := by
      unfold uPutI; rw [if_neg (by omega), Int.toNat_natCast]; unfold uPut; rw [hz']; rfl
    rw [e]
    rfl)
  clear hz
  go_enter Try.func12, Try.ntmps12
  go_wp2
  go_ret2
  exact ⟨by rw [hb.out, ← hl.out]; rfl, (Below.refl _ w).alloc (Nat.le_refl _) _⟩
theorem refput_any (r : Int) (w : World) : Calls Try.prog 12 #[.int .i64 r] w (PutIs r w) := by
  by_cases h0 : r < 0
  · exact refput_none r w (by unfold uSizeI; rw [if_pos h0]) (.inl h0)
  · obtain ⟨m, rfl⟩ : ∃ m : Nat, r = (m : Int) := ⟨r.toNat, by omega⟩
    by_cases h : uSize m = 0
    · exact refput_none _ w (by rw [uSizeI_nat, h]; rfl) (by
        unfold uSize at h
        (repeat' split at h) <;> omega)
    · have hne : (m : Int) < 55296 ∨ 57343 < (m : Int) := by
        by_cases hc : 1114111 < m ∨ 55296 ≤ m ∧ m ≤ 57343
        · exact absurd (by unfold uSize; rw [if_pos hc]) h
        · omega
      rcases uSize_cases m h with ⟨h1, h2⟩ | ⟨h1, h1', h2⟩ | ⟨h1, h1', h2⟩ | ⟨h1, h1', h2⟩
      · exact refput_one _ w (by omega) (by omega) (by rw [uSizeI_nat, h2]; rfl)
      · exact refput_two _ w (by omega) (by omega) (by rw [uSizeI_nat, h2]; rfl)
      · exact refput_three _ w (by omega) (by omega) hne (by rw [uSizeI_nat, h2]; rfl)
      · exact refput_four _ w (by omega) (by omega) (by rw [uSizeI_nat, h2]; rfl)
end Go.Proofs.Yticmgbbenjgpeaa
