/-
  Law 7: a reference.
-/
import Derived.Test.YtkebjllehegjlaaGreatDoorXc
import Derived.Test.YtkebjllehegjlaaGreatDoorXh
namespace Go.Proofs.YtkebjllehegjlaaGreatDoor
open Go.RowKit Go.Shelf
set_option linter.unusedVariables false
theorem toList_lit (l : List UInt8) : (⟨l.toArray⟩ : ByteArray).toList = l := by
  rw [ByteArray.toList_eq]
set_option maxRecDepth 100000 in
set_option maxHeartbeats 4000000 in
/-- A reference by what no name stands for: what numbered tells is handed in. -/
theorem reference_yes {w W : World} {b k i : Nat} {s : ByteArray} {tk : Value} {x : Int} (h : Cu w b s k tk x W) (hk : k + 1 ≤ s.size) (hs : s.size ≤ 1000000) (hidx : Lib.indexByte (s.extract (k + 1) s.size).data.toList 59 = (i : Int)) (hi : i < (s.extract (k + 1) s.size).size)
    (n_lt : ((s.extract (k + 1) s.size).extract 0 i).toList = [108, 116] → False)
    (n_gt : ((s.extract (k + 1) s.size).extract 0 i).toList = [103, 116] → False)
    (n_amp : ((s.extract (k + 1) s.size).extract 0 i).toList = [97, 109, 112] → False)
    (n_apos : ((s.extract (k + 1) s.size).extract 0 i).toList = [97, 112, 111, 115] → False)
    (n_quot : ((s.extract (k + 1) s.size).extract 0 i).toList = [113, 117, 111, 116] → False)
    (T : ByteArray) (HN : ∀ W, Calls Tryz.prog 44 #[.string ((s.extract (k + 1) s.size).extract 0 i)] W fun e w' => e = .returned (.tuple #[.string T, .bool true]) ∧ Below W.heap.size W w') :
    Calls Tryz.prog 33 #[.pointer (some ⟨b, 0, none⟩)] W fun e w' => e = .returned (.tuple #[.string T, .bool true]) ∧ Cu w b s (k + 1 + (i + 1)) tk x w' := by
  have hRs : (s.extract (k + 1) s.size).size ≤ 1000000 := by rw [ByteArray.size_extract]; omega
  have hA : ((s.extract (k + 1) s.size).extract 0 i).size = i := by rw [ByteArray.size_extract]; omega
  have HU : Hid (∀ W', Cu w b s (k + 1) tk x W' → Calls Tryz.prog 36 #[.pointer (some ⟨b, 0, none⟩), .string ⟨#[59]⟩] W' fun e w' => e = .returned (.tuple #[.string ((s.extract (k + 1) s.size).extract 0 i), .bool true]) ∧ Cu w b s (k + 1 + (i + 1)) tk x w') := Lib.hid (fun W' h' => by
    have h2 := until_any h' hk ⟨#[59]⟩ _ _ true hs (by decide) (by rw [hA]; omega) (fun W => cut1_any _ 59 i hidx hi hRs W)
    rw [if_pos rfl, hA] at h2
    exact h2)
  have HN := Lib.hid HN
  obtain ⟨WD, hWD⟩ : ∃ D, (s.extract (k + 1) s.size).extract 0 i = D := ⟨_, rfl⟩
  simp only [hWD] at HU HN n_lt n_gt n_amp n_apos n_quot
  have e_lt : (WD.toList == [108, 116]) = false := by rw [beq_eq_false_iff_ne]; exact n_lt
  have e_gt : (WD.toList == [103, 116]) = false := by rw [beq_eq_false_iff_ne]; exact n_gt
  have e_amp : (WD.toList == [97, 109, 112]) = false := by rw [beq_eq_false_iff_ne]; exact n_amp
  have e_apos : (WD.toList == [97, 112, 111, 115]) = false := by rw [beq_eq_false_iff_ne]; exact n_apos
  have e_quot : (WD.toList == [113, 117, 111, 116]) = false := by rw [beq_eq_false_iff_ne]; exact n_quot
  have f_lt : (WD.toList == (⟨#[108, 116]⟩ : ByteArray).toList) = false := by rw [show (⟨#[108, 116]⟩ : ByteArray).toList = [108, 116] from toList_lit [108, 116]]; exact e_lt
  have f_gt : (WD.toList == (⟨#[103, 116]⟩ : ByteArray).toList) = false := by rw [show (⟨#[103, 116]⟩ : ByteArray).toList = [103, 116] from toList_lit [103, 116]]; exact e_gt
  have f_amp : (WD.toList == (⟨#[97, 109, 112]⟩ : ByteArray).toList) = false := by rw [show (⟨#[97, 109, 112]⟩ : ByteArray).toList = [97, 109, 112] from toList_lit [97, 109, 112]]; exact e_amp
  have f_apos : (WD.toList == (⟨#[97, 112, 111, 115]⟩ : ByteArray).toList) = false := by rw [show (⟨#[97, 112, 111, 115]⟩ : ByteArray).toList = [97, 112, 111, 115] from toList_lit [97, 112, 111, 115]]; exact e_apos
  have f_quot : (WD.toList == (⟨#[113, 117, 111, 116]⟩ : ByteArray).toList) = false := by rw [show (⟨#[113, 117, 111, 116]⟩ : ByteArray).toList = [113, 117, 111, 116] from toList_lit [113, 117, 111, 116]]; exact e_quot
  have H := Lib.hid h
  have c1 := h.c1; have f1 := h.f 1
  have K1 := Lib.hid (h.at_ (k + 1))
  rw [show ((k + 1 : Nat) : Int) = (k : Int) + 1 by omega] at K1
  have hk6 : k ≤ 1000000 := by omega
  clear h hk hs hidx hi hRs hA hWD n_lt n_gt n_amp n_apos n_quot
  go_enter Tryz.func33, Tryz.ntmps33
  go_wp2_with fail
  refine (HU.out _ K1.out).mono ?_
  rintro e w1 ⟨rfl, h⟩
  have K2 := Lib.hid h
  clear h
  go_wp2_with fail
  refine (HN.out _).mono ?_
  rintro e w2 ⟨rfl, hb⟩
  have K3 := Lib.hid (K2.out.below hb)
  clear hb
  go_wp2_with fail
  go_ret2
  exact ⟨rfl, K3.out⟩
set_option maxRecDepth 100000 in
set_option maxHeartbeats 4000000 in
/-- A reference by what no name stands for: what numbered tells is handed in. -/
theorem reference_no {w W : World} {b k i : Nat} {s : ByteArray} {tk : Value} {x : Int} (h : Cu w b s k tk x W) (hk : k + 1 ≤ s.size) (hs : s.size ≤ 1000000) (hidx : Lib.indexByte (s.extract (k + 1) s.size).data.toList 59 = (i : Int)) (hi : i < (s.extract (k + 1) s.size).size)
    (n_lt : ((s.extract (k + 1) s.size).extract 0 i).toList = [108, 116] → False)
    (n_gt : ((s.extract (k + 1) s.size).extract 0 i).toList = [103, 116] → False)
    (n_amp : ((s.extract (k + 1) s.size).extract 0 i).toList = [97, 109, 112] → False)
    (n_apos : ((s.extract (k + 1) s.size).extract 0 i).toList = [97, 112, 111, 115] → False)
    (n_quot : ((s.extract (k + 1) s.size).extract 0 i).toList = [113, 117, 111, 116] → False)
    (T : ByteArray) (HN : ∀ W, Calls Tryz.prog 44 #[.string ((s.extract (k + 1) s.size).extract 0 i)] W fun e w' => e = .returned (.tuple #[.string T, .bool false]) ∧ Below W.heap.size W w') :
    Calls Tryz.prog 33 #[.pointer (some ⟨b, 0, none⟩)] W fun e w' => e = .returned (.tuple #[.string ⟨#[]⟩, .bool false]) ∧ Cu w b s (k + 1 + (i + 1)) tk (k : Int) w' := by
  have hRs : (s.extract (k + 1) s.size).size ≤ 1000000 := by rw [ByteArray.size_extract]; omega
  have hA : ((s.extract (k + 1) s.size).extract 0 i).size = i := by rw [ByteArray.size_extract]; omega
  have HU : Hid (∀ W', Cu w b s (k + 1) tk x W' → Calls Tryz.prog 36 #[.pointer (some ⟨b, 0, none⟩), .string ⟨#[59]⟩] W' fun e w' => e = .returned (.tuple #[.string ((s.extract (k + 1) s.size).extract 0 i), .bool true]) ∧ Cu w b s (k + 1 + (i + 1)) tk x w') := Lib.hid (fun W' h' => by
    have h2 := until_any h' hk ⟨#[59]⟩ _ _ true hs (by decide) (by rw [hA]; omega) (fun W => cut1_any _ 59 i hidx hi hRs W)
    rw [if_pos rfl, hA] at h2
    exact h2)
  have HN := Lib.hid HN
  obtain ⟨WD, hWD⟩ : ∃ D, (s.extract (k + 1) s.size).extract 0 i = D := ⟨_, rfl⟩
  simp only [hWD] at HU HN n_lt n_gt n_amp n_apos n_quot
  have e_lt : (WD.toList == [108, 116]) = false := by rw [beq_eq_false_iff_ne]; exact n_lt
  have e_gt : (WD.toList == [103, 116]) = false := by rw [beq_eq_false_iff_ne]; exact n_gt
  have e_amp : (WD.toList == [97, 109, 112]) = false := by rw [beq_eq_false_iff_ne]; exact n_amp
  have e_apos : (WD.toList == [97, 112, 111, 115]) = false := by rw [beq_eq_false_iff_ne]; exact n_apos
  have e_quot : (WD.toList == [113, 117, 111, 116]) = false := by rw [beq_eq_false_iff_ne]; exact n_quot
  have f_lt : (WD.toList == (⟨#[108, 116]⟩ : ByteArray).toList) = false := by rw [show (⟨#[108, 116]⟩ : ByteArray).toList = [108, 116] from toList_lit [108, 116]]; exact e_lt
  have f_gt : (WD.toList == (⟨#[103, 116]⟩ : ByteArray).toList) = false := by rw [show (⟨#[103, 116]⟩ : ByteArray).toList = [103, 116] from toList_lit [103, 116]]; exact e_gt
  have f_amp : (WD.toList == (⟨#[97, 109, 112]⟩ : ByteArray).toList) = false := by rw [show (⟨#[97, 109, 112]⟩ : ByteArray).toList = [97, 109, 112] from toList_lit [97, 109, 112]]; exact e_amp
  have f_apos : (WD.toList == (⟨#[97, 112, 111, 115]⟩ : ByteArray).toList) = false := by rw [show (⟨#[97, 112, 111, 115]⟩ : ByteArray).toList = [97, 112, 111, 115] from toList_lit [97, 112, 111, 115]]; exact e_apos
  have f_quot : (WD.toList == (⟨#[113, 117, 111, 116]⟩ : ByteArray).toList) = false := by rw [show (⟨#[113, 117, 111, 116]⟩ : ByteArray).toList = [113, 117, 111, 116] from toList_lit [113, 117, 111, 116]]; exact e_quot
  have H := Lib.hid h
  have c1 := h.c1; have f1 := h.f 1
  have K1 := Lib.hid (h.at_ (k + 1))
  rw [show ((k + 1 : Nat) : Int) = (k : Int) + 1 by omega] at K1
  have hk6 : k ≤ 1000000 := by omega
  clear h hk hs hidx hi hRs hA hWD n_lt n_gt n_amp n_apos n_quot
  go_enter Tryz.func33, Tryz.ntmps33
  go_wp2_with fail
  refine (HU.out _ K1.out).mono ?_
  rintro e w1 ⟨rfl, h⟩
  have K2 := Lib.hid h
  clear h
  go_wp2_with fail
  refine (HN.out _).mono ?_
  rintro e w2 ⟨rfl, hb⟩
  have K3 := Lib.hid (K2.out.below hb)
  clear hb
  go_wp2_with fail
  refine (fail_any K3.out (k : Int)).mono ?_
  rintro e w3 ⟨rfl, h⟩
  have K4 := Lib.hid h
  clear h
  go_wp2_with fail
  go_ret2
  exact ⟨rfl, K4.out⟩
end Go.Proofs.YtkebjllehegjlaaGreatDoor
