/-
  Law 7: references by name.
-/
import Derived.Test.YtkebjllehegjlaaGreatDoorXi
namespace Go.Proofs.YtkebjllehegjlaaGreatDoor
open Go.RowKit Go.Shelf
set_option linter.unusedVariables false
set_option maxRecDepth 100000 in
set_option maxHeartbeats 4000000 in
theorem reference_lt {w W : World} {b k i : Nat} {s : ByteArray} {tk : Value} {x : Int} (h : Cu w b s k tk x W) (hk : k + 1 ≤ s.size) (hs : s.size ≤ 1000000) (hidx : Lib.indexByte (s.extract (k + 1) s.size).data.toList 59 = (i : Int)) (hi : i < (s.extract (k + 1) s.size).size)
    (hw : (s.extract (k + 1) s.size).extract 0 i = ⟨#[108, 116]⟩) :
    Calls Tryz.prog 33 #[.pointer (some ⟨b, 0, none⟩)] W fun e w' => e = .returned (.tuple #[.string ⟨#[60]⟩, .bool true]) ∧ Cu w b s (k + 1 + (i + 1)) tk x w' := by
  have hRs : (s.extract (k + 1) s.size).size ≤ 1000000 := by rw [ByteArray.size_extract]; omega
  have hA : ((s.extract (k + 1) s.size).extract 0 i).size = i := by rw [ByteArray.size_extract]; omega
  have HU : Hid (∀ W', Cu w b s (k + 1) tk x W' → Calls Tryz.prog 36 #[.pointer (some ⟨b, 0, none⟩), .string ⟨#[59]⟩] W' fun e w' => e = .returned (.tuple #[.string ((s.extract (k + 1) s.size).extract 0 i), .bool true]) ∧ Cu w b s (k + 1 + (i + 1)) tk x w') := Lib.hid (fun W' h' => by
    have h2 := until_any h' hk ⟨#[59]⟩ _ _ true hs (by decide) (by rw [hA]; omega) (fun W => cut1_any _ 59 i hidx hi hRs W)
    rw [if_pos rfl, hA] at h2
    exact h2)
  rw [hw] at HU
  have f_lt : ((⟨#[108, 116]⟩ : ByteArray).toList == (⟨#[108, 116]⟩ : ByteArray).toList) = true := by rw [show (⟨#[108, 116]⟩ : ByteArray).toList = [108, 116] from toList_lit [108, 116]]; decide
  have e_lt : ((⟨#[108, 116]⟩ : ByteArray).toList == [108, 116]) = true := by rw [show (⟨#[108, 116]⟩ : ByteArray).toList = [108, 116] from toList_lit [108, 116]]; decide
  have f_gt : ((⟨#[108, 116]⟩ : ByteArray).toList == (⟨#[103, 116]⟩ : ByteArray).toList) = false := by rw [show (⟨#[108, 116]⟩ : ByteArray).toList = [108, 116] from toList_lit [108, 116], show (⟨#[103, 116]⟩ : ByteArray).toList = [103, 116] from toList_lit [103, 116]]; decide
  have e_gt : ((⟨#[108, 116]⟩ : ByteArray).toList == [103, 116]) = false := by rw [show (⟨#[108, 116]⟩ : ByteArray).toList = [108, 116] from toList_lit [108, 116]]; decide
  have f_amp : ((⟨#[108, 116]⟩ : ByteArray).toList == (⟨#[97, 109, 112]⟩ : ByteArray).toList) = false := by rw [show (⟨#[108, 116]⟩ : ByteArray).toList = [108, 116] from toList_lit [108, 116], show (⟨#[97, 109, 112]⟩ : ByteArray).toList = [97, 109, 112] from toList_lit [97, 109, 112]]; decide
  have e_amp : ((⟨#[108, 116]⟩ : ByteArray).toList == [97, 109, 112]) = false := by rw [show (⟨#[108, 116]⟩ : ByteArray).toList = [108, 116] from toList_lit [108, 116]]; decide
  have f_apos : ((⟨#[108, 116]⟩ : ByteArray).toList == (⟨#[97, 112, 111, 115]⟩ : ByteArray).toList) = false := by rw [show (⟨#[108, 116]⟩ : ByteArray).toList = [108, 116] from toList_lit [108, 116], show (⟨#[97, 112, 111, 115]⟩ : ByteArray).toList = [97, 112, 111, 115] from toList_lit [97, 112, 111, 115]]; decide
  have e_apos : ((⟨#[108, 116]⟩ : ByteArray).toList == [97, 112, 111, 115]) = false := by rw [show (⟨#[108, 116]⟩ : ByteArray).toList = [108, 116] from toList_lit [108, 116]]; decide
  have f_quot : ((⟨#[108, 116]⟩ : ByteArray).toList == (⟨#[113, 117, 111, 116]⟩ : ByteArray).toList) = false := by rw [show (⟨#[108, 116]⟩ : ByteArray).toList = [108, 116] from toList_lit [108, 116], show (⟨#[113, 117, 111, 116]⟩ : ByteArray).toList = [113, 117, 111, 116] from toList_lit [113, 117, 111, 116]]; decide
  have e_quot : ((⟨#[108, 116]⟩ : ByteArray).toList == [113, 117, 111, 116]) = false := by rw [show (⟨#[108, 116]⟩ : ByteArray).toList = [108, 116] from toList_lit [108, 116]]; decide
  have H := Lib.hid h
  have c1 := h.c1; have f1 := h.f 1
  have K1 := Lib.hid (h.at_ (k + 1))
  rw [show ((k + 1 : Nat) : Int) = (k : Int) + 1 by omega] at K1
  have hk6 : k ≤ 1000000 := by omega
  clear h hk hs hidx hi hRs hA hw
  go_enter Tryz.func33, Tryz.ntmps33
  go_wp2_with fail
  refine (HU.out _ K1.out).mono ?_
  rintro e w1 ⟨rfl, h⟩
  have K2 := Lib.hid h
  clear h
  go_wp2_with fail
  go_ret2
  exact ⟨rfl, K2.out⟩
set_option maxRecDepth 100000 in
set_option maxHeartbeats 4000000 in
theorem reference_gt {w W : World} {b k i : Nat} {s : ByteArray} {tk : Value} {x : Int} (h : Cu w b s k tk x W) (hk : k + 1 ≤ s.size) (hs : s.size ≤ 1000000) (hidx : Lib.indexByte (s.extract (k + 1) s.size).data.toList 59 = (i : Int)) (hi : i < (s.extract (k + 1) s.size).size)
    (hw : (s.extract (k + 1) s.size).extract 0 i = ⟨#[103, 116]⟩) :
    Calls Tryz.prog 33 #[.pointer (some ⟨b, 0, none⟩)] W fun e w' => e = .returned (.tuple #[.string ⟨#[62]⟩, .bool true]) ∧ Cu w b s (k + 1 + (i + 1)) tk x w' := by
  have hRs : (s.extract (k + 1) s.size).size ≤ 1000000 := by rw [ByteArray.size_extract]; omega
  have hA : ((s.extract (k + 1) s.size).extract 0 i).size = i := by rw [ByteArray.size_extract]; omega
  have HU : Hid (∀ W', Cu w b s (k + 1) tk x W' → Calls Tryz.prog 36 #[.pointer (some ⟨b, 0, none⟩), .string ⟨#[59]⟩] W' fun e w' => e = .returned (.tuple #[.string ((s.extract (k + 1) s.size).extract 0 i), .bool true]) ∧ Cu w b s (k + 1 + (i + 1)) tk x w') := Lib.hid (fun W' h' => by
    have h2 := until_any h' hk ⟨#[59]⟩ _ _ true hs (by decide) (by rw [hA]; omega) (fun W => cut1_any _ 59 i hidx hi hRs W)
    rw [if_pos rfl, hA] at h2
    exact h2)
  rw [hw] at HU
  have f_lt : ((⟨#[103, 116]⟩ : ByteArray).toList == (⟨#[108, 116]⟩ : ByteArray).toList) = false := by rw [show (⟨#[103, 116]⟩ : ByteArray).toList = [103, 116] from toList_lit [103, 116], show (⟨#[108, 116]⟩ : ByteArray).toList = [108, 116] from toList_lit [108, 116]]; decide
  have e_lt : ((⟨#[103, 116]⟩ : ByteArray).toList == [108, 116]) = false := by rw [show (⟨#[103, 116]⟩ : ByteArray).toList = [103, 116] from toList_lit [103, 116]]; decide
  have f_gt : ((⟨#[103, 116]⟩ : ByteArray).toList == (⟨#[103, 116]⟩ : ByteArray).toList) = true := by rw [show (⟨#[103, 116]⟩ : ByteArray).toList = [103, 116] from toList_lit [103, 116]]; decide
  have e_gt : ((⟨#[103, 116]⟩ : ByteArray).toList == [103, 116]) = true := by rw [show (⟨#[103, 116]⟩ : ByteArray).toList = [103, 116] from toList_lit [103, 116]]; decide
  have f_amp : ((⟨#[103, 116]⟩ : ByteArray).toList == (⟨#[97, 109, 112]⟩ : ByteArray).toList) = false := by rw [show (⟨#[103, 116]⟩ : ByteArray).toList = [103, 116] from toList_lit [103, 116], show (⟨#[97, 109, 112]⟩ : ByteArray).toList = [97, 109, 112] from toList_lit [97, 109, 112]]; decide
  have e_amp : ((⟨#[103, 116]⟩ : ByteArray).toList == [97, 109, 112]) = false := by rw [show (⟨#[103, 116]⟩ : ByteArray).toList = [103, 116] from toList_lit [103, 116]]; decide
  have f_apos : ((⟨#[103, 116]⟩ : ByteArray).toList == (⟨#[97, 112, 111, 115]⟩ : ByteArray).toList) = false := by rw [show (⟨#[103, 116]⟩ : ByteArray).toList = [103, 116] from toList_lit [103, 116], show (⟨#[97, 112, 111, 115]⟩ : ByteArray).toList = [97, 112, 111, 115] from toList_lit [97, 112, 111, 115]]; decide
  have e_apos : ((⟨#[103, 116]⟩ : ByteArray).toList == [97, 112, 111, 115]) = false := by rw [show (⟨#[103, 116]⟩ : ByteArray).toList = [103, 116] from toList_lit [103, 116]]; decide
  have f_quot : ((⟨#[103, 116]⟩ : ByteArray).toList == (⟨#[113, 117, 111, 116]⟩ : ByteArray).toList) = false := by rw [show (⟨#[103, 116]⟩ : ByteArray).toList = [103, 116] from toList_lit [103, 116], show (⟨#[113, 117, 111, 116]⟩ : ByteArray).toList = [113, 117, 111, 116] from toList_lit [113, 117, 111, 116]]; decide
  have e_quot : ((⟨#[103, 116]⟩ : ByteArray).toList == [113, 117, 111, 116]) = false := by rw [show (⟨#[103, 116]⟩ : ByteArray).toList = [103, 116] from toList_lit [103, 116]]; decide
  have H := Lib.hid h
  have c1 := h.c1; have f1 := h.f 1
  have K1 := Lib.hid (h.at_ (k + 1))
  rw [show ((k + 1 : Nat) : Int) = (k : Int) + 1 by omega] at K1
  have hk6 : k ≤ 1000000 := by omega
  clear h hk hs hidx hi hRs hA hw
  go_enter Tryz.func33, Tryz.ntmps33
  go_wp2_with fail
  refine (HU.out _ K1.out).mono ?_
  rintro e w1 ⟨rfl, h⟩
  have K2 := Lib.hid h
  clear h
  go_wp2_with fail
  go_ret2
  exact ⟨rfl, K2.out⟩
set_option maxRecDepth 100000 in
set_option maxHeartbeats 4000000 in
theorem reference_amp {w W : World} {b k i : Nat} {s : ByteArray} {tk : Value} {x : Int} (h : Cu w b s k tk x W) (hk : k + 1 ≤ s.size) (hs : s.size ≤ 1000000) (hidx : Lib.indexByte (s.extract (k + 1) s.size).data.toList 59 = (i : Int)) (hi : i < (s.extract (k + 1) s.size).size)
    (hw : (s.extract (k + 1) s.size).extract 0 i = ⟨#[97, 109, 112]⟩) :
    Calls Tryz.prog 33 #[.pointer (some ⟨b, 0, none⟩)] W fun e w' => e = .returned (.tuple #[.string ⟨#[38]⟩, .bool true]) ∧ Cu w b s (k + 1 + (i + 1)) tk x w' := by
  have hRs : (s.extract (k + 1) s.size).size ≤ 1000000 := by rw [ByteArray.size_extract]; omega
  have hA : ((s.extract (k + 1) s.size).extract 0 i).size = i := by rw [ByteArray.size_extract]; omega
  have HU : Hid (∀ W', Cu w b s (k + 1) tk x W' → Calls Tryz.prog 36 #[.pointer (some ⟨b, 0, none⟩), .string ⟨#[59]⟩] W' fun e w' => e = .returned (.tuple #[.string ((s.extract (k + 1) s.size).extract 0 i), .bool true]) ∧ Cu w b s (k + 1 + (i + 1)) tk x w') := Lib.hid (fun W' h' => by
    have h2 := until_any h' hk ⟨#[59]⟩ _ _ true hs (by decide) (by rw [hA]; omega) (fun W => cut1_any _ 59 i hidx hi hRs W)
    rw [if_pos rfl, hA] at h2
    exact h2)
  rw [hw] at HU
  have f_lt : ((⟨#[97, 109, 112]⟩ : ByteArray).toList == (⟨#[108, 116]⟩ : ByteArray).toList) = false := by rw [show (⟨#[97, 109, 112]⟩ : ByteArray).toList = [97, 109, 112] from toList_lit [97, 109, 112], show (⟨#[108, 116]⟩ : ByteArray).toList = [108, 116] from toList_lit [108, 116]]; decide
  have e_lt : ((⟨#[97, 109, 112]⟩ : ByteArray).toList == [108, 116]) = false := by rw [show (⟨#[97, 109, 112]⟩ : ByteArray).toList = [97, 109, 112] from toList_lit [97, 109, 112]]; decide
  have f_gt : ((⟨#[97, 109, 112]⟩ : ByteArray).toList == (⟨#[103, 116]⟩ : ByteArray).toList) = false := by rw [show (⟨#[97, 109, 112]⟩ : ByteArray).toList = [97, 109, 112] from toList_lit [97, 109, 112], show (⟨#[103, 116]⟩ : ByteArray).toList = [103, 116] from toList_lit [103, 116]]; decide
  have e_gt : ((⟨#[97, 109, 112]⟩ : ByteArray).toList == [103, 116]) = false := by rw [show (⟨#[97, 109, 112]⟩ : ByteArray).toList = [97, 109, 112] from toList_lit [97, 109, 112]]; decide
  have f_amp : ((⟨#[97, 109, 112]⟩ : ByteArray).toList == (⟨#[97, 109, 112]⟩ : ByteArray).toList) = true := by rw [show (⟨#[97, 109, 112]⟩ : ByteArray).toList = [97, 109, 112] from toList_lit [97, 109, 112]]; decide
  have e_amp : ((⟨#[97, 109, 112]⟩ : ByteArray).toList == [97, 109, 112]) = true := by rw [show (⟨#[97, 109, 112]⟩ : ByteArray).toList = [97, 109, 112] from toList_lit [97, 109, 112]]; decide
  have f_apos : ((⟨#[97, 109, 112]⟩ : ByteArray).toList == (⟨#[97, 112, 111, 115]⟩ : ByteArray).toList) = false := by rw [show (⟨#[97, 109, 112]⟩ : ByteArray).toList = [97, 109, 112] from toList_lit [97, 109, 112], show (⟨#[97, 112, 111, 115]⟩ : ByteArray).toList = [97, 112, 111, 115] from toList_lit [97, 112, 111, 115]]; decide
  have e_apos : ((⟨#[97, 109, 112]⟩ : ByteArray).toList == [97, 112, 111, 115]) = false := by rw [show (⟨#[97, 109, 112]⟩ : ByteArray).toList = [97, 109, 112] from toList_lit [97, 109, 112]]; decide
  have f_quot : ((⟨#[97, 109, 112]⟩ : ByteArray).toList == (⟨#[113, 117, 111, 116]⟩ : ByteArray).toList) = false := by rw [show (⟨#[97, 109, 112]⟩ : ByteArray).toList = [97, 109, 112] from toList_lit [97, 109, 112], show (⟨#[113, 117, 111, 116]⟩ : ByteArray).toList = [113, 117, 111, 116] from toList_lit [113, 117, 111, 116]]; decide
  have e_quot : ((⟨#[97, 109, 112]⟩ : ByteArray).toList == [113, 117, 111, 116]) = false := by rw [show (⟨#[97, 109, 112]⟩ : ByteArray).toList = [97, 109, 112] from toList_lit [97, 109, 112]]; decide
  have H := Lib.hid h
  have c1 := h.c1; have f1 := h.f 1
  have K1 := Lib.hid (h.at_ (k + 1))
  rw [show ((k + 1 : Nat) : Int) = (k : Int) + 1 by omega] at K1
  have hk6 : k ≤ 1000000 := by omega
  clear h hk hs hidx hi hRs hA hw
  go_enter Tryz.func33, Tryz.ntmps33
  go_wp2_with fail
  refine (HU.out _ K1.out).mono ?_
  rintro e w1 ⟨rfl, h⟩
  have K2 := Lib.hid h
  clear h
  go_wp2_with fail
  go_ret2
  exact ⟨rfl, K2.out⟩
set_option maxRecDepth 100000 in
set_option maxHeartbeats 4000000 in
theorem reference_apos {w W : World} {b k i : Nat} {s : ByteArray} {tk : Value} {x : Int} (h : Cu w b s k tk x W) (hk : k + 1 ≤ s.size) (hs : s.size ≤ 1000000) (hidx : Lib.indexByte (s.extract (k + 1) s.size).data.toList 59 = (i : Int)) (hi : i < (s.extract (k + 1) s.size).size)
    (hw : (s.extract (k + 1) s.size).extract 0 i = ⟨#[97, 112, 111, 115]⟩) :
    Calls Tryz.prog 33 #[.pointer (some ⟨b, 0, none⟩)] W fun e w' => e = .returned (.tuple #[.string ⟨#[39]⟩, .bool true]) ∧ Cu w b s (k + 1 + (i + 1)) tk x w' := by
  have hRs : (s.extract (k + 1) s.size).size ≤ 1000000 := by rw [ByteArray.size_extract]; omega
  have hA : ((s.extract (k + 1) s.size).extract 0 i).size = i := by rw [ByteArray.size_extract]; omega
  have HU : Hid (∀ W', Cu w b s (k + 1) tk x W' → Calls Tryz.prog 36 #[.pointer (some ⟨b, 0, none⟩), .string ⟨#[59]⟩] W' fun e w' => e = .returned (.tuple #[.string ((s.extract (k + 1) s.size).extract 0 i), .bool true]) ∧ Cu w b s (k + 1 + (i + 1)) tk x w') := Lib.hid (fun W' h' => by
    have h2 := until_any h' hk ⟨#[59]⟩ _ _ true hs (by decide) (by rw [hA]; omega) (fun W => cut1_any _ 59 i hidx hi hRs W)
    rw [if_pos rfl, hA] at h2
    exact h2)
  rw [hw] at HU
  have f_lt : ((⟨#[97, 112, 111, 115]⟩ : ByteArray).toList == (⟨#[108, 116]⟩ : ByteArray).toList) = false := by rw [show (⟨#[97, 112, 111, 115]⟩ : ByteArray).toList = [97, 112, 111, 115] from toList_lit [97, 112, 111, 115], show (⟨#[108, 116]⟩ : ByteArray).toList = [108, 116] from toList_lit [108, 116]]; decide
  have e_lt : ((⟨#[97, 112, 111, 115]⟩ : ByteArray).toList == [108, 116]) = false := by rw [show (⟨#[97, 112, 111, 115]⟩ : ByteArray).toList = [97, 112, 111, 115] from toList_lit [97, 112, 111, 115]]; decide
  have f_gt : ((⟨#[97, 112, 111, 115]⟩ : ByteArray).toList == (⟨#[103, 116]⟩ : ByteArray).toList) = false := by rw [show (⟨#[97, 112, 111, 115]⟩ : ByteArray).toList = [97, 112, 111, 115] from toList_lit [97, 112, 111, 115], show (⟨#[103, 116]⟩ : ByteArray).toList = [103, 116] from toList_lit [103, 116]]; decide
  have e_gt : ((⟨#[97, 112, 111, 115]⟩ : ByteArray).toList == [103, 116]) = false := by rw [show (⟨#[97, 112, 111, 115]⟩ : ByteArray).toList = [97, 112, 111, 115] from toList_lit [97, 112, 111, 115]]; decide
  have f_amp : ((⟨#[97, 112, 111, 115]⟩ : ByteArray).toList == (⟨#[97, 109, 112]⟩ : ByteArray).toList) = false := by rw [show (⟨#[97, 112, 111, 115]⟩ : ByteArray).toList = [97, 112, 111, 115] from toList_lit [97, 112, 111, 115], show (⟨#[97, 109, 112]⟩ : ByteArray).toList = [97, 109, 112] from toList_lit [97, 109, 112]]; decide
  have e_amp : ((⟨#[97, 112, 111, 115]⟩ : ByteArray).toList == [97, 109, 112]) = false := by rw [show (⟨#[97, 112, 111, 115]⟩ : ByteArray).toList = [97, 112, 111, 115] from toList_lit [97, 112, 111, 115]]; decide
  have f_apos : ((⟨#[97, 112, 111, 115]⟩ : ByteArray).toList == (⟨#[97, 112, 111, 115]⟩ : ByteArray).toList) = true := by rw [show (⟨#[97, 112, 111, 115]⟩ : ByteArray).toList = [97, 112, 111, 115] from toList_lit [97, 112, 111, 115]]; decide
  have e_apos : ((⟨#[97, 112, 111, 115]⟩ : ByteArray).toList == [97, 112, 111, 115]) = true := by rw [show (⟨#[97, 112, 111, 115]⟩ : ByteArray).toList = [97, 112, 111, 115] from toList_lit [97, 112, 111, 115]]; decide
  have f_quot : ((⟨#[97, 112, 111, 115]⟩ : ByteArray).toList == (⟨#[113, 117, 111, 116]⟩ : ByteArray).toList) = false := by rw [show (⟨#[97, 112, 111, 115]⟩ : ByteArray).toList = [97, 112, 111, 115] from toList_lit [97, 112, 111, 115], show (⟨#[113, 117, 111, 116]⟩ : ByteArray).toList = [113, 117, 111, 116] from toList_lit [113, 117, 111, 116]]; decide
  have e_quot : ((⟨#[97, 112, 111, 115]⟩ : ByteArray).toList == [113, 117, 111, 116]) = false := by rw [show (⟨#[97, 112, 111, 115]⟩ : ByteArray).toList = [97, 112, 111, 115] from toList_lit [97, 112, 111, 115]]; decide
  have H := Lib.hid h
  have c1 := h.c1; have f1 := h.f 1
  have K1 := Lib.hid (h.at_ (k + 1))
  rw [show ((k + 1 : Nat) : Int) = (k : Int) + 1 by omega] at K1
  have hk6 : k ≤ 1000000 := by omega
  clear h hk hs hidx hi hRs hA hw
  go_enter Tryz.func33, Tryz.ntmps33
  go_wp2_with fail
  refine (HU.out _ K1.out).mono ?_
  rintro e w1 ⟨rfl, h⟩
  have K2 := Lib.hid h
  clear h
  go_wp2_with fail
  go_ret2
  exact ⟨rfl, K2.out⟩
set_option maxRecDepth 100000 in
set_option maxHeartbeats 4000000 in
theorem reference_quot {w W : World} {b k i : Nat} {s : ByteArray} {tk : Value} {x : Int} (h : Cu w b s k tk x W) (hk : k + 1 ≤ s.size) (hs : s.size ≤ 1000000) (hidx : Lib.indexByte (s.extract (k + 1) s.size).data.toList 59 = (i : Int)) (hi : i < (s.extract (k + 1) s.size).size)
    (hw : (s.extract (k + 1) s.size).extract 0 i = ⟨#[113, 117, 111, 116]⟩) :
    Calls Tryz.prog 33 #[.pointer (some ⟨b, 0, none⟩)] W fun e w' => e = .returned (.tuple #[.string ⟨#[34]⟩, .bool true]) ∧ Cu w b s (k + 1 + (i + 1)) tk x w' := by
  have hRs : (s.extract (k + 1) s.size).size ≤ 1000000 := by rw [ByteArray.size_extract]; omega
  have hA : ((s.extract (k + 1) s.size).extract 0 i).size = i := by rw [ByteArray.size_extract]; omega
  have HU : Hid (∀ W', Cu w b s (k + 1) tk x W' → Calls Tryz.prog 36 #[.pointer (some ⟨b, 0, none⟩), .string ⟨#[59]⟩] W' fun e w' => e = .returned (.tuple #[.string ((s.extract (k + 1) s.size).extract 0 i), .bool true]) ∧ Cu w b s (k + 1 + (i + 1)) tk x w') := Lib.hid (fun W' h' => by
    have h2 := until_any h' hk ⟨#[59]⟩ _ _ true hs (by decide) (by rw [hA]; omega) (fun W => cut1_any _ 59 i hidx hi hRs W)
    rw [if_pos rfl, hA] at h2
    exact h2)
  rw [hw] at HU
  have f_lt : ((⟨#[113, 117, 111, 116]⟩ : ByteArray).toList == (⟨#[108, 116]⟩ : ByteArray).toList) = false := by rw [show (⟨#[113, 117, 111, 116]⟩ : ByteArray).toList = [113, 117, 111, 116] from toList_lit [113, 117, 111, 116], show (⟨#[108, 116]⟩ : ByteArray).toList = [108, 116] from toList_lit [108, 116]]; decide
  have e_lt : ((⟨#[113, 117, 111, 116]⟩ : ByteArray).toList == [108, 116]) = false := by rw [show (⟨#[113, 117, 111, 116]⟩ : ByteArray).toList = [113, 117, 111, 116] from toList_lit [113, 117, 111, 116]]; decide
  have f_gt : ((⟨#[113, 117, 111, 116]⟩ : ByteArray).toList == (⟨#[103, 116]⟩ : ByteArray).toList) = false := by rw [show (⟨#[113, 117, 111, 116]⟩ : ByteArray).toList = [113, 117, 111, 116] from toList_lit [113, 117, 111, 116], show (⟨#[103, 116]⟩ : ByteArray).toList = [103, 116] from toList_lit [103, 116]]; decide
  have e_gt : ((⟨#[113, 117, 111, 116]⟩ : ByteArray).toList == [103, 116]) = false := by rw [show (⟨#[113, 117, 111, 116]⟩ : ByteArray).toList = [113, 117, 111, 116] from toList_lit [113, 117, 111, 116]]; decide
  have f_amp : ((⟨#[113, 117, 111, 116]⟩ : ByteArray).toList == (⟨#[97, 109, 112]⟩ : ByteArray).toList) = false := by rw [show (⟨#[113, 117, 111, 116]⟩ : ByteArray).toList = [113, 117, 111, 116] from toList_lit [113, 117, 111, 116], show (⟨#[97, 109, 112]⟩ : ByteArray).toList = [97, 109, 112] from toList_lit [97, 109, 112]]; decide
  have e_amp : ((⟨#[113, 117, 111, 116]⟩ : ByteArray).toList == [97, 109, 112]) = false := by rw [show (⟨#[113, 117, 111, 116]⟩ : ByteArray).toList = [113, 117, 111, 116] from toList_lit [113, 117, 111, 116]]; decide
  have f_apos : ((⟨#[113, 117, 111, 116]⟩ : ByteArray).toList == (⟨#[97, 112, 111, 115]⟩ : ByteArray).toList) = false := by rw [show (⟨#[113, 117, 111, 116]⟩ : ByteArray).toList = [113, 117, 111, 116] from toList_lit [113, 117, 111, 116], show (⟨#[97, 112, 111, 115]⟩ : ByteArray).toList = [97, 112, 111, 115] from toList_lit [97, 112, 111, 115]]; decide
  have e_apos : ((⟨#[113, 117, 111, 116]⟩ : ByteArray).toList == [97, 112, 111, 115]) = false := by rw [show (⟨#[113, 117, 111, 116]⟩ : ByteArray).toList = [113, 117, 111, 116] from toList_lit [113, 117, 111, 116]]; decide
  have f_quot : ((⟨#[113, 117, 111, 116]⟩ : ByteArray).toList == (⟨#[113, 117, 111, 116]⟩ : ByteArray).toList) = true := by rw [show (⟨#[113, 117, 111, 116]⟩ : ByteArray).toList = [113, 117, 111, 116] from toList_lit [113, 117, 111, 116]]; decide
  have e_quot : ((⟨#[113, 117, 111, 116]⟩ : ByteArray).toList == [113, 117, 111, 116]) = true := by rw [show (⟨#[113, 117, 111, 116]⟩ : ByteArray).toList = [113, 117, 111, 116] from toList_lit [113, 117, 111, 116]]; decide
  have H := Lib.hid h
  have c1 := h.c1; have f1 := h.f 1
  have K1 := Lib.hid (h.at_ (k + 1))
  rw [show ((k + 1 : Nat) : Int) = (k : Int) + 1 by omega] at K1
  have hk6 : k ≤ 1000000 := by omega
  clear h hk hs hidx hi hRs hA hw
  go_enter Tryz.func33, Tryz.ntmps33
  go_wp2_with fail
  refine (HU.out _ K1.out).mono ?_
  rintro e w1 ⟨rfl, h⟩
  have K2 := Lib.hid h
  clear h
  go_wp2_with fail
  go_ret2
  exact ⟨rfl, K2.out⟩
end Go.Proofs.YtkebjllehegjlaaGreatDoor
