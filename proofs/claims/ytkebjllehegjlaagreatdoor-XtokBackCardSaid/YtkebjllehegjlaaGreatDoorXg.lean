/-
  Law 7: texts that are cut at a byte, and behind their beginning.
-/
import Derived.Test.YtkebjllehegjlaaGreatDoorXb
import Derived.BigQuiet
namespace Go.Proofs.YtkebjllehegjlaaGreatDoor
open Go.RowKit Go.Shelf
set_option linter.unusedVariables false
set_option maxRecDepth 100000 in
set_option maxHeartbeats 2000000 in
theorem cut1_lite (s : ByteArray) (c : UInt8) (i : Nat) (hidx : Lib.indexByte s.data.toList c = (i : Int)) (hi : i < s.size) (hs : s.size ≤ 1000000) (w : World) :
    Calls Tryz.prog 55 #[.string s, .string ⟨#[c]⟩] w fun e w' => e = .returned (.tuple #[.string (s.extract 0 i), .string (s.extract (i + 1) s.size), .bool true]) ∧ Below w.heap.size w w' := by
  have HI := Lib.hid (Tryz.stringslite_Index_one s c w)
  rw [hidx] at HI
  obtain ⟨A, hA⟩ : ∃ A, s.extract 0 i = A := ⟨_, rfl⟩
  obtain ⟨U, hU⟩ : ∃ U, s.extract (i + 1) s.size = U := ⟨_, rfl⟩
  have H3 := Lib.hid hA; have H4 := Lib.hid hU
  rw [hA, hU]
  have hi6 : i ≤ 1000000 := by omega
  have c1 : (0 : Int) ≤ (i : Int) := by omega
  have c2 : (i : Int) ≤ (s.size : Int) := by omega
  have c3 : (0 : Int) ≤ (i : Int) + 1 := by omega
  have c4 : (i : Int) + 1 ≤ (s.size : Int) := by omega
  clear hidx hA hU hi
  go_enter Tryz.func55, Tryz.ntmps55
  go_wp2_with fail
  refine HI.out.mono ?_
  rintro e w2 ⟨rfl, rfl⟩
  go_wp2_with fail
  go_quiet (fail)
  go_wp2_with fail
  go_ret3
  exact ⟨by rw [← H3.out, ← H4.out]; rfl, ⟨rfl, rfl, rfl, Nat.le_refl _, fun _ _ => rfl⟩⟩
set_option maxRecDepth 100000 in
theorem cut1_any (s : ByteArray) (c : UInt8) (i : Nat) (hidx : Lib.indexByte s.data.toList c = (i : Int)) (hi : i < s.size) (hs : s.size ≤ 1000000) (w : World) :
    Calls Tryz.prog 45 #[.string s, .string ⟨#[c]⟩] w fun e w' => e = .returned (.tuple #[.string (s.extract 0 i), .string (s.extract (i + 1) s.size), .bool true]) ∧ Below w.heap.size w w' := by
  have HP := Lib.hid (cut1_lite s c i hidx hi hs w)
  obtain ⟨A, hA⟩ : ∃ A, s.extract 0 i = A := ⟨_, rfl⟩
  obtain ⟨U, hU⟩ : ∃ U, s.extract (i + 1) s.size = U := ⟨_, rfl⟩
  rw [hA, hU] at HP ⊢
  clear hA hU hidx hi hs
  go_enter Tryz.func45, Tryz.ntmps45
  go_wp2_with fail
  refine HP.out.mono ?_
  rintro e w2 ⟨rfl, hb⟩
  have HB := Lib.hid hb
  clear HP hb
  go_wp2_with fail
  go_ret3
  exact ⟨rfl, HB.out⟩
/-- What stands behind a beginning. -/
def bhd (s p : ByteArray) : ByteArray := if Lib.hasPrefix s.data.toList p.data.toList = true then s.extract p.size s.size else s
theorem hasPrefix_size {s p : ByteArray} (h : Lib.hasPrefix s.data.toList p.data.toList = true) : p.size ≤ s.size := by
  unfold Lib.hasPrefix at h
  have h1 := (List.isPrefixOf_iff_prefix.1 h).length_le
  have e1 : s.data.toList.length = s.size := by simp
  have e2 : p.data.toList.length = p.size := by simp
  omega
set_option maxRecDepth 100000 in
set_option maxHeartbeats 2000000 in
theorem cutp_lite (s p : ByteArray) (hs : s.size ≤ 1000000) (w : World) : Calls Tryz.prog 64 #[.string s, .string p] w fun e w' => e = .returned (.tuple #[.string (bhd s p), .bool (Lib.hasPrefix s.data.toList p.data.toList)]) ∧ w' = w := by
  have HP := Lib.hid (Tryz.stringslite_HasPrefix s p w)
  obtain ⟨z, hz⟩ : ∃ z, Lib.hasPrefix s.data.toList p.data.toList = z := ⟨_, rfl⟩
  rw [hz] at HP
  obtain ⟨B, hB⟩ : ∃ B, bhd s p = B := ⟨_, rfl⟩
  have hB' := hB
  unfold bhd at hB'
  rw [hz] at hB' ⊢
  rw [hB]
  cases z with
  | true =>
    have hs1 := hasPrefix_size hz
    rw [if_pos rfl] at hB'
    have HB := Lib.hid hB'
    obtain ⟨m, hm⟩ : ∃ m, p.size = m := ⟨_, rfl⟩
    have hmi : (p.size : Int) = (m : Int) := by rw [hm]
    rw [hm] at HB
    have c1 : (m : Int) ≤ (s.size : Int) := by omega
    clear hz hB hB' hm
    go_enter Tryz.func64, Tryz.ntmps64
    go_wp2_with fail
    refine HP.out.mono ?_
    rintro e w2 ⟨rfl, rfl⟩
    go_wp2_with fail
    go_ret2
    exact ⟨by rw [← HB.out]; rfl, rfl⟩
  | false =>
    rw [if_neg (by decide)] at hB'
    subst hB'
    clear hz hB
    go_enter Tryz.func64, Tryz.ntmps64
    go_wp2_with fail
    refine HP.out.mono ?_
    rintro e w2 ⟨rfl, rfl⟩
    go_wp2_with fail
    go_ret2
    exact ⟨rfl, rfl⟩
set_option maxRecDepth 100000 in
theorem cutp_any (s p : ByteArray) (hs : s.size ≤ 1000000) (w : World) : Calls Tryz.prog 52 #[.string s, .string p] w fun e w' => e = .returned (.tuple #[.string (bhd s p), .bool (Lib.hasPrefix s.data.toList p.data.toList)]) ∧ w' = w := by
  have HP := Lib.hid (cutp_lite s p hs w)
  obtain ⟨z, hz⟩ : ∃ z, Lib.hasPrefix s.data.toList p.data.toList = z := ⟨_, rfl⟩
  obtain ⟨B, hB⟩ : ∃ B, bhd s p = B := ⟨_, rfl⟩
  rw [hz, hB] at HP ⊢
  clear hz hB
  go_enter Tryz.func52, Tryz.ntmps52
  go_wp2_with fail
  refine HP.out.mono ?_
  rintro e w2 ⟨rfl, rfl⟩
  go_wp2_with fail
  go_ret2
  exact ⟨rfl, rfl⟩
end Go.Proofs.YtkebjllehegjlaaGreatDoor
