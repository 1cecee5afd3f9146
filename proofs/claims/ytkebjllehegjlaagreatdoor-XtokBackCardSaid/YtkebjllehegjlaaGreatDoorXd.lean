/-
  Law 7: the cutter's token: which of its parts is asked.
-/
import Derived.Test.YtkebjllehegjlaaGreatDoorXc
namespace Go.Proofs.YtkebjllehegjlaaGreatDoor
open Go.RowKit Go.Shelf
set_option linter.unusedVariables false
theorem toList_atx (s : ByteArray) (k : Nat) (h : k < s.size) : s.data.toList[k]? = some s[k] := by
  have e : s.data.toList[k]? = s.data[k]? := by simp
  rw [e]
  exact Array.getElem?_eq_getElem h
set_option maxRecDepth 100000 in
set_option maxHeartbeats 4000000 in
/-- What is no '<' is a text. -/
theorem token_text {w W : World} {b k : Nat} {s : ByteArray} {tk : Value} {x : Int} (h : Cu w b s k tk x W) (hk : k < s.size) (hc : s[k].toNat ≠ 60) (Q : Bool → World → Prop)
    (HT : ∀ W', Cu w b s k tk x W' → Calls Tryz.prog 20 #[.pointer (some ⟨b, 0, none⟩)] W' fun e w' => ∃ ok, e = .returned (.bool ok) ∧ Q ok w') :
    Calls Tryz.prog 12 #[.pointer (some ⟨b, 0, none⟩)] W fun e w' => ∃ ok, e = .returned (.bool ok) ∧ Q ok w' := by
  have H := Lib.hid h
  have HT := Lib.hid HT
  have c0 := h.c0; have c1 := h.c1
  obtain ⟨y, hy⟩ : ∃ y, s[k] = y := ⟨_, rfl⟩
  rw [hy] at hc
  obtain ⟨C, hC⟩ : ∃ C : Int, (y.toNat : Int) = C := ⟨_, rfl⟩
  have g60 : (C == 60) = false := by simpa using (show ¬ C = 60 by omega)
  have hki : (k : Int) < (s.size : Int) := by omega
  have hk0 : (0 : Int) ≤ (k : Int) := by omega
  clear h
  go_enter Tryz.func12, Tryz.ntmps12
  go_wp2_with fail
  refine (HT.out _ H.out).mono ?_
  rintro e w1 ⟨ok, rfl, hq⟩
  have HQ := Lib.hid hq
  clear hq
  go_wp2_with fail
  go_ret
  exact ⟨ok, rfl, HQ.out⟩
set_option maxRecDepth 100000 in
set_option maxHeartbeats 4000000 in
/-- '</' is the end of an element. -/
theorem token_close {w W : World} {b k : Nat} {s : ByteArray} {tk : Value} {x : Int} (h : Cu w b s k tk x W) (hk : k < s.size) (hs : s.size ≤ 1000000) (hc : s[k].toNat = 60)
    (g1 : goes s k ⟨#[60, 33, 45, 45]⟩ = false) (g2 : goes s k ⟨#[60, 33, 91, 67, 68, 65, 84, 65, 91]⟩ = false) (g3 : goes s k ⟨#[60, 63]⟩ = false) (g4 : goes s k ⟨#[60, 47]⟩ = true) (Q : Bool → World → Prop)
    (HT : ∀ W', Cu w b s (k + 2) tk x W' → Calls Tryz.prog 25 #[.pointer (some ⟨b, 0, none⟩), .int .i64 (k : Int)] W' fun e w' => ∃ ok, e = .returned (.bool ok) ∧ Q ok w') :
    Calls Tryz.prog 12 #[.pointer (some ⟨b, 0, none⟩)] W fun e w' => ∃ ok, e = .returned (.bool ok) ∧ Q ok w' := by
  have H1 : Hid (∀ W', Cu w b s k tk x W' → Calls Tryz.prog 21 #[.pointer (some ⟨b, 0, none⟩), .string ⟨#[60, 33, 45, 45]⟩] W' fun e w' => e = .returned (.bool false) ∧ Cu w b s k tk x w') := Lib.hid (fun W' h => take_no h (by omega) _ g1)
  have H2 : Hid (∀ W', Cu w b s k tk x W' → Calls Tryz.prog 21 #[.pointer (some ⟨b, 0, none⟩), .string ⟨#[60, 33, 91, 67, 68, 65, 84, 65, 91]⟩] W' fun e w' => e = .returned (.bool false) ∧ Cu w b s k tk x w') := Lib.hid (fun W' h => take_no h (by omega) _ g2)
  have H3 : Hid (∀ W', Cu w b s k tk x W' → Calls Tryz.prog 21 #[.pointer (some ⟨b, 0, none⟩), .string ⟨#[60, 63]⟩] W' fun e w' => e = .returned (.bool false) ∧ Cu w b s k tk x w') := Lib.hid (fun W' h => take_no h (by omega) _ g3)
  have H4 : Hid (∀ W', Cu w b s k tk x W' → Calls Tryz.prog 21 #[.pointer (some ⟨b, 0, none⟩), .string ⟨#[60, 47]⟩] W' fun e w' => e = .returned (.bool true) ∧ Cu w b s (k + 2) tk x w') := Lib.hid (fun W' h => take_yes h (by omega) _ g4 hs (by decide))
  have H := Lib.hid h
  have HT := Lib.hid HT
  have c0 := h.c0; have c1 := h.c1
  obtain ⟨y, hy⟩ : ∃ y, s[k] = y := ⟨_, rfl⟩
  rw [hy] at hc
  have hC : (y.toNat : Int) = 60 := by omega
  have hki : (k : Int) < (s.size : Int) := by omega
  have hk0 : (0 : Int) ≤ (k : Int) := by omega
  clear h g1 g2 g3 g4 hs
  go_enter Tryz.func12, Tryz.ntmps12
  go_wp2_with fail
  refine (H1.out _ H.out).mono ?_
  rintro e w1 ⟨rfl, h⟩
  have K1 := Lib.hid h
  clear h
  go_wp2_with fail
  refine (H2.out _ K1.out).mono ?_
  rintro e w2 ⟨rfl, h⟩
  have K2 := Lib.hid h
  clear h
  go_wp2_with fail
  refine (H3.out _ K2.out).mono ?_
  rintro e w3 ⟨rfl, h⟩
  have K3 := Lib.hid h
  clear h
  go_wp2_with fail
  refine (H4.out _ K3.out).mono ?_
  rintro e w4 ⟨rfl, h⟩
  have K4 := Lib.hid h
  clear h
  go_wp2_with fail
  refine (HT.out _ K4.out).mono ?_
  rintro e w5 ⟨ok, rfl, hq⟩
  have HQ := Lib.hid hq
  clear hq
  go_wp2_with fail
  go_ret
  exact ⟨ok, rfl, HQ.out⟩
set_option maxRecDepth 100000 in
set_option maxHeartbeats 4000000 in
/-- Any other '<' begins an element. -/
theorem token_open {w W : World} {b k : Nat} {s : ByteArray} {tk : Value} {x : Int} (h : Cu w b s k tk x W) (hk : k < s.size) (hs : s.size ≤ 1000000) (hc : s[k].toNat = 60)
    (g1 : goes s k ⟨#[60, 33, 45, 45]⟩ = false) (g2 : goes s k ⟨#[60, 33, 91, 67, 68, 65, 84, 65, 91]⟩ = false) (g3 : goes s k ⟨#[60, 63]⟩ = false) (g4 : goes s k ⟨#[60, 47]⟩ = false) (Q : Bool → World → Prop)
    (HT : ∀ W', Cu w b s (k + 1) tk x W' → Calls Tryz.prog 26 #[.pointer (some ⟨b, 0, none⟩), .int .i64 (k : Int)] W' fun e w' => ∃ ok, e = .returned (.bool ok) ∧ Q ok w') :
    Calls Tryz.prog 12 #[.pointer (some ⟨b, 0, none⟩)] W fun e w' => ∃ ok, e = .returned (.bool ok) ∧ Q ok w' := by
  have H1 : Hid (∀ W', Cu w b s k tk x W' → Calls Tryz.prog 21 #[.pointer (some ⟨b, 0, none⟩), .string ⟨#[60, 33, 45, 45]⟩] W' fun e w' => e = .returned (.bool false) ∧ Cu w b s k tk x w') := Lib.hid (fun W' h => take_no h (by omega) _ g1)
  have H2 : Hid (∀ W', Cu w b s k tk x W' → Calls Tryz.prog 21 #[.pointer (some ⟨b, 0, none⟩), .string ⟨#[60, 33, 91, 67, 68, 65, 84, 65, 91]⟩] W' fun e w' => e = .returned (.bool false) ∧ Cu w b s k tk x w') := Lib.hid (fun W' h => take_no h (by omega) _ g2)
  have H3 : Hid (∀ W', Cu w b s k tk x W' → Calls Tryz.prog 21 #[.pointer (some ⟨b, 0, none⟩), .string ⟨#[60, 63]⟩] W' fun e w' => e = .returned (.bool false) ∧ Cu w b s k tk x w') := Lib.hid (fun W' h => take_no h (by omega) _ g3)
  have H4 : Hid (∀ W', Cu w b s k tk x W' → Calls Tryz.prog 21 #[.pointer (some ⟨b, 0, none⟩), .string ⟨#[60, 47]⟩] W' fun e w' => e = .returned (.bool false) ∧ Cu w b s k tk x w') := Lib.hid (fun W' h => take_no h (by omega) _ g4)
  have H := Lib.hid h
  have HT := Lib.hid HT
  have c0 := h.c0; have c1 := h.c1
  obtain ⟨y, hy⟩ : ∃ y, s[k] = y := ⟨_, rfl⟩
  rw [hy] at hc
  have hC : (y.toNat : Int) = 60 := by omega
  have hki : (k : Int) < (s.size : Int) := by omega
  have hk0 : (0 : Int) ≤ (k : Int) := by omega
  have hk6 : k ≤ 1000000 := by omega
  clear h g1 g2 g3 g4 hs
  go_enter Tryz.func12, Tryz.ntmps12
  go_wp2_with fail
  refine (H1.out _ H.out).mono ?_
  rintro e w1 ⟨rfl, h⟩
  have K1 := Lib.hid h
  clear h
  go_wp2_with fail
  refine (H2.out _ K1.out).mono ?_
  rintro e w2 ⟨rfl, h⟩
  have K2 := Lib.hid h
  clear h
  go_wp2_with fail
  refine (H3.out _ K2.out).mono ?_
  rintro e w3 ⟨rfl, h⟩
  have K3 := Lib.hid h
  clear h
  go_wp2_with fail
  refine (H4.out _ K3.out).mono ?_
  rintro e w4 ⟨rfl, h⟩
  have c1 := h.c1; have f1 := h.f 1
  have K4 := Lib.hid (h.at_ (k + 1))
  rw [show ((k + 1 : Nat) : Int) = (k : Int) + 1 by omega] at K4
  clear h
  go_wp2_with fail
  refine (HT.out _ K4.out).mono ?_
  rintro e w5 ⟨ok, rfl, hq⟩
  have HQ := Lib.hid hq
  clear hq
  go_wp2_with fail
  go_ret
  exact ⟨ok, rfl, HQ.out⟩
end Go.Proofs.YtkebjllehegjlaaGreatDoor
