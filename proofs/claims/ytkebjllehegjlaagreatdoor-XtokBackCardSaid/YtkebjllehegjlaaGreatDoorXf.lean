/-
  Law 7: the end of an element.
-/
import Derived.Test.YtkebjllehegjlaaGreatDoorXe
namespace Go.Proofs.YtkebjllehegjlaaGreatDoor
open Go.RowKit Go.Shelf
set_option linter.unusedVariables false
set_option maxRecDepth 100000 in
set_option maxHeartbeats 4000000 in
/-- A name and '>' right behind it: what put does is handed in. -/
theorem closing_any {w W : World} {b k n : Nat} {s : ByteArray} {tk : Value} {x : Int} (h : Cu w b s k tk x W) (hk : k ≤ s.size) (hs : s.size ≤ 1000000) (hn : n ≤ s.size - k) (start : Int)
    (HN : ∀ W, Calls Tryz.prog 47 #[.string (s.extract k s.size)] W fun e w' => e = .returned (.int .i64 (n : Int)) ∧ Below W.heap.size W w')
    (hne : ((s.extract k s.size).extract 0 n).toList.isEmpty = false) (y : UInt8) (hy : s.data.toList[k + n]? = some y) (hsp : uSpace (y.toNat : Int) = false) (hg : goes s (k + n) ⟨#[62]⟩ = true) (Q : Bool → World → Prop)
    (HT : ∀ W', Cu w b s (k + n + 1) tk x W' → Calls Tryz.prog 35 #[.pointer (some ⟨b, 0, none⟩), .agg #[.int .i64 2, .int .i64 start, .string ((s.extract k s.size).extract 0 n), .string ⟨#[]⟩, .slice none 0 0, .bool false]] W' fun e w' => ∃ ok, e = .returned (.bool ok) ∧ Q ok w') :
    Calls Tryz.prog 25 #[.pointer (some ⟨b, 0, none⟩), .int .i64 start] W fun e w' => ∃ ok, e = .returned (.bool ok) ∧ Q ok w' := by
  have hlt : k + n < s.size := by
    have h1 := (List.getElem?_eq_some_iff.1 hy).1
    have h2 : s.data.toList.length = s.size := by simp
    omega
  have H1 := Lib.hid (name_any h hk hs hn HN)
  have H2 : Hid (∀ W', Cu w b s (k + n) tk x W' → Calls Tryz.prog 40 #[.pointer (some ⟨b, 0, none⟩)] W' fun e w' => e = .returned (.bool false) ∧ Cu w b s (k + n) tk x w') := Lib.hid (fun W' h' => (blanks_any h' (by omega) hs).mono fun e w' hh => by
    obtain ⟨j, he, hc, hj1, hj2, hj3, hj4⟩ := hh
    have hj : j = k + n := by
      rcases Nat.lt_or_ge (k + n) j with h | h
      · have := hj3 (k + n) y (Nat.le_refl _) h hy
        rw [hsp] at this
        cases this
      · omega
    subst hj
    exact ⟨by rw [he, decide_eq_false (by omega)], hc⟩)
  have H3 : Hid (∀ W', Cu w b s (k + n) tk x W' → Calls Tryz.prog 21 #[.pointer (some ⟨b, 0, none⟩), .string ⟨#[62]⟩] W' fun e w' => e = .returned (.bool true) ∧ Cu w b s (k + n + 1) tk x w') := Lib.hid (fun W' h' => take_yes h' (by omega) _ hg hs (by decide))
  have HT := Lib.hid HT
  obtain ⟨NM, hNM⟩ : ∃ NM, (s.extract k s.size).extract 0 n = NM := ⟨_, rfl⟩
  rw [hNM] at H1 HT hne
  clear h hk hs hn HN hy hsp hg hlt hNM
  go_enter Tryz.func25, Tryz.ntmps25
  go_wp2_with fail
  refine H1.out.mono ?_
  rintro e w1 ⟨rfl, h⟩
  have K1 := Lib.hid h
  clear h
  go_wp2_with fail
  refine (H2.out _ K1.out).mono ?_
  rintro e w2 ⟨rfl, h⟩
  have K2 := Lib.hid h
  clear h
  go_wp2_with fail
  refine (H3.out _ K2.out).mono ?_
  rintro e w3 ⟨rfl, h⟩
  have K3 := Lib.hid h
  clear h
  go_wp2_with fail
  refine (HT.out _ K3.out).mono ?_
  rintro e w4 ⟨ok, rfl, hq⟩
  have HQ := Lib.hid hq
  clear hq
  go_wp2_with fail
  go_ret
  exact ⟨ok, rfl, HQ.out⟩
end Go.Proofs.YtkebjllehegjlaaGreatDoor
