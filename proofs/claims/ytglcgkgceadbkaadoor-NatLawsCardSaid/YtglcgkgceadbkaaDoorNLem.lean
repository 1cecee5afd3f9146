/-
  Lemmas for the walk of NatLaws.
-/
import Derived.Test.YtglcgkgceadbkaaDoorNSubZ
import Derived.Test.YtglcgkgceadbkaaDoorNEq
import Derived.Test.YtglcgkgceadbkaaDoorNTab
import Derived.Test.YtglcgkgceadbkaaDoorNDvM
import Derived.Test.YtglcgkgceadbkaaDoorNAlive
namespace Go.Proofs.YtglcgkgceadbkaaDoor
open Go.RowKit
set_option linter.unusedVariables false
theorem parse_bad (s : ByteArray) (w : World) (hs : s.size ≤ maxLen) (h : ¬ WF s) : Calls Tryd.prog 5 #[.string s] w fun e w' => e = .returned (.tuple #[.agg #[.slice none 0 0], .int .i64 3]) ∧ Below w.heap.size w w' :=
  (parse_any s w hs).mono fun e w' ⟨h1, hb⟩ => ⟨by
    rcases h1 with ⟨h2, _⟩ | ⟨_, h2⟩ | ⟨h2, _⟩
    · exact absurd h2 h
    · exact h2
    · exact absurd h2 h, hb⟩
theorem parse_ok (s : ByteArray) (w : World) (h : WF s) (hl : s.size ≤ 1200) : Calls Tryd.prog 5 #[.string s] w fun e w' => ∃ x y z, e = .returned (.tuple #[.agg #[.slice x y z], .int .i64 0]) ∧ IsN w' (.agg #[.slice x y z]) (dv s.data.toList) ∧ Below w.heap.size w w' :=
  (parse_any s w (by unfold maxLen; omega)).mono fun e w' ⟨h1, hb⟩ => by
    rcases h1 with ⟨_, _, v, rfl, hN⟩ | ⟨h2, _⟩ | ⟨_, h2, _⟩
    · obtain ⟨x, y, z, rfl⟩ := isN_form hN
      exact ⟨x, y, z, rfl, hN, hb⟩
    · exact absurd h h2
    · omega
theorem w26 {x : Nat} (k : Nat) (h : x < 18446744073709551616 ^ 26) (hk : 26 ≤ k) : x < 18446744073709551616 ^ k := Nat.lt_of_lt_of_le h (w64_mono hk)
/-- The box b holds a number. -/
structure BoxN (W : World) (b : Nat) (x : Option Addr) (y z N : Nat) : Prop where
  blk : Blk W b 25 #[.slice x y z]
  num : IsN W (.agg #[.slice x y z]) N
theorem BoxN.below {W W' : World} {b : Nat} {x : Option Addr} {y z N : Nat} (h : BoxN W b x y z N) (hb : Below W.heap.size W W') : BoxN W' b x y z N := ⟨h.blk.below hb h.blk.lt, h.num.below hb (Nat.le_refl _)⟩
theorem BoxN.cell {W : World} {b : Nat} {x : Option Addr} {y z N : Nat} (h : BoxN W b x y z N) : W.cell? ⟨b, 0, none⟩ = some (.slice x y z) := h.blk.cell 0
theorem BoxN.new {W : World} {x : Option Addr} {y z N : Nat} (h : IsN W (.agg #[.slice x y z]) N) : BoxN (W.alloc (.cells #[.slice x y z] 25)) W.heap.size x y z N := ⟨Blk.new W _ _, h.below ((Below.refl _ W).alloc (Nat.le_refl _) _) (Nat.le_refl _)⟩
theorem below_box {w W W' : World} (v : Value) (h0 : Below w.heap.size w W) (hb : Below W.heap.size W W') : Below w.heap.size w (W'.alloc (.cells #[v] 25)) := by
  have := h0.trans (hb.mono h0.size)
  exact this.alloc this.size _
/-- A text of 120 bytes or less: a number or none. -/
theorem parse_some (s : ByteArray) (w : World) (hs : s.size ≤ maxLen) : Calls Tryd.prog 5 #[.string s] w fun e w' => ∃ (x : Option Addr) (y z : Nat) (c : Int), e = .returned (.tuple #[.agg #[.slice x y z], .int .i64 c]) ∧ Below w.heap.size w w' :=
  (parse_any s w hs).mono fun e w' ⟨h1, hb⟩ => by
    rcases h1 with ⟨_, _, v, rfl, hN⟩ | ⟨_, rfl⟩ | ⟨_, _, rfl⟩
    · obtain ⟨x, y, z, rfl⟩ := isN_form hN
      exact ⟨x, y, z, 0, rfl, hb⟩
    · exact ⟨none, 0, 0, 3, rfl, hb⟩
    · exact ⟨none, 0, 0, 2, rfl, hb⟩
end Go.Proofs.YtglcgkgceadbkaaDoor
