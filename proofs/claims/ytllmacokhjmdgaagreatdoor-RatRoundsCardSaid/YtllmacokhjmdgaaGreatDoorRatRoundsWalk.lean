/-
  The tables of the powers of ten and of the trailing zeros, out of what a statement's row lists.
  The walk of RatRounds: for every input it returns true, and leaves what lay in memory as it was.
-/
import Derived.Test.YtllmacokhjmdgaaGreatDoorNFmt
import Derived.Test.YtllmacokhjmdgaaGreatDoorNGcdA
import Derived.Test.YtllmacokhjmdgaaGreatDoorRows
import Derived.Lib.LaidTab
import Derived.Stop.LaidErr
import Derived.PinnedBridge
import Derived.MakeChecks
import Derived.Test.YtllmacokhjmdgaaGreatDoorQRu
import Derived.Test.YtllmacokhjmdgaaGreatDoorQRt
namespace Go.Proofs.YtllmacokhjmdgaaGreatDoor
open Go
theorem tab_ratTexts {W : World} (h : laidMetH Tryz.prog Rows.ratTextsRow.laid W) : Tab W := by
  rw [MakeChecks.laidMetH_plain _ _ _ (by kernel_rfl)] at h
  obtain ⟨g, hg⟩ : ∃ g, Tryz.prog.globalNamed "internal/strconv.uint64pow10" = some g := by
    have : (Tryz.prog.globalNamed "internal/strconv.uint64pow10").isSome = true := by kernel_rfl
    exact Option.isSome_iff_exists.1 this
  have hty : ((Tryz.prog.globalNamed "internal/strconv.uint64pow10").bind fun g => (Tryz.prog.globals[g]?).map (·.type)) = some 159 := by kernel_rfl
  rw [hg] at hty
  exact Lib.tabIs_of_head (rest := _) hg hty Tryz.underlying159 Tryz.underlying22 (by kernel_rfl) (by kernel_rfl) h.tail.tail
theorem tabB_ratTexts {W : World} (h : laidMetH Tryz.prog Rows.ratTextsRow.laid W) : TabB W := by
  rw [MakeChecks.laidMetH_plain _ _ _ (by kernel_rfl)] at h
  obtain ⟨g, hg⟩ : ∃ g, Tryz.prog.globalNamed "math/bits.deBruijn64tab" = some g := by
    have : (Tryz.prog.globalNamed "math/bits.deBruijn64tab").isSome = true := by kernel_rfl
    exact Option.isSome_iff_exists.1 this
  have hty : ((Tryz.prog.globalNamed "math/bits.deBruijn64tab").bind fun g => (Tryz.prog.globals[g]?).map (·.type)) = some 147 := by kernel_rfl
  rw [hg] at hty
  exact Lib.tabIs_of_head (rest := _) hg hty Tryz.underlying147 Tryz.underlying5 (by kernel_rfl) (by kernel_rfl) h.tail
theorem tab_ratRounds {W : World} (h : laidMetH Tryz.prog Rows.ratRoundsRow.laid W) : Tab W := by
  rw [MakeChecks.laidMetH_plain _ _ _ (by kernel_rfl)] at h
  obtain ⟨g, hg⟩ : ∃ g, Tryz.prog.globalNamed "internal/strconv.uint64pow10" = some g := by
    have : (Tryz.prog.globalNamed "internal/strconv.uint64pow10").isSome = true := by kernel_rfl
    exact Option.isSome_iff_exists.1 this
  have hty : ((Tryz.prog.globalNamed "internal/strconv.uint64pow10").bind fun g => (Tryz.prog.globals[g]?).map (·.type)) = some 159 := by kernel_rfl
  rw [hg] at hty
  exact Lib.tabIs_of_head (rest := _) hg hty Tryz.underlying159 Tryz.underlying22 (by kernel_rfl) (by kernel_rfl) h.tail.tail
theorem tabB_ratRounds {W : World} (h : laidMetH Tryz.prog Rows.ratRoundsRow.laid W) : TabB W := by
  rw [MakeChecks.laidMetH_plain _ _ _ (by kernel_rfl)] at h
  obtain ⟨g, hg⟩ : ∃ g, Tryz.prog.globalNamed "math/bits.deBruijn64tab" = some g := by
    have : (Tryz.prog.globalNamed "math/bits.deBruijn64tab").isSome = true := by kernel_rfl
    exact Option.isSome_iff_exists.1 this
  have hty : ((Tryz.prog.globalNamed "math/bits.deBruijn64tab").bind fun g => (Tryz.prog.globals[g]?).map (·.type)) = some 147 := by kernel_rfl
  rw [hg] at hty
  exact Lib.tabIs_of_head (rest := _) hg hty Tryz.underlying147 Tryz.underlying5 (by kernel_rfl) (by kernel_rfl) h.tail
theorem tab_ratLaws {W : World} (h : laidMetH Tryz.prog Rows.ratLawsRow.laid W) : Tab W := by
  rw [MakeChecks.laidMetH_plain _ _ _ (by kernel_rfl)] at h
  obtain ⟨g, hg⟩ : ∃ g, Tryz.prog.globalNamed "internal/strconv.uint64pow10" = some g := by
    have : (Tryz.prog.globalNamed "internal/strconv.uint64pow10").isSome = true := by kernel_rfl
    exact Option.isSome_iff_exists.1 this
  have hty : ((Tryz.prog.globalNamed "internal/strconv.uint64pow10").bind fun g => (Tryz.prog.globals[g]?).map (·.type)) = some 159 := by kernel_rfl
  rw [hg] at hty
  exact Lib.tabIs_of_head (rest := _) hg hty Tryz.underlying159 Tryz.underlying22 (by kernel_rfl) (by kernel_rfl) h.tail.tail
theorem tabB_ratLaws {W : World} (h : laidMetH Tryz.prog Rows.ratLawsRow.laid W) : TabB W := by
  rw [MakeChecks.laidMetH_plain _ _ _ (by kernel_rfl)] at h
  obtain ⟨g, hg⟩ : ∃ g, Tryz.prog.globalNamed "math/bits.deBruijn64tab" = some g := by
    have : (Tryz.prog.globalNamed "math/bits.deBruijn64tab").isSome = true := by kernel_rfl
    exact Option.isSome_iff_exists.1 this
  have hty : ((Tryz.prog.globalNamed "math/bits.deBruijn64tab").bind fun g => (Tryz.prog.globals[g]?).map (·.type)) = some 147 := by kernel_rfl
  rw [hg] at hty
  exact Lib.tabIs_of_head (rest := _) hg hty Tryz.underlying147 Tryz.underlying5 (by kernel_rfl) (by kernel_rfl) h.tail
theorem tab_ratMakes {W : World} (h : laidMetH Tryz.prog Rows.ratMakesRow.laid W) : Tab W := by
  rw [MakeChecks.laidMetH_plain _ _ _ (by kernel_rfl)] at h
  obtain ⟨g, hg⟩ : ∃ g, Tryz.prog.globalNamed "internal/strconv.uint64pow10" = some g := by
    have : (Tryz.prog.globalNamed "internal/strconv.uint64pow10").isSome = true := by kernel_rfl
    exact Option.isSome_iff_exists.1 this
  have hty : ((Tryz.prog.globalNamed "internal/strconv.uint64pow10").bind fun g => (Tryz.prog.globals[g]?).map (·.type)) = some 159 := by kernel_rfl
  rw [hg] at hty
  exact Lib.tabIs_of_head (rest := _) hg hty Tryz.underlying159 Tryz.underlying22 (by kernel_rfl) (by kernel_rfl) h.tail.tail
theorem tabB_ratMakes {W : World} (h : laidMetH Tryz.prog Rows.ratMakesRow.laid W) : TabB W := by
  rw [MakeChecks.laidMetH_plain _ _ _ (by kernel_rfl)] at h
  obtain ⟨g, hg⟩ : ∃ g, Tryz.prog.globalNamed "math/bits.deBruijn64tab" = some g := by
    have : (Tryz.prog.globalNamed "math/bits.deBruijn64tab").isSome = true := by kernel_rfl
    exact Option.isSome_iff_exists.1 this
  have hty : ((Tryz.prog.globalNamed "math/bits.deBruijn64tab").bind fun g => (Tryz.prog.globals[g]?).map (·.type)) = some 147 := by kernel_rfl
  rw [hg] at hty
  exact Lib.tabIs_of_head (rest := _) hg hty Tryz.underlying147 Tryz.underlying5 (by kernel_rfl) (by kernel_rfl) h.tail
theorem tab_ratTells {W : World} (h : laidMetH Tryz.prog Rows.ratTellsRow.laid W) : Tab W := by
  rw [MakeChecks.laidMetH_plain _ _ _ (by kernel_rfl)] at h
  obtain ⟨g, hg⟩ : ∃ g, Tryz.prog.globalNamed "internal/strconv.uint64pow10" = some g := by
    have : (Tryz.prog.globalNamed "internal/strconv.uint64pow10").isSome = true := by kernel_rfl
    exact Option.isSome_iff_exists.1 this
  have hty : ((Tryz.prog.globalNamed "internal/strconv.uint64pow10").bind fun g => (Tryz.prog.globals[g]?).map (·.type)) = some 159 := by kernel_rfl
  rw [hg] at hty
  exact Lib.tabIs_of_head (rest := _) hg hty Tryz.underlying159 Tryz.underlying22 (by kernel_rfl) (by kernel_rfl) h.tail.tail
theorem tabB_ratTells {W : World} (h : laidMetH Tryz.prog Rows.ratTellsRow.laid W) : TabB W := by
  rw [MakeChecks.laidMetH_plain _ _ _ (by kernel_rfl)] at h
  obtain ⟨g, hg⟩ : ∃ g, Tryz.prog.globalNamed "math/bits.deBruijn64tab" = some g := by
    have : (Tryz.prog.globalNamed "math/bits.deBruijn64tab").isSome = true := by kernel_rfl
    exact Option.isSome_iff_exists.1 this
  have hty : ((Tryz.prog.globalNamed "math/bits.deBruijn64tab").bind fun g => (Tryz.prog.globals[g]?).map (·.type)) = some 147 := by kernel_rfl
  rw [hg] at hty
  exact Lib.tabIs_of_head (rest := _) hg hty Tryz.underlying147 Tryz.underlying5 (by kernel_rfl) (by kernel_rfl) h.tail
theorem tab_ratIterates {W : World} (h : laidMetH Tryz.prog Rows.ratIteratesRow.laid W) : Tab W := by
  rw [MakeChecks.laidMetH_plain _ _ _ (by kernel_rfl)] at h
  obtain ⟨g, hg⟩ : ∃ g, Tryz.prog.globalNamed "internal/strconv.uint64pow10" = some g := by
    have : (Tryz.prog.globalNamed "internal/strconv.uint64pow10").isSome = true := by kernel_rfl
    exact Option.isSome_iff_exists.1 this
  have hty : ((Tryz.prog.globalNamed "internal/strconv.uint64pow10").bind fun g => (Tryz.prog.globals[g]?).map (·.type)) = some 159 := by kernel_rfl
  rw [hg] at hty
  exact Lib.tabIs_of_head (rest := _) hg hty Tryz.underlying159 Tryz.underlying22 (by kernel_rfl) (by kernel_rfl) h.tail.tail
theorem tabB_ratIterates {W : World} (h : laidMetH Tryz.prog Rows.ratIteratesRow.laid W) : TabB W := by
  rw [MakeChecks.laidMetH_plain _ _ _ (by kernel_rfl)] at h
  obtain ⟨g, hg⟩ : ∃ g, Tryz.prog.globalNamed "math/bits.deBruijn64tab" = some g := by
    have : (Tryz.prog.globalNamed "math/bits.deBruijn64tab").isSome = true := by kernel_rfl
    exact Option.isSome_iff_exists.1 this
  have hty : ((Tryz.prog.globalNamed "math/bits.deBruijn64tab").bind fun g => (Tryz.prog.globals[g]?).map (·.type)) = some 147 := by kernel_rfl
  rw [hg] at hty
  exact Lib.tabIs_of_head (rest := _) hg hty Tryz.underlying147 Tryz.underlying5 (by kernel_rfl) (by kernel_rfl) h.tail
end Go.Proofs.YtllmacokhjmdgaaGreatDoor
namespace Go.Proofs.YtllmacokhjmdgaaGreatDoor
open Go.RowKit
set_option linter.unusedVariables false
theorem ratRounds.unread (s : ByteArray) (w : World) (htab : Tab w) (htb : TabB w) (hs : ¬ (150 : Int) < (s.size : Int)) (hpq : pq s = none) :
    Calls Tryz.prog 4 #[.string s] w fun e w' => e = .returned (.bool true) ∧ Below w.heap.size w w' := by
  have HAl := Lib.hid (alive_r w htab htb)
  have HTB : Hid (∀ W, Below w.heap.size w W → TabB W) := Lib.hid (fun W hb => htb.below hb (Nat.le_refl _))
  have HP : Hid (∀ W, TabB W → Calls Tryz.prog 12 #[.string s] W fun e w' => ∃ b x y z x' y' z', e = .returned (.tuple #[.agg #[.bool b, .slice x y z, .slice x' y' z'], .int .i64 3]) ∧ IsR w' (.agg #[.bool b, .slice x y z, .slice x' y' z']) 0 ∧ Below W.heap.size W w') := Lib.hid (fun W ht => by
    have := parse_r s W (by omega) ht
    rw [hpq] at this
    exact this)
  clear hpq
  go_enter Tryz.func4, Tryz.ntmps4
  go_wp2_with fail
  refine HAl.out.mono ?_
  rintro e w1 ⟨rfl, hb1⟩
  have B1 := (Mq.refl w).below hb1
  go_wp2_with fail
  refine (HP.out _ (HTB.out _ B1.bel)).mono ?_
  rintro e w2 ⟨bA, pA, nA, cA, qA, mA, dA, rfl, rA, hb⟩
  have V2 := ((B1.below hb).rcons rA).alloc 28 #[.bool bA, .slice pA nA cA, .slice qA mA dA]
  have HB := Lib.hid V2.bel
  clear B1 hb1 rA V2
  go_wp2_with fail
  go_ret
  exact ⟨rfl, HB.out⟩
theorem ratRounds.tooLong (s : ByteArray) (w : World) (htab : Tab w) (htb : TabB w) (hs : (150 : Int) < (s.size : Int)) :
    Calls Tryz.prog 4 #[.string s] w fun e w' => e = .returned (.bool true) ∧ Below w.heap.size w w' := by
  have HAl := Lib.hid (alive_r w htab htb)
  go_enter Tryz.func4, Tryz.ntmps4
  go_wp2_with fail
  refine HAl.out.mono ?_
  rintro e w1 ⟨rfl, hb1⟩
  go_wp2_with fail
  go_ret
  exact ⟨rfl, hb1⟩
theorem ratRounds.walk (s : ByteArray) (hs : s.size ≤ maxLen) (w : World) (htab : Tab w) (htb : TabB w) :
    Calls Tryz.prog 4 #[.string s] w fun e w' => e = .returned (.bool true) ∧ Below w.heap.size w w' := by
  by_cases hl : (150 : Int) < (s.size : Int)
  · exact ratRounds.tooLong s w htab htb hl
  cases ho : pq s with
  | none => exact ratRounds.unread s w htab htb hl ho
  | some qa =>
    have hC : cmpQ (offQ qa) H12 = -1 ∨ cmpQ (offQ qa) H12 = 0 := by
      have hle := offQ_le qa
      unfold cmpQ
      split
      · exact .inl rfl
      · rw [if_neg (Rat.not_lt.2 hle)]
        exact .inr rfl
    cases hn : decide ((((rndQ qa : Int) : Rat) - qa).num < 0) with
    | false => exact hC.elim (ratRounds.up s qa w htab htb hl ho hn) (ratRounds.tieUp s qa w htab htb hl ho hn)
    | true => exact hC.elim (ratRounds.down s qa w htab htb hl ho hn) (ratRounds.tieDown s qa w htab htb hl ho hn)
end Go.Proofs.YtllmacokhjmdgaaGreatDoor
