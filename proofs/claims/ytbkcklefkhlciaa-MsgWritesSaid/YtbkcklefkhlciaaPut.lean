/-
  pbuf.Put: for every field, whether it may be put, and its bytes.
-/
import Derived.Test.YtbkcklefkhlciaaPutMath
import Derived.Test.YtbkcklefkhlciaaPv
import Derived.Test.YtbkcklefkhlciaaPget
import Derived.Lib.AppendStr
import Derived.Outline
import Derived.BigQuiet
import Derived.Deep.QuietTactic
import Derived.StillTailTactics
namespace Go.Proofs.Ytbkcklefkhlciaa
open Go.RowKit
/-- A field as a value. -/
def fV (num kind at_ val : Int) (d : ByteArray) : Value := .agg #[.int .i64 num, .int .i64 kind, .int .i64 at_, .int .u64 val, .string d]
open Classical in
noncomputable def mayB (num kind : Int) (val : Nat) (d : ByteArray) : Bool := if May num kind val d then true else false
theorem mayB_yes {num kind : Int} {val : Nat} {d : ByteArray} (h : May num kind val d) : mayB num kind val d = true := by unfold mayB; rw [if_pos h]
theorem mayB_no {num kind : Int} {val : Nat} {d : ByteArray} (h : ¬ May num kind val d) : mayB num kind val d = false := by unfold mayB; rw [if_neg h]
def MayIs (b : Bool) (w : World) (e : Ending) (w' : World) : Prop := e = .returned (.bool b) ∧ Below w.heap.size w w'
set_option maxRecDepth 100000 in
set_option maxHeartbeats 1000000 in
theorem mayput_any (num kind at_ : Int) (val : Nat) (d : ByteArray) (w : World) (hv : val < 18446744073709551616) (hd : d.size ≤ maxLen) :
    Calls Try.prog 55 #[fV num kind at_ val d] w (MayIs (mayB num kind val d) w) := by
  unfold maxLen at hd
  obtain ⟨b, hb⟩ : ∃ b, mayB num kind val d = b := ⟨_, rfl⟩
  rw [hb]
  unfold fV
  obtain ⟨V, hV⟩ : ∃ V : Int, (val : Int) = V := ⟨_, rfl⟩
  rw [hV]
  have hV0 : 0 ≤ V := by omega
  have hV1 : V < 18446744073709551616 := by omega
  by_cases h1 : num < 1
  · obtain rfl : b = false := by rw [← hb]; exact mayB_no (fun h => by unfold May at h; omega)
    clear hb hV hv hV1
    go_enter Try.func55, Try.ntmps55
    go_wp2
    go_ret
    exact ⟨rfl, (Below.refl _ _).alloc (Nat.le_refl _) _⟩
  · by_cases h2 : 536870911 < num
    · obtain rfl : b = false := by rw [← hb]; exact mayB_no (fun h => by unfold May at h; omega)
      clear hb hV hv hV1
      go_enter Try.func55, Try.ntmps55
      go_wp2
      go_ret
      exact ⟨rfl, (Below.refl _ _).alloc (Nat.le_refl _) _⟩
    · by_cases h3 : kind = 2
      · by_cases h4 : val = 0
        · by_cases h5 : d.size ≤ 60000
          · obtain rfl : b = true := by rw [← hb]; exact mayB_yes (by unfold May; omega)
            obtain rfl : V = 0 := by omega
            subst h3
            clear hb hV hv hV1 h4
            have h7 : decide ((d.size : Int) ≤ 60000) = true := by simp; omega
            go_enter Try.func55, Try.ntmps55
            go_wp2
            go_ret
            exact ⟨rfl, (Below.refl _ _).alloc (Nat.le_refl _) _⟩
          · obtain rfl : b = false := by rw [← hb]; exact mayB_no (fun h => by unfold May at h; omega)
            obtain rfl : V = 0 := by omega
            subst h3
            clear hb hV hv hV1 h4
            have h7 : decide ((d.size : Int) ≤ 60000) = false := by simp; omega
            go_enter Try.func55, Try.ntmps55
            go_wp2
            go_ret
            exact ⟨rfl, (Below.refl _ _).alloc (Nat.le_refl _) _⟩
        · obtain rfl : b = false := by rw [← hb]; exact mayB_no (fun h => by unfold May at h; omega)
          have h6 : 1 ≤ V := by omega
          subst h3
          clear hb hV hv hV1 h4
          go_enter Try.func55, Try.ntmps55
          go_wp2
          go_ret
          exact ⟨rfl, (Below.refl _ _).alloc (Nat.le_refl _) _⟩
      · by_cases h4 : d.size = 0
        · have hdd := size_zero _ h4
          subst hdd
          by_cases h5 : kind = 0
          · obtain rfl : b = true := by rw [← hb]; exact mayB_yes (by unfold May; omega)
            subst h5
            clear hb hV hv hV1
            go_enter Try.func55, Try.ntmps55
            go_wp2
            go_ret
            exact ⟨rfl, (Below.refl _ _).alloc (Nat.le_refl _) _⟩
          · by_cases h6 : kind = 1
            · obtain rfl : b = true := by rw [← hb]; exact mayB_yes (by unfold May; omega)
              subst h6
              clear hb hV hv hV1
              go_enter Try.func55, Try.ntmps55
              go_wp2
              go_ret
              exact ⟨rfl, (Below.refl _ _).alloc (Nat.le_refl _) _⟩
            · by_cases h7 : kind = 5
              · by_cases h8 : V < 4294967296
                · obtain rfl : b = true := by rw [← hb]; exact mayB_yes (by unfold May; omega)
                  subst h7
                  clear hb hV hv hV1
                  go_enter Try.func55, Try.ntmps55
                  go_wp2
                  go_ret
                  exact ⟨rfl, (Below.refl _ _).alloc (Nat.le_refl _) _⟩
                · obtain rfl : b = false := by rw [← hb]; exact mayB_no (fun h => by unfold May at h; omega)
                  subst h7
                  clear hb hV hv hV1
                  go_enter Try.func55, Try.ntmps55
                  go_wp2
                  go_ret
                  exact ⟨rfl, (Below.refl _ _).alloc (Nat.le_refl _) _⟩
              · obtain rfl : b = false := by rw [← hb]; exact mayB_no (fun h => by unfold May at h; omega)
                clear hb hV hv hV1
                go_enter Try.func55, Try.ntmps55
                go_wp2
                go_ret
                exact ⟨rfl, (Below.refl _ _).alloc (Nat.le_refl _) _⟩
        · obtain rfl : b = false := by rw [← hb]; exact mayB_no (fun h => by unfold May at h; omega)
          clear hb hV hv hV1
          have h5 : ¬ d.toList = [] := fun h => h4 (by rw [ByteArray.toList_eq] at h; exact (List.length_eq_zero_iff.2 h))
          have h6 : (!d.toList.isEmpty) = true := by cases hl : d.toList with | nil => exact absurd hl h5 | cons _ _ => rfl
          go_enter Try.func55, Try.ntmps55
          go_wp2
          go_ret
          exact ⟨rfl, (Below.refl _ _).alloc (Nat.le_refl _) _⟩
end Go.Proofs.Ytbkcklefkhlciaa
