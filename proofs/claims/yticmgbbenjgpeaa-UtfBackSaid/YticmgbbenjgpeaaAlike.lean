/-
  alike, of two slices that hold the same numbers.
-/
import Derived.Test.YticmgbbenjgpeaaTold2
import Derived.Test.YticmgbbenjgpeaaUtPut3
namespace Go.Proofs.Yticmgbbenjgpeaa
open Go.RowKit
/-- The slice v holds the numbers zs. -/
def Holds (w : World) (v : Value) (zs : List Int) : Prop := (v = .slice none 0 0 ∧ zs = []) ∨ ∃ g cap, v = .slice (some ⟨g, 0, none⟩) zs.length cap ∧ zs.length ≤ cap ∧ ∀ i, i < zs.length → w.cell? ⟨g, i, none⟩ = some (.int .i64 (zs.getD i 0))
theorem holds_own {w : World} {b : Nat} {v : Value} {zs : List Int} {xs : List Value} {n : Nat} (h : w.ownsRow b 3 1 v n xs) (hx : xs = zs.map (.int .i64 ·)) : Holds w v zs := by
  have hl := h.1
  subst hx
  simp only [List.length_map, Nat.mul_one] at hl
  subst hl
  rcases h.2 with ⟨rfl, h0⟩ | ⟨g, cap, cur, rfl, _, hg, hc, _, hs, ht⟩
  · exact .inl ⟨rfl, List.eq_nil_of_length_eq_zero h0⟩
  · refine .inr ⟨g, cap, rfl, hc, fun i hi => ?_⟩
    rw [cell_of_row w g i cur _ _ hg]
    have e : (cur.toList.take (zs.length * 1))[i]? = (zs.map (Value.int .i64 ·))[i]? := by rw [ht]
    rw [List.getElem?_take] at e
    rw [if_pos (by omega)] at e
    have e2 : cur[i]? = cur.toList[i]? := by simp
    rw [e2, e, List.getElem?_map]
    simp [List.getD_eq_getElem?_getD, hi]

set_option maxRecDepth 100000 in
set_option maxHeartbeats 1000000 in
theorem alike_some (w : World) (g h c1 c2 : Nat) (zs : List Int) (hl : zs.length ≤ 1000000)
    (hg : ∀ i, i < zs.length → w.cell? ⟨g, i, none⟩ = some (.int .i64 (zs.getD i 0))) (hh : ∀ i, i < zs.length → w.cell? ⟨h, i, none⟩ = some (.int .i64 (zs.getD i 0))) :
    Calls Try.prog 24 #[.slice (some ⟨g, 0, none⟩) zs.length c1, .slice (some ⟨h, 0, none⟩) zs.length c2] w fun e w' => e = .returned (.bool true) ∧ Below w.heap.size w w' := by
  have Hg := Lib.hid hg
  have Hh := Lib.hid hh
  clear hg hh
  go_enter Try.func24, Try.ntmps24
  go_wp2
  go_loopw [5] (fun n wr => ∃ j : Nat, n = .int .i64 (j : Int) ∧ j ≤ zs.length ∧ Below w.heap.size w wr ∧ Hid (∀ a, wr.cell? a = w.cell? a)) (fun n _ => zs.length - (intOf n).toNat)
  case atStart => exact ⟨0, rfl, by omega, Below.refl _ _, Lib.hid (fun _ => rfl)⟩
  case round =>
    obtain ⟨j, rfl, hj, hb, hc⟩ := hrel
    by_cases hjl : j < zs.length
    · have e1 : wr.cell? ⟨g, j, none⟩ = some (.int .i64 (zs.getD j 0)) := (hc.out _).trans (Hg.out j hjl)
      have e2 : wr.cell? ⟨h, j, none⟩ = some (.int .i64 (zs.getD j 0)) := (hc.out _).trans (Hh.out j hjl)
      have b0 : (0 : Int) ≤ (j : Int) := by omega
      have b1 : (j : Int) < (zs.length : Int) := by omega
      go_wp2
      go_quiet (fail)
      go_wp2
      go_roundw
      case rel => exact ⟨j + 1, by go_num, by omega, below_drewN hb nq, Lib.hid (fun a => (show (wr.drewN nq).cell? a = wr.cell? a from rfl).trans (hc.out a))⟩
      case measure => simp [intOf]; omega
    · go_wp2
      go_ret
      exact ⟨rfl, hb⟩
theorem alike_any (w : World) (v1 v2 : Value) (zs : List Int) (hl : zs.length ≤ 1000000) (h1 : Holds w v1 zs) (h2 : Holds w v2 zs) :
    Calls Try.prog 24 #[v1, v2] w fun e w' => e = .returned (.bool true) ∧ Below w.heap.size w w' := by
  have zero : zs = [] → ∀ a1 c1 a2 c2, Calls Try.prog 24 #[.slice a1 0 c1, .slice a2 0 c2] w fun e w' => e = .returned (.bool true) ∧ Below w.heap.size w w' := by
    rintro rfl a1 c1 a2 c2
    go_enter Try.func24, Try.ntmps24
    go_wp2
    go_loopw [5] (fun n wr => n = .int .i64 0 ∧ wr = w) (fun _ _ => 0)
    case atStart => exact ⟨rfl, rfl⟩
    case round =>
      obtain ⟨rfl, rfl⟩ := hrel
      go_wp2
      go_ret
      exact ⟨rfl, Below.refl _ _⟩
  rcases h1 with ⟨rfl, rfl⟩ | ⟨g, c1, rfl, _, hg⟩
  · rcases h2 with ⟨rfl, _⟩ | ⟨h, c2, rfl, _, hh⟩
    · exact zero rfl _ _ _ _
    · exact zero rfl _ _ _ _
  · rcases h2 with ⟨rfl, rfl⟩ | ⟨h, c2, rfl, _, hh⟩
    · exact zero rfl _ _ _ _
    · exact alike_some w g h c1 c2 zs hl hg hh
end Go.Proofs.Yticmgbbenjgpeaa
