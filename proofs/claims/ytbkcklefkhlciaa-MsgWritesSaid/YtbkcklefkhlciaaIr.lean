/-
  Rows of ints at any address: what they hold; are two alike?
-/
import Derived.Test.YtbkcklefkhlciaaMsg
import Derived.Deep.QuietTactic
import Derived.BigQuiet
namespace Go.Proofs.Ytbkcklefkhlciaa
open Go.RowKit
set_option linter.unusedVariables false
/-- The row at a, of ints, holds zs. -/
def IR (w : World) (a : Option Addr) (zs : List Int) : Prop := ∀ i, i < zs.length → ∃ ad, a = some ad ∧ ad.block < w.heap.size ∧ w.cell? (ad.add i) = some (.int .i64 (zs.getD i 0))
theorem IR.below {w w' : World} {a : Option Addr} {zs : List Int} (h : IR w a zs) (hb : Below w.heap.size w w') : IR w' a zs := by
  intro i hi
  obtain ⟨ad, rfl, hlt, hc⟩ := h i hi
  have hbk : (ad.add i).block = ad.block := by unfold Addr.add; split <;> rfl
  exact ⟨ad, rfl, Nat.lt_of_lt_of_le hlt hb.size, (hb.cell (p := ad.add i) (by rw [hbk]; exact hlt)).trans hc⟩
theorem ir_own {w : World} {b n c : Nat} {a : Option Addr} {zs : List Int} (h : w.ownsRow b 3 1 (.slice a n c) n (zs.map (.int .i64 ·))) (hn : n = zs.length) : IR w a zs := by
  intro i hi
  obtain ⟨g, cap, hv, _, hlt⟩ := h.form (by omega)
  have hA : a = some ⟨g, 0, none⟩ := by injection hv
  subst hA
  refine ⟨_, rfl, hlt, ?_⟩
  have := h.cells (g := g) rfl i (.int .i64 (zs.getD i 0)) (by rw [List.getElem?_map, List.getElem?_eq_getElem hi, List.getD_eq_getElem?_getD, List.getElem?_eq_getElem hi]; rfl)
  exact this
set_option maxRecDepth 100000 in
set_option maxHeartbeats 1000000 in
theorem same_any (a b : Option Addr) (c d : Nat) (zs : List Int) (w : World) (hz : zs.length ≤ 100000) (ha : IR w a zs) (hb : IR w b zs) :
    Calls Try.prog 34 #[.slice a zs.length c, .slice b zs.length d] w fun e w' => e = .returned (.bool true) ∧ ∃ n, w' = w.drewN n := by
  have Ha := Lib.hid ha; have Hb := Lib.hid hb
  clear ha hb
  go_enter Try.func34, Try.ntmps34
  go_wp2
  go_loopw [5] (fun i wr => ∃ k n : Nat, k ≤ zs.length ∧ i = .int .i64 k ∧ wr = w.drewN n) (fun i _ => zs.length - (intOf i).toNat)
  case atStart => exact ⟨0, 0, by omega, rfl, rfl⟩
  case round =>
    obtain ⟨k, n, hk, rfl, rfl⟩ := hrel
    by_cases hlt : k < zs.length
    · obtain ⟨x, rfl, _, hx⟩ := Ha.out k hlt
      obtain ⟨y, rfl, _, hy⟩ := Hb.out k hlt
      have hi0 : (0 : Int) ≤ (k : Int) := by omega
      have hi1 : (k : Int) < (zs.length : Int) := by omega
      go_wp2
      go_quiet (fail)
      go_wp2
      go_roundw
      case rel => exact ⟨k + 1, _, by omega, by go_num, rfl⟩
      case measure => simp [intOf]; omega
    · go_wp2
      go_ret
      exact ⟨rfl, n, rfl⟩
end Go.Proofs.Ytbkcklefkhlciaa
