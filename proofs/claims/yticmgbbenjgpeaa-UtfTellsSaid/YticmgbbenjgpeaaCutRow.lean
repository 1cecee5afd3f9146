/-
  The front of a slice of the call's own: what 'l[:k]' is, and what it holds.
-/
import Derived.Test.YticmgbbenjgpeaaRefRead
import Derived.Test.YticmgbbenjgpeaaAlike
namespace Go.Proofs.Yticmgbbenjgpeaa
open Go.RowKit
theorem holds_keep {W W' : World} {v : Value} {zs : List Int} (h : Holds W v zs) (hb : Below W.heap.size W W') : Holds W' v zs := by
  rcases h with h | ⟨g, cap, rfl, hc, hg⟩
  · exact .inl h
  · refine .inr ⟨g, cap, rfl, hc, fun i hi => ?_⟩
    have := hg i hi
    exact (hb.cell (p := ⟨g, i, none⟩) (World.block_lt_of_cell? W _ this)).trans this
theorem cut_own {B : Nat} {W : World} {v : Value} {l : List Int} (k : Nat) (h : OwnZ B W v l) (hk : k ≤ l.length) (hl : l.length ≤ 1000000) :
    ∃ a c V, v = .slice a l.length c ∧ (∀ wx, (Instr.slice 25 (.slice a l.length c) none (some (.int .i64 (k : Int))) none).run Try.prog wx = .ok V wx) ∧ Holds W V (l.take k) := by
  rcases h.2 with ⟨rfl, h0⟩ | ⟨g, cap, cur, rfl, _, hg, hc, hx, ht⟩
  · have hl0 : l = [] := List.eq_nil_of_length_eq_zero h0
    subst hl0
    obtain rfl : k = 0 := by simpa using hk
    refine ⟨none, 0, .slice none 0 0, rfl, fun wx => by kernel_rfl, .inl ⟨rfl, rfl⟩⟩
  · refine ⟨_, cap, .slice (some ⟨g, 0, none⟩) k cap, rfl, fun wx => ?_, ?_⟩
    · refine (run_slice_h (P := Try.prog) (w := wx) 25 (some ⟨g, 0, none⟩) l.length cap (by kernel_rfl) .i64 (k : Int) (by omega) (by omega)).trans ?_
      have hs : (sizeOf (Try.prog.elem 25)).run Try.prog wx = .ok 1 wx := by kernel_rfl
      rw [hs]
      simp only [Result.andThen, sliced, Nat.zero_mul, Nat.sub_zero, Int.toNat_natCast]
      congr 1
      by_cases h0 : cap = 0
      · rw [if_pos h0]
      · rw [if_neg h0]; rfl
    · rcases holds_own (zs := l) h rfl with ⟨h1, _⟩ | ⟨g', cap', h1, h2, h3⟩
      · cases h1
      · cases h1
        have hlen : (l.take k).length = k := by simp; omega
        refine .inr ⟨g, cap, by rw [hlen], by omega, fun i hi => ?_⟩
        rw [h3 i (by omega)]
        congr 2
        rw [List.getD_eq_getElem?_getD, List.getD_eq_getElem?_getD, List.getElem?_take, if_pos (by omega)]
end Go.Proofs.Yticmgbbenjgpeaa
