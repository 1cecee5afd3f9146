/-
  The walk of PbufFields: for every field, every text and every number it returns true, and leaves what lay in memory as it was.
-/
import Derived.Test.YtkaoacoahlbcoaaPbufFieldsMA
import Derived.Test.YtkaoacoahlbcoaaPbufFieldsMB
namespace Go.Proofs.Ytkaoacoahlbcoaa
open Go.RowKit
set_option maxRecDepth 100000 in
set_option maxHeartbeats 1000000 in
theorem pbufFields.walk (p : FdI) (b : ByteArray) (stop : Int) (w : World) (hp : p.ok) (hb : b.size ≤ maxLen) (h0 : (Lit.int .i64 stop).wf = true) :
    Calls Try.prog 4 #[.agg #[.int .i64 p.num, .int .i64 p.kind, .int .i64 p.at_, .int .u64 p.val, .string p.data], .string b, .int .i64 stop] w fun e w' => e = .returned (.bool true) ∧ Below w.heap.size w w' := by
  obtain ⟨hs0, hs1⟩ := wf_i64 h0
  unfold maxLen at hb
  have hp2 := hp.2
  unfold maxLen at hp2
  by_cases h5 : 500 < p.data.size
  · have hdd : decide (500 < (p.data.size : Int)) = true := by simp; omega
    clear hp h0
    go_enter Try.func4, Try.ntmps4
    go_wp2_with fail
    refine (alive_any _).mono ?_
    rintro e w1 ⟨rfl, hb1⟩
    obtain ⟨_, hb2, _⟩ := fbox hb1
    go_wp2
    go_ret
    exact ⟨rfl, hb2⟩
  · by_cases h3 : 3000 < b.size
    · have hdd : decide (500 < (p.data.size : Int)) = false := by simp; omega
      have hbd : decide (3000 < (b.size : Int)) = true := by simp; omega
      clear hp h0
      go_enter Try.func4, Try.ntmps4
      go_wp2_with fail
      refine (alive_any _).mono ?_
      rintro e w1 ⟨rfl, hb1⟩
      obtain ⟨_, hb2, _⟩ := fbox hb1
      go_wp2
      go_ret
      exact ⟨rfl, hb2⟩
    · have hz : ∃ z : Nat, (stop ≤ 0 ∧ z = (pall b).length) ∨ (0 < stop ∧ stop = (z : Int) ∧ z < (pall b).length) ∨ (0 < stop ∧ ((pall b).length : Int) ≤ stop ∧ z = (pall b).length) := by
        by_cases hs : stop ≤ 0
        · exact ⟨_, .inl ⟨hs, rfl⟩⟩
        · by_cases hl : stop < (pall b).length
          · exact ⟨stop.toNat, .inr (.inl ⟨by omega, by omega, by omega⟩)⟩
          · exact ⟨_, .inr (.inr ⟨by omega, by omega, rfl⟩)⟩
      obtain ⟨z, hz⟩ := hz
      have hsh := pfrom_shape b b.size 0 (by omega)
      rw [← pall_small b (by omega)] at hsh
      obtain ⟨l, ha | ⟨q, ha⟩⟩ := hsh
      · exact pbufFields.mainA p b stop w hp (by omega) (by omega) hs0 hs1 l ha z hz
      · exact pbufFields.mainB p b stop w hp (by omega) (by omega) hs0 hs1 l q ha z hz
end Go.Proofs.Ytkaoacoahlbcoaa
