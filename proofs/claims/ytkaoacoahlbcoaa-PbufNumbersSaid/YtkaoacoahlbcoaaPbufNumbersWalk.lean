/-
  The walk of PbufNumbers: for every number, text and int it returns true, and leaves what lay in memory as it was.
-/
import Derived.Test.YtkaoacoahlbcoaaAlive10
namespace Go.Proofs.Ytkaoacoahlbcoaa
open Go.RowKit
set_option maxRecDepth 100000 in
set_option maxHeartbeats 400000 in
theorem pbufNumbers.walk (a0 : Int) (a1 : ByteArray) (a2 : Int) (w0 : (Lit.int .u64 a0).wf = true) (w1 : a1.size ≤ maxLen) (w2 : (Lit.int .i64 a2).wf = true) (w : World) :
    Calls Try.prog 3 #[.int .u64 a0, .string a1, .int .i64 a2] w fun e w' => e = .returned (.bool true) ∧ Below w.heap.size w w' := by
  have b0 := wf_u64 w0
  have b2 := wf_i64 w2
  obtain ⟨v, rfl⟩ := Int.eq_ofNat_of_zero_le b0.1
  clear w0 w2
  unfold maxLen at w1
  by_cases h3 : 300 < a1.size
  · go_enter Try.func3, Try.ntmps3
    go_wp2_with fail
    refine (alive_any _).mono ?_
    rintro e w1 ⟨rfl, hb⟩
    go_wp2
    go_ret
    exact ⟨rfl, hb⟩
  · go_enter Try.func3, Try.ntmps3
    go_wp2_with fail
    refine (getv_any _ _ (by unfold maxLen; omega)).mono ?_
    rintro e w1 ⟨rfl, rfl⟩
    go_wp2_with fail
    refine (refgetv_any _ _ (by unfold maxLen; omega)).mono ?_
    rintro e w1 ⟨rfl, rfl⟩
    go_wp2_with fail
    refine (putv_any v _ (by omega)).mono ?_
    rintro e w1 ⟨rfl, hb1⟩
    have hsz : (txt (pv v)).size ≤ 10 := by rw [txt_size]; exact pv_ten v (by omega)
    have hadd : ∀ wx, (Op.stringOp .add (txt (pv v)) a1).run Try.prog wx = .ok (.string (txt (pv v) ++ a1)) wx := fun wx => run_string_add_sum wx _ _ (by omega)
    have hz : gv (txt (pv v) ++ a1).data.toList = (v, (txt (pv v)).size, true) := by
      rw [txt_size, show (txt (pv v) ++ a1).data.toList = (pv v).map UInt8.ofNat ++ a1.data.toList from by simp [txt]]
      exact gv_back v _ (by omega)
    go_wp2_with fail
    refine (getv_any _ _ (by unfold maxLen; simp; omega)).mono ?_
    rintro e w2 ⟨rfl, rfl⟩
    rw [hz]
    go_wp2_with fail
    refine (alive_any _).mono ?_
    rintro e w2 ⟨rfl, hb2⟩
    have hb3 := hb1.trans (hb2.mono hb1.size)
    clear hb1 hb2 hz hadd
    obtain ⟨Z, hZ⟩ := Int.eq_ofNat_of_zero_le (zz_lo a2)
    have hZ1 := zz_hi a2 b2.1 b2.2
    rw [hZ] at hZ1
    have hZu : Hid (uz Z = a2) := Lib.hid (by have := uz_zz a2; rw [hZ] at this; exact this)
    have HZ := Lib.hid hZ
    clear hZ
    obtain ⟨U, hU⟩ : ∃ U, uz v = U := ⟨_, rfl⟩
    have u1 := uz_lo v (by omega)
    have u2 := uz_hi v (by omega)
    have hUz := zz_uz v
    rw [hU] at u1 u2 hUz
    have HU := Lib.hid hU
    have HUz := Lib.hid hUz
    clear hU hUz
    go_wp2_with fail
    refine (refputv_any v _ (by omega)).mono ?_
    rintro e w2 ⟨rfl, hb2⟩
    have hb4 := hb3.trans (hb2.mono hb3.size)
    clear hb3 hb2
    go_wp2_with fail
    refine (zz_any a2 _ b2.1 b2.2).mono ?_
    rintro e w3 ⟨rfl, rfl⟩
    rw [HZ.out]
    go_wp2_with fail
    refine (refzz_any a2 _ b2.1 b2.2).mono ?_
    rintro e w3 ⟨rfl, rfl⟩
    rw [HZ.out]
    go_wp2_with fail
    refine (uz_any v _ (by omega)).mono ?_
    rintro e w3 ⟨rfl, rfl⟩
    rw [HU.out]
    go_wp2_with fail
    refine (refuz_any v _ (by omega)).mono ?_
    rintro e w3 ⟨rfl, rfl⟩
    rw [HU.out]
    go_wp2_with fail
    refine (zz_any a2 _ b2.1 b2.2).mono ?_
    rintro e w3 ⟨rfl, rfl⟩
    rw [HZ.out]
    go_wp2_with fail
    refine (uz_any Z _ (by omega)).mono ?_
    rintro e w3 ⟨rfl, rfl⟩
    rw [hZu.out]
    go_wp2_with fail
    refine (uz_any v _ (by omega)).mono ?_
    rintro e w3 ⟨rfl, rfl⟩
    rw [HU.out]
    go_wp2_with fail
    refine (zz_any U _ u1 u2).mono ?_
    rintro e w3 ⟨rfl, rfl⟩
    rw [HUz.out]
    go_wp2
    go_ret
    exact ⟨rfl, hb4⟩
end Go.Proofs.Ytkaoacoahlbcoaa
