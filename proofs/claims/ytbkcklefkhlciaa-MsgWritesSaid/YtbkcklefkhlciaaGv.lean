/-
  The two readers of a number in groups of seven bits: pbuf's and the document's own. Each returns what gv says of the text's bytes, and leaves the world as it is.
-/
import Derived.Test.YtbkcklefkhlciaaRows
import Derived.Test.YtbkcklefkhlciaaPbMath
import Derived.WalkKit
import Derived.WalkSpells
import Derived.WalkLawsBesides
import Derived.Lib.Hide
namespace Go.Proofs.Ytbkcklefkhlciaa
open Go.RowKit

set_option maxRecDepth 100000 in
set_option maxHeartbeats 400000 in
theorem getv_any (s : ByteArray) (w : World) (hs : s.size ≤ maxLen) :
    Calls Try.prog 48 #[.string s] w fun e w' => e = .returned (.tuple #[.int .u64 (gv s.data.toList).1, .int .i64 (gv s.data.toList).2.1, .bool (gv s.data.toList).2.2]) ∧ w = w' := by
  unfold maxLen at hs
  by_cases hsz : s.size ≤ 10
  all_goals
    go_enter Try.func48, Try.ntmps48
    go_wp2
    go_loop [5, 11] (fun v i => ∃ k V : Nat, k ≤ 9 ∧ k ≤ s.size ∧ Hid (V < 128 ^ k) ∧ i = .int .i64 k ∧ v = .int .u64 V ∧ Hid (gv s.data.toList = gvFrom (s.data.toList.drop k) k V)) (fun _ i => 10 - (intOf i).toNat)
    case atStart => exact ⟨0, 0, by omega, by omega, Lib.hid (by simp), rfl, rfl, Lib.hid rfl⟩
    case round =>
      obtain ⟨k, V, hk9, hk, hV, rfl, rfl, hd⟩ := hrel
      by_cases hlt : k < s.size
      · have hb : s[k].toNat < 256 := UInt8.toNat_lt _
        have hst := Lib.hid (drop_step s k hlt)
        by_cases h9 : k = 9
        · by_cases h1 : 1 < s[k].toNat
          · subst h9
            have hv : Hid (gv s.data.toList = (0, 0, false)) := Lib.hid (by rw [hd.out, hst.out, gv_nine _ _ _ _ rfl h1])
            clear hd hst hV
            go_wp2
            go_ret3
            exact ⟨by rw [hv.out]; rfl, rfl⟩
          · subst h9
            have hv : Hid (gv s.data.toList = (V + s[9].toNat % 128 * 128 ^ 9, 9 + 1, true)) := Lib.hid (by rw [hd.out, hst.out, gv_last _ _ _ _ (by omega) (by omega) (by omega)])
            have ha := Lib.hid (acc_or9 V s[9].toNat hV.out (by omega))
            clear hd hst hV
            go_wp2
            go_ret3
            exact ⟨by rw [hv.out, ha.out]; rfl, rfl⟩
        · have h9' : ((k : Int) == 9) = false := by simp; omega
          have ha := Lib.hid (acc_or V s[k].toNat k hV.out hk9 (by omega) hb)
          by_cases h128 : s[k].toNat < 128
          · have hv : Hid (gv s.data.toList = (V + s[k].toNat % 128 * 128 ^ k, k + 1, true)) := Lib.hid (by rw [hd.out, hst.out, gv_last _ _ _ _ (by omega) (by omega) (by omega)])
            clear hd hst hV
            go_wp2
            go_ret3
            exact ⟨by rw [hv.out, ha.out]; rfl, rfl⟩
          · have hv : Hid (gv s.data.toList = gvFrom (s.data.toList.drop (k + 1)) (k + 1) (V + s[k].toNat % 128 * 128 ^ k)) := Lib.hid (by rw [hd.out, hst.out, gv_more _ _ _ _ (by omega) (by omega)])
            have hV' := Lib.hid (acc_lt V s[k].toNat k hV.out)
            clear hd hst hV
            go_wp2
            go_round
            case rel => exact ⟨k + 1, _, by omega, by omega, hV', by go_num, by rw [ha.out], hv⟩
            case measure => simp [intOf]; omega
      · have hv : Hid (gv s.data.toList = (0, 0, false)) := Lib.hid (by rw [hd.out, List.drop_eq_nil_of_le (by simp; omega), gv_end])
        clear hd hV
        go_wp2
        all_goals
          go_ret3
          exact ⟨by rw [hv.out]; rfl, rfl⟩

end Go.Proofs.Ytbkcklefkhlciaa
