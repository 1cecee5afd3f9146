/-
  The walk of UtfJoin: for every two texts it returns true, and leaves what lay in memory as it was.
-/
import Derived.Test.YticmgbbenjgpeaaAlive6
namespace Go.Proofs.Yticmgbbenjgpeaa
open Go.RowKit
theorem list_app (a b : ByteArray) : (a ++ b).data.toList = a.data.toList ++ b.data.toList := by simp
theorem list_len (a : ByteArray) : a.data.toList.length = a.size := rfl
set_option maxRecDepth 100000 in
set_option maxHeartbeats 2000000 in
theorem utfJoin.walk (a0 : ByteArray) (a1 : ByteArray) (w0 : a0.size ≤ maxLen) (w1 : a1.size ≤ maxLen) (w : World) :
    Calls Try.prog 6 #[.string a0, .string a1] w fun e w' => e = .returned (.bool true) ∧ Below w.heap.size w w' := by
  unfold maxLen at w0 w1
  by_cases h0 : 1000 < a0.size
  · go_enter Try.func6, Try.ntmps6
    go_wp2_with fail
    refine (alive_any _).mono ?_
    rintro e w1 ⟨rfl, hb⟩
    go_wp2
    go_ret
    exact ⟨rfl, hb⟩
  · by_cases h1 : 1000 < a1.size
    · go_enter Try.func6, Try.ntmps6
      go_wp2_with fail
      refine (alive_any _).mono ?_
      rintro e w1 ⟨rfl, hb⟩
      go_wp2
      go_ret
      exact ⟨rfl, hb⟩
    · have hadd : ∀ wx, (Op.stringOp .add a0 a1).run Try.prog wx = .ok (.string (a0 ++ a1)) wx := fun wx => run_string_add_sum wx _ _ (by omega)
      have hsz : (a0 ++ a1).size = a0.size + a1.size := by simp
      have hle := uEnd_le a0.data.toList
      rw [list_len] at hle
      have Hsz := Lib.hid hsz
      have hsz2 : (a0 ++ a1).size ≤ 2000 := by omega
      clear hsz
      obtain ⟨E0, hE0⟩ : ∃ E0, uEnd a0.data.toList = E0 := ⟨_, rfl⟩
      obtain ⟨E1, hE1⟩ : ∃ E1, uEnd a1.data.toList = E1 := ⟨_, rfl⟩
      obtain ⟨E2, hE2⟩ : ∃ E2, uEnd (a0 ++ a1).data.toList = E2 := ⟨_, rfl⟩
      obtain ⟨N0, hN0⟩ : ∃ N0, (uRunes a0.data.toList 0).length = N0 := ⟨_, rfl⟩
      obtain ⟨N1, hN1⟩ : ∃ N1, (uRunes a1.data.toList 0).length = N1 := ⟨_, rfl⟩
      obtain ⟨N2, hN2⟩ : ∃ N2, (uRunes (a0 ++ a1).data.toList 0).length = N2 := ⟨_, rfl⟩
      have hlt2 := uEnd_le (a0 ++ a1).data.toList
      have hlt1 := uEnd_le a1.data.toList
      have hn0 := uRunes_le_end _ a0.data.toList 0 (Nat.le_refl _)
      have hn1 := uRunes_length a1.data.toList 0
      rw [hE0, hN0] at hn0
      rw [hE0] at hle
      rw [list_len, hE1] at hlt1
      rw [list_len, hN1] at hn1
      by_cases hw : E0 = a0.size
      · have he2 : E2 = a0.size + E1 := by rw [← hE2, list_app, uEnd_app _ _ _ (Nat.le_refl _) (by rw [hE0, list_len]; exact hw), hE1, list_len]
        have hn2 : N2 = N0 + N1 := by
          rw [← hN2, list_app, uRunes_app _ _ _ 0 (Nat.le_refl _) (by rw [hE0, list_len]; exact hw), List.length_append, hN0, uRunes_count _ _ _ 0 (Nat.le_refl _), hN1]
        have hyz : ((E2 : Int) == ((a0 ++ a1).size : Int)) = ((E1 : Int) == (a1.size : Int)) := by
          rw [Bool.eq_iff_iff]
          simp only [beq_iff_eq]
          have := Hsz.out
          omega
        obtain ⟨Y, hY⟩ : ∃ Y, ((E1 : Int) == (a1.size : Int)) = Y := ⟨_, rfl⟩
        rw [hY] at hyz
        have hb1 : ((E0 : Int) == (a0.size : Int)) = true := by simp [hw]
        have HE0 := Lib.hid hE0; have HE1 := Lib.hid hE1; have HE2 := Lib.hid hE2
        have HN0 := Lib.hid hN0; have HN1 := Lib.hid hN1; have HN2 := Lib.hid hN2
        have HY := Lib.hid hY; have HYZ := Lib.hid hyz; have HB := Lib.hid hb1
        have Hw := Lib.hid hw; have He2 := Lib.hid he2; have Hn2 := Lib.hid hn2
        have hq : ((E0 : Int) == (a0.size : Int)) = true := by simp [hw]
        clear hE0 hE1 hE2 hN0 hN1 hN2 hY hyz hb1 hw he2 hn2 hq hlt2
        go_enter Try.func6, Try.ntmps6
        go_wp2_with fail
        refine (alive_any _).mono ?_
        rintro e w1 ⟨rfl, b1⟩
        go_wp2_with fail
        refine (check_any _ (by omega) _).mono ?_
        rintro e w2 ⟨rfl, b2⟩
        have c2 := b1.trans (b2.mono b1.size)
        clear b1 b2
        rw [HE0.out, HB.out, Hw.out]
        go_wp2_with fail
        refine (check_any _ (by omega) _).mono ?_
        rintro e w3 ⟨rfl, b3⟩
        have c3 := c2.trans (b3.mono c2.size)
        clear c2 b3
        rw [HE1.out, HY.out]
        go_wp2_with fail
        refine (check_any _ (by omega) _).mono ?_
        rintro e w4 ⟨rfl, b4⟩
        have c4 := c3.trans (b4.mono c3.size)
        clear c3 b4
        rw [HE2.out, HYZ.out, He2.out]
        go_wp2_with fail
        refine (count_any _ (by omega) _).mono ?_
        rintro e w5 ⟨rfl, b5⟩
        have c5 := c4.trans (b5.mono c4.size)
        clear c4 b5
        rw [HN2.out, Hn2.out]
        go_wp2_with fail
        refine (count_any _ (by omega) _).mono ?_
        rintro e w6 ⟨rfl, b6⟩
        have c6 := c5.trans (b6.mono c5.size)
        clear c5 b6
        rw [HN0.out]
        go_wp2_with fail
        refine (count_any _ (by omega) _).mono ?_
        rintro e w7 ⟨rfl, b7⟩
        have c7 := c6.trans (b7.mono c6.size)
        clear c6 b7
        rw [HN1.out]
        go_wp2
        go_ret
        exact ⟨rfl, c7⟩
      · have hb1 : ((E0 : Int) == (a0.size : Int)) = false := by simp; omega
        have hlt : E0 < a0.size := by omega
        obtain ⟨Y1, hY1⟩ : ∃ Y, ((E1 : Int) == (a1.size : Int)) = Y := ⟨_, rfl⟩
        obtain ⟨Y2, hY2⟩ : ∃ Y, ((E2 : Int) == ((a0 ++ a1).size : Int)) = Y := ⟨_, rfl⟩
        have HE0 := Lib.hid hE0; have HE1 := Lib.hid hE1; have HE2 := Lib.hid hE2
        have HN0 := Lib.hid hN0; have HB := Lib.hid hb1
        have HY1 := Lib.hid hY1; have HY2 := Lib.hid hY2
        clear hE0 hE1 hE2 hN0 hN1 hN2 hY1 hY2 hb1 hw hlt2 hle
        go_enter Try.func6, Try.ntmps6
        go_wp2_with fail
        refine (alive_any _).mono ?_
        rintro e w1 ⟨rfl, b1⟩
        go_wp2_with fail
        refine (check_any _ (by omega) _).mono ?_
        rintro e w2 ⟨rfl, b2⟩
        have c2 := b1.trans (b2.mono b1.size)
        clear b1 b2
        rw [HE0.out, HB.out]
        go_wp2_with fail
        refine (check_any _ (by omega) _).mono ?_
        rintro e w3 ⟨rfl, b3⟩
        have c3 := c2.trans (b3.mono c2.size)
        clear c2 b3
        rw [HE1.out, HY1.out]
        go_wp2_with fail
        refine (check_any _ (by omega) _).mono ?_
        rintro e w4 ⟨rfl, b4⟩
        have c4 := c3.trans (b4.mono c3.size)
        clear c3 b4
        rw [HE2.out, HY2.out]
        go_wp2_with fail
        refine (count_any _ (by omega) _).mono ?_
        rintro e w5 ⟨rfl, b5⟩
        have c5 := c4.trans (b5.mono c4.size)
        clear c4 b5
        rw [HN0.out]
        go_wp2
        go_ret
        exact ⟨rfl, c5⟩
end Go.Proofs.Yticmgbbenjgpeaa
