/-
  Law 7: a text that is escaped.
-/
import Derived.Test.YtkebjllehegjlaaGreatDoorXj
import Derived.Test.YtkebjllehegjlaaGreatDoorXd
import Derived.Test.YtkebjllehegjlaaGreatDoorXk
namespace Go.Proofs.YtkebjllehegjlaaGreatDoor
open Go.RowKit Go.Shelf
set_option linter.unusedVariables false
/-- How a byte is escaped. -/
def escF (q : Bool) (c : UInt8) : List UInt8 :=
  if c.toNat = 38 then [38, 97, 109, 112, 59] else if c.toNat = 60 then [38, 108, 116, 59] else if c.toNat = 62 then [38, 103, 116, 59] else if c.toNat = 13 then [38, 35, 49, 51, 59] else if c.toNat = 34 ∧ q = true then [38, 113, 117, 111, 116, 59] else if c.toNat = 9 ∧ q = true then [38, 35, 57, 59] else if c.toNat = 10 ∧ q = true then [38, 35, 49, 48, 59] else [c]
theorem esc_len (q : Bool) (c : UInt8) : (escF q c).length ≤ 6 := by
  unfold escF
  (repeat' split) <;> simp
theorem esc_app (q : Bool) (l : List UInt8) (i : Nat) (h : i < l.length) : (l.take (i + 1)).flatMap (escF q) = (l.take i).flatMap (escF q) ++ escF q l[i] := by
  rw [List.take_succ_eq_append_getElem h, List.flatMap_append]
  simp
set_option maxRecDepth 100000 in
set_option maxHeartbeats 16000000 in
theorem escape_any (s : ByteArray) (q : Bool) (hs : s.size ≤ 100000) (w : World) :
    Calls Tryz.prog 7 #[.string s, .bool q] w fun e w' => e = .returned (.string ⟨(s.data.toList.flatMap (escF q)).toArray⟩) ∧ Below w.heap.size w w' := by
  obtain ⟨n, hsn⟩ : ∃ n, s.size = n := ⟨_, rfl⟩
  have hsi : (s.size : Int) = (n : Int) := by rw [hsn]
  have Hsn := Lib.hid hsn
  have hn5 : n ≤ 100000 := by omega
  have h0 := Lib.hid (bd_new w w.heap.size (Nat.le_refl _))
  have hb0 := Lib.hid ((Below.refl w.heap.size w).alloc (Nat.le_refl _) (.cells #[.pointer none, .slice none 0 0] 49))
  have HWS : Hid (∀ (t u : ByteArray) (W : World), IsBd w.heap.size w.heap.size t W → Below w.heap.size w W → t.size + u.size ≤ 1000000 → Calls Tryz.prog 13 #[.pointer (some ⟨w.heap.size, 0, none⟩), .string u] W fun e w' => e = .returned (.tuple #[.int .i64 u.size, .nilIface]) ∧ IsBd w.heap.size w.heap.size (t ++ u) w' ∧ Below w.heap.size w w') := Lib.hid (fun t u W h hb ht =>
    (ws_any w.heap.size w.heap.size t u W h (by omega) (by have := hb.size; omega)).mono fun e w' hh => ⟨hh.1, hh.2.1, hb.trans hh.2.2⟩)
  have HWB : Hid (∀ (t : ByteArray) (y : UInt8) (W : World), IsBd w.heap.size w.heap.size t W → Below w.heap.size w W → t.size ≤ 1000000 → Calls Tryz.prog 14 #[.pointer (some ⟨w.heap.size, 0, none⟩), .int .u8 (y.toNat : Int)] W fun e w' => e = .returned .nilIface ∧ IsBd w.heap.size w.heap.size (t.push y) w' ∧ Below w.heap.size w w') := Lib.hid (fun t y W h hb ht =>
    (wb_any w.heap.size w.heap.size t y.toNat W (UInt8.toNat_lt _) h (by omega) (by have := hb.size; omega)).mono fun e w' hh => ⟨hh.1, by have := hh.2.1; rwa [UInt8.ofNat_toNat] at this, hb.trans hh.2.2⟩)
  have HST : Hid (∀ (t : ByteArray) (W : World), IsBd w.heap.size w.heap.size t W → Below w.heap.size w W → Calls Tryz.prog 15 #[.pointer (some ⟨w.heap.size, 0, none⟩)] W fun e w' => e = .returned (.string t) ∧ Below w.heap.size w w') := Lib.hid (fun t W h hb =>
    (str_any w.heap.size w.heap.size t W h (by have := hb.size; omega)).mono fun e w' hh => ⟨hh.1, hb.trans hh.2.2⟩)
  clear hs hsn
  go_enter Tryz.func7, Tryz.ntmps7
  go_wp2_with fail
  go_loopw [10] (fun iv wr => ∃ (i : Nat) (t : ByteArray), iv = .int .i64 (i : Int) ∧ i ≤ n ∧ Hid (t.data.toList = (s.data.toList.take i).flatMap (escF q)) ∧ Hid (IsBd w.heap.size w.heap.size t wr) ∧ Hid (Below w.heap.size w wr) ∧ t.size ≤ 6 * i) (fun iv _ => n - (intOf iv).toNat)
  case atStart => exact ⟨0, ⟨#[]⟩, rfl, Nat.zero_le _, Lib.hid (by simp), h0, hb0, by decide⟩
  case round =>
    clear h0 hb0
    obtain ⟨i, t, rfl, hin, HT, HI, HB, hts⟩ := hrel
    by_cases hend : i = n
    · have hnl : ¬ (i : Int) < (n : Int) := by omega
      have HE : Hid (t = ⟨(s.data.toList.flatMap (escF q)).toArray⟩) := Lib.hid (by
        cases t with | mk d =>
        have h1 := HT.out
        rw [List.take_of_length_le (by have := Hsn.out; simp; omega)] at h1
        rw [← h1])
      go_wp2_with fail
      refine (HST.out _ _ HI.out HB.out).mono ?_
      rintro e w1 ⟨rfl, hb⟩
      have HB1 := Lib.hid hb
      clear hb
      go_wp2_with fail
      go_ret
      exact ⟨by rw [HE.out]; rfl, HB1.out⟩
    · have hji : (i : Int) < (n : Int) := by omega
      have hks : i < s.size := by have := Hsn.out; omega
      have hi0 : (0 : Int) ≤ (i : Int) := by omega
      have hi5 : i ≤ 100000 := by omega
      have hil : i < s.data.toList.length := by simpa using hks
      obtain ⟨y, hy⟩ : ∃ y, s[i] = y := ⟨_, rfl⟩
      have hy2 : s.data.toList[i] = y := by
        have h1 := toList_atx s i hks
        rw [hy, List.getElem?_eq_getElem hil] at h1
        injection h1
      have HN : Hid (∀ u : ByteArray, u.data.toList = t.data.toList ++ escF q y → u.data.toList = (s.data.toList.take (i + 1)).flatMap (escF q)) := Lib.hid (fun u hu => by rw [hu, HT.out, esc_app q _ i hil, hy2])
      obtain ⟨C, hC⟩ : ∃ C : Int, (y.toNat : Int) = C := ⟨_, rfl⟩
      have hC2 : C < 256 := by have := y.toNat_lt; omega
      clear HT hy2
      cases q with
      | true =>
        by_cases n38 : y.toNat = 38
        · have hc := n38
          clear n38
          have hC1 : C = 38 := by omega
          subst hC1
          have HE : escF true y = [38, 97, 109, 112, 59] := by unfold escF; simp [hc]
          have HN2 := Lib.hid (HN.out (t ++ ⟨#[38, 97, 109, 112, 59]⟩) (by rw [ByteArray.toList_data_append, HE]))
          have hsz : (t ++ (⟨#[38, 97, 109, 112, 59]⟩ : ByteArray)).size ≤ 6 * (i + 1) := by rw [ByteArray.size_append]; show t.size + 5 ≤ _; omega
          clear HE HN hc
          go_wp2_with fail
          refine (HWS.out t _ _ HI.out HB.out (by show t.size + 5 ≤ _; omega)).mono ?_
          rintro e w1 ⟨rfl, h1, h2⟩
          have K1 := Lib.hid h1; have K2 := Lib.hid h2
          clear h1 h2
          go_wp2_with fail
          exact ⟨⟨i + 1, t ++ ⟨#[38, 97, 109, 112, 59]⟩, rfl, by omega, HN2, K1, K2, hsz⟩, by simp [intOf]; omega⟩
        · have e38 : (C == 38) = false := by simpa using (show ¬ C = 38 by omega)
          by_cases n60 : y.toNat = 60
          · have hc := n60
            clear n60
            have hC1 : C = 60 := by omega
            subst hC1
            have HE : escF true y = [38, 108, 116, 59] := by unfold escF; simp [hc]
            have HN2 := Lib.hid (HN.out (t ++ ⟨#[38, 108, 116, 59]⟩) (by rw [ByteArray.toList_data_append, HE]))
            have hsz : (t ++ (⟨#[38, 108, 116, 59]⟩ : ByteArray)).size ≤ 6 * (i + 1) := by rw [ByteArray.size_append]; show t.size + 4 ≤ _; omega
            clear HE HN hc n38
            go_wp2_with fail
            refine (HWS.out t _ _ HI.out HB.out (by show t.size + 4 ≤ _; omega)).mono ?_
            rintro e w1 ⟨rfl, h1, h2⟩
            have K1 := Lib.hid h1; have K2 := Lib.hid h2
            clear h1 h2
            go_wp2_with fail
            exact ⟨⟨i + 1, t ++ ⟨#[38, 108, 116, 59]⟩, rfl, by omega, HN2, K1, K2, hsz⟩, by simp [intOf]; omega⟩
          · have e60 : (C == 60) = false := by simpa using (show ¬ C = 60 by omega)
            by_cases n62 : y.toNat = 62
            · have hc := n62
              clear n62
              have hC1 : C = 62 := by omega
              subst hC1
              have HE : escF true y = [38, 103, 116, 59] := by unfold escF; simp [hc]
              have HN2 := Lib.hid (HN.out (t ++ ⟨#[38, 103, 116, 59]⟩) (by rw [ByteArray.toList_data_append, HE]))
              have hsz : (t ++ (⟨#[38, 103, 116, 59]⟩ : ByteArray)).size ≤ 6 * (i + 1) := by rw [ByteArray.size_append]; show t.size + 4 ≤ _; omega
              clear HE HN hc n38 n60
              go_wp2_with fail
              refine (HWS.out t _ _ HI.out HB.out (by show t.size + 4 ≤ _; omega)).mono ?_
              rintro e w1 ⟨rfl, h1, h2⟩
              have K1 := Lib.hid h1; have K2 := Lib.hid h2
              clear h1 h2
              go_wp2_with fail
              exact ⟨⟨i + 1, t ++ ⟨#[38, 103, 116, 59]⟩, rfl, by omega, HN2, K1, K2, hsz⟩, by simp [intOf]; omega⟩
            · have e62 : (C == 62) = false := by simpa using (show ¬ C = 62 by omega)
              by_cases n13 : y.toNat = 13
              · have hc := n13
                clear n13
                have hC1 : C = 13 := by omega
                subst hC1
                have HE : escF true y = [38, 35, 49, 51, 59] := by unfold escF; simp [hc]
                have HN2 := Lib.hid (HN.out (t ++ ⟨#[38, 35, 49, 51, 59]⟩) (by rw [ByteArray.toList_data_append, HE]))
                have hsz : (t ++ (⟨#[38, 35, 49, 51, 59]⟩ : ByteArray)).size ≤ 6 * (i + 1) := by rw [ByteArray.size_append]; show t.size + 5 ≤ _; omega
                clear HE HN hc n38 n60 n62
                go_wp2_with fail
                refine (HWS.out t _ _ HI.out HB.out (by show t.size + 5 ≤ _; omega)).mono ?_
                rintro e w1 ⟨rfl, h1, h2⟩
                have K1 := Lib.hid h1; have K2 := Lib.hid h2
                clear h1 h2
                go_wp2_with fail
                exact ⟨⟨i + 1, t ++ ⟨#[38, 35, 49, 51, 59]⟩, rfl, by omega, HN2, K1, K2, hsz⟩, by simp [intOf]; omega⟩
              · have e13 : (C == 13) = false := by simpa using (show ¬ C = 13 by omega)
                by_cases n34 : y.toNat = 34
                · have hc := n34
                  clear n34
                  have hC1 : C = 34 := by omega
                  subst hC1
                  have HE : escF true y = [38, 113, 117, 111, 116, 59] := by unfold escF; simp [hc]
                  have HN2 := Lib.hid (HN.out (t ++ ⟨#[38, 113, 117, 111, 116, 59]⟩) (by rw [ByteArray.toList_data_append, HE]))
                  have hsz : (t ++ (⟨#[38, 113, 117, 111, 116, 59]⟩ : ByteArray)).size ≤ 6 * (i + 1) := by rw [ByteArray.size_append]; show t.size + 6 ≤ _; omega
                  clear HE HN hc n38 n60 n62 n13
                  go_wp2_with fail
                  refine (HWS.out t _ _ HI.out HB.out (by show t.size + 6 ≤ _; omega)).mono ?_
                  rintro e w1 ⟨rfl, h1, h2⟩
                  have K1 := Lib.hid h1; have K2 := Lib.hid h2
                  clear h1 h2
                  go_wp2_with fail
                  exact ⟨⟨i + 1, t ++ ⟨#[38, 113, 117, 111, 116, 59]⟩, rfl, by omega, HN2, K1, K2, hsz⟩, by simp [intOf]; omega⟩
                · have e34 : (C == 34) = false := by simpa using (show ¬ C = 34 by omega)
                  by_cases n9 : y.toNat = 9
                  · have hc := n9
                    clear n9
                    have hC1 : C = 9 := by omega
                    subst hC1
                    have HE : escF true y = [38, 35, 57, 59] := by unfold escF; simp [hc]
                    have HN2 := Lib.hid (HN.out (t ++ ⟨#[38, 35, 57, 59]⟩) (by rw [ByteArray.toList_data_append, HE]))
                    have hsz : (t ++ (⟨#[38, 35, 57, 59]⟩ : ByteArray)).size ≤ 6 * (i + 1) := by rw [ByteArray.size_append]; show t.size + 4 ≤ _; omega
                    clear HE HN hc n38 n60 n62 n13 n34
                    go_wp2_with fail
                    refine (HWS.out t _ _ HI.out HB.out (by show t.size + 4 ≤ _; omega)).mono ?_
                    rintro e w1 ⟨rfl, h1, h2⟩
                    have K1 := Lib.hid h1; have K2 := Lib.hid h2
                    clear h1 h2
                    go_wp2_with fail
                    exact ⟨⟨i + 1, t ++ ⟨#[38, 35, 57, 59]⟩, rfl, by omega, HN2, K1, K2, hsz⟩, by simp [intOf]; omega⟩
                  · have e9 : (C == 9) = false := by simpa using (show ¬ C = 9 by omega)
                    by_cases n10 : y.toNat = 10
                    · have hc := n10
                      clear n10
                      have hC1 : C = 10 := by omega
                      subst hC1
                      have HE : escF true y = [38, 35, 49, 48, 59] := by unfold escF; simp [hc]
                      have HN2 := Lib.hid (HN.out (t ++ ⟨#[38, 35, 49, 48, 59]⟩) (by rw [ByteArray.toList_data_append, HE]))
                      have hsz : (t ++ (⟨#[38, 35, 49, 48, 59]⟩ : ByteArray)).size ≤ 6 * (i + 1) := by rw [ByteArray.size_append]; show t.size + 5 ≤ _; omega
                      clear HE HN hc n38 n60 n62 n13 n34 n9
                      go_wp2_with fail
                      refine (HWS.out t _ _ HI.out HB.out (by show t.size + 5 ≤ _; omega)).mono ?_
                      rintro e w1 ⟨rfl, h1, h2⟩
                      have K1 := Lib.hid h1; have K2 := Lib.hid h2
                      clear h1 h2
                      go_wp2_with fail
                      exact ⟨⟨i + 1, t ++ ⟨#[38, 35, 49, 48, 59]⟩, rfl, by omega, HN2, K1, K2, hsz⟩, by simp [intOf]; omega⟩
                    · have e10 : (C == 10) = false := by simpa using (show ¬ C = 10 by omega)
                      have HE : escF true y = [y] := by unfold escF; simp [n38, n60, n62, n13, n34, n9, n10]
                      have HN2 := Lib.hid (HN.out (t.push y) (by rw [ByteArray.data_push, Array.toList_push, HE]))
                      have hsz : (t.push y).size ≤ 6 * (i + 1) := by rw [ByteArray.size_push]; omega
                      have HWB2 := Lib.hid (HWB.out t y)
                      rw [hC] at HWB2
                      have e38 : (C == 38) = false := by simpa using (show ¬ C = 38 by omega)
                      have e60 : (C == 60) = false := by simpa using (show ¬ C = 60 by omega)
                      have e62 : (C == 62) = false := by simpa using (show ¬ C = 62 by omega)
                      have e13 : (C == 13) = false := by simpa using (show ¬ C = 13 by omega)
                      have e34 : (C == 34) = false := by simpa using (show ¬ C = 34 by omega)
                      have e9 : (C == 9) = false := by simpa using (show ¬ C = 9 by omega)
                      have e10 : (C == 10) = false := by simpa using (show ¬ C = 10 by omega)
                      clear HE HN n38 n60 n62 n13 n34 n9 n10
                      go_wp2_with fail
                      refine (HWB2.out _ HI.out HB.out (by omega)).mono ?_
                      rintro e w1 ⟨rfl, h1, h2⟩
                      have K1 := Lib.hid h1; have K2 := Lib.hid h2
                      clear h1 h2
                      go_wp2_with fail
                      exact ⟨⟨i + 1, t.push y, rfl, by omega, HN2, K1, K2, hsz⟩, by simp [intOf]; omega⟩
      | false =>
        by_cases n38 : y.toNat = 38
        · have hc := n38
          clear n38
          have hC1 : C = 38 := by omega
          subst hC1
          have HE : escF false y = [38, 97, 109, 112, 59] := by unfold escF; simp [hc]
          have HN2 := Lib.hid (HN.out (t ++ ⟨#[38, 97, 109, 112, 59]⟩) (by rw [ByteArray.toList_data_append, HE]))
          have hsz : (t ++ (⟨#[38, 97, 109, 112, 59]⟩ : ByteArray)).size ≤ 6 * (i + 1) := by rw [ByteArray.size_append]; show t.size + 5 ≤ _; omega
          clear HE HN hc
          go_wp2_with fail
          refine (HWS.out t _ _ HI.out HB.out (by show t.size + 5 ≤ _; omega)).mono ?_
          rintro e w1 ⟨rfl, h1, h2⟩
          have K1 := Lib.hid h1; have K2 := Lib.hid h2
          clear h1 h2
          go_wp2_with fail
          exact ⟨⟨i + 1, t ++ ⟨#[38, 97, 109, 112, 59]⟩, rfl, by omega, HN2, K1, K2, hsz⟩, by simp [intOf]; omega⟩
        · have e38 : (C == 38) = false := by simpa using (show ¬ C = 38 by omega)
          by_cases n60 : y.toNat = 60
          · have hc := n60
            clear n60
            have hC1 : C = 60 := by omega
            subst hC1
            have HE : escF false y = [38, 108, 116, 59] := by unfold escF; simp [hc]
            have HN2 := Lib.hid (HN.out (t ++ ⟨#[38, 108, 116, 59]⟩) (by rw [ByteArray.toList_data_append, HE]))
            have hsz : (t ++ (⟨#[38, 108, 116, 59]⟩ : ByteArray)).size ≤ 6 * (i + 1) := by rw [ByteArray.size_append]; show t.size + 4 ≤ _; omega
            clear HE HN hc n38
            go_wp2_with fail
            refine (HWS.out t _ _ HI.out HB.out (by show t.size + 4 ≤ _; omega)).mono ?_
            rintro e w1 ⟨rfl, h1, h2⟩
            have K1 := Lib.hid h1; have K2 := Lib.hid h2
            clear h1 h2
            go_wp2_with fail
            exact ⟨⟨i + 1, t ++ ⟨#[38, 108, 116, 59]⟩, rfl, by omega, HN2, K1, K2, hsz⟩, by simp [intOf]; omega⟩
          · have e60 : (C == 60) = false := by simpa using (show ¬ C = 60 by omega)
            by_cases n62 : y.toNat = 62
            · have hc := n62
              clear n62
              have hC1 : C = 62 := by omega
              subst hC1
              have HE : escF false y = [38, 103, 116, 59] := by unfold escF; simp [hc]
              have HN2 := Lib.hid (HN.out (t ++ ⟨#[38, 103, 116, 59]⟩) (by rw [ByteArray.toList_data_append, HE]))
              have hsz : (t ++ (⟨#[38, 103, 116, 59]⟩ : ByteArray)).size ≤ 6 * (i + 1) := by rw [ByteArray.size_append]; show t.size + 4 ≤ _; omega
              clear HE HN hc n38 n60
              go_wp2_with fail
              refine (HWS.out t _ _ HI.out HB.out (by show t.size + 4 ≤ _; omega)).mono ?_
              rintro e w1 ⟨rfl, h1, h2⟩
              have K1 := Lib.hid h1; have K2 := Lib.hid h2
              clear h1 h2
              go_wp2_with fail
              exact ⟨⟨i + 1, t ++ ⟨#[38, 103, 116, 59]⟩, rfl, by omega, HN2, K1, K2, hsz⟩, by simp [intOf]; omega⟩
            · have e62 : (C == 62) = false := by simpa using (show ¬ C = 62 by omega)
              by_cases n13 : y.toNat = 13
              · have hc := n13
                clear n13
                have hC1 : C = 13 := by omega
                subst hC1
                have HE : escF false y = [38, 35, 49, 51, 59] := by unfold escF; simp [hc]
                have HN2 := Lib.hid (HN.out (t ++ ⟨#[38, 35, 49, 51, 59]⟩) (by rw [ByteArray.toList_data_append, HE]))
                have hsz : (t ++ (⟨#[38, 35, 49, 51, 59]⟩ : ByteArray)).size ≤ 6 * (i + 1) := by rw [ByteArray.size_append]; show t.size + 5 ≤ _; omega
                clear HE HN hc n38 n60 n62
                go_wp2_with fail
                refine (HWS.out t _ _ HI.out HB.out (by show t.size + 5 ≤ _; omega)).mono ?_
                rintro e w1 ⟨rfl, h1, h2⟩
                have K1 := Lib.hid h1; have K2 := Lib.hid h2
                clear h1 h2
                go_wp2_with fail
                exact ⟨⟨i + 1, t ++ ⟨#[38, 35, 49, 51, 59]⟩, rfl, by omega, HN2, K1, K2, hsz⟩, by simp [intOf]; omega⟩
              · have e13 : (C == 13) = false := by simpa using (show ¬ C = 13 by omega)
                by_cases n34 : y.toNat = 34
                · have hc := n34
                  clear n34
                  have HE : escF false y = [y] := by unfold escF; simp [n38, n60, n62, n13]
                  have HN2 := Lib.hid (HN.out (t.push y) (by rw [ByteArray.data_push, Array.toList_push, HE]))
                  have hsz : (t.push y).size ≤ 6 * (i + 1) := by rw [ByteArray.size_push]; omega
                  have HWB2 := Lib.hid (HWB.out t y)
                  rw [hC] at HWB2
                  have hC1 : C = 34 := by omega
                  subst hC1
                  clear HE HN n38 n60 n62 n13
                  go_wp2_with fail
                  refine (HWB2.out _ HI.out HB.out (by omega)).mono ?_
                  rintro e w1 ⟨rfl, h1, h2⟩
                  have K1 := Lib.hid h1; have K2 := Lib.hid h2
                  clear h1 h2
                  go_wp2_with fail
                  exact ⟨⟨i + 1, t.push y, rfl, by omega, HN2, K1, K2, hsz⟩, by simp [intOf]; omega⟩
                · have e34 : (C == 34) = false := by simpa using (show ¬ C = 34 by omega)
                  by_cases n9 : y.toNat = 9
                  · have hc := n9
                    clear n9
                    have HE : escF false y = [y] := by unfold escF; simp [n38, n60, n62, n13]
                    have HN2 := Lib.hid (HN.out (t.push y) (by rw [ByteArray.data_push, Array.toList_push, HE]))
                    have hsz : (t.push y).size ≤ 6 * (i + 1) := by rw [ByteArray.size_push]; omega
                    have HWB2 := Lib.hid (HWB.out t y)
                    rw [hC] at HWB2
                    have hC1 : C = 9 := by omega
                    subst hC1
                    clear HE HN n38 n60 n62 n13 n34
                    go_wp2_with fail
                    refine (HWB2.out _ HI.out HB.out (by omega)).mono ?_
                    rintro e w1 ⟨rfl, h1, h2⟩
                    have K1 := Lib.hid h1; have K2 := Lib.hid h2
                    clear h1 h2
                    go_wp2_with fail
                    exact ⟨⟨i + 1, t.push y, rfl, by omega, HN2, K1, K2, hsz⟩, by simp [intOf]; omega⟩
                  · have e9 : (C == 9) = false := by simpa using (show ¬ C = 9 by omega)
                    by_cases n10 : y.toNat = 10
                    · have hc := n10
                      clear n10
                      have HE : escF false y = [y] := by unfold escF; simp [n38, n60, n62, n13]
                      have HN2 := Lib.hid (HN.out (t.push y) (by rw [ByteArray.data_push, Array.toList_push, HE]))
                      have hsz : (t.push y).size ≤ 6 * (i + 1) := by rw [ByteArray.size_push]; omega
                      have HWB2 := Lib.hid (HWB.out t y)
                      rw [hC] at HWB2
                      have hC1 : C = 10 := by omega
                      subst hC1
                      clear HE HN n38 n60 n62 n13 n34 n9
                      go_wp2_with fail
                      refine (HWB2.out _ HI.out HB.out (by omega)).mono ?_
                      rintro e w1 ⟨rfl, h1, h2⟩
                      have K1 := Lib.hid h1; have K2 := Lib.hid h2
                      clear h1 h2
                      go_wp2_with fail
                      exact ⟨⟨i + 1, t.push y, rfl, by omega, HN2, K1, K2, hsz⟩, by simp [intOf]; omega⟩
                    · have e10 : (C == 10) = false := by simpa using (show ¬ C = 10 by omega)
                      have HE : escF false y = [y] := by unfold escF; simp [n38, n60, n62, n13]
                      have HN2 := Lib.hid (HN.out (t.push y) (by rw [ByteArray.data_push, Array.toList_push, HE]))
                      have hsz : (t.push y).size ≤ 6 * (i + 1) := by rw [ByteArray.size_push]; omega
                      have HWB2 := Lib.hid (HWB.out t y)
                      rw [hC] at HWB2
                      have e38 : (C == 38) = false := by simpa using (show ¬ C = 38 by omega)
                      have e60 : (C == 60) = false := by simpa using (show ¬ C = 60 by omega)
                      have e62 : (C == 62) = false := by simpa using (show ¬ C = 62 by omega)
                      have e13 : (C == 13) = false := by simpa using (show ¬ C = 13 by omega)
                      clear HE HN n38 n60 n62 n13 n34 n9 n10
                      go_wp2_with fail
                      refine (HWB2.out _ HI.out HB.out (by omega)).mono ?_
                      rintro e w1 ⟨rfl, h1, h2⟩
                      have K1 := Lib.hid h1; have K2 := Lib.hid h2
                      clear h1 h2
                      go_wp2_with fail
                      exact ⟨⟨i + 1, t.push y, rfl, by omega, HN2, K1, K2, hsz⟩, by simp [intOf]; omega⟩
end Go.Proofs.YtkebjllehegjlaaGreatDoor
