/-
  XtokNumbers: a reference by a number.
-/
import Derived.Test.YtkebjllehegjlaaDoorYa
import Derived.Test.YtkebjllehegjlaaDoorUtPut
import Derived.Test.YtkebjllehegjlaaDoorPost
namespace Go.Proofs.YtkebjllehegjlaaDoor
open Go.RowKit Go.Shelf
set_option linter.unusedVariables false
theorem conv_one (W : World) (a : Nat) (ha : a < 256) : (convert 36 9 (.slice (some ⟨W.heap.size, 0, none⟩) 1 1)).run Tryd.prog (W.alloc (.cells #[.int .u8 (a : Int)] 5)) = .ok (.string ⟨#[UInt8.ofNat a]⟩) (W.alloc (.cells #[.int .u8 (a : Int)] 5)) := by
  have h := conv_lit (W.alloc (.cells #[.int .u8 (a : Int)] 5)) W.heap.size 1 [(a : Int)] rfl (by intro i hi; match i, hi with | 0, _ => simp)
  rw [h]
  unfold strOfNums
  simp
def emp (v : Value) : Nat := match v with | .string D => if D.size = 0 then 1 else 0 | _ => 0
theorem emp_some {D : ByteArray} (h : 0 < D.size) : emp (.string D) = 0 := by unfold emp; dsimp only; rw [if_neg (by omega)]
theorem emp_none {D : ByteArray} (h : D.size = 0) : emp (.string D) = 1 := by unfold emp; dsimp only; rw [if_pos h]
def hexes (u : Bool) : ByteArray := if u = true then ⟨#[48, 49, 50, 51, 52, 53, 54, 55, 56, 57, 65, 66, 67, 68, 69, 70]⟩ else ⟨#[48, 49, 50, 51, 52, 53, 54, 55, 56, 57, 97, 98, 99, 100, 101, 102]⟩
theorem hex_at : ∀ (u : Bool) (d : Nat), d < 16 → ((hexes u).data.toList.drop d).take 1 = [gHex u d] := by decide
theorem hex_cut (u : Bool) (d : Nat) (h : d < 16) : (hexes u).extract d (d + 1) = ⟨#[gHex u d]⟩ := by
  refine bytes_of (l := [gHex u d]) ?_
  rw [ByteArray.data_extract, Array.toList_extract, List.extract_eq_take_drop, Nat.add_sub_cancel_left]
  exact hex_at u d h
theorem hexes_size (u : Bool) : (hexes u).size = 16 := by cases u <;> rfl
set_option maxRecDepth 100000 in
set_option maxHeartbeats 16000000 in
theorem xtokNumbers_any (r : Int) (u : Bool) (hr : -9223372036854775808 ≤ r ∧ r ≤ 9223372036854775807) (w : World) : Calls Tryd.prog 4 #[.int .i64 r, .bool u] w fun e w' => e = .returned (.bool true) ∧ Below w.heap.size w w' := by
  have HAl := Lib.hid (fun W => alive_any W)
  obtain ⟨hr1, hr2⟩ := hr
  by_cases hneg : r < 0
  · go_enter Tryd.func4, Tryd.ntmps4
    go_wp2_with fail
    refine (HAl.out _).mono ?_
    rintro e w1 ⟨rfl, hb⟩
    have HB := Lib.hid hb
    clear hb
    go_wp2_with fail
    go_ret
    exact ⟨rfl, HB.out⟩
  by_cases hbig : 1114111 < r
  · go_enter Tryd.func4, Tryd.ntmps4
    go_wp2_with fail
    refine (HAl.out _).mono ?_
    rintro e w1 ⟨rfl, hb⟩
    have HB := Lib.hid hb
    clear hb
    go_wp2_with fail
    go_ret
    exact ⟨rfl, HB.out⟩
  obtain ⟨R, rfl⟩ : ∃ R : Nat, r = (R : Int) := ⟨r.toNat, by omega⟩
  have hR : R ≤ 1114111 := by omega
  clear hr1 hr2 hneg hbig
  have H10 := Lib.hid (digs_dec R (by omega))
  have H16 := Lib.hid (digs_hex u R (by omega))
  go_enter Tryd.func4, Tryd.ntmps4
  go_wp2_with fail
  refine (HAl.out _).mono ?_
  rintro e w1 ⟨rfl, hb⟩
  have HB := Lib.hid hb
  clear hb HAl
  go_wp2_with fail
  go_loopw [5, 7] (fun dv vv wr => ∃ (V : Nat) (D : ByteArray), dv = .string D ∧ vv = .int .i64 (V : Int) ∧ Hid (todo 10 gDec R V D.data.toList) ∧ V ≤ R ∧ Hid (Below w.heap.size w wr)) (fun dv vv _ => 2 * (intOf vv).toNat + emp dv)
  case atStart => exact ⟨R, ⟨#[]⟩, rfl, rfl, Lib.hid (.inl ⟨rfl, rfl⟩), Nat.le_refl _, HB⟩
  case round =>
    clear HB
    obtain ⟨V, D, rfl, rfl, HT, hV, HB⟩ := hrel
    have hV6 : V ≤ 1114111 := by omega
    have hVi : (V : Int) ≤ 1114111 := by omega
    have hV0 : (0 : Int) ≤ (V : Int) := by omega
    obtain ⟨z, hz⟩ : ∃ z, D.toList.isEmpty = z := ⟨_, rfl⟩
    have hzs : z = false ↔ D.data.toList ≠ [] := by
      rw [← hz, ByteArray.toList_eq]
      cases D.data.toList <;> simp
    have hzn : z = true ↔ D.size = 0 := by
      have h2 : D.size = D.data.toList.length := by simp
      rw [← hz, ByteArray.toList_eq, h2]
      cases D.data.toList <;> simp
    have hDs : D.size ≤ 7 := by
      have h2 : D.size = D.data.toList.length := by simp
      have h3 := dgs_len (B := 10) (g := gDec) (by decide) 6 R (by omega)
      rcases HT.out with ⟨h, _⟩ | ⟨_, h⟩
      · rw [h2, h]; decide
      · rw [← h, List.length_append] at h3; omega
    by_cases hgo : 0 < V ∨ z = true
    · have hmod : V % 10 < 10 := Nat.mod_lt _ (by decide)
      have hcast : 48 + (V : Int) % 10 = ((48 + V % 10 : Nat) : Int) := by omega
      have hcv : ∀ W : World, (convert 36 9 (.slice (some ⟨W.heap.size, 0, none⟩) 1 1)).run Tryd.prog (W.alloc (.cells #[.int .u8 (48 + (V : Int) % 10)] 5)) = .ok (.string ⟨#[gDec (V % 10)]⟩) (W.alloc (.cells #[.int .u8 (48 + (V : Int) % 10)] 5)) := fun W => by
        rw [hcast]
        exact conv_one W (48 + V % 10) (by omega)
      obtain ⟨d, hd⟩ : ∃ d : ByteArray, ⟨#[gDec (V % 10)]⟩ = d := ⟨_, rfl⟩
      have hds : (d.size : Int) = 1 := by rw [← hd]; rfl
      have hDsi : (D.size : Int) ≤ 7 := by omega
      have HT2 : Hid (todo 10 gDec R (V / 10) (d ++ D).data.toList) := Lib.hid (by
        have := todo_step (by decide) HT.out (hgo.imp id (fun h => by
          cases hd : D.data.toList with
          | nil => rfl
          | cons a l => exact absurd h (by rw [hzs.2 (by rw [hd]; simp)]; decide)))
        rw [ByteArray.toList_data_append, ← hd]
        exact this)
      have HV2 : Hid (V / 10 ≤ R ∧ ((V / 10 : Nat) : Int) = (V : Int) / 10) := Lib.hid ⟨Nat.le_trans (Nat.div_le_self _ _) hV, by omega⟩
      have HD : Hid (0 < (d ++ D).size) := Lib.hid (by rw [ByteArray.size_append, ← hd]; show 0 < 1 + D.size; omega)
      have HB2 := Lib.hid (HB.out.alloc HB.out.size (.cells #[.int .u8 (48 + (V : Int) % 10)] 5))
      simp only [hd] at hcv
      rcases Nat.lt_or_ge 0 V with hp | hp
      · have hpi : (0 : Int) < (V : Int) := by omega
        clear hz hzs hzn HT hcast hd hgo HB
        go_wp2_with fail
        go_roundw
        case rel => exact ⟨V / 10, d ++ D, rfl, by rw [HV2.out.2], HT2, HV2.out.1, HB2⟩
        case measure =>
          rw [emp_some HD.out]
          simp [intOf]; omega
      · have hV00 : V = 0 := by omega
        have hzt : z = true := hgo.resolve_left (by omega)
        subst hzt
        subst hV00
        have hs0 : D.size = 0 := hzn.1 rfl
        have hcv0 : ∀ W : World, (convert 36 9 (.slice (some ⟨W.heap.size, 0, none⟩) 1 1)).run Tryd.prog (W.alloc (.cells #[.int .u8 48] 5)) = .ok (.string d) (W.alloc (.cells #[.int .u8 48] 5)) := fun W => by
          rw [← hd]
          exact conv_one W 48 (by decide)
        have HB3 := Lib.hid (HB.out.alloc HB.out.size (.cells #[.int .u8 48] 5))
        have HT3 : Hid (todo 10 gDec R 0 (d ++ D).data.toList) := HT2
        clear hzs hzn HT hcast hd hgo HB hcv HB2 HT2 hVi hV0
        go_wp2_with fail
        go_roundw
        case rel => exact ⟨0, d ++ D, rfl, rfl, HT3, Nat.zero_le _, HB3⟩
        case measure =>
          rw [emp_some HD.out, emp_none hs0]
          simp [intOf]
    · have hV00 : V = 0 := by omega
      have hzf : z = false := by cases z; rfl; exact absurd (.inr rfl) hgo
      subst hV00
      subst hzf
      have hD : D = ⟨(dgs 10 gDec R).toArray⟩ := bytes_of (todo_end HT.out (hzs.1 rfl))
      have HD := Lib.hid hD
      have hDsi : (D.size : Int) ≤ 7 := by omega
      clear hzs hzn HT hgo hD hV hV6 hVi hV0
      cases u with
      | true =>
        go_wp2_with fail
        go_loopw [6, 9] (fun dv vv wr => ∃ (V : Nat) (E : ByteArray), dv = .string E ∧ vv = .int .i64 (V : Int) ∧ Hid (todo 16 (gHex true) R V E.data.toList) ∧ V ≤ R ∧ Hid (Below w.heap.size w wr)) (fun dv vv _ => 2 * (intOf vv).toNat + emp dv)
        case atStart => exact ⟨R, ⟨#[]⟩, rfl, rfl, Lib.hid (.inl ⟨rfl, rfl⟩), Nat.le_refl _, HB⟩
        case round =>
          clear HB
          obtain ⟨V, E, rfl, rfl, HT, hV, HB⟩ := hrel
          have hV6 : V ≤ 1114111 := by omega
          have hVi : (V : Int) ≤ 1114111 := by omega
          have hV0 : (0 : Int) ≤ (V : Int) := by omega
          obtain ⟨z, hz⟩ : ∃ z, E.toList.isEmpty = z := ⟨_, rfl⟩
          have hzs : z = false ↔ E.data.toList ≠ [] := by
            rw [← hz, ByteArray.toList_eq]
            cases E.data.toList <;> simp
          have hzn : z = true ↔ E.size = 0 := by
            have h2 : E.size = E.data.toList.length := by simp
            rw [← hz, ByteArray.toList_eq, h2]
            cases E.data.toList <;> simp
          have hEs : E.size ≤ 6 := by
            have h2 : E.size = E.data.toList.length := by simp
            have h3 := dgs_len (B := 16) (g := gHex true) (by decide) 5 R (by omega)
            rcases HT.out with ⟨h, _⟩ | ⟨_, h⟩
            · rw [h2, h]; decide
            · rw [← h, List.length_append] at h3; omega
          have hEsi : (E.size : Int) ≤ 6 := by omega
          by_cases hgo : 0 < V ∨ z = true
          · obtain ⟨d, hd⟩ : ∃ d : ByteArray, ⟨#[gHex true (V % 16)]⟩ = d := ⟨_, rfl⟩
            have HCut : Hid ((⟨#[48, 49, 50, 51, 52, 53, 54, 55, 56, 57, 65, 66, 67, 68, 69, 70]⟩ : ByteArray).extract (V % 16) (V % 16 + 1) = d) := Lib.hid (by rw [← hd]; exact hex_cut true _ (Nat.mod_lt _ (by decide)))
            have HT2 : Hid (todo 16 (gHex true) R (V / 16) (d ++ E).data.toList) := Lib.hid (by
              have := todo_step (by decide) HT.out (hgo.imp id (fun h => by
                cases hd : E.data.toList with
                | nil => rfl
                | cons a l => exact absurd h (by rw [hzs.2 (by rw [hd]; simp)]; decide)))
              rw [ByteArray.toList_data_append, ← hd]
              exact this)
            have HV2 : Hid (V / 16 ≤ R ∧ ((V / 16 : Nat) : Int) = (V : Int) / 16) := Lib.hid ⟨Nat.le_trans (Nat.div_le_self _ _) hV, by omega⟩
            have HDd : Hid (0 < (d ++ E).size) := Lib.hid (by rw [ByteArray.size_append, ← hd]; show 0 < 1 + E.size; omega)
            rcases Nat.lt_or_ge 0 V with hp | hp
            · have hpi : (0 : Int) < (V : Int) := by omega
              clear hz hzs hzn HT hd hgo
              go_wp2_with fail
              rw [HCut.out]
              refine ⟨⟨V / 16, d ++ E, rfl, by rw [HV2.out.2], HT2, HV2.out.1, HB⟩, ?_⟩
              rw [emp_some HDd.out]
              simp [intOf]; omega
            · have hV00 : V = 0 := by omega
              have hzt : z = true := hgo.resolve_left (by omega)
              subst hzt
              subst hV00
              have hs0 : E.size = 0 := hzn.1 rfl
              have HT3 : Hid (todo 16 (gHex true) R 0 (d ++ E).data.toList) := HT2
              have HCut0 : Hid ((⟨#[48, 49, 50, 51, 52, 53, 54, 55, 56, 57, 65, 66, 67, 68, 69, 70]⟩ : ByteArray).extract 0 1 = d) := Lib.hid HCut.out
              clear hzs hzn HT hd hgo HT2 hVi hV0 HCut
              go_wp2_with fail
              first | rw [HCut0.out] | skip
              refine ⟨⟨0, d ++ E, rfl, rfl, HT3, Nat.zero_le _, HB⟩, ?_⟩
              rw [emp_some HDd.out, emp_none hs0]
              simp [intOf]
          · have hV00 : V = 0 := by omega
            have hzf : z = false := by cases z; rfl; exact absurd (.inr rfl) hgo
            have hE : E = ⟨(dgs 16 (gHex true) R).toArray⟩ := bytes_of (todo_end (by rw [hV00] at HT; exact HT.out) (hzs.1 hzf))
            subst hV00
            subst hzf
            have hs10 : ((⟨#[60, 97, 62, 38, 35]⟩ : ByteArray) ++ D ++ ⟨#[59, 60, 47, 97, 62]⟩).data.toList = numText 10 (dgs 10 gDec R) := by
              rw [HD.out, ByteArray.toList_data_append, ByteArray.toList_data_append]
              simp [numText, NumSrc]
            have hs16 : ((⟨#[60, 97, 62, 38, 35, 120]⟩ : ByteArray) ++ E ++ ⟨#[59, 60, 47, 97, 62]⟩).data.toList = numText 16 (dgs 16 (gHex true) R) := by
              rw [hE, ByteArray.toList_data_append, ByteArray.toList_data_append]
              simp [numText, NumSrc]
            have hs10 := Lib.hid hs10; have hs16 := Lib.hid hs16
            clear hzs hzn HT hgo hE hV hV6 hVi hV0
            cases hgd : uChar (R : Int) with
            | true =>
              have HC1 : Hid (∀ W, Calls Tryd.prog 7 #[.string ((⟨#[60, 97, 62, 38, 35]⟩ : ByteArray) ++ D ++ ⟨#[59, 60, 47, 97, 62]⟩)] W fun e w' => ∃ tk, e = .returned (.tuple #[tk, .agg #[.int .i64 0, .int .i64 0, .string ⟨#[]⟩]]) ∧ Told w' tk (tkN 10 (dgs 10 gDec R) R) ∧ Below W.heap.size W w') := Lib.hid (fun W => cut_num _ (.inl rfl) H10.out hs10.out hgd W)
              have HC2 : Hid (∀ W, Calls Tryd.prog 7 #[.string ((⟨#[60, 97, 62, 38, 35, 120]⟩ : ByteArray) ++ E ++ ⟨#[59, 60, 47, 97, 62]⟩)] W fun e w' => ∃ tk, e = .returned (.tuple #[tk, .agg #[.int .i64 0, .int .i64 0, .string ⟨#[]⟩]]) ∧ Told w' tk (tkN 16 (dgs 16 (gHex true) R) R) ∧ Below W.heap.size W w') := Lib.hid (fun W => cut_num _ (.inr rfl) H16.out hs16.out hgd W)
              obtain ⟨T, hT⟩ : ∃ T, txt (uPut R) = T := ⟨_, rfl⟩
              have hTs : T.size = (uPut R).length := by rw [← hT]; exact txt_size _
              obtain ⟨u1, u2⟩ := uPut_some hgd
              have u3 := List.length_pos_iff.2 u1
              have hT1 : (1 : Int) ≤ (T.size : Int) := by omega
              have hT4 : (T.size : Int) ≤ 4 := by omega
              have hgd2 : R = 9 ∨ R = 10 ∨ R = 13 ∨ (32 ≤ R ∧ R ≤ 55295) ∨ (57344 ≤ R ∧ R ≤ 65533) ∨ (65536 ≤ R) := by
                unfold uChar at hgd
                have := of_decide_eq_true hgd
                omega
              clear hgd u1 u2 u3 hTs
              go_wp2_with fail
              refine (HC1.out _).mono ?_
              rintro e w2 ⟨tk1, rfl, ht1, hb2⟩
              have d1 := Blk.new w2 27 #[.int .i64 0, .int .i64 0, .string ⟨#[]⟩]
              have T1 := Lib.hid (ht1.below ((Below.refl _ _).alloc (Nat.le_refl _) (.cells #[.int .i64 0, .int .i64 0, .string ⟨#[]⟩] 27)))
              have hb2 := HB.out.trans (hb2.mono HB.out.size)
              have HBc := Lib.hid (hb2.alloc hb2.size (.cells #[.int .i64 0, .int .i64 0, .string ⟨#[]⟩] 27))
              have D1 := Lib.hid d1
              clear ht1 hb2 d1 HC1 HB
              go_wp2_with fail
              refine (HC2.out _).mono ?_
              rintro e w3 ⟨tk2, rfl, ht2, hb3⟩
              have hl2 := D1.out.lt
              have e1 := (D1.out.below hb3 hl2).alloc (.cells #[.int .i64 0, .int .i64 0, .string ⟨#[]⟩] 27)
              have e3 := Blk.new w3 27 #[.int .i64 0, .int .i64 0, .string ⟨#[]⟩]
              have T3 := (T1.out.below hb3).below ((Below.refl _ _).alloc (Nat.le_refl _) (.cells #[.int .i64 0, .int .i64 0, .string ⟨#[]⟩] 27))
              have T4 := ht2.below ((Below.refl _ _).alloc (Nat.le_refl _) (.cells #[.int .i64 0, .int .i64 0, .string ⟨#[]⟩] 27))
              have HBd := Lib.hid (Below.drew ((HBc.out.trans (hb3.mono HBc.out.size)).alloc (Nat.le_trans HBc.out.size hb3.size) (.cells #[.int .i64 0, .int .i64 0, .string ⟨#[]⟩] 27)))
              obtain ⟨g1, cap1, rfl, t1⟩ := T3.three
              obtain ⟨g2, cap2, rfl, t2⟩ := T4.three
              have a0 := e1.cell 0; have q0 := e3.cell 0
              simp only [List.getElem?_toArray, List.getElem?_cons_zero] at a0 q0
              simp only [hT] at t1 t2
              clear hb3 e1 e3 T3 T4 T1 HBc D1 HC2 ht2 hT hs10 hs16 H10 H16
              go_upto_region 17 with fail
              revert a0 q0 t1 t2 HBd
              generalize w3.alloc (.cells #[.int .i64 0, .int .i64 0, .string ⟨#[]⟩] 27) = W0
              intro HBd a0 q0 t1 t2
              go_cut [14] (fun gv wx => gv = .bool true ∧ W0 = wx)
              case first => as_aux_lemma =>
                rcases hgd2 with h9 | h10 | h13 | ha | hb | hc
                · have e9 : ((R : Int) == 9) = true := by simpa using (show (R : Int) = 9 by omega)
                  have e10 : ((R : Int) == 10) = false := by simpa using (show ¬ (R : Int) = 10 by omega)
                  have e13 : ((R : Int) == 13) = false := by simpa using (show ¬ (R : Int) = 13 by omega)
                  go_wp2_with fail
                  go_meet
                  case rel => first | exact ⟨rfl, rfl⟩ | exact ⟨congrArg Value.bool (by simp; omega), rfl⟩
                · have e9 : ((R : Int) == 9) = false := by simpa using (show ¬ (R : Int) = 9 by omega)
                  have e10 : ((R : Int) == 10) = true := by simpa using (show (R : Int) = 10 by omega)
                  have e13 : ((R : Int) == 13) = false := by simpa using (show ¬ (R : Int) = 13 by omega)
                  go_wp2_with fail
                  go_meet
                  case rel => first | exact ⟨rfl, rfl⟩ | exact ⟨congrArg Value.bool (by simp; omega), rfl⟩
                · have e9 : ((R : Int) == 9) = false := by simpa using (show ¬ (R : Int) = 9 by omega)
                  have e10 : ((R : Int) == 10) = false := by simpa using (show ¬ (R : Int) = 10 by omega)
                  have e13 : ((R : Int) == 13) = true := by simpa using (show (R : Int) = 13 by omega)
                  go_wp2_with fail
                  go_meet
                  case rel => first | exact ⟨rfl, rfl⟩ | exact ⟨congrArg Value.bool (by simp; omega), rfl⟩
                · have e9 : ((R : Int) == 9) = false := by simpa using (show ¬ (R : Int) = 9 by omega)
                  have e10 : ((R : Int) == 10) = false := by simpa using (show ¬ (R : Int) = 10 by omega)
                  have e13 : ((R : Int) == 13) = false := by simpa using (show ¬ (R : Int) = 13 by omega)
                  go_wp2_with fail
                  go_meet
                  case rel => first | exact ⟨rfl, rfl⟩ | exact ⟨congrArg Value.bool (by simp; omega), rfl⟩
                · have e9 : ((R : Int) == 9) = false := by simpa using (show ¬ (R : Int) = 9 by omega)
                  have e10 : ((R : Int) == 10) = false := by simpa using (show ¬ (R : Int) = 10 by omega)
                  have e13 : ((R : Int) == 13) = false := by simpa using (show ¬ (R : Int) = 13 by omega)
                  go_wp2_with fail
                  go_meet
                  case rel => first | exact ⟨rfl, rfl⟩ | exact ⟨congrArg Value.bool (by simp; omega), rfl⟩
                · have e9 : ((R : Int) == 9) = false := by simpa using (show ¬ (R : Int) = 9 by omega)
                  have e10 : ((R : Int) == 10) = false := by simpa using (show ¬ (R : Int) = 10 by omega)
                  have e13 : ((R : Int) == 13) = false := by simpa using (show ¬ (R : Int) = 13 by omega)
                  go_wp2_with fail
                  go_meet
                  case rel => first | exact ⟨rfl, rfl⟩ | exact ⟨congrArg Value.bool (by simp; omega), rfl⟩
              case rest =>
                obtain ⟨rfl, rfl⟩ := hcut
                clear hgd2
                go_wp2_with fail
                have hTT : (T.toList == T.toList) = true := by simp
                refine wp_region_held_drew (S := (fun w' => w'.cell? ⟨w2.heap.size, 0, none⟩ = some (.int .i64 0) ∧ w'.cell? ⟨w3.heap.size, 0, none⟩ = some (.int .i64 0) ∧ w'.cell? ⟨g1, 9, none⟩ = some (.string T) ∧ w'.cell? ⟨g2, 9, none⟩ = some (.string T))) (by kernel_rfl) ?_ (fun hHeld => ?_)
                · exact ⟨a0, q0, t1, t2⟩
                refine wpAnyH_take (i := 0) (oi := { dst := some 126, op := Op.fieldAddr 27 (Operand.tmp 11) 0, type := 0, pos := "more.go:59", after := #[], guard := none }) (v := ?_) rfl (by kernel_rfl) (by kernel_rfl) (by kernel_rfl) (fun _ _ _ h => h) (Or.inl ⟨by rfl, ?_⟩) (by assumption) ?_
                rotate_left
                · intro w hSw; (try dsimp only at hSw); go_simp; (try with_reducible rfl)
                try simp only [Act.put, List.setIfInBounds_toArray, List.set_cons_zero, List.set_cons_succ]
                refine wpAnyH_take (i := 1) (oi := { dst := some 127, op := Op.load 25 (Operand.tmp 126), type := 25, pos := "more.go:59", after := #[{ on := 0, ground := Ground.data }], guard := none }) (v := ?_) rfl (by kernel_rfl) (by kernel_rfl) (by kernel_rfl) (fun _ _ _ h => h) (Or.inl ⟨by rfl, ?_⟩) (by assumption) ?_
                rotate_left
                · intro w hSw; (try dsimp only at hSw); go_simp; (try with_reducible rfl)
                try simp only [Act.put, List.setIfInBounds_toArray, List.set_cons_zero, List.set_cons_succ]
                refine wpAnyH_take (i := 2) (oi := { dst := some 128, op := Op.binOp BinOp.eql 25 (Operand.tmp 127) (Operand.const (Value.int IntKind.i64 0)) 25, type := 4, pos := "more.go:59", after := #[{ on := 1, ground := Ground.data }], guard := none }) (v := ?_) rfl (by kernel_rfl) (by kernel_rfl) (by kernel_rfl) (fun _ _ _ h => h) (Or.inl ⟨by rfl, ?_⟩) (by assumption) ?_
                rotate_left
                · intro w hSw; (try dsimp only at hSw); go_simp; (try with_reducible rfl)
                try simp only [Act.put, List.setIfInBounds_toArray, List.set_cons_zero, List.set_cons_succ]
                refine wpAnyH_take (i := 3) (oi := { dst := some 129, op := Op.move (Operand.tmp 128), type := 4, pos := "more.go:59", after := #[{ on := 2, ground := Ground.data }], guard := none }) (v := ?_) rfl (by kernel_rfl) (by kernel_rfl) (by kernel_rfl) (fun _ _ _ h => h) (Or.inl ⟨by rfl, ?_⟩) (by assumption) ?_
                rotate_left
                · intro w hSw; (try dsimp only at hSw); go_simp; (try with_reducible rfl)
                try simp only [Act.put, List.setIfInBounds_toArray, List.set_cons_zero, List.set_cons_succ]
                refine wpAnyH_take (i := 4) (oi := { dst := some 130, op := Op.fieldAddr 27 (Operand.tmp 13) 0, type := 0, pos := "more.go:59", after := #[{ on := 3, ground := Ground.guard }], guard := some (3, true) }) (v := ?_) rfl (by kernel_rfl) (by kernel_rfl) (by kernel_rfl) (fun _ _ _ h => h) (Or.inl ⟨by rfl, ?_⟩) (by assumption) ?_
                rotate_left
                · intro w hSw; (try dsimp only at hSw); go_simp; (try with_reducible rfl)
                try simp only [Act.put, List.setIfInBounds_toArray, List.set_cons_zero, List.set_cons_succ]
                refine wpAnyH_take (i := 5) (oi := { dst := some 131, op := Op.load 25 (Operand.tmp 130), type := 25, pos := "more.go:59", after := #[{ on := 4, ground := Ground.data }, { on := 3, ground := Ground.guard }], guard := some (3, true) }) (v := ?_) rfl (by kernel_rfl) (by kernel_rfl) (by kernel_rfl) (fun _ _ _ h => h) (Or.inl ⟨by rfl, ?_⟩) (by assumption) ?_
                rotate_left
                · intro w hSw; (try dsimp only at hSw); go_simp; (try with_reducible rfl)
                try simp only [Act.put, List.setIfInBounds_toArray, List.set_cons_zero, List.set_cons_succ]
                refine wpAnyH_take (i := 6) (oi := { dst := some 132, op := Op.binOp BinOp.eql 25 (Operand.tmp 131) (Operand.const (Value.int IntKind.i64 0)) 25, type := 4, pos := "more.go:59", after := #[{ on := 5, ground := Ground.data }, { on := 3, ground := Ground.guard }], guard := some (3, true) }) (v := ?_) rfl (by kernel_rfl) (by kernel_rfl) (by kernel_rfl) (fun _ _ _ h => h) (Or.inl ⟨by rfl, ?_⟩) (by assumption) ?_
                rotate_left
                · intro w hSw; (try dsimp only at hSw); go_simp; (try with_reducible rfl)
                try simp only [Act.put, List.setIfInBounds_toArray, List.set_cons_zero, List.set_cons_succ]
                refine wpAnyH_take (i := 7) (oi := { dst := some 133, op := Op.pick (Operand.tmp 129) (Operand.tmp 132) (Operand.const (Value.bool false)), type := 4, pos := "more.go:59", after := #[{ on := 3, ground := Ground.data }, { on := 6, ground := Ground.data }], guard := none }) (v := ?_) rfl (by kernel_rfl) (by kernel_rfl) (by kernel_rfl) (fun _ _ _ h => h) (Or.inl ⟨by rfl, ?_⟩) (by assumption) ?_
                rotate_left
                · intro w hSw; (try dsimp only at hSw); go_simp; (try with_reducible rfl)
                try simp only [Act.put, List.setIfInBounds_toArray, List.set_cons_zero, List.set_cons_succ]
                refine wpAnyH_take (i := 8) (oi := { dst := some 134, op := Op.move (Operand.tmp 133), type := 4, pos := "more.go:59", after := #[{ on := 7, ground := Ground.data }, { on := 3, ground := Ground.chain }], guard := none }) (v := ?_) rfl (by kernel_rfl) (by kernel_rfl) (by kernel_rfl) (fun _ _ _ h => h) (Or.inl ⟨by rfl, ?_⟩) (by assumption) ?_
                rotate_left
                · intro w hSw; (try dsimp only at hSw); go_simp; (try with_reducible rfl)
                try simp only [Act.put, List.setIfInBounds_toArray, List.set_cons_zero, List.set_cons_succ]
                refine wpAnyH_take (i := 9) (oi := { dst := some 135, op := Op.move (Operand.tmp 10), type := 24, pos := "more.go:59", after := #[{ on := 8, ground := Ground.guard }], guard := some (8, true) }) (v := ?_) rfl (by kernel_rfl) (by kernel_rfl) (by kernel_rfl) (fun _ _ _ h => h) (Or.inl ⟨by rfl, ?_⟩) (by assumption) ?_
                rotate_left
                · intro w hSw; (try dsimp only at hSw); go_simp; (try with_reducible rfl)
                try simp only [Act.put, List.setIfInBounds_toArray, List.set_cons_zero, List.set_cons_succ]
                refine wpAnyH_take (i := 10) (oi := { dst := some 136, op := Op.call { callee := Callee.builtin Builtin.len, args := #[Operand.tmp 135], argTypes := #[24] }, type := 3, pos := "more.go:59", after := #[{ on := 9, ground := Ground.data }, { on := 8, ground := Ground.guard }], guard := some (8, true) }) (v := ?_) rfl (by kernel_rfl) (by kernel_rfl) (by kernel_rfl) (fun _ _ _ h => h) (Or.inl ⟨by rfl, ?_⟩) (by assumption) ?_
                rotate_left
                · intro w hSw; (try dsimp only at hSw); go_simp; (try with_reducible rfl)
                try simp only [Act.put, List.setIfInBounds_toArray, List.set_cons_zero, List.set_cons_succ]
                refine wpAnyH_take (i := 11) (oi := { dst := some 137, op := Op.binOp BinOp.eql 3 (Operand.tmp 136) (Operand.const (Value.int IntKind.i64 3)) 3, type := 4, pos := "more.go:59", after := #[{ on := 10, ground := Ground.data }, { on := 8, ground := Ground.guard }], guard := some (8, true) }) (v := ?_) rfl (by kernel_rfl) (by kernel_rfl) (by kernel_rfl) (fun _ _ _ h => h) (Or.inl ⟨by rfl, ?_⟩) (by assumption) ?_
                rotate_left
                · intro w hSw; (try dsimp only at hSw); go_simp; (try with_reducible rfl)
                try simp only [Act.put, List.setIfInBounds_toArray, List.set_cons_zero, List.set_cons_succ]
                refine wpAnyH_take (i := 12) (oi := { dst := some 138, op := Op.pick (Operand.tmp 134) (Operand.tmp 137) (Operand.const (Value.bool false)), type := 4, pos := "more.go:59", after := #[{ on := 8, ground := Ground.data }, { on := 11, ground := Ground.data }], guard := none }) (v := ?_) rfl (by kernel_rfl) (by kernel_rfl) (by kernel_rfl) (fun _ _ _ h => h) (Or.inl ⟨by rfl, ?_⟩) (by assumption) ?_
                rotate_left
                · intro w hSw; (try dsimp only at hSw); go_simp; (try with_reducible rfl)
                try simp only [Act.put, List.setIfInBounds_toArray, List.set_cons_zero, List.set_cons_succ]
                refine wpAnyH_take (i := 13) (oi := { dst := some 139, op := Op.move (Operand.tmp 138), type := 4, pos := "more.go:59", after := #[{ on := 12, ground := Ground.data }, { on := 8, ground := Ground.chain }], guard := none }) (v := ?_) rfl (by kernel_rfl) (by kernel_rfl) (by kernel_rfl) (fun _ _ _ h => h) (Or.inl ⟨by rfl, ?_⟩) (by assumption) ?_
                rotate_left
                · intro w hSw; (try dsimp only at hSw); go_simp; (try with_reducible rfl)
                try simp only [Act.put, List.setIfInBounds_toArray, List.set_cons_zero, List.set_cons_succ]
                refine wpAnyH_take (i := 14) (oi := { dst := some 140, op := Op.move (Operand.tmp 12), type := 24, pos := "more.go:59", after := #[{ on := 13, ground := Ground.guard }], guard := some (13, true) }) (v := ?_) rfl (by kernel_rfl) (by kernel_rfl) (by kernel_rfl) (fun _ _ _ h => h) (Or.inl ⟨by rfl, ?_⟩) (by assumption) ?_
                rotate_left
                · intro w hSw; (try dsimp only at hSw); go_simp; (try with_reducible rfl)
                try simp only [Act.put, List.setIfInBounds_toArray, List.set_cons_zero, List.set_cons_succ]
                refine wpAnyH_take (i := 15) (oi := { dst := some 141, op := Op.call { callee := Callee.builtin Builtin.len, args := #[Operand.tmp 140], argTypes := #[24] }, type := 3, pos := "more.go:59", after := #[{ on := 14, ground := Ground.data }, { on := 13, ground := Ground.guard }], guard := some (13, true) }) (v := ?_) rfl (by kernel_rfl) (by kernel_rfl) (by kernel_rfl) (fun _ _ _ h => h) (Or.inl ⟨by rfl, ?_⟩) (by assumption) ?_
                rotate_left
                · intro w hSw; (try dsimp only at hSw); go_simp; (try with_reducible rfl)
                try simp only [Act.put, List.setIfInBounds_toArray, List.set_cons_zero, List.set_cons_succ]
                refine wpAnyH_take (i := 16) (oi := { dst := some 142, op := Op.binOp BinOp.eql 3 (Operand.tmp 141) (Operand.const (Value.int IntKind.i64 3)) 3, type := 4, pos := "more.go:59", after := #[{ on := 15, ground := Ground.data }, { on := 13, ground := Ground.guard }], guard := some (13, true) }) (v := ?_) rfl (by kernel_rfl) (by kernel_rfl) (by kernel_rfl) (fun _ _ _ h => h) (Or.inl ⟨by rfl, ?_⟩) (by assumption) ?_
                rotate_left
                · intro w hSw; (try dsimp only at hSw); go_simp; (try with_reducible rfl)
                try simp only [Act.put, List.setIfInBounds_toArray, List.set_cons_zero, List.set_cons_succ]
                refine wpAnyH_take (i := 17) (oi := { dst := some 143, op := Op.pick (Operand.tmp 139) (Operand.tmp 142) (Operand.const (Value.bool false)), type := 4, pos := "more.go:59", after := #[{ on := 13, ground := Ground.data }, { on := 16, ground := Ground.data }], guard := none }) (v := ?_) rfl (by kernel_rfl) (by kernel_rfl) (by kernel_rfl) (fun _ _ _ h => h) (Or.inl ⟨by rfl, ?_⟩) (by assumption) ?_
                rotate_left
                · intro w hSw; (try dsimp only at hSw); go_simp; (try with_reducible rfl)
                try simp only [Act.put, List.setIfInBounds_toArray, List.set_cons_zero, List.set_cons_succ]
                refine wpAnyH_take (i := 18) (oi := { dst := some 144, op := Op.move (Operand.tmp 143), type := 4, pos := "more.go:59", after := #[{ on := 17, ground := Ground.data }, { on := 13, ground := Ground.chain }], guard := none }) (v := ?_) rfl (by kernel_rfl) (by kernel_rfl) (by kernel_rfl) (fun _ _ _ h => h) (Or.inl ⟨by rfl, ?_⟩) (by assumption) ?_
                rotate_left
                · intro w hSw; (try dsimp only at hSw); go_simp; (try with_reducible rfl)
                try simp only [Act.put, List.setIfInBounds_toArray, List.set_cons_zero, List.set_cons_succ]
                refine wpAnyH_take (i := 19) (oi := { dst := some 145, op := Op.move (Operand.tmp 10), type := 24, pos := "more.go:59", after := #[{ on := 18, ground := Ground.guard }], guard := some (18, true) }) (v := ?_) rfl (by kernel_rfl) (by kernel_rfl) (by kernel_rfl) (fun _ _ _ h => h) (Or.inl ⟨by rfl, ?_⟩) (by assumption) ?_
                rotate_left
                · intro w hSw; (try dsimp only at hSw); go_simp; (try with_reducible rfl)
                try simp only [Act.put, List.setIfInBounds_toArray, List.set_cons_zero, List.set_cons_succ]
                refine wpAnyH_take (i := 20) (oi := { dst := some 146, op := Op.indexAddr 24 (Operand.tmp 145) (Operand.const (Value.int IntKind.i64 1)), type := 0, pos := "more.go:59", after := #[{ on := 19, ground := Ground.data }, { on := 18, ground := Ground.guard }], guard := some (18, true) }) (v := ?_) rfl (by kernel_rfl) (by kernel_rfl) (by kernel_rfl) (fun _ _ _ h => h) (Or.inl ⟨by rfl, ?_⟩) (by assumption) ?_
                rotate_left
                · intro w hSw; (try dsimp only at hSw); go_simp; (try with_reducible rfl)
                try simp only [Act.put, List.setIfInBounds_toArray, List.set_cons_zero, List.set_cons_succ]
                refine wpAnyH_take (i := 21) (oi := { dst := some 147, op := Op.fieldAddr 32 (Operand.tmp 146) 3, type := 0, pos := "more.go:59", after := #[{ on := 20, ground := Ground.data }, { on := 18, ground := Ground.guard }], guard := some (18, true) }) (v := ?_) rfl (by kernel_rfl) (by kernel_rfl) (by kernel_rfl) (fun _ _ _ h => h) (Or.inl ⟨by rfl, ?_⟩) (by assumption) ?_
                rotate_left
                · intro w hSw; (try dsimp only at hSw); go_simp; (try with_reducible rfl)
                try simp only [Act.put, List.setIfInBounds_toArray, List.set_cons_zero, List.set_cons_succ]
                refine wpAnyH_take (i := 22) (oi := { dst := some 148, op := Op.load 9 (Operand.tmp 147), type := 9, pos := "more.go:59", after := #[{ on := 21, ground := Ground.data }, { on := 18, ground := Ground.guard }], guard := some (18, true) }) (v := ?_) rfl (by kernel_rfl) (by kernel_rfl) (by kernel_rfl) (fun _ _ _ h => h) (Or.inl ⟨by rfl, ?_⟩) (by assumption) ?_
                rotate_left
                · intro w hSw; (try dsimp only at hSw); go_simp; (try with_reducible rfl)
                try simp only [Act.put, List.setIfInBounds_toArray, List.set_cons_zero, List.set_cons_succ]
                refine wpAnyH_take (i := 23) (oi := { dst := some 149, op := Op.move (Operand.tmp 12), type := 24, pos := "more.go:59", after := #[{ on := 18, ground := Ground.guard }], guard := some (18, true) }) (v := ?_) rfl (by kernel_rfl) (by kernel_rfl) (by kernel_rfl) (fun _ _ _ h => h) (Or.inl ⟨by rfl, ?_⟩) (by assumption) ?_
                rotate_left
                · intro w hSw; (try dsimp only at hSw); go_simp; (try with_reducible rfl)
                try simp only [Act.put, List.setIfInBounds_toArray, List.set_cons_zero, List.set_cons_succ]
                refine wpAnyH_take (i := 24) (oi := { dst := some 150, op := Op.indexAddr 24 (Operand.tmp 149) (Operand.const (Value.int IntKind.i64 1)), type := 0, pos := "more.go:59", after := #[{ on := 23, ground := Ground.data }, { on := 18, ground := Ground.guard }], guard := some (18, true) }) (v := ?_) rfl (by kernel_rfl) (by kernel_rfl) (by kernel_rfl) (fun _ _ _ h => h) (Or.inl ⟨by rfl, ?_⟩) (by assumption) ?_
                rotate_left
                · intro w hSw; (try dsimp only at hSw); go_simp; (try with_reducible rfl)
                try simp only [Act.put, List.setIfInBounds_toArray, List.set_cons_zero, List.set_cons_succ]
                refine wpAnyH_take (i := 25) (oi := { dst := some 151, op := Op.fieldAddr 32 (Operand.tmp 150) 3, type := 0, pos := "more.go:59", after := #[{ on := 24, ground := Ground.data }, { on := 18, ground := Ground.guard }], guard := some (18, true) }) (v := ?_) rfl (by kernel_rfl) (by kernel_rfl) (by kernel_rfl) (fun _ _ _ h => h) (Or.inl ⟨by rfl, ?_⟩) (by assumption) ?_
                rotate_left
                · intro w hSw; (try dsimp only at hSw); go_simp; (try with_reducible rfl)
                try simp only [Act.put, List.setIfInBounds_toArray, List.set_cons_zero, List.set_cons_succ]
                refine wpAnyH_take (i := 26) (oi := { dst := some 152, op := Op.load 9 (Operand.tmp 151), type := 9, pos := "more.go:59", after := #[{ on := 25, ground := Ground.data }, { on := 18, ground := Ground.guard }], guard := some (18, true) }) (v := ?_) rfl (by kernel_rfl) (by kernel_rfl) (by kernel_rfl) (fun _ _ _ h => h) (Or.inl ⟨by rfl, ?_⟩) (by assumption) ?_
                rotate_left
                · intro w hSw; (try dsimp only at hSw); go_simp; (try with_reducible rfl)
                try simp only [Act.put, List.setIfInBounds_toArray, List.set_cons_zero, List.set_cons_succ]
                refine wpAnyH_take (i := 27) (oi := { dst := some 153, op := Op.binOp BinOp.eql 9 (Operand.tmp 148) (Operand.tmp 152) 9, type := 4, pos := "more.go:59", after := #[{ on := 22, ground := Ground.data }, { on := 26, ground := Ground.data }, { on := 18, ground := Ground.guard }], guard := some (18, true) }) (v := ?_) rfl (by kernel_rfl) (by kernel_rfl) (by kernel_rfl) (fun _ _ _ h => h) (Or.inl ⟨by rfl, ?_⟩) (by assumption) ?_
                rotate_left
                · intro w hSw; (try dsimp only at hSw); go_simp; (try with_reducible rfl)
                try simp only [Act.put, List.setIfInBounds_toArray, List.set_cons_zero, List.set_cons_succ]
                refine wpAnyH_take (i := 28) (oi := { dst := some 154, op := Op.pick (Operand.tmp 144) (Operand.tmp 153) (Operand.const (Value.bool false)), type := 4, pos := "more.go:59", after := #[{ on := 18, ground := Ground.data }, { on := 27, ground := Ground.data }], guard := none }) (v := ?_) rfl (by kernel_rfl) (by kernel_rfl) (by kernel_rfl) (fun _ _ _ h => h) (Or.inl ⟨by rfl, ?_⟩) (by assumption) ?_
                rotate_left
                · intro w hSw; (try dsimp only at hSw); go_simp; (try with_reducible rfl)
                try simp only [Act.put, List.setIfInBounds_toArray, List.set_cons_zero, List.set_cons_succ]
                refine wpAnyH_take (i := 29) (oi := { dst := some 155, op := Op.move (Operand.tmp 154), type := 4, pos := "more.go:59", after := #[{ on := 28, ground := Ground.data }, { on := 18, ground := Ground.chain }], guard := none }) (v := ?_) rfl (by kernel_rfl) (by kernel_rfl) (by kernel_rfl) (fun _ _ _ h => h) (Or.inl ⟨by rfl, ?_⟩) (by assumption) ?_
                rotate_left
                · intro w hSw; (try dsimp only at hSw); go_simp; (try with_reducible rfl)
                try simp only [Act.put, List.setIfInBounds_toArray, List.set_cons_zero, List.set_cons_succ]
                refine wpAnyH_take (i := 30) (oi := { dst := some 156, op := Op.move (Operand.tmp 10), type := 24, pos := "more.go:59", after := #[{ on := 29, ground := Ground.guard }], guard := some (29, true) }) (v := ?_) rfl (by kernel_rfl) (by kernel_rfl) (by kernel_rfl) (fun _ _ _ h => h) (Or.inl ⟨by rfl, ?_⟩) (by assumption) ?_
                rotate_left
                · intro w hSw; (try dsimp only at hSw); go_simp; (try with_reducible rfl)
                try simp only [Act.put, List.setIfInBounds_toArray, List.set_cons_zero, List.set_cons_succ]
                refine wpAnyH_take (i := 31) (oi := { dst := some 157, op := Op.indexAddr 24 (Operand.tmp 156) (Operand.const (Value.int IntKind.i64 1)), type := 0, pos := "more.go:59", after := #[{ on := 30, ground := Ground.data }, { on := 29, ground := Ground.guard }], guard := some (29, true) }) (v := ?_) rfl (by kernel_rfl) (by kernel_rfl) (by kernel_rfl) (fun _ _ _ h => h) (Or.inl ⟨by rfl, ?_⟩) (by assumption) ?_
                rotate_left
                · intro w hSw; (try dsimp only at hSw); go_simp; (try with_reducible rfl)
                try simp only [Act.put, List.setIfInBounds_toArray, List.set_cons_zero, List.set_cons_succ]
                refine wpAnyH_take (i := 32) (oi := { dst := some 158, op := Op.fieldAddr 32 (Operand.tmp 157) 3, type := 0, pos := "more.go:59", after := #[{ on := 31, ground := Ground.data }, { on := 29, ground := Ground.guard }], guard := some (29, true) }) (v := ?_) rfl (by kernel_rfl) (by kernel_rfl) (by kernel_rfl) (fun _ _ _ h => h) (Or.inl ⟨by rfl, ?_⟩) (by assumption) ?_
                rotate_left
                · intro w hSw; (try dsimp only at hSw); go_simp; (try with_reducible rfl)
                try simp only [Act.put, List.setIfInBounds_toArray, List.set_cons_zero, List.set_cons_succ]
                refine wpAnyH_take (i := 33) (oi := { dst := some 159, op := Op.load 9 (Operand.tmp 158), type := 9, pos := "more.go:59", after := #[{ on := 32, ground := Ground.data }, { on := 29, ground := Ground.guard }], guard := some (29, true) }) (v := ?_) rfl (by kernel_rfl) (by kernel_rfl) (by kernel_rfl) (fun _ _ _ h => h) (Or.inl ⟨by rfl, ?_⟩) (by assumption) ?_
                rotate_left
                · intro w hSw; (try dsimp only at hSw); go_simp; (try with_reducible rfl)
                try simp only [Act.put, List.setIfInBounds_toArray, List.set_cons_zero, List.set_cons_succ]
                refine wpAnyH_take (i := 34) (oi := { dst := some 160, op := Op.call { callee := Callee.builtin Builtin.len, args := #[Operand.tmp 159], argTypes := #[9] }, type := 3, pos := "more.go:59", after := #[{ on := 33, ground := Ground.data }, { on := 29, ground := Ground.guard }], guard := some (29, true) }) (v := ?_) rfl (by kernel_rfl) (by kernel_rfl) (by kernel_rfl) (fun _ _ _ h => h) (Or.inl ⟨by rfl, ?_⟩) (by assumption) ?_
                rotate_left
                · intro w hSw; (try dsimp only at hSw); go_simp; (try with_reducible rfl)
                try simp only [Act.put, List.setIfInBounds_toArray, List.set_cons_zero, List.set_cons_succ]
                refine wpAnyH_take (i := 35) (oi := { dst := some 161, op := Op.binOp BinOp.geq 3 (Operand.tmp 160) (Operand.const (Value.int IntKind.i64 1)) 3, type := 4, pos := "more.go:59", after := #[{ on := 34, ground := Ground.data }, { on := 29, ground := Ground.guard }], guard := some (29, true) }) (v := ?_) rfl (by kernel_rfl) (by kernel_rfl) (by kernel_rfl) (fun _ _ _ h => h) (Or.inl ⟨by rfl, ?_⟩) (by assumption) ?_
                rotate_left
                · intro w hSw; (try dsimp only at hSw); go_simp; (try with_reducible rfl)
                try simp only [Act.put, List.setIfInBounds_toArray, List.set_cons_zero, List.set_cons_succ]
                refine wpAnyH_take (i := 36) (oi := { dst := some 162, op := Op.pick (Operand.tmp 155) (Operand.tmp 161) (Operand.const (Value.bool false)), type := 4, pos := "more.go:59", after := #[{ on := 29, ground := Ground.data }, { on := 35, ground := Ground.data }], guard := none }) (v := ?_) rfl (by kernel_rfl) (by kernel_rfl) (by kernel_rfl) (fun _ _ _ h => h) (Or.inl ⟨by rfl, ?_⟩) (by assumption) ?_
                rotate_left
                · intro w hSw; (try dsimp only at hSw); go_simp; (try with_reducible rfl)
                try simp only [Act.put, List.setIfInBounds_toArray, List.set_cons_zero, List.set_cons_succ]
                refine wpAnyH_take (i := 37) (oi := { dst := some 163, op := Op.move (Operand.tmp 162), type := 4, pos := "more.go:59", after := #[{ on := 36, ground := Ground.data }, { on := 29, ground := Ground.chain }], guard := none }) (v := ?_) rfl (by kernel_rfl) (by kernel_rfl) (by kernel_rfl) (fun _ _ _ h => h) (Or.inl ⟨by rfl, ?_⟩) (by assumption) ?_
                rotate_left
                · intro w hSw; (try dsimp only at hSw); go_simp; (try with_reducible rfl)
                try simp only [Act.put, List.setIfInBounds_toArray, List.set_cons_zero, List.set_cons_succ]
                refine wpAnyH_take (i := 38) (oi := { dst := some 164, op := Op.move (Operand.tmp 10), type := 24, pos := "more.go:59", after := #[{ on := 37, ground := Ground.guard }], guard := some (37, true) }) (v := ?_) rfl (by kernel_rfl) (by kernel_rfl) (by kernel_rfl) (fun _ _ _ h => h) (Or.inl ⟨by rfl, ?_⟩) (by assumption) ?_
                rotate_left
                · intro w hSw; (try dsimp only at hSw); go_simp; (try with_reducible rfl)
                try simp only [Act.put, List.setIfInBounds_toArray, List.set_cons_zero, List.set_cons_succ]
                refine wpAnyH_take (i := 39) (oi := { dst := some 165, op := Op.indexAddr 24 (Operand.tmp 164) (Operand.const (Value.int IntKind.i64 1)), type := 0, pos := "more.go:59", after := #[{ on := 38, ground := Ground.data }, { on := 37, ground := Ground.guard }], guard := some (37, true) }) (v := ?_) rfl (by kernel_rfl) (by kernel_rfl) (by kernel_rfl) (fun _ _ _ h => h) (Or.inl ⟨by rfl, ?_⟩) (by assumption) ?_
                rotate_left
                · intro w hSw; (try dsimp only at hSw); go_simp; (try with_reducible rfl)
                try simp only [Act.put, List.setIfInBounds_toArray, List.set_cons_zero, List.set_cons_succ]
                refine wpAnyH_take (i := 40) (oi := { dst := some 166, op := Op.fieldAddr 32 (Operand.tmp 165) 3, type := 0, pos := "more.go:59", after := #[{ on := 39, ground := Ground.data }, { on := 37, ground := Ground.guard }], guard := some (37, true) }) (v := ?_) rfl (by kernel_rfl) (by kernel_rfl) (by kernel_rfl) (fun _ _ _ h => h) (Or.inl ⟨by rfl, ?_⟩) (by assumption) ?_
                rotate_left
                · intro w hSw; (try dsimp only at hSw); go_simp; (try with_reducible rfl)
                try simp only [Act.put, List.setIfInBounds_toArray, List.set_cons_zero, List.set_cons_succ]
                refine wpAnyH_take (i := 41) (oi := { dst := some 167, op := Op.load 9 (Operand.tmp 166), type := 9, pos := "more.go:59", after := #[{ on := 40, ground := Ground.data }, { on := 37, ground := Ground.guard }], guard := some (37, true) }) (v := ?_) rfl (by kernel_rfl) (by kernel_rfl) (by kernel_rfl) (fun _ _ _ h => h) (Or.inl ⟨by rfl, ?_⟩) (by assumption) ?_
                rotate_left
                · intro w hSw; (try dsimp only at hSw); go_simp; (try with_reducible rfl)
                try simp only [Act.put, List.setIfInBounds_toArray, List.set_cons_zero, List.set_cons_succ]
                refine wpAnyH_take (i := 42) (oi := { dst := some 168, op := Op.call { callee := Callee.builtin Builtin.len, args := #[Operand.tmp 167], argTypes := #[9] }, type := 3, pos := "more.go:59", after := #[{ on := 41, ground := Ground.data }, { on := 37, ground := Ground.guard }], guard := some (37, true) }) (v := ?_) rfl (by kernel_rfl) (by kernel_rfl) (by kernel_rfl) (fun _ _ _ h => h) (Or.inl ⟨by rfl, ?_⟩) (by assumption) ?_
                rotate_left
                · intro w hSw; (try dsimp only at hSw); go_simp; (try with_reducible rfl)
                try simp only [Act.put, List.setIfInBounds_toArray, List.set_cons_zero, List.set_cons_succ]
                refine wpAnyH_take (i := 43) (oi := { dst := some 169, op := Op.binOp BinOp.leq 3 (Operand.tmp 168) (Operand.const (Value.int IntKind.i64 4)) 3, type := 4, pos := "more.go:59", after := #[{ on := 42, ground := Ground.data }, { on := 37, ground := Ground.guard }], guard := some (37, true) }) (v := ?_) rfl (by kernel_rfl) (by kernel_rfl) (by kernel_rfl) (fun _ _ _ h => h) (Or.inl ⟨by rfl, ?_⟩) (by assumption) ?_
                rotate_left
                · intro w hSw; (try dsimp only at hSw); go_simp; (try with_reducible rfl)
                try simp only [Act.put, List.setIfInBounds_toArray, List.set_cons_zero, List.set_cons_succ]
                refine wpAnyH_take (i := 44) (oi := { dst := some 170, op := Op.pick (Operand.tmp 163) (Operand.tmp 169) (Operand.const (Value.bool false)), type := 4, pos := "more.go:59", after := #[{ on := 37, ground := Ground.data }, { on := 43, ground := Ground.data }], guard := none }) (v := ?_) rfl (by kernel_rfl) (by kernel_rfl) (by kernel_rfl) (fun _ _ _ h => h) (Or.inl ⟨by rfl, ?_⟩) (by assumption) ?_
                rotate_left
                · intro w hSw; (try dsimp only at hSw); go_simp; (try with_reducible rfl)
                try simp only [Act.put, List.setIfInBounds_toArray, List.set_cons_zero, List.set_cons_succ]
                refine wpAnyH_take (i := 45) (oi := { dst := some 4, op := Op.assign (Operand.tmp 170), type := 4, pos := "more.go:59", after := #[{ on := 44, ground := Ground.data }, { on := 37, ground := Ground.chain }, { on := 0, ground := Ground.phase }, { on := 1, ground := Ground.phase }, { on := 2, ground := Ground.phase }, { on := 3, ground := Ground.phase }, { on := 4, ground := Ground.phase }, { on := 5, ground := Ground.phase }, { on := 6, ground := Ground.phase }, { on := 7, ground := Ground.phase }, { on := 8, ground := Ground.phase }, { on := 9, ground := Ground.phase }, { on := 10, ground := Ground.phase }, { on := 11, ground := Ground.phase }, { on := 12, ground := Ground.phase }, { on := 13, ground := Ground.phase }, { on := 14, ground := Ground.phase }, { on := 15, ground := Ground.phase }, { on := 16, ground := Ground.phase }, { on := 17, ground := Ground.phase }, { on := 18, ground := Ground.phase }, { on := 19, ground := Ground.phase }, { on := 20, ground := Ground.phase }, { on := 21, ground := Ground.phase }, { on := 22, ground := Ground.phase }, { on := 23, ground := Ground.phase }, { on := 24, ground := Ground.phase }, { on := 25, ground := Ground.phase }, { on := 26, ground := Ground.phase }, { on := 27, ground := Ground.phase }, { on := 28, ground := Ground.phase }, { on := 29, ground := Ground.phase }, { on := 30, ground := Ground.phase }, { on := 31, ground := Ground.phase }, { on := 32, ground := Ground.phase }, { on := 33, ground := Ground.phase }, { on := 34, ground := Ground.phase }, { on := 35, ground := Ground.phase }, { on := 36, ground := Ground.phase }, { on := 37, ground := Ground.phase }, { on := 38, ground := Ground.phase }, { on := 39, ground := Ground.phase }, { on := 40, ground := Ground.phase }, { on := 41, ground := Ground.phase }, { on := 42, ground := Ground.phase }, { on := 43, ground := Ground.phase }, { on := 44, ground := Ground.phase }], guard := none }) (v := ?_) rfl (by kernel_rfl) (by kernel_rfl) (by kernel_rfl) (fun _ _ _ h => h) (Or.inl ⟨by rfl, ?_⟩) (by assumption) ?_
                rotate_left
                · intro w hSw; (try dsimp only at hSw); go_simp; (try with_reducible rfl)
                try simp only [Act.put, List.setIfInBounds_toArray, List.set_cons_zero, List.set_cons_succ]
                refine wpAnyH_done (by kernel_rfl) ?_ _
                go_wp2_with fail
                go_ret
                exact ⟨rfl, HBd.out⟩
            | false =>
              have HC1 : Hid (∀ W, Calls Tryd.prog 7 #[.string ((⟨#[60, 97, 62, 38, 35]⟩ : ByteArray) ++ D ++ ⟨#[59, 60, 47, 97, 62]⟩)] W fun e w' => e = .returned (.tuple #[.slice none 0 0, .agg #[.int .i64 11, .int .i64 3, .string ⟨#[]⟩]]) ∧ Below W.heap.size W w') := Lib.hid (fun W => cut_num_no _ (.inl rfl) H10.out hs10.out hgd W)
              have HC2 : Hid (∀ W, Calls Tryd.prog 7 #[.string ((⟨#[60, 97, 62, 38, 35, 120]⟩ : ByteArray) ++ E ++ ⟨#[59, 60, 47, 97, 62]⟩)] W fun e w' => e = .returned (.tuple #[.slice none 0 0, .agg #[.int .i64 11, .int .i64 3, .string ⟨#[]⟩]]) ∧ Below W.heap.size W w') := Lib.hid (fun W => cut_num_no _ (.inr rfl) H16.out hs16.out hgd W)
              have hbd2 : (R < 32 ∧ R ≠ 9 ∧ R ≠ 10 ∧ R ≠ 13) ∨ (55296 ≤ R ∧ R ≤ 57343) ∨ (65534 ≤ R ∧ R ≤ 65535) := by
                unfold uChar at hgd
                have := of_decide_eq_false hgd
                omega
              clear hgd
              go_wp2_with fail
              refine (HC1.out _).mono ?_
              rintro e w2 ⟨rfl, hb2⟩
              have d1 := Blk.new w2 27 #[.int .i64 11, .int .i64 3, .string ⟨#[]⟩]
              have hb2 := HB.out.trans (hb2.mono HB.out.size)
              have HBc := Lib.hid (hb2.alloc hb2.size (.cells #[.int .i64 11, .int .i64 3, .string ⟨#[]⟩] 27))
              have D1 := Lib.hid d1
              clear hb2 d1 HC1 HB
              go_wp2_with fail
              refine (HC2.out _).mono ?_
              rintro e w3 ⟨rfl, hb3⟩
              have hl2 := D1.out.lt
              have e1 := (D1.out.below hb3 hl2).alloc (.cells #[.int .i64 11, .int .i64 3, .string ⟨#[]⟩] 27)
              have e3 := Blk.new w3 27 #[.int .i64 11, .int .i64 3, .string ⟨#[]⟩]
              have HBe := Lib.hid ((HBc.out.trans (hb3.mono HBc.out.size)).alloc (Nat.le_trans HBc.out.size hb3.size) (.cells #[.int .i64 11, .int .i64 3, .string ⟨#[]⟩] 27))
              have a0 := e1.cell 0; have q0 := e3.cell 0; have a1 := e1.cell 1; have q1 := e3.cell 1
              simp only [List.getElem?_toArray, List.getElem?_cons_zero, List.getElem?_cons_succ] at a0 q0 a1 q1
              clear hb3 e1 e3 HBc D1 HC2 hs10 hs16 H10 H16
              go_upto_region 17 with fail
              revert a0 q0 a1 q1 HBe
              generalize w3.alloc (.cells #[.int .i64 11, .int .i64 3, .string ⟨#[]⟩] 27) = W0
              intro HBe a0 q0 a1 q1
              go_cut [14] (fun gv wx => gv = .bool false ∧ W0 = wx)
              case first => as_aux_lemma =>
                rcases hbd2 with ha | hb | hc
                · have e9 : ((R : Int) == 9) = false := by simpa using (show ¬ (R : Int) = 9 by omega)
                  have e10 : ((R : Int) == 10) = false := by simpa using (show ¬ (R : Int) = 10 by omega)
                  have e13 : ((R : Int) == 13) = false := by simpa using (show ¬ (R : Int) = 13 by omega)
                  go_wp2_with fail
                  go_meet
                  case rel => first | exact ⟨rfl, rfl⟩ | exact ⟨congrArg Value.bool (by simp; omega), rfl⟩
                · have e9 : ((R : Int) == 9) = false := by simpa using (show ¬ (R : Int) = 9 by omega)
                  have e10 : ((R : Int) == 10) = false := by simpa using (show ¬ (R : Int) = 10 by omega)
                  have e13 : ((R : Int) == 13) = false := by simpa using (show ¬ (R : Int) = 13 by omega)
                  go_wp2_with fail
                  go_meet
                  case rel => first | exact ⟨rfl, rfl⟩ | exact ⟨congrArg Value.bool (by simp; omega), rfl⟩
                · have e9 : ((R : Int) == 9) = false := by simpa using (show ¬ (R : Int) = 9 by omega)
                  have e10 : ((R : Int) == 10) = false := by simpa using (show ¬ (R : Int) = 10 by omega)
                  have e13 : ((R : Int) == 13) = false := by simpa using (show ¬ (R : Int) = 13 by omega)
                  go_wp2_with fail
                  go_meet
                  case rel => first | exact ⟨rfl, rfl⟩ | exact ⟨congrArg Value.bool (by simp; omega), rfl⟩
              case rest =>
                obtain ⟨rfl, rfl⟩ := hcut
                clear hbd2
                go_wp2_with fail
                go_ret
                exact ⟨rfl, HBe.out⟩
      | false =>
        go_wp2_with fail
        go_loopw [6, 9] (fun dv vv wr => ∃ (V : Nat) (E : ByteArray), dv = .string E ∧ vv = .int .i64 (V : Int) ∧ Hid (todo 16 (gHex false) R V E.data.toList) ∧ V ≤ R ∧ Hid (Below w.heap.size w wr)) (fun dv vv _ => 2 * (intOf vv).toNat + emp dv)
        case atStart => exact ⟨R, ⟨#[]⟩, rfl, rfl, Lib.hid (.inl ⟨rfl, rfl⟩), Nat.le_refl _, HB⟩
        case round =>
          clear HB
          obtain ⟨V, E, rfl, rfl, HT, hV, HB⟩ := hrel
          have hV6 : V ≤ 1114111 := by omega
          have hVi : (V : Int) ≤ 1114111 := by omega
          have hV0 : (0 : Int) ≤ (V : Int) := by omega
          obtain ⟨z, hz⟩ : ∃ z, E.toList.isEmpty = z := ⟨_, rfl⟩
          have hzs : z = false ↔ E.data.toList ≠ [] := by
            rw [← hz, ByteArray.toList_eq]
            cases E.data.toList <;> simp
          have hzn : z = true ↔ E.size = 0 := by
            have h2 : E.size = E.data.toList.length := by simp
            rw [← hz, ByteArray.toList_eq, h2]
            cases E.data.toList <;> simp
          have hEs : E.size ≤ 6 := by
            have h2 : E.size = E.data.toList.length := by simp
            have h3 := dgs_len (B := 16) (g := gHex false) (by decide) 5 R (by omega)
            rcases HT.out with ⟨h, _⟩ | ⟨_, h⟩
            · rw [h2, h]; decide
            · rw [← h, List.length_append] at h3; omega
          have hEsi : (E.size : Int) ≤ 6 := by omega
          by_cases hgo : 0 < V ∨ z = true
          · obtain ⟨d, hd⟩ : ∃ d : ByteArray, ⟨#[gHex false (V % 16)]⟩ = d := ⟨_, rfl⟩
            have HCut : Hid ((⟨#[48, 49, 50, 51, 52, 53, 54, 55, 56, 57, 97, 98, 99, 100, 101, 102]⟩ : ByteArray).extract (V % 16) (V % 16 + 1) = d) := Lib.hid (by rw [← hd]; exact hex_cut false _ (Nat.mod_lt _ (by decide)))
            have HT2 : Hid (todo 16 (gHex false) R (V / 16) (d ++ E).data.toList) := Lib.hid (by
              have := todo_step (by decide) HT.out (hgo.imp id (fun h => by
                cases hd : E.data.toList with
                | nil => rfl
                | cons a l => exact absurd h (by rw [hzs.2 (by rw [hd]; simp)]; decide)))
              rw [ByteArray.toList_data_append, ← hd]
              exact this)
            have HV2 : Hid (V / 16 ≤ R ∧ ((V / 16 : Nat) : Int) = (V : Int) / 16) := Lib.hid ⟨Nat.le_trans (Nat.div_le_self _ _) hV, by omega⟩
            have HDd : Hid (0 < (d ++ E).size) := Lib.hid (by rw [ByteArray.size_append, ← hd]; show 0 < 1 + E.size; omega)
            rcases Nat.lt_or_ge 0 V with hp | hp
            · have hpi : (0 : Int) < (V : Int) := by omega
              clear hz hzs hzn HT hd hgo
              go_wp2_with fail
              rw [HCut.out]
              refine ⟨⟨V / 16, d ++ E, rfl, by rw [HV2.out.2], HT2, HV2.out.1, HB⟩, ?_⟩
              rw [emp_some HDd.out]
              simp [intOf]; omega
            · have hV00 : V = 0 := by omega
              have hzt : z = true := hgo.resolve_left (by omega)
              subst hzt
              subst hV00
              have hs0 : E.size = 0 := hzn.1 rfl
              have HT3 : Hid (todo 16 (gHex false) R 0 (d ++ E).data.toList) := HT2
              have HCut0 : Hid ((⟨#[48, 49, 50, 51, 52, 53, 54, 55, 56, 57, 97, 98, 99, 100, 101, 102]⟩ : ByteArray).extract 0 1 = d) := Lib.hid HCut.out
              clear hzs hzn HT hd hgo HT2 hVi hV0 HCut
              go_wp2_with fail
              first | rw [HCut0.out] | skip
              refine ⟨⟨0, d ++ E, rfl, rfl, HT3, Nat.zero_le _, HB⟩, ?_⟩
              rw [emp_some HDd.out, emp_none hs0]
              simp [intOf]
          · have hV00 : V = 0 := by omega
            have hzf : z = false := by cases z; rfl; exact absurd (.inr rfl) hgo
            have hE : E = ⟨(dgs 16 (gHex false) R).toArray⟩ := bytes_of (todo_end (by rw [hV00] at HT; exact HT.out) (hzs.1 hzf))
            subst hV00
            subst hzf
            have hs10 : ((⟨#[60, 97, 62, 38, 35]⟩ : ByteArray) ++ D ++ ⟨#[59, 60, 47, 97, 62]⟩).data.toList = numText 10 (dgs 10 gDec R) := by
              rw [HD.out, ByteArray.toList_data_append, ByteArray.toList_data_append]
              simp [numText, NumSrc]
            have hs16 : ((⟨#[60, 97, 62, 38, 35, 120]⟩ : ByteArray) ++ E ++ ⟨#[59, 60, 47, 97, 62]⟩).data.toList = numText 16 (dgs 16 (gHex false) R) := by
              rw [hE, ByteArray.toList_data_append, ByteArray.toList_data_append]
              simp [numText, NumSrc]
            have hs10 := Lib.hid hs10; have hs16 := Lib.hid hs16
            clear hzs hzn HT hgo hE hV hV6 hVi hV0
            cases hgd : uChar (R : Int) with
            | true =>
              have HC1 : Hid (∀ W, Calls Tryd.prog 7 #[.string ((⟨#[60, 97, 62, 38, 35]⟩ : ByteArray) ++ D ++ ⟨#[59, 60, 47, 97, 62]⟩)] W fun e w' => ∃ tk, e = .returned (.tuple #[tk, .agg #[.int .i64 0, .int .i64 0, .string ⟨#[]⟩]]) ∧ Told w' tk (tkN 10 (dgs 10 gDec R) R) ∧ Below W.heap.size W w') := Lib.hid (fun W => cut_num _ (.inl rfl) H10.out hs10.out hgd W)
              have HC2 : Hid (∀ W, Calls Tryd.prog 7 #[.string ((⟨#[60, 97, 62, 38, 35, 120]⟩ : ByteArray) ++ E ++ ⟨#[59, 60, 47, 97, 62]⟩)] W fun e w' => ∃ tk, e = .returned (.tuple #[tk, .agg #[.int .i64 0, .int .i64 0, .string ⟨#[]⟩]]) ∧ Told w' tk (tkN 16 (dgs 16 (gHex false) R) R) ∧ Below W.heap.size W w') := Lib.hid (fun W => cut_num _ (.inr rfl) H16.out hs16.out hgd W)
              obtain ⟨T, hT⟩ : ∃ T, txt (uPut R) = T := ⟨_, rfl⟩
              have hTs : T.size = (uPut R).length := by rw [← hT]; exact txt_size _
              obtain ⟨u1, u2⟩ := uPut_some hgd
              have u3 := List.length_pos_iff.2 u1
              have hT1 : (1 : Int) ≤ (T.size : Int) := by omega
              have hT4 : (T.size : Int) ≤ 4 := by omega
              have hgd2 : R = 9 ∨ R = 10 ∨ R = 13 ∨ (32 ≤ R ∧ R ≤ 55295) ∨ (57344 ≤ R ∧ R ≤ 65533) ∨ (65536 ≤ R) := by
                unfold uChar at hgd
                have := of_decide_eq_true hgd
                omega
              clear hgd u1 u2 u3 hTs
              go_wp2_with fail
              refine (HC1.out _).mono ?_
              rintro e w2 ⟨tk1, rfl, ht1, hb2⟩
              have d1 := Blk.new w2 27 #[.int .i64 0, .int .i64 0, .string ⟨#[]⟩]
              have T1 := Lib.hid (ht1.below ((Below.refl _ _).alloc (Nat.le_refl _) (.cells #[.int .i64 0, .int .i64 0, .string ⟨#[]⟩] 27)))
              have hb2 := HB.out.trans (hb2.mono HB.out.size)
              have HBc := Lib.hid (hb2.alloc hb2.size (.cells #[.int .i64 0, .int .i64 0, .string ⟨#[]⟩] 27))
              have D1 := Lib.hid d1
              clear ht1 hb2 d1 HC1 HB
              go_wp2_with fail
              refine (HC2.out _).mono ?_
              rintro e w3 ⟨tk2, rfl, ht2, hb3⟩
              have hl2 := D1.out.lt
              have e1 := (D1.out.below hb3 hl2).alloc (.cells #[.int .i64 0, .int .i64 0, .string ⟨#[]⟩] 27)
              have e3 := Blk.new w3 27 #[.int .i64 0, .int .i64 0, .string ⟨#[]⟩]
              have T3 := (T1.out.below hb3).below ((Below.refl _ _).alloc (Nat.le_refl _) (.cells #[.int .i64 0, .int .i64 0, .string ⟨#[]⟩] 27))
              have T4 := ht2.below ((Below.refl _ _).alloc (Nat.le_refl _) (.cells #[.int .i64 0, .int .i64 0, .string ⟨#[]⟩] 27))
              have HBd := Lib.hid (Below.drew ((HBc.out.trans (hb3.mono HBc.out.size)).alloc (Nat.le_trans HBc.out.size hb3.size) (.cells #[.int .i64 0, .int .i64 0, .string ⟨#[]⟩] 27)))
              obtain ⟨g1, cap1, rfl, t1⟩ := T3.three
              obtain ⟨g2, cap2, rfl, t2⟩ := T4.three
              have a0 := e1.cell 0; have q0 := e3.cell 0
              simp only [List.getElem?_toArray, List.getElem?_cons_zero] at a0 q0
              simp only [hT] at t1 t2
              clear hb3 e1 e3 T3 T4 T1 HBc D1 HC2 ht2 hT hs10 hs16 H10 H16
              go_upto_region 17 with fail
              revert a0 q0 t1 t2 HBd
              generalize w3.alloc (.cells #[.int .i64 0, .int .i64 0, .string ⟨#[]⟩] 27) = W0
              intro HBd a0 q0 t1 t2
              go_cut [14] (fun gv wx => gv = .bool true ∧ W0 = wx)
              case first => as_aux_lemma =>
                rcases hgd2 with h9 | h10 | h13 | ha | hb | hc
                · have e9 : ((R : Int) == 9) = true := by simpa using (show (R : Int) = 9 by omega)
                  have e10 : ((R : Int) == 10) = false := by simpa using (show ¬ (R : Int) = 10 by omega)
                  have e13 : ((R : Int) == 13) = false := by simpa using (show ¬ (R : Int) = 13 by omega)
                  go_wp2_with fail
                  go_meet
                  case rel => first | exact ⟨rfl, rfl⟩ | exact ⟨congrArg Value.bool (by simp; omega), rfl⟩
                · have e9 : ((R : Int) == 9) = false := by simpa using (show ¬ (R : Int) = 9 by omega)
                  have e10 : ((R : Int) == 10) = true := by simpa using (show (R : Int) = 10 by omega)
                  have e13 : ((R : Int) == 13) = false := by simpa using (show ¬ (R : Int) = 13 by omega)
                  go_wp2_with fail
                  go_meet
                  case rel => first | exact ⟨rfl, rfl⟩ | exact ⟨congrArg Value.bool (by simp; omega), rfl⟩
                · have e9 : ((R : Int) == 9) = false := by simpa using (show ¬ (R : Int) = 9 by omega)
                  have e10 : ((R : Int) == 10) = false := by simpa using (show ¬ (R : Int) = 10 by omega)
                  have e13 : ((R : Int) == 13) = true := by simpa using (show (R : Int) = 13 by omega)
                  go_wp2_with fail
                  go_meet
                  case rel => first | exact ⟨rfl, rfl⟩ | exact ⟨congrArg Value.bool (by simp; omega), rfl⟩
                · have e9 : ((R : Int) == 9) = false := by simpa using (show ¬ (R : Int) = 9 by omega)
                  have e10 : ((R : Int) == 10) = false := by simpa using (show ¬ (R : Int) = 10 by omega)
                  have e13 : ((R : Int) == 13) = false := by simpa using (show ¬ (R : Int) = 13 by omega)
                  go_wp2_with fail
                  go_meet
                  case rel => first | exact ⟨rfl, rfl⟩ | exact ⟨congrArg Value.bool (by simp; omega), rfl⟩
                · have e9 : ((R : Int) == 9) = false := by simpa using (show ¬ (R : Int) = 9 by omega)
                  have e10 : ((R : Int) == 10) = false := by simpa using (show ¬ (R : Int) = 10 by omega)
                  have e13 : ((R : Int) == 13) = false := by simpa using (show ¬ (R : Int) = 13 by omega)
                  go_wp2_with fail
                  go_meet
                  case rel => first | exact ⟨rfl, rfl⟩ | exact ⟨congrArg Value.bool (by simp; omega), rfl⟩
                · have e9 : ((R : Int) == 9) = false := by simpa using (show ¬ (R : Int) = 9 by omega)
                  have e10 : ((R : Int) == 10) = false := by simpa using (show ¬ (R : Int) = 10 by omega)
                  have e13 : ((R : Int) == 13) = false := by simpa using (show ¬ (R : Int) = 13 by omega)
                  go_wp2_with fail
                  go_meet
                  case rel => first | exact ⟨rfl, rfl⟩ | exact ⟨congrArg Value.bool (by simp; omega), rfl⟩
              case rest =>
                obtain ⟨rfl, rfl⟩ := hcut
                clear hgd2
                go_wp2_with fail
                have hTT : (T.toList == T.toList) = true := by simp
                refine wp_region_held_drew (S := (fun w' => w'.cell? ⟨w2.heap.size, 0, none⟩ = some (.int .i64 0) ∧ w'.cell? ⟨w3.heap.size, 0, none⟩ = some (.int .i64 0) ∧ w'.cell? ⟨g1, 9, none⟩ = some (.string T) ∧ w'.cell? ⟨g2, 9, none⟩ = some (.string T))) (by kernel_rfl) ?_ (fun hHeld => ?_)
                · exact ⟨a0, q0, t1, t2⟩
                refine wpAnyH_take (i := 0) (oi := { dst := some 126, op := Op.fieldAddr 27 (Operand.tmp 11) 0, type := 0, pos := "more.go:59", after := #[], guard := none }) (v := ?_) rfl (by kernel_rfl) (by kernel_rfl) (by kernel_rfl) (fun _ _ _ h => h) (Or.inl ⟨by rfl, ?_⟩) (by assumption) ?_
                rotate_left
                · intro w hSw; (try dsimp only at hSw); go_simp; (try with_reducible rfl)
                try simp only [Act.put, List.setIfInBounds_toArray, List.set_cons_zero, List.set_cons_succ]
                refine wpAnyH_take (i := 1) (oi := { dst := some 127, op := Op.load 25 (Operand.tmp 126), type := 25, pos := "more.go:59", after := #[{ on := 0, ground := Ground.data }], guard := none }) (v := ?_) rfl (by kernel_rfl) (by kernel_rfl) (by kernel_rfl) (fun _ _ _ h => h) (Or.inl ⟨by rfl, ?_⟩) (by assumption) ?_
                rotate_left
                · intro w hSw; (try dsimp only at hSw); go_simp; (try with_reducible rfl)
                try simp only [Act.put, List.setIfInBounds_toArray, List.set_cons_zero, List.set_cons_succ]
                refine wpAnyH_take (i := 2) (oi := { dst := some 128, op := Op.binOp BinOp.eql 25 (Operand.tmp 127) (Operand.const (Value.int IntKind.i64 0)) 25, type := 4, pos := "more.go:59", after := #[{ on := 1, ground := Ground.data }], guard := none }) (v := ?_) rfl (by kernel_rfl) (by kernel_rfl) (by kernel_rfl) (fun _ _ _ h => h) (Or.inl ⟨by rfl, ?_⟩) (by assumption) ?_
                rotate_left
                · intro w hSw; (try dsimp only at hSw); go_simp; (try with_reducible rfl)
                try simp only [Act.put, List.setIfInBounds_toArray, List.set_cons_zero, List.set_cons_succ]
                refine wpAnyH_take (i := 3) (oi := { dst := some 129, op := Op.move (Operand.tmp 128), type := 4, pos := "more.go:59", after := #[{ on := 2, ground := Ground.data }], guard := none }) (v := ?_) rfl (by kernel_rfl) (by kernel_rfl) (by kernel_rfl) (fun _ _ _ h => h) (Or.inl ⟨by rfl, ?_⟩) (by assumption) ?_
                rotate_left
                · intro w hSw; (try dsimp only at hSw); go_simp; (try with_reducible rfl)
                try simp only [Act.put, List.setIfInBounds_toArray, List.set_cons_zero, List.set_cons_succ]
                refine wpAnyH_take (i := 4) (oi := { dst := some 130, op := Op.fieldAddr 27 (Operand.tmp 13) 0, type := 0, pos := "more.go:59", after := #[{ on := 3, ground := Ground.guard }], guard := some (3, true) }) (v := ?_) rfl (by kernel_rfl) (by kernel_rfl) (by kernel_rfl) (fun _ _ _ h => h) (Or.inl ⟨by rfl, ?_⟩) (by assumption) ?_
                rotate_left
                · intro w hSw; (try dsimp only at hSw); go_simp; (try with_reducible rfl)
                try simp only [Act.put, List.setIfInBounds_toArray, List.set_cons_zero, List.set_cons_succ]
                refine wpAnyH_take (i := 5) (oi := { dst := some 131, op := Op.load 25 (Operand.tmp 130), type := 25, pos := "more.go:59", after := #[{ on := 4, ground := Ground.data }, { on := 3, ground := Ground.guard }], guard := some (3, true) }) (v := ?_) rfl (by kernel_rfl) (by kernel_rfl) (by kernel_rfl) (fun _ _ _ h => h) (Or.inl ⟨by rfl, ?_⟩) (by assumption) ?_
                rotate_left
                · intro w hSw; (try dsimp only at hSw); go_simp; (try with_reducible rfl)
                try simp only [Act.put, List.setIfInBounds_toArray, List.set_cons_zero, List.set_cons_succ]
                refine wpAnyH_take (i := 6) (oi := { dst := some 132, op := Op.binOp BinOp.eql 25 (Operand.tmp 131) (Operand.const (Value.int IntKind.i64 0)) 25, type := 4, pos := "more.go:59", after := #[{ on := 5, ground := Ground.data }, { on := 3, ground := Ground.guard }], guard := some (3, true) }) (v := ?_) rfl (by kernel_rfl) (by kernel_rfl) (by kernel_rfl) (fun _ _ _ h => h) (Or.inl ⟨by rfl, ?_⟩) (by assumption) ?_
                rotate_left
                · intro w hSw; (try dsimp only at hSw); go_simp; (try with_reducible rfl)
                try simp only [Act.put, List.setIfInBounds_toArray, List.set_cons_zero, List.set_cons_succ]
                refine wpAnyH_take (i := 7) (oi := { dst := some 133, op := Op.pick (Operand.tmp 129) (Operand.tmp 132) (Operand.const (Value.bool false)), type := 4, pos := "more.go:59", after := #[{ on := 3, ground := Ground.data }, { on := 6, ground := Ground.data }], guard := none }) (v := ?_) rfl (by kernel_rfl) (by kernel_rfl) (by kernel_rfl) (fun _ _ _ h => h) (Or.inl ⟨by rfl, ?_⟩) (by assumption) ?_
                rotate_left
                · intro w hSw; (try dsimp only at hSw); go_simp; (try with_reducible rfl)
                try simp only [Act.put, List.setIfInBounds_toArray, List.set_cons_zero, List.set_cons_succ]
                refine wpAnyH_take (i := 8) (oi := { dst := some 134, op := Op.move (Operand.tmp 133), type := 4, pos := "more.go:59", after := #[{ on := 7, ground := Ground.data }, { on := 3, ground := Ground.chain }], guard := none }) (v := ?_) rfl (by kernel_rfl) (by kernel_rfl) (by kernel_rfl) (fun _ _ _ h => h) (Or.inl ⟨by rfl, ?_⟩) (by assumption) ?_
                rotate_left
                · intro w hSw; (try dsimp only at hSw); go_simp; (try with_reducible rfl)
                try simp only [Act.put, List.setIfInBounds_toArray, List.set_cons_zero, List.set_cons_succ]
                refine wpAnyH_take (i := 9) (oi := { dst := some 135, op := Op.move (Operand.tmp 10), type := 24, pos := "more.go:59", after := #[{ on := 8, ground := Ground.guard }], guard := some (8, true) }) (v := ?_) rfl (by kernel_rfl) (by kernel_rfl) (by kernel_rfl) (fun _ _ _ h => h) (Or.inl ⟨by rfl, ?_⟩) (by assumption) ?_
                rotate_left
                · intro w hSw; (try dsimp only at hSw); go_simp; (try with_reducible rfl)
                try simp only [Act.put, List.setIfInBounds_toArray, List.set_cons_zero, List.set_cons_succ]
                refine wpAnyH_take (i := 10) (oi := { dst := some 136, op := Op.call { callee := Callee.builtin Builtin.len, args := #[Operand.tmp 135], argTypes := #[24] }, type := 3, pos := "more.go:59", after := #[{ on := 9, ground := Ground.data }, { on := 8, ground := Ground.guard }], guard := some (8, true) }) (v := ?_) rfl (by kernel_rfl) (by kernel_rfl) (by kernel_rfl) (fun _ _ _ h => h) (Or.inl ⟨by rfl, ?_⟩) (by assumption) ?_
                rotate_left
                · intro w hSw; (try dsimp only at hSw); go_simp; (try with_reducible rfl)
                try simp only [Act.put, List.setIfInBounds_toArray, List.set_cons_zero, List.set_cons_succ]
                refine wpAnyH_take (i := 11) (oi := { dst := some 137, op := Op.binOp BinOp.eql 3 (Operand.tmp 136) (Operand.const (Value.int IntKind.i64 3)) 3, type := 4, pos := "more.go:59", after := #[{ on := 10, ground := Ground.data }, { on := 8, ground := Ground.guard }], guard := some (8, true) }) (v := ?_) rfl (by kernel_rfl) (by kernel_rfl) (by kernel_rfl) (fun _ _ _ h => h) (Or.inl ⟨by rfl, ?_⟩) (by assumption) ?_
                rotate_left
                · intro w hSw; (try dsimp only at hSw); go_simp; (try with_reducible rfl)
                try simp only [Act.put, List.setIfInBounds_toArray, List.set_cons_zero, List.set_cons_succ]
                refine wpAnyH_take (i := 12) (oi := { dst := some 138, op := Op.pick (Operand.tmp 134) (Operand.tmp 137) (Operand.const (Value.bool false)), type := 4, pos := "more.go:59", after := #[{ on := 8, ground := Ground.data }, { on := 11, ground := Ground.data }], guard := none }) (v := ?_) rfl (by kernel_rfl) (by kernel_rfl) (by kernel_rfl) (fun _ _ _ h => h) (Or.inl ⟨by rfl, ?_⟩) (by assumption) ?_
                rotate_left
                · intro w hSw; (try dsimp only at hSw); go_simp; (try with_reducible rfl)
                try simp only [Act.put, List.setIfInBounds_toArray, List.set_cons_zero, List.set_cons_succ]
                refine wpAnyH_take (i := 13) (oi := { dst := some 139, op := Op.move (Operand.tmp 138), type := 4, pos := "more.go:59", after := #[{ on := 12, ground := Ground.data }, { on := 8, ground := Ground.chain }], guard := none }) (v := ?_) rfl (by kernel_rfl) (by kernel_rfl) (by kernel_rfl) (fun _ _ _ h => h) (Or.inl ⟨by rfl, ?_⟩) (by assumption) ?_
                rotate_left
                · intro w hSw; (try dsimp only at hSw); go_simp; (try with_reducible rfl)
                try simp only [Act.put, List.setIfInBounds_toArray, List.set_cons_zero, List.set_cons_succ]
                refine wpAnyH_take (i := 14) (oi := { dst := some 140, op := Op.move (Operand.tmp 12), type := 24, pos := "more.go:59", after := #[{ on := 13, ground := Ground.guard }], guard := some (13, true) }) (v := ?_) rfl (by kernel_rfl) (by kernel_rfl) (by kernel_rfl) (fun _ _ _ h => h) (Or.inl ⟨by rfl, ?_⟩) (by assumption) ?_
                rotate_left
                · intro w hSw; (try dsimp only at hSw); go_simp; (try with_reducible rfl)
                try simp only [Act.put, List.setIfInBounds_toArray, List.set_cons_zero, List.set_cons_succ]
                refine wpAnyH_take (i := 15) (oi := { dst := some 141, op := Op.call { callee := Callee.builtin Builtin.len, args := #[Operand.tmp 140], argTypes := #[24] }, type := 3, pos := "more.go:59", after := #[{ on := 14, ground := Ground.data }, { on := 13, ground := Ground.guard }], guard := some (13, true) }) (v := ?_) rfl (by kernel_rfl) (by kernel_rfl) (by kernel_rfl) (fun _ _ _ h => h) (Or.inl ⟨by rfl, ?_⟩) (by assumption) ?_
                rotate_left
                · intro w hSw; (try dsimp only at hSw); go_simp; (try with_reducible rfl)
                try simp only [Act.put, List.setIfInBounds_toArray, List.set_cons_zero, List.set_cons_succ]
                refine wpAnyH_take (i := 16) (oi := { dst := some 142, op := Op.binOp BinOp.eql 3 (Operand.tmp 141) (Operand.const (Value.int IntKind.i64 3)) 3, type := 4, pos := "more.go:59", after := #[{ on := 15, ground := Ground.data }, { on := 13, ground := Ground.guard }], guard := some (13, true) }) (v := ?_) rfl (by kernel_rfl) (by kernel_rfl) (by kernel_rfl) (fun _ _ _ h => h) (Or.inl ⟨by rfl, ?_⟩) (by assumption) ?_
                rotate_left
                · intro w hSw; (try dsimp only at hSw); go_simp; (try with_reducible rfl)
                try simp only [Act.put, List.setIfInBounds_toArray, List.set_cons_zero, List.set_cons_succ]
                refine wpAnyH_take (i := 17) (oi := { dst := some 143, op := Op.pick (Operand.tmp 139) (Operand.tmp 142) (Operand.const (Value.bool false)), type := 4, pos := "more.go:59", after := #[{ on := 13, ground := Ground.data }, { on := 16, ground := Ground.data }], guard := none }) (v := ?_) rfl (by kernel_rfl) (by kernel_rfl) (by kernel_rfl) (fun _ _ _ h => h) (Or.inl ⟨by rfl, ?_⟩) (by assumption) ?_
                rotate_left
                · intro w hSw; (try dsimp only at hSw); go_simp; (try with_reducible rfl)
                try simp only [Act.put, List.setIfInBounds_toArray, List.set_cons_zero, List.set_cons_succ]
                refine wpAnyH_take (i := 18) (oi := { dst := some 144, op := Op.move (Operand.tmp 143), type := 4, pos := "more.go:59", after := #[{ on := 17, ground := Ground.data }, { on := 13, ground := Ground.chain }], guard := none }) (v := ?_) rfl (by kernel_rfl) (by kernel_rfl) (by kernel_rfl) (fun _ _ _ h => h) (Or.inl ⟨by rfl, ?_⟩) (by assumption) ?_
                rotate_left
                · intro w hSw; (try dsimp only at hSw); go_simp; (try with_reducible rfl)
                try simp only [Act.put, List.setIfInBounds_toArray, List.set_cons_zero, List.set_cons_succ]
                refine wpAnyH_take (i := 19) (oi := { dst := some 145, op := Op.move (Operand.tmp 10), type := 24, pos := "more.go:59", after := #[{ on := 18, ground := Ground.guard }], guard := some (18, true) }) (v := ?_) rfl (by kernel_rfl) (by kernel_rfl) (by kernel_rfl) (fun _ _ _ h => h) (Or.inl ⟨by rfl, ?_⟩) (by assumption) ?_
                rotate_left
                · intro w hSw; (try dsimp only at hSw); go_simp; (try with_reducible rfl)
                try simp only [Act.put, List.setIfInBounds_toArray, List.set_cons_zero, List.set_cons_succ]
                refine wpAnyH_take (i := 20) (oi := { dst := some 146, op := Op.indexAddr 24 (Operand.tmp 145) (Operand.const (Value.int IntKind.i64 1)), type := 0, pos := "more.go:59", after := #[{ on := 19, ground := Ground.data }, { on := 18, ground := Ground.guard }], guard := some (18, true) }) (v := ?_) rfl (by kernel_rfl) (by kernel_rfl) (by kernel_rfl) (fun _ _ _ h => h) (Or.inl ⟨by rfl, ?_⟩) (by assumption) ?_
                rotate_left
                · intro w hSw; (try dsimp only at hSw); go_simp; (try with_reducible rfl)
                try simp only [Act.put, List.setIfInBounds_toArray, List.set_cons_zero, List.set_cons_succ]
                refine wpAnyH_take (i := 21) (oi := { dst := some 147, op := Op.fieldAddr 32 (Operand.tmp 146) 3, type := 0, pos := "more.go:59", after := #[{ on := 20, ground := Ground.data }, { on := 18, ground := Ground.guard }], guard := some (18, true) }) (v := ?_) rfl (by kernel_rfl) (by kernel_rfl) (by kernel_rfl) (fun _ _ _ h => h) (Or.inl ⟨by rfl, ?_⟩) (by assumption) ?_
                rotate_left
                · intro w hSw; (try dsimp only at hSw); go_simp; (try with_reducible rfl)
                try simp only [Act.put, List.setIfInBounds_toArray, List.set_cons_zero, List.set_cons_succ]
                refine wpAnyH_take (i := 22) (oi := { dst := some 148, op := Op.load 9 (Operand.tmp 147), type := 9, pos := "more.go:59", after := #[{ on := 21, ground := Ground.data }, { on := 18, ground := Ground.guard }], guard := some (18, true) }) (v := ?_) rfl (by kernel_rfl) (by kernel_rfl) (by kernel_rfl) (fun _ _ _ h => h) (Or.inl ⟨by rfl, ?_⟩) (by assumption) ?_
                rotate_left
                · intro w hSw; (try dsimp only at hSw); go_simp; (try with_reducible rfl)
                try simp only [Act.put, List.setIfInBounds_toArray, List.set_cons_zero, List.set_cons_succ]
                refine wpAnyH_take (i := 23) (oi := { dst := some 149, op := Op.move (Operand.tmp 12), type := 24, pos := "more.go:59", after := #[{ on := 18, ground := Ground.guard }], guard := some (18, true) }) (v := ?_) rfl (by kernel_rfl) (by kernel_rfl) (by kernel_rfl) (fun _ _ _ h => h) (Or.inl ⟨by rfl, ?_⟩) (by assumption) ?_
                rotate_left
                · intro w hSw; (try dsimp only at hSw); go_simp; (try with_reducible rfl)
                try simp only [Act.put, List.setIfInBounds_toArray, List.set_cons_zero, List.set_cons_succ]
                refine wpAnyH_take (i := 24) (oi := { dst := some 150, op := Op.indexAddr 24 (Operand.tmp 149) (Operand.const (Value.int IntKind.i64 1)), type := 0, pos := "more.go:59", after := #[{ on := 23, ground := Ground.data }, { on := 18, ground := Ground.guard }], guard := some (18, true) }) (v := ?_) rfl (by kernel_rfl) (by kernel_rfl) (by kernel_rfl) (fun _ _ _ h => h) (Or.inl ⟨by rfl, ?_⟩) (by assumption) ?_
                rotate_left
                · intro w hSw; (try dsimp only at hSw); go_simp; (try with_reducible rfl)
                try simp only [Act.put, List.setIfInBounds_toArray, List.set_cons_zero, List.set_cons_succ]
                refine wpAnyH_take (i := 25) (oi := { dst := some 151, op := Op.fieldAddr 32 (Operand.tmp 150) 3, type := 0, pos := "more.go:59", after := #[{ on := 24, ground := Ground.data }, { on := 18, ground := Ground.guard }], guard := some (18, true) }) (v := ?_) rfl (by kernel_rfl) (by kernel_rfl) (by kernel_rfl) (fun _ _ _ h => h) (Or.inl ⟨by rfl, ?_⟩) (by assumption) ?_
                rotate_left
                · intro w hSw; (try dsimp only at hSw); go_simp; (try with_reducible rfl)
                try simp only [Act.put, List.setIfInBounds_toArray, List.set_cons_zero, List.set_cons_succ]
                refine wpAnyH_take (i := 26) (oi := { dst := some 152, op := Op.load 9 (Operand.tmp 151), type := 9, pos := "more.go:59", after := #[{ on := 25, ground := Ground.data }, { on := 18, ground := Ground.guard }], guard := some (18, true) }) (v := ?_) rfl (by kernel_rfl) (by kernel_rfl) (by kernel_rfl) (fun _ _ _ h => h) (Or.inl ⟨by rfl, ?_⟩) (by assumption) ?_
                rotate_left
                · intro w hSw; (try dsimp only at hSw); go_simp; (try with_reducible rfl)
                try simp only [Act.put, List.setIfInBounds_toArray, List.set_cons_zero, List.set_cons_succ]
                refine wpAnyH_take (i := 27) (oi := { dst := some 153, op := Op.binOp BinOp.eql 9 (Operand.tmp 148) (Operand.tmp 152) 9, type := 4, pos := "more.go:59", after := #[{ on := 22, ground := Ground.data }, { on := 26, ground := Ground.data }, { on := 18, ground := Ground.guard }], guard := some (18, true) }) (v := ?_) rfl (by kernel_rfl) (by kernel_rfl) (by kernel_rfl) (fun _ _ _ h => h) (Or.inl ⟨by rfl, ?_⟩) (by assumption) ?_
                rotate_left
                · intro w hSw; (try dsimp only at hSw); go_simp; (try with_reducible rfl)
                try simp only [Act.put, List.setIfInBounds_toArray, List.set_cons_zero, List.set_cons_succ]
                refine wpAnyH_take (i := 28) (oi := { dst := some 154, op := Op.pick (Operand.tmp 144) (Operand.tmp 153) (Operand.const (Value.bool false)), type := 4, pos := "more.go:59", after := #[{ on := 18, ground := Ground.data }, { on := 27, ground := Ground.data }], guard := none }) (v := ?_) rfl (by kernel_rfl) (by kernel_rfl) (by kernel_rfl) (fun _ _ _ h => h) (Or.inl ⟨by rfl, ?_⟩) (by assumption) ?_
                rotate_left
                · intro w hSw; (try dsimp only at hSw); go_simp; (try with_reducible rfl)
                try simp only [Act.put, List.setIfInBounds_toArray, List.set_cons_zero, List.set_cons_succ]
                refine wpAnyH_take (i := 29) (oi := { dst := some 155, op := Op.move (Operand.tmp 154), type := 4, pos := "more.go:59", after := #[{ on := 28, ground := Ground.data }, { on := 18, ground := Ground.chain }], guard := none }) (v := ?_) rfl (by kernel_rfl) (by kernel_rfl) (by kernel_rfl) (fun _ _ _ h => h) (Or.inl ⟨by rfl, ?_⟩) (by assumption) ?_
                rotate_left
                · intro w hSw; (try dsimp only at hSw); go_simp; (try with_reducible rfl)
                try simp only [Act.put, List.setIfInBounds_toArray, List.set_cons_zero, List.set_cons_succ]
                refine wpAnyH_take (i := 30) (oi := { dst := some 156, op := Op.move (Operand.tmp 10), type := 24, pos := "more.go:59", after := #[{ on := 29, ground := Ground.guard }], guard := some (29, true) }) (v := ?_) rfl (by kernel_rfl) (by kernel_rfl) (by kernel_rfl) (fun _ _ _ h => h) (Or.inl ⟨by rfl, ?_⟩) (by assumption) ?_
                rotate_left
                · intro w hSw; (try dsimp only at hSw); go_simp; (try with_reducible rfl)
                try simp only [Act.put, List.setIfInBounds_toArray, List.set_cons_zero, List.set_cons_succ]
                refine wpAnyH_take (i := 31) (oi := { dst := some 157, op := Op.indexAddr 24 (Operand.tmp 156) (Operand.const (Value.int IntKind.i64 1)), type := 0, pos := "more.go:59", after := #[{ on := 30, ground := Ground.data }, { on := 29, ground := Ground.guard }], guard := some (29, true) }) (v := ?_) rfl (by kernel_rfl) (by kernel_rfl) (by kernel_rfl) (fun _ _ _ h => h) (Or.inl ⟨by rfl, ?_⟩) (by assumption) ?_
                rotate_left
                · intro w hSw; (try dsimp only at hSw); go_simp; (try with_reducible rfl)
                try simp only [Act.put, List.setIfInBounds_toArray, List.set_cons_zero, List.set_cons_succ]
                refine wpAnyH_take (i := 32) (oi := { dst := some 158, op := Op.fieldAddr 32 (Operand.tmp 157) 3, type := 0, pos := "more.go:59", after := #[{ on := 31, ground := Ground.data }, { on := 29, ground := Ground.guard }], guard := some (29, true) }) (v := ?_) rfl (by kernel_rfl) (by kernel_rfl) (by kernel_rfl) (fun _ _ _ h => h) (Or.inl ⟨by rfl, ?_⟩) (by assumption) ?_
                rotate_left
                · intro w hSw; (try dsimp only at hSw); go_simp; (try with_reducible rfl)
                try simp only [Act.put, List.setIfInBounds_toArray, List.set_cons_zero, List.set_cons_succ]
                refine wpAnyH_take (i := 33) (oi := { dst := some 159, op := Op.load 9 (Operand.tmp 158), type := 9, pos := "more.go:59", after := #[{ on := 32, ground := Ground.data }, { on := 29, ground := Ground.guard }], guard := some (29, true) }) (v := ?_) rfl (by kernel_rfl) (by kernel_rfl) (by kernel_rfl) (fun _ _ _ h => h) (Or.inl ⟨by rfl, ?_⟩) (by assumption) ?_
                rotate_left
                · intro w hSw; (try dsimp only at hSw); go_simp; (try with_reducible rfl)
                try simp only [Act.put, List.setIfInBounds_toArray, List.set_cons_zero, List.set_cons_succ]
                refine wpAnyH_take (i := 34) (oi := { dst := some 160, op := Op.call { callee := Callee.builtin Builtin.len, args := #[Operand.tmp 159], argTypes := #[9] }, type := 3, pos := "more.go:59", after := #[{ on := 33, ground := Ground.data }, { on := 29, ground := Ground.guard }], guard := some (29, true) }) (v := ?_) rfl (by kernel_rfl) (by kernel_rfl) (by kernel_rfl) (fun _ _ _ h => h) (Or.inl ⟨by rfl, ?_⟩) (by assumption) ?_
                rotate_left
                · intro w hSw; (try dsimp only at hSw); go_simp; (try with_reducible rfl)
                try simp only [Act.put, List.setIfInBounds_toArray, List.set_cons_zero, List.set_cons_succ]
                refine wpAnyH_take (i := 35) (oi := { dst := some 161, op := Op.binOp BinOp.geq 3 (Operand.tmp 160) (Operand.const (Value.int IntKind.i64 1)) 3, type := 4, pos := "more.go:59", after := #[{ on := 34, ground := Ground.data }, { on := 29, ground := Ground.guard }], guard := some (29, true) }) (v := ?_) rfl (by kernel_rfl) (by kernel_rfl) (by kernel_rfl) (fun _ _ _ h => h) (Or.inl ⟨by rfl, ?_⟩) (by assumption) ?_
                rotate_left
                · intro w hSw; (try dsimp only at hSw); go_simp; (try with_reducible rfl)
                try simp only [Act.put, List.setIfInBounds_toArray, List.set_cons_zero, List.set_cons_succ]
                refine wpAnyH_take (i := 36) (oi := { dst := some 162, op := Op.pick (Operand.tmp 155) (Operand.tmp 161) (Operand.const (Value.bool false)), type := 4, pos := "more.go:59", after := #[{ on := 29, ground := Ground.data }, { on := 35, ground := Ground.data }], guard := none }) (v := ?_) rfl (by kernel_rfl) (by kernel_rfl) (by kernel_rfl) (fun _ _ _ h => h) (Or.inl ⟨by rfl, ?_⟩) (by assumption) ?_
                rotate_left
                · intro w hSw; (try dsimp only at hSw); go_simp; (try with_reducible rfl)
                try simp only [Act.put, List.setIfInBounds_toArray, List.set_cons_zero, List.set_cons_succ]
                refine wpAnyH_take (i := 37) (oi := { dst := some 163, op := Op.move (Operand.tmp 162), type := 4, pos := "more.go:59", after := #[{ on := 36, ground := Ground.data }, { on := 29, ground := Ground.chain }], guard := none }) (v := ?_) rfl (by kernel_rfl) (by kernel_rfl) (by kernel_rfl) (fun _ _ _ h => h) (Or.inl ⟨by rfl, ?_⟩) (by assumption) ?_
                rotate_left
                · intro w hSw; (try dsimp only at hSw); go_simp; (try with_reducible rfl)
                try simp only [Act.put, List.setIfInBounds_toArray, List.set_cons_zero, List.set_cons_succ]
                refine wpAnyH_take (i := 38) (oi := { dst := some 164, op := Op.move (Operand.tmp 10), type := 24, pos := "more.go:59", after := #[{ on := 37, ground := Ground.guard }], guard := some (37, true) }) (v := ?_) rfl (by kernel_rfl) (by kernel_rfl) (by kernel_rfl) (fun _ _ _ h => h) (Or.inl ⟨by rfl, ?_⟩) (by assumption) ?_
                rotate_left
                · intro w hSw; (try dsimp only at hSw); go_simp; (try with_reducible rfl)
                try simp only [Act.put, List.setIfInBounds_toArray, List.set_cons_zero, List.set_cons_succ]
                refine wpAnyH_take (i := 39) (oi := { dst := some 165, op := Op.indexAddr 24 (Operand.tmp 164) (Operand.const (Value.int IntKind.i64 1)), type := 0, pos := "more.go:59", after := #[{ on := 38, ground := Ground.data }, { on := 37, ground := Ground.guard }], guard := some (37, true) }) (v := ?_) rfl (by kernel_rfl) (by kernel_rfl) (by kernel_rfl) (fun _ _ _ h => h) (Or.inl ⟨by rfl, ?_⟩) (by assumption) ?_
                rotate_left
                · intro w hSw; (try dsimp only at hSw); go_simp; (try with_reducible rfl)
                try simp only [Act.put, List.setIfInBounds_toArray, List.set_cons_zero, List.set_cons_succ]
                refine wpAnyH_take (i := 40) (oi := { dst := some 166, op := Op.fieldAddr 32 (Operand.tmp 165) 3, type := 0, pos := "more.go:59", after := #[{ on := 39, ground := Ground.data }, { on := 37, ground := Ground.guard }], guard := some (37, true) }) (v := ?_) rfl (by kernel_rfl) (by kernel_rfl) (by kernel_rfl) (fun _ _ _ h => h) (Or.inl ⟨by rfl, ?_⟩) (by assumption) ?_
                rotate_left
                · intro w hSw; (try dsimp only at hSw); go_simp; (try with_reducible rfl)
                try simp only [Act.put, List.setIfInBounds_toArray, List.set_cons_zero, List.set_cons_succ]
                refine wpAnyH_take (i := 41) (oi := { dst := some 167, op := Op.load 9 (Operand.tmp 166), type := 9, pos := "more.go:59", after := #[{ on := 40, ground := Ground.data }, { on := 37, ground := Ground.guard }], guard := some (37, true) }) (v := ?_) rfl (by kernel_rfl) (by kernel_rfl) (by kernel_rfl) (fun _ _ _ h => h) (Or.inl ⟨by rfl, ?_⟩) (by assumption) ?_
                rotate_left
                · intro w hSw; (try dsimp only at hSw); go_simp; (try with_reducible rfl)
                try simp only [Act.put, List.setIfInBounds_toArray, List.set_cons_zero, List.set_cons_succ]
                refine wpAnyH_take (i := 42) (oi := { dst := some 168, op := Op.call { callee := Callee.builtin Builtin.len, args := #[Operand.tmp 167], argTypes := #[9] }, type := 3, pos := "more.go:59", after := #[{ on := 41, ground := Ground.data }, { on := 37, ground := Ground.guard }], guard := some (37, true) }) (v := ?_) rfl (by kernel_rfl) (by kernel_rfl) (by kernel_rfl) (fun _ _ _ h => h) (Or.inl ⟨by rfl, ?_⟩) (by assumption) ?_
                rotate_left
                · intro w hSw; (try dsimp only at hSw); go_simp; (try with_reducible rfl)
                try simp only [Act.put, List.setIfInBounds_toArray, List.set_cons_zero, List.set_cons_succ]
                refine wpAnyH_take (i := 43) (oi := { dst := some 169, op := Op.binOp BinOp.leq 3 (Operand.tmp 168) (Operand.const (Value.int IntKind.i64 4)) 3, type := 4, pos := "more.go:59", after := #[{ on := 42, ground := Ground.data }, { on := 37, ground := Ground.guard }], guard := some (37, true) }) (v := ?_) rfl (by kernel_rfl) (by kernel_rfl) (by kernel_rfl) (fun _ _ _ h => h) (Or.inl ⟨by rfl, ?_⟩) (by assumption) ?_
                rotate_left
                · intro w hSw; (try dsimp only at hSw); go_simp; (try with_reducible rfl)
                try simp only [Act.put, List.setIfInBounds_toArray, List.set_cons_zero, List.set_cons_succ]
                refine wpAnyH_take (i := 44) (oi := { dst := some 170, op := Op.pick (Operand.tmp 163) (Operand.tmp 169) (Operand.const (Value.bool false)), type := 4, pos := "more.go:59", after := #[{ on := 37, ground := Ground.data }, { on := 43, ground := Ground.data }], guard := none }) (v := ?_) rfl (by kernel_rfl) (by kernel_rfl) (by kernel_rfl) (fun _ _ _ h => h) (Or.inl ⟨by rfl, ?_⟩) (by assumption) ?_
                rotate_left
                · intro w hSw; (try dsimp only at hSw); go_simp; (try with_reducible rfl)
                try simp only [Act.put, List.setIfInBounds_toArray, List.set_cons_zero, List.set_cons_succ]
                refine wpAnyH_take (i := 45) (oi := { dst := some 4, op := Op.assign (Operand.tmp 170), type := 4, pos := "more.go:59", after := #[{ on := 44, ground := Ground.data }, { on := 37, ground := Ground.chain }, { on := 0, ground := Ground.phase }, { on := 1, ground := Ground.phase }, { on := 2, ground := Ground.phase }, { on := 3, ground := Ground.phase }, { on := 4, ground := Ground.phase }, { on := 5, ground := Ground.phase }, { on := 6, ground := Ground.phase }, { on := 7, ground := Ground.phase }, { on := 8, ground := Ground.phase }, { on := 9, ground := Ground.phase }, { on := 10, ground := Ground.phase }, { on := 11, ground := Ground.phase }, { on := 12, ground := Ground.phase }, { on := 13, ground := Ground.phase }, { on := 14, ground := Ground.phase }, { on := 15, ground := Ground.phase }, { on := 16, ground := Ground.phase }, { on := 17, ground := Ground.phase }, { on := 18, ground := Ground.phase }, { on := 19, ground := Ground.phase }, { on := 20, ground := Ground.phase }, { on := 21, ground := Ground.phase }, { on := 22, ground := Ground.phase }, { on := 23, ground := Ground.phase }, { on := 24, ground := Ground.phase }, { on := 25, ground := Ground.phase }, { on := 26, ground := Ground.phase }, { on := 27, ground := Ground.phase }, { on := 28, ground := Ground.phase }, { on := 29, ground := Ground.phase }, { on := 30, ground := Ground.phase }, { on := 31, ground := Ground.phase }, { on := 32, ground := Ground.phase }, { on := 33, ground := Ground.phase }, { on := 34, ground := Ground.phase }, { on := 35, ground := Ground.phase }, { on := 36, ground := Ground.phase }, { on := 37, ground := Ground.phase }, { on := 38, ground := Ground.phase }, { on := 39, ground := Ground.phase }, { on := 40, ground := Ground.phase }, { on := 41, ground := Ground.phase }, { on := 42, ground := Ground.phase }, { on := 43, ground := Ground.phase }, { on := 44, ground := Ground.phase }], guard := none }) (v := ?_) rfl (by kernel_rfl) (by kernel_rfl) (by kernel_rfl) (fun _ _ _ h => h) (Or.inl ⟨by rfl, ?_⟩) (by assumption) ?_
                rotate_left
                · intro w hSw; (try dsimp only at hSw); go_simp; (try with_reducible rfl)
                try simp only [Act.put, List.setIfInBounds_toArray, List.set_cons_zero, List.set_cons_succ]
                refine wpAnyH_done (by kernel_rfl) ?_ _
                go_wp2_with fail
                go_ret
                exact ⟨rfl, HBd.out⟩
            | false =>
              have HC1 : Hid (∀ W, Calls Tryd.prog 7 #[.string ((⟨#[60, 97, 62, 38, 35]⟩ : ByteArray) ++ D ++ ⟨#[59, 60, 47, 97, 62]⟩)] W fun e w' => e = .returned (.tuple #[.slice none 0 0, .agg #[.int .i64 11, .int .i64 3, .string ⟨#[]⟩]]) ∧ Below W.heap.size W w') := Lib.hid (fun W => cut_num_no _ (.inl rfl) H10.out hs10.out hgd W)
              have HC2 : Hid (∀ W, Calls Tryd.prog 7 #[.string ((⟨#[60, 97, 62, 38, 35, 120]⟩ : ByteArray) ++ E ++ ⟨#[59, 60, 47, 97, 62]⟩)] W fun e w' => e = .returned (.tuple #[.slice none 0 0, .agg #[.int .i64 11, .int .i64 3, .string ⟨#[]⟩]]) ∧ Below W.heap.size W w') := Lib.hid (fun W => cut_num_no _ (.inr rfl) H16.out hs16.out hgd W)
              have hbd2 : (R < 32 ∧ R ≠ 9 ∧ R ≠ 10 ∧ R ≠ 13) ∨ (55296 ≤ R ∧ R ≤ 57343) ∨ (65534 ≤ R ∧ R ≤ 65535) := by
                unfold uChar at hgd
                have := of_decide_eq_false hgd
                omega
              clear hgd
              go_wp2_with fail
              refine (HC1.out _).mono ?_
              rintro e w2 ⟨rfl, hb2⟩
              have d1 := Blk.new w2 27 #[.int .i64 11, .int .i64 3, .string ⟨#[]⟩]
              have hb2 := HB.out.trans (hb2.mono HB.out.size)
              have HBc := Lib.hid (hb2.alloc hb2.size (.cells #[.int .i64 11, .int .i64 3, .string ⟨#[]⟩] 27))
              have D1 := Lib.hid d1
              clear hb2 d1 HC1 HB
              go_wp2_with fail
              refine (HC2.out _).mono ?_
              rintro e w3 ⟨rfl, hb3⟩
              have hl2 := D1.out.lt
              have e1 := (D1.out.below hb3 hl2).alloc (.cells #[.int .i64 11, .int .i64 3, .string ⟨#[]⟩] 27)
              have e3 := Blk.new w3 27 #[.int .i64 11, .int .i64 3, .string ⟨#[]⟩]
              have HBe := Lib.hid ((HBc.out.trans (hb3.mono HBc.out.size)).alloc (Nat.le_trans HBc.out.size hb3.size) (.cells #[.int .i64 11, .int .i64 3, .string ⟨#[]⟩] 27))
              have a0 := e1.cell 0; have q0 := e3.cell 0; have a1 := e1.cell 1; have q1 := e3.cell 1
              simp only [List.getElem?_toArray, List.getElem?_cons_zero, List.getElem?_cons_succ] at a0 q0 a1 q1
              clear hb3 e1 e3 HBc D1 HC2 hs10 hs16 H10 H16
              go_upto_region 17 with fail
              revert a0 q0 a1 q1 HBe
              generalize w3.alloc (.cells #[.int .i64 11, .int .i64 3, .string ⟨#[]⟩] 27) = W0
              intro HBe a0 q0 a1 q1
              go_cut [14] (fun gv wx => gv = .bool false ∧ W0 = wx)
              case first => as_aux_lemma =>
                rcases hbd2 with ha | hb | hc
                · have e9 : ((R : Int) == 9) = false := by simpa using (show ¬ (R : Int) = 9 by omega)
                  have e10 : ((R : Int) == 10) = false := by simpa using (show ¬ (R : Int) = 10 by omega)
                  have e13 : ((R : Int) == 13) = false := by simpa using (show ¬ (R : Int) = 13 by omega)
                  go_wp2_with fail
                  go_meet
                  case rel => first | exact ⟨rfl, rfl⟩ | exact ⟨congrArg Value.bool (by simp; omega), rfl⟩
                · have e9 : ((R : Int) == 9) = false := by simpa using (show ¬ (R : Int) = 9 by omega)
                  have e10 : ((R : Int) == 10) = false := by simpa using (show ¬ (R : Int) = 10 by omega)
                  have e13 : ((R : Int) == 13) = false := by simpa using (show ¬ (R : Int) = 13 by omega)
                  go_wp2_with fail
                  go_meet
                  case rel => first | exact ⟨rfl, rfl⟩ | exact ⟨congrArg Value.bool (by simp; omega), rfl⟩
                · have e9 : ((R : Int) == 9) = false := by simpa using (show ¬ (R : Int) = 9 by omega)
                  have e10 : ((R : Int) == 10) = false := by simpa using (show ¬ (R : Int) = 10 by omega)
                  have e13 : ((R : Int) == 13) = false := by simpa using (show ¬ (R : Int) = 13 by omega)
                  go_wp2_with fail
                  go_meet
                  case rel => first | exact ⟨rfl, rfl⟩ | exact ⟨congrArg Value.bool (by simp; omega), rfl⟩
              case rest =>
                obtain ⟨rfl, rfl⟩ := hcut
                clear hbd2
                go_wp2_with fail
                go_ret
                exact ⟨rfl, HBe.out⟩
theorem wf_i7 {a : Int} (h : (Lit.int .i64 a).wf = true) : -9223372036854775808 ≤ a ∧ a ≤ 9223372036854775807 := by
  simp [Lit.wf, IntKind.min, IntKind.max, IntKind.bits, IntKind.signed] at h; omega
theorem xtokNumbers.walk (r : Int) (u : Bool) (hr : (Lit.int .i64 r).wf = true) (w : World) :
    Calls Tryd.prog 4 #[.int .i64 r, .bool u] w fun e w' => e = .returned (.bool true) ∧ Below w.heap.size w w' :=
  xtokNumbers_any r u (wf_i7 hr) w
end Go.Proofs.YtkebjllehegjlaaDoor
