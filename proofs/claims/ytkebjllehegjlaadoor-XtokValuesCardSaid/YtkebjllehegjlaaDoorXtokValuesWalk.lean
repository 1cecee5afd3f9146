/-
  XtokValues: a value between either sort of quotes.
-/
import Derived.Test.YtkebjllehegjlaaDoorYc
import Derived.Test.YtkebjllehegjlaaDoorPost
namespace Go.Proofs.YtkebjllehegjlaaDoor
open Go.RowKit Go.Shelf
set_option linter.unusedVariables false
theorem text_self (v : ByteArray) : (⟨v.data.toList.toArray⟩ : ByteArray) = v := by cases v; rfl
theorem sing_app (l : List UInt8) (i : Nat) (h : i < l.length) : (l.take (i + 1)).flatMap singF = (l.take i).flatMap singF ++ singF l[i] := by
  rw [List.take_succ_eq_append_getElem h, List.flatMap_append]
  simp
theorem one_byte {E : ByteArray} {i : Nat} {y : UInt8} (h : i < E.size) (hy : E[i] = y) : E.extract i (i + 1) = ⟨#[y]⟩ := by
  refine bytes_of (l := [y]) ?_
  rw [ByteArray.data_extract, Array.toList_extract, List.extract_eq_take_drop, Nat.add_sub_cancel_left, drop_cons E i h, hy]
  rfl
theorem flat_len (f : UInt8 → List UInt8) (k : Nat) (hf : ∀ c, (f c).length ≤ k) (l : List UInt8) : (l.flatMap f).length ≤ k * l.length := by
  induction l with
  | nil => simp
  | cons c l ih =>
    rw [List.flatMap_cons, List.length_append, List.length_cons, Nat.mul_add]
    have := hf c
    omega
theorem sing_len (c : UInt8) : (singF c).length ≤ 6 := by
  unfold singF
  split <;> simp
set_option maxRecDepth 100000 in
set_option maxHeartbeats 16000000 in
theorem xtokValues.walk (v bl : ByteArray) (hv0 : v.size ≤ maxLen) (hb0 : bl.size ≤ maxLen) (w : World) : Calls Tryd.prog 3 #[.string v, .string bl] w fun e w' => e = .returned (.bool true) ∧ Below w.heap.size w w' := by
  have HAl := Lib.hid (fun W => alive_any W)
  by_cases hvl : 300 < v.size
  · have hvi : (300 : Int) < (v.size : Int) := by omega
    go_enter Tryd.func3, Tryd.ntmps3
    go_wp2_with fail
    refine (HAl.out _).mono ?_
    rintro e w1 ⟨rfl, hb⟩
    have HB := Lib.hid hb
    clear hb
    go_wp2_with fail
    go_ret
    exact ⟨rfl, HB.out⟩
  by_cases hbl : 20 < bl.size
  · have hbi : (20 : Int) < (bl.size : Int) := by omega
    have hvi : ¬ (300 : Int) < (v.size : Int) := by omega
    go_enter Tryd.func3, Tryd.ntmps3
    go_wp2_with fail
    refine (HAl.out _).mono ?_
    rintro e w1 ⟨rfl, hb⟩
    have HB := Lib.hid hb
    clear hb
    go_wp2_with fail
    go_ret
    exact ⟨rfl, HB.out⟩
  have hvi : ¬ (300 : Int) < (v.size : Int) := by omega
  have hbi : ¬ (20 : Int) < (bl.size : Int) := by omega
  have hv3 : v.size ≤ 300 := by omega
  have hb2 : bl.size ≤ 20 := by omega
  obtain ⟨n, hn⟩ : ∃ n, bl.size = n := ⟨_, rfl⟩
  have hni : (bl.size : Int) = (n : Int) := by rw [hn]
  have Hn := Lib.hid hn
  have hn20 : n ≤ 20 := by omega
  clear hvl hbl hv0 hb0 hn
  go_enter Tryd.func3, Tryd.ntmps3
  go_wp2_with fail
  refine (HAl.out _).mono ?_
  rintro e w1 ⟨rfl, hb⟩
  have HB := Lib.hid hb
  clear hb HAl
  go_wp2_with fail
  go_loop [5] (fun iv => ∃ i : Nat, iv = .int .i64 (i : Int) ∧ i ≤ n ∧ Hid (∀ z ∈ bl.data.toList.take i, Blank z)) (fun iv => n - (intOf iv).toNat)
  case atStart => exact ⟨0, rfl, Nat.zero_le _, Lib.hid (fun z hz => by simp at hz)⟩
  case round =>
    obtain ⟨i, rfl, hin, HBl⟩ := hrel
    by_cases hend : i = n
    · have hnl : ¬ (i : Int) < (n : Int) := by omega
      have HBlank : Hid (∀ z ∈ bl.data.toList, Blank z) := Lib.hid (by
        have := HBl.out
        rwa [List.take_of_length_le (by have := Hn.out; simp; omega)] at this)
      clear HBl
      obtain ⟨E, hE⟩ : ∃ E : ByteArray, ⟨(v.data.toList.flatMap (escF true)).toArray⟩ = E := ⟨_, rfl⟩
      have HEs := Lib.hid (fun W => escape_any v true (by omega) W)
      simp only [hE] at HEs
      have hEl : E.data.toList = v.data.toList.flatMap (escF true) := by rw [← hE]
      have hvlen : v.data.toList.length = v.size := by simp
      have hE2 : E.size = E.data.toList.length := by simp
      have hE3 : E.size ≤ 1800 := by
        have := flat_len (escF true) 6 (esc_len true) v.data.toList
        rw [hE2, hEl]
        omega
      obtain ⟨m, hm⟩ : ∃ m, E.size = m := ⟨_, rfl⟩
      have hmi : (E.size : Int) = (m : Int) := by rw [hm]
      have Hm := Lib.hid hm
      have hm18 : m ≤ 1800 := by omega
      have hni2 : (bl.size : Int) ≤ 20 := by omega
      have HEl := Lib.hid hEl
      have hs1 : ((⟨#[60, 97, 32, 98, 61, 34]⟩ : ByteArray) ++ E ++ ⟨#[34, 47, 62]⟩).data.toList = attText [32] [] [] [] 34 (srcs (v.data.toList.map escP)) := by
        rw [srcs_escP, ByteArray.toList_data_append, ByteArray.toList_data_append, hEl]
        simp [attText]
      have hz1 : ((⟨#[60, 97, 32, 98, 61, 34]⟩ : ByteArray) ++ E ++ ⟨#[34, 47, 62]⟩).size ≤ 60000 := by
        rw [ByteArray.size_append, ByteArray.size_append]
        show 6 + E.size + 3 ≤ 60000
        omega
      have HC1 : Hid (∀ W, Calls Tryd.prog 7 #[.string ((⟨#[60, 97, 32, 98, 61, 34]⟩ : ByteArray) ++ E ++ ⟨#[34, 47, 62]⟩)] W fun e w' => ∃ (tk : Value) (c p : Int), e = .returned (.tuple #[tk, .agg #[.int .i64 c, .int .i64 p, .string ⟨#[]⟩]]) ∧ ((good v.data.toList ∧ c = 0 ∧ Told w' tk (tkV v.data.toList 3)) ∨ (¬ good v.data.toList ∧ c = 11)) ∧ Below W.heap.size W w') := Lib.hid (fun W => by
        by_cases hg : good v.data.toList
        · exact (cut_att _ hz1 [32] [] [] [] (by simp [Blank]) (by simp) (by simp) (by simp) (by simp) 34 (.inl rfl) (v.data.toList.map escP) (fun p hp => by obtain ⟨c, _, rfl⟩ := List.mem_map.1 hp; exact esc_ok c) v.data.toList (decs_one escP (fun _ => rfl) _) (by omega) hs1 (by rw [srcs_escP]; exact (esc_writes.good _ _ (Nat.le_refl _)).2 hg) W).mono fun e w' hh => by
            obtain ⟨tk, h1, h2, h3⟩ := hh
            exact ⟨tk, 0, 0, h1, .inl ⟨hg, rfl, h2⟩, h3⟩
        · exact (cut_att_no _ hz1 [32] [] [] [] (by simp [Blank]) (by simp) (by simp) (by simp) 34 (.inl rfl) _ hs1 (by rw [srcs_escP]; exact fun h => hg ((esc_writes.good _ _ (Nat.le_refl _)).1 h)) W).mono fun e w' hh => by
            obtain ⟨⟨p, h1⟩, h3⟩ := hh
            exact ⟨_, 11, p, h1, .inr ⟨hg, rfl⟩, h3⟩)
      have HC2 : Hid (∀ (S : ByteArray) (W : World), S.data.toList = E.data.toList.flatMap singF → S.size ≤ 20000 → Calls Tryd.prog 7 #[.string ((⟨#[60, 97, 32]⟩ : ByteArray) ++ bl ++ ⟨#[98]⟩ ++ bl ++ ⟨#[61]⟩ ++ bl ++ ⟨#[39]⟩ ++ S ++ ⟨#[39]⟩ ++ bl ++ ⟨#[47, 62]⟩)] W fun e w' => ∃ (tk : Value) (c p : Int), e = .returned (.tuple #[tk, .agg #[.int .i64 c, .int .i64 p, .string ⟨#[]⟩]]) ∧ ((good v.data.toList ∧ c = 0 ∧ Told w' tk (tkV v.data.toList (2 + (32 :: bl.data.toList).length))) ∨ (¬ good v.data.toList ∧ c = 11)) ∧ Below W.heap.size W w') := Lib.hid (fun S W hS hS2 => by
        have hs2 : ((⟨#[60, 97, 32]⟩ : ByteArray) ++ bl ++ ⟨#[98]⟩ ++ bl ++ ⟨#[61]⟩ ++ bl ++ ⟨#[39]⟩ ++ S ++ ⟨#[39]⟩ ++ bl ++ ⟨#[47, 62]⟩).data.toList = attText (32 :: bl.data.toList) bl.data.toList bl.data.toList bl.data.toList 39 (srcs (v.data.toList.map escS)) := by
          rw [srcs_escS, ← hEl, ← hS]
          simp only [ByteArray.toList_data_append]
          simp [attText]
        have hz2 : ((⟨#[60, 97, 32]⟩ : ByteArray) ++ bl ++ ⟨#[98]⟩ ++ bl ++ ⟨#[61]⟩ ++ bl ++ ⟨#[39]⟩ ++ S ++ ⟨#[39]⟩ ++ bl ++ ⟨#[47, 62]⟩).size ≤ 60000 := by
          simp only [ByteArray.size_append]
          show 3 + bl.size + 1 + bl.size + 1 + bl.size + 1 + S.size + 1 + bl.size + 2 ≤ 60000
          omega
        have hB := HBlank.out
        have hB1 : ∀ z ∈ (32 :: bl.data.toList), Blank z := fun z hz => (List.mem_cons.1 hz).elim (fun e => .inl e) (hB z)
        by_cases hg : good v.data.toList
        · exact (cut_att _ hz2 (32 :: bl.data.toList) bl.data.toList bl.data.toList bl.data.toList hB1 (by simp) hB hB hB 39 (.inr rfl) (v.data.toList.map escS) (fun p hp => by obtain ⟨c, _, rfl⟩ := List.mem_map.1 hp; exact sing_ok c) v.data.toList (decs_one escS (fun _ => rfl) _) (by omega) hs2 (by rw [srcs_escS]; exact (sing_writes.good _ _ (Nat.le_refl _)).2 ((esc_writes.good _ _ (Nat.le_refl _)).2 hg)) W).mono fun e w' hh => by
            obtain ⟨tk, h1, h2, h3⟩ := hh
            exact ⟨tk, 0, 0, h1, .inl ⟨hg, rfl, h2⟩, h3⟩
        · exact (cut_att_no _ hz2 (32 :: bl.data.toList) bl.data.toList bl.data.toList bl.data.toList hB1 hB hB hB 39 (.inr rfl) _ hs2 (by rw [srcs_escS]; exact fun h => hg ((esc_writes.good _ _ (Nat.le_refl _)).1 ((sing_writes.good _ _ (Nat.le_refl _)).1 h))) W).mono fun e w' hh => by
            obtain ⟨⟨p, h1⟩, h3⟩ := hh
            exact ⟨_, 11, p, h1, .inr ⟨hg, rfl⟩, h3⟩)
      have hTT : (v.toList == v.toList) = true := by simp
      clear hE hEl hvlen hE2 hE3 hm hs1 hz1
      go_wp2_with fail
      refine (HEs.out _).mono ?_
      rintro e w2 ⟨rfl, hb⟩
      have HB2 := Lib.hid (HB.out.trans (hb.mono HB.out.size))
      clear hb HEs HB
      go_wp2_with fail
      refine (HC1.out _).mono ?_
      rintro e w3 ⟨tk1, c1, p1, rfl, hw1, hb⟩
      have hb3 := HB2.out.trans (hb.mono HB2.out.size)
      have D1 := Lib.hid (Blk.new w3 27 #[.int .i64 c1, .int .i64 p1, .string ⟨#[]⟩])
      have HB3 := Lib.hid (hb3.alloc hb3.size (.cells #[.int .i64 c1, .int .i64 p1, .string ⟨#[]⟩] 27))
      have HW1 := Lib.hid hw1
      clear hb hb3 HC1 HB2 hw1
      go_wp2_with fail
      go_loop [9, 10] (fun dv jv => ∃ (j : Nat) (S : ByteArray), dv = .string S ∧ jv = .int .i64 (j : Int) ∧ j ≤ m ∧ Hid (S.data.toList = (E.data.toList.take j).flatMap singF) ∧ S.size ≤ 6 * j) (fun _ jv => m - (intOf jv).toNat)
      case atStart => exact ⟨0, ⟨#[]⟩, rfl, rfl, Nat.zero_le _, Lib.hid (by simp), by decide⟩
      case round =>
        obtain ⟨j, S, rfl, rfl, hjm, HS, hSs⟩ := hrel
        by_cases hend2 : j = m
        · have hnl2 : ¬ (j : Int) < (m : Int) := by omega
          have hS : S.data.toList = E.data.toList.flatMap singF := by
            have := HS.out
            rwa [List.take_of_length_le (by have := Hm.out; simp; omega)] at this
          have HC3 := Lib.hid (fun W => HC2.out S W hS (by omega))
          have hSi : (S.size : Int) ≤ 20000 := by omega
          clear hS HS HC2
          go_wp2_with fail
          refine (HC3.out _).mono ?_
          rintro e w4 ⟨tk2, c2, p2, rfl, hw2, hb⟩
          have hl := D1.out.lt
          have e1 := (D1.out.below hb hl).alloc (.cells #[.int .i64 c2, .int .i64 p2, .string ⟨#[]⟩] 27)
          have e3 := Blk.new w4 27 #[.int .i64 c2, .int .i64 p2, .string ⟨#[]⟩]
          have a0 := e1.cell 0; have q0 := e3.cell 0
          simp only [List.getElem?_toArray, List.getElem?_cons_zero] at a0 q0
          have HB4 := Lib.hid ((HB3.out.trans (hb.mono HB3.out.size)).alloc (Nat.le_trans HB3.out.size hb.size) (.cells #[.int .i64 c2, .int .i64 p2, .string ⟨#[]⟩] 27))
          rcases HW1.out with ⟨hg, rfl, ht1⟩ | ⟨hg, rfl⟩
          · rcases hw2 with ⟨_, rfl, ht2⟩ | ⟨hg2, _⟩
            · have T1 := ((ht1.below ((Below.refl _ _).alloc (Nat.le_refl _) (.cells #[.int .i64 0, .int .i64 p1, .string ⟨#[]⟩] 27))).below hb).below ((Below.refl _ _).alloc (Nat.le_refl _) (.cells #[.int .i64 0, .int .i64 p2, .string ⟨#[]⟩] 27))
              have T2 := ht2.below ((Below.refl _ _).alloc (Nat.le_refl _) (.cells #[.int .i64 0, .int .i64 p2, .string ⟨#[]⟩] 27))
              obtain ⟨g1, cap1, ga1, ca1, rfl, _, t14, _, t11⟩ := T1.one
              obtain ⟨g2, cap2, ga2, ca2, rfl, _, t24, _, t21⟩ := T2.one
              rw [text_self] at t11 t21
              clear ht1 ht2 T1 T2 e1 e3 hb HC3 HW1 D1 HB3 hg
              go_wp2_with fail
              go_ret
              exact ⟨rfl, HB4.out⟩
            · exact absurd hg hg2
          · rcases hw2 with ⟨hg2, _, _⟩ | ⟨_, rfl⟩
            · exact absurd hg2 hg
            · clear e1 e3 hb HC3 HW1 D1 HB3 hg
              go_wp2_with fail
              go_ret
              exact ⟨rfl, HB4.out⟩
        · have hji : (j : Int) < (m : Int) := by omega
          have hks : j < E.size := by have := Hm.out; omega
          have hj0 : (0 : Int) ≤ (j : Int) := by omega
          have hj5 : j ≤ 1800 := by omega
          have hil : j < E.data.toList.length := by simpa using hks
          obtain ⟨y, hy⟩ : ∃ y, E[j] = y := ⟨_, rfl⟩
          have hy2 : E.data.toList[j] = y := by
            have h1 := toList_atx E j hks
            rw [hy, List.getElem?_eq_getElem hil] at h1
            injection h1
          have HN : Hid (∀ u : ByteArray, u.data.toList = S.data.toList ++ singF y → u.data.toList = (E.data.toList.take (j + 1)).flatMap singF) := Lib.hid (fun u hu => by rw [hu, HS.out, sing_app _ j hil, hy2])
          have hSi : (S.size : Int) ≤ 20000 := by omega
          obtain ⟨C, hC⟩ : ∃ C : Int, (y.toNat : Int) = C := ⟨_, rfl⟩
          have hC2 : C < 256 := by have := y.toNat_lt; omega
          have HCut := Lib.hid (one_byte hks hy)
          clear HS hy2
          by_cases n39 : y.toNat = 39
          · have hC1 : C = 39 := by omega
            subst hC1
            have HN2 := Lib.hid (HN.out (S ++ ⟨#[38, 97, 112, 111, 115, 59]⟩) (by rw [ByteArray.toList_data_append]; unfold singF; rw [if_pos n39]))
            have hsz : (S ++ (⟨#[38, 97, 112, 111, 115, 59]⟩ : ByteArray)).size ≤ 6 * (j + 1) := by rw [ByteArray.size_append]; show S.size + 6 ≤ _; omega
            clear HN n39 HCut
            go_wp2_with fail
            exact ⟨⟨j + 1, _, rfl, rfl, by omega, HN2, hsz⟩, by simp [intOf]; omega⟩
          · have p39 : ¬ C = 39 := by omega
            have e39 : (C == 39) = false := by simpa using p39
            have HN2 := Lib.hid (HN.out (S ++ ⟨#[y]⟩) (by rw [ByteArray.toList_data_append]; unfold singF; rw [if_neg n39]))
            have hsz : (S ++ (⟨#[y]⟩ : ByteArray)).size ≤ 6 * (j + 1) := by rw [ByteArray.size_append]; show S.size + 1 ≤ _; omega
            clear HN n39
            go_wp2_with fail
            rw [HCut.out]
            exact ⟨⟨j + 1, _, rfl, rfl, by omega, HN2, hsz⟩, by simp [intOf]; omega⟩
    · have hji : (i : Int) < (n : Int) := by omega
      have hks : i < bl.size := by have := Hn.out; omega
      have hi0 : (0 : Int) ≤ (i : Int) := by omega
      have hi5 : i ≤ 20 := by omega
      have hil : i < bl.data.toList.length := by simpa using hks
      obtain ⟨y, hy⟩ : ∃ y, bl[i] = y := ⟨_, rfl⟩
      have hy2 : bl.data.toList[i] = y := by
        have h1 := toList_atx bl i hks
        rw [hy, List.getElem?_eq_getElem hil] at h1
        injection h1
      have HN : Hid (Blank y → ∀ z ∈ bl.data.toList.take (i + 1), Blank z) := Lib.hid (fun h z hz => by
        rw [List.take_succ_eq_append_getElem hil, hy2] at hz
        rcases List.mem_append.1 hz with hz | hz
        · exact HBl.out z hz
        · rw [List.mem_singleton.1 hz]; exact h)
      obtain ⟨C, hC⟩ : ∃ C : Int, (y.toNat : Int) = C := ⟨_, rfl⟩
      have hC2 : C < 256 := by have := y.toNat_lt; omega
      clear HBl hy2
      by_cases n32 : y.toNat = 32
      · have hC1 : C = 32 := by omega
        subst hC1
        have HN2 := Lib.hid (HN.out (.inl (to_byte n32)))
        clear HN n32
        go_wp2_with fail
        exact ⟨⟨i + 1, rfl, by omega, HN2⟩, by simp [intOf]; omega⟩
      have p1 : ¬ C = 32 := by omega
      have e1 : (C == 32) = false := by simpa using p1
      have f1 : (C != 32) = true := by simpa using p1
      by_cases n9 : y.toNat = 9
      · have hC1 : C = 9 := by omega
        subst hC1
        have HN2 := Lib.hid (HN.out (.inr (.inl (to_byte n9))))
        clear HN n32 n9
        go_wp2_with fail
        exact ⟨⟨i + 1, rfl, by omega, HN2⟩, by simp [intOf]; omega⟩
      have p2 : ¬ C = 9 := by omega
      have e2 : (C == 9) = false := by simpa using p2
      have f2 : (C != 9) = true := by simpa using p2
      by_cases n10 : y.toNat = 10
      · have hC1 : C = 10 := by omega
        subst hC1
        have HN2 := Lib.hid (HN.out (.inr (.inr (to_byte n10))))
        clear HN n32 n9 n10
        go_wp2_with fail
        exact ⟨⟨i + 1, rfl, by omega, HN2⟩, by simp [intOf]; omega⟩
      have p3 : ¬ C = 10 := by omega
      have e3 : (C == 10) = false := by simpa using p3
      have f3 : (C != 10) = true := by simpa using p3
      clear HN n32 n9 n10
      go_wp2_with fail
      go_ret
      exact ⟨rfl, HB.out⟩
end Go.Proofs.YtkebjllehegjlaaDoor
