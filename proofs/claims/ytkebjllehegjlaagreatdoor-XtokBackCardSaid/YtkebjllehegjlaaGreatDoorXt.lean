/-
  Law 7: blanks up to what is none; an attribute's value.
-/
import Derived.Test.YtkebjllehegjlaaGreatDoorXr
namespace Go.Proofs.YtkebjllehegjlaaGreatDoor
open Go.RowKit Go.Shelf
set_option linter.unusedVariables false
theorem drop_at {s : ByteArray} {k : Nat} {l : List UInt8} (h : s.data.toList.drop k = l) (i : Nat) : s.data.toList[k + i]? = l[i]? := by
  rw [← h, List.getElem?_drop]
/-- Blanks, and then what is none. -/
theorem blanks_to {w W : World} {b k : Nat} {s : ByteArray} {tk : Value} {x : Int} (h : Cu w b s k tk x W) (hs : s.size ≤ 1000000) {bl l : List UInt8} {y : UInt8} (hd : s.data.toList.drop k = bl ++ y :: l) (hbl : ∀ z ∈ bl, uSpace (z.toNat : Int) = true) (hy : uSpace (y.toNat : Int) = false) :
    Calls Tryz.prog 40 #[.pointer (some ⟨b, 0, none⟩)] W fun e w' => e = .returned (.bool (decide (0 < bl.length))) ∧ Cu w b s (k + bl.length) tk x w' := by
  have hsz := drop_size (a := bl ++ [y]) (l := l) (by rw [List.append_assoc]; exact hd) (by simp)
  simp only [List.length_append, List.length_singleton] at hsz
  refine (blanks_any h (by omega) hs).mono fun e w' hh => ?_
  obtain ⟨j, he, hc, hj1, hj2, hj3, hj4⟩ := hh
  have hj : j = k + bl.length := by
    rcases Nat.lt_trichotomy j (k + bl.length) with hl | hl | hl
    · exfalso
      have h1 := drop_at hd (j - k)
      rw [show k + (j - k) = j by omega, List.getElem?_append_left (by omega), List.getElem?_eq_getElem (show j - k < bl.length by omega)] at h1
      have h2 := hj4 _ h1
      rw [hbl _ (List.getElem_mem _)] at h2
      cases h2
    · exact hl
    · exfalso
      have h1 := drop_at hd bl.length
      rw [List.getElem?_append_right (Nat.le_refl _), Nat.sub_self] at h1
      have h2 := hj3 (k + bl.length) y (by omega) hl h1
      rw [hy] at h2
      cases h2
  subst hj
  exact ⟨by rw [he, show decide (k < k + bl.length) = decide (0 < bl.length) from decide_eq_decide.2 (by omega)], hc⟩
theorem goes_yes {s : ByteArray} {k : Nat} {u l : List UInt8} (h : s.data.toList.drop k = u ++ l) : goes s k ⟨u.toArray⟩ = true := by
  rw [goes_list, h]
  exact List.isPrefixOf_iff_prefix.2 ⟨l, rfl⟩
theorem goes_one {s : ByteArray} {k : Nat} {y c : UInt8} {u l : List UInt8} (h : s.data.toList.drop k = y :: l) (hc : c ≠ y) : goes s k ⟨(c :: u).toArray⟩ = false := by
  rw [goes_list, h]
  show (c :: u).isPrefixOf (y :: l) = false
  have e : (c == y) = false := by rw [beq_eq_false_iff_ne]; exact hc
  simp [List.isPrefixOf, e]
/-- A piece of a value between quotes q. -/
def VcOk (q : UInt8) (p : Pc) : Prop := (∃ y, p.src = [y] ∧ p.dec = [y] ∧ Self y ∧ y ≠ q) ∨ (∃ r, p.src = 38 :: r ∧ RefOk p)
set_option maxRecDepth 100000 in
set_option maxHeartbeats 8000000 in
theorem value_34 {w W : World} {b k : Nat} {s : ByteArray} {tk : Value} {x : Int} (h : Cu w b s k tk x W) (hs : s.size ≤ 1000000) (start : Int) (b1 b2 : List UInt8) (hb1 : ∀ z ∈ b1, uSpace (z.toNat : Int) = true) (hb2 : ∀ z ∈ b2, uSpace (z.toNat : Int) = true) (ps : List Pc) (hp : ∀ p ∈ ps, VcOk 34 p) (hdl : (decs ps).length ≤ 1000000) (rest : List UInt8) (hd : s.data.toList.drop k = b1 ++ 61 :: (b2 ++ 34 :: (srcs ps ++ 34 :: rest))) :
    Calls Tryz.prog 41 #[.pointer (some ⟨b, 0, none⟩), .int .i64 start] W fun e w' => e = .returned (.tuple #[.string ⟨(decs ps).toArray⟩, .bool true]) ∧ Cu w b s (k + b1.length + 1 + b2.length + 1 + (srcs ps).length + 1) tk x w' := by
  have hd1 : s.data.toList.drop (k + b1.length) = 61 :: (b2 ++ 34 :: (srcs ps ++ 34 :: rest)) := drop_step hd
  have hd2 : s.data.toList.drop (k + b1.length + 1) = b2 ++ 34 :: (srcs ps ++ 34 :: rest) := drop_step (a := [61]) hd1
  have hd3 : s.data.toList.drop (k + b1.length + 1 + b2.length) = 34 :: (srcs ps ++ 34 :: rest) := drop_step hd2
  have hd4 : s.data.toList.drop (k + b1.length + 1 + b2.length + 1) = srcs ps ++ 34 :: rest := drop_step (a := [34]) hd3
  have hsz : k + b1.length + 1 + b2.length + 1 + (srcs ps).length + 1 + rest.length = s.size := by
    have := drop_size (a := srcs ps ++ [34]) (l := rest) (by rw [List.append_assoc]; exact hd4) (by simp)
    simp only [List.length_append, List.length_singleton] at this
    omega
  have H1 := Lib.hid (blanks_to h hs hd hb1 (by decide))
  have H2 : Hid (∀ W', Cu w b s (k + b1.length) tk x W' → Calls Tryz.prog 21 #[.pointer (some ⟨b, 0, none⟩), .string ⟨#[61]⟩] W' fun e w' => e = .returned (.bool true) ∧ Cu w b s (k + b1.length + 1) tk x w') := Lib.hid (fun W' h' => take_yes h' (by omega) ⟨#[61]⟩ (goes_yes (u := [61]) hd1) hs (by decide))
  have H3 : Hid (∀ W', Cu w b s (k + b1.length + 1) tk x W' → Calls Tryz.prog 40 #[.pointer (some ⟨b, 0, none⟩)] W' fun e w' => e = .returned (.bool (decide (0 < b2.length))) ∧ Cu w b s (k + b1.length + 1 + b2.length) tk x w') := Lib.hid (fun W' h' => blanks_to h' hs hd2 hb2 (by decide))
  obtain ⟨g1, hg1⟩ : ∃ g, decide (0 < b1.length) = g := ⟨_, rfl⟩
  obtain ⟨g2, hg2⟩ : ∃ g, decide (0 < b2.length) = g := ⟨_, rfl⟩
  rw [hg1] at H1
  simp only [hg2] at H3
  obtain ⟨m, hm⟩ : ∃ m, k + b1.length + 1 + b2.length = m := ⟨_, rfl⟩
  rw [hm] at hd3 hd4 hsz
  simp only [hm] at H3 ⊢
  have H4 : Hid (∀ W', Cu w b s m tk x W' → Calls Tryz.prog 31 #[.pointer (some ⟨b, 0, none⟩), .string ⟨#[34]⟩] W' fun e w' => e = .returned (.bool true) ∧ Cu w b s m tk x w') := Lib.hid (fun W' h' => by
    have := begins_any h' (by omega) ⟨#[34]⟩
    rwa [goes_yes (u := [34]) hd3] at this)
  obtain ⟨hml, hsm, _, _⟩ := drop_get hd3
  have hmq : ((s[m]).toNat : Int) = 34 := by rw [hsm]; rfl
  obtain ⟨n, hsn⟩ : ∃ n, s.size = n := ⟨_, rfl⟩
  have hsi : (s.size : Int) = (n : Int) := by rw [hsn]
  have HS := Lib.hid hs; have HF := Lib.hid hsz; have Hsn := Lib.hid hsn
  have Hdl := Lib.hid hdl; have Hp := Lib.hid hp; have Hd4 := Lib.hid hd4
  have hm6 : m ≤ 1000000 := by omega
  have hmi : (m : Int) < (n : Int) := by omega
  clear h hp hb1 hb2 hd hd1 hd2 hd3 hd4 hs hsz hsn hdl hm hg1 hg2
  go_enter Tryz.func41, Tryz.ntmps41
  go_wp2_with fail
  refine H1.out.mono ?_
  rintro e w1 ⟨rfl, h⟩
  have K1 := Lib.hid h
  clear h H1
  go_wp2_with fail
  refine (H2.out _ K1.out).mono ?_
  rintro e w2 ⟨rfl, h⟩
  have K2 := Lib.hid h
  clear h H2 K1
  go_wp2_with fail
  refine (H3.out _ K2.out).mono ?_
  rintro e w3 ⟨rfl, h⟩
  have K3 := Lib.hid h
  clear h H3 K2
  go_wp2_with fail
  refine (H4.out _ K3.out).mono ?_
  rintro e w4 ⟨rfl, h⟩
  have K4 := Lib.hid h
  clear h H4 K3
  have c0 := K4.out.c0; have c1 := K4.out.c1
  have KD := Lib.hid (K4.out.below (Below.refl _ _).drew)
  go_wp2_with fail
  go_region_held3 (fun w' => w'.cell? ⟨b, 0, none⟩ = some (.string s) ∧ w'.cell? ⟨b, 1, none⟩ = some (.int .i64 (m : Int)))
    (first | exact ⟨c0, c1⟩ | exact ⟨KD.out.c0, KD.out.c1⟩ | go_keep)
    (fail)
  have c1 := KD.out.c1; have f1 := KD.out.f 1
  have K5 := Lib.hid (KD.out.at_ (m + 1))
  rw [show ((m + 1 : Nat) : Int) = (m : Int) + 1 by omega] at K5
  clear c0
  go_wp2_with fail
  have HI : Hid (TS w b s w4.heap.size w4.heap.size tk (m + 1) x ⟨#[]⟩ (((w4.setCell ⟨b, 1, none⟩ (.int .i64 ((m : Int) + 1))).alloc (.cells #[.pointer none, .slice none 0 0] 49)).drew)) := Lib.hid (by
    have h0 := K4.out.at_ (m + 1)
    rw [show ((m + 1 : Nat) : Int) = (m : Int) + 1 by omega] at h0
    have h1 := (TS.new h0 h0.size).drew
    simpa only [World.size_setCell] using h1)
  clear c1 f1 K5 KD K4
  obtain ⟨BB, hBB⟩ : ∃ B, w4.heap.size = B := ⟨_, rfl⟩
  rw [hBB] at HI ⊢
  revert HI
  generalize ((w4.setCell ⟨b, 1, none⟩ (.int .i64 ((m : Int) + 1))).alloc (.cells #[.pointer none, .slice none 0 0] 49)).drew = V0
  intro HI
  clear hBB
  go_loopw [] (fun wr => Hid (∃ (qs : List Pc) (j : Nat) (t : ByteArray), m ≤ j ∧ s.data.toList.drop j = srcs qs ++ 34 :: rest ∧ (∀ p ∈ qs, VcOk 34 p) ∧ t.data.toList ++ decs qs = decs ps ∧ TS w b s BB BB tk j x t wr)) (fun wr => n - atOf b wr)
  case atStart => exact Lib.hid ⟨ps, m + 1, ⟨#[]⟩, by omega, Hd4.out, Hp.out, by simp, HI.out⟩
  case round =>
    clear HI
    obtain ⟨qs, j, t, hmj, HD, HP, HE, HJ⟩ := hrel.out
    clear hrel
    have hts : t.size ≤ 1000000 := by
      have h1 := congrArg List.length HE
      rw [List.length_append] at h1
      have h2 : t.data.toList.length = t.size := by simp
      have := Hdl.out
      omega
    have HJD := Lib.hid HJ.drew
    have HJDD := Lib.hid HJ.drew.drew
    have c0 := HJ.cu.c0; have c1 := HJ.cu.c1
    have hat := HJ.cu.atOf
    have HJ := Lib.hid HJ
    obtain ⟨y, l, hyl⟩ : ∃ y l, s.data.toList.drop j = y :: l := by
      rw [HD]
      cases h : srcs qs with
      | nil => exact ⟨34, rest, rfl⟩
      | cons a r => exact ⟨a, r ++ 34 :: rest, rfl⟩
    obtain ⟨hjl, hsj, _, hnext⟩ := drop_get hyl
    have hji : (j : Int) < (n : Int) := by have := Hsn.out; omega
    have hjl2 : (j : Int) < (s.size : Int) := by omega
    have hj6 : j ≤ 1000000 := by have := HS.out; omega
    obtain ⟨C, hC⟩ : ∃ C : Int, (y.toNat : Int) = C := ⟨_, rfl⟩
    have hC2 : C < 256 := by have := y.toNat_lt; omega
    have hC0 : 0 ≤ C := by omega
    cases qs with
    | nil =>
      have hyq : y = 34 := by rw [hyl] at HD; injection HD
      have hCq : C = 34 := by rw [← hC, hyq]; rfl
      subst hCq
      have hjk : j = m + 1 + (srcs ps).length := by
        have h1 := drop_size (a := [34]) (l := rest) HD (by simp)
        have h2 := HF.out
        simp only [List.length_singleton] at h1
        omega
      have ht : t = ⟨(decs ps).toArray⟩ := bytes_of (by rw [← HE]; simp [decs])
      subst ht
      have HJK := Lib.hid hjk
      clear HD HP HE hyl hnext hyq hjk
      go_wp2_with fail
      go_region_held3 (fun w' => w'.cell? ⟨b, 0, none⟩ = some (.string s) ∧ w'.cell? ⟨b, 1, none⟩ = some (.int .i64 (j : Int)))
        (first | exact ⟨c0, c1⟩ | exact ⟨HJD.out.cu.c0, HJD.out.cu.c1⟩ | go_keep)
        (fail)
      have c0 := HJD.out.cu.c0; have c1 := HJD.out.cu.c1
      go_wp2_with fail
      go_region_held3 (fun w' => w'.cell? ⟨b, 0, none⟩ = some (.string s) ∧ w'.cell? ⟨b, 1, none⟩ = some (.int .i64 (j : Int)))
        (first | exact ⟨c0, c1⟩ | exact ⟨HJDD.out.cu.c0, HJDD.out.cu.c1⟩ | go_keep)
        (fail)
      have c1 := HJDD.out.cu.c1; have f1 := HJDD.out.cu.f 1
      have K6 := Lib.hid (HJDD.out.at_ (j + 1))
      rw [show ((j + 1 : Nat) : Int) = (j : Int) + 1 by omega] at K6
      go_wp2_with fail
      refine (TS.told K6.out).mono ?_
      rintro e w1 ⟨rfl, h⟩
      have K7 := Lib.hid h.cu
      clear h
      go_wp2_with fail
      go_ret2
      exact ⟨rfl, by rw [← HJK.out]; exact K7.out⟩
    | cons p qs =>
      have hp := HP p (List.mem_cons_self ..)
      have HPs : Hid (∀ p ∈ qs, VcOk 34 p) := Lib.hid (fun q hq => HP q (List.mem_cons_of_mem _ hq))
      have hsp : srcs (p :: qs) = p.src ++ srcs qs := List.flatMap_cons
      have hdp : decs (p :: qs) = p.dec ++ decs qs := List.flatMap_cons
      rw [hsp, List.append_assoc] at HD
      rw [hdp] at HE
      rcases hp with ⟨z, hsrc, hdec, hself, hzq⟩ | ⟨r, hsrc, href⟩
      · have hzy : z = y := by rw [hsrc, hyl] at HD; injection HD with h1 _; exact h1.symm
        subst hzy
        obtain ⟨n60, n38, n13, n9, n10⟩ := hself
        have nq : z.toNat ≠ 34 := fun e => hzq (UInt8.toNat_inj.1 e)
        have gq : (C == 34) = false := by simpa using (show ¬ C = 34 by omega)
        have g60 : (C == 60) = false := by simpa using (show ¬ C = 60 by omega)
        have g38 : (C == 38) = false := by simpa using (show ¬ C = 38 by omega)
        have hl : l = srcs qs ++ 34 :: rest := by rw [hsrc, hyl] at HD; injection HD
        obtain ⟨l1, l2⟩ := line_no hyl n13
        have HL : Hid (∀ W', TS w b s BB BB tk j x t W' → Calls Tryz.prog 34 #[.pointer (some ⟨b, 0, none⟩)] W' fun e w' => e = .returned (.bool false) ∧ TS w b s BB BB tk j x t w') := Lib.hid (fun W' h' => h'.call (fun hc => lineend_no hc (Nat.le_of_lt hjl) l1 l2))
        obtain ⟨sp, hspc⟩ : ∃ sp, uSpace C = sp := ⟨_, rfl⟩
        have HSp : Hid (∀ W, Calls Tryz.prog 50 #[.int .i64 C] W fun e w' => e = .returned (.bool sp) ∧ W = w') := Lib.hid (fun W => by
          have h := space_any C W
          rwa [hspc] at h)
        have HB : Hid (∀ W', TS w b s BB BB tk j x t W' → Calls Tryz.prog 14 #[.pointer (some ⟨BB, 0, none⟩), .int .u8 C] W' fun e w' => e = .returned .nilIface ∧ TS w b s BB BB tk j x (t.push z) w') := Lib.hid (fun W' h' => by
          have := h'.byte z hts
          rwa [hC] at this)
        have HE2 : Hid ((t.push z).data.toList ++ decs qs = decs ps) := Lib.hid (by rw [← HE, hdec, ByteArray.data_push]; simp)
        have HD2 : Hid (s.data.toList.drop (j + 1) = srcs qs ++ 34 :: rest) := Lib.hid (hnext.trans hl)
        have hs32 : sp = true → C = 32 := fun h => by
          rw [h] at hspc
          unfold uSpace at hspc
          have := of_decide_eq_true hspc
          omega
        clear HD HP HE hyl hnext hl hsp hdp hsrc hdec n60 n38 n13 n9 n10 l1 l2 hspc hzq nq
        cases sp with
        | false =>
          clear hs32
          go_wp2_with fail
          go_region_held3 (fun w' => w'.cell? ⟨b, 0, none⟩ = some (.string s) ∧ w'.cell? ⟨b, 1, none⟩ = some (.int .i64 (j : Int)))
            (first | exact ⟨c0, c1⟩ | exact ⟨HJD.out.cu.c0, HJD.out.cu.c1⟩ | go_keep)
            (fail)
          have c0 := HJD.out.cu.c0; have c1 := HJD.out.cu.c1
          go_wp2_with fail
          go_region_held3 (fun w' => w'.cell? ⟨b, 0, none⟩ = some (.string s) ∧ w'.cell? ⟨b, 1, none⟩ = some (.int .i64 (j : Int)))
            (first | exact ⟨c0, c1⟩ | exact ⟨HJDD.out.cu.c0, HJDD.out.cu.c1⟩ | go_keep)
            (fail)
          go_wp2_with fail
          refine (HL.out _ HJDD.out).mono ?_
          rintro e w2 ⟨rfl, h⟩
          have K2 := Lib.hid h
          clear h
          go_wp2_with fail
          refine (HSp.out _).mono ?_
          rintro e w2 ⟨rfl, rfl⟩
          go_wp2_with fail
          refine (HB.out _ K2.out).mono ?_
          rintro e w3 ⟨rfl, h⟩
          have c1 := h.cu.c1; have f1 := h.cu.f 1
          have K3 := Lib.hid (h.at_ (j + 1))
          rw [show ((j + 1 : Nat) : Int) = (j : Int) + 1 by omega] at K3
          have hm2 := K3.out.cu.atOf
          clear h K2
          go_wp2_with fail
          go_roundw
          case rel => exact Lib.hid ⟨qs, j + 1, t.push z, by omega, HD2.out, HPs.out, HE2.out, K3.out⟩
          case measure => rw [hat, hm2]; omega
        | true =>
          have hC32 := hs32 rfl
          subst hC32
          clear hs32
          go_wp2_with fail
          go_region_held3 (fun w' => w'.cell? ⟨b, 0, none⟩ = some (.string s) ∧ w'.cell? ⟨b, 1, none⟩ = some (.int .i64 (j : Int)))
            (first | exact ⟨c0, c1⟩ | exact ⟨HJD.out.cu.c0, HJD.out.cu.c1⟩ | go_keep)
            (fail)
          have c0 := HJD.out.cu.c0; have c1 := HJD.out.cu.c1
          go_wp2_with fail
          go_region_held3 (fun w' => w'.cell? ⟨b, 0, none⟩ = some (.string s) ∧ w'.cell? ⟨b, 1, none⟩ = some (.int .i64 (j : Int)))
            (first | exact ⟨c0, c1⟩ | exact ⟨HJDD.out.cu.c0, HJDD.out.cu.c1⟩ | go_keep)
            (fail)
          go_wp2_with fail
          refine (HL.out _ HJDD.out).mono ?_
          rintro e w2 ⟨rfl, h⟩
          have K2 := Lib.hid h
          clear h
          go_wp2_with fail
          refine (HSp.out _).mono ?_
          rintro e w2 ⟨rfl, rfl⟩
          go_wp2_with fail
          refine (HB.out _ K2.out).mono ?_
          rintro e w3 ⟨rfl, h⟩
          have c1 := h.cu.c1; have f1 := h.cu.f 1
          have K3 := Lib.hid (h.at_ (j + 1))
          rw [show ((j + 1 : Nat) : Int) = (j : Int) + 1 by omega] at K3
          have hm2 := K3.out.cu.atOf
          clear h K2
          go_wp2_with fail
          go_roundw
          case rel => exact Lib.hid ⟨qs, j + 1, t.push z, by omega, HD2.out, HPs.out, HE2.out, K3.out⟩
          case measure => rw [hat, hm2]; omega
      · have hy38 : y = 38 := by rw [hsrc, hyl] at HD; injection HD
        have hC38 : C = 38 := by rw [← hC, hy38]; rfl
        subst hC38
        have HR : Hid (∀ W', TS w b s BB BB tk j x t W' → Calls Tryz.prog 33 #[.pointer (some ⟨b, 0, none⟩)] W' fun e w' => e = .returned (.tuple #[.string ⟨p.dec.toArray⟩, .bool true]) ∧ TS w b s BB BB tk (j + p.src.length) x t w') := Lib.hid (fun W' h' => h'.call (fun hc => href _ _ _ _ _ _ _ _ hc HS.out HD))
        have hdz : (⟨p.dec.toArray⟩ : ByteArray).size ≤ 1000000 := by
          have h1 := congrArg List.length HE
          simp only [List.length_append] at h1
          have h2 : (⟨p.dec.toArray⟩ : ByteArray).size = p.dec.length := by simp [ByteArray.size]
          have := Hdl.out
          omega
        have HW : Hid (∀ W', TS w b s BB BB tk (j + p.src.length) x t W' → Calls Tryz.prog 13 #[.pointer (some ⟨BB, 0, none⟩), .string ⟨p.dec.toArray⟩] W' fun e w' => e = .returned (.tuple #[.int .i64 ((⟨p.dec.toArray⟩ : ByteArray).size : Int), .nilIface]) ∧ TS w b s BB BB tk (j + p.src.length) x (t ++ ⟨p.dec.toArray⟩) w') := Lib.hid (fun W' h' => h'.text _ (by omega))
        have HE2 : Hid ((t ++ ⟨p.dec.toArray⟩).data.toList ++ decs qs = decs ps) := Lib.hid (by rw [← HE, ByteArray.toList_data_append, List.append_assoc])
        have HD2 : Hid (s.data.toList.drop (j + p.src.length) = srcs qs ++ 34 :: rest) := Lib.hid (drop_step HD)
        have hpl : 0 < p.src.length := by rw [hsrc]; simp
        have hjn : j + p.src.length ≤ n := by
          have h1 := drop_size HD (by rw [hsrc]; simp)
          have := Hsn.out
          omega
        obtain ⟨m2, hm2⟩ : ∃ m, p.src.length = m := ⟨_, rfl⟩
        obtain ⟨U, hU⟩ : ∃ U : ByteArray, ⟨p.dec.toArray⟩ = U := ⟨_, rfl⟩
        simp only [hm2, hU] at HR HW HE2 HD2 hpl hjn
        clear HD HP HE hyl hnext hsp hdp hsrc hdz hm2 hU href hy38
        go_wp2_with fail
        go_region_held3 (fun w' => w'.cell? ⟨b, 0, none⟩ = some (.string s) ∧ w'.cell? ⟨b, 1, none⟩ = some (.int .i64 (j : Int)))
          (first | exact ⟨c0, c1⟩ | exact ⟨HJD.out.cu.c0, HJD.out.cu.c1⟩ | go_keep)
          (fail)
        have c0 := HJD.out.cu.c0; have c1 := HJD.out.cu.c1
        go_wp2_with fail
        go_region_held3 (fun w' => w'.cell? ⟨b, 0, none⟩ = some (.string s) ∧ w'.cell? ⟨b, 1, none⟩ = some (.int .i64 (j : Int)))
          (first | exact ⟨c0, c1⟩ | exact ⟨HJDD.out.cu.c0, HJDD.out.cu.c1⟩ | go_keep)
          (fail)
        go_wp2_with fail
        refine (HR.out _ HJDD.out).mono ?_
        rintro e w2 ⟨rfl, h⟩
        have K2 := Lib.hid h
        clear h
        go_wp2_with fail
        refine (HW.out _ K2.out).mono ?_
        rintro e w3 ⟨rfl, h⟩
        have K3 := Lib.hid h
        have hm2 := h.cu.atOf
        clear h K2
        go_wp2_with fail
        go_roundw
        case rel => exact Lib.hid ⟨qs, j + m2, t ++ U, by omega, HD2.out, HPs.out, HE2.out, K3.out⟩
        case measure => rw [hat, hm2]; omega
set_option maxRecDepth 100000 in
set_option maxHeartbeats 8000000 in
theorem value_39 {w W : World} {b k : Nat} {s : ByteArray} {tk : Value} {x : Int} (h : Cu w b s k tk x W) (hs : s.size ≤ 1000000) (start : Int) (b1 b2 : List UInt8) (hb1 : ∀ z ∈ b1, uSpace (z.toNat : Int) = true) (hb2 : ∀ z ∈ b2, uSpace (z.toNat : Int) = true) (ps : List Pc) (hp : ∀ p ∈ ps, VcOk 39 p) (hdl : (decs ps).length ≤ 1000000) (rest : List UInt8) (hd : s.data.toList.drop k = b1 ++ 61 :: (b2 ++ 39 :: (srcs ps ++ 39 :: rest))) :
    Calls Tryz.prog 41 #[.pointer (some ⟨b, 0, none⟩), .int .i64 start] W fun e w' => e = .returned (.tuple #[.string ⟨(decs ps).toArray⟩, .bool true]) ∧ Cu w b s (k + b1.length + 1 + b2.length + 1 + (srcs ps).length + 1) tk x w' := by
  have hd1 : s.data.toList.drop (k + b1.length) = 61 :: (b2 ++ 39 :: (srcs ps ++ 39 :: rest)) := drop_step hd
  have hd2 : s.data.toList.drop (k + b1.length + 1) = b2 ++ 39 :: (srcs ps ++ 39 :: rest) := drop_step (a := [61]) hd1
  have hd3 : s.data.toList.drop (k + b1.length + 1 + b2.length) = 39 :: (srcs ps ++ 39 :: rest) := drop_step hd2
  have hd4 : s.data.toList.drop (k + b1.length + 1 + b2.length + 1) = srcs ps ++ 39 :: rest := drop_step (a := [39]) hd3
  have hsz : k + b1.length + 1 + b2.length + 1 + (srcs ps).length + 1 + rest.length = s.size := by
    have := drop_size (a := srcs ps ++ [39]) (l := rest) (by rw [List.append_assoc]; exact hd4) (by simp)
    simp only [List.length_append, List.length_singleton] at this
    omega
  have H1 := Lib.hid (blanks_to h hs hd hb1 (by decide))
  have H2 : Hid (∀ W', Cu w b s (k + b1.length) tk x W' → Calls Tryz.prog 21 #[.pointer (some ⟨b, 0, none⟩), .string ⟨#[61]⟩] W' fun e w' => e = .returned (.bool true) ∧ Cu w b s (k + b1.length + 1) tk x w') := Lib.hid (fun W' h' => take_yes h' (by omega) ⟨#[61]⟩ (goes_yes (u := [61]) hd1) hs (by decide))
  have H3 : Hid (∀ W', Cu w b s (k + b1.length + 1) tk x W' → Calls Tryz.prog 40 #[.pointer (some ⟨b, 0, none⟩)] W' fun e w' => e = .returned (.bool (decide (0 < b2.length))) ∧ Cu w b s (k + b1.length + 1 + b2.length) tk x w') := Lib.hid (fun W' h' => blanks_to h' hs hd2 hb2 (by decide))
  obtain ⟨g1, hg1⟩ : ∃ g, decide (0 < b1.length) = g := ⟨_, rfl⟩
  obtain ⟨g2, hg2⟩ : ∃ g, decide (0 < b2.length) = g := ⟨_, rfl⟩
  rw [hg1] at H1
  simp only [hg2] at H3
  obtain ⟨m, hm⟩ : ∃ m, k + b1.length + 1 + b2.length = m := ⟨_, rfl⟩
  rw [hm] at hd3 hd4 hsz
  simp only [hm] at H3 ⊢
  have H4 : Hid (∀ W', Cu w b s m tk x W' → Calls Tryz.prog 31 #[.pointer (some ⟨b, 0, none⟩), .string ⟨#[34]⟩] W' fun e w' => e = .returned (.bool false) ∧ Cu w b s m tk x w') := Lib.hid (fun W' h' => by
    have := begins_any h' (by omega) ⟨#[34]⟩
    rwa [goes_one (c := 34) (u := []) hd3 (by decide)] at this)
  have H5 : Hid (∀ W', Cu w b s m tk x W' → Calls Tryz.prog 31 #[.pointer (some ⟨b, 0, none⟩), .string ⟨#[39]⟩] W' fun e w' => e = .returned (.bool true) ∧ Cu w b s m tk x w') := Lib.hid (fun W' h' => by
    have := begins_any h' (by omega) ⟨#[39]⟩
    rwa [goes_yes (u := [39]) hd3] at this)
  obtain ⟨hml, hsm, _, _⟩ := drop_get hd3
  have hmq : ((s[m]).toNat : Int) = 39 := by rw [hsm]; rfl
  obtain ⟨n, hsn⟩ : ∃ n, s.size = n := ⟨_, rfl⟩
  have hsi : (s.size : Int) = (n : Int) := by rw [hsn]
  have HS := Lib.hid hs; have HF := Lib.hid hsz; have Hsn := Lib.hid hsn
  have Hdl := Lib.hid hdl; have Hp := Lib.hid hp; have Hd4 := Lib.hid hd4
  have hm6 : m ≤ 1000000 := by omega
  have hmi : (m : Int) < (n : Int) := by omega
  clear h hp hb1 hb2 hd hd1 hd2 hd3 hd4 hs hsz hsn hdl hm hg1 hg2
  go_enter Tryz.func41, Tryz.ntmps41
  go_wp2_with fail
  refine H1.out.mono ?_
  rintro e w1 ⟨rfl, h⟩
  have K1 := Lib.hid h
  clear h H1
  go_wp2_with fail
  refine (H2.out _ K1.out).mono ?_
  rintro e w2 ⟨rfl, h⟩
  have K2 := Lib.hid h
  clear h H2 K1
  go_wp2_with fail
  refine (H3.out _ K2.out).mono ?_
  rintro e w3 ⟨rfl, h⟩
  have K3 := Lib.hid h
  clear h H3 K2
  go_wp2_with fail
  refine (H4.out _ K3.out).mono ?_
  rintro e w4 ⟨rfl, h⟩
  have K4 := Lib.hid h
  clear h H4 K3
  go_wp2_with fail
  refine (H5.out _ K4.out).mono ?_
  rintro e w5 ⟨rfl, h⟩
  have K4 := Lib.hid h
  clear h H5
  have c0 := K4.out.c0; have c1 := K4.out.c1
  have KD := Lib.hid (K4.out.below (Below.refl _ _).drew)
  go_wp2_with fail
  go_region_held3 (fun w' => w'.cell? ⟨b, 0, none⟩ = some (.string s) ∧ w'.cell? ⟨b, 1, none⟩ = some (.int .i64 (m : Int)))
    (first | exact ⟨c0, c1⟩ | exact ⟨KD.out.c0, KD.out.c1⟩ | go_keep)
    (fail)
  have c1 := KD.out.c1; have f1 := KD.out.f 1
  have K5 := Lib.hid (KD.out.at_ (m + 1))
  rw [show ((m + 1 : Nat) : Int) = (m : Int) + 1 by omega] at K5
  clear c0
  go_wp2_with fail
  have HI : Hid (TS w b s w5.heap.size w5.heap.size tk (m + 1) x ⟨#[]⟩ (((w5.setCell ⟨b, 1, none⟩ (.int .i64 ((m : Int) + 1))).alloc (.cells #[.pointer none, .slice none 0 0] 49)).drew)) := Lib.hid (by
    have h0 := K4.out.at_ (m + 1)
    rw [show ((m + 1 : Nat) : Int) = (m : Int) + 1 by omega] at h0
    have h1 := (TS.new h0 h0.size).drew
    simpa only [World.size_setCell] using h1)
  clear c1 f1 K5 KD K4
  obtain ⟨BB, hBB⟩ : ∃ B, w5.heap.size = B := ⟨_, rfl⟩
  rw [hBB] at HI ⊢
  revert HI
  generalize ((w5.setCell ⟨b, 1, none⟩ (.int .i64 ((m : Int) + 1))).alloc (.cells #[.pointer none, .slice none 0 0] 49)).drew = V0
  intro HI
  clear hBB
  go_loopw [] (fun wr => Hid (∃ (qs : List Pc) (j : Nat) (t : ByteArray), m ≤ j ∧ s.data.toList.drop j = srcs qs ++ 39 :: rest ∧ (∀ p ∈ qs, VcOk 39 p) ∧ t.data.toList ++ decs qs = decs ps ∧ TS w b s BB BB tk j x t wr)) (fun wr => n - atOf b wr)
  case atStart => exact Lib.hid ⟨ps, m + 1, ⟨#[]⟩, by omega, Hd4.out, Hp.out, by simp, HI.out⟩
  case round =>
    clear HI
    obtain ⟨qs, j, t, hmj, HD, HP, HE, HJ⟩ := hrel.out
    clear hrel
    have hts : t.size ≤ 1000000 := by
      have h1 := congrArg List.length HE
      rw [List.length_append] at h1
      have h2 : t.data.toList.length = t.size := by simp
      have := Hdl.out
      omega
    have HJD := Lib.hid HJ.drew
    have HJDD := Lib.hid HJ.drew.drew
    have c0 := HJ.cu.c0; have c1 := HJ.cu.c1
    have hat := HJ.cu.atOf
    have HJ := Lib.hid HJ
    obtain ⟨y, l, hyl⟩ : ∃ y l, s.data.toList.drop j = y :: l := by
      rw [HD]
      cases h : srcs qs with
      | nil => exact ⟨39, rest, rfl⟩
      | cons a r => exact ⟨a, r ++ 39 :: rest, rfl⟩
    obtain ⟨hjl, hsj, _, hnext⟩ := drop_get hyl
    have hji : (j : Int) < (n : Int) := by have := Hsn.out; omega
    have hjl2 : (j : Int) < (s.size : Int) := by omega
    have hj6 : j ≤ 1000000 := by have := HS.out; omega
    obtain ⟨C, hC⟩ : ∃ C : Int, (y.toNat : Int) = C := ⟨_, rfl⟩
    have hC2 : C < 256 := by have := y.toNat_lt; omega
    have hC0 : 0 ≤ C := by omega
    cases qs with
    | nil =>
      have hyq : y = 39 := by rw [hyl] at HD; injection HD
      have hCq : C = 39 := by rw [← hC, hyq]; rfl
      subst hCq
      have hjk : j = m + 1 + (srcs ps).length := by
        have h1 := drop_size (a := [39]) (l := rest) HD (by simp)
        have h2 := HF.out
        simp only [List.length_singleton] at h1
        omega
      have ht : t = ⟨(decs ps).toArray⟩ := bytes_of (by rw [← HE]; simp [decs])
      subst ht
      have HJK := Lib.hid hjk
      clear HD HP HE hyl hnext hyq hjk
      go_wp2_with fail
      go_region_held3 (fun w' => w'.cell? ⟨b, 0, none⟩ = some (.string s) ∧ w'.cell? ⟨b, 1, none⟩ = some (.int .i64 (j : Int)))
        (first | exact ⟨c0, c1⟩ | exact ⟨HJD.out.cu.c0, HJD.out.cu.c1⟩ | go_keep)
        (fail)
      have c0 := HJD.out.cu.c0; have c1 := HJD.out.cu.c1
      go_wp2_with fail
      go_region_held3 (fun w' => w'.cell? ⟨b, 0, none⟩ = some (.string s) ∧ w'.cell? ⟨b, 1, none⟩ = some (.int .i64 (j : Int)))
        (first | exact ⟨c0, c1⟩ | exact ⟨HJDD.out.cu.c0, HJDD.out.cu.c1⟩ | go_keep)
        (fail)
      have c1 := HJDD.out.cu.c1; have f1 := HJDD.out.cu.f 1
      have K6 := Lib.hid (HJDD.out.at_ (j + 1))
      rw [show ((j + 1 : Nat) : Int) = (j : Int) + 1 by omega] at K6
      go_wp2_with fail
      refine (TS.told K6.out).mono ?_
      rintro e w1 ⟨rfl, h⟩
      have K7 := Lib.hid h.cu
      clear h
      go_wp2_with fail
      go_ret2
      exact ⟨rfl, by rw [← HJK.out]; exact K7.out⟩
    | cons p qs =>
      have hp := HP p (List.mem_cons_self ..)
      have HPs : Hid (∀ p ∈ qs, VcOk 39 p) := Lib.hid (fun q hq => HP q (List.mem_cons_of_mem _ hq))
      have hsp : srcs (p :: qs) = p.src ++ srcs qs := List.flatMap_cons
      have hdp : decs (p :: qs) = p.dec ++ decs qs := List.flatMap_cons
      rw [hsp, List.append_assoc] at HD
      rw [hdp] at HE
      rcases hp with ⟨z, hsrc, hdec, hself, hzq⟩ | ⟨r, hsrc, href⟩
      · have hzy : z = y := by rw [hsrc, hyl] at HD; injection HD with h1 _; exact h1.symm
        subst hzy
        obtain ⟨n60, n38, n13, n9, n10⟩ := hself
        have nq : z.toNat ≠ 39 := fun e => hzq (UInt8.toNat_inj.1 e)
        have gq : (C == 39) = false := by simpa using (show ¬ C = 39 by omega)
        have g60 : (C == 60) = false := by simpa using (show ¬ C = 60 by omega)
        have g38 : (C == 38) = false := by simpa using (show ¬ C = 38 by omega)
        have hl : l = srcs qs ++ 39 :: rest := by rw [hsrc, hyl] at HD; injection HD
        obtain ⟨l1, l2⟩ := line_no hyl n13
        have HL : Hid (∀ W', TS w b s BB BB tk j x t W' → Calls Tryz.prog 34 #[.pointer (some ⟨b, 0, none⟩)] W' fun e w' => e = .returned (.bool false) ∧ TS w b s BB BB tk j x t w') := Lib.hid (fun W' h' => h'.call (fun hc => lineend_no hc (Nat.le_of_lt hjl) l1 l2))
        obtain ⟨sp, hspc⟩ : ∃ sp, uSpace C = sp := ⟨_, rfl⟩
        have HSp : Hid (∀ W, Calls Tryz.prog 50 #[.int .i64 C] W fun e w' => e = .returned (.bool sp) ∧ W = w') := Lib.hid (fun W => by
          have h := space_any C W
          rwa [hspc] at h)
        have HB : Hid (∀ W', TS w b s BB BB tk j x t W' → Calls Tryz.prog 14 #[.pointer (some ⟨BB, 0, none⟩), .int .u8 C] W' fun e w' => e = .returned .nilIface ∧ TS w b s BB BB tk j x (t.push z) w') := Lib.hid (fun W' h' => by
          have := h'.byte z hts
          rwa [hC] at this)
        have HE2 : Hid ((t.push z).data.toList ++ decs qs = decs ps) := Lib.hid (by rw [← HE, hdec, ByteArray.data_push]; simp)
        have HD2 : Hid (s.data.toList.drop (j + 1) = srcs qs ++ 39 :: rest) := Lib.hid (hnext.trans hl)
        have hs32 : sp = true → C = 32 := fun h => by
          rw [h] at hspc
          unfold uSpace at hspc
          have := of_decide_eq_true hspc
          omega
        clear HD HP HE hyl hnext hl hsp hdp hsrc hdec n60 n38 n13 n9 n10 l1 l2 hspc hzq nq
        cases sp with
        | false =>
          clear hs32
          go_wp2_with fail
          go_region_held3 (fun w' => w'.cell? ⟨b, 0, none⟩ = some (.string s) ∧ w'.cell? ⟨b, 1, none⟩ = some (.int .i64 (j : Int)))
            (first | exact ⟨c0, c1⟩ | exact ⟨HJD.out.cu.c0, HJD.out.cu.c1⟩ | go_keep)
            (fail)
          have c0 := HJD.out.cu.c0; have c1 := HJD.out.cu.c1
          go_wp2_with fail
          go_region_held3 (fun w' => w'.cell? ⟨b, 0, none⟩ = some (.string s) ∧ w'.cell? ⟨b, 1, none⟩ = some (.int .i64 (j : Int)))
            (first | exact ⟨c0, c1⟩ | exact ⟨HJDD.out.cu.c0, HJDD.out.cu.c1⟩ | go_keep)
            (fail)
          go_wp2_with fail
          refine (HL.out _ HJDD.out).mono ?_
          rintro e w2 ⟨rfl, h⟩
          have K2 := Lib.hid h
          clear h
          go_wp2_with fail
          refine (HSp.out _).mono ?_
          rintro e w2 ⟨rfl, rfl⟩
          go_wp2_with fail
          refine (HB.out _ K2.out).mono ?_
          rintro e w3 ⟨rfl, h⟩
          have c1 := h.cu.c1; have f1 := h.cu.f 1
          have K3 := Lib.hid (h.at_ (j + 1))
          rw [show ((j + 1 : Nat) : Int) = (j : Int) + 1 by omega] at K3
          have hm2 := K3.out.cu.atOf
          clear h K2
          go_wp2_with fail
          go_roundw
          case rel => exact Lib.hid ⟨qs, j + 1, t.push z, by omega, HD2.out, HPs.out, HE2.out, K3.out⟩
          case measure => rw [hat, hm2]; omega
        | true =>
          have hC32 := hs32 rfl
          subst hC32
          clear hs32
          go_wp2_with fail
          go_region_held3 (fun w' => w'.cell? ⟨b, 0, none⟩ = some (.string s) ∧ w'.cell? ⟨b, 1, none⟩ = some (.int .i64 (j : Int)))
            (first | exact ⟨c0, c1⟩ | exact ⟨HJD.out.cu.c0, HJD.out.cu.c1⟩ | go_keep)
            (fail)
          have c0 := HJD.out.cu.c0; have c1 := HJD.out.cu.c1
          go_wp2_with fail
          go_region_held3 (fun w' => w'.cell? ⟨b, 0, none⟩ = some (.string s) ∧ w'.cell? ⟨b, 1, none⟩ = some (.int .i64 (j : Int)))
            (first | exact ⟨c0, c1⟩ | exact ⟨HJDD.out.cu.c0, HJDD.out.cu.c1⟩ | go_keep)
            (fail)
          go_wp2_with fail
          refine (HL.out _ HJDD.out).mono ?_
          rintro e w2 ⟨rfl, h⟩
          have K2 := Lib.hid h
          clear h
          go_wp2_with fail
          refine (HSp.out _).mono ?_
          rintro e w2 ⟨rfl, rfl⟩
          go_wp2_with fail
          refine (HB.out _ K2.out).mono ?_
          rintro e w3 ⟨rfl, h⟩
          have c1 := h.cu.c1; have f1 := h.cu.f 1
          have K3 := Lib.hid (h.at_ (j + 1))
          rw [show ((j + 1 : Nat) : Int) = (j : Int) + 1 by omega] at K3
          have hm2 := K3.out.cu.atOf
          clear h K2
          go_wp2_with fail
          go_roundw
          case rel => exact Lib.hid ⟨qs, j + 1, t.push z, by omega, HD2.out, HPs.out, HE2.out, K3.out⟩
          case measure => rw [hat, hm2]; omega
      · have hy38 : y = 38 := by rw [hsrc, hyl] at HD; injection HD
        have hC38 : C = 38 := by rw [← hC, hy38]; rfl
        subst hC38
        have HR : Hid (∀ W', TS w b s BB BB tk j x t W' → Calls Tryz.prog 33 #[.pointer (some ⟨b, 0, none⟩)] W' fun e w' => e = .returned (.tuple #[.string ⟨p.dec.toArray⟩, .bool true]) ∧ TS w b s BB BB tk (j + p.src.length) x t w') := Lib.hid (fun W' h' => h'.call (fun hc => href _ _ _ _ _ _ _ _ hc HS.out HD))
        have hdz : (⟨p.dec.toArray⟩ : ByteArray).size ≤ 1000000 := by
          have h1 := congrArg List.length HE
          simp only [List.length_append] at h1
          have h2 : (⟨p.dec.toArray⟩ : ByteArray).size = p.dec.length := by simp [ByteArray.size]
          have := Hdl.out
          omega
        have HW : Hid (∀ W', TS w b s BB BB tk (j + p.src.length) x t W' → Calls Tryz.prog 13 #[.pointer (some ⟨BB, 0, none⟩), .string ⟨p.dec.toArray⟩] W' fun e w' => e = .returned (.tuple #[.int .i64 ((⟨p.dec.toArray⟩ : ByteArray).size : Int), .nilIface]) ∧ TS w b s BB BB tk (j + p.src.length) x (t ++ ⟨p.dec.toArray⟩) w') := Lib.hid (fun W' h' => h'.text _ (by omega))
        have HE2 : Hid ((t ++ ⟨p.dec.toArray⟩).data.toList ++ decs qs = decs ps) := Lib.hid (by rw [← HE, ByteArray.toList_data_append, List.append_assoc])
        have HD2 : Hid (s.data.toList.drop (j + p.src.length) = srcs qs ++ 39 :: rest) := Lib.hid (drop_step HD)
        have hpl : 0 < p.src.length := by rw [hsrc]; simp
        have hjn : j + p.src.length ≤ n := by
          have h1 := drop_size HD (by rw [hsrc]; simp)
          have := Hsn.out
          omega
        obtain ⟨m2, hm2⟩ : ∃ m, p.src.length = m := ⟨_, rfl⟩
        obtain ⟨U, hU⟩ : ∃ U : ByteArray, ⟨p.dec.toArray⟩ = U := ⟨_, rfl⟩
        simp only [hm2, hU] at HR HW HE2 HD2 hpl hjn
        clear HD HP HE hyl hnext hsp hdp hsrc hdz hm2 hU href hy38
        go_wp2_with fail
        go_region_held3 (fun w' => w'.cell? ⟨b, 0, none⟩ = some (.string s) ∧ w'.cell? ⟨b, 1, none⟩ = some (.int .i64 (j : Int)))
          (first | exact ⟨c0, c1⟩ | exact ⟨HJD.out.cu.c0, HJD.out.cu.c1⟩ | go_keep)
          (fail)
        have c0 := HJD.out.cu.c0; have c1 := HJD.out.cu.c1
        go_wp2_with fail
        go_region_held3 (fun w' => w'.cell? ⟨b, 0, none⟩ = some (.string s) ∧ w'.cell? ⟨b, 1, none⟩ = some (.int .i64 (j : Int)))
          (first | exact ⟨c0, c1⟩ | exact ⟨HJDD.out.cu.c0, HJDD.out.cu.c1⟩ | go_keep)
          (fail)
        go_wp2_with fail
        refine (HR.out _ HJDD.out).mono ?_
        rintro e w2 ⟨rfl, h⟩
        have K2 := Lib.hid h
        clear h
        go_wp2_with fail
        refine (HW.out _ K2.out).mono ?_
        rintro e w3 ⟨rfl, h⟩
        have K3 := Lib.hid h
        have hm2 := h.cu.atOf
        clear h K2
        go_wp2_with fail
        go_roundw
        case rel => exact Lib.hid ⟨qs, j + m2, t ++ U, by omega, HD2.out, HPs.out, HE2.out, K3.out⟩
        case measure => rw [hat, hm2]; omega
end Go.Proofs.YtkebjllehegjlaaGreatDoor
