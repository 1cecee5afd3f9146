/-
  Law 7: a text between elements.
-/
import Derived.Test.YtkebjllehegjlaaGreatDoorXo
import Derived.Test.YtkebjllehegjlaaGreatDoorXi
namespace Go.Proofs.YtkebjllehegjlaaGreatDoor
open Go.RowKit Go.Shelf
set_option linter.unusedVariables false
/-- The cutter and a builder of the call's own. -/
structure TS (w : World) (b : Nat) (s : ByteArray) (B bd : Nat) (tk : Value) (j : Nat) (x : Int) (t : ByteArray) (W : World) : Prop where
  cu : Cu w b s j tk x W
  bd : IsBd B bd t W
  size : B ≤ W.heap.size
  wB : w.heap.size ≤ B
  bB : b < B
section
variable {w W W' : World} {b B bd j j' : Nat} {s t t' : ByteArray} {tk : Value} {x x' : Int}
theorem TS.step (h : TS w b s B bd tk j x t W) (h' : Cu W b s j' tk x' W') : TS w b s B bd tk j' x' t W' := ⟨h.cu.back h', bd_kept h.bd h'.bel h.bB, Nat.le_trans h.size h'.bel.size, h.wB, h.bB⟩
theorem TS.wrote (h : TS w b s B bd tk j x t W) (h1 : IsBd B bd t' W') (h2 : Below B W W') : TS w b s B bd tk j x t' W' := ⟨h.cu.own h2 h.wB h.bB, h1, Nat.le_trans h.size h2.size, h.wB, h.bB⟩
theorem TS.drew (h : TS w b s B bd tk j x t W) : TS w b s B bd tk j x t W.drew := h.step (h.cu.me.below (Below.refl _ _).drew)
theorem TS.at_ (h : TS w b s B bd tk j x t W) (m : Nat) : TS w b s B bd tk m x t (W.setCell ⟨b, 1, none⟩ (.int .i64 (m : Int))) := h.step (h.cu.me.at_ m)
theorem TS.call {f : Nat} {av : Array Value} {v : Value} (h : TS w b s B bd tk j x t W) (H : Cu W b s j tk x W → Calls Tryz.prog f av W fun e w' => e = .returned v ∧ Cu W b s j' tk x' w') : Calls Tryz.prog f av W fun e w' => e = .returned v ∧ TS w b s B bd tk j' x' t w' :=
  (H h.cu.me).mono fun e w' hh => ⟨hh.1, h.step hh.2⟩
theorem TS.byte (h : TS w b s B bd tk j x t W) (y : UInt8) (ht : t.size ≤ 1000000) : Calls Tryz.prog 14 #[.pointer (some ⟨bd, 0, none⟩), .int .u8 (y.toNat : Int)] W fun e w' => e = .returned .nilIface ∧ TS w b s B bd tk j x (t.push y) w' :=
  (wb_any B bd t y.toNat W (UInt8.toNat_lt _) h.bd (by omega) h.size).mono fun e w' hh => ⟨hh.1, h.wrote (by have := hh.2.1; rwa [UInt8.ofNat_toNat] at this) hh.2.2⟩
theorem TS.text (h : TS w b s B bd tk j x t W) (u : ByteArray) (ht : t.size + u.size ≤ 3000000) : Calls Tryz.prog 13 #[.pointer (some ⟨bd, 0, none⟩), .string u] W fun e w' => e = .returned (.tuple #[.int .i64 u.size, .nilIface]) ∧ TS w b s B bd tk j x (t ++ u) w' :=
  (ws_any B bd t u W h.bd (by omega) h.size).mono fun e w' hh => ⟨hh.1, h.wrote hh.2.1 hh.2.2⟩
theorem TS.told (h : TS w b s B bd tk j x t W) : Calls Tryz.prog 15 #[.pointer (some ⟨bd, 0, none⟩)] W fun e w' => e = .returned (.string t) ∧ TS w b s B bd tk j x t w' :=
  (str_any B bd t W h.bd h.size).mono fun e w' hh => ⟨hh.1, h.wrote hh.2.1 hh.2.2⟩
theorem TS.new (h : Cu w b s j tk x W) (hw : w.heap.size ≤ W.heap.size) : TS w b s W.heap.size W.heap.size tk j x ⟨#[]⟩ (W.alloc (.cells #[.pointer none, .slice none 0 0] 49)) :=
  ⟨h.below ((Below.refl _ _).alloc (Nat.le_refl _) _), bd_new W W.heap.size (Nat.le_refl _), by simp, hw, h.lt⟩
end
set_option maxRecDepth 100000 in
set_option maxHeartbeats 2000000 in
theorem lineend_no {w W : World} {b k : Nat} {s : ByteArray} {tk : Value} {x : Int} (h : Cu w b s k tk x W) (hk : k ≤ s.size) (g1 : goes s k ⟨#[13, 10]⟩ = false) (g2 : goes s k ⟨#[13]⟩ = false) :
    Calls Tryz.prog 34 #[.pointer (some ⟨b, 0, none⟩)] W fun e w' => e = .returned (.bool false) ∧ Cu w b s k tk x w' := by
  have H1 := Lib.hid (take_no h hk ⟨#[13, 10]⟩ g1)
  have H2 : Hid (∀ W', Cu w b s k tk x W' → Calls Tryz.prog 21 #[.pointer (some ⟨b, 0, none⟩), .string ⟨#[13]⟩] W' fun e w' => e = .returned (.bool false) ∧ Cu w b s k tk x w') := Lib.hid (fun W' h' => take_no h' hk _ g2)
  clear h hk g1 g2
  go_enter Tryz.func34, Tryz.ntmps34
  go_wp2_with fail
  refine H1.out.mono ?_
  rintro e w1 ⟨rfl, h⟩
  have K1 := Lib.hid h
  clear h
  go_wp2_with fail
  refine (H2.out _ K1.out).mono ?_
  rintro e w2 ⟨rfl, h⟩
  have K2 := Lib.hid h
  clear h
  go_wp2_with fail
  go_ret
  exact ⟨rfl, K2.out⟩
theorem line_no {s : ByteArray} {j : Nat} {y : UInt8} {l : List UInt8} (h : s.data.toList.drop j = y :: l) (hy : y.toNat ≠ 13) : goes s j ⟨#[13, 10]⟩ = false ∧ goes s j ⟨#[13]⟩ = false := by
  have e : (13 == y) = false := by
    rw [beq_eq_false_iff_ne]
    rintro rfl
    exact hy rfl
  constructor
  · rw [goes_list, h]
    show ([13, 10] : List UInt8).isPrefixOf (y :: l) = false
    simp [List.isPrefixOf, e]
  · rw [goes_list, h]
    show ([13] : List UInt8).isPrefixOf (y :: l) = false
    simp [List.isPrefixOf, e]
set_option maxRecDepth 100000 in
set_option maxHeartbeats 8000000 in
theorem text_any {w W : World} {b k : Nat} {s : ByteArray} {tk : Value} {x : Int} (h : Cu w b s k tk x W) (hs : s.size ≤ 1000000) (ps : List Pc) (hp : ∀ p ∈ ps, PcOk p) (hn : ∀ y ∈ srcs ps, y ≠ 62) (hdl : (decs ps).length ≤ 1000000) (rest : List UInt8) (hd : s.data.toList.drop k = srcs ps ++ 60 :: rest) (Q : Bool → World → Prop)
    (HT : ∀ W', Cu w b s (k + (srcs ps).length) tk x W' → Calls Tryz.prog 35 #[.pointer (some ⟨b, 0, none⟩), .agg #[.int .i64 3, .int .i64 (k : Int), .string ⟨#[]⟩, .string ⟨(decs ps).toArray⟩, .slice none 0 0, .bool false]] W' fun e w' => ∃ ok, e = .returned (.bool ok) ∧ Q ok w') :
    Calls Tryz.prog 20 #[.pointer (some ⟨b, 0, none⟩)] W fun e w' => ∃ ok, e = .returned (.bool ok) ∧ Q ok w' := by
  have hfull : k + (srcs ps).length + 1 + rest.length = s.size := by
    have := drop_size (a := srcs ps ++ [60]) (l := rest) (by rw [List.append_assoc]; exact hd) (by simp)
    simp only [List.length_append, List.length_singleton] at this
    omega
  have H0 := Lib.hid (TS.new h h.size)
  have c1 := h.c1
  have c1' := (h.below ((Below.refl _ _).alloc (Nat.le_refl _) (.cells #[.pointer none, .slice none 0 0] 49))).c1
  obtain ⟨n, hsn⟩ : ∃ n, s.size = n := ⟨_, rfl⟩
  have hsi : (s.size : Int) = (n : Int) := by rw [hsn]
  have HS := Lib.hid hs; have HF := Lib.hid hfull; have Hsn := Lib.hid hsn
  have HT := Lib.hid HT
  have Hdl := Lib.hid hdl
  have HI : Hid (∃ (qs : List Pc) (j : Nat) (t : ByteArray), k ≤ j ∧ s.data.toList.drop j = srcs qs ++ 60 :: rest ∧ (∀ p ∈ qs, PcOk p) ∧ (∀ y ∈ srcs qs, y ≠ 62) ∧ t.data.toList ++ decs qs = decs ps ∧ TS w b s W.heap.size W.heap.size tk j x t (W.alloc (.cells #[.pointer none, .slice none 0 0] 49))) :=
    Lib.hid ⟨ps, k, ⟨#[]⟩, Nat.le_refl _, hd, hp, hn, by simp, H0.out⟩
  have hk6 : k ≤ 1000000 := by omega
  clear h hp hn hd hs hfull H0 hsn hdl
  go_enter Tryz.func20, Tryz.ntmps20
  go_wp2_with fail
  go_step3
  go_wp2_with fail
  refine wp_label ?_
  go_wp2_with fail
  go_loopw [] (fun wr => Hid (∃ (qs : List Pc) (j : Nat) (t : ByteArray), k ≤ j ∧ s.data.toList.drop j = srcs qs ++ 60 :: rest ∧ (∀ p ∈ qs, PcOk p) ∧ (∀ y ∈ srcs qs, y ≠ 62) ∧ t.data.toList ++ decs qs = decs ps ∧ TS w b s W.heap.size W.heap.size tk j x t wr)) (fun wr => n - atOf b wr)
  case atStart => exact HI
  case round =>
    clear HI c1 c1'
    obtain ⟨qs, j, t, hkj, HD, HP, HN, HE, HJ⟩ := hrel.out
    clear hrel
    have hts : t.size ≤ 1000000 := by
      have h1 := congrArg List.length HE
      rw [List.length_append] at h1
      have h2 : t.data.toList.length = t.size := by simp
      have := Hdl.out
      omega
    have HJD := Lib.hid HJ.drew
    have HJDD := Lib.hid HJ.drew.drew
    have c0 := HJ.cu.c0; have c1 := HJ.cu.c1
    have hat := HJ.cu.atOf
    have HJ := Lib.hid HJ
    obtain ⟨y, l, hyl⟩ : ∃ y l, s.data.toList.drop j = y :: l := by
      rw [HD]
      cases h : srcs qs with
      | nil => exact ⟨60, rest, rfl⟩
      | cons a r => exact ⟨a, r ++ 60 :: rest, rfl⟩
    obtain ⟨hjl, hsj, _, hnext⟩ := drop_get hyl
    have hji : (j : Int) < (n : Int) := by have := Hsn.out; omega
    have hjl2 : (j : Int) < (s.size : Int) := by omega
    obtain ⟨C, hC⟩ : ∃ C : Int, (y.toNat : Int) = C := ⟨_, rfl⟩
    have hC2 : C < 256 := by have := y.toNat_lt; omega
    cases qs with
    | nil =>
      have hy60 : y = 60 := by rw [hyl] at HD; injection HD
      have hC60 : C = 60 := by rw [← hC, hy60]; rfl
      subst hC60
      have hjk : j = k + (srcs ps).length := by
        have h1 := drop_size (a := [60]) (l := rest) HD (by simp)
        have h2 := HF.out
        simp only [List.length_singleton] at h1
        omega
      have ht : t = ⟨(decs ps).toArray⟩ := bytes_of (by rw [← HE]; simp [decs])
      subst ht
      rw [← hjk] at HT
      clear HD HP HN HE hyl hnext hy60 hjk
      go_wp2_with fail
      go_region_held3 (fun w' => w'.cell? ⟨b, 0, none⟩ = some (.string s) ∧ w'.cell? ⟨b, 1, none⟩ = some (.int .i64 (j : Int)))
        (first | exact ⟨c0, c1⟩ | exact ⟨HJD.out.cu.c0, HJD.out.cu.c1⟩ | go_keep)
        (fail)
      have c0 := HJD.out.cu.c0; have c1 := HJD.out.cu.c1
      go_wp2_with fail
      go_region_held3 (fun w' => w'.cell? ⟨b, 0, none⟩ = some (.string s) ∧ w'.cell? ⟨b, 1, none⟩ = some (.int .i64 (j : Int)))
        (first | exact ⟨c0, c1⟩ | exact ⟨HJDD.out.cu.c0, HJDD.out.cu.c1⟩ | go_keep)
        (fail)
      go_wp2_with fail
      refine (TS.told HJDD.out).mono ?_
      rintro e w1 ⟨rfl, h⟩
      have K1 := Lib.hid h
      clear h
      go_wp2_with fail
      refine (HT.out _ K1.out.cu).mono ?_
      rintro e w2 ⟨ok, rfl, hq⟩
      have HQ := Lib.hid hq
      clear hq
      go_wp2_with fail
      rw [Exit.noGoto_ret]
      go_ret
      exact ⟨ok, rfl, HQ.out⟩
    | cons p qs =>
      have hp := HP p (List.mem_cons_self ..)
      have HPs : Hid (∀ p ∈ qs, PcOk p) := Lib.hid (fun q hq => HP q (List.mem_cons_of_mem _ hq))
      have HNs : Hid (∀ y ∈ srcs qs, y ≠ 62) := Lib.hid (fun z hz => HN z (by unfold srcs; rw [List.flatMap_cons]; exact List.mem_append_right _ hz))
      have hsp : srcs (p :: qs) = p.src ++ srcs qs := List.flatMap_cons
      have hdp : decs (p :: qs) = p.dec ++ decs qs := List.flatMap_cons
      have hng : goes s j ⟨#[93, 93, 62]⟩ = false := by
        rw [goes_list, HD]
        exact no_end _ _ HN
      have HG : Hid (∀ W', TS w b s W.heap.size W.heap.size tk j x t W' → Calls Tryz.prog 31 #[.pointer (some ⟨b, 0, none⟩), .string ⟨#[93, 93, 62]⟩] W' fun e w' => e = .returned (.bool false) ∧ TS w b s W.heap.size W.heap.size tk j x t w') := Lib.hid (fun W' h' => h'.call (fun hc => by
        have := begins_any hc (Nat.le_of_lt hjl) ⟨#[93, 93, 62]⟩
        rwa [hng] at this))
      rw [hsp, List.append_assoc] at HD
      rw [hdp] at HE
      rcases hp with ⟨z, hsrc, hdec, hself⟩ | ⟨r, hsrc, href⟩
      · have hzy : z = y := by rw [hsrc, hyl] at HD; injection HD with h1 _; exact h1.symm
        subst hzy
        obtain ⟨n60, n38, n13⟩ := hself
        have g60 : (C == 60) = false := by simpa using (show ¬ C = 60 by omega)
        have g38 : (C == 38) = false := by simpa using (show ¬ C = 38 by omega)
        have hl : l = srcs qs ++ 60 :: rest := by rw [hsrc, hyl] at HD; injection HD
        obtain ⟨l1, l2⟩ := line_no hyl n13
        have HL : Hid (∀ W', TS w b s W.heap.size W.heap.size tk j x t W' → Calls Tryz.prog 34 #[.pointer (some ⟨b, 0, none⟩)] W' fun e w' => e = .returned (.bool false) ∧ TS w b s W.heap.size W.heap.size tk j x t w') := Lib.hid (fun W' h' => h'.call (fun hc => lineend_no hc (Nat.le_of_lt hjl) l1 l2))
        have HB : Hid (∀ W', TS w b s W.heap.size W.heap.size tk j x t W' → Calls Tryz.prog 14 #[.pointer (some ⟨W.heap.size, 0, none⟩), .int .u8 C] W' fun e w' => e = .returned .nilIface ∧ TS w b s W.heap.size W.heap.size tk j x (t.push z) w') := Lib.hid (fun W' h' => by
          have := h'.byte z hts
          rwa [hC] at this)
        have HE2 : Hid ((t.push z).data.toList ++ decs qs = decs ps) := Lib.hid (by rw [← HE, hdec, ByteArray.data_push]; simp)
        have HD2 : Hid (s.data.toList.drop (j + 1) = srcs qs ++ 60 :: rest) := Lib.hid (hnext.trans hl)
        have hj6 : j ≤ 1000000 := by have := HS.out; omega
        clear HD HP HN HE hyl hnext hl hng hsp hdp hsrc hdec n60 n38 n13 l1 l2
        go_wp2_with fail
        go_region_held3 (fun w' => w'.cell? ⟨b, 0, none⟩ = some (.string s) ∧ w'.cell? ⟨b, 1, none⟩ = some (.int .i64 (j : Int)))
          (first | exact ⟨c0, c1⟩ | exact ⟨HJD.out.cu.c0, HJD.out.cu.c1⟩ | go_keep)
          (fail)
        have c0 := HJD.out.cu.c0; have c1 := HJD.out.cu.c1
        go_wp2_with fail
        go_region_held3 (fun w' => w'.cell? ⟨b, 0, none⟩ = some (.string s) ∧ w'.cell? ⟨b, 1, none⟩ = some (.int .i64 (j : Int)))
          (first | exact ⟨c0, c1⟩ | exact ⟨HJDD.out.cu.c0, HJDD.out.cu.c1⟩ | go_keep)
          (fail)
        go_wp2_with fail
        refine (HG.out _ HJDD.out).mono ?_
        rintro e w1 ⟨rfl, h⟩
        have K1 := Lib.hid h
        clear h
        go_wp2_with fail
        refine (HL.out _ K1.out).mono ?_
        rintro e w2 ⟨rfl, h⟩
        have K2 := Lib.hid h
        clear h
        go_wp2_with fail
        refine (HB.out _ K2.out).mono ?_
        rintro e w3 ⟨rfl, h⟩
        have c1 := h.cu.c1; have f1 := h.cu.f 1
        have K3 := Lib.hid (h.at_ (j + 1))
        rw [show ((j + 1 : Nat) : Int) = (j : Int) + 1 by omega] at K3
        have hm2 := K3.out.cu.atOf
        clear h K1 K2
        go_wp2_with fail
        go_roundw
        case rel => exact Lib.hid ⟨qs, j + 1, t.push z, by omega, HD2.out, HPs.out, HNs.out, HE2.out, K3.out⟩
        case measure => rw [hat, hm2]; omega
      · have hy38 : y = 38 := by rw [hsrc, hyl] at HD; injection HD
        have hC38 : C = 38 := by rw [← hC, hy38]; rfl
        subst hC38
        have HR : Hid (∀ W', TS w b s W.heap.size W.heap.size tk j x t W' → Calls Tryz.prog 33 #[.pointer (some ⟨b, 0, none⟩)] W' fun e w' => e = .returned (.tuple #[.string ⟨p.dec.toArray⟩, .bool true]) ∧ TS w b s W.heap.size W.heap.size tk (j + p.src.length) x t w') := Lib.hid (fun W' h' => h'.call (fun hc => href _ _ _ _ _ _ _ _ hc HS.out HD))
        have hdz : (⟨p.dec.toArray⟩ : ByteArray).size ≤ 1000000 := by
          have h1 := congrArg List.length HE
          simp only [List.length_append] at h1
          have h2 : (⟨p.dec.toArray⟩ : ByteArray).size = p.dec.length := by simp [ByteArray.size]
          have := Hdl.out
          omega
        have HW : Hid (∀ W', TS w b s W.heap.size W.heap.size tk (j + p.src.length) x t W' → Calls Tryz.prog 13 #[.pointer (some ⟨W.heap.size, 0, none⟩), .string ⟨p.dec.toArray⟩] W' fun e w' => e = .returned (.tuple #[.int .i64 ((⟨p.dec.toArray⟩ : ByteArray).size : Int), .nilIface]) ∧ TS w b s W.heap.size W.heap.size tk (j + p.src.length) x (t ++ ⟨p.dec.toArray⟩) w') := Lib.hid (fun W' h' => h'.text _ (by omega))
        have HE2 : Hid ((t ++ ⟨p.dec.toArray⟩).data.toList ++ decs qs = decs ps) := Lib.hid (by rw [← HE, ByteArray.toList_data_append, List.append_assoc])
        have HD2 : Hid (s.data.toList.drop (j + p.src.length) = srcs qs ++ 60 :: rest) := Lib.hid (drop_step HD)
        have hpl : 0 < p.src.length := by rw [hsrc]; simp
        have hjn : j + p.src.length ≤ n := by
          have h1 := drop_size HD (by rw [hsrc]; simp)
          have := Hsn.out
          omega
        obtain ⟨m, hm⟩ : ∃ m, p.src.length = m := ⟨_, rfl⟩
        obtain ⟨U, hU⟩ : ∃ U : ByteArray, ⟨p.dec.toArray⟩ = U := ⟨_, rfl⟩
        simp only [hm, hU] at HR HW HE2 HD2 hpl hjn
        clear HD HP HN HE hyl hnext hng hsp hdp hsrc hdz hm hU href hy38
        go_wp2_with fail
        go_region_held3 (fun w' => w'.cell? ⟨b, 0, none⟩ = some (.string s) ∧ w'.cell? ⟨b, 1, none⟩ = some (.int .i64 (j : Int)))
          (first | exact ⟨c0, c1⟩ | exact ⟨HJD.out.cu.c0, HJD.out.cu.c1⟩ | go_keep)
          (fail)
        have c0 := HJD.out.cu.c0; have c1 := HJD.out.cu.c1
        go_wp2_with fail
        go_region_held3 (fun w' => w'.cell? ⟨b, 0, none⟩ = some (.string s) ∧ w'.cell? ⟨b, 1, none⟩ = some (.int .i64 (j : Int)))
          (first | exact ⟨c0, c1⟩ | exact ⟨HJDD.out.cu.c0, HJDD.out.cu.c1⟩ | go_keep)
          (fail)
        go_wp2_with fail
        refine (HG.out _ HJDD.out).mono ?_
        rintro e w1 ⟨rfl, h⟩
        have K1 := Lib.hid h
        clear h
        go_wp2_with fail
        refine (HR.out _ K1.out).mono ?_
        rintro e w2 ⟨rfl, h⟩
        have K2 := Lib.hid h
        clear h
        go_wp2_with fail
        refine (HW.out _ K2.out).mono ?_
        rintro e w3 ⟨rfl, h⟩
        have K3 := Lib.hid h
        have hm2 := h.cu.atOf
        clear h K1 K2
        go_wp2_with fail
        go_roundw
        case rel => exact Lib.hid ⟨qs, j + m, t ++ U, by omega, HD2.out, HPs.out, HNs.out, HE2.out, K3.out⟩
        case measure => rw [hat, hm2]; omega
end Go.Proofs.YtkebjllehegjlaaGreatDoor
