/-
  The walk of NatIterates: for every input it returns true, and leaves what lay in memory as it was.
-/
import Derived.Test.YtikbhcndgmanmaaDoorNIterA
namespace Go.Proofs.YtikbhcndgmanmaaDoor
open Go.RowKit Go.Shelf
set_option linter.unusedVariables false
set_option maxRecDepth 100000 in
set_option maxHeartbeats 8000000 in
theorem natIterates.walk (a : Option Addr) (c : Nat) (ts : List ByteArray) (stop : Int) (w : World) (ha : TS w a ts) (hs : ∀ t ∈ ts, t.size ≤ maxLen) (hl : ts.length ≤ maxLen) (htab : Tab w) :
    Calls Tryd.prog 5 #[.slice a ts.length c, .int .i64 stop] w fun e w' => e = .returned (.bool true) ∧ Below w.heap.size w w' := by
  have HSh := Lib.hid (short_any 20 1000 a c ts w (by omega) (by omega) (by omega) ha hl hs)
  have HAl : Hid (∀ W, Below w.heap.size w W → Calls Tryd.prog 6 #[] W fun e w' => e = .returned (.bool true) ∧ Below W.heap.size W w') := Lib.hid (fun W hb => alive_any W (htab.below hb (Nat.le_refl _)))
  have HTab : Hid (∀ W, Below w.heap.size w W → Tab W) := Lib.hid (fun W hb => htab.below hb (Nat.le_refl _))
  have HTS := Lib.hid ha
  clear ha hs hl htab
  go_enter Tryd.func5, Tryd.ntmps5
  go_wp2_with fail
  refine HSh.out.mono ?_
  rintro e w1 ⟨⟨b, rfl, hb⟩, hb1⟩
  have HB1 := Lib.hid hb1
  clear HSh hb1
  cases b with
  | false =>
    clear hb
    go_wp2_with fail
    refine (HAl.out w1 HB1.out).mono ?_
    rintro e w2 ⟨rfl, hb2⟩
    have HB2 := Lib.hid (HB1.out.trans (hb2.mono HB1.out.size))
    clear hb2
    go_wp2_with fail
    go_ret
    exact ⟨rfl, HB2.out⟩
  | true =>
    obtain ⟨hfew, hroom⟩ := hb rfl
    have HSz : Hid (∀ t ∈ ts, t.size ≤ 1000) := Lib.hid (fun t ht => by have := szs_mem ht; omega)
    clear hb hroom
    go_wp2_with fail
    refine (HAl.out w1 HB1.out).mono ?_
    rintro e w2 ⟨rfl, hb2⟩
    have HB2 := Lib.hid (HB1.out.trans (hb2.mono HB1.out.size))
    have HN := Lib.hid (nats_any ts a c w2 ((HTS.out.below HB1.out).below hb2).tr (fun t ht => by have := HSz.out t ht; omega) (by omega) (HTab.out _ HB2.out))
    clear hb2 HAl HTS
    go_wp2_with fail
    refine HN.out.mono ?_
    rintro e w3 ⟨va, vb, xs, ys, rfl, hN⟩
    obtain ⟨ns, hns⟩ : ∃ ns, ts.map nn = ns := ⟨_, rfl⟩
    rw [hns] at hN
    have hlen : ns.length ≤ 20 := by rw [← hns, List.length_map]; exact hfew
    have HSm : Hid (∀ N ∈ ns, N < 10000 ^ 250) := Lib.hid (fun N hN => by
      rw [← hns, List.mem_map] at hN
      obtain ⟨t, ht, rfl⟩ := hN
      exact nn_lt (by have := HSz.out t ht; omega))
    have HSw : Hid (∀ N ∈ ns, N < 18446744073709551616 ^ 63) := Lib.hid (fun N hN => by
      rw [← hns, List.mem_map] at hN
      obtain ⟨t, ht, rfl⟩ := hN
      unfold nn
      split
      · rename_i h
        exact Nat.lt_of_lt_of_le (dv_lt t.size t.data.toList (by simp) h.dig) (ten_pow (by have := HSz.out t ht; omega))
      · exact Nat.pow_pos (by decide))
    obtain ⟨aa, ca, ab, cb, L, rfl, rfl, hL, hY, hLn, hT⟩ := two_of hN
    have HT3 := Lib.hid hT
    have HB3 : Hid (Below w.heap.size w w3) := Lib.hid (HB2.out.trans (hT.bel.mono HB2.out.size))
    obtain ⟨m, hm⟩ : ∃ m, ns.length = m := ⟨_, rfl⟩
    have Hm := Lib.hid hm
    have HLl : Hid (L.length = ns.length ∧ ys.length = ns.length ∧ L.map (·.2) = ns) := Lib.hid ⟨hL, hY, hLn⟩
    rw [hm] at hlen ⊢
    clear HN hN hns hT hL hY hLn hm hfew HSz HB1
    go_wp2_with fail
    have hW4 : Below w3.heap.size w3 (w3.alloc (.cells #[] 3)) := (Below.refl _ _).alloc (Nat.le_refl _) _
    have HT4 := Lib.hid (HT3.out.below hW4)
    have HS0 : Hid (RN (w3.alloc (.cells #[] 3)) (.slice (some ⟨w3.heap.size, 0, none⟩) 0 0) (tot ns 0)) := Lib.hid ⟨[], ⟨_, _, rfl, Nat.le_refl _, fun i hi => by simp at hi, fun h => by cases h⟩, fun d h => by simp at h, trm_nil, by simp [tot, dvl]⟩
    have HTw : Hid (∀ W, Two w2 W aa ab L ys ns → Tab W) := Lib.hid (fun W h => HTab.out _ (HB2.out.trans (h.bel.mono HB2.out.size)))
    have HFin : Hid (∀ W, Two w2 W aa ab L ys ns → Below w.heap.size w W) := Lib.hid (fun W h => HB2.out.trans (h.bel.mono HB2.out.size))
    clear hW4 HT3 HTab HB2 HB3
    go_loopw [8, 9] (fun sv iv wr => ∃ (k : Nat), k ≤ m ∧ iv = .int .i64 (k : Int) ∧ Hid (RN wr sv (tot ns k)) ∧ Hid (Two w2 wr aa ab L ys ns)) (fun _ iv _ => m - (intOf iv).toNat)
    case atStart => exact ⟨0, by omega, rfl, HS0, HT4⟩
    case round =>
      clear HS0 HT4
      obtain ⟨k, hk, rfl, hS, hT⟩ := hrel
      by_cases hlt : k < m
      · obtain ⟨N, hN⟩ : ∃ N, ns[k]? = some N := ⟨_, List.getElem?_eq_getElem (by rw [Hm.out]; exact hlt)⟩
        obtain ⟨y, hy⟩ : ∃ y, ys[k]? = some y := ⟨_, List.getElem?_eq_getElem (by rw [HLl.out.2.1, Hm.out]; exact hlt)⟩
        obtain ⟨⟨p, n, c', rfl⟩, hRN, ad, rfl, hadl, hca⟩ := hT.out.doc k y N hy hN
        have hi0 : (0 : Int) ≤ (k : Int) := by omega
        have hi1 : (k : Int) < (m : Int) := by omega
        have HAdd := Lib.hid (radd_num (tot ns k) N _ _ wr hS.out hRN (tot_lt HSm.out k (by rw [Hm.out]; exact hlen)) (pow_up 250 9000 (HSm.out N (List.mem_of_getElem? hN)) (by decide)))
        have Hts := Lib.hid (tot_succ hN)
        clear hN hy hRN hadl hS
        go_wp2_with fail
        refine HAdd.out.mono ?_
        rintro e w4 ⟨v, rfl, hv, hb⟩
        have HS' : Hid (RN w4 v (tot ns (k + 1))) := Lib.hid (by rw [Hts.out]; exact hv)
        have HT' := Lib.hid (hT.out.below hb)
        clear hv hb hT HAdd Hts hca
        go_wp2_with fail
        go_roundw
        case rel => exact ⟨k + 1, by omega, by go_num, HS', HT'⟩
        case measure => simp [intOf]; omega
      · obtain rfl : k = m := by omega
        have hi1 : ¬ (k : Int) < (k : Int) := by omega
        have HEach := Lib.hid (each_fn aa k ca wr)
        have hb5 : Below wr.heap.size wr (wr.alloc (.cells #[.slice aa k ca] 23)) := (Below.refl _ _).alloc (Nat.le_refl _) _
        have hLk : L.length = k := by rw [HLl.out.1, Hm.out]
        have htot : tot ns k = (L.map (·.2)).sum := by rw [HLl.out.2.2, ← Hm.out, tot_all]
        have HSum : Hid (Calls Tryd.prog 32 #[.func (.func 54) #[] #[.pointer (some ⟨wr.heap.size, 0, none⟩)]] (wr.alloc (.cells #[.slice aa k ca] 23)) (GaveV (tot ns k) (wr.alloc (.cells #[.slice aa k ca] 23)))) := Lib.hid (by
          rw [htot]
          refine sum_any L (by omega) aa ca _ _ (by simp) ?_ (hT.out.row.below hb5 (Nat.le_refl _)) (fun x hx => ?_) (fun x hx => ?_)
          · rw [(Blk.new wr 23 #[.slice aa k ca]).cell 0, hLk]; rfl
          · obtain ⟨j, hj⟩ := List.getElem?_of_mem hx
            have e2 : ns[j]? = some x.2 := by rw [← HLl.out.2.2, List.getElem?_map, hj]; rfl
            exact ((hT.out.num j x x.2 hj e2).below hb5 (Nat.le_refl _))
          · exact Nat.lt_of_lt_of_le (HSw.out x.2 (by rw [← HLl.out.2.2]; exact List.mem_map_of_mem hx)) (w64_mono (by omega)))
        have HT5 := Lib.hid (hT.out.below hb5)
        have HS5 := Lib.hid (hS.out.below hb5 (Nat.le_refl _))
        obtain ⟨Tt, hTt⟩ : ∃ Tt, tot ns k = Tt := ⟨_, rfl⟩
        have HTt : Hid (Tt < 10000 ^ 9000) := Lib.hid (by rw [← hTt]; exact tot_lt HSm.out k (by rw [Hm.out]; exact hlen))
        rw [hTt] at HSum HS5
        clear hb5 hLk htot hT hS hTt
        go_wp2_with fail
        refine HEach.out.mono ?_
        rintro e w5 ⟨rfl, rfl⟩
        clear HEach
        go_wp2_with fail
        refine HSum.out.mono ?_
        rintro e w6 ⟨x, y, z, rfl, hN6, hb6⟩
        have HT6 := Lib.hid (HT5.out.below hb6)
        have HSame := Lib.hid (same_num Tt _ _ w6 hN6 (HS5.out.below hb6 (Nat.le_refl _)) HTt.out (HTw.out _ HT6.out))
        clear hN6 hb6 HS5 HT5 HSum HTt
        go_wp2_with fail
        refine HSame.out.mono ?_
        rintro e w7 ⟨rfl, hb7⟩
        have HT7 := Lib.hid (HT6.out.below hb7)
        have HNil := Lib.hid (sum_nil w7)
        clear hb7 HT6 HSame
        go_wp2_with fail
        refine HNil.out.mono ?_
        rintro e w8 ⟨rfl, hb8⟩
        have HT8 := Lib.hid (HT7.out.below hb8)
        have HZ := Lib.hid (zero_yes (isN_zero w8))
        clear hb8 HT7 HNil
        go_wp2_with fail
        refine HZ.out.mono ?_
        rintro e w9 ⟨rfl, hb9⟩
        have HT9 := Lib.hid (HT8.out.below hb9)
        clear hb9 HT8 HZ
        go_wp2_with fail
        go_loopw [10, 11, 12, 13, 14, 15, 16] (fun iv _ _ _ _ _ _ wa => ∃ (i : Nat), i ≤ k ∧ iv = .int .i64 (i : Int) ∧ Hid (Two w2 wa aa ab L ys ns)) (fun iv _ _ _ _ _ _ _ => k - (intOf iv).toNat)
        case atStart => exact ⟨0, by omega, rfl, HT9⟩
        case round =>
          clear HT9
          obtain ⟨i, hik, rfl, hT⟩ := hrel
          by_cases hlt : i < k
          · obtain ⟨N, hN⟩ : ∃ N, ns[i]? = some N := ⟨_, List.getElem?_eq_getElem (by rw [Hm.out]; exact hlt)⟩
            obtain ⟨y, hy⟩ : ∃ y, ys[i]? = some y := ⟨_, List.getElem?_eq_getElem (by rw [HLl.out.2.1, Hm.out]; exact hlt)⟩
            obtain ⟨x, hx⟩ : ∃ x, L[i]? = some x := ⟨_, List.getElem?_eq_getElem (by rw [HLl.out.1, Hm.out]; exact hlt)⟩
            obtain ⟨⟨p, n, c', rfl⟩, hRN, ad, rfl, hadl, hca⟩ := hT.out.doc i y N hy hN
            obtain ⟨ad2, rfl, hadl2, hca2⟩ := hT.out.row i x hx
            have hIN := hT.out.num i x N hx hN
            obtain ⟨⟨x0, x1, x2⟩, M⟩ := x
            replace hca2 : wr.cell? (ad2.add i) = some (.slice x0 x1 x2) := hca2
            replace hIN : IsN wr (.agg #[.slice x0 x1 x2]) N := hIN
            have hi0 : (0 : Int) ≤ (i : Int) := by omega
            have hi1 : (i : Int) < (k : Int) := by omega
            have hbA : Below wr.heap.size wr (wr.alloc (.cells #[.slice x0 x1 x2] 30)) := (Below.refl _ _).alloc (Nat.le_refl _) _
            have hcaA : (wr.alloc (.cells #[.slice x0 x1 x2] 30)).cell? (ad.add i) = some (.slice p n c') := (hbA.cell (by rw [add_block]; exact hadl)).trans hca
            have hfn : ∀ W, (binOp .eql 60 (.func (.func 55) #[] #[.pointer (some ⟨wr.heap.size, 0, none⟩)]) .nilFunc).run Tryd.prog W = .ok (.bool false) W := fun W => run_eql_func_nil _ _ _ _ (by kernel_rfl) W
            have HHf := Lib.hid (halves_fn x0 x1 x2 wr)
            obtain ⟨Lz, hLz⟩ : ∃ Lz : Nat, (hlv N).length = Lz := ⟨_, rfl⟩
            have hLz6 : Lz ≤ 640000 := by
              obtain ⟨l', h1, h2⟩ := isN_len hIN
              rw [← hLz, hlv_len l' N h1]; exact h2
            have hLz5 : (hlv N).length ≤ 100000 := by
              have h1 := HSw.out N (List.mem_of_getElem? hN)
              have h2 := isLen_le (isLen_hlv N) (w64_two 63 h1)
              omega
            have HBits := Lib.hid (rbits_any N _ _ (hRN.below hbA (Nat.le_refl _)) (pow_up 250 2000 (HSm.out N (List.mem_of_getElem? hN)) (by decide)) hLz5)
            have HTA := Lib.hid (hT.out.below hbA)
            have HNA := Lib.hid (hIN.below hbA (Nat.le_refl _))
            have HRA := Lib.hid (hRN.below hbA (Nat.le_refl _))
            have HcA := Lib.hid hcaA
            have hBx : (wr.alloc (.cells #[.slice x0 x1 x2] 30)).cell? ⟨wr.heap.size, 0, none⟩ = some (.slice x0 x1 x2) := (Blk.new wr 30 #[.slice x0 x1 x2]).cell 0
            have HBx := Lib.hid hBx
            have HNb : Hid (N < 10000 ^ 250) := Lib.hid (HSm.out N (List.mem_of_getElem? hN))
            obtain ⟨Bs, hBs⟩ : ∃ Bs, wr.heap.size = Bs := ⟨_, rfl⟩
            have HBs := Lib.hid hBs
            have HLz := Lib.hid hLz
            clear hT hN hy hx hRN hadl hadl2 hIN hbA hLz hLz5 hBx hBs
            go_wp2_with fail
            refine HHf.out.mono ?_
            rintro e wA ⟨rfl, rfl⟩
            clear HHf
            go_wp2_with fail
            refine HBits.out.mono ?_
            rintro e w6 ⟨K, rfl, hK, hb6⟩
            obtain rfl : K = Lz := by rw [← HLz.out]; exact hK.inj (isLen_hlv N)
            have HT6 := Lib.hid (HTA.out.below hb6)
            have HN6 := Lib.hid (HNA.out.below hb6 (Nat.le_refl _))
            have HR6 := Lib.hid (HRA.out.below hb6 (Nat.le_refl _))
            have Hc6 : Hid (∀ W, Below w6.heap.size w6 W → W.cell? (ad.add i) = some (.slice p n c')) := Lib.hid (fun W h => (h.cell (p := ad.add i) (World.block_lt_of_cell? _ _ ((hb6.cell (World.block_lt_of_cell? _ _ HcA.out)).trans HcA.out))).trans ((hb6.cell (World.block_lt_of_cell? _ _ HcA.out)).trans HcA.out))
            have HBx6 : Hid (∀ W, Below w6.heap.size w6 W → W.cell? ⟨wr.heap.size, 0, none⟩ = some (.slice x0 x1 x2)) := Lib.hid (fun W h => (h.cell (p := ⟨wr.heap.size, 0, none⟩) (World.block_lt_of_cell? _ _ ((hb6.cell (World.block_lt_of_cell? _ _ HBx.out)).trans HBx.out))).trans ((hb6.cell (World.block_lt_of_cell? _ _ HBx.out)).trans HBx.out))
            clear hb6 HBits HTA HNA HRA HcA HBx hK hcaA hca
            obtain ⟨WT, hWT⟩ : ∃ WT, wnt (K : Int) stop = WT := ⟨_, rfl⟩
            have HH : Hid (∀ W, Below w6.heap.size w6 W → Calls Tryd.prog 35 #[.func (.func 55) #[] #[.pointer (some ⟨wr.heap.size, 0, none⟩)], .int .i64 stop] W fun e W' =>
                ∃ (a : Option Addr) (c : Nat) (hs : List Hv), e = .returned (.slice a hs.length c) ∧ (hs.length : Int) = WT ∧ hs.length ≤ K ∧ Hh W' a hs N ∧ Below W.heap.size W W') := Lib.hid (fun W h => by
              have := halves_law wr.heap.size N x0 x1 x2 stop W (World.block_lt_of_cell? W ⟨wr.heap.size, 0, none⟩ (HBx6.out W h)) (HBx6.out W h) (HN6.out.below h (Nat.le_refl _)) (WT := WT) (by rw [HLz.out]; exact hWT)
              rw [HLz.out] at this
              exact this)
            have hcase : (0 < stop ∧ min (K : Int) stop = WT) ∨ (¬ 0 < stop ∧ WT = (K : Int)) := by
              rw [← hWT]
              unfold wnt
              by_cases h1 : 0 < stop
              · refine .inl ⟨h1, ?_⟩
                rw [if_pos h1]
                split <;> omega
              · exact .inr ⟨h1, by rw [if_neg h1]⟩
            clear hWT HN6 HBx6 HLz
            rcases hcase with ⟨g1, g2⟩ | ⟨g1, rfl⟩
            all_goals
              go_wp2_with fail
              go_loopw [13, 14, 15, 16] (fun rv _ _ _ wq => ∃ (r : Nat), r ≤ 2 ∧ rv = .int .i64 (r : Int) ∧ Hid (Below w6.heap.size w6 wq)) (fun rv _ _ _ _ => 2 - (intOf rv).toNat)
              case atStart => exact ⟨0, by omega, rfl, Lib.hid (Below.refl _ _)⟩
              case round =>
                obtain ⟨r, hr, rfl, hbq⟩ := hrel
                by_cases hr2 : r < 2
                · have hr3 : (r : Int) < 2 := by omega
                  have cq := Hc6.out wr hbq.out
                  have cqd : wr.drew.cell? (ad.add i) = some (.slice p n c') := cq
                  have HC : Hid (∀ W, Below wr.drew.heap.size wr.drew W → W.cell? (ad.add i) = some (.slice p n c')) := Lib.hid (fun W h => Hc6.out W (hbq.out.drew.trans (h.mono hbq.out.drew.size)))
                  have HHd := Lib.hid (HH.out wr.drew hbq.out.drew)
                  go_wp2_with fail
                  go_region_held3 (fun w' => w'.cell? (ad.add i) = some (.slice p n c'))
                    (first | exact cqd | exact cq | exact HC.out _ ‹_› | go_keep)
                    (first | (go_at_call 35; refine HHd.out.mono ?_; rintro e w8 ⟨a8, c8, hs, rfl, hsl, hsk, hH8, hb8⟩))
                  obtain ⟨q, hq⟩ : ∃ q, hs.length = q := ⟨_, rfl⟩
                  have Hq := Lib.hid hq
                  rw [hq] at hsl hsk ⊢
                  first | subst hsl | (obtain rfl : q = K := by omega)
                  have HH8 := Lib.hid hH8
                  have Hb8 : Hid (Below w6.heap.size w6 w8) := Lib.hid (hbq.out.drew.trans (hb8.mono hbq.out.drew.size))
                  have HR8 : Hid (RN w8 (.slice p n c') (N / 2 ^ 0)) := Lib.hid (by rw [Nat.pow_zero, Nat.div_one]; exact HR6.out.below Hb8.out (Nat.le_refl _))
                  clear hH8 hb8 cq cqd HC HHd hbq hq
                  go_wp2_with fail
                  go_loopw [15, 16] (fun xv kv wq => ∃ (j : Nat), j ≤ q ∧ kv = .int .i64 (j : Int) ∧ Hid (RN wq xv (N / 2 ^ j)) ∧ Hid (Below w8.heap.size w8 wq)) (fun _ kv _ => q - (intOf kv).toNat)
                  case atStart => exact ⟨0, by omega, rfl, HR8, Lib.hid (Below.refl _ _)⟩
                  case round =>
                    obtain ⟨j, hj, rfl, hRj, hbj⟩ := hrel
                    by_cases hjq : j < q
                    · obtain ⟨x', hx'⟩ : ∃ x', hs[j]? = some x' := ⟨_, List.getElem?_eq_getElem (by rw [Hq.out]; exact hjq)⟩
                      obtain ⟨ad', rfl, hadl', hca'⟩ := (HH8.out.below hbj.out).row j x' hx'
                      have hNj := (HH8.out.below hbj.out).num j x' hx'
                      obtain ⟨⟨y0, y1, y2⟩, M'⟩ := x'
                      replace hca' : wr.cell? (ad'.add j) = some (.slice y0 y1 y2) := hca'
                      replace hNj : IsN wr (.agg #[.slice y0 y1 y2]) (N / 2 ^ j) := hNj
                      have hj0 : (0 : Int) ≤ (j : Int) := by omega
                      have hj1 : (j : Int) < (q : Int) := by omega
                      have hNb : N / 2 ^ j < 10000 ^ 9000 := pow_up 250 9000 (Nat.lt_of_le_of_lt (Nat.div_le_self _ _) HNb.out) (by decide)
                      have HSm2 := Lib.hid (same_num (N / 2 ^ j) _ _ wr hNj hRj.out hNb (HTw.out _ (HT6.out.below (Hb8.out.trans (hbj.out.mono Hb8.out.size)))))
                      have HNb2 := Lib.hid hNb
                      clear hx' hadl' hNj hNb
                      go_wp2_with fail
                      refine HSm2.out.mono ?_
                      rintro e wB ⟨rfl, hbB⟩
                      have HDv := Lib.hid (div_lit (N / 2 ^ j) 2 _ wB (hRj.out.below hbB (Nat.le_refl _)) HNb2.out (by omega) (by omega))
                      have HbB := Lib.hid (hbj.out.trans (hbB.mono hbj.out.size))
                      clear hbB hRj hbj HSm2 HNb2 hca'
                      go_wp2_with fail
                      refine HDv.out.mono ?_
                      rintro e wC ⟨v1, v2, rfl, hv1, _, hbC⟩
                      have HRC : Hid (RN wC v1 (N / 2 ^ (j + 1))) := Lib.hid (by rw [Nat.pow_succ, ← Nat.div_div_eq_div_mul]; exact hv1)
                      have HbC := Lib.hid (HbB.out.trans (hbC.mono HbB.out.size))
                      clear hv1 hbC HDv HbB
                      go_wp2_with fail
                      go_roundw
                      case rel => exact ⟨j + 1, by omega, by go_num, HRC, HbC⟩
                      case measure => simp [intOf]; omega
                    · obtain rfl : j = q := by omega
                      have hj1 : ¬ (j : Int) < (j : Int) := by omega
                      have Hbr : Hid (Below w6.heap.size w6 wr) := Lib.hid (Hb8.out.trans (hbj.out.mono Hb8.out.size))
                      clear hRj hbj
                      go_wp2_with fail
                      go_roundw
                      case rel => exact ⟨r + 1, by omega, by go_num, Hbr⟩
                      case measure => simp [intOf]; omega
                · obtain rfl : r = 2 := by omega
                  have HTi := Lib.hid (HT6.out.below hbq.out)
                  clear hbq
                  go_wp2_with fail
                  go_roundw
                  case rel => exact ⟨i + 1, by omega, by go_num, HTi⟩
                  case measure => simp [intOf]; omega
          · obtain rfl : i = k := by omega
            have hi1 : ¬ (i : Int) < (i : Int) := by omega
            have HFi := Lib.hid (HFin.out _ hT.out)
            clear hT
            go_wp2_with fail
            go_ret
            exact ⟨rfl, HFi.out⟩
end Go.Proofs.YtikbhcndgmanmaaDoor
