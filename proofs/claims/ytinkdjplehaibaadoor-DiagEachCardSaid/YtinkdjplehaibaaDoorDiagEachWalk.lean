/-
  The walk of DiagEach: for every input it returns true, and leaves what lay in memory as it was.
-/
import Derived.Test.YtinkdjplehaibaaDoorDMain
namespace Go.Proofs.YtinkdjplehaibaaDoor
open Go.RowKit
set_option linter.unusedVariables false
set_option maxRecDepth 1000000 in
set_option maxHeartbeats 8000000 in
theorem diagEach.walk (a : Option Addr) (c : Nat) (l : List Dg) (stop : Int) (w : World) (h : DR w (.slice a l.length c) l) (hs : ∀ d ∈ l, d.what.size ≤ maxLen) (hl : l.length ≤ maxLen) :
    Calls Tryd.prog 4 #[.slice a l.length c, .int .i64 stop] w fun e w' => e = .returned (.bool true) ∧ Below w.heap.size w w' := by
  have HL := Lib.hid (light_any a c l w h hs hl)
  have HA := Lib.hid (fun w => alive_any w)
  have HD := Lib.hid h
  have HS := Lib.hid hs
  unfold maxLen at hl
  obtain ⟨n, hn⟩ : ∃ n, l.length = n := ⟨_, rfl⟩
  have Hn := Lib.hid hn
  rw [hn] at hl HL HD ⊢
  clear h hs hn
  go_enter Tryd.func4, Tryd.ntmps4
  go_wp2_with fail
  refine HL.out.mono ?_
  rintro e w1 ⟨⟨b, rfl⟩, hb1⟩
  have HB1 := Lib.hid hb1
  clear hb1 HL
  cases b with
  | false =>
    go_wp2_with fail
    refine (HA.out _).mono ?_
    rintro e w2 ⟨rfl, hb⟩
    have HB2 := Lib.hid (HB1.out.trans (hb.mono HB1.out.size))
    clear hb HB1
    go_wp2
    go_ret
    exact ⟨rfl, HB2.out⟩
  | true =>
    by_cases h100 : 100 < n
    · have h1i : (100 : Int) < (n : Int) := by omega
      go_wp2_with fail
      refine (HA.out _).mono ?_
      rintro e w2 ⟨rfl, hb⟩
      have HB2 := Lib.hid (HB1.out.trans (hb.mono HB1.out.size))
      clear hb HB1
      go_wp2
      go_ret
      exact ⟨rfl, HB2.out⟩
    · have h1i : ¬ (100 : Int) < (n : Int) := by omega
      go_wp2_with fail
      refine (HA.out _).mono ?_
      rintro e w2 ⟨rfl, hb⟩
      have HB2 := Lib.hid (HB1.out.trans (hb.mono HB1.out.size))
      clear hb HB1 h1i HA
      obtain ⟨W3, hW3⟩ : ∃ W3, w2.alloc (.cells #[.slice none 0 0] 27) = W3 := ⟨_, rfl⟩
      have hL3 : IsL w.heap.size W3 w2.heap.size [] := isL_nil rfl HB2.out.size hW3
      have hB3 : Below w.heap.size w W3 := HB2.out.trans (by rw [← hW3]; exact ((Below.refl _ _).alloc (Nat.le_refl _) _).mono HB2.out.size)
      obtain ⟨x, hx⟩ : ∃ x, w2.heap.size = x := ⟨_, rfl⟩
      rw [hx] at hL3
      have HL3 := Lib.hid hL3
      have HB3 := Lib.hid hB3
      clear hL3 hB3
      go_wp2_with fail
      clear hW3 HB2 hx
      go_loopw [6] (fun i wr => ∃ k : Nat, k ≤ n ∧ i = .int .i64 (k : Int) ∧ Hid (IsL w.heap.size wr x (dall (l.take k))) ∧ Hid (Below w.heap.size w wr)) (fun i _ => n - (intOf i).toNat)
      case atStart => exact ⟨0, by omega, rfl, HL3, HB3⟩
      case round =>
        obtain ⟨k, hk, rfl, hL, hB⟩ := hrel
        clear HL3 HB3
        by_cases hlt : k < n
        · obtain ⟨d, hd⟩ : ∃ d, l[k]? = some d := ⟨_, List.getElem?_eq_getElem (by rw [Hn.out]; exact hlt)⟩
          have hsz := HS.out d (List.mem_of_getElem? hd)
          obtain ⟨a', c', hv', hcell⟩ := HD.out
          have ha' : a' = a := by injection hv' with e1 e2 e3; exact e1.symm
          subst ha'
          obtain ⟨ad, rfl, hadl, hc⟩ := hcell k d hd
          have hxb : (ad.add (k * 3)).block < w.heap.size := by rw [add_block]; exact hadl
          have hC := c3_below (c3_of hc) hxb hB.out
          obtain ⟨c0, c1, c2⟩ := id hC
          have HC : Hid (∀ w4, Below w.heap.size wr.drew w4 → C3 w4 (ad.add (k * 3)) d) := Lib.hid (fun w4 hb => c3_below (w := wr.drew) hC hxb hb)
          have hi0 : (0 : Int) ≤ (k : Int) := by omega
          have hi1 : (k : Int) < (n : Int) := by omega
          have HT : Hid (dall (l.take (k + 1)) = dadd (dall (l.take k)) d.code d.at_ d.what) := Lib.hid (dall_take l k d hd)
          have HAdd : Hid (Calls Tryd.prog 7 #[.pointer (some ⟨x, 0, none⟩), .int .i64 d.code, .int .i64 d.at_, .string d.what] wr.drew fun e w' => (∃ v, e = .returned v) ∧ IsL w.heap.size w' x (dadd (dall (l.take k)) d.code d.at_ d.what) ∧ Below w.heap.size wr.drew w') := Lib.hid (add_any w.heap.size x _ _ _ _ wr.drew hL.out hB.out.size hsz)
          have d0 : wr.drew.cell? (ad.add (k * 3)) = some (.int .i64 d.code) := c0
          have d1 : wr.drew.cell? ⟨(ad.add (k * 3)).block, (ad.add (k * 3)).off + 1, none⟩ = some (.int .i64 d.at_) := c1
          have d2 : wr.drew.cell? ⟨(ad.add (k * 3)).block, (ad.add (k * 3)).off + 2, none⟩ = some (.string d.what) := c2
          clear hcell hc hd hL hsz hv' hC hxb hadl
          go_wp2_with fail
          go_region_held3 (fun w' => w'.cell? (ad.add (k * 3)) = some (.int .i64 d.code) ∧ w'.cell? ⟨(ad.add (k * 3)).block, (ad.add (k * 3)).off + 1, none⟩ = some (.int .i64 d.at_) ∧ w'.cell? ⟨(ad.add (k * 3)).block, (ad.add (k * 3)).off + 2, none⟩ = some (.string d.what))
            (first | exact ⟨d0, d1, d2⟩ | exact HC.out _ ‹_› | go_keep)
            (first
              | (go_at_call 7; refine HAdd.out.mono ?_; rintro e w4 ⟨⟨v4, rfl⟩, hL4, hB4⟩))
          have HL4 : Hid (IsL w.heap.size w4 x (dall (l.take (k + 1)))) := Lib.hid (by rw [HT.out]; exact hL4)
          have HB4 : Hid (Below w.heap.size w w4) := Lib.hid (hB.out.drew.trans hB4)
          clear hL4 hB4 HC HT hB c0 c1 c2 d0 d1 d2
          go_wp2
          go_roundw
          case rel => first | exact ⟨k + 1, by omega, by go_num, HL4, HB4⟩ | ((repeat apply Exists.intro); exact ⟨⟨k + 1, by omega, by go_num, HL4, HB4⟩, rfl⟩)
          case measure => simp [intOf]; omega
        · obtain rfl : k = n := by omega
          obtain ⟨D, hD⟩ : ∃ D, dall (l.take k) = D := ⟨_, rfl⟩
          rw [hD] at hL
          have hm : D.length ≤ 100 := hL.out.2.1
          have HP : Hid (IsP w.heap.size wr (.pointer (some ⟨x, 0, none⟩)) D) := Lib.hid (.inr ⟨_, rfl, hL.out⟩)
          clear hD hL HD HS Hn
          go_wp2_with fail
          refine (all_any w.heap.size D _ wr HP.out).mono ?_
          rintro e w4 ⟨v, rfl, hr, hb⟩
          obtain ⟨va, vc, rfl⟩ := rd_slice hr
          have hcap : D.length ≤ vc := by
            rcases hr.2 with ⟨he, h0⟩ | ⟨g, cap, cur, he, _, _, hnc, _⟩
            · omega
            · have : vc = cap := by injection he
              omega
          have HR4 : Hid (DR w4 (.slice va D.length vc) D) := Lib.hid (dr_row hr)
          have HP4 := Lib.hid (HP.out.kept hb)
          have HB4 := Lib.hid (hB.out.trans (hb.mono hB.out.size))
          clear hr hb HP hB
          go_wp2_with fail
          refine (each_any _ w4).mono ?_
          rintro e w5 ⟨rfl, hw5⟩
          have hb5 : Below w4.heap.size w4 w5 := by rw [← hw5]; exact (Below.refl _ _).alloc (Nat.le_refl _) _
          have Hbx : Hid (w5.cell? ⟨w4.heap.size, 0, none⟩ = some (.pointer (some ⟨x, 0, none⟩))) := Lib.hid (by rw [← hw5]; exact (Blk.new w4 _ _).cell 0)
          have hlt5 : w4.heap.size < w5.heap.size := by rw [← hw5]; simp
          have HR5 := Lib.hid (HR4.out.below hb5 (Nat.le_refl _))
          have HP5 := Lib.hid (HP4.out.kept hb5)
          have HB5 := Lib.hid (HB4.out.trans (hb5.mono HB4.out.size))
          obtain ⟨Bs, hBs⟩ : ∃ Bs, w4.heap.size = Bs := ⟨_, rfl⟩
          rw [hBs] at Hbx hlt5 ⊢
          have hnil : ∀ wx, (binOp .eql 50 (.func (.func 53) #[] #[.pointer (some ⟨Bs, 0, none⟩)]) .nilFunc).run Tryd.prog wx = .ok (.bool false) wx := fun wx => run_eql_func_nil _ _ _ _ (by kernel_rfl) wx
          clear hb5 HR4 HP4 HB4 hw5 hBs
          obtain ⟨m, hmD⟩ : ∃ m, D.length = m := ⟨_, rfl⟩
          have HmD := Lib.hid hmD
          rw [hmD] at hm hcap HR5 ⊢
          clear hmD
          obtain ⟨K, hK⟩ : ∃ K, wantOf stop m = K := ⟨_, rfl⟩
          have hKm : K ≤ m := by rw [← hK]; unfold wantOf; split <;> omega
          have hsl := fun wx => cut_d va m K vc hKm hcap wx
          have HT : Hid (∀ wq, Below w5.heap.size w5 wq → Calls Tryd.prog 20 #[.func (.func 53) #[] #[.pointer (some ⟨Bs, 0, none⟩)], .int .i64 stop] wq fun e w' => ∃ v1 v2, e = .returned (.tuple #[v1, v2]) ∧ Told wq.heap.size D K v1 v2 wq w') := Lib.hid (fun wq hb => by
            refine (told_any Bs w.heap.size _ D stop wq (Nat.lt_of_lt_of_le hlt5 hb.size) ((hb.cell (p := ⟨Bs, 0, none⟩) hlt5).trans Hbx.out) (HP5.out.kept hb)).mono ?_
            intro e w' ht
            have := told_of (by rw [HmD.out]; exact hm) ht
            rw [HmD.out, hK] at this
            exact this)
          have HSm : Hid (∀ wq w', Below w5.heap.size w5 wq → ∀ v1 v2, Told wq.heap.size D K v1 v2 wq w' → Calls Tryd.prog 15 #[v2, .slice va K vc] w' fun e w2 => e = .returned (.bool true) ∧ Below w'.heap.size w' w2) := Lib.hid (fun wq w' hb v1 v2 ht => by
            have hR' : DR w' (.slice va m vc) D := (HR5.out.below hb (Nat.le_refl _)).below ht.bel (Nat.le_refl _)
            exact samed_any v2 (.slice va K vc) (D.take K) w' (by rw [List.length_take]; omega) ht.r2 (dr_cut hR' K (by rw [HmD.out]; exact hKm)))
          have hcase : (0 < stop ∧ stop < (m : Int) ∧ stop = (K : Int)) ∨ (0 < stop ∧ ¬ stop < (m : Int) ∧ K = m) ∨ (¬ 0 < stop ∧ K = m) := by
            unfold wantOf at hK
            split at hK <;> omega
          have hK100 : K ≤ 100 := by omega
          clear hK Hbx HR5 HP5 HmD hm hcap
          rcases hcase with ⟨hs0, hs1, hs2⟩ | ⟨hs0, hs1, rfl⟩ | ⟨hs0, rfl⟩
          · subst hs2
            go_wp2_with fail
            go_loopw [10] (fun r wr => ∃ q : Nat, q ≤ 2 ∧ r = .int .i64 (q : Int) ∧ Hid (Below w5.heap.size w5 wr)) (fun r _ => 2 - (intOf r).toNat)
            case atStart => exact ⟨0, by omega, rfl, Lib.hid (Below.refl _ _)⟩
            case round =>
              obtain ⟨q, hq, rfl, hbq⟩ := hrel
              by_cases hlt2 : q < 2
              · have hq2 : (q : Int) < 2 := by omega
                go_wp2_with fail
                refine (HT.out _ hbq.out).mono ?_
                rintro e w6 ⟨v1, v2, rfl, hT⟩
                have HSm6 := Lib.hid (HSm.out _ _ hbq.out v1 v2 hT)
                obtain ⟨a1, c1', rfl, hints⟩ := hT.r1
                have Hints := Lib.hid hints
                have HB6 := Lib.hid (hbq.out.trans (hT.bel.mono hbq.out.size))
                clear hints hT hbq
                go_wp2_with fail
                refine HSm6.out.mono ?_
                rintro e w7 ⟨rfl, hb7⟩
                have HB7 := Lib.hid (HB6.out.trans (hb7.mono HB6.out.size))
                have Hints7 : Hid (∀ i, i < K → ∃ ad, a1 = some ad ∧ w7.cell? (ad.add i) = some (.int .i64 (i : Int))) := Lib.hid (fun i hi => by
                  obtain ⟨ad, h1, h2, h3⟩ := Hints.out i hi
                  exact ⟨ad, h1, (hb7.cell (by rw [add_block]; exact h2)).trans h3⟩)
                clear hb7 HB6 HSm6 Hints
                go_wp2_with fail
                go_loop [13] (fun i => ∃ j : Nat, j ≤ K ∧ i = .int .i64 (j : Int)) (fun i => K - (intOf i).toNat)
                case atStart => exact ⟨0, by omega, rfl⟩
                case round =>
                  obtain ⟨j, hj, rfl⟩ := hrel
                  by_cases hjl : j < K
                  · obtain ⟨ad, rfl, hcj⟩ := Hints7.out j hjl
                    have hji : (j : Int) < (K : Int) := by omega
                    have hj0 : (0 : Int) ≤ (j : Int) := by omega
                    go_wp2_with fail
                    go_round
                    case rel => exact ⟨j + 1, by omega, by go_num⟩
                    case measure => simp [intOf]; omega
                  · have hji : ¬ (j : Int) < (K : Int) := by omega
                    go_wp2_with fail
                    go_roundw
                    case rel => first | exact ⟨q + 1, by omega, by go_num⟩ | exact ⟨q + 1, by omega, by go_num, HB7⟩
                    case measure => simp [intOf]; omega
              · obtain rfl : q = 2 := by omega
                have HB6 := Lib.hid (HB5.out.trans (hbq.out.mono HB5.out.size))
                clear hbq HB5 HT HSm
                go_wp2_with fail
                refine (add_none 11 1 ⟨#[120]⟩ _).mono ?_
                rintro e w8 ⟨⟨v8, rfl⟩, rfl⟩
                go_wp2_with fail
                refine (show Calls Tryd.prog 14 #[.pointer none] _ (fun e w' => e = .returned (.tuple #[.agg #[.int .i64 0, .int .i64 0, .string ⟨#[]⟩], .bool false]) ∧ Below _ _ w') from first_any 0 none [] _ (.inl ⟨rfl, rfl⟩)).mono ?_
                rintro e w8 ⟨rfl, hb8⟩
                have HB8 := Lib.hid (HB6.out.trans (hb8.mono HB6.out.size))
                clear hb8 HB6
                obtain ⟨W9, hW9⟩ : ∃ W9, w8.alloc (.cells #[.int .i64 0, .int .i64 0, .string ⟨#[]⟩] 40) = W9 := ⟨_, rfl⟩
                have r1 : Blk W9 w8.heap.size 40 #[.int .i64 0, .int .i64 0, .string ⟨#[]⟩] := by rw [← hW9]; exact Blk.new w8 _ _
                have g20 := r1.cell 0; have g21 := r1.cell 1; have g22 := r1.cell 2
                have g2f0 := r1.frozen 0; have g2f1 := r1.frozen 1; have g2f2 := r1.frozen 2
                simp only [List.getElem?_toArray, List.getElem?_cons_zero, List.getElem?_cons_succ] at g20 g21 g22
                obtain ⟨W5, hW5⟩ : ∃ W5, ((W9.setCell ⟨w8.heap.size, 0, none⟩ (.int .i64 0)).setCell ⟨w8.heap.size, 1, none⟩ (.int .i64 0)).setCell ⟨w8.heap.size, 2, none⟩ (.string ⟨#[]⟩) = W5 := ⟨_, rfl⟩
                have hb5 : Below w8.heap.size w8 W5 := by
                  rw [← hW5, ← hW9]
                  exact ((((Below.refl _ w8).alloc (Nat.le_refl _) _).setCell (p := ⟨w8.heap.size, 0, none⟩) (by simp) _).setCell (p := ⟨w8.heap.size, 1, none⟩) (by simp) _).setCell (p := ⟨w8.heap.size, 2, none⟩) (by simp) _
                have HB9 := Lib.hid (HB8.out.trans (hb5.mono HB8.out.size))
                clear hb5 HB8 r1
                go_wp2_with fail
                refine (each_any none _).mono ?_
                rintro e w10 ⟨rfl, hw10⟩
                clear g20 g21 g22 g2f0 g2f1 g2f2 hW5 hW9
                have hb10 : Below W5.heap.size W5 w10 := by rw [← hw10]; exact (Below.refl _ _).alloc (Nat.le_refl _) _
                have Hbx : Hid (w10.cell? ⟨W5.heap.size, 0, none⟩ = some (.pointer none)) := Lib.hid (by rw [← hw10]; exact (Blk.new W5 _ _).cell 0)
                have hlt10 : W5.heap.size < w10.heap.size := by rw [← hw10]; simp
                have HB10 := Lib.hid (HB9.out.trans (hb10.mono HB9.out.size))
                obtain ⟨Bn, hBn⟩ : ∃ Bn, W5.heap.size = Bn := ⟨_, rfl⟩
                rw [hBn] at Hbx hlt10 ⊢
                have hnil2 : ∀ wx, (binOp .eql 50 (.func (.func 53) #[] #[.pointer (some ⟨Bn, 0, none⟩)]) .nilFunc).run Tryd.prog wx = .ok (.bool false) wx := fun wx => run_eql_func_nil _ _ _ _ (by kernel_rfl) wx
                clear hb10 HB9 hw10 hBn
                go_wp2_with fail
                refine (told_any Bn 0 _ [] 0 w10 hlt10 Hbx.out (.inl ⟨rfl, rfl⟩)).mono ?_
                rintro e w11 ht
                obtain ⟨v1, v2, rfl, hT⟩ := told_of (by simp) ht
                obtain ⟨a2, c2', rfl, _⟩ := hT.r2
                have HB11 := Lib.hid (HB10.out.trans (hT.bel.mono HB10.out.size))
                clear ht hT HB10 Hbx
                go_wp2_with fail
                refine (len_any 0 [] _ w11 (.inl ⟨rfl, rfl⟩)).mono ?_
                rintro e w12 ⟨rfl, rfl⟩
                go_wp2_with fail
                refine (all_any 0 [] _ w11 (.inl ⟨rfl, rfl⟩)).mono ?_
                rintro e w12 ⟨v3, rfl, hr3, hb12⟩
                obtain ⟨a3, c3', rfl⟩ := rd_slice hr3
                have HB12 := Lib.hid (HB11.out.trans (hb12.mono HB11.out.size))
                clear hr3 hb12 HB11
                go_wp2_with fail
                go_ret
                exact ⟨rfl, HB12.out⟩
          · go_wp2_with fail
            go_loopw [10] (fun r wr => ∃ q : Nat, q ≤ 2 ∧ r = .int .i64 (q : Int) ∧ Hid (Below w5.heap.size w5 wr)) (fun r _ => 2 - (intOf r).toNat)
            case atStart => exact ⟨0, by omega, rfl, Lib.hid (Below.refl _ _)⟩
            case round =>
              obtain ⟨q, hq, rfl, hbq⟩ := hrel
              by_cases hlt2 : q < 2
              · have hq2 : (q : Int) < 2 := by omega
                go_wp2_with fail
                refine (HT.out _ hbq.out).mono ?_
                rintro e w6 ⟨v1, v2, rfl, hT⟩
                have HSm6 := Lib.hid (HSm.out _ _ hbq.out v1 v2 hT)
                obtain ⟨a1, c1', rfl, hints⟩ := hT.r1
                have Hints := Lib.hid hints
                have HB6 := Lib.hid (hbq.out.trans (hT.bel.mono hbq.out.size))
                clear hints hT hbq
                go_wp2_with fail
                refine HSm6.out.mono ?_
                rintro e w7 ⟨rfl, hb7⟩
                have HB7 := Lib.hid (HB6.out.trans (hb7.mono HB6.out.size))
                have Hints7 : Hid (∀ i, i < K → ∃ ad, a1 = some ad ∧ w7.cell? (ad.add i) = some (.int .i64 (i : Int))) := Lib.hid (fun i hi => by
                  obtain ⟨ad, h1, h2, h3⟩ := Hints.out i hi
                  exact ⟨ad, h1, (hb7.cell (by rw [add_block]; exact h2)).trans h3⟩)
                clear hb7 HB6 HSm6 Hints
                go_wp2_with fail
                go_loop [13] (fun i => ∃ j : Nat, j ≤ K ∧ i = .int .i64 (j : Int)) (fun i => K - (intOf i).toNat)
                case atStart => exact ⟨0, by omega, rfl⟩
                case round =>
                  obtain ⟨j, hj, rfl⟩ := hrel
                  by_cases hjl : j < K
                  · obtain ⟨ad, rfl, hcj⟩ := Hints7.out j hjl
                    have hji : (j : Int) < (K : Int) := by omega
                    have hj0 : (0 : Int) ≤ (j : Int) := by omega
                    go_wp2_with fail
                    go_round
                    case rel => exact ⟨j + 1, by omega, by go_num⟩
                    case measure => simp [intOf]; omega
                  · have hji : ¬ (j : Int) < (K : Int) := by omega
                    go_wp2_with fail
                    go_roundw
                    case rel => first | exact ⟨q + 1, by omega, by go_num⟩ | exact ⟨q + 1, by omega, by go_num, HB7⟩
                    case measure => simp [intOf]; omega
              · obtain rfl : q = 2 := by omega
                have HB6 := Lib.hid (HB5.out.trans (hbq.out.mono HB5.out.size))
                clear hbq HB5 HT HSm
                go_wp2_with fail
                refine (add_none 11 1 ⟨#[120]⟩ _).mono ?_
                rintro e w8 ⟨⟨v8, rfl⟩, rfl⟩
                go_wp2_with fail
                refine (show Calls Tryd.prog 14 #[.pointer none] _ (fun e w' => e = .returned (.tuple #[.agg #[.int .i64 0, .int .i64 0, .string ⟨#[]⟩], .bool false]) ∧ Below _ _ w') from first_any 0 none [] _ (.inl ⟨rfl, rfl⟩)).mono ?_
                rintro e w8 ⟨rfl, hb8⟩
                have HB8 := Lib.hid (HB6.out.trans (hb8.mono HB6.out.size))
                clear hb8 HB6
                obtain ⟨W9, hW9⟩ : ∃ W9, w8.alloc (.cells #[.int .i64 0, .int .i64 0, .string ⟨#[]⟩] 40) = W9 := ⟨_, rfl⟩
                have r1 : Blk W9 w8.heap.size 40 #[.int .i64 0, .int .i64 0, .string ⟨#[]⟩] := by rw [← hW9]; exact Blk.new w8 _ _
                have g20 := r1.cell 0; have g21 := r1.cell 1; have g22 := r1.cell 2
                have g2f0 := r1.frozen 0; have g2f1 := r1.frozen 1; have g2f2 := r1.frozen 2
                simp only [List.getElem?_toArray, List.getElem?_cons_zero, List.getElem?_cons_succ] at g20 g21 g22
                obtain ⟨W5, hW5⟩ : ∃ W5, ((W9.setCell ⟨w8.heap.size, 0, none⟩ (.int .i64 0)).setCell ⟨w8.heap.size, 1, none⟩ (.int .i64 0)).setCell ⟨w8.heap.size, 2, none⟩ (.string ⟨#[]⟩) = W5 := ⟨_, rfl⟩
                have hb5 : Below w8.heap.size w8 W5 := by
                  rw [← hW5, ← hW9]
                  exact ((((Below.refl _ w8).alloc (Nat.le_refl _) _).setCell (p := ⟨w8.heap.size, 0, none⟩) (by simp) _).setCell (p := ⟨w8.heap.size, 1, none⟩) (by simp) _).setCell (p := ⟨w8.heap.size, 2, none⟩) (by simp) _
                have HB9 := Lib.hid (HB8.out.trans (hb5.mono HB8.out.size))
                clear hb5 HB8 r1
                go_wp2_with fail
                refine (each_any none _).mono ?_
                rintro e w10 ⟨rfl, hw10⟩
                clear g20 g21 g22 g2f0 g2f1 g2f2 hW5 hW9
                have hb10 : Below W5.heap.size W5 w10 := by rw [← hw10]; exact (Below.refl _ _).alloc (Nat.le_refl _) _
                have Hbx : Hid (w10.cell? ⟨W5.heap.size, 0, none⟩ = some (.pointer none)) := Lib.hid (by rw [← hw10]; exact (Blk.new W5 _ _).cell 0)
                have hlt10 : W5.heap.size < w10.heap.size := by rw [← hw10]; simp
                have HB10 := Lib.hid (HB9.out.trans (hb10.mono HB9.out.size))
                obtain ⟨Bn, hBn⟩ : ∃ Bn, W5.heap.size = Bn := ⟨_, rfl⟩
                rw [hBn] at Hbx hlt10 ⊢
                have hnil2 : ∀ wx, (binOp .eql 50 (.func (.func 53) #[] #[.pointer (some ⟨Bn, 0, none⟩)]) .nilFunc).run Tryd.prog wx = .ok (.bool false) wx := fun wx => run_eql_func_nil _ _ _ _ (by kernel_rfl) wx
                clear hb10 HB9 hw10 hBn
                go_wp2_with fail
                refine (told_any Bn 0 _ [] 0 w10 hlt10 Hbx.out (.inl ⟨rfl, rfl⟩)).mono ?_
                rintro e w11 ht
                obtain ⟨v1, v2, rfl, hT⟩ := told_of (by simp) ht
                obtain ⟨a2, c2', rfl, _⟩ := hT.r2
                have HB11 := Lib.hid (HB10.out.trans (hT.bel.mono HB10.out.size))
                clear ht hT HB10 Hbx
                go_wp2_with fail
                refine (len_any 0 [] _ w11 (.inl ⟨rfl, rfl⟩)).mono ?_
                rintro e w12 ⟨rfl, rfl⟩
                go_wp2_with fail
                refine (all_any 0 [] _ w11 (.inl ⟨rfl, rfl⟩)).mono ?_
                rintro e w12 ⟨v3, rfl, hr3, hb12⟩
                obtain ⟨a3, c3', rfl⟩ := rd_slice hr3
                have HB12 := Lib.hid (HB11.out.trans (hb12.mono HB11.out.size))
                clear hr3 hb12 HB11
                go_wp2_with fail
                go_ret
                exact ⟨rfl, HB12.out⟩
          · go_wp2_with fail
            go_loopw [10] (fun r wr => ∃ q : Nat, q ≤ 2 ∧ r = .int .i64 (q : Int) ∧ Hid (Below w5.heap.size w5 wr)) (fun r _ => 2 - (intOf r).toNat)
            case atStart => exact ⟨0, by omega, rfl, Lib.hid (Below.refl _ _)⟩
            case round =>
              obtain ⟨q, hq, rfl, hbq⟩ := hrel
              by_cases hlt2 : q < 2
              · have hq2 : (q : Int) < 2 := by omega
                go_wp2_with fail
                refine (HT.out _ hbq.out).mono ?_
                rintro e w6 ⟨v1, v2, rfl, hT⟩
                have HSm6 := Lib.hid (HSm.out _ _ hbq.out v1 v2 hT)
                obtain ⟨a1, c1', rfl, hints⟩ := hT.r1
                have Hints := Lib.hid hints
                have HB6 := Lib.hid (hbq.out.trans (hT.bel.mono hbq.out.size))
                clear hints hT hbq
                go_wp2_with fail
                refine HSm6.out.mono ?_
                rintro e w7 ⟨rfl, hb7⟩
                have HB7 := Lib.hid (HB6.out.trans (hb7.mono HB6.out.size))
                have Hints7 : Hid (∀ i, i < K → ∃ ad, a1 = some ad ∧ w7.cell? (ad.add i) = some (.int .i64 (i : Int))) := Lib.hid (fun i hi => by
                  obtain ⟨ad, h1, h2, h3⟩ := Hints.out i hi
                  exact ⟨ad, h1, (hb7.cell (by rw [add_block]; exact h2)).trans h3⟩)
                clear hb7 HB6 HSm6 Hints
                go_wp2_with fail
                go_loop [13] (fun i => ∃ j : Nat, j ≤ K ∧ i = .int .i64 (j : Int)) (fun i => K - (intOf i).toNat)
                case atStart => exact ⟨0, by omega, rfl⟩
                case round =>
                  obtain ⟨j, hj, rfl⟩ := hrel
                  by_cases hjl : j < K
                  · obtain ⟨ad, rfl, hcj⟩ := Hints7.out j hjl
                    have hji : (j : Int) < (K : Int) := by omega
                    have hj0 : (0 : Int) ≤ (j : Int) := by omega
                    go_wp2_with fail
                    go_round
                    case rel => exact ⟨j + 1, by omega, by go_num⟩
                    case measure => simp [intOf]; omega
                  · have hji : ¬ (j : Int) < (K : Int) := by omega
                    go_wp2_with fail
                    go_roundw
                    case rel => first | exact ⟨q + 1, by omega, by go_num⟩ | exact ⟨q + 1, by omega, by go_num, HB7⟩
                    case measure => simp [intOf]; omega
              · obtain rfl : q = 2 := by omega
                have HB6 := Lib.hid (HB5.out.trans (hbq.out.mono HB5.out.size))
                clear hbq HB5 HT HSm
                go_wp2_with fail
                refine (add_none 11 1 ⟨#[120]⟩ _).mono ?_
                rintro e w8 ⟨⟨v8, rfl⟩, rfl⟩
                go_wp2_with fail
                refine (show Calls Tryd.prog 14 #[.pointer none] _ (fun e w' => e = .returned (.tuple #[.agg #[.int .i64 0, .int .i64 0, .string ⟨#[]⟩], .bool false]) ∧ Below _ _ w') from first_any 0 none [] _ (.inl ⟨rfl, rfl⟩)).mono ?_
                rintro e w8 ⟨rfl, hb8⟩
                have HB8 := Lib.hid (HB6.out.trans (hb8.mono HB6.out.size))
                clear hb8 HB6
                obtain ⟨W9, hW9⟩ : ∃ W9, w8.alloc (.cells #[.int .i64 0, .int .i64 0, .string ⟨#[]⟩] 40) = W9 := ⟨_, rfl⟩
                have r1 : Blk W9 w8.heap.size 40 #[.int .i64 0, .int .i64 0, .string ⟨#[]⟩] := by rw [← hW9]; exact Blk.new w8 _ _
                have g20 := r1.cell 0; have g21 := r1.cell 1; have g22 := r1.cell 2
                have g2f0 := r1.frozen 0; have g2f1 := r1.frozen 1; have g2f2 := r1.frozen 2
                simp only [List.getElem?_toArray, List.getElem?_cons_zero, List.getElem?_cons_succ] at g20 g21 g22
                obtain ⟨W5, hW5⟩ : ∃ W5, ((W9.setCell ⟨w8.heap.size, 0, none⟩ (.int .i64 0)).setCell ⟨w8.heap.size, 1, none⟩ (.int .i64 0)).setCell ⟨w8.heap.size, 2, none⟩ (.string ⟨#[]⟩) = W5 := ⟨_, rfl⟩
                have hb5 : Below w8.heap.size w8 W5 := by
                  rw [← hW5, ← hW9]
                  exact ((((Below.refl _ w8).alloc (Nat.le_refl _) _).setCell (p := ⟨w8.heap.size, 0, none⟩) (by simp) _).setCell (p := ⟨w8.heap.size, 1, none⟩) (by simp) _).setCell (p := ⟨w8.heap.size, 2, none⟩) (by simp) _
                have HB9 := Lib.hid (HB8.out.trans (hb5.mono HB8.out.size))
                clear hb5 HB8 r1
                go_wp2_with fail
                refine (each_any none _).mono ?_
                rintro e w10 ⟨rfl, hw10⟩
                clear g20 g21 g22 g2f0 g2f1 g2f2 hW5 hW9
                have hb10 : Below W5.heap.size W5 w10 := by rw [← hw10]; exact (Below.refl _ _).alloc (Nat.le_refl _) _
                have Hbx : Hid (w10.cell? ⟨W5.heap.size, 0, none⟩ = some (.pointer none)) := Lib.hid (by rw [← hw10]; exact (Blk.new W5 _ _).cell 0)
                have hlt10 : W5.heap.size < w10.heap.size := by rw [← hw10]; simp
                have HB10 := Lib.hid (HB9.out.trans (hb10.mono HB9.out.size))
                obtain ⟨Bn, hBn⟩ : ∃ Bn, W5.heap.size = Bn := ⟨_, rfl⟩
                rw [hBn] at Hbx hlt10 ⊢
                have hnil2 : ∀ wx, (binOp .eql 50 (.func (.func 53) #[] #[.pointer (some ⟨Bn, 0, none⟩)]) .nilFunc).run Tryd.prog wx = .ok (.bool false) wx := fun wx => run_eql_func_nil _ _ _ _ (by kernel_rfl) wx
                clear hb10 HB9 hw10 hBn
                go_wp2_with fail
                refine (told_any Bn 0 _ [] 0 w10 hlt10 Hbx.out (.inl ⟨rfl, rfl⟩)).mono ?_
                rintro e w11 ht
                obtain ⟨v1, v2, rfl, hT⟩ := told_of (by simp) ht
                obtain ⟨a2, c2', rfl, _⟩ := hT.r2
                have HB11 := Lib.hid (HB10.out.trans (hT.bel.mono HB10.out.size))
                clear ht hT HB10 Hbx
                go_wp2_with fail
                refine (len_any 0 [] _ w11 (.inl ⟨rfl, rfl⟩)).mono ?_
                rintro e w12 ⟨rfl, rfl⟩
                go_wp2_with fail
                refine (all_any 0 [] _ w11 (.inl ⟨rfl, rfl⟩)).mono ?_
                rintro e w12 ⟨v3, rfl, hr3, hb12⟩
                obtain ⟨a3, c3', rfl⟩ := rd_slice hr3
                have HB12 := Lib.hid (HB11.out.trans (hb12.mono HB11.out.size))
                clear hr3 hb12 HB11
                go_wp2_with fail
                go_ret
                exact ⟨rfl, HB12.out⟩
end Go.Proofs.YtinkdjplehaibaaDoor
