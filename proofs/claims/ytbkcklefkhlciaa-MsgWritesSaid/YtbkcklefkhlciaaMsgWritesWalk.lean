/-
  The walk of MsgWrites: for every input it returns true, and leaves what lay in memory as it was.
-/
import Derived.Test.YtbkcklefkhlciaaMwz
import Derived.Deep.CutRange
import Derived.Deep.CutBlock
namespace Go.Proofs.Ytbkcklefkhlciaa
open Go.RowKit
set_option linter.unusedVariables false
set_option maxRecDepth 1000000 in
set_option maxHeartbeats 8000000 in
theorem msgWrites.walk (a : Option Addr) (c : Nat) (l : List OpI) (w : World) (hl : IsOps w a l) (hok : ∀ o ∈ l, o.ok) (hn : l.length ≤ maxLen) :
    Calls Try.prog 3 #[.slice a l.length c] w fun e w' => e = .returned (.bool true) ∧ Below w.heap.size w w' := by
  have HA := Lib.hid (fun w => alive_any w)
  unfold maxLen at hn
  by_cases h1 : 40 < l.length
  · have h1i : (40 : Int) < (l.length : Int) := by omega
    clear hl hok
    go_enter Try.func3, Try.ntmps3
    go_wp2_with fail
    refine (HA.out _).mono ?_
    rintro e w1 ⟨rfl, hb⟩
    have Hb := Lib.hid hb
    clear hb
    go_wp2
    go_ret
    exact ⟨rfl, Hb.out⟩
  have h1i : ¬ (40 : Int) < (l.length : Int) := by omega
  have Hl := Lib.hid hl
  have Hok := Lib.hid hok
  obtain ⟨n, hn'⟩ : ∃ n, l.length = n := ⟨_, rfl⟩
  rw [hn'] at h1i ⊢
  have Hn := Lib.hid hn'
  have hn40 : n ≤ 40 := by omega
  clear hl hok hn h1 hn'
  go_enter Try.func3, Try.ntmps3
  go_wp2_with fail
  refine (HA.out _).mono ?_
  rintro e w1 ⟨rfl, hb⟩
  have H1 := Lib.hid hb
  clear hb HA h1i
  go_upto_block 0 with fail
  go_cut [3, 4, 5] from 35 to 89 (fun r i j wc => ∃ R : Int, r = .int .i64 R ∧ Hid (0 ≤ R → ocost l ≤ 30000) ∧ Hid (Below w.heap.size w wc))
  case first =>
    go_wp2_with fail
    go_loopw [3, 4] (fun r i wr => ∃ (k : Nat) (R : Int), k ≤ n ∧ i = .int .i64 (k : Int) ∧ r = .int .i64 R ∧ -1 ≤ R ∧ R ≤ 30000 ∧ Hid (Left R (ocost (l.take k))) ∧ Hid (Below w.heap.size w wr)) (fun _ i _ => n - (intOf i).toNat)
    case atStart => exact ⟨0, 30000, by omega, rfl, rfl, by omega, by omega, Lib.hid (fun _ => by simp [ocost]), H1⟩
    case round =>
      obtain ⟨k, R, hk, rfl, rfl, hR1, hR2, hleft, hb⟩ := hrel
      by_cases hlt : k < n
      · by_cases hR0 : 0 ≤ R
        · obtain ⟨o, ho⟩ : ∃ o, l[k]? = some o := ⟨_, List.getElem?_eq_getElem (by rw [Hn.out]; exact hlt)⟩
          have hoo := Hok.out o (List.mem_of_getElem? ho)
          obtain ⟨hlies, ad, rfl, hadl, hc6⟩ := c6_of (Hl.out.below hb.out) ho
          have Hct : Hid (ocost (l.take (k + 1)) = ocost (l.take k) + o.cost) := Lib.hid (ocost_take l k o ho)
          obtain ⟨nl, hnl⟩ : ∃ nl, o.l.length = nl := ⟨_, rfl⟩
          obtain ⟨np, hnp⟩ : ∃ np, o.p.length = np := ⟨_, rfl⟩
          obtain ⟨ns, hns⟩ : ∃ ns, o.s.length = ns := ⟨_, rfl⟩
          have hl47 := hoo.ll
          have hp47 := hoo.pl
          have hs47 := hoo.sl
          rw [hnl] at hl47; rw [hnp] at hp47; rw [hns] at hs47
          have c3 := hc6.2.2.2.1; have c4 := hc6.2.2.2.2.1; have c5 := hc6.2.2.2.2.2
          rw [hns] at c3; rw [hnl] at c4; rw [hnp] at c5
          have Hcost : Hid (o.cost = 20 + 10 * nl + 4 * np + tcost o.s) := Lib.hid (by unfold OpI.cost; rw [hnl, hnp])
          have Hns := Lib.hid hns
          have Hss := Lib.hid hoo.ss
          have Hts := Lib.hid hlies.s
          have hi0 : (0 : Int) ≤ (k : Int) := by omega
          have hi1 : (k : Int) < (n : Int) := by omega
          have HR : Hid (∀ b wq, wq.cell? ⟨b, 0, none⟩ = some (.int .i64 (IntKind.i64.wrap (20 + IntKind.i64.wrap (10 * (nl : Int))))) → wq.cell? ⟨b, 1, none⟩ = some (.int .i64 (IntKind.i64.wrap (4 * (np : Int)))) → Calls Try.prog 8 #[.int .i64 R, .slice (some ⟨b, 0, none⟩) 2 2] wq fun e w' => e = .returned (.int .i64 (rm2 R (20 + 10 * (nl : Int)) (4 * (np : Int)))) ∧ wq = w') := Lib.hid (fun b wq h0 h1 => room2_any R _ _ b wq hR0 (by omega) (by omega) (by omega) (by rw [h0, IntWalk.i64_in (10 * (nl : Int)) ⟨by omega, by omega⟩, IntWalk.i64_in _ ⟨by omega, by omega⟩]) (by rw [h1, IntWalk.i64_in _ ⟨by omega, by omega⟩]))
          have hrm := rm2_left (20 + 10 * nl) (4 * np) hleft.out hR0 hR2
          have e1 : ((20 + 10 * nl : Nat) : Int) = 20 + 10 * (nl : Int) := by push_cast; rfl
          have e2 : ((4 * np : Nat) : Int) = 4 * (np : Int) := by push_cast; rfl
          rw [e1, e2] at hrm
          obtain ⟨R1, hR1e⟩ : ∃ R1, rm2 R (20 + 10 * (nl : Int)) (4 * (np : Int)) = R1 := ⟨_, rfl⟩
          rw [hR1e] at hrm HR
          have hrmL := Lib.hid hrm.1
          have hR11 := hrm.2.1
          have hR12 := hrm.2.2
          clear hnl hnp hns hoo hlies hrm e1 e2 hR1e hleft ho
          go_wp2_with fail
          go_region_held3 (fun w' => w'.cell? ⟨(ad.add (k * 6)).block, (ad.add (k * 6)).off + 4, none⟩ = some (.slice o.la nl o.lc) ∧ w'.cell? ⟨(ad.add (k * 6)).block, (ad.add (k * 6)).off + 5, none⟩ = some (.slice o.pa np o.pc))
            (first | exact hS5 | go_keep)
            (first
              | (go_at_call 8; refine (HR.out _ _ (Blk.cell (blk_drew' (Blk.new _ _ _)) 0) (Blk.cell (blk_drew' (Blk.new _ _ _)) 1)).mono ?_; rintro e w3 ⟨rfl, rfl⟩))
          obtain ⟨W2, hW2⟩ : ∃ W2, (wr.alloc (.cells #[.int .i64 (IntKind.i64.wrap (20 + IntKind.i64.wrap (10 * (nl : Int)))), .int .i64 (IntKind.i64.wrap (4 * (np : Int)))] 3)).drew = W2 := ⟨_, rfl⟩
          rw [hW2]
          have hb2 : Below w.heap.size w W2 := by rw [← hW2]; exact (hb.out.alloc hb.out.size _).drew
          have hbr : Below wr.heap.size wr W2 := by rw [← hW2]; exact ((Below.refl _ wr).alloc (Nat.le_refl _) _).drew
          have Hb2 := Lib.hid hb2
          have H3 : Hid (∀ W', Below wr.heap.size wr W' → W'.cell? ⟨(ad.add (k * 6)).block, (ad.add (k * 6)).off + 3, none⟩ = some (.slice o.sa ns o.sc) ∧ TR W' o.sa o.s) := Lib.hid (fun W' hb' => ⟨(hb'.cell (p := ⟨(ad.add (k * 6)).block, (ad.add (k * 6)).off + 3, none⟩) (by rw [add_block]; exact hadl)).trans c3, Hts.out.below hb'⟩)
          have Hbr := Lib.hid hbr
          have HrL : Hid (Left R1 (ocost (l.take k) + (20 + 10 * nl) + 4 * np + tcost (o.s.take 0))) := Lib.hid (by have := hrmL.out; simpa [tcost] using this)
          clear hW2 hb2 hbr c3 c4 c5 hc6 hb Hts HR hrmL hl47 hp47
          go_wp2_with fail
          go_loopw [3, 5] (fun r i wq => ∃ (j : Nat) (Q : Int), j ≤ ns ∧ i = .int .i64 (j : Int) ∧ r = .int .i64 Q ∧ -1 ≤ Q ∧ Q ≤ 30000 ∧ Hid (Left Q (ocost (l.take k) + (20 + 10 * nl) + 4 * np + tcost (o.s.take j))) ∧ Hid (Below w.heap.size w wq) ∧ Hid (Below wr.heap.size wr wq)) (fun _ i _ => ns - (intOf i).toNat)
          case atStart => exact ⟨0, R1, by omega, rfl, rfl, hR11, hR12, HrL, Hb2, Hbr⟩
          case round =>
            obtain ⟨j, Q, hj, rfl, rfl, hQ1, hQ2, hQL, hqb, hqr⟩ := hrel
            clear HrL Hb2 Hbr hR11 hR12
            obtain ⟨c3, ht⟩ := H3.out _ hqr.out
            by_cases hjl : j < ns
            · by_cases hQ0 : 0 ≤ Q
              · obtain ⟨t, htj⟩ : ∃ t, o.s[j]? = some t := ⟨_, List.getElem?_eq_getElem (by rw [Hns.out]; exact hjl)⟩
                obtain ⟨sad, hsa, _, hct⟩ := ht j t htj
                rw [hsa] at c3
                have hts := Hss.out t (List.mem_of_getElem? htj)
                have Htc : Hid (tcost (o.s.take (j + 1)) = tcost (o.s.take j) + (20 + t.size)) := Lib.hid (tcost_take o.s j t htj)
                have hj0 : (0 : Int) ≤ (j : Int) := by omega
                have hj1 : (j : Int) < (ns : Int) := by omega
                have HR1 : Hid (∀ b wq, wq.cell? ⟨b, 0, none⟩ = some (.int .i64 (20 + (t.size : Int))) → Calls Try.prog 8 #[.int .i64 Q, .slice (some ⟨b, 0, none⟩) 1 1] wq fun e w' => e = .returned (.int .i64 (rm Q (20 + (t.size : Int)))) ∧ wq = w') := Lib.hid (fun b wq h0 => room_any Q _ b wq hQ0 (by omega) (by omega) (by omega) h0)
                have hrm := rm_left (20 + t.size) hQL.out hQ0 hQ2
                have e1 : ((20 + t.size : Nat) : Int) = 20 + (t.size : Int) := by push_cast; rfl
                rw [e1] at hrm
                obtain ⟨Q1, hQ1e⟩ : ∃ Q1, rm Q (20 + (t.size : Int)) = Q1 := ⟨_, rfl⟩
                rw [hQ1e] at hrm HR1
                have hrmL : Hid (Left Q1 (ocost (l.take k) + (20 + 10 * nl) + 4 * np + tcost (o.s.take (j + 1)))) := Lib.hid (by rw [Htc.out, ← Nat.add_assoc]; exact hrm.1)
                have hQ11 := hrm.2.1
                have hQ12 := hrm.2.2
                clear hrm e1 hQ1e hQL htj ht Htc
                go_wp2_with fail
                refine (HR1.out _ _ ((Blk.new _ _ _).cell 0)).mono ?_
                rintro e w3 ⟨rfl, rfl⟩
                have hqb' := Lib.hid (hqb.out.alloc hqb.out.size (.cells #[.int .i64 (20 + (t.size : Int))] 3))
                have hqr' := Lib.hid (hqr.out.alloc hqr.out.size (.cells #[.int .i64 (20 + (t.size : Int))] 3))
                clear hqb hqr HR1 hts hct c3
                go_wp2
                go_roundw
                case rel => first | exact ⟨j + 1, Q1, by omega, by go_num, rfl, hQ11, hQ12, hrmL, hqb', hqr'⟩ | ((repeat apply Exists.intro); exact ⟨⟨j + 1, Q1, by omega, by go_num, rfl, hQ11, hQ12, hrmL, hqb', hqr'⟩, rfl⟩)
                case measure => simp [intOf]; omega
              · have hQn : Q < 0 := by omega
                have hji : (j : Int) < (ns : Int) := by omega
                have hfin : Hid (Left Q (ocost (l.take (k + 1)))) := Lib.hid (fun h => absurd h hQ0)
                clear hQL ht
                go_wp2_with fail
                go_roundw
                case rel => first | exact ⟨k + 1, Q, by omega, by go_num, rfl, hQ1, hQ2, hfin, hqb⟩ | ((repeat apply Exists.intro); exact ⟨⟨k + 1, Q, by omega, by go_num, rfl, hQ1, hQ2, hfin, hqb⟩, rfl⟩)
                case measure => simp [intOf]; omega
            · obtain rfl : j = ns := by omega
              have hfin : Hid (Left Q (ocost (l.take (k + 1)))) := Lib.hid (by
                have h9 := hQL.out
                rw [List.take_of_length_le (l := o.s) (by rw [Hns.out]; exact Nat.le_refl _)] at h9
                rw [Hct.out, Hcost.out]
                have e9 : ocost (l.take k) + (20 + 10 * nl) + 4 * np + tcost o.s = ocost (l.take k) + (20 + 10 * nl + 4 * np + tcost o.s) := by omega
                rw [← e9]; exact h9)
              clear hQL ht
              go_wp2_with fail
              go_roundw
              case rel => first | exact ⟨k + 1, Q, by omega, by go_num, rfl, hQ1, hQ2, hfin, hqb⟩ | ((repeat apply Exists.intro); exact ⟨⟨k + 1, Q, by omega, by go_num, rfl, hQ1, hQ2, hfin, hqb⟩, rfl⟩)
              case measure => simp [intOf]; omega
        · have hRn : R < 0 := by omega
          have hki : (k : Int) < (n : Int) := by omega
          go_wp2_with fail
          go_meet
          exact ⟨R, rfl, Lib.hid (fun h => by omega), hb⟩
      · obtain rfl : k = n := by omega
        have Htot : Hid (0 ≤ R → ocost l ≤ 30000) := Lib.hid (fun hR0 => by
          have h9 := hleft.out hR0
          rw [List.take_of_length_le (by rw [Hn.out]; exact Nat.le_refl _)] at h9
          omega)
        clear hleft
        go_wp2_with fail
        go_meet
        exact ⟨R, rfl, Htot, hb⟩
  case rest =>
    obtain ⟨R, rfl, Htot0, H2⟩ := hcut
    clear H1
    by_cases hRn : R < 0
    · go_wp2
      go_ret
      exact ⟨rfl, H2.out⟩
    · have Htot : Hid (ocost l ≤ 30000) := Lib.hid (Htot0.out (by omega))
      clear Htot0
      go_wp2_with fail
      obtain ⟨m, hm⟩ : ∃ m, wc.heap.size = m := ⟨_, rfl⟩
      refine (new_at wc m hm).mono ?_
      rintro e w3 ⟨rfl, hm3, hb3⟩
      have hle : w.heap.size ≤ m := by rw [← hm]; exact H2.out.size
      have S0 : Hid (St m m w3 (some [])) := Lib.hid hm3
      have H3 : Hid (Below w.heap.size w w3) := Lib.hid (H2.out.trans (hb3.mono hle))
      have hsz3 : m ≤ w3.heap.size := by have := IsMsg.lt hm3; omega
      clear hm3 hb3 hm H2 hRn
      go_wp2_with fail
      go_loopw [7, 8, 9] (fun wt bd i wr => ∃ (q : Nat) (st : Sta) (T : ByteArray), q ≤ n ∧ i = .int .i64 (q : Int) ∧ wt = .string T ∧ bd = .int .i64 (badOf st) ∧ Hid (WantIs st T) ∧ Hid (St m m wr st) ∧ Hid (Sz (ocost (l.take q)) st) ∧ Hid (Below w.heap.size w wr) ∧ m ≤ wr.heap.size) (fun _ _ i _ => n - (intOf i).toNat)
      case atStart => exact ⟨0, some [], ⟨#[]⟩, by omega, rfl, rfl, rfl, Lib.hid (fun ps e => by cases e; rfl), S0, Lib.hid (fun ps e => by cases e; exact ⟨by simp [ocost, cat]; decide, by simp, fun q hq => by simp at hq⟩), H3, hsz3⟩
      case round =>
        obtain ⟨q, st, T, hq, rfl, rfl, rfl, hW, hS, hZ, hb, hmz⟩ := hrel
        clear S0 H3 hsz3
        by_cases hlt : q < n
        · obtain ⟨o, ho⟩ : ∃ o, l[q]? = some o := ⟨_, List.getElem?_eq_getElem (by rw [Hn.out]; exact hlt)⟩
          have hoo := Hok.out o (List.mem_of_getElem? ho)
          obtain ⟨hlies, ad, rfl, hadl, c0, c1, c2, c3, c4, c5⟩ := c6_of (Hl.out.below hb.out) ho
          have Hct : Hid (ocost (l.take (q + 1)) = ocost (l.take q) + o.cost) := Lib.hid (ocost_take l q o ho)
          have hcost : o.cost ≤ 30000 := by have h1 := ocost_le l (q + 1); have h2 := Htot.out; have h3 := Hct.out; omega
          have hcur : ocost (l.take q) ≤ 30000 := by have h1 := ocost_le l q; have h2 := Htot.out; omega
          have Hoo := Lib.hid hoo
          have Hcost := Lib.hid hcost
          have Hcur := Lib.hid hcur
          have Hlies := Lib.hid hlies
          have Hlw := Lib.hid (c6_of Hl.out ho).1
          have hi0 : (0 : Int) ≤ (q : Int) := by omega
          have hi1 : (q : Int) < (n : Int) := by omega
          obtain ⟨nl, hnl⟩ : ∃ nl, o.l.length = nl := ⟨_, rfl⟩
          obtain ⟨np, hnp⟩ : ∃ np, o.p.length = np := ⟨_, rfl⟩
          obtain ⟨ns, hns⟩ : ∃ ns, o.s.length = ns := ⟨_, rfl⟩
          have hbound : nl ≤ 3000 ∧ np ≤ 7500 ∧ ns ≤ 1500 := by
            have e1 : o.cost = 20 + 10 * nl + 4 * np + tcost o.s := by unfold OpI.cost; rw [hnl, hnp]
            have e2 := tcost_len o.s
            rw [hns] at e2
            omega
          have hnl3 := hbound.1
          have hnp3 := hbound.2.1
          have hns3 := hbound.2.2
          rw [hns] at c3; rw [hnl] at c4; rw [hnp] at c5
          have Hnl := Lib.hid hnl; have Hnp := Lib.hid hnp; have Hns := Lib.hid hns
          clear hnl hnp hns hoo hcost hcur hlies ho hbound
          go_upto_block 6 with fail
          have hXA : BoxO (wr.alloc (.cells #[.int .i64 o.kind, .int .i64 o.num, .int .u64 (o.v : Int), .slice o.sa ns o.sc, .slice o.la nl o.lc, .slice o.pa np o.pc] 30)) wr.heap.size o := by
            have h1 := Blk.new wr 30 #[.int .i64 o.kind, .int .i64 o.num, .int .u64 (o.v : Int), .slice o.sa ns o.sc, .slice o.la nl o.lc, .slice o.pa np o.pc]
            unfold BoxO
            rw [Hns.out, Hnl.out, Hnp.out]
            exact h1
          obtain ⟨WA, hWA⟩ : ∃ WA, wr.alloc (.cells #[.int .i64 o.kind, .int .i64 o.num, .int .u64 (o.v : Int), .slice o.sa ns o.sc, .slice o.la nl o.lc, .slice o.pa np o.pc] 30) = WA := ⟨_, rfl⟩
          obtain ⟨x, hx⟩ : ∃ x, wr.heap.size = x := ⟨_, rfl⟩
          have hbA : Below wr.heap.size wr WA := by rw [← hWA]; exact (Below.refl _ _).alloc (Nat.le_refl _) _
          have XA : Hid (BoxO WA x o) := Lib.hid (by rw [← hWA, ← hx]; exact hXA)
          have SA : Hid (St m m WA st) := Lib.hid (hS.out.below hbA)
          have AwX : Hid (Aw m WA x) := Lib.hid (aw_fresh hS.out (by omega) hbA)
          have BA : Hid (Below w.heap.size w WA) := Lib.hid (hb.out.trans (hbA.mono hb.out.size))
          have LA_ : Hid (o.lies WA) := Lib.hid (Hlies.out.below hbA)
          have hmA : m ≤ WA.heap.size := Nat.le_trans hmz hbA.size
          have hxm : m ≤ x := by omega
          have hxA : x < WA.heap.size := XA.out.lt
          have HPs : Hid (Fit st) := Lib.hid (hZ.out.fit (by have := Hcur.out; omega))
          rw [hWA, hx]
          clear hXA hWA hbA hb hS Hlies hx c0 c1 c2 c3 c4 c5 hadl
          go_cut [11, 12, 13, 14, 15, 16, 17, 18, 19, 20, 21] from 93 to 300 (fun y fs wd s14 s15 s16 s17 s18 s19 s20 s21 wc => y = .pointer (some ⟨m, 0, none⟩) ∧ wd = .bool o.wide ∧ Hid (MeetIs m w wc o st fs))
          case first =>
            clear Htot Hok Hl Hct
            by_cases hk1 : o.kind = 1
            · refine wr_k1 _ m x w WA o st (ocost (l.take q)) nl np ns hle hmA hxm hxA hnl3 hnp3 hns3 Hnl Hnp Hns Hoo Hcost Hcur hZ Hlw XA SA AwX BA LA_ HPs hk1 _ _ _ _ _ _ _ _ _ _ _ _ _ _ _ _ _ _ _ _ _ _ _ _ _ _ _ _ _ _ _ _ _ _ _ _ _ _ _ _ _ _ _ _ _ _ _ _ _ _ _ _ _ _ _ _ _ _ _ _ _ _ _ _ _ _ _ _ _ _ _ _ _ _ _ _ _ _ _ _ _ _ _ _ _ _ _ _ _ _ _ _ _ _ _ _ _ _ _ _ _ _ _ _ _ _ _ _ _ _ _ _ _ _ _ _ _ _ _ _ _ _ _ _ _ _ _ _ _ _ _ _ _ _ _ _ _ _ _ _ _ _ _ _ _ _ _ _ _ _ _ _ _ _ _ _ _ _ _ _ _ _ _ _ _ _ _ _ _ _ _ _ _ _ _ _ _ _ _ _ _ _ _ _ _ _ _ _ _ _ _ _ _ _ _ _ _ _ _ _ _ _ _ _ _ _ _ _ _ _ _ _ _ _ _ _ _ _ _ _ _ _ _ _ _ _ _ _ _ _ _ _ _ _ _ _ _ _ _ _ _ _ _ _ _ _ _ _ _ _ _ _ _ _ _ _ _ _ _ _ _ _ _ _ _ _ _ _ _ _ _ _ _ _ _ _ _ _ _ _ _ _ _ _ _ _ _ _ _ _ _ _ _ _ _ ?_
              intro fs v14 v15 v16 v17 v18 v19 v20 v21 v104 v105 v106 v107 v108 v109 v110 v111 v112 v113 v114 v115 v116 v117 v118 v119 v120 v121 v122 v123 v124 v125 v126 v127 v128 v129 v130 v131 v132 v133 v134 v135 v136 v137 v138 v139 v140 v141 v142 v143 v144 v145 v146 v147 v148 v149 v150 v151 v152 v153 v154 v155 v156 v157 v158 v159 v160 v161 v162 v163 v164 v165 v166 v167 v168 v169 v170 v171 v172 v173 v174 v175 v176 v177 v178 v179 v180 v181 v182 v183 v184 v185 v186 v187 v188 v189 v190 v191 v192 v193 v194 v195 v196 v197 v198 v199 v200 v201 v202 v203 v204 v205 v206 v207 v208 v209 v210 v211 v212 v213 v214 v215 v216 v217 v218 v219 v220 v221 v222 v223 v224 v225 v226 v227 v228 v229 v230 v231 v232 v233 v234 v235 v236 v237 v238 v239 v240 v241 v242 v243 W' HM
              dsimp only
              refine (‹∀ (a : Act) (w : World), Met _ a w → _›) _ _ ?_
              go_meet
              case rel => exact ⟨rfl, rfl, HM⟩
            · by_cases hk2 : o.kind = 2
              · refine wr_k2 _ m x w WA o st (ocost (l.take q)) nl np ns hle hmA hxm hxA hnl3 hnp3 hns3 Hnl Hnp Hns Hoo Hcost Hcur hZ Hlw XA SA AwX BA LA_ HPs hk1 hk2 _ _ _ _ _ _ _ _ _ _ _ _ _ _ _ _ _ _ _ _ _ _ _ _ _ _ _ _ _ _ _ _ _ _ _ _ _ _ _ _ _ _ _ _ _ _ _ _ _ _ _ _ _ _ _ _ _ _ _ _ _ _ _ _ _ _ _ _ _ _ _ _ _ _ _ _ _ _ _ _ _ _ _ _ _ _ _ _ _ _ _ _ _ _ _ _ _ _ _ _ _ _ _ _ _ _ _ _ _ _ _ _ _ _ _ _ _ _ _ _ _ _ _ _ _ _ _ _ _ _ _ _ _ _ _ _ _ _ _ _ _ _ _ _ _ _ _ _ _ _ _ _ _ _ _ _ _ _ _ _ _ _ _ _ _ _ _ _ _ _ _ _ _ _ _ _ _ _ _ _ _ _ _ _ _ _ _ _ _ _ _ _ _ _ _ _ _ _ _ _ _ _ _ _ _ _ _ _ _ _ _ _ _ _ _ _ _ _ _ _ _ _ _ _ _ _ _ _ _ _ _ _ _ _ _ _ _ _ _ _ _ _ _ _ _ _ _ _ _ _ _ _ _ _ _ _ _ _ _ _ _ _ _ _ _ _ _ _ _ _ _ _ _ _ _ _ _ _ _ _ _ _ _ _ _ _ _ _ _ _ _ _ _ _ _ ?_
                intro fs v14 v15 v16 v17 v18 v19 v20 v21 v104 v105 v106 v107 v108 v109 v110 v111 v112 v113 v114 v115 v116 v117 v118 v119 v120 v121 v122 v123 v124 v125 v126 v127 v128 v129 v130 v131 v132 v133 v134 v135 v136 v137 v138 v139 v140 v141 v142 v143 v144 v145 v146 v147 v148 v149 v150 v151 v152 v153 v154 v155 v156 v157 v158 v159 v160 v161 v162 v163 v164 v165 v166 v167 v168 v169 v170 v171 v172 v173 v174 v175 v176 v177 v178 v179 v180 v181 v182 v183 v184 v185 v186 v187 v188 v189 v190 v191 v192 v193 v194 v195 v196 v197 v198 v199 v200 v201 v202 v203 v204 v205 v206 v207 v208 v209 v210 v211 v212 v213 v214 v215 v216 v217 v218 v219 v220 v221 v222 v223 v224 v225 v226 v227 v228 v229 v230 v231 v232 v233 v234 v235 v236 v237 v238 v239 v240 v241 v242 v243 W' HM
                dsimp only
                refine (‹∀ (a : Act) (w : World), Met _ a w → _›) _ _ ?_
                go_meet
                case rel => exact ⟨rfl, rfl, HM⟩
              · by_cases hk3 : o.kind = 3
                · refine wr_k3 _ m x w WA o st (ocost (l.take q)) nl np ns hle hmA hxm hxA hnl3 hnp3 hns3 Hnl Hnp Hns Hoo Hcost Hcur hZ Hlw XA SA AwX BA LA_ HPs hk1 hk2 hk3 _ _ _ _ _ _ _ _ _ _ _ _ _ _ _ _ _ _ _ _ _ _ _ _ _ _ _ _ _ _ _ _ _ _ _ _ _ _ _ _ _ _ _ _ _ _ _ _ _ _ _ _ _ _ _ _ _ _ _ _ _ _ _ _ _ _ _ _ _ _ _ _ _ _ _ _ _ _ _ _ _ _ _ _ _ _ _ _ _ _ _ _ _ _ _ _ _ _ _ _ _ _ _ _ _ _ _ _ _ _ _ _ _ _ _ _ _ _ _ _ _ _ _ _ _ _ _ _ _ _ _ _ _ _ _ _ _ _ _ _ _ _ _ _ _ _ _ _ _ _ _ _ _ _ _ _ _ _ _ _ _ _ _ _ _ _ _ _ _ _ _ _ _ _ _ _ _ _ _ _ _ _ _ _ _ _ _ _ _ _ _ _ _ _ _ _ _ _ _ _ _ _ _ _ _ _ _ _ _ _ _ _ _ _ _ _ _ _ _ _ _ _ _ _ _ _ _ _ _ _ _ _ _ _ _ _ _ _ _ _ _ _ _ _ _ _ _ _ _ _ _ _ _ _ _ _ _ _ _ _ _ _ _ _ _ _ _ _ _ _ _ _ _ _ _ _ _ _ _ _ _ _ _ _ _ _ _ _ _ _ _ _ _ _ _ ?_
                  intro fs v14 v15 v16 v17 v18 v19 v20 v21 v104 v105 v106 v107 v108 v109 v110 v111 v112 v113 v114 v115 v116 v117 v118 v119 v120 v121 v122 v123 v124 v125 v126 v127 v128 v129 v130 v131 v132 v133 v134 v135 v136 v137 v138 v139 v140 v141 v142 v143 v144 v145 v146 v147 v148 v149 v150 v151 v152 v153 v154 v155 v156 v157 v158 v159 v160 v161 v162 v163 v164 v165 v166 v167 v168 v169 v170 v171 v172 v173 v174 v175 v176 v177 v178 v179 v180 v181 v182 v183 v184 v185 v186 v187 v188 v189 v190 v191 v192 v193 v194 v195 v196 v197 v198 v199 v200 v201 v202 v203 v204 v205 v206 v207 v208 v209 v210 v211 v212 v213 v214 v215 v216 v217 v218 v219 v220 v221 v222 v223 v224 v225 v226 v227 v228 v229 v230 v231 v232 v233 v234 v235 v236 v237 v238 v239 v240 v241 v242 v243 W' HM
                  dsimp only
                  refine (‹∀ (a : Act) (w : World), Met _ a w → _›) _ _ ?_
                  go_meet
                  case rel => exact ⟨rfl, rfl, HM⟩
                · refine wr_k4 _ m x w WA o st (ocost (l.take q)) nl np ns hle hmA hxm hxA hnl3 hnp3 hns3 Hnl Hnp Hns Hoo Hcost Hcur hZ Hlw XA SA AwX BA LA_ HPs hk1 hk2 hk3 _ _ _ _ _ _ _ _ _ _ _ _ _ _ _ _ _ _ _ _ _ _ _ _ _ _ _ _ _ _ _ _ _ _ _ _ _ _ _ _ _ _ _ _ _ _ _ _ _ _ _ _ _ _ _ _ _ _ _ _ _ _ _ _ _ _ _ _ _ _ _ _ _ _ _ _ _ _ _ _ _ _ _ _ _ _ _ _ _ _ _ _ _ _ _ _ _ _ _ _ _ _ _ _ _ _ _ _ _ _ _ _ _ _ _ _ _ _ _ _ _ _ _ _ _ _ _ _ _ _ _ _ _ _ _ _ _ _ _ _ _ _ _ _ _ _ _ _ _ _ _ _ _ _ _ _ _ _ _ _ _ _ _ _ _ _ _ _ _ _ _ _ _ _ _ _ _ _ _ _ _ _ _ _ _ _ _ _ _ _ _ _ _ _ _ _ _ _ _ _ _ _ _ _ _ _ _ _ _ _ _ _ _ _ _ _ _ _ _ _ _ _ _ _ _ _ _ _ _ _ _ _ _ _ _ _ _ _ _ _ _ _ _ _ _ _ _ _ _ _ _ _ _ _ _ _ _ _ _ _ _ _ _ _ _ _ _ _ _ _ _ _ _ _ _ _ _ _ _ _ _ _ _ _ _ _ _ _ _ _ _ _ _ _ _ ?_
                  intro fs v14 v15 v16 v17 v18 v19 v20 v21 v104 v105 v106 v107 v108 v109 v110 v111 v112 v113 v114 v115 v116 v117 v118 v119 v120 v121 v122 v123 v124 v125 v126 v127 v128 v129 v130 v131 v132 v133 v134 v135 v136 v137 v138 v139 v140 v141 v142 v143 v144 v145 v146 v147 v148 v149 v150 v151 v152 v153 v154 v155 v156 v157 v158 v159 v160 v161 v162 v163 v164 v165 v166 v167 v168 v169 v170 v171 v172 v173 v174 v175 v176 v177 v178 v179 v180 v181 v182 v183 v184 v185 v186 v187 v188 v189 v190 v191 v192 v193 v194 v195 v196 v197 v198 v199 v200 v201 v202 v203 v204 v205 v206 v207 v208 v209 v210 v211 v212 v213 v214 v215 v216 v217 v218 v219 v220 v221 v222 v223 v224 v225 v226 v227 v228 v229 v230 v231 v232 v233 v234 v235 v236 v237 v238 v239 v240 v241 v242 v243 W' HM
                  dsimp only
                  refine (‹∀ (a : Act) (w : World), Met _ a w → _›) _ _ ?_
                  go_meet
                  case rel => exact ⟨rfl, rfl, HM⟩
          case rest =>
            obtain ⟨rfl, rfl, HM⟩ := hcut
            obtain ⟨va, vc, hfs, hrow⟩ := HM.out.row
            have hstt := HM.out.st
            have hbel := HM.out.b
            have hmc := HM.out.h
            subst hfs
            obtain ⟨nf, hnf⟩ : ∃ nf, o.fields.length = nf := ⟨_, rfl⟩
            rw [hnf]
            have HROW := Lib.hid hrow
            have HSt := Lib.hid hstt
            have HBc := Lib.hid hbel
            have Hnf := Lib.hid hnf
            clear hrow hstt hbel hnf HM XA SA AwX BA LA_ HPs Hlw Hnl Hnp Hns
            refine (‹∀ (a : Act) (w : World), Code.wp Try.prog wrTail _ a w → _›) _ _ ?_
            refine wr_tail _ o m nf (ocost (l.take q)) o.wide (Lib.hid rfl) va vc w _ st T hW HROW HSt HBc hmc Hnf Hoo Hcost Hcur hZ _ _ _ _ _ _ _ _ _ _ _ _ _ _ _ _ _ _ _ _ _ _ _ _ _ _ _ _ _ _ _ _ _ _ _ _ _ _ _ _ _ _ _ _ _ _ _ _ _ _ _ _ _ _ _ _ _ _ _ _ _ _ _ _ _ _ _ _ _ _ _ _ _ _ _ _ _ _ _ _ _ _ _ _ _ _ _ _ _ _ _ _ _ _ _ _ _ _ _ _ _ _ _ _ _ _ _ _ _ _ _ _ _ _ _ _ _ _ _ _ _ _ _ _ _ _ _ _ _ _ _ _ _ _ _ _ _ _ _ _ _ _ _ _ _ _ _ _ _ _ _ _ _ _ _ _ _ _ _ _ _ _ _ _ _ _ _ _ _ _ _ _ _ _ _ _ _ _ _ _ _ _ _ _ _ _ _ _ _ _ _ _ _ _ _ _ _ _ _ _ _ _ _ _ _ _ _ _ _ _ _ _ _ _ _ _ _ _ _ _ _ _ _ _ _ _ _ _ _ _ _ _ _ _ _ _ _ _ _ _ _ _ _ _ _ _ _ _ _ _ _ _ _ _ _ _ _ _ _ _ _ _ _ _ _ _ _ _ _ _ _ _ _ _ _ _ _ _ _ _ _ _ _ _ _ _ _ _ _ _ _ _ _ _ _ ?_
            intro T' bd v22 v23 v24 v25 v26 v244 v245 v246 v247 v248 v249 v250 v251 v252 v253 v254 v255 v256 v257 v258 v259 v260 v261 v262 v263 v264 v265 v266 v267 v268 v269 v270 v271 v272 v273 v274 v275 v276 v277 v278 v279 v280 v281 v282 v283 v284 v285 v286 v287 v288 v289 v290 v291 v292 v293 v294 v295 v296 v297 v298 v299 v300 W' HH
            obtain ⟨hbd, hW2, hS2, hB2⟩ := HH.out
            subst hbd
            have HW2 := Lib.hid hW2
            have HS2 := Lib.hid hS2
            have HB2 := Lib.hid hB2
            have HZ2 : Hid (Sz (ocost (l.take (q + 1))) (o.next st)) := Lib.hid (by rw [Hct.out]; exact o.next_sz Hoo.out Hcost.out hZ.out)
            have hm2 : m ≤ W'.heap.size := Nat.le_of_lt (show m < W'.heap.size from World.block_lt_of_cell? W' _ hS2.made)
            clear hW2 hS2 hB2 HH HROW HSt HBc hW hZ
            dsimp only
            go_wp2_with fail
            go_roundw
            case rel => first | exact ⟨q + 1, o.next st, T', by omega, by go_num, rfl, rfl, HW2, HS2, HZ2, HB2, hm2⟩ | ((repeat apply Exists.intro); exact ⟨⟨q + 1, o.next st, T', by omega, by go_num, rfl, rfl, HW2, HS2, HZ2, HB2, hm2⟩, rfl⟩)
            case measure => simp [intOf]; omega
        · obtain rfl : q = n := by omega
          go_wp2
          go_ret
          exact ⟨rfl, hb.out⟩
end Go.Proofs.Ytbkcklefkhlciaa
