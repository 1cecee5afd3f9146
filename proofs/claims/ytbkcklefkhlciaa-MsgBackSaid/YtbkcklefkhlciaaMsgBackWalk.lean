/-
  The walk of MsgBack: for every input it returns true, and leaves what lay in memory as it was.
-/
import Derived.Test.YtbkcklefkhlciaaMbackB
namespace Go.Proofs.Ytbkcklefkhlciaa
open Go.RowKit
set_option linter.unusedVariables false
set_option maxRecDepth 100000 in
set_option maxHeartbeats 4000000 in
theorem msgBack.walk (a0 a1 a2 : Option Addr) (c0 c1 c2 : Nat) (v : List Int) (p : List Nat) (s : List ByteArray) (z : Int) (w : World) (hv : IR w a0 v) (hv1 : ∀ z ∈ v, (Lit.int .i64 z).wf = true) (hv2 : v.length ≤ maxLen) (hp : UR w a1 p) (hp2 : p.length ≤ maxLen)
    (hs : TR w a2 s) (hs1 : ∀ t ∈ s, t.size ≤ maxLen) (hs2 : s.length ≤ maxLen) (hz : (Lit.int .u64 z).wf = true) :
    Calls Try.prog 5 #[.slice a0 v.length c0, .slice a1 p.length c1, .slice a2 s.length c2, .int .u64 z] w fun e w' => e = .returned (.bool true) ∧ Below w.heap.size w w' := by
  have hzu := wf_u64 hz
  obtain ⟨u, rfl⟩ : ∃ u : Nat, z = (u : Int) := ⟨z.toNat, by omega⟩
  have HA := Lib.hid (fun w => alive_any w)
  unfold maxLen at hv2 hp2
  by_cases h1 : 60 < v.length
  · have h1i : (60 : Int) < (v.length : Int) := by omega
    clear hv hp hs hs1 hv1 hzu hz
    go_enter Try.func5, Try.ntmps5
    go_wp2_with fail
    refine (HA.out _).mono ?_
    rintro e w1 ⟨rfl, hb⟩
    have Hb := Lib.hid hb
    clear hb
    go_wp2
    go_ret
    exact ⟨rfl, Hb.out⟩
  have h1i : ¬ (60 : Int) < (v.length : Int) := by omega
  by_cases h2 : 60 < p.length
  · have h2i : (60 : Int) < (p.length : Int) := by omega
    clear hv hp hs hs1 hv1 hzu hz
    go_enter Try.func5, Try.ntmps5
    go_wp2_with fail
    refine (HA.out _).mono ?_
    rintro e w1 ⟨rfl, hb⟩
    have Hb := Lib.hid hb
    clear hb
    go_wp2
    go_ret
    exact ⟨rfl, Hb.out⟩
  have h2i : ¬ (60 : Int) < (p.length : Int) := by omega
  have HS := Lib.hid (short_any 20 2000 a2 c2 s w (by omega) (by omega) (by omega) hs hs2 hs1)
  have Hv := Lib.hid hv; have Hp := Lib.hid hp; have Hs := Lib.hid hs
  have Hr : Hid (∀ z ∈ v, InR z) := Lib.hid (fun z hz => wf_i64 (hv1 z hz))
  have Hu := Lib.hid hzu
  obtain ⟨nv, hnv⟩ : ∃ nv, v.length = nv := ⟨_, rfl⟩
  obtain ⟨np, hnp⟩ : ∃ np, p.length = np := ⟨_, rfl⟩
  obtain ⟨ns, hns⟩ : ∃ ns, s.length = ns := ⟨_, rfl⟩
  rw [hns] at HS
  rw [hnv] at h1i
  rw [hnp] at h2i
  rw [hnv, hnp, hns]
  have Hnv := Lib.hid hnv; have Hnp := Lib.hid hnp; have Hns := Lib.hid hns
  have hnp60 : np ≤ 60 := by omega
  have hnv60 : nv ≤ 60 := by omega
  clear hv hp hs hs1 hv1 hzu hz hv2 hp2 hs2 h1 h2 hnv hnp hns
  go_enter Try.func5, Try.ntmps5
  go_wp2_with fail
  refine HS.out.mono ?_
  rintro e w1 ⟨⟨b, rfl, hb0⟩, hb⟩
  have H1 := Lib.hid hb
  have HB0 := Lib.hid hb0
  clear hb hb0 HS h1i h2i
  cases b with
  | false =>
    go_wp2_with fail
    refine (HA.out _).mono ?_
    rintro e w2 ⟨rfl, hb⟩
    have Hb := Lib.hid (H1.out.trans (hb.mono H1.out.size))
    clear hb
    go_wp2
    go_ret
    exact ⟨rfl, Hb.out⟩
  | true =>
    have Hsm : Hid (s.length ≤ 20 ∧ (szs s : Int) ≤ 2000) := Lib.hid (by rw [Hns.out]; exact HB0.out rfl)
    clear HB0
    go_wp2_with fail
    refine (HA.out _).mono ?_
    rintro e w2 ⟨rfl, hb⟩
    have H2 := Lib.hid (H1.out.trans (hb.mono H1.out.size))
    clear hb H1 HA
    go_wp2_with fail
    go_loopw [9] (fun i wr => ∃ k : Nat, k ≤ np ∧ i = .int .i64 (k : Int) ∧ wr = w2 ∧ Hid (∀ j, j < k → p.getD j 0 < 4294967296)) (fun i _ => np - (intOf i).toNat)
    case atStart => exact ⟨0, by omega, rfl, rfl, Lib.hid (fun j hj => by omega)⟩
    case round =>
      obtain ⟨k, hk, rfl, rfl, hsm⟩ := hrel
      by_cases hlt : k < np
      · obtain ⟨ad, rfl, _, hc⟩ := (Hp.out.below H2.out) k (by rw [Hnp.out]; exact hlt)
        have hi0 : (0 : Int) ≤ (k : Int) := by omega
        have hi1 : (k : Int) < (np : Int) := by omega
        obtain ⟨x, hx⟩ : ∃ x, p.getD k 0 = x := ⟨_, rfl⟩
        rw [hx] at hc
        have Hx := Lib.hid hx
        clear hx
        by_cases hbig : 4294967296 ≤ x
        · have hbi : (4294967296 : Int) ≤ (x : Int) := by omega
          clear hbig
          go_wp2
          go_ret
          exact ⟨rfl, H2.out⟩
        · have hbi : ¬ (4294967296 : Int) ≤ (x : Int) := by omega
          have hsm2 : Hid (∀ j, j < k + 1 → p.getD j 0 < 4294967296) := Lib.hid (fun j hj => by
            by_cases hjk : j < k
            · exact hsm.out j hjk
            · have e : j = k := by omega
              rw [e, Hx.out]; omega)
          clear hbig hsm
          go_wp2_with fail
          clear hbi
          go_roundw
          case rel => exact ⟨k + 1, by omega, by go_num, trivial, hsm2⟩
          case measure => simp [intOf]; omega
      · obtain rfl : np = k := by omega
        have hall : Hid (∀ y ∈ p, y < 4294967296) := Lib.hid (fun y hy => by
          obtain ⟨j, hj⟩ := List.getElem?_of_mem hy
          have hjl := (List.getElem?_eq_some_iff.1 hj).1
          have h5 := hsm.out j (by rw [← Hnp.out]; exact hjl)
          rw [List.getD_eq_getElem?_getD, hj] at h5
          exact h5)
        have HIN : BackIn v p s u ((u + 1) % 18446744073709551616) := ⟨by rw [Hnv.out]; omega, Hr.out, by rw [Hnp.out]; omega, hall.out, Hsm.out.1, by have := Hsm.out.2; omega, by have := Hu.out; omega, Nat.mod_lt _ (by omega)⟩
        obtain ⟨M1, M2, M3, M4, M5, BB, hS⟩ := steps_all HIN a0 a1 a2 c0 c1 c2
        rw [Hns.out] at hS
        have eu1 : IntKind.u64.wrap ((u : Int) + 1) = (((u + 1) % 18446744073709551616 : Nat) : Int) := by rw [IntKind.wrap_u64]; omega
        have PI := Lib.hid hS.pi; have PF := Lib.hid hS.pf; have PT := Lib.hid hS.pt; have PU := Lib.hid hS.pu; have PV := Lib.hid hS.pv; have BY := Lib.hid hS.by_; have PA := Lib.hid hS.pa
        have IN := Lib.hid hS.ints; have FL := Lib.hid hS.flts; have TX := Lib.hid hS.texts; have U4 := Lib.hid hS.four; have U5 := Lib.hid hS.five_; have T3 := Lib.hid hS.three
        rw [Hnv.out] at PI; rw [Hnp.out] at PF; rw [Hns.out] at PT
        rw [← eu1] at PU
        obtain ⟨isb, hisb⟩ : ∃ b, decide (0 < (ns : Int)) = b := ⟨_, rfl⟩
        rw [hisb] at T3
        have hv60 : v.length ≤ 100000 := by rw [Hnv.out]; omega
        have hp60 : p.length ≤ 100000 := by rw [Hnp.out]; omega
        have hs20 : s.length ≤ 100000 := by have := Hsm.out.1; omega
        have Hlen := Lib.hid (And.intro hv60 (And.intro hp60 hs20))
        clear HIN hS eu1 hsm hlt hall Hr Hu Hsm hv60 hp60 hs20 hnp60 hnv60
        go_wp2_with fail
        obtain ⟨m1, hm1⟩ : ∃ m1, wr.heap.size = m1 := ⟨_, rfl⟩
        refine (new_at wr m1 hm1).mono ?_
        rintro e w3 ⟨rfl, hm, hb⟩
        have hle1 : w.heap.size ≤ m1 := by rw [← hm1]; exact H2.out.size
        have Hm3 := Lib.hid hm
        have H3 : Hid (Below w.heap.size w w3) := Lib.hid (H2.out.trans (hb.mono hle1))
        have hsz3 : m1 ≤ w3.heap.size := by have := IsMsg.lt hm; omega
        clear hm hb hm1 H2
        go_wp2_with fail
        refine (PI.out _ _ Hm3.out hsz3 (Hv.out.below H3.out)).mono ?_
        rintro e w4 ⟨rfl, hm, hb⟩
        have hsz4 : m1 ≤ w4.heap.size := by have := IsMsg.lt hm; omega
        have Hm4 := Lib.hid hm
        have H4 : Hid (Below w.heap.size w w4) := Lib.hid (H3.out.trans (hb.mono hle1))
        clear hm hb H3 Hm3 hsz3 PI
        go_wp2_with fail
        refine (PF.out _ _ Hm4.out hsz4 (Hp.out.below H4.out)).mono ?_
        rintro e w5 ⟨rfl, hm, hb⟩
        have hsz5 : m1 ≤ w5.heap.size := by have := IsMsg.lt hm; omega
        have Hm5 := Lib.hid hm
        have H5 : Hid (Below w.heap.size w w5) := Lib.hid (H4.out.trans (hb.mono hle1))
        clear hm hb H4 Hm4 hsz4 PF
        go_wp2_with fail
        refine (PT.out _ _ Hm5.out hsz5 (Hs.out.up H5.out hle1)).mono ?_
        rintro e w6 ⟨rfl, hm, hb⟩
        have hsz6 : m1 ≤ w6.heap.size := by have := IsMsg.lt hm; omega
        have Hm6 := Lib.hid hm
        have H6 : Hid (Below w.heap.size w w6) := Lib.hid (H5.out.trans (hb.mono hle1))
        clear hm hb H5 Hm5 hsz5 PT
        go_wp2_with fail
        refine (PU.out _ _ Hm6.out hsz6).mono ?_
        rintro e w7 ⟨rfl, hm, hb⟩
        have hsz7 : m1 ≤ w7.heap.size := by have := IsMsg.lt hm; omega
        have Hm7 := Lib.hid hm
        have H7 : Hid (Below w.heap.size w w7) := Lib.hid (H6.out.trans (hb.mono hle1))
        clear hm hb H6 Hm6 hsz6 PU
        go_wp2_with fail
        refine (PV.out _ _ Hm7.out hsz7).mono ?_
        rintro e w8 ⟨rfl, hm, hb⟩
        have hsz8 : m1 ≤ w8.heap.size := by have := IsMsg.lt hm; omega
        have Hm8 := Lib.hid hm
        have H8 : Hid (Below w.heap.size w w8) := Lib.hid (H7.out.trans (hb.mono hle1))
        clear hm hb H7 Hm7 hsz7 PV
        go_wp2_with fail
        refine (BY.out _ _ Hm8.out).mono ?_
        rintro e w9 ⟨rfl, hb⟩
        have H9 : Hid (Below w.heap.size w w9) := Lib.hid (H8.out.trans (hb.mono H8.out.size))
        clear hb H8 Hm8 hsz8 BY
        go_wp2_with fail
        refine (PA.out _).mono ?_
        rintro e w10 ⟨ma, rfl, hm, hb⟩
        have Hm10 := Lib.hid hm
        have H10 : Hid (Below w.heap.size w w10) := Lib.hid (H9.out.trans (hb.mono H9.out.size))
        clear hm hb H9 PA
        go_wp2_with fail
        have HmA := Lib.hid (Hm10.out.below ((Below.refl _ _).alloc (Nat.le_refl _) (.cells #[.int .i64 0, .int .i64 0, .string ⟨#[]⟩] 60)))
        have HA0 := Lib.hid (H10.out.alloc H10.out.size (.cells #[.int .i64 0, .int .i64 0, .string ⟨#[]⟩] 60))
        clear Hm10 H10
        refine (IN.out _ _ _ HmA.out).mono ?_
        rintro e w11 ⟨la, lc, rfl, hri, _, hb⟩
        have H11 : Hid (Below w.heap.size w w11) := Lib.hid (HA0.out.trans (hb.mono HA0.out.size))
        have HmB := Lib.hid ((HmA.out.below hb).below ((Below.refl _ _).alloc (Nat.le_refl _) (.cells #[.int .i64 0, .int .i64 0, .string ⟨#[]⟩] 60)))
        have HriB := Lib.hid (hri.below ((Below.refl _ _).alloc (Nat.le_refl _) (.cells #[.int .i64 0, .int .i64 0, .string ⟨#[]⟩] 60)))
        have HB := Lib.hid (H11.out.alloc H11.out.size (.cells #[.int .i64 0, .int .i64 0, .string ⟨#[]⟩] 60))
        have HqB := Lib.hid (Blk.new w11 60 #[.int .i64 0, .int .i64 0, .string ⟨#[]⟩])
        clear hb hri H11 HmA HA0 IN
        rw [Hnv.out]
        go_wp2_with fail
        refine (FL.out _ _ _ HmB.out).mono ?_
        rintro e w12 ⟨fa, fc, rfl, hui, _, hb⟩
        have H12 : Hid (Below w.heap.size w w12) := Lib.hid (HB.out.trans (hb.mono HB.out.size))
        have HmC := Lib.hid ((HmB.out.below hb).below ((Below.refl _ _).alloc (Nat.le_refl _) (.cells #[.int .i64 0, .int .i64 0, .string ⟨#[]⟩] 60)))
        have HriC := Lib.hid ((HriB.out.below hb).below ((Below.refl _ _).alloc (Nat.le_refl _) (.cells #[.int .i64 0, .int .i64 0, .string ⟨#[]⟩] 60)))
        have HuiC := Lib.hid (hui.below ((Below.refl _ _).alloc (Nat.le_refl _) (.cells #[.int .i64 0, .int .i64 0, .string ⟨#[]⟩] 60)))
        have HC := Lib.hid (H12.out.alloc H12.out.size (.cells #[.int .i64 0, .int .i64 0, .string ⟨#[]⟩] 60))
        have hq1 := (HqB.out.below hb HqB.out.lt)
        have HqC := Lib.hid (hq1.below ((Below.refl _ _).alloc (Nat.le_refl _) (.cells #[.int .i64 0, .int .i64 0, .string ⟨#[]⟩] 60)) hq1.lt)
        have HrC := Lib.hid (Blk.new w12 60 #[.int .i64 0, .int .i64 0, .string ⟨#[]⟩])
        clear hb hui hq1 H12 HmB HriB HB HqB FL
        rw [Hnp.out]
        go_wp2_with fail
        refine (U4.out _ _ _ HmC.out).mono ?_
        rintro e w13 ⟨rfl, hb⟩
        have HD : Hid (Below w.heap.size w w13) := Lib.hid (HC.out.trans (hb.mono HC.out.size))
        have HmD := Lib.hid (HmC.out.below hb)
        have HriD := Lib.hid (HriC.out.below hb)
        have HuiD := Lib.hid (HuiC.out.below hb)
        have HqD := Lib.hid (HqC.out.below hb HqC.out.lt)
        have HrD := Lib.hid (HrC.out.below hb HrC.out.lt)
        clear hb HC HmC HriC HuiC HqC HrC
        go_wp2_with fail
        refine (U5.out _ _ _ HmD.out).mono ?_
        rintro e w14 ⟨rfl, hb⟩
        have HE : Hid (Below w.heap.size w w14) := Lib.hid (HD.out.trans (hb.mono HD.out.size))
        have HmE := Lib.hid (HmD.out.below hb)
        have HriE := Lib.hid (HriD.out.below hb)
        have HuiE := Lib.hid (HuiD.out.below hb)
        have HqE := Lib.hid (HqD.out.below hb HqD.out.lt)
        have HrE := Lib.hid (HrD.out.below hb HrD.out.lt)
        clear hb HD HmD HriD HuiD HqD HrD
        clear U4 U5
        go_wp2_with fail
        refine (T3.out _ _ _ HmE.out).mono ?_
        rintro e w15 ⟨tt, tz, rfl, hb⟩
        have HF : Hid (Below w.heap.size w w15) := Lib.hid (HE.out.trans (hb.mono HE.out.size))
        have HmF := Lib.hid (HmE.out.below hb)
        have HriF := Lib.hid (HriE.out.below hb)
        have HuiF := Lib.hid (HuiE.out.below hb)
        have HqF := Lib.hid (HqE.out.below hb HqE.out.lt)
        have HrF := Lib.hid (HrE.out.below hb HrE.out.lt)
        clear hb HE HmE HriE HuiE HqE HrE
        have c15 := HqF.out.cell 0
        simp only [List.getElem?_toArray, List.getElem?_cons_zero] at c15
        go_wp2_with fail
        have q1 := same_any la a0 lc c0 v w15 Hlen.out.1 HriF.out (Hv.out.below HF.out)
        rw [Hnv.out] at q1
        clear c15 HriF HqF T3
        refine q1.mono ?_
        clear q1
        rintro e w16 ⟨rfl, k1, rfl⟩
        have hdr : Below w15.heap.size w15 (w15.drewN k1) := below_dn (Below.refl _ _) k1
        have HmG := Lib.hid (HmF.out.below hdr)
        have HuiG := Lib.hid (HuiF.out.below hdr)
        have HrG := Lib.hid (HrF.out.below hdr HrF.out.lt)
        have HG := Lib.hid (below_dn HF.out k1)
        clear hdr HmF HuiF HrF HF
        obtain ⟨w16, hw16⟩ : ∃ w16, w15.drewN k1 = w16 := ⟨_, rfl⟩
        rw [hw16] at HmG HuiG HrG HG ⊢
        clear hw16
        have c17 := HrG.out.cell 0
        simp only [List.getElem?_toArray, List.getElem?_cons_zero] at c17
        go_wp2_with fail
        have q2 := samep_any fa a1 fc c1 p w16 Hlen.out.2.1 HuiG.out (Hp.out.below HG.out)
        rw [Hnp.out] at q2
        clear c17 HuiG HrG
        refine q2.mono ?_
        clear q2
        rintro e w17 ⟨rfl, k2, rfl⟩
        have hdr : Below w16.heap.size w16 (w16.drewN k2) := below_dn (Below.refl _ _) k2
        have HmH := Lib.hid (HmG.out.below hdr)
        have HH := Lib.hid (below_dn HG.out k2)
        clear hdr HmG HG
        obtain ⟨w17, hw17⟩ : ∃ w17, w16.drewN k2 = w17 := ⟨_, rfl⟩
        rw [hw17] at HmH HH ⊢
        clear hw17
        go_wp2_with fail
        refine (TX.out _ _ _ HmH.out).mono ?_
        rintro e w18 ⟨ta, tc, rfl, hti, hb⟩
        have HJ : Hid (Below w.heap.size w w18) := Lib.hid (HH.out.trans (hb.mono HH.out.size))
        have HtiJ := Lib.hid hti
        clear hb hti HmH HH TX
        rw [Hns.out]
        go_wp2_with fail
        have q3 := samet_any ta a2 tc c2 s w18 Hlen.out.2.2 HtiJ.out (Hs.out.below HJ.out)
        rw [Hns.out] at q3
        refine q3.mono ?_
        clear q3
        rintro e w19 ⟨rfl, k3, rfl⟩
        have HK := Lib.hid (below_dn HJ.out k3)
        clear HtiJ HJ
        go_wp2_with fail
        have hfin : (isb == decide (0 < ns)) = true := by
          rw [← hisb]
          have e : (0 < (ns : Int)) ↔ 0 < ns := by omega
          simp [e]
        go_ret
        exact ⟨by show Ending.returned (Value.bool (isb == decide (0 < ns))) = _; rw [hfin], HK.out⟩
end Go.Proofs.Ytbkcklefkhlciaa
