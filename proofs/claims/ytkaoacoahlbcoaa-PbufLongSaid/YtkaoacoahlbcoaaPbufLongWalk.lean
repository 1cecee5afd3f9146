/-
  The walk of PbufLong: for every number and int it returns true, and leaves what lay in memory as it was.
-/
import Derived.Test.YtkaoacoahlbcoaaAlive10
import Derived.Test.YtkaoacoahlbcoaaCw
import Derived.Laws.IdiomStrings
namespace Go.Proofs.Ytkaoacoahlbcoaa
open Go.RowKit
set_option maxRecDepth 100000 in
set_option maxHeartbeats 400000 in
theorem pbufLong.walk (a0 : Int) (a1 : Int) (w0 : (Lit.int .u64 a0).wf = true) (w1 : (Lit.int .i64 a1).wf = true) (w : World) :
    Calls Try.prog 7 #[.int .u64 a0, .int .i64 a1] w fun e w' => e = .returned (.bool true) ∧ Below w.heap.size w w' := by
  have b0 := wf_u64 w0
  have b1 := wf_i64 w1
  obtain ⟨v, rfl⟩ := Int.eq_ofNat_of_zero_le b0.1
  clear w0 w1
  have hsz : (txt (pv v)).size ≤ 10 := by rw [txt_size]; exact pv_ten v (by omega)
  have hsp : 1 ≤ (txt (pv v)).size := by rw [txt_size]; exact List.length_pos_iff.2 (pv_ne v)
  by_cases h1 : 1 ≤ a1
  · by_cases h12 : a1 ≤ 12
    · obtain ⟨m, rfl⟩ := Int.eq_ofNat_of_zero_le (show 0 ≤ a1 by omega)
      have hz0 : (((txt (pv v)).size : Int) == 0) = false := beq_eq_false_iff_ne.2 (by omega)
      go_enter Try.func7, Try.ntmps7
      go_wp2_with fail
      refine (putv_any v _ (by omega)).mono ?_
      rintro e w1 ⟨rfl, hb1⟩
      obtain ⟨cap, W2, hr, hcw, hbw⟩ := run_row w.heap.size w1 (pv v) hb1.size (pv_bytes v (by omega))
      have hbb := hb1.trans hbw
      clear hb1 hbw
      have hcw2 := Lib.hid hcw
      obtain ⟨g, cap', he, hgB, hcap, q1, q2⟩ := hcw
      simp only [Value.slice.injEq, Option.some.injEq, Addr.mk.injEq] at he
      obtain ⟨⟨hg, _, _⟩, hlen, rfl⟩ := he
      subst hg
      have qf := (q1 ((txt (pv v)).size - 1) (by omega)).2
      have qc := q2 ((txt (pv v)).size - 1) (by omega)
      obtain ⟨L, hL⟩ : ∃ L, L = (pv v).getLastD 0 := ⟨_, rfl⟩
      have hL2 : ((pv v).map Int.ofNat).getD ((txt (pv v)).size - 1) 0 = (L : Int) := by
        rw [hL, hlen, List.getLastD_eq_getLast?, List.getLast?_eq_getElem?]
        simp [List.getD]
        cases h : (pv v)[(pv v).length - 1]? <;> simp
      rw [hL2] at qc
      have hL8 : L < 128 := by rw [hL]; exact pv_last v (by omega)
      have hor := Lib.hid (byte_mark L hL8)
      have HL := Lib.hid hL
      have Hlen := Lib.hid hlen
      have Hcap : (txt (pv v)).size ≤ cap := by omega
      clear q1 q2 hL2 hL hlen hcap
      obtain ⟨M, hM⟩ : ∃ M, M = (pv v).dropLast ++ [L + 128] := ⟨_, rfl⟩
      have hMne : M ≠ [] := by rw [hM]; simp
      have hMl : M.length ≤ 10 := by
        have := pv_ten v (by omega)
        have := List.length_pos_iff.2 (pv_ne v)
        rw [hM]; simp; omega
      have hpl : Hid (pl v m = M ++ (List.replicate (m - 1) 128 ++ [0])) := Lib.hid (by rw [pl_eq 9 v m (by omega), hM, HL.out]; simp)
      have hgl := gv_longer v m (by omega) (by omega)
      have hlp : (pl v m).length = (pv v).length + m := by
        have := List.length_pos_iff.2 (pv_ne v)
        rw [hpl.out, hM]; simp; omega
      have hc3 := cw_last Hlen.out hcw2.out (pv_ne v) (L + 128)
      rw [← hM] at hc3
      have HC3 := Lib.hid hc3
      have hb3 : Below w.heap.size w (W2.setCell ⟨w1.heap.size, (txt (pv v)).size - 1, none⟩ (.int .u8 ((L + 128 : Nat) : Int))) := hbb.setCell (by simpa using hgB) _
      have Hgl := Lib.hid hgl
      have Hlp := Lib.hid hlp
      clear hM hc3 hgl hlp
      go_wp2_with fail
      rw [hor.out]
      generalize W2.setCell ⟨w1.heap.size, (txt (pv v)).size - 1, none⟩ (.int .u8 ((L + 128 : Nat) : Int)) = W3 at *
      clear qf qc hr hbb hcw2
      go_loopw [6, 7] (fun b i wr => ∃ k : Nat, 1 ≤ k ∧ k ≤ m ∧ i = .int .i64 k ∧ Hid (Cw w.heap.size wr b (M ++ List.replicate (k - 1) 128)) ∧ Below w.heap.size w wr) (fun _ i _ => m - (intOf i).toNat)
      case atStart => exact ⟨1, by omega, by omega, rfl, by simpa using HC3, hb3⟩
      case round =>
        obtain ⟨k, hk1, hkm, rfl, hc, hb⟩ := hrel
        have hbs := hb.size
        by_cases hlt : k < m
        · have hne : M ++ List.replicate (k - 1) 128 ≠ [] := by simp [hMne]
          go_wp2_with (at_builtin; refine push_cw rfl (.tmp 41) (.tmp 42) rfl w.heap.size _ _ _ _ 128 rfl hc.out hne rfl rfl hbs ?c2 ?_)
          case c2 => simp; omega
          intro v' w4 hcw4 hb4
          have h4 : Hid (Cw w.heap.size w4 v' (M ++ List.replicate (k + 1 - 1) 128)) := Lib.hid (by
            have e : M ++ List.replicate (k + 1 - 1) 128 = M ++ List.replicate (k - 1) 128 ++ [128] := by
              rw [show k + 1 - 1 = k - 1 + 1 from by omega, List.replicate_succ']; simp
            rw [e]
            simpa using hcw4)
          have hb5 := hb.trans hb4
          clear hcw4 hb4 hb hc hne
          go_wp2
          go_roundw
          case rel => (repeat apply Exists.intro); exact ⟨⟨k + 1, by omega, by omega, by go_num, h4, hb5⟩, rfl⟩
          case measure => simp [intOf]; omega
        · obtain rfl : k = m := by omega
          have hne : M ++ List.replicate (k - 1) 128 ≠ [] := by simp [hMne]
          go_wp2_with (at_builtin; refine push_cw rfl (.tmp 44) (.tmp 45) rfl w.heap.size _ _ _ _ 0 rfl hc.out hne rfl rfl hbs ?d2 ?_)
          case d2 => simp; omega
          intro v' w4 hcw4 hb4
          rw [← hpl.out] at hcw4
          have hcv := conv_cw hcw4
          have hb5 := hb.trans hb4
          obtain ⟨g4, cap4, rfl, _, hc4, _, _⟩ := hcw4
          have hpl22 : (pl v k).length ≤ 22 := by have := Hlp.out; have := pv_ten v (by omega); omega
          have hts : (txt (pl v k)).size ≤ 22 := by rw [txt_size]; omega
          clear hb4 hb hc hne
          by_cases ht : (pl v k).length ≤ 10
          · have hg : gv (txt (pl v k)).data.toList = (v, (pl v k).length, true) := by rw [txt_list, Hgl.out, if_pos (by have := Hlp.out; omega), Hlp.out]
            have HG := Lib.hid hg
            clear hg Hgl
            go_wp2_with fail
            refine (getv_any _ _ (by unfold maxLen; omega)).mono ?_
            rintro e w5 ⟨rfl, rfl⟩
            rw [HG.out]
            go_wp2_with fail
            refine (alive_any _).mono ?_
            rintro e w5 ⟨rfl, hb6⟩
            have hb7 := hb5.trans (hb6.mono hb5.size)
            clear hb5 hb6
            go_wp2
            go_ret
            exact ⟨rfl, hb7⟩
          · have hg : gv (txt (pl v k)).data.toList = (0, 0, false) := by rw [txt_list, Hgl.out, if_neg (by have := Hlp.out; omega)]
            have HG := Lib.hid hg
            clear hg Hgl
            go_wp2_with fail
            refine (getv_any _ _ (by unfold maxLen; omega)).mono ?_
            rintro e w5 ⟨rfl, rfl⟩
            rw [HG.out]
            go_wp2_with fail
            refine (alive_any _).mono ?_
            rintro e w5 ⟨rfl, hb6⟩
            have hb7 := hb5.trans (hb6.mono hb5.size)
            clear hb5 hb6
            go_wp2
            go_ret
            exact ⟨rfl, hb7⟩
    · go_enter Try.func7, Try.ntmps7
      go_wp2_with fail
      refine (putv_any v _ (by omega)).mono ?_
      rintro e w1 ⟨rfl, hb1⟩
      go_wp2_with fail
      refine (alive_any _).mono ?_
      rintro e w2 ⟨rfl, hb⟩
      go_wp2
      go_ret
      exact ⟨rfl, hb1.trans (hb.mono hb1.size)⟩
  · go_enter Try.func7, Try.ntmps7
    go_wp2_with fail
    refine (putv_any v _ (by omega)).mono ?_
    rintro e w1 ⟨rfl, hb1⟩
    go_wp2_with fail
    refine (alive_any _).mono ?_
    rintro e w2 ⟨rfl, hb⟩
    go_wp2
    go_ret
    exact ⟨rfl, hb1.trans (hb.mono hb1.size)⟩
end Go.Proofs.Ytkaoacoahlbcoaa
