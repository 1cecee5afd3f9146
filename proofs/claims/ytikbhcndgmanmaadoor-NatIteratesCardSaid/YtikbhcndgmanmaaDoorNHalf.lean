/-
  Law 1: the iterator over a number's halves: its contract.
-/
import Derived.Test.YtikbhcndgmanmaaDoorNHlv
import Derived.RangeFuncBound
import Derived.RangeFuncCalls
import Derived.RangeFuncLeaves
import Derived.Shelf.Abstract
import Derived.Shelf.RegionOpen
import Derived.OwnWalkIn
import Derived.TacticsInMore
import Derived.LoopNIn
import Derived.LoopIn
namespace Go.Proofs.YtikbhcndgmanmaaDoor
open Go.RowKit Go.Shelf
set_option linter.unusedVariables false
attribute [local go_sem] Oper.semAt_some
theorem abides_below {β : Type} {B : Nat} {J : β → World → Prop} (h : AbidesFrom B J) {x : β} {W W' : World} (hj : J x W) (hb : Below W.heap.size W W') : J x W' :=
  h x W W' none hj (grown_below hb (Nat.le_refl _)) (fun r e => by cases e)
/-- A number that is told: where its words lie, and what it is. -/
abbrev Hv := (Option Addr × Nat × Nat) × Nat
def hvV (x : Hv) : Value := .agg #[.slice x.1.1 x.1.2.1 x.1.2.2]
set_option maxRecDepth 100000 in
set_option maxHeartbeats 2000000 in
theorem halves1_in (n : Nat) (hn : 1 ≤ n) (l Bs : Nat) (N : Nat) (sa : Option Addr) (sn sc : Nat) {Live : World → Prop} {Far : World → Nat → Obj → Prop} (ok : FarOk Live Far)
    (B : Nat) (J Jx : List Hv → World → Prop) (hJ : AbidesFrom B J)
    (hY : ∀ pre x W, J pre W → Live W → FN Far W (hvV x) x.2 → pre.length < (hlv N).length → YieldAt Fence.wide (n - 1) Tryd.prog l #[hvV x] W fun e W' =>
      (e = .returned (.bool true) ∧ J (pre ++ [x]) W' ∧ Kp Live Far W W') ∨ (e = .returned (.bool false) ∧ Jx (pre ++ [x]) W'))
    (W : World) (hBs : W.cell? ⟨Bs, 0, none⟩ = some (.slice sa sn sc)) (hv : FN Far W (.agg #[.slice sa sn sc]) N) (hL : Live W) (h0 : J [] W) :
    CallsIn Fence.wide n Tryd.prog 55 #[.func (.yield l) #[] #[], .pointer (some ⟨Bs, 0, none⟩)] W fun e W' => (∃ v, e = .returned v) ∧
      ((∃ ys, ys.map (·.2) = hlv N ∧ J ys W') ∨ (∃ pre, pre.map (·.2) <+: hlv N ∧ Jx pre W')) := by
  refine callsIn_of_wp Tryd.func55 rfl trivial ?_ rfl
  simp only [Tryd.ntmps55, List.size_toArray, List.length_cons, List.length_nil, Nat.reduceAdd, Nat.reduceSub, Array.replicate_succ, Array.replicate_zero, List.push_toArray, List.append_toArray, List.nil_append, List.cons_append]
  obtain ⟨W1, hW1⟩ : ∃ W1, (W.alloc (.cells #[.slice none 0 0] 30)).setCell ⟨W.heap.size, 0, none⟩ (.slice sa sn sc) = W1 := ⟨_, rfl⟩
  have hk0 : Blk (W.alloc (.cells #[.slice none 0 0] 30)) W.heap.size 30 #[.slice none 0 0] := Blk.new W _ _
  have hb1 : Below W.heap.size W W1 := by rw [← hW1]; exact ((Below.refl _ W).alloc (Nat.le_refl _) _).setCell (p := ⟨W.heap.size, 0, none⟩) (Nat.le_refl _) _
  have hk1 : Blk W1 W.heap.size 30 #[.slice sa sn sc] := by rw [← hW1]; exact hk0.set_ 0 _
  have hk0c := hk0.cell 0; have hk0f := hk0.frozen 0
  simp only [List.getElem?_toArray, List.getElem?_cons_zero] at hk0c
  have hF1 := ok.new hL hb1 (Nat.le_refl _) hk1 rfl
  have HF1 : Hid (Far W1 W.heap.size (.cells #[.slice sa sn sc] 30 (0, 0))) := Lib.hid hF1
  have HN1 := Lib.hid (hv.below ok hb1)
  have HJ1 := Lib.hid (abides_below hJ h0 hb1)
  have HL1 := Lib.hid (ok.live hL hb1)
  clear hk0 hk1 hb1 hF1 hv h0 hL
  gi_wp2_with fail
  gi_loopw [3] (fun p wr => ∃ (b M : Nat) (x : Option Addr) (y z : Nat) (pre : List Hv), p = .pointer (some ⟨b, 0, none⟩) ∧ Hid (Far wr b (.cells #[.slice x y z] 30 (0, 0))) ∧ Hid (FN Far wr (.agg #[.slice x y z]) M) ∧ Hid (pre.map (·.2) ++ hlv M = hlv N) ∧ Hid (J pre wr) ∧ Hid (Live wr))
    (fun p wr => numAt wr p)
  case atStart => exact ⟨W.heap.size, N, sa, sn, sc, [], rfl, HF1, HN1, Lib.hid rfl, HJ1, HL1⟩
  case round =>
    clear hk0f hk0c HF1 HN1 HJ1 HL1 hBs hW1
    obtain ⟨b, M, x, y, z, pre, rfl, hF, hN, hpre, hj, hL⟩ := hrel
    have hk : Blk wr b 30 #[.slice x y z] := ok.at_ hF.out
    have hkc := hk.cell 0
    simp only [List.getElem?_toArray, List.getElem?_cons_zero] at hkc
    have Hms := Lib.hid (numAt_eq hkc hN.out.1)
    have HZ := Lib.hid (zero_any M _ wr hN.out.1)
    clear hk
    by_cases hM : M = 0
    · have HZ1 : Hid (Calls Tryd.prog 20 #[.agg #[.slice x y z]] wr fun e w' => e = .returned (.bool true) ∧ Below wr.heap.size wr w') := Lib.hid (zero_yes (by rw [← hM]; exact hN.out.1))
      have hend : Hid (pre.map (·.2) = hlv N) := Lib.hid (by have := hpre.out; rw [hM, hlv_zero, List.append_nil] at this; exact this)
      clear HZ hpre
      gi_wp2_with fail
      refine ⟨trivial, (callsIn_wide.2 HZ1.out).mono ?_⟩
      rintro e w1 ⟨rfl, hb1⟩
      have HJ2 := Lib.hid (abides_below hJ hj.out hb1)
      clear hb1 HZ1
      gi_wp2_with fail
      go_end0
      exact ⟨⟨_, rfl⟩, .inl ⟨pre, hend.out, HJ2.out⟩⟩
    · have HZ1 : Hid (Calls Tryd.prog 20 #[.agg #[.slice x y z]] wr fun e w' => e = .returned (.bool false) ∧ Below wr.heap.size wr w') := Lib.hid (zero_no hN.out.1 hM)
      clear HZ
      gi_wp2_with fail
      refine ⟨trivial, (callsIn_wide.2 HZ1.out).mono ?_⟩
      rintro e w1 ⟨rfl, hb1⟩
      have HJ2 := Lib.hid (abides_below hJ hj.out hb1)
      have HL2 := Lib.hid (ok.live hL.out hb1)
      have HF2 := Lib.hid (ok.far hF.out hb1)
      have HN2 := Lib.hid (hN.out.below ok hb1)
      have hk2 : Blk w1 b 30 #[.slice x y z] := ok.at_ HF2.out
      have hkc2 := hk2.cell 0
      simp only [List.getElem?_toArray, List.getElem?_cons_zero] at hkc2
      have hlen : pre.length < (hlv N).length := by rw [← hpre.out, hlv_pos hM]; simp
      obtain ⟨fn, tmps, assign, body, hy, hYR⟩ := hY pre ((x, y, z), M) w1 HJ2.out HL2.out HN2.out hlen
      replace hy : (Instr.yield l #[.agg #[.slice x y z]]).run Tryd.prog w1 = .ok (.round l fn tmps assign body) w1 := hy
      have hcont := Lib.hid (hlv_pos hM)
      have HLk := HL2
      clear hb1 HZ1 hj hL hF hN hk2 hkc HJ2 HL2
      gi_wp2_with fail
      refine hYR.mono ?_
      rintro e W3 (⟨rfl, hJ3, hk3⟩ | ⟨rfl, hJx3⟩)
      · have hp3 : Hid ((pre ++ [(((x, y, z), M) : Hv)]).map (·.2) ++ hlv (M / 2) = hlv N) := Lib.hid (by rw [← hpre.out, hcont.out]; simp)
        have hL3 := hk3.1 HLk.out
        have hN3 := HN2.out.kept ok hk3.2
        have hF3 := hk3.2 _ _ HF2.out
        have hk3b : Blk W3 b 30 #[.slice x y z] := ok.at_ hF3
        have hkc3 := hk3b.cell 0
        simp only [List.getElem?_toArray, List.getElem?_cons_zero] at hkc3
        obtain ⟨g, hg⟩ : ∃ g, W3.heap.size = g := ⟨_, rfl⟩
        have hk4 : Blk (W3.alloc (.cells #[.slice none 0 0] 30)) g 30 #[.slice none 0 0] := by rw [← hg]; exact Blk.new W3 _ _
        obtain ⟨W5, hW5⟩ : ∃ W5, (W3.alloc (.cells #[.slice none 0 0] 30)).setCell ⟨g, 0, none⟩ (.slice x y z) = W5 := ⟨_, rfl⟩
        have hb5 : Below g W3 W5 := by rw [← hW5]; exact ((Below.refl _ W3).alloc (by omega) _).setCell (p := ⟨g, 0, none⟩) (Nat.le_refl g) _
        have hk5 : Blk W5 g 30 #[.slice x y z] := by rw [← hW5]; exact hk4.set_ 0 _
        have hk4c := hk4.cell 0; have hk4f := hk4.frozen 0
        have hk5c := hk5.cell 0; have hk5f := hk5.frozen 0
        simp only [List.getElem?_toArray, List.getElem?_cons_zero] at hk4c hk5c
        have hsz5 : W5.heap.size = g + 1 := by rw [← hW5]; simp [hg]
        have HSh := Lib.hid (shn_any M 1 (.agg #[.slice x y z]) (-1) W5 (hN3.1.below hb5 (by omega)) (by omega) (by omega) rfl)
        have HJ3 := Lib.hid hJ3
        have HL3 := Lib.hid hL3
        have Hb5 := Lib.hid hb5
        have Hk5 := Lib.hid hk5
        clear hJ3 hL3 hN3 hF3 hk3 hk3b hk4 hb5 hk5 HLk hYR hy hpre hcont hkc2 HF2 HN2
        gi_wp2_with fail
        refine ⟨trivial, (callsIn_wide.2 HSh.out).mono ?_⟩
        rintro e W6 ⟨v, rfl, hN6, hF6, hb6⟩
        obtain ⟨x6, y6, z6, rfl⟩ := isN_form hN6
        rw [hsz5] at hF6 hb6
        have hk6 : Blk W6 g 30 #[.slice x y z] := Hk5.out.below hb6 (by omega)
        have hk6c := hk6.cell 0; have hk6f := hk6.frozen 0
        simp only [List.getElem?_toArray, List.getElem?_cons_zero] at hk6c
        have hN7 := hN6.set (b := g) (x := .slice x6 y6 z6) hF6 (by omega)
        have hb7 : Below g W3 (W6.setCell ⟨g, 0, none⟩ (.slice x6 y6 z6)) := (Hb5.out.trans (hb6.mono (by omega))).setCell (p := ⟨g, 0, none⟩) (Nat.le_refl g) _
        have hk7 : Blk (W6.setCell ⟨g, 0, none⟩ (.slice x6 y6 z6)) g 30 #[.slice x6 y6 z6] := hk6.set_ 0 _
        have hk7c := hk7.cell 0
        simp only [List.getElem?_toArray, List.getElem?_cons_zero] at hk7c
        rw [Nat.pow_one] at hN7
        have Hms7 := Lib.hid (numAt_eq hk7c hN7)
        have hb7' : Below W3.heap.size W3 (W6.setCell ⟨g, 0, none⟩ (.slice x6 y6 z6)) := by rw [hg]; exact hb7
        have HN7 := Lib.hid (FN.fresh ok HL3.out hb7' hN7 (hF6.mono (by omega)))
        have HF7 : Hid (Far (W6.setCell ⟨g, 0, none⟩ (.slice x6 y6 z6)) g (.cells #[.slice x6 y6 z6] 30 (0, 0))) := Lib.hid (ok.new HL3.out hb7' (by omega) hk7 rfl)
        have HJ7 := Lib.hid (abides_below hJ HJ3.out hb7')
        have HL7 := Lib.hid (ok.live HL3.out hb7')
        clear hN6 hF6 hb6 hk6 hN7 hb7 hk7 hb7' hk7c HSh HJ3 HL3 Hb5 Hk5 hkc3 hk4c hk4f hk5c hk5f
        gi_wp2_with fail
        go_roundw
        case rel => exact ⟨g, M / 2, x6, y6, z6, _, rfl, HF7, HN7, hp3, HJ7, HL7⟩
        case measure => (show numAt _ _ < numAt _ _); rw [Hms7.out, Hms.out]; omega
      · have hp3 : Hid ((pre ++ [(((x, y, z), M) : Hv)]).map (·.2) <+: hlv N) := Lib.hid ⟨hlv (M / 2), by rw [← hpre.out, hcont.out]; simp⟩
        have hJx' := Lib.hid hJx3
        clear hJx3 hYR hy hpre hcont hkc2 HF2 HN2
        gi_wp2_with fail
        refine bodyPost_ret (results_none rfl _ _ _) rfl ?_
        exact ⟨⟨_, rfl⟩, .inr ⟨_, hp3.out, hJx'.out⟩⟩
end Go.Proofs.YtikbhcndgmanmaaDoor
