/-
  The walk of MsgNone: for every number and text it returns true, and leaves what lay in memory as it was.
-/
import Derived.Test.YtbkcklefkhlciaaAlive11
import Derived.Test.YtbkcklefkhlciaaMnil4
import Derived.Test.YtbkcklefkhlciaaMflts
namespace Go.Proofs.Ytbkcklefkhlciaa
open Go.RowKit
set_option linter.unusedVariables false
set_option maxRecDepth 100000 in
set_option maxHeartbeats 1000000 in
theorem puttext_nil (num : Int) (g : Nat) (s : ByteArray) (w : World) (hg : g < w.heap.size) (hc : w.cell? ⟨g, 0, none⟩ = some (.string s)) :
    Calls Try.prog 12 #[.pointer none, .int .i64 num, .slice (some ⟨g, 0, none⟩) 1 1] w (GaveV (.pointer none) w) := by
  have HP := Lib.hid (fun a b c d s w => put_nil a b c d s w)
  go_enter Try.func12, Try.ntmps12
  go_wp2_with fail
  go_loopw [11] (fun i wr => ∃ k : Nat, k ≤ 1 ∧ i = .int .i64 (k : Int) ∧ Hid (Below w.heap.size w wr)) (fun i _ => 1 - (intOf i).toNat)
  case atStart => exact ⟨0, by omega, rfl, Lib.hid (Below.refl _ _)⟩
  case round =>
    obtain ⟨k, hk, rfl, hb⟩ := hrel
    by_cases hk0 : k = 0
    · subst hk0
      have hc1 : wr.cell? ⟨g, 0, none⟩ = some (.string s) := (hb.out.cell (p := ⟨g, 0, none⟩) hg).trans hc
      go_wp2_with fail
      refine (HP.out _ _ _ _ _ _).mono ?_
      rintro e w1 ⟨rfl, hb1⟩
      have Hb1 := Lib.hid (hb.out.trans (hb1.mono hb.out.size))
      clear hb hb1 hc1
      go_wp2
      go_roundw
      case rel => first | exact ⟨1, by omega, by go_num, Hb1⟩ | ((repeat apply Exists.intro); exact ⟨⟨1, by omega, by go_num, Hb1⟩, rfl⟩)
      case measure => simp [intOf]
    · obtain rfl : k = 1 := by omega
      go_wp2_with fail
      refine (none_nil _).mono ?_
      rintro e w1 ⟨rfl, rfl⟩
      go_wp2
      go_ret
      exact ⟨rfl, hb.out⟩
theorem putto_nil (num : Int) (D : ByteArray) (w : World) : PutTo none num D (fun w1 w' => Below w1.heap.size w1 w') w := fun w1 _ => put_nil num 2 0 0 D w1
set_option maxRecDepth 100000 in
set_option maxHeartbeats 4000000 in
theorem msgNone.walk (a0 : Int) (a1 : ByteArray) (w0 : (Lit.int .i64 a0).wf = true) (w1 : a1.size ≤ maxLen) (w : World) :
    Calls Try.prog 4 #[.int .i64 a0, .string a1] w fun e w' => e = .returned (.bool true) ∧ Below w.heap.size w w' := by
  clear w0
  have HA := Lib.hid (fun w => alive_any w)
  by_cases hl : 300 < a1.size
  · have hl1 : (300 : Int) < (a1.size : Int) := by omega
    go_enter Try.func4, Try.ntmps4
    go_wp2_with fail
    refine (HA.out _).mono ?_
    rintro e w1 ⟨rfl, hb⟩
    have Hb := Lib.hid hb
    clear hb
    go_wp2
    go_ret
    exact ⟨rfl, Hb.out⟩
  · have hl1 : ¬ (300 : Int) < (a1.size : Int) := by omega
    have HI := Lib.hid (fun g w (h1 : g < w.heap.size) (h2 : w.cell? ⟨g, 0, none⟩ = some (.int .i64 1)) => putints_core none a0 [1] (some ⟨g, 0, none⟩) 1 _ w (by simp) (by simp) (fun i hi => by
      match i, hi with
      | 0, _ => exact ⟨_, rfl, h1, h2⟩) (Lib.hid (putto_nil a0 (ibs [1]) w)))
    have HF := Lib.hid (fun g w (h1 : g < w.heap.size) (h2 : w.cell? ⟨g, 0, none⟩ = some (.int .u64 1)) => putfloats_core none a0 [1] (some ⟨g, 0, none⟩) 1 _ w (by simp) (by simp) (by simp) (fun i hi => by
      match i, hi with
      | 0, _ => exact ⟨_, rfl, h1, h2⟩) (Lib.hid (putto_nil a0 (fbs [1]) w)))
    go_enter Try.func4, Try.ntmps4
    go_wp2_with fail
    refine (HA.out _).mono ?_
    rintro e w1 ⟨rfl, hb⟩
    have H1 := Lib.hid hb
    clear hb HA hl hl1
    go_wp2_with fail
    refine (uint_nil a0 _).mono ?_
    rintro e w2 ⟨rfl, hb⟩
    have H2 : Hid (Below w.heap.size w w2) := Lib.hid (H1.out.trans (hb.mono H1.out.size))
    clear hb H1
    go_wp2_with fail
    refine (int_nil a0 _).mono ?_
    rintro e w3 ⟨rfl, hb⟩
    have H3 : Hid (Below w.heap.size w w3) := Lib.hid (H2.out.trans (hb.mono H2.out.size))
    clear hb H2
    go_wp2_with fail
    refine (float_nil a0 _).mono ?_
    rintro e w4 ⟨rfl, hb⟩
    have H4 : Hid (Below w.heap.size w w4) := Lib.hid (H3.out.trans (hb.mono H3.out.size))
    clear hb H3
    go_wp2_with fail
    refine (text_nil a0 _).mono ?_
    rintro e w5 ⟨rfl, hb⟩
    have H5 : Hid (Below w.heap.size w w5) := Lib.hid (H4.out.trans (hb.mono H4.out.size))
    clear hb H4
    go_wp2_with fail
    refine (ints_nil a0 _).mono ?_
    rintro e w6 ⟨rfl, hb⟩
    have H6 : Hid (Below w.heap.size w w6) := Lib.hid (H5.out.trans (hb.mono H5.out.size))
    clear hb H5
    go_wp2_with fail
    refine (flts_nil a0 _).mono ?_
    rintro e w7 ⟨rfl, hb⟩
    have H7 : Hid (Below w.heap.size w w7) := Lib.hid ((H6.out.alloc H6.out.size _).trans (hb.mono (H6.out.alloc H6.out.size _).size))
    clear hb H6
    go_wp2_with fail
    refine (putuint_nil a0 1 _).mono ?_
    rintro e w8 ⟨rfl, hb⟩
    have H8 : Hid (Below w.heap.size w w8) := Lib.hid ((H7.out.alloc H7.out.size _).trans (hb.mono (H7.out.alloc H7.out.size _).size))
    clear hb H7
    go_wp2_with fail
    have q := Blk.new w8 9 #[.string a1]
    refine (puttext_nil a0 _ a1 _ (by simp) (q.cell 0)).mono ?_
    rintro e w9 ⟨rfl, hb⟩
    have H9 : Hid (Below w.heap.size w w9) := Lib.hid ((H8.out.alloc H8.out.size _).trans (hb.mono (H8.out.alloc H8.out.size _).size))
    clear q hb H8
    go_wp2_with fail
    have q := Blk.new w9 3 #[.int .i64 1]
    refine (HI.out _ _ (by simp) (q.cell 0)).mono ?_
    rintro e w10 ⟨rfl, wx, hb0, hb⟩
    have H10 : Hid (Below w.heap.size w w10) := Lib.hid (by
      have h3 := (H9.out.alloc H9.out.size _).trans (hb0.mono (H9.out.alloc H9.out.size _).size)
      exact h3.trans (hb.mono h3.size))
    clear q hb0 hb H9
    go_wp2_with fail
    have q := Blk.new w10 25 #[.int .u64 1]
    refine (HF.out _ _ (by simp) (q.cell 0)).mono ?_
    rintro e w11 ⟨rfl, wx, hb0, hb⟩
    have H11 : Hid (Below w.heap.size w w11) := Lib.hid (by
      have h3 := (H10.out.alloc H10.out.size _).trans (hb0.mono (H10.out.alloc H10.out.size _).size)
      exact h3.trans (hb.mono h3.size))
    clear q hb0 hb H10
    go_wp2_with fail
    refine (bytes_nil _).mono ?_
    rintro e w12 ⟨rfl, hb⟩
    have H12 : Hid (Below w.heap.size w w12) := Lib.hid (H11.out.trans (hb.mono H11.out.size))
    clear hb H11
    go_wp2_with fail
    refine (texts_nil a0 _).mono ?_
    rintro e w13 ⟨rfl, hb⟩
    have H13 : Hid (Below w.heap.size w w13) := Lib.hid (H12.out.trans (hb.mono H12.out.size))
    clear hb H12
    go_wp2_with fail
    refine (nums_nil _).mono ?_
    rintro e w14 ⟨rfl, hb⟩
    have H14 : Hid (Below w.heap.size w w14) := Lib.hid (H13.out.trans (hb.mono H13.out.size))
    clear hb H13
    go_wp2
    go_ret
    exact ⟨rfl, H14.out⟩
end Go.Proofs.Ytbkcklefkhlciaa
