/-
  The first call of chapter 5's statements, whose answer the document fixes: it answers true.
-/
import Derived.Test.YtinkdjplehaibaaDoorDUse
namespace Go.Proofs.YtinkdjplehaibaaDoor
open Go.RowKit
set_option linter.unusedVariables false
set_option maxRecDepth 100000 in
set_option maxHeartbeats 1000000 in
theorem small7 (w : World) : Calls Tryd.prog 78 #[.int .i64 7] w fun e w' => e = .returned (.string ⟨#[55]⟩) ∧ w = w' := by
  go_enter Tryd.func78, Tryd.ntmps78
  go_wp2
  go_ret
  exact ⟨rfl, rfl⟩
set_option maxRecDepth 100000 in
set_option maxHeartbeats 1000000 in
theorem itoa7 (w : World) : Calls Tryd.prog 22 #[.int .i64 7] w fun e w' => e = .returned (.string ⟨#[55]⟩) ∧ w = w' := by
  go_enter Tryd.func22, Tryd.ntmps22
  go_wp2_with (first
    | (go_at_call 54; go_enter Tryd.func54, Tryd.ntmps54)
    | (go_at_call 70; go_enter Tryd.func70, Tryd.ntmps70)
    | (go_at_call 78; refine (small7 _).mono ?_; rintro e w1 ⟨rfl, rfl⟩))
  go_ret
  exact ⟨rfl, rfl⟩
set_option maxRecDepth 100000 in
set_option maxHeartbeats 1000000 in
theorem name11 (w : World) : Calls Tryd.prog 8 #[.int .i64 11] w fun e w' => e = .returned (.string ⟨#[69, 95, 88, 77, 76]⟩) ∧ w = w' := by
  go_enter Tryd.func8, Tryd.ntmps8
  go_wp2
  go_ret
  exact ⟨rfl, rfl⟩
set_option maxRecDepth 100000 in
set_option maxHeartbeats 1000000 in
theorem name0 (w : World) : Calls Tryd.prog 8 #[.int .i64 0] w fun e w' => e = .returned (.string ⟨#[79, 75]⟩) ∧ w = w' := by
  go_enter Tryd.func8, Tryd.ntmps8
  go_wp2
  go_ret
  exact ⟨rfl, rfl⟩
set_option maxRecDepth 100000 in
set_option maxHeartbeats 1000000 in
theorem text1 (w : World) : Calls Tryd.prog 10 #[.agg #[.int .i64 11, .int .i64 7, .string ⟨#[116, 97, 103]⟩]] w fun e w' => e = .returned (.string ⟨#[69, 95, 88, 77, 76, 64, 55, 32, 116, 97, 103]⟩) ∧ Below w.heap.size w w' := by
  have HB := Lib.hid (Blk.new w 40 #[.int .i64 11, .int .i64 7, .string ⟨#[116, 97, 103]⟩])
  obtain ⟨W1, hW1⟩ : ∃ W1, w.alloc (.cells #[.int .i64 11, .int .i64 7, .string ⟨#[116, 97, 103]⟩] 40) = W1 := ⟨_, rfl⟩
  have HL : Hid (Below w.heap.size w W1) := Lib.hid (by rw [← hW1]; exact (Below.refl _ _).alloc (Nat.le_refl _) _)
  rw [hW1] at HB
  obtain ⟨c0, c1, c2⟩ := dcells HB.out
  have d0 : W1.drew.cell? ⟨w.heap.size, 0, none⟩ = some (.int .i64 11) := c0
  have d1 : W1.drew.cell? ⟨w.heap.size, 1, none⟩ = some (.int .i64 7) := c1
  have d2 : W1.drew.cell? ⟨w.heap.size, 2, none⟩ = some (.string ⟨#[116, 97, 103]⟩) := c2
  go_enter Tryd.func10, Tryd.ntmps10
  go_wp2_with fail
  go_region_held3 (fun w' => w'.cell? ⟨w.heap.size, 0, none⟩ = some (.int .i64 11) ∧ w'.cell? ⟨w.heap.size, 1, none⟩ = some (.int .i64 7))
    (first | exact ⟨d0, d1⟩ | go_keep)
    (first
      | (go_at_call 8; refine (name11 _).mono ?_; rintro e w3 ⟨rfl, rfl⟩)
      | (go_at_call 22; refine (itoa7 _).mono ?_; rintro e w3 ⟨rfl, rfl⟩))
  go_wp2_with fail
  go_ret
  exact ⟨rfl, HL.out.drew⟩
def tagD : Dg := ⟨11, 7, ⟨#[116, 97, 103]⟩⟩
theorem dadd_tag : dadd [] 11 7 ⟨#[116, 97, 103]⟩ = [tagD] := by
  have e : (⟨#[116, 97, 103]⟩ : ByteArray).extract 0 (min (⟨#[116, 97, 103]⟩ : ByteArray).size 60) = ⟨#[116, 97, 103]⟩ := by decide
  unfold dadd
  rw [if_neg (by decide), e]
  rfl
theorem isL_nil {n0 : Nat} {w w' : World} {x : Nat} (h : w.heap.size = x) (hn : n0 ≤ x) (hw : w.alloc (.cells #[.slice none 0 0] 27) = w') : IsL n0 w' x [] := by
  subst h; subst hw
  exact ⟨hn, by simp, _, Blk.new w _ _, World.ownsRow_nil _ _ _ _⟩
set_option maxRecDepth 100000 in
set_option maxHeartbeats 1000000 in
theorem alive_any (w : World) : Calls Tryd.prog 6 #[] w fun e w' => e = .returned (.bool true) ∧ Below w.heap.size w w' := by
  obtain ⟨W1, hW1⟩ : ∃ W1, w.alloc (.cells #[.slice none 0 0] 27) = W1 := ⟨_, rfl⟩
  have HL : Hid (IsL w.heap.size W1 w.heap.size []) := Lib.hid (isL_nil rfl (Nat.le_refl _) hW1)
  have HB : Hid (Below w.heap.size w W1) := Lib.hid (by rw [← hW1]; exact (Below.refl _ _).alloc (Nat.le_refl _) _)
  go_enter Tryd.func6, Tryd.ntmps6
  go_wp2_with fail
  refine (add_any w.heap.size w.heap.size [] 11 7 ⟨#[116, 97, 103]⟩ W1 HL.out HB.out.size (by decide)).mono ?_
  rintro e w2 ⟨⟨v, rfl⟩, hL, hb⟩
  rw [dadd_tag] at hL
  have HP2 : Hid (IsP w.heap.size w2 (.pointer (some ⟨w.heap.size, 0, none⟩)) [tagD]) := Lib.hid (.inr ⟨_, rfl, hL⟩)
  have HB2 := Lib.hid (HB.out.trans hb)
  clear hL hb HL HB hW1
  go_wp2_with fail
  refine (show Calls Tryd.prog 14 #[.pointer (some ⟨w.heap.size, 0, none⟩)] w2 (fun e w' => e = .returned (.tuple #[.agg #[.int .i64 11, .int .i64 7, .string ⟨#[116, 97, 103]⟩], .bool true]) ∧ Below w2.heap.size w2 w') from first_any w.heap.size _ [tagD] w2 HP2.out).mono ?_
  rintro e w3 ⟨rfl, hb⟩
  have HP3 := Lib.hid (HP2.out.kept hb)
  have HB3 := Lib.hid (HB2.out.trans (hb.mono HB2.out.size))
  clear hb HP2 HB2
  obtain ⟨W4, hW4⟩ : ∃ W4, w3.alloc (.cells #[.int .i64 0, .int .i64 0, .string ⟨#[]⟩] 40) = W4 := ⟨_, rfl⟩
  have r1 : Blk W4 w3.heap.size 40 #[.int .i64 0, .int .i64 0, .string ⟨#[]⟩] := by rw [← hW4]; exact Blk.new w3 _ _
  have g20 := r1.cell 0; have g21 := r1.cell 1; have g22 := r1.cell 2
  have g2f0 := r1.frozen 0; have g2f1 := r1.frozen 1; have g2f2 := r1.frozen 2
  simp only [List.getElem?_toArray, List.getElem?_cons_zero, List.getElem?_cons_succ] at g20 g21 g22
  obtain ⟨W5, hW5⟩ : ∃ W5, ((W4.setCell ⟨w3.heap.size, 0, none⟩ (.int .i64 11)).setCell ⟨w3.heap.size, 1, none⟩ (.int .i64 7)).setCell ⟨w3.heap.size, 2, none⟩ (.string ⟨#[116, 97, 103]⟩) = W5 := ⟨_, rfl⟩
  have p1 : Blk W5 w3.heap.size 40 #[.int .i64 11, .int .i64 7, .string ⟨#[116, 97, 103]⟩] := by rw [← hW5]; exact ((r1.set_ 0 (.int .i64 11)).set_ 1 (.int .i64 7)).set_ 2 (.string ⟨#[116, 97, 103]⟩)
  have hb5 : Below w3.heap.size w3 W5 := by
    rw [← hW5, ← hW4]
    exact ((((Below.refl _ w3).alloc (Nat.le_refl _) _).setCell (p := ⟨w3.heap.size, 0, none⟩) (by simp) _).setCell (p := ⟨w3.heap.size, 1, none⟩) (by simp) _).setCell (p := ⟨w3.heap.size, 2, none⟩) (by simp) _
  have HP5 := Lib.hid (HP3.out.kept hb5)
  have HB5 := Lib.hid (HB3.out.trans (hb5.mono HB3.out.size))
  obtain ⟨c0, c1, c2⟩ := dcells p1
  clear hb5 HP3 HB3 r1
  go_wp2_with fail
  refine (text1 _).mono ?_
  rintro e w6 ⟨rfl, hb⟩
  have HP6 := Lib.hid (HP5.out.kept hb)
  have HB6 := Lib.hid (HB5.out.trans (hb.mono HB5.out.size))
  clear hb HP5 HB5 c0 c1 c2 g20 g21 g22 g2f0 g2f1 g2f2
  go_wp2_with fail
  refine (len_any w.heap.size [tagD] _ w6 HP6.out).mono ?_
  rintro e w7 ⟨rfl, rfl⟩
  go_wp2_with fail
  refine (name0 _).mono ?_
  rintro e w7 ⟨rfl, rfl⟩
  go_wp2_with fail
  go_ret
  exact ⟨rfl, HB6.out⟩
end Go.Proofs.YtinkdjplehaibaaDoor
