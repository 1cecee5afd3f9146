/-
  XtokBack: a text that was escaped is told as it was.
-/
import Derived.Test.YtkebjllehegjlaaGreatDoorYd
import Derived.Test.YtkebjllehegjlaaGreatDoorYe
import Derived.Test.YtkebjllehegjlaaGreatDoorPost
namespace Go.Proofs.YtkebjllehegjlaaGreatDoor
open Go.RowKit Go.Shelf
set_option linter.unusedVariables false
theorem text_self (v : ByteArray) : (⟨v.data.toList.toArray⟩ : ByteArray) = v := by cases v; rfl
theorem flat_len (f : UInt8 → List UInt8) (k : Nat) (hf : ∀ c, (f c).length ≤ k) (l : List UInt8) : (l.flatMap f).length ≤ k * l.length := by
  induction l with
  | nil => simp
  | cons c l ih =>
    rw [List.flatMap_cons, List.length_append, List.length_cons, Nat.mul_add]
    have := hf c
    omega
set_option maxRecDepth 100000 in
set_option maxHeartbeats 16000000 in
theorem xtokBack.walk (v : ByteArray) (hv0 : v.size ≤ maxLen) (w : World) : Calls Tryz.prog 3 #[.string v] w fun e w' => e = .returned (.bool true) ∧ Below w.heap.size w w' := by
  have HAl := Lib.hid (fun W => alive_any W)
  by_cases hvl : 1000 < v.size
  · have hvi : (1000 : Int) < (v.size : Int) := by omega
    go_enter Tryz.func3, Tryz.ntmps3
    go_wp2_with fail
    refine (HAl.out _).mono ?_
    rintro e w1 ⟨rfl, hb⟩
    have HB := Lib.hid hb
    clear hb
    go_wp2_with fail
    go_ret
    exact ⟨rfl, HB.out⟩
  have hvi : ¬ (1000 : Int) < (v.size : Int) := by omega
  have hv3 : v.size ≤ 1000 := by omega
  have HCh := Lib.hid (fun W => chars_any v (by omega) W)
  have hvlen : v.data.toList.length = v.size := by simp
  obtain ⟨E, hE⟩ : ∃ E : ByteArray, ⟨(v.data.toList.flatMap (escF true)).toArray⟩ = E := ⟨_, rfl⟩
  obtain ⟨F, hF⟩ : ∃ F : ByteArray, ⟨(v.data.toList.flatMap (escF false)).toArray⟩ = F := ⟨_, rfl⟩
  have HEs := Lib.hid (fun W => escape_any v true (by omega) W)
  have HFs := Lib.hid (fun W => escape_any v false (by omega) W)
  simp only [hE] at HEs
  simp only [hF] at HFs
  have hEl : E.data.toList = v.data.toList.flatMap (escF true) := by rw [← hE]
  have hFl : F.data.toList = v.data.toList.flatMap (escF false) := by rw [← hF]
  have hE3 : E.size ≤ 6000 := by
    have := flat_len (escF true) 6 (esc_len true) v.data.toList
    rw [show E.size = E.data.toList.length by simp, hEl]
    omega
  have hF3 : F.size ≤ 6000 := by
    have := flat_len (escF false) 6 (esc_len false) v.data.toList
    rw [show F.size = F.data.toList.length by simp, hFl]
    omega
  have hEi : (E.size : Int) ≤ 6000 := by omega
  have hFi : (F.size : Int) ≤ 6000 := by omega
  have hs1 : ((⟨#[60, 97, 32, 98, 61, 34]⟩ : ByteArray) ++ E ++ ⟨#[34, 62]⟩ ++ F ++ ⟨#[60, 47, 97, 62]⟩).data.toList = backText (v.data.toList.flatMap (escF true)) (v.data.toList.flatMap (escF false)) := by
    rw [back_flat, ByteArray.toList_data_append, ByteArray.toList_data_append, ByteArray.toList_data_append, ByteArray.toList_data_append, hEl, hFl]
    simp
  have hz1 : ((⟨#[60, 97, 32, 98, 61, 34]⟩ : ByteArray) ++ E ++ ⟨#[34, 62]⟩ ++ F ++ ⟨#[60, 47, 97, 62]⟩).size ≤ 60000 := by
    rw [ByteArray.size_append, ByteArray.size_append, ByteArray.size_append, ByteArray.size_append]
    show 6 + E.size + 2 + F.size + 4 ≤ 60000
    omega
  have HCut : Hid (good v.data.toList → ∀ W, Calls Tryz.prog 6 #[.string ((⟨#[60, 97, 32, 98, 61, 34]⟩ : ByteArray) ++ E ++ ⟨#[34, 62]⟩ ++ F ++ ⟨#[60, 47, 97, 62]⟩)] W fun e w' => ∃ tk k j, e = .returned (.tuple #[tk, .agg #[.int .i64 0, .int .i64 0, .string ⟨#[]⟩]]) ∧ Told w' tk (tkB v.data.toList k j) ∧ Below W.heap.size W w') := Lib.hid (fun hg W => cut_back _ hz1 v.data.toList (by omega) hs1 hg W)
  obtain ⟨z, hz⟩ : ∃ z, v.toList.isEmpty = z := ⟨_, rfl⟩
  have Hz : Hid (z = true ↔ v.data.toList = []) := Lib.hid (by
    rw [← hz, ByteArray.toList_eq]
    cases v.data.toList <;> simp)
  have hTT : (v.toList == v.toList) = true := by simp
  clear hvl hv0 hvlen hE hF hEl hFl hE3 hF3 hs1 hz1
  go_enter Tryz.func3, Tryz.ntmps3
  go_wp2_with fail
  refine (HCh.out _).mono ?_
  rintro e w1 ⟨B, rfl, hg, hb⟩
  have HG := Lib.hid hg
  have HB := Lib.hid hb
  clear hb hg HCh
  cases B with
  | false =>
    go_wp2_with fail
    refine (HAl.out _).mono ?_
    rintro e w2 ⟨rfl, hb⟩
    have HB2 := Lib.hid (HB.out.trans (hb.mono HB.out.size))
    clear hb HB
    go_wp2_with fail
    go_ret
    exact ⟨rfl, HB2.out⟩
  | true =>
    have HCt := Lib.hid (HCut.out (HG.out rfl))
    clear HCut HG
    go_wp2_with fail
    refine (HAl.out _).mono ?_
    rintro e w2 ⟨rfl, hb⟩
    have HB2 := Lib.hid (HB.out.trans (hb.mono HB.out.size))
    clear hb HB HAl
    go_wp2_with fail
    refine (HEs.out _).mono ?_
    rintro e w3 ⟨rfl, hb⟩
    have HB3 := Lib.hid (HB2.out.trans (hb.mono HB2.out.size))
    clear hb HB2 HEs
    go_wp2_with fail
    refine (HFs.out _).mono ?_
    rintro e w4 ⟨rfl, hb⟩
    have HB4 := Lib.hid (HB3.out.trans (hb.mono HB3.out.size))
    clear hb HB3 HFs
    go_wp2_with fail
    refine (HCt.out _).mono ?_
    rintro e w5 ⟨tk, k, j, rfl, ht, hb⟩
    have hb5 := HB4.out.trans (hb.mono HB4.out.size)
    have HB5 := Lib.hid (hb5.alloc hb5.size (.cells #[.int .i64 0, .int .i64 0, .string ⟨#[]⟩] 27))
    have e3 := Blk.new w5 27 #[.int .i64 0, .int .i64 0, .string ⟨#[]⟩]
    have a0 := e3.cell 0
    simp only [List.getElem?_toArray, List.getElem?_cons_zero] at a0
    have T := ht.below ((Below.refl _ _).alloc (Nat.le_refl _) (.cells #[.int .i64 0, .int .i64 0, .string ⟨#[]⟩] 27))
    obtain ⟨g, cap, ga, ca, rfl, t4, t1, t6⟩ := T.back
    rw [text_self] at t1 t6
    cases z with
    | true =>
      have hv0 := Hz.out.1 rfl
      rw [if_pos hv0]
      clear hb hb5 HB4 HCt e3 T ht t6 hv0 Hz
      go_wp2_with fail
      go_ret
      exact ⟨rfl, HB5.out⟩
    | false =>
      have hv0 : v.data.toList ≠ [] := fun h => by have := Hz.out.2 h; cases this
      obtain ⟨t6, t9⟩ := t6 hv0
      rw [if_neg hv0]
      clear hb hb5 HB4 HCt e3 T ht hv0 Hz
      go_wp2_with fail
      go_ret
      exact ⟨rfl, HB5.out⟩
end Go.Proofs.YtkebjllehegjlaaGreatDoor
