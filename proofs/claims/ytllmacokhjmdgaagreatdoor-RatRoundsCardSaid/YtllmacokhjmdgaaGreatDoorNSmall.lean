/-
  Law 1: numbers: is it 0, a small one, how many digits.
-/
import Derived.Test.YtllmacokhjmdgaaGreatDoorNText
namespace Go.Proofs.YtllmacokhjmdgaaGreatDoor
open Go.RowKit
set_option linter.unusedVariables false
theorem isN_zero_iff {w : World} {a : Option Addr} {n c N : Nat} (h : IsN w (.agg #[.slice a n c]) N) : n = 0 ↔ N = 0 := by
  obtain ⟨a', c', us, he, _, _, _, hv, _, hl, _⟩ := h
  have hn : n = us.length := by
    have h1 := congrArg (fun v => match v with | Value.agg xs => xs[0]? | _ => none) he
    simp at h1
    exact h1.2.1
  constructor
  · intro h0
    have : us = [] := List.eq_nil_of_length_eq_zero (by omega)
    rw [← hv, this]; rfl
  · intro h0
    by_cases hne : us = []
    · rw [hn, hne]; rfl
    · have := wv_pos hne (hl hne); omega
theorem isN_form {w : World} {v : Value} {N : Nat} (h : IsN w v N) : ∃ a n c, v = .agg #[.slice a n c] := by
  obtain ⟨a, c, us, rfl, _⟩ := h
  exact ⟨_, _, _, rfl⟩
def ZeroIs (N : Nat) (w : World) (e : Ending) (w' : World) : Prop := (N = 0 ∧ e = .returned (.bool true) ∨ N ≠ 0 ∧ e = .returned (.bool false)) ∧ Below w.heap.size w w'
set_option maxRecDepth 100000 in
set_option maxHeartbeats 1000000 in
theorem zero_any (N : Nat) (v : Value) (w : World) (h : IsN w v N) : Calls Tryz.prog 50 #[v] w (ZeroIs N w) := by
  obtain ⟨a, n, c, rfl⟩ := isN_form h
  have hz := isN_zero_iff h
  clear h
  by_cases h0 : n = 0
  · subst h0
    obtain ⟨W1, hW1⟩ : ∃ W1, w.alloc (.cells #[.slice a 0 c] 26) = W1 := ⟨_, rfl⟩
    have hk : Blk W1 w.heap.size 26 #[.slice a 0 c] := by rw [← hW1]; exact Blk.new w _ _
    have HB : Hid (Below w.heap.size w W1) := Lib.hid (by rw [← hW1]; exact (Below.refl _ _).alloc (Nat.le_refl _) _)
    have hk0 := hk.cell 0
    simp only [List.getElem?_toArray, List.getElem?_cons_zero] at hk0
    have HR : Hid (ZeroIs N w (.returned (.bool true)) W1) := Lib.hid ⟨.inl ⟨hz.1 rfl, rfl⟩, HB.out⟩
    clear hz hk
    go_enter Tryz.func50, Tryz.ntmps50
    go_wp2_with fail
    go_ret
    exact HR.out
  · have hi : ((n : Int) == 0) = false := by simp; omega
    obtain ⟨W1, hW1⟩ : ∃ W1, w.alloc (.cells #[.slice a n c] 26) = W1 := ⟨_, rfl⟩
    have hk : Blk W1 w.heap.size 26 #[.slice a n c] := by rw [← hW1]; exact Blk.new w _ _
    have HB : Hid (Below w.heap.size w W1) := Lib.hid (by rw [← hW1]; exact (Below.refl _ _).alloc (Nat.le_refl _) _)
    have hk0 := hk.cell 0
    simp only [List.getElem?_toArray, List.getElem?_cons_zero] at hk0
    have HR : Hid (ZeroIs N w (.returned (.bool false)) W1) := Lib.hid ⟨.inr ⟨fun h => h0 (hz.2 h), rfl⟩, HB.out⟩
    clear hz hk h0
    go_enter Tryz.func50, Tryz.ntmps50
    go_wp2_with fail
    go_ret
    exact HR.out
def GaveN (N : Nat) (w : World) (e : Ending) (w' : World) : Prop := ∃ v, e = .returned v ∧ IsN w' v N ∧ Below w.heap.size w w'
set_option maxRecDepth 100000 in
set_option maxHeartbeats 1000000 in
theorem digits_any (N : Nat) (v : Value) (w : World) (h : IsN w v N) (htab : Tab w) : Calls Tryz.prog 111 #[v] w fun e w' => e = .returned (.int .i64 ((Lib.nDigits N : Nat) : Int)) ∧ Below w.heap.size w w' := by
  obtain ⟨a, n, c, rfl⟩ := isN_form h
  obtain ⟨W1, hW1⟩ : ∃ W1, w.alloc (.cells #[.slice a n c] 26) = W1 := ⟨_, rfl⟩
  have hk : Blk W1 w.heap.size 26 #[.slice a n c] := by rw [← hW1]; exact Blk.new w _ _
  have hb : Below w.heap.size w W1 := by rw [← hW1]; exact (Below.refl _ _).alloc (Nat.le_refl _) _
  have HB := Lib.hid hb
  have hk0 := hk.cell 0
  simp only [List.getElem?_toArray, List.getElem?_cons_zero] at hk0
  have HT := Lib.hid (text_any N (.agg #[.slice a n c]) W1 (h.below hb (Nat.le_refl _)) (htab.below hb (Nat.le_refl _)))
  obtain ⟨T, hT⟩ : ∃ T : ByteArray, ⟨(Lib.decDigits N).toArray⟩ = T := ⟨_, rfl⟩
  have hTs : Hid ((T.size : Int) = ((Lib.nDigits N : Nat) : Int)) := Lib.hid (by rw [← hT]; show (((Lib.decDigits N).toArray.size : Nat) : Int) = _; rw [List.size_toArray, Lib.decDigits_length])
  have hsz : w.heap.size ≤ W1.heap.size := hb.size
  clear hk h hb htab
  go_enter Tryz.func111, Tryz.ntmps111
  go_wp2_with fail
  refine HT.out.mono ?_
  rintro e w2 ⟨rfl, hb2⟩
  rw [hT]
  have HB2 := Lib.hid (HB.out.trans (hb2.mono hsz))
  clear hb2 HT hT
  go_wp2_with fail
  go_ret
  exact ⟨congrArg (fun z : Int => Ending.returned (.int .i64 z)) hTs.out, HB2.out⟩
set_option maxRecDepth 100000 in
set_option maxHeartbeats 1000000 in
theorem of_any (u : Nat) (hu : u < 18446744073709551616) (w : World) : Calls Tryz.prog 11 #[.int .u64 (u : Int)] w (GaveN u w) := by
  obtain ⟨W1, hW1⟩ : ∃ W1, w.alloc (.cells #[.slice none 0 0] 26) = W1 := ⟨_, rfl⟩
  have hk : Blk W1 w.heap.size 26 #[.slice none 0 0] := by rw [← hW1]; exact Blk.new w _ _
  have hb : Below w.heap.size w W1 := by rw [← hW1]; exact (Below.refl _ _).alloc (Nat.le_refl _) _
  obtain ⟨U, hU⟩ : ∃ U : Int, (u : Int) = U := ⟨_, rfl⟩
  obtain ⟨W2, hW2⟩ : ∃ W2, W1.alloc (.cells #[.int .u64 U] 22) = W2 := ⟨_, rfl⟩
  have hb2 : Below W1.heap.size W1 W2 := by rw [← hW2]; exact (Below.refl _ _).alloc (Nat.le_refl _) _
  have hc2 : W2.cell? ⟨W1.heap.size, 0, none⟩ = some (.int .u64 (u : Int)) := by rw [← hW2, hU]; exact (Blk.new W1 _ _).cell 0
  have hsz1 : W1.heap.size = w.heap.size + 1 := by rw [← hW1]; simp
  obtain ⟨us, hus⟩ : ∃ us, [u] = us := ⟨_, rfl⟩
  have hul : us.length = 1 := by rw [← hus]; rfl
  have hur : UR W2 (some ⟨W1.heap.size, 0, none⟩) us := fun i hi => by
    have hi0 : i = 0 := by omega
    subst hi0
    refine ⟨_, rfl, by rw [← hW2]; simp, ?_⟩
    rw [← hus]
    exact hc2
  have hwrd : Wrd us := fun x hx => by rw [← hus] at hx; simp at hx; omega
  have hval : wv us = u := by rw [← hus]; simp [wv]
  have HTr := Lib.hid (trim_any (some ⟨W1.heap.size, 0, none⟩) 1 us W2 hur (by omega) (by omega))
  obtain ⟨m, hm⟩ : ∃ m, tlen us us.length = m := ⟨_, rfl⟩
  rw [hul] at HTr
  have hk2 : Blk W2 w.heap.size 26 #[.slice none 0 0] := hk.below hb2 (by omega)
  have HN : Hid (∀ w' x, Below W2.heap.size W2 w' → IsN (w'.setCell ⟨w.heap.size, 0, none⟩ x) (.agg #[trimV (some ⟨W1.heap.size, 0, none⟩) 1 m]) u) := Lib.hid (fun w' x hb => by
    have h1 := isN_trim ((hur.below hb (Nat.le_refl _)).far (B := w.heap.size + 1) (b := w.heap.size) (i := 0) (by omega) (.inr ⟨_, rfl, by omega⟩) x) hwrd (c := 1) (by omega) (by omega)
    rw [hval, hm] at h1
    exact h1)
  rw [hsz1] at HTr HN
  have HB2 := Lib.hid (hb.trans (hb2.mono (by omega)))
  have HK2 := Lib.hid hk2
  have hsz2 : w.heap.size < W2.heap.size := hk2.lt
  rw [hU]
  clear hk hb hb2 hc2 hur hwrd hk2 hU hu hus hval
  go_enter Tryz.func11, Tryz.ntmps11
  go_wp2_with fail
  refine HTr.out.mono ?_
  rintro e w5 ⟨rfl, hb5⟩
  have hk5 : Blk w5 w.heap.size 26 #[.slice none 0 0] := HK2.out.below hb5 hsz2
  have hk50 := hk5.cell 0; have hk5f := hk5.frozen 0
  simp only [List.getElem?_toArray, List.getElem?_cons_zero] at hk50
  rw [hm]
  clear hm
  obtain ⟨tv, htv⟩ : ∃ tv, trimV (some ⟨w.heap.size + 1, 0, none⟩) 1 m = tv := ⟨_, rfl⟩
  have htvs : ∃ x y z, tv = .slice x y z := by
    rw [← htv]; unfold trimV; split
    · exact ⟨_, _, _, rfl⟩
    · exact ⟨_, _, _, rfl⟩
  obtain ⟨tx, ty, tz, rfl⟩ := htvs
  have HN5 := Lib.hid (fun x => HN.out w5 x hb5)
  rw [htv] at HN5 ⊢
  have HB5 := Lib.hid (HB2.out.trans (hb5.mono (by omega)))
  have HK5 := Lib.hid hk5
  clear hb5 hk5 htv HN HTr
  go_wp2_with fail
  refine bodyPost_ret (res_nat rfl _ _ w.heap.size (.slice tx ty tz) rfl (HK5.out.set_ 0 _)) rfl ?_
  exact ⟨_, rfl, HN5.out _, HB5.out.setCell (p := ⟨w.heap.size, 0, none⟩) (Nat.le_refl _) _⟩
end Go.Proofs.YtllmacokhjmdgaaGreatDoor
