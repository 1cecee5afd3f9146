/-
 Law 2: texts that are cut; texts of numbers.
 Law 2: Parse.
 Law 2: the text of a fraction, read.
-/
import Derived.Test.YtckglpkafhmehaaGreatDoorQRound
import Derived.Test.YtckglpkafhmehaaGreatDoorShelf
import Derived.Lib.CutLaws
import Derived.Lib.IndexLaws
namespace Go.Proofs.YtckglpkafhmehaaGreatDoor
open Go.RowKit
set_option linter.unusedVariables false
/-- The number of a text; of any other text 0. -/
noncomputable def nn (s : ByteArray) : Nat := by
 classical exact if WF s then dv s.data.toList else 0
/-- The code that is told of a text. -/
noncomputable def cc (s : ByteArray) : Int := by
 classical exact if WF s then 0 else 3
theorem nn_lt {s : ByteArray} {k : Nat} (hs : s.size ≤ 16 * k) : nn s < 18446744073709551616 ^ k := by
 unfold nn
 split
 · rename_i h
   exact Nat.lt_of_lt_of_le (dv_lt s.size s.data.toList (by simp) h.dig) (ten_pow hs)
 · exact Nat.pow_pos (by decide)
theorem nparse (s : ByteArray) (w : World) (hs : s.size ≤ 1200) : Calls Tryz.prog 33 #[.string s] w fun e w' => ∃ x y z, e = .returned (.tuple #[.agg #[.slice x y z], .int .i64 (cc s)]) ∧ IsN w' (.agg #[.slice x y z]) (nn s) ∧ Below w.heap.size w w' :=
 (parse_any s w (by unfold maxLen; omega)).mono fun e w' ⟨h, hb⟩ => by
  rcases h with ⟨h1, _, v, rfl, h2⟩ | ⟨h1, rfl⟩ | ⟨_, h1, _⟩
  · obtain ⟨x, y, z, rfl⟩ := isN_form h2
    refine ⟨x, y, z, by unfold cc; rw [if_pos h1], ?_, hb⟩
    unfold nn; rw [if_pos h1]; exact h2
  · refine ⟨none, 0, 0, by unfold cc; rw [if_neg h1], ?_, hb⟩
    unfold nn; rw [if_neg h1]; exact isN_zero w'
  · omega
theorem cc_cases (s : ByteArray) : (WF s ∧ cc s = 0) ∨ (¬ WF s ∧ cc s = 3 ∧ nn s = 0) := by
 by_cases h : WF s
 · exact .inl ⟨h, by unfold cc; rw [if_pos h]⟩
 · exact .inr ⟨h, by unfold cc; rw [if_neg h], by unfold nn; rw [if_neg h]⟩
/-- Does the text begin with '-', and what is behind it? -/
def ng (s : ByteArray) : Bool := Lib.hasPrefix s.data.toList [45]
def bd (s : ByteArray) : ByteArray := if ng s then s.extract 1 s.size else s
theorem bd_size (s : ByteArray) : (bd s).size ≤ s.size := by
 unfold bd
 split
 · simp
 · exact Nat.le_refl _
theorem ng_size {s : ByteArray} (h : ng s = true) : 1 ≤ s.size := by
 unfold ng Lib.hasPrefix at h
 have e : s.size = s.data.toList.length := by simp
 rw [e]
 cases hl : s.data.toList with
 | nil => rw [hl] at h; simp at h
 | cons b r => simp
set_option maxRecDepth 100000 in
theorem cutp_lite (s : ByteArray) (w : World) (hs : s.size ≤ 1200) : Calls Tryz.prog 31 #[.string s, .string ⟨#[45]⟩] w fun e w' => e = .returned (.tuple #[.string (bd s), .bool (ng s)]) ∧ w' = w := by
 have HP := Lib.hid (Tryz.stringslite_HasPrefix s ⟨#[45]⟩ w)
 obtain ⟨z, hz⟩ : ∃ z, ng s = z := ⟨_, rfl⟩
 have hz' : Lib.hasPrefix s.data.toList (⟨#[45]⟩ : ByteArray).data.toList = z := hz
 rw [hz'] at HP
 obtain ⟨B, hB⟩ : ∃ B, bd s = B := ⟨_, rfl⟩
 have hB' := hB
 unfold bd at hB'
 rw [hz] at hB' ⊢
 rw [hB]
 cases z with
 | true =>
  have hs1 := ng_size hz
  rw [if_pos rfl] at hB'
  have HB := Lib.hid hB'
  have c1 : (1 : Int) ≤ (s.size : Int) := by omega
  clear hz hz' hB hB'
  go_enter Tryz.func31, Tryz.ntmps31
  go_wp2_with fail
  refine HP.out.mono ?_
  rintro e w2 ⟨rfl, rfl⟩
  go_wp2_with fail
  go_ret2
  exact ⟨by rw [← HB.out]; rfl, rfl⟩
 | false =>
  rw [if_neg (by decide)] at hB'
  subst hB'
  clear hz hz' hB
  go_enter Tryz.func31, Tryz.ntmps31
  go_wp2_with fail
  refine HP.out.mono ?_
  rintro e w2 ⟨rfl, rfl⟩
  go_wp2_with fail
  go_ret2
  exact ⟨rfl, rfl⟩
set_option maxRecDepth 100000 in
theorem cutp_any (s : ByteArray) (w : World) (hs : s.size ≤ 1200) : Calls Tryz.prog 14 #[.string s, .string ⟨#[45]⟩] w fun e w' => e = .returned (.tuple #[.string (bd s), .bool (ng s)]) ∧ w' = w := by
 have HP := Lib.hid (cutp_lite s w hs)
 obtain ⟨z, hz⟩ : ∃ z, ng s = z := ⟨_, rfl⟩
 obtain ⟨B, hB⟩ : ∃ B, bd s = B := ⟨_, rfl⟩
 rw [hz, hB] at HP ⊢
 clear hz hB
 go_enter Tryz.func14, Tryz.ntmps14
 go_wp2_with fail
 refine HP.out.mono ?_
 rintro e w2 ⟨rfl, rfl⟩
 go_wp2_with fail
 go_ret2
 exact ⟨rfl, rfl⟩
/-- Where '/' stands: the place, or the text's size. -/
def sl (s : ByteArray) : Option Nat := if 0 ≤ Lib.indexByte s.data.toList 47 then some (Lib.indexByte s.data.toList 47).toNat else none
def above (s : ByteArray) : ByteArray := match sl s with | some i => s.extract 0 i | none => s
def under (s : ByteArray) : ByteArray := match sl s with | some i => s.extract (i + 1) s.size | none => ⟨#[]⟩
theorem idx_lt {l : List UInt8} {c : UInt8} {i : Nat} (h : Lib.indexByte l c = i) : i < l.length := (List.getElem?_eq_some_iff.1 (Lib.indexByte_some h).1).1
theorem sl_cases (s : ByteArray) : (Lib.indexByte s.data.toList 47 = -1 ∧ sl s = none ∧ above s = s ∧ under s = ⟨#[]⟩) ∨ ∃ i : Nat, Lib.indexByte s.data.toList 47 = i ∧ i < s.size ∧ sl s = some i ∧ above s = s.extract 0 i ∧ under s = s.extract (i + 1) s.size := by
 have hge := Lib.indexByte_ge s.data.toList 47
 by_cases h : 0 ≤ Lib.indexByte s.data.toList 47
 · right
   obtain ⟨i, hi⟩ : ∃ i : Nat, Lib.indexByte s.data.toList 47 = i := ⟨_, (Int.toNat_of_nonneg h).symm⟩
   have hsl : sl s = some i := by unfold sl; rw [if_pos h, hi]; rfl
   refine ⟨i, hi, by have := idx_lt hi; simpa using this, hsl, ?_, ?_⟩
   · unfold above; rw [hsl]
   · unfold under; rw [hsl]
 · left
   have hsl : sl s = none := by unfold sl; rw [if_neg h]
   refine ⟨by omega, hsl, ?_, ?_⟩
   · unfold above; rw [hsl]
   · unfold under; rw [hsl]
set_option maxRecDepth 100000 in
set_option maxHeartbeats 1000000 in
theorem cut_lite (s : ByteArray) (w : World) (hs : s.size ≤ 1200) : Calls Tryz.prog 32 #[.string s, .string ⟨#[47]⟩] w fun e w' => e = .returned (.tuple #[.string (above s), .string (under s), .bool (sl s).isSome]) ∧ Below w.heap.size w w' := by
 have HI := Lib.hid (Tryz.stringslite_Index_one s 47 w)
 rcases sl_cases s with ⟨h1, h2, h3, h4⟩ | ⟨i, h1, hi, h2, h3, h4⟩
 · rw [h1] at HI
   rw [h2, h3, h4]
   clear h1 h2 h3 h4
   go_enter Tryz.func32, Tryz.ntmps32
   go_wp2_with fail
   refine HI.out.mono ?_
   rintro e w2 ⟨rfl, rfl⟩
   go_wp2_with fail
   go_ret3
   exact ⟨rfl, Below.refl _ _⟩
 · rw [h1] at HI
   obtain ⟨A, hA⟩ : ∃ A, above s = A := ⟨_, rfl⟩
   obtain ⟨U, hU⟩ : ∃ U, under s = U := ⟨_, rfl⟩
   rw [hA] at h3 ⊢
   rw [hU] at h4 ⊢
   rw [h2]
   have H3 := Lib.hid h3; have H4 := Lib.hid h4
   have c1 : (0 : Int) ≤ (i : Int) := by omega
   have c2 : (i : Int) ≤ (s.size : Int) := by omega
   have c3 : (0 : Int) ≤ (i : Int) + 1 := by omega
   have c4 : (i : Int) + 1 ≤ (s.size : Int) := by omega
   have hsz := hs
   clear h1 h2 h3 h4 hA hU hi
   go_enter Tryz.func32, Tryz.ntmps32
   go_wp2_with fail
   refine HI.out.mono ?_
   rintro e w2 ⟨rfl, rfl⟩
   go_wp2_with fail
   go_quiet (fail)
   go_wp2_with fail
   go_ret3
   exact ⟨by rw [H3.out, H4.out]; rfl, ⟨rfl, rfl, rfl, Nat.le_refl _, fun _ _ => rfl⟩⟩
set_option maxRecDepth 100000 in
theorem cut_any (s : ByteArray) (w : World) (hs : s.size ≤ 1200) : Calls Tryz.prog 15 #[.string s, .string ⟨#[47]⟩] w fun e w' => e = .returned (.tuple #[.string (above s), .string (under s), .bool (sl s).isSome]) ∧ Below w.heap.size w w' := by
 have HP := Lib.hid (cut_lite s w hs)
 obtain ⟨A, hA⟩ : ∃ A, above s = A := ⟨_, rfl⟩
 obtain ⟨U, hU⟩ : ∃ U, under s = U := ⟨_, rfl⟩
 obtain ⟨z, hz⟩ : ∃ z, (sl s).isSome = z := ⟨_, rfl⟩
 rw [hA, hU, hz] at HP ⊢
 clear hA hU hz
 go_enter Tryz.func15, Tryz.ntmps15
 go_wp2_with fail
 refine HP.out.mono ?_
 rintro e w2 ⟨rfl, hb⟩
 have HB := Lib.hid hb
 clear HP hb
 go_wp2_with fail
 go_ret3
 exact ⟨rfl, HB.out⟩
set_option maxRecDepth 100000 in
set_option maxHeartbeats 1000000 in
theorem read_any (s : ByteArray) (w : World) (hs : s.size ≤ 1200) : Calls Tryz.prog 17 #[.string s] w fun e w' => ∃ x y z, e = .returned (.tuple #[.agg #[.slice x y z], .int .i64 (cc s)]) ∧ IsN w' (.agg #[.slice x y z]) (nn s) ∧ Below w.heap.size w w' := by
 have V := (Mq.refl w).alloc 31 #[.slice none 0 0]
 have HP := Lib.hid (nparse s (w.alloc (.cells #[.slice none 0 0] 31)) hs)
 have hN := nn_lt (k := 100) (s := s) (by omega)
 have hc2 : (cc s != 2) = true := by rcases cc_cases s with ⟨_, h⟩ | ⟨_, h, _⟩ <;> rw [h] <;> rfl
 obtain ⟨C, hC⟩ : ∃ C, cc s = C := ⟨_, rfl⟩
 obtain ⟨N, hNe⟩ : ∃ N, nn s = N := ⟨_, rfl⟩
 rw [hC] at HP hc2 ⊢
 rw [hNe] at HP hN ⊢
 clear hC hNe
 go_enter Tryz.func17, Tryz.ntmps17
 go_wp2_with fail
 refine HP.out.mono ?_
 rintro e w2 ⟨x, y, z, rfl, hn, hb⟩
 have V2 := ((V.below hb).cons hn hN).alloc 31 #[.slice x y z]
 have q2 := V2.n0 0 rfl
 have qr := V2.n0 1 rfl
 have fr := V2.frozen 1 0 rfl
 have HK := Lib.hid (V2.box 1 _ _ _ rfl)
 have HF := Lib.hid (V2.fin1 1 0 rfl rfl)
 clear V V2 hn hb HP
 go_wp2_with fail
 obtain ⟨hf1, x9, y9, z9, he, hf2, hf3⟩ := HF.out
 cases he
 exact bodyPost_ret (res_nat2 rfl _ _ _ _ _ rfl rfl hf1) rfl ⟨_, _, _, rfl, hf2, hf3⟩
/-- The code of a fraction that is told, or none. -/
def oc (o : Option Rat) : Int := match o with | some _ => 0 | none => 3
def GotQ (o : Option Rat) (w : World) (e : Ending) (w' : World) : Prop := ∃ b x y z x' y' z', e = .returned (.tuple #[.agg #[.bool b, .slice x y z, .slice x' y' z'], .int .i64 (oc o)]) ∧ IsR w' (.agg #[.bool b, .slice x y z, .slice x' y' z']) (o.getD 0) ∧ Below w.heap.size w w'
theorem isR_zero (W : World) : IsR W (.agg #[.bool false, .slice none 0 0, .slice none 0 0]) 0 := ⟨none, 0, 0, none, 0, 0, rfl, isN_zero W, isN_zero W⟩
theorem Mq.finz {w W : World} {bx : List (Nat × TypeId × Array Value)} {l : List (Value × Nat)} {r : List (Value × Rat)} (h : Mq w bx l r W) (k : Nat) {b : Nat} {z : Bool} {p : Option Addr} {n c : Nat} {p' : Option Addr} {n' c' : Nat} (e : bx[k]? = some (b, 33, #[.bool z, .slice p n c, .slice p' n' c'])) :
 Blk (set3 W b (.bool false) (.slice none 0 0) (.slice none 0 0)) b 33 #[.bool false, .slice none 0 0, .slice none 0 0] ∧ Below w.heap.size w (set3 W b (.bool false) (.slice none 0 0) (.slice none 0 0)) :=
 ⟨blk_set3 (h.box k b _ _ e).1 _ _ _, below_set3 h.bel (h.box k b _ _ e).2 _ _ _⟩
theorem sgn_abs (z : Bool) (N : Nat) : (sgn z N).natAbs = N := by
 unfold sgn
 split <;> omega
theorem sgn_neg {z : Bool} {N : Nat} (h : N = 0 → z = false) : decide (sgn z N < 0) = z := by
 unfold sgn
 cases z with
 | false => simp
 | true =>
  have : N ≠ 0 := fun e => by have := h e; cases this
  simp; omega
/-- A whole number with a sign. -/
noncomputable def pqw (z : Bool) (d : ByteArray) : Option Rat := by
 classical exact if WF d ∧ ¬ (z = true ∧ nn d = 0) then some ((sgn z (nn d) : Int) : Rat) else none
set_option maxRecDepth 100000 in
set_option maxHeartbeats 1000000 in
theorem whole_q (z : Bool) (s : ByteArray) (w : World) (hs : s.size ≤ 1200) : Calls Tryz.prog 16 #[.bool z, .string s] w (GotQ (pqw z s) w) := by
 have V := ((Mq.refl w).cons (isN_zero w) (Nat.pow_pos (by decide))).alloc 33 #[.bool false, .slice none 0 0, .slice none 0 0]
 have HP := Lib.hid (nparse s (w.alloc (.cells #[.bool false, .slice none 0 0, .slice none 0 0] 33)) hs)
 have hN := nn_lt (k := 100) (s := s) (by omega)
 rcases cc_cases s with ⟨hwf, hc⟩ | ⟨hwf, hc, _⟩
 · rw [hc] at HP
   by_cases hz : z = true ∧ nn s = 0
   · have ho : pqw z s = none := by unfold pqw; rw [if_neg (fun h => h.2 hz)]
     obtain ⟨rfl, h0⟩ := hz
     rw [ho]
     obtain ⟨N, hNe⟩ : ∃ N, nn s = N := ⟨_, rfl⟩
     rw [hNe] at HP hN h0
     clear hwf hc ho hNe
     go_enter Tryz.func16, Tryz.ntmps16
     go_wp2_with fail
     refine HP.out.mono ?_
     rintro e w2 ⟨x, y, z, rfl, hn, hb⟩
     have V2 := ((V.below hb).cons hn hN).alloc 31 #[.slice x y z]
     have q2 := V2.n0 0 rfl
     clear V hn hb HP
     go_wp2_with fail
     refine (V2.zero 0 rfl (decide_eq_true h0)).mono ?_
     rintro e w3 ⟨rfl, V3⟩
     have r0 := V3.c0 1 rfl; have r1 := V3.c1 1 rfl; have r2 := V3.c2 1 rfl
     have f0 := V3.frozen 1 0 rfl; have f1 := V3.frozen 1 1 rfl; have f2 := V3.frozen 1 2 rfl
     have HF := Lib.hid (V3.finz 1 rfl)
     clear V2 V3 q2
     go_wp2_with fail
     exact bodyPost_ret (res_rat2 rfl _ _ _ _ _ _ _ _ _ _ _ rfl rfl HF.out.1) rfl ⟨_, _, _, _, _, _, _, rfl, isR_zero _, HF.out.2⟩
   · have ho : pqw z s = some ((sgn z (nn s) : Int) : Rat) := by unfold pqw; rw [if_pos ⟨hwf, hz⟩]
     rw [ho]
     obtain ⟨N, hNe⟩ : ∃ N, nn s = N := ⟨_, rfl⟩
     rw [hNe] at HP hN hz ⊢
     have hsg : decide (sgn z N < 0) = z := sgn_neg (fun e => by
      cases z with
      | false => rfl
      | true => exact absurd ⟨rfl, e⟩ hz)
     have HSg := Lib.hid hsg
     have Hz := Lib.hid hz
     clear hwf hc ho hNe hsg hz
     cases z with
     | true =>
      have h0 : N ≠ 0 := fun e => Hz.out ⟨rfl, e⟩
      go_enter Tryz.func16, Tryz.ntmps16
      go_wp2_with fail
      refine HP.out.mono ?_
      rintro e w2 ⟨x, y, z, rfl, hn, hb⟩
      have V2 := ((V.below hb).cons hn hN).alloc 31 #[.slice x y z]
      have q2 := V2.n0 0 rfl
      clear V hn hb HP
      go_wp2_with fail
      refine (V2.zero 0 rfl (decide_eq_false h0)).mono ?_
      rintro e w3 ⟨rfl, V3⟩
      have q3 := V3.n0 0 rfl
      have r0 := V3.c0 1 rfl; have r1 := V3.c1 1 rfl; have r2 := V3.c2 1 rfl
      have f0 := V3.frozen 1 0 rfl; have f1 := V3.frozen 1 1 rfl; have f2 := V3.frozen 1 2 rfl
      have HF := Lib.hid (V3.fin3 (x := ((sgn true N : Int) : Rat)) (y := true) (q := x) (m := y) (d := z) (q' := none) (m' := 0) (d' := 0) 1 0 1 rfl (by rw [nd_num, sgn_abs]; rfl) (by rw [nd_den]; rfl) (by rw [Rat.num_intCast]; exact HSg.out))
      clear V2 V3 q2 h0
      go_wp2_with fail
      obtain ⟨hf1, v, he, hf2, hf3⟩ := HF.out
      cases he
      exact bodyPost_ret (res_rat2 rfl _ _ _ _ _ _ _ _ _ _ _ rfl rfl hf1) rfl ⟨_, _, _, _, _, _, _, rfl, hf2, hf3⟩
     | false =>
      go_enter Tryz.func16, Tryz.ntmps16
      go_wp2_with fail
      refine HP.out.mono ?_
      rintro e w2 ⟨x, y, z, rfl, hn, hb⟩
      have V3 := ((V.below hb).cons hn hN).alloc 31 #[.slice x y z]
      have q3 := V3.n0 0 rfl
      have r0 := V3.c0 1 rfl; have r1 := V3.c1 1 rfl; have r2 := V3.c2 1 rfl
      have f0 := V3.frozen 1 0 rfl; have f1 := V3.frozen 1 1 rfl; have f2 := V3.frozen 1 2 rfl
      have HF := Lib.hid (V3.fin3 (x := ((sgn false N : Int) : Rat)) (y := false) (q := x) (m := y) (d := z) (q' := none) (m' := 0) (d' := 0) 1 0 1 rfl (by rw [nd_num, sgn_abs]; rfl) (by rw [nd_den]; rfl) (by rw [Rat.num_intCast]; exact HSg.out))
      clear V V3 hn hb HP
      go_wp2_with fail
      obtain ⟨hf1, v, he, hf2, hf3⟩ := HF.out
      cases he
      exact bodyPost_ret (res_rat2 rfl _ _ _ _ _ _ _ _ _ _ _ rfl rfl hf1) rfl ⟨_, _, _, _, _, _, _, rfl, hf2, hf3⟩
 · rw [hc] at HP
   have ho : pqw z s = none := by unfold pqw; rw [if_neg (fun h => hwf h.1)]
   rw [ho]
   clear hwf hc ho
   go_enter Tryz.func16, Tryz.ntmps16
   go_wp2_with fail
   refine HP.out.mono ?_
   rintro e w2 ⟨x, y, z, rfl, hn, hb⟩
   have V3 := (V.below hb).alloc 31 #[.slice x y z]
   have r0 := V3.c0 1 rfl; have r1 := V3.c1 1 rfl; have r2 := V3.c2 1 rfl
   have f0 := V3.frozen 1 0 rfl; have f1 := V3.frozen 1 1 rfl; have f2 := V3.frozen 1 2 rfl
   have HF := Lib.hid (V3.finz 1 rfl)
   clear V V3 hn hb HP
   go_wp2_with fail
   exact bodyPost_ret (res_rat2 rfl _ _ _ _ _ _ _ _ _ _ _ rfl rfl HF.out.1) rfl ⟨_, _, _, _, _, _, _, rfl, isR_zero _, HF.out.2⟩
end Go.Proofs.YtckglpkafhmehaaGreatDoor
namespace Go.Proofs.YtckglpkafhmehaaGreatDoor
open Go.RowKit
set_option linter.unusedVariables false
/-- What Parse tells of a text. -/
noncomputable def pq (s : ByteArray) : Option Rat := by
 classical exact if sl (bd s) = none then pqw (ng s) (bd s) else
  if (WF (above (bd s)) ∧ WF (under (bd s))) ∧ nn (under (bd s)) ≠ 0 ∧ nn (under (bd s)) ≠ 1 ∧ Nat.gcd (nn (above (bd s))) (nn (under (bd s))) = 1 then some (mkRat (sgn (ng s) (nn (above (bd s)))) (nn (under (bd s)))) else none
theorem mk_parts {n : Int} {q : Nat} (hq : q ≠ 0) (hg : Nat.gcd n.natAbs q = 1) : (mkRat n q).num = n ∧ (mkRat n q).den = q := by
 rw [← Rat.normalize_eq_mkRat hq]
 rw [Rat.num_normalize, Rat.den_normalize, hg]
 simp
theorem above_size (s : ByteArray) : (above s).size ≤ s.size := by
 rcases sl_cases s with ⟨_, _, h, _⟩ | ⟨i, _, hi, _, h, _⟩ <;> rw [h]
 · exact Nat.le_refl _
 · simp; omega
theorem under_size (s : ByteArray) : (under s).size ≤ s.size := by
 rcases sl_cases s with ⟨_, _, _, h⟩ | ⟨i, _, hi, _, _, h⟩ <;> rw [h]
 · exact Nat.zero_le _
 · simp
set_option maxRecDepth 100000 in
set_option maxHeartbeats 2000000 in
theorem parse_whole (s : ByteArray) (w : World) (hs : s.size ≤ 1200) (h : sl (bd s) = none) : Calls Tryz.prog 9 #[.string s] w (GotQ (pq s) w) := by
 have ho : pq s = pqw (ng s) (bd s) := by unfold pq; rw [if_pos h]
 have hb := bd_size s
 have V := (Mq.refl w).alloc 33 #[.bool false, .slice none 0 0, .slice none 0 0]
 have HCp := Lib.hid (cutp_any s (w.alloc (.cells #[.bool false, .slice none 0 0, .slice none 0 0] 33)) hs)
 have HCut := Lib.hid (cut_any (bd s) (w.alloc (.cells #[.bool false, .slice none 0 0, .slice none 0 0] 33)) (by omega))
 have ha : above (bd s) = bd s := by rcases sl_cases (bd s) with ⟨_, _, h2, _⟩ | ⟨i, _, _, h2, _⟩; exact h2; rw [h] at h2; cases h2
 rw [h, ha] at HCut
 rw [ho]
 obtain ⟨z, hz⟩ : ∃ z, ng s = z := ⟨_, rfl⟩
 obtain ⟨B, hB⟩ : ∃ B, bd s = B := ⟨_, rfl⟩
 rw [hz, hB] at HCp ⊢
 rw [hB] at HCut hb
 obtain ⟨U, hU⟩ : ∃ U, under B = U := ⟨_, rfl⟩
 rw [hU] at HCut
 have HW : Hid (∀ W, Calls Tryz.prog 16 #[.bool z, .string B] W (GotQ (pqw z B) W)) := Lib.hid (fun W => whole_q z B W (by omega))
 obtain ⟨o, hoe⟩ : ∃ o, pqw z B = o := ⟨_, rfl⟩
 rw [hoe] at HW ⊢
 clear h ho ha hz hB hU hb hoe
 go_enter Tryz.func9, Tryz.ntmps9
 go_wp2_with fail
 refine HCp.out.mono ?_
 rintro e w1 ⟨rfl, rfl⟩
 go_wp2_with fail
 refine HCut.out.mono ?_
 rintro e w2 ⟨rfl, hb2⟩
 have V2 := V.below hb2
 clear hb2
 clear V
 go_wp2_with fail
 refine (HW.out w2).mono ?_
 rintro e w3 ⟨b, x, y, z, x', y', z', rfl, hr, hb3⟩
 have V3 := V2.below hb3
 have r0 := V3.c0 0 rfl; have r1 := V3.c1 0 rfl; have r2 := V3.c2 0 rfl
 have f0 := V3.frozen 0 0 rfl; have f1 := V3.frozen 0 1 rfl; have f2 := V3.frozen 0 2 rfl
 have HK := Lib.hid (V3.box 0 _ _ _ rfl)
 have HB := Lib.hid V3.bel
 have HR := Lib.hid (isR_put (isR_put (isR_put hr HK.out.1 (plain_rat _ _ _ _ _ _ _) (i := 0) (.bool b)) (HK.out.1.set_ 0 (.bool b)) (plain_rat _ _ _ _ _ _ _) (i := 1) (.slice x y z)) ((HK.out.1.set_ 0 (.bool b)).set_ 1 (.slice x y z)) (plain_rat _ _ _ _ _ _ _) (i := 2) (.slice x' y' z'))
 clear V2 V3 hr hb3
 go_wp2_with fail
 exact bodyPost_ret (res_rat2 rfl _ _ _ _ _ _ _ _ _ _ _ rfl rfl (blk_set3 HK.out.1 _ _ _)) rfl ⟨_, _, _, _, _, _, _, rfl, HR.out, below_set3 HB.out HK.out.2 _ _ _⟩
set_option maxRecDepth 100000 in
set_option maxHeartbeats 4000000 in
theorem parse_frac2 (s : ByteArray) (w : World) (hs : s.size ≤ 1200) (hsa : (above (bd s)).size ≤ 640) (hsu : (under (bd s)).size ≤ 640) (h : sl (bd s) ≠ none) (htb : TabB w) : Calls Tryz.prog 9 #[.string s] w (GotQ (pq s) w) := by
 classical
 have ho : pq s = if (WF (above (bd s)) ∧ WF (under (bd s))) ∧ nn (under (bd s)) ≠ 0 ∧ nn (under (bd s)) ≠ 1 ∧ Nat.gcd (nn (above (bd s))) (nn (under (bd s))) = 1 then some (mkRat (sgn (ng s) (nn (above (bd s)))) (nn (under (bd s)))) else none := by unfold pq; rw [if_neg h]
 have hb := bd_size s
 have V := ((Mq.refl w).cons (isN_zero w) (Nat.pow_pos (by decide))).alloc 33 #[.bool false, .slice none 0 0, .slice none 0 0]
 have HCp := Lib.hid (cutp_any s (w.alloc (.cells #[.bool false, .slice none 0 0, .slice none 0 0] 33)) (by omega))
 have HCut := Lib.hid (cut_any (bd s) (w.alloc (.cells #[.bool false, .slice none 0 0, .slice none 0 0] 33)) (by omega))
 have hsome : (sl (bd s)).isSome = true := by cases hh : sl (bd s) with
  | none => exact absurd hh h
  | some i => rfl
 rw [hsome] at HCut
 obtain ⟨z, hz⟩ : ∃ z, ng s = z := ⟨_, rfl⟩
 have ha1 := above_size (bd s); have hu1 := under_size (bd s)
 obtain ⟨B, hB⟩ : ∃ B, bd s = B := ⟨_, rfl⟩
 rw [hz, hB] at HCp
 rw [hB] at HCut ha1 hu1 hb
 rw [hz, hB] at ho
 obtain ⟨A, hA⟩ : ∃ A, above B = A := ⟨_, rfl⟩
 obtain ⟨U, hU⟩ : ∃ U, under B = U := ⟨_, rfl⟩
 rw [hA, hU] at HCut ho
 rw [hA] at ha1
 rw [hU] at hu1
 rw [hB, hA] at hsa
 rw [hB, hU] at hsu
 have hN := nn_lt (k := 40) (s := A) (by omega)
 have hM := nn_lt (k := 40) (s := U) (by omega)
 have hG100 : Nat.gcd (nn A) (nn U) < 18446744073709551616 ^ 100 := by
  rcases Nat.eq_zero_or_pos (nn U) with h0 | h0
  · rw [h0, Nat.gcd_zero_right]; exact q26 hN
  · exact Nat.lt_of_le_of_lt (Nat.gcd_le_right _ h0) (q26 hM)
 have HRa : Hid (∀ W, Calls Tryz.prog 17 #[.string A] W fun e w' => ∃ x y z, e = .returned (.tuple #[.agg #[.slice x y z], .int .i64 (cc A)]) ∧ IsN w' (.agg #[.slice x y z]) (nn A) ∧ Below W.heap.size W w') := Lib.hid (fun W => read_any A W (by omega))
 have HRu : Hid (∀ W, Calls Tryz.prog 17 #[.string U] W fun e w' => ∃ x y z, e = .returned (.tuple #[.agg #[.slice x y z], .int .i64 (cc U)]) ∧ IsN w' (.agg #[.slice x y z]) (nn U) ∧ Below W.heap.size W w') := Lib.hid (fun W => read_any U W (by omega))
 have HO := Lib.hid ho
 rcases cc_cases A with ⟨hwa, hca⟩ | ⟨hwa, hca, _⟩
 case inr =>
  have hn : pq s = none := by rw [HO.out, if_neg (fun h => hwa h.1.1)]
  rw [hn]
  rw [hca] at HRa
  clear h ho hsome hz hB hA hU ha1 hu1 hb hwa hca hn hG100
  go_enter Tryz.func9, Tryz.ntmps9
  go_wp2_with fail
  refine HCp.out.mono ?_
  rintro e w1 ⟨rfl, rfl⟩
  go_wp2_with fail
  refine HCut.out.mono ?_
  rintro e w2 ⟨rfl, hb2⟩
  have V2 := V.below hb2
  clear hb2
  clear V
  go_wp2_with fail
  refine (HRa.out w2).mono ?_
  rintro e w3 ⟨x, y, z, rfl, hn3, hb3⟩
  have V3 := (V2.below hb3).alloc 31 #[.slice x y z]
  have HF := Lib.hid (V3.finz 1 rfl)
  have r0 := V3.c0 1 rfl; have r1 := V3.c1 1 rfl; have r2 := V3.c2 1 rfl
  have f0 := V3.frozen 1 0 rfl; have f1 := V3.frozen 1 1 rfl; have f2 := V3.frozen 1 2 rfl
  clear V2 V3 hn3 hb3
  go_wp2_with fail
  exact bodyPost_ret (res_rat2 rfl _ _ _ _ _ _ _ _ _ _ _ rfl rfl HF.out.1) rfl ⟨_, _, _, _, _, _, _, rfl, isR_zero _, HF.out.2⟩
 rw [hca] at HRa
 rcases cc_cases U with ⟨hwu, hcu⟩ | ⟨hwu, hcu, _⟩
 case inr =>
  have hn : pq s = none := by rw [HO.out, if_neg (fun h => hwu h.1.2)]
  rw [hn]
  rw [hcu] at HRu
  clear h ho hsome hz hB hA hU ha1 hu1 hb hwa hca hn hwu hcu hG100
  go_enter Tryz.func9, Tryz.ntmps9
  go_wp2_with fail
  refine HCp.out.mono ?_
  rintro e w1 ⟨rfl, rfl⟩
  go_wp2_with fail
  refine HCut.out.mono ?_
  rintro e w2 ⟨rfl, hb2⟩
  have V2 := V.below hb2
  clear hb2
  clear V
  go_wp2_with fail
  refine (HRa.out w2).mono ?_
  rintro e w3 ⟨x, y, z, rfl, hn3, hb3⟩
  have V3 := (V2.below hb3).alloc 31 #[.slice x y z]
  clear V2 hn3 hb3
  go_wp2_with fail
  refine (HRu.out _).mono ?_
  rintro e w4 ⟨x4, y4, z4, rfl, hn4, hb4⟩
  have V4 := (V3.below hb4).alloc 31 #[.slice x4 y4 z4]
  have HF := Lib.hid (V4.finz 2 rfl)
  have r0 := V4.c0 2 rfl; have r1 := V4.c1 2 rfl; have r2 := V4.c2 2 rfl
  have f0 := V4.frozen 2 0 rfl; have f1 := V4.frozen 2 1 rfl; have f2 := V4.frozen 2 2 rfl
  clear V3 V4 hn4 hb4
  go_wp2_with fail
  exact bodyPost_ret (res_rat2 rfl _ _ _ _ _ _ _ _ _ _ _ rfl rfl HF.out.1) rfl ⟨_, _, _, _, _, _, _, rfl, isR_zero _, HF.out.2⟩
 rw [hcu] at HRu
 obtain ⟨P, hP⟩ : ∃ P, nn A = P := ⟨_, rfl⟩
 obtain ⟨D, hD⟩ : ∃ D, nn U = D := ⟨_, rfl⟩
 rw [hP] at HRa hN hG100
 rw [hD] at HRu hM hG100
 have HO2 : Hid (pq s = if (D ≠ 0 ∧ D ≠ 1 ∧ Nat.gcd P D = 1) then some (mkRat (sgn z P) D) else none) := Lib.hid (by
  rw [HO.out, hP, hD]
  by_cases hh : D ≠ 0 ∧ D ≠ 1 ∧ Nat.gcd P D = 1
  · rw [if_pos ⟨⟨hwa, hwu⟩, hh⟩, if_pos hh]
  · rw [if_neg (fun h => hh h.2), if_neg hh])
 have HG := Lib.hid hG100
 have HtB := Lib.hid htb
 clear h ho hsome hz hB hA hU ha1 hu1 hb hwa hca hwu hcu hP hD hG100 HO
 by_cases h0 : D = 0
 · have hn : pq s = none := by rw [HO2.out, if_neg (fun h => h.1 h0)]
   rw [hn]
   clear hn
   go_enter Tryz.func9, Tryz.ntmps9
   go_wp2_with fail
   refine HCp.out.mono ?_
   rintro e w1 ⟨rfl, rfl⟩
   go_wp2_with fail
   refine HCut.out.mono ?_
   rintro e w2 ⟨rfl, hb2⟩
   have V2 := V.below hb2
   clear hb2
   clear V
   go_wp2_with fail
   refine (HRa.out w2).mono ?_
   rintro e w3 ⟨x3, y3, z3, rfl, hn3, hb3⟩
   have V3 := ((V2.below hb3).cons hn3 (q26 hN)).alloc 31 #[.slice x3 y3 z3]
   clear V2 hn3 hb3
   go_wp2_with fail
   refine (HRu.out _).mono ?_
   rintro e w4 ⟨x4, y4, z4, rfl, hn4, hb4⟩
   have V4 := ((V3.below hb4).cons hn4 (q26 hM)).alloc 31 #[.slice x4 y4 z4]
   have q4 := V4.n0 0 rfl
   clear V3 hn4 hb4
   go_wp2_with fail
   refine (V4.zero 0 rfl (decide_eq_true h0)).mono ?_
   rintro e w5 ⟨rfl, V5⟩
   have HF := Lib.hid (V5.finz 2 rfl)
   have r0 := V5.c0 2 rfl; have r1 := V5.c1 2 rfl; have r2 := V5.c2 2 rfl
   have f0 := V5.frozen 2 0 rfl; have f1 := V5.frozen 2 1 rfl; have f2 := V5.frozen 2 2 rfl
   clear V4 V5 q4
   go_wp2_with fail
   exact bodyPost_ret (res_rat2 rfl _ _ _ _ _ _ _ _ _ _ _ rfl rfl HF.out.1) rfl ⟨_, _, _, _, _, _, _, rfl, isR_zero _, HF.out.2⟩
 by_cases h1 : D = 1
 · have hn : pq s = none := by rw [HO2.out, if_neg (fun h => h.2.1 h1)]
   rw [hn]
   clear hn
   go_enter Tryz.func9, Tryz.ntmps9
   go_wp2_with fail
   refine HCp.out.mono ?_
   rintro e w1 ⟨rfl, rfl⟩
   go_wp2_with fail
   refine HCut.out.mono ?_
   rintro e w2 ⟨rfl, hb2⟩
   have V2 := V.below hb2
   clear hb2
   clear V
   go_wp2_with fail
   refine (HRa.out w2).mono ?_
   rintro e w3 ⟨x3, y3, z3, rfl, hn3, hb3⟩
   have V3 := ((V2.below hb3).cons hn3 (q26 hN)).alloc 31 #[.slice x3 y3 z3]
   clear V2 hn3 hb3
   go_wp2_with fail
   refine (HRu.out _).mono ?_
   rintro e w4 ⟨x4, y4, z4, rfl, hn4, hb4⟩
   have V4 := ((V3.below hb4).cons hn4 (q26 hM)).alloc 31 #[.slice x4 y4 z4]
   have q4 := V4.n0 0 rfl
   clear V3 hn4 hb4
   go_wp2_with fail
   refine (V4.zero 0 rfl (decide_eq_false h0)).mono ?_
   rintro e w5 ⟨rfl, V5⟩
   have q5 := V5.n0 0 rfl
   clear V4 q4
   go_wp2_with fail
   refine (V5.one 0 rfl (decide_eq_true h1)).mono ?_
   rintro e w6 ⟨rfl, V6⟩
   have HF := Lib.hid (V6.finz 2 rfl)
   have r0 := V6.c0 2 rfl; have r1 := V6.c1 2 rfl; have r2 := V6.c2 2 rfl
   have f0 := V6.frozen 2 0 rfl; have f1 := V6.frozen 2 1 rfl; have f2 := V6.frozen 2 2 rfl
   clear V5 V6 q5
   go_wp2_with fail
   exact bodyPost_ret (res_rat2 rfl _ _ _ _ _ _ _ _ _ _ _ rfl rfl HF.out.1) rfl ⟨_, _, _, _, _, _, _, rfl, isR_zero _, HF.out.2⟩
 by_cases hg : Nat.gcd P D = 1
 case neg =>
  have hn : pq s = none := by rw [HO2.out, if_neg (fun h => hg h.2.2)]
  rw [hn]
  clear hn
  go_enter Tryz.func9, Tryz.ntmps9
  go_wp2_with fail
  refine HCp.out.mono ?_
  rintro e w1 ⟨rfl, rfl⟩
  go_wp2_with fail
  refine HCut.out.mono ?_
  rintro e w2 ⟨rfl, hb2⟩
  have V2 := V.below hb2
  clear hb2
  clear V
  go_wp2_with fail
  refine (HRa.out w2).mono ?_
  rintro e w3 ⟨x3, y3, z3, rfl, hn3, hb3⟩
  have V3 := ((V2.below hb3).cons hn3 (q26 hN)).alloc 31 #[.slice x3 y3 z3]
  clear V2 hn3 hb3
  go_wp2_with fail
  refine (HRu.out _).mono ?_
  rintro e w4 ⟨x4, y4, z4, rfl, hn4, hb4⟩
  have V4 := ((V3.below hb4).cons hn4 (q26 hM)).alloc 31 #[.slice x4 y4 z4]
  have q4 := V4.n0 0 rfl
  clear V3 hn4 hb4
  go_wp2_with fail
  refine (V4.zero 0 rfl (decide_eq_false h0)).mono ?_
  rintro e w5 ⟨rfl, V5⟩
  have q5 := V5.n0 0 rfl
  clear V4 q4
  go_wp2_with fail
  refine (V5.one 0 rfl (decide_eq_false h1)).mono ?_
  rintro e w6 ⟨rfl, V6⟩
  have q6 := V6.n0 0 rfl; have p6 := V6.n0 1 rfl
  clear V5 q5
  go_wp2_with fail
  refine (V6.gcd 1 0 rfl rfl hN hM HtB.out ⟨rfl, HG.out⟩).mono ?_
  rintro e w7 ⟨x7, y7, z7, rfl, V7⟩
  clear V6 q6 p6
  go_wp2_with fail
  refine (V7.one 0 rfl (decide_eq_false hg)).mono ?_
  rintro e w8 ⟨rfl, V8⟩
  have HF := Lib.hid (V8.finz 2 rfl)
  have r0 := V8.c0 2 rfl; have r1 := V8.c1 2 rfl; have r2 := V8.c2 2 rfl
  have f0 := V8.frozen 2 0 rfl; have f1 := V8.frozen 2 1 rfl; have f2 := V8.frozen 2 2 rfl
  clear V7 V8
  go_wp2_with fail
  exact bodyPost_ret (res_rat2 rfl _ _ _ _ _ _ _ _ _ _ _ rfl rfl HF.out.1) rfl ⟨_, _, _, _, _, _, _, rfl, isR_zero _, HF.out.2⟩
 have hn : pq s = some (mkRat (sgn z P) D) := by rw [HO2.out, if_pos ⟨h0, h1, hg⟩]
 rw [hn]
 obtain ⟨m1, m2⟩ := mk_parts (n := sgn z P) (q := D) h0 (by rw [sgn_abs]; exact hg)
 have hsg : decide ((mkRat (sgn z P) D).num < 0) = z := by
  rw [m1]
  exact sgn_neg (fun e => absurd hg (by rw [e, Nat.gcd_zero_left]; exact h1))
 have hd1 : dn (mkRat (sgn z P) D) = D := by rw [dn_ne (by rw [m2]; exact h1), m2]
 have ha1 : (mkRat (sgn z P) D).num.natAbs = P := by rw [m1, sgn_abs]
 obtain ⟨X, hX⟩ : ∃ X, mkRat (sgn z P) D = X := ⟨_, rfl⟩
 rw [hX] at hsg hd1 ha1 ⊢
 have HS := Lib.hid hsg; have HD1 := Lib.hid hd1; have HA1 := Lib.hid ha1
 clear hn m1 m2 hX hsg hd1 ha1
 go_enter Tryz.func9, Tryz.ntmps9
 go_wp2_with fail
 refine HCp.out.mono ?_
 rintro e w1 ⟨rfl, rfl⟩
 go_wp2_with fail
 refine HCut.out.mono ?_
 rintro e w2 ⟨rfl, hb2⟩
 have V2 := V.below hb2
 clear hb2
 clear V
 go_wp2_with fail
 refine (HRa.out w2).mono ?_
 rintro e w3 ⟨x3, y3, z3, rfl, hn3, hb3⟩
 have V3 := ((V2.below hb3).cons hn3 (q26 hN)).alloc 31 #[.slice x3 y3 z3]
 clear V2 hn3 hb3
 go_wp2_with fail
 refine (HRu.out _).mono ?_
 rintro e w4 ⟨x4, y4, z4, rfl, hn4, hb4⟩
 have V4 := ((V3.below hb4).cons hn4 (q26 hM)).alloc 31 #[.slice x4 y4 z4]
 have q4 := V4.n0 0 rfl
 clear V3 hn4 hb4
 go_wp2_with fail
 refine (V4.zero 0 rfl (decide_eq_false h0)).mono ?_
 rintro e w5 ⟨rfl, V5⟩
 have q5 := V5.n0 0 rfl
 clear V4 q4
 go_wp2_with fail
 refine (V5.one 0 rfl (decide_eq_false h1)).mono ?_
 rintro e w6 ⟨rfl, V6⟩
 have q6 := V6.n0 0 rfl; have p6 := V6.n0 1 rfl
 clear V5 q5
 go_wp2_with fail
 refine (V6.gcd 1 0 rfl rfl hN hM HtB.out ⟨rfl, HG.out⟩).mono ?_
 rintro e w7 ⟨x7, y7, z7, rfl, V7⟩
 clear V6 q6 p6
 go_wp2_with fail
 refine (V7.one 0 rfl (decide_eq_true hg)).mono ?_
 rintro e w8 ⟨rfl, V8⟩
 have q8 := V8.n0 0 rfl; have p8 := V8.n0 1 rfl
 have r0 := V8.c0 2 rfl; have r1 := V8.c1 2 rfl; have r2 := V8.c2 2 rfl
 have f0 := V8.frozen 2 0 rfl; have f1 := V8.frozen 2 1 rfl; have f2 := V8.frozen 2 2 rfl
 have HF := Lib.hid (V8.fin3 (x := X) (y := z) (q := x3) (m := y3) (d := z3) (q' := x4) (m' := y4) (d' := z4) 2 2 1 rfl (by rw [HA1.out]; rfl) (by rw [HD1.out]; rfl) HS.out)
 clear V7 V8
 go_wp2_with fail
 obtain ⟨hf1, v, he, hf2, hf3⟩ := HF.out
 cases he
 exact bodyPost_ret (res_rat2 rfl _ _ _ _ _ _ _ _ _ _ _ rfl rfl hf1) rfl ⟨_, _, _, _, _, _, _, rfl, hf2, hf3⟩
theorem parse_frac (s : ByteArray) (w : World) (hs : s.size ≤ 640) (h : sl (bd s) ≠ none) (htb : TabB w) : Calls Tryz.prog 9 #[.string s] w (GotQ (pq s) w) :=
 parse_frac2 s w (by omega) (Nat.le_trans (above_size _) (Nat.le_trans (bd_size s) hs)) (Nat.le_trans (under_size _) (Nat.le_trans (bd_size s) hs)) h htb
theorem parse_r (s : ByteArray) (w : World) (hs : s.size ≤ 640) (htb : TabB w) : Calls Tryz.prog 9 #[.string s] w (GotQ (pq s) w) := by
 by_cases h : sl (bd s) = none
 · exact parse_whole s w (by omega) h
 · exact parse_frac s w hs h htb
end Go.Proofs.YtckglpkafhmehaaGreatDoor
namespace Go.Proofs.YtckglpkafhmehaaGreatDoor
open Go.RowKit
set_option linter.unusedVariables false
theorem dec_facts : ∀ N : Nat, (∀ b ∈ Lib.decDigits N, isDig b) ∧ Lib.decDigits N ≠ [] ∧ dv (Lib.decDigits N) = N ∧ ((Lib.decDigits N).head? = some 48 → N = 0) := by
 intro N
 induction N using Nat.strongRecOn with
 | ind N ih =>
  have dgt : ∀ k, k < 10 → isDig (UInt8.ofNat (48 + k)) ∧ (UInt8.ofNat (48 + k)).toNat - 48 = k := fun k hk => by
   have : (UInt8.ofNat (48 + k)).toNat = 48 + k := by rw [UInt8.toNat_ofNat']; omega
   unfold isDig
   rw [this]
   omega
  by_cases h : N < 10
  · rw [Lib.decDigits_one h]
    obtain ⟨h1, h2⟩ := dgt N h
    refine ⟨fun b hb => by rw [List.mem_singleton.1 hb]; exact h1, by simp, by rw [dv_one]; exact h2, fun e => ?_⟩
    simp only [List.head?_cons, Option.some.injEq] at e
    have := congrArg UInt8.toNat e
    rw [UInt8.toNat_ofNat'] at this
    have e48 : (48 : UInt8).toNat = 48 := rfl
    omega
  · have e : Lib.decDigits N = Lib.decDigits (N / 10) ++ [UInt8.ofNat (48 + N % 10)] := by rw [Lib.decDigits, dif_neg h]
    obtain ⟨i1, i2, i3, i4⟩ := ih (N / 10) (by omega)
    obtain ⟨h1, h2⟩ := dgt (N % 10) (by omega)
    rw [e]
    refine ⟨fun b hb => ?_, by simp, ?_, fun hh => ?_⟩
    · rcases List.mem_append.1 hb with hb | hb
      · exact i1 b hb
      · rw [List.mem_singleton.1 hb]; exact h1
    · rw [dv_snoc, i3, h2]; omega
    · exfalso
      have : (Lib.decDigits (N / 10) ++ [UInt8.ofNat (48 + N % 10)]).head? = (Lib.decDigits (N / 10)).head? := by
       cases hl : Lib.decDigits (N / 10) with
       | nil => exact absurd hl i2
       | cons x y => rfl
      rw [this] at hh
      have := i4 hh
      omega
theorem dg_list (N : Nat) : (dg N).data.toList = Lib.decDigits N := by simp [dg]
theorem dg_wf (N : Nat) : WF (dg N) := by
 obtain ⟨h1, h2, h3, h4⟩ := dec_facts N
 have hs : (dg N).size = (Lib.decDigits N).length := by show (Lib.decDigits N).toArray.size = _; simp
 refine ⟨?_, ?_, ?_⟩
 · rw [hs]; exact List.length_pos_iff.2 h2
 · rw [dg_list, hs]
   rintro ⟨e, hl⟩
   have := h4 e
   subst this
   rw [Lib.decDigits_one (by omega)] at hl
   simp at hl
 · rw [dg_list]; exact h1
theorem dg_nn (N : Nat) : nn (dg N) = N := by
 unfold nn
 rw [if_pos (dg_wf N), dg_list]
 exact (dec_facts N).2.2.1
theorem dg_ne {N : Nat} {b : UInt8} (hb : b ∈ (dg N).data.toList) : b ≠ 45 ∧ b ≠ 47 ∧ b ≠ 43 := by
 rw [dg_list] at hb
 have h := (dec_facts N).1 b hb
 unfold isDig at h
 refine ⟨fun e => ?_, fun e => ?_, fun e => ?_⟩ <;> (subst e; revert h; decide)
theorem idx_none : ∀ (l : List UInt8) (c : UInt8), c ∉ l → Lib.indexByte l c = -1 := by
 intro l c
 induction l with
 | nil => intro _; rfl
 | cons b r ih =>
  intro h
  unfold Lib.indexByte
  have h1 : (b == c) = false := by simp; exact fun e => h (by simp [e])
  rw [h1, ih (fun hh => h (by simp [hh]))]
  rfl
theorem idx_app : ∀ (l : List UInt8) (c : UInt8) (r : List UInt8), c ∉ l → Lib.indexByte (l ++ c :: r) c = (l.length : Int) := by
 intro l c r
 induction l with
 | nil => intro _; simp [Lib.indexByte]
 | cons b t ih =>
  intro h
  have h1 : (b == c) = false := by simp; exact fun e => h (by simp [e])
  rw [List.cons_append, Lib.indexByte, h1, ih (fun hh => h (by simp [hh]))]
  simp only [Bool.false_eq_true, if_false, List.length_cons]
  rw [if_neg (by simp)]
  rfl
theorem app_list (a b : ByteArray) : (a ++ b).data.toList = a.data.toList ++ b.data.toList := by simp
/-- What a text without a slash is cut to. -/
theorem sl_none {s : ByteArray} (h : (47 : UInt8) ∉ s.data.toList) : sl s = none := by
 unfold sl
 rw [idx_none _ _ h]
 rfl
theorem sl_some (a b : ByteArray) (h : (47 : UInt8) ∉ a.data.toList) : sl (a ++ (⟨#[47]⟩ ++ b)) = some a.size ∧ above (a ++ (⟨#[47]⟩ ++ b)) = a ∧ under (a ++ (⟨#[47]⟩ ++ b)) = b := by
 have e : (a ++ (⟨#[47]⟩ ++ b)).data.toList = a.data.toList ++ 47 :: b.data.toList := by simp
 have hl : a.data.toList.length = a.size := by simp
 have hi : Lib.indexByte (a ++ (⟨#[47]⟩ ++ b)).data.toList 47 = (a.size : Int) := by rw [e, idx_app _ _ _ h, hl]
 have hs : sl (a ++ (⟨#[47]⟩ ++ b)) = some a.size := by unfold sl; rw [hi, if_pos (by omega)]; rfl
 have hz : (a ++ (⟨#[47]⟩ ++ b)).size = a.size + 1 + b.size := by
  rw [ByteArray.size_append, ByteArray.size_append]
  show a.size + (1 + b.size) = _
  omega
 refine ⟨hs, ?_, ?_⟩
 · unfold above
   rw [hs]
   refine bytes_ext ?_
   show (ByteArray.extract _ 0 a.size).data.toList = _
   rw [ext_list, e, List.drop_zero, Nat.sub_zero, ← hl, List.take_left]
 · unfold under
   rw [hs]
   refine bytes_ext ?_
   show (ByteArray.extract _ (a.size + 1) _).data.toList = _
   have e2 : a.data.toList ++ 47 :: b.data.toList = (a.data.toList ++ [47]) ++ b.data.toList := by simp
   rw [ext_list, e, e2, hz, List.drop_left' (by simp [hl])]
   rw [List.take_of_length_le (by simp)]
theorem ng_false {s : ByteArray} (h : s.data.toList.head? ≠ some 45) : ng s = false ∧ bd s = s := by
 have h1 : ng s = false := by
  unfold ng Lib.hasPrefix
  cases hl : s.data.toList with
  | nil => rfl
  | cons b r =>
   rw [hl] at h
   simp only [List.head?_cons, ne_eq, Option.some.injEq] at h
   simp only [List.isPrefixOf, Bool.and_true]
   simp
   exact fun e => h e.symm
 exact ⟨h1, by unfold bd; rw [h1]; rfl⟩
theorem ng_true (t : ByteArray) : ng (⟨#[45]⟩ ++ t) = true ∧ bd (⟨#[45]⟩ ++ t) = t := by
 have e : ((⟨#[45]⟩ : ByteArray) ++ t).data.toList = 45 :: t.data.toList := by simp
 have h1 : ng (⟨#[45]⟩ ++ t) = true := by
  unfold ng Lib.hasPrefix
  rw [e]
  simp [List.isPrefixOf]
 refine ⟨h1, ?_⟩
 unfold bd
 rw [h1]
 refine bytes_ext ?_
 show (ByteArray.extract _ 1 _).data.toList = _
 rw [ext_list, e]
 have hz : ((⟨#[45]⟩ : ByteArray) ++ t).size = t.size + 1 := by
  rw [ByteArray.size_append]
  show 1 + t.size = _
  omega
 rw [hz, List.drop_succ_cons, List.drop_zero, List.take_of_length_le (by simp)]
theorem pq_num (z : Bool) (N : Nat) (s : ByteArray) (h1 : ng s = z) (h2 : bd s = dg N) (h3 : z = true → N ≠ 0) : pq s = some ((sgn z N : Int) : Rat) := by
 unfold pq
 rw [h1, h2, if_pos (sl_none (fun h => (dg_ne h).2.1 rfl))]
 unfold pqw
 rw [dg_nn, if_pos ⟨dg_wf N, fun h => h3 h.1 h.2⟩]
theorem pq_two (z : Bool) (N D : Nat) (s : ByteArray) (h1 : ng s = z) (h2 : bd s = dg N ++ (⟨#[47]⟩ ++ dg D)) : pq s = if D ≠ 0 ∧ D ≠ 1 ∧ Nat.gcd N D = 1 then some (mkRat (sgn z N) D) else none := by
 obtain ⟨s1, s2, s3⟩ := sl_some (dg N) (dg D) (fun h => (dg_ne h).2.1 rfl)
 unfold pq
 rw [h1, h2, s1, s2, s3, if_neg (by simp), dg_nn, dg_nn]
 by_cases hh : D ≠ 0 ∧ D ≠ 1 ∧ Nat.gcd N D = 1
 · rw [if_pos ⟨⟨dg_wf N, dg_wf D⟩, hh⟩, if_pos hh]
 · rw [if_neg (fun h => hh h.2), if_neg hh]
theorem dg_head (N : Nat) (t : ByteArray) : (dg N ++ t).data.toList.head? ≠ some 45 ∧ (dg N).data.toList.head? ≠ some 45 := by
 have hd : ∀ l : List UInt8, (dg N).data.toList = l → (l ++ t.data.toList).head? ≠ some 45 ∧ l.head? ≠ some 45 := fun l hl => by
  cases l with
  | nil => exact absurd (by rw [← dg_list, hl]) (dec_facts N).2.1
  | cons x y =>
   have := dg_ne (N := N) (b := x) (by rw [hl]; simp)
   simp only [List.cons_append, List.head?_cons, ne_eq, Option.some.injEq]
   exact ⟨this.1, this.1⟩
 rw [app_list]
 exact hd _ rfl
theorem tx_body (x : Rat) : ng (tx x) = decide (x.num < 0) ∧ bd (tx x) = if x.den = 1 then dg x.num.natAbs else dg x.num.natAbs ++ (⟨#[47]⟩ ++ dg x.den) := by
 unfold tx
 by_cases h1 : x.den = 1 <;> by_cases h2 : x.num < 0
 · rw [if_pos h1, if_pos h2, if_pos h1, decide_eq_true h2]; exact ng_true _
 · rw [if_pos h1, if_neg h2, if_pos h1, decide_eq_false h2]; exact ng_false (dg_head _ ⟨#[]⟩).2
 · rw [if_neg h1, if_pos h2, if_neg h1, decide_eq_true h2, ByteArray.append_assoc]; exact ng_true _
 · rw [if_neg h1, if_neg h2, if_neg h1, decide_eq_false h2]; exact ng_false (dg_head _ _).1
theorem pq_tx (x : Rat) : pq (tx x) = some x := by
 obtain ⟨h1, h2⟩ := tx_body x
 by_cases h : x.den = 1
 · rw [if_pos h] at h2
   rw [pq_num _ _ _ h1 h2 (fun e => by have := of_decide_eq_true e; omega), ← num_sgn]
   congr 1
   exact Rat.ext (Rat.num_intCast _) (by rw [Rat.den_intCast, h])
 · rw [if_neg h] at h2
   have hr : Nat.gcd x.num.natAbs x.den = 1 := x.reduced
   rw [pq_two _ _ _ _ h1 h2, if_pos ⟨x.den_nz, h, hr⟩, ← num_sgn]
   congr 1
   obtain ⟨m1, m2⟩ := mk_parts (n := x.num) x.den_nz hr
   exact Rat.ext m1 m2
end Go.Proofs.YtckglpkafhmehaaGreatDoor
