/-
  PutFloats and PutInts, whatever the message: what is handed to put.
-/
import Derived.Test.YtbkcklefkhlciaaMints
namespace Go.Proofs.Ytbkcklefkhlciaa
open Go.RowKit
set_option linter.unusedVariables false
/-- The row at a, of uint64s, holds us. -/
def UR (w : World) (a : Option Addr) (us : List Nat) : Prop := ∀ i, i < us.length → ∃ ad, a = some ad ∧ ad.block < w.heap.size ∧ w.cell? (ad.add i) = some (.int .u64 ((us.getD i 0 : Nat) : Int))
theorem UR.below {w w' : World} {a : Option Addr} {us : List Nat} (h : UR w a us) (hb : Below w.heap.size w w') : UR w' a us := by
  intro i hi
  obtain ⟨ad, rfl, hlt, hc⟩ := h i hi
  have hbk : (ad.add i).block = ad.block := by unfold Addr.add; split <;> rfl
  exact ⟨ad, rfl, Nat.lt_of_lt_of_le hlt hb.size, (hb.cell (p := ad.add i) (by rw [hbk]; exact hlt)).trans hc⟩
/-- The bytes of patterns, packed. -/
def fbs : List Nat → ByteArray
  | [] => ⟨#[]⟩
  | v :: r => txt (fx v 4) ++ fbs r
theorem fbs_app (l m : List Nat) : fbs (l ++ m) = fbs l ++ fbs m := by
  induction l with
  | nil => simp only [List.nil_append, fbs, nil_bapp]
  | cons z r ih => simp only [List.cons_append, fbs, ih, bapp_assoc]
theorem fbs_one (v : Nat) : fbs [v] = txt (fx v 4) := by simp only [fbs, bapp_nil]
theorem fbs_size (l : List Nat) : (fbs l).size = 4 * l.length := by
  induction l with
  | nil => rfl
  | cons z r ih =>
    simp only [fbs, bsize_app, txt_size, fx_length, List.length_cons]
    omega
theorem push_txt (t : ByteArray) (b : Nat) : t.push (UInt8.ofNat b) = t ++ txt [b] := by
  apply list_ext
  rw [list_app, txt_list, ByteArray.data_push]
  simp
/-- What put is handed, it answers with the message itself. -/
def PutTo (pt : Option Addr) (num : Int) (D : ByteArray) (Inv : World → World → Prop) (w : World) : Prop :=
  ∀ w1, Below w.heap.size w w1 → Calls Try.prog 37 #[.pointer pt, .agg #[.int .i64 num, .int .i64 2, .int .i64 0, .int .u64 0, .string D]] w1 fun e w' => e = .returned (.pointer pt) ∧ Inv w1 w'
def PutRes (pt : Option Addr) (Inv : World → World → Prop) (w : World) (e : Ending) (w' : World) : Prop := e = .returned (.pointer pt) ∧ ∃ w1, Below w.heap.size w w1 ∧ Inv w1 w'
set_option maxRecDepth 100000 in
set_option maxHeartbeats 2000000 in
theorem putfloats_core (pt : Option Addr) (num : Int) (us : List Nat) (a : Option Addr) (c : Nat) (Inv : World → World → Prop) (w : World) (hz : us.length ≤ 1000) (hne : 0 < us.length) (hs : ∀ u ∈ us, u < 4294967296) (hr : UR w a us) (HPT : Hid (PutTo pt num (fbs us) Inv w)) :
    Calls Try.prog 19 #[.pointer pt, .int .i64 num, .slice a us.length c] w (PutRes pt Inv w) := by
  have hsz := fbs_size us
  obtain ⟨D, hD⟩ : ∃ D, fbs us = D := ⟨_, rfl⟩
  rw [hD] at HPT
  unfold PutTo at HPT
  have HD := Lib.hid hD
  have Hr := Lib.hid hr
  have Hs := Lib.hid hs
  obtain ⟨n, hn⟩ : ∃ n, us.length = n := ⟨_, rfl⟩
  rw [hn] at hz hne ⊢
  have Hn := Lib.hid hn
  clear hr hD hn hsz hs
  have hn0 : ((n : Int) == 0) = false := by simp; omega
  go_enter Try.func19, Try.ntmps19
  go_wp2_with fail
  have hbd := Lib.hid (bd_new w w.heap.size (Nat.le_refl _))
  have hbw : Hid (Below w.heap.size w (w.alloc (.cells #[.pointer none, .slice none 0 0] 81))) := Lib.hid ((Below.refl _ _).alloc (Nat.le_refl _) _)
  go_loopw [18] (fun i wr => ∃ k : Nat, k ≤ n ∧ i = .int .i64 (k : Int) ∧ Hid (IsBd w.heap.size w.heap.size (fbs (us.take k)) wr) ∧ Hid (Below w.heap.size w wr) ∧ w.heap.size ≤ wr.heap.size) (fun i _ => n - (intOf i).toNat)
  case atStart => exact ⟨0, by omega, rfl, by simpa [fbs] using hbd, hbw, by simp⟩
  case round =>
    obtain ⟨k, hk, rfl, hb, hw, hGs⟩ := hrel
    clear hbd hbw
    by_cases hlt : k < n
    · obtain ⟨ad, rfl, _, hc⟩ := (Hr.out.below hw.out) k (by rw [Hn.out]; exact hlt)
      have hi0 : (0 : Int) ≤ (k : Int) := by omega
      have hi1 : (k : Int) < (n : Int) := by omega
      have hmem : us.getD k 0 ∈ us := by
        have hkl : k < us.length := by rw [Hn.out]; exact hlt
        rw [List.getD_eq_getElem?_getD, List.getElem?_eq_getElem hkl]
        exact List.getElem_mem hkl
      have hmore : Hid (fbs (us.take (k + 1)) = fbs (us.take k) ++ txt (fx (us.getD k 0) 4)) := Lib.hid (by rw [take_more us k 0 (by rw [Hn.out]; exact hlt), fbs_app, fbs_one])
      have hx4 := Hs.out _ hmem
      have hsl : Hid ((fbs (us.take k)).size ≤ 100000) := Lib.hid (by rw [fbs_size, List.length_take]; omega)
      obtain ⟨x, hx⟩ : ∃ x, us.getD k 0 = x := ⟨_, rfl⟩
      rw [hx] at hc hmore hx4
      obtain ⟨T, hT⟩ : ∃ T, fbs (us.take k) = T := ⟨_, rfl⟩
      rw [hT] at hb hmore hsl
      have hx4i : ¬ (4294967296 : Int) ≤ (x : Int) := by omega
      clear hx hT hmem hx4
      go_wp2_with fail
      clear hx4i
      go_loopw [26] (fun i wq => ∃ j : Nat, j ≤ 4 ∧ i = .int .i64 (j : Int) ∧ Hid (IsBd w.heap.size w.heap.size (T ++ txt (fx x j)) wq) ∧ Hid (Below w.heap.size w wq) ∧ w.heap.size ≤ wq.heap.size) (fun i _ => 4 - (intOf i).toNat)
      case atStart => exact ⟨0, by omega, rfl, Lib.hid (by rw [show txt (fx x 0) = ⟨#[]⟩ from rfl, bapp_nil]; exact hb.out), hw, hGs⟩
      case round =>
        obtain ⟨j, hj, rfl, hb, hw, hGs⟩ := hrel
        by_cases hlj : j < 4
        · have hby : Hid (((x : Nat) : Int) / 2 ^ (8 * j) % 256 = ((x / 256 ^ j % 256 : Nat) : Int)) := Lib.hid (shr_byte x j)
          have hln : (T ++ txt (fx x j)).size ≤ 200000 := by have := hsl.out; rw [bsize_app, txt_size, fx_length]; omega
          have HWB : Hid (∀ wq, w.heap.size ≤ wq.heap.size → IsBd w.heap.size w.heap.size (T ++ txt (fx x j)) wq → Calls Try.prog 43 #[.pointer (some ⟨w.heap.size, 0, none⟩), .int .u8 (((x : Nat) : Int) / 2 ^ (8 * j) % 256)] wq (WroteIs .nilIface w.heap.size w.heap.size (T ++ txt (fx x (j + 1))) wq)) := Lib.hid (fun wq hq hbq => by
            rw [hby.out, fx_succ, txt_app, ← bapp_assoc, ← push_txt]
            exact wb_any w.heap.size w.heap.size _ _ wq (Nat.mod_lt _ (by omega)) hbq (by omega) hq)
          clear hby hln
          go_wp2_with fail
          refine (HWB.out _ hGs hb.out).mono ?_
          rintro e w2 ⟨rfl, hb2, hb3⟩
          have hbd2 := Lib.hid hb2
          have hw2 := Lib.hid (hw.out.trans hb3)
          have hG2 : w.heap.size ≤ w2.heap.size := Nat.le_trans hGs hb3.size
          clear hb hw hb2 hb3 HWB
          go_wp2
          go_roundw
          case rel => first | exact ⟨j + 1, by omega, by go_num, hbd2, hw2, hG2⟩ | ((repeat apply Exists.intro); exact ⟨⟨j + 1, by omega, by go_num, hbd2, hw2, hG2⟩, rfl⟩)
          case measure => simp [intOf]; omega
        · obtain rfl : j = 4 := by omega
          have hbd2 : Hid (IsBd w.heap.size w.heap.size (fbs (us.take (k + 1))) _) := Lib.hid (by rw [hmore.out]; exact hb.out)
          clear hb hmore hsl hc
          go_wp2
          go_roundw
          case rel => first | exact ⟨k + 1, by omega, by go_num, hbd2, hw, hGs⟩ | ((repeat apply Exists.intro); exact ⟨⟨k + 1, by omega, by go_num, hbd2, hw, hGs⟩, rfl⟩)
          case measure => simp [intOf]; omega
    · obtain rfl : k = n := by omega
      have hbd : IsBd w.heap.size w.heap.size D wr := by
        have := hb.out
        rw [List.take_of_length_le (by rw [Hn.out]; omega), HD.out] at this
        exact this
      go_wp2_with fail
      refine (str_any w.heap.size w.heap.size D _ hbd hGs).mono ?_
      rintro e w1 ⟨rfl, _, hb1⟩
      have Hw1 := Lib.hid (hw.out.trans hb1)
      clear hb1 hbd hb hw
      go_wp2_with fail
      refine (HPT.out _ Hw1.out).mono ?_
      rintro e w2 ⟨rfl, g1⟩
      have R := Lib.hid g1
      clear g1
      go_wp2
      go_ret
      exact ⟨rfl, w1, Hw1.out, R.out⟩
set_option maxRecDepth 100000 in
set_option maxHeartbeats 2000000 in
theorem putints_core (pt : Option Addr) (num : Int) (zs : List Int) (a : Option Addr) (c : Nat) (Inv : World → World → Prop) (w : World) (hz : zs.length ≤ 1000) (hne : 0 < zs.length) (hr : IR w a zs) (HPT : Hid (PutTo pt num (ibs zs) Inv w)) :
    Calls Try.prog 15 #[.pointer pt, .int .i64 num, .slice a zs.length c] w (PutRes pt Inv w) := by
  have hsz := ibs_size zs
  have HPV : Hid (∀ (z : Int) (w : World), Calls Try.prog 40 #[.int .u64 (IntKind.u64.wrap z)] w (GaveText (txt (pv (un z))) w)) := Lib.hid (fun z w => by rw [un_wrap]; exact putv_any (un z) w (un_lt z))
  obtain ⟨D, hD⟩ : ∃ D, ibs zs = D := ⟨_, rfl⟩
  rw [hD] at HPT
  unfold PutTo at HPT
  have HD := Lib.hid hD
  have Hr := Lib.hid hr
  obtain ⟨n, hn⟩ : ∃ n, zs.length = n := ⟨_, rfl⟩
  rw [hn] at hz hne ⊢
  have Hn := Lib.hid hn
  clear hr hD hn hsz
  have hn0 : ((n : Int) == 0) = false := by simp; omega
  go_enter Try.func15, Try.ntmps15
  go_wp2_with fail
  have hbd := Lib.hid (bd_new w w.heap.size (Nat.le_refl _))
  have hbw : Hid (Below w.heap.size w (w.alloc (.cells #[.pointer none, .slice none 0 0] 81))) := Lib.hid ((Below.refl _ _).alloc (Nat.le_refl _) _)
  go_loopw [17] (fun i wr => ∃ k : Nat, k ≤ n ∧ i = .int .i64 (k : Int) ∧ Hid (IsBd w.heap.size w.heap.size (ibs (zs.take k)) wr) ∧ Hid (Below w.heap.size w wr) ∧ w.heap.size ≤ wr.heap.size) (fun i _ => n - (intOf i).toNat)
  case atStart => exact ⟨0, by omega, rfl, by simpa [ibs] using hbd, hbw, by simp⟩
  case round =>
    obtain ⟨k, hk, rfl, hb, hw, hGs⟩ := hrel
    by_cases hlt : k < n
    · have hwb : Below w.heap.size w wr := hw.out
      obtain ⟨ad, rfl, _, hc⟩ := (Hr.out.below hwb) k (by rw [Hn.out]; exact hlt)
      have hi0 : (0 : Int) ≤ (k : Int) := by omega
      have hi1 : (k : Int) < (n : Int) := by omega
      have hmore : Hid (ibs (zs.take (k + 1)) = ibs (zs.take k) ++ txt (pv (un (zs.getD k 0)))) := Lib.hid (by rw [take_more zs k 0 (by rw [Hn.out]; exact hlt), ibs_app, ibs_one])
      have hsl : Hid ((ibs (zs.take k)).size ≤ 100000 ∧ (txt (pv (un (zs.getD k 0)))).size ≤ 10) := Lib.hid ⟨by have := ibs_size (zs.take k); rw [List.length_take] at this; omega, by rw [txt_size]; exact pv_ten _ (un_lt _)⟩
      obtain ⟨x, hx⟩ : ∃ x, zs.getD k 0 = x := ⟨_, rfl⟩
      rw [hx] at hc hmore hsl
      clear hx hwb
      go_wp2_with fail
      refine (HPV.out x _).mono ?_
      rintro e w1 ⟨rfl, hb1⟩
      have hbd1 := bd_below hb.out hb1
      have hG1 : w.heap.size ≤ w1.heap.size := Nat.le_trans hGs hb1.size
      have hw1 := Lib.hid (hw.out.trans (hb1.mono hGs))
      go_wp2_with fail
      refine (ws_any w.heap.size w.heap.size _ _ _ hbd1 (by have := hsl.out; omega) hG1).mono ?_
      rintro e w2 ⟨rfl, hb2, hb3⟩
      have hbd2 : Hid (IsBd w.heap.size w.heap.size (ibs (zs.take (k + 1))) w2) := Lib.hid (by rw [hmore.out]; exact hb2)
      have hw2 := Lib.hid (hw1.out.trans hb3)
      have hG2 : w.heap.size ≤ w2.heap.size := Nat.le_trans hG1 hb3.size
      clear hb hw hw1 hbd1 hb1 hb2 hb3 hmore hsl hc
      go_wp2
      go_roundw
      case rel =>
        first | exact ⟨k + 1, by omega, by go_num, hbd2, hw2, hG2⟩ | ((repeat apply Exists.intro); exact ⟨⟨k + 1, by omega, by go_num, hbd2, hw2, hG2⟩, rfl⟩)
      case measure => simp [intOf]; omega
    · obtain rfl : k = n := by omega
      have hbd : IsBd w.heap.size w.heap.size D wr := by
        have := hb.out
        rw [List.take_of_length_le (by rw [Hn.out]; omega), HD.out] at this
        exact this
      go_wp2_with fail
      refine (str_any w.heap.size w.heap.size D _ hbd hGs).mono ?_
      rintro e w1 ⟨rfl, _, hb1⟩
      have Hw1 := Lib.hid (hw.out.trans hb1)
      clear hb1 hbd hb hw
      go_wp2_with fail
      refine (HPT.out _ Hw1.out).mono ?_
      rintro e w2 ⟨rfl, g1⟩
      have R := Lib.hid g1
      clear g1
      go_wp2
      go_ret
      exact ⟨rfl, w1, Hw1.out, R.out⟩
end Go.Proofs.Ytbkcklefkhlciaa
