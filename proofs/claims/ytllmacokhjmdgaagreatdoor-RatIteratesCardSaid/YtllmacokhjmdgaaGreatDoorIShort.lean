/-
 Law 2: are texts few and short (Short, Room)?
-/
import Derived.Test.YtllmacokhjmdgaaGreatDoorISz
namespace Go.Proofs.YtllmacokhjmdgaaGreatDoor
open Go.RowKit
set_option linter.unusedVariables false
/-- The row at a holds the texts ts. -/
def TS (w : World) (a : Option Addr) (ts : List ByteArray) : Prop := ∀ i t, ts[i]? = some t → ∃ ad, a = some ad ∧ ad.block < w.heap.size ∧ w.cell? (ad.add i) = some (.string t)
theorem TS.below {w w' : World} {a : Option Addr} {ts : List ByteArray} (h : TS w a ts) (hb : Below w.heap.size w w') : TS w' a ts := by
 intro i t ht
 obtain ⟨ad, rfl, hlt, hc⟩ := h i t ht
 exact ⟨ad, rfl, Nat.lt_of_lt_of_le hlt hb.size, (hb.cell (by rw [add_block]; exact hlt)).trans hc⟩
/-- What is left of the room L behind n more. -/
def rm (L n : Int) : Int := if L < n then -1 else L - n
set_option maxRecDepth 100000 in
set_option maxHeartbeats 1000000 in
theorem room_any (L n : Int) (b : Nat) (w : World) (h0 : 0 ≤ L) (h1 : L ≤ 100000) (hn : 0 ≤ n) (hn1 : n ≤ 9223372036854775807) (hc : w.cell? ⟨b, 0, none⟩ = some (.int .i64 n)) :
 Calls Tryz.prog 86 #[.int .i64 L, .slice (some ⟨b, 0, none⟩) 1 1] w fun e w' => e = .returned (.int .i64 (rm L n)) ∧ w = w' := by
 by_cases hl : L < n
 · have hr : Hid (rm L n = -1) := Lib.hid (by unfold rm; rw [if_pos hl])
   go_enter Tryz.func86, Tryz.ntmps86
   go_wp2
   go_loop [0, 5] (fun l i => l = .int .i64 L ∧ i = .int .i64 0) (fun _ i => 1 - (intOf i).toNat)
   case atStart => exact ⟨rfl, rfl⟩
   case round =>
    obtain ⟨rfl, rfl⟩ := hrel
    go_wp2
    go_ret
    exact ⟨by rw [hr.out]; rfl, rfl⟩
 · have hr : Hid (rm L n = L - n) := Lib.hid (by unfold rm; rw [if_neg hl])
   go_enter Tryz.func86, Tryz.ntmps86
   go_wp2
   go_loop [0, 5] (fun l i => ∃ k : Nat, k ≤ 1 ∧ i = .int .i64 k ∧ l = .int .i64 (if k = 0 then L else L - n)) (fun _ i => 1 - (intOf i).toNat)
   case atStart => exact ⟨0, by omega, rfl, rfl⟩
   case round =>
    obtain ⟨k, hk, rfl, rfl⟩ := hrel
    by_cases hk0 : k = 0
    · subst hk0
      rw [if_pos rfl]
      go_wp2
      go_round
      case rel => exact ⟨1, by omega, by go_num, by rw [if_neg (by omega)]⟩
      case measure => simp [intOf]
    · obtain rfl : k = 1 := by omega
      rw [if_neg (by omega)]
      go_wp2
      go_ret
      exact ⟨by rw [hr.out]; rfl, rfl⟩
set_option maxRecDepth 100000 in
set_option maxHeartbeats 1000000 in
/-- Are texts few and short? -/
theorem short_any (few : Nat) (room : Int) (a : Option Addr) (c : Nat) (ts : List ByteArray) (w : World) (hf : few ≤ 1000) (h0 : 0 ≤ room) (h1 : room ≤ 100000) (ha : TS w a ts) (hl : ts.length ≤ maxLen) (hs : ∀ t ∈ ts, t.size ≤ maxLen) :
 Calls Tryz.prog 45 #[.int .i64 (few : Int), .int .i64 room, .slice a ts.length c] w fun e w' => (∃ b, e = .returned (.bool b) ∧ (b = true → ts.length ≤ few ∧ (szs ts : Int) ≤ room)) ∧ Below w.heap.size w w' := by
 have Ha := Lib.hid ha; have Hs := Lib.hid hs
 unfold maxLen at hl
 clear ha hs
 by_cases hfew : few < ts.length
 · have hfi : (few : Int) < (ts.length : Int) := by omega
   go_enter Tryz.func45, Tryz.ntmps45
   go_wp2
   go_ret
   exact ⟨⟨false, rfl, by simp⟩, Below.refl _ _⟩
 · have hfi : ¬ (few : Int) < (ts.length : Int) := by omega
   have hlen : ts.length ≤ 1000 := by omega
   obtain ⟨n, hn⟩ : ∃ n, ts.length = n := ⟨_, rfl⟩
   have Hn := Lib.hid hn
   rw [hn] at hfi hlen hfew ⊢
   clear hn hl
   go_enter Tryz.func45, Tryz.ntmps45
   go_wp2
   go_loopw [1, 7] (fun r i wr => ∃ (k : Nat) (R : Int), k ≤ n ∧ i = .int .i64 (k : Int) ∧ r = .int .i64 R ∧ -1 ≤ R ∧ R ≤ room ∧ Hid (0 ≤ R → (szs (ts.take k) : Int) + R = room) ∧ Hid (Below w.heap.size w wr)) (fun _ i _ => n - (intOf i).toNat)
   case atStart => exact ⟨0, room, by omega, rfl, rfl, by omega, by omega, Lib.hid (fun _ => by simp [szs]), Lib.hid (Below.refl _ _)⟩
   case round =>
    obtain ⟨k, R, hk, rfl, rfl, hR1, hR2, hsum, hb⟩ := hrel
    by_cases hlt : k < n
    · by_cases hR0 : 0 ≤ R
      · obtain ⟨t, ht⟩ : ∃ t, ts[k]? = some t := ⟨_, List.getElem?_eq_getElem (by rw [Hn.out]; exact hlt)⟩
        obtain ⟨ad, rfl, _, hx⟩ := (Ha.out.below hb.out) k t ht
        have htm := Hs.out t (List.mem_of_getElem? ht)
        unfold maxLen at htm
        have hmore : Hid (szs (ts.take (k + 1)) = szs (ts.take k) + t.size) := Lib.hid (by unfold szs; rw [List.take_add_one, ht]; simp)
        have hi0 : (0 : Int) ≤ (k : Int) := by omega
        have hi1 : (k : Int) < (n : Int) := by omega
        have hki : (k : Int) < (n : Int) := hi1
        have HRm : Hid (∀ b wq, wq.cell? ⟨b, 0, none⟩ = some (.int .i64 (t.size : Int)) → Calls Tryz.prog 86 #[.int .i64 R, .slice (some ⟨b, 0, none⟩) 1 1] wq fun e w' => e = .returned (.int .i64 (rm R t.size)) ∧ wq = w') := Lib.hid (fun b wq hc => room_any R t.size b wq hR0 (by omega) (by omega) (by omega) hc)
        have hrm : Hid (-1 ≤ rm R t.size ∧ rm R t.size ≤ R ∧ (0 ≤ rm R t.size → rm R t.size = R - t.size)) := Lib.hid (by unfold rm; split <;> omega)
        obtain ⟨R', hR'⟩ : ∃ R', rm R t.size = R' := ⟨_, rfl⟩
        rw [hR'] at HRm hrm
        clear ht htm hR'
        go_wp2_with fail
        have q := Blk.new wr 3 #[.int .i64 (t.size : Int)]
        refine (HRm.out _ _ (q.cell 0)).mono ?_
        rintro e w1 ⟨rfl, rfl⟩
        have Hb1 := Lib.hid (hb.out.alloc hb.out.size (.cells #[.int .i64 (t.size : Int)] 3))
        have hsum' : Hid (0 ≤ R' → (szs (ts.take (k + 1)) : Int) + R' = room) := Lib.hid (fun h => by have h3 := hrm.out.2.2 h; have h4 := hsum.out hR0; rw [hmore.out]; omega)
        have hR3 := hrm.out.1
        have hR4 : R' ≤ room := by have := hrm.out.2.1; omega
        clear q hb hsum hmore hrm HRm hx
        go_wp2
        go_roundw
        case rel => first | exact ⟨k + 1, R', by omega, by go_num, rfl, hR3, hR4, hsum', Hb1⟩ | ((repeat apply Exists.intro); exact ⟨⟨k + 1, R', by omega, by go_num, rfl, hR3, hR4, hsum', Hb1⟩, rfl⟩)
        case measure => simp [intOf]; omega
      · have hRn : R < 0 := by omega
        have hki : (k : Int) < (n : Int) := by omega
        go_wp2
        go_ret
        exact ⟨.inl rfl, hb.out⟩
    · obtain rfl : k = n := by omega
      by_cases hR0 : 0 ≤ R
      · have hfin : Hid (k ≤ few ∧ (szs ts : Int) ≤ room) := Lib.hid ⟨by omega, by have := hsum.out hR0; rw [List.take_of_length_le (by rw [Hn.out]; omega)] at this; omega⟩
        go_wp2
        go_ret
        exact ⟨⟨true, rfl, fun _ => hfin.out⟩, hb.out⟩
      · have hRn : R < 0 := by omega
        go_wp2
        go_ret
        exact ⟨.inl rfl, hb.out⟩
end Go.Proofs.YtllmacokhjmdgaaGreatDoor
