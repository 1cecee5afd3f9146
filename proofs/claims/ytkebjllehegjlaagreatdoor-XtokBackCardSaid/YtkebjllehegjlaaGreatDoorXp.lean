/-
  Law 7: digits of base ten or sixteen, read.
-/
import Derived.Test.YtkebjllehegjlaaGreatDoorXm
import Derived.Test.YtkebjllehegjlaaGreatDoorXb
import Derived.Lib.ConvBytes
import Derived.Lib.SmallJoins
import Derived.WalkKit
import Derived.BigCall
import Derived.BigGuard
import Derived.Laws.Closers25
import Derived.Laws.Closers25b
namespace Go.Proofs.YtkebjllehegjlaaGreatDoor
open Go.RowKit Go.Shelf
set_option linter.unusedVariables false
theorem lower_any (c : Int) (w : World) : Calls Tryz.prog 72 #[.int .u8 c] w fun e w' => e = .returned (.int .u8 (bits .or .u8 c 32)) ∧ w = w' := by
  go_enter Tryz.func72, Tryz.ntmps72
  go_wp2
  go_ret
  exact ⟨rfl, rfl⟩
set_option maxRecDepth 100000 in
theorem low_or : ∀ c : Nat, c < 256 → bits .or .u8 (c : Int) 32 = ((c ||| 32 : Nat) : Int) := by decide
theorem step_lt {B acc d k : Nat} (h : acc < B ^ k) (hd : d < B) : acc * B + d < B ^ (k + 1) := by
  rw [Nat.pow_succ]
  calc acc * B + d < acc * B + B := by omega
    _ = (acc + 1) * B := by rw [Nat.add_mul, Nat.one_mul]
    _ ≤ B ^ k * B := Nat.mul_le_mul_right B h
set_option maxHeartbeats 32000000 in
set_option maxRecDepth 100000 in
theorem pu_10 (t : ByteArray) (hne : t.data.toList ≠ []) (hd : ∀ y ∈ t.data.toList, Dig 10 y) (hm : 10 ^ t.size ≤ 16777216) (w : World) :
    Calls Tryz.prog 65 #[.string t, .int .i64 10, .int .i64 32] w fun e w' => e = .returned (.tuple #[.int .u64 (worth 10 vHex t.data.toList : Int), .nilIface]) ∧ Below w.heap.size w w' := by
  have hemp : t.toList.isEmpty = false := by
    rw [ByteArray.toList_eq]
    cases h : t.data.toList with
    | nil => exact absurd h hne
    | cons a l => rfl
  have hcv := Lib.run_convert_string_bytes (P := Tryz.prog) w 9 47 5 t (u := .string) Tryz.underlying9 Tryz.underlying47 Tryz.underlying5
  have hB : ∀ j, j < t.size → (Lib.bytesWorld w 5 t).cell? ⟨w.heap.size, j, none⟩ = some (.int .u8 (t.data.toList.getD j 0).toNat) := fun j hj => Lib.bytesWorld_cell w 5 t j hj
  have HBel : Hid (Below w.heap.size w (Lib.bytesWorld w 5 t)) := Lib.hid (Go.Joins.below_bytesWorld _ _ _ _ (Nat.le_refl _))
  obtain ⟨W1, hW1⟩ : ∃ W1, W1 = Lib.bytesWorld w 5 t := ⟨_, rfl⟩
  rw [← hW1] at hcv hB HBel
  clear hW1
  obtain ⟨bs, hL⟩ : ∃ bs, bs = t.data.toList := ⟨_, rfl⟩
  have hLn : bs.length = t.size := by rw [hL]; simp
  have hts : t.size ≤ 7 := by
    rcases Nat.lt_or_ge 7 t.size with h | h
    · have := Nat.pow_le_pow_right (show 0 < 10 by decide) (show 8 ≤ t.size from h)
      omega
    · exact h
  rw [← hL] at hB hd ⊢
  have HD := Lib.hid hd; have HM := Lib.hid hm
  clear hL hd hm hne
  have hmv : IntKind.u64.wrap (IntKind.u64.wrap 4294967296 - 1) = 4294967295 := by
    rw [IntKind.wrap_u64, IntKind.wrap_u64]
    decide
  go_enter Tryz.func65, Tryz.ntmps65
  go_wp2
  go_loop [12, 13, 101] (fun vu vn vi => ∃ (k acc : Nat) (a : Int), vu = .bool false ∧ vn = .int .u64 a ∧ vi = .int .i64 k ∧ k ≤ t.size ∧ Hid (a = (acc : Int) ∧ acc < 10 ^ k ∧ worth 10 vHex bs = (bs.drop k).foldl (fun a c => a * 10 + vHex c) acc))
    (fun _ _ vi => t.size - (intOf vi).toNat)
  case atStart => exact ⟨0, 0, 0, rfl, rfl, rfl, by omega, Lib.hid ⟨rfl, by simp, rfl⟩⟩
  case round =>
    obtain ⟨k, acc, a, rfl, rfl, rfl, hk, hh⟩ := hrel
    obtain ⟨ha, hacc, hdec⟩ := hh.out
    clear hh
    by_cases hkn : k < t.size
    · have hc := hB k hkn
      have hdrop : bs.drop k = bs[k]'(by omega) :: bs.drop (k + 1) := List.drop_eq_getElem_cons (by omega)
      have hget : bs.getD k 0 = bs[k]'(by omega) := by simp [List.getD, List.getElem?_eq_getElem (show k < bs.length by omega)]
      have hDg := HD.out _ (List.getElem_mem (show k < bs.length by omega))
      rw [hdrop] at hdec
      rw [hget] at hc
      generalize bs[k]'(by omega) = c at hc hdec hDg
      have hc256 : c.toNat < 256 := c.toNat_lt
      clear hB hdrop hget
      have hst := step_lt hacc hDg.1
      have hpw := Nat.pow_le_pow_right (show 0 < 10 by decide) (show k + 1 ≤ t.size from hkn)
      have hfull := HM.out
      have hlt : acc * 10 + vHex c < 16777216 := by omega
      have HN : Hid (acc * 10 + vHex c < 10 ^ (k + 1) ∧ worth 10 vHex bs = (bs.drop (k + 1)).foldl (fun a c => a * 10 + vHex c) (acc * 10 + vHex c)) := Lib.hid ⟨hst, hdec⟩
      have ha0 : 0 ≤ a := by omega
      have ha1 : a ≤ 16777216 := by omega
      obtain ⟨hv, hcase⟩ := hDg
      by_cases hdig : c.toNat ≤ 57
      · have hd0 : 48 ≤ c.toNat := by omega
        have hvx : vHex c = c.toNat - 48 := by unfold vHex; rw [if_pos hdig]
        have hE : Hid (a * 10 + ((c.toNat : Int) - 48) = ((acc * 10 + vHex c : Nat) : Int)) := Lib.hid (by omega)
        have i1 : a * 10 + ((c.toNat : Int) - 48) ≤ 16777216 := by omega
        have i2 : ¬ (10 : Int) ≤ (c.toNat : Int) - 48 := by omega
        clear hst hpw hfull hlt hdec hacc ha hcase hvx hv
        go_wp2
        refine ⟨⟨k + 1, acc * 10 + vHex c, a * 10 + ((c.toNat : Int) - 48), rfl, (by first | rfl | (congr 1; omega)), (by first | rfl | (congr 1; omega)), by omega, Lib.hid ⟨hE.out, HN.out.1, HN.out.2⟩⟩, by simp [intOf]; omega⟩
      · obtain ⟨h97, h122, _⟩ := hcase.resolve_left (fun h => hdig h.2)
        have hvx : vHex c = (c.toNat ||| 32) - 87 := by unfold vHex; rw [if_neg hdig]
        exact absurd hv (by omega)
    · have hkk : k = t.size := by omega
      subst hkk
      have hF : (bs.drop t.size).foldl (fun a c => a * 10 + vHex c) acc = acc := by rw [List.drop_eq_nil_of_le (by omega)]; rfl
      rw [hF] at hdec
      have hE : Hid ((worth 10 vHex bs : Int) = a) := Lib.hid (by omega)
      clear hacc ha hdec hF
      go_wp2
      go_ret2
      exact ⟨by rw [hE.out]; rfl, HBel.out⟩
set_option maxHeartbeats 32000000 in
set_option maxRecDepth 100000 in
theorem pu_16 (t : ByteArray) (hne : t.data.toList ≠ []) (hd : ∀ y ∈ t.data.toList, Dig 16 y) (hm : 16 ^ t.size ≤ 16777216) (w : World) :
    Calls Tryz.prog 65 #[.string t, .int .i64 16, .int .i64 32] w fun e w' => e = .returned (.tuple #[.int .u64 (worth 16 vHex t.data.toList : Int), .nilIface]) ∧ Below w.heap.size w w' := by
  have hemp : t.toList.isEmpty = false := by
    rw [ByteArray.toList_eq]
    cases h : t.data.toList with
    | nil => exact absurd h hne
    | cons a l => rfl
  have hcv := Lib.run_convert_string_bytes (P := Tryz.prog) w 9 47 5 t (u := .string) Tryz.underlying9 Tryz.underlying47 Tryz.underlying5
  have hB : ∀ j, j < t.size → (Lib.bytesWorld w 5 t).cell? ⟨w.heap.size, j, none⟩ = some (.int .u8 (t.data.toList.getD j 0).toNat) := fun j hj => Lib.bytesWorld_cell w 5 t j hj
  have HBel : Hid (Below w.heap.size w (Lib.bytesWorld w 5 t)) := Lib.hid (Go.Joins.below_bytesWorld _ _ _ _ (Nat.le_refl _))
  obtain ⟨W1, hW1⟩ : ∃ W1, W1 = Lib.bytesWorld w 5 t := ⟨_, rfl⟩
  rw [← hW1] at hcv hB HBel
  clear hW1
  obtain ⟨bs, hL⟩ : ∃ bs, bs = t.data.toList := ⟨_, rfl⟩
  have hLn : bs.length = t.size := by rw [hL]; simp
  have hts : t.size ≤ 7 := by
    rcases Nat.lt_or_ge 7 t.size with h | h
    · have := Nat.pow_le_pow_right (show 0 < 16 by decide) (show 8 ≤ t.size from h)
      omega
    · exact h
  rw [← hL] at hB hd ⊢
  have HD := Lib.hid hd; have HM := Lib.hid hm
  clear hL hd hm hne
  have hmv : IntKind.u64.wrap (IntKind.u64.wrap 4294967296 - 1) = 4294967295 := by
    rw [IntKind.wrap_u64, IntKind.wrap_u64]
    decide
  go_enter Tryz.func65, Tryz.ntmps65
  go_wp2
  go_loop [12, 13, 101] (fun vu vn vi => ∃ (k acc : Nat) (a : Int), vu = .bool false ∧ vn = .int .u64 a ∧ vi = .int .i64 k ∧ k ≤ t.size ∧ Hid (a = (acc : Int) ∧ acc < 16 ^ k ∧ worth 16 vHex bs = (bs.drop k).foldl (fun a c => a * 16 + vHex c) acc))
    (fun _ _ vi => t.size - (intOf vi).toNat)
  case atStart => exact ⟨0, 0, 0, rfl, rfl, rfl, by omega, Lib.hid ⟨rfl, by simp, rfl⟩⟩
  case round =>
    obtain ⟨k, acc, a, rfl, rfl, rfl, hk, hh⟩ := hrel
    obtain ⟨ha, hacc, hdec⟩ := hh.out
    clear hh
    by_cases hkn : k < t.size
    · have hc := hB k hkn
      have hdrop : bs.drop k = bs[k]'(by omega) :: bs.drop (k + 1) := List.drop_eq_getElem_cons (by omega)
      have hget : bs.getD k 0 = bs[k]'(by omega) := by simp [List.getD, List.getElem?_eq_getElem (show k < bs.length by omega)]
      have hDg := HD.out _ (List.getElem_mem (show k < bs.length by omega))
      rw [hdrop] at hdec
      rw [hget] at hc
      generalize bs[k]'(by omega) = c at hc hdec hDg
      have hc256 : c.toNat < 256 := c.toNat_lt
      clear hB hdrop hget
      have hst := step_lt hacc hDg.1
      have hpw := Nat.pow_le_pow_right (show 0 < 16 by decide) (show k + 1 ≤ t.size from hkn)
      have hfull := HM.out
      have hlt : acc * 16 + vHex c < 16777216 := by omega
      have HN : Hid (acc * 16 + vHex c < 16 ^ (k + 1) ∧ worth 16 vHex bs = (bs.drop (k + 1)).foldl (fun a c => a * 16 + vHex c) (acc * 16 + vHex c)) := Lib.hid ⟨hst, hdec⟩
      have ha0 : 0 ≤ a := by omega
      have ha1 : a ≤ 16777216 := by omega
      obtain ⟨hv, hcase⟩ := hDg
      by_cases hdig : c.toNat ≤ 57
      · have hd0 : 48 ≤ c.toNat := by omega
        have hvx : vHex c = c.toNat - 48 := by unfold vHex; rw [if_pos hdig]
        have hE : Hid (a * 16 + ((c.toNat : Int) - 48) = ((acc * 16 + vHex c : Nat) : Int)) := Lib.hid (by omega)
        have i1 : a * 16 + ((c.toNat : Int) - 48) ≤ 16777216 := by omega
        have i2 : ¬ (16 : Int) ≤ (c.toNat : Int) - 48 := by omega
        clear hst hpw hfull hlt hdec hacc ha hcase hvx hv
        go_wp2
        refine ⟨⟨k + 1, acc * 16 + vHex c, a * 16 + ((c.toNat : Int) - 48), rfl, (by first | rfl | (congr 1; omega)), (by first | rfl | (congr 1; omega)), by omega, Lib.hid ⟨hE.out, HN.out.1, HN.out.2⟩⟩, by simp [intOf]; omega⟩
      · obtain ⟨h97, h122, _⟩ := hcase.resolve_left (fun h => hdig h.2)
        have hvx : vHex c = (c.toNat ||| 32) - 87 := by unfold vHex; rw [if_neg hdig]
        obtain ⟨L, hL⟩ : ∃ L : Int, ((c.toNat ||| 32 : Nat) : Int) = L := ⟨_, rfl⟩
        have HLo : Hid (∀ W, Calls Tryz.prog 72 #[.int .u8 (c.toNat : Int)] W fun e w' => e = .returned (.int .u8 L) ∧ W = w') := Lib.hid (fun W => by
          have h := lower_any (c.toNat : Int) W
          rwa [low_or _ hc256, hL] at h)
        have hL97 : 97 ≤ L := by omega
        have hL122 : L ≤ 122 := by omega
        have hE : Hid (a * 16 + (L - 97 + 10) = ((acc * 16 + vHex c : Nat) : Int)) := Lib.hid (by omega)
        have i1 : a * 16 + (L - 97 + 10) ≤ 16777216 := by omega
        have i2 : ¬ (16 : Int) ≤ L - 97 + 10 := by omega
        have i3 : ¬ c.toNat ≤ 57 := hdig
        have hn95 : ((c.toNat : Int) == 95) = false := by
          rw [beq_eq_false_iff_ne]
          intro e
          have e2 : c.toNat = 95 := by omega
          rw [e2] at hL
          simp at hL
          omega
        clear hst hpw hfull hlt hdec hacc ha hcase hvx hv hL
        go_wp2_with fail
        refine (HLo.out _).mono ?_
        rintro e w1 ⟨rfl, rfl⟩
        go_wp2_with fail
        refine (HLo.out _).mono ?_
        rintro e w1 ⟨rfl, rfl⟩
        go_wp2_with fail
        refine (HLo.out _).mono ?_
        rintro e w1 ⟨rfl, rfl⟩
        go_wp2_with fail
        refine ⟨⟨k + 1, acc * 16 + vHex c, a * 16 + (L - 97 + 10), rfl, (by first | rfl | (congr 1; omega)), (by first | rfl | (congr 1; omega)), by omega, Lib.hid ⟨hE.out, HN.out.1, HN.out.2⟩⟩, by simp [intOf]; omega⟩
    · have hkk : k = t.size := by omega
      subst hkk
      have hF : (bs.drop t.size).foldl (fun a c => a * 16 + vHex c) acc = acc := by rw [List.drop_eq_nil_of_le (by omega)]; rfl
      rw [hF] at hdec
      have hE : Hid ((worth 16 vHex bs : Int) = a) := Lib.hid (by omega)
      clear hacc ha hdec hF
      go_wp2
      go_ret2
      exact ⟨by rw [hE.out]; rfl, HBel.out⟩
theorem pu_any (B : Nat) (hB : B = 10 ∨ B = 16) (t : ByteArray) (hne : t.data.toList ≠ []) (hd : ∀ y ∈ t.data.toList, Dig B y) (hm : B ^ t.size ≤ 16777216) (w : World) :
    Calls Tryz.prog 65 #[.string t, .int .i64 (B : Int), .int .i64 32] w fun e w' => e = .returned (.tuple #[.int .u64 (worth B vHex t.data.toList : Int), .nilIface]) ∧ Below w.heap.size w w' := by
  rcases hB with rfl | rfl
  · exact pu_10 t hne hd hm w
  · exact pu_16 t hne hd hm w
end Go.Proofs.YtkebjllehegjlaaGreatDoor
